/-
  Joined texts of this claim: Um, Uoa.
-/
import Derived.Test.YtbjacclfhgnffaaGreatDoorX37
import Derived.Test.YtbjacclfhgnffaaGreatDoorX24
import Derived.Test.YtbjacclfhgnffaaGreatDoorX23
import Derived.Test.YtbjacclfhgnffaaGreatDoorX27
set_option linter.unusedVariables false
set_option linter.unusedSimpArgs false
/-
  Contracts of inSwitch, function.
-/
namespace Go.Proofs.YtbjacclfhgnffaaGreatDoor
open Go.RowKit
open Tk (T4 bstr)
open Tr (Nd Blk KidsAt)

/-- in a switch, as the program has it -/
def swF (E : Nat) (ac ex : F3) : F3 := fun s =>
  if (pk E s.L).t = [99, 97, 115, 101] then buildF (mk 19 [] 0 (pk E s.L).a) [wordF E [99, 97, 115, 101], ex, wordF E [58]] s
  else if (pk E s.L).t = [100, 101, 102, 97, 117, 108, 116] then buildF (mk 20 [] 0 (pk E s.L).a) [wordF E [100, 101, 102, 97, 117, 108, 116], wordF E [58]] s
  else ac s

set_option maxHeartbeats 16000000 in
set_option maxRecDepth 100000 in
theorem sw_case {B T E : Nat} {ex : F3} (hex : FnC B T E 29 ex) {w : World} {s : S3} (h : Ps B T E w s) (ht : (pk E s.L).t = [99, 97, 115, 101]) (hr : buildF (mk 19 [] 0 (pk E s.L).a) [wordF E [99, 97, 115, 101], ex, wordF E [58]] s ≠ .out) : Calls Tryz.prog 266 #[.pointer (some ⟨B, 0, none⟩)] w (Did B T E w (buildF (mk 19 [] 0 (pk E s.L).a) [wordF E [99, 97, 115, 101], ex, wordF E [58]] s)) := by
  obtain ⟨r, hrr⟩ : ∃ r, r = buildF (mk 19 [] 0 (pk E s.L).a) [wordF E [99, 97, 115, 101], ex, wordF E [58]] s := ⟨_, rfl⟩
  rw [← hrr] at hr ⊢
  obtain ⟨Q, hQ⟩ : ∃ Q : Ending → World → Prop, Q = Did B T E w r := ⟨_, rfl⟩
  rw [← hQ]
  have HQ := Lib.hid hQ
  have HR := Lib.hid hr
  have hB := h.lt
  clear hQ hr
  have HP := Lib.hid h
  have hpk := peek_any h
  unfold tokV at hpk
  obtain ⟨t, ht'⟩ : ∃ t, t = pk E s.L := ⟨_, rfl⟩
  obtain ⟨x, hxx⟩ : ∃ x, x = bstr t.t := ⟨_, rfl⟩
  rw [← ht', ← hxx] at hpk
  rw [← ht'] at ht
  (try rw [← ht'] at hrr)
  have q0 := txt_yes (l := [99, 97, 115, 101]) hxx ht
  have Hrr : Hid (r = _) := hrr
  clear ht ht' hxx hrr h
  go_enter Tryz.func266, Tryz.ntmps266
  go_wp2_with (go_at_call 59; refine hpk.mono ?_; rintro e w1 ⟨rfl, hb⟩)
  have hp1 := HP.out.below hb
  have hx1 := Ext.below hb hB
  have HNd := Lib.hid (node_far (t := 82) (cs := #[.int .i64 t.k, .string x, .int .i64 t.v, .int .i64 t.a]) hp1)
  have HX6 := Lib.hid (hx1.alloc hB (.cells #[.int .i64 t.k, .string x, .int .i64 t.v, .int .i64 t.a] 82))
  have HP6 := Lib.hid (hp1.alloc (.cells #[.int .i64 t.k, .string x, .int .i64 t.v, .int .i64 t.a] 82))
  clear hb hp1 hx1 hpk HP
  generalize w1.alloc (.cells #[.int .i64 t.k, .string x, .int .i64 t.v, .int .i64 t.a] 82) = W6 at *
  generalize w1.heap.size = g at *
  have HX0 : Hid (Ext B w W6.drew) := HX6.out.drew
  have N0 : Hid (Now B T E s W6.drew W6.drew) := Now.refl HP6.out.drew
  have S1 : Hid (∀ W, Ext B W6.drew W → W.cell? ⟨g, 3, none⟩ = some (.int .i64 t.a)) := fun W hW => (tok_box (HNd.out W ((Ext.refl B W6).drew.trans hW))).2.2.2
  have S0 := Lib.hid (S1.out _ (Ext.refl _ _))
  clear HNd HX6 HP6
  go_wp2
  have HW0 : Hid (∀ W, Now B T E s W6.drew W → Calls Tryz.prog 61 #[.pointer (some ⟨B, 0, none⟩), .string ⟨#[99, 97, 115, 101]⟩] W fun e w' => ∃ g1 g2, e = .returned (.func (.func 110) #[] #[.pointer (some ⟨g1, 0, none⟩), .pointer (some ⟨g2, 0, none⟩)]) ∧ Now B T E s W6.drew w' ∧ Ext B W w' ∧ StepV B T E w' (.func (.func 110) #[] #[.pointer (some ⟨g1, 0, none⟩), .pointer (some ⟨g2, 0, none⟩)]) (wordF E [99, 97, 115, 101])) := fun W hW => word_now hW ⟨#[99, 97, 115, 101]⟩
  have HW1 : Hid (∀ W, Now B T E s W6.drew W → Calls Tryz.prog 61 #[.pointer (some ⟨B, 0, none⟩), .string ⟨#[58]⟩] W fun e w' => ∃ g1 g2, e = .returned (.func (.func 110) #[] #[.pointer (some ⟨g1, 0, none⟩), .pointer (some ⟨g2, 0, none⟩)]) ∧ Now B T E s W6.drew w' ∧ Ext B W w' ∧ StepV B T E w' (.func (.func 110) #[] #[.pointer (some ⟨g1, 0, none⟩), .pointer (some ⟨g2, 0, none⟩)]) (wordF E [58])) := fun W hW => word_now hW ⟨#[58]⟩
  have HN : Hid (∀ W v0 v2, Now B T E s W6.drew W → StepV B T E W v0 (wordF E [99, 97, 115, 101]) → StepV B T E W v2 (wordF E [58]) → Calls Tryz.prog 76 #[.pointer (some ⟨B, 2, none⟩), .agg #[.int .i64 19, .string ⟨#[]⟩, .int .i64 0, .int .i64 0, .slice none 0 0, .int .i64 t.a], .slice (some ⟨W.heap.size, 0, none⟩) 3 3] (W.alloc (.cells #[v0, .func (.func 29) #[.pointer (some ⟨B, 0, none⟩)] #[], v2] 57)) (Ends B T E W6.drew r)) := fun W v0 v2 hW h0 h2 => by
      have h := build_now hW [v0, .func (.func 29) #[.pointer (some ⟨B, 0, none⟩)] #[], v2] [wordF E [99, 97, 115, 101], ex, wordF E [58]] rfl (by simp) (step3 (h0) (stepFn hex ent21 W) (h2)) (mk 19 [] 0 t.a) rfl (by rw [← Hrr.out]; exact HR.out) 57
      rw [← Hrr.out] at h
      exact h
  go_region_held3 (fun W => W.cell? ⟨g, 3, none⟩ = some (.int .i64 t.a))
    (first | exact S0.out | exact S1.out _ hn0.1 | exact S1.out _ hn1.1 | exact S1.out _ (hn1.alloc _).1 | exact S1.out _ hx9)
    (first | (go_at_call 61; first | ((with_reducible refine (HW0.out _ N0.out).mono ?_); rintro e w0_ ⟨q00, q01, rfl, hn0, hx0, hs0⟩) | ((with_reducible refine (HW1.out _ hn0).mono ?_); rintro e w1_ ⟨q10, q11, rfl, hn1, hx1, hs1⟩)) | (go_at_call 76; refine (HN.out _ _ _ hn1 (StepV.ext hs0 hx1) hs1).mono ?_; rintro e w9 ⟨v, rfl, hd, hx9⟩))
  all_goals
    have HD := Lib.hid (did_ext hd HX0.out)
    clear hd hx9
    go_wp2
    (try go_ret)
    rw [HQ.out]
    exact HD.out

set_option maxHeartbeats 16000000 in
set_option maxRecDepth 100000 in
theorem sw_default {B T E : Nat} {w : World} {s : S3} (h : Ps B T E w s) (ht : (pk E s.L).t = [100, 101, 102, 97, 117, 108, 116]) (hr : buildF (mk 20 [] 0 (pk E s.L).a) [wordF E [100, 101, 102, 97, 117, 108, 116], wordF E [58]] s ≠ .out) : Calls Tryz.prog 266 #[.pointer (some ⟨B, 0, none⟩)] w (Did B T E w (buildF (mk 20 [] 0 (pk E s.L).a) [wordF E [100, 101, 102, 97, 117, 108, 116], wordF E [58]] s)) := by
  obtain ⟨r, hrr⟩ : ∃ r, r = buildF (mk 20 [] 0 (pk E s.L).a) [wordF E [100, 101, 102, 97, 117, 108, 116], wordF E [58]] s := ⟨_, rfl⟩
  rw [← hrr] at hr ⊢
  obtain ⟨Q, hQ⟩ : ∃ Q : Ending → World → Prop, Q = Did B T E w r := ⟨_, rfl⟩
  rw [← hQ]
  have HQ := Lib.hid hQ
  have HR := Lib.hid hr
  have hB := h.lt
  clear hQ hr
  have HP := Lib.hid h
  have hpk := peek_any h
  unfold tokV at hpk
  obtain ⟨t, ht'⟩ : ∃ t, t = pk E s.L := ⟨_, rfl⟩
  obtain ⟨x, hxx⟩ : ∃ x, x = bstr t.t := ⟨_, rfl⟩
  rw [← ht', ← hxx] at hpk
  rw [← ht'] at ht
  (try rw [← ht'] at hrr)
  have q0 := txt_no (l := [99, 97, 115, 101]) hxx (by rw [ht]; decide)
  have q1 := txt_yes (l := [100, 101, 102, 97, 117, 108, 116]) hxx ht
  have Hrr : Hid (r = _) := hrr
  clear ht ht' hxx hrr h
  go_enter Tryz.func266, Tryz.ntmps266
  go_wp2_with (go_at_call 59; refine hpk.mono ?_; rintro e w1 ⟨rfl, hb⟩)
  have hp1 := HP.out.below hb
  have hx1 := Ext.below hb hB
  have HNd := Lib.hid (node_far (t := 82) (cs := #[.int .i64 t.k, .string x, .int .i64 t.v, .int .i64 t.a]) hp1)
  have HX6 := Lib.hid (hx1.alloc hB (.cells #[.int .i64 t.k, .string x, .int .i64 t.v, .int .i64 t.a] 82))
  have HP6 := Lib.hid (hp1.alloc (.cells #[.int .i64 t.k, .string x, .int .i64 t.v, .int .i64 t.a] 82))
  clear hb hp1 hx1 hpk HP
  generalize w1.alloc (.cells #[.int .i64 t.k, .string x, .int .i64 t.v, .int .i64 t.a] 82) = W6 at *
  generalize w1.heap.size = g at *
  have HX0 : Hid (Ext B w W6.drew) := HX6.out.drew
  have N0 : Hid (Now B T E s W6.drew W6.drew) := Now.refl HP6.out.drew
  have S1 : Hid (∀ W, Ext B W6.drew W → W.cell? ⟨g, 3, none⟩ = some (.int .i64 t.a)) := fun W hW => (tok_box (HNd.out W ((Ext.refl B W6).drew.trans hW))).2.2.2
  have S0 := Lib.hid (S1.out _ (Ext.refl _ _))
  clear HNd HX6 HP6
  go_wp2
  have HW0 : Hid (∀ W, Now B T E s W6.drew W → Calls Tryz.prog 61 #[.pointer (some ⟨B, 0, none⟩), .string ⟨#[100, 101, 102, 97, 117, 108, 116]⟩] W fun e w' => ∃ g1 g2, e = .returned (.func (.func 110) #[] #[.pointer (some ⟨g1, 0, none⟩), .pointer (some ⟨g2, 0, none⟩)]) ∧ Now B T E s W6.drew w' ∧ Ext B W w' ∧ StepV B T E w' (.func (.func 110) #[] #[.pointer (some ⟨g1, 0, none⟩), .pointer (some ⟨g2, 0, none⟩)]) (wordF E [100, 101, 102, 97, 117, 108, 116])) := fun W hW => word_now hW ⟨#[100, 101, 102, 97, 117, 108, 116]⟩
  have HW1 : Hid (∀ W, Now B T E s W6.drew W → Calls Tryz.prog 61 #[.pointer (some ⟨B, 0, none⟩), .string ⟨#[58]⟩] W fun e w' => ∃ g1 g2, e = .returned (.func (.func 110) #[] #[.pointer (some ⟨g1, 0, none⟩), .pointer (some ⟨g2, 0, none⟩)]) ∧ Now B T E s W6.drew w' ∧ Ext B W w' ∧ StepV B T E w' (.func (.func 110) #[] #[.pointer (some ⟨g1, 0, none⟩), .pointer (some ⟨g2, 0, none⟩)]) (wordF E [58])) := fun W hW => word_now hW ⟨#[58]⟩
  have HN : Hid (∀ W v0 v1, Now B T E s W6.drew W → StepV B T E W v0 (wordF E [100, 101, 102, 97, 117, 108, 116]) → StepV B T E W v1 (wordF E [58]) → Calls Tryz.prog 76 #[.pointer (some ⟨B, 2, none⟩), .agg #[.int .i64 20, .string ⟨#[]⟩, .int .i64 0, .int .i64 0, .slice none 0 0, .int .i64 t.a], .slice (some ⟨W.heap.size, 0, none⟩) 2 2] (W.alloc (.cells #[v0, v1] 57)) (Ends B T E W6.drew r)) := fun W v0 v1 hW h0 h1 => by
      have h := build_now hW [v0, v1] [wordF E [100, 101, 102, 97, 117, 108, 116], wordF E [58]] rfl (by simp) (step2 (h0) (h1)) (mk 20 [] 0 t.a) rfl (by rw [← Hrr.out]; exact HR.out) 57
      rw [← Hrr.out] at h
      exact h
  go_region_held3 (fun W => W.cell? ⟨g, 3, none⟩ = some (.int .i64 t.a))
    (first | exact S0.out | exact S1.out _ hn0.1 | exact S1.out _ hn1.1 | exact S1.out _ (hn1.alloc _).1 | exact S1.out _ hx9)
    (first | (go_at_call 61; first | ((with_reducible refine (HW0.out _ N0.out).mono ?_); rintro e w0_ ⟨q00, q01, rfl, hn0, hx0, hs0⟩) | ((with_reducible refine (HW1.out _ hn0).mono ?_); rintro e w1_ ⟨q10, q11, rfl, hn1, hx1, hs1⟩)) | (go_at_call 76; refine (HN.out _ _ _ hn1 (StepV.ext hs0 hx1) hs1).mono ?_; rintro e w9 ⟨v, rfl, hd, hx9⟩))
  all_goals
    have HD := Lib.hid (did_ext hd HX0.out)
    clear hd hx9
    go_wp2
    (try go_ret)
    rw [HQ.out]
    exact HD.out

set_option maxHeartbeats 16000000 in
set_option maxRecDepth 100000 in
theorem sw_action {B T E : Nat} {ac : F3} (hac : FnC B T E 233 ac) {w : World} {s : S3} (h : Ps B T E w s) (hno : ∀ l, l ∈ [[99, 97, 115, 101], [100, 101, 102, 97, 117, 108, 116]] → (pk E s.L).t ≠ l) (hr : ac s ≠ .out) : Calls Tryz.prog 266 #[.pointer (some ⟨B, 0, none⟩)] w (Did B T E w (ac s)) := by
  obtain ⟨r, hrr⟩ : ∃ r, r = ac s := ⟨_, rfl⟩
  rw [← hrr] at hr ⊢
  obtain ⟨Q, hQ⟩ : ∃ Q : Ending → World → Prop, Q = Did B T E w r := ⟨_, rfl⟩
  rw [← hQ]
  have HQ := Lib.hid hQ
  have HR := Lib.hid hr
  have hB := h.lt
  clear hQ hr
  have HP := Lib.hid h
  have hpk := peek_any h
  unfold tokV at hpk
  obtain ⟨t, ht'⟩ : ∃ t, t = pk E s.L := ⟨_, rfl⟩
  obtain ⟨x, hxx⟩ : ∃ x, x = bstr t.t := ⟨_, rfl⟩
  rw [← ht', ← hxx] at hpk
  rw [← ht'] at hno
  (try rw [← ht'] at hrr)
  have q0 := txt_no (l := [99, 97, 115, 101]) hxx (hno _ (by simp))
  have q1 := txt_no (l := [100, 101, 102, 97, 117, 108, 116]) hxx (hno _ (by simp))
  have Hrr : Hid (r = _) := hrr
  clear hno ht' hxx hrr h
  go_enter Tryz.func266, Tryz.ntmps266
  go_wp2_with (go_at_call 59; refine hpk.mono ?_; rintro e w1 ⟨rfl, hb⟩)
  have hp1 := HP.out.below hb
  have hx1 := Ext.below hb hB
  have HNd := Lib.hid (node_far (t := 82) (cs := #[.int .i64 t.k, .string x, .int .i64 t.v, .int .i64 t.a]) hp1)
  have HX6 := Lib.hid (hx1.alloc hB (.cells #[.int .i64 t.k, .string x, .int .i64 t.v, .int .i64 t.a] 82))
  have HP6 := Lib.hid (hp1.alloc (.cells #[.int .i64 t.k, .string x, .int .i64 t.v, .int .i64 t.a] 82))
  clear hb hp1 hx1 hpk HP
  generalize w1.alloc (.cells #[.int .i64 t.k, .string x, .int .i64 t.v, .int .i64 t.a] 82) = W6 at *
  generalize w1.heap.size = g at *
  have hcall := hac W6 s HP6.out (by rw [← Hrr.out]; exact HR.out)
  rw [← Hrr.out] at hcall
  clear HNd
  go_wp2_with (go_at_call 233; refine hcall.mono ?_)
  intro e w2 hd
  obtain ⟨v, rfl, hd⟩ := did_ret hd HR.out
  have HD := Lib.hid (did_ext hd HX6.out)
  clear hd hcall
  go_wp2
  (try go_ret)
  rw [HQ.out]
  exact HD.out

theorem inSwitch_fn {B T E : Nat} {ac ex : F3} (hac : FnC B T E 233 ac) (hex : FnC B T E 29 ex) : FnC B T E 266 (swF E ac ex) := fun w s h hr => by
  unfold swF at hr ⊢
  by_cases h1 : (pk E s.L).t = [99, 97, 115, 101]
  · rw [if_pos h1] at hr ⊢; exact sw_case hex h h1 hr
  rw [if_neg h1] at hr ⊢
  by_cases h2 : (pk E s.L).t = [100, 101, 102, 97, 117, 108, 116]
  · rw [if_pos h2] at hr ⊢; exact sw_default h h2 hr
  rw [if_neg h2] at hr ⊢
  refine sw_action hac h ?_ hr
  intro l hl e
  rw [e] at h1 h2
  simp only [List.mem_cons, List.not_mem_nil, or_false] at hl
  rcases hl with hl | hl <;> subst hl <;> simp_all

set_option maxHeartbeats 16000000 in
set_option maxRecDepth 100000 in
theorem function_any {B T E n : Nat} {bl : F3} (hpa : FnC B T E 205 (paramF E)) (hbl : FnC B T E 206 bl) {a0 a2 a3 a5 : Int} {a1 : ByteArray} {x : Mn} (hv : (.agg #[.int .i64 a0, .string a1, .int .i64 a2, .int .i64 a3, .slice none 0 0, .int .i64 a5] : Value) = nodeV x) (hc : x.c = []) {w : World} {s : S3} (h : Ps B T E w s) (hr : buildF { x with k := 3 } [listF E [40] [41] (fun _ => paramF E) n, bl] s ≠ .out) :
    Calls Tryz.prog 169 #[.pointer (some ⟨B, 0, none⟩), .agg #[.int .i64 a0, .string a1, .int .i64 a2, .int .i64 a3, .slice none 0 0, .int .i64 a5]] w (Did B T E w (buildF { x with k := 3 } [listF E [40] [41] (fun _ => paramF E) n, bl] s)) := by
  have HP0 := Lib.hid h
  obtain ⟨r, hrr⟩ : ∃ r, r = buildF { x with k := 3 } [listF E [40] [41] (fun _ => paramF E) n, bl] s := ⟨_, rfl⟩
  rw [← hrr] at hr ⊢
  obtain ⟨Q, hQ⟩ : ∃ Q : Ending → World → Prop, Q = Did B T E w r := ⟨_, rfl⟩
  rw [← hQ]
  have HQ := Lib.hid hQ
  have HR := Lib.hid hr
  have hB := h.lt
  clear hQ hr
  have Hrr : Hid (r = buildF { x with k := 3 } [listF E [40] [41] (fun _ => paramF E) n, bl] s) := hrr
  have HA := Lib.hid (node_k hv hc 3)
  have HC := Lib.hid hc
  have HNd := Lib.hid (node_far (t := 36) (cs := #[.int .i64 3, .string a1, .int .i64 a2, .int .i64 a3, .slice none 0 0, .int .i64 a5]) h)
  have HX6 := Lib.hid ((Ext.refl B w).alloc hB (.cells #[.int .i64 3, .string a1, .int .i64 a2, .int .i64 a3, .slice none 0 0, .int .i64 a5] 36))
  have HP6 := Lib.hid (h.alloc (.cells #[.int .i64 3, .string a1, .int .i64 a2, .int .i64 a3, .slice none 0 0, .int .i64 a5] 36))
  clear hv hc HP0 hrr h
  go_enter Tryz.func169, Tryz.ntmps169
  go_wp2
  generalize w.alloc (.cells #[.int .i64 3, .string a1, .int .i64 a2, .int .i64 a3, .slice none 0 0, .int .i64 a5] 36) = W6 at *
  generalize w.heap.size = g at *
  have HX0 : Hid (Ext B w W6.drew) := HX6.out.drew
  have N0 : Hid (Now B T E s W6.drew W6.drew) := Now.refl HP6.out.drew
  have S1 : Hid (∀ W, Ext B W6.drew W → W.cell? ⟨g, 0, none⟩ = some (.int .i64 3) ∧ W.cell? ⟨g, 1, none⟩ = some (.string a1) ∧ W.cell? ⟨g, 2, none⟩ = some (.int .i64 a2) ∧ W.cell? ⟨g, 3, none⟩ = some (.int .i64 a3) ∧ W.cell? ⟨g, 4, none⟩ = some (.slice none 0 0) ∧ W.cell? ⟨g, 5, none⟩ = some (.int .i64 a5)) := fun W hW => (box6 (HNd.out W ((Ext.refl B W6).drew.trans hW))).1
  have S0 := Lib.hid (S1.out _ (Ext.refl _ _))
  clear HNd HX6 HP6
  have HW0 : Hid (∀ W, Now B T E s W6.drew W → Calls Tryz.prog 204 #[.pointer (some ⟨B, 0, none⟩), .string ⟨#[40]⟩, .func (.func 205) #[.pointer (some ⟨B, 0, none⟩)] #[], .string ⟨#[41]⟩] W fun e w' => ∃ g1 g2 g3 g4, e = .returned (.func (.func 231) #[] #[.pointer (some ⟨g1, 0, none⟩), .pointer (some ⟨g2, 0, none⟩), .pointer (some ⟨g3, 0, none⟩), .pointer (some ⟨g4, 0, none⟩)]) ∧ Now B T E s W6.drew w' ∧ Ext B W w' ∧ StepV B T E w' (.func (.func 231) #[] #[.pointer (some ⟨g1, 0, none⟩), .pointer (some ⟨g2, 0, none⟩), .pointer (some ⟨g3, 0, none⟩), .pointer (some ⟨g4, 0, none⟩)]) (listF E [40] [41] (fun _ => paramF E) n)) := fun W hW => listg_now hW ⟨#[40]⟩ ⟨#[41]⟩ rfl rfl (fun _ => paramF E) 205 #[.pointer (some ⟨B, 0, none⟩)] #[] ent141 (fun m hm W1 s1 hx hp hr => hpa W1 s1 hp hr)
  have HN : Hid (∀ W v0, Now B T E s W6.drew W → StepV B T E W v0 (listF E [40] [41] (fun _ => paramF E) n) → Calls Tryz.prog 76 #[.pointer (some ⟨B, 2, none⟩), .agg #[.int .i64 3, .string a1, .int .i64 a2, .int .i64 a3, .slice none 0 0, .int .i64 a5], .slice (some ⟨W.heap.size, 0, none⟩) 2 2] (W.alloc (.cells #[v0, .func (.func 206) #[.pointer (some ⟨B, 0, none⟩)] #[]] 57)) (Ends B T E W6.drew r)) := fun W v0 hW h0 => by
      have h := build_now hW [v0, .func (.func 206) #[.pointer (some ⟨B, 0, none⟩)] #[]] [listF E [40] [41] (fun _ => paramF E) n, bl] rfl (by simp) (step2 (h0) (stepFn hbl ent142 W)) ({ x with k := 3 }) HC.out (by rw [← Hrr.out]; exact HR.out) 57
      rw [← Hrr.out] at h
      rw [HA.out] at h
      exact h
  go_region_held3 (fun W => W.cell? ⟨g, 0, none⟩ = some (.int .i64 3) ∧ W.cell? ⟨g, 1, none⟩ = some (.string a1) ∧ W.cell? ⟨g, 2, none⟩ = some (.int .i64 a2) ∧ W.cell? ⟨g, 3, none⟩ = some (.int .i64 a3) ∧ W.cell? ⟨g, 4, none⟩ = some (.slice none 0 0) ∧ W.cell? ⟨g, 5, none⟩ = some (.int .i64 a5))
    (first | exact S0.out | exact S1.out _ hn0.1 | exact S1.out _ (hn0.alloc _).1 | exact S1.out _ hx9)
    (first | (go_at_call 204; first | ((with_reducible refine (HW0.out _ N0.out).mono ?_); rintro e w0_ ⟨q00, q01, q02, q03, rfl, hn0, hx0, hs0⟩)) | (go_at_call 76; refine (HN.out _ _ hn0 hs0).mono ?_; rintro e w9 ⟨v, rfl, hd, hx9⟩))
  all_goals
    have HD := Lib.hid (did_ext hd HX0.out)
    clear hd hx9
    go_wp2
    (try go_ret)
    rw [HQ.out]
    exact HD.out

end Go.Proofs.YtbjacclfhgnffaaGreatDoor
/-
  Contract of global.
-/
namespace Go.Proofs.YtbjacclfhgnffaaGreatDoor
open Go.RowKit
open Tk (T4 bstr)
open Tr (Nd Blk KidsAt)

set_option maxHeartbeats 16000000 in
set_option maxRecDepth 100000 in
theorem glob_rest {B T E n : Nat} {fnf : Mn → F3} {ex : F3} {fam : Nat → F3} (hfn : NdC B T E 169 fnf) (har : NdC B T E 171 (fun x => arrayF E x fam n)) (hin : FnC B T E 172 (initialF E ex)) {w : World} {s : S3} (h : Ps B T E w s) (ht : (pk E s.L).t ≠ [118, 111, 105, 100]) (hr : globF E n fnf ex fam s ≠ .out) :
    Calls Tryz.prog 122 #[.pointer (some ⟨B, 0, none⟩)] w (Did B T E w (globF E n fnf ex fam s)) := by
  obtain ⟨r, hrr⟩ : ∃ r, r = globF E n fnf ex fam s := ⟨_, rfl⟩
  rw [← hrr] at hr ⊢
  obtain ⟨Q, hQ⟩ : ∃ Q : Ending → World → Prop, Q = Did B T E w r := ⟨_, rfl⟩
  rw [← hQ]
  have HQ := Lib.hid hQ
  have HR := Lib.hid hr
  have hB := h.lt
  clear hQ hr
  have htk := took_no h ⟨#[118, 111, 105, 100]⟩ rfl ht
  have Hrr0 : Hid (r = (declF E s).bind fun s1 x => if (pk E s1.L).t = [40] then fnf x s1 else if (pk E s1.L).t = [91] ∧ x.n = 1 then arrayF E x fam n s1 else buildF { x with k := 2 } [initialF E ex, wordF E [59]] s1) := by
    show r = _
    rw [hrr]; unfold globF; rw [if_neg ht]
  have HFn := Lib.hid hfn
  have HAr := Lib.hid har
  have HIn := Lib.hid hin
  clear hrr h ht hfn har hin
  go_enter Tryz.func122, Tryz.ntmps122
  go_wp2_with (go_at_call 111; refine htk.mono ?_; rintro e w0 ⟨rfl, hx1, hp1⟩)
  have hnm := declared_any hp1
  have HX1 := Lib.hid hx1
  have HP1 := Lib.hid hp1
  clear hx1 hp1 htk
  go_wp2_with (go_at_call 170; refine hnm.mono ?_)
  rintro e w1 ⟨a0, a1, a2, a3, a5, v2, s1, rfl, hM, hd⟩
  have HM := Lib.hid hM
  have hB2 : B < w1.heap.size := (hM.of HP1.out).lt
  have HX2 := Lib.hid (HX1.out.trans hM.ext)
  clear hM hnm
  cases hf : declF E s with
  | out => rw [hf] at hd; exact hd.elim
  | bad c1 b1 =>
    rw [hf] at hd
    obtain rfl : v2 = errV c1 b1 := hd
    have HRb : Hid (r = .bad c1 b1) := by have h := Hrr0.out; rw [hf] at h; exact h
    clear hf
    unfold errV
    go_wp2
    (try go_ret)
    rw [HQ.out, HRb.out]
    exact ⟨rfl, HX2.out.alloc hB _⟩
  | ok s2 x =>
    rw [hf] at hd
    obtain ⟨hv, rfl, rfl, hc⟩ := hd
    have Hrr1 : Hid (r = if (pk E s1.L).t = [40] then fnf x s1 else if (pk E s1.L).t = [91] ∧ x.n = 1 then arrayF E x fam n s1 else buildF { x with k := 2 } [initialF E ex, wordF E [59]] s1) := by have h := Hrr0.out; rw [hf] at h; exact h
    have hp1 := HM.out.of HP1.out
    have Hv := Lib.hid hv
    have Hc := Lib.hid hc
    have HP2 := Lib.hid hp1
    have hp2 := hp1.alloc (.cells #[.int .i64 a0, .string a1, .int .i64 a2, .int .i64 a3, .slice none 0 0, .int .i64 a5] 36)
    have HX6 := Lib.hid (HX2.out.alloc hB (.cells #[.int .i64 a0, .string a1, .int .i64 a2, .int .i64 a3, .slice none 0 0, .int .i64 a5] 36))
    have hxn := node_n hv
    clear hv hc hf HM HX1 HP1 Hrr0
    by_cases h4 : (pk E s1.L).t = [40]
    · have hse := sees_yesb hp2 ⟨#[40]⟩ rfl h4
      have Hrr : Hid (r = fnf x s1) := by have h := Hrr1.out; rw [if_pos h4] at h; exact h
      clear Hrr1 h4 hxn
      go_wp2_with (first | (go_at_call 161; refine hse.mono ?_; rintro e w3 ⟨rfl, hb3⟩; obtain ⟨⟨c0, c1, c2, c3, c4, c5⟩, lb⟩ := box6 ((Blk.new w1 36 #[.int .i64 a0, .string a1, .int .i64 a2, .int .i64 a3, .slice none 0 0, .int .i64 a5]).below hb3 (by simp))) | (go_at_call 169; refine (HFn.out a0 a1 a2 a3 a5 x Hv.out Hc.out _ s1 (hp2.below hb3) (by rw [← Hrr.out]; exact HR.out)).mono ?_))
      intro e w4 hd
      rw [← Hrr.out] at hd
      obtain ⟨v, rfl, hd⟩ := did_ret hd HR.out
      have HD := Lib.hid (did_ext hd (HX6.out.trans (Ext.below hb3 hp2.lt)))
      clear hd hse c0 c1 c2 c3 c4 c5 hb3 lb hp2 hp1
      go_wp2
      (try go_ret)
      rw [HQ.out]
      exact HD.out
    have Hrr2 : Hid (r = if (pk E s1.L).t = [91] ∧ x.n = 1 then arrayF E x fam n s1 else buildF { x with k := 2 } [initialF E ex, wordF E [59]] s1) := by have h := Hrr1.out; rw [if_neg h4] at h; exact h
    have hse := sees_nob hp2 ⟨#[40]⟩ rfl h4
    clear Hrr1 h4
    by_cases h9 : (pk E s1.L).t = [91]
    · by_cases hn1 : x.n = 1
      · have Hrr : Hid (r = arrayF E x fam n s1) := by have h := Hrr2.out; rw [if_pos ⟨h9, hn1⟩] at h; exact h
        obtain rfl : a2 = 1 := by rw [← hxn, hn1]
        have H9 := Lib.hid h9
        clear Hrr2 h9 hn1 hxn
        go_wp2_with (first | (go_at_call 161; first | ((with_reducible refine hse.mono ?_); rintro e w3 ⟨rfl, hb3⟩; have lb3 : w1.heap.size < w3.heap.size := (by have := hb3.size; simp at this; omega)) | ((with_reducible refine (sees_yesb (hp2.below hb3) ⟨#[91]⟩ rfl H9.out).mono ?_); rintro e w4 ⟨rfl, hb4⟩; obtain ⟨⟨c0, c1, c2, c3, c4, c5⟩, lb⟩ := box6 (((Blk.new w1 36 #[.int .i64 a0, .string a1, .int .i64 1, .int .i64 a3, .slice none 0 0, .int .i64 a5]).below hb3 (by simp)).below hb4 lb3))))
        refine (HAr.out a0 a1 1 a3 a5 x Hv.out Hc.out _ s1 ((hp2.below hb3).below hb4) (by show arrayF E x fam n s1 ≠ .out; rw [← Hrr.out]; exact HR.out)).mono ?_
        intro e w5 hd
        change Did B T E w4 (arrayF E x fam n s1) e w5 at hd
        rw [← Hrr.out] at hd
        obtain ⟨v, rfl, hd⟩ := did_ret hd HR.out
        have HD := Lib.hid (did_ext hd ((HX6.out.trans (Ext.below hb3 hp2.lt)).trans (Ext.below hb4 (hp2.below hb3).lt)))
        clear hd hse c0 c1 c2 c3 c4 c5 hb3 hb4 lb lb3 hp2 hp1
        go_wp2
        (try go_ret)
        rw [HQ.out]
        exact HD.out
      · have Hrr : Hid (r = buildF { x with k := 2 } [initialF E ex, wordF E [59]] s1) := by have h := Hrr2.out; rw [if_neg (fun h => hn1 h.2)] at h; exact h
        have ha2 : a2 ≠ 1 := by rw [← hxn]; exact hn1
        have q2 : (a2 == 1) = false := by simpa using ha2
        have H9 := Lib.hid h9
        clear Hrr2 h9 hn1 hxn ha2
        go_upto_region 14 with (first | (go_at_call 161; first | ((with_reducible refine hse.mono ?_); rintro e w3 ⟨rfl, hb3⟩; have lb3 : w1.heap.size < w3.heap.size := (by have := hb3.size; simp at this; omega)) | ((with_reducible refine (sees_yesb (hp2.below hb3) ⟨#[91]⟩ rfl H9.out).mono ?_); rintro e w4 ⟨rfl, hb4⟩; obtain ⟨c0, c1, c2, c3, c4, c5, d0, -, -, -, -, -, lb⟩ := box6f (((Blk.new w1 36 #[.int .i64 a0, .string a1, .int .i64 a2, .int .i64 a3, .slice none 0 0, .int .i64 a5]).below hb3 (by simp)).below hb4 lb3))))
        have b14 : Below w1.heap.size w1 w4 := (((Below.refl _ _).alloc (Nat.le_refl _) _).trans (hb3.mono (by simp))).trans (hb4.mono (by omega))
        have hk4 : Blk w4 w1.heap.size 36 #[.int .i64 a0, .string a1, .int .i64 a2, .int .i64 a3, .slice none 0 0, .int .i64 a5] := ((Blk.new w1 36 #[.int .i64 a0, .string a1, .int .i64 a2, .int .i64 a3, .slice none 0 0, .int .i64 a5]).below hb3 (by simp)).below hb4 lb3
        have hn4 : ¬ Own B w4 w1.heap.size := fun ho => not_own_ge HP2.out (Nat.le_refl _) ((own_same (b14.block B hB2) _).1 ho)
        have hM4 := (Mv.below HP2.out b14).set HP2.out (o := 0) (Nat.le_refl _) hn4 (.int .i64 2)
        have hk6 : Blk (w4.setCell ⟨w1.heap.size, 0, none⟩ (.int .i64 2)) w1.heap.size 36 #[.int .i64 2, .string a1, .int .i64 a2, .int .i64 a3, .slice none 0 0, .int .i64 a5] := by have h := hk4.set_ 0 (.int .i64 2); simpa using h
        have hn6 : ¬ Own B (w4.setCell ⟨w1.heap.size, 0, none⟩ (.int .i64 2)) w1.heap.size := fun ho => hn4 ((own_setCell hn4 _ _).1 ho)
        have HNd : Hid (∀ W, Ext B (w4.setCell ⟨w1.heap.size, 0, none⟩ (.int .i64 2)) W → Blk W w1.heap.size 36 #[.int .i64 2, .string a1, .int .i64 a2, .int .i64 a3, .slice none 0 0, .int .i64 a5]) := fun W hW => hW.blk hk6 hn6
        have HX7 := Lib.hid (HX2.out.trans hM4.ext)
        have HP7 := Lib.hid (hM4.of HP2.out)
        have HA := Lib.hid (node_k Hv.out Hc.out 2)
        clear b14 hk4 hn4 hM4 hk6 hn6 hb3 hb4 hse c0 c1 c2 c3 c4 c5 d0 lb lb3 hp1 hp2 HX6 HP2 HX2
        generalize w4.setCell ⟨w1.heap.size, 0, none⟩ (.int .i64 2) = W6 at *
        generalize w1.heap.size = g at *
        have HX0 : Hid (Ext B w W6.drew) := HX7.out.drew
        have N0 : Hid (Now B T E s1 W6.drew W6.drew) := Now.refl HP7.out.drew
        have S1 : Hid (∀ W, Ext B W6.drew W → W.cell? ⟨g, 0, none⟩ = some (.int .i64 2) ∧ W.cell? ⟨g, 1, none⟩ = some (.string a1) ∧ W.cell? ⟨g, 2, none⟩ = some (.int .i64 a2) ∧ W.cell? ⟨g, 3, none⟩ = some (.int .i64 a3) ∧ W.cell? ⟨g, 4, none⟩ = some (.slice none 0 0) ∧ W.cell? ⟨g, 5, none⟩ = some (.int .i64 a5)) := fun W hW => (box6 (HNd.out W ((Ext.refl B W6).drew.trans hW))).1
        have S0 := Lib.hid (S1.out _ (Ext.refl _ _))
        clear HNd HX7 HP7
        go_wp2
        have HW0 : Hid (∀ W, Now B T E s1 W6.drew W → Calls Tryz.prog 61 #[.pointer (some ⟨B, 0, none⟩), .string ⟨#[59]⟩] W fun e w' => ∃ g1 g2, e = .returned (.func (.func 110) #[] #[.pointer (some ⟨g1, 0, none⟩), .pointer (some ⟨g2, 0, none⟩)]) ∧ Now B T E s1 W6.drew w' ∧ Ext B W w' ∧ StepV B T E w' (.func (.func 110) #[] #[.pointer (some ⟨g1, 0, none⟩), .pointer (some ⟨g2, 0, none⟩)]) (wordF E [59])) := fun W hW => word_now hW ⟨#[59]⟩
        have HN : Hid (∀ W v1, Now B T E s1 W6.drew W → StepV B T E W v1 (wordF E [59]) → Calls Tryz.prog 76 #[.pointer (some ⟨B, 2, none⟩), .agg #[.int .i64 2, .string a1, .int .i64 a2, .int .i64 a3, .slice none 0 0, .int .i64 a5], .slice (some ⟨W.heap.size, 0, none⟩) 2 2] (W.alloc (.cells #[.func (.func 172) #[.pointer (some ⟨B, 0, none⟩)] #[], v1] 57)) (Ends B T E W6.drew r)) := fun W v1 hW h1 => by
            have h := build_now hW [.func (.func 172) #[.pointer (some ⟨B, 0, none⟩)] #[], v1] [initialF E ex, wordF E [59]] rfl (by simp) (step2 (stepFn HIn.out ent115 W) (h1)) ({ x with k := 2 }) Hc.out (by rw [← Hrr.out]; exact HR.out) 57
            rw [← Hrr.out] at h
            rw [HA.out] at h
            exact h
        go_region_held3 (fun W => W.cell? ⟨g, 0, none⟩ = some (.int .i64 2) ∧ W.cell? ⟨g, 1, none⟩ = some (.string a1) ∧ W.cell? ⟨g, 2, none⟩ = some (.int .i64 a2) ∧ W.cell? ⟨g, 3, none⟩ = some (.int .i64 a3) ∧ W.cell? ⟨g, 4, none⟩ = some (.slice none 0 0) ∧ W.cell? ⟨g, 5, none⟩ = some (.int .i64 a5))
          (first | exact S0.out | exact S1.out _ hn0.1 | exact S1.out _ (hn0.alloc _).1 | exact S1.out _ hx9)
          (first | (go_at_call 61; first | ((with_reducible refine (HW0.out _ N0.out).mono ?_); rintro e w0_ ⟨q00, q01, rfl, hn0, hx0, hs0⟩)) | (go_at_call 76; refine (HN.out _ _ hn0 hs0).mono ?_; rintro e w9 ⟨v, rfl, hd, hx9⟩))

        all_goals
          have HD := Lib.hid (did_ext hd HX0.out)
          clear hd hx9
          go_wp2
          (try go_ret)
          rw [HQ.out]
          exact HD.out

    · have Hrr : Hid (r = buildF { x with k := 2 } [initialF E ex, wordF E [59]] s1) := by have h := Hrr2.out; rw [if_neg (fun h => h9 h.1)] at h; exact h
      have H9 := Lib.hid h9
      clear Hrr2 h9 hxn
      go_upto_region 14 with (first | (go_at_call 161; first | ((with_reducible refine hse.mono ?_); rintro e w3 ⟨rfl, hb3⟩; have lb3 : w1.heap.size < w3.heap.size := (by have := hb3.size; simp at this; omega)) | ((with_reducible refine (sees_nob (hp2.below hb3) ⟨#[91]⟩ rfl H9.out).mono ?_); rintro e w4 ⟨rfl, hb4⟩; obtain ⟨c0, c1, c2, c3, c4, c5, d0, -, -, -, -, -, lb⟩ := box6f (((Blk.new w1 36 #[.int .i64 a0, .string a1, .int .i64 a2, .int .i64 a3, .slice none 0 0, .int .i64 a5]).below hb3 (by simp)).below hb4 lb3))))
      have b14 : Below w1.heap.size w1 w4 := (((Below.refl _ _).alloc (Nat.le_refl _) _).trans (hb3.mono (by simp))).trans (hb4.mono (by omega))
      have hk4 : Blk w4 w1.heap.size 36 #[.int .i64 a0, .string a1, .int .i64 a2, .int .i64 a3, .slice none 0 0, .int .i64 a5] := ((Blk.new w1 36 #[.int .i64 a0, .string a1, .int .i64 a2, .int .i64 a3, .slice none 0 0, .int .i64 a5]).below hb3 (by simp)).below hb4 lb3
      have hn4 : ¬ Own B w4 w1.heap.size := fun ho => not_own_ge HP2.out (Nat.le_refl _) ((own_same (b14.block B hB2) _).1 ho)
      have hM4 := (Mv.below HP2.out b14).set HP2.out (o := 0) (Nat.le_refl _) hn4 (.int .i64 2)
      have hk6 : Blk (w4.setCell ⟨w1.heap.size, 0, none⟩ (.int .i64 2)) w1.heap.size 36 #[.int .i64 2, .string a1, .int .i64 a2, .int .i64 a3, .slice none 0 0, .int .i64 a5] := by have h := hk4.set_ 0 (.int .i64 2); simpa using h
      have hn6 : ¬ Own B (w4.setCell ⟨w1.heap.size, 0, none⟩ (.int .i64 2)) w1.heap.size := fun ho => hn4 ((own_setCell hn4 _ _).1 ho)
      have HNd : Hid (∀ W, Ext B (w4.setCell ⟨w1.heap.size, 0, none⟩ (.int .i64 2)) W → Blk W w1.heap.size 36 #[.int .i64 2, .string a1, .int .i64 a2, .int .i64 a3, .slice none 0 0, .int .i64 a5]) := fun W hW => hW.blk hk6 hn6
      have HX7 := Lib.hid (HX2.out.trans hM4.ext)
      have HP7 := Lib.hid (hM4.of HP2.out)
      have HA := Lib.hid (node_k Hv.out Hc.out 2)
      clear b14 hk4 hn4 hM4 hk6 hn6 hb3 hb4 hse c0 c1 c2 c3 c4 c5 d0 lb lb3 hp1 hp2 HX6 HP2 HX2
      generalize w4.setCell ⟨w1.heap.size, 0, none⟩ (.int .i64 2) = W6 at *
      generalize w1.heap.size = g at *
      have HX0 : Hid (Ext B w W6.drew) := HX7.out.drew
      have N0 : Hid (Now B T E s1 W6.drew W6.drew) := Now.refl HP7.out.drew
      have S1 : Hid (∀ W, Ext B W6.drew W → W.cell? ⟨g, 0, none⟩ = some (.int .i64 2) ∧ W.cell? ⟨g, 1, none⟩ = some (.string a1) ∧ W.cell? ⟨g, 2, none⟩ = some (.int .i64 a2) ∧ W.cell? ⟨g, 3, none⟩ = some (.int .i64 a3) ∧ W.cell? ⟨g, 4, none⟩ = some (.slice none 0 0) ∧ W.cell? ⟨g, 5, none⟩ = some (.int .i64 a5)) := fun W hW => (box6 (HNd.out W ((Ext.refl B W6).drew.trans hW))).1
      have S0 := Lib.hid (S1.out _ (Ext.refl _ _))
      clear HNd HX7 HP7
      go_wp2
      have HW0 : Hid (∀ W, Now B T E s1 W6.drew W → Calls Tryz.prog 61 #[.pointer (some ⟨B, 0, none⟩), .string ⟨#[59]⟩] W fun e w' => ∃ g1 g2, e = .returned (.func (.func 110) #[] #[.pointer (some ⟨g1, 0, none⟩), .pointer (some ⟨g2, 0, none⟩)]) ∧ Now B T E s1 W6.drew w' ∧ Ext B W w' ∧ StepV B T E w' (.func (.func 110) #[] #[.pointer (some ⟨g1, 0, none⟩), .pointer (some ⟨g2, 0, none⟩)]) (wordF E [59])) := fun W hW => word_now hW ⟨#[59]⟩
      have HN : Hid (∀ W v1, Now B T E s1 W6.drew W → StepV B T E W v1 (wordF E [59]) → Calls Tryz.prog 76 #[.pointer (some ⟨B, 2, none⟩), .agg #[.int .i64 2, .string a1, .int .i64 a2, .int .i64 a3, .slice none 0 0, .int .i64 a5], .slice (some ⟨W.heap.size, 0, none⟩) 2 2] (W.alloc (.cells #[.func (.func 172) #[.pointer (some ⟨B, 0, none⟩)] #[], v1] 57)) (Ends B T E W6.drew r)) := fun W v1 hW h1 => by
          have h := build_now hW [.func (.func 172) #[.pointer (some ⟨B, 0, none⟩)] #[], v1] [initialF E ex, wordF E [59]] rfl (by simp) (step2 (stepFn HIn.out ent115 W) (h1)) ({ x with k := 2 }) Hc.out (by rw [← Hrr.out]; exact HR.out) 57
          rw [← Hrr.out] at h
          rw [HA.out] at h
          exact h
      go_region_held3 (fun W => W.cell? ⟨g, 0, none⟩ = some (.int .i64 2) ∧ W.cell? ⟨g, 1, none⟩ = some (.string a1) ∧ W.cell? ⟨g, 2, none⟩ = some (.int .i64 a2) ∧ W.cell? ⟨g, 3, none⟩ = some (.int .i64 a3) ∧ W.cell? ⟨g, 4, none⟩ = some (.slice none 0 0) ∧ W.cell? ⟨g, 5, none⟩ = some (.int .i64 a5))
        (first | exact S0.out | exact S1.out _ hn0.1 | exact S1.out _ (hn0.alloc _).1 | exact S1.out _ hx9)
        (first | (go_at_call 61; first | ((with_reducible refine (HW0.out _ N0.out).mono ?_); rintro e w0_ ⟨q00, q01, rfl, hn0, hx0, hs0⟩)) | (go_at_call 76; refine (HN.out _ _ hn0 hs0).mono ?_; rintro e w9 ⟨v, rfl, hd, hx9⟩))

      all_goals
        have HD := Lib.hid (did_ext hd HX0.out)
        clear hd hx9
        go_wp2
        (try go_ret)
        rw [HQ.out]
        exact HD.out


end Go.Proofs.YtbjacclfhgnffaaGreatDoor
