/-
  Joined texts of this claim: Ui, Ul, Ulb.
-/
import Derived.Test.YtbjacclfhgnffaaGreatDoorX23
set_option linter.unusedVariables false
set_option linter.unusedSimpArgs false
/-
  Contracts of local, param.
-/
namespace Go.Proofs.YtbjacclfhgnffaaGreatDoor
open Go.RowKit
open Tk (T4 bstr)
open Tr (Nd Blk KidsAt)

theorem node_k {a0 a2 a3 a5 : Int} {a1 : ByteArray} {x : Mn} (h : (.agg #[.int .i64 a0, .string a1, .int .i64 a2, .int .i64 a3, .slice none 0 0, .int .i64 a5] : Value) = nodeV x) (hc : x.c = []) (k : Int) :
    nodeV { x with k := k } = .agg #[.int .i64 k, .string a1, .int .i64 a2, .int .i64 a3, .slice none 0 0, .int .i64 a5] := by
  obtain ⟨xk, xt, xn, xz, xc, xa⟩ := x
  subst hc
  unfold nodeV at h ⊢
  simp only [Value.agg.injEq, Array.mk.injEq, List.cons.injEq, Value.int.injEq, Value.string.injEq, true_and, and_true] at h
  obtain ⟨_, h1, h2, h3, h4⟩ := h
  rw [h1, h2, h3, h4]

set_option maxHeartbeats 16000000 in
set_option maxRecDepth 100000 in
theorem local_fn {B T E : Nat} {ex : F3} (hin : FnC B T E 172 (initialF E ex)) : FnC B T E 243 (localF E ex) := fun w s h hr => by
  obtain ⟨r, hrr⟩ : ∃ r, r = localF E ex s := ⟨_, rfl⟩
  rw [← hrr] at hr ⊢
  obtain ⟨Q, hQ⟩ : ∃ Q : Ending → World → Prop, Q = Did B T E w r := ⟨_, rfl⟩
  rw [← hQ]
  have HQ := Lib.hid hQ
  have HR := Lib.hid hr
  have hB := h.lt
  clear hQ hr
  have Hrr0 : Hid (r = (declF E s).bind fun s1 x => buildF { x with k := 12 } [initialF E ex] s1) := hrr
  have hP0 := h
  have hdc := declared_any h
  clear hrr h
  go_enter Tryz.func243, Tryz.ntmps243
  go_wp2_with (go_at_call 170; refine hdc.mono ?_)
  rintro e w1 ⟨a0, a1, a2, a3, a5, v2, s1, rfl, hM, hd⟩
  have HM := Lib.hid hM
  have HX1 := Lib.hid hM.ext
  have HP0 := Lib.hid hP0
  clear hM hdc hP0
  cases hf : declF E s with
  | out => rw [hf] at hd; exact hd.elim
  | bad c1 b1 =>
    rw [hf] at hd
    obtain rfl : v2 = errV c1 b1 := hd
    have HRb : Hid (r = .bad c1 b1) := by have h := Hrr0.out; rw [hf] at h; exact h
    clear hf
    unfold errV
    go_wp2
    (try go_ret)
    rw [HQ.out, HRb.out]
    exact ⟨rfl, HX1.out.alloc hB _⟩
  | ok s2 x =>
    rw [hf] at hd
    obtain ⟨hv, rfl, rfl, hc⟩ := hd
    have HA := Lib.hid (node_k hv hc 12)
    have HC := Lib.hid hc
    have Hrr : Hid (r = buildF { x with k := 12 } [initialF E ex] s1) := by have h := Hrr0.out; rw [hf] at h; exact h
    have hp1 := HM.out.of HP0.out
    have HNd := Lib.hid (node_far (t := 36) (cs := #[.int .i64 12, .string a1, .int .i64 a2, .int .i64 a3, .slice none 0 0, .int .i64 a5]) hp1)
    have HX6 := Lib.hid (HX1.out.alloc hB (.cells #[.int .i64 12, .string a1, .int .i64 a2, .int .i64 a3, .slice none 0 0, .int .i64 a5] 36))
    have HP6 := Lib.hid (hp1.alloc (.cells #[.int .i64 12, .string a1, .int .i64 a2, .int .i64 a3, .slice none 0 0, .int .i64 a5] 36))
    clear hv hc hf hp1 HM HX1 HP0 Hrr0
    go_wp2
    generalize w1.alloc (.cells #[.int .i64 12, .string a1, .int .i64 a2, .int .i64 a3, .slice none 0 0, .int .i64 a5] 36) = W6 at *
    generalize w1.heap.size = g at *
    have HX0 : Hid (Ext B w W6.drew) := HX6.out.drew
    have N0 : Hid (Now B T E s1 W6.drew W6.drew) := Now.refl HP6.out.drew
    have S1 : Hid (∀ W, Ext B W6.drew W → W.cell? ⟨g, 0, none⟩ = some (.int .i64 12) ∧ W.cell? ⟨g, 1, none⟩ = some (.string a1) ∧ W.cell? ⟨g, 2, none⟩ = some (.int .i64 a2) ∧ W.cell? ⟨g, 3, none⟩ = some (.int .i64 a3) ∧ W.cell? ⟨g, 4, none⟩ = some (.slice none 0 0) ∧ W.cell? ⟨g, 5, none⟩ = some (.int .i64 a5)) := fun W hW => (box6 (HNd.out W ((Ext.refl B W6).drew.trans hW))).1
    have S0 := Lib.hid (S1.out _ (Ext.refl _ _))
    clear HNd HX6 HP6
    have HN : Hid (∀ W, Now B T E s1 W6.drew W → Calls Tryz.prog 76 #[.pointer (some ⟨B, 2, none⟩), .agg #[.int .i64 12, .string a1, .int .i64 a2, .int .i64 a3, .slice none 0 0, .int .i64 a5], .slice (some ⟨W.heap.size, 0, none⟩) 1 1] (W.alloc (.cells #[.func (.func 172) #[.pointer (some ⟨B, 0, none⟩)] #[]] 57)) (Ends B T E W6.drew r)) := fun W hW => by
        have h := build_now hW [.func (.func 172) #[.pointer (some ⟨B, 0, none⟩)] #[]] [initialF E ex] rfl (by simp) (step1 (stepFn hin ent115 W)) ({ x with k := 12 }) HC.out (by rw [← Hrr.out]; exact HR.out) 57
        rw [← Hrr.out] at h
        rw [HA.out] at h
        exact h
    go_region_held3 (fun W => W.cell? ⟨g, 0, none⟩ = some (.int .i64 12) ∧ W.cell? ⟨g, 1, none⟩ = some (.string a1) ∧ W.cell? ⟨g, 2, none⟩ = some (.int .i64 a2) ∧ W.cell? ⟨g, 3, none⟩ = some (.int .i64 a3) ∧ W.cell? ⟨g, 4, none⟩ = some (.slice none 0 0) ∧ W.cell? ⟨g, 5, none⟩ = some (.int .i64 a5))
      (first | exact S0.out | exact S1.out _ (N0.out.alloc _).1 | exact S1.out _ hx9)
      (first | (go_at_call 76; refine (HN.out _  N0.out).mono ?_; rintro e w9 ⟨v, rfl, hd, hx9⟩))
    all_goals
      have HD := Lib.hid (did_ext hd HX0.out)
      clear hd hx9
      go_wp2
      (try go_ret)
      rw [HQ.out]
      exact HD.out

set_option maxHeartbeats 16000000 in
set_option maxRecDepth 100000 in
theorem param_fn {B T E : Nat} : FnC B T E 205 (paramF E) := fun w s h hr => by
  obtain ⟨r, hrr⟩ : ∃ r, r = paramF E s := ⟨_, rfl⟩
  rw [← hrr] at hr ⊢
  obtain ⟨Q, hQ⟩ : ∃ Q : Ending → World → Prop, Q = Did B T E w r := ⟨_, rfl⟩
  rw [← hQ]
  have HQ := Lib.hid hQ
  have HR := Lib.hid hr
  have hB := h.lt
  clear hQ hr
  have Hrr0 : Hid (r = (declF E s).bind fun s1 x => buildF { x with k := 4 } [] s1) := hrr
  have hP0 := h
  have hdc := declared_any h
  clear hrr h
  go_enter Tryz.func205, Tryz.ntmps205
  go_wp2_with (go_at_call 170; refine hdc.mono ?_)
  rintro e w1 ⟨a0, a1, a2, a3, a5, v2, s1, rfl, hM, hd⟩
  have HM := Lib.hid hM
  have HX1 := Lib.hid hM.ext
  have HP0 := Lib.hid hP0
  clear hM hdc hP0
  cases hf : declF E s with
  | out => rw [hf] at hd; exact hd.elim
  | bad c1 b1 =>
    rw [hf] at hd
    obtain rfl : v2 = errV c1 b1 := hd
    have HRb : Hid (r = .bad c1 b1) := by have h := Hrr0.out; rw [hf] at h; exact h
    clear hf
    unfold errV
    go_wp2
    (try go_ret)
    rw [HQ.out, HRb.out]
    exact ⟨rfl, HX1.out.alloc hB _⟩
  | ok s2 x =>
    rw [hf] at hd
    obtain ⟨hv, rfl, rfl, hc⟩ := hd
    have HA := Lib.hid (node_k hv hc 4)
    have HC := Lib.hid hc
    have Hrr : Hid (r = buildF { x with k := 4 } [] s1) := by have h := Hrr0.out; rw [hf] at h; exact h
    have hp1 := HM.out.of HP0.out
    have HNd := Lib.hid (node_far (t := 36) (cs := #[.int .i64 4, .string a1, .int .i64 a2, .int .i64 a3, .slice none 0 0, .int .i64 a5]) hp1)
    have HX6 := Lib.hid (HX1.out.alloc hB (.cells #[.int .i64 4, .string a1, .int .i64 a2, .int .i64 a3, .slice none 0 0, .int .i64 a5] 36))
    have HP6 := Lib.hid (hp1.alloc (.cells #[.int .i64 4, .string a1, .int .i64 a2, .int .i64 a3, .slice none 0 0, .int .i64 a5] 36))
    clear hv hc hf hp1 HM HX1 HP0 Hrr0
    go_wp2
    generalize w1.alloc (.cells #[.int .i64 4, .string a1, .int .i64 a2, .int .i64 a3, .slice none 0 0, .int .i64 a5] 36) = W6 at *
    generalize w1.heap.size = g at *
    have HX0 : Hid (Ext B w W6.drew) := HX6.out.drew
    have N0 : Hid (Now B T E s1 W6.drew W6.drew) := Now.refl HP6.out.drew
    have S1 : Hid (∀ W, Ext B W6.drew W → W.cell? ⟨g, 0, none⟩ = some (.int .i64 4) ∧ W.cell? ⟨g, 1, none⟩ = some (.string a1) ∧ W.cell? ⟨g, 2, none⟩ = some (.int .i64 a2) ∧ W.cell? ⟨g, 3, none⟩ = some (.int .i64 a3) ∧ W.cell? ⟨g, 4, none⟩ = some (.slice none 0 0) ∧ W.cell? ⟨g, 5, none⟩ = some (.int .i64 a5)) := fun W hW => (box6 (HNd.out W ((Ext.refl B W6).drew.trans hW))).1
    have S0 := Lib.hid (S1.out _ (Ext.refl _ _))
    clear HNd HX6 HP6
    have HN : Hid (∀ W, Now B T E s1 W6.drew W → Calls Tryz.prog 76 #[.pointer (some ⟨B, 2, none⟩), .agg #[.int .i64 4, .string a1, .int .i64 a2, .int .i64 a3, .slice none 0 0, .int .i64 a5], .slice none 0 0] W (Ends B T E W6.drew r)) := fun W hW => by
        have h := (build_nil hW.2 ({ x with k := 4 }) HC.out (by rw [← Hrr.out]; exact HR.out)).mono fun e w1 he => (show Ends B T E W6.drew _ e w1 from by obtain ⟨v, rfl, hd, hx⟩ := he; exact ⟨v, rfl, did_ext hd hW.1, hW.1.trans hx⟩)
        rw [← Hrr.out] at h
        rw [HA.out] at h
        exact h
    go_region_held3 (fun W => W.cell? ⟨g, 0, none⟩ = some (.int .i64 4) ∧ W.cell? ⟨g, 1, none⟩ = some (.string a1) ∧ W.cell? ⟨g, 2, none⟩ = some (.int .i64 a2) ∧ W.cell? ⟨g, 3, none⟩ = some (.int .i64 a3) ∧ W.cell? ⟨g, 4, none⟩ = some (.slice none 0 0) ∧ W.cell? ⟨g, 5, none⟩ = some (.int .i64 a5))
      (first | exact S0.out | exact S1.out _ (N0.out.alloc _).1 | exact S1.out _ hx9)
      (first | (go_at_call 76; refine (HN.out _  N0.out).mono ?_; rintro e w9 ⟨v, rfl, hd, hx9⟩))
    all_goals
      have HD := Lib.hid (did_ext hd HX0.out)
      clear hd hx9
      go_wp2
      (try go_ret)
      rw [HQ.out]
      exact HD.out

end Go.Proofs.YtbjacclfhgnffaaGreatDoor
/-
  What compound does at if, while, do.
-/
namespace Go.Proofs.YtbjacclfhgnffaaGreatDoor
open Go.RowKit
open Tk (T4 bstr)
open Tr (Nd Blk KidsAt)

theorem step8 {B T E : Nat} {W : World} {v1 v2 v3 v4 v5 v6 v7 v8 : Value} {f1 f2 f3 f4 f5 f6 f7 f8 : F3} (h1 : StepV B T E W v1 f1) (h2 : StepV B T E W v2 f2) (h3 : StepV B T E W v3 f3) (h4 : StepV B T E W v4 f4) (h5 : StepV B T E W v5 f5) (h6 : StepV B T E W v6 f6) (h7 : StepV B T E W v7 f7) (h8 : StepV B T E W v8 f8) : ∀ j, (a : j < [v1, v2, v3, v4, v5, v6, v7, v8].length) → (b : j < [f1, f2, f3, f4, f5, f6, f7, f8].length) → StepV B T E W [v1, v2, v3, v4, v5, v6, v7, v8][j] [f1, f2, f3, f4, f5, f6, f7, f8][j] := fun j a b => by
  match j, a, b with
  | 0, _, _ => exact h1
  | 1, _, _ => exact h2
  | 2, _, _ => exact h3
  | 3, _, _ => exact h4
  | 4, _, _ => exact h5
  | 5, _, _ => exact h6
  | 6, _, _ => exact h7
  | 7, _, _ => exact h8

/-- compound, as the program has it -/
def elseF (E : Nat) (bo : F3) : F3 := fun s => if (pk E s.L).t = [101, 108, 115, 101] then bo { s with L := s.L.tail } else .ok s
def compF (E : Nat) (bo ex : F3) (fam : Nat → F3) (n : Nat) : F3 := fun s =>
  if (pk E s.L).t = [105, 102] then buildF (mk 14 [] 0 (pk E s.L).a) [conditionF E ex, bo, elseF E bo] { s with L := s.L.tail }
  else if (pk E s.L).t = [119, 104, 105, 108, 101] then buildF (mk 15 [] 0 (pk E s.L).a) [conditionF E ex, bo] { s with L := s.L.tail }
  else if (pk E s.L).t = [100, 111] then buildF (mk 16 [] 0 (pk E s.L).a) [bo, wordF E [119, 104, 105, 108, 101], conditionF E ex, wordF E [59]] { s with L := s.L.tail }
  else if (pk E s.L).t = [102, 111, 114] then buildF (mk 17 [] 0 (pk E s.L).a) [wordF E [40], startF E ex, wordF E [59], unlessF E [59] ex, wordF E [59], unlessF E [41] (effectF E ex), wordF E [41], bo] { s with L := s.L.tail }
  else buildF (mk 18 [] 0 (pk E s.L).a) [conditionF E ex, bracedF E fam n] { s with L := s.L.tail }

set_option maxHeartbeats 16000000 in
set_option maxRecDepth 100000 in
theorem comp_if {B T E : Nat} {bo ex : F3} (hco : FnC B T E 261 (conditionF E ex)) (hbo : FnC B T E 262 bo) (hel : FnC B T E 263 (elseF E bo)) {w : World} {s : S3} (h : Ps B T E w s) (ht : (pk E s.L).t = [105, 102]) (hr : buildF (mk 14 [] 0 (pk E s.L).a) [conditionF E ex, bo, elseF E bo] { s with L := s.L.tail } ≠ .out) : Calls Tryz.prog 244 #[.pointer (some ⟨B, 0, none⟩)] w (Did B T E w (buildF (mk 14 [] 0 (pk E s.L).a) [conditionF E ex, bo, elseF E bo] { s with L := s.L.tail })) := by
  obtain ⟨r, hrr⟩ : ∃ r, r = buildF (mk 14 [] 0 (pk E s.L).a) [conditionF E ex, bo, elseF E bo] { s with L := s.L.tail } := ⟨_, rfl⟩
  rw [← hrr] at hr ⊢
  obtain ⟨Q, hQ⟩ : ∃ Q : Ending → World → Prop, Q = Did B T E w r := ⟨_, rfl⟩
  rw [← hQ]
  have HQ := Lib.hid hQ
  have HR := Lib.hid hr
  have hB := h.lt
  clear hQ hr
  have HP := Lib.hid h
  have hpk := take_any h
  unfold tokV at hpk
  obtain ⟨t, ht'⟩ : ∃ t, t = pk E s.L := ⟨_, rfl⟩
  obtain ⟨x, hxx⟩ : ∃ x, x = bstr t.t := ⟨_, rfl⟩
  rw [← ht', ← hxx] at hpk
  rw [← ht'] at ht hrr
  have q0 := txt_yes (l := [105, 102]) hxx ht
  have Hrr : Hid (r = _) := hrr
  clear ht ht' hxx hrr h
  go_enter Tryz.func244, Tryz.ntmps244
  go_wp2_with (go_at_call 106; refine hpk.mono ?_; rintro e w1 ⟨rfl, hx1, hp1⟩)
  have hp2 := hp1.alloc (.cells #[.int .i64 t.k, .string x, .int .i64 t.v, .int .i64 t.a] 82)
  have hB2 := hp2.lt
  have hx2 := hx1.alloc hB (.cells #[.int .i64 t.k, .string x, .int .i64 t.v, .int .i64 t.a] 82)
  have hnd := node_far (t := 36) (cs := #[.int .i64 14, .string ⟨#[]⟩, .int .i64 0, .int .i64 0, .slice none 0 0, .int .i64 t.a]) hp2
  rw [World.size_alloc] at hnd
  have HNd := Lib.hid hnd
  have HX6 := Lib.hid (hx2.alloc hB (.cells #[.int .i64 14, .string ⟨#[]⟩, .int .i64 0, .int .i64 0, .slice none 0 0, .int .i64 t.a] 36))
  have HP6 := Lib.hid (hp2.alloc (.cells #[.int .i64 14, .string ⟨#[]⟩, .int .i64 0, .int .i64 0, .slice none 0 0, .int .i64 t.a] 36))
  clear hp1 hx1 hp2 hx2 hpk HP hnd
  generalize (w1.alloc (.cells #[.int .i64 t.k, .string x, .int .i64 t.v, .int .i64 t.a] 82)).alloc (.cells #[.int .i64 14, .string ⟨#[]⟩, .int .i64 0, .int .i64 0, .slice none 0 0, .int .i64 t.a] 36) = W6 at *
  generalize w1.heap.size + 1 = g5 at *
  have HX0 : Hid (Ext B w W6.drew) := HX6.out.drew
  have N0 : Hid (Now B T E { s with L := s.L.tail } W6.drew W6.drew) := Now.refl HP6.out.drew
  have S1 : Hid (∀ W, Ext B W6.drew W → W.cell? ⟨g5, 0, none⟩ = some (.int .i64 14) ∧ W.cell? ⟨g5, 1, none⟩ = some (.string ⟨#[]⟩) ∧ W.cell? ⟨g5, 2, none⟩ = some (.int .i64 0) ∧ W.cell? ⟨g5, 3, none⟩ = some (.int .i64 0) ∧ W.cell? ⟨g5, 4, none⟩ = some (.slice none 0 0) ∧ W.cell? ⟨g5, 5, none⟩ = some (.int .i64 t.a)) := fun W hW => (box6 (HNd.out W ((Ext.refl B W6).drew.trans hW))).1
  have S0 := Lib.hid (S1.out _ (Ext.refl _ _))
  clear HNd HX6 HP6

  go_wp2
  have HN : Hid (∀ W, Now B T E { s with L := s.L.tail } W6.drew W → Calls Tryz.prog 76 #[.pointer (some ⟨B, 2, none⟩), .agg #[.int .i64 14, .string ⟨#[]⟩, .int .i64 0, .int .i64 0, .slice none 0 0, .int .i64 t.a], .slice (some ⟨W.heap.size, 0, none⟩) 3 3] (W.alloc (.cells #[.func (.func 261) #[.pointer (some ⟨B, 0, none⟩)] #[], .func (.func 262) #[.pointer (some ⟨B, 0, none⟩)] #[], .func (.func 263) #[.pointer (some ⟨B, 0, none⟩)] #[]] 57)) (Ends B T E W6.drew r)) := fun W hW => by
      have h := build_now hW [.func (.func 261) #[.pointer (some ⟨B, 0, none⟩)] #[], .func (.func 262) #[.pointer (some ⟨B, 0, none⟩)] #[], .func (.func 263) #[.pointer (some ⟨B, 0, none⟩)] #[]] [conditionF E ex, bo, elseF E bo] rfl (by simp) (step3 (stepFn hco ent188 W) (stepFn hbo ent189 W) (stepFn hel ent190 W)) (mk 14 [] 0 t.a) rfl (by rw [← Hrr.out]; exact HR.out) 57
      rw [← Hrr.out] at h
      exact h
  go_region_held3 (fun W => W.cell? ⟨g5, 0, none⟩ = some (.int .i64 14) ∧ W.cell? ⟨g5, 1, none⟩ = some (.string ⟨#[]⟩) ∧ W.cell? ⟨g5, 2, none⟩ = some (.int .i64 0) ∧ W.cell? ⟨g5, 3, none⟩ = some (.int .i64 0) ∧ W.cell? ⟨g5, 4, none⟩ = some (.slice none 0 0) ∧ W.cell? ⟨g5, 5, none⟩ = some (.int .i64 t.a))
    (first | exact S0.out | exact S1.out _ (N0.out.alloc _).1 | exact S1.out _ hx9)
    (first | (go_at_call 76; refine (HN.out _  N0.out).mono ?_; rintro e w9 ⟨v, rfl, hd, hx9⟩))
  all_goals
    have HD := Lib.hid (did_ext hd HX0.out)
    clear hd hx9
    go_wp2
    (try go_ret)
    rw [HQ.out]
    exact HD.out

set_option maxHeartbeats 16000000 in
set_option maxRecDepth 100000 in
theorem comp_while {B T E : Nat} {bo ex : F3} (hco : FnC B T E 261 (conditionF E ex)) (hbo : FnC B T E 262 bo) {w : World} {s : S3} (h : Ps B T E w s) (ht : (pk E s.L).t = [119, 104, 105, 108, 101]) (hr : buildF (mk 15 [] 0 (pk E s.L).a) [conditionF E ex, bo] { s with L := s.L.tail } ≠ .out) : Calls Tryz.prog 244 #[.pointer (some ⟨B, 0, none⟩)] w (Did B T E w (buildF (mk 15 [] 0 (pk E s.L).a) [conditionF E ex, bo] { s with L := s.L.tail })) := by
  obtain ⟨r, hrr⟩ : ∃ r, r = buildF (mk 15 [] 0 (pk E s.L).a) [conditionF E ex, bo] { s with L := s.L.tail } := ⟨_, rfl⟩
  rw [← hrr] at hr ⊢
  obtain ⟨Q, hQ⟩ : ∃ Q : Ending → World → Prop, Q = Did B T E w r := ⟨_, rfl⟩
  rw [← hQ]
  have HQ := Lib.hid hQ
  have HR := Lib.hid hr
  have hB := h.lt
  clear hQ hr
  have HP := Lib.hid h
  have hpk := take_any h
  unfold tokV at hpk
  obtain ⟨t, ht'⟩ : ∃ t, t = pk E s.L := ⟨_, rfl⟩
  obtain ⟨x, hxx⟩ : ∃ x, x = bstr t.t := ⟨_, rfl⟩
  rw [← ht', ← hxx] at hpk
  rw [← ht'] at ht hrr
  have q0 := txt_no (l := [105, 102]) hxx (by rw [ht]; decide)
  have q1 := txt_yes (l := [119, 104, 105, 108, 101]) hxx ht
  have Hrr : Hid (r = _) := hrr
  clear ht ht' hxx hrr h
  go_enter Tryz.func244, Tryz.ntmps244
  go_wp2_with (go_at_call 106; refine hpk.mono ?_; rintro e w1 ⟨rfl, hx1, hp1⟩)
  have hp2 := hp1.alloc (.cells #[.int .i64 t.k, .string x, .int .i64 t.v, .int .i64 t.a] 82)
  have hB2 := hp2.lt
  have hx2 := hx1.alloc hB (.cells #[.int .i64 t.k, .string x, .int .i64 t.v, .int .i64 t.a] 82)
  have hnd := node_far (t := 36) (cs := #[.int .i64 15, .string ⟨#[]⟩, .int .i64 0, .int .i64 0, .slice none 0 0, .int .i64 t.a]) hp2
  rw [World.size_alloc] at hnd
  have HNd := Lib.hid hnd
  have HX6 := Lib.hid (hx2.alloc hB (.cells #[.int .i64 15, .string ⟨#[]⟩, .int .i64 0, .int .i64 0, .slice none 0 0, .int .i64 t.a] 36))
  have HP6 := Lib.hid (hp2.alloc (.cells #[.int .i64 15, .string ⟨#[]⟩, .int .i64 0, .int .i64 0, .slice none 0 0, .int .i64 t.a] 36))
  clear hp1 hx1 hp2 hx2 hpk HP hnd
  generalize (w1.alloc (.cells #[.int .i64 t.k, .string x, .int .i64 t.v, .int .i64 t.a] 82)).alloc (.cells #[.int .i64 15, .string ⟨#[]⟩, .int .i64 0, .int .i64 0, .slice none 0 0, .int .i64 t.a] 36) = W6 at *
  generalize w1.heap.size + 1 = g5 at *
  have HX0 : Hid (Ext B w W6.drew) := HX6.out.drew
  have N0 : Hid (Now B T E { s with L := s.L.tail } W6.drew W6.drew) := Now.refl HP6.out.drew
  have S1 : Hid (∀ W, Ext B W6.drew W → W.cell? ⟨g5, 0, none⟩ = some (.int .i64 15) ∧ W.cell? ⟨g5, 1, none⟩ = some (.string ⟨#[]⟩) ∧ W.cell? ⟨g5, 2, none⟩ = some (.int .i64 0) ∧ W.cell? ⟨g5, 3, none⟩ = some (.int .i64 0) ∧ W.cell? ⟨g5, 4, none⟩ = some (.slice none 0 0) ∧ W.cell? ⟨g5, 5, none⟩ = some (.int .i64 t.a)) := fun W hW => (box6 (HNd.out W ((Ext.refl B W6).drew.trans hW))).1
  have S0 := Lib.hid (S1.out _ (Ext.refl _ _))
  clear HNd HX6 HP6

  go_wp2
  have HN : Hid (∀ W, Now B T E { s with L := s.L.tail } W6.drew W → Calls Tryz.prog 76 #[.pointer (some ⟨B, 2, none⟩), .agg #[.int .i64 15, .string ⟨#[]⟩, .int .i64 0, .int .i64 0, .slice none 0 0, .int .i64 t.a], .slice (some ⟨W.heap.size, 0, none⟩) 2 2] (W.alloc (.cells #[.func (.func 261) #[.pointer (some ⟨B, 0, none⟩)] #[], .func (.func 262) #[.pointer (some ⟨B, 0, none⟩)] #[]] 57)) (Ends B T E W6.drew r)) := fun W hW => by
      have h := build_now hW [.func (.func 261) #[.pointer (some ⟨B, 0, none⟩)] #[], .func (.func 262) #[.pointer (some ⟨B, 0, none⟩)] #[]] [conditionF E ex, bo] rfl (by simp) (step2 (stepFn hco ent188 W) (stepFn hbo ent189 W)) (mk 15 [] 0 t.a) rfl (by rw [← Hrr.out]; exact HR.out) 57
      rw [← Hrr.out] at h
      exact h
  go_region_held3 (fun W => W.cell? ⟨g5, 0, none⟩ = some (.int .i64 15) ∧ W.cell? ⟨g5, 1, none⟩ = some (.string ⟨#[]⟩) ∧ W.cell? ⟨g5, 2, none⟩ = some (.int .i64 0) ∧ W.cell? ⟨g5, 3, none⟩ = some (.int .i64 0) ∧ W.cell? ⟨g5, 4, none⟩ = some (.slice none 0 0) ∧ W.cell? ⟨g5, 5, none⟩ = some (.int .i64 t.a))
    (first | exact S0.out | exact S1.out _ (N0.out.alloc _).1 | exact S1.out _ hx9)
    (first | (go_at_call 76; refine (HN.out _  N0.out).mono ?_; rintro e w9 ⟨v, rfl, hd, hx9⟩))
  all_goals
    have HD := Lib.hid (did_ext hd HX0.out)
    clear hd hx9
    go_wp2
    (try go_ret)
    rw [HQ.out]
    exact HD.out

set_option maxHeartbeats 16000000 in
set_option maxRecDepth 100000 in
theorem comp_do {B T E : Nat} {bo ex : F3} (hco : FnC B T E 261 (conditionF E ex)) (hbo : FnC B T E 262 bo) {w : World} {s : S3} (h : Ps B T E w s) (ht : (pk E s.L).t = [100, 111]) (hr : buildF (mk 16 [] 0 (pk E s.L).a) [bo, wordF E [119, 104, 105, 108, 101], conditionF E ex, wordF E [59]] { s with L := s.L.tail } ≠ .out) : Calls Tryz.prog 244 #[.pointer (some ⟨B, 0, none⟩)] w (Did B T E w (buildF (mk 16 [] 0 (pk E s.L).a) [bo, wordF E [119, 104, 105, 108, 101], conditionF E ex, wordF E [59]] { s with L := s.L.tail })) := by
  obtain ⟨r, hrr⟩ : ∃ r, r = buildF (mk 16 [] 0 (pk E s.L).a) [bo, wordF E [119, 104, 105, 108, 101], conditionF E ex, wordF E [59]] { s with L := s.L.tail } := ⟨_, rfl⟩
  rw [← hrr] at hr ⊢
  obtain ⟨Q, hQ⟩ : ∃ Q : Ending → World → Prop, Q = Did B T E w r := ⟨_, rfl⟩
  rw [← hQ]
  have HQ := Lib.hid hQ
  have HR := Lib.hid hr
  have hB := h.lt
  clear hQ hr
  have HP := Lib.hid h
  have hpk := take_any h
  unfold tokV at hpk
  obtain ⟨t, ht'⟩ : ∃ t, t = pk E s.L := ⟨_, rfl⟩
  obtain ⟨x, hxx⟩ : ∃ x, x = bstr t.t := ⟨_, rfl⟩
  rw [← ht', ← hxx] at hpk
  rw [← ht'] at ht hrr
  have q0 := txt_no (l := [105, 102]) hxx (by rw [ht]; decide)
  have q1 := txt_no (l := [119, 104, 105, 108, 101]) hxx (by rw [ht]; decide)
  have q2 := txt_yes (l := [100, 111]) hxx ht
  have Hrr : Hid (r = _) := hrr
  clear ht ht' hxx hrr h
  go_enter Tryz.func244, Tryz.ntmps244
  go_wp2_with (go_at_call 106; refine hpk.mono ?_; rintro e w1 ⟨rfl, hx1, hp1⟩)
  have hp2 := hp1.alloc (.cells #[.int .i64 t.k, .string x, .int .i64 t.v, .int .i64 t.a] 82)
  have hB2 := hp2.lt
  have hx2 := hx1.alloc hB (.cells #[.int .i64 t.k, .string x, .int .i64 t.v, .int .i64 t.a] 82)
  have hnd := node_far (t := 36) (cs := #[.int .i64 16, .string ⟨#[]⟩, .int .i64 0, .int .i64 0, .slice none 0 0, .int .i64 t.a]) hp2
  rw [World.size_alloc] at hnd
  have HNd := Lib.hid hnd
  have HX6 := Lib.hid (hx2.alloc hB (.cells #[.int .i64 16, .string ⟨#[]⟩, .int .i64 0, .int .i64 0, .slice none 0 0, .int .i64 t.a] 36))
  have HP6 := Lib.hid (hp2.alloc (.cells #[.int .i64 16, .string ⟨#[]⟩, .int .i64 0, .int .i64 0, .slice none 0 0, .int .i64 t.a] 36))
  clear hp1 hx1 hp2 hx2 hpk HP hnd
  generalize (w1.alloc (.cells #[.int .i64 t.k, .string x, .int .i64 t.v, .int .i64 t.a] 82)).alloc (.cells #[.int .i64 16, .string ⟨#[]⟩, .int .i64 0, .int .i64 0, .slice none 0 0, .int .i64 t.a] 36) = W6 at *
  generalize w1.heap.size + 1 = g5 at *
  have HX0 : Hid (Ext B w W6.drew) := HX6.out.drew
  have N0 : Hid (Now B T E { s with L := s.L.tail } W6.drew W6.drew) := Now.refl HP6.out.drew
  have S1 : Hid (∀ W, Ext B W6.drew W → W.cell? ⟨g5, 0, none⟩ = some (.int .i64 16) ∧ W.cell? ⟨g5, 1, none⟩ = some (.string ⟨#[]⟩) ∧ W.cell? ⟨g5, 2, none⟩ = some (.int .i64 0) ∧ W.cell? ⟨g5, 3, none⟩ = some (.int .i64 0) ∧ W.cell? ⟨g5, 4, none⟩ = some (.slice none 0 0) ∧ W.cell? ⟨g5, 5, none⟩ = some (.int .i64 t.a)) := fun W hW => (box6 (HNd.out W ((Ext.refl B W6).drew.trans hW))).1
  have S0 := Lib.hid (S1.out _ (Ext.refl _ _))
  clear HNd HX6 HP6

  go_wp2
  have HW0 : Hid (∀ W, Now B T E { s with L := s.L.tail } W6.drew W → Calls Tryz.prog 61 #[.pointer (some ⟨B, 0, none⟩), .string ⟨#[119, 104, 105, 108, 101]⟩] W fun e w' => ∃ g1 g2, e = .returned (.func (.func 110) #[] #[.pointer (some ⟨g1, 0, none⟩), .pointer (some ⟨g2, 0, none⟩)]) ∧ Now B T E { s with L := s.L.tail } W6.drew w' ∧ Ext B W w' ∧ StepV B T E w' (.func (.func 110) #[] #[.pointer (some ⟨g1, 0, none⟩), .pointer (some ⟨g2, 0, none⟩)]) (wordF E [119, 104, 105, 108, 101])) := fun W hW => word_now hW ⟨#[119, 104, 105, 108, 101]⟩
  have HW1 : Hid (∀ W, Now B T E { s with L := s.L.tail } W6.drew W → Calls Tryz.prog 61 #[.pointer (some ⟨B, 0, none⟩), .string ⟨#[59]⟩] W fun e w' => ∃ g1 g2, e = .returned (.func (.func 110) #[] #[.pointer (some ⟨g1, 0, none⟩), .pointer (some ⟨g2, 0, none⟩)]) ∧ Now B T E { s with L := s.L.tail } W6.drew w' ∧ Ext B W w' ∧ StepV B T E w' (.func (.func 110) #[] #[.pointer (some ⟨g1, 0, none⟩), .pointer (some ⟨g2, 0, none⟩)]) (wordF E [59])) := fun W hW => word_now hW ⟨#[59]⟩
  have HN : Hid (∀ W v1 v3, Now B T E { s with L := s.L.tail } W6.drew W → StepV B T E W v1 (wordF E [119, 104, 105, 108, 101]) → StepV B T E W v3 (wordF E [59]) → Calls Tryz.prog 76 #[.pointer (some ⟨B, 2, none⟩), .agg #[.int .i64 16, .string ⟨#[]⟩, .int .i64 0, .int .i64 0, .slice none 0 0, .int .i64 t.a], .slice (some ⟨W.heap.size, 0, none⟩) 4 4] (W.alloc (.cells #[.func (.func 262) #[.pointer (some ⟨B, 0, none⟩)] #[], v1, .func (.func 261) #[.pointer (some ⟨B, 0, none⟩)] #[], v3] 57)) (Ends B T E W6.drew r)) := fun W v1 v3 hW h1 h3 => by
      have h := build_now hW [.func (.func 262) #[.pointer (some ⟨B, 0, none⟩)] #[], v1, .func (.func 261) #[.pointer (some ⟨B, 0, none⟩)] #[], v3] [bo, wordF E [119, 104, 105, 108, 101], conditionF E ex, wordF E [59]] rfl (by simp) (step4 (stepFn hbo ent189 W) (h1) (stepFn hco ent188 W) (h3)) (mk 16 [] 0 t.a) rfl (by rw [← Hrr.out]; exact HR.out) 57
      rw [← Hrr.out] at h
      exact h
  go_region_held3 (fun W => W.cell? ⟨g5, 0, none⟩ = some (.int .i64 16) ∧ W.cell? ⟨g5, 1, none⟩ = some (.string ⟨#[]⟩) ∧ W.cell? ⟨g5, 2, none⟩ = some (.int .i64 0) ∧ W.cell? ⟨g5, 3, none⟩ = some (.int .i64 0) ∧ W.cell? ⟨g5, 4, none⟩ = some (.slice none 0 0) ∧ W.cell? ⟨g5, 5, none⟩ = some (.int .i64 t.a))
    (first | exact S0.out | exact S1.out _ hn0.1 | exact S1.out _ hn1.1 | exact S1.out _ (hn1.alloc _).1 | exact S1.out _ hx9)
    (first | (go_at_call 61; first | ((with_reducible refine (HW0.out _ N0.out).mono ?_); rintro e w0_ ⟨q00, q01, rfl, hn0, hx0, hs0⟩) | ((with_reducible refine (HW1.out _ hn0).mono ?_); rintro e w1_ ⟨q10, q11, rfl, hn1, hx1, hs1⟩)) | (go_at_call 76; refine (HN.out _ _ _ hn1 (StepV.ext hs0 hx1) hs1).mono ?_; rintro e w9 ⟨v, rfl, hd, hx9⟩))
  all_goals
    have HD := Lib.hid (did_ext hd HX0.out)
    clear hd hx9
    go_wp2
    (try go_ret)
    rw [HQ.out]
    exact HD.out

end Go.Proofs.YtbjacclfhgnffaaGreatDoor
/-
  What compound does at switch.
-/
namespace Go.Proofs.YtbjacclfhgnffaaGreatDoor
open Go.RowKit
open Tk (T4 bstr)
open Tr (Nd Blk KidsAt)

set_option maxHeartbeats 16000000 in
set_option maxRecDepth 100000 in
theorem comp_switch {B T E : Nat} {n : Nat} {ex : F3} {fam : Nat → F3} (hco : FnC B T E 261 (conditionF E ex)) (hit : ∀ m, m < n → FnC B T E 266 (fam m)) {w : World} {s : S3} (h : Ps B T E w s) (hno : ∀ l, l ∈ [[105, 102], [119, 104, 105, 108, 101], [100, 111], [102, 111, 114]] → (pk E s.L).t ≠ l) (hr : buildF (mk 18 [] 0 (pk E s.L).a) [conditionF E ex, bracedF E fam n] { s with L := s.L.tail } ≠ .out) : Calls Tryz.prog 244 #[.pointer (some ⟨B, 0, none⟩)] w (Did B T E w (buildF (mk 18 [] 0 (pk E s.L).a) [conditionF E ex, bracedF E fam n] { s with L := s.L.tail })) := by
  obtain ⟨r, hrr⟩ : ∃ r, r = buildF (mk 18 [] 0 (pk E s.L).a) [conditionF E ex, bracedF E fam n] { s with L := s.L.tail } := ⟨_, rfl⟩
  rw [← hrr] at hr ⊢
  obtain ⟨Q, hQ⟩ : ∃ Q : Ending → World → Prop, Q = Did B T E w r := ⟨_, rfl⟩
  rw [← hQ]
  have HQ := Lib.hid hQ
  have HR := Lib.hid hr
  have hB := h.lt
  clear hQ hr
  have HP := Lib.hid h
  have hpk := take_any h
  unfold tokV at hpk
  obtain ⟨t, ht'⟩ : ∃ t, t = pk E s.L := ⟨_, rfl⟩
  obtain ⟨x, hxx⟩ : ∃ x, x = bstr t.t := ⟨_, rfl⟩
  rw [← ht', ← hxx] at hpk
  rw [← ht'] at hno hrr
  have q0 := txt_no (l := [105, 102]) hxx (hno _ (by simp))
  have q1 := txt_no (l := [119, 104, 105, 108, 101]) hxx (hno _ (by simp))
  have q2 := txt_no (l := [100, 111]) hxx (hno _ (by simp))
  have q3 := txt_no (l := [102, 111, 114]) hxx (hno _ (by simp))
  have Hrr : Hid (r = _) := hrr
  clear hno ht' hxx hrr h
  go_enter Tryz.func244, Tryz.ntmps244
  go_wp2_with (go_at_call 106; refine hpk.mono ?_; rintro e w1 ⟨rfl, hx1, hp1⟩)
  have hp2 := hp1.alloc (.cells #[.int .i64 t.k, .string x, .int .i64 t.v, .int .i64 t.a] 82)
  have hB2 := hp2.lt
  have hx2 := hx1.alloc hB (.cells #[.int .i64 t.k, .string x, .int .i64 t.v, .int .i64 t.a] 82)
  have hnd := node_far (t := 36) (cs := #[.int .i64 18, .string ⟨#[]⟩, .int .i64 0, .int .i64 0, .slice none 0 0, .int .i64 t.a]) hp2
  rw [World.size_alloc] at hnd
  have HNd := Lib.hid hnd
  have HX6 := Lib.hid (hx2.alloc hB (.cells #[.int .i64 18, .string ⟨#[]⟩, .int .i64 0, .int .i64 0, .slice none 0 0, .int .i64 t.a] 36))
  have HP6 := Lib.hid (hp2.alloc (.cells #[.int .i64 18, .string ⟨#[]⟩, .int .i64 0, .int .i64 0, .slice none 0 0, .int .i64 t.a] 36))
  clear hp1 hx1 hp2 hx2 hpk HP hnd
  generalize (w1.alloc (.cells #[.int .i64 t.k, .string x, .int .i64 t.v, .int .i64 t.a] 82)).alloc (.cells #[.int .i64 18, .string ⟨#[]⟩, .int .i64 0, .int .i64 0, .slice none 0 0, .int .i64 t.a] 36) = W6 at *
  generalize w1.heap.size + 1 = g5 at *
  have HX0 : Hid (Ext B w W6.drew) := HX6.out.drew
  have N0 : Hid (Now B T E { s with L := s.L.tail } W6.drew W6.drew) := Now.refl HP6.out.drew
  have S1 : Hid (∀ W, Ext B W6.drew W → W.cell? ⟨g5, 0, none⟩ = some (.int .i64 18) ∧ W.cell? ⟨g5, 1, none⟩ = some (.string ⟨#[]⟩) ∧ W.cell? ⟨g5, 2, none⟩ = some (.int .i64 0) ∧ W.cell? ⟨g5, 3, none⟩ = some (.int .i64 0) ∧ W.cell? ⟨g5, 4, none⟩ = some (.slice none 0 0) ∧ W.cell? ⟨g5, 5, none⟩ = some (.int .i64 t.a)) := fun W hW => (box6 (HNd.out W ((Ext.refl B W6).drew.trans hW))).1
  have S0 := Lib.hid (S1.out _ (Ext.refl _ _))
  clear HNd HX6 HP6

  go_wp2
  have HW0 : Hid (∀ W, Now B T E { s with L := s.L.tail } W6.drew W → Calls Tryz.prog 232 #[.pointer (some ⟨B, 0, none⟩), .func (.func 266) #[.pointer (some ⟨B, 0, none⟩)] #[]] W fun e w' => ∃ g1 g2, e = .returned (.func (.func 242) #[] #[.pointer (some ⟨g1, 0, none⟩), .pointer (some ⟨g2, 0, none⟩)]) ∧ Now B T E { s with L := s.L.tail } W6.drew w' ∧ Ext B W w' ∧ StepV B T E w' (.func (.func 242) #[] #[.pointer (some ⟨g1, 0, none⟩), .pointer (some ⟨g2, 0, none⟩)]) (bracedF E fam n)) := fun W hW => braced_now hW fam 266 ent193 hit
  have HN : Hid (∀ W v1, Now B T E { s with L := s.L.tail } W6.drew W → StepV B T E W v1 (bracedF E fam n) → Calls Tryz.prog 76 #[.pointer (some ⟨B, 2, none⟩), .agg #[.int .i64 18, .string ⟨#[]⟩, .int .i64 0, .int .i64 0, .slice none 0 0, .int .i64 t.a], .slice (some ⟨W.heap.size, 0, none⟩) 2 2] (W.alloc (.cells #[.func (.func 261) #[.pointer (some ⟨B, 0, none⟩)] #[], v1] 57)) (Ends B T E W6.drew r)) := fun W v1 hW h1 => by
      have h := build_now hW [.func (.func 261) #[.pointer (some ⟨B, 0, none⟩)] #[], v1] [conditionF E ex, bracedF E fam n] rfl (by simp) (step2 (stepFn hco ent188 W) (h1)) (mk 18 [] 0 t.a) rfl (by rw [← Hrr.out]; exact HR.out) 57
      rw [← Hrr.out] at h
      exact h
  go_region_held3 (fun W => W.cell? ⟨g5, 0, none⟩ = some (.int .i64 18) ∧ W.cell? ⟨g5, 1, none⟩ = some (.string ⟨#[]⟩) ∧ W.cell? ⟨g5, 2, none⟩ = some (.int .i64 0) ∧ W.cell? ⟨g5, 3, none⟩ = some (.int .i64 0) ∧ W.cell? ⟨g5, 4, none⟩ = some (.slice none 0 0) ∧ W.cell? ⟨g5, 5, none⟩ = some (.int .i64 t.a))
    (first | exact S0.out | exact S1.out _ hn0.1 | exact S1.out _ (hn0.alloc _).1 | exact S1.out _ hx9)
    (first | (go_at_call 232; first | ((with_reducible refine (HW0.out _ N0.out).mono ?_); rintro e w0_ ⟨q00, q01, rfl, hn0, hx0, hs0⟩)) | (go_at_call 76; refine (HN.out _ _ hn0 hs0).mono ?_; rintro e w9 ⟨v, rfl, hd, hx9⟩))
  all_goals
    have HD := Lib.hid (did_ext hd HX0.out)
    clear hd hx9
    go_wp2
    (try go_ret)
    rw [HQ.out]
    exact HD.out

end Go.Proofs.YtbjacclfhgnffaaGreatDoor
