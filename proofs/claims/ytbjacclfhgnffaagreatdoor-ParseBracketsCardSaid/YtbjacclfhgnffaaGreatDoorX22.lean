/-
  Joined texts of this claim: Ud, Ue, Uf.
-/
import Derived.Test.YtbjacclfhgnffaaGreatDoorX21
set_option linter.unusedVariables false
set_option linter.unusedSimpArgs false
/-
  Contracts of what braced and unless give, as steps.
-/
namespace Go.Proofs.YtbjacclfhgnffaaGreatDoor
open Go.RowKit
open Tk (T4 bstr)
open Tr (Nd Blk KidsAt)

theorem sees_yes {B T E : Nat} {w : World} {s : S3} (h : Ps B T E w s) (x : ByteArray) {l : List UInt8} (hl : x.data.toList = l) (ht : (pk E s.L).t = l) :
    Calls Tryz.prog 161 #[.pointer (some ⟨B, 0, none⟩), .string x] w fun e w' => e = .returned (.bool true) ∧ Ext B w w' ∧ Ps B T E w' s := by
  refine (sees_any h x).mono fun e w' ⟨he, hb⟩ => ⟨?_, Ext.below hb h.lt, h.below hb⟩
  rw [he, hl, decide_eq_true ht]
theorem sees_no {B T E : Nat} {w : World} {s : S3} (h : Ps B T E w s) (x : ByteArray) {l : List UInt8} (hl : x.data.toList = l) (ht : (pk E s.L).t ≠ l) :
    Calls Tryz.prog 161 #[.pointer (some ⟨B, 0, none⟩), .string x] w fun e w' => e = .returned (.bool false) ∧ Ext B w w' ∧ Ps B T E w' s := by
  refine (sees_any h x).mono fun e w' ⟨he, hb⟩ => ⟨?_, Ext.below hb h.lt, h.below hb⟩
  rw [he, hl, decide_eq_false ht]

theorem braced_now {B T E n : Nat} {s : S3} {W0 W : World} (h : Now B T E s W0 W) (fam : Nat → F3) (id : FuncId) (hen : Ent id) (hit : ∀ m, m < n → FnC B T E id (fam m)) :
    Calls Tryz.prog 232 #[.pointer (some ⟨B, 0, none⟩), .func (.func id) #[.pointer (some ⟨B, 0, none⟩)] #[]] W fun e w' => ∃ g1 g2, e = .returned (.func (.func 242) #[] #[.pointer (some ⟨g1, 0, none⟩), .pointer (some ⟨g2, 0, none⟩)]) ∧
      Now B T E s W0 w' ∧ Ext B W w' ∧ StepV B T E w' (.func (.func 242) #[] #[.pointer (some ⟨g1, 0, none⟩), .pointer (some ⟨g2, 0, none⟩)]) (bracedF E fam n) := by
  refine (braced_lay (.func id) #[.pointer (some ⟨B, 0, none⟩)] #[] W).mono fun e w' ⟨hee, hw⟩ => ⟨_, _, hee, ?_⟩
  have hB := h.2.lt
  have hb : Below W.heap.size W w' := by
    rw [hw]; exact ((Below.refl _ _).alloc (Nat.le_refl _) _).alloc (by simp) _
  have hE : Ext B W w' := Ext.below hb hB
  have hP : Ps B T E w' s := h.2.below hb
  have k1 : Blk w' W.heap.size 101 #[.pointer (some ⟨B, 0, none⟩)] := by rw [hw]; exact (blk_at rfl).alloc _
  have k2 : Blk w' (W.heap.size + 1) 57 #[.func (.func id) #[.pointer (some ⟨B, 0, none⟩)] #[]] := by rw [hw]; exact blk_at (by simp)
  have hn : ∀ g, W.heap.size ≤ g → ¬ Own B w' g := fun g hg ho => not_own_ge h.2 hg ((own_same (hb.block B hB) g).1 ho)
  refine ⟨⟨h.1.trans hE, hP⟩, hE, 242, _, _, rfl, ent173, fun w s1 hx hp hr => ?_⟩
  exact bracedc_any (fun W1 h1 => ⟨((hx.trans h1).blk k1 (hn _ (Nat.le_refl _))).cell 0, ((hx.trans h1).blk k2 (hn _ (by omega))).cell 0⟩) hen
    (fun m hm W1 s2 _ h2 h3 => hit m hm W1 s2 h2 h3) hp hr

set_option maxHeartbeats 8000000 in
set_option maxRecDepth 100000 in
theorem unlessc_any {B T E : Nat} {w : World} {s : S3} {gp ge gi : Nat} {x : ByteArray} {en : List UInt8} {f : F3} {id : FuncId} (he : x.data.toList = en)
    (hbx : ∀ W, Ext B w W → W.cell? ⟨gp, 0, none⟩ = some (.pointer (some ⟨B, 0, none⟩)) ∧ W.cell? ⟨ge, 0, none⟩ = some (.string x) ∧ W.cell? ⟨gi, 0, none⟩ = some (.func (.func id) #[.pointer (some ⟨B, 0, none⟩)] #[]))
    (hen : Ent id) (hit : FnC B T E id f) (hno : FnC B T E 246 (nothingF E))
    (h : Ps B T E w s) (hr : unlessF E en f s ≠ .out) :
    Calls Tryz.prog 277 #[.pointer (some ⟨gp, 0, none⟩), .pointer (some ⟨ge, 0, none⟩), .pointer (some ⟨gi, 0, none⟩)] w (Did B T E w (unlessF E en f s)) := by
  obtain ⟨r, hrr⟩ : ∃ r, r = unlessF E en f s := ⟨_, rfl⟩
  rw [← hrr] at hr ⊢
  obtain ⟨Q, hQ⟩ : ∃ Q : Ending → World → Prop, Q = Did B T E w r := ⟨_, rfl⟩
  rw [← hQ]
  have HQ := Lib.hid hQ
  have HR := Lib.hid hr
  change r = (if (pk E s.L).t = en then nothingF E s else f s) at hrr
  have Hrr := Lib.hid hrr
  have HBx := Lib.hid hbx
  have HIt := Lib.hid hit
  have HNo := Lib.hid hno
  have HEn := Lib.hid hen
  have hB := h.lt
  have hpd := h.drew
  have HX0 : Hid (Ext B w w.drew) := (Ext.refl _ _).drew
  have S1 : Hid (∀ W, Ext B w.drew W → W.cell? ⟨gp, 0, none⟩ = some (.pointer (some ⟨B, 0, none⟩)) ∧ W.cell? ⟨ge, 0, none⟩ = some (.string x)) := fun W hW => ⟨(HBx.out W (HX0.out.trans hW)).1, (HBx.out W (HX0.out.trans hW)).2.1⟩
  have S0 : Hid (w.drew.cell? ⟨gp, 0, none⟩ = some (.pointer (some ⟨B, 0, none⟩)) ∧ w.drew.cell? ⟨ge, 0, none⟩ = some (.string x)) := S1.out _ (Ext.refl _ _)
  by_cases ht : (pk E s.L).t = en
  · have hse := sees_yes hpd x he ht
    have HR2 : Hid (r = nothingF E s) := by have h := Hrr.out; rw [if_pos ht] at h; exact h
    clear hQ hr hrr hbx hit hno hen h hpd ht he
    go_enter Tryz.func277, Tryz.ntmps277
    go_wp2
    go_region_held3 (fun W => W.cell? ⟨gp, 0, none⟩ = some (.pointer (some ⟨B, 0, none⟩)) ∧ W.cell? ⟨ge, 0, none⟩ = some (.string x))
      (first | exact S0.out | exact S1.out _ hx5)
      (first | (go_at_call 161; refine hse.mono ?_; rintro e w5 ⟨rfl, hx5, hp5⟩))
    have hcall := HNo.out w5 s hp5 (by rw [← HR2.out]; exact HR.out)
    rw [← HR2.out] at hcall
    have HX5 := Lib.hid (HX0.out.trans hx5)
    have cp := (HBx.out w5 HX5.out).1
    clear hx5 hp5 hse S0 S1
    go_wp2_with (go_at_call 246; refine hcall.mono ?_)
    intro e w6 hd
    obtain ⟨v, rfl, hd⟩ := did_ret hd HR.out
    have HD := Lib.hid (did_ext hd HX5.out)
    clear hd hcall
    go_wp2
    (try go_ret)
    rw [HQ.out]
    exact HD.out
  · have hse := sees_no hpd x he ht
    have HR2 : Hid (r = f s) := by have h := Hrr.out; rw [if_neg ht] at h; exact h
    clear hQ hr hrr hbx hit hno hen h hpd ht he
    go_enter Tryz.func277, Tryz.ntmps277
    go_wp2
    go_region_held3 (fun W => W.cell? ⟨gp, 0, none⟩ = some (.pointer (some ⟨B, 0, none⟩)) ∧ W.cell? ⟨ge, 0, none⟩ = some (.string x))
      (first | exact S0.out | exact S1.out _ hx5)
      (first | (go_at_call 161; refine hse.mono ?_; rintro e w5 ⟨rfl, hx5, hp5⟩))
    have hcall := HIt.out w5 s hp5 (by rw [← HR2.out]; exact HR.out)
    rw [← HR2.out] at hcall
    have HX5 := Lib.hid (HX0.out.trans hx5)
    have ci := (HBx.out w5 HX5.out).2.2
    have hent := HEn.out
    unfold Ent at hent
    clear hx5 hp5 hse S0 S1
    go_wp2_with (refine hcall.mono ?_)
    intro e w6 hd
    obtain ⟨v, rfl, hd⟩ := did_ret hd HR.out
    have HD := Lib.hid (did_ext hd HX5.out)
    clear hd hcall hent ci
    go_wp2
    (try go_ret)
    rw [HQ.out]
    exact HD.out
theorem unless_now {B T E : Nat} {s : S3} {W0 W : World} (h : Now B T E s W0 W) (x : ByteArray) {en : List UInt8} (he : x.data.toList = en) (f : F3) (id : FuncId) (hen : Ent id) (hit : FnC B T E id f) (hno : FnC B T E 246 (nothingF E)) :
    Calls Tryz.prog 265 #[.pointer (some ⟨B, 0, none⟩), .string x, .func (.func id) #[.pointer (some ⟨B, 0, none⟩)] #[]] W fun e w' => ∃ g1 g2 g3, e = .returned (.func (.func 277) #[] #[.pointer (some ⟨g1, 0, none⟩), .pointer (some ⟨g2, 0, none⟩), .pointer (some ⟨g3, 0, none⟩)]) ∧
      Now B T E s W0 w' ∧ Ext B W w' ∧ StepV B T E w' (.func (.func 277) #[] #[.pointer (some ⟨g1, 0, none⟩), .pointer (some ⟨g2, 0, none⟩), .pointer (some ⟨g3, 0, none⟩)]) (unlessF E en f) := by
  refine (unless_lay x (.func id) #[.pointer (some ⟨B, 0, none⟩)] #[] W).mono fun e w' ⟨hee, hw⟩ => ⟨_, _, _, hee, ?_⟩
  have hB := h.2.lt
  have hb : Below W.heap.size W w' := by
    rw [hw]; exact (((Below.refl _ _).alloc (Nat.le_refl _) _).alloc (by simp) _).alloc (by simp; omega) _
  have hE : Ext B W w' := Ext.below hb hB
  have hP : Ps B T E w' s := h.2.below hb
  have k1 : Blk w' W.heap.size 101 #[.pointer (some ⟨B, 0, none⟩)] := by rw [hw]; exact ((blk_at rfl).alloc _).alloc _
  have k2 : Blk w' (W.heap.size + 1) 9 #[.string x] := by rw [hw]; exact (blk_at (by simp)).alloc _
  have k3 : Blk w' (W.heap.size + 1 + 1) 57 #[.func (.func id) #[.pointer (some ⟨B, 0, none⟩)] #[]] := by rw [hw]; exact blk_at (by simp)
  have hn : ∀ g, W.heap.size ≤ g → ¬ Own B w' g := fun g hg ho => not_own_ge h.2 hg ((own_same (hb.block B hB) g).1 ho)
  refine ⟨⟨h.1.trans hE, hP⟩, hE, 277, _, _, rfl, ent200, fun w s1 hx hp hr => ?_⟩
  exact unlessc_any he (fun W1 h1 => ⟨((hx.trans h1).blk k1 (hn _ (Nat.le_refl _))).cell 0, ((hx.trans h1).blk k2 (hn _ (by omega))).cell 0, ((hx.trans h1).blk k3 (hn _ (by omega))).cell 0⟩) hen hit hno hp hr
end Go.Proofs.YtbjacclfhgnffaaGreatDoor
/-
  Contracts of the small functions of the unit parser.
-/
namespace Go.Proofs.YtbjacclfhgnffaaGreatDoor
open Go.RowKit
open Tk (T4 bstr)
open Tr (Nd Blk KidsAt)

set_option maxHeartbeats 16000000 in
set_option maxRecDepth 100000 in
theorem nothing_fn {B T E : Nat} : FnC B T E 246 (nothingF E) := fun w s h hr => by
  obtain ⟨r, hrr⟩ : ∃ r, r = nothingF E s := ⟨_, rfl⟩
  rw [← hrr] at hr ⊢
  obtain ⟨Q, hQ⟩ : ∃ Q : Ending → World → Prop, Q = Did B T E w r := ⟨_, rfl⟩
  rw [← hQ]
  have HQ := Lib.hid hQ
  have HR := Lib.hid hr
  have hB := h.lt
  clear hQ hr
  obtain ⟨t, ht⟩ : ∃ t, t = pk E s.L := ⟨_, rfl⟩
  obtain ⟨x, hx⟩ : ∃ x, x = bstr t.t := ⟨_, rfl⟩
  have hpk : ∀ W, Now B T E s w.drew W → Calls Tryz.prog 59 #[.pointer (some ⟨B, 0, none⟩)] W fun e w' => e = .returned (.agg #[.int .i64 t.k, .string x, .int .i64 t.v, .int .i64 t.a]) ∧ Now B T E s w.drew w' ∧ Ext B W w' := fun W hW => by
    have h := peek_now hW
    rw [← ht, ← hx] at h
    exact h
  change r = buildF (mk 24 [] 0 (pk E s.L).a) [] s at hrr
  rw [← ht] at hrr
  have Hrr := Lib.hid hrr
  have HX0 : Hid (Ext B w w.drew) := (Ext.refl _ _).drew
  have N0 : Hid (Now B T E s w.drew w.drew) := Now.refl h.drew
  have hf := fldT3
  clear hrr ht hx h
  go_enter Tryz.func246, Tryz.ntmps246
  go_wp2
  have HW0 : Hid (∀ W, Now B T E s w.drew W → Calls Tryz.prog 59 #[.pointer (some ⟨B, 0, none⟩)] W fun e w' => e = .returned (.agg #[.int .i64 t.k, .string x, .int .i64 t.v, .int .i64 t.a]) ∧ Now B T E s w.drew w' ∧ Ext B W w') := hpk
  have HN : Hid (∀ W, Now B T E s w.drew W → Calls Tryz.prog 76 #[.pointer (some ⟨B, 2, none⟩), .agg #[.int .i64 24, .string ⟨#[]⟩, .int .i64 0, .int .i64 0, .slice none 0 0, .int .i64 t.a], .slice none 0 0] W (Ends B T E w.drew r)) := fun W hW => by
      have h := (build_nil hW.2 (mk 24 [] 0 t.a) rfl (by rw [← Hrr.out]; exact HR.out)).mono fun e w1 he => (show Ends B T E w.drew _ e w1 from by obtain ⟨v, rfl, hd, hx⟩ := he; exact ⟨v, rfl, did_ext hd hW.1, hW.1.trans hx⟩)
      rw [← Hrr.out] at h
      exact h
  go_region_held3 (fun W => True)
    (first | exact trivial)
    (first | (go_at_call 59; first | ((with_reducible refine (HW0.out _ N0.out).mono ?_); rintro e w0_ ⟨rfl, hn0, hx0⟩)) | (go_at_call 76; refine (HN.out _  hn0).mono ?_; rintro e w9 ⟨v, rfl, hd, hx9⟩))
  all_goals
    have HD := Lib.hid (did_ext hd HX0.out)
    clear hd hx9
    go_wp2
    (try go_ret)
    rw [HQ.out]
    exact HD.out

set_option maxHeartbeats 16000000 in
set_option maxRecDepth 100000 in
theorem effect_fn {B T E : Nat} {ex : F3} (hex : FnC B T E 29 ex) : FnC B T E 247 (effectF E ex) := fun w s h hr => by
  obtain ⟨r, hrr⟩ : ∃ r, r = effectF E ex s := ⟨_, rfl⟩
  rw [← hrr] at hr ⊢
  obtain ⟨Q, hQ⟩ : ∃ Q : Ending → World → Prop, Q = Did B T E w r := ⟨_, rfl⟩
  rw [← hQ]
  have HQ := Lib.hid hQ
  have HR := Lib.hid hr
  have hB := h.lt
  clear hQ hr
  obtain ⟨t, ht⟩ : ∃ t, t = pk E s.L := ⟨_, rfl⟩
  obtain ⟨x, hx⟩ : ∃ x, x = bstr t.t := ⟨_, rfl⟩
  have hpk : ∀ W, Now B T E s w.drew W → Calls Tryz.prog 59 #[.pointer (some ⟨B, 0, none⟩)] W fun e w' => e = .returned (.agg #[.int .i64 t.k, .string x, .int .i64 t.v, .int .i64 t.a]) ∧ Now B T E s w.drew w' ∧ Ext B W w' := fun W hW => by
    have h := peek_now hW
    rw [← ht, ← hx] at h
    exact h
  change r = buildF (mk 13 [] 0 (pk E s.L).a) [ex] s at hrr
  rw [← ht] at hrr
  have Hrr := Lib.hid hrr
  have HX0 : Hid (Ext B w w.drew) := (Ext.refl _ _).drew
  have N0 : Hid (Now B T E s w.drew w.drew) := Now.refl h.drew
  have hf := fldT3
  clear hrr ht hx h
  go_enter Tryz.func247, Tryz.ntmps247
  go_wp2
  have HW0 : Hid (∀ W, Now B T E s w.drew W → Calls Tryz.prog 59 #[.pointer (some ⟨B, 0, none⟩)] W fun e w' => e = .returned (.agg #[.int .i64 t.k, .string x, .int .i64 t.v, .int .i64 t.a]) ∧ Now B T E s w.drew w' ∧ Ext B W w') := hpk
  have HN : Hid (∀ W, Now B T E s w.drew W → Calls Tryz.prog 76 #[.pointer (some ⟨B, 2, none⟩), .agg #[.int .i64 13, .string ⟨#[]⟩, .int .i64 0, .int .i64 0, .slice none 0 0, .int .i64 t.a], .slice (some ⟨W.heap.size, 0, none⟩) 1 1] (W.alloc (.cells #[.func (.func 29) #[.pointer (some ⟨B, 0, none⟩)] #[]] 57)) (Ends B T E w.drew r)) := fun W hW => by
      have h := build_now hW [.func (.func 29) #[.pointer (some ⟨B, 0, none⟩)] #[]] [ex] rfl (by simp) (step1 (stepFn hex ent21 W)) (mk 13 [] 0 t.a) rfl (by rw [← Hrr.out]; exact HR.out) 57
      rw [← Hrr.out] at h
      exact h
  have HE : Hid (∀ W W1, Now B T E s w.drew W → Now B T E s w.drew W1 → Ext B (W.alloc (.cells #[.func (.func 29) #[.pointer (some ⟨B, 0, none⟩)] #[]] 57)) W1 → Calls Tryz.prog 76 #[.pointer (some ⟨B, 2, none⟩), .agg #[.int .i64 13, .string ⟨#[]⟩, .int .i64 0, .int .i64 0, .slice none 0 0, .int .i64 t.a], .slice (some ⟨W.heap.size, 0, none⟩) 1 1] W1 (Ends B T E w.drew r)) := fun W W1 hW hW1 hx => by
      have h := (build_any (cap := 1) hW1.2 ((steps_new hW [.func (.func 29) #[.pointer (some ⟨B, 0, none⟩)] #[]] [ex] rfl (by simp) (step1 (stepFn hex ent21 W)) 57).ext hx) (mk 13 [] 0 t.a) rfl (by rw [← Hrr.out]; exact HR.out)).mono fun e w9 hd => ends_of hd (by rw [← Hrr.out]; exact HR.out) hW1.1
      rw [← Hrr.out] at h
      exact h
  go_region_held3 (fun W => True)
    (first | exact trivial)
    (first | (go_at_call 59; first | ((with_reducible refine (HW0.out _ N0.out).mono ?_); rintro e w0_ ⟨rfl, hn0, hx0⟩) | (refine (HW0.out _ (N0.out.alloc _)).mono ?_; rintro e w0_ ⟨rfl, hn0, hx0⟩)) | (go_at_call 76; first | ((with_reducible refine (HN.out _ hn0).mono ?_); rintro e w9 ⟨v, rfl, hd, hx9⟩) | (refine (HE.out _ _ N0.out hn0 hx0).mono ?_; rintro e w9 ⟨v, rfl, hd, hx9⟩)))
  all_goals
    have HD := Lib.hid (did_ext hd HX0.out)
    clear hd hx9
    go_wp2
    (try go_ret)
    rw [HQ.out]
    exact HD.out

set_option maxHeartbeats 16000000 in
set_option maxRecDepth 100000 in
theorem condition_fn {B T E : Nat} {ex : F3} (hex : FnC B T E 29 ex) : FnC B T E 261 (conditionF E ex) := fun w s h hr => by
  obtain ⟨r, hrr⟩ : ∃ r, r = conditionF E ex s := ⟨_, rfl⟩
  rw [← hrr] at hr ⊢
  obtain ⟨Q, hQ⟩ : ∃ Q : Ending → World → Prop, Q = Did B T E w r := ⟨_, rfl⟩
  rw [← hQ]
  have HQ := Lib.hid hQ
  have HR := Lib.hid hr
  have hB := h.lt
  clear hQ hr
  have Hrr : Hid (r = seqF [wordF E [40], ex, wordF E [41]] s) := hrr
  have HX0 : Hid (Ext B w w.drew) := (Ext.refl _ _).drew
  have N0 : Hid (Now B T E s w.drew w.drew) := Now.refl h.drew
  clear hrr h
  go_enter Tryz.func261, Tryz.ntmps261
  go_wp2
  have HW0 : Hid (∀ W, Now B T E s w.drew W → Calls Tryz.prog 61 #[.pointer (some ⟨B, 0, none⟩), .string ⟨#[40]⟩] W fun e w' => ∃ g1 g2, e = .returned (.func (.func 110) #[] #[.pointer (some ⟨g1, 0, none⟩), .pointer (some ⟨g2, 0, none⟩)]) ∧ Now B T E s w.drew w' ∧ Ext B W w' ∧ StepV B T E w' (.func (.func 110) #[] #[.pointer (some ⟨g1, 0, none⟩), .pointer (some ⟨g2, 0, none⟩)]) (wordF E [40])) := fun W hW => word_now hW ⟨#[40]⟩
  have HW1 : Hid (∀ W, Now B T E s w.drew W → Calls Tryz.prog 61 #[.pointer (some ⟨B, 0, none⟩), .string ⟨#[41]⟩] W fun e w' => ∃ g1 g2, e = .returned (.func (.func 110) #[] #[.pointer (some ⟨g1, 0, none⟩), .pointer (some ⟨g2, 0, none⟩)]) ∧ Now B T E s w.drew w' ∧ Ext B W w' ∧ StepV B T E w' (.func (.func 110) #[] #[.pointer (some ⟨g1, 0, none⟩), .pointer (some ⟨g2, 0, none⟩)]) (wordF E [41])) := fun W hW => word_now hW ⟨#[41]⟩
  have HN : Hid (∀ W v0 v2, Now B T E s w.drew W → StepV B T E W v0 (wordF E [40]) → StepV B T E W v2 (wordF E [41]) → Calls Tryz.prog 27 #[.slice (some ⟨W.heap.size, 0, none⟩) 3 3] (W.alloc (.cells #[v0, .func (.func 29) #[.pointer (some ⟨B, 0, none⟩)] #[], v2] 57)) (Ends B T E w.drew r)) := fun W v0 v2 hW h0 h2 => by
      have h := turn_now hW [v0, .func (.func 29) #[.pointer (some ⟨B, 0, none⟩)] #[], v2] [wordF E [40], ex, wordF E [41]] rfl (by simp) (step3 (h0) (stepFn hex ent21 W) (h2)) (by rw [← Hrr.out]; exact HR.out) 57
      rw [← Hrr.out] at h
      exact h
  go_region_held3 (fun W => True)
    (first | exact trivial)
    (first | (go_at_call 61; first | ((with_reducible refine (HW0.out _ N0.out).mono ?_); rintro e w0_ ⟨q00, q01, rfl, hn0, hx0, hs0⟩) | ((with_reducible refine (HW1.out _ hn0).mono ?_); rintro e w1_ ⟨q10, q11, rfl, hn1, hx1, hs1⟩)) | (go_at_call 27; refine (HN.out _ _ _ hn1 (StepV.ext hs0 hx1) hs1).mono ?_; rintro e w9 ⟨v, rfl, hd, hx9⟩))
  all_goals
    have HD := Lib.hid (did_ext hd HX0.out)
    clear hd hx9
    go_wp2
    (try go_ret)
    rw [HQ.out]
    exact HD.out

set_option maxHeartbeats 16000000 in
set_option maxRecDepth 100000 in
theorem told_fn {B T E : Nat} {ex : F3} (hex : FnC B T E 29 ex) : FnC B T E 245 (toldF E ex) := fun w s h hr => by
  obtain ⟨r, hrr⟩ : ∃ r, r = toldF E ex s := ⟨_, rfl⟩
  rw [← hrr] at hr ⊢
  obtain ⟨Q, hQ⟩ : ∃ Q : Ending → World → Prop, Q = Did B T E w r := ⟨_, rfl⟩
  rw [← hQ]
  have HQ := Lib.hid hQ
  have HR := Lib.hid hr
  have hB := h.lt
  clear hQ hr
  have Hrr : Hid (r = if (pk E s.L).t = [59] then .ok s else ex s) := hrr
  have Hh := Lib.hid h
  clear hrr
  by_cases ht : (pk E s.L).t = [59]
  · have htk := sees_yes Hh.out ⟨#[59]⟩ rfl ht
    have HR2 : Hid (r = .ok s) := by have h := Hrr.out; rw [if_pos ht] at h; exact h
    clear ht h
    go_enter Tryz.func245, Tryz.ntmps245
    go_wp2_with (go_at_call 161; refine htk.mono ?_; rintro e w1 ⟨rfl, hx1, hp1⟩)
    have HX1 := Lib.hid hx1
    have HP1 := Lib.hid hp1
    clear hx1 hp1 htk
    (try go_wp2)
    (try go_ret)
    rw [HQ.out, HR2.out]
    exact ⟨rfl, HX1.out, HP1.out⟩
  · have htk := sees_no Hh.out ⟨#[59]⟩ rfl ht
    have HR2 : Hid (r = ex s) := by have h := Hrr.out; rw [if_neg ht] at h; exact h
    clear ht h
    go_enter Tryz.func245, Tryz.ntmps245
    go_wp2_with (go_at_call 161; refine htk.mono ?_; rintro e w1 ⟨rfl, hx1, hp1⟩)
    have hcall := hex w1 _ hp1 (by rw [← HR2.out]; exact HR.out)
    rw [← HR2.out] at hcall
    have HX1 := Lib.hid hx1
    clear hx1 hp1 htk
    refine hcall.mono ?_
    intro e w2 hd
    obtain ⟨v, rfl, hd⟩ := did_ret hd HR.out
    have HD := Lib.hid (did_ext hd HX1.out)
    clear hd hcall
    go_wp2
    (try go_ret)
    rw [HQ.out]
    exact HD.out

set_option maxHeartbeats 16000000 in
set_option maxRecDepth 100000 in
theorem initial_fn {B T E : Nat} {ex : F3} (hex : FnC B T E 29 ex) : FnC B T E 172 (initialF E ex) := fun w s h hr => by
  obtain ⟨r, hrr⟩ : ∃ r, r = initialF E ex s := ⟨_, rfl⟩
  rw [← hrr] at hr ⊢
  obtain ⟨Q, hQ⟩ : ∃ Q : Ending → World → Prop, Q = Did B T E w r := ⟨_, rfl⟩
  rw [← hQ]
  have HQ := Lib.hid hQ
  have HR := Lib.hid hr
  have hB := h.lt
  clear hQ hr
  have Hrr : Hid (r = if (pk E s.L).t = [61] then ex { s with L := s.L.tail } else .ok s) := hrr
  have Hh := Lib.hid h
  clear hrr
  by_cases ht : (pk E s.L).t = [61]
  · have htk := took_yes Hh.out ⟨#[61]⟩ rfl ht
    have HR2 : Hid (r = ex { s with L := s.L.tail }) := by have h := Hrr.out; rw [if_pos ht] at h; exact h
    clear ht h
    go_enter Tryz.func172, Tryz.ntmps172
    go_wp2_with (go_at_call 111; refine htk.mono ?_; rintro e w1 ⟨rfl, hx1, hp1⟩)
    have hcall := hex w1 _ hp1 (by rw [← HR2.out]; exact HR.out)
    rw [← HR2.out] at hcall
    have HX1 := Lib.hid hx1
    clear hx1 hp1 htk
    refine hcall.mono ?_
    intro e w2 hd
    obtain ⟨v, rfl, hd⟩ := did_ret hd HR.out
    have HD := Lib.hid (did_ext hd HX1.out)
    clear hd hcall
    go_wp2
    (try go_ret)
    rw [HQ.out]
    exact HD.out
  · have htk := took_no Hh.out ⟨#[61]⟩ rfl ht
    have HR2 : Hid (r = .ok s) := by have h := Hrr.out; rw [if_neg ht] at h; exact h
    clear ht h
    go_enter Tryz.func172, Tryz.ntmps172
    go_wp2_with (go_at_call 111; refine htk.mono ?_; rintro e w1 ⟨rfl, hx1, hp1⟩)
    have HX1 := Lib.hid hx1
    have HP1 := Lib.hid hp1
    clear hx1 hp1 htk
    (try go_wp2)
    (try go_ret)
    rw [HQ.out, HR2.out]
    exact ⟨rfl, HX1.out, HP1.out⟩

set_option maxHeartbeats 16000000 in
set_option maxRecDepth 100000 in
theorem else_fn {B T E : Nat} {bo : F3} (hbo : FnC B T E 262 bo) : FnC B T E 263 (fun s : S3 => if (pk E s.L).t = [101, 108, 115, 101] then bo { s with L := s.L.tail } else .ok s) := fun w s h hr => by
  obtain ⟨r, hrr⟩ : ∃ r, r = (fun s : S3 => if (pk E s.L).t = [101, 108, 115, 101] then bo { s with L := s.L.tail } else .ok s) s := ⟨_, rfl⟩
  rw [← hrr] at hr ⊢
  obtain ⟨Q, hQ⟩ : ∃ Q : Ending → World → Prop, Q = Did B T E w r := ⟨_, rfl⟩
  rw [← hQ]
  have HQ := Lib.hid hQ
  have HR := Lib.hid hr
  have hB := h.lt
  clear hQ hr
  have Hrr : Hid (r = if (pk E s.L).t = [101, 108, 115, 101] then bo { s with L := s.L.tail } else .ok s) := hrr
  have Hh := Lib.hid h
  clear hrr
  by_cases ht : (pk E s.L).t = [101, 108, 115, 101]
  · have htk := took_yes Hh.out ⟨#[101, 108, 115, 101]⟩ rfl ht
    have HR2 : Hid (r = bo { s with L := s.L.tail }) := by have h := Hrr.out; rw [if_pos ht] at h; exact h
    clear ht h
    go_enter Tryz.func263, Tryz.ntmps263
    go_wp2_with (go_at_call 111; refine htk.mono ?_; rintro e w1 ⟨rfl, hx1, hp1⟩)
    have hcall := hbo w1 _ hp1 (by rw [← HR2.out]; exact HR.out)
    rw [← HR2.out] at hcall
    have HX1 := Lib.hid hx1
    clear hx1 hp1 htk
    refine hcall.mono ?_
    intro e w2 hd
    obtain ⟨v, rfl, hd⟩ := did_ret hd HR.out
    have HD := Lib.hid (did_ext hd HX1.out)
    clear hd hcall
    go_wp2
    (try go_ret)
    rw [HQ.out]
    exact HD.out
  · have htk := took_no Hh.out ⟨#[101, 108, 115, 101]⟩ rfl ht
    have HR2 : Hid (r = .ok s) := by have h := Hrr.out; rw [if_neg ht] at h; exact h
    clear ht h
    go_enter Tryz.func263, Tryz.ntmps263
    go_wp2_with (go_at_call 111; refine htk.mono ?_; rintro e w1 ⟨rfl, hx1, hp1⟩)
    have HX1 := Lib.hid hx1
    have HP1 := Lib.hid hp1
    clear hx1 hp1 htk
    (try go_wp2)
    (try go_ret)
    rw [HQ.out, HR2.out]
    exact ⟨rfl, HX1.out, HP1.out⟩

end Go.Proofs.YtbjacclfhgnffaaGreatDoor
/-
  What moves through the words alone, and leaves the nodes as they are.
-/
namespace Go.Proofs.YtbjacclfhgnffaaGreatDoor
open Go.RowKit
open Tk (T4 bstr)
open Tr (Nd Blk KidsAt)

theorem box6f {w : World} {g : Nat} {t : TypeId} {x0 x1 x2 x3 x4 x5 : Value} (h : Blk w g t #[x0, x1, x2, x3, x4, x5]) :
    w.cell? ⟨g, 0, none⟩ = some x0 ∧ w.cell? ⟨g, 1, none⟩ = some x1 ∧ w.cell? ⟨g, 2, none⟩ = some x2 ∧ w.cell? ⟨g, 3, none⟩ = some x3 ∧ w.cell? ⟨g, 4, none⟩ = some x4 ∧ w.cell? ⟨g, 5, none⟩ = some x5 ∧ w.frozen? ⟨g, 0, none⟩ = false ∧ w.frozen? ⟨g, 1, none⟩ = false ∧ w.frozen? ⟨g, 2, none⟩ = false ∧ w.frozen? ⟨g, 3, none⟩ = false ∧ w.frozen? ⟨g, 4, none⟩ = false ∧ w.frozen? ⟨g, 5, none⟩ = false ∧ g < w.heap.size :=
  ⟨by rw [h.cell]; rfl, by rw [h.cell]; rfl, by rw [h.cell]; rfl, by rw [h.cell]; rfl, by rw [h.cell]; rfl, by rw [h.cell]; rfl, h.frozen 0, h.frozen 1, h.frozen 2, h.frozen 3, h.frozen 4, h.frozen 5, h.lt⟩
/-- the words lie in the block where they lay -/
def TB (v v' : Value) : Prop := ∀ p n cap, v' = .slice p n cap → 0 < cap → ∀ b o, p = some ⟨b, o, none⟩ → ∃ o' n' cap', v = .slice (some ⟨b, o', none⟩) n' cap' ∧ 0 < cap'
theorem TB.refl (v : Value) : TB v v := fun p n cap h h0 b o hp => ⟨o, n, cap, by rw [h, hp], h0⟩
theorem TB.trans {a b c : Value} (h : TB a b) (k : TB b c) : TB a c := fun p n cap e e0 bb o hp => by
  obtain ⟨o1, n1, c1, e1, h1⟩ := k p n cap e e0 bb o hp
  exact h _ _ _ e1 h1 bb o1 rfl
structure Mv (B T E : Nat) (w : World) (s : S3) (w' : World) (s' : S3) : Prop where
  ext : Ext B w w'
  ps : ∀ vT vN vL ns, PS B T E w s vT vN vL ns → ∃ vT', PS B T E w' s' vT' vN vL ns ∧ TB vT vT'
theorem Mv.of {B T E : Nat} {w w' : World} {s s' : S3} (h : Mv B T E w s w' s') (hp : Ps B T E w s) : Ps B T E w' s' := by
  obtain ⟨a, b, c, d, hp⟩ := hp
  obtain ⟨e, hp, _⟩ := h.ps _ _ _ _ hp
  exact ⟨_, _, _, _, hp⟩
theorem Mv.trans {B T E : Nat} {w w1 w2 : World} {s s1 s2 : S3} (h : Mv B T E w s w1 s1) (k : Mv B T E w1 s1 w2 s2) : Mv B T E w s w2 s2 :=
  ⟨h.ext.trans k.ext, fun vT vN vL ns hp => by
    obtain ⟨v1, h1, t1⟩ := h.ps _ _ _ _ hp
    obtain ⟨v2, h2, t2⟩ := k.ps _ _ _ _ h1
    exact ⟨v2, h2, t1.trans t2⟩⟩
theorem Mv.below {B T E : Nat} {w w' : World} {s : S3} (h : Ps B T E w s) (hb : Below w.heap.size w w') : Mv B T E w s w' s :=
  ⟨Ext.below hb h.lt, fun vT _ _ _ hp => ⟨vT, hp.below hb, TB.refl _⟩⟩
theorem Mv.alloc {B T E : Nat} {w : World} {s : S3} (h : Ps B T E w s) (o : Obj) : Mv B T E w s (w.alloc o) s := Mv.below h ((Below.refl _ _).alloc (Nat.le_refl _) _)
/-- a cell of a block that was new -/
theorem Mv.set {B T E : Nat} {w W : World} {s s' : S3} (h : Mv B T E w s W s') (hp : Ps B T E w s) {g o : Nat} (hg : w.heap.size ≤ g) (hn : ¬ Own B W g) (v : Value) : Mv B T E w s (W.setCell ⟨g, o, none⟩ v) s' := by
  have hBg : B ≠ g := fun e => hn (Or.inl e.symm)
  have hk : ∀ b, b ≠ g → (W.setCell ⟨g, o, none⟩ v).heap[b]? = W.heap[b]? := fun b hb => Below.heap_setCell _ _ _ _ hb
  have hO : ∀ b, Own B (W.setCell ⟨g, o, none⟩ v) b ↔ Own B W b := own_same (hk B hBg)
  have hsz : (W.setCell ⟨g, o, none⟩ v).heap.size = W.heap.size := by simp [World.setCell]
  refine ⟨⟨h.ext.os, h.ext.tape, h.ext.output, by rw [hsz]; exact h.ext.size, fun b hb hnb => (hk b (by omega)).trans (h.ext.block b hb hnb), fun b ho => h.ext.own b ((hO b).1 ho)⟩, fun vT vN vL ns hps => ?_⟩
  obtain ⟨vT', hq, ht⟩ := h.ps _ _ _ _ hps
  refine ⟨vT', ?_, ht⟩
  have hNg : vN.ownBlock ≠ some g := fun e => hn ((hq.own_cases g).2 (Or.inr (Or.inl e)))
  have hLg : vL.ownBlock ≠ some g := fun e => hn ((hq.own_cases g).2 (Or.inr (Or.inr e)))
  have hgr : W.grownBy (W.setCell ⟨g, o, none⟩ v) (some g) := ⟨rfl, rfl, rfl, by rw [hsz]; exact Nat.le_refl _, fun k hk1 hk2 => hk k (by intro e; exact hk2 (by rw [e]))⟩
  refine { box := (hk B hBg).trans hq.box, tok := ?_, nod := hq.nod.kept hgr (Or.inr hNg), kid := ?_, loo := hq.loo.kept hgr (Or.inr hLg), sep := hq.sep, eqN := hq.eqN, lenO := hq.lenO, lenN := hq.lenN, lenL := hq.lenL, kl := hq.kl }
  · obtain ⟨p, cap, hv, h1, h2, h3⟩ := hq.tok
    refine ⟨p, cap, hv, h1, h2, fun hc => ?_⟩
    obtain ⟨b, o', hp', hl, hn', ht'⟩ := h3 hc
    obtain ⟨o1, n1, c1, hv1, hc1⟩ := ht p _ cap hv hc b o' hp'
    obtain ⟨p0, cap0, hv0, k1, k2, k3⟩ := hps.tok
    rw [hv1] at hv0
    cases hv0
    obtain ⟨b0, o0, hp0, hl0, _, _⟩ := k3 hc1
    cases hp0
    exact ⟨b, o', hp', by rw [hsz]; exact hl, fun ho => hn' ((hO b).1 ho), ht'.same (hk b (by omega))⟩
  · intro i hi h0
    obtain ⟨b, hb0, hp', hl, hn', hc⟩ := hq.kid i hi h0
    obtain ⟨b0, _, hp0, hl0, _, _⟩ := hps.kid i hi h0
    rw [hp'] at hp0
    cases hp0
    exact ⟨b, hb0, hp', by rw [hsz]; exact hl, fun ho => hn' ((hO b).1 ho), fun j hj => (World.cell?_of_block (a := ⟨b, j, none⟩) (hk b (by omega))).trans (hc j hj)⟩
theorem take_close2 {B T E : Nat} {w w1 : World} {s : S3} {vT vN vL v : Value} {ns : List Nd} {L : List T4} (h : PS B T E w s vT vN vL ns) (ht : Toks B w v L) (hv : TB vT v) (hL : L.length ≤ 5000000) (hb : Below w.heap.size w w1)
    {y0 y1 y2 y3 : Value} {o : Obj} : Mv B T E w s ((((((w1.setCell ⟨B, 0, none⟩ v).setCell ⟨w.heap.size, 0, none⟩ y0).setCell ⟨w.heap.size, 1, none⟩ y1).setCell ⟨w.heap.size, 2, none⟩ y2).setCell ⟨w.heap.size, 3, none⟩ y3).alloc o) { s with L := L } := by
  have hW : Below (w.setCell ⟨B, 0, none⟩ v).heap.size (w.setCell ⟨B, 0, none⟩ v) ((((((w1.setCell ⟨B, 0, none⟩ v).setCell ⟨w.heap.size, 0, none⟩ y0).setCell ⟨w.heap.size, 1, none⟩ y1).setCell ⟨w.heap.size, 2, none⟩ y2).setCell ⟨w.heap.size, 3, none⟩ y3).alloc o) := by
    have e : (w.setCell ⟨B, 0, none⟩ v).heap.size = w.heap.size := by simp [World.setCell]
    have hs := hb.size
    rw [e]
    exact (((((below_set hb _ _).setCell (p := ⟨w.heap.size, 0, none⟩) (Nat.le_refl _) _).setCell (p := ⟨w.heap.size, 1, none⟩) (Nat.le_refl _) _).setCell (p := ⟨w.heap.size, 2, none⟩) (Nat.le_refl _) _).setCell (p := ⟨w.heap.size, 3, none⟩) (Nat.le_refl _) _).alloc (by simpa [World.setCell] using hs) _
  have hp := h.set0 ht hL
  refine ⟨(ext_set0 h.box v).trans (Ext.below hW hp.lt), fun vT2 vN2 vL2 ns2 h2 => ⟨v, (h2.set0 ht hL).below hW, ?_⟩⟩
  have e : vT2 = vT := by
    have e0 : w.cell? ⟨B, 0, none⟩ = some vT := by rw [h.box.cell]; rfl
    have e1 : w.cell? ⟨B, 0, none⟩ = some vT2 := by rw [h2.box.cell]; rfl
    rw [e0] at e1; exact (Option.some.inj e1).symm
  rw [e]; exact hv

set_option maxHeartbeats 4000000 in
set_option maxRecDepth 100000 in
theorem take_cons2 {B T E : Nat} {w : World} {s : S3} (h : Ps B T E w s) {t : T4} {L : List T4} (hl : s.L = t :: L) :
    Calls Tryz.prog 106 #[.pointer (some ⟨B, 0, none⟩)] w fun e w' => e = .returned (tokV t) ∧ Mv B T E w s w' { s with L := L } := by
  obtain ⟨x0, hx0⟩ : ∃ x0, x0 = bstr t.t := ⟨_, rfl⟩
  have hp := peek_any (h.alloc (.cells #[.int .i64 0, .string ⟨#[]⟩, .int .i64 0, .int .i64 0] 82))
  have hB := h.lt
  unfold tokV at hp ⊢
  rw [hl] at hp
  change Calls _ _ _ _ (fun e w' => e = .returned (.agg #[.int .i64 t.k, .string (bstr t.t), .int .i64 t.v, .int .i64 t.a]) ∧ _) at hp
  rw [← hx0] at hp ⊢
  have H := Lib.hid h
  have Hl := Lib.hid hl
  clear h hl hx0
  obtain ⟨Q, hQ⟩ : ∃ Q : Ending → World → Prop, Q = fun e w' => e = .returned (.agg #[.int .i64 t.k, .string x0, .int .i64 t.v, .int .i64 t.a]) ∧ Mv B T E w s w' { s with L := L } := ⟨_, rfl⟩
  have HQ := Lib.hid hQ
  rw [← hQ]
  clear hQ
  go_enter Tryz.func106, Tryz.ntmps106
  go_wp2_with (go_at_call 59; refine hp.mono ?_; rintro e w1 ⟨rfl, hb⟩)
  have hb1 : Below w.heap.size w w1 := ((Below.refl _ _).alloc (Nat.le_refl _) _).trans (hb.mono (by simp))
  have HB := Lib.hid hb1
  have hs1 := H.out.below hb1
  have HS := Lib.hid hs1
  have k0 : w1.heap[w.heap.size]? = some (.cells #[.int .i64 0, .string ⟨#[]⟩, .int .i64 0, .int .i64 0] 82 (0, 0)) := (hb.block _ (by simp)).trans (heap_alloc_new w _)
  have K0 : Hid (Blk w1 w.heap.size 82 #[.int .i64 0, .string ⟨#[]⟩, .int .i64 0, .int .i64 0]) := k0
  obtain ⟨⟨c0, c1, c2, c3⟩, ⟨f0, f1, f2, f3⟩, lK⟩ := box4 K0.out
  have he := ended_any (hs1.alloc (.cells #[.int .i64 t.k, .string x0, .int .i64 t.v, .int .i64 t.a] 82))
  have hd : decide (s.L.length = 0) = false := by rw [Hl.out]; simp
  rw [hd] at he
  obtain ⟨vT, vN, vL, ns, h1⟩ := H.out
  obtain ⟨p, cap, rfl, q1, q2, q3⟩ := h1.tok
  have hlen : s.L.length = L.length + 1 := by rw [Hl.out]; rfl
  obtain ⟨b, o, rfl, hlb, hnb, ht⟩ := q3 (by omega)
  have lB : B < w1.heap.size := Nat.lt_of_lt_of_le hB HB.out.size
  have hm := h1.lenL
  have g0 : w1.cell? ⟨B, 0, none⟩ = some (.slice (some ⟨b, o, none⟩) (L.length + 1) cap) := by rw [HB.out.cell (p := ⟨B, 0, none⟩) hB, h1.box.cell, ← hlen]; rfl
  have gf : w1.frozen? ⟨B, 0, none⟩ = false := (HB.out.frozen (p := ⟨B, 0, none⟩) hB).trans (h1.box.frozen 0)
  have hne : B ≠ w.heap.size := by omega
  have HP := Lib.hid h1
  rw [hlen] at q1 hm
  have HTt : Hid (1 < cap → Toks B w (.slice (some ⟨b, o + 4, none⟩) L.length (cap - 1)) L) := fun _ => toks_tail (t := t) rfl q1 q2 hlb hnb (by rw [← Hl.out]; exact ht)
  have Hm : Hid (L.length ≤ 5000000) := Lib.hid (by omega)
  clear hb hb1 k0 hd h1 q3 ht hlen hnb hlb HS
  by_cases hcap : cap = 1
  · subst hcap
    have hL0 : L.length = 0 := by omega
    have HL0 : Hid (L = []) := List.eq_nil_of_length_eq_zero hL0
    rw [hL0] at g0 q1 hm
    clear hL0 HTt
    go_wp2_with (go_at_call 63; refine he.mono ?_; rintro e w' ⟨rfl, rfl⟩)
    refine bodyPost_ret (v := .agg #[.int .i64 t.k, .string x0, .int .i64 t.v, .int .i64 t.a]) (by simp [results, Tryz.results106, go_sem, c0, c1, c2, c3, lK, hne]) rfl ?_
    rw [HQ.out]
    exact ⟨rfl, take_close2 HP.out (by rw [HL0.out]; exact toks_none) (fun _ _ _ e1 e2 => by cases e1; omega) Hm.out HB.out⟩
  · have hc1 : 1 < cap := by omega
    have HT2 := Lib.hid (HTt.out hc1)
    clear HTt
    go_wp2_with (go_at_call 63; refine he.mono ?_; rintro e w' ⟨rfl, rfl⟩)
    refine bodyPost_ret (v := .agg #[.int .i64 t.k, .string x0, .int .i64 t.v, .int .i64 t.a]) (by simp [results, Tryz.results106, go_sem, c0, c1, c2, c3, lK, hne]) rfl ?_
    rw [HQ.out]
    exact ⟨rfl, take_close2 HP.out HT2.out (fun _ _ _ e1 e2 b o e3 => by cases e1; cases e3; exact ⟨_, _, _, rfl, by omega⟩) Hm.out HB.out⟩
theorem take_any2 {B T E : Nat} {w : World} {s : S3} (h : Ps B T E w s) :
    Calls Tryz.prog 106 #[.pointer (some ⟨B, 0, none⟩)] w fun e w' => e = .returned (tokV (pk E s.L)) ∧ Mv B T E w s w' { s with L := s.L.tail } := by
  cases hl : s.L with
  | nil => exact (take_nil h hl).mono fun e w' ⟨he, hb⟩ => ⟨he, by have := Mv.below h hb; obtain ⟨L, N, O⟩ := s; cases hl; exact this⟩
  | cons t L => exact take_cons2 h hl
end Go.Proofs.YtbjacclfhgnffaaGreatDoor
