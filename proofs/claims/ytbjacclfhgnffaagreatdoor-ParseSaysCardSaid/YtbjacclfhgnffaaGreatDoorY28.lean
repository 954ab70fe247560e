/-
  Joined texts of this claim: Vg.
-/
import Derived.Test.YtbjacclfhgnffaaGreatDoorY27
set_option linter.unusedVariables false
set_option linter.unusedSimpArgs false
/-
  The contract of Expr.
-/
namespace Go.Proofs.YtbjacclfhgnffaaGreatDoor
open Go.RowKit
open Tk (T4 SR Scans bstr rowOf)
open Tr (Nd Blk KidsAt Fit)

/-- the world as the parser begins: the results' cells, its box, what read took, the row of steps -/
def World6 (w : World) (T : TypeId) (s : ByteArray) (vs : Array Value) : World :=
  (((((w.alloc (.cells #[.slice none 0 0] 24)).alloc (.cells #[.int .i64 0, .int .i64 0] 26)).alloc (.cells #[.slice none 0 0, .int .i64 0, .slice none 0 0, .slice none 0 0] T)).alloc (.cells #[.pointer (some ⟨w.heap.size + 1 + 1, 0, none⟩)] 84)).alloc (.cells #[.string s] 9)).alloc (.cells vs 57)
structure Six (w W : World) (T : TypeId) (s : ByteArray) (vs : Array Value) : Prop where
  laid : Laid (w.heap.size + 1 + 1) T w W
  res : Blk W w.heap.size 24 #[.slice none 0 0]
  flt : Blk W (w.heap.size + 1) 26 #[.int .i64 0, .int .i64 0]
  ptr : Blk W (w.heap.size + 1 + 1 + 1) 84 #[.pointer (some ⟨w.heap.size + 1 + 1, 0, none⟩)]
  txt : Blk W (w.heap.size + 1 + 1 + 1 + 1) 9 #[.string s]
  row : Blk W (w.heap.size + 1 + 1 + 1 + 1 + 1) 57 vs
theorem blk_new' {w : World} {t : TypeId} {cs : Array Value} {g : Nat} (h : g = w.heap.size) : Blk (w.alloc (.cells cs t)) g t cs := by subst h; exact Blk.new _ _ _
theorem world6 (w : World) (T : TypeId) (s : ByteArray) (vs : Array Value) : Six w (World6 w T s vs) T s vs where
  laid := ⟨((((((Below.refl _ _).alloc (Nat.le_refl _) _).alloc (by simp) _).alloc (by simp; omega) _).alloc (by simp; omega) _).alloc (by simp; omega) _).alloc (by simp; omega) _, (((blk_new' (by simp)).alloc _).alloc _).alloc _, by omega⟩
  res := (((((blk_new' (by simp)).alloc _).alloc _).alloc _).alloc _).alloc _
  flt := ((((blk_new' (by simp)).alloc _).alloc _).alloc _).alloc _
  ptr := ((blk_new' (by simp)).alloc _).alloc _
  txt := (blk_new' (by simp)).alloc _
  row := blk_new' (by simp)
theorem Six.no {w W : World} {T : TypeId} {s : ByteArray} {vs : Array Value} (h : Six w W T s vs) {g : Nat} (hg : g ≠ w.heap.size + 1 + 1) : ¬ Own (w.heap.size + 1 + 1) W g := fun ho => hg ((own_init h.laid.box g).1 ho)
theorem expr_turn {n : Nat} {s : ByteArray} {R : SR} (hR : TokR s.data.toList R) (w : World) (hs47 : s.size ≤ 140737488355328) (hsh : w.ShapedOpen Tryz.prog) {te : TypeId} {pe : Value} (hv : w.cell? ⟨4, 0, none⟩ = some (.iface te pe)) (hr : exprW s.size n R ≠ .out) :
    Calls Tryz.prog 27 #[.slice (some ⟨w.heap.size + 1 + 1 + 1 + 1 + 1, 0, none⟩) 4 4]
      (World6 w 53 s #[.func (.func 55) #[] #[.pointer (some ⟨w.heap.size + 1 + 1 + 1 + 1, 0, none⟩), .pointer (some ⟨w.heap.size + 1 + 1 + 1, 0, none⟩)], .func (.func 29) #[.pointer (some ⟨w.heap.size + 1 + 1, 0, none⟩)] #[], .func (.func 30) #[.pointer (some ⟨w.heap.size + 1 + 1, 0, none⟩)] #[], .func (.func 31) #[.pointer (some ⟨w.heap.size + 1 + 1, 2, none⟩)] #[]])
      (DidI (w.heap.size + 1 + 1) (fun s1 w' => Ps (w.heap.size + 1 + 1) 53 s.size w' s1) (World6 w 53 s #[.func (.func 55) #[] #[.pointer (some ⟨w.heap.size + 1 + 1 + 1 + 1, 0, none⟩), .pointer (some ⟨w.heap.size + 1 + 1 + 1, 0, none⟩)], .func (.func 29) #[.pointer (some ⟨w.heap.size + 1 + 1, 0, none⟩)] #[], .func (.func 30) #[.pointer (some ⟨w.heap.size + 1 + 1, 0, none⟩)] #[], .func (.func 31) #[.pointer (some ⟨w.heap.size + 1 + 1, 2, none⟩)] #[]]) (exprW s.size n R)) := by
  have h6 := world6 w 53 s #[.func (.func 55) #[] #[.pointer (some ⟨w.heap.size + 1 + 1 + 1 + 1, 0, none⟩), .pointer (some ⟨w.heap.size + 1 + 1 + 1, 0, none⟩)], .func (.func 29) #[.pointer (some ⟨w.heap.size + 1 + 1, 0, none⟩)] #[], .func (.func 30) #[.pointer (some ⟨w.heap.size + 1 + 1, 0, none⟩)] #[], .func (.func 31) #[.pointer (some ⟨w.heap.size + 1 + 1, 2, none⟩)] #[]]
  generalize World6 w 53 s _ = W at h6 ⊢
  have hS := steps4 (B := w.heap.size + 1 + 1) (T := 53) (E := s.size) (w.heap.size + 1 + 1 + 1 + 1 + 1) h6.row.lt (h6.no (by omega)) (by rw [h6.row.cell]; rfl) (by rw [h6.row.cell]; rfl) (by rw [h6.row.cell]; rfl) (by rw [h6.row.cell]; rfl)
    (step_read hR h6.laid h6.ptr h6.txt (by omega) (by omega) hs47 hsh hv) (stepExpr (callJ n) W) (stepDone W) (stepFits W)
  exact inTurnG (I := Inv (w.heap.size + 1 + 1) 53 s.size) (cap := 4) ⟨rfl, h6.laid.box⟩ hS hr

set_option maxHeartbeats 8000000 in
set_option maxRecDepth 100000 in
theorem pexpr_any {n : Nat} {s : ByteArray} {R : SR} (hR : TokR s.data.toList R) (w : World) (hs47 : s.size ≤ 140737488355328) (hsh : w.ShapedOpen Tryz.prog) {te : TypeId} {pe : Value} (hv : w.cell? ⟨4, 0, none⟩ = some (.iface te pe))
    (hv0 : w.cell? ⟨0, 0, none⟩ = some (.iface 185 (.agg #[hd 55]))) (hr : exprW s.size n R ≠ .out) (hz : ∀ c a, exprW s.size n R = .bad c a → c ≠ 0) :
    Calls Tryz.prog 11 #[.string s] w (ParR (exprW s.size n R) w) := by
  have hturn := expr_turn (n := n) hR w hs47 hsh hv hr
  obtain ⟨r, hrr⟩ : ∃ r, r = exprW s.size n R := ⟨_, rfl⟩
  rw [← hrr] at hr hz hturn ⊢
  obtain ⟨Q, hQ⟩ : ∃ Q : Ending → World → Prop, Q = ParR r w := ⟨_, rfl⟩
  rw [← hQ]
  have HQ := Lib.hid hQ
  have HR := Lib.hid hr
  have HZ := Lib.hid hz
  have HV := Lib.hid hv0
  have hlay := fun W => read_lay (B := w.heap.size + 1 + 1) s W
  have HT := Lib.hid hturn
  clear hQ hr hz hturn hrr hsh hv hv0 hR
  go_enter Tryz.func11, Tryz.ntmps11
  go_wp2_with (go_at_call 28; refine (hlay _).mono ?_; rintro e w' ⟨rfl, rfl⟩)
  refine HT.out.mono ?_
  have H6 := Lib.hid (world6 w 53 s #[.func (.func 55) #[] #[.pointer (some ⟨w.heap.size + 1 + 1 + 1 + 1, 0, none⟩), .pointer (some ⟨w.heap.size + 1 + 1 + 1, 0, none⟩)], .func (.func 29) #[.pointer (some ⟨w.heap.size + 1 + 1, 0, none⟩)] #[], .func (.func 30) #[.pointer (some ⟨w.heap.size + 1 + 1, 0, none⟩)] #[], .func (.func 31) #[.pointer (some ⟨w.heap.size + 1 + 1, 2, none⟩)] #[]])
  clear HT hlay
  generalize World6 w 53 s _ = W at H6
  intro e w7 hd
  have h0 : 0 < w.heap.size := Lib.lt_of_cell HV.out
  cases r with
  | out => exact absurd rfl HR.out
  | bad c a =>
    obtain ⟨rfl, hx⟩ := hd
    have hb := H6.out.laid.back hx
    have hres := result_bad (B := w.heap.size + 1 + 1) c a (HZ.out c a rfl) w7 ((hb.cell (p := ⟨0, 0, none⟩) h0).trans HV.out)
    have k1 := hx.blk H6.out.res (H6.out.no (by omega))
    have k2 := hx.blk H6.out.flt (H6.out.no (by omega))
    have HB := Lib.hid hb
    have K1 := Lib.hid k1
    have K2 := Lib.hid k2
    unfold errV at hres ⊢
    clear hx hb k1 k2 HZ HR
    go_wp2_with (go_at_call 32; refine hres.mono ?_)
    rintro e w8 ⟨hb8, rfl⟩
    have HB8 := Lib.hid (HB.out.trans (hb8.mono HB.out.size))
    have K1b := Lib.hid (K1.out.below hb8 K1.out.lt)
    have K2b := Lib.hid (K2.out.below hb8 K2.out.lt)
    clear hb8 hres K1 K2
    have k10 : w8.cell? ⟨w.heap.size, 0, none⟩ = some (.slice none 0 0) := by rw [K1b.out.cell]; rfl
    have k1f := K1b.out.frozen 0
    have l1 := K1b.out.lt
    have k20 : w8.cell? ⟨w.heap.size + 1, 0, none⟩ = some (.int .i64 0) := by rw [K2b.out.cell]; rfl
    have k21 : w8.cell? ⟨w.heap.size + 1, 1, none⟩ = some (.int .i64 0) := by rw [K2b.out.cell]; rfl
    have k2f := K2b.out.frozen 0
    have k2g := K2b.out.frozen 1
    have l2 := K2b.out.lt
    go_wp2
    refine bodyPost_ret (v := .tuple #[.agg #[.slice none 0 0], .agg #[.int .i64 c, .int .i64 a]]) (by simp [results, Tryz.results11, go_sem, k10, k20, k21, l1, l2]) rfl ?_
    rw [HQ.out]
    exact ⟨((HB8.out.setCell (p := ⟨w.heap.size, 0, none⟩) (Nat.le_refl _) _).setCell (p := ⟨w.heap.size + 1, 0, none⟩) (by simp) _).setCell (p := ⟨w.heap.size + 1, 1, none⟩) (by simp) _, rfl⟩
  | ok s1 =>
    obtain ⟨rfl, hx, hp⟩ := hd
    have hb := H6.out.laid.back hx
    have hres := result_ok hp
    have k1 := hx.blk H6.out.res (H6.out.no (by omega))
    have k2 := hx.blk H6.out.flt (H6.out.no (by omega))
    have HB := Lib.hid hb
    have K1 := Lib.hid k1
    have K2 := Lib.hid k2
    clear hx hb k1 k2 HZ HR hp
    go_wp2_with (go_at_call 32; refine hres.mono ?_)
    rintro e w8 ⟨hb8, p, cap, ns, rfl, hT, hF, hl5, he, hH⟩
    have HB8 := Lib.hid (HB.out.trans (hb8.mono HB.out.size))
    have K1b := Lib.hid (K1.out.below hb8 K1.out.lt)
    have K2b := Lib.hid (K2.out.below hb8 K2.out.lt)
    have HTr := Lib.hid hT
    have HFt := Lib.hid hF
    have He := Lib.hid he
    have HH := Lib.hid hH
    have H5 := Lib.hid hl5
    obtain ⟨m, hm⟩ : ∃ m, m = ns.length := ⟨_, rfl⟩
    have hm5 : m ≤ 5000000 := by omega
    rw [← hm]
    have Hm := Lib.hid hm
    clear hb8 hres K1 K2 hT hF he hl5 hm hH
    have k10 : w8.cell? ⟨w.heap.size, 0, none⟩ = some (.slice none 0 0) := by rw [K1b.out.cell]; rfl
    have k1f := K1b.out.frozen 0
    have l1 := K1b.out.lt
    have k20 : w8.cell? ⟨w.heap.size + 1, 0, none⟩ = some (.int .i64 0) := by rw [K2b.out.cell]; rfl
    have k21 : w8.cell? ⟨w.heap.size + 1, 1, none⟩ = some (.int .i64 0) := by rw [K2b.out.cell]; rfl
    have k2f := K2b.out.frozen 0
    have k2g := K2b.out.frozen 1
    have l2 := K2b.out.lt
    go_wp2
    refine bodyPost_ret (v := .tuple #[.agg #[.slice p m cap], .agg #[.int .i64 0, .int .i64 0]]) (by simp [results, Tryz.results11, go_sem, k10, k20, k21, l1, l2]) rfl ?_
    rw [HQ.out]
    refine ⟨((HB8.out.setCell (p := ⟨w.heap.size, 0, none⟩) (Nat.le_refl _) _).setCell (p := ⟨w.heap.size + 1, 0, none⟩) (by simp) _).setCell (p := ⟨w.heap.size + 1, 1, none⟩) (by simp) _, p, cap, ns, by rw [← Hm.out], ?_, HFt.out, H5.out, He.out, HH.out.low (by omega)⟩
    exact tr_hi HTr.out HH.out (fun b hb _ => ((Below.heap_setCell _ _ _ _ (by show b ≠ w.heap.size + 1; omega)).trans (Below.heap_setCell _ _ _ _ (by show b ≠ w.heap.size + 1; omega))).trans (Below.heap_setCell _ _ _ _ (by show b ≠ w.heap.size; omega))) (by simp [World.setCell])
end Go.Proofs.YtbjacclfhgnffaaGreatDoor
