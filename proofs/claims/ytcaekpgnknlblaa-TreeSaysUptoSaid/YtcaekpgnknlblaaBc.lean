/-
  The contract of the comparison of two trees that are the same.
-/
import Derived.Test.YtcaekpgnknlblaaU
namespace Go.Proofs.Ytcaekpgnknlblaa
open Go.RowKit

set_option maxHeartbeats 8000000 in
set_option maxRecDepth 100000 in
theorem trees_eq (l l' : List Nd) (p p' : Option Addr) (cap cap' : Nat) (w : World) (hT : Tr w p l) (hT' : Tr w p' l') (hlen : l.length = l'.length) (hl : l.length ≤ 1000) (hm : ∀ j, (h : j < l.length) → l[j].c.length ≤ 1000000000000000000)
    (hL : ∀ j, (h : j < l.length) → (h' : j < l'.length) → Like l[j] l'[j]) :
    Calls Try.prog 13 #[.agg #[.slice p l.length cap], .agg #[.slice p' l'.length cap']] w fun e w' => e = .returned (.bool true) ∧ Below w.heap.size w w' := by
  rw [← hlen]
  have HT := Lib.hid hT
  have HT' := Lib.hid hT'
  have HM := Lib.hid hm
  have HL := Lib.hid hL
  have Hlen := Lib.hid hlen
  clear hT hT' hm hL hlen
  obtain ⟨n, hn⟩ : ∃ n, n = l.length := ⟨_, rfl⟩
  rw [← hn] at hl ⊢
  have Hn := Lib.hid hn
  clear hn
  have HW : Hid (Below w.heap.size w ((w.alloc (.cells #[.slice p n cap] 24)).alloc (.cells #[.slice p' n cap'] 24))) := ((Below.refl _ _).alloc (Nat.le_refl _) _).alloc (by simp) _
  go_enter Try.func13, Try.ntmps13
  go_wp2
  go_loopw [5] (fun v wr => ∃ k : Nat, k ≤ n ∧ v = .int .i64 k ∧ Blk wr w.heap.size 24 #[.slice p n cap] ∧ Blk wr (w.heap.size + 1) 24 #[.slice p' n cap'] ∧ Below w.heap.size w wr) (fun v _ => n - (intOf v).toNat)
  case atStart => exact ⟨0, Nat.zero_le _, rfl, (Blk.new _ _ _).alloc _, by have h := Blk.new (w.alloc (.cells #[.slice p n cap] 24)) 24 #[.slice p' n cap']; rw [World.size_alloc] at h; exact h, HW.out⟩
  case round =>
    obtain ⟨k, hk, rfl, hX, hY, hb⟩ := hrel
    have HB := Lib.hid hb
    have x0 : wr.cell? ⟨w.heap.size, 0, none⟩ = some (.slice p n cap) := by rw [hX.cell]; rfl
    have y0 : wr.cell? ⟨w.heap.size + 1, 0, none⟩ = some (.slice p' n cap') := by rw [hY.cell]; rfl
    have lX := hX.lt
    have lY := hY.lt
    have HX := Lib.hid hX
    have HY := Lib.hid hY
    clear hb hX hY HW
    by_cases hlt : k < n
    · have h1 : k < l.length := by have := Hn.out; omega
      have h2 : k < l'.length := by have := Hn.out; have := Hlen.out; omega
      obtain ⟨b, o, rfl, hbl, hc⟩ := HT.out.1 (by omega)
      obtain ⟨b', o', rfl, hbl', hc'⟩ := HT'.out.1 (by omega)
      have hBd := HB.out.drew
      obtain ⟨c0, c1, c2, c3, c4, c5⟩ := (hc k h1).below hBd hbl
      obtain ⟨d0, d1, d2, d3, d4, d5⟩ := (hc' k h2).below hBd hbl'
      have hcall := nodes_eq l[k] l'[k] wr.drew (HL.out k h1 h2) ((HT.out.2 k h1).below hBd) ((HT'.out.2 k h2).below hBd) (HM.out k h1)
      have z0 : wr.drew.cell? ⟨w.heap.size, 0, none⟩ = some (.slice (some ⟨b, o, none⟩) n cap) := x0
      have z1 : wr.drew.cell? ⟨w.heap.size + 1, 0, none⟩ = some (.slice (some ⟨b', o', none⟩) n cap') := y0
      have HXd : Hid (Blk wr.drew w.heap.size 24 #[.slice (some ⟨b, o, none⟩) n cap]) := HX.out
      have HYd : Hid (Blk wr.drew (w.heap.size + 1) 24 #[.slice (some ⟨b', o', none⟩) n cap']) := HY.out
      have HBd := Lib.hid hBd
      have lXd : w.heap.size < wr.drew.heap.size := lX
      have lYd : w.heap.size + 1 < wr.drew.heap.size := lY
      have hkn : (k : Int) < (n : Int) := by omega
      clear hc hc' hBd
      generalize l[k] = x at *
      generalize l'[k] = y at *
      obtain ⟨xk, xt, xn, xz, xp, xcap, xc, xa⟩ := x
      obtain ⟨yk, yt, yn, yz, yp, ycap, yc, ya⟩ := y
      simp only at c0 c1 c2 c3 c4 c5 d0 d1 d2 d3 d4 d5 hcall
      go_wp2
      refine wp_region_still_tail 10 (by kernel_rfl) (by kernel_rfl) ?_
      change wpStill Try.prog _ wr.drew (fun a' => wpList Try.prog _ _ _ a' wr.drew) _ _
      clear x0 y0 lX lY HX HY HB
      generalize wr.drew = wd at *
      simp only [List.take_succ_cons, List.take_zero, List.drop_succ_cons, List.drop_zero]
      repeat still_step
      refine wpStill_nil ?_
      go_wp2_with (go_at_call 25; refine hcall.mono ?_)
      first | rintro e w3 rfl hb3 | rintro e w3 ⟨rfl, hb3⟩
      have HX3 := Lib.hid (HXd.out.below hb3 lXd)
      have HY3 := Lib.hid (HYd.out.below hb3 lYd)
      have HB3 := Lib.hid (HBd.out.trans (hb3.mono HBd.out.size))
      clear hb3 hcall c0 c1 c2 c3 c4 c5 d0 d1 d2 d3 d4 d5 z0 z1
      go_wp2
      go_roundw
      case rel => exact ⟨k + 1, by omega, by go_num, HX3.out, HY3.out, HB3.out⟩
      case measure => simp [intOf]; try omega
    · go_wp2
      go_ret
      exact ⟨rfl, HB.out⟩

set_option maxHeartbeats 1000000 in
theorem none_any (p : Option Addr) (n cap : Nat) (w : World) (hn : n ≤ 140737488355328) :
    Calls Try.prog 12 #[.agg #[.slice p n cap]] w fun e w' => e = .returned (.bool (decide (n = 0))) ∧ Below w.heap.size w w' := by
  by_cases h : n = 0
  · subst h
    go_enter Try.func12, Try.ntmps12
    go_wp2
    go_ret
    exact ⟨rfl, (Below.refl _ _).alloc (Nat.le_refl _) _⟩
  · have h1 : ((n : Int) == 0) = false := by rw [beq_eq_false_iff_ne]; omega
    go_enter Try.func12, Try.ntmps12
    go_wp2
    go_ret
    exact ⟨ret_bool (by simp [h]), (Below.refl _ _).alloc (Nat.le_refl _) _⟩
end Go.Proofs.Ytcaekpgnknlblaa
