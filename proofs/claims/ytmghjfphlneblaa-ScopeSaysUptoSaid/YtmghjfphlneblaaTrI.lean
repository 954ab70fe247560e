/-
  The contract of begin where a node's kind and the number of its kids are as they may be.
-/
import Derived.Test.YtmghjfphlneblaaTrH
import Derived.IntWalk
namespace Go.Proofs.Ytmghjfphlneblaa.Tr
open Go.RowKit

def BgMain (l : List Nd) (i : Nat) (x : Nd) (w : World) (e : Ending) (w' : World) : Prop :=
  Below w.heap.size w w' ∧ ((wayOf l i = none ∧ e = .returned (.tuple #[.int .i64 0, .int .i64 5])) ∨ (wayOf l i ≠ none ∧ ((fieldC x ≠ 0 ∧ e = .returned (.tuple #[.int .i64 0, .int .i64 (fieldC x)])) ∨ (fieldC x = 0 ∧ e = .returned (.tuple #[.int .i64 (St l i), .int .i64 0])))))
theorem walk_zero {S : Nat → Nat} {kd : Nat → Int} {k : Int} {c : List Int} {j : Nat} : walkK S kd k c (j + 1) 0 = none := by rw [walkK, if_pos (Or.inl rfl)]
theorem walk_far {S : Nat → Nat} {kd : Nat → Int} {k : Int} {c : List Int} {j q : Nat} (h : c.getD j 0 ≠ (q : Int)) : walkK S kd k c (j + 1) (q + 1) = none := by rw [walkK, if_pos (Or.inr (Or.inl (by omega)))]
theorem walk_bad {S : Nat → Nat} {kd : Nat → Int} {k : Int} {c : List Int} {j q : Nat} (h : goB k j c.length (kd q) = false) : walkK S kd k c (j + 1) (q + 1) = none := by
  rw [walkK]; exact if_pos (Or.inr (Or.inr h))
theorem walk_on {S : Nat → Nat} {kd : Nat → Int} {k : Int} {c : List Int} {j q : Nat} (h : c.getD j 0 = (q : Int)) (h2 : goB k j c.length (kd q) = true) : walkK S kd k c (j + 1) (q + 1) = walkK S kd k c j (S q) := by
  rw [walkK, if_neg (by rintro (h' | h' | h'); omega; exact h' (by omega); rw [show q + 1 - 1 = q from rfl, h2] at h'; cases h')]; rfl

set_option maxHeartbeats 8000000 in
set_option maxRecDepth 100000 in
theorem begin_main (l : List Nd) (i : Nat) (hi : i < l.length) (x : Nd) (hx : x = l[i]) (b o cap B cnt : Nat) (w : World) (hl : l.length ≤ 600) (hb : b < w.heap.size) (hN : ∀ j, (h : j < l.length) → NodeAt w b (o + j * 6) l[j]) (hK : KidsAt w x.p x.c) (hB : B < w.heap.size) (hcnt : i ≤ cnt)
    (hF : ∀ j, j < i → w.cell? ⟨B, j, none⟩ = some (.int .i64 (St l j))) (hm : x.c.length ≤ 1000000000000000000) (hk : kindB x.k = true)
    (hs1 : ¬ (x.c.length : Int) < lowV x.k) (hs2 : ¬ highV 9223372036854775807 x.k < x.c.length) :
    Calls Try.prog 27 #[.slice (some ⟨b, o, none⟩) (i + 1) cap, .slice (some ⟨B, 0, none⟩) cnt cnt] w (BgMain l i x w) := by
  have hWay : wayOf l i = walkK (St l) (kindAt l) x.k x.c x.c.length i := by unfold wayOf; rw [kindAt_get hi, kidsAt_get hi, hx]
  have hNi := hN i hi
  rw [← hx] at hNi
  have HWay := Lib.hid hWay
  have HN := Lib.hid hN
  have HF := Lib.hid hF
  have HK := Lib.hid hK
  clear hWay hN hF hK hx
  obtain ⟨x', hx'⟩ : ∃ y, y = x := ⟨_, rfl⟩
  have hfc : fieldC x = fieldV x.k x.t x.n x.z x.c.length x.a := rfl
  unfold BgMain
  rw [hfc]
  clear hfc
  obtain ⟨k, t, n, z, p, kc, c, a⟩ := x
  obtain ⟨c0, c1, c2, c3, c4, c5⟩ := hNi
  simp only at c0 c1 c2 c3 c4 c5 hk hs1 hs2 HWay HK hm ⊢
  clear hx' x'
  obtain ⟨m, hmc⟩ : ∃ m, m = c.length := ⟨_, rfl⟩
  rw [← hmc] at c4 hs1 hs2 hm HWay ⊢
  have HM := Lib.hid hmc
  clear hmc
  obtain ⟨Q, hQ⟩ : ∃ Q : Ending → World → Prop, Q = fun e w' => Below w.heap.size w w' ∧ ((wayOf l i = none ∧ e = .returned (.tuple #[.int .i64 0, .int .i64 5])) ∨ (wayOf l i ≠ none ∧ ((fieldV k t n z m a ≠ 0 ∧ e = .returned (.tuple #[.int .i64 0, .int .i64 (fieldV k t n z m a)])) ∨ (fieldV k t n z m a = 0 ∧ e = .returned (.tuple #[.int .i64 (St l i), .int .i64 0]))))) := ⟨_, rfl⟩
  have HQ := Lib.hid hQ
  rw [← hQ]
  clear hQ
  go_enter Try.func27, Try.ntmps27
  go_wp2_with (first | (go_at_call 41; refine (kind_any _ _).mono ?_; rintro e w' ⟨rfl, rfl⟩) | (go_at_call 42; refine (sizes_any _ _).mono ?_; rintro e w' ⟨rfl, rfl⟩))
  go_loopw [4, 9] (fun vs vi wr => ∃ (j at_ : Nat) (q : Int), j ≤ m ∧ (j : Int) = q + 1 ∧ vi = .int .i64 q ∧ vs = .int .i64 (at_ : Nat) ∧ at_ ≤ i ∧ Hid (wayOf l i = walkK (St l) (kindAt l) k c j at_) ∧
      Below (w.alloc (.cells #[.int .i64 k, .string t, .int .i64 n, .int .i64 z, .slice p m kc, .int .i64 a] 34)).heap.size (w.alloc (.cells #[.int .i64 k, .string t, .int .i64 n, .int .i64 z, .slice p m kc, .int .i64 a] 34)) wr)
    (fun _ vi _ => (intOf vi + 1).toNat)
  case atStart => exact ⟨m, i, (m : Int) - 1, Nat.le_refl _, by omega, rfl, rfl, Nat.le_refl _, HWay.out, Below.refl _ _⟩
  case round =>
    obtain ⟨j, at_, q, hj, hjq, rfl, rfl, hat, HV, hbr⟩ := hrel
    obtain ⟨d0, d1, d2, d3, d4, d5, lr⟩ := box_node hbr
    have hbw : Below w.heap.size w wr := ((Below.refl _ _).alloc (Nat.le_refl _) _).trans (hbr.mono (by simp))
    have HB := Lib.hid hbw
    have HBR := Lib.hid hbr
    clear hbw hbr HWay
    rcases Nat.eq_zero_or_pos j with hj0 | hjp
    · obtain rfl : q = -1 := by omega
      subst hj0
      have hw : wayOf l i = some at_ := HV.out
      have HS : Hid (St l i = at_) := by show St l i = at_; rw [St_eq, hw]; rfl
      have HW : Hid (wayOf l i ≠ none) := by show wayOf l i ≠ none; rw [hw]; simp
      clear hw HV
      have hfi := fields_any k t n z p m kc a wr hm
      generalize hfv : fieldV k t n z m a = v at *
      clear hfv
      by_cases hv : v = 0
      · subst hv
        go_wp2_with (go_at_call 44; refine hfi.mono ?_)
        first | rintro e w3 rfl hb3 | rintro e w3 ⟨rfl, hb3⟩
        have HB3 := Lib.hid (HB.out.trans (hb3.mono (Nat.le_of_lt lr)))
        clear hb3
        go_wp2
        rw [HQ.out]
        exact ⟨HB3.out, Or.inr ⟨HW.out, Or.inr ⟨by simp, by rw [HS.out]; rfl⟩⟩⟩
      · have hv1 : (v != 0) = true := by simpa using hv
        have hv2 : (v == 0) = false := by simpa using hv
        have HV0 := Lib.hid hv
        clear hv
        go_wp2_with (go_at_call 44; refine hfi.mono ?_)
        first | rintro e w3 rfl hb3 | rintro e w3 ⟨rfl, hb3⟩
        have HB3 := Lib.hid (HB.out.trans (hb3.mono (Nat.le_of_lt lr)))
        clear hb3
        go_wp2
        rw [HQ.out]
        exact ⟨HB3.out, Or.inr ⟨HW.out, Or.inl ⟨by simpa using HV0.out, rfl⟩⟩⟩
    · obtain ⟨j', rfl⟩ : ∃ j', j = j' + 1 := ⟨j - 1, by omega⟩
      obtain rfl : q = (j' : Int) := by omega
      clear hjq hjp
      have hjc : j' < c.length := by have := HM.out; omega
      obtain ⟨kb, ko, rfl, hkb, hkc⟩ := HK.out (by omega)
      have ck := (HB.out.cell (p := ⟨kb, ko + j', none⟩) hkb).trans (hkc j' hjc)
      have hgd : c.getD j' 0 = c[j'] := by simp [hjc]
      clear hkc
      rcases Nat.eq_zero_or_pos at_ with ha0 | hap
      · subst ha0
        have HW : Hid (wayOf l i = none) := HV.out.trans walk_zero
        clear HV
        have h0 : decide ((0 : Int) = 0) = true := by decide
        generalize c[j'] = kid at *
        clear hgd
        go_wp2
        go_quiet (fail)
        go_wp2
        rw [HQ.out]
        exact ⟨below_drewN HB.out _, Or.inl ⟨HW.out, rfl⟩⟩
      · obtain ⟨q, rfl⟩ : ∃ q, at_ = q + 1 := ⟨at_ - 1, by omega⟩
        obtain ⟨A, hA⟩ : ∃ A : Int, A = ((q + 1 : Nat) : Int) := ⟨_, rfl⟩
        rw [← hA]
        have e1 : (A == 0) = false := by rw [beq_eq_false_iff_ne]; omega
        have e2 : IntKind.i64.wrap (q : Int) = (q : Int) := IntWalk.i64_in _ (by omega)
        have e3 : A - 1 = (q : Int) := by omega
        clear hA
        by_cases he : c[j'] = (q : Int)
        · have hql : q < l.length := by omega
          have hN0 := (HN.out q hql).below HB.out hb
          have n0 := hN0.1
          have hkq : l[q].k = kindAt l q := (kindAt_get hql).symm
          rw [hkq] at n0
          rw [he] at ck hgd
          have HS := (HB.out.cell (p := ⟨B, q, none⟩) hB).trans (HF.out q (by omega))
          have hbad : goB k (j' : Int) (m : Int) (kindAt l q) = false → Hid (wayOf l i = none) := fun h => HV.out.trans (walk_bad (by rw [HM.out] at h; exact h))
          have hgood : goB k (j' : Int) (m : Int) (kindAt l q) = true → Hid (wayOf l i = walkK (St l) (kindAt l) k c j' (St l q)) := fun h => HV.out.trans (walk_on hgd (by rw [HM.out] at h; exact h))
          have hsl := St_le l q
          clear hgd hkq hN0 HV he
          generalize kindAt l q = kd at *
          generalize St l q = sq at *
          have hBw : B < w.heap.size := hB
          cases hg : goB k (j' : Int) (m : Int) kd with
          | false =>
            have HW := hbad hg
            clear hbad hgood
            go_wp2
            refine wp_region_still_tail 16 (by kernel_rfl) (by kernel_rfl) ?_
            change wpStill Try.prog _ wr.drew (fun a' => wpList Try.prog _ _ _ a' wr.drew) _ _
            have g0 : wr.drew.cell? ⟨w.heap.size, 0, none⟩ = some (.int .i64 k) := d0
            have g1 : wr.drew.cell? ⟨w.heap.size, 1, none⟩ = some (.string t) := d1
            have g2 : wr.drew.cell? ⟨w.heap.size, 2, none⟩ = some (.int .i64 n) := d2
            have g3 : wr.drew.cell? ⟨w.heap.size, 3, none⟩ = some (.int .i64 z) := d3
            have g4 : wr.drew.cell? ⟨w.heap.size, 4, none⟩ = some (.slice (some ⟨kb, ko, none⟩) m kc) := d4
            have g5 : wr.drew.cell? ⟨w.heap.size, 5, none⟩ = some (.int .i64 a) := d5
            have g6 : wr.drew.cell? ⟨b, o + q * 6, none⟩ = some (.int .i64 kd) := n0
            have HBd : Hid (Below w.heap.size w wr.drew) := HB.out.drew
            have HBRd : Hid (Below (w.alloc (.cells #[.int .i64 k, .string t, .int .i64 n, .int .i64 z, .slice (some ⟨kb, ko, none⟩) m kc, .int .i64 a] 34)).heap.size (w.alloc (.cells #[.int .i64 k, .string t, .int .i64 n, .int .i64 z, .slice (some ⟨kb, ko, none⟩) m kc, .int .i64 a] 34)) wr.drew) := HBR.out.drew
            have HSd : wr.drew.cell? ⟨B, q, none⟩ = some (.int .i64 sq) := HS
            have lrd : w.heap.size < wr.drew.heap.size := lr
            clear d0 d1 d2 d3 d4 d5 n0 ck HB HBR HS lr
            generalize wr.drew = wd at *
            simp only [List.take_succ_cons, List.take_zero, List.drop_succ_cons, List.drop_zero]
            have hqi : (q : Int) < (i : Int) + 1 := by omega
            repeat still_step
            refine wpStill_nil ?_
            clear hqi
            have htk := takes_any k t n z (some ⟨kb, ko, none⟩) m kc a (j' : Int) kd wd hm
            rw [hg] at htk
            have HG := Lib.hid hg
            clear hg
            go_wp2_with (go_at_call 43; refine htk.mono ?_)
            first | rintro e w3 rfl hb3 | rintro e w3 ⟨rfl, hb3⟩
            have HB3 := Lib.hid (HBd.out.trans (hb3.mono (Nat.le_of_lt lrd)))
            have HBR3 := Lib.hid (HBRd.out.trans (hb3.mono (by simp; omega)))
            have c3 := (hb3.cell (p := ⟨B, q, none⟩) (Nat.lt_trans hBw lrd)).trans HSd
            clear hb3 htk g0 g1 g2 g3 g4 g5 g6 HSd
            go_wp2
            rw [HQ.out]
            exact ⟨HB3.out, Or.inl ⟨HW.out, rfl⟩⟩
          | true =>
            have HW := hgood hg
            clear hbad hgood
            go_wp2
            refine wp_region_still_tail 16 (by kernel_rfl) (by kernel_rfl) ?_
            change wpStill Try.prog _ wr.drew (fun a' => wpList Try.prog _ _ _ a' wr.drew) _ _
            have g0 : wr.drew.cell? ⟨w.heap.size, 0, none⟩ = some (.int .i64 k) := d0
            have g1 : wr.drew.cell? ⟨w.heap.size, 1, none⟩ = some (.string t) := d1
            have g2 : wr.drew.cell? ⟨w.heap.size, 2, none⟩ = some (.int .i64 n) := d2
            have g3 : wr.drew.cell? ⟨w.heap.size, 3, none⟩ = some (.int .i64 z) := d3
            have g4 : wr.drew.cell? ⟨w.heap.size, 4, none⟩ = some (.slice (some ⟨kb, ko, none⟩) m kc) := d4
            have g5 : wr.drew.cell? ⟨w.heap.size, 5, none⟩ = some (.int .i64 a) := d5
            have g6 : wr.drew.cell? ⟨b, o + q * 6, none⟩ = some (.int .i64 kd) := n0
            have HBd : Hid (Below w.heap.size w wr.drew) := HB.out.drew
            have HBRd : Hid (Below (w.alloc (.cells #[.int .i64 k, .string t, .int .i64 n, .int .i64 z, .slice (some ⟨kb, ko, none⟩) m kc, .int .i64 a] 34)).heap.size (w.alloc (.cells #[.int .i64 k, .string t, .int .i64 n, .int .i64 z, .slice (some ⟨kb, ko, none⟩) m kc, .int .i64 a] 34)) wr.drew) := HBR.out.drew
            have HSd : wr.drew.cell? ⟨B, q, none⟩ = some (.int .i64 sq) := HS
            have lrd : w.heap.size < wr.drew.heap.size := lr
            clear d0 d1 d2 d3 d4 d5 n0 ck HB HBR HS lr
            generalize wr.drew = wd at *
            simp only [List.take_succ_cons, List.take_zero, List.drop_succ_cons, List.drop_zero]
            have hqi : (q : Int) < (i : Int) + 1 := by omega
            repeat still_step
            refine wpStill_nil ?_
            clear hqi
            have htk := takes_any k t n z (some ⟨kb, ko, none⟩) m kc a (j' : Int) kd wd hm
            rw [hg] at htk
            have HG := Lib.hid hg
            clear hg
            go_wp2_with (go_at_call 43; refine htk.mono ?_)
            first | rintro e w3 rfl hb3 | rintro e w3 ⟨rfl, hb3⟩
            have HB3 := Lib.hid (HBd.out.trans (hb3.mono (Nat.le_of_lt lrd)))
            have HBR3 := Lib.hid (HBRd.out.trans (hb3.mono (by simp; omega)))
            have c3 := (hb3.cell (p := ⟨B, q, none⟩) (Nat.lt_trans hBw lrd)).trans HSd
            clear hb3 htk g0 g1 g2 g3 g4 g5 g6 HSd
            go_wp2
            go_roundw
            case rel => exact ⟨j', sq, (j' : Int) - 1, by omega, by omega, by go_num, by go_num, by omega, HW, HBR3.out⟩
            case measure => simp [intOf]; try omega
        · have HW : Hid (wayOf l i = none) := HV.out.trans (walk_far (by rw [hgd]; exact he))
          have h1 : (c[j'] == (q : Int)) = false := by simpa using he
          have h2 : (c[j'] != (q : Int)) = true := by simpa using he
          clear HV hgd he
          generalize c[j'] = kid at *
          go_wp2
          go_quiet (fail)
          go_wp2
          rw [HQ.out]
          exact ⟨below_drewN HB.out _, Or.inl ⟨HW.out, rfl⟩⟩
end Go.Proofs.Ytmghjfphlneblaa.Tr
