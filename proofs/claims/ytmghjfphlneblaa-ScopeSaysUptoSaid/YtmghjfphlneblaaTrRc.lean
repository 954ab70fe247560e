/-
  The contract of the document's wrong where a node's kind and the number of its kids are as they may be.
-/
import Derived.Test.YtmghjfphlneblaaTrQ
namespace Go.Proofs.Ytmghjfphlneblaa.Tr
open Go.RowKit

set_option maxHeartbeats 16000000 in
set_option maxRecDepth 100000 in
theorem wrong_main_c (l : List Nd) (i : Nat) (hi : i < l.length) (x : Nd) (hx : x = l[i]) (b o cap : Nat) (w : World) (hl : l.length ≤ 1000) (hb : b < w.heap.size) (hN : ∀ j, (h : j < l.length) → NodeAt w b (o + j * 6) l[j]) (hKA : ∀ j, (h : j < l.length) → KidsAt w l[j].p l[j].c)
    (hg : ∀ j, j < i → codeAt l j = 0) (hm : x.c.length ≤ 1099511627776) (ht : x.t.size ≤ 1000000000000000000) (k1 : inB x.k 1 4 = false) (k2 : inB x.k 11 24 = false) (k3 : exprB x.k = true) (hs : inB (x.c.length : Int) (lowV x.k) (highV 1099511627776 x.k) = true) :
    Calls Try.prog 23 #[.agg #[.slice (some ⟨b, o, none⟩) l.length cap], .int .i64 i] w (WrPost l i x w) := by
  have hWay : wayOf l i = walkK (St l) (kindAt l) x.k x.c x.c.length i := by unfold wayOf; rw [kindAt_get hi, kidsAt_get hi, hx]
  have hK := hKA i hi
  rw [← hx] at hK
  have hNi := (hN i hi).below ((Below.refl _ _).alloc (Nat.le_refl _) (.cells #[.slice (some ⟨b, o, none⟩) l.length cap] 24)) hb
  rw [← hx] at hNi
  have h17 : x.k = 17 → x.c.length ≤ 4 := fun e => low_for (by
    have h := (high_same hm).1 hs
    rw [e] at h
    exact fun h2 => h (Or.inr h2))
  have HWay := Lib.hid hWay
  have HN := Lib.hid hN
  have HKA := Lib.hid hKA
  have HG := Lib.hid hg
  have HK := Lib.hid hK
  have H17 := Lib.hid h17
  clear hWay hN hKA hg hK h17 hx
  have hfc : fieldC x = fieldV x.k x.t x.n x.z x.c.length x.a := rfl
  unfold WrPost
  rw [hfc]
  clear hfc
  obtain ⟨k, t, nn, z, p, kc, c, a⟩ := x
  obtain ⟨c0, c1, c2, c3, c4, c5⟩ := hNi
  simp only at c0 c1 c2 c3 c4 c5 k1 k2 k3 hs HWay HK H17 hm ht ⊢
  obtain ⟨m, hmc⟩ : ∃ m, m = c.length := ⟨_, rfl⟩
  rw [← hmc] at c4 hs hm HWay H17 ⊢
  have HM := Lib.hid hmc
  clear hmc
  obtain ⟨n, hn⟩ : ∃ n, n = l.length := ⟨_, rfl⟩
  rw [← hn] at hl hi c0 c1 c2 c3 c4 c5 ⊢
  have Hn := Lib.hid hn
  clear hn
  obtain ⟨Q, hQ⟩ : ∃ Q : Ending → World → Prop, Q = fun e w' => Below w.heap.size w w' ∧ ((wayOf l i = none ∧ e = .returned (.int .i64 5)) ∨ (wayOf l i ≠ none ∧ e = .returned (.int .i64 (fieldV k t nn z m a)))) := ⟨_, rfl⟩
  have HQ := Lib.hid hQ
  rw [← hQ]
  clear hQ
  have hgo : ∀ (j : Nat) (kd : Int) (W : World), j < m → Calls Try.prog 35 #[.int .i64 k, .int .i64 j, .int .i64 m, .int .i64 kd] W fun e w' => e = .returned (.bool (goB k j m kd)) ∧ W = w' := fun j kd W hj => rgoes_any k j m kd W (by omega) (fun e => by have := H17.out e; have := HM.out; omega) (by omega) (by omega)
  have HGO := Lib.hid hgo
  clear hgo H17
  all_goals
    go_enter Try.func23, Try.ntmps23
    go_wp2_with (first | (go_at_call 22; refine (in18_any _ _ _ _).mono ?_; rintro e w' ⟨rfl, rfl⟩) | (go_at_call 33; refine (rexpr_any _ _).mono ?_; rintro e w' ⟨rfl, rfl⟩) | (go_at_call 34; refine (rkids_any _ _).mono ?_; rintro e w' ⟨rfl, rfl⟩))
    go_loopw [8, 9] (fun vs vi wr => ∃ (j at_ : Nat) (q : Int), j ≤ m ∧ (j : Int) = q + 1 ∧ vi = .int .i64 q ∧ vs = .int .i64 (at_ : Nat) ∧ at_ ≤ i ∧ Hid (wayOf l i = walkK (St l) (kindAt l) k c j at_) ∧
        Blk wr w.heap.size 24 #[.slice (some ⟨b, o, none⟩) n cap] ∧ Blk wr (w.heap.size + 1) 34 #[.int .i64 k, .string t, .int .i64 nn, .int .i64 z, .slice p m kc, .int .i64 a] ∧ Below w.heap.size w wr)
      (fun _ vi _ => (intOf vi + 1).toNat)
    case atStart => exact ⟨m, i, (m : Int) - 1, Nat.le_refl _, by omega, rfl, rfl, Nat.le_refl _, HWay.out, (Blk.new _ _ _).alloc _, by have h := Blk.new (w.alloc (.cells #[.slice (some ⟨b, o, none⟩) n cap] 24)) 34 #[.int .i64 k, .string t, .int .i64 nn, .int .i64 z, .slice p m kc, .int .i64 a]; rw [World.size_alloc] at h; exact h, ((Below.refl _ _).alloc (Nat.le_refl _) _).alloc (by simp) _⟩
    case round =>
      obtain ⟨j, at_, q, hj, hjq, rfl, rfl, hat, HV, hX, hY, hbw⟩ := hrel
      have x0 : wr.cell? ⟨w.heap.size, 0, none⟩ = some (.slice (some ⟨b, o, none⟩) n cap) := by rw [hX.cell]; rfl
      have d0 : wr.cell? ⟨w.heap.size + 1, 0, none⟩ = some (.int .i64 k) := by rw [hY.cell]; rfl
      have d1 : wr.cell? ⟨w.heap.size + 1, 1, none⟩ = some (.string t) := by rw [hY.cell]; rfl
      have d2 : wr.cell? ⟨w.heap.size + 1, 2, none⟩ = some (.int .i64 nn) := by rw [hY.cell]; rfl
      have d3 : wr.cell? ⟨w.heap.size + 1, 3, none⟩ = some (.int .i64 z) := by rw [hY.cell]; rfl
      have d4 : wr.cell? ⟨w.heap.size + 1, 4, none⟩ = some (.slice p m kc) := by rw [hY.cell]; rfl
      have d5 : wr.cell? ⟨w.heap.size + 1, 5, none⟩ = some (.int .i64 a) := by rw [hY.cell]; rfl
      have lX := hX.lt
      have lY := hY.lt
      have HX := Lib.hid hX
      have HY := Lib.hid hY
      have HB := Lib.hid hbw
      clear hbw hX hY HWay
      rcases Nat.eq_zero_or_pos j with hj0 | hjp
      · obtain rfl : q = -1 := by omega
        subst hj0
        have HW : Hid (wayOf l i ≠ none) := by show wayOf l i ≠ none; rw [HV.out]; simp [walkK]
        have hm18 : m ≤ 1000000000000000000 := by omega
        have hnu := rnums_any k t nn z p m kc a wr hm18
        clear HV
        cases hx1 : namedB k with
        | true =>
          have HX1 := Lib.hid hx1
          cases hx2 : nameB t with
          | false =>
            have HX2 := Lib.hid hx2
            go_wp2_with (first | (go_at_call 36; refine (rnamed_any _ _).mono ?_; rintro e w' ⟨rfl, rfl⟩) | (go_at_call 37; refine (rname_any _ _ ht).mono ?_; rintro e w' ⟨rfl, rfl⟩))
            rw [HQ.out]
            exact ⟨HB.out, Or.inr ⟨HW.out, by unfold fieldV; rw [if_pos ⟨HX1.out, HX2.out⟩]; rfl⟩⟩
          | true =>
            have HX2 := Lib.hid hx2
            go_wp2_with (first | (go_at_call 36; refine (rnamed_any _ _).mono ?_; rintro e w' ⟨rfl, rfl⟩) | (go_at_call 37; refine (rname_any _ _ ht).mono ?_; rintro e w' ⟨rfl, rfl⟩))
            refine hnu.mono ?_
            first | rintro e w3 rfl hb3 | rintro e w3 ⟨rfl, hb3⟩
            have hY3 := HY.out.below hb3 lY
            have d5 : w3.cell? ⟨w.heap.size + 1, 5, none⟩ = some (.int .i64 a) := by rw [hY3.cell]; rfl
            have HB3 := Lib.hid (HB.out.trans (hb3.mono (by omega)))
            clear hb3 hY3 hnu
            cases hu : numB k nn z m with
            | false =>
              have HU := Lib.hid hu
              go_wp2
              rw [HQ.out]
              exact ⟨HB3.out, Or.inr ⟨HW.out, by unfold fieldV; rw [if_neg (by rintro ⟨_, h⟩; rw [HX2.out] at h; cases h), if_neg (by rintro ⟨h, _⟩; rw [HX1.out] at h; cases h)]; rw [if_pos (Or.inl HU.out)]; rfl⟩⟩
            | true =>
              have HU := Lib.hid hu
              by_cases ha : a < 0
              · go_wp2
                rw [HQ.out]
                exact ⟨HB3.out, Or.inr ⟨HW.out, by unfold fieldV; rw [if_neg (by rintro ⟨_, h⟩; rw [HX2.out] at h; cases h), if_neg (by rintro ⟨h, _⟩; rw [HX1.out] at h; cases h)]; rw [if_pos (Or.inr ha)]; rfl⟩⟩
              · go_wp2
                rw [HQ.out]
                exact ⟨HB3.out, Or.inr ⟨HW.out, by unfold fieldV; rw [if_neg (by rintro ⟨_, h⟩; rw [HX2.out] at h; cases h), if_neg (by rintro ⟨h, _⟩; rw [HX1.out] at h; cases h)]; rw [if_neg (by rintro (h | h) <;> first | (rw [HU.out] at h; cases h; done) | omega)]; rfl⟩⟩
        | false =>
          have HX1 := Lib.hid hx1
          have htx := rtexts_any k t wr ht
          cases hx2 : signB k t with
          | false =>
            have HX2 := Lib.hid hx2
            rw [hx2] at htx
            go_wp2_with (first | (go_at_call 36; refine (rnamed_any _ _).mono ?_; rintro e w' ⟨rfl, rfl⟩) | (go_at_call 37; refine (rname_any _ _ ht).mono ?_; rintro e w' ⟨rfl, rfl⟩))
            refine htx.mono ?_
            first | rintro e w3 rfl hb3 | rintro e w3 ⟨rfl, hb3⟩
            have HB3 := Lib.hid (HB.out.trans (hb3.mono (by omega)))
            clear hb3 htx
            go_wp2
            rw [HQ.out]
            exact ⟨HB3.out, Or.inr ⟨HW.out, by unfold fieldV; rw [if_neg (by rintro ⟨h, _⟩; rw [HX1.out] at h; cases h), if_pos ⟨HX1.out, HX2.out⟩]; rfl⟩⟩
          | true =>
            have HX2 := Lib.hid hx2
            rw [hx2] at htx
            go_wp2_with (first | (go_at_call 36; refine (rnamed_any _ _).mono ?_; rintro e w' ⟨rfl, rfl⟩) | (go_at_call 37; refine (rname_any _ _ ht).mono ?_; rintro e w' ⟨rfl, rfl⟩))
            refine htx.mono ?_
            first | rintro e wt rfl hbt | rintro e wt ⟨rfl, hbt⟩
            have hYt := HY.out.below hbt lY
            have HYt := Lib.hid hYt
            have lYt := hYt.lt
            have HBt := Lib.hid (HB.out.trans (hbt.mono (by omega)))
            have t0 : wt.cell? ⟨w.heap.size + 1, 0, none⟩ = some (.int .i64 k) := by rw [hYt.cell]; rfl
            have t1 : wt.cell? ⟨w.heap.size + 1, 1, none⟩ = some (.string t) := by rw [hYt.cell]; rfl
            have t2 : wt.cell? ⟨w.heap.size + 1, 2, none⟩ = some (.int .i64 nn) := by rw [hYt.cell]; rfl
            have t3 : wt.cell? ⟨w.heap.size + 1, 3, none⟩ = some (.int .i64 z) := by rw [hYt.cell]; rfl
            have t4 : wt.cell? ⟨w.heap.size + 1, 4, none⟩ = some (.slice p m kc) := by rw [hYt.cell]; rfl
            have t5 : wt.cell? ⟨w.heap.size + 1, 5, none⟩ = some (.int .i64 a) := by rw [hYt.cell]; rfl
            have hnu := rnums_any k t nn z p m kc a wt hm18
            clear hYt hbt htx
            go_wp2_with (first | (go_at_call 36; refine (rnamed_any _ _).mono ?_; rintro e w' ⟨rfl, rfl⟩) | (go_at_call 37; refine (rname_any _ _ ht).mono ?_; rintro e w' ⟨rfl, rfl⟩))
            refine hnu.mono ?_
            first | rintro e w3 rfl hb3 | rintro e w3 ⟨rfl, hb3⟩
            have hY3 := HYt.out.below hb3 lYt
            have d5 : w3.cell? ⟨w.heap.size + 1, 5, none⟩ = some (.int .i64 a) := by rw [hY3.cell]; rfl
            have HB3 := Lib.hid (HBt.out.trans (hb3.mono (by omega)))
            clear hb3 hY3 hnu
            cases hu : numB k nn z m with
            | false =>
              have HU := Lib.hid hu
              go_wp2
              rw [HQ.out]
              exact ⟨HB3.out, Or.inr ⟨HW.out, by unfold fieldV; rw [if_neg (by rintro ⟨h, _⟩; rw [HX1.out] at h; cases h), if_neg (by rintro ⟨_, h⟩; rw [HX2.out] at h; cases h)]; rw [if_pos (Or.inl HU.out)]; rfl⟩⟩
            | true =>
              have HU := Lib.hid hu
              by_cases ha : a < 0
              · go_wp2
                rw [HQ.out]
                exact ⟨HB3.out, Or.inr ⟨HW.out, by unfold fieldV; rw [if_neg (by rintro ⟨h, _⟩; rw [HX1.out] at h; cases h), if_neg (by rintro ⟨_, h⟩; rw [HX2.out] at h; cases h)]; rw [if_pos (Or.inr ha)]; rfl⟩⟩
              · go_wp2
                rw [HQ.out]
                exact ⟨HB3.out, Or.inr ⟨HW.out, by unfold fieldV; rw [if_neg (by rintro ⟨h, _⟩; rw [HX1.out] at h; cases h), if_neg (by rintro ⟨_, h⟩; rw [HX2.out] at h; cases h)]; rw [if_neg (by rintro (h | h) <;> first | (rw [HU.out] at h; cases h; done) | omega)]; rfl⟩⟩
      · obtain ⟨j', rfl⟩ : ∃ j', j = j' + 1 := ⟨j - 1, by omega⟩
        obtain rfl : q = (j' : Int) := by omega
        clear hjq hjp
        have hjc : j' < c.length := by have := HM.out; omega
        have hjm : (j' : Int) < (m : Int) := by omega
        obtain ⟨kb, ko, rfl, hkb, hkc⟩ := HK.out (by omega)
        have ck := (HB.out.cell (p := ⟨kb, ko + j', none⟩) hkb).trans (hkc j' hjc)
        have hgd : c.getD j' 0 = c[j'] := by simp [hjc]
        clear hkc
        rcases Nat.eq_zero_or_pos at_ with ha0 | hap
        · subst ha0
          have HW : Hid (wayOf l i = none) := HV.out.trans walk_zero
          clear HV
          generalize c[j'] = kid at *
          clear hgd
          go_wp2
          go_quiet (fail)
          go_wp2
          rw [HQ.out]
          exact ⟨below_drewN HB.out _, Or.inl ⟨HW.out, rfl⟩⟩
        · obtain ⟨q, rfl⟩ : ∃ q, at_ = q + 1 := ⟨at_ - 1, by omega⟩
          obtain ⟨A, hA⟩ : ∃ A : Int, A = ((q + 1 : Nat) : Int) := ⟨_, rfl⟩
          rw [← hA]
          have e1 : (A == 0) = false := by rw [beq_eq_false_iff_ne]; omega
          have e2 : IntKind.i64.wrap (q : Int) = (q : Int) := IntWalk.i64_in _ (by omega)
          have e3 : A - 1 = (q : Int) := by omega
          by_cases he : c[j'] = (q : Int)
          · have hql : q < l.length := by have := Hn.out; omega
            have hN0 := (HN.out q hql).below HB.out hb
            have n0 := hN0.1
            have hkq : l[q].k = kindAt l q := (kindAt_get hql).symm
            rw [hkq] at n0
            rw [he] at ck hgd
            have hbad : goB k (j' : Int) (m : Int) (kindAt l q) = false → Hid (wayOf l i = none) := fun h => HV.out.trans (walk_bad (by rw [HM.out] at h; exact h))
            have hgood : goB k (j' : Int) (m : Int) (kindAt l q) = true → Hid (wayOf l i = walkK (St l) (kindAt l) k c j' (St l q)) := fun h => HV.out.trans (walk_on hgd (by rw [HM.out] at h; exact h))
            have hsl := St_le l q
            have e7 : A - ((Mn l q : Nat) : Int) = ((St l q : Nat) : Int) := by unfold Mn; omega
            have hqi : q < i := by omega
            clear hA
            have hca : Hid (∀ W, Below wr.heap.size wr W → Calls Try.prog 24 #[.agg #[.slice (some ⟨b, o, none⟩) n cap], .int .i64 q] W fun e w' => e = .returned (.int .i64 (Mn l q)) ∧ Below W.heap.size W w') := fun W hW => by
              have h := many_any l b o cap (by have := Hn.out; omega) q W hql (fun i' hi' => HG.out i' (by omega)) (Nat.lt_of_lt_of_le hb (Nat.le_trans HB.out.size hW.size)) (fun j hj => (HN.out j hj).below (HB.out.trans (hW.mono HB.out.size)) hb) (fun j hj => (HKA.out j hj).below (HB.out.trans (hW.mono HB.out.size)))
              rw [← Hn.out] at h
              exact h
            have hqn : (q : Int) < (n : Int) := by have := Hn.out; omega
            clear hgd hkq hN0 HV he
            generalize kindAt l q = kd at *
            generalize St l q = sq at *
            generalize Mn l q = mq at *
            have hgc : ∀ W, Calls Try.prog 35 #[.int .i64 k, .int .i64 j', .int .i64 m, .int .i64 kd] W fun e w' => e = .returned (.bool (goB k j' m kd)) ∧ w' = W := fun W => (HGO.out j' kd W (by omega)).mono fun _ _ ⟨h1, h2⟩ => ⟨h1, h2.symm⟩
            cases hg : goB k (j' : Int) (m : Int) kd with
            | false =>
              have HW := hbad hg
              rw [hg] at hgc
              have HG2 := Lib.hid hg
              clear hbad hgood hg
              go_wp2
              go_quiet ((go_at_call 35; exact Calls.quiet_of_same (hgc _)))
              go_wp2
              rw [HQ.out]
              exact ⟨below_drewN HB.out _, Or.inl ⟨HW.out, rfl⟩⟩
            | true =>
              have HW := hgood hg
              rw [hg] at hgc
              have HG2 := Lib.hid hg
              clear hbad hgood hg
              go_wp2
              go_quiet ((go_at_call 35; exact Calls.quiet_of_same (hgc _)))
              go_wp2_with (go_at_call 24; refine (hca.out _ (below_drewN (Below.refl _ _) _)).mono ?_)
              first | rintro e w3 rfl hb3 | rintro e w3 ⟨rfl, hb3⟩
              have hb4 : Below wr.heap.size wr w3 := (below_drewN (Below.refl _ _) nq).trans hb3
              have HX3 := Lib.hid (HX.out.below hb4 lX)
              have HY3 := Lib.hid (HY.out.below hb4 lY)
              have HB3 := Lib.hid (HB.out.trans (hb4.mono (by omega)))
              clear hb3 hb4 hgc
              go_wp2
              go_roundw
              case rel => exact ⟨j', sq, (j' : Int) - 1, by omega, by omega, by go_num, by go_num, by omega, HW, HX3.out, HY3.out, HB3.out⟩
              case measure => simp [intOf]; try omega
          · have HW : Hid (wayOf l i = none) := HV.out.trans (walk_far (by rw [hgd]; exact he))
            have h1 : (c[j'] == (q : Int)) = false := by simpa using he
            have h2 : (c[j'] != (q : Int)) = true := by simpa using he
            clear HV hgd he
            generalize c[j'] = kid at *
            clear hA
            go_wp2
            go_quiet (fail)
            go_wp2
            rw [HQ.out]
            exact ⟨below_drewN HB.out _, Or.inl ⟨HW.out, rfl⟩⟩
end Go.Proofs.Ytmghjfphlneblaa.Tr
