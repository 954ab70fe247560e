/-
  The contract of the document's Alike.
-/
import Derived.Test.YtcaekpgnknlblaaV
namespace Go.Proofs.Ytcaekpgnknlblaa
open Go.RowKit

theorem sameB_not {x y : Nd} (h : ¬ (x.k = y.k ∧ x.t.toList = y.t.toList ∧ x.n = y.n ∧ x.z = y.z ∧ x.c = y.c)) : sameB x y = false := decide_eq_false h
theorem sameB_yes {x y : Nd} (h : x.k = y.k ∧ x.t.toList = y.t.toList ∧ x.n = y.n ∧ x.z = y.z ∧ x.c = y.c) : sameB x y = true := decide_eq_true h

set_option maxHeartbeats 16000000 in
set_option maxRecDepth 100000 in
theorem alike_any (l l' : List Nd) (p p' : Option Addr) (cap cap' : Nat) (w : World) (hT : Tr w p l) (hT' : Tr w p' l') (hf : Fit l cap) (hf' : Fit l' cap') :
    Calls Try.prog 16 #[.agg #[.slice p l.length cap], .agg #[.slice p' l'.length cap']] w fun e w' => e = .returned (.bool (sameL l l')) ∧ Below w.heap.size w w' := by
  have HT := Lib.hid hT
  have HT' := Lib.hid hT'
  have HF := Lib.hid hf
  have HF' := Lib.hid hf'
  have hn47 := hf.2.1
  have hn47' := hf'.2.1
  clear hT hT' hf hf'
  obtain ⟨r, hr⟩ : ∃ r, r = sameL l l' := ⟨_, rfl⟩
  rw [← hr]
  have HR := Lib.hid hr
  clear hr
  obtain ⟨n, hn⟩ : ∃ n, n = l.length := ⟨_, rfl⟩
  obtain ⟨n', hn'⟩ : ∃ n, n = l'.length := ⟨_, rfl⟩
  rw [← hn] at hn47 ⊢
  rw [← hn'] at hn47' ⊢
  have Hn := Lib.hid hn
  have Hn' := Lib.hid hn'
  clear hn hn'
  have HW : Hid (Below w.heap.size w ((w.alloc (.cells #[.slice p n cap] 24)).alloc (.cells #[.slice p' n' cap'] 24))) := ((Below.refl _ _).alloc (Nat.le_refl _) _).alloc (by simp) _
  by_cases hl : n = n'
  · subst hl
    go_enter Try.func16, Try.ntmps16
    go_wp2
    go_loopw [5] (fun v wr => ∃ k : Nat, k ≤ n ∧ v = .int .i64 k ∧ Hid (∀ j, (h1 : j < l.length) → (h2 : j < l'.length) → j < k → sameB l[j] l'[j] = true) ∧ Blk wr w.heap.size 24 #[.slice p n cap] ∧ Blk wr (w.heap.size + 1) 24 #[.slice p' n cap'] ∧ Below w.heap.size w wr) (fun v _ => n - (intOf v).toNat)
    case atStart => exact ⟨0, Nat.zero_le _, rfl, fun j _ _ h => by omega, (Blk.new _ _ _).alloc _, by have h := Blk.new (w.alloc (.cells #[.slice p n cap] 24)) 24 #[.slice p' n cap']; rw [World.size_alloc] at h; exact h, HW.out⟩
    case round =>
      obtain ⟨k, hk, rfl, HE, hX, hY, hb⟩ := hrel
      obtain ⟨wo, rfl⟩ : ∃ wo : World, wo = wr := ⟨_, rfl⟩
      have HB := Lib.hid hb
      have x0 : wo.cell? ⟨w.heap.size, 0, none⟩ = some (.slice p n cap) := by rw [hX.cell]; rfl
      have y0 : wo.cell? ⟨w.heap.size + 1, 0, none⟩ = some (.slice p' n cap') := by rw [hY.cell]; rfl
      have lX := hX.lt
      have lY := hY.lt
      have HX := Lib.hid hX
      have HY := Lib.hid hY
      clear hb hX hY HW
      by_cases hlt : k < n
      · have h1 : k < l.length := by have := Hn.out; omega
        have h2 : k < l'.length := by have := Hn'.out; omega
        obtain ⟨b, o, rfl, hbl, hc⟩ := HT.out.1 (by omega)
        obtain ⟨b', o', rfl, hbl', hc'⟩ := HT'.out.1 (by omega)
        obtain ⟨c0, c1, c2, c3, c4, c5⟩ := (hc k h1).below HB.out hbl
        have lb' : b' < wo.heap.size := Nat.lt_of_lt_of_le hbl' HB.out.size
        have hBa : Below w.heap.size w (wo.alloc (.cells #[.int .i64 l[k].k, .string l[k].t, .int .i64 l[k].n, .int .i64 l[k].z, .slice l[k].p l[k].c.length l[k].cap, .int .i64 l[k].a] 42)) := HB.out.alloc HB.out.size _
        obtain ⟨d0, d1, d2, d3, d4, d5⟩ := (hc' k h2).below hBa hbl'
        have hBb : Below w.heap.size w ((wo.alloc (.cells #[.int .i64 l[k].k, .string l[k].t, .int .i64 l[k].n, .int .i64 l[k].z, .slice l[k].p l[k].c.length l[k].cap, .int .i64 l[k].a] 42)).alloc (.cells #[.int .i64 l'[k].k, .string l'[k].t, .int .i64 l'[k].n, .int .i64 l'[k].z, .slice l'[k].p l'[k].c.length l'[k].cap, .int .i64 l'[k].a] 42)) := hBa.alloc hBa.size _
        have hKx := HT.out.2 k h1
        have hKy := HT'.out.2 k h2
        have hmx := HF.out.2.2 k h1
        have hmy := HF'.out.2.2 k h2
        have hF : sameB l[k] l'[k] = false → Hid (r = false) := fun h => HR.out.trans (sameL_at h1 h2 h)
        have hN : sameB l[k] l'[k] = true → Hid (∀ j, (h1 : j < l.length) → (h2 : j < l'.length) → j < k + 1 → sameB l[j] l'[j] = true) := fun h j g1 g2 hj => by
          by_cases e : j = k
          · subst e; exact h
          · exact HE.out j g1 g2 (by omega)
        have HBb := Lib.hid hBb
        clear hc hc' hBa hBb
        generalize l[k] = x at *
        generalize l'[k] = y at *
        obtain ⟨xk, xt, xn, xz, xp, xcap, xc, xa⟩ := x
        obtain ⟨yk, yt, yn, yz, yp, ycap, yc, ya⟩ := y
        simp only at c0 c1 c2 c3 c4 c5 d0 d1 d2 d3 d4 d5 HBb hKx hKy hmx hmy
        have hF := fun h => hF (sameB_not h)
        have hN := fun h => hN (sameB_yes h)
        simp only at hF hN
        obtain ⟨mx, hmxe⟩ : ∃ m, m = xc.length := ⟨_, rfl⟩
        obtain ⟨my, hmye⟩ : ∃ m, m = yc.length := ⟨_, rfl⟩
        rw [← hmxe] at c4 d0 d1 d2 d3 d4 d5 hmx HBb
        rw [← hmye] at d4 hmy HBb
        have HMX := Lib.hid hmxe
        have HMY := Lib.hid hmye
        clear hmxe hmye
        by_cases q1 : xk = yk
        · by_cases q2 : xt.toList = yt.toList
          · by_cases q3 : xn = yn
            · by_cases q4 : xz = yz
              · have b1 : (xk != yk) = false := by simpa using q1
                have b1e : (xk == yk) = true := by simpa using q1
                have b2 : (xt.toList != yt.toList) = false := by simpa using q2
                have b2e : (xt.toList == yt.toList) = true := by simpa using q2
                have b3 : (xn != yn) = false := by simpa using q3
                have b3e : (xn == yn) = true := by simpa using q3
                have b4 : (xz != yz) = false := by simpa using q4
                have b4e : (xz == yz) = true := by simpa using q4
                by_cases q5 : mx = my
                · subst q5
                  have hF := fun (hc : xc ≠ yc) => hF (fun h => hc h.2.2.2.2)
                  have hN := fun (hc : xc = yc) => hN ⟨q1, q2, q3, q4, hc⟩
                  have HFf := Lib.hid hF
                  have HNn := Lib.hid hN
                  have BX : Hid (Blk ((wo.alloc (.cells #[.int .i64 xk, .string xt, .int .i64 xn, .int .i64 xz, .slice xp mx xcap, .int .i64 xa] 42)).alloc (.cells #[.int .i64 yk, .string yt, .int .i64 yn, .int .i64 yz, .slice yp mx ycap, .int .i64 ya] 42)) wo.heap.size 42 #[.int .i64 xk, .string xt, .int .i64 xn, .int .i64 xz, .slice xp mx xcap, .int .i64 xa]) := (Blk.new _ _ _).alloc _
                  have BY : Hid (Blk ((wo.alloc (.cells #[.int .i64 xk, .string xt, .int .i64 xn, .int .i64 xz, .slice xp mx xcap, .int .i64 xa] 42)).alloc (.cells #[.int .i64 yk, .string yt, .int .i64 yn, .int .i64 yz, .slice yp mx ycap, .int .i64 ya] 42)) (wo.heap.size + 1) 42 #[.int .i64 yk, .string yt, .int .i64 yn, .int .i64 yz, .slice yp mx ycap, .int .i64 ya]) := by
                    have h := Blk.new (wo.alloc (.cells #[.int .i64 xk, .string xt, .int .i64 xn, .int .i64 xz, .slice xp mx xcap, .int .i64 xa] 42)) 42 #[.int .i64 yk, .string yt, .int .i64 yn, .int .i64 yz, .slice yp mx ycap, .int .i64 ya]
                    rw [World.size_alloc] at h
                    exact h
                  have HXb : Hid (Blk ((wo.alloc (.cells #[.int .i64 xk, .string xt, .int .i64 xn, .int .i64 xz, .slice xp mx xcap, .int .i64 xa] 42)).alloc (.cells #[.int .i64 yk, .string yt, .int .i64 yn, .int .i64 yz, .slice yp mx ycap, .int .i64 ya] 42)) w.heap.size 24 #[.slice (some ⟨b, o, none⟩) n cap]) := (HX.out.alloc _).alloc _
                  have HYb : Hid (Blk ((wo.alloc (.cells #[.int .i64 xk, .string xt, .int .i64 xn, .int .i64 xz, .slice xp mx xcap, .int .i64 xa] 42)).alloc (.cells #[.int .i64 yk, .string yt, .int .i64 yn, .int .i64 yz, .slice yp mx ycap, .int .i64 ya] 42)) (w.heap.size + 1) 24 #[.slice (some ⟨b', o', none⟩) n cap']) := (HY.out.alloc _).alloc _
                  have HKX := Lib.hid hKx
                  have HKY := Lib.hid hKy
                  clear hF hN q1 q2 q3 q4 hKx hKy
                  go_wp2
                  go_loopw [8] (fun v wi => ∃ j : Nat, j ≤ mx ∧ v = .int .i64 j ∧ Hid (∀ i, (h1 : i < xc.length) → (h2 : i < yc.length) → i < j → xc[i] = yc[i]) ∧ Below ((wo.alloc (.cells #[.int .i64 xk, .string xt, .int .i64 xn, .int .i64 xz, .slice xp mx xcap, .int .i64 xa] 42)).alloc (.cells #[.int .i64 yk, .string yt, .int .i64 yn, .int .i64 yz, .slice yp mx ycap, .int .i64 ya] 42)).heap.size ((wo.alloc (.cells #[.int .i64 xk, .string xt, .int .i64 xn, .int .i64 xz, .slice xp mx xcap, .int .i64 xa] 42)).alloc (.cells #[.int .i64 yk, .string yt, .int .i64 yn, .int .i64 yz, .slice yp mx ycap, .int .i64 ya] 42)) wi) (fun v _ => mx - (intOf v).toNat)
                  case atStart => exact ⟨0, Nat.zero_le _, rfl, fun i _ _ h => by omega, Below.refl _ _⟩
                  case round =>
                    obtain ⟨j, hj, rfl, HJ, hbi⟩ := hrel
                    have x4 : wr.cell? ⟨wo.heap.size, 4, none⟩ = some (.slice xp mx xcap) := by rw [(BX.out.below hbi (by simp; try omega)).cell]; rfl
                    have y4 : wr.cell? ⟨wo.heap.size + 1, 4, none⟩ = some (.slice yp mx ycap) := by rw [(BY.out.below hbi (by simp)).cell]; rfl
                    have HBi := Lib.hid (HBb.out.trans (hbi.mono HBb.out.size))
                    have HBi0 := Lib.hid hbi
                    have HXi := Lib.hid (HXb.out.below hbi (by simp; omega))
                    have HYi := Lib.hid (HYb.out.below hbi (by simp; omega))
                    clear hbi x0 y0 d0 d1 d2 d3 d4 d5 c0 c1 c2 c3 c4 c5
                    by_cases hjt : j < mx
                    · have g1 : j < xc.length := by have := HMX.out; omega
                      have g2 : j < yc.length := by have := HMY.out; omega
                      obtain ⟨kb, ko, rfl, hkb, hkc⟩ := HKX.out (by omega)
                      obtain ⟨kb', ko', rfl, hkb', hkc'⟩ := HKY.out (by omega)
                      have e0 := (HBi.out.cell (p := ⟨kb, ko + j, none⟩) hkb).trans (hkc j g1)
                      have e1 := (HBi.out.cell (p := ⟨kb', ko' + j, none⟩) hkb').trans (hkc' j g2)
                      have hji : (j : Int) < (mx : Int) := by omega
                      have hFj : xc[j] ≠ yc[j] → Hid (r = false) := fun h => HFf.out (fun e => by subst e; exact h rfl)
                      have hNj : xc[j] = yc[j] → Hid (∀ i, (h1 : i < xc.length) → (h2 : i < yc.length) → i < j + 1 → xc[i] = yc[i]) := fun h i u1 u2 hi => by
                        by_cases e : i = j
                        · subst e; exact h
                        · exact HJ.out i u1 u2 (by omega)
                      clear hkc hkc'
                      generalize xc[j] = u at *
                      generalize yc[j] = v at *
                      by_cases huv : u = v
                      · have HN1 := hNj huv
                        subst huv
                        clear hFj hNj
                        have q1 : (u != u) = false := by simp
                        have q2 : (u == u) = true := by simp
                        go_wp2
                        go_quiet (fail)
                        go_wp2
                        go_roundw
                        case rel => exact ⟨j + 1, by omega, by go_num, HN1, below_drewN HBi0.out _⟩
                        case measure => simp [intOf]; try omega
                      · have HF0 := hFj huv
                        have q1 : (u != v) = true := by simpa using huv
                        have q2 : (u == v) = false := by simpa using huv
                        clear hFj hNj huv
                        go_wp2
                        go_quiet (fail)
                        go_wp2
                        go_ret
                        exact ⟨by rw [HF0.out]; rfl, below_drewN HBi.out _⟩
                    · have HNx : Hid (∀ j, (h1 : j < l.length) → (h2 : j < l'.length) → j < k + 1 → sameB l[j] l'[j] = true) := HNn.out (List.ext_getElem (by rw [← HMX.out, ← HMY.out]) fun i u1 u2 => HJ.out i u1 u2 (by have := HMX.out; omega))
                      go_wp2
                      go_roundw
                      case rel => exact ⟨k + 1, by omega, by go_num, HNx, HXi.out, HYi.out, HBi.out⟩
                      case measure => simp [intOf]; try omega
                · have HF0 := hF (fun h => q5 (by rw [HMX.out, HMY.out, h.2.2.2.2]))
                  have b5 : ((mx : Int) != (my : Int)) = true := by rw [bne_iff_ne]; omega
                  have b6 : ((mx : Int) == (my : Int)) = false := by rw [beq_eq_false_iff_ne]; omega
                  clear hF hN q1 q2 q3 q4
                  go_wp2
                  go_ret
                  exact ⟨by rw [HF0.out]; rfl, HBb.out⟩
              · have HF0 := hF (fun h => q4 h.2.2.2.1)
                have b1 : (xk != yk) = false := by simpa using q1
                have b1e : (xk == yk) = true := by simpa using q1
                have b2 : (xt.toList != yt.toList) = false := by simpa using q2
                have b2e : (xt.toList == yt.toList) = true := by simpa using q2
                have b3 : (xn != yn) = false := by simpa using q3
                have b3e : (xn == yn) = true := by simpa using q3
                have b4 : (xz != yz) = true := by simpa using q4
                have b4e : (xz == yz) = false := by simpa using q4
                clear hF hN q1 q2 q3 q4
                go_wp2
                go_ret
                exact ⟨by rw [HF0.out]; rfl, HBb.out⟩
            · have HF0 := hF (fun h => q3 h.2.2.1)
              have b1 : (xk != yk) = false := by simpa using q1
              have b1e : (xk == yk) = true := by simpa using q1
              have b2 : (xt.toList != yt.toList) = false := by simpa using q2
              have b2e : (xt.toList == yt.toList) = true := by simpa using q2
              have b3 : (xn != yn) = true := by simpa using q3
              have b3e : (xn == yn) = false := by simpa using q3
              clear hF hN q1 q2 q3
              go_wp2
              go_ret
              exact ⟨by rw [HF0.out]; rfl, HBb.out⟩
          · have HF0 := hF (fun h => q2 h.2.1)
            have b1 : (xk != yk) = false := by simpa using q1
            have b1e : (xk == yk) = true := by simpa using q1
            have b2 : (xt.toList != yt.toList) = true := by simpa using q2
            have b2e : (xt.toList == yt.toList) = false := by simpa using q2
            clear hF hN q1 q2
            go_wp2
            go_ret
            exact ⟨by rw [HF0.out]; rfl, HBb.out⟩
        · have HF0 := hF (fun h => q1 h.1)
          have b1 : (xk != yk) = true := by simpa using q1
          have b1e : (xk == yk) = false := by simpa using q1
          clear hF hN q1
          go_wp2
          go_ret
          exact ⟨by rw [HF0.out]; rfl, HBb.out⟩
      · have HT0 : Hid (r = true) := HR.out.trans (sameL_all (by rw [← Hn.out, ← Hn'.out]) fun j g1 g2 => HE.out j g1 g2 (by have := Hn.out; omega))
        go_wp2
        go_ret
        exact ⟨by rw [HT0.out]; rfl, HB.out⟩
  · have HF0 : Hid (r = false) := HR.out.trans (sameL_len (by rw [← Hn.out, ← Hn'.out]; exact hl))
    have q1 : ((n : Int) != (n' : Int)) = true := by rw [bne_iff_ne]; omega
    have q2 : ((n : Int) == (n' : Int)) = false := by rw [beq_eq_false_iff_ne]; omega
    go_enter Try.func16, Try.ntmps16
    go_wp2
    go_ret
    exact ⟨by rw [HF0.out]; rfl, HW.out⟩
end Go.Proofs.Ytcaekpgnknlblaa
