/-
  The contract of the document's Part: the nodes of a part, their kids numbered anew.
-/
import Derived.Test.YtcaekpgnknlblaaBb
import Derived.Test.YtcaekpgnknlblaaN
namespace Go.Proofs.Ytcaekpgnknlblaa
open Go.RowKit

set_option maxHeartbeats 16000000 in
set_option maxRecDepth 100000 in
theorem rpart_any (l : List Nd) (b o cap kn f : Nat) (w : World) (hkn : kn < l.length) (hl : l.length ≤ 600) (hfe : f = St l kn) (hg : ∀ j, j < l.length → codeAt l j = 0) (hb : b < w.heap.size) (hN : ∀ j, (h : j < l.length) → NodeAt w b (o + j * 6) l[j]) (hK : ∀ j, (h : j < l.length) → KidsAt w l[j].p l[j].c) (ht : ∀ j, (h : j < l.length) → Tame l[j]) :
    Calls Try.prog 14 #[.agg #[.slice (some ⟨b, o, none⟩) l.length cap], .int .i64 (kn : Int)] w (CtPost l f (kn + 1 - f) w) := by
  have hle := St_le l kn
  have HM : Hid (∀ W, Below w.heap.size w W → Calls Try.prog 21 #[.agg #[.slice (some ⟨b, o, none⟩) l.length cap], .int .i64 (kn : Int)] W fun e w' => e = .returned (.int .i64 (Mn l kn)) ∧ Below W.heap.size W w') := fun W hW =>
    many_any l b o cap (by omega) kn W hkn (fun i hi => hg i (by omega)) (Nat.lt_of_lt_of_le hb hW.size) (fun j hj => (hN j hj).below hW hb) (fun j hj => (hK j hj).below hW)
  have hMn : Mn l kn = kn + 1 - f := by rw [hfe]; rfl
  rw [hMn] at HM
  rw [← hfe] at hle
  have HN := Lib.hid hN
  have HK := Lib.hid hK
  have HT := Lib.hid ht
  clear hN hK ht hg hMn hfe
  obtain ⟨m, hm⟩ : ∃ m, m = kn + 1 - f := ⟨_, rfl⟩
  rw [← hm] at HM ⊢
  obtain ⟨Q, hQ⟩ : ∃ Q : Ending → World → Prop, Q = CtPost l f m w := ⟨_, rfl⟩
  have HQ := Lib.hid hQ
  rw [← hQ]
  clear hQ
  obtain ⟨n, hn⟩ : ∃ n, n = l.length := ⟨_, rfl⟩
  rw [← hn] at hkn hl HM ⊢
  have Hn := Lib.hid hn
  have e1 : (kn : Int) - (m : Int) = (f : Int) - 1 := by omega
  have E5 := Lib.hid hm
  have hf600 : f ≤ 600 := by omega
  have hk600 : kn < 600 := by omega
  have hle' : f ≤ kn + 1 := by omega
  clear hn hm
  have HW : Hid (Below w.heap.size w ((w.alloc (.cells #[.slice (some ⟨b, o, none⟩) n cap] 24)).alloc (.cells #[.slice none 0 0] 24))) := ((Below.refl _ _).alloc (Nat.le_refl _) _).alloc (by simp) _
  have HX : Hid (Blk ((w.alloc (.cells #[.slice (some ⟨b, o, none⟩) n cap] 24)).alloc (.cells #[.slice none 0 0] 24)) w.heap.size 24 #[.slice (some ⟨b, o, none⟩) n cap]) := (Blk.new _ _ _).alloc _
  have HR : Hid (Blk ((w.alloc (.cells #[.slice (some ⟨b, o, none⟩) n cap] 24)).alloc (.cells #[.slice none 0 0] 24)) (w.heap.size + 1) 24 #[.slice none 0 0]) := by
    have h := Blk.new (w.alloc (.cells #[.slice (some ⟨b, o, none⟩) n cap] 24)) 24 #[.slice none 0 0]
    rw [World.size_alloc] at h
    exact h
  have hmc := HM.out _ HW.out
  go_enter Try.func14, Try.ntmps14
  go_wp2_with (go_at_call 21; refine hmc.mono ?_)
  first | rintro e w3 rfl hb3 | rintro e w3 ⟨rfl, hb3⟩
  have HB3 := Lib.hid (HW.out.trans (hb3.mono (by simp; try omega)))
  have HX3 := Lib.hid (HX.out.below hb3 (by simp; try omega))
  have HR3 := Lib.hid (HR.out.below hb3 (by simp; try omega))
  have lR3 := HR3.out.lt
  clear hb3 hmc HM HX HR HW
  go_wp2
  have HW4 : Hid (Below w.heap.size w (w3.alloc (.cells #[.slice none 0 0] 24))) := HB3.out.alloc HB3.out.size _
  have HX4 := Lib.hid (HX3.out.alloc (.cells #[.slice none 0 0] 24))
  have HR4 := Lib.hid (HR3.out.alloc (.cells #[.slice none 0 0] 24))
  have HP4 : Hid (Blk (w3.alloc (.cells #[.slice none 0 0] 24)) w3.heap.size 24 #[.slice none 0 0]) := Blk.new _ _ _
  clear HX3 HR3
  go_loopw [7] (fun v wr => ∃ (i j : Nat) (L : List Nd) (q : Option Addr) (qc : Nat), Hid (i = f + j) ∧ j ≤ i ∧ i ≤ kn + 1 ∧ v = .int .i64 i ∧ Hid (L.length = j) ∧ Blk wr w.heap.size 24 #[.slice (some ⟨b, o, none⟩) n cap] ∧ Blk wr (w.heap.size + 1) 24 #[.slice none 0 0] ∧ Blk wr w3.heap.size 24 #[.slice q j qc] ∧
      wr.ownsRow (w3.heap.size + 1) 42 6 (.slice q j qc) j (rowN L) ∧ Hid (∀ i, (h : i < L.length) → KidsO w.heap.size wr L[i].p L[i].cap L[i].c) ∧ Hid (∀ j, (h : j < L.length) → (h' : f + j < l.length) → CutOf f l[f + j] L[j]) ∧ Below w.heap.size w wr) (fun v _ => kn + 1 - (intOf v).toNat)
  case atStart => exact ⟨f, 0, [], none, 0, rfl, Nat.zero_le _, hle', rfl, rfl, HX4.out, HR4.out, HP4.out, World.ownsRow_nil _ _ _ _, fun i h => by simp at h, fun i h => by simp at h, HW4.out⟩
  case round =>
    obtain ⟨i, j, L, q, qc, HI, hji, hik, rfl, HLj, hXB, hRB, hPB, hO, HKL, HCL, hbe⟩ := hrel
    obtain ⟨wo, rfl⟩ : ∃ wo : World, wo = wr := ⟨_, rfl⟩
    have HB := Lib.hid hbe
    have HXB := Lib.hid hXB
    have HRB := Lib.hid hRB
    have HPB := Lib.hid hPB
    have HO := Lib.hid hO
    have lP := hPB.lt
    have lR : w.heap.size + 1 < wo.heap.size := hRB.lt
    have lX : w.heap.size < wo.heap.size := hXB.lt
    have z0 : wo.cell? ⟨w3.heap.size, 0, none⟩ = some (.slice q j qc) := by rw [hPB.cell]; rfl
    have x0 : wo.cell? ⟨w.heap.size, 0, none⟩ = some (.slice (some ⟨b, o, none⟩) n cap) := by rw [hXB.cell]; rfl
    have hj600 : j ≤ 600 := by omega
    clear hbe hRB hPB hO hXB HW4 HX4 HR4 HP4
    by_cases hlt : i < kn + 1
    · have hin : i < n := by omega
      have hil : i < l.length := by have := Hn.out; omega
      have hle1 : (i : Int) ≤ (kn : Int) := by omega
      obtain ⟨c0, c1, c2, c3, c4, c5⟩ := (HN.out i hil).below HB.out hb
      have hKj := (HK.out i hil).below HB.out
      have hTj := HT.out i hil
      have HCn : Hid (∀ y, CutOf f l[i] y → ∀ i', (h : i' < (L ++ [y]).length) → (h' : f + i' < l.length) → CutOf f l[f + i'] (L ++ [y])[i']) := fun y hy i' hi hi' => by
        have hLl := HLj.out
        have hI := HI.out
        by_cases e : i' < L.length
        · rw [List.getElem_append_left e]; exact HCL.out i' e hi'
        · obtain rfl : i' = j := by simp at hi; omega
          subst hI
          rw [List.getElem_append_right (by omega)]
          simp only [hLl, Nat.sub_self, List.getElem_cons_zero]
          exact hy
      generalize l[i] = x at *
      obtain ⟨xk, xt, xn, xz, xp, xcap, xc, xa⟩ := x
      obtain ⟨t1, t2, t3⟩ := hTj
      simp only at c0 c1 c2 c3 c4 c5 hKj t1 t2 t3
      have HKj := Lib.hid hKj
      have HT3 := Lib.hid t3
      obtain ⟨M, hM⟩ : ∃ M, M = xc.length := ⟨_, rfl⟩
      rw [← hM] at c4 t1
      have HMx := Lib.hid hM
      have HB1 := Lib.hid (HB.out.alloc HB.out.size (.cells #[.int .i64 xk, .string xt, .int .i64 xn, .int .i64 xz, .slice xp M xcap, .int .i64 xa] 42))
      have HX1 := Lib.hid (Blk.new wo 42 #[.int .i64 xk, .string xt, .int .i64 xn, .int .i64 xz, .slice xp M xcap, .int .i64 xa])
      have HW1 : Hid (Below wo.heap.size wo (wo.alloc (.cells #[.int .i64 xk, .string xt, .int .i64 xn, .int .i64 xz, .slice xp M xcap, .int .i64 xa] 42))) := (Below.refl _ _).alloc (Nat.le_refl _) _
      clear hKj t3 hM
      go_wp2
      go_loopw [9, 10] (fun vo vi wi => ∃ k : Nat, k ≤ M ∧ vi = .int .i64 k ∧ Below (wo.heap.size + 1) (wo.alloc (.cells #[.int .i64 xk, .string xt, .int .i64 xn, .int .i64 xz, .slice xp M xcap, .int .i64 xa] 42)) wi ∧ wi.ownsRow (wo.heap.size + 1) 3 1 vo k (subsV f xc k)) (fun _ vi _ => M - (intOf vi).toNat)
      case atStart => exact ⟨0, Nat.zero_le _, rfl, Below.refl _ _, World.ownsRow_nil _ _ _ _⟩
      case round =>
        obtain ⟨k, hk, rfl, hbi, ho⟩ := hrel
        obtain ⟨q', qc', rfl, _⟩ := own_shape ho
        have hbi' : Below (wo.alloc (.cells #[.int .i64 xk, .string xt, .int .i64 xn, .int .i64 xz, .slice xp M xcap, .int .i64 xa] 42)).heap.size (wo.alloc (.cells #[.int .i64 xk, .string xt, .int .i64 xn, .int .i64 xz, .slice xp M xcap, .int .i64 xa] 42)) wr := by rw [World.size_alloc]; exact hbi
        have hX4 := HX1.out.below hbi' (by simp)
        have hw4 : Below wo.heap.size wo wr := HW1.out.trans (hbi.mono (by omega))
        have v4 : wr.cell? ⟨wo.heap.size, 4, none⟩ = some (.slice xp M xcap) := by rw [hX4.cell]; rfl
        have lS4 := hX4.lt
        have HBi := Lib.hid hbi
        have HOi := Lib.hid ho
        have HX4 := Lib.hid hX4
        have HW4 := Lib.hid hw4
        clear hbi ho hbi' hX4 hw4 c0 c1 c2 c3 c4 c5 x0 z0
        by_cases hkt : k < M
        · have hl' : k < xc.length := by have := HMx.out; omega
          obtain ⟨kb, ko, rfl, hbl, hcell⟩ := HKj.out (by omega)
          have d0 := (HW4.out.cell (p := ⟨kb, ko + k, none⟩) hbl).trans (hcell k hl')
          have hki : (k : Int) < (M : Int) := by omega
          have Hnext := Lib.hid (subs_next (b := f) hl')
          have hck := HT3.out k hl'
          clear hcell
          generalize xc[k] = u at *
          obtain ⟨hx0, hx1⟩ := hck
          have HO5 := Lib.hid (HOi.out.alloc (.cells #[.int .i64 (u - (f : Int))] 3))
          have lw := HW4.out.size
          obtain ⟨i0, hi, hz0, hz1, hz2⟩ := info_parts info3
          go_wp2_with (at_builtin; refine wpList_append_own _ rfl _ _ 40 rfl (wo.heap.size + 1) 3 i0 (.int .i64 0) 1 8 Try.underlying40 hi hz0 hz1 hz2 rfl (by decide) _ k (subsV f xc k) rfl HO5.out ⟨wr.heap.size, 0, none⟩ 1 1 [.int .i64 (u - (f : Int))] rfl rfl ?c1 ?c2 ?c3 ?c4 ?c5 ?_)
          case c1 => exact news_one _ _ _
          case c2 => intro u hu; simp at hu; subst hu; rfl
          case c3 => unfold maxLen; omega
          case c4 => omega
          case c5 => simp; omega
          intro v' w1 hown' hgrow _
          have hbel := Below.grown (HBi.out.alloc (by omega) (.cells #[.int .i64 (u - (f : Int))] 3)) hgrow (by simp; omega) (fun g h => by have := (HO5.out.lt g h).1; omega)
          rw [← Hnext.out] at hown'
          have HOw := Lib.hid hown'
          have HBel := Lib.hid hbel
          clear hown' hgrow hbel
          go_wp2
          go_roundw
          case rel => exact ⟨k + 1, by omega, by go_num, HBel.out, HOw.out⟩
          case measure => simp [intOf]; try omega
        · have hkM : k = xc.length := by have := HMx.out; omega
          have hMk : k = M := by omega
          have HKO := Lib.hid (kids_made HOi.out hkM)
          clear hkM
          subst hMk
          have hX4 := HX4.out
          have hP4 := HPB.out.below HW4.out lP
          have u0 : wr.cell? ⟨wo.heap.size, 0, none⟩ = some (.int .i64 xk) := by rw [hX4.cell]; rfl
          have u1 : wr.cell? ⟨wo.heap.size, 1, none⟩ = some (.string xt) := by rw [hX4.cell]; rfl
          have u2 : wr.cell? ⟨wo.heap.size, 2, none⟩ = some (.int .i64 xn) := by rw [hX4.cell]; rfl
          have u3 : wr.cell? ⟨wo.heap.size, 3, none⟩ = some (.int .i64 xz) := by rw [hX4.cell]; rfl
          have u5 : wr.cell? ⟨wo.heap.size, 5, none⟩ = some (.int .i64 xa) := by rw [hX4.cell]; rfl
          have v4' := hX4.frozen 4
          have z4 : wr.cell? ⟨w3.heap.size, 0, none⟩ = some (.slice q j qc) := by rw [hP4.cell]; rfl
          have hw5 : Below wo.heap.size wo (wr.setCell ⟨wo.heap.size, 4, none⟩ (.slice q' k qc')) := HW4.out.setCell (p := ⟨wo.heap.size, 4, none⟩) (Nat.le_refl _) _
          have hKO5 : KidsO w.heap.size (wr.setCell ⟨wo.heap.size, 4, none⟩ (.slice q' k qc')) q' qc' (subs f xc) := (HKO.out.mono (Nat.le_trans HB.out.size (Nat.le_succ _))).blk (a := ⟨wo.heap.size, 4, none⟩) hX4 (by decide) _
          have HO6 := Lib.hid ((own_below HO.out hw5).alloc (.cells #[.int .i64 xk, .string xt, .int .i64 xn, .int .i64 xz, .slice q' k qc', .int .i64 xa] 42))
          have HW6 := Lib.hid (hw5.alloc (by simpa using HW4.out.size) (.cells #[.int .i64 xk, .string xt, .int .i64 xn, .int .i64 xz, .slice q' k qc', .int .i64 xa] 42))
          have HKO6 := Lib.hid (hKO5.alloc_ (.cells #[.int .i64 xk, .string xt, .int .i64 xn, .int .i64 xz, .slice q' k qc', .int .i64 xa] 42))
          have hnews : ∀ j u, ([.int .i64 xk, .string xt, .int .i64 xn, .int .i64 xz, .slice q' k qc', .int .i64 xa] : List Value)[j]? = some u → ((wr.setCell ⟨wo.heap.size, 4, none⟩ (.slice q' k qc')).alloc (.cells #[.int .i64 xk, .string xt, .int .i64 xn, .int .i64 xz, .slice q' k qc', .int .i64 xa] 42)).cell? ((⟨wr.heap.size, 0, none⟩ : Addr).add j) = some u := by
            have h := news_node (wr.setCell ⟨wo.heap.size, 4, none⟩ (.slice q' k qc')) (.int .i64 xk) (.string xt) (.int .i64 xn) (.int .i64 xz) (.slice q' k qc') (.int .i64 xa)
            rw [show (wr.setCell ⟨wo.heap.size, 4, none⟩ (.slice q' k qc')).heap.size = wr.heap.size by simp] at h
            exact h
          have HNews := Lib.hid hnews
          have lPS : w3.heap.size ≠ wo.heap.size := by omega
          have lP4 := hP4.lt
          clear hX4 hP4 hKO5 hw5 hnews
          obtain ⟨i0, hi, hz0, hz1, hz2⟩ := info_parts info42
          go_wp2_with (at_builtin; refine wpList_append_own _ rfl _ _ 22 rfl (w3.heap.size + 1) 42 i0 (.agg #[.int .i64 0, .string ⟨#[]⟩, .int .i64 0, .int .i64 0, .slice none 0 0, .int .i64 0]) 6 72 Try.underlying22 hi hz0 hz1 hz2 rfl (by decide) _ j (rowN L) rfl HO6.out ⟨wr.heap.size, 0, none⟩ 1 1 [.int .i64 xk, .string xt, .int .i64 xn, .int .i64 xz, .slice q' k qc', .int .i64 xa] rfl rfl ?c1 ?c2 ?c3 ?c4 ?c5 ?_)
          case c1 => exact HNews.out
          case c2 => intro u hu; simp at hu; rcases hu with rfl | rfl | rfl | rfl | rfl | rfl <;> rfl
          case c3 => unfold maxLen; omega
          case c4 => omega
          case c5 => simp; omega
          intro v' w7 hown' hgrow _
          obtain ⟨q2, qc2, rfl, _⟩ := own_shape hown'
          have hrow : ∀ g, (Value.slice q j qc).ownBlock = some g → w3.heap.size + 1 ≤ g := fun g h => (HO6.out.lt g h).1
          have hB6 := HB.out.trans (HW6.out.mono HB.out.size)
          have lw3 := HB3.out.size
          have hB7 : Below w.heap.size w w7 := Below.grown hB6 hgrow hB6.size (fun g h => by have := hrow g h; omega)
          have hne2 : some w3.heap.size ≠ (Value.slice q j qc).ownBlock := fun h => by have := hrow _ h.symm; omega
          have hne1 : some (w.heap.size + 1) ≠ (Value.slice q j qc).ownBlock := fun h => by have := hrow _ h.symm; omega
          have hne0 : some w.heap.size ≠ (Value.slice q j qc).ownBlock := fun h => by have := hrow _ h.symm; omega
          have hP7 := (HPB.out.below HW6.out lP).grown hgrow hne2
          have hR7 := (HRB.out.below HW6.out lR).grown hgrow hne1
          have hX7 := (HXB.out.below HW6.out lX).grown hgrow hne0
          have hK7 : ∀ i, (h : i < L.length) → KidsO w.heap.size w7 L[i].p L[i].cap L[i].c := fun i hi => ((HKL.out i hi).below HW6.out).grown HO6.out hgrow
          have hk7 := HKO6.out.grown HO6.out hgrow
          have hP8 : Blk (w7.setCell ⟨w3.heap.size, 0, none⟩ (.slice q2 (j + 1) qc2)) w3.heap.size 24 #[.slice q2 (j + 1) qc2] := by have h := hP7.set_ 0 (.slice q2 (j + 1) qc2); simpa using h
          have hR8 : Blk (w7.setCell ⟨w3.heap.size, 0, none⟩ (.slice q2 (j + 1) qc2)) (w.heap.size + 1) 24 #[.slice none 0 0] := hR7.far (by simp; omega) _
          have hX8 : Blk (w7.setCell ⟨w3.heap.size, 0, none⟩ (.slice q2 (j + 1) qc2)) w.heap.size 24 #[.slice (some ⟨b, o, none⟩) n cap] := hX7.far (by simp; omega) _
          have hO8 : (w7.setCell ⟨w3.heap.size, 0, none⟩ (.slice q2 (j + 1) qc2)).ownsRow (w3.heap.size + 1) 42 6 (.slice q2 (j + 1) qc2) (j + 1) (rowN (L ++ [⟨xk, xt, xn, xz, q', qc', subs f xc, xa⟩])) := by
            rw [rowN_snoc]
            refine own_far (by have hMx := HMx.out; simpa [cellsN, subs_length, ← hMx] using hown') (fun g hg => ?_) _
            have := (hown'.lt g hg).1
            simp; omega
          have hK8 : Hid (∀ i, (h : i < (L ++ [(⟨xk, xt, xn, xz, q', qc', subs f xc, xa⟩ : Nd)]).length) → KidsO w.heap.size (w7.setCell ⟨w3.heap.size, 0, none⟩ (.slice q2 (j + 1) qc2)) (L ++ [(⟨xk, xt, xn, xz, q', qc', subs f xc, xa⟩ : Nd)])[i].p (L ++ [(⟨xk, xt, xn, xz, q', qc', subs f xc, xa⟩ : Nd)])[i].cap (L ++ [(⟨xk, xt, xn, xz, q', qc', subs f xc, xa⟩ : Nd)])[i].c) := fun i hi => by
            by_cases e : i < L.length
            · rw [List.getElem_append_left e]; exact (hK7 i e).blk (a := ⟨w3.heap.size, 0, none⟩) hP7 (by decide) _
            · obtain rfl : i = L.length := by simp at hi; omega
              rw [List.getElem_append_right (Nat.le_refl _)]
              simp only [Nat.sub_self, List.getElem_cons_zero]
              exact hk7.blk (a := ⟨w3.heap.size, 0, none⟩) hP7 (by decide) _
          have hB8 : Below w.heap.size w (w7.setCell ⟨w3.heap.size, 0, none⟩ (.slice q2 (j + 1) qc2)) := hB7.setCell (p := ⟨w3.heap.size, 0, none⟩) (by simp; omega) _
          have z7 : w7.cell? ⟨w3.heap.size, 0, none⟩ = some (.slice q j qc) := by rw [hP7.cell]; rfl
          have zf := hP7.frozen 0
          have HP8 := Lib.hid hP8
          have HR8 := Lib.hid hR8
          have HX8 := Lib.hid hX8
          have HO8 := Lib.hid hO8
          have HB8 := Lib.hid hB8
          have HC8 := HCn.out ⟨xk, xt, xn, xz, q', qc', subs f xc, xa⟩ ⟨rfl, rfl, rfl, rfl, rfl, rfl⟩
          have HC8 := Lib.hid HC8
          have HL8 : Hid ((L ++ [(⟨xk, xt, xn, xz, q', qc', subs f xc, xa⟩ : Nd)]).length = j + 1) := by show _ = _; rw [List.length_append, HLj.out]; rfl
          have HI8 : Hid (i + 1 = f + (j + 1)) := by show _ = _; have := HI.out; omega
          clear hown' hgrow hrow hB6 hB7 hne0 hne1 hne2 hP7 hR7 hX7 hK7 hk7 hP8 hR8 hX8 hO8 hB8 u0 u1 u2 u3 u5 v4' v4 z4
          go_wp2
          go_roundw
          case rel => exact ⟨i + 1, j + 1, _, q2, qc2, HI8, by omega, by omega, by go_num, HL8, HX8.out, HR8.out, HP8.out, HO8.out, hK8.out, HC8.out, HB8.out⟩
          case measure => simp [intOf]; try omega
    · have hjm : j = m := by have := HI.out; have := E5.out; omega
      have hji2 : ¬ (i : Int) ≤ (kn : Int) := by omega
      subst hjm
      have r0 : wo.cell? ⟨w.heap.size + 1, 0, none⟩ = some (.slice none 0 0) := by rw [HRB.out.cell]; rfl
      have rf := HRB.out.frozen 0
      have lw3 := HB3.out.size
      have hR9 : Blk (wo.setCell ⟨w.heap.size + 1, 0, none⟩ (.slice q j qc)) (w.heap.size + 1) 24 #[.slice q j qc] := by have h := HRB.out.set_ 0 (.slice q j qc); simpa using h
      have r9 := hR9.cell 0
      have hO9 := own_far HO.out (p := ⟨w.heap.size + 1, 0, none⟩) (fun g hg => by have := (HO.out.lt g hg).1; simp; omega) (.slice q j qc)
      have hK9 : ∀ i, (h : i < L.length) → KidsO w.heap.size (wo.setCell ⟨w.heap.size + 1, 0, none⟩ (.slice q j qc)) L[i].p L[i].cap L[i].c := fun i hi => (HKL.out i hi).blk (a := ⟨w.heap.size + 1, 0, none⟩) HRB.out (by decide) _
      have hT9 := fun (W' : World) (hk : ∀ g, w.heap.size ≤ g → g < (wo.setCell ⟨w.heap.size + 1, 0, none⟩ (.slice q j qc)).heap.size → W'.heap[g]? = (wo.setCell ⟨w.heap.size + 1, 0, none⟩ (.slice q j qc)).heap[g]?) => tr_keep hO9 HLj.out.symm hK9 (by omega) hk
      have hB9 := HB.out.setCell (p := ⟨w.heap.size + 1, 0, none⟩) (by simp) (.slice q j qc)
      obtain ⟨_, _, hsh, hcq⟩ := own_shape HO.out
      injection hsh with hs1 hs2 hs3
      have HT9 := Lib.hid hT9
      have HB9 := Lib.hid hB9
      have R9 := Lib.hid r9
      have hcq2 : j ≤ qc := by omega
      clear hR9 r9 hO9 hK9 hT9 hB9 hs1 hs2 hs3 hcq e1
      go_wp2
      have r9 := R9.out
      refine bodyPost_ret (v := .agg #[.slice q j qc]) (by simp [results, Try.results14, go_sem, r9]) rfl ?_
      rw [HQ.out]
      exact ⟨L, q, qc, by rw [HLj.out], HLj.out, by rw [HLj.out]; exact hcq2, HT9.out, HCL.out, HB9.out⟩
end Go.Proofs.Ytcaekpgnknlblaa
