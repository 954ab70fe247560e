/-
  The walk of the law TreeAlike: it returns true, and nothing that was there has turned.
-/
import Derived.Test.YtcaekpgnknlblaaT
import Derived.Test.YtcaekpgnknlblaaW
import Derived.Test.YtcaekpgnknlblaaX
import Derived.Laws.StructEq
namespace Go.Proofs.Ytcaekpgnknlblaa
open Go.RowKit

theorem SmR.bad1 {l l' : List Nd} {is : Bool} {c a c' a' : Int} (h : SmR l l' is c' a') (hc : CkR l c a) (h0 : c ≠ 0) : c' = c ∧ a' = a ∧ is = false := by
  rcases h with ⟨h1, h2, h3⟩ | ⟨h1, _⟩ | ⟨h1, _⟩
  · obtain ⟨rfl, rfl⟩ := hc.det h1; exact ⟨rfl, rfl, h3⟩
  · exact absurd (hc.det h1).1 h0
  · exact absurd (hc.det h1).1 h0
theorem SmR.bad2 {l l' : List Nd} {is : Bool} {c a c' a' : Int} (h : SmR l l' is c' a') (hl : CkR l 0 0) (hc : CkR l' c a) (h0 : c ≠ 0) : c' = c ∧ a' = a ∧ is = false := by
  rcases h with ⟨h1, h2, h3⟩ | ⟨_, h1, _, h3⟩ | ⟨_, h1, _⟩
  · exact absurd (hl.det h1).1.symm h2
  · obtain ⟨rfl, rfl⟩ := hc.det h1; exact ⟨rfl, rfl, h3⟩
  · exact absurd (hc.det h1).1 h0
theorem SmR.good {l l' : List Nd} {is : Bool} {c' a' : Int} (h : SmR l l' is c' a') (hl : CkR l 0 0) (hc : CkR l' 0 0) : c' = 0 ∧ a' = 0 ∧ is = sameL l l' := by
  rcases h with ⟨h1, h2, h3⟩ | ⟨_, h1, h2, h3⟩ | ⟨_, _, h1, h2, h3⟩
  · exact absurd (hl.det h1).1.symm h2
  · exact absurd (hc.det h1).1.symm h2
  · exact ⟨h1, h2, h3⟩

set_option maxHeartbeats 16000000 in
set_option maxRecDepth 100000 in
theorem alike_walk (l l' : List Nd) (p p' : Option Addr) (cap cap' : Nat) (w : World) (hT : Tr w p l) (hT' : Tr w p' l') (hf : Fit l cap) (hf' : Fit l' cap') (hg : Fit2 l) (hg' : Fit2 l') :
    Calls Try.prog 4 #[.agg #[.slice p l.length cap], .agg #[.slice p' l'.length cap']] w fun e w' => e = .returned (.bool true) ∧ Below w.heap.size w w' := by
  have hn47 := hf.2.1
  have hn47' := hf'.2.1
  have HR1 : Hid (∀ W, Below w.heap.size w W → Calls Try.prog 7 #[.agg #[.slice p l.length cap]] W (CkPost l W)) := fun W hW => rtree_any l p cap W (hT.below hW) hf hg
  have HR2 : Hid (∀ W, Below w.heap.size w W → Calls Try.prog 7 #[.agg #[.slice p' l'.length cap']] W (CkPost l' W)) := fun W hW => rtree_any l' p' cap' W (hT'.below hW) hf' hg'
  have HS : Hid (∀ W, Below w.heap.size w W → Calls Try.prog 15 #[.agg #[.slice p l.length cap], .agg #[.slice p' l'.length cap']] W (SmPost l l' W)) := fun W hW => tsame_any l l' p p' cap cap' W (hT.below hW) (hT'.below hW) hf hf'
  have HA : Hid (∀ W, Below w.heap.size w W → Calls Try.prog 16 #[.agg #[.slice p l.length cap], .agg #[.slice p' l'.length cap']] W fun e w' => e = .returned (.bool (sameL l l')) ∧ Below W.heap.size W w') := fun W hW => alike_any l l' p p' cap cap' W (hT.below hW) (hT'.below hW) hf hf'
  clear hT hT' hf hf' hg hg'
  generalize l.length = n at *
  generalize l'.length = n' at *
  have HW : Hid (Below w.heap.size w ((w.alloc (.cells #[.slice p n cap] 24)).alloc (.cells #[.slice p' n' cap'] 24))) := ((Below.refl _ _).alloc (Nat.le_refl _) _).alloc (by simp) _
  by_cases hbig : 700 < n
  · go_enter Try.func4, Try.ntmps4
    go_wp2
    go_ret
    exact ⟨rfl, HW.out⟩
  · by_cases hbig' : 700 < n'
    · go_enter Try.func4, Try.ntmps4
      go_wp2
      go_ret
      exact ⟨rfl, HW.out⟩
    · have hr1 := HR1.out _ HW.out
      have hX0 : Hid (Blk ((w.alloc (.cells #[.slice p n cap] 24)).alloc (.cells #[.slice p' n' cap'] 24)) w.heap.size 24 #[.slice p n cap]) := (Blk.new _ _ _).alloc _
      have hX1 : Hid (Blk ((w.alloc (.cells #[.slice p n cap] 24)).alloc (.cells #[.slice p' n' cap'] 24)) (w.heap.size + 1) 24 #[.slice p' n' cap']) := by
        have h := Blk.new (w.alloc (.cells #[.slice p n cap] 24)) 24 #[.slice p' n' cap']
        rw [World.size_alloc] at h
        exact h
      go_enter Try.func4, Try.ntmps4
      go_wp2_with (go_at_call 7; refine hr1.mono ?_)
      intro e w3 hp
      obtain ⟨hb3, c, a, rfl, hr⟩ := hp
      have HRa := Lib.hid hr
      have HB3 := Lib.hid (HW.out.trans (hb3.mono (by simp; try omega)))
      have hX03 := hX0.out.below hb3 (by simp; try omega)
      have hX13 := hX1.out.below hb3 (by simp; try omega)
      have x0 : w3.cell? ⟨w.heap.size, 0, none⟩ = some (.slice p n cap) := by rw [hX03.cell]; rfl
      have x1 : w3.cell? ⟨w.heap.size + 1, 0, none⟩ = some (.slice p' n' cap') := by rw [hX13.cell]; rfl
      have l1 := hX13.lt
      have l0 := hX03.lt
      have HX0 := Lib.hid hX03
      have HX1 := Lib.hid hX13
      clear hr hb3 hX03 hX13 hr1 hX0 hX1
      by_cases hc0 : c = 0
      · subst hc0
        have ha : a = 0 := HRa.out.zero
        subst ha
        have HBa := Lib.hid (HB3.out.alloc HB3.out.size (.cells #[.int .i64 0, .int .i64 0] 26))
        have hr2 := HR2.out _ HBa.out
        have hF := Blk.new w3 26 #[.int .i64 0, .int .i64 0]
        have HFl := Lib.hid hF
        have HX0a := Lib.hid (HX0.out.alloc (.cells #[.int .i64 0, .int .i64 0] 26))
        have HX1a := Lib.hid (HX1.out.alloc (.cells #[.int .i64 0, .int .i64 0] 26))
        clear hF
        go_wp2_with (go_at_call 7; refine hr2.mono ?_)
        intro e w4 hp
        obtain ⟨hb4, c, a, rfl, hr⟩ := hp
        have HRb := Lib.hid hr
        have hF4 := HFl.out.below hb4 (by simp)
        have f0 : w4.cell? ⟨w3.heap.size, 0, none⟩ = some (.int .i64 0) := by rw [hF4.cell]; rfl
        have f1 : w4.cell? ⟨w3.heap.size, 1, none⟩ = some (.int .i64 0) := by rw [hF4.cell]; rfl
        have z0 := hF4.frozen 0
        have z1 := hF4.frozen 1
        have lF := hF4.lt
        have hFs := fault_put hF4 (.int .i64 c) (.int .i64 a)
        have HB4 := Lib.hid (HBa.out.trans (hb4.mono HBa.out.size))
        have HB5 := Lib.hid ((HB4.out.setCell (p := ⟨w3.heap.size, 0, none⟩) HB3.out.size (.int .i64 c)).setCell (p := ⟨w3.heap.size, 1, none⟩) HB3.out.size (.int .i64 a))
        have hX04 := (HX0a.out.below hb4 (by simp; omega)).cell 0
        have hX14 := (HX1a.out.below hb4 (by simp; omega)).cell 0
        have u0 : ((w4.setCell ⟨w3.heap.size, 0, none⟩ (.int .i64 c)).setCell ⟨w3.heap.size, 1, none⟩ (.int .i64 a)).cell? ⟨w.heap.size, 0, none⟩ = some (.slice p n cap) := by
          rw [World.cell?_setCell_other _ _ _ _ (by simp; try omega), World.cell?_setCell_other _ _ _ _ (by simp; try omega)]; exact hX04
        have u1 : ((w4.setCell ⟨w3.heap.size, 0, none⟩ (.int .i64 c)).setCell ⟨w3.heap.size, 1, none⟩ (.int .i64 a)).cell? ⟨w.heap.size + 1, 0, none⟩ = some (.slice p' n' cap') := by
          rw [World.cell?_setCell_other _ _ _ _ (by simp; try omega), World.cell?_setCell_other _ _ _ _ (by simp; try omega)]; exact hX14
        have hs := HS.out _ HB5.out
        have v0 : w4.cell? ⟨w.heap.size, 0, none⟩ = some (.slice p n cap) := hX04
        have v1 : w4.cell? ⟨w.heap.size + 1, 0, none⟩ = some (.slice p' n' cap') := hX14
        have HFs := Lib.hid hFs
        clear hr hb4 hr2 hX04 hX14 hF4 hFs
        go_wp2_with (go_at_call 15; refine hs.mono ?_)
        intro e w6 hp
        obtain ⟨hb6, is, c', a', rfl, hr⟩ := hp
        have hF6 := HFs.out.below hb6 (by simpa using lF)
        have f6 : w6.cell? ⟨w3.heap.size, 0, none⟩ = some (.int .i64 c) := by rw [hF6.cell]; rfl
        have f7 : w6.cell? ⟨w3.heap.size, 1, none⟩ = some (.int .i64 a) := by rw [hF6.cell]; rfl
        have lF6 := hF6.lt
        have k0 : w6.cell? ⟨w.heap.size, 0, none⟩ = some (.slice p n cap) := (hb6.cell (p := ⟨w.heap.size, 0, none⟩) (World.block_lt_of_cell? _ _ u0)).trans u0
        have k1 : w6.cell? ⟨w.heap.size + 1, 0, none⟩ = some (.slice p' n' cap') := (hb6.cell (p := ⟨w.heap.size + 1, 0, none⟩) (World.block_lt_of_cell? _ _ u1)).trans u1
        have HB6 := Lib.hid (HB5.out.trans (hb6.mono HB5.out.size))
        have HRs := Lib.hid hr
        have m0 : w.heap.size < w6.heap.size := World.block_lt_of_cell? _ _ k0
        have m1 : w.heap.size + 1 < w6.heap.size := World.block_lt_of_cell? _ _ k1
        clear hb6 hs hr hF6 u0 u1 v0 v1 f0 f1 z0 z1
        by_cases hc : c = 0
        · subst hc
          have ha := HRb.out.zero
          subst ha
          obtain ⟨rfl, rfl, rfl⟩ := HRs.out.good HRa.out HRb.out
          have HBx := Lib.hid (HB6.out.alloc HB6.out.size (.cells #[.int .i64 0, .int .i64 0] 26))
          have hA := HA.out _ HBx.out
          generalize sameL l l' = d at *
          have q3 : (d == d) = true := by simp
          go_wp2_with (go_at_call 16; refine hA.mono ?_)
          first | rintro e w7 rfl hb7 | rintro e w7 ⟨rfl, hb7⟩
          have HB7 := Lib.hid (HBx.out.trans (hb7.mono HBx.out.size))
          clear hb7 hA
          go_wp2
          go_ret
          exact ⟨rfl, HB7.out⟩
        · obtain ⟨rfl, rfl, rfl⟩ := HRs.out.bad2 HRa.out HRb.out hc
          have q1 : (c' != 0) = true := by simpa using hc
          have q2 : (c' == 0) = false := by simpa using hc
          have q3 : (c' == c') = true := by simp
          have q4 : (a' == a') = true := by simp
          clear hc
          go_wp2
          go_ret
          exact ⟨rfl, HB6.out.alloc HB6.out.size _⟩
      · have q1 : (c != 0) = true := by simpa using hc0
        have q2 : (c == 0) = false := by simpa using hc0
        have HBa := Lib.hid (HB3.out.alloc HB3.out.size (.cells #[.int .i64 c, .int .i64 a] 26))
        have hs := HS.out _ HBa.out
        have HC0 := Lib.hid hc0
        have hF := Blk.new w3 26 #[.int .i64 c, .int .i64 a]
        have HFl := Lib.hid hF
        clear hc0 hF
        go_wp2_with (go_at_call 15; refine hs.mono ?_)
        intro e w4 hp
        obtain ⟨hb4, is, c', a', rfl, hr⟩ := hp
        obtain ⟨rfl, rfl, rfl⟩ := hr.bad1 HRa.out HC0.out
        have hF4 := HFl.out.below hb4 (by simp)
        have f0 : w4.cell? ⟨w3.heap.size, 0, none⟩ = some (.int .i64 c') := by rw [hF4.cell]; rfl
        have f1 : w4.cell? ⟨w3.heap.size, 1, none⟩ = some (.int .i64 a') := by rw [hF4.cell]; rfl
        have lF := hF4.lt
        have HB4 := Lib.hid (HBa.out.trans (hb4.mono HBa.out.size))
        have q3 : (c' == c') = true := by simp
        have q4 : (a' == a') = true := by simp
        clear hr hb4 hs hF4
        go_wp2
        go_ret
        exact ⟨rfl, HB4.out.alloc HB4.out.size _⟩
end Go.Proofs.Ytcaekpgnknlblaa
