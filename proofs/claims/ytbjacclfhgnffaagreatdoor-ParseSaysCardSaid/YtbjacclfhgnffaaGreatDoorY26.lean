/-
  Joined texts of this claim: TrW.
-/
import Derived.Test.YtbjacclfhgnffaaGreatDoorY14
set_option linter.unusedVariables false
set_option linter.unusedSimpArgs false
/-
  The contract of Same.
-/
namespace Go.Proofs.YtbjacclfhgnffaaGreatDoor.Tr
open Go.RowKit

def SmR (l l' : List Nd) (is : Bool) (c a : Int) : Prop :=
  (CkR l c a ∧ c ≠ 0 ∧ is = false) ∨ (CkR l 0 0 ∧ CkR l' c a ∧ c ≠ 0 ∧ is = false) ∨ (CkR l 0 0 ∧ CkR l' 0 0 ∧ c = 0 ∧ a = 0 ∧ is = sameL l l')
def SmPost (l l' : List Nd) (w : World) (e : Ending) (w' : World) : Prop :=
  Below w.heap.size w w' ∧ ∃ is c a, e = .returned (.tuple #[.bool is, .agg #[.int .i64 c, .int .i64 a]]) ∧ SmR l l' is c a
theorem CkR.zero {l : List Nd} {a : Int} (h : CkR l 0 a) : a = 0 := by
  rcases h with ⟨_, h, _⟩ | ⟨_, _, h⟩
  · cases h
  · rcases h with ⟨i, _, _, hne, h, _⟩ | ⟨_, h⟩
    · exact absurd h.symm hne
    · rcases h with ⟨_, h, _⟩ | ⟨_, ⟨_, h, _⟩ | ⟨_, _, h⟩⟩
      · cases h
      · cases h
      · exact h
theorem fault_put {w : World} {g : Nat} {x0 x1 : Value} (h : Blk w g 26 #[x0, x1]) (c a : Value) : Blk ((w.setCell ⟨g, 0, none⟩ c).setCell ⟨g, 1, none⟩ a) g 26 #[c, a] := by
  have h1 := (h.set_ 0 c).set_ 1 a
  simpa using h1

set_option maxHeartbeats 8000000 in
set_option maxRecDepth 100000 in
theorem tsame_any (l l' : List Nd) (p p' : Option Addr) (cap cap' : Nat) (w : World) (hT : Tr w p l) (hT' : Tr w p' l') (hf : Fit l cap) (hf' : Fit l' cap') :
    Calls Tryz.prog 20 #[.agg #[.slice p l.length cap], .agg #[.slice p' l'.length cap']] w (SmPost l l' w) := by
  have h1 : Below w.heap.size w (((w.alloc (.cells #[.slice p l.length cap] 24)).alloc (.cells #[.slice p' l'.length cap'] 24)).alloc (.cells #[.int .i64 0, .int .i64 0] 26)) := (((Below.refl _ _).alloc (Nat.le_refl _) _).alloc (by simp) _).alloc (by simp; omega) _
  have hc1 := check_any l p cap _ (hT.below h1) hf
  have hY0 : Hid (Blk (((w.alloc (.cells #[.slice p l.length cap] 24)).alloc (.cells #[.slice p' l'.length cap'] 24)).alloc (.cells #[.int .i64 0, .int .i64 0] 26)) (w.heap.size + 1 + 1) 26 #[.int .i64 0, .int .i64 0]) := by
    have h := Blk.new ((w.alloc (.cells #[.slice p l.length cap] 24)).alloc (.cells #[.slice p' l'.length cap'] 24)) 26 #[.int .i64 0, .int .i64 0]
    rw [World.size_alloc, World.size_alloc] at h
    exact h
  have hX1 : Hid (Blk (((w.alloc (.cells #[.slice p l.length cap] 24)).alloc (.cells #[.slice p' l'.length cap'] 24)).alloc (.cells #[.int .i64 0, .int .i64 0] 26)) (w.heap.size + 1) 24 #[.slice p' l'.length cap']) := by
    have h := Blk.new (w.alloc (.cells #[.slice p l.length cap] 24)) 24 #[.slice p' l'.length cap']
    rw [World.size_alloc] at h
    exact h.alloc _
  have hX0 : Hid (Blk (((w.alloc (.cells #[.slice p l.length cap] 24)).alloc (.cells #[.slice p' l'.length cap'] 24)).alloc (.cells #[.int .i64 0, .int .i64 0] 26)) w.heap.size 24 #[.slice p l.length cap]) := ((Blk.new _ _ _).alloc _).alloc _
  have H1 := Lib.hid h1
  have HC' : Hid (∀ W, Below w.heap.size w W → Calls Tryz.prog 18 #[.agg #[.slice p' l'.length cap']] W (CkPost l' W)) := fun W hW => check_any l' p' cap' W (hT'.below hW) hf'
  have HE : Hid (∀ W, Below w.heap.size w W → Calls Tryz.prog 43 #[.slice p l.length cap, .slice p' l'.length cap', .func (.func 44) #[] #[]] W fun e w' => e = .returned (.bool (sameL l l')) ∧ Below W.heap.size W w') := fun W hW => eqfunc_any l l' p p' cap cap' W (hT.below hW) (hT'.below hW) hf hf'
  clear h1 hT hT' hf hf'
  obtain ⟨Q, hQ⟩ : ∃ Q : Ending → World → Prop, Q = SmPost l l' w := ⟨_, rfl⟩
  have HQ := Lib.hid hQ
  rw [← hQ]
  clear hQ
  generalize l.length = n at *
  generalize l'.length = n' at *
  go_enter Tryz.func20, Tryz.ntmps20
  go_wp2_with (go_at_call 18; refine hc1.mono ?_)
  intro e w3 hp
  obtain ⟨hb3, c, a, rfl, hr⟩ := hp
  have HR := Lib.hid hr
  have HB3 := Lib.hid (H1.out.trans (hb3.mono (by simp; try omega)))
  have hY3 := hY0.out.below hb3 (by simp)
  have hX13 := hX1.out.below hb3 (by simp; try omega)
  have hX03 := hX0.out.below hb3 (by simp; omega)
  have hlt := hY3.lt
  have HY3h := Lib.hid hY3
  have hYa := hY3.alloc (.cells #[.int .i64 c, .int .i64 a] 26)
  have hX1a := Lib.hid (hX13.alloc (.cells #[.int .i64 c, .int .i64 a] 26))
  have hX0a := Lib.hid (hX03.alloc (.cells #[.int .i64 c, .int .i64 a] 26))
  have HYa := Lib.hid hYa
  have HBa := Lib.hid (HB3.out.alloc HB3.out.size (.cells #[.int .i64 c, .int .i64 a] 26))
  clear hr hb3 hY3 hX13 hX03 hc1 hY0 hX1 hX0
  by_cases hc0 : c = 0
  · subst hc0
    have ha : a = 0 := HR.out.zero
    subst ha
    clear hYa
    have x1 : (w3.alloc (.cells #[.int .i64 0, .int .i64 0] 26)).cell? ⟨w.heap.size + 1, 0, none⟩ = some (.slice p' n' cap') := by rw [hX1a.out.cell]; rfl
    have hc2 := HC'.out _ HBa.out
    go_wp2_with (go_at_call 18; refine hc2.mono ?_)
    intro e w4 hp
    obtain ⟨hb4, c, a, rfl, hr⟩ := hp
    have HR2 := Lib.hid hr
    have HB4 := Lib.hid (HBa.out.trans (hb4.mono HBa.out.size))
    have hY4 := HYa.out.below hb4 (by simp; omega)
    have hX14 := hX1a.out.below hb4 (by simp; omega)
    have hX04 := hX0a.out.below hb4 (by simp; omega)
    have hlt4 := hY4.lt
    have hYb := hY4.alloc (.cells #[.int .i64 c, .int .i64 a] 26)
    have hX1b := Lib.hid (hX14.alloc (.cells #[.int .i64 c, .int .i64 a] 26))
    have hX0b := Lib.hid (hX04.alloc (.cells #[.int .i64 c, .int .i64 a] 26))
    have HYb := Lib.hid hYb
    have HBb := Lib.hid (HB4.out.alloc HB4.out.size (.cells #[.int .i64 c, .int .i64 a] 26))
    have z0 : w4.cell? ⟨w.heap.size + 1 + 1, 0, none⟩ = some (.int .i64 0) := by rw [hY4.cell]; rfl
    have z1 : w4.cell? ⟨w.heap.size + 1 + 1, 1, none⟩ = some (.int .i64 0) := by rw [hY4.cell]; rfl
    have v0 := hY4.frozen 0
    have v1 := hY4.frozen 1
    have HY4h := Lib.hid hY4
    clear hr hb4 hY4 hX14 hX04 hc2 hYb x1
    by_cases hc0 : c = 0
    · subst hc0
      have ha : a = 0 := HR2.out.zero
      subst ha
      have x1 : (w4.alloc (.cells #[.int .i64 0, .int .i64 0] 26)).cell? ⟨w.heap.size + 1, 0, none⟩ = some (.slice p' n' cap') := by rw [hX1b.out.cell]; rfl
      have x0 : (w4.alloc (.cells #[.int .i64 0, .int .i64 0] 26)).cell? ⟨w.heap.size, 0, none⟩ = some (.slice p n cap) := by rw [hX0b.out.cell]; rfl
      have he := HE.out _ HBb.out
      generalize hd : sameL l l' = d at *
      go_wp2_with (go_at_call 43; refine he.mono ?_)
      first | rintro e w5 rfl hb5 | rintro e w5 ⟨rfl, hb5⟩
      have hY5 := HYb.out.below hb5 (by simp; omega)
      have HB5 := Lib.hid (HBb.out.trans (hb5.mono HBb.out.size))
      have y0 : w5.cell? ⟨w.heap.size + 1 + 1, 0, none⟩ = some (.int .i64 0) := by rw [hY5.cell]; rfl
      have y1 : w5.cell? ⟨w.heap.size + 1 + 1, 1, none⟩ = some (.int .i64 0) := by rw [hY5.cell]; rfl
      have g0 := hY5.frozen 0
      have g1 := hY5.frozen 1
      have lY := hY5.lt
      have HD := Lib.hid hd
      clear hb5 he x0 x1 hY5 hd
      go_wp2
      refine bodyPost_ret (v := .tuple #[.bool d, .agg #[.int .i64 0, .int .i64 0]]) (by simp [results, Tryz.results20, go_sem, y0, y1]) rfl ?_
      rw [HQ.out]
      exact ⟨(HB5.out.setCell (p := ⟨w.heap.size + 1 + 1, 0, none⟩) (by simp; omega) _).setCell (p := ⟨w.heap.size + 1 + 1, 1, none⟩) (by simp; omega) _, d, 0, 0, rfl, Or.inr (Or.inr ⟨HR.out, HR2.out, rfl, rfl, HD.out.symm⟩)⟩
    · have q1 : (c != 0) = true := by simpa using hc0
      have q2 : (c == 0) = false := by simpa using hc0
      have HC0 := Lib.hid hc0
      clear hc0
      go_wp2
      go_region
      go_wp2
      have hZ := fault_set HY4h.out (.int .i64 c) (.int .i64 a) (.cells #[.int .i64 c, .int .i64 a] 26)
      have z2 := hZ.cell 0
      have z3 := hZ.cell 1
      clear hZ
      refine bodyPost_ret (v := .tuple #[.bool false, .agg #[.int .i64 c, .int .i64 a]]) (by simp [results, Tryz.results20, go_sem, z2, z3]) rfl ?_
      rw [HQ.out]
      exact ⟨(((HB4.out.setCell (p := ⟨w.heap.size + 1 + 1, 0, none⟩) (by simp; omega) _).setCell (p := ⟨w.heap.size + 1 + 1, 1, none⟩) (by simp; omega) _).alloc (by simpa using HB4.out.size) _).drew, false, c, a, rfl, Or.inr (Or.inl ⟨HR.out, HR2.out, HC0.out, rfl⟩)⟩
  · have q1 : (c != 0) = true := by simpa using hc0
    have q2 : (c == 0) = false := by simpa using hc0
    have HC0 := Lib.hid hc0
    have z0 : w3.cell? ⟨w.heap.size + 1 + 1, 0, none⟩ = some (.int .i64 0) := by rw [HY3h.out.cell]; rfl
    have z1 : w3.cell? ⟨w.heap.size + 1 + 1, 1, none⟩ = some (.int .i64 0) := by rw [HY3h.out.cell]; rfl
    have v0 := HY3h.out.frozen 0
    have v1 := HY3h.out.frozen 1
    clear hc0 hYa
    go_wp2
    go_region
    go_wp2
    have hZ := fault_set HY3h.out (.int .i64 c) (.int .i64 a) (.cells #[.int .i64 c, .int .i64 a] 26)
    have z2 := hZ.cell 0
    have z3 := hZ.cell 1
    clear hZ
    refine bodyPost_ret (v := .tuple #[.bool false, .agg #[.int .i64 c, .int .i64 a]]) (by simp [results, Tryz.results20, go_sem, z2, z3]) rfl ?_
    rw [HQ.out]
    exact ⟨(((HB3.out.setCell (p := ⟨w.heap.size + 1 + 1, 0, none⟩) (by simp; omega) _).setCell (p := ⟨w.heap.size + 1 + 1, 1, none⟩) (by simp; omega) _).alloc (by simpa using HB3.out.size) _).drew, false, c, a, rfl, Or.inl ⟨HR.out, HC0.out, rfl⟩⟩
end Go.Proofs.YtbjacclfhgnffaaGreatDoor.Tr
