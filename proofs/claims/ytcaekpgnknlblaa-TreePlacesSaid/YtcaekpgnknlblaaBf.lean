/-
  The closed fact on trees: the contract of treeFact.
-/
import Derived.Test.YtcaekpgnknlblaaBd
import Derived.Test.YtcaekpgnknlblaaBp
import Derived.Test.YtcaekpgnknlblaaX
namespace Go.Proofs.Ytcaekpgnknlblaa
open Go.RowKit

theorem smr_good {l l' : List Nd} {is : Bool} {c' a' : Int} (h : SmR l l' is c' a') (hl : CkR l 0 0) (hc : CkR l' 0 0) : c' = 0 ∧ a' = 0 ∧ is = sameL l l' := by
  rcases h with ⟨h1, h2, h3⟩ | ⟨_, h1, h2, h3⟩ | ⟨_, _, h1, h2, h3⟩
  · exact absurd (hl.det h1).1.symm h2
  · exact absurd (hc.det h1).1.symm h2
  · exact ⟨h1, h2, h3⟩
/-- the tree of 1 + x -/
def L3 (H : Nat) : List Nd := [⟨31, ⟨#[]⟩, 1, 0, none, 0, [], 0⟩, ⟨32, ⟨#[120]⟩, 0, 0, none, 0, [], 0⟩, ⟨36, ⟨#[43]⟩, 0, 0, some ⟨H, 0, none⟩, 2, [0, 1], 0⟩]
theorem l3_way0 (H : Nat) : wayOf (L3 H) 0 = some 0 := rfl
theorem l3_way1 (H : Nat) : wayOf (L3 H) 1 = some 1 := rfl
theorem l3_st1 (H : Nat) : St (L3 H) 1 = 1 := by rw [St_eq, l3_way1]; rfl
theorem l3_st0 (H : Nat) : St (L3 H) 0 = 0 := by rw [St_eq, l3_way0]; rfl
theorem l3_way2 (H : Nat) : wayOf (L3 H) 2 = some 0 := by
  show walkK (St (L3 H)) (kindAt (L3 H)) 36 [0, 1] 2 2 = some 0
  have g1 : goB 36 ((1 : Nat) : Int) (([0, 1] : List Int).length : Int) (kindAt (L3 H) 1) = true := by simp [goB, kindAt, L3, exprB]
  have g0 : goB 36 ((0 : Nat) : Int) (([0, 1] : List Int).length : Int) (kindAt (L3 H) 0) = true := by simp [goB, kindAt, L3, exprB]
  rw [walk_on (by rfl) g1, l3_st1, walk_on (by rfl) g0, l3_st0]
  rfl
theorem l3_name : nameB ⟨#[120]⟩ = true := by decide
theorem l3_sign0 : signB 31 ⟨#[]⟩ = true := by simp [signB, Lib.toList_data]
theorem l3_sign2 : signB 36 ⟨#[43]⟩ = true := by simp [signB, twoB, Lib.toList_data, twoA, twoC]
theorem l3_good (H : Nat) : CkR (L3 H) 0 0 := by
  refine Or.inr ⟨by show (1 : Nat) ≤ 3; omega, by show (3 : Nat) ≤ 600; omega, Or.inr ⟨fun j hj => ?_, Or.inr ⟨?_, Or.inr ⟨?_, rfl, rfl⟩⟩⟩⟩
  · have hj3 : j < 3 := hj
    have h012 : j = 0 ∨ j = 1 ∨ j = 2 := by omega
    rcases h012 with rfl | rfl | rfl
    · rw [codeAt_get (by show (0 : Nat) < 3; omega)]
      simp only [nodeC, l3_way0]
      simp [L3, kindB, lowV, highV, fieldC, fieldV, namedB, l3_sign0, numB]
    · rw [codeAt_get (by show (1 : Nat) < 3; omega)]
      simp only [nodeC, l3_way1]
      simp [L3, kindB, lowV, highV, fieldC, fieldV, namedB, l3_name, numB]
    · rw [codeAt_get (by show (2 : Nat) < 3; omega)]
      simp only [nodeC, l3_way2]
      simp [L3, kindB, lowV, highV, fieldC, fieldV, namedB, l3_sign2, numB]
  · show St (L3 H) 2 = 0
    rw [St_eq, l3_way2]; rfl
  · show Dp (L3 H) 2 ≤ 40
    have : Dp (L3 H) 2 ≤ 2 + 1 := Dp_le _ _
    omega
theorem sameB_refl (x : Nd) : sameB x x = true := sameB_yes ⟨rfl, rfl, rfl, rfl, rfl⟩
theorem sameL_refl (l : List Nd) : sameL l l = true := sameL_all rfl fun _ _ _ => sameB_refl _

theorem l3_tr (w : World) : Tr (((w.alloc (.cells #[.int .i64 0, .int .i64 1] 3)).alloc (.cells #[.int .i64 31, .string ⟨#[]⟩, .int .i64 1, .int .i64 0, .slice none 0 0, .int .i64 0, .int .i64 32, .string ⟨#[120]⟩, .int .i64 0, .int .i64 0, .slice none 0 0, .int .i64 0, .int .i64 36, .string ⟨#[43]⟩, .int .i64 0, .int .i64 0, .slice (some ⟨w.heap.size, 0, none⟩) 2 2, .int .i64 0] 42)).alloc (.cells #[.slice (some ⟨w.heap.size + 1, 0, none⟩) 3 3] 24)) (some ⟨w.heap.size + 1, 0, none⟩) (L3 w.heap.size) := by
  have hA : Blk (((w.alloc (.cells #[.int .i64 0, .int .i64 1] 3)).alloc (.cells #[.int .i64 31, .string ⟨#[]⟩, .int .i64 1, .int .i64 0, .slice none 0 0, .int .i64 0, .int .i64 32, .string ⟨#[120]⟩, .int .i64 0, .int .i64 0, .slice none 0 0, .int .i64 0, .int .i64 36, .string ⟨#[43]⟩, .int .i64 0, .int .i64 0, .slice (some ⟨w.heap.size, 0, none⟩) 2 2, .int .i64 0] 42)).alloc (.cells #[.slice (some ⟨w.heap.size + 1, 0, none⟩) 3 3] 24)) w.heap.size 3 #[.int .i64 0, .int .i64 1] := ((Blk.new _ _ _).alloc _).alloc _
  have hN : Blk (((w.alloc (.cells #[.int .i64 0, .int .i64 1] 3)).alloc (.cells #[.int .i64 31, .string ⟨#[]⟩, .int .i64 1, .int .i64 0, .slice none 0 0, .int .i64 0, .int .i64 32, .string ⟨#[120]⟩, .int .i64 0, .int .i64 0, .slice none 0 0, .int .i64 0, .int .i64 36, .string ⟨#[43]⟩, .int .i64 0, .int .i64 0, .slice (some ⟨w.heap.size, 0, none⟩) 2 2, .int .i64 0] 42)).alloc (.cells #[.slice (some ⟨w.heap.size + 1, 0, none⟩) 3 3] 24)) (w.heap.size + 1) 42 #[.int .i64 31, .string ⟨#[]⟩, .int .i64 1, .int .i64 0, .slice none 0 0, .int .i64 0, .int .i64 32, .string ⟨#[120]⟩, .int .i64 0, .int .i64 0, .slice none 0 0, .int .i64 0, .int .i64 36, .string ⟨#[43]⟩, .int .i64 0, .int .i64 0, .slice (some ⟨w.heap.size, 0, none⟩) 2 2, .int .i64 0] := by
    have h := Blk.new (w.alloc (.cells #[.int .i64 0, .int .i64 1] 3)) 42 #[.int .i64 31, .string ⟨#[]⟩, .int .i64 1, .int .i64 0, .slice none 0 0, .int .i64 0, .int .i64 32, .string ⟨#[120]⟩, .int .i64 0, .int .i64 0, .slice none 0 0, .int .i64 0, .int .i64 36, .string ⟨#[43]⟩, .int .i64 0, .int .i64 0, .slice (some ⟨w.heap.size, 0, none⟩) 2 2, .int .i64 0]
    rw [World.size_alloc] at h
    exact h.alloc _
  refine ⟨fun _ => ⟨_, _, rfl, hN.lt, fun i hi => ?_⟩, fun i hi => ?_⟩
  · have h3 : i < 3 := hi
    have h012 : i = 0 ∨ i = 1 ∨ i = 2 := by omega
    rcases h012 with rfl | rfl | rfl
    all_goals exact ⟨by rw [hN.cell]; rfl, by rw [hN.cell]; rfl, by rw [hN.cell]; rfl, by rw [hN.cell]; rfl, by rw [hN.cell]; rfl, by rw [hN.cell]; rfl⟩
  · have h3 : i < 3 := hi
    have h012 : i = 0 ∨ i = 1 ∨ i = 2 := by omega
    rcases h012 with rfl | rfl | rfl
    · intro h0; exact absurd h0 (by show ¬ (0 : Nat) < 0; omega)
    · intro h0; exact absurd h0 (by show ¬ (0 : Nat) < 0; omega)
    · intro _
      refine ⟨w.heap.size, 0, rfl, hA.lt, fun j hj => ?_⟩
      have hj2 : j < 2 := hj
      have h01 : j = 0 ∨ j = 1 := by omega
      rcases h01 with rfl | rfl
      all_goals (rw [hA.cell]; rfl)
theorem l3_fit (H : Nat) : Fit (L3 H) 3 := ⟨by show (3 : Nat) ≤ 3; omega, by show (3 : Nat) ≤ 140737488355328; omega, fun j hj => by
  have h3 : j < 3 := hj
  have h012 : j = 0 ∨ j = 1 ∨ j = 2 := by omega
  rcases h012 with rfl | rfl | rfl
  · show (0 : Nat) ≤ _; omega
  · show (0 : Nat) ≤ _; omega
  · show (2 : Nat) ≤ _; omega⟩
theorem l3_txt (H : Nat) : ∀ j, (h : j < (L3 H).length) → (L3 H)[j].t.size ≤ 281474976710656 := fun j hj => by
  have h3 : j < 3 := hj
  have h012 : j = 0 ∨ j = 1 ∨ j = 2 := by omega
  rcases h012 with rfl | rfl | rfl
  · show (0 : Nat) ≤ _; omega
  · show (1 : Nat) ≤ _; omega
  · show (1 : Nat) ≤ _; omega

set_option maxHeartbeats 16000000 in
set_option maxRecDepth 100000 in
theorem fact_any (w : World) : Calls Try.prog 17 #[] w fun e w' => e = .returned (.bool true) ∧ Below w.heap.size w w' := by
  have hW : Below w.heap.size w (((w.alloc (.cells #[.int .i64 0, .int .i64 1] 3)).alloc (.cells #[.int .i64 31, .string ⟨#[]⟩, .int .i64 1, .int .i64 0, .slice none 0 0, .int .i64 0, .int .i64 32, .string ⟨#[120]⟩, .int .i64 0, .int .i64 0, .slice none 0 0, .int .i64 0, .int .i64 36, .string ⟨#[43]⟩, .int .i64 0, .int .i64 0, .slice (some ⟨w.heap.size, 0, none⟩) 2 2, .int .i64 0] 42)).alloc (.cells #[.slice (some ⟨w.heap.size + 1, 0, none⟩) 3 3] 24)) := (((Below.refl _ _).alloc (Nat.le_refl _) _).alloc (by simp) _).alloc (by simp; omega) _
  have hX : Blk (((w.alloc (.cells #[.int .i64 0, .int .i64 1] 3)).alloc (.cells #[.int .i64 31, .string ⟨#[]⟩, .int .i64 1, .int .i64 0, .slice none 0 0, .int .i64 0, .int .i64 32, .string ⟨#[120]⟩, .int .i64 0, .int .i64 0, .slice none 0 0, .int .i64 0, .int .i64 36, .string ⟨#[43]⟩, .int .i64 0, .int .i64 0, .slice (some ⟨w.heap.size, 0, none⟩) 2 2, .int .i64 0] 42)).alloc (.cells #[.slice (some ⟨w.heap.size + 1, 0, none⟩) 3 3] 24)) (w.heap.size + 1 + 1) 24 #[.slice (some ⟨w.heap.size + 1, 0, none⟩) 3 3] := by
    have h := Blk.new ((w.alloc (.cells #[.int .i64 0, .int .i64 1] 3)).alloc (.cells #[.int .i64 31, .string ⟨#[]⟩, .int .i64 1, .int .i64 0, .slice none 0 0, .int .i64 0, .int .i64 32, .string ⟨#[120]⟩, .int .i64 0, .int .i64 0, .slice none 0 0, .int .i64 0, .int .i64 36, .string ⟨#[43]⟩, .int .i64 0, .int .i64 0, .slice (some ⟨w.heap.size, 0, none⟩) 2 2, .int .i64 0] 42)) 24 #[.slice (some ⟨w.heap.size + 1, 0, none⟩) 3 3]
    rw [World.size_alloc, World.size_alloc] at h
    exact h
  have hT := l3_tr w
  have HC : Hid (∀ W, Below (((w.alloc (.cells #[.int .i64 0, .int .i64 1] 3)).alloc (.cells #[.int .i64 31, .string ⟨#[]⟩, .int .i64 1, .int .i64 0, .slice none 0 0, .int .i64 0, .int .i64 32, .string ⟨#[120]⟩, .int .i64 0, .int .i64 0, .slice none 0 0, .int .i64 0, .int .i64 36, .string ⟨#[43]⟩, .int .i64 0, .int .i64 0, .slice (some ⟨w.heap.size, 0, none⟩) 2 2, .int .i64 0] 42)).alloc (.cells #[.slice (some ⟨w.heap.size + 1, 0, none⟩) 3 3] 24)).heap.size (((w.alloc (.cells #[.int .i64 0, .int .i64 1] 3)).alloc (.cells #[.int .i64 31, .string ⟨#[]⟩, .int .i64 1, .int .i64 0, .slice none 0 0, .int .i64 0, .int .i64 32, .string ⟨#[120]⟩, .int .i64 0, .int .i64 0, .slice none 0 0, .int .i64 0, .int .i64 36, .string ⟨#[43]⟩, .int .i64 0, .int .i64 0, .slice (some ⟨w.heap.size, 0, none⟩) 2 2, .int .i64 0] 42)).alloc (.cells #[.slice (some ⟨w.heap.size + 1, 0, none⟩) 3 3] 24)) W → Calls Try.prog 8 #[.agg #[.slice (some ⟨w.heap.size + 1, 0, none⟩) 3 3]] W (CkPost (L3 w.heap.size) W)) := fun W h => check_any (L3 w.heap.size) _ 3 W (hT.below h) (l3_fit _)
  have HP : Hid (∀ W, Below (((w.alloc (.cells #[.int .i64 0, .int .i64 1] 3)).alloc (.cells #[.int .i64 31, .string ⟨#[]⟩, .int .i64 1, .int .i64 0, .slice none 0 0, .int .i64 0, .int .i64 32, .string ⟨#[120]⟩, .int .i64 0, .int .i64 0, .slice none 0 0, .int .i64 0, .int .i64 36, .string ⟨#[43]⟩, .int .i64 0, .int .i64 0, .slice (some ⟨w.heap.size, 0, none⟩) 2 2, .int .i64 0] 42)).alloc (.cells #[.slice (some ⟨w.heap.size + 1, 0, none⟩) 3 3] 24)).heap.size (((w.alloc (.cells #[.int .i64 0, .int .i64 1] 3)).alloc (.cells #[.int .i64 31, .string ⟨#[]⟩, .int .i64 1, .int .i64 0, .slice none 0 0, .int .i64 0, .int .i64 32, .string ⟨#[120]⟩, .int .i64 0, .int .i64 0, .slice none 0 0, .int .i64 0, .int .i64 36, .string ⟨#[43]⟩, .int .i64 0, .int .i64 0, .slice (some ⟨w.heap.size, 0, none⟩) 2 2, .int .i64 0] 42)).alloc (.cells #[.slice (some ⟨w.heap.size + 1, 0, none⟩) 3 3] 24)) W → Calls Try.prog 9 #[.agg #[.slice (some ⟨w.heap.size + 1, 0, none⟩) 3 3], .int .i64 1] W (PtPost (L3 w.heap.size) 1 W)) := fun W h => part_any (L3 w.heap.size) _ 3 1 W (hT.below h) (l3_fit _) (l3_txt _)
  have HS : Hid (∀ W, Below (((w.alloc (.cells #[.int .i64 0, .int .i64 1] 3)).alloc (.cells #[.int .i64 31, .string ⟨#[]⟩, .int .i64 1, .int .i64 0, .slice none 0 0, .int .i64 0, .int .i64 32, .string ⟨#[120]⟩, .int .i64 0, .int .i64 0, .slice none 0 0, .int .i64 0, .int .i64 36, .string ⟨#[43]⟩, .int .i64 0, .int .i64 0, .slice (some ⟨w.heap.size, 0, none⟩) 2 2, .int .i64 0] 42)).alloc (.cells #[.slice (some ⟨w.heap.size + 1, 0, none⟩) 3 3] 24)).heap.size (((w.alloc (.cells #[.int .i64 0, .int .i64 1] 3)).alloc (.cells #[.int .i64 31, .string ⟨#[]⟩, .int .i64 1, .int .i64 0, .slice none 0 0, .int .i64 0, .int .i64 32, .string ⟨#[120]⟩, .int .i64 0, .int .i64 0, .slice none 0 0, .int .i64 0, .int .i64 36, .string ⟨#[43]⟩, .int .i64 0, .int .i64 0, .slice (some ⟨w.heap.size, 0, none⟩) 2 2, .int .i64 0] 42)).alloc (.cells #[.slice (some ⟨w.heap.size + 1, 0, none⟩) 3 3] 24)) W → Calls Try.prog 15 #[.agg #[.slice (some ⟨w.heap.size + 1, 0, none⟩) 3 3], .agg #[.slice (some ⟨w.heap.size + 1, 0, none⟩) 3 3]] W (SmPost (L3 w.heap.size) (L3 w.heap.size) W)) := fun W h => tsame_any (L3 w.heap.size) (L3 w.heap.size) _ _ 3 3 W (hT.below h) (hT.below h) (l3_fit _) (l3_fit _)
  have hc := HC.out _ (Below.refl _ _)
  have HW := Lib.hid hW
  have HX := Lib.hid hX
  clear hW hX hT
  go_enter Try.func17, Try.ntmps17
  go_wp2_with (go_at_call 8; refine hc.mono ?_)
  intro e w1 hp
  obtain ⟨hb1, c, a, rfl, hr⟩ := hp
  obtain ⟨rfl, rfl⟩ := hr.det (l3_good _)
  have hX1 := (HX.out.below hb1 (by simp)).alloc (.cells #[.int .i64 0, .int .i64 0] 26)
  have hB1 : Below (((w.alloc (.cells #[.int .i64 0, .int .i64 1] 3)).alloc (.cells #[.int .i64 31, .string ⟨#[]⟩, .int .i64 1, .int .i64 0, .slice none 0 0, .int .i64 0, .int .i64 32, .string ⟨#[120]⟩, .int .i64 0, .int .i64 0, .slice none 0 0, .int .i64 0, .int .i64 36, .string ⟨#[43]⟩, .int .i64 0, .int .i64 0, .slice (some ⟨w.heap.size, 0, none⟩) 2 2, .int .i64 0] 42)).alloc (.cells #[.slice (some ⟨w.heap.size + 1, 0, none⟩) 3 3] 24)).heap.size (((w.alloc (.cells #[.int .i64 0, .int .i64 1] 3)).alloc (.cells #[.int .i64 31, .string ⟨#[]⟩, .int .i64 1, .int .i64 0, .slice none 0 0, .int .i64 0, .int .i64 32, .string ⟨#[120]⟩, .int .i64 0, .int .i64 0, .slice none 0 0, .int .i64 0, .int .i64 36, .string ⟨#[43]⟩, .int .i64 0, .int .i64 0, .slice (some ⟨w.heap.size, 0, none⟩) 2 2, .int .i64 0] 42)).alloc (.cells #[.slice (some ⟨w.heap.size + 1, 0, none⟩) 3 3] 24)) (w1.alloc (.cells #[.int .i64 0, .int .i64 0] 26)) := hb1.alloc hb1.size _
  have x1 : (w1.alloc (.cells #[.int .i64 0, .int .i64 0] 26)).cell? ⟨w.heap.size + 1 + 1, 0, none⟩ = some (.slice (some ⟨w.heap.size + 1, 0, none⟩) 3 3) := by rw [hX1.cell]; rfl
  have hF1 := Blk.new w1 26 #[.int .i64 0, .int .i64 0]
  have hq1 := HP.out _ hB1
  have HB1 := Lib.hid hB1
  have HX1 := Lib.hid hX1
  have HF1 := Lib.hid hF1
  have l1 : w.heap.size + 1 + 1 < w1.heap.size := by have := hb1.size; simp at this; omega
  have x1' : w1.cell? ⟨w.heap.size + 1 + 1, 0, none⟩ = some (.slice (some ⟨w.heap.size + 1, 0, none⟩) 3 3) := by rw [(HX.out.below hb1 (by simp)).cell]; rfl
  clear hr hc hb1 hX1 hB1 hF1
  go_wp2_with (go_at_call 9; refine hq1.mono ?_)
  intro e w2 hp
  obtain ⟨hb2, L, q, qc, c, a, rfl, hTL', hqc, hr⟩ := hp
  have hTL := hTL' w2 fun _ _ _ => rfl
  have hres : c = 0 ∧ a = 0 ∧ L.length = 1 ∧ ∀ h : 0 < L.length, L[0].t = ⟨#[120]⟩ := by
    rcases hr with ⟨h1, h2, _⟩ | ⟨_, h2, _⟩ | ⟨_, rfl, rfl, kn, hk, _, hlen, hcut⟩
    · exact absurd ((l3_good _).det h1).1.symm h2
    · have h3 : ((L3 w.heap.size).length : Int) = 3 := rfl
      omega
    · obtain rfl : kn = 1 := by omega
      rw [l3_st1] at hlen
      refine ⟨rfl, rfl, by omega, fun h => ?_⟩
      have h4 : St (L3 w.heap.size) 1 + 0 < (L3 w.heap.size).length := by rw [l3_st1]; show (1 : Nat) < 3; omega
      have h5 := (hcut 0 h h4).2.1
      rw [h5]
      simp only [l3_st1]
      rfl
  obtain ⟨rfl, rfl, hL1, hLt⟩ := hres
  obtain ⟨qb, qo, rfl, hqb, hqN⟩ := hTL.1 (by omega)
  have n1 := (hqN 0 (by omega)).2.1
  rw [hLt (by omega)] at n1
  have n1 : w2.cell? ⟨qb, qo + 1, none⟩ = some (.string ⟨#[120]⟩) := by simpa using n1
  rw [hL1]
  have hX2 := HX1.out.below hb2 (by simp; omega)
  have x2 : w2.cell? ⟨w.heap.size + 1 + 1, 0, none⟩ = some (.slice (some ⟨w.heap.size + 1, 0, none⟩) 3 3) := by rw [hX2.cell]; rfl
  have hF2 := HF1.out.below hb2 (by simp)
  have f2 : w2.cell? ⟨w1.heap.size, 0, none⟩ = some (.int .i64 0) := by rw [hF2.cell]; rfl
  have l2 := hX2.lt
  have lf2 := hF2.lt
  have l2a : w.heap.size + 1 + 1 < w2.heap.size + 1 := by omega
  have lf2a : w1.heap.size < w2.heap.size + 1 := by omega
  have hB2 := HB1.out.trans (hb2.mono HB1.out.size)
  have hB2' := (hB2.alloc hB2.size (.cells #[.slice (some ⟨qb, qo, none⟩) 1 qc] 24)).alloc (by have := hB2.size; simp at this ⊢; omega) (.cells #[.int .i64 0, .int .i64 0] 26)
  have hs := HS.out _ hB2'
  have HB2 := Lib.hid (HW.out.trans (hB2'.mono HW.out.size))
  have hG := Blk.new w2 24 #[.slice (some ⟨qb, qo, none⟩) 1 qc]
  have HG := Lib.hid (hG.alloc (.cells #[.int .i64 0, .int .i64 0] 26))
  have hH := Blk.new (w2.alloc (.cells #[.slice (some ⟨qb, qo, none⟩) 1 qc] 24)) 26 #[.int .i64 0, .int .i64 0]
  rw [World.size_alloc] at hH
  have HH := Lib.hid hH
  have HF2 := Lib.hid ((hF2.alloc (.cells #[.slice (some ⟨qb, qo, none⟩) 1 qc] 24)).alloc (.cells #[.int .i64 0, .int .i64 0] 26))
  have HN1 := Lib.hid n1
  clear hr hq1 hb2 hX2 hF2 hB2 hB2' hG hH hTL hTL' hqN hLt HC HP HS HW HX HX1 HF1 HB1 x1 x1' n1
  go_wp2_with (go_at_call 15; refine hs.mono ?_)
  intro e w4 hp
  obtain ⟨hb4, is, c, a, rfl, hr⟩ := hp
  obtain ⟨rfl, rfl, rfl⟩ := smr_good hr (l3_good _) (l3_good _)
  rw [sameL_refl]
  have k0 : w4.cell? ⟨w1.heap.size, 0, none⟩ = some (.int .i64 0) := by rw [(HF2.out.below hb4 (by simp; omega)).cell]; rfl
  have k1 : w4.cell? ⟨w2.heap.size + 1, 0, none⟩ = some (.int .i64 0) := by rw [(HH.out.below hb4 (by simp)).cell]; rfl
  have k2 : w4.cell? ⟨w2.heap.size, 0, none⟩ = some (.slice (some ⟨qb, qo, none⟩) 1 qc) := by rw [(HG.out.below hb4 (by simp; omega)).cell]; rfl
  have k3 : w4.cell? ⟨qb, qo + 1, none⟩ = some (.string ⟨#[120]⟩) := (hb4.cell (p := ⟨qb, qo + 1, none⟩) (by simp; omega)).trans (by
    rw [World.cell?_alloc_lt _ _ _ (by simp; omega), World.cell?_alloc_lt _ _ _ hqb]; exact HN1.out)
  have j0 := World.block_lt_of_cell? _ _ k0
  have j1 := World.block_lt_of_cell? _ _ k1
  have j2 := World.block_lt_of_cell? _ _ k2
  have j3 := World.block_lt_of_cell? _ _ k3
  have HB4 := Lib.hid (HB2.out.trans (hb4.mono HB2.out.size))
  have hq : ((⟨#[120]⟩ : ByteArray).toList == [120]) = true := by rw [Lib.toList_data]; rfl
  clear hr hs hb4 x2 f2 HG HH HF2
  go_wp2
  go_ret
  exact ⟨rfl, HB4.out.alloc HB4.out.size _⟩
end Go.Proofs.Ytcaekpgnknlblaa
