/-
  Joined texts of this claim: TrG.
-/
import Derived.Test.YtmghjfphlneblaaGreatDoorW00
import Derived.Test.YtmghjfphlneblaaGreatDoorW02
import Derived.Test.YtmghjfphlneblaaGreatDoorW04
set_option maxHeartbeats 40000000
set_option maxRecDepth 100000
set_option linter.unusedVariables false
set_option linter.unusedSimpArgs false
namespace Go.Proofs.YtmghjfphlneblaaGreatDoor
section
namespace Tr
open Go.RowKit

/-- the cells of a node in a box, behind a call -/
theorem box_node {w w' : World} {x0 x1 x2 x3 x4 x5 : Value} (hb : Below (w.alloc (.cells #[x0, x1, x2, x3, x4, x5] 34)).heap.size (w.alloc (.cells #[x0, x1, x2, x3, x4, x5] 34)) w') :
    w'.cell? ⟨w.heap.size, 0, none⟩ = some x0 ∧ w'.cell? ⟨w.heap.size, 1, none⟩ = some x1 ∧ w'.cell? ⟨w.heap.size, 2, none⟩ = some x2 ∧ w'.cell? ⟨w.heap.size, 3, none⟩ = some x3 ∧ w'.cell? ⟨w.heap.size, 4, none⟩ = some x4 ∧ w'.cell? ⟨w.heap.size, 5, none⟩ = some x5 ∧ w.heap.size < w'.heap.size := by
  have h : w'.heap[w.heap.size]? = some (.cells #[x0, x1, x2, x3, x4, x5] 34 (0, 0)) := by
    rw [hb.block w.heap.size (by simp)]; exact heap_alloc_new w _
  refine ⟨by simp [World.cell?, h], by simp [World.cell?, h], by simp [World.cell?, h], by simp [World.cell?, h], by simp [World.cell?, h], by simp [World.cell?, h], ?_⟩
  have := hb.size
  simp at this
  omega

set_option maxHeartbeats 2000000 in
theorem fields_any (k : Int) (t : ByteArray) (n z : Int) (p : Option Addr) (m cap : Nat) (a : Int) (w : World) (hm : m ≤ 1000000000000000000) :
    Calls Tryz.prog 141 #[.agg #[.int .i64 k, .string t, .int .i64 n, .int .i64 z, .slice p m cap, .int .i64 a]] w fun e w' => e = .returned (.int .i64 (fieldV k t n z m a)) ∧ Below w.heap.size w w' := by
  have HW : Hid (Below w.heap.size w (w.alloc (.cells #[.int .i64 k, .string t, .int .i64 n, .int .i64 z, .slice p m cap, .int .i64 a] 34))) := (Below.refl _ _).alloc (Nat.le_refl _) _
  have H2 := nums_any k t n z p m cap a (w.alloc (.cells #[.int .i64 k, .string t, .int .i64 n, .int .i64 z, .slice p m cap, .int .i64 a] 34)) hm
  go_enter Tryz.func141, Tryz.ntmps141
  cases hn : namedB k with
  | true =>
    cases hx : nameB t with
    | false =>
      clear H2
      go_wp2_with (first | (go_at_call 177; refine (named_any _ _).mono ?_; rintro e w' ⟨rfl, rfl⟩) | (go_at_call 178; refine (name_any _ _).mono ?_; rintro e w' ⟨rfl, rfl⟩))
      go_ret
      exact ⟨ret_int (by unfold fieldV; rw [if_pos ⟨hn, hx⟩]), HW.out⟩
    | true =>
      go_wp2_with (first | (go_at_call 177; refine (named_any _ _).mono ?_; rintro e w' ⟨rfl, rfl⟩) | (go_at_call 178; refine (name_any _ _).mono ?_; rintro e w' ⟨rfl, rfl⟩))
      refine H2.mono ?_
      rintro e w2 ⟨rfl, hb⟩
      obtain ⟨c0, c1, c2, c3, c4, c5, l1⟩ := box_node hb
      have hbw := HW.out.trans (hb.mono (by simp))
      have HB := Lib.hid hbw
      clear hb hbw H2 HW
      cases hu : numB k n z m with
      | false =>
        go_wp2
        go_ret
        exact ⟨ret_int (by unfold fieldV; rw [if_neg (by rintro ⟨_, h⟩; rw [hx] at h; cases h), if_neg (by rintro ⟨h, _⟩; rw [hn] at h; cases h)]; rw [if_pos (Or.inl hu)]), HB.out⟩
      | true =>
        by_cases ha : a < 0
        · go_wp2
          go_ret
          exact ⟨ret_int (by unfold fieldV; rw [if_neg (by rintro ⟨_, h⟩; rw [hx] at h; cases h), if_neg (by rintro ⟨h, _⟩; rw [hn] at h; cases h)]; rw [if_pos (Or.inr ha)]), HB.out⟩
        · go_wp2
          go_ret
          exact ⟨ret_int (by unfold fieldV; rw [if_neg (by rintro ⟨_, h⟩; rw [hx] at h; cases h), if_neg (by rintro ⟨h, _⟩; rw [hn] at h; cases h)]; rw [if_neg (by rintro (h | h) <;> first | (rw [hu] at h; cases h; done) | omega)]), HB.out⟩
  | false =>
    cases hx : signB k t with
    | false =>
      clear H2
      go_wp2_with (first | (go_at_call 177; refine (named_any _ _).mono ?_; rintro e w' ⟨rfl, rfl⟩) | (go_at_call 179; refine (sign_any _ _ _).mono ?_; rintro e w' ⟨rfl, rfl⟩))
      go_ret
      exact ⟨ret_int (by unfold fieldV; rw [if_neg (by rintro ⟨h, _⟩; rw [hn] at h; cases h), if_pos ⟨hn, hx⟩]), HW.out⟩
    | true =>
      go_wp2_with (first | (go_at_call 177; refine (named_any _ _).mono ?_; rintro e w' ⟨rfl, rfl⟩) | (go_at_call 179; refine (sign_any _ _ _).mono ?_; rintro e w' ⟨rfl, rfl⟩))
      refine H2.mono ?_
      rintro e w2 ⟨rfl, hb⟩
      obtain ⟨c0, c1, c2, c3, c4, c5, l1⟩ := box_node hb
      have hbw := HW.out.trans (hb.mono (by simp))
      have HB := Lib.hid hbw
      clear hb hbw H2 HW
      cases hu : numB k n z m with
      | false =>
        go_wp2
        go_ret
        exact ⟨ret_int (by unfold fieldV; rw [if_neg (by rintro ⟨h, _⟩; rw [hn] at h; cases h), if_neg (by rintro ⟨_, h⟩; rw [hx] at h; cases h)]; rw [if_pos (Or.inl hu)]), HB.out⟩
      | true =>
        by_cases ha : a < 0
        · go_wp2
          go_ret
          exact ⟨ret_int (by unfold fieldV; rw [if_neg (by rintro ⟨h, _⟩; rw [hn] at h; cases h), if_neg (by rintro ⟨_, h⟩; rw [hx] at h; cases h)]; rw [if_pos (Or.inr ha)]), HB.out⟩
        · go_wp2
          go_ret
          exact ⟨ret_int (by unfold fieldV; rw [if_neg (by rintro ⟨h, _⟩; rw [hn] at h; cases h), if_neg (by rintro ⟨_, h⟩; rw [hx] at h; cases h)]; rw [if_neg (by rintro (h | h) <;> first | (rw [hu] at h; cases h; done) | omega)]), HB.out⟩

set_option maxHeartbeats 1000000 in
theorem rnums_any (k : Int) (t : ByteArray) (n z : Int) (p : Option Addr) (m cap : Nat) (a : Int) (w : World) (hm : m ≤ 1000000000000000000) :
    Calls Tryz.prog 57 #[.agg #[.int .i64 k, .string t, .int .i64 n, .int .i64 z, .slice p m cap, .int .i64 a]] w fun e w' => e = .returned (.bool (numB k n z m)) ∧ Below w.heap.size w w' := by
  go_enter Tryz.func57, Tryz.ntmps57
  go_wp2_with (first | (go_at_call 25; refine (in18_any _ _ _ _).mono ?_; rintro e w' ⟨rfl, rfl⟩))
  all_goals go_ret
  all_goals exact ⟨ret_bool (by go_light; rw [Bool.eq_iff_iff]; (first | (simp_all [numB, inB, wordB]; done) | (simp_all [numB, inB, wordB]; omega))), (Below.refl _ _).alloc (Nat.le_refl _) _⟩
end Tr
end
end Go.Proofs.YtmghjfphlneblaaGreatDoor
