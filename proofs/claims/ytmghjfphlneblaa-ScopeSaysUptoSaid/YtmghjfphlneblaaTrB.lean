/-
  Contracts of the document's predicates on kinds and numbers.
-/
import Derived.Test.YtmghjfphlneblaaTrA
namespace Go.Proofs.Ytmghjfphlneblaa.Tr
open Go.RowKit

set_option maxHeartbeats 400000 in
theorem in18_any (n a b : Int) (w : World) :
    Calls Try.prog 22 #[.int .i64 n, .int .i64 a, .int .i64 b] w fun e w' => e = .returned (.bool (inB n a b)) ∧ w = w' := by
  go_enter Try.func22, Try.ntmps22
  go_wp2
  all_goals go_ret
  all_goals exact ⟨ret_bool (by go_light; rw [Bool.eq_iff_iff]; simp [inB] at *; try omega), rfl⟩

set_option maxHeartbeats 400000 in
theorem rexpr_any (k : Int) (w : World) :
    Calls Try.prog 33 #[.int .i64 k] w fun e w' => e = .returned (.bool (exprB k)) ∧ w = w' := by
  go_enter Try.func33, Try.ntmps33
  go_wp2_with (first | (go_at_call 22; refine (in18_any _ _ _ _).mono ?_; rintro e w' ⟨rfl, rfl⟩))
  all_goals go_ret
  all_goals exact ⟨ret_bool (by go_light; rw [Bool.eq_iff_iff]; simp [exprB, inB] at *; try omega), rfl⟩

set_option maxHeartbeats 400000 in
theorem ract_any (k : Int) (w : World) :
    Calls Try.prog 46 #[.int .i64 k] w fun e w' => e = .returned (.bool (actB k)) ∧ w = w' := by
  go_enter Try.func46, Try.ntmps46
  go_wp2_with (first | (go_at_call 22; refine (in18_any _ _ _ _).mono ?_; rintro e w' ⟨rfl, rfl⟩))
  all_goals go_ret
  all_goals exact ⟨ret_bool (by go_light; rw [Bool.eq_iff_iff]; simp [actB, inB] at *; try omega), rfl⟩

set_option maxHeartbeats 400000 in
theorem rnamed_any (k : Int) (w : World) :
    Calls Try.prog 36 #[.int .i64 k] w fun e w' => e = .returned (.bool (namedB k)) ∧ w = w' := by
  go_enter Try.func36, Try.ntmps36
  go_wp2
  all_goals go_ret
  all_goals exact ⟨ret_bool (by go_light; rw [Bool.eq_iff_iff]; simp [namedB] at *; try omega), rfl⟩

set_option maxHeartbeats 400000 in
theorem rkids_any (k : Int) (w : World) :
    Calls Try.prog 34 #[.int .i64 k] w fun e w' => e = .returned (.tuple #[.int .i64 (lowV k), .int .i64 (highV 1099511627776 k)]) ∧ w = w' := by
  go_enter Try.func34, Try.ntmps34
  go_wp2
  all_goals go_ret2
  all_goals exact ⟨ret_pair (by go_light; (try simp at *); unfold lowV; omega) (by go_light; (try simp at *); unfold highV; omega), rfl⟩

set_option maxHeartbeats 1000000 in
theorem rgoes_first (k m kid : Int) (w : World) (hm : 0 ≤ m) (hm2 : m ≤ 9000000000000000000) :
    Calls Try.prog 35 #[.int .i64 k, .int .i64 0, .int .i64 m, .int .i64 kid] w fun e w' => e = .returned (.bool (goB k 0 m kid)) ∧ w = w' := by
  go_enter Try.func35, Try.ntmps35
  go_wp2_with (first | (go_at_call 33; refine (rexpr_any _ _).mono ?_; rintro e w' ⟨rfl, rfl⟩) | (go_at_call 46; refine (ract_any _ _).mono ?_; rintro e w' ⟨rfl, rfl⟩))
  all_goals go_ret
  all_goals exact ⟨ret_bool (by go_light; rw [Bool.eq_iff_iff]; simp_all [goB, forB]), rfl⟩

set_option maxHeartbeats 1000000 in
theorem rgoes_next (k i m kid : Int) (w : World) (h0 : 0 < i) (h3 : k = 17 → i ≤ 3) (hm : 0 ≤ m) (hm2 : m ≤ 9000000000000000000) :
    Calls Try.prog 35 #[.int .i64 k, .int .i64 i, .int .i64 m, .int .i64 kid] w fun e w' => e = .returned (.bool (goB k i m kid)) ∧ w = w' := by
  have H3 := Lib.hid h3
  clear h3
  have hi : ¬ i = 0 := by omega
  go_enter Try.func35, Try.ntmps35
  go_wp2_with (first | (go_at_call 33; refine (rexpr_any _ _).mono ?_; rintro e w' ⟨rfl, rfl⟩) | (go_at_call 46; refine (ract_any _ _).mono ?_; rintro e w' ⟨rfl, rfl⟩))
  all_goals go_ret
  all_goals exact ⟨ret_bool (by go_light; have h3 := H3.out; clear H3; rw [Bool.eq_iff_iff]; (first | (simp_all [goB, forB]; done) | (simp_all [goB, forB]; omega))), rfl⟩
end Go.Proofs.Ytmghjfphlneblaa.Tr
