/-
  Contracts of the predicates on kinds and numbers, of package tree and of the document's answer: each returns what its plain definition says, and the world is as it was.
-/
import Derived.Test.YtmghjfphlneblaaProg
import Derived.WalkKit
import Derived.WalkSpells
import Derived.WalkLawsBesides
import Derived.Lib.Hide
import Derived.Deep.Light
namespace Go.Proofs.Ytmghjfphlneblaa.Tr
open Go.RowKit

def exprB (k : Int) : Bool := decide (31 ≤ k ∧ k ≤ 40)
def actB (k : Int) : Bool := decide ((11 ≤ k ∧ k ≤ 18) ∨ (21 ≤ k ∧ k ≤ 24))
def kindB (k : Int) : Bool := decide ((1 ≤ k ∧ k ≤ 4) ∨ (11 ≤ k ∧ k ≤ 24) ∨ (31 ≤ k ∧ k ≤ 40))
def inB (n a b : Int) : Bool := decide (a ≤ n ∧ n ≤ b)
def namedB (k : Int) : Bool := decide (k = 2 ∨ k = 3 ∨ k = 4 ∨ k = 12 ∨ k = 32 ∨ k = 33)
def wordB (n : Int) : Bool := decide (n = 1 ∨ n = 2)
def forB (i kid : Int) : Bool := if i = 0 then (kid == 12 || kid == 13 || kid == 24) else if i = 1 then (exprB kid || kid == 24) else if i = 2 then (kid == 13 || kid == 24) else kid == 11
def lowV (k : Int) : Int := if k = 3 ∨ k = 18 ∨ k = 13 ∨ k = 19 ∨ k = 35 ∨ k = 40 then 1 else if k = 14 ∨ k = 15 ∨ k = 16 ∨ k = 34 ∨ k = 36 ∨ k = 37 ∨ k = 39 then 2 else if k = 38 then 3 else if k = 17 then 4 else 0
def highV (M k : Int) : Int := if k = 1 ∨ k = 11 ∨ k = 33 ∨ k = 3 ∨ k = 18 then M else if k = 2 then 200 else if k = 12 ∨ k = 23 ∨ k = 13 ∨ k = 19 ∨ k = 35 ∨ k = 40 then 1 else if k = 15 ∨ k = 16 ∨ k = 34 ∨ k = 36 ∨ k = 37 ∨ k = 39 then 2 else if k = 14 ∨ k = 38 then 3 else if k = 17 then 4 else 0
def goB (k i m kid : Int) : Bool := if k = 1 then (kid == 2 || kid == 3) else if k = 3 then (if i = m - 1 then kid == 11 else kid == 4) else if k = 11 then actB kid else
  if k = 14 ∨ k = 15 then (if i = 0 then exprB kid else kid == 11) else if k = 16 then (if i = 0 then kid == 11 else exprB kid) else if k = 17 then forB i kid else
  if k = 18 then (if i = 0 then exprB kid else (actB kid || kid == 19 || kid == 20)) else exprB kid

theorem ret_bool {a b : Bool} (h : a = b) : Ending.returned (.bool a) = .returned (.bool b) := by rw [h]
theorem ret_int {k : IntKind} {a b : Int} (h : a = b) : Ending.returned (.int k a) = .returned (.int k b) := by rw [h]
theorem ret_pair {a b c d : Int} (h : a = b) (h2 : c = d) : Ending.returned (.tuple #[.int .i64 a, .int .i64 c]) = .returned (.tuple #[.int .i64 b, .int .i64 d]) := by rw [h, h2]

set_option maxHeartbeats 400000 in
theorem expr_any (k : Int) (w : World) :
    Calls Try.prog 50 #[.int .i64 k] w fun e w' => e = .returned (.bool (exprB k)) ∧ w = w' := by
  go_enter Try.func50, Try.ntmps50
  go_wp2
  all_goals go_ret
  all_goals exact ⟨ret_bool (by go_light; rw [Bool.eq_iff_iff]; simp [exprB]; try omega), rfl⟩

set_option maxHeartbeats 400000 in
theorem act_any (k : Int) (w : World) :
    Calls Try.prog 51 #[.int .i64 k] w fun e w' => e = .returned (.bool (actB k)) ∧ w = w' := by
  go_enter Try.func51, Try.ntmps51
  go_wp2
  all_goals go_ret
  all_goals exact ⟨ret_bool (by go_light; rw [Bool.eq_iff_iff]; simp [actB]; try omega), rfl⟩

set_option maxHeartbeats 400000 in
theorem kind_any (k : Int) (w : World) :
    Calls Try.prog 41 #[.int .i64 k] w fun e w' => e = .returned (.bool (kindB k)) ∧ w = w' := by
  go_enter Try.func41, Try.ntmps41
  go_wp2_with (first | (go_at_call 50; refine (expr_any _ _).mono ?_; rintro e w' ⟨rfl, rfl⟩))
  all_goals go_ret
  all_goals exact ⟨ret_bool (by go_light; rw [Bool.eq_iff_iff]; simp [kindB, exprB] at *; try omega), rfl⟩

set_option maxHeartbeats 400000 in
theorem named_any (k : Int) (w : World) :
    Calls Try.prog 53 #[.int .i64 k] w fun e w' => e = .returned (.bool (namedB k)) ∧ w = w' := by
  go_enter Try.func53, Try.ntmps53
  go_wp2
  all_goals go_ret
  all_goals exact ⟨ret_bool (by go_light; rw [Bool.eq_iff_iff]; simp [namedB] at *; try omega), rfl⟩

set_option maxHeartbeats 400000 in
theorem oneword_any (k : Int) (w : World) :
    Calls Try.prog 62 #[.int .i64 k] w fun e w' => e = .returned (.bool (wordB k)) ∧ w = w' := by
  go_enter Try.func62, Try.ntmps62
  go_wp2
  all_goals go_ret
  all_goals exact ⟨ret_bool (by go_light; rw [Bool.eq_iff_iff]; simp [wordB] at *; try omega), rfl⟩

set_option maxHeartbeats 400000 in
theorem for_any (i k : Int) (w : World) :
    Calls Try.prog 52 #[.int .i64 i, .int .i64 k] w fun e w' => e = .returned (.bool (forB i k)) ∧ w = w' := by
  go_enter Try.func52, Try.ntmps52
  go_wp2_with (first | (go_at_call 50; refine (expr_any _ _).mono ?_; rintro e w' ⟨rfl, rfl⟩))
  all_goals go_ret
  all_goals exact ⟨ret_bool (by go_light; rw [Bool.eq_iff_iff]; simp_all [forB]), rfl⟩

set_option maxHeartbeats 400000 in
theorem sizes_any (k : Int) (w : World) :
    Calls Try.prog 42 #[.int .i64 k] w fun e w' => e = .returned (.tuple #[.int .i64 (lowV k), .int .i64 (highV 9223372036854775807 k)]) ∧ w = w' := by
  go_enter Try.func42, Try.ntmps42
  go_wp2
  all_goals go_ret2
  all_goals exact ⟨ret_pair (by go_light; simp at *; unfold lowV; omega) (by go_light; simp at *; unfold highV; omega), rfl⟩


end Go.Proofs.Ytmghjfphlneblaa.Tr
