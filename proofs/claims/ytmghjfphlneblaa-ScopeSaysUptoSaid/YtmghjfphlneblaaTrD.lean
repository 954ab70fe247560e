/-
  Contracts of the predicates on nodes of package tree: what kids a node takes, its numbers.
-/
import Derived.Test.YtmghjfphlneblaaTrC
import Derived.Below
import Derived.Deep.QuietTactic
import Derived.BigQuiet
import Derived.RegionTactic
namespace Go.Proofs.Ytmghjfphlneblaa.Tr
open Go.RowKit

def numB (k n z : Int) (m : Nat) : Bool := if k = 2 ∧ n = 3 then (decide (1 ≤ z) && decide (z ≤ 200) && decide ((m : Int) ≤ z)) else if z = 0 then (if k = 2 then (wordB n && decide (m ≤ 1)) else if k = 3 then (n == 0 || wordB n) else
  if k = 4 ∨ k = 12 then wordB n else if k = 31 then decide (0 ≤ n) else if k = 40 then (n == 0 || n == 1) else n == 0) else false

theorem below_drewN {B : Nat} {a w : World} (h : Below B a w) (n : Nat) : Below B a (w.drewN n) := ⟨h.os, h.tape, h.output, h.size, h.block⟩

set_option maxHeartbeats 1000000 in
theorem nums_any (k : Int) (t : ByteArray) (n z : Int) (p : Option Addr) (m cap : Nat) (a : Int) (w : World) (hm : m ≤ 1000000000000000000) :
    Calls Try.prog 56 #[.agg #[.int .i64 k, .string t, .int .i64 n, .int .i64 z, .slice p m cap, .int .i64 a]] w fun e w' => e = .returned (.bool (numB k n z m)) ∧ Below w.heap.size w w' := by
  go_enter Try.func56, Try.ntmps56
  go_wp2_with (first | (go_at_call 62; refine (oneword_any _ _).mono ?_; rintro e w' ⟨rfl, rfl⟩))
  all_goals go_ret
  all_goals exact ⟨ret_bool (by go_light; rw [Bool.eq_iff_iff]; (first | (simp_all [numB]; done) | (simp_all [numB]; omega))), (Below.refl _ _).alloc (Nat.le_refl _) _⟩

set_option maxHeartbeats 1000000 in
theorem takes_any (k : Int) (t : ByteArray) (n z : Int) (p : Option Addr) (m cap : Nat) (a i kid : Int) (w : World) (hm : m ≤ 1000000000000000000) :
    Calls Try.prog 43 #[.agg #[.int .i64 k, .string t, .int .i64 n, .int .i64 z, .slice p m cap, .int .i64 a], .int .i64 i, .int .i64 kid] w fun e w' => e = .returned (.bool (goB k i m kid)) ∧ Below w.heap.size w w' := by
  go_enter Try.func43, Try.ntmps43
  go_wp2
  go_quiet (fail)
  go_wp2_with (first | (go_at_call 50; refine (expr_any _ _).mono ?_; rintro e w' ⟨rfl, rfl⟩) | (go_at_call 51; refine (act_any _ _).mono ?_; rintro e w' ⟨rfl, rfl⟩) | (go_at_call 52; refine (for_any _ _ _).mono ?_; rintro e w' ⟨rfl, rfl⟩))
  all_goals go_ret
  all_goals exact ⟨ret_bool (by go_light; rw [Bool.eq_iff_iff]; simp_all [goB]), below_drewN ((Below.refl _ _).alloc (Nat.le_refl _) _) _⟩
end Go.Proofs.Ytmghjfphlneblaa.Tr
