/-
  The contract of the document's wrong: what is wrong with one node.
-/
import Derived.Test.YtmghjfphlneblaaTrN
import Derived.Test.YtmghjfphlneblaaTrP
namespace Go.Proofs.Ytmghjfphlneblaa.Tr
open Go.RowKit

theorem rgoes_any (k i m kid : Int) (w : World) (h0 : 0 ≤ i) (h3 : k = 17 → i ≤ 3) (hm : 0 ≤ m) (hm2 : m ≤ 9000000000000000000) :
    Calls Try.prog 35 #[.int .i64 k, .int .i64 i, .int .i64 m, .int .i64 kid] w fun e w' => e = .returned (.bool (goB k i m kid)) ∧ w = w' := by
  rcases Int.lt_or_eq_of_le h0 with h | h
  · exact rgoes_next k i m kid w h h3 hm hm2
  · subst h; exact rgoes_first k m kid w hm hm2
theorem kind_split {k : Int} (h : kindB k = true) : inB k 1 4 = true ∨ (inB k 1 4 = false ∧ inB k 11 24 = true) ∨ (inB k 1 4 = false ∧ inB k 11 24 = false ∧ exprB k = true) := by
  simp only [kindB, inB, exprB, decide_eq_true_eq, decide_eq_false_iff_not] at *; omega
theorem kind_none {k : Int} (h : kindB k = false) : inB k 1 4 = false ∧ inB k 11 24 = false ∧ exprB k = false := by
  simp only [kindB, inB, exprB, decide_eq_false_iff_not] at *; omega
theorem high_same {k : Int} {m : Nat} (hm : m ≤ 1099511627776) : inB (m : Int) (lowV k) (highV 1099511627776 k) = true ↔ ¬ ((m : Int) < lowV k ∨ highV 9223372036854775807 k < m) := by
  simp only [inB, decide_eq_true_eq]
  unfold highV
  omega
theorem low_for {m : Nat} (h : ¬ highV 9223372036854775807 17 < (m : Int)) : m ≤ 4 := by
  unfold highV at h
  omega

set_option maxHeartbeats 4000000 in
set_option maxRecDepth 100000 in
theorem wrong_kind (x : Nd) (i b o n cap : Nat) (w : World) (hi : i < n) (hb : b < w.heap.size) (hN : NodeAt w b (o + i * 6) x) (hk : kindB x.k = false) :
    Calls Try.prog 23 #[.agg #[.slice (some ⟨b, o, none⟩) n cap], .int .i64 i] w fun e w' => e = .returned (.int .i64 4) ∧ Below w.heap.size w w' := by
  obtain ⟨k, t, nn, z, p, kc, c, a⟩ := x
  obtain ⟨c0, c1, c2, c3, c4, c5⟩ := hN.below ((Below.refl _ _).alloc (Nat.le_refl _) (.cells #[.slice (some ⟨b, o, none⟩) n cap] 24)) hb
  simp only at c0 c1 c2 c3 c4 c5 hk
  obtain ⟨k1, k2, k3⟩ := kind_none hk
  clear hk
  go_enter Try.func23, Try.ntmps23
  go_wp2_with (first | (go_at_call 22; refine (in18_any _ _ _ _).mono ?_; rintro e w' ⟨rfl, rfl⟩) | (go_at_call 33; refine (rexpr_any _ _).mono ?_; rintro e w' ⟨rfl, rfl⟩))
  go_ret
  exact ⟨rfl, ((Below.refl _ _).alloc (Nat.le_refl _) _).alloc (by simp) _⟩

set_option maxHeartbeats 4000000 in
set_option maxRecDepth 100000 in
theorem wrong_size (x : Nd) (i b o n cap : Nat) (w : World) (hi : i < n) (hb : b < w.heap.size) (hN : NodeAt w b (o + i * 6) x) (hk : kindB x.k = true) (hs : inB (x.c.length : Int) (lowV x.k) (highV 1099511627776 x.k) = false) :
    Calls Try.prog 23 #[.agg #[.slice (some ⟨b, o, none⟩) n cap], .int .i64 i] w fun e w' => e = .returned (.int .i64 9) ∧ Below w.heap.size w w' := by
  obtain ⟨k, t, nn, z, p, kc, c, a⟩ := x
  obtain ⟨c0, c1, c2, c3, c4, c5⟩ := hN.below ((Below.refl _ _).alloc (Nat.le_refl _) (.cells #[.slice (some ⟨b, o, none⟩) n cap] 24)) hb
  simp only at c0 c1 c2 c3 c4 c5 hk hs
  generalize c.length = m at *
  rcases kind_split hk with k1 | ⟨k1, k2⟩ | ⟨k1, k2, k3⟩
  all_goals
    clear hk
    go_enter Try.func23, Try.ntmps23
    go_wp2_with (first | (go_at_call 22; refine (in18_any _ _ _ _).mono ?_; rintro e w' ⟨rfl, rfl⟩) | (go_at_call 33; refine (rexpr_any _ _).mono ?_; rintro e w' ⟨rfl, rfl⟩) | (go_at_call 34; refine (rkids_any _ _).mono ?_; rintro e w' ⟨rfl, rfl⟩))
    go_ret
    exact ⟨rfl, ((Below.refl _ _).alloc (Nat.le_refl _) _).alloc (by simp) _⟩
def WrPost (l : List Nd) (i : Nat) (x : Nd) (w : World) (e : Ending) (w' : World) : Prop :=
  Below w.heap.size w w' ∧ ((wayOf l i = none ∧ e = .returned (.int .i64 5)) ∨ (wayOf l i ≠ none ∧ e = .returned (.int .i64 (fieldC x))))

end Go.Proofs.Ytmghjfphlneblaa.Tr
