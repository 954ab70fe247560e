/-
  Contract of the document's Text.
-/
import Derived.Test.YtaipdmaiffjeeaaDoorTc
namespace Go.Proofs.YtaipdmaiffjeeaaDoor
open Go.RowKit

theorem bstr_append (a b : List UInt8) : bstr a ++ bstr b = bstr (a ++ b) := by
  apply ByteArray.ext
  rw [ByteArray.data_append]
  simp [bstr]
theorem bstr_first {l : List I4} (h : 0 < l.length) : bstr (joinB (l.take 0)) ++ bstr l[0].t = bstr (joinB (l.take (0 + 1))) := by
  rw [bstr_append, joinB_take_zero h]; rfl
theorem bstr_next {l : List I4} {k : Nat} (h : k < l.length) (hk : 0 < k) : (bstr (joinB (l.take k)) ++ bstr [32]) ++ bstr l[k].t = bstr (joinB (l.take (k + 1))) := by
  rw [bstr_append, bstr_append, joinB_take_succ h hk, List.append_assoc]; rfl
theorem bstr_size (l : List UInt8) : (bstr l).size = l.length := by rw [Lib.size_eq]; rfl

/-- the four ways of the document's check of one word -/
theorem check_ways (t : I4) : (¬ (1 ≤ t.k ∧ t.k ≤ 4) ∧ checkC t = 4) ∨ ((1 ≤ t.k ∧ t.k ≤ 4) ∧ ((t.t.length = 0 ∧ checkC t = 5) ∨ (t.t.length ≠ 0 ∧ t.a < 0 ∧ checkC t = 5) ∨ (t.t.length ≠ 0 ∧ ¬ t.a < 0 ∧
    ((∃ c, fstT t.t = .bad c ∧ checkC t = 5) ∨ (∃ kd n v, fstT t.t = .tok kd n v ∧
      ((n ≠ t.t.length ∧ checkC t = 5) ∨ (n = t.t.length ∧ (kd : Int) ≠ t.k ∧ checkC t = 5) ∨ (n = t.t.length ∧ (kd : Int) = t.k ∧ (v : Int) ≠ t.v ∧ checkC t = 5) ∨ (n = t.t.length ∧ (kd : Int) = t.k ∧ (v : Int) = t.v ∧ checkC t = 0))))))) := by
  by_cases hk : 1 ≤ t.k ∧ t.k ≤ 4
  · refine Or.inr ⟨hk, ?_⟩
    have e0 : checkC t = match fstT t.t with
      | .bad _ => 5
      | .tok k n v => if (k : Int) ≠ t.k ∨ t.t.take n ≠ t.t ∨ (v : Int) ≠ t.v ∨ t.a < 0 then 5 else 0 := if_neg (by omega)
    by_cases h0 : t.t.length = 0
    · have : t.t = [] := List.eq_nil_of_length_eq_zero h0
      rw [this] at e0
      exact Or.inl ⟨h0, e0⟩
    · by_cases ha : t.a < 0
      · refine Or.inr (Or.inl ⟨h0, ha, ?_⟩)
        rw [e0]
        cases fstT t.t with
        | bad c => rfl
        | tok k n v => exact if_pos (Or.inr (Or.inr (Or.inr ha)))
      · refine Or.inr (Or.inr ⟨h0, ha, ?_⟩)
        cases hf : fstT t.t with
        | bad c => rw [hf] at e0; exact Or.inl ⟨c, rfl, e0⟩
        | tok kd n v =>
          rw [hf] at e0
          have e0 : checkC t = if (kd : Int) ≠ t.k ∨ t.t.take n ≠ t.t ∨ (v : Int) ≠ t.v ∨ t.a < 0 then 5 else 0 := e0
          obtain ⟨_, hn2⟩ := fstT_tok hf
          have htk : t.t.take n = t.t ↔ n = t.t.length := ⟨fun h => by have := congrArg List.length h; rw [List.length_take] at this; omega, fun h => by rw [h, List.take_length]⟩
          refine Or.inr ⟨kd, n, v, rfl, ?_⟩
          by_cases q1 : n = t.t.length
          · by_cases q2 : (kd : Int) = t.k
            · by_cases q3 : (v : Int) = t.v
              · refine Or.inr (Or.inr (Or.inr ⟨q1, q2, q3, ?_⟩))
                rw [e0, if_neg]
                rintro (h | h | h | h)
                · exact h q2
                · exact h (htk.2 q1)
                · exact h q3
                · exact ha h
              · exact Or.inr (Or.inr (Or.inl ⟨q1, q2, q3, by rw [e0, if_pos (Or.inr (Or.inr (Or.inl q3)))]⟩))
            · exact Or.inr (Or.inl ⟨q1, q2, by rw [e0, if_pos (Or.inl q2)]⟩)
          · exact Or.inl ⟨q1, by rw [e0, if_pos (Or.inr (Or.inl fun h => q1 (htk.1 h)))]⟩
  · exact Or.inl ⟨hk, if_pos (by omega)⟩
end Go.Proofs.YtaipdmaiffjeeaaDoor
