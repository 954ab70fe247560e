/-
  Plain facts on the words of a text: what stands behind a blank or a line feed does not turn the words before it.
-/
import Derived.Test.YtaipdmaiffjeeaaDoorI
namespace Go.Proofs.YtaipdmaiffjeeaaDoor
open Go.RowKit

/-- what may stand behind: nothing, or a blank or a line feed and anything -/
def Tail (r : List UInt8) : Prop := r = [] ∨ ∃ c r', r = c :: r' ∧ (c = 32 ∨ c = 10)
theorem tail_word {r : List UInt8} (h : Tail r) : preN wordB r = 0 := by
  rcases h with rfl | ⟨c, r', rfl, rfl | rfl⟩ <;> rfl
theorem preN_app {p : UInt8 → Bool} {l r : List UInt8} {j : Nat} (hr : preN p r = 0) (h : preN p l ≤ j) : preN p (l.take j ++ r) = preN p l := by
  induction l generalizing j with
  | nil => rw [List.take_nil, List.nil_append, hr]; rfl
  | cons c l ih =>
    unfold preN at *
    by_cases hc : p c = true
    · rw [List.takeWhile_cons, if_pos hc] at h ⊢
      cases j with
      | zero => simp at h
      | succ j =>
        rw [List.take_succ_cons, List.cons_append, List.takeWhile_cons, if_pos hc]
        simp only [List.length_cons] at h ⊢
        rw [ih (by omega)]
    · rw [List.takeWhile_cons, if_neg hc] at h ⊢
      cases j with
      | zero => simpa using hr
      | succ j => rw [List.take_succ_cons, List.cons_append, List.takeWhile_cons, if_neg hc]
theorem take_app {l r : List UInt8} {j m : Nat} (h : m ≤ j) (hl : m ≤ l.length) : (l.take j ++ r).take m = l.take m := by
  rw [List.take_append_of_le_length (by rw [List.length_take]; omega), List.take_take, Nat.min_eq_left h]
theorem getD_app {l r : List UInt8} {j i : Nat} (h : i < j) (hl : i < l.length) : (l.take j ++ r).getD i 0 = l.getD i 0 := by
  simp only [List.getD]
  rw [List.getElem?_append_left (by rw [List.length_take]; omega), List.getElem?_take_of_lt h]
theorem sign_clean {x : List UInt8} (h : signB x = true) : 32 ∉ x ∧ 10 ∉ x := by
  have h1 : x ∈ signs := by simpa [signB] using h
  have h2 : ∀ y ∈ signs, 32 ∉ y ∧ 10 ∉ y := by decide
  exact h2 x h1
theorem sign_tail {l r : List UInt8} {j m : Nat} (hr : Tail r) (hm : j < m) (hj : j ≤ l.length) (hml : m ≤ (l.take j ++ r).length) : signB ((l.take j ++ r).take m) = false := by
  rcases hr with rfl | ⟨c, r', rfl, hc⟩
  · rw [List.append_nil, List.length_take] at hml; omega
  · cases hs : signB ((l.take j ++ c :: r').take m) with
    | false => rfl
    | true =>
      have hc2 := sign_clean hs
      have hin : c ∈ (l.take j ++ c :: r').take m := by
        rw [List.take_append]
        refine List.mem_append_right _ ?_
        rw [List.length_take, Nat.min_eq_left hj]
        obtain ⟨q, hq⟩ : ∃ q, m - j = q + 1 := ⟨m - j - 1, by omega⟩
        rw [hq, List.take_succ_cons]
        exact List.mem_cons_self
      rcases hc with rfl | rfl
      · exact absurd hin hc2.1
      · exact absurd hin hc2.2
theorem sgnF_top {l : List UInt8} {m n : Nat} {k v : Nat} (h : sgnF l m = .tok k n v) : signB (l.take n) = true ∧ k = 4 ∧ v = 0 ∧ 1 ≤ n ∧ n ≤ m ∧ ∀ i, n < i → i ≤ m → signB (l.take i) = false := by
  induction m with
  | zero => cases h
  | succ q ih =>
    unfold sgnF at h
    split at h
    · rename_i hs
      cases h
      exact ⟨hs, rfl, rfl, by omega, by omega, fun i h1 h2 => by omega⟩
    · rename_i hs
      obtain ⟨h1, h2, h3, h4, h5, h6⟩ := ih h
      refine ⟨h1, h2, h3, h4, by omega, fun i h7 h8 => ?_⟩
      by_cases e : i = q + 1
      · subst e; simpa using hs
      · exact h6 i h7 (by omega)
theorem sgnF_make {l : List UInt8} {n : Nat} : ∀ {m : Nat}, signB (l.take n) = true → 1 ≤ n → n ≤ m → (∀ i, n < i → i ≤ m → signB (l.take i) = false) → sgnF l m = .tok 4 n 0 := by
  intro m
  induction m with
  | zero => intro _ h1 h2; omega
  | succ q ih =>
    intro hs h1 h2 h3
    by_cases e : n = q + 1
    · subst e; exact if_pos hs
    · unfold sgnF
      rw [if_neg (by rw [h3 (q + 1) (by omega) (by omega)]; decide)]
      exact ih hs h1 (by omega) fun i h4 h5 => h3 i h4 (by omega)
theorem sgnT_app {l r : List UInt8} {j k n v : Nat} (hr : Tail r) (h : sgnT l = .tok k n v) (hn : n ≤ j) (hj : j ≤ l.length) : sgnT (l.take j ++ r) = .tok k n v := by
  obtain ⟨h1, rfl, rfl, h4, h5, h6⟩ := sgnF_top h
  unfold sgnT
  have hlen : (l.take j ++ r).length = j + r.length := by rw [List.length_append, List.length_take, Nat.min_eq_left hj]
  refine sgnF_make (by rw [take_app hn (by omega)]; exact h1) h4 (by omega) fun i h7 h8 => ?_
  by_cases e : i ≤ j
  · rw [take_app e (by omega)]
    exact h6 i h7 (by omega)
  · exact sign_tail hr (by omega) hj (by omega)
theorem chrT_app {l r : List UInt8} {j k n v : Nat} (h : chrT l = .tok k n v) (hn : n ≤ j) (hj : j ≤ l.length) : chrT (l.take j ++ r) = .tok k n v := by
  have hlen : (l.take j ++ r).length = j + r.length := by rw [List.length_append, List.length_take, Nat.min_eq_left hj]
  have h0 := h
  unfold chrT at h
  split at h
  · cases h
  · rename_i h3
    split at h
    · rename_i h92
      split at h
      · cases h
      · rename_i hq
        cases h
        unfold chrT
        rw [if_neg (by omega), getD_app (by omega) (by omega), if_pos h92, getD_app (by omega) (by omega), getD_app (by omega) (by omega), if_neg (by rintro (h | h | h); exact hq (Or.inl h); omega; exact hq (Or.inr (Or.inr h)))]
    · rename_i h92
      split at h
      · rename_i hp
        split at h
        · cases h
        · rename_i hq
          cases h
          unfold chrT
          rw [if_neg (by omega), getD_app (by omega) (by omega), if_neg h92, if_pos hp, getD_app (by omega) (by omega), if_neg hq]
      · cases h
/-- THE WORD WITH WHICH A TEXT BEGINS stands if the text is cut behind it and a blank, a line feed or nothing follows -/
theorem fstT_app {l r : List UInt8} {j k n v : Nat} (hr : Tail r) (h : fstT l = .tok k n v) (hn : n ≤ j) (hj : j ≤ l.length) : fstT (l.take j ++ r) = .tok k n v := by
  obtain ⟨hn1, hn2⟩ := fstT_tok h
  cases l with
  | nil => cases h
  | cons c l =>
    obtain ⟨i, rfl⟩ : ∃ i, j = i + 1 := ⟨j - 1, by omega⟩
    have hcons : (c :: l).take (i + 1) ++ r = c :: (l.take i ++ r) := by rw [List.take_succ_cons, List.cons_append]
    have hfull : ∀ q, Full q ((c :: l).take (preN wordB (c :: l))).length → q = .tok k n v → n = preN wordB (c :: l) := fun q hq e => by
      have := hq k n v e
      rw [List.length_take, Nat.min_eq_left (preN_le _ _)] at this
      exact this
    rw [hcons]
    simp only [fstT] at h ⊢
    rw [← hcons]
    by_cases hd : digB c = true
    · rw [if_pos hd] at h ⊢
      have e := hfull _ (numT_full _) h
      have hp := preN_app (p := wordB) (j := i + 1) (tail_word hr) (l := c :: l) (by omega)
      rw [hp, take_app (by omega) (preN_le _ _)]
      exact h
    · rw [if_neg hd] at h ⊢
      by_cases hw : wordB c = true
      · rw [if_pos hw] at h ⊢
        have e := hfull _ (wrdT_full _) h
        have hp := preN_app (p := wordB) (j := i + 1) (tail_word hr) (l := c :: l) (by omega)
        rw [hp, take_app (by omega) (preN_le _ _)]
        exact h
      · rw [if_neg hw] at h ⊢
        by_cases h39 : c = 39
        · rw [if_pos h39] at h ⊢
          exact chrT_app h hn hj
        · rw [if_neg h39] at h ⊢
          exact sgnT_app hr h hn hj
end Go.Proofs.YtaipdmaiffjeeaaDoor
