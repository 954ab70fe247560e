/-
  Joined texts of this claim: TkM.
-/
import Derived.Test.YtbjacclfhgnffaaGreatDoorX25
import Derived.Test.YtbjacclfhgnffaaGreatDoorX36
set_option linter.unusedVariables false
set_option linter.unusedSimpArgs false
/-
  Plain facts: the words of a text with another one behind a line feed.
-/
namespace Go.Proofs.YtbjacclfhgnffaaGreatDoor.Tk
open Go.RowKit
/-- what may stand behind: nothing, or a blank or a line feed and anything -/
def Tail (r : List UInt8) : Prop := r = [] ∨ ∃ c r', r = c :: r' ∧ (c = 32 ∨ c = 10)
theorem tail_word {r : List UInt8} (h : Tail r) : preN wordB r = 0 := by
  rcases h with rfl | ⟨c, r', rfl, rfl | rfl⟩ <;> rfl
theorem preN_app {p : UInt8 → Bool} {l r : List UInt8} {j : Nat} (hr : preN p r = 0) (h : preN p l ≤ j) : preN p (l.take j ++ r) = preN p l := by
  induction l generalizing j with
  | nil => rw [List.take_nil, List.nil_append, hr]; rfl
  | cons c l ih =>
    unfold preN at *
    by_cases hc : p c = true
    · rw [List.takeWhile_cons, if_pos hc] at h ⊢
      cases j with
      | zero => simp at h
      | succ j =>
        rw [List.take_succ_cons, List.cons_append, List.takeWhile_cons, if_pos hc]
        simp only [List.length_cons] at h ⊢
        rw [ih (by omega)]
    · rw [List.takeWhile_cons, if_neg hc] at h ⊢
      cases j with
      | zero => simpa using hr
      | succ j => rw [List.take_succ_cons, List.cons_append, List.takeWhile_cons, if_neg hc]
theorem take_app {l r : List UInt8} {j m : Nat} (h : m ≤ j) (hl : m ≤ l.length) : (l.take j ++ r).take m = l.take m := by
  rw [List.take_append_of_le_length (by rw [List.length_take]; omega), List.take_take, Nat.min_eq_left h]
theorem getD_app {l r : List UInt8} {j i : Nat} (h : i < j) (hl : i < l.length) : (l.take j ++ r).getD i 0 = l.getD i 0 := by
  simp only [List.getD]
  rw [List.getElem?_append_left (by rw [List.length_take]; omega), List.getElem?_take_of_lt h]
theorem sign_clean {x : List UInt8} (h : signB x = true) : 32 ∉ x ∧ 10 ∉ x := by
  have h1 : x ∈ signs := by simpa [signB] using h
  have h2 : ∀ y ∈ signs, 32 ∉ y ∧ 10 ∉ y := by decide
  exact h2 x h1
theorem sign_tail {l r : List UInt8} {j m : Nat} (hr : Tail r) (hm : j < m) (hj : j ≤ l.length) (hml : m ≤ (l.take j ++ r).length) : signB ((l.take j ++ r).take m) = false := by
  rcases hr with rfl | ⟨c, r', rfl, hc⟩
  · rw [List.append_nil, List.length_take] at hml; omega
  · cases hs : signB ((l.take j ++ c :: r').take m) with
    | false => rfl
    | true =>
      have hc2 := sign_clean hs
      have hin : c ∈ (l.take j ++ c :: r').take m := by
        rw [List.take_append]
        refine List.mem_append_right _ ?_
        rw [List.length_take, Nat.min_eq_left hj]
        obtain ⟨q, hq⟩ : ∃ q, m - j = q + 1 := ⟨m - j - 1, by omega⟩
        rw [hq, List.take_succ_cons]
        exact List.mem_cons_self
      rcases hc with rfl | rfl
      · exact absurd hin hc2.1
      · exact absurd hin hc2.2
theorem sgnF_top {l : List UInt8} {m n : Nat} {k v : Nat} (h : sgnF l m = .tok k n v) : signB (l.take n) = true ∧ k = 4 ∧ v = 0 ∧ 1 ≤ n ∧ n ≤ m ∧ ∀ i, n < i → i ≤ m → signB (l.take i) = false := by
  induction m with
  | zero => cases h
  | succ q ih =>
    unfold sgnF at h
    split at h
    · rename_i hs
      cases h
      exact ⟨hs, rfl, rfl, by omega, by omega, fun i h1 h2 => by omega⟩
    · rename_i hs
      obtain ⟨h1, h2, h3, h4, h5, h6⟩ := ih h
      refine ⟨h1, h2, h3, h4, by omega, fun i h7 h8 => ?_⟩
      by_cases e : i = q + 1
      · subst e; simpa using hs
      · exact h6 i h7 (by omega)
theorem sgnF_make {l : List UInt8} {n : Nat} : ∀ {m : Nat}, signB (l.take n) = true → 1 ≤ n → n ≤ m → (∀ i, n < i → i ≤ m → signB (l.take i) = false) → sgnF l m = .tok 4 n 0 := by
  intro m
  induction m with
  | zero => intro _ h1 h2; omega
  | succ q ih =>
    intro hs h1 h2 h3
    by_cases e : n = q + 1
    · subst e; exact if_pos hs
    · unfold sgnF
      rw [if_neg (by rw [h3 (q + 1) (by omega) (by omega)]; decide)]
      exact ih hs h1 (by omega) fun i h4 h5 => h3 i h4 (by omega)
theorem sgnT_app {l r : List UInt8} {j k n v : Nat} (hr : Tail r) (h : sgnT l = .tok k n v) (hn : n ≤ j) (hj : j ≤ l.length) : sgnT (l.take j ++ r) = .tok k n v := by
  obtain ⟨h1, rfl, rfl, h4, h5, h6⟩ := sgnF_top h
  unfold sgnT
  have hlen : (l.take j ++ r).length = j + r.length := by rw [List.length_append, List.length_take, Nat.min_eq_left hj]
  refine sgnF_make (by rw [take_app hn (by omega)]; exact h1) h4 (by omega) fun i h7 h8 => ?_
  by_cases e : i ≤ j
  · rw [take_app e (by omega)]
    exact h6 i h7 (by omega)
  · exact sign_tail hr (by omega) hj (by omega)
theorem chrT_app {l r : List UInt8} {j k n v : Nat} (h : chrT l = .tok k n v) (hn : n ≤ j) (hj : j ≤ l.length) : chrT (l.take j ++ r) = .tok k n v := by
  have hlen : (l.take j ++ r).length = j + r.length := by rw [List.length_append, List.length_take, Nat.min_eq_left hj]
  have h0 := h
  unfold chrT at h
  split at h
  · cases h
  · rename_i h3
    split at h
    · rename_i h92
      split at h
      · cases h
      · rename_i hq
        cases h
        unfold chrT
        rw [if_neg (by omega), getD_app (by omega) (by omega), if_pos h92, getD_app (by omega) (by omega), getD_app (by omega) (by omega), if_neg (by rintro (h | h | h); exact hq (Or.inl h); omega; exact hq (Or.inr (Or.inr h)))]
    · rename_i h92
      split at h
      · rename_i hp
        split at h
        · cases h
        · rename_i hq
          cases h
          unfold chrT
          rw [if_neg (by omega), getD_app (by omega) (by omega), if_neg h92, if_pos hp, getD_app (by omega) (by omega), if_neg hq]
      · cases h
/-- THE WORD WITH WHICH A TEXT BEGINS stands if the text is cut behind it and a blank, a line feed or nothing follows -/
theorem fstT_app {l r : List UInt8} {j k n v : Nat} (hr : Tail r) (h : fstT l = .tok k n v) (hn : n ≤ j) (hj : j ≤ l.length) : fstT (l.take j ++ r) = .tok k n v := by
  obtain ⟨hn1, hn2⟩ := fstT_tok h
  cases l with
  | nil => cases h
  | cons c l =>
    obtain ⟨i, rfl⟩ : ∃ i, j = i + 1 := ⟨j - 1, by omega⟩
    have hcons : (c :: l).take (i + 1) ++ r = c :: (l.take i ++ r) := by rw [List.take_succ_cons, List.cons_append]
    have hfull : ∀ q, Full q ((c :: l).take (preN wordB (c :: l))).length → q = .tok k n v → n = preN wordB (c :: l) := fun q hq e => by
      have := hq k n v e
      rw [List.length_take, Nat.min_eq_left (preN_le _ _)] at this
      exact this
    rw [hcons]
    simp only [fstT] at h ⊢
    rw [← hcons]
    by_cases hd : digB c = true
    · rw [if_pos hd] at h ⊢
      have e := hfull _ (numT_full _) h
      have hp := preN_app (p := wordB) (j := i + 1) (tail_word hr) (l := c :: l) (by omega)
      rw [hp, take_app (by omega) (preN_le _ _)]
      exact h
    · rw [if_neg hd] at h ⊢
      by_cases hw : wordB c = true
      · rw [if_pos hw] at h ⊢
        have e := hfull _ (wrdT_full _) h
        have hp := preN_app (p := wordB) (j := i + 1) (tail_word hr) (l := c :: l) (by omega)
        rw [hp, take_app (by omega) (preN_le _ _)]
        exact h
      · rw [if_neg hw] at h ⊢
        by_cases h39 : c = 39
        · rw [if_pos h39] at h ⊢
          exact chrT_app h hn hj
        · rw [if_neg h39] at h ⊢
          exact sgnT_app hr h hn hj
theorem nlB_slash : nlB 47 = true := by decide
theorem skp_word_inv {l : List UInt8} (h : skp l = .word) (hne : l ≠ []) : ∃ c l0, l = c :: l0 ∧ blankB c = false ∧ Lib.hasPrefix l [47, 47] = false ∧ Lib.hasPrefix l [47, 42] = false := by
  cases l with
  | nil => exact absurd rfl hne
  | cons c l0 =>
    refine ⟨c, l0, rfl, ?_⟩
    simp only [skp] at h
    split at h
    · cases h
    · rename_i hb
      split at h
      · cases h
      · rename_i h2
        split at h
        · rename_i h3
          refine ⟨by simpa using hb, ?_, ?_⟩
          · cases hp : Lib.hasPrefix (c :: l0) [47, 47] with
            | false => rfl
            | true =>
              have hc : cmtT (c :: l0) = ((preN nlB (c :: l0) : Int), false) := if_pos hp
              rw [hc] at h3
              have h47 : c = 47 := by
                have : ((47 == c) && (Lib.hasPrefix l0 [47])) = true := hp
                simp at this
                exact this.1.symm
              have := preN_pos (p := nlB) (c := c) (l := l0) (by rw [h47]; decide)
              simp at h3; omega
          · cases hp : Lib.hasPrefix (c :: l0) [47, 42] with
            | false => rfl
            | true =>
              have hn : Lib.hasPrefix (c :: l0) [47, 47] = false := by
                cases hq : Lib.hasPrefix (c :: l0) [47, 47] with
                | false => rfl
                | true =>
                  cases l0 with
                  | nil => simp [Lib.hasPrefix] at hp
                  | cons d l1 =>
                    have p1 : ((47 == c) && ((42 == d) && true)) = true := hp
                    have p2 : ((47 == c) && ((47 == d) && true)) = true := hq
                    simp only [Bool.and_true, Bool.and_eq_true, beq_iff_eq] at p1 p2
                    rw [← p1.2] at p2
                    exact absurd p2.2 (by decide)
              unfold cmtT at h2 h3
              rw [if_neg (by simp [hn]), if_neg (by simp [hp])] at h2 h3
              by_cases hi : Lib.index ((c :: l0).drop 2) [42, 47] < 0
              · rw [if_pos hi] at h2; exact absurd rfl h2
              · rw [if_neg hi] at h3
                have h3 : Lib.index ((c :: l0).drop 2) [42, 47] + 4 = 0 := h3
                omega
        · cases h
theorem pre_two (c d : UInt8) (l : List UInt8) (x : UInt8) : Lib.hasPrefix (c :: d :: l) [47, x] = true ↔ c = 47 ∧ d = x := by
  show ((47 == c) && ((x == d) && true)) = true ↔ _
  simp only [Bool.and_true, Bool.and_eq_true, beq_iff_eq]
  exact ⟨fun ⟨a, b⟩ => ⟨a.symm, b.symm⟩, fun ⟨a, b⟩ => ⟨a.symm, b.symm⟩⟩
theorem pre_one (c x : UInt8) : Lib.hasPrefix [c] [47, x] = false := by
  show ((47 == c) && false) = false
  simp
theorem skp_make {c : UInt8} {l : List UInt8} (hb : blankB c = false) (h1 : Lib.hasPrefix (c :: l) [47, 47] = false) (h2 : Lib.hasPrefix (c :: l) [47, 42] = false) : skp (c :: l) = .word := by
  have hc : cmtT (c :: l) = (0, false) := by unfold cmtT; rw [if_neg (by simp [h1]), if_pos h2]
  exact skp_word hb (by rw [hc]) (by rw [hc])
/-- where a word begins, one begins still if the text is cut behind it and a blank, a line feed or nothing follows -/
theorem word_app {l r : List UInt8} {j : Nat} (hr : Tail r) (hw : skp l = .word) (hj1 : 1 ≤ j) (hj : j ≤ l.length) : skp (l.take j ++ r) = .word := by
  obtain ⟨c, l0, rfl, hb, h1, h2⟩ := skp_word_inv hw (fun e => by rw [e] at hj; simp at hj; omega)
  obtain ⟨i, rfl⟩ : ∃ i, j = i + 1 := ⟨j - 1, by omega⟩
  rw [List.take_succ_cons, List.cons_append]
  have key : ∀ x : UInt8, x ≠ 32 → x ≠ 10 → Lib.hasPrefix (c :: l0) [47, x] = false → Lib.hasPrefix (c :: (l0.take i ++ r)) [47, x] = false := by
    intro x hx1 hx2 hp
    cases i with
    | zero =>
      rw [List.take_zero, List.nil_append]
      rcases hr with rfl | ⟨d, r', rfl, hd⟩
      · exact pre_one c x
      · cases hq : Lib.hasPrefix (c :: d :: r') [47, x] with
        | false => rfl
        | true =>
          have := ((pre_two _ _ _ _).1 hq).2
          rcases hd with rfl | rfl
          · exact absurd this.symm hx1
          · exact absurd this.symm hx2
    | succ i =>
      cases l0 with
      | nil => simp at hj
      | cons d l1 =>
        rw [List.take_succ_cons, List.cons_append]
        cases hq : Lib.hasPrefix (c :: d :: (l1.take i ++ r)) [47, x] with
        | false => rfl
        | true =>
          have := (pre_two _ _ _ _).1 hq
          rw [(pre_two c d l1 x).2 this] at hp
          cases hp
  exact skp_make hb (key 47 (by decide) (by decide) h1) (key 42 (by decide) (by decide) h2)
theorem index_app2 (x y : UInt8) (a b : List UInt8) (h : 0 ≤ Lib.index a [x, y]) : Lib.index (a ++ b) [x, y] = Lib.index a [x, y] := by
  induction a with
  | nil =>
    have e : Lib.index [] [x, y] = -1 := rfl
    rw [e] at h
    exact absurd h (by decide)
  | cons c l ih =>
    cases l with
    | nil =>
      have e : Lib.index [c] [x, y] = -1 := by
        unfold Lib.index
        rw [if_neg (by simp)]
        rfl
      rw [e] at h
      exact absurd h (by decide)
    | cons d l2 =>
      have hp : ([x, y].isPrefixOf (c :: d :: (l2 ++ b))) = ([x, y].isPrefixOf (c :: d :: l2)) := rfl
      rw [List.cons_append, List.cons_append]
      unfold Lib.index
      rw [hp]
      by_cases h0 : ([x, y].isPrefixOf (c :: d :: l2)) = true
      · rw [if_pos h0, if_pos h0]
      · rw [if_neg h0, if_neg h0]
        unfold Lib.index at h
        rw [if_neg h0] at h
        have hge := Lib.index_ge (d :: l2) [x, y]
        by_cases h1 : (Lib.index (d :: l2) [x, y] == -1) = true
        · rw [if_pos h1] at h; exact absurd h (by decide)
        · rw [if_neg h1]
          have h2 : Lib.index (d :: l2) [x, y] ≠ -1 := by simpa using h1
          have ih2 := ih (by omega)
          rw [List.cons_append] at ih2
          rw [ih2, if_neg h1]
theorem pre_take {l X : List UInt8} {j : Nat} (hj : 2 ≤ j) (hl : 2 ≤ l.length) (a b : UInt8) : Lib.hasPrefix (l.take j ++ X) [a, b] = Lib.hasPrefix l [a, b] := by
  obtain ⟨i, rfl⟩ : ∃ i, j = i + 2 := ⟨j - 2, by omega⟩
  match l, hl with
  | c :: d :: l2, _ => rfl
theorem preN_lt {p : UInt8 → Bool} {l X : List UInt8} {j : Nat} (h : preN p l < j) (hj : j ≤ l.length) : preN p (l.take j ++ X) = preN p l := by
  induction l generalizing j with
  | nil => simp at hj; omega
  | cons c l ih =>
    obtain ⟨i, rfl⟩ : ∃ i, j = i + 1 := ⟨j - 1, by omega⟩
    rw [List.take_succ_cons, List.cons_append]
    unfold preN at *
    by_cases hc : p c = true
    · rw [List.takeWhile_cons, if_pos hc] at h ⊢
      rw [List.takeWhile_cons, if_pos hc]
      simp only [List.length_cons] at h hj ⊢
      rw [ih (by omega) (by omega)]
    · rw [List.takeWhile_cons, if_neg hc, List.takeWhile_cons, if_neg hc]
/-- how a stretch to skip is skipped -/
theorem skp_ways {l : List UInt8} {n : Nat} (h : skp l = .skip n) : (∃ c l0, l = c :: l0 ∧ blankB c = true ∧ n = 1) ∨
    (∃ c l0, l = c :: l0 ∧ blankB c = false ∧ 2 ≤ l.length ∧ Lib.hasPrefix l [47, 47] = true ∧ n = preN nlB l ∧ 2 ≤ n) ∨
    (∃ c l0, l = c :: l0 ∧ blankB c = false ∧ Lib.hasPrefix l [47, 47] = false ∧ Lib.hasPrefix l [47, 42] = true ∧ 0 ≤ Lib.index (l.drop 2) [42, 47] ∧ (n : Int) = Lib.index (l.drop 2) [42, 47] + 4 ∧ 4 ≤ n ∧ n ≤ l.length) := by
  cases l with
  | nil => cases h
  | cons c l0 =>
    simp only [skp] at h
    split at h
    · rename_i hb; cases h; exact Or.inl ⟨c, l0, rfl, hb, rfl⟩
    · rename_i hb
      have hb : blankB c = false := by simpa using hb
      split at h
      · cases h
      · rename_i h2
        split at h
        · cases h
        · rename_i h3
          cases h
          have hbd := (cmtT_bd (c :: l0)).2.1
          cases hp : Lib.hasPrefix (c :: l0) [47, 47] with
          | true =>
            have hc : cmtT (c :: l0) = ((preN nlB (c :: l0) : Int), false) := if_pos hp
            refine Or.inr (Or.inl ⟨c, l0, rfl, hb, ?_, rfl, by rw [hc]; rfl, ?_⟩)
            · cases l0 with
              | nil => rw [pre_one] at hp; cases hp
              | cons d l1 => simp
            · cases l0 with
              | nil => rw [pre_one] at hp; cases hp
              | cons d l1 =>
                obtain ⟨rfl, rfl⟩ := (pre_two _ _ _ _).1 hp
                rw [hc]
                show 2 ≤ (((preN nlB (47 :: 47 :: l1) : Nat) : Int)).toNat
                unfold preN
                rw [List.takeWhile_cons, if_pos (by decide), List.takeWhile_cons, if_pos (by decide)]
                simp; omega
          | false =>
            cases hq : Lib.hasPrefix (c :: l0) [47, 42] with
            | false =>
              have hc : cmtT (c :: l0) = (0, false) := by unfold cmtT; rw [if_neg (by simp [hp]), if_pos hq]
              rw [hc] at h3; exact absurd rfl h3
            | true =>
              by_cases hi : Lib.index ((c :: l0).drop 2) [42, 47] < 0
              · have hc : cmtT (c :: l0) = (0, true) := by unfold cmtT; rw [if_neg (by simp [hp]), if_neg (by simp [hq]), if_pos hi]
                rw [hc] at h2; exact absurd rfl h2
              · have hc : cmtT (c :: l0) = (Lib.index ((c :: l0).drop 2) [42, 47] + 4, false) := by unfold cmtT; rw [if_neg (by simp [hp]), if_neg (by simp [hq]), if_neg hi]
                rw [hc] at hbd ⊢
                dsimp only at hbd ⊢
                exact Or.inr (Or.inr ⟨c, l0, rfl, hb, rfl, rfl, by omega, by omega, by omega, by omega⟩)
theorem skp_len {l : List UInt8} {n : Nat} (h : skp l = .skip n) : 1 ≤ n ∧ n ≤ l.length := by
  rcases skp_ways h with ⟨c, l0, rfl, _, rfl⟩ | ⟨c, l0, rfl, _, _, _, rfl, h2⟩ | ⟨c, l0, rfl, _, _, _, _, _, h4, h5⟩
  · simp
  · exact ⟨by omega, preN_le _ _⟩
  · exact ⟨by omega, h5⟩
/-- what is skipped is skipped if the text is cut behind it and something else follows -/
theorem skp_app {l X : List UInt8} {n j : Nat} (h : skp l = .skip n) (hn : n ≤ j) (hj : j ≤ l.length) (hX : n < j ∨ preN nlB X = 0) : skp (l.take j ++ X) = .skip n := by
  rcases skp_ways h with ⟨c, l0, rfl, hb, rfl⟩ | ⟨c, l0, rfl, hb, h2l, hp, rfl, h2⟩ | ⟨c, l0, rfl, hb, hp, hq, h0, hi, h4, h5⟩
  · obtain ⟨i, rfl⟩ : ∃ i, j = i + 1 := ⟨j - 1, by omega⟩
    rw [List.take_succ_cons, List.cons_append]
    exact skp_blank hb
  · have hpre : preN nlB ((c :: l0).take j ++ X) = preN nlB (c :: l0) := by
      rcases hX with hX | hX
      · exact preN_lt hX hj
      · exact preN_app hX hn
    have hp2 : Lib.hasPrefix ((c :: l0).take j ++ X) [47, 47] = true := by rw [pre_take (by omega) h2l]; exact hp
    have hc : cmtT ((c :: l0).take j ++ X) = ((preN nlB (c :: l0) : Int), false) := by
      unfold cmtT; rw [if_pos hp2, hpre]
    obtain ⟨i, rfl⟩ : ∃ i, j = i + 1 := ⟨j - 1, by omega⟩
    rw [List.take_succ_cons, List.cons_append] at hc ⊢
    rw [skp_more hb (by rw [hc]) (by rw [hc]; show ((preN nlB (c :: l0) : Nat) : Int) ≠ 0; omega), hc]
    rfl
  · have h2l : 2 ≤ (c :: l0).length := by omega
    have hp2 : Lib.hasPrefix ((c :: l0).take j ++ X) [47, 47] = false := by rw [pre_take (by omega) h2l]; exact hp
    have hq2 : Lib.hasPrefix ((c :: l0).take j ++ X) [47, 42] = true := by rw [pre_take (by omega) h2l]; exact hq
    obtain ⟨q, hq0⟩ : ∃ q : Nat, Lib.index ((c :: l0).drop 2) [42, 47] = q := ⟨(Lib.index ((c :: l0).drop 2) [42, 47]).toNat, by omega⟩
    have hin : Lib.index (((c :: l0).take j ++ X).drop 2) [42, 47] = q := by
      have e1 : ((c :: l0).take j ++ X).drop 2 = ((c :: l0).drop 2).take (j - 2) ++ X := by
        rw [List.drop_append_of_le_length (by rw [List.length_take]; omega), List.drop_take]
      have hocc : Lib.occAt ((c :: l0).drop 2) [42, 47] q = true ∧ ∀ i, i < q → Lib.occAt ((c :: l0).drop 2) [42, 47] i = false := by
        rcases Lib.index_spec ((c :: l0).drop 2) [42, 47] with ⟨e, _⟩ | ⟨i, e, _, o, hno⟩
        · omega
        · have : i = q := by omega
          subst this
          exact ⟨o, hno⟩
      rw [e1]
      refine noEnd_hit (fun i hi2 => ?_) ?_ ?_
      · cases ho : Lib.occAt (((c :: l0).drop 2).take (j - 2) ++ X) [42, 47] i with
        | false => rfl
        | true =>
          obtain ⟨o1, o2⟩ := occ2.1 ho
          have hlen : (((c :: l0).drop 2).take (j - 2)).length = j - 2 := by rw [List.length_take, List.length_drop]; omega
          rw [List.getElem?_append_left (by omega), List.getElem?_take_of_lt (by omega)] at o1 o2
          have := hocc.2 i hi2
          rw [occ2.2 ⟨o1, o2⟩] at this
          cases this
      · have hlen : (((c :: l0).drop 2).take (j - 2)).length = j - 2 := by rw [List.length_take, List.length_drop]; omega
        rw [List.getElem?_append_left (by omega), List.getElem?_take_of_lt (by omega)]
        exact (occ2.1 hocc.1).1
      · have hlen : (((c :: l0).drop 2).take (j - 2)).length = j - 2 := by rw [List.length_take, List.length_drop]; omega
        rw [List.getElem?_append_left (by omega), List.getElem?_take_of_lt (by omega)]
        exact (occ2.1 hocc.1).2
    have hc : cmtT ((c :: l0).take j ++ X) = ((q : Int) + 4, false) := by
      unfold cmtT; rw [if_neg (by simp [hp2]), if_neg (by simp [hq2]), if_neg (by omega), hin]
    obtain ⟨i, rfl⟩ : ∃ i, j = i + 1 := ⟨j - 1, by omega⟩
    rw [List.take_succ_cons, List.cons_append] at hc ⊢
    rw [skp_more hb (by rw [hc]) (by rw [hc]; show (q : Int) + 4 ≠ 0; omega), hc]
    congr 1
    show ((q : Int) + 4).toNat = n
    omega
/-- a word that stands farther on -/
def sh (d : Nat) (t : T4) : T4 := { t with a := t.a + d }
/-- the same text behind other words, farther on -/
theorem Scans.shift {p : Nat} {L : List UInt8} {acc : List T4} {r : SR} (h : Scans p L acc r) : ∀ (d : Nat) (acc' : List T4), acc.length ≤ acc'.length → acc'.length ≤ 800 →
    ∃ r', Scans (p + d) L acc' r' ∧ (∀ l, r = .ok l → ∃ m, l = acc ++ m ∧ (acc'.length + m.length ≤ 800 → r' = .ok (acc' ++ m.map (sh d))) ∧ (800 < acc'.length + m.length → ∃ c a, r' = .bad c a)) ∧ (∀ c a, r = .bad c a → ∃ c a, r' = .bad c a) := by
  induction h with
  | done p acc =>
    intro d acc' h1 h2
    exact ⟨_, .done _ _, fun l e => by cases e; exact ⟨[], by simp, fun _ => by simp, fun h => by simp at h; omega⟩, fun c a e => by cases e⟩
  | @skip p L acc r n h k ih =>
    intro d acc' h1 h2
    obtain ⟨r', hr, hp⟩ := ih d acc' h1 h2
    exact ⟨r', .skip h (by rw [show p + d + n = p + n + d by omega]; exact hr), hp⟩
  | opens h =>
    intro d acc' _ _
    exact ⟨_, .opens h, fun l e => (by cases e), fun c a _ => ⟨_, _, rfl⟩⟩
  | much h hn hm =>
    intro d acc' h1 h2
    exact ⟨_, .much h hn (by omega), fun l e => (by cases e), fun c a _ => ⟨_, _, rfl⟩⟩
  | bad h hn hm hf =>
    intro d acc' h1 h2
    by_cases h8 : acc'.length = 800
    · exact ⟨_, .much h hn h8, fun l e => (by cases e), fun c a _ => ⟨_, _, rfl⟩⟩
    · exact ⟨_, .bad h hn h8 hf, fun l e => (by cases e), fun c a _ => ⟨_, _, rfl⟩⟩
  | @tok p L acc r k n v h hn hm hf k' ih =>
    intro d acc' h1 h2
    by_cases h8 : acc'.length = 800
    · refine ⟨_, .much h hn h8, fun l e => ?_, fun c a _ => ⟨_, _, rfl⟩⟩
      obtain ⟨r0, _, hp, _⟩ := ih 0 (acc ++ [⟨k, L.take n, v, p⟩]) (Nat.le_refl _) (by rw [List.length_append]; simp; omega)
      obtain ⟨m, hm2, _, _⟩ := hp l e
      exact ⟨_ :: m, by rw [hm2, List.append_assoc]; rfl, fun h => by simp at h; omega, fun _ => ⟨_, _, rfl⟩⟩
    · obtain ⟨r', hr, hp, hb⟩ := ih d (acc' ++ [⟨k, L.take n, v, p + d⟩]) (by rw [List.length_append, List.length_append]; simp; omega) (by rw [List.length_append]; simp; omega)
      refine ⟨r', .tok h hn h8 hf (by rw [show p + d + n = p + n + d by omega]; exact hr), fun l e => ?_, hb⟩
      obtain ⟨m, hm2, h3, h4⟩ := hp l e
      refine ⟨⟨k, L.take n, v, p⟩ :: m, by rw [hm2, List.append_assoc]; rfl, fun h => ?_, fun h => ?_⟩
      · rw [h3 (by rw [List.length_append]; simp at *; omega), List.append_assoc]; rfl
      · exact h4 (by rw [List.length_append]; simp at *; omega)
theorem Scans.more {p : Nat} {L : List UInt8} {acc l : List T4} (h : Scans p L acc (.ok l)) (h8 : acc.length ≤ 800) : ∃ m, l = acc ++ m := by
  obtain ⟨_, _, hp, _⟩ := h.shift 0 acc (Nat.le_refl _) h8
  obtain ⟨m, hm, _⟩ := hp l rfl
  exact ⟨m, hm⟩
theorem fstT_code {l : List UInt8} {c : Nat} (hne : c ≠ 1) (h : fstT l = .bad c) (r : List UInt8) (hr : preN wordB r = 0) (hl : l ≠ []) : fstT (l ++ r) = .bad c := by
  cases l with
  | nil => exact absurd rfl hl
  | cons x l =>
    have hp : preN wordB (x :: l ++ r) = preN wordB (x :: l) := by
      have := preN_app (p := wordB) (l := x :: l) (j := (x :: l).length) hr (preN_le _ _)
      rw [List.take_length] at this
      exact this
    have ht : (x :: l ++ r).take (preN wordB (x :: l)) = (x :: l).take (preN wordB (x :: l)) := List.take_append_of_le_length (preN_le _ _)
    rw [List.cons_append] at hp ht ⊢
    simp only [fstT] at h ⊢
    rw [hp, ht]
    split
    · rename_i hd; rw [if_pos hd] at h; exact h
    · rename_i hd
      rw [if_neg hd] at h
      split
      · rename_i hw; rw [if_pos hw] at h; exact h
      · rename_i hw
        rw [if_neg hw] at h
        split at h
        · rcases chrT_cases (x :: l) with e | ⟨_, w, e⟩ | ⟨_, w, e⟩ <;> rw [e] at h <;> cases h
          exact absurd rfl hne
        · have hs : ∀ m : Nat, ∀ l : List UInt8, sgnF l m = .bad c → c = 1 := fun m => by
            induction m with
            | zero => intro l h; cases h; rfl
            | succ m ih =>
              intro l h
              unfold sgnF at h
              split at h
              · cases h
              · exact ih l h
          exact absurd (hs _ _ h) hne
theorem lf_word (R : List UInt8) : preN wordB (10 :: R) = 0 := rfl
theorem lf_nl (R : List UInt8) : preN nlB (10 :: R) = 0 := rfl
theorem word_lf {L : List UInt8} (R : List UInt8) (h : skp L = .word) (hn : L ≠ []) : skp (L ++ 10 :: R) = .word := by
  have h1 : 1 ≤ L.length := by cases L with | nil => exact absurd rfl hn | cons _ _ => simp
  have := word_app (r := 10 :: R) (Or.inr ⟨10, R, rfl, Or.inr rfl⟩) h h1 (Nat.le_refl _)
  rw [List.take_length] at this
  exact this
/-- a text, then a line feed and another text -/
theorem Scans.then {p : Nat} {L : List UInt8} {acc : List T4} {r : SR} (h : Scans p L acc r) :
    (∀ l, r = .ok l → ∀ R r', Scans (p + L.length) (10 :: R) l r' → Scans p (L ++ 10 :: R) acc r') ∧ (∀ c a, r = .bad c a → c ≠ 1 → ∀ R, Scans p (L ++ 10 :: R) acc (.bad c a)) := by
  induction h with
  | done p acc => exact ⟨fun l e R r' h => by cases e; exact h, fun c a e => by cases e⟩
  | @skip p L acc r n h k ih =>
    obtain ⟨h1, h2⟩ := skp_len h
    have hs : ∀ R, skp (L ++ 10 :: R) = .skip n := fun R => by
      have := skp_app (X := 10 :: R) h h2 (Nat.le_refl _) (Or.inr (lf_nl R))
      rw [List.take_length] at this
      exact this
    have hd : ∀ R, (L ++ 10 :: R).drop n = L.drop n ++ 10 :: R := fun R => List.drop_append_of_le_length h2
    refine ⟨fun l e R r' hR => .skip (hs R) ?_, fun c a e hc R => .skip (hs R) ?_⟩
    · rw [hd]
      exact ih.1 l e R r' (by rw [List.length_drop, show p + n + (L.length - n) = p + L.length by omega]; exact hR)
    · rw [hd]
      exact ih.2 c a e hc R
  | opens h => exact ⟨fun l e => (by cases e), fun c a e hc => by cases e; exact absurd rfl hc⟩
  | much h hn hm => exact ⟨fun l e => (by cases e), fun c a e hc R => by cases e; exact .much (word_lf R h hn) (by simp) hm⟩
  | bad h hn hm hf => exact ⟨fun l e => (by cases e), fun c a e hc R => by cases e; exact .bad (word_lf R h hn) (by simp) hm (fstT_code hc hf _ (lf_word R) hn)⟩
  | @tok p L acc r k n v h hn hm hf k' ih =>
    obtain ⟨h1, h2⟩ := fstT_tok hf
    have hf2 : ∀ R, fstT (L ++ 10 :: R) = .tok k n v := fun R => by
      have := fstT_app (r := 10 :: R) (Or.inr ⟨10, R, rfl, Or.inr rfl⟩) hf h2 (Nat.le_refl _)
      rw [List.take_length] at this
      exact this
    have hd : ∀ R, (L ++ 10 :: R).drop n = L.drop n ++ 10 :: R := fun R => List.drop_append_of_le_length h2
    have ht : ∀ R, (L ++ 10 :: R).take n = L.take n := fun R => List.take_append_of_le_length h2
    refine ⟨fun l e R r' hR => .tok (word_lf R h hn) (by simp) hm (hf2 R) ?_, fun c a e hc R => .tok (word_lf R h hn) (by simp) hm (hf2 R) ?_⟩
    · rw [hd, ht]
      exact ih.1 l e R r' (by rw [List.length_drop, show p + n + (L.length - n) = p + L.length by omega]; exact hR)
    · rw [hd, ht]
      exact ih.2 c a e hc R
theorem skp_lf (R : List UInt8) : skp (10 :: R) = .skip 1 := skp_blank (by decide)
end Go.Proofs.YtbjacclfhgnffaaGreatDoor.Tk
