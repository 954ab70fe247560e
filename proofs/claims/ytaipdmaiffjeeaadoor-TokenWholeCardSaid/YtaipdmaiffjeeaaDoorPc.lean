/-
  Plain facts: texts one behind the other, texts with a remark between words, and each word of a text.
-/
import Derived.Test.YtaipdmaiffjeeaaDoorPb
import Derived.Test.YtaipdmaiffjeeaaDoorLa
namespace Go.Proofs.YtaipdmaiffjeeaaDoor
open Go.RowKit

theorem index_app2 (x y : UInt8) (a b : List UInt8) (h : 0 ≤ Lib.index a [x, y]) : Lib.index (a ++ b) [x, y] = Lib.index a [x, y] := by
  induction a with
  | nil =>
    have e : Lib.index [] [x, y] = -1 := rfl
    rw [e] at h
    exact absurd h (by decide)
  | cons c l ih =>
    cases l with
    | nil =>
      have e : Lib.index [c] [x, y] = -1 := by
        unfold Lib.index
        rw [if_neg (by simp)]
        rfl
      rw [e] at h
      exact absurd h (by decide)
    | cons d l2 =>
      have hp : ([x, y].isPrefixOf (c :: d :: (l2 ++ b))) = ([x, y].isPrefixOf (c :: d :: l2)) := rfl
      rw [List.cons_append, List.cons_append]
      unfold Lib.index
      rw [hp]
      by_cases h0 : ([x, y].isPrefixOf (c :: d :: l2)) = true
      · rw [if_pos h0, if_pos h0]
      · rw [if_neg h0, if_neg h0]
        unfold Lib.index at h
        rw [if_neg h0] at h
        have hge := Lib.index_ge (d :: l2) [x, y]
        by_cases h1 : (Lib.index (d :: l2) [x, y] == -1) = true
        · rw [if_pos h1] at h; exact absurd h (by decide)
        · rw [if_neg h1]
          have h2 : Lib.index (d :: l2) [x, y] ≠ -1 := by simpa using h1
          have ih2 := ih (by omega)
          rw [List.cons_append] at ih2
          rw [ih2, if_neg h1]
theorem pre_take {l X : List UInt8} {j : Nat} (hj : 2 ≤ j) (hl : 2 ≤ l.length) (a b : UInt8) : Lib.hasPrefix (l.take j ++ X) [a, b] = Lib.hasPrefix l [a, b] := by
  obtain ⟨i, rfl⟩ : ∃ i, j = i + 2 := ⟨j - 2, by omega⟩
  match l, hl with
  | c :: d :: l2, _ => rfl
theorem preN_lt {p : UInt8 → Bool} {l X : List UInt8} {j : Nat} (h : preN p l < j) (hj : j ≤ l.length) : preN p (l.take j ++ X) = preN p l := by
  induction l generalizing j with
  | nil => simp at hj; omega
  | cons c l ih =>
    obtain ⟨i, rfl⟩ : ∃ i, j = i + 1 := ⟨j - 1, by omega⟩
    rw [List.take_succ_cons, List.cons_append]
    unfold preN at *
    by_cases hc : p c = true
    · rw [List.takeWhile_cons, if_pos hc] at h ⊢
      rw [List.takeWhile_cons, if_pos hc]
      simp only [List.length_cons] at h hj ⊢
      rw [ih (by omega) (by omega)]
    · rw [List.takeWhile_cons, if_neg hc, List.takeWhile_cons, if_neg hc]
/-- how a stretch to skip is skipped -/
theorem skp_ways {l : List UInt8} {n : Nat} (h : skp l = .skip n) : (∃ c l0, l = c :: l0 ∧ blankB c = true ∧ n = 1) ∨
    (∃ c l0, l = c :: l0 ∧ blankB c = false ∧ 2 ≤ l.length ∧ Lib.hasPrefix l [47, 47] = true ∧ n = preN nlB l ∧ 2 ≤ n) ∨
    (∃ c l0, l = c :: l0 ∧ blankB c = false ∧ Lib.hasPrefix l [47, 47] = false ∧ Lib.hasPrefix l [47, 42] = true ∧ 0 ≤ Lib.index (l.drop 2) [42, 47] ∧ (n : Int) = Lib.index (l.drop 2) [42, 47] + 4 ∧ 4 ≤ n ∧ n ≤ l.length) := by
  cases l with
  | nil => cases h
  | cons c l0 =>
    simp only [skp] at h
    split at h
    · rename_i hb; cases h; exact Or.inl ⟨c, l0, rfl, hb, rfl⟩
    · rename_i hb
      have hb : blankB c = false := by simpa using hb
      split at h
      · cases h
      · rename_i h2
        split at h
        · cases h
        · rename_i h3
          cases h
          have hbd := (cmtT_bd (c :: l0)).2.1
          cases hp : Lib.hasPrefix (c :: l0) [47, 47] with
          | true =>
            have hc : cmtT (c :: l0) = ((preN nlB (c :: l0) : Int), false) := if_pos hp
            refine Or.inr (Or.inl ⟨c, l0, rfl, hb, ?_, rfl, by rw [hc]; rfl, ?_⟩)
            · cases l0 with
              | nil => rw [pre_one] at hp; cases hp
              | cons d l1 => simp
            · cases l0 with
              | nil => rw [pre_one] at hp; cases hp
              | cons d l1 =>
                obtain ⟨rfl, rfl⟩ := (pre_two _ _ _ _).1 hp
                rw [hc]
                show 2 ≤ (((preN nlB (47 :: 47 :: l1) : Nat) : Int)).toNat
                unfold preN
                rw [List.takeWhile_cons, if_pos (by decide), List.takeWhile_cons, if_pos (by decide)]
                simp; omega
          | false =>
            cases hq : Lib.hasPrefix (c :: l0) [47, 42] with
            | false =>
              have hc : cmtT (c :: l0) = (0, false) := by unfold cmtT; rw [if_neg (by simp [hp]), if_pos hq]
              rw [hc] at h3; exact absurd rfl h3
            | true =>
              by_cases hi : Lib.index ((c :: l0).drop 2) [42, 47] < 0
              · have hc : cmtT (c :: l0) = (0, true) := by unfold cmtT; rw [if_neg (by simp [hp]), if_neg (by simp [hq]), if_pos hi]
                rw [hc] at h2; exact absurd rfl h2
              · have hc : cmtT (c :: l0) = (Lib.index ((c :: l0).drop 2) [42, 47] + 4, false) := by unfold cmtT; rw [if_neg (by simp [hp]), if_neg (by simp [hq]), if_neg hi]
                rw [hc] at hbd ⊢
                dsimp only at hbd ⊢
                exact Or.inr (Or.inr ⟨c, l0, rfl, hb, rfl, rfl, by omega, by omega, by omega, by omega⟩)
theorem skp_len {l : List UInt8} {n : Nat} (h : skp l = .skip n) : 1 ≤ n ∧ n ≤ l.length := by
  rcases skp_ways h with ⟨c, l0, rfl, _, rfl⟩ | ⟨c, l0, rfl, _, _, _, rfl, h2⟩ | ⟨c, l0, rfl, _, _, _, _, _, h4, h5⟩
  · simp
  · exact ⟨by omega, preN_le _ _⟩
  · exact ⟨by omega, h5⟩
/-- what is skipped is skipped if the text is cut behind it and something else follows -/
theorem skp_app {l X : List UInt8} {n j : Nat} (h : skp l = .skip n) (hn : n ≤ j) (hj : j ≤ l.length) (hX : n < j ∨ preN nlB X = 0) : skp (l.take j ++ X) = .skip n := by
  rcases skp_ways h with ⟨c, l0, rfl, hb, rfl⟩ | ⟨c, l0, rfl, hb, h2l, hp, rfl, h2⟩ | ⟨c, l0, rfl, hb, hp, hq, h0, hi, h4, h5⟩
  · obtain ⟨i, rfl⟩ : ∃ i, j = i + 1 := ⟨j - 1, by omega⟩
    rw [List.take_succ_cons, List.cons_append]
    exact skp_blank hb
  · have hpre : preN nlB ((c :: l0).take j ++ X) = preN nlB (c :: l0) := by
      rcases hX with hX | hX
      · exact preN_lt hX hj
      · exact preN_app hX hn
    have hp2 : Lib.hasPrefix ((c :: l0).take j ++ X) [47, 47] = true := by rw [pre_take (by omega) h2l]; exact hp
    have hc : cmtT ((c :: l0).take j ++ X) = ((preN nlB (c :: l0) : Int), false) := by
      unfold cmtT; rw [if_pos hp2, hpre]
    obtain ⟨i, rfl⟩ : ∃ i, j = i + 1 := ⟨j - 1, by omega⟩
    rw [List.take_succ_cons, List.cons_append] at hc ⊢
    rw [skp_more hb (by rw [hc]) (by rw [hc]; show ((preN nlB (c :: l0) : Nat) : Int) ≠ 0; omega), hc]
    rfl
  · have h2l : 2 ≤ (c :: l0).length := by omega
    have hp2 : Lib.hasPrefix ((c :: l0).take j ++ X) [47, 47] = false := by rw [pre_take (by omega) h2l]; exact hp
    have hq2 : Lib.hasPrefix ((c :: l0).take j ++ X) [47, 42] = true := by rw [pre_take (by omega) h2l]; exact hq
    obtain ⟨q, hq0⟩ : ∃ q : Nat, Lib.index ((c :: l0).drop 2) [42, 47] = q := ⟨(Lib.index ((c :: l0).drop 2) [42, 47]).toNat, by omega⟩
    have hin : Lib.index (((c :: l0).take j ++ X).drop 2) [42, 47] = q := by
      have e1 : ((c :: l0).take j ++ X).drop 2 = ((c :: l0).drop 2).take (j - 2) ++ X := by
        rw [List.drop_append_of_le_length (by rw [List.length_take]; omega), List.drop_take]
      have hocc : Lib.occAt ((c :: l0).drop 2) [42, 47] q = true ∧ ∀ i, i < q → Lib.occAt ((c :: l0).drop 2) [42, 47] i = false := by
        rcases Lib.index_spec ((c :: l0).drop 2) [42, 47] with ⟨e, _⟩ | ⟨i, e, _, o, hno⟩
        · omega
        · have : i = q := by omega
          subst this
          exact ⟨o, hno⟩
      rw [e1]
      refine noEnd_hit (fun i hi2 => ?_) ?_ ?_
      · cases ho : Lib.occAt (((c :: l0).drop 2).take (j - 2) ++ X) [42, 47] i with
        | false => rfl
        | true =>
          obtain ⟨o1, o2⟩ := occ2.1 ho
          have hlen : (((c :: l0).drop 2).take (j - 2)).length = j - 2 := by rw [List.length_take, List.length_drop]; omega
          rw [List.getElem?_append_left (by omega), List.getElem?_take_of_lt (by omega)] at o1 o2
          have := hocc.2 i hi2
          rw [occ2.2 ⟨o1, o2⟩] at this
          cases this
      · have hlen : (((c :: l0).drop 2).take (j - 2)).length = j - 2 := by rw [List.length_take, List.length_drop]; omega
        rw [List.getElem?_append_left (by omega), List.getElem?_take_of_lt (by omega)]
        exact (occ2.1 hocc.1).1
      · have hlen : (((c :: l0).drop 2).take (j - 2)).length = j - 2 := by rw [List.length_take, List.length_drop]; omega
        rw [List.getElem?_append_left (by omega), List.getElem?_take_of_lt (by omega)]
        exact (occ2.1 hocc.1).2
    have hc : cmtT ((c :: l0).take j ++ X) = ((q : Int) + 4, false) := by
      unfold cmtT; rw [if_neg (by simp [hp2]), if_neg (by simp [hq2]), if_neg (by omega), hin]
    obtain ⟨i, rfl⟩ : ∃ i, j = i + 1 := ⟨j - 1, by omega⟩
    rw [List.take_succ_cons, List.cons_append] at hc ⊢
    rw [skp_more hb (by rw [hc]) (by rw [hc]; show (q : Int) + 4 ≠ 0; omega), hc]
    congr 1
    show ((q : Int) + 4).toNat = n
    omega
end Go.Proofs.YtaipdmaiffjeeaaDoor
