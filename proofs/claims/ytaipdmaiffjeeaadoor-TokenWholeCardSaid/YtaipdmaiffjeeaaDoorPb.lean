/-
  Plain facts: the text of a list of words has just these words.
-/
import Derived.Test.YtaipdmaiffjeeaaDoorPa
import Derived.Test.YtaipdmaiffjeeaaDoorTa
namespace Go.Proofs.YtaipdmaiffjeeaaDoor
open Go.RowKit

theorem nlB_slash : nlB 47 = true := by decide
theorem skp_word_inv {l : List UInt8} (h : skp l = .word) (hne : l ≠ []) : ∃ c l0, l = c :: l0 ∧ blankB c = false ∧ Lib.hasPrefix l [47, 47] = false ∧ Lib.hasPrefix l [47, 42] = false := by
  cases l with
  | nil => exact absurd rfl hne
  | cons c l0 =>
    refine ⟨c, l0, rfl, ?_⟩
    simp only [skp] at h
    split at h
    · cases h
    · rename_i hb
      split at h
      · cases h
      · rename_i h2
        split at h
        · rename_i h3
          refine ⟨by simpa using hb, ?_, ?_⟩
          · cases hp : Lib.hasPrefix (c :: l0) [47, 47] with
            | false => rfl
            | true =>
              have hc : cmtT (c :: l0) = ((preN nlB (c :: l0) : Int), false) := if_pos hp
              rw [hc] at h3
              have h47 : c = 47 := by
                have : ((47 == c) && (Lib.hasPrefix l0 [47])) = true := hp
                simp at this
                exact this.1.symm
              have := preN_pos (p := nlB) (c := c) (l := l0) (by rw [h47]; decide)
              simp at h3; omega
          · cases hp : Lib.hasPrefix (c :: l0) [47, 42] with
            | false => rfl
            | true =>
              have hn : Lib.hasPrefix (c :: l0) [47, 47] = false := by
                cases hq : Lib.hasPrefix (c :: l0) [47, 47] with
                | false => rfl
                | true =>
                  cases l0 with
                  | nil => simp [Lib.hasPrefix] at hp
                  | cons d l1 =>
                    have p1 : ((47 == c) && ((42 == d) && true)) = true := hp
                    have p2 : ((47 == c) && ((47 == d) && true)) = true := hq
                    simp only [Bool.and_true, Bool.and_eq_true, beq_iff_eq] at p1 p2
                    rw [← p1.2] at p2
                    exact absurd p2.2 (by decide)
              unfold cmtT at h2 h3
              rw [if_neg (by simp [hn]), if_neg (by simp [hp])] at h2 h3
              by_cases hi : Lib.index ((c :: l0).drop 2) [42, 47] < 0
              · rw [if_pos hi] at h2; exact absurd rfl h2
              · rw [if_neg hi] at h3
                have h3 : Lib.index ((c :: l0).drop 2) [42, 47] + 4 = 0 := h3
                omega
        · cases h
theorem pre_two (c d : UInt8) (l : List UInt8) (x : UInt8) : Lib.hasPrefix (c :: d :: l) [47, x] = true ↔ c = 47 ∧ d = x := by
  show ((47 == c) && ((x == d) && true)) = true ↔ _
  simp only [Bool.and_true, Bool.and_eq_true, beq_iff_eq]
  exact ⟨fun ⟨a, b⟩ => ⟨a.symm, b.symm⟩, fun ⟨a, b⟩ => ⟨a.symm, b.symm⟩⟩
theorem pre_one (c x : UInt8) : Lib.hasPrefix [c] [47, x] = false := by
  show ((47 == c) && false) = false
  simp
theorem skp_make {c : UInt8} {l : List UInt8} (hb : blankB c = false) (h1 : Lib.hasPrefix (c :: l) [47, 47] = false) (h2 : Lib.hasPrefix (c :: l) [47, 42] = false) : skp (c :: l) = .word := by
  have hc : cmtT (c :: l) = (0, false) := by unfold cmtT; rw [if_neg (by simp [h1]), if_pos h2]
  exact skp_word hb (by rw [hc]) (by rw [hc])
/-- where a word begins, one begins still if the text is cut behind it and a blank, a line feed or nothing follows -/
theorem word_app {l r : List UInt8} {j : Nat} (hr : Tail r) (hw : skp l = .word) (hj1 : 1 ≤ j) (hj : j ≤ l.length) : skp (l.take j ++ r) = .word := by
  obtain ⟨c, l0, rfl, hb, h1, h2⟩ := skp_word_inv hw (fun e => by rw [e] at hj; simp at hj; omega)
  obtain ⟨i, rfl⟩ : ∃ i, j = i + 1 := ⟨j - 1, by omega⟩
  rw [List.take_succ_cons, List.cons_append]
  have key : ∀ x : UInt8, x ≠ 32 → x ≠ 10 → Lib.hasPrefix (c :: l0) [47, x] = false → Lib.hasPrefix (c :: (l0.take i ++ r)) [47, x] = false := by
    intro x hx1 hx2 hp
    cases i with
    | zero =>
      rw [List.take_zero, List.nil_append]
      rcases hr with rfl | ⟨d, r', rfl, hd⟩
      · exact pre_one c x
      · cases hq : Lib.hasPrefix (c :: d :: r') [47, x] with
        | false => rfl
        | true =>
          have := ((pre_two _ _ _ _).1 hq).2
          rcases hd with rfl | rfl
          · exact absurd this.symm hx1
          · exact absurd this.symm hx2
    | succ i =>
      cases l0 with
      | nil => simp at hj
      | cons d l1 =>
        rw [List.take_succ_cons, List.cons_append]
        cases hq : Lib.hasPrefix (c :: d :: (l1.take i ++ r)) [47, x] with
        | false => rfl
        | true =>
          have := (pre_two _ _ _ _).1 hq
          rw [(pre_two c d l1 x).2 this] at hp
          cases hp
  exact skp_make hb (key 47 (by decide) (by decide) h1) (key 42 (by decide) (by decide) h2)
theorem blank_no_word {c : UInt8} (h : blankB c = true) : digB c = false ∧ wordB c = false ∧ c ≠ 39 ∧ ∀ l : List UInt8, signB (c :: l) = false := by
  have h3 : c = 32 ∨ c = 9 ∨ c = 10 := by
    simp [blankB] at h
    rcases h with h | h | h
    · exact Or.inl (UInt8.toNat_inj.1 h)
    · exact Or.inr (Or.inl (UInt8.toNat_inj.1 h))
    · exact Or.inr (Or.inr (UInt8.toNat_inj.1 h))
  have hs : ∀ y ∈ signs, 32 ∉ y ∧ 10 ∉ y ∧ 9 ∉ y := by decide
  have hsg : ∀ l : List UInt8, signB (c :: l) = false := fun l => by
    cases e : signB (c :: l) with
    | false => rfl
    | true =>
      have hm : (c :: l) ∈ signs := by simpa [signB] using e
      have := hs _ hm
      rcases h3 with rfl | rfl | rfl
      · exact absurd List.mem_cons_self this.1
      · exact absurd List.mem_cons_self this.2.2
      · exact absurd List.mem_cons_self this.2.1
  rcases h3 with rfl | rfl | rfl <;> exact ⟨by decide, by decide, by decide, hsg⟩
theorem sgnT_blank {c : UInt8} {l : List UInt8} (h : ∀ l : List UInt8, signB (c :: l) = false) (m : Nat) : sgnF (c :: l) m = .bad 1 := by
  induction m with
  | zero => rfl
  | succ n ih =>
    unfold sgnF
    rw [List.take_succ_cons, h, if_neg (by decide)]
    exact ih
/-- a word that is the whole of its text: a word begins there -/
theorem full_word {t : List UInt8} {k v : Nat} (h : fstT t = .tok k t.length v) : skp t = .word := by
  cases t with
  | nil => rfl
  | cons c l =>
    have hb : blankB c = false := by
      cases e : blankB c with
      | false => rfl
      | true =>
        obtain ⟨h1, h2, h3, h4⟩ := blank_no_word e
        simp only [fstT] at h
        rw [if_neg (by simp [h1]), if_neg (by simp [h2]), if_neg h3] at h
        unfold sgnT at h
        rw [sgnT_blank h4] at h
        cases h
    have key : ∀ x : UInt8, (∀ l : List UInt8, signB (47 :: x :: l) = false) → Lib.hasPrefix (c :: l) [47, x] = false := by
      intro x hx
      cases hq : Lib.hasPrefix (c :: l) [47, x] with
      | false => rfl
      | true =>
        cases l with
        | nil => rw [pre_one] at hq; cases hq
        | cons d l1 =>
          obtain ⟨rfl, rfl⟩ := (pre_two _ _ _ _).1 hq
          simp only [fstT] at h
          rw [if_neg (by decide), if_neg (by decide), if_neg (by decide)] at h
          obtain ⟨h1, _, _, _, _, _⟩ := sgnF_top h
          rw [List.take_length] at h1
          rw [hx] at h1; cases h1
    have hno : ∀ x : UInt8, x = 47 ∨ x = 42 → ∀ l : List UInt8, signB (47 :: x :: l) = false := by
      intro x hx l
      cases e : signB (47 :: x :: l) with
      | false => rfl
      | true =>
        have hm : (47 :: x :: l) ∈ signs := by simpa [signB] using e
        have hs : ∀ y ∈ signs, y.getD 0 0 = 47 → y.getD 1 0 ≠ 47 ∧ y.getD 1 0 ≠ 42 := by decide
        have := hs _ hm rfl
        rcases hx with rfl | rfl
        · exact absurd rfl this.1
        · exact absurd rfl this.2
    exact skp_make hb (key 47 (hno 47 (Or.inl rfl))) (key 42 (hno 42 (Or.inr rfl)))

theorem check_good {t : I4} (h : checkC t = 0) : ∃ k v : Nat, fstT t.t = .tok k t.t.length v ∧ (k : Int) = t.k ∧ (v : Int) = t.v := by
  unfold checkC at h
  split at h
  · cases h
  · cases hf : fstT t.t with
    | bad c => rw [hf] at h; cases h
    | tok k n v =>
      rw [hf] at h
      have h : (if (k : Int) ≠ t.k ∨ t.t.take n ≠ t.t ∨ (v : Int) ≠ t.v ∨ t.a < 0 then (5 : Int) else 0) = 0 := h
      split at h
      · cases h
      · rename_i hn
        have h1 : (k : Int) = t.k := Classical.byContradiction fun q => hn (Or.inl q)
        have h2 : t.t.take n = t.t := Classical.byContradiction fun q => hn (Or.inr (Or.inl q))
        have h3 : (v : Int) = t.v := Classical.byContradiction fun q => hn (Or.inr (Or.inr (Or.inl q)))
        have hl := congrArg List.length h2
        rw [List.length_take] at hl
        have := (fstT_tok hf).2
        have e : n = t.t.length := by omega
        subst e
        exact ⟨k, v, rfl, h1, h3⟩
def bareI (t : I4) : I4 := { t with a := 0 }
theorem pieces_tail (l : List I4) : Tail (pieces l) := by
  cases l with
  | nil => exact Or.inl rfl
  | cons t l => exact Or.inr ⟨32, t.t ++ pieces l, rfl, Or.inl rfl⟩
theorem pieces_scan : ∀ (l : List I4) (acc : List T4) (p : Nat), acc.length + l.length ≤ 800 → (∀ t ∈ l, checkC t = 0) → ∃ ts, Scans p (pieces l) acc (.ok (acc ++ ts)) ∧ (ts.map toI).map bareI = l.map bareI := by
  intro l
  induction l with
  | nil => intro acc p _ _; exact ⟨[], by rw [List.append_nil]; exact .done _ _, rfl⟩
  | cons t l ih =>
    intro acc p hl hg
    obtain ⟨k, v, hf, hk, hv⟩ := check_good (hg t List.mem_cons_self)
    have hn := (fstT_tok hf).1
    have hf2 := fstT_app (r := pieces l) (pieces_tail l) hf (Nat.le_refl _) (Nat.le_refl _)
    have hw2 := word_app (r := pieces l) (pieces_tail l) (full_word hf) hn (Nat.le_refl _)
    rw [List.take_length] at hf2 hw2
    obtain ⟨ts, hs, hb⟩ := ih (acc ++ [⟨k, t.t, v, p + 1⟩]) (p + 1 + t.t.length) (by rw [List.length_append]; simp at *; omega) (fun x hx => hg x (List.mem_cons_of_mem _ hx))
    refine ⟨⟨k, t.t, v, p + 1⟩ :: ts, ?_, ?_⟩
    · have e1 : pieces (t :: l) = 32 :: (t.t ++ pieces l) := rfl
      rw [e1]
      refine .skip (n := 1) (skp_blank (by decide)) ?_
      rw [List.drop_succ_cons, List.drop_zero]
      refine .tok hw2 (by intro e; have := congrArg List.length e; rw [List.length_append, List.length_nil] at this; omega) (by simp at hl; omega) hf2 ?_
      rw [List.drop_left, List.take_left]
      rw [List.append_assoc] at hs
      exact hs
    · rw [List.map_cons, List.map_cons, List.map_cons, hb]
      congr 1
      show (⟨(k : Int), t.t, (v : Int), 0⟩ : I4) = ⟨t.k, t.t, t.v, 0⟩
      rw [hk, hv]
/-- WHAT IS WRITTEN IS READ -/
theorem join_scan {l : List I4} (hl : l.length ≤ 800) (hg : ∀ t ∈ l, checkC t = 0) : ∃ ts, Scans 0 (joinB l) [] (.ok ts) ∧ (ts.map toI).map bareI = l.map bareI := by
  cases l with
  | nil => exact ⟨[], .done _ _, rfl⟩
  | cons t l =>
    obtain ⟨k, v, hf, hk, hv⟩ := check_good (hg t List.mem_cons_self)
    have hn := (fstT_tok hf).1
    have hf2 := fstT_app (r := pieces l) (pieces_tail l) hf (Nat.le_refl _) (Nat.le_refl _)
    have hw2 := word_app (r := pieces l) (pieces_tail l) (full_word hf) hn (Nat.le_refl _)
    rw [List.take_length] at hf2 hw2
    obtain ⟨ts, hs, hb⟩ := pieces_scan l [⟨k, t.t, v, 0⟩] (0 + t.t.length) (by simp at *; omega) (fun x hx => hg x (List.mem_cons_of_mem _ hx))
    refine ⟨⟨k, t.t, v, 0⟩ :: ts, ?_, ?_⟩
    · have e1 : joinB (t :: l) = t.t ++ pieces l := rfl
      rw [e1]
      refine .tok hw2 (by intro e; have := congrArg List.length e; rw [List.length_append, List.length_nil] at this; omega) (by simp) hf2 ?_
      rw [List.drop_left, List.take_left]
      exact hs
    · rw [List.map_cons, List.map_cons, List.map_cons, hb]
      congr 1
      show (⟨(k : Int), t.t, (v : Int), 0⟩ : I4) = ⟨t.k, t.t, t.v, 0⟩
      rw [hk, hv]
theorem fstT_kind {l : List UInt8} {k n v : Nat} (h : fstT l = .tok k n v) : 1 ≤ k ∧ k ≤ 4 := by
  cases l with
  | nil => cases h
  | cons x l =>
    simp only [fstT] at h
    split at h
    · have : k = 2 := by
        unfold numT at h
        split at h
        · split at h
          · cases h
          · unfold numD at h
            split at h
            · cases h
            · split at h
              · cases h; rfl
              · cases h
        · unfold numD at h
          split at h
          · cases h
          · split at h
            · cases h; rfl
            · cases h
      omega
    · split at h
      · unfold wrdT at h
        split at h
        · cases h; omega
        · split at h
          · cases h
          · cases h; omega
      · split at h
        · rcases chrT_cases (x :: l) with e | ⟨_, w, e⟩ | ⟨_, w, e⟩ <;> rw [e] at h <;> cases h <;> omega
        · have := (sgnF_top h).2.1; omega
theorem word_good {l : List UInt8} {k n v p : Nat} (h : fstT l = .tok k n v) : checkC (toI ⟨k, l.take n, v, p⟩) = 0 := by
  have hk := fstT_kind h
  have hn := (fstT_tok h).2
  have h2 := fstT_app (r := []) (Or.inl rfl) h (Nat.le_refl _) hn
  rw [List.append_nil] at h2
  unfold checkC toI
  rw [if_neg (by simp; omega), h2]
  show (if (k : Int) ≠ k ∨ (l.take n).take n ≠ l.take n ∨ (v : Int) ≠ v ∨ (p : Int) < 0 then (5 : Int) else 0) = 0
  rw [if_neg]
  rintro (h | h | h | h)
  · exact h rfl
  · exact h (by rw [List.take_take, Nat.min_self])
  · exact h rfl
  · omega
/-- the words of any text can be written -/
theorem scans_good {p : Nat} {L : List UInt8} {acc : List T4} {r : SR} (h : Scans p L acc r) : (∀ t ∈ acc, checkC (toI t) = 0) → ∀ l, r = .ok l → ∀ t ∈ l, checkC (toI t) = 0 := by
  induction h with
  | done p acc => intro h l e; cases e; exact h
  | skip _ _ ih => exact ih
  | opens => intro _ l e; cases e
  | much => intro _ l e; cases e
  | bad => intro _ l e; cases e
  | tok _ _ _ hf _ ih =>
    intro h
    refine ih fun t ht => ?_
    rcases List.mem_append.1 ht with ht | ht
    · exact h t ht
    · rw [List.mem_singleton.1 ht]; exact word_good hf
end Go.Proofs.YtaipdmaiffjeeaaDoor
