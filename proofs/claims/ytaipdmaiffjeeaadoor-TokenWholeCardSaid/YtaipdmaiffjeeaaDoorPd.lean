/-
  Plain facts: the words of texts that are joined, of texts with a remark put in, and each word by itself.
-/
import Derived.Test.YtaipdmaiffjeeaaDoorPc
import Derived.Test.YtaipdmaiffjeeaaDoorKa
namespace Go.Proofs.YtaipdmaiffjeeaaDoor
open Go.RowKit

/-- a word that stands farther on -/
def sh (d : Nat) (t : T4) : T4 := { t with a := t.a + d }
/-- the same text behind other words, farther on -/
theorem Scans.shift {p : Nat} {L : List UInt8} {acc : List T4} {r : SR} (h : Scans p L acc r) : ∀ (d : Nat) (acc' : List T4), acc.length ≤ acc'.length → acc'.length ≤ 800 →
    ∃ r', Scans (p + d) L acc' r' ∧ (∀ l, r = .ok l → ∃ m, l = acc ++ m ∧ (acc'.length + m.length ≤ 800 → r' = .ok (acc' ++ m.map (sh d))) ∧ (800 < acc'.length + m.length → ∃ c a, r' = .bad c a)) ∧ (∀ c a, r = .bad c a → ∃ c a, r' = .bad c a) := by
  induction h with
  | done p acc =>
    intro d acc' h1 h2
    exact ⟨_, .done _ _, fun l e => by cases e; exact ⟨[], by simp, fun _ => by simp, fun h => by simp at h; omega⟩, fun c a e => by cases e⟩
  | @skip p L acc r n h k ih =>
    intro d acc' h1 h2
    obtain ⟨r', hr, hp⟩ := ih d acc' h1 h2
    exact ⟨r', .skip h (by rw [show p + d + n = p + n + d by omega]; exact hr), hp⟩
  | opens h =>
    intro d acc' _ _
    exact ⟨_, .opens h, fun l e => (by cases e), fun c a _ => ⟨_, _, rfl⟩⟩
  | much h hn hm =>
    intro d acc' h1 h2
    exact ⟨_, .much h hn (by omega), fun l e => (by cases e), fun c a _ => ⟨_, _, rfl⟩⟩
  | bad h hn hm hf =>
    intro d acc' h1 h2
    by_cases h8 : acc'.length = 800
    · exact ⟨_, .much h hn h8, fun l e => (by cases e), fun c a _ => ⟨_, _, rfl⟩⟩
    · exact ⟨_, .bad h hn h8 hf, fun l e => (by cases e), fun c a _ => ⟨_, _, rfl⟩⟩
  | @tok p L acc r k n v h hn hm hf k' ih =>
    intro d acc' h1 h2
    by_cases h8 : acc'.length = 800
    · refine ⟨_, .much h hn h8, fun l e => ?_, fun c a _ => ⟨_, _, rfl⟩⟩
      obtain ⟨r0, _, hp, _⟩ := ih 0 (acc ++ [⟨k, L.take n, v, p⟩]) (Nat.le_refl _) (by rw [List.length_append]; simp; omega)
      obtain ⟨m, hm2, _, _⟩ := hp l e
      exact ⟨_ :: m, by rw [hm2, List.append_assoc]; rfl, fun h => by simp at h; omega, fun _ => ⟨_, _, rfl⟩⟩
    · obtain ⟨r', hr, hp, hb⟩ := ih d (acc' ++ [⟨k, L.take n, v, p + d⟩]) (by rw [List.length_append, List.length_append]; simp; omega) (by rw [List.length_append]; simp; omega)
      refine ⟨r', .tok h hn h8 hf (by rw [show p + d + n = p + n + d by omega]; exact hr), fun l e => ?_, hb⟩
      obtain ⟨m, hm2, h3, h4⟩ := hp l e
      refine ⟨⟨k, L.take n, v, p⟩ :: m, by rw [hm2, List.append_assoc]; rfl, fun h => ?_, fun h => ?_⟩
      · rw [h3 (by rw [List.length_append]; simp at *; omega), List.append_assoc]; rfl
      · exact h4 (by rw [List.length_append]; simp at *; omega)
theorem Scans.more {p : Nat} {L : List UInt8} {acc l : List T4} (h : Scans p L acc (.ok l)) (h8 : acc.length ≤ 800) : ∃ m, l = acc ++ m := by
  obtain ⟨_, _, hp, _⟩ := h.shift 0 acc (Nat.le_refl _) h8
  obtain ⟨m, hm, _⟩ := hp l rfl
  exact ⟨m, hm⟩
theorem fstT_code {l : List UInt8} {c : Nat} (hne : c ≠ 1) (h : fstT l = .bad c) (r : List UInt8) (hr : preN wordB r = 0) (hl : l ≠ []) : fstT (l ++ r) = .bad c := by
  cases l with
  | nil => exact absurd rfl hl
  | cons x l =>
    have hp : preN wordB (x :: l ++ r) = preN wordB (x :: l) := by
      have := preN_app (p := wordB) (l := x :: l) (j := (x :: l).length) hr (preN_le _ _)
      rw [List.take_length] at this
      exact this
    have ht : (x :: l ++ r).take (preN wordB (x :: l)) = (x :: l).take (preN wordB (x :: l)) := List.take_append_of_le_length (preN_le _ _)
    rw [List.cons_append] at hp ht ⊢
    simp only [fstT] at h ⊢
    rw [hp, ht]
    split
    · rename_i hd; rw [if_pos hd] at h; exact h
    · rename_i hd
      rw [if_neg hd] at h
      split
      · rename_i hw; rw [if_pos hw] at h; exact h
      · rename_i hw
        rw [if_neg hw] at h
        split at h
        · rcases chrT_cases (x :: l) with e | ⟨_, w, e⟩ | ⟨_, w, e⟩ <;> rw [e] at h <;> cases h
          exact absurd rfl hne
        · have hs : ∀ m : Nat, ∀ l : List UInt8, sgnF l m = .bad c → c = 1 := fun m => by
            induction m with
            | zero => intro l h; cases h; rfl
            | succ m ih =>
              intro l h
              unfold sgnF at h
              split at h
              · cases h
              · exact ih l h
          exact absurd (hs _ _ h) hne
theorem lf_word (R : List UInt8) : preN wordB (10 :: R) = 0 := rfl
theorem lf_nl (R : List UInt8) : preN nlB (10 :: R) = 0 := rfl
theorem word_lf {L : List UInt8} (R : List UInt8) (h : skp L = .word) (hn : L ≠ []) : skp (L ++ 10 :: R) = .word := by
  have h1 : 1 ≤ L.length := by cases L with | nil => exact absurd rfl hn | cons _ _ => simp
  have := word_app (r := 10 :: R) (Or.inr ⟨10, R, rfl, Or.inr rfl⟩) h h1 (Nat.le_refl _)
  rw [List.take_length] at this
  exact this
/-- a text, then a line feed and another text -/
theorem Scans.then {p : Nat} {L : List UInt8} {acc : List T4} {r : SR} (h : Scans p L acc r) :
    (∀ l, r = .ok l → ∀ R r', Scans (p + L.length) (10 :: R) l r' → Scans p (L ++ 10 :: R) acc r') ∧ (∀ c a, r = .bad c a → c ≠ 1 → ∀ R, Scans p (L ++ 10 :: R) acc (.bad c a)) := by
  induction h with
  | done p acc => exact ⟨fun l e R r' h => by cases e; exact h, fun c a e => by cases e⟩
  | @skip p L acc r n h k ih =>
    obtain ⟨h1, h2⟩ := skp_len h
    have hs : ∀ R, skp (L ++ 10 :: R) = .skip n := fun R => by
      have := skp_app (X := 10 :: R) h h2 (Nat.le_refl _) (Or.inr (lf_nl R))
      rw [List.take_length] at this
      exact this
    have hd : ∀ R, (L ++ 10 :: R).drop n = L.drop n ++ 10 :: R := fun R => List.drop_append_of_le_length h2
    refine ⟨fun l e R r' hR => .skip (hs R) ?_, fun c a e hc R => .skip (hs R) ?_⟩
    · rw [hd]
      exact ih.1 l e R r' (by rw [List.length_drop, show p + n + (L.length - n) = p + L.length by omega]; exact hR)
    · rw [hd]
      exact ih.2 c a e hc R
  | opens h => exact ⟨fun l e => (by cases e), fun c a e hc => by cases e; exact absurd rfl hc⟩
  | much h hn hm => exact ⟨fun l e => (by cases e), fun c a e hc R => by cases e; exact .much (word_lf R h hn) (by simp) hm⟩
  | bad h hn hm hf => exact ⟨fun l e => (by cases e), fun c a e hc R => by cases e; exact .bad (word_lf R h hn) (by simp) hm (fstT_code hc hf _ (lf_word R) hn)⟩
  | @tok p L acc r k n v h hn hm hf k' ih =>
    obtain ⟨h1, h2⟩ := fstT_tok hf
    have hf2 : ∀ R, fstT (L ++ 10 :: R) = .tok k n v := fun R => by
      have := fstT_app (r := 10 :: R) (Or.inr ⟨10, R, rfl, Or.inr rfl⟩) hf h2 (Nat.le_refl _)
      rw [List.take_length] at this
      exact this
    have hd : ∀ R, (L ++ 10 :: R).drop n = L.drop n ++ 10 :: R := fun R => List.drop_append_of_le_length h2
    have ht : ∀ R, (L ++ 10 :: R).take n = L.take n := fun R => List.take_append_of_le_length h2
    refine ⟨fun l e R r' hR => .tok (word_lf R h hn) (by simp) hm (hf2 R) ?_, fun c a e hc R => .tok (word_lf R h hn) (by simp) hm (hf2 R) ?_⟩
    · rw [hd, ht]
      exact ih.1 l e R r' (by rw [List.length_drop, show p + n + (L.length - n) = p + L.length by omega]; exact hR)
    · rw [hd, ht]
      exact ih.2 c a e hc R
theorem skp_lf (R : List UInt8) : skp (10 :: R) = .skip 1 := skp_blank (by decide)
/-- what the words of a joined text are -/
theorem join_ways {A B : List UInt8} (hAB : A.length + B.length ≤ 1900) {c a c' a' c2 a2 : Int} {l m k : List T4} (hA : ScR A c a l) (hB : ScR B c' a' m) (hJ : ScR (A ++ 10 :: B) c2 a2 k) :
    (c ≠ 0 ∧ (c = 1 ∨ (c2 = c ∧ a2 = a))) ∨ (c = 0 ∧ (c' ≠ 0 ∨ 800 < l.length + m.length) ∧ c2 ≠ 0) ∨ (c = 0 ∧ c' = 0 ∧ l.length + m.length ≤ 800 ∧ c2 = 0 ∧ k = l ++ m.map (sh (A.length + 1))) := by
  have hlen : (A ++ 10 :: B).length ≤ 2000 := by rw [List.length_append, List.length_cons]; omega
  rcases hA with ⟨h, _⟩ | ⟨_, ⟨hSA, rfl, rfl⟩ | ⟨x, y, hSA, rfl, rfl, rfl⟩⟩
  · omega
  · have hl8 := hSA.few (by simp) l rfl
    rcases hB with ⟨h, _⟩ | ⟨_, ⟨hSB, rfl, rfl⟩ | ⟨x, y, hSB, rfl, rfl, rfl⟩⟩
    · omega
    · obtain ⟨r', hr, hp, _⟩ := hSB.shift (A.length + 1) l (by simp) hl8
      obtain ⟨m', hm', h3, h4⟩ := hp m rfl
      rw [List.nil_append] at hm'
      subst hm'
      have hAll : Scans 0 (A ++ 10 :: B) [] r' := hSA.then.1 l rfl B r' (.skip (skp_lf B) (by rw [Nat.zero_add] at hr ⊢; exact hr))
      by_cases h8 : 800 < l.length + m.length
      · obtain ⟨c3, a3, rfl⟩ := h4 h8
        obtain ⟨rfl, rfl, rfl⟩ := ScR.det hJ (Or.inr ⟨hlen, Or.inr ⟨c3, a3, hAll, rfl, rfl, rfl⟩⟩)
        exact Or.inr (Or.inl ⟨rfl, Or.inr h8, by have := hAll.code _ _ rfl; omega⟩)
      · rw [h3 (by omega)] at hAll
        obtain ⟨rfl, rfl, rfl⟩ := ScR.det hJ (Or.inr ⟨hlen, Or.inl ⟨hAll, rfl, rfl⟩⟩)
        exact Or.inr (Or.inr ⟨rfl, rfl, by omega, rfl, rfl⟩)
    · obtain ⟨r', hr, _, hb⟩ := hSB.shift (A.length + 1) l (by simp) hl8
      obtain ⟨c3, a3, rfl⟩ := hb _ _ rfl
      have hAll : Scans 0 (A ++ 10 :: B) [] (.bad c3 a3) := hSA.then.1 l rfl B _ (.skip (skp_lf B) (by rw [Nat.zero_add] at hr ⊢; exact hr))
      obtain ⟨rfl, rfl, rfl⟩ := ScR.det hJ (Or.inr ⟨hlen, Or.inr ⟨c3, a3, hAll, rfl, rfl, rfl⟩⟩)
      exact Or.inr (Or.inl ⟨rfl, Or.inl (by have := hSB.code _ _ rfl; omega), by have := hAll.code _ _ rfl; omega⟩)
  · refine Or.inl ⟨by have := hSA.code _ _ rfl; omega, ?_⟩
    by_cases h1 : x = 1
    · exact Or.inl (by omega)
    · have hAll := hSA.then.2 x y rfl h1 B
      obtain ⟨rfl, rfl, rfl⟩ := ScR.det hJ (Or.inr ⟨hlen, Or.inr ⟨x, y, hAll, rfl, rfl, rfl⟩⟩)
      exact Or.inr ⟨rfl, rfl⟩
end Go.Proofs.YtaipdmaiffjeeaaDoor
