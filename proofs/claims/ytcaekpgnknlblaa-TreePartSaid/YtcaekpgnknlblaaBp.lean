/-
  Plain facts: a part of a good tree is a good tree; where its parts begin, how deep it is.
-/
import Derived.Test.YtcaekpgnknlblaaN
import Derived.Test.YtcaekpgnknlblaaBb
namespace Go.Proofs.Ytcaekpgnknlblaa
open Go.RowKit

/-- every node below a walk lies in the part of one of the kids -/
theorem walkK_in {S : Nat → Nat} {kd : Nat → Int} {k : Int} {c : List Int} (hS : ∀ j, S j ≤ j) : ∀ (i at_ r : Nat), walkK S kd k c i at_ = some r → ∀ j, r ≤ j → j < at_ → ∃ i' q, i' < i ∧ c.getD i' 0 = ((q : Nat) : Int) ∧ q < at_ ∧ S q ≤ j ∧ j ≤ q ∧ r ≤ S q := by
  intro i
  induction i with
  | zero => intro at_ r h j h1 h2; simp [walkK] at h; omega
  | succ i ih =>
    intro at_ r h j h1 h2
    rw [walkK] at h
    split at h
    · cases h
    · rename_i hn
      have h0 : at_ ≠ 0 := fun e => hn (Or.inl e)
      have h3 : c.getD i 0 = (at_ : Int) - 1 := Decidable.byContradiction fun e => hn (Or.inr (Or.inl e))
      have hs := hS (at_ - 1)
      by_cases hj : S (at_ - 1) ≤ j
      · exact ⟨i, at_ - 1, by omega, by omega, by omega, hj, by omega, walkK_le hS _ _ _ h⟩
      · obtain ⟨i', q, g1, g2, g3, g4, g5, g6⟩ := ih _ _ h j h1 (by omega)
        exact ⟨i', q, by omega, g2, by omega, g4, g5, g6⟩
theorem walkK_low {S : Nat → Nat} {kd : Nat → Int} {k : Int} {c : List Int} (hS : ∀ j, S j ≤ j) : ∀ (i at_ r : Nat), walkK S kd k c i at_ = some r → ∀ j, j < i → ∃ q : Nat, c.getD j 0 = (q : Int) ∧ q < at_ ∧ r ≤ S q := by
  intro i
  induction i with
  | zero => intro at_ r _ j h; omega
  | succ i ih =>
    intro at_ r h j hj
    rw [walkK] at h
    split at h
    · cases h
    · rename_i hn
      have h0 : at_ ≠ 0 := fun e => hn (Or.inl e)
      have h3 : c.getD i 0 = (at_ : Int) - 1 := Decidable.byContradiction fun e => hn (Or.inr (Or.inl e))
      have hs := hS (at_ - 1)
      by_cases e : j = i
      · subst e; exact ⟨at_ - 1, by omega, by omega, walkK_le hS _ _ _ h⟩
      · obtain ⟨q, g1, g2, g3⟩ := ih _ _ h j (by omega)
        exact ⟨q, g1, by omega, g3⟩
theorem maxI_ge {d : Nat → Nat} {c : List Int} {i q : Nat} (h : i < c.length) (hq : c[i] = (q : Int)) : d q ≤ maxI d c := by
  induction c generalizing i with
  | nil => simp at h
  | cons x c ih =>
    cases i with
    | zero => simp at hq; subst hq; simp only [maxI, Int.toNat_natCast]; omega
    | succ i => have := ih (i := i) (by simpa using h) (by simpa using hq); simp only [maxI]; omega
theorem way_some {l : List Nd} {j : Nat} (hj : j < l.length) (h : codeAt l j = 0) : wayOf l j = some (St l j) := by
  have hw := code_way hj h
  cases hr : wayOf l j with
  | none => exact absurd hr hw
  | some r => rw [St_eq, hr]; rfl
theorem nest {l : List Nd} (m : Nat) : m < l.length → (∀ i, i ≤ m → codeAt l i = 0) → ∀ j, St l m ≤ j → j ≤ m → St l m ≤ St l j ∧ Dp l j ≤ Dp l m := by
  induction m using Nat.strongRecOn with
  | _ m ih =>
  intro hm hg j h1 h2
  by_cases e : j = m
  · subst e; exact ⟨Nat.le_refl _, Nat.le_refl _⟩
  · have hw := way_some hm (hg m (Nat.le_refl _))
    have hd := Dp_kids hm (hg m (Nat.le_refl _))
    unfold wayOf at hw
    rw [kidsAt_get hm] at hw
    obtain ⟨i', q, g1, g2, g3, g4, g5, g6⟩ := walkK_in (St_le l) _ _ _ hw j h1 (by omega)
    obtain ⟨a1, a2⟩ := ih q g3 (by omega) (fun i hi => hg i (by omega)) j g4 g5
    have hge := maxI_ge (d := Dp l) (c := l[m].c) (i := i') (q := q) g1 (by rw [← g2]; simp [g1])
    exact ⟨by omega, by omega⟩
theorem subs_getD {f : Nat} {c : List Int} {i : Nat} (h : i < c.length) : (subs f c).getD i 0 = c.getD i 0 - (f : Int) := by simp [subs, h]
theorem walkK_shift {S S' : Nat → Nat} {kd kd' : Nat → Int} {k : Int} {c : List Int} {f : Nat} (hS : ∀ j, S j ≤ j) : ∀ (i at_ r : Nat), i ≤ c.length → walkK S kd k c i at_ = some r → f ≤ r → (∀ q, f ≤ q → q < at_ → S' (q - f) = S q - f ∧ kd' (q - f) = kd q) → walkK S' kd' k (subs f c) i (at_ - f) = some (r - f) := by
  intro i
  induction i with
  | zero => intro at_ r _ h _ _; simp only [walkK, Option.some.injEq] at h ⊢; omega
  | succ i ih =>
    intro at_ r hi h hf hq
    rw [walkK] at h
    split at h
    · cases h
    · rename_i hn
      have h0 : at_ ≠ 0 := fun e => hn (Or.inl e)
      have h3 : c.getD i 0 = (at_ : Int) - 1 := Decidable.byContradiction fun e => hn (Or.inr (Or.inl e))
      have h4 : goB k i c.length (kd (at_ - 1)) ≠ false := fun e => hn (Or.inr (Or.inr e))
      have hs := hS (at_ - 1)
      have hl := walkK_le hS _ _ _ h
      obtain ⟨q1, q2⟩ := hq (at_ - 1) (by omega) (by omega)
      have e1 : at_ - f - 1 = at_ - 1 - f := by omega
      rw [walkK, if_neg]
      · rw [e1, q1]
        exact ih _ _ (by omega) h hf fun q g1 g2 => hq q g1 (by omega)
      · rintro (g | g | g)
        · omega
        · rw [subs_getD (by omega), h3] at g; omega
        · rw [e1, q2, subs_length] at g; exact h4 g

theorem part_all {l L : List Nd} {kn f : Nat} (hk : kn < l.length) (hg : ∀ j, j ≤ kn → codeAt l j = 0) (hf : f = St l kn) (hm : L.length = kn + 1 - f) (hc : ∀ j, (h : j < L.length) → (h' : f + j < l.length) → CutOf f l[f + j] L[j]) (j : Nat) :
    j < L.length → f ≤ St l (f + j) ∧ wayOf L j = some (St l (f + j) - f) ∧ St L j = St l (f + j) - f ∧ codeAt L j = 0 ∧ Dp L j = Dp l (f + j) := by
  induction j using Nat.strongRecOn with
  | _ j ih =>
  intro hj
  have hfk := St_le l kn
  have hfl : f + j < l.length := by omega
  have hcj := hg (f + j) (by omega)
  have hns := (nest kn hk hg (f + j) (by omega) (by omega)).1
  have hw := way_some hfl hcj
  have hd := Dp_kids hfl hcj
  obtain ⟨b1, b2, b3, b4, b5, b6⟩ := hc j hj hfl
  have hkL : kindAt L j = l[f + j].k := by rw [kindAt_get hj, b1]
  have hcL : kidsAt L j = subs f l[f + j].c := by rw [kidsAt_get hj, b5]
  have hw' := hw
  unfold wayOf at hw'
  rw [kindAt_get hfl, kidsAt_get hfl] at hw'
  have hway : wayOf L j = some (St l (f + j) - f) := by
    unfold wayOf
    rw [hkL, hcL, subs_length]
    have h := walkK_shift (S' := St L) (kd' := kindAt L) (f := f) (St_le l) _ _ _ (Nat.le_refl _) hw' (by omega) fun q g1 g2 => by
      have hi := ih (q - f) (by omega) (by omega)
      have e : f + (q - f) = q := by omega
      rw [e] at hi
      have hc2 := hc (q - f) (by omega) (by omega)
      refine ⟨hi.2.2.1, ?_⟩
      rw [kindAt_get (by omega), kindAt_get (by omega), hc2.1]
      simp only [e]
    have e : f + j - f = j := by omega
    rw [e] at h
    exact h
  have hst : St L j = St l (f + j) - f := by rw [St_eq, hway]; rfl
  have hcode : codeAt L j = 0 := by
    rw [codeAt_get hj]
    rw [codeAt_get hfl] at hcj
    unfold nodeC at hcj ⊢
    rw [if_neg (c := wayOf l (f + j) = none) (by rw [hw]; simp)] at hcj
    rw [if_neg (c := wayOf L j = none) (by rw [hway]; simp)]
    unfold fieldC at hcj ⊢
    rw [b1, b2, b3, b4, b5, b6, subs_length]
    exact hcj
  refine ⟨by omega, hway, hst, hcode, ?_⟩
  rw [Dp_kids hj hcode, hd, b5]
  congr 1
  have hlow := walkK_low (St_le l) _ _ _ hw'
  have : maxI (Dp L) (subs f l[f + j].c) = maxI (fun q => Dp L (q - f)) l[f + j].c := by
    generalize hcc : l[f + j].c = c at *
    have hq : ∀ i, (hi : i < c.length) → ∃ q : Nat, c[i] = (q : Int) ∧ f ≤ q := fun i hi => by
      obtain ⟨q, g1, g2, g3⟩ := hlow i (by omega)
      have := St_le l q
      exact ⟨q, by rw [← g1]; simp [hi], by omega⟩
    clear hlow
    clear hcc b5 hcL hw hw' hd hway hst hcode hcj
    induction c with
    | nil => rfl
    | cons x c ihc =>
      obtain ⟨q, e, hfq⟩ := hq 0 (by simp)
      simp at e
      simp only [subs, List.map_cons, maxI]
      rw [show (x - (f : Int)).toNat = x.toNat - f by rw [e]; omega]
      rw [← ihc fun i hi => by have := hq (i + 1) (by simpa using hi); simpa using this]
      rfl
  rw [this]
  refine maxI_congr fun i hi => ?_
  obtain ⟨q, g1, g2, g3⟩ := hlow i hi
  have hql := St_le l q
  have e1 : l[f + j].c[i] = (q : Int) := by rw [← g1]; simp [hi]
  rw [e1]
  have hi2 := (ih (q - f) (by omega) (by omega)).2.2.2.2
  rw [show f + (q - f) = q by omega] at hi2
  simpa using hi2
end Go.Proofs.Ytcaekpgnknlblaa
