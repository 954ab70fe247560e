/-
  Plain: what the document's answer finds of a name: the innermost room first; what is declared is there once.
-/
import Derived.Test.YtmghjfphlneblaaSh
namespace Go.Proofs.Ytmghjfphlneblaa.Sc
open Go.RowKit
open Tr

def hasL (E : Env) : List Int := E.map fun x => (x.1 : Int)
def roomL (E : Env) : List Int := E.map fun x => (x.2 : Int)
/-- of one room and one name there is one -/
def Uni (l : List Nd) (E : Env) : Prop := ∀ i j, (hi : i < E.length) → (hj : j < E.length) → (E[i]).2 = (E[j]).2 → tx l (E[i]).1 = tx l (E[j]).1 → i = j
theorem hasL_len (E : Env) : (hasL E).length = E.length := by simp [hasL]
theorem roomL_len (E : Env) : (roomL E).length = E.length := by simp [roomL]
theorem hasL_get {E : Env} {j : Nat} (h : j < E.length) : (hasL E)[j]'(by rw [hasL_len]; exact h) = ((E[j]).1 : Int) := by simp [hasL]
theorem roomL_get {E : Env} {j : Nat} (h : j < E.length) : (roomL E)[j]'(by rw [roomL_len]; exact h) = ((E[j]).2 : Int) := by simp [roomL]
theorem roomF_none_iff {l : List Nd} {E : Env} {r : Nat} {s : List UInt8} : roomF l E r s = none ↔ ∀ x ∈ E, ¬ (x.2 = r ∧ tx l x.1 = s) := by
  unfold roomF
  rw [Option.map_eq_none_iff, List.find?_eq_none]
  constructor
  · intro h x hx hc; exact h x hx (by simp [hc.1, hc.2])
  · intro h x hx hc; simp at hc; exact h x hx hc
theorem roomF_index {l : List Nd} {E : Env} (hu : Uni l E) {i r : Nat} {s : List UInt8} (hi : i < E.length) (h1 : (E[i]).2 = r) (h2 : tx l (E[i]).1 = s) : roomF l E r s = some (E[i]).1 := by
  cases h : roomF l E r s with
  | none => exact absurd ⟨h1, h2⟩ (roomF_none_iff.1 h _ (List.getElem_mem hi))
  | some j =>
    unfold roomF at h
    cases h3 : E.find? fun p => p.2 == r && tx l p.1 == s with
    | none => rw [h3] at h; cases h
    | some x =>
      rw [h3] at h
      have h4 := List.find?_some h3
      obtain ⟨k, hk, hkx⟩ := List.getElem_of_mem (List.mem_of_find?_eq_some h3)
      simp at h4 h
      have e : i = k := hu i k hi hk (by rw [hkx, h4.1, h1]) (by rw [hkx, h4.2, h2])
      subst e
      rw [hkx, h]
theorem findF_none {l : List Nd} {E : Env} {s : List UInt8} : ∀ {n : Nat}, findF l E s n = none → ∀ x ∈ E, x.2 < n → tx l x.1 ≠ s := by
  intro n
  induction n with
  | zero => intro _ x _ h; omega
  | succ n ih =>
    intro h x hx hn ht
    simp only [findF] at h
    cases hr : roomF l E n s with
    | some j => rw [hr] at h; cases h
    | none =>
      rw [hr] at h
      by_cases e : x.2 = n
      · exact roomF_none_iff.1 hr x hx ⟨e, ht⟩
      · exact ih h x hx (by omega) ht
theorem findF_index {l : List Nd} {E : Env} (hu : Uni l E) {s : List UInt8} {i : Nat} (hi : i < E.length) (ht : tx l (E[i]).1 = s) : ∀ {n : Nat}, (E[i]).2 < n → (∀ j, (hj : j < E.length) → tx l (E[j]).1 = s → (E[j]).2 ≤ (E[i]).2) → findF l E s n = some (E[i]).1 := by
  intro n
  induction n with
  | zero => intro h; omega
  | succ n ih =>
    intro h hm
    simp only [findF]
    by_cases e : (E[i]).2 = n
    · rw [roomF_index hu hi e ht]
    · have : roomF l E n s = none := roomF_none_iff.2 fun x hx hc => by
        obtain ⟨j, hj, rfl⟩ := List.getElem_of_mem hx
        have := hm j hj hc.2
        omega
      rw [this]
      exact ih (by omega) hm
/-- the best so far: its index -/
def Best (l : List Nd) (E : Env) (s : List UInt8) (i : Nat) (v : Int) : Prop :=
  (v = -1 ∧ ∀ j, (h : j < E.length) → j < i → tx l (E[j]).1 ≠ s) ∨ (∃ b, ∃ hb : b < E.length, b < i ∧ v = (b : Int) ∧ tx l (E[b]).1 = s ∧ ∀ j, (h : j < E.length) → j < i → tx l (E[j]).1 = s → (E[j]).2 ≤ (E[b]).2)
theorem Best.zero (l : List Nd) (E : Env) (s : List UInt8) : Best l E s 0 (-1) := Or.inl ⟨rfl, fun j _ h => by omega⟩
theorem Best.skip {l : List Nd} {E : Env} {s : List UInt8} {i : Nat} {v : Int} (h : Best l E s i v) (hi : i < E.length) (hn : tx l (E[i]).1 ≠ s) : Best l E s (i + 1) v := by
  rcases h with ⟨rfl, h⟩ | ⟨b, hb, h1, rfl, h2, h3⟩
  · exact Or.inl ⟨rfl, fun j hj hji => by
      by_cases e : j = i
      · subst e; exact hn
      · exact h j hj (by omega)⟩
  · exact Or.inr ⟨b, hb, by omega, rfl, h2, fun j hj hji ht => by
      by_cases e : j = i
      · subst e; exact absurd ht hn
      · exact h3 j hj (by omega) ht⟩
theorem Best.stay {l : List Nd} {E : Env} {s : List UInt8} {i b : Nat} (h : Best l E s i (b : Int)) (hi : i < E.length) (hb : b < E.length) (hn : (E[i]).2 ≤ (E[b]).2) : Best l E s (i + 1) (b : Int) := by
  rcases h with ⟨h, _⟩ | ⟨b', hb', h1, h0, h2, h3⟩
  · omega
  · obtain rfl : b = b' := by omega
    exact Or.inr ⟨b, hb, by omega, rfl, h2, fun j hj hji ht => by
      by_cases e : j = i
      · subst e; exact hn
      · exact h3 j hj (by omega) ht⟩
theorem Best.take {l : List Nd} {E : Env} {s : List UInt8} {i : Nat} {v : Int} (h : Best l E s i v) (hi : i < E.length) (ht : tx l (E[i]).1 = s) (hn : v = -1 ∨ ∃ b, ∃ hb : b < E.length, v = (b : Int) ∧ (E[b]).2 < (E[i]).2) : Best l E s (i + 1) (i : Int) := by
  refine Or.inr ⟨i, hi, by omega, rfl, ht, fun j hj hji htj => ?_⟩
  by_cases e : j = i
  · subst e; exact Nat.le_refl _
  · rcases h with ⟨rfl, h⟩ | ⟨b', hb', h1, h0, h2, h3⟩
    · exact absurd htj (h j hj (by omega))
    · rcases hn with hn | ⟨b, hb, hv, hn⟩
      · omega
      · obtain rfl : b = b' := by omega
        have := h3 j hj (by omega) htj
        omega
theorem Best.end_ {l : List Nd} {E : Env} {s : List UInt8} {i now : Nat} {v : Int} (h : Best l E s i v) (hi : E.length ≤ i) (hu : Uni l E) (hr : ∀ x ∈ E, x.2 ≤ now) : (v = -1 ∧ findF l E s (now + 1) = none) ∨ (∃ b, ∃ hb : b < E.length, v = (b : Int) ∧ findF l E s (now + 1) = some (E[b]).1) := by
  rcases h with ⟨rfl, h⟩ | ⟨b, hb, h1, rfl, h2, h3⟩
  · left
    refine ⟨rfl, ?_⟩
    cases hf : findF l E s (now + 1) with
    | none => rfl
    | some j =>
      exfalso
      have : ∀ n, findF l E s n = some j → False := by
        intro n
        induction n with
        | zero => intro h; cases h
        | succ n ih =>
          intro hh
          simp only [findF] at hh
          cases hr2 : roomF l E n s with
          | some q =>
            have hx : ¬ roomF l E n s = none := by rw [hr2]; simp
            exact hx (roomF_none_iff.2 fun x hx hc => by
              obtain ⟨k, hk, rfl⟩ := List.getElem_of_mem hx
              exact h k hk (by omega) hc.2)
          | none => rw [hr2] at hh; exact ih hh
      exact this _ hf
  · right
    exact ⟨b, hb, rfl, findF_index hu hb h2 (by have := hr _ (List.getElem_mem hb); omega) (fun j hj ht => h3 j hj (by omega) ht)⟩
theorem Uni.nil (l : List Nd) : Uni l [] := fun i j h => by cases h
theorem Uni.snoc {l : List Nd} {E : Env} {k now : Nat} (h : Uni l E) (hn : (roomF l E now (tx l k)).isSome = false) : Uni l (E ++ [(k, now)]) := by
  have hno : ∀ x ∈ E, ¬ (x.2 = now ∧ tx l x.1 = tx l k) := roomF_none_iff.1 (by cases hr : roomF l E now (tx l k) with
    | none => rfl
    | some j => rw [hr] at hn; cases hn)
  intro i j hi hj h1 h2
  simp at hi hj
  by_cases ei : i < E.length
  · by_cases ej : j < E.length
    · simp only [List.getElem_append_left ei, List.getElem_append_left ej] at h1 h2
      exact h i j ei ej h1 h2
    · have e : j = E.length := by omega
      subst e
      simp only [List.getElem_append_left ei] at h1 h2
      simp at h1 h2
      exact absurd ⟨h1, h2⟩ (hno _ (List.getElem_mem ei))
  · have e : i = E.length := by omega
    subst e
    by_cases ej : j < E.length
    · simp only [List.getElem_append_left ej] at h1 h2
      simp at h1 h2
      exact absurd ⟨h1.symm, h2.symm⟩ (hno _ (List.getElem_mem ej))
    · omega
/-- a node with that name in that room, among the first i -/
theorem decl_hit {l : List Nd} {E : Env} {now k : Nat} : (roomF l E now (tx l k)).isSome = true ↔ ∃ i, ∃ h : i < E.length, (E[i]).2 = now ∧ tx l (E[i]).1 = tx l k := by
  constructor
  · intro h
    obtain ⟨j, hj⟩ := Option.isSome_iff_exists.1 h
    unfold roomF at hj
    cases h3 : E.find? fun p => p.2 == now && tx l p.1 == tx l k with
    | none => rw [h3] at hj; cases hj
    | some x =>
      have h4 := List.find?_some h3
      obtain ⟨i, hi, hix⟩ := List.getElem_of_mem (List.mem_of_find?_eq_some h3)
      simp at h4
      exact ⟨i, hi, by rw [hix]; exact h4.1, by rw [hix]; exact h4.2⟩
  · rintro ⟨i, hi, h1, h2⟩
    cases hr : roomF l E now (tx l k) with
    | some j => rfl
    | none => exact absurd ⟨h1, h2⟩ (roomF_none_iff.1 hr _ (List.getElem_mem hi))
end Go.Proofs.Ytmghjfphlneblaa.Sc
