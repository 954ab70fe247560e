/-
  Plain: what the document's Names gives of a tree is what the program's gives: what is declared at the top is written again.
-/
import Derived.Test.YtmghjfphlneblaaSn
import Derived.Test.YtmghjfphlneblaaSu
namespace Go.Proofs.Ytmghjfphlneblaa.Sc
open Go.RowKit
open Tr

theorem ov_agree (W : Wr) : ∀ X Y : List Int, X.length = Y.length → (∀ i : Nat, X[i]? = Y[i]? ∨ i ∈ W.map (·.1)) → ov W X = ov W Y := by
  induction W with
  | nil =>
    intro X Y hl h
    refine List.ext_getElem? fun i => ?_
    rcases h i with h | h
    · exact h
    · cases h
  | cons x W ih =>
    intro X Y hl h
    show ov W (X.set x.1 x.2) = ov W (Y.set x.1 x.2)
    refine ih _ _ (by simp [hl]) fun i => ?_
    by_cases e : x.1 = i
    · left; rw [List.getElem?_set, List.getElem?_set, if_pos e, if_pos e, hl]
    · rcases h i with h | h
      · left; rw [List.getElem?_set, List.getElem?_set, if_neg e, if_neg e]; exact h
      · right
        simp only [List.map_cons, List.mem_cons] at h
        rcases h with h | h
        · exact absurd h.symm e
        · exact h
theorem ov_not {W : Wr} {i : Nat} : ∀ {X : List Int}, i ∉ W.map (·.1) → (ov W X)[i]? = X[i]? := by
  induction W with
  | nil => intro X _; rfl
  | cons x W ih =>
    intro X h
    simp only [List.map_cons, List.mem_cons, not_or] at h
    show (ov W (X.set x.1 x.2))[i]? = _
    rw [ih h.2, List.getElem?_set, if_neg (fun e => h.1 e.symm)]
theorem tops_wr (l : List Nd) : ∀ (c : List Int) (E E' : Env) (W : Wr), tops l c E = .ok E' W → W.map (·.1) = c.map Int.toNat ∧ ∀ x ∈ W, x.2 = (x.1 : Int) := by
  intro c
  induction c with
  | nil => intro E E' W h; cases h; exact ⟨rfl, fun x hx => by cases hx⟩
  | cons y c ih =>
    intro E E' W h
    simp only [tops] at h
    split at h
    · cases h
    · unfold declF at h
      split at h
      · cases h
      · change (tops l c _).pre _ = _ at h
        obtain ⟨W2, h2, rfl⟩ := pre_ok h
        obtain ⟨h3, h4⟩ := ih _ _ _ h2
        refine ⟨by simp [h3], fun x hx => ?_⟩
        rcases List.mem_append.1 hx with hx | hx
        · simp only [List.mem_cons, List.not_mem_nil, or_false] at hx; subst hx; rfl
        · exact h4 x hx
theorem look_wr {l : List Nd} {f now k : Nat} {E E' : Env} {W : Wr} (hk : kindAt l k = 2 ∨ kindAt l k = 3) (h : look l (f + 1) now k E = .ok E' W) : k ∈ W.map (·.1) := by
  simp only [look] at h
  rw [if_neg (by omega)] at h
  obtain ⟨E1, W1, W2, h1, h2, rfl⟩ := bind_ok h
  unfold own at h1
  rw [if_pos hk] at h1
  cases h1
  simp
theorem each_wr {l : List Nd} {f now : Nat} : ∀ (c : List Int) (E E' : Env) (W : Wr), (∀ x ∈ c, kindAt l x.toNat = 2 ∨ kindAt l x.toNat = 3) → each (look l (f + 1) now) c E = .ok E' W → ∀ i, i ∈ c.map Int.toNat → i ∈ W.map (·.1) := by
  intro c
  induction c with
  | nil => intro E E' W _ _ i hi; cases hi
  | cons y c ih =>
    intro E E' W hc h i hi
    simp only [each] at h
    obtain ⟨E1, W1, W2, h1, h2, rfl⟩ := bind_ok h
    simp only [List.map_cons, List.mem_cons] at hi
    rw [List.map_append, List.mem_append]
    rcases hi with rfl | hi
    · exact Or.inl (look_wr (hc y (List.mem_cons_self ..)) h1)
    · exact Or.inr (ih _ _ _ (fun x hx => hc x (List.mem_cons_of_mem _ hx)) h2 i hi)
/-- the unit: its parts are looked at -/
theorem look_unit {l : List Nd} {f k : Nat} {E : Env} (h1 : kindAt l k = 1) : look l (f + 1) 0 k E = each (look l f 0) (kidsAt l k) E := by
  simp only [look]
  rw [if_neg (by rw [h1]; decide)]
  have ho : own l 0 k E = .ok E [] := by unfold own; rw [if_neg (by rw [h1]; decide), if_neg (by rw [h1]; decide), if_neg (by rw [h1]; decide), if_neg (by rw [h1]; decide)]
  rw [ho]
  show (kidsF l (look l f) 0 k E).pre [] = _
  rw [pre_nil]
  unfold kidsF
  rw [if_neg (by rw [h1]; decide)]
theorem unit_kids {l : List Nd} {k : Nat} (hk : k < l.length) (hC : codeAt l k = 0) (h1 : kindAt l k = 1) : ∀ x ∈ kidsAt l k, kindAt l x.toNat = 2 ∨ kindAt l x.toNat = 3 := by
  obtain ⟨q, hK⟩ := kin_of hk hC
  intro x hx
  obtain ⟨j, hj, rfl⟩ := List.getElem_of_mem hx
  obtain ⟨a, b, c, d⟩ := hK.kid j hj
  rw [b, Int.toNat_natCast]
  rw [h1] at d
  simpa [goB] using d
/-- what the document's Names gives, where nothing is wrong at the top -/
theorem names_same {l : List Nd} {f : Nat} {E E' : Env} {Wt W : Wr} (hl : l.length = f + 1) (hf : 1 ≤ f ∨ kidsAt l f = []) (hC : codeAt l f = 0) (h1 : kindAt l f = 1) (ht : tops l (kidsAt l f) [] = .ok E Wt) (he : each (look l f 0) (kidsAt l f) E = .ok E' W) :
    namesF l = .ok (ov W (ov Wt (List.replicate l.length (-1)))) := by
  unfold namesF
  rw [hl, Nat.add_sub_cancel, if_neg (by simp [h1]), ht]
  show finF l (look l (f + 1) 0 f E) = _
  rw [look_unit h1, he]
  show Nm.ok (ov W (List.replicate l.length (-1))) = _
  rw [hl]
  refine congrArg Nm.ok (ov_agree W _ _ (by rw [ov_len]) fun i => ?_)
  obtain ⟨hw, _⟩ := tops_wr l _ _ _ _ ht
  by_cases hi : i ∈ (kidsAt l f).map Int.toNat
  · right
    rcases hf with hf | hf
    · obtain ⟨g, rfl⟩ : ∃ g, f = g + 1 := ⟨f - 1, by omega⟩
      exact each_wr _ _ _ _ (unit_kids (by omega) hC h1) he i hi
    · rw [hf] at hi; cases hi
  · left
    rw [ov_not (by rw [hw]; exact hi)]
theorem names_bad_top {l : List Nd} {f : Nat} {c a : Int} (hl : l.length = f + 1) (h1 : kindAt l f = 1) (ht : tops l (kidsAt l f) [] = .bad c a) : namesF l = .bad c a := by
  unfold namesF
  rw [hl, Nat.add_sub_cancel, if_neg (by simp [h1]), ht]
theorem names_bad_look {l : List Nd} {f : Nat} {E : Env} {Wt : Wr} {c a : Int} (hl : l.length = f + 1) (h1 : kindAt l f = 1) (ht : tops l (kidsAt l f) [] = .ok E Wt) (he : each (look l f 0) (kidsAt l f) E = .bad c a) : namesF l = .bad c a := by
  unfold namesF
  rw [hl, Nat.add_sub_cancel, if_neg (by simp [h1]), ht]
  show finF l (look l (f + 1) 0 f E) = _
  rw [look_unit h1, he]
  rfl
theorem names_no_unit {l : List Nd} {f : Nat} (hl : l.length = f + 1) (h1 : kindAt l f ≠ 1) : namesF l = .bad 11 0 := by
  unfold namesF
  rw [hl, Nat.add_sub_cancel, if_pos h1]
end Go.Proofs.Ytmghjfphlneblaa.Sc
