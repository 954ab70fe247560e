/-
  Joined texts of this claim: Soh.
-/
import Derived.Test.YtmghjfphlneblaaGreatDoorW00
import Derived.Test.YtmghjfphlneblaaGreatDoorW21
set_option maxHeartbeats 40000000
set_option maxRecDepth 100000
set_option linter.unusedVariables false
set_option linter.unusedSimpArgs false
namespace Go.Proofs.YtmghjfphlneblaaGreatDoor
section
namespace Sc
open Go.RowKit
open Tr

def anewT : ByteArray := ⟨#[97, 110, 101, 119]⟩
def renN (fs : List Int) (k : Nat) (i : Nat) (x : Nd) : Nd := if fs[i]? = some (k : Int) then { x with t := anewT } else x
def renL (fs : List Int) (k : Nat) (l : List Nd) : List Nd := l.mapIdx (renN fs k)
theorem renL_len (fs : List Int) (k : Nat) (l : List Nd) : (renL fs k l).length = l.length := by simp [renL]
theorem renL_get {fs : List Int} {k i : Nat} {l : List Nd} (h : i < l.length) : (renL fs k l)[i]? = some (renN fs k i l[i]) := by simp [renL, h]
theorem renL_kind (fs : List Int) (k : Nat) (l : List Nd) : kindAt (renL fs k l) = kindAt l := by
  funext j
  unfold kindAt renL
  rw [List.getElem?_mapIdx]
  cases l[j]? with
  | none => rfl
  | some x => simp only [Option.map_some, Option.getD_some, renN]; split <;> rfl
theorem renL_kids (fs : List Int) (k : Nat) (l : List Nd) : kidsAt (renL fs k l) = kidsAt l := by
  funext j
  unfold kidsAt renL
  rw [List.getElem?_mapIdx]
  cases l[j]? with
  | none => rfl
  | some x => simp only [Option.map_some, Option.getD_some, renN]; split <;> rfl
theorem renL_ren {l : List Nd} {fs : List Int} {k : Nat} (hno : ∀ i, i < l.length → tx l i ≠ anewS) (hk : k < l.length) (hloc : kindAt l k = 4 ∨ kindAt l k = 12) (hself : fs[k]? = some (k : Int)) : Ren l (renL fs k l) fs k where
  len := renL_len fs k l
  kind := renL_kind fs k l
  kids := renL_kids fs k l
  same := fun i hi h => by unfold tx; rw [renL_get hi]; simp [renN, h, hi]
  new := fun i hi h => by unfold tx; rw [renL_get hi]; simp [renN, h, anewT, anewS]
  no := hno
  lt := hk
  loc := hloc
  self := hself
theorem firsts_congr {l l' : List Nd} (hk : kindAt l' = kindAt l) (hc : kidsAt l' = kidsAt l) (n : Nat) : firsts l' n = firsts l n := by
  induction n with
  | zero => rfl
  | succ n ih => simp only [firsts]; rw [ih, hk, hc]
theorem St_congr {l l' : List Nd} (hk : kindAt l' = kindAt l) (hc : kidsAt l' = kidsAt l) : St l' = St l := by
  funext n; unfold St; rw [firsts_congr hk hc]
theorem deeps_congr {l l' : List Nd} (hc : kidsAt l' = kidsAt l) (n : Nat) : deeps l' n = deeps l n := by
  induction n with
  | zero => rfl
  | succ n ih => simp only [deeps]; rw [ih, hc]
theorem Dp_congr {l l' : List Nd} (hc : kidsAt l' = kidsAt l) : Dp l' = Dp l := by
  funext n; unfold Dp; rw [deeps_congr hc]
/-- what is written stands at nodes with names -/
theorem own_named {l : List Nd} {now i : Nat} {E E' : Env} {W : Wr} (h : own l now i E = .ok E' W) : ∀ y ∈ W, namedB (kindAt l y.1) = true := by
  have hall : W = [] ∨ namedB (kindAt l i) = true := by
    unfold own at h
    split at h
    · rename_i h2; right; unfold namedB; exact decide_eq_true (by omega)
    · split at h
      · rename_i h2; right; unfold namedB; exact decide_eq_true (by omega)
      · split at h
        · rename_i h2; right; unfold namedB; exact decide_eq_true (by omega)
        · split at h
          · rename_i h2; right; unfold namedB; exact decide_eq_true (by omega)
          · cases h; exact Or.inl rfl
  intro y hy
  rcases own_in h with rfl | ⟨v, rfl⟩
  · cases hy
  · rcases hall with h | h
    · cases h
    · rw [one_mem hy]; exact h
theorem each_named {l : List Nd} {g : Nat → Env → Rs} : ∀ (c : List Int) (E E' : Env) (W : Wr), each g c E = .ok E' W → (∀ x ∈ c, ∀ E E' W, g x.toNat E = .ok E' W → ∀ y ∈ W, namedB (kindAt l y.1) = true) → ∀ y ∈ W, namedB (kindAt l y.1) = true := by
  intro c
  induction c with
  | nil => intro E E' W h _ y hy; cases h; cases hy
  | cons x c ih =>
    intro E E' W h hg y hy
    obtain ⟨E1, W1, W2, h1, h2, rfl⟩ := bind_ok h
    rcases List.mem_append.1 hy with hy | hy
    · exact hg x (List.mem_cons_self ..) _ _ _ h1 y hy
    · exact ih _ _ _ h2 (fun z hz => hg z (List.mem_cons_of_mem _ hz)) y hy
theorem look_named {l : List Nd} : ∀ (f now x : Nat) (E E' : Env) (W : Wr), look l f now x E = .ok E' W → ∀ y ∈ W, namedB (kindAt l y.1) = true := by
  intro f
  induction f with
  | zero => intro now x E E' W h; cases h
  | succ f ih =>
    intro now x E E' W h
    have hkid : ∀ E E' W, kidsF l (look l f) now x E = .ok E' W → ∀ y ∈ W, namedB (kindAt l y.1) = true := by
      intro E E' W h
      unfold kidsF at h
      split at h
      · obtain ⟨rfl, E2, h2⟩ := back_ok h
        exact each_named _ _ _ _ h2 fun x _ E E' W h => ih _ _ _ _ _ h
      · exact each_named _ _ _ _ h fun x _ E E' W h => ih _ _ _ _ _ h
    simp only [look] at h
    split at h
    · obtain ⟨E1, W1, W2, h1, h2, rfl⟩ := bind_ok h
      exact fun y hy => (List.mem_append.1 hy).elim (hkid _ _ _ h1 y) (own_named h2 y)
    · obtain ⟨E1, W1, W2, h1, h2, rfl⟩ := bind_ok h
      exact fun y hy => (List.mem_append.1 hy).elim (own_named h1 y) (hkid _ _ _ h2 y)
theorem named_fs {l : List Nd} {fs : List Int} {i k : Nat} (h : namesF l = .ok fs) (hi : i < l.length) (hf : fs[i]? = some (k : Int)) : namedB (kindAt l i) = true := by
  obtain ⟨h1, E, Wt, E', W, ht, hl, rfl⟩ := names_open h
  by_cases hm : i ∈ W.map (·.1)
  · obtain ⟨y, hy, rfl⟩ := List.mem_map.1 hm
    exact look_named _ _ _ _ _ _ hl y hy
  · rw [ov_get_not hm] at hf
    simp [hi] at hf
theorem anew_name : nameB anewT = true := by decide
theorem code_ren {l : List Nd} {fs : List Int} {k : Nat} (h : namesF l = .ok fs) (hC : ∀ j, j < l.length → codeAt l j = 0) : ∀ j, j < (renL fs k l).length → codeAt (renL fs k l) j = 0 := by
  intro j hj
  rw [renL_len] at hj
  have hc := hC j hj
  rw [codeAt_get hj] at hc
  have hw : wayOf (renL fs k l) j = wayOf l j := by unfold wayOf; rw [renL_kind, renL_kids, St_congr (renL_kind fs k l) (renL_kids fs k l)]
  have e : codeAt (renL fs k l) j = nodeC (renL fs k l) j (renN fs k j l[j]) := by unfold codeAt; rw [renL_get hj]; rfl
  rw [e]
  have hnm := fun hf => named_fs (k := k) h hj hf
  rw [kindAt_get hj] at hnm
  unfold nodeC at hc ⊢
  rw [hw]
  unfold renN
  split
  · rename_i hf
    have hn := hnm hf
    simp only
    split at hc
    · cases hc
    · rename_i h1
      rw [if_neg h1]
      split at hc
      · cases hc
      · rename_i h2
        rw [if_neg h2]
        split at hc
        · cases hc
        · rename_i h3
          rw [if_neg h3]
          unfold fieldC fieldV at hc ⊢
          simp only
          rw [hn] at hc ⊢
          rw [anew_name]
          simp only [true_and, Bool.true_eq_false, false_and, if_false] at hc ⊢
          split at hc
          · cases hc
          · exact hc
  · exact hc
theorem ckr_ren {l : List Nd} {fs : List Int} {k : Nat} (h : namesF l = .ok fs) (hz : CkR l 0 0) : CkR (renL fs k l) 0 0 := by
  obtain ⟨h1, h2, hC, hS, hD⟩ := ckr_zero hz
  refine Or.inr ⟨by rw [renL_len]; exact h1, by rw [renL_len]; exact h2, Or.inr ⟨code_ren h hC, Or.inr ⟨?_, Or.inr ⟨?_, rfl, rfl⟩⟩⟩⟩
  · rw [St_congr (renL_kind fs k l) (renL_kids fs k l), renL_len]; exact hS
  · rw [Dp_congr (renL_kids fs k l), renL_len]; exact hD
end Sc
end
end Go.Proofs.YtmghjfphlneblaaGreatDoor
