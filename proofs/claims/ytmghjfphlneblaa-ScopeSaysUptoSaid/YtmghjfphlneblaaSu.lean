/-
  Plain: what looking leaves declared; what stands for what at the top; names of nodes at the top.
-/
import Derived.Test.YtmghjfphlneblaaSh
namespace Go.Proofs.Ytmghjfphlneblaa.Sc
open Go.RowKit
open Tr

/-- what stands at the top, or within an expression -/
def Zk (k : Int) : Prop := k = 2 ∨ k = 3 ∨ exprB k = true
/-- what is new is of this room; at the top nothing is new -/
def Gr (now : Nat) (E E' : Env) : Prop := (∀ x ∈ E', x ∈ E ∨ x.2 = now) ∧ (now = 0 → E' = E)
theorem Gr.refl (now : Nat) (E : Env) : Gr now E E := ⟨fun _ h => Or.inl h, fun _ => rfl⟩
theorem Gr.trans {now : Nat} {E E1 E2 : Env} (h : Gr now E E1) (k : Gr now E1 E2) : Gr now E E2 :=
  ⟨fun x hx => (k.1 x hx).elim (h.1 x) Or.inr, fun e => (k.2 e).trans (h.2 e)⟩
theorem goB_z {k i m kid : Int} (h : goB k i m kid = true) (hk : k = 2 ∨ exprB k = true) : exprB kid = true := by
  have hk2 : k = 2 ∨ (31 ≤ k ∧ k ≤ 40) := hk.imp id (fun h => of_decide_eq_true h)
  unfold goB at h
  rw [if_neg (by omega), if_neg (by omega), if_neg (by omega), if_neg (by omega), if_neg (by omega), if_neg (by omega), if_neg (by omega)] at h
  exact h
theorem goB_top {k i m kid : Int} (h : goB k i m kid = true) (hk : k ≠ 1) : kid ≠ 2 ∧ kid ≠ 3 := by
  have h2 : ∀ x, exprB x = true → 31 ≤ x ∧ x ≤ 40 := fun x h => of_decide_eq_true h
  have h3 : ∀ x, actB x = true → (11 ≤ x ∧ x ≤ 18) ∨ (21 ≤ x ∧ x ≤ 24) := fun x h => of_decide_eq_true h
  unfold goB forB at h
  rw [if_neg hk] at h
  repeat' split at h
  all_goals (try simp at h)
  all_goals (constructor <;> (intro e; subst e; revert h; simp [exprB, actB]))
theorem goB_unit {k i m kid : Int} (h : goB k i m kid = true) : kid ≠ 1 := by
  intro e; subst e
  unfold goB forB at h
  repeat' split at h
  all_goals (revert h; simp [exprB, actB])
theorem Kin.kidUnit {l : List Nd} {k : Nat} {q : Nat → Nat} (h : Kin l k q) (j : Nat) (hj : j < (kidsAt l k).length) {x : Nat} (hx : (kidsAt l k)[j] = (x : Int)) : kindAt l x ≠ 1 := by
  obtain ⟨a, b, c, d⟩ := h.kid j hj
  have e : q (j + 1) - 1 = x := by omega
  rw [e] at d
  exact goB_unit d
theorem Kin.mem {l : List Nd} {k : Nat} {q : Nat → Nat} (_h : Kin l k q) {x : Nat} (hx : (x : Int) ∈ kidsAt l k) : ∃ j, ∃ hj : j < (kidsAt l k).length, (kidsAt l k)[j] = (x : Int) := by
  obtain ⟨j, hj, e⟩ := List.getElem_of_mem hx
  exact ⟨j, hj, e⟩
theorem Kin.kidZ {l : List Nd} {k : Nat} {q : Nat → Nat} (h : Kin l k q) (hk : kindAt l k = 2 ∨ exprB (kindAt l k) = true) (j : Nat) (hj : j < (kidsAt l k).length) {x : Nat} (hx : (kidsAt l k)[j] = (x : Int)) : Zk (kindAt l x) := by
  obtain ⟨a, b, c, d⟩ := h.kid j hj
  have e : q (j + 1) - 1 = x := by omega
  rw [e] at d
  exact Or.inr (Or.inr (goB_z d hk))
theorem Kin.kidTop {l : List Nd} {k : Nat} {q : Nat → Nat} (h : Kin l k q) (hk : kindAt l k ≠ 1) (j : Nat) (hj : j < (kidsAt l k).length) {x : Nat} (hx : (kidsAt l k)[j] = (x : Int)) : ¬ (kindAt l x = 2 ∨ kindAt l x = 3) := by
  obtain ⟨a, b, c, d⟩ := h.kid j hj
  have e : q (j + 1) - 1 = x := by omega
  rw [e] at d
  have := goB_top d hk
  omega
theorem own_grow {l : List Nd} {now k : Nat} {E E' : Env} {W : Wr} (h : own l now k E = .ok E' W) (hz : now = 0 → Zk (kindAt l k)) : Gr now E E' := by
  unfold own at h
  split at h
  · cases h; exact Gr.refl _ _
  · split at h
    · rename_i h4
      unfold declF at h
      split at h
      · cases h
      · cases h
        refine ⟨fun x hx => (List.mem_append.1 hx).imp id (fun hx => by simp only [List.mem_cons, List.not_mem_nil, or_false] at hx; subst hx; rfl), fun e => ?_⟩
        exfalso
        have := hz e
        rcases h4 with h4 | h4 <;> rw [h4] at this <;> (rcases this with h | h | h <;> revert h <;> decide)
    · split at h
      · unfold nameF at h
        split at h
        · split at h
          · cases h
          · cases h; exact Gr.refl _ _
        · cases h
      · split at h
        · unfold callF at h
          split at h
          · cases h; exact Gr.refl _ _
          · split at h
            · split at h
              · cases h; exact Gr.refl _ _
              · cases h
            · cases h
        · cases h; exact Gr.refl _ _
theorem each_grow {now : Nat} {g : Nat → Env → Rs} : ∀ (c : List Int) (E E' : Env) (W : Wr), each g c E = .ok E' W → (∀ x ∈ c, ∀ E E' W, g x.toNat E = .ok E' W → Gr now E E') → Gr now E E' := by
  intro c
  induction c with
  | nil => intro E E' W h _; cases h; exact Gr.refl _ _
  | cons x c ih =>
    intro E E' W h hg
    obtain ⟨E1, W1, W2, h1, h2, _⟩ := bind_ok h
    exact (hg x (List.mem_cons_self ..) _ _ _ h1).trans (ih _ _ _ h2 (fun y hy => hg y (List.mem_cons_of_mem _ hy)))
theorem look_grow {l : List Nd} (hC : ∀ j, j < l.length → codeAt l j = 0) : ∀ (f now k : Nat) (E E' : Env) (W : Wr), look l f now k E = .ok E' W → k < l.length → (now = 0 → Zk (kindAt l k)) → Gr now E E' := by
  intro f
  induction f with
  | zero => intro now k E E' W h; cases h
  | succ f ih =>
    intro now k E E' W h hk hz
    obtain ⟨pos, hK⟩ := kin_of hk (hC k hk)
    have hkid : ∀ E E' W, kidsF l (look l f) now k E = .ok E' W → Gr now E E' := by
      intro E E' W h
      unfold kidsF at h
      split at h
      · obtain ⟨rfl, _⟩ := back_ok h
        exact Gr.refl _ _
      · rename_i hop
        refine each_grow _ _ _ _ h fun x hx E1 E2 W2 hl => ?_
        obtain ⟨j, hj, hjx⟩ := List.getElem_of_mem hx
        obtain ⟨y, h1, h2, _, _⟩ := hK.lt j hj
        have hxy : x.toNat = y := by rw [← hjx, h1]; rfl
        rw [hxy] at hl
        refine ih now y E1 E2 W2 hl (by omega) (fun e => ?_)
        refine hK.kidZ ?_ j hj h1
        rcases hz e with h | h | h
        · exact Or.inl h
        · rw [h] at hop; exact absurd rfl hop
        · exact Or.inr h
    simp only [look] at h
    split at h
    · obtain ⟨E1, W1, W2, h1, h2, _⟩ := bind_ok h
      exact (hkid _ _ _ h1).trans (own_grow h2 hz)
    · obtain ⟨E1, W1, W2, h1, h2, _⟩ := bind_ok h
      exact (own_grow h1 hz).trans (hkid _ _ _ h2)
theorem ov_top {l : List Nd} {W : Wr} (hW : ∀ x ∈ W, WOk l x) {k : Nat} (hk : kindAt l k = 2 ∨ kindAt l k = 3) : ∀ {fs : List Int}, fs[k]? = some (k : Int) → (ov W fs)[k]? = some (k : Int) := by
  induction W with
  | nil => intro fs h; exact h
  | cons x W ih =>
    intro fs h
    show (ov W (fs.set x.1 x.2))[k]? = _
    refine ih (fun y hy => hW y (List.mem_cons_of_mem _ hy)) ?_
    rw [List.getElem?_set]
    split
    · rename_i e
      have := (hW x (List.mem_cons_self ..)).2.2
      rw [e] at this
      have hlt : k < fs.length := (List.getElem?_eq_some_iff.1 h).1
      rw [e, if_pos hlt, this hk]
    · exact h
/-- what is declared is of rooms up to this one, and no function that is there already -/
def Low (l : List Nd) (now : Nat) (E : Env) : Prop := (∀ x ∈ E, x.2 ≤ now) ∧ ∀ x ∈ E, x.2 = 0 → libB (tx l x.1) = false
theorem Low.grow {l : List Nd} {now : Nat} {E E' : Env} (h : Low l now E) (hg : Gr now E E') : Low l now E' := by
  refine ⟨fun x hx => (hg.1 x hx).elim (h.1 x) (fun e => by omega), fun x hx e => ?_⟩
  by_cases h0 : now = 0
  · rw [hg.2 h0] at hx; exact h.2 x hx e
  · rcases hg.1 x hx with hx | hx
    · exact h.2 x hx e
    · omega
theorem Low.succ {l : List Nd} {now : Nat} {E : Env} (h : Low l now E) : Low l (now + 1) E := ⟨fun x hx => Nat.le_succ_of_le (h.1 x hx), h.2⟩
end Go.Proofs.Ytmghjfphlneblaa.Sc
