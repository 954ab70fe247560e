/-
  Plain: what looking for names gives: it ends, it declares no more than there are nodes, its faults have their codes, and what it writes.
-/
import Derived.Test.YtmghjfphlneblaaSa
namespace Go.Proofs.Ytmghjfphlneblaa.Sc
open Go.RowKit
open Tr

/-- what is written of a node -/
def WOk (l : List Nd) (x : Nat × Int) : Prop := x.1 < l.length ∧ (kindAt l x.1 = 33 → libB (tx l x.1) = true → x.2 = -1) ∧ (kindAt l x.1 = 2 ∨ kindAt l x.1 = 3 → x.2 = x.1)
def Fine (l : List Nd) (b : Nat) : Rs → Prop
  | .ok E W => E.length ≤ b ∧ ∀ x ∈ W, WOk l x
  | .bad c _ => c = 6 ∨ c = 7
  | .out => False
theorem Fine.mono {l : List Nd} {b b' : Nat} {r : Rs} (h : Fine l b r) (hb : b ≤ b') : Fine l b' r := by
  cases r with
  | ok E W => exact ⟨Nat.le_trans h.1 hb, h.2⟩
  | bad c a => exact h
  | out => exact h
theorem Fine.pre {l : List Nd} {b : Nat} {r : Rs} {W : Wr} (h : Fine l b r) (hW : ∀ x ∈ W, WOk l x) : Fine l b (r.pre W) := by
  cases r with
  | ok E W' => exact ⟨h.1, fun x hx => (List.mem_append.1 hx).elim (hW x) (h.2 x)⟩
  | bad c a => exact h
  | out => exact h
theorem Fine.bind {l : List Nd} {b b' : Nat} {r : Rs} {f : Env → Rs} (h : Fine l b r) (hf : ∀ E W, r = .ok E W → E.length ≤ b → Fine l b' (f E)) : Fine l b' (r.bind f) := by
  cases r with
  | ok E W => exact (hf E W rfl h.1).pre h.2
  | bad c a => exact h
  | out => exact h
theorem Fine.back {l : List Nd} {b b' : Nat} {r : Rs} {E : Env} (h : Fine l b r) (hE : E.length ≤ b') : Fine l b' (r.back E) := by
  cases r with
  | ok E' W => exact ⟨hE, h.2⟩
  | bad c a => exact h
  | out => exact h
theorem Fine.out {l : List Nd} {b : Nat} {r : Rs} (h : Fine l b r) : r ≠ .out := by
  intro e; subst e; exact h
theorem wok_self {l : List Nd} {k : Nat} (hk : k < l.length) (h : kindAt l k ≠ 33) : ∀ x ∈ [(k, (k : Int))], WOk l x := fun x hx => by
  simp only [List.mem_cons, List.not_mem_nil, or_false] at hx; subst hx
  exact ⟨hk, fun e => absurd e h, fun _ => rfl⟩
theorem wok_other {l : List Nd} {k : Nat} {v : Int} (hk : k < l.length) (h : kindAt l k ≠ 33 ∨ libB (tx l k) = false) (h2 : ¬ (kindAt l k = 2 ∨ kindAt l k = 3)) : ∀ x ∈ [(k, v)], WOk l x := fun x hx => by
  simp only [List.mem_cons, List.not_mem_nil, or_false] at hx; subst hx
  refine ⟨hk, fun e1 e2 => ?_, fun e => absurd e h2⟩
  rcases h with h | h
  · exact absurd e1 h
  · simp only at e2; rw [h] at e2; cases e2
theorem fine_decl {l : List Nd} {now k b : Nat} {E : Env} (hk : k < l.length) (hE : E.length + 1 ≤ b) (h : kindAt l k ≠ 33) : Fine l b (declF l now k E) := by
  unfold declF
  split
  · exact Or.inr rfl
  · exact ⟨by simp; exact hE, wok_self hk h⟩
theorem fine_own {l : List Nd} {now k b : Nat} {E : Env} (hk : k < l.length) (hE : E.length ≤ b) (hE2 : kindAt l k = 4 ∨ kindAt l k = 12 → E.length + 1 ≤ b) : Fine l b (own l now k E) := by
  unfold own
  split
  · rename_i h2
    exact ⟨hE, wok_self hk (by omega)⟩
  · rename_i h2
    split
    · rename_i h4; exact fine_decl hk (hE2 h4) (by omega)
    · split
      · unfold nameF
        split
        · split
          · exact Or.inl rfl
          · exact ⟨hE, wok_other hk (Or.inl (by omega)) h2⟩
        · exact Or.inl rfl
      · split
        · unfold callF
          split
          · exact ⟨hE, fun x hx => by
              simp only [List.mem_cons, List.not_mem_nil, or_false] at hx; subst hx
              exact ⟨hk, fun _ _ => rfl, fun e => absurd e h2⟩⟩
          · rename_i hl
            split
            · split
              · exact ⟨hE, wok_other hk (Or.inr (by simpa using hl)) h2⟩
              · exact Or.inl rfl
            · exact Or.inl rfl
        · exact ⟨hE, fun x hx => by cases hx⟩
/-- a node of a kind that has no kids -/
theorem kids_none {l : List Nd} {k : Nat} (hk : k < l.length) (hc : codeAt l k = 0) (h : kindAt l k = 4 ∨ kindAt l k = 32) : kidsAt l k = [] := by
  rw [codeAt_get hk] at hc
  rw [kindAt_get hk] at h
  rw [kidsAt_get hk]
  unfold nodeC at hc
  split at hc
  · cases hc
  · split at hc
    · cases hc
    · rename_i hn
      have h0 : ((l[k].c.length : Nat) : Int) ≤ 0 := by
        have : highV 9223372036854775807 l[k].k = 0 := by rcases h with h | h <;> rw [h] <;> rfl
        rw [this] at hn
        omega
      exact List.eq_nil_of_length_eq_zero (by omega)
/-- kids one behind the other -/
theorem fine_each {l : List Nd} {g : Nat → Env → Rs} {k q : Nat} {pos : Nat → Nat} (hK : Kin l k pos) (hk : k < l.length)
    (hg : ∀ (x : Nat) (E : Env), x < k → x < l.length → E.length ≤ q + St l x → Fine l (q + (x + 1)) (g x E)) :
    ∀ (d j : Nat) (E : Env), (kidsAt l k).length = j + d → E.length ≤ q + pos j → Fine l (q + k) (each g ((kidsAt l k).drop j) E) := by
  intro d
  induction d with
  | zero =>
    intro j E hj hE
    rw [each_end (by omega)]
    have : pos j = k := by rw [← hK.to_, hj]; rfl
    exact ⟨by omega, fun x hx => by cases hx⟩
  | succ d ih =>
    intro j E hj hE
    have hjl : j < (kidsAt l k).length := by omega
    rw [each_drop hjl]
    obtain ⟨x, h1, h2, h3, h4⟩ := hK.lt j hjl
    rw [h1, Int.toNat_natCast]
    refine (hg x E h2 (by omega) (by omega)).bind fun E' W _ hE' => ?_
    exact ih (j + 1) E' (by omega) (by omega)
theorem fine_kids {l : List Nd} {g : Nat → Nat → Env → Rs} {now k q : Nat} (hk : k < l.length) (hc : codeAt l k = 0)
    (hg : ∀ (now x : Nat) (E : Env), x < k → x < l.length → E.length ≤ q + St l x → Fine l (q + (x + 1)) (g now x E)) {E : Env} (hE : E.length ≤ q + St l k) : Fine l (q + k) (kidsF l g now k E) := by
  obtain ⟨pos, hK⟩ := kin_of hk hc
  have h0 : ∀ now, Fine l (q + k) (each (g now) (kidsAt l k) E) := fun now => fine_each hK hk (hg now) (kidsAt l k).length 0 E (by omega) (by rw [hK.from_]; exact hE)
  unfold kidsF
  split
  · exact (h0 (now + 1)).back (by have := St_le l k; omega)
  · exact h0 now
theorem fine_look {l : List Nd} (hC : ∀ j, j < l.length → codeAt l j = 0) : ∀ (f now k q : Nat) (E : Env), k < f → k < l.length → E.length ≤ q + St l k → Fine l (q + (k + 1)) (look l f now k E) := by
  intro f
  induction f with
  | zero => intro now k q E h; omega
  | succ f ih =>
    intro now k q E hf hk hE
    have hkid : ∀ E', E'.length ≤ q + St l k → Fine l (q + k) (kidsF l (look l f) now k E') := fun E' hE' => fine_kids hk (hC k hk) (fun now x E'' h1 h2 h3 => ih now x q E'' (by omega) h2 h3) hE'
    have hle := St_le l k
    simp only [look]
    split
    · rename_i h12
      refine (hkid E hE).bind fun E' W _ hE' => ?_
      exact fine_own hk (by omega) (fun _ => by omega)
    · rename_i h12
      by_cases h4 : kindAt l k = 4
      · have hn := kids_none hk (hC k hk) (Or.inl h4)
        obtain ⟨pos, hK⟩ := kin_of hk (hC k hk)
        have hS : St l k = k := by rw [← hK.from_]; have := hK.to_; rw [hn] at this; exact this
        refine (fine_own (b := q + (k + 1)) hk (by omega) (fun _ => by omega)).bind fun E' W _ hE' => ?_
        unfold kidsF
        rw [hn, h4]
        exact ⟨hE', fun x hx => by cases hx⟩
      · refine (fine_own (b := q + St l k) hk hE (fun h => by omega)).bind fun E' W _ hE' => ?_
        exact (hkid E' hE').mono (by omega)
end Go.Proofs.Ytmghjfphlneblaa.Sc
