/-
  Plain: what the names of a tree stand for: what is declared (nodes, and the room of each), and what is written of each node, as a function with a number of steps.
-/
import Derived.Test.YtmghjfphlneblaaTrJ
namespace Go.Proofs.Ytmghjfphlneblaa.Sc
open Go.RowKit
open Tr

/-- what is declared: nodes and their rooms, the eldest first -/
abbrev Env := List (Nat × Nat)
/-- what is written: at which node, and what it stands for -/
abbrev Wr := List (Nat × Int)
inductive Rs where
  | ok (E : Env) (W : Wr)
  | bad (c a : Int)
  | out
def tx (l : List Nd) (j : Nat) : List UInt8 := ((l[j]?).map (·.t.data.toList)).getD []
def roomF (l : List Nd) (E : Env) (r : Nat) (s : List UInt8) : Option Nat := (E.find? fun p => p.2 == r && tx l p.1 == s).map (·.1)
def findF (l : List Nd) (E : Env) (s : List UInt8) : Nat → Option Nat
  | 0 => none
  | r + 1 => match roomF l E r s with
    | some j => some j
    | none => findF l E s r
def libB (s : List UInt8) : Bool := s == [114, 101, 97, 100] || s == [112, 114, 105, 110, 116]
def opB (k : Int) : Bool := decide (k = 3 ∨ k = 11 ∨ k = 17 ∨ k = 18)
def declF (l : List Nd) (now k : Nat) (E : Env) : Rs := if (roomF l E now (tx l k)).isSome then .bad 7 k else .ok (E ++ [(k, now)]) [(k, k)]
def nameF (l : List Nd) (now k : Nat) (E : Env) : Rs := match findF l E (tx l k) (now + 1) with
  | some j => if kindAt l j = 3 then .bad 6 k else .ok E [(k, j)]
  | none => .bad 6 k
def callF (l : List Nd) (k : Nat) (E : Env) : Rs := if libB (tx l k) then .ok E [(k, -1)] else match roomF l E 0 (tx l k) with
  | some j => if kindAt l j = 3 then .ok E [(k, j)] else .bad 6 k
  | none => .bad 6 k
/-- a node by itself -/
def own (l : List Nd) (now k : Nat) (E : Env) : Rs :=
  if kindAt l k = 2 ∨ kindAt l k = 3 then .ok E [(k, k)] else if kindAt l k = 4 ∨ kindAt l k = 12 then declF l now k E
  else if kindAt l k = 32 then nameF l now k E else if kindAt l k = 33 then callF l k E else .ok E []
def Rs.pre (W : Wr) : Rs → Rs
  | .ok E W' => .ok E (W ++ W')
  | r => r
def Rs.bind : Rs → (Env → Rs) → Rs
  | .ok E W, f => (f E).pre W
  | .bad c a, _ => .bad c a
  | .out, _ => .out
def Rs.back (E : Env) : Rs → Rs
  | .ok _ W => .ok E W
  | r => r
def each (f : Nat → Env → Rs) : List Int → Env → Rs
  | [], E => .ok E []
  | c :: cs, E => (f c.toNat E).bind (each f cs)
/-- the kids of a node, by what a node does in a room -/
def kidsF (l : List Nd) (g : Nat → Nat → Env → Rs) (now k : Nat) (E : Env) : Rs :=
  if opB (kindAt l k) = true then (each (g (now + 1)) (kidsAt l k) E).back E else each (g now) (kidsAt l k) E
def look (l : List Nd) : Nat → Nat → Nat → Env → Rs
  | 0, _, _, _ => .out
  | f + 1, now, k, E => if kindAt l k = 12 then (kidsF l (look l f) now k E).bind (own l now k) else (own l now k E).bind (kidsF l (look l f) now k)
/-- what is declared at the top -/
def tops (l : List Nd) : List Int → Env → Rs
  | [], E => .ok E []
  | c :: cs, E => if libB (tx l c.toNat) = true then .bad 12 c.toNat else (declF l 0 c.toNat E).bind (tops l cs)
/-- a list with what is written into it -/
def ov (W : Wr) (fs : List Int) : List Int := W.foldl (fun fs p => fs.set p.1 p.2) fs

theorem pre_nil (r : Rs) : r.pre [] = r := by cases r <;> rfl
theorem pre_pre (r : Rs) (W W' : Wr) : (r.pre W').pre W = r.pre (W ++ W') := by cases r <;> simp [Rs.pre]
theorem pre_ok {r : Rs} {W W1 : Wr} {E : Env} (h : r.pre W = .ok E W1) : ∃ W2, r = .ok E W2 ∧ W1 = W ++ W2 := by
  cases r with
  | ok E2 W2 => simp only [Rs.pre, Rs.ok.injEq] at h; exact ⟨W2, by rw [h.1], h.2.symm⟩
  | bad c a => cases h
  | out => cases h
theorem bind_ok {r : Rs} {f : Env → Rs} {E : Env} {W : Wr} (h : r.bind f = .ok E W) : ∃ E1 W1 W2, r = .ok E1 W1 ∧ f E1 = .ok E W2 ∧ W = W1 ++ W2 := by
  cases r with
  | ok E1 W1 =>
    obtain ⟨W2, h1, h2⟩ := pre_ok h
    exact ⟨E1, W1, W2, rfl, h1, h2⟩
  | bad c a => cases h
  | out => cases h
theorem back_ok {r : Rs} {E E1 : Env} {W : Wr} (h : r.back E = .ok E1 W) : E1 = E ∧ ∃ E2, r = .ok E2 W := by
  cases r with
  | ok E2 W2 => simp only [Rs.back, Rs.ok.injEq] at h; exact ⟨h.1.symm, E2, by rw [h.2]⟩
  | bad c a => cases h
  | out => cases h
theorem ov_nil (fs : List Int) : ov [] fs = fs := rfl
theorem ov_one (k : Nat) (v : Int) (fs : List Int) : ov [(k, v)] fs = fs.set k v := rfl
theorem ov_app (W W' : Wr) (fs : List Int) : ov (W ++ W') fs = ov W' (ov W fs) := by simp [ov]
theorem ov_len (W : Wr) : ∀ fs : List Int, (ov W fs).length = fs.length := by
  induction W with
  | nil => intro fs; rfl
  | cons p W ih => intro fs; show (ov W (fs.set p.1 p.2)).length = _; rw [ih]; simp
theorem each_drop {f : Nat → Env → Rs} {c : List Int} {j : Nat} {E : Env} (hj : j < c.length) : each f (c.drop j) E = (f (c[j]).toNat E).bind (each f (c.drop (j + 1))) := by
  rw [List.drop_eq_getElem_cons hj]; rfl
theorem each_end {f : Nat → Env → Rs} {c : List Int} {j : Nat} {E : Env} (hj : c.length ≤ j) : each f (c.drop j) E = .ok E [] := by
  rw [List.drop_eq_nil_of_le hj]; rfl
theorem tops_drop {l : List Nd} {c : List Int} {j : Nat} {E : Env} (hj : j < c.length) : tops l (c.drop j) E = if libB (tx l (c[j]).toNat) = true then .bad 12 (c[j]).toNat else (declF l 0 (c[j]).toNat E).bind (tops l (c.drop (j + 1))) := by
  rw [List.drop_eq_getElem_cons hj]; rfl
theorem tops_end {l : List Nd} {c : List Int} {j : Nat} {E : Env} (hj : c.length ≤ j) : tops l (c.drop j) E = .ok E [] := by
  rw [List.drop_eq_nil_of_le hj]; rfl

/-- what a good tree's kids are: the places at which their parts end -/
theorem walkK_chain {S : Nat → Nat} {kd : Nat → Int} {k : Int} {c : List Int} : ∀ (i at_ r : Nat), walkK S kd k c i at_ = some r →
    ∃ q : Nat → Nat, q 0 = r ∧ q i = at_ ∧ ∀ j, j < i → 0 < q (j + 1) ∧ c.getD j 0 = (q (j + 1) : Int) - 1 ∧ S (q (j + 1) - 1) = q j ∧ goB k j c.length (kd (q (j + 1) - 1)) = true := by
  intro i
  induction i with
  | zero => intro at_ r h; simp only [walkK, Option.some.injEq] at h; exact ⟨fun _ => r, rfl, h ▸ rfl, fun j hj => by omega⟩
  | succ i ih =>
    intro at_ r h
    rw [walkK] at h
    split at h
    · cases h
    · rename_i hn
      have h0 : at_ ≠ 0 := fun e => hn (Or.inl e)
      have h1 : c.getD i 0 = (at_ : Int) - 1 := Decidable.byContradiction fun e => hn (Or.inr (Or.inl e))
      have h2 : goB k i c.length (kd (at_ - 1)) = true := by
        cases hg : goB k i c.length (kd (at_ - 1)) with
        | true => rfl
        | false => exact absurd (Or.inr (Or.inr hg)) hn
      obtain ⟨q, hq0, hqi, hq⟩ := ih _ _ h
      refine ⟨fun j => if j = i + 1 then at_ else q j, by simp [hq0], by simp, fun j hj => ?_⟩
      by_cases e : j = i
      · subst e
        refine ⟨by simp; omega, by simpa using h1, ?_, by simpa using h2⟩
        simp [hqi]
      · have hj2 : j < i := by omega
        have := hq j hj2
        simpa [show j ≠ i + 1 by omega, show ¬ j + 1 = i + 1 by omega, e] using this
/-- a node of a good tree: its kids come one behind the other -/
structure Kin (l : List Nd) (k : Nat) (q : Nat → Nat) : Prop where
  from_ : q 0 = St l k
  to_ : q (kidsAt l k).length = k
  kid : ∀ j, (h : j < (kidsAt l k).length) → 0 < q (j + 1) ∧ (kidsAt l k)[j] = ((q (j + 1) - 1 : Nat) : Int) ∧ St l (q (j + 1) - 1) = q j ∧ goB (kindAt l k) j (kidsAt l k).length (kindAt l (q (j + 1) - 1)) = true
theorem kin_of {l : List Nd} {k : Nat} (hk : k < l.length) (h : codeAt l k = 0) : ∃ q, Kin l k q := by
  have hw := code_way hk h
  have hs := St_eq l k
  cases hr : wayOf l k with
  | none => exact absurd hr hw
  | some r =>
    rw [hr] at hs
    obtain ⟨q, h0, h1, h2⟩ := walkK_chain _ _ _ hr
    refine ⟨q, by rw [h0, hs]; rfl, h1, fun j hj => ?_⟩
    obtain ⟨a, b, c, d⟩ := h2 j hj
    refine ⟨a, ?_, c, d⟩
    have e : (kidsAt l k).getD j 0 = (kidsAt l k)[j] := by simp [hj]
    rw [← e, b]; omega
theorem Kin.mono {l : List Nd} {k : Nat} {q : Nat → Nat} (h : Kin l k q) : ∀ i j, i ≤ j → j ≤ (kidsAt l k).length → q i ≤ q j := by
  intro i j hij
  induction j with
  | zero => intro _; rw [show i = 0 by omega]; exact Nat.le_refl _
  | succ j ih =>
    intro hj
    by_cases e : i = j + 1
    · rw [e]; exact Nat.le_refl _
    · obtain ⟨a, _, c, _⟩ := h.kid j (by omega)
      have := St_le l (q (j + 1) - 1)
      have := ih (by omega) (by omega)
      omega
theorem Kin.lt {l : List Nd} {k : Nat} {q : Nat → Nat} (h : Kin l k q) (j : Nat) (hj : j < (kidsAt l k).length) : ∃ x : Nat, (kidsAt l k)[j] = (x : Int) ∧ x < k ∧ x + 1 = q (j + 1) ∧ St l x = q j := by
  obtain ⟨a, b, c, _⟩ := h.kid j hj
  have := h.mono (j + 1) _ (by omega) (Nat.le_refl _)
  rw [h.to_] at this
  exact ⟨q (j + 1) - 1, b, by omega, by omega, c⟩
end Go.Proofs.Ytmghjfphlneblaa.Sc
