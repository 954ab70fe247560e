/-
  Joined texts of this claim: Ja, Jc, Jd.
-/
import Derived.Test.YtbjacclfhgnffaaGreatDoorY09
import Derived.Test.YtbjacclfhgnffaaGreatDoorY32
import Derived.Test.YtbjacclfhgnffaaGreatDoorY24
set_option linter.unusedVariables false
set_option linter.unusedSimpArgs false
/-
  Plain: the document's reader, its functions as it has them, with a number of steps.
-/
namespace Go.Proofs.YtbjacclfhgnffaaGreatDoor
open Tk (T4)

/-- the reader: nodes, words that are left, what is wrong and where, the node that was made last -/
structure Rs where
  N : List Mn
  L : List T4
  c : Int
  a : Int
  top : Int
def okR (r : Rs) : Bool := decide (r.c = 0)
def isR (E : Nat) (s : List UInt8) (r : Rs) : Bool := okR r && (decide ((pk E r.L).k = 4 ∨ (pk E r.L).k = 3) && decide ((pk E r.L).t = s))
def stopR (E : Nat) (code : Int) (r : Rs) : Rs := if okR r = true then { r with c := code, a := (pk E r.L).a } else r
def skipR (r : Rs) : Rs := if okR r = true then { r with L := r.L.tail } else r
def wantR (E : Nat) (s : List UInt8) (r : Rs) : Rs := if isR E s r = true then skipR r else stopR E 1 r
def addR (x : Mn) (kids : List Int) (r : Rs) : Option Rs :=
  if okR r = true then (if 5000000 ≤ r.N.length ∨ 5000000 < kids.length then none else some { r with N := r.N ++ [{ x with c := kids }], top := r.N.length }) else some r

inductive RJ where
  | expr
  | level (low : Nat)
  | levelL (low : Nat)
  | ahead
  | behind
  | behindL
  | first
  | list (e : List UInt8)
  | listL (e : List UInt8) (first : Bool) (out : List Int)
/-- a reader and a list of nodes -/
abbrev RL := Rs × List Int
/-- a reader alone -/
def alone (r : Option Rs) : Option RL := r.map fun r => (r, [])
def stepR (E : Nat) (rec : RJ → Rs → Option RL) : RJ → Rs → Option RL
  | .expr => fun r => (rec (.level 1) r).bind fun q =>
      if isR E [63] q.1 = true then (rec .expr (skipR q.1)).bind fun q2 => (rec .expr (wantR E [58] q2.1)).bind fun q3 =>
        alone (addR (mk 38 [] 0 (pk E q.1.L).a) [q.1.top, q2.1.top, q3.1.top] q3.1)
      else if (okR q.1 && decide ((pk E q.1.L).k = 4) && setT (pk E q.1.L).t) = true then (rec .expr (skipR q.1)).bind fun q2 =>
        alone (addR (mk 39 (pk E q.1.L).t 0 (pk E q.1.L).a) [q.1.top, q2.1.top] q2.1)
      else some (q.1, [])
  | .level low => fun r => (rec .ahead r).bind fun q => rec (.levelL low) q.1
  | .levelL low => fun r => if (okR r && decide ((pk E r.L).k = 4) && decide (low ≤ rankT (pk E r.L).t)) = true then
        (rec (.level (rankT (pk E r.L).t + 1)) (skipR r)).bind fun q =>
        (addR (mk (if rankT (pk E r.L).t < 3 then 37 else 36) (pk E r.L).t 0 (pk E r.L).a) [r.top, q.1.top] q.1).bind fun r3 => rec (.levelL low) r3
      else some (r, [])
  | .ahead => fun r =>
      if (isR E [45] r || isR E [33] r || isR E [126] r || isR E [42] r || isR E [38] r) = true then (rec .ahead (skipR r)).bind fun q =>
        alone (addR (mk 35 (pk E r.L).t 0 (pk E r.L).a) [q.1.top] q.1)
      else if (isR E [43, 43] r || isR E [45, 45] r) = true then (rec .ahead (skipR r)).bind fun q =>
        alone (addR (mk 40 (pk E r.L).t 0 (pk E r.L).a) [q.1.top] q.1)
      else (rec .behind r).bind fun q => some (q.1, [])
  | .behind => fun r => (rec .first r).bind fun q => rec .behindL q.1
  | .behindL => fun r => if (isR E [91] r || isR E [43, 43] r || isR E [45, 45] r) = true then
        if isR E [91] r = true then (rec .expr (skipR r)).bind fun q =>
          (addR (mk 34 [] 0 (pk E r.L).a) [r.top, q.1.top] (wantR E [93] q.1)).bind fun r3 => rec .behindL r3
        else (addR (mk 40 (pk E r.L).t 1 (pk E r.L).a) [r.top] (skipR r)).bind fun r3 => rec .behindL r3
      else some (r, [])
  | .first => fun r =>
      if (okR r && decide ((pk E r.L).k = 2)) = true then alone (addR (mk 31 [] (pk E r.L).v (pk E r.L).a) [] (skipR r))
      else if (okR r && decide ((pk E r.L).k = 1)) = true then
        if isR E [40] (skipR r) = true then (rec (.list [41]) (skipR (skipR r))).bind fun q => alone (addR (mk 33 (pk E r.L).t 0 (pk E r.L).a) q.2 q.1)
        else alone (addR (mk 32 (pk E r.L).t 0 (pk E r.L).a) [] (skipR r))
      else if isR E [40] r = true then (rec .expr (skipR r)).bind fun q => some (wantR E [41] q.1, [])
      else some (stopR E 1 r, [])
  | .list e => fun r => rec (.listL e true []) r
  | .listL e first out => fun r => if (okR r && !isR E e r) = true then
        (rec .expr (if first = true then r else wantR E [44] r)).bind fun q => if 6000000 ≤ out.length then none else rec (.listL e false (out ++ [q.1.top])) q.1
      else some (wantR E e r, out)
def runR (E : Nat) : Nat → RJ → Rs → Option RL
  | 0 => fun _ _ => none
  | n + 1 => stepR E (runR E n)
end Go.Proofs.YtbjacclfhgnffaaGreatDoor
/-
  Plain: the document's reader and the program's parser of expressions give the same.
-/
namespace Go.Proofs.YtbjacclfhgnffaaGreatDoor
open Go.RowKit
open Tk (T4 bstr)

/-- what one gives, the other gives, too -/
def Le {α : Type} (x y : Option α) : Prop := ∀ q, x = some q → y = some q
theorem Le.refl {α : Type} (x : Option α) : Le x x := fun _ h => h
theorem Le.bind {α β : Type} {x y : Option α} {f g : α → Option β} (h : Le x y) (k : ∀ a, Le (f a) (g a)) : Le (x.bind f) (y.bind g) := by
  intro q hq
  cases x with
  | none => cases hq
  | some a => rw [h a rfl]; exact k a q hq
theorem stepR_le {E : Nat} {rec rec' : RJ → Rs → Option RL} (h : ∀ j r, Le (rec j r) (rec' j r)) : ∀ j r, Le (stepR E rec j r) (stepR E rec' j r) := by
  intro j r
  cases j <;> simp only [stepR] <;> repeat' (first | exact Le.refl _ | exact h _ _ | refine Le.bind (h _ _) fun q => ?_ | refine Le.bind (Le.refl _) fun q => ?_ | split)
theorem runR_le {E : Nat} : ∀ {n m : Nat}, n ≤ m → ∀ j r, Le (runR E n j r) (runR E m j r) := by
  intro n
  induction n with
  | zero => intro m _ j r q h; cases h
  | succ n ih =>
    intro m hm j r
    obtain ⟨k, rfl⟩ : ∃ k, m = k + 1 := ⟨m - 1, by omega⟩
    exact stepR_le (ih (by omega)) j r

section bad
variable {E : Nat} {r : Rs} (hr : r.c ≠ 0)
include hr
theorem okR_bad : okR r = false := by unfold okR; exact decide_eq_false hr
theorem isR_bad (s : List UInt8) : isR E s r = false := by unfold isR; rw [okR_bad hr]; rfl
theorem skipR_bad : skipR r = r := by unfold skipR; rw [okR_bad hr]; rfl
theorem stopR_bad (code : Int) : stopR E code r = r := by unfold stopR; rw [okR_bad hr]; rfl
theorem wantR_bad (s : List UInt8) : wantR E s r = r := by unfold wantR; rw [isR_bad hr, stopR_bad hr]; rfl
theorem addR_bad (x : Mn) (k : List Int) : addR x k r = some r := by unfold addR; rw [okR_bad hr]; rfl
theorem bad_first (n : Nat) : runR E (n + 1) .first r = some (r, []) := by
  show stepR E (runR E n) .first r = _
  simp [stepR, okR_bad hr, isR_bad hr, stopR_bad hr]
theorem bad_behindL (n : Nat) : runR E (n + 1) .behindL r = some (r, []) := by
  show stepR E (runR E n) .behindL r = _
  simp [stepR, isR_bad hr]
theorem bad_behind (n : Nat) : runR E (n + 2) .behind r = some (r, []) := by
  show stepR E (runR E (n + 1)) .behind r = _
  simp [stepR, bad_first hr, bad_behindL hr]
theorem bad_ahead (n : Nat) : runR E (n + 3) .ahead r = some (r, []) := by
  show stepR E (runR E (n + 2)) .ahead r = _
  simp [stepR, isR_bad hr, bad_behind hr]
theorem bad_levelL (n low : Nat) : runR E (n + 1) (.levelL low) r = some (r, []) := by
  show stepR E (runR E n) (.levelL low) r = _
  simp [stepR, okR_bad hr]
theorem bad_level (n low : Nat) : runR E (n + 4) (.level low) r = some (r, []) := by
  show stepR E (runR E (n + 3)) (.level low) r = _
  simp [stepR, bad_ahead hr, bad_levelL hr]
theorem bad_expr (n : Nat) : runR E (n + 5) .expr r = some (r, []) := by
  show stepR E (runR E (n + 4)) .expr r = _
  simp [stepR, bad_level hr, isR_bad hr, okR_bad hr]
theorem bad_listL (n : Nat) (e : List UInt8) (f : Bool) (out : List Int) : runR E (n + 1) (.listL e f out) r = some (r, out) := by
  show stepR E (runR E n) (.listL e f out) r = _
  simp [stepR, okR_bad hr, wantR_bad hr]
end bad

/-- a reader with nothing wrong, by the parser's state -/
def rs (s : S3) (a0 t0 : Int) : Rs := ⟨s.N, s.L, 0, a0, t0⟩
structure HS (s : S3) : Prop where
  low : s.O.length ≤ s.N.length
  few : s.N.length ≤ 5000000
  tok : ∀ x, x ∈ s.L → TokK x
theorem HS.tail {s : S3} (h : HS s) : HS { s with L := s.L.tail } := ⟨h.low, h.few, fun x hx => h.tok x (List.mem_of_mem_tail hx)⟩
theorem ok_rs (s : S3) (a0 t0 : Int) : okR (rs s a0 t0) = true := rfl
theorem skip_rs (s : S3) (a0 t0 : Int) : skipR (rs s a0 t0) = rs { s with L := s.L.tail } a0 t0 := rfl
theorem stop_rs (E : Nat) (s : S3) (a0 t0 code : Int) : stopR E code (rs s a0 t0) = ⟨s.N, s.L, code, (pk E s.L).a, t0⟩ := rfl
def SgnKeyL (t : List UInt8) : Prop := Tk.signB t = true ∨ Tk.keyB t = true
theorem kind_sign {E : Nat} {L : List T4} (hL : ∀ x, x ∈ L → TokK x) (h : Tk.signB (pk E L).t = true) : (pk E L).k = 4 := by
  cases L with
  | nil => exact absurd (show Tk.signB [] = true from h) (by decide)
  | cons x L => exact (hL x (by simp)).sign.1 h
theorem kind_key {E : Nat} {L : List T4} (hL : ∀ x, x ∈ L → TokK x) (h : Tk.keyB (pk E L).t = true) : (pk E L).k = 3 := by
  cases L with
  | nil => exact absurd (show Tk.keyB [] = true from h) (by decide)
  | cons x L => exact (hL x (by simp)).key.1 h
theorem is_rs {E : Nat} {s : S3} (h : HS s) (a0 t0 : Int) {t : List UInt8} (ht : SgnKeyL t) : isR E t (rs s a0 t0) = decide ((pk E s.L).t = t) := by
  unfold isR
  rw [ok_rs, Bool.true_and, Bool.eq_iff_iff, Bool.and_eq_true, decide_eq_true_eq, decide_eq_true_eq, decide_eq_true_eq]
  refine ⟨fun h => h.2, fun e => ⟨?_, e⟩⟩
  have e : (pk E s.L).t = t := e
  show (pk E s.L).k = 4 ∨ (pk E s.L).k = 3
  rcases ht with ht | ht
  · exact Or.inl (kind_sign h.tok (by rw [e]; exact ht))
  · exact Or.inr (kind_key h.tok (by rw [e]; exact ht))
theorem is_yes {E : Nat} {s : S3} (h : HS s) {a0 t0 : Int} {t : List UInt8} (ht : SgnKeyL t) (e : (pk E s.L).t = t) : isR E t (rs s a0 t0) = true := by rw [is_rs h a0 t0 ht]; exact decide_eq_true e
theorem is_no {E : Nat} {s : S3} (h : HS s) {a0 t0 : Int} {t : List UInt8} (ht : SgnKeyL t) (e : (pk E s.L).t ≠ t) : isR E t (rs s a0 t0) = false := by rw [is_rs h a0 t0 ht]; exact decide_eq_false e
theorem want_yes {E : Nat} {s : S3} (h : HS s) {a0 t0 : Int} {t : List UInt8} (ht : SgnKeyL t) (e : (pk E s.L).t = t) : wantR E t (rs s a0 t0) = rs { s with L := s.L.tail } a0 t0 := by
  unfold wantR; rw [is_yes h ht e, if_pos rfl, skip_rs]
theorem want_no {E : Nat} {s : S3} (h : HS s) {a0 t0 : Int} {t : List UInt8} (ht : SgnKeyL t) (e : (pk E s.L).t ≠ t) : wantR E t (rs s a0 t0) = ⟨s.N, s.L, 1, (pk E s.L).a, t0⟩ := by
  unfold wantR; rw [is_no h ht e, stop_rs]; exact if_neg (by decide)
theorem word_yes {E : Nat} {s : S3} {t : List UInt8} (e : (pk E s.L).t = t) : wordF E t s = .ok { s with L := s.L.tail } := by unfold wordF; exact if_pos e
theorem word_no {E : Nat} {s : S3} {t : List UInt8} (e : (pk E s.L).t ≠ t) : wordF E t s = .bad 1 (pk E s.L).a := by unfold wordF; exact if_neg e

/-- what a job of the reader gives, by what the parser gives: one node more -/
def Gv (s : S3) (a0 : Int) (O0 : List Int) (o : Option RL) : R3 → Prop
  | .ok s' => HS s' ∧ ∃ o', s'.O = O0 ++ [o'] ∧ o = some (rs s' a0 o', [])
  | .bad c a => c ≠ 0 ∧ ∃ r', o = some (r', []) ∧ r'.c = c ∧ r'.a = a
  | .out => True
/-- likewise: a list of nodes -/
def GvL (s : S3) (a0 : Int) (out : List Int) (o : Option RL) : R3 → Prop
  | .ok s' => HS s' ∧ ∃ new t', s'.O = s.O ++ new ∧ o = some (rs s' a0 t', out ++ new)
  | .bad c a => c ≠ 0 ∧ ∃ q, o = some q ∧ q.1.c = c ∧ q.1.a = a
  | .out => True
theorem add_gv {s : S3} (h : HS s) (x : Mn) {O0 ks : List Int} (hO : s.O = O0 ++ ks) (a0 t0 : Int) (s0 : S3) : Gv s0 a0 O0 (alone (addR x ks (rs s a0 t0))) (addF x O0.length s) := by
  unfold addF
  have hl : s.O.length = O0.length + ks.length := by rw [hO, List.length_append]
  have h1 := h.low
  have h2 := h.few
  split
  · exact trivial
  · next hn =>
    have hd : s.O.drop O0.length = ks := by rw [hO, List.drop_left]
    have ht : s.O.take O0.length = O0 := by rw [hO, List.take_left]
    refine ⟨⟨?_, ?_, h.tok⟩, s.N.length, by show s.O.take O0.length ++ _ = _; rw [ht], ?_⟩
    · show (s.O.take O0.length ++ [(s.N.length : Int)]).length ≤ (s.N ++ [_]).length
      rw [ht, List.length_append, List.length_append, List.length_singleton, List.length_singleton]; omega
    · show (s.N ++ [_]).length ≤ 5000000
      rw [List.length_append, List.length_singleton]; omega
    · unfold addR
      rw [ok_rs, if_pos rfl, if_neg (show ¬(5000000 ≤ (rs s a0 t0).N.length ∨ 5000000 < ks.length) from by show ¬(5000000 ≤ s.N.length ∨ _); omega)]
      show some (_, _) = some (_, _)
      unfold rs
      rw [hd]
theorem Gv.bad {s : S3} {a0 : Int} {O0 : List Int} {o : Option RL} {r' : Rs} (hr : r'.c ≠ 0) (h : o = some (r', [])) : Gv s a0 O0 o (.bad r'.c r'.a) := ⟨hr, r', h, rfl, rfl⟩
end Go.Proofs.YtbjacclfhgnffaaGreatDoor
/-
  Plain: the document's reader and the program's parser of expressions give the same, by the number of steps.
-/
namespace Go.Proofs.YtbjacclfhgnffaaGreatDoor
open Go.RowKit
open Tk (T4 bstr)

theorem bind_assoc3 (r : R3) (f g : F3) : (r.bind f).bind g = r.bind (fun s => (f s).bind g) := by cases r <;> rfl
theorem Gv.bind {s s2 : S3} {a0 : Int} {O1 O0 : List Int} {x : Option RL} {r : R3} {f : F3} {g : RL → Option RL} (h : Gv s a0 O1 x r)
    (hok : ∀ s' o', HS s' → s'.O = O1 ++ [o'] → Gv s2 a0 O0 (g (rs s' a0 o', [])) (f s')) (hbad : ∀ r' : Rs, r'.c ≠ 0 → g (r', []) = some (r', [])) : Gv s2 a0 O0 (x.bind g) (r.bind f) := by
  cases r with
  | out => trivial
  | bad c a =>
    obtain ⟨hc, r', rfl, rfl, rfl⟩ := h
    exact ⟨hc, r', hbad r' hc, rfl, rfl⟩
  | ok s' =>
    obtain ⟨hs, o', hO, rfl⟩ := h
    exact hok s' o' hs hO
theorem Gv.wrong {s s0 : S3} {a0 : Int} {O0 : List Int} {o : Option RL} {E : Nat} {r' : Rs} (hr : r' = ⟨s0.N, s0.L, 1, (pk E s0.L).a, r'.top⟩) (h : o = some (r', [])) : Gv s a0 O0 o (.bad 1 (pk E s0.L).a) :=
  ⟨by decide, r', h, by rw [hr], by rw [hr]⟩
structure Sim (E n : Nat) : Prop where
  expr : ∀ s a0 t0, HS s → Gv s a0 s.O (runR E (n + 6) .expr (rs s a0 t0)) (runJ E n .expr s)
  pairs : ∀ low s a0 t0, HS s → Gv s a0 s.O (runR E (n + 6) (.level (low + 1)) (rs s a0 t0)) (runJ E n (.pairs (low + 2)) s)
  pairsL : ∀ low s a0 O0 t0, HS s → s.O = O0 ++ [t0] → Gv s a0 O0 (runR E (n + 6) (.levelL (low + 1)) (rs s a0 t0)) (runJ E n (.pairsL (low + 2) O0.length) s)
  prefixed : ∀ s a0 t0, HS s → Gv s a0 s.O (runR E (n + 6) .ahead (rs s a0 t0)) (runJ E n .prefixed s)
  postfixed : ∀ s a0 t0, HS s → Gv s a0 s.O (runR E (n + 6) .behind (rs s a0 t0)) (runJ E n .postfixed s)
  postL : ∀ s a0 O0 t0, HS s → s.O = O0 ++ [t0] → Gv s a0 O0 (runR E (n + 6) .behindL (rs s a0 t0)) (runJ E n (.postL O0.length) s)
  primary : ∀ s a0 t0, HS s → Gv s a0 s.O (runR E (n + 6) .first (rs s a0 t0)) (runJ E n .primary s)
  items : ∀ e s a0 t0 r0 first out, HS s → e ≠ [44] → SgnKeyL e → okR r0 = true → isR E e r0 = false → (if first = true then r0 else wantR E [44] r0) = rs s a0 t0 → out.length ≤ s.O.length →
    GvL s a0 out (runR E (n + 6) (.listL e first out) r0) (runJ E n (.items e .expr) s)
  list : ∀ o e s a0 t0, HS s → e ≠ [44] → SgnKeyL e → (pk E s.L).t = o → GvL s a0 [] (runR E (n + 6) (.list e) (rs { s with L := s.L.tail } a0 t0)) (runJ E n (.list o e .expr) s)
theorem sgn (t : List UInt8) (h : Tk.signB t = true) : SgnKeyL t := Or.inl h
theorem level_sign {t : List UInt8} (h : 2 ≤ levelT t) : Tk.signB t = true := by
  unfold levelT at h
  repeat' split at h
  all_goals first
    | omega
    | (next h1 => subst h1; decide)
    | (next h1 => rcases h1 with h1 | h1 <;> subst h1 <;> decide)
    | (next h1 => rcases h1 with h1 | h1 | h1 <;> subst h1 <;> decide)
    | (next h1 => rcases h1 with h1 | h1 | h1 | h1 <;> subst h1 <;> decide)
theorem set_sign {t : List UInt8} (h : setT t = true) : Tk.signB t = true := by
  unfold setT at h
  rw [decide_eq_true_eq] at h
  simp only [List.mem_cons, List.not_mem_nil, or_false] at h
  rcases h with rfl | rfl | rfl | rfl | rfl | rfl | rfl | rfl | rfl | rfl | rfl <;> decide

theorem bad1 (N : List Mn) (L : List T4) (a t : Int) : (Rs.mk N L 1 a t).c ≠ 0 := by show (1 : Int) ≠ 0; decide
theorem addR_ok {s : S3} (h : HS s) (x : Mn) {O0 ks : List Int} (hO : s.O = O0 ++ ks) (a0 t0 : Int) : match addF x O0.length s with
    | .ok s' => HS s' ∧ ∃ o', s'.O = O0 ++ [o'] ∧ addR x ks (rs s a0 t0) = some (rs s' a0 o')
    | .bad _ _ => False
    | .out => True := by
  have hg := add_gv h x hO a0 t0 s
  cases ha : addF x O0.length s with
  | out => trivial
  | bad c a => unfold addF at ha; split at ha <;> cases ha
  | ok s3 =>
    rw [ha] at hg
    obtain ⟨h3, o3, hO3, e3⟩ := hg
    refine ⟨h3, o3, hO3, ?_⟩
    unfold alone at e3
    cases hx : addR x ks (rs s a0 t0) with
    | none => rw [hx] at e3; cases e3
    | some r3 => rw [hx] at e3; injection e3 with e3; injection e3 with e3; rw [e3]
theorem listL_end {E : Nat} {e : List UInt8} {s : S3} (hs : HS s) (he : SgnKeyL e) {m : Nat} {a0 t0 : Int} {first : Bool} {out : List Int} (h : (pk E s.L).t = e) : runR E (m + 1) (.listL e first out) (rs s a0 t0) = some (rs { s with L := s.L.tail } a0 t0, out) := by
  show (if (okR (rs s a0 t0) && !isR E e (rs s a0 t0)) = true then _ else some (wantR E e (rs s a0 t0), out)) = _
  rw [is_yes hs he h, want_yes hs he h]; rfl

section step
variable {E n : Nat} (ih : Sim E n)
include ih
theorem sim_expr (s : S3) (a0 t0 : Int) (hs : HS s) : Gv s a0 s.O (runR E (n + 1 + 6) .expr (rs s a0 t0)) (runJ E (n + 1) .expr s) := by
  show Gv s a0 s.O ((runR E (n + 6) (.level 1) (rs s a0 t0)).bind _) ((runJ E n (.pairs 2) s).bind _)
  refine Gv.bind (ih.pairs 0 s a0 t0 hs) (fun s1 o1 h1 hO1 => ?_) (fun r' hr => by simp [isR_bad hr, okR_bad hr])
  by_cases hq : (pk E s1.L).t = [63]
  · rw [if_pos hq, if_pos (is_yes h1 (sgn _ (by decide)) hq)]
    show Gv s a0 s.O ((runR E (n + 6) .expr (rs { s1 with L := s1.L.tail } a0 o1)).bind _) (R3.bind (R3.bind (wordF E [63] s1) (seqF [runJ E n .expr, wordF E [58], runJ E n .expr])) (addF _ _))
    rw [word_yes hq]
    show Gv s a0 s.O _ (R3.bind (R3.bind (runJ E n .expr { s1 with L := s1.L.tail }) (seqF [wordF E [58], runJ E n .expr])) (addF _ _))
    rw [bind_assoc3]
    refine Gv.bind (ih.expr _ a0 o1 h1.tail) (fun s2 o2 h2 hO2 => ?_) (fun r' hr => by simp [wantR_bad hr, bad_expr hr, addR_bad hr, alone])
    show Gv s a0 s.O ((runR E (n + 6) .expr (wantR E [58] (rs s2 a0 o2))).bind _) (R3.bind (R3.bind (wordF E [58] s2) (seqF [runJ E n .expr])) (addF _ _))
    by_cases hc : (pk E s2.L).t = [58]
    · rw [word_yes hc, want_yes h2 (sgn _ (by decide)) hc]
      show Gv s a0 s.O _ (R3.bind (R3.bind (runJ E n .expr { s2 with L := s2.L.tail }) (seqF [])) (addF _ _))
      rw [bind_assoc3]
      refine Gv.bind (ih.expr _ a0 o2 h2.tail) (fun s3 o3 h3 hO3 => ?_) (fun r' hr => by simp [addR_bad hr, alone])
      refine add_gv h3 _ (ks := [o1, o2, o3]) ?_ a0 o3 s
      have e2 : s2.O = s1.O ++ [o2] := hO2
      have e3 : s3.O = s2.O ++ [o3] := hO3
      rw [e3, e2, hO1]; simp
    · rw [word_no hc, want_no h2 (sgn _ (by decide)) hc, bad_expr (bad1 _ _ _ _)]
      exact Gv.wrong (s0 := s2) (r' := ⟨s2.N, s2.L, 1, (pk E s2.L).a, o2⟩) rfl (by simp [addR_bad (r := ⟨s2.N, s2.L, 1, (pk E s2.L).a, o2⟩) (bad1 _ _ _ _), alone])
  · rw [if_neg hq, if_neg (by rw [is_no h1 (sgn _ (by decide)) hq]; decide)]
    by_cases ht : setT (pk E s1.L).t = true
    · have hk := kind_sign h1.tok (set_sign ht)
      rw [if_pos ht, if_pos (by show (okR (rs s1 a0 o1) && decide ((pk E s1.L).k = 4) && setT (pk E s1.L).t) = true; rw [ok_rs, hk, ht]; rfl)]
      show Gv s a0 s.O ((runR E (n + 6) .expr (rs { s1 with L := s1.L.tail } a0 o1)).bind _) (R3.bind (R3.bind (wordF E (pk E s1.L).t s1) (seqF [runJ E n .expr])) (addF _ _))
      rw [word_yes rfl]
      show Gv s a0 s.O _ (R3.bind (R3.bind (runJ E n .expr { s1 with L := s1.L.tail }) (seqF [])) (addF _ _))
      rw [bind_assoc3]
      refine Gv.bind (ih.expr _ a0 o1 h1.tail) (fun s2 o2 h2 hO2 => ?_) (fun r' hr => by simp [addR_bad hr, alone])
      refine add_gv h2 _ (ks := [o1, o2]) ?_ a0 o2 s
      have e2 : s2.O = s1.O ++ [o2] := hO2
      rw [e2, hO1]; simp
    · rw [if_neg ht, if_neg (by show ¬ (okR (rs s1 a0 o1) && decide ((pk E s1.L).k = 4) && setT (pk E s1.L).t) = true; rw [Bool.and_eq_true]; exact fun h => ht h.2)]
      exact ⟨h1, o1, hO1, rfl⟩
theorem sim_pairs (low : Nat) (s : S3) (a0 t0 : Int) (hs : HS s) : Gv s a0 s.O (runR E (n + 1 + 6) (.level (low + 1)) (rs s a0 t0)) (runJ E (n + 1) (.pairs (low + 2)) s) := by
  show Gv s a0 s.O ((runR E (n + 6) .ahead (rs s a0 t0)).bind _) (if 1000 < low + 2 then .out else (runJ E n .prefixed s).bind _)
  split
  · trivial
  · exact Gv.bind (ih.prefixed s a0 t0 hs) (fun s1 o1 h1 hO1 => ih.pairsL low s1 a0 s.O o1 h1 hO1) (fun r' hr => bad_levelL hr _ _)
theorem sim_pairsL (low : Nat) (s : S3) (a0 : Int) (O0 : List Int) (t0 : Int) (hs : HS s) (hO : s.O = O0 ++ [t0]) : Gv s a0 O0 (runR E (n + 1 + 6) (.levelL (low + 1)) (rs s a0 t0)) (runJ E (n + 1) (.pairsL (low + 2) O0.length) s) := by
  show Gv s a0 O0 (if (okR (rs s a0 t0) && decide ((pk E s.L).k = 4) && decide (low + 1 ≤ rankT (pk E s.L).t)) = true then _ else _) (if low + 2 ≤ levelT (pk E s.L).t then _ else _)
  have hr := rank_level (pk E s.L).t
  by_cases hl : low + 2 ≤ levelT (pk E s.L).t
  · have hk := kind_sign hs.tok (level_sign (by omega : 2 ≤ levelT (pk E s.L).t))
    have hrl : rankT (pk E s.L).t + 1 = levelT (pk E s.L).t := by omega
    rw [if_pos hl, if_pos (by rw [ok_rs, hk]; simp; omega)]
    show Gv s a0 O0 ((runR E (n + 6) (.level (rankT (pk E s.L).t + 1)) (rs { s with L := s.L.tail } a0 t0)).bind _) (R3.bind (R3.bind (R3.bind (runJ E n (.pairs (levelT (pk E s.L).t + 1)) { s with L := s.L.tail }) (seqF [])) (addF _ _)) _)
    rw [bind_assoc3, bind_assoc3]
    have hp := ih.pairs (rankT (pk E s.L).t) { s with L := s.L.tail } a0 t0 hs.tail
    rw [show rankT (pk E s.L).t + 2 = levelT (pk E s.L).t + 1 by omega] at hp
    refine Gv.bind hp (fun s2 o2 h2 hO2 => ?_) (fun r' hr => by simp [addR_bad hr, bad_levelL hr])
    have hkk : (if rankT (pk E s.L).t < 3 then (37 : Int) else 36) = pairK (levelT (pk E s.L).t) := by
      unfold pairK
      by_cases h3 : rankT (pk E s.L).t < 3
      · rw [if_pos h3, if_pos (by omega)]
      · rw [if_neg h3, if_neg (by omega)]
    have e2 : s2.O = s.O ++ [o2] := hO2
    have hg := add_gv h2 (mk (pairK (levelT (pk E s.L).t)) (pk E s.L).t 0 (pk E s.L).a) (O0 := O0) (ks := [t0, o2]) (by rw [e2, hO]; simp) a0 o2 s
    show Gv s a0 O0 ((addR (mk (if rankT (pk E s.L).t < 3 then 37 else 36) (pk E s.L).t 0 (pk E s.L).a) [t0, o2] (rs s2 a0 o2)).bind _) (R3.bind (addF _ O0.length s2) (runJ E n (.pairsL (low + 2) O0.length)))
    rw [hkk]
    cases ha : addF (mk (pairK (levelT (pk E s.L).t)) (pk E s.L).t 0 (pk E s.L).a) O0.length s2 with
    | out => trivial
    | bad c a => unfold addF at ha; split at ha <;> cases ha
    | ok s3 =>
      rw [ha] at hg
      obtain ⟨h3, o3, hO3, e3⟩ := hg
      unfold alone at e3
      cases hx : addR (mk (pairK (levelT (pk E s.L).t)) (pk E s.L).t 0 (pk E s.L).a) [t0, o2] (rs s2 a0 o2) with
      | none => rw [hx] at e3; cases e3
      | some r3 =>
        rw [hx] at e3
        injection e3 with e3
        injection e3 with e3
        subst e3
        exact ih.pairsL low s3 a0 O0 o3 h3 hO3
  · rw [if_neg hl, if_neg (by rw [Bool.and_eq_true, decide_eq_true_eq]; omega)]
    exact ⟨hs, t0, hO, rfl⟩
theorem sim_prefixed (s : S3) (a0 t0 : Int) (hs : HS s) : Gv s a0 s.O (runR E (n + 1 + 6) .ahead (rs s a0 t0)) (runJ E (n + 1) .prefixed s) := by
  have i1 := is_rs (E := E) hs a0 t0 (sgn [45] (by decide))
  have i2 := is_rs (E := E) hs a0 t0 (sgn [33] (by decide))
  have i3 := is_rs (E := E) hs a0 t0 (sgn [126] (by decide))
  have i4 := is_rs (E := E) hs a0 t0 (sgn [42] (by decide))
  have i5 := is_rs (E := E) hs a0 t0 (sgn [38] (by decide))
  have i6 := is_rs (E := E) hs a0 t0 (sgn [43, 43] (by decide))
  have i7 := is_rs (E := E) hs a0 t0 (sgn [45, 45] (by decide))
  show Gv s a0 s.O (if (isR E [45] (rs s a0 t0) || isR E [33] (rs s a0 t0) || isR E [126] (rs s a0 t0) || isR E [42] (rs s a0 t0) || isR E [38] (rs s a0 t0)) = true then (runR E (n + 6) .ahead (rs { s with L := s.L.tail } a0 t0)).bind _
    else if (isR E [43, 43] (rs s a0 t0) || isR E [45, 45] (rs s a0 t0)) = true then (runR E (n + 6) .ahead (rs { s with L := s.L.tail } a0 t0)).bind _ else (runR E (n + 6) .behind (rs s a0 t0)).bind _) (if prefT (pk E s.L).t = 0 then _ else _)
  rw [i1, i2, i3, i4, i5, i6, i7]
  have key : ∀ k, prefT (pk E s.L).t = k → k ≠ 0 → Gv s a0 s.O ((runR E (n + 6) .ahead (rs { s with L := s.L.tail } a0 t0)).bind fun q => alone (addR (mk k (pk E s.L).t 0 (pk E s.L).a) [q.1.top] q.1))
      (buildF (mk (prefT (pk E s.L).t) (pk E s.L).t 0 (pk E s.L).a) [wordF E (pk E s.L).t, runJ E n .prefixed] s) := by
    intro k hk _
    rw [hk]
    show Gv s a0 s.O _ (R3.bind (R3.bind (wordF E (pk E s.L).t s) (seqF [runJ E n .prefixed])) (addF _ _))
    rw [word_yes rfl]
    show Gv s a0 s.O _ (R3.bind (R3.bind (runJ E n .prefixed { s with L := s.L.tail }) (seqF [])) (addF _ _))
    rw [bind_assoc3]
    exact Gv.bind (ih.prefixed _ a0 t0 hs.tail) (fun s2 o2 h2 hO2 => add_gv h2 _ (ks := [o2]) hO2 a0 o2 s) (fun r' hr => by simp [addR_bad hr, alone])
  by_cases h1 : (pk E s.L).t = [45] ∨ (pk E s.L).t = [33] ∨ (pk E s.L).t = [126] ∨ (pk E s.L).t = [42] ∨ (pk E s.L).t = [38]
  · have hp : prefT (pk E s.L).t = 35 := by unfold prefT; rw [if_pos h1]
    rw [if_pos (by simpa [or_assoc] using h1), if_neg (by rw [hp]; decide)]
    exact key 35 hp (by decide)
  · by_cases h2 : (pk E s.L).t = [43, 43] ∨ (pk E s.L).t = [45, 45]
    · have hp : prefT (pk E s.L).t = 40 := by unfold prefT; rw [if_neg h1, if_pos h2]
      rw [if_neg (by simpa [or_assoc] using h1), if_pos (by simpa using h2), if_neg (by rw [hp]; decide)]
      exact key 40 hp (by decide)
    · have hp : prefT (pk E s.L).t = 0 := by unfold prefT; rw [if_neg h1, if_neg h2]
      rw [if_neg (by simpa [or_assoc] using h1), if_neg (by simpa using h2), if_pos hp]
      have h := Gv.bind (s2 := s) (O0 := s.O) (f := .ok) (g := fun q => some (q.1, [])) (ih.postfixed s a0 t0 hs) (fun s2 o2 h2 hO2 => ⟨h2, o2, hO2, rfl⟩) (fun r' hr => rfl)
      have e : (runJ E n .postfixed s).bind .ok = runJ E n .postfixed s := by cases runJ E n .postfixed s <;> rfl
      rw [e] at h
      exact h
theorem sim_postfixed (s : S3) (a0 t0 : Int) (hs : HS s) : Gv s a0 s.O (runR E (n + 1 + 6) .behind (rs s a0 t0)) (runJ E (n + 1) .postfixed s) := by
  show Gv s a0 s.O ((runR E (n + 6) .first (rs s a0 t0)).bind _) ((runJ E n .primary s).bind _)
  exact Gv.bind (ih.primary s a0 t0 hs) (fun s1 o1 h1 hO1 => ih.postL s1 a0 s.O o1 h1 hO1) (fun r' hr => bad_behindL hr _)
theorem sim_postL (s : S3) (a0 : Int) (O0 : List Int) (t0 : Int) (hs : HS s) (hO : s.O = O0 ++ [t0]) : Gv s a0 O0 (runR E (n + 1 + 6) .behindL (rs s a0 t0)) (runJ E (n + 1) (.postL O0.length) s) := by
  have i1 := is_rs (E := E) hs a0 t0 (sgn [91] (by decide))
  have i6 := is_rs (E := E) hs a0 t0 (sgn [43, 43] (by decide))
  have i7 := is_rs (E := E) hs a0 t0 (sgn [45, 45] (by decide))
  show Gv s a0 O0 (if (isR E [91] (rs s a0 t0) || isR E [43, 43] (rs s a0 t0) || isR E [45, 45] (rs s a0 t0)) = true then
      (if isR E [91] (rs s a0 t0) = true then (runR E (n + 6) .expr (rs { s with L := s.L.tail } a0 t0)).bind _ else (addR (mk 40 (pk E s.L).t 1 (pk E s.L).a) [t0] (rs { s with L := s.L.tail } a0 t0)).bind _) else _)
    (if (pk E s.L).t = [91] then _ else if (pk E s.L).t = [43, 43] ∨ (pk E s.L).t = [45, 45] then _ else _)
  rw [i1, i6, i7]
  by_cases h1 : (pk E s.L).t = [91]
  · rw [if_pos (by simp [h1]), if_pos (by simp [h1]), if_pos h1]
    show Gv s a0 O0 _ (R3.bind (R3.bind (R3.bind (wordF E [91] s) (seqF [runJ E n .expr, wordF E [93]])) (addF _ _)) _)
    rw [word_yes h1]
    show Gv s a0 O0 _ (R3.bind (R3.bind (R3.bind (runJ E n .expr { s with L := s.L.tail }) (seqF [wordF E [93]])) (addF _ _)) _)
    rw [bind_assoc3, bind_assoc3]
    refine Gv.bind (ih.expr _ a0 t0 hs.tail) (fun s2 o2 h2 hO2 => ?_) (fun r' hr => by simp [wantR_bad hr, addR_bad hr, bad_behindL hr])
    show Gv s a0 O0 ((addR _ [t0, o2] (wantR E [93] (rs s2 a0 o2))).bind _) (R3.bind (R3.bind (wordF E [93] s2) (seqF [])) (fun s_1 => (addF (mk 34 [] 0 (pk E s.L).a) O0.length s_1).bind (runJ E n (.postL O0.length))))
    by_cases hc : (pk E s2.L).t = [93]
    · rw [word_yes hc, want_yes h2 (sgn _ (by decide)) hc]
      have e2 : s2.O = s.O ++ [o2] := hO2
      have hg := addR_ok (s := { s2 with L := s2.L.tail }) h2.tail (mk 34 [] 0 (pk E s.L).a) (O0 := O0) (ks := [t0, o2]) (by show s2.O = _; rw [e2, hO]; simp) a0 o2
      show Gv s a0 O0 _ (R3.bind (addF (mk 34 [] 0 (pk E s.L).a) O0.length { s2 with L := s2.L.tail }) (runJ E n (.postL O0.length)))
      cases ha : addF (mk 34 [] 0 (pk E s.L).a) O0.length { s2 with L := s2.L.tail } with
      | out => trivial
      | bad c a => rw [ha] at hg; exact hg.elim
      | ok s3 =>
        rw [ha] at hg
        obtain ⟨h3, o3, hO3, e3⟩ := hg
        show Gv s a0 O0 ((addR (mk 34 [] 0 (pk E s.L).a) [t0, o2] (rs { s2 with L := s2.L.tail } a0 o2)).bind _) _
        rw [e3]
        exact ih.postL s3 a0 O0 o3 h3 hO3
    · rw [word_no hc, want_no h2 (sgn _ (by decide)) hc, addR_bad (bad1 _ _ _ _)]
      exact Gv.wrong (s0 := s2) (r' := ⟨s2.N, s2.L, 1, (pk E s2.L).a, o2⟩) rfl (bad_behindL (bad1 _ _ _ _) _)
  · by_cases h2 : (pk E s.L).t = [43, 43] ∨ (pk E s.L).t = [45, 45]
    · rw [if_pos (by simp [h1]; exact h2), if_neg (by simp [h1]), if_neg h1, if_pos h2]
      have hg := addR_ok (s := { s with L := s.L.tail }) hs.tail (mk 40 (pk E s.L).t 1 (pk E s.L).a) (O0 := O0) (ks := [t0]) hO a0 t0
      cases ha : addF (mk 40 (pk E s.L).t 1 (pk E s.L).a) O0.length { s with L := s.L.tail } with
      | out => trivial
      | bad c a => rw [ha] at hg; exact hg.elim
      | ok s3 =>
        rw [ha] at hg
        obtain ⟨h3, o3, hO3, e3⟩ := hg
        rw [e3]
        exact ih.postL s3 a0 O0 o3 h3 hO3
    · rw [if_neg (by simp [h1]; exact not_or.1 h2), if_neg h1, if_neg h2]
      exact ⟨hs, t0, hO, rfl⟩
theorem sim_primary (s : S3) (a0 t0 : Int) (hs : HS s) : Gv s a0 s.O (runR E (n + 1 + 6) .first (rs s a0 t0)) (runJ E (n + 1) .primary s) := by
  show Gv s a0 s.O (if (okR (rs s a0 t0) && decide ((pk E s.L).k = 2)) = true then alone (addR (mk 31 [] (pk E s.L).v (pk E s.L).a) [] (rs { s with L := s.L.tail } a0 t0))
      else if (okR (rs s a0 t0) && decide ((pk E s.L).k = 1)) = true then
        (if isR E [40] (rs { s with L := s.L.tail } a0 t0) = true then (runR E (n + 6) (.list [41]) (rs { s with L := s.L.tail.tail } a0 t0)).bind _ else alone (addR (mk 32 (pk E s.L).t 0 (pk E s.L).a) [] (rs { s with L := s.L.tail } a0 t0)))
      else if isR E [40] (rs s a0 t0) = true then (runR E (n + 6) .expr (rs { s with L := s.L.tail } a0 t0)).bind _ else _)
    (if (pk E s.L).k = 2 then _ else if (pk E s.L).k = 1 then (if (pk E s.L.tail).t = [40] then _ else _) else _)
  rw [ok_rs, Bool.true_and, Bool.true_and]
  have h0 : s.O = s.O ++ [] := by simp
  by_cases h2 : (pk E s.L).k = 2
  · rw [if_pos (by rw [h2]; rfl), if_pos h2]
    exact add_gv (s := { s with L := s.L.tail }) hs.tail (mk 31 [] (pk E s.L).v (pk E s.L).a) (O0 := s.O) (ks := []) h0 a0 t0 s
  · rw [if_neg (by simpa using h2), if_neg h2]
    by_cases h1 : (pk E s.L).k = 1
    · rw [if_pos (by rw [h1]; rfl), if_pos h1]
      by_cases hb : (pk E s.L.tail).t = [40]
      · rw [if_pos hb, if_pos (is_yes (s := { s with L := s.L.tail }) hs.tail (sgn _ (by decide)) hb)]
        show Gv s a0 s.O _ (R3.bind (R3.bind (runJ E n (.list [40] [41] .expr) { s with L := s.L.tail }) (seqF [])) (addF _ _))
        rw [bind_assoc3]
        have hg := ih.list [40] [41] { s with L := s.L.tail } a0 t0 hs.tail (by decide) (sgn _ (by decide)) hb
        cases hr : runJ E n (.list [40] [41] .expr) { s with L := s.L.tail } with
        | out => trivial
        | bad c a =>
          rw [hr] at hg
          obtain ⟨hc, ⟨r', l⟩, e, rfl, rfl⟩ := hg
          refine ⟨hc, r', ?_, rfl, rfl⟩
          show ((runR E (n + 6) (.list [41]) _).bind _) = _
          rw [e]
          show alone (addR _ _ r') = _
          rw [addR_bad hc]; rfl
        | ok s2 =>
          rw [hr] at hg
          obtain ⟨h2, new, t', hO, e⟩ := hg
          show Gv s a0 s.O ((runR E (n + 6) (.list [41]) _).bind _) (addF _ _ s2)
          rw [e]
          exact add_gv h2 _ (O0 := s.O) (ks := new) hO a0 t' s
      · rw [if_neg hb, if_neg (by rw [is_no (s := { s with L := s.L.tail }) hs.tail (sgn _ (by decide)) hb]; decide)]
        exact add_gv (s := { s with L := s.L.tail }) hs.tail (mk 32 (pk E s.L).t 0 (pk E s.L).a) (O0 := s.O) (ks := []) h0 a0 t0 s
    · rw [if_neg (by simpa using h1), if_neg h1]
      show Gv s a0 s.O _ (R3.bind (wordF E [40] s) (seqF [runJ E n .expr, wordF E [41]]))
      by_cases hb : (pk E s.L).t = [40]
      · rw [word_yes hb, if_pos (is_yes hs (sgn _ (by decide)) hb)]
        show Gv s a0 s.O _ (R3.bind (runJ E n .expr { s with L := s.L.tail }) (seqF [wordF E [41]]))
        refine Gv.bind (ih.expr _ a0 t0 hs.tail) (fun s2 o2 h2 hO2 => ?_) (fun r' hr => by simp [wantR_bad hr])
        show Gv s a0 s.O (some (wantR E [41] (rs s2 a0 o2), [])) (R3.bind (wordF E [41] s2) (seqF []))
        by_cases hc : (pk E s2.L).t = [41]
        · rw [word_yes hc, want_yes h2 (sgn _ (by decide)) hc]
          exact ⟨h2.tail, o2, hO2, rfl⟩
        · rw [word_no hc, want_no h2 (sgn _ (by decide)) hc]
          exact Gv.wrong (s0 := s2) (r' := ⟨s2.N, s2.L, 1, (pk E s2.L).a, o2⟩) rfl rfl
      · rw [word_no hb, if_neg (by rw [is_no hs (sgn _ (by decide)) hb]; decide), stop_rs]
        exact Gv.wrong (s0 := s) (r' := ⟨s.N, s.L, 1, (pk E s.L).a, t0⟩) rfl rfl
theorem sim_items (e : List UInt8) (s : S3) (a0 t0 : Int) (r0 : Rs) (first : Bool) (out : List Int) (hs : HS s) (hne : e ≠ [44]) (he : SgnKeyL e) (hok : okR r0 = true) (his : isR E e r0 = false)
    (hr0 : (if first = true then r0 else wantR E [44] r0) = rs s a0 t0) (hout : out.length ≤ s.O.length) : GvL s a0 out (runR E (n + 1 + 6) (.listL e first out) r0) (runJ E (n + 1) (.items e .expr) s) := by
  show GvL s a0 out (if (okR r0 && !isR E e r0) = true then _ else _) ((runJ E n .expr s).bind _)
  rw [if_pos (by rw [hok, his]; rfl)]
  show GvL s a0 out ((runR E (n + 6) .expr (if first = true then r0 else wantR E [44] r0)).bind _) _
  rw [hr0]
  have h1 := ih.expr s a0 t0 hs
  cases hr : runJ E n .expr s with
  | out => trivial
  | bad c a =>
    rw [hr] at h1
    obtain ⟨hc, r', e1, rfl, rfl⟩ := h1
    rw [e1]
    refine ⟨hc, (r', out ++ [r'.top]), ?_, rfl, rfl⟩
    show (if 6000000 ≤ out.length then none else runR E (n + 6) (.listL e false (out ++ [r'.top])) r') = _
    rw [if_neg (by have := hs.low; have := hs.few; omega), bad_listL hc]
  | ok s1 =>
    rw [hr] at h1
    obtain ⟨h1, o1, hO1, e1⟩ := h1
    rw [e1]
    show GvL s a0 out (if 6000000 ≤ out.length then none else runR E (n + 6) (.listL e false (out ++ [o1])) (rs s1 a0 o1)) (if (pk E s1.L).t = [44] then runJ E n (.items e .expr) { s1 with L := s1.L.tail } else wordF E e s1)
    have hl1 : s1.O.length = s.O.length + 1 := by rw [hO1, List.length_append]; rfl
    rw [if_neg (by have := h1.low; have := h1.few; omega)]
    by_cases hc : (pk E s1.L).t = [44]
    · rw [if_pos hc]
      have hne' : (pk E s1.L).t ≠ e := fun h => hne (by rw [← h, hc])
      have hg := ih.items e { s1 with L := s1.L.tail } a0 o1 (rs s1 a0 o1) false (out ++ [o1]) h1.tail hne he rfl (is_no h1 he hne') (by rw [want_yes h1 (sgn _ (by decide)) hc]; rfl) (by rw [List.length_append]; show _ ≤ s1.O.length; simp; omega)
      cases hr2 : runJ E n (.items e .expr) { s1 with L := s1.L.tail } with
      | out => trivial
      | bad c a => rw [hr2] at hg; exact hg
      | ok s2 =>
        rw [hr2] at hg
        obtain ⟨h2, new, t', hO2, e2⟩ := hg
        refine ⟨h2, o1 :: new, t', ?_, ?_⟩
        · have hO2 : s2.O = s1.O ++ new := hO2
          rw [hO2, hO1]; simp
        · rw [e2]; simp
    · rw [if_neg hc]
      obtain ⟨k, hk⟩ : ∃ k, n + 6 = k + 6 := ⟨n, rfl⟩
      by_cases hq : (pk E s1.L).t = e
      · rw [word_yes hq, listL_end h1 he hq]
        exact ⟨h1.tail, [o1], o1, hO1, rfl⟩
      · rw [word_no hq]
        refine ⟨by decide, ?_⟩
        show ∃ q, (if (okR (rs s1 a0 o1) && !isR E e (rs s1 a0 o1)) = true then (runR E (n + 5) .expr (wantR E [44] (rs s1 a0 o1))).bind (fun q => if 6000000 ≤ (out ++ [o1]).length then none else runR E (n + 5) (.listL e false (out ++ [o1] ++ [q.1.top])) q.1) else _) = some q ∧ _
        rw [is_no h1 he hq, ok_rs, want_no h1 (sgn _ (by decide)) hc, bad_expr (bad1 _ _ _ _)]
        refine ⟨(⟨s1.N, s1.L, 1, (pk E s1.L).a, o1⟩, out ++ [o1] ++ [o1]), ?_, rfl, rfl⟩
        show (if 6000000 ≤ (out ++ [o1]).length then none else runR E (n + 5) (.listL e false (out ++ [o1] ++ [o1])) ⟨s1.N, s1.L, 1, (pk E s1.L).a, o1⟩) = _
        rw [if_neg (by rw [List.length_append]; show ¬ 6000000 ≤ out.length + 1; have := hs.low; have := hs.few; omega), bad_listL (bad1 _ _ _ _)]
theorem sim_list (o e : List UInt8) (s : S3) (a0 t0 : Int) (hs : HS s) (hne : e ≠ [44]) (he : SgnKeyL e) (ho : (pk E s.L).t = o) : GvL s a0 [] (runR E (n + 1 + 6) (.list e) (rs { s with L := s.L.tail } a0 t0)) (runJ E (n + 1) (.list o e .expr) s) := by
  show GvL s a0 [] (runR E (n + 6) (.listL e true []) (rs { s with L := s.L.tail } a0 t0)) ((wordF E o s).bind _)
  rw [word_yes ho]
  show GvL s a0 [] _ (if (pk E s.L.tail).t = e then _ else _)
  by_cases hq : (pk E s.L.tail).t = e
  · rw [if_pos hq, listL_end (s := { s with L := s.L.tail }) hs.tail he hq]
    exact ⟨hs.tail.tail, [], t0, by simp, rfl⟩
  · rw [if_neg hq]
    exact ih.items e { s with L := s.L.tail } a0 t0 (rs { s with L := s.L.tail } a0 t0) true [] hs.tail hne he rfl (is_no (s := { s with L := s.L.tail }) hs.tail he hq) rfl (Nat.zero_le _)
end step
theorem sim (E : Nat) : ∀ n, Sim E n := by
  intro n
  induction n with
  | zero => exact ⟨fun _ _ _ _ => trivial, fun _ _ _ _ _ => trivial, fun _ _ _ _ _ _ _ => trivial, fun _ _ _ _ => trivial, fun _ _ _ _ => trivial, fun _ _ _ _ _ _ => trivial, fun _ _ _ _ => trivial,
      fun _ _ _ _ _ _ _ _ _ _ _ _ _ _ => trivial, fun _ _ _ _ _ _ _ _ _ => trivial⟩
  | succ n ih => exact ⟨sim_expr ih, sim_pairs ih, sim_pairsL ih, sim_prefixed ih, sim_postfixed ih, sim_postL ih, sim_primary ih, sim_items ih, sim_list ih⟩
end Go.Proofs.YtbjacclfhgnffaaGreatDoor
