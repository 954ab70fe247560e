/-
  Joined texts of this claim: Bka, Bkb.
-/
import Derived.Test.YtbjacclfhgnffaaGreatDoorX42
import Derived.Test.YtbjacclfhgnffaaGreatDoorX26
import Derived.Test.YtbjacclfhgnffaaGreatDoorX31
set_option linter.unusedVariables false
set_option linter.unusedSimpArgs false
/-
  Plain: the words of a text in brackets.
-/
namespace Go.Proofs.YtbjacclfhgnffaaGreatDoor
open Go.RowKit
open Tk

theorem sign_br (a y : UInt8) (r : List UInt8) (ha : a = 40 ∨ a = 41) : signB (a :: y :: r) = false := by
  rcases ha with rfl | rfl <;> simp [signB, signs]
theorem fst_br (a : UInt8) (X : List UInt8) (ha : a = 40 ∨ a = 41) : fstT (a :: X) = .tok 4 1 0 := by
  have h1 : digB a = false := by rcases ha with rfl | rfl <;> decide
  have h2 : wordB a = false := by rcases ha with rfl | rfl <;> decide
  have h3 : a ≠ 39 := by rcases ha with rfl | rfl <;> decide
  show (if digB a = true then _ else if wordB a = true then _ else if a = 39 then _ else sgnT (a :: X)) = _
  rw [if_neg (by rw [h1]; simp), if_neg (by rw [h2]; simp), if_neg h3]
  unfold sgnT
  refine sgnF_make (by show signB [a] = true; rcases ha with rfl | rfl <;> decide) (Nat.le_refl _) (by simp; omega) (fun i h1 h2 => ?_)
  match i, h1 with
  | i + 2, _ =>
    cases X with
    | nil => simp at h2
    | cons y X => exact sign_br a y _ ha
theorem skp_br (a : UInt8) (X : List UInt8) (ha : a = 40 ∨ a = 41) : skp (a :: X) = .word := by
  refine skp_make (by rcases ha with rfl | rfl <;> decide) ?_ ?_
  · cases X with
    | nil => exact pre_one _ _
    | cons d l => rw [Bool.eq_false_iff]; intro h; have := (pre_two _ _ _ _).1 h; rcases ha with rfl | rfl <;> exact absurd this.1 (by decide)
  · cases X with
    | nil => exact pre_one _ _
    | cons d l => rw [Bool.eq_false_iff]; intro h; have := (pre_two _ _ _ _).1 h; rcases ha with rfl | rfl <;> exact absurd this.1 (by decide)
/-- the same text behind other words, farther on: nothing but too many words can go wrong -/
theorem scans_shift {p : Nat} {L : List UInt8} {acc : List T4} {r : SR} (h : Scans p L acc r) : ∀ (d : Nat) (acc' : List T4), acc.length ≤ acc'.length → acc'.length ≤ 800 → ∀ l, r = .ok l →
    ∃ r' m, Scans (p + d) L acc' r' ∧ l = acc ++ m ∧ (r' = .ok (acc' ++ m.map (sh d)) ∨ ∃ a, r' = .bad 10 a) := by
  induction h with
  | done p acc =>
    intro d acc' h1 h2 l e
    cases e
    exact ⟨_, [], .done _ _, by simp, Or.inl (by simp)⟩
  | @skip p L acc r n h k ih =>
    intro d acc' h1 h2 l e
    obtain ⟨r', m, hr, hp⟩ := ih d acc' h1 h2 l e
    exact ⟨r', m, .skip h (by rw [show p + d + n = p + n + d by omega]; exact hr), hp⟩
  | opens h => intro d acc' _ _ l e; cases e
  | much h hn hm => intro d acc' _ _ l e; cases e
  | bad h hn hm hf => intro d acc' _ _ l e; cases e
  | @tok p L acc r k n v h hn hm hf k' ih =>
    intro d acc' h1 h2 l e
    by_cases h8 : acc'.length = 800
    · obtain ⟨r0, m, _, hm2, _⟩ := ih 0 (acc ++ [⟨k, L.take n, v, p⟩]) (Nat.le_refl _) (by rw [List.length_append]; simp; omega) l e
      exact ⟨_, ⟨k, L.take n, v, p⟩ :: m, .much h hn h8, by rw [hm2, List.append_assoc]; rfl, Or.inr ⟨_, rfl⟩⟩
    · obtain ⟨r', m, hr, hm2, hp⟩ := ih d (acc' ++ [⟨k, L.take n, v, p + d⟩]) (by rw [List.length_append, List.length_append]; simp; omega) (by rw [List.length_append]; simp; omega) l e
      refine ⟨r', ⟨k, L.take n, v, p⟩ :: m, .tok h hn h8 hf (by rw [show p + d + n = p + n + d by omega]; exact hr), by rw [hm2, List.append_assoc]; rfl, ?_⟩
      rcases hp with hp | hp
      · exact Or.inl (by rw [hp, List.append_assoc]; rfl)
      · exact Or.inr hp
def lp : T4 := ⟨4, [40], 0, 0⟩
def rp (a : Nat) : T4 := ⟨4, [41], 0, a⟩
/-- the words of a text in brackets, or too many of them -/
theorem brackets_tok {l : List UInt8} {L : List T4} (h : TokR l (.ok L)) (hl : l.length ≤ 1900) :
    TokR (40 :: (l ++ [10, 41])) (.ok (lp :: (L.map (sh 1) ++ [rp (l.length + 2)]))) ∨ ∃ a, TokR (40 :: (l ++ [10, 41])) (.bad 10 a) := by
  rcases h with ⟨h, _⟩ | ⟨h, hs⟩
  · omega
  have hlen : (40 :: (l ++ [10, 41])).length ≤ 2000 := by simp; omega
  have hfew := scans_few hs (by simp)
  have hL8 : L.length ≤ 800 := hfew
  obtain ⟨r', m, hr, hm, hp⟩ := scans_shift hs 1 [lp] (by simp) (by simp) L rfl
  simp only [List.nil_append] at hm
  subst hm
  rw [Nat.zero_add] at hr
  have hd : (40 :: (l ++ [10, 41])).drop 1 = l ++ [10, 41] := rfl
  have hbegin : ∀ R, Scans 1 (l ++ [10, 41]) [lp] R → Scans 0 (40 :: (l ++ [10, 41])) [] R := fun R hR =>
    .tok (skp_br 40 _ (Or.inl rfl)) (by simp) (by simp) (fst_br 40 _ (Or.inl rfl)) hR
  rcases hp with hp | ⟨a, hp⟩
  · subst hp
    have h2 := hr.then.1 _ rfl [41]
    by_cases h8 : ([lp] ++ L.map (sh 1)).length = 800
    · refine Or.inr ⟨1 + l.length + 1, Or.inr ⟨hlen, hbegin _ (h2 _ (.skip (skp_lf _) ?_))⟩⟩
      exact .much (skp_br 41 [] (Or.inr rfl)) (by simp) h8
    · refine Or.inl (Or.inr ⟨hlen, hbegin _ (h2 _ (.skip (skp_lf _) ?_))⟩)
      refine .tok (skp_br 41 [] (Or.inr rfl)) (by simp) h8 (fst_br 41 [] (Or.inr rfl)) ?_
      have e : ([lp] ++ L.map (sh 1)) ++ [⟨4, ([41] : List UInt8).take 1, 0, 1 + l.length + 1⟩] = lp :: (L.map (sh 1) ++ [rp (l.length + 2)]) := by
        unfold rp; simp; omega
      show Scans _ [] (([lp] ++ L.map (sh 1)) ++ [⟨4, ([41] : List UInt8).take 1, 0, 1 + l.length + 1⟩]) _
      rw [e]
      exact .done _ _
  · subst hp
    exact Or.inr ⟨a, Or.inr ⟨hlen, hbegin _ (hr.then.2 _ _ rfl (by decide) [41])⟩⟩
end Go.Proofs.YtbjacclfhgnffaaGreatDoor
/-
  Plain: an expression in brackets is parsed as it is by itself, but for where it stands.
-/
namespace Go.Proofs.YtbjacclfhgnffaaGreatDoor
open Tk (T4 sh)

/-- a node that stands farther on -/
def shM (x : Mn) : Mn := { x with a := x.a + 1 }
/-- the same state, in brackets -/
structure Shd (q : Nat) (s s' : S3) : Prop where
  l : s'.L = s.L.map (sh 1) ++ [rp q]
  n : s'.N = s.N.map shM
  o : s'.O = s.O
theorem rp_t (q : Nat) : (rp q).t = [41] := rfl
theorem sh_t (x : T4) : (sh 1 x).t = x.t := rfl
theorem sh_k (x : T4) : (sh 1 x).k = x.k := rfl
theorem sh_v (x : T4) : (sh 1 x).v = x.v := rfl
theorem sh_a (x : T4) : (sh 1 x).a = x.a + 1 := rfl
def Rel (q : Nat) (r r' : R3) : Prop := ∀ s, r = .ok s → ∃ s', r' = .ok s' ∧ Shd q s s'
def RelF (q : Nat) (f f' : F3) : Prop := ∀ s s', Shd q s s' → Rel q (f s) (f' s')
theorem Rel.bind {q : Nat} {r r' : R3} {f f' : F3} (h : Rel q r r') (k : RelF q f f') : Rel q (r.bind f) (r'.bind f') := fun s e => by
  cases r with
  | out => cases e
  | bad c a => cases e
  | ok s1 =>
    obtain ⟨s1', h1, h2⟩ := h s1 rfl
    rw [h1]
    exact k s1 s1' h2 s e
theorem rel_bad {q : Nat} {c a : Int} {r' : R3} : Rel q (.bad c a) r' := fun s e => by cases e
theorem rel_out {q : Nat} {r' : R3} : Rel q .out r' := fun s e => by cases e
theorem rel_ok {q : Nat} {s s' : S3} (h : Shd q s s') : Rel q (.ok s) (.ok s') := fun s1 e => by cases e; exact ⟨s', rfl, h⟩
/-- the next word: the same, or the end against the bracket -/
theorem pk_ways {q E E' : Nat} {s s' : S3} (h : Shd q s s') : (s.L = [] ∧ pk E s.L = ⟨0, [], 0, E⟩ ∧ pk E' s'.L = rp q) ∨ (s.L ≠ [] ∧ pk E' s'.L = sh 1 (pk E s.L) ∧ s'.L.tail = s.L.tail.map (sh 1) ++ [rp q]) := by
  rw [h.l]
  cases hl : s.L with
  | nil => exact Or.inl ⟨rfl, rfl, rfl⟩
  | cons t L => exact Or.inr ⟨by simp, rfl, rfl⟩
theorem Shd.tail {q : Nat} {s s' : S3} (h : Shd q s s') (ht : s'.L.tail = s.L.tail.map (sh 1) ++ [rp q]) : Shd q { s with L := s.L.tail } { s' with L := s'.L.tail } := ⟨ht, h.n, h.o⟩
theorem rel_word {q E E' : Nat} {t : List UInt8} (ht : t ≠ []) : RelF q (wordF E t) (wordF E' t) := fun s s' h => by
  unfold wordF
  rcases pk_ways (E := E) (E' := E') h with ⟨_, h1, h2⟩ | ⟨_, h1, h2⟩
  · rw [h1, if_neg (fun e => ht e.symm)]; exact rel_bad
  · rw [h1]
    by_cases e : (pk E s.L).t = t
    · rw [if_pos e, if_pos (by exact e)]; exact rel_ok (h.tail h2)
    · rw [if_neg e]; exact rel_bad
theorem rel_add {q : Nat} (x x' : Mn) (hx : x' = shM x) (mark : Nat) : RelF q (addF x mark) (addF x' mark) := fun s s' h => by
  subst hx
  unfold addF
  rw [h.o, h.n, List.length_map]
  split
  · exact rel_out
  · exact rel_ok ⟨h.l, by simp [shM], by simp⟩
inductive All2 (q : Nat) : List F3 → List F3 → Prop
  | nil : All2 q [] []
  | cons {f f' : F3} {fs fs' : List F3} (h : RelF q f f') (k : All2 q fs fs') : All2 q (f :: fs) (f' :: fs')
theorem rel_seq {q : Nat} (fs fs' : List F3) (h : All2 q fs fs') : RelF q (seqF fs) (seqF fs') := by
  induction h with
  | nil => exact fun s s' h => rel_ok h
  | cons h k ih => exact fun s s' hs => (h s s' hs).bind ih
theorem rel_ext {q : Nat} (mark : Nat) (x x' : Mn) (hx : x' = shM x) {fs fs' : List F3} (h : All2 q fs fs') : RelF q (extF mark x fs) (extF mark x' fs') := fun s s' hs =>
  (rel_seq fs fs' h s s' hs).bind (rel_add x x' hx mark)
theorem rel_build {q : Nat} (x x' : Mn) (hx : x' = shM x) {fs fs' : List F3} (h : All2 q fs fs') : RelF q (buildF x fs) (buildF x' fs') := fun s s' hs => by
  unfold buildF
  rw [hs.o]
  exact rel_ext _ x x' hx h s s' hs
theorem f1 {q : Nat} {a a' : F3} (h : RelF q a a') : All2 q [a] [a'] := .cons h .nil
theorem f2 {q : Nat} {a a' b b' : F3} (h : RelF q a a') (k : RelF q b b') : All2 q [a, b] [a', b'] := .cons h (.cons k .nil)
theorem f3 {q : Nat} {a a' b b' c c' : F3} (h : RelF q a a') (k : RelF q b b') (l : RelF q c c') : All2 q [a, b, c] [a', b', c'] := .cons h (.cons k (.cons l .nil))
theorem f4 {q : Nat} {a a' b b' c c' d d' : F3} (h : RelF q a a') (k : RelF q b b') (l : RelF q c c') (m : RelF q d d') : All2 q [a, b, c, d] [a', b', c', d'] := .cons h (.cons k (.cons l (.cons m .nil)))
/-- nothing is read where no word is left -/
def Start : Job → Prop
  | .expr | .pairs _ | .prefixed | .postfixed | .primary => True
  | _ => False
theorem bind_nok {r : R3} {f : F3} (h : ∀ s, r ≠ .ok s) : ∀ s, r.bind f ≠ .ok s := fun s e => by
  cases r with
  | ok s1 => exact h s1 rfl
  | bad c a => cases e
  | out => cases e
theorem none_left (E : Nat) : ∀ n job, Start job → ∀ s : S3, s.L = [] → ∀ s1, runJ E n job s ≠ .ok s1 := by
  intro n
  induction n with
  | zero => intro job _ s _ s1 e; cases e
  | succ n ih =>
    intro job hj s hs
    have hp : pk E s.L = ⟨0, [], 0, E⟩ := by rw [hs]; rfl
    cases job with
    | expr => exact bind_nok (ih (.pairs 2) trivial s hs)
    | pairs low =>
      intro s1
      show (if 1000 < low then R3.out else (runJ E n .prefixed s).bind (runJ E n (.pairsL low s.O.length))) ≠ _
      split
      · simp
      · exact bind_nok (ih .prefixed trivial s hs) s1
    | prefixed =>
      intro s1
      show (if prefT (pk E s.L).t = 0 then runJ E n .postfixed s else _) ≠ _
      rw [hp, if_pos (by show prefT [] = 0; decide)]
      exact ih .postfixed trivial s hs s1
    | postfixed => exact bind_nok (ih .primary trivial s hs)
    | primary =>
      intro s1
      show (if (pk E s.L).k = 2 then _ else if (pk E s.L).k = 1 then _ else seqF [wordF E [40], runJ E n .expr, wordF E [41]] s) ≠ _
      rw [hp, if_neg (by show ¬ 0 = 2; omega), if_neg (by show ¬ 0 = 1; omega)]
      refine bind_nok (fun s2 => ?_) s1
      show wordF E [40] s ≠ _
      unfold wordF
      rw [hp, if_neg (by show ¬ ([] : List UInt8) = [40]; decide)]
      simp [wrongF]
    | _ => exact hj.elim
/-- the jobs that come up -/
def Okay : Job → Prop
  | .pairs low => 1 ≤ low
  | .pairsL low _ => 1 ≤ low
  | .list o e i => o ≠ [] ∧ e ≠ [] ∧ i = .expr
  | .items e i => e ≠ [] ∧ i = .expr
  | _ => True
theorem mk_sh (k : Int) (t : List UInt8) (n : Int) (a : Nat) : mk k t n ((a + 1 : Nat) : Int) = shM (mk k t n a) := by simp [mk, shM]
theorem rel_run (q E E' : Nat) : ∀ n job, Okay job → RelF q (runJ E n job) (runJ E' n job) := by
  intro n
  induction n with
  | zero => intro job _ s s' _; exact rel_out
  | succ n ih =>
    intro job hj s s' hs
    cases job with
    | expr =>
      refine (ih (.pairs 2) (by show 1 ≤ 2; omega) s s' hs).bind fun s1 s1' h1 => ?_
      rw [hs.o]
      rcases pk_ways (E := E) (E' := E') h1 with ⟨_, e1, e2⟩ | ⟨_, e1, e2⟩
      · rw [e1, e2]
        rw [rp_t]
        dsimp only
        rw [if_neg (by decide), if_neg (by decide), if_neg (by decide), if_neg (by decide)]
        exact rel_ok h1
      · rw [e1]
        (try rw [sh_a])
        (try rw [sh_t])
        by_cases ha : (pk E s1.L).t = [63]
        · rw [if_pos ha, if_pos ha]
          exact rel_ext _ _ _ (mk_sh _ _ _ _) (f4 (rel_word (by simp)) (ih .expr trivial) (rel_word (by simp)) (ih .expr trivial)) s1 s1' h1
        · rw [if_neg ha, if_neg ha]
          by_cases hb : setT (pk E s1.L).t = true
          · rw [if_pos hb, if_pos hb]
            exact rel_ext _ _ _ (mk_sh _ _ _ _) (f2 (rel_word (set_ne hb)) (ih .expr trivial)) s1 s1' h1
          · rw [if_neg hb, if_neg hb]
            exact rel_ok h1
    | pairs low =>
      show Rel q (if 1000 < low then R3.out else (runJ E n .prefixed s).bind (runJ E n (.pairsL low s.O.length))) (if 1000 < low then R3.out else (runJ E' n .prefixed s').bind (runJ E' n (.pairsL low s'.O.length)))
      split
      · exact rel_out
      · rw [hs.o]
        exact (ih .prefixed trivial s s' hs).bind (ih (.pairsL low s.O.length) hj)
    | pairsL low mark =>
      have hl : 1 ≤ low := hj
      show Rel q (if low ≤ levelT (pk E s.L).t then _ else _) (if low ≤ levelT (pk E' s'.L).t then _ else _)
      rcases pk_ways (E := E) (E' := E') hs with ⟨_, e1, e2⟩ | ⟨_, e1, e2⟩
      · have h0 : levelT ([] : List UInt8) = 0 := by decide
        have h1 : levelT [41] = 0 := by decide
        simp only [e1, e2, rp, h0, h1]
        rw [if_neg (by omega), if_neg (by omega)]
        exact rel_ok hs
      · rw [e1]
        (try rw [sh_a])
        (try rw [sh_t])
        (try rw [sh_k])
        (try rw [sh_v])
        by_cases hb : low ≤ levelT (pk E s.L).t
        · rw [if_pos hb, if_pos hb]
          exact (rel_ext _ _ _ (mk_sh _ _ _ _) (f1 (ih (.pairs (levelT (pk E s.L).t + 1)) (by show 1 ≤ _; omega))) _ _ (hs.tail e2)).bind (ih (.pairsL low mark) hj)
        · rw [if_neg hb, if_neg hb]
          exact rel_ok hs
    | prefixed =>
      show Rel q (if prefT (pk E s.L).t = 0 then _ else _) (if prefT (pk E' s'.L).t = 0 then _ else _)
      rcases pk_ways (E := E) (E' := E') hs with ⟨_, e1, e2⟩ | ⟨_, e1, e2⟩
      · rw [e1, e2]
        rw [rp_t]
        dsimp only
        rw [if_pos (by decide), if_pos (by decide)]
        exact ih .postfixed trivial s s' hs
      · rw [e1]
        (try rw [sh_a])
        (try rw [sh_t])
        (try rw [sh_k])
        (try rw [sh_v])
        by_cases hb : prefT (pk E s.L).t = 0
        · rw [if_pos hb, if_pos hb]
          exact ih .postfixed trivial s s' hs
        · rw [if_neg hb, if_neg hb]
          exact rel_build _ _ (mk_sh _ _ _ _) (f2 (rel_word (pref_ne hb)) (ih .prefixed trivial)) s s' hs
    | postfixed =>
      show Rel q ((runJ E n .primary s).bind (runJ E n (.postL s.O.length))) ((runJ E' n .primary s').bind (runJ E' n (.postL s'.O.length)))
      rw [hs.o]
      exact (ih .primary trivial s s' hs).bind (ih (.postL s.O.length) trivial)
    | postL mark =>
      show Rel q (if (pk E s.L).t = [91] then _ else if (pk E s.L).t = [43, 43] ∨ (pk E s.L).t = [45, 45] then _ else _) (if (pk E' s'.L).t = [91] then _ else if (pk E' s'.L).t = [43, 43] ∨ (pk E' s'.L).t = [45, 45] then _ else _)
      rcases pk_ways (E := E) (E' := E') hs with ⟨_, e1, e2⟩ | ⟨_, e1, e2⟩
      · rw [e1, e2]
        rw [rp_t]
        dsimp only
        rw [if_neg (by decide), if_neg (by decide), if_neg (by decide), if_neg (by decide)]
        exact rel_ok hs
      · rw [e1]
        (try rw [sh_a])
        (try rw [sh_t])
        (try rw [sh_k])
        (try rw [sh_v])
        by_cases ha : (pk E s.L).t = [91]
        · rw [if_pos ha, if_pos ha]
          exact (rel_ext _ _ _ (mk_sh _ _ _ _) (f3 (rel_word (by simp)) (ih .expr trivial) (rel_word (by simp))) s s' hs).bind (ih (.postL mark) trivial)
        · rw [if_neg ha, if_neg ha]
          by_cases hb : (pk E s.L).t = [43, 43] ∨ (pk E s.L).t = [45, 45]
          · rw [if_pos hb, if_pos hb]
            exact (rel_add _ _ (mk_sh _ _ _ _) _ _ _ (hs.tail e2)).bind (ih (.postL mark) trivial)
          · rw [if_neg hb, if_neg hb]
            exact rel_ok hs
    | primary =>
      show Rel q (if (pk E s.L).k = 2 then _ else if (pk E s.L).k = 1 then _ else _) (if (pk E' s'.L).k = 2 then _ else if (pk E' s'.L).k = 1 then _ else _)
      rcases pk_ways (E := E) (E' := E') hs with ⟨_, e1, e2⟩ | ⟨_, e1, e2⟩
      · rw [e1]
        dsimp only
        rw [if_neg (by decide), if_neg (by decide)]
        intro s1 h1
        refine absurd h1 (bind_nok (fun s2 => ?_) s1)
        show wordF E [40] s ≠ _
        unfold wordF
        rw [e1, if_neg (by show ¬ ([] : List UInt8) = [40]; decide)]
        simp [wrongF]
      · rw [e1]
        (try rw [sh_a])
        (try rw [sh_t])
        (try rw [sh_k])
        (try rw [sh_v])
        by_cases ha : (pk E s.L).k = 2
        · rw [if_pos ha, if_pos ha]
          exact rel_build _ _ (mk_sh _ _ _ _) .nil _ _ (hs.tail e2)
        · rw [if_neg ha, if_neg ha]
          by_cases hb : (pk E s.L).k = 1
          · rw [if_pos hb, if_pos hb]
            have ht := hs.tail e2
            rcases pk_ways (E := E) (E' := E') ht with ⟨_, g1, g2⟩ | ⟨_, g1, g2⟩
            · rw [g1, g2]
              rw [rp_t]
              dsimp only
              rw [if_neg (by decide), if_neg (by decide)]
              exact rel_build _ _ (mk_sh _ _ _ _) .nil _ _ ht
            · rw [g1, sh_t]
              by_cases hc : (pk E s.L.tail).t = [40]
              · rw [if_pos hc, if_pos hc]
                exact rel_build _ _ (mk_sh _ _ _ _) (f1 (ih (.list [40] [41] .expr) ⟨by simp, by simp, rfl⟩)) _ _ ht
              · rw [if_neg hc, if_neg hc]
                exact rel_build _ _ (mk_sh _ _ _ _) .nil _ _ ht
          · rw [if_neg hb, if_neg hb]
            exact rel_seq _ _ (f3 (rel_word (by simp)) (ih .expr trivial) (rel_word (by simp))) s s' hs
    | list o e i =>
      obtain ⟨ho, he, rfl⟩ := hj
      refine (rel_word ho s s' hs).bind fun s1 s1' h1 => ?_
      rcases pk_ways (E := E) (E' := E') h1 with ⟨g0, e1, e2⟩ | ⟨_, e1, e2⟩
      · rw [e1, if_neg (fun h => he h.symm)]
        cases n with
        | zero => exact rel_out
        | succ n =>
          intro s2 h2
          exact absurd h2 (bind_nok (none_left E n .expr trivial s1 g0) s2)
      · rw [e1]
        (try rw [sh_a])
        (try rw [sh_t])
        (try rw [sh_k])
        (try rw [sh_v])
        by_cases ha : (pk E s1.L).t = e
        · rw [if_pos ha, if_pos ha]
          exact rel_ok (h1.tail e2)
        · rw [if_neg ha, if_neg ha]
          exact ih (.items e .expr) ⟨he, rfl⟩ s1 s1' h1
    | items e i =>
      obtain ⟨he, rfl⟩ := hj
      refine (ih .expr trivial s s' hs).bind fun s1 s1' h1 => ?_
      rcases pk_ways (E := E) (E' := E') h1 with ⟨_, e1, e2⟩ | ⟨_, e1, e2⟩
      · rw [e1, e2]
        rw [rp_t]
        dsimp only
        rw [if_neg (by decide), if_neg (by decide)]
        exact rel_word he s1 s1' h1
      · rw [e1]
        (try rw [sh_a])
        (try rw [sh_t])
        (try rw [sh_k])
        (try rw [sh_v])
        by_cases ha : (pk E s1.L).t = [44]
        · rw [if_pos ha, if_pos ha]
          exact ih (.items e .expr) ⟨he, rfl⟩ _ _ (h1.tail e2)
        · rw [if_neg ha, if_neg ha]
          exact rel_word he s1 s1' h1
end Go.Proofs.YtbjacclfhgnffaaGreatDoor
