/-
  Joined texts of this claim: Pa.
-/
import Derived.Test.YtbjacclfhgnffaaGreatDoorY08
set_option linter.unusedVariables false
set_option linter.unusedSimpArgs false
/-
  Plain: the parser of expressions ends with fuel enough, and leaves one loose node.
-/
namespace Go.Proofs.YtbjacclfhgnffaaGreatDoor
open Tk (T4)

/-- ends, and where it ends well this holds -/
def Fine (r : R3) (P : S3 → Prop) : Prop := match r with | .ok s => P s | .bad _ _ => True | .out => False
theorem Fine.bind {r : R3} {f : F3} {P Q : S3 → Prop} (h : Fine r P) (k : ∀ s, P s → Fine (f s) Q) : Fine (r.bind f) Q := by
  cases r with
  | ok s => exact k s h
  | bad c a => trivial
  | out => exact h.elim
theorem Fine.mono {r : R3} {P Q : S3 → Prop} (h : Fine r P) (k : ∀ s, P s → Q s) : Fine r Q := by
  cases r with
  | ok s => exact k s h
  | bad c a => trivial
  | out => exact h.elim
theorem Fine.ne {r : R3} {P : S3 → Prop} (h : Fine r P) : r ≠ .out := fun e => by rw [e] at h; exact h
theorem Fine.ok {r : R3} {P : S3 → Prop} (h : Fine r P) {s : S3} (e : r = .ok s) : P s := by rw [e] at h; exact h
theorem pk_pos {E : Nat} {L : List T4} (h : (pk E L).t ≠ []) : L ≠ [] := fun e => h (by rw [e]; rfl)
theorem pk_kpos {E : Nat} {L : List T4} (h : (pk E L).k ≠ 0) : L ≠ [] := fun e => h (by rw [e]; rfl)
theorem tail_lt {L : List T4} (h : L ≠ []) : L.tail.length + 1 = L.length := by
  cases L with
  | nil => exact absurd rfl h
  | cons a b => simp
theorem tail_le (L : List T4) : L.tail.length ≤ L.length := by simp
theorem word_fine {E : Nat} {t : List UInt8} (s : S3) (ht : t ≠ []) : Fine (wordF E t s) (fun s' => s' = { s with L := s.L.tail } ∧ s.L.tail.length + 1 = s.L.length) := by
  unfold wordF
  split
  · rename_i h
    exact ⟨rfl, tail_lt (pk_pos (E := E) (by rw [h]; exact ht))⟩
  · trivial
/-- the last node is an expression -/
def LastE (N : List Mn) : Prop := ∃ x, N.getLast? = some x ∧ 31 ≤ x.k ∧ x.k ≤ 40
theorem add_fine {x : Mn} {mark : Nat} (s : S3) (hm : mark ≤ s.O.length) (hN : s.N.length ≤ 4500000) : Fine (addF x mark s) (fun s' => s' = { s with N := s.N ++ [{ x with c := s.O.drop mark }], O := s.O.take mark ++ [(s.N.length : Int)] }) := by
  unfold addF
  rw [if_neg (by omega)]
  rfl
/-- no more, and the nodes do not grow faster than the words go -/
structure Less (c : Nat) (s s' : S3) : Prop where
  l : s'.L.length + c ≤ s.L.length
  n : s'.N.length + s'.L.length ≤ s.N.length + s.L.length
  g : s.N.length ≤ s'.N.length
theorem Less.trans {a b : Nat} {s1 s2 s3 : S3} (h : Less a s1 s2) (k : Less b s2 s3) : Less (a + b) s1 s3 :=
  ⟨by have := h.l; have := k.l; omega, Nat.le_trans k.n h.n, Nat.le_trans h.g k.g⟩
theorem Less.of {a b : Nat} {s s' : S3} (h : Less a s s') (hb : b ≤ a) : Less b s s' := ⟨by have := h.l; omega, h.n, h.g⟩
/-- one loose node behind these, and it is the last one, an expression -/
structure Top1 (O0 : List Int) (s : S3) : Prop where
  o : s.O = O0 ++ [(s.N.length : Int) - 1]
  k : LastE s.N
theorem add_top {x : Mn} {mark : Nat} {s s' : S3} {O0 : List Int} (h : s' = { s with N := s.N ++ [{ x with c := s.O.drop mark }], O := s.O.take mark ++ [(s.N.length : Int)] }) (h0 : s.O.take mark = O0) (hk : 31 ≤ x.k ∧ x.k ≤ 40) : Top1 O0 s' := by
  subst h
  refine ⟨?_, ⟨{ x with c := s.O.drop mark }, by simp, hk⟩⟩
  show s.O.take mark ++ _ = O0 ++ _
  rw [h0]
  simp
def rankJ : Job → Nat
  | .expr => 4
  | .pairs _ => 3
  | .prefixed => 2
  | .postfixed => 1
  | .items _ _ => 5
  | _ => 0
def PreJ : Job → S3 → Prop
  | .pairs low, _ => 1 ≤ low ∧ low ≤ 1000
  | .pairsL low mark, s => 1 ≤ low ∧ ∃ O0, O0.length = mark ∧ Top1 O0 s
  | .postL mark, s => ∃ O0, O0.length = mark ∧ Top1 O0 s
  | .list o e i, _ => o ≠ [] ∧ e ≠ [] ∧ i = .expr
  | .items e i, _ => e ≠ [] ∧ i = .expr
  | _, _ => True
def PostJ : Job → S3 → S3 → Prop
  | .pairsL _ mark, s, s' => Less 0 s s' ∧ ∀ O0, O0.length = mark → Top1 O0 s → Top1 O0 s'
  | .postL mark, s, s' => Less 0 s s' ∧ ∀ O0, O0.length = mark → Top1 O0 s → Top1 O0 s'
  | .list _ _ _, s, s' => Less 1 s s' ∧ ∃ l, s'.O = s.O ++ l
  | .items _ _, s, s' => Less 1 s s' ∧ ∃ l, s'.O = s.O ++ l
  | _, s, s' => Less 1 s s' ∧ Top1 s.O s'
theorem pref_ne {t : List UInt8} (h : prefT t ≠ 0) : t ≠ [] := fun e => h (by rw [e]; rfl)
theorem set_ne {t : List UInt8} (h : setT t = true) : t ≠ [] := fun e => by rw [e] at h; exact absurd h (by decide)
theorem level_ne {t : List UInt8} {low : Nat} (h1 : 1 ≤ low) (h : low ≤ levelT t) : t ≠ [] := fun e => by
  rw [e] at h; have h2 : levelT [] = 0 := by decide
  omega
theorem mk_rng {k : Int} {t : List UInt8} {n a : Int} (h : 31 ≤ k ∧ k ≤ 40) : 31 ≤ (mk k t n a).k ∧ (mk k t n a).k ≤ 40 := h
theorem level_le (t : List UInt8) : levelT t ≤ 11 := by
  unfold levelT
  repeat' split
  all_goals omega
theorem pairK_rng (l : Nat) : 31 ≤ pairK l ∧ pairK l ≤ 40 := by unfold pairK; split <;> omega
theorem pref_rng {t : List UInt8} (h : prefT t ≠ 0) : 31 ≤ prefT t ∧ prefT t ≤ 40 := by
  unfold prefT at h ⊢; repeat' split
  all_goals first | omega | simp_all
theorem top_len {O0 : List Int} {s : S3} (h : Top1 O0 s) : s.O.length = O0.length + 1 := by rw [h.o]; simp
theorem top_take {O0 : List Int} {s : S3} (h : Top1 O0 s) : s.O.take O0.length = O0 := by rw [h.o]; simp
/-- what is behind a mark, and then an expression -/
theorem top_take2 {O0 : List Int} {s s' : S3} (h : Top1 O0 s) (k : Top1 s.O s') : s'.O.take O0.length = O0 := by rw [k.o, h.o]; simp
theorem bind_ok (s : S3) (f : F3) : (R3.ok s).bind f = f s := rfl
theorem seq_fine1 {f : F3} {s : S3} {P : S3 → Prop} (h : Fine (f s) P) : Fine (seqF [f] s) P := by
  unfold seqF; exact h.bind fun s1 h1 => h1
theorem seq_fine2 {f g : F3} {s : S3} {P Q : S3 → Prop} (h : Fine (f s) P) (k : ∀ s1, P s1 → Fine (g s1) Q) : Fine (seqF [f, g] s) Q := by
  unfold seqF; exact h.bind fun s1 h1 => seq_fine1 (k s1 h1)
theorem seq_fine3 {f g i : F3} {s : S3} {P Q R : S3 → Prop} (h : Fine (f s) P) (k : ∀ s1, P s1 → Fine (g s1) Q) (l : ∀ s2, Q s2 → Fine (i s2) R) : Fine (seqF [f, g, i] s) R := by
  unfold seqF; exact h.bind fun s1 h1 => seq_fine2 (k s1 h1) l
theorem seq_fine4 {f g i j : F3} {s : S3} {P Q R U : S3 → Prop} (h : Fine (f s) P) (k : ∀ s1, P s1 → Fine (g s1) Q) (l : ∀ s2, Q s2 → Fine (i s2) R) (m : ∀ s2, R s2 → Fine (j s2) U) : Fine (seqF [f, g, i, j] s) U := by
  unfold seqF; exact h.bind fun s1 h1 => seq_fine3 (k s1 h1) l m
theorem less_tail {s : S3} (h : s.L.tail.length + 1 = s.L.length) : Less 1 s { s with L := s.L.tail } := ⟨by show s.L.tail.length + 1 ≤ _; omega, by show s.N.length + s.L.tail.length ≤ _; omega, Nat.le_refl _⟩
/-- a node is added: one word at least has gone -/
theorem less_add {x : Mn} {mark : Nat} {s0 s s' : S3} (h : s' = { s with N := s.N ++ [{ x with c := s.O.drop mark }], O := s.O.take mark ++ [(s.N.length : Int)] }) {c : Nat} (hl : s.L.length + c ≤ s0.L.length) (hn : s.N.length + s.L.length + 1 ≤ s0.N.length + s0.L.length) (hg : s0.N.length ≤ s.N.length) : Less c s0 s' := by
  subst h
  refine ⟨hl, ?_, ?_⟩
  · show (s.N ++ _).length + s.L.length ≤ _
    simp; omega
  · show _ ≤ (s.N ++ _).length
    simp; omega
theorem runJ_fine (E : Nat) : ∀ n job (s : S3), PreJ job s → s.N.length + s.L.length ≤ 4500000 → 10 * s.L.length + rankJ job < n → Fine (runJ E n job s) (PostJ job s) := by
  intro n
  induction n with
  | zero => intro job s _ _ h; omega
  | succ n ih =>
    intro job s hp hs hf
    show Fine (stepJ E (runJ E n) job s) _
    cases job with
    | expr =>
      change 10 * s.L.length + 4 < n + 1 at hf
      have h1 : Fine (runJ E n (.pairs 2) s) (fun s' => Less 1 s s' ∧ Top1 s.O s') := ih (.pairs 2) s ⟨by omega, by omega⟩ hs (by show _ + 3 < _; omega)
      refine Fine.bind h1 fun s1 h1 => ?_
      obtain ⟨hl, ht⟩ := h1
      have hl1 := hl.l; have hn1 := hl.n; have hg1 := hl.g
      by_cases hq : (pk E s1.L).t = [63]
      · simp only [if_pos hq]
        unfold extF
        refine Fine.bind (P := fun s5 => Less 2 s1 s5 ∧ s5.O.take s.O.length = s.O ∧ s.O.length ≤ s5.O.length ∧ s5.N.length + s5.L.length + 2 ≤ s1.N.length + s1.L.length) ?_ ?_
        · refine seq_fine4 (word_fine s1 (by simp)) (fun s2 h2 => ?_) (fun s3 h3 => ?_) (fun s4 h4 => ?_)
            (Q := fun s3 => s3.L.length + 2 ≤ s1.L.length ∧ s3.N.length + s3.L.length + 1 ≤ s1.N.length + s1.L.length ∧ s1.N.length ≤ s3.N.length ∧ ∃ l, s3.O = s.O ++ l)
            (R := fun s3 => s3.L.length + 3 ≤ s1.L.length ∧ s3.N.length + s3.L.length + 2 ≤ s1.N.length + s1.L.length ∧ s1.N.length ≤ s3.N.length ∧ ∃ l, s3.O = s.O ++ l)
          · obtain ⟨rfl, h2⟩ := h2
            have := ih .expr { s1 with L := s1.L.tail } trivial (by show s1.N.length + s1.L.tail.length ≤ _; omega) (by show 10 * s1.L.tail.length + 4 < _; omega)
            refine this.mono fun s3 h3 => ?_
            obtain ⟨⟨a, b, c⟩, d⟩ := h3
            have a' : s3.L.length + 1 ≤ s1.L.tail.length := a
            have b' : s3.N.length + s3.L.length ≤ s1.N.length + s1.L.tail.length := b
            refine ⟨by omega, by omega, c, ?_⟩
            exact ⟨[(s1.N.length : Int) - 1, (s3.N.length : Int) - 1], by rw [d.o]; show s1.O ++ _ = _; rw [ht.o]; simp⟩
          · obtain ⟨a, b, c, d⟩ := h3
            refine (word_fine s3 (by simp)).mono fun s4 h4 => ?_
            obtain ⟨rfl, h4⟩ := h4
            refine ⟨?_, ?_, c, d⟩
            · show s3.L.tail.length + 3 ≤ _; omega
            · show s3.N.length + s3.L.tail.length + 2 ≤ _; omega
          · obtain ⟨a, b, c, l, d⟩ := h4
            have := ih .expr s4 trivial (by omega) (by show 10 * s4.L.length + 4 < _; omega)
            refine this.mono fun s5 h5 => ?_
            obtain ⟨⟨a', b', c'⟩, d'⟩ := h5
            refine ⟨⟨by omega, by omega, by omega⟩, ?_, ?_, by omega⟩
            · rw [d'.o, d]; simp
            · rw [d'.o, d]; simp
        · intro s5 h5
          obtain ⟨⟨a, b, c⟩, d, e, f⟩ := h5
          refine (add_fine s5 e (by omega)).mono fun s6 h6 => ?_
          exact ⟨less_add h6 (by omega) (by omega) (by omega), add_top h6 d (mk_rng ⟨by decide, by decide⟩)⟩
      · by_cases hset : setT (pk E s1.L).t = true
        · simp only [if_neg hq, if_pos hset]
          unfold extF
          refine Fine.bind (P := fun s5 => Less 2 s1 s5 ∧ s5.O.take s.O.length = s.O ∧ s.O.length ≤ s5.O.length ∧ s5.N.length + s5.L.length + 1 ≤ s1.N.length + s1.L.length) ?_ ?_
          · refine seq_fine2 (word_fine s1 (set_ne hset)) (fun s2 h2 => ?_)
            obtain ⟨rfl, h2⟩ := h2
            have := ih .expr { s1 with L := s1.L.tail } trivial (by show s1.N.length + s1.L.tail.length ≤ _; omega) (by show 10 * s1.L.tail.length + 4 < _; omega)
            refine this.mono fun s3 h3 => ?_
            obtain ⟨⟨a, b, c⟩, d⟩ := h3
            have a' : s3.L.length + 1 ≤ s1.L.tail.length := a
            have b' : s3.N.length + s3.L.length ≤ s1.N.length + s1.L.tail.length := b
            have c' : s1.N.length ≤ s3.N.length := c
            refine ⟨⟨by omega, by omega, c'⟩, ?_, ?_, by omega⟩
            · exact top_take2 ht ⟨d.o, d.k⟩
            · rw [d.o]; show _ ≤ (s1.O ++ _).length; rw [ht.o]; simp
          · intro s5 h5
            obtain ⟨⟨a, b, c⟩, d, e, f⟩ := h5
            refine (add_fine s5 e (by omega)).mono fun s6 h6 => ?_
            exact ⟨less_add h6 (by omega) (by omega) (by omega), add_top h6 d (mk_rng ⟨by decide, by decide⟩)⟩
        · simp only [if_neg hq, if_neg hset]
          exact ⟨hl, ht⟩
    | pairs low =>
      change 10 * s.L.length + 3 < n + 1 at hf
      obtain ⟨p1, p2⟩ := hp
      show Fine (if 1000 < low then .out else (runJ E n .prefixed s).bind (runJ E n (.pairsL low s.O.length))) _
      rw [if_neg (by omega)]
      refine Fine.bind (ih .prefixed s trivial hs (by show _ + 2 < _; omega)) fun s1 h1 => ?_
      obtain ⟨hl, ht⟩ := h1
      have hl1 := hl.l; have hn1 := hl.n
      refine (ih (.pairsL low s.O.length) s1 ⟨p1, s.O, rfl, ht⟩ (by omega) (by show _ + 0 < _; omega)).mono fun s2 h2 => ?_
      exact ⟨hl.trans h2.1, h2.2 s.O rfl ht⟩
    | pairsL low mark =>
      change 10 * s.L.length + 0 < n + 1 at hf
      obtain ⟨p1, O0, hm, ht⟩ := hp
      show Fine (if low ≤ levelT (pk E s.L).t then _ else _) _
      by_cases hlv : low ≤ levelT (pk E s.L).t
      · rw [if_pos hlv]
        have htl := tail_lt (pk_pos (E := E) (level_ne p1 hlv))
        unfold extF
        have hll := level_le (pk E s.L).t
        refine Fine.bind (P := fun s2 => Less 1 s s2 ∧ Top1 O0 s2) ?_ ?_
        · refine Fine.bind (P := fun s5 => Less 2 s s5 ∧ s5.O.take mark = O0 ∧ mark ≤ s5.O.length ∧ s5.N.length + s5.L.length + 1 ≤ s.N.length + s.L.length) ?_ ?_
          · refine seq_fine1 ?_
            refine (ih (.pairs (levelT (pk E s.L).t + 1)) { s with L := s.L.tail } ⟨by omega, by omega⟩ (by show s.N.length + s.L.tail.length ≤ _; omega) (by show 10 * s.L.tail.length + 3 < _; omega)).mono fun s3 h3 => ?_
            obtain ⟨⟨a, b, c⟩, d⟩ := h3
            have a' : s3.L.length + 1 ≤ s.L.tail.length := a
            have b' : s3.N.length + s3.L.length ≤ s.N.length + s.L.tail.length := b
            have c' : s.N.length ≤ s3.N.length := c
            refine ⟨⟨by omega, by omega, c'⟩, ?_, ?_, by omega⟩
            · rw [← hm]; exact top_take2 ht ⟨d.o, d.k⟩
            · rw [d.o]; show _ ≤ (s.O ++ _).length; rw [ht.o]; simp; omega
          · intro s5 h5
            obtain ⟨⟨a, b, c⟩, d, e, f⟩ := h5
            refine (add_fine s5 e (by omega)).mono fun s6 h6 => ?_
            exact ⟨less_add h6 (by omega) (by omega) (by omega), add_top h6 d (pairK_rng _)⟩
        · intro s2 h2
          obtain ⟨hl, ht2⟩ := h2
          have hl1 := hl.l; have hn1 := hl.n
          refine (ih (.pairsL low mark) s2 ⟨p1, O0, hm, ht2⟩ (by omega) (by show _ + 0 < _; omega)).mono fun s3 h3 => ?_
          refine ⟨(hl.trans h3.1).of (by omega), fun O1 e1 t1 => ?_⟩
          have : O1 = O0 := by rw [← top_take t1, ← top_take ht, e1, hm]
          rw [this]; exact h3.2 O0 hm ht2
      · rw [if_neg hlv]
        exact ⟨⟨by omega, by omega, by omega⟩, fun _ _ h => h⟩
    | prefixed =>
      change 10 * s.L.length + 2 < n + 1 at hf
      show Fine (if prefT (pk E s.L).t = 0 then _ else _) _
      by_cases h0 : prefT (pk E s.L).t = 0
      · rw [if_pos h0]
        exact ih .postfixed s trivial hs (by show _ + 1 < _; omega)
      · rw [if_neg h0]
        unfold buildF extF
        refine Fine.bind (P := fun s5 => Less 2 s s5 ∧ s5.O.take s.O.length = s.O ∧ s.O.length ≤ s5.O.length ∧ s5.N.length + s5.L.length + 1 ≤ s.N.length + s.L.length) ?_ ?_
        · refine seq_fine2 (word_fine s (pref_ne h0)) (fun s2 h2 => ?_)
          obtain ⟨rfl, h2⟩ := h2
          refine (ih .prefixed { s with L := s.L.tail } trivial (by show s.N.length + s.L.tail.length ≤ _; omega) (by show 10 * s.L.tail.length + 2 < _; omega)).mono fun s3 h3 => ?_
          obtain ⟨⟨a, b, c⟩, d⟩ := h3
          have a' : s3.L.length + 1 ≤ s.L.tail.length := a
          have b' : s3.N.length + s3.L.length ≤ s.N.length + s.L.tail.length := b
          have c' : s.N.length ≤ s3.N.length := c
          refine ⟨⟨by omega, by omega, c'⟩, ?_, ?_, by omega⟩
          · rw [d.o]; show (s.O ++ _).take _ = _; simp
          · rw [d.o]; show _ ≤ (s.O ++ _).length; simp
        · intro s5 h5
          obtain ⟨⟨a, b, c⟩, d, e, f⟩ := h5
          refine (add_fine s5 e (by omega)).mono fun s6 h6 => ?_
          exact ⟨less_add h6 (by omega) (by omega) (by omega), add_top h6 d (pref_rng h0)⟩
    | postfixed =>
      change 10 * s.L.length + 1 < n + 1 at hf
      refine Fine.bind (ih .primary s trivial hs (by show _ + 0 < _; omega)) fun s1 h1 => ?_
      obtain ⟨hl, ht⟩ := h1
      have hl1 := hl.l; have hn1 := hl.n
      refine (ih (.postL s.O.length) s1 ⟨s.O, rfl, ht⟩ (by omega) (by show _ + 0 < _; omega)).mono fun s2 h2 => ?_
      exact ⟨hl.trans h2.1, h2.2 s.O rfl ht⟩
    | postL mark =>
      change 10 * s.L.length + 0 < n + 1 at hf
      obtain ⟨O0, hm, ht⟩ := hp
      show Fine (if (pk E s.L).t = [91] then _ else if (pk E s.L).t = [43, 43] ∨ (pk E s.L).t = [45, 45] then _ else _) _
      have again : ∀ s2, Less 1 s s2 ∧ Top1 O0 s2 → Fine (runJ E n (.postL mark) s2) (PostJ (.postL mark) s) := fun s2 h2 => by
        obtain ⟨hl, ht2⟩ := h2
        have hl1 := hl.l; have hn1 := hl.n
        refine (ih (.postL mark) s2 ⟨O0, hm, ht2⟩ (by omega) (by show _ + 0 < _; omega)).mono fun s3 h3 => ?_
        refine ⟨(hl.trans h3.1).of (by omega), fun O1 e1 t1 => ?_⟩
        have : O1 = O0 := by rw [← top_take t1, ← top_take ht, e1, hm]
        rw [this]; exact h3.2 O0 hm ht2
      by_cases hb : (pk E s.L).t = [91]
      · rw [if_pos hb]
        refine Fine.bind (P := fun s2 => Less 1 s s2 ∧ Top1 O0 s2) ?_ again
        unfold extF
        refine Fine.bind (P := fun s5 => Less 3 s s5 ∧ s5.O.take mark = O0 ∧ mark ≤ s5.O.length ∧ s5.N.length + s5.L.length + 1 ≤ s.N.length + s.L.length) ?_ ?_
        · refine seq_fine3 (word_fine s (by simp)) (fun s2 h2 => ?_) (fun s3 h3 => ?_)
            (Q := fun s3 => s3.L.length + 2 ≤ s.L.length ∧ s3.N.length + s3.L.length + 1 ≤ s.N.length + s.L.length ∧ s.N.length ≤ s3.N.length ∧ Top1 s.O s3)
          · obtain ⟨rfl, h2⟩ := h2
            refine (ih .expr { s with L := s.L.tail } trivial (by show s.N.length + s.L.tail.length ≤ _; omega) (by show 10 * s.L.tail.length + 4 < _; omega)).mono fun s3 h3 => ?_
            obtain ⟨⟨a, b, c⟩, d⟩ := h3
            have a' : s3.L.length + 1 ≤ s.L.tail.length := a
            have b' : s3.N.length + s3.L.length ≤ s.N.length + s.L.tail.length := b
            exact ⟨by omega, by omega, c, d.o, d.k⟩
          · obtain ⟨a, b, c, d⟩ := h3
            refine (word_fine s3 (by simp)).mono fun s4 h4 => ?_
            obtain ⟨rfl, h4⟩ := h4
            refine ⟨⟨?_, ?_, c⟩, ?_, ?_, ?_⟩
            · show s3.L.tail.length + 3 ≤ _; omega
            · show s3.N.length + s3.L.tail.length ≤ _; omega
            · rw [← hm]; exact top_take2 (s' := s3) ht d
            · show _ ≤ s3.O.length; rw [d.o, ht.o]; simp; omega
            · show s3.N.length + s3.L.tail.length + 1 ≤ _; omega
        · intro s5 h5
          obtain ⟨⟨a, b, c⟩, d, e, f⟩ := h5
          refine (add_fine s5 e (by omega)).mono fun s6 h6 => ?_
          exact ⟨less_add h6 (by omega) (by omega) (by omega), add_top h6 d (mk_rng ⟨by decide, by decide⟩)⟩
      · rw [if_neg hb]
        by_cases hpp : (pk E s.L).t = [43, 43] ∨ (pk E s.L).t = [45, 45]
        · rw [if_pos hpp]
          have htl := tail_lt (pk_pos (E := E) (by rcases hpp with h | h <;> rw [h] <;> simp))
          refine Fine.bind (P := fun s2 => Less 1 s s2 ∧ Top1 O0 s2) ?_ again
          refine (add_fine { s with L := s.L.tail } (by show _ ≤ s.O.length; rw [ht.o]; simp; omega) (by show s.N.length ≤ _; omega)).mono fun s6 h6 => ?_
          exact ⟨less_add h6 (by show s.L.tail.length + 1 ≤ _; omega) (by show s.N.length + s.L.tail.length + 1 ≤ _; omega) (by show s.N.length ≤ s.N.length; omega), add_top h6 (by show s.O.take mark = _; rw [← hm]; exact top_take ht) (mk_rng ⟨by decide, by decide⟩)⟩
        · rw [if_neg hpp]
          exact ⟨⟨by omega, by omega, by omega⟩, fun _ _ h => h⟩
    | primary =>
      change 10 * s.L.length + 0 < n + 1 at hf
      have leaf : ∀ x : Mn, 31 ≤ x.k ∧ x.k ≤ 40 → s.L.tail.length + 1 = s.L.length → Fine (buildF x [] { s with L := s.L.tail }) (PostJ .primary s) := fun x hx htl => by
        refine (add_fine { s with L := s.L.tail } (Nat.le_refl _) (by show s.N.length ≤ _; omega)).mono fun s6 h6 => ?_
        exact ⟨less_add h6 (by show s.L.tail.length + 1 ≤ _; omega) (by show s.N.length + s.L.tail.length + 1 ≤ _; omega) (by show s.N.length ≤ s.N.length; omega), add_top h6 (by simp) hx⟩
      show Fine (if (pk E s.L).k = 2 then _ else if (pk E s.L).k = 1 then _ else _) _
      by_cases h2 : (pk E s.L).k = 2
      · rw [if_pos h2]
        exact leaf _ (mk_rng ⟨by decide, by decide⟩) (tail_lt (pk_kpos (E := E) (by rw [h2]; simp)))
      · rw [if_neg h2]
        by_cases h1 : (pk E s.L).k = 1
        · rw [if_pos h1]
          have htl := tail_lt (pk_kpos (E := E) (by rw [h1]; simp : (pk E s.L).k ≠ 0))
          by_cases hc : (pk E s.L.tail).t = [40]
          · rw [if_pos hc]
            unfold buildF extF
            refine Fine.bind (P := fun s5 => Less 2 s s5 ∧ s5.O.take s.O.length = s.O ∧ s.O.length ≤ s5.O.length ∧ s5.N.length + s5.L.length + 1 ≤ s.N.length + s.L.length) ?_ ?_
            · refine seq_fine1 ?_
              refine (ih (.list [40] [41] .expr) { s with L := s.L.tail } ⟨by simp, by simp, rfl⟩ (by show s.N.length + s.L.tail.length ≤ _; omega) (by show 10 * s.L.tail.length + 0 < _; omega)).mono fun s3 h3 => ?_
              obtain ⟨⟨a, b, c⟩, l, d⟩ := h3
              have a' : s3.L.length + 1 ≤ s.L.tail.length := a
              have b' : s3.N.length + s3.L.length ≤ s.N.length + s.L.tail.length := b
              have c' : s.N.length ≤ s3.N.length := c
              have d' : s3.O = s.O ++ l := d
              exact ⟨⟨by omega, by omega, c'⟩, by rw [d']; simp, by rw [d']; simp, by omega⟩
            · intro s5 h5
              obtain ⟨⟨a, b, c⟩, d, e, f⟩ := h5
              refine (add_fine s5 e (by omega)).mono fun s6 h6 => ?_
              exact ⟨less_add h6 (by omega) (by omega) (by omega), add_top h6 d (mk_rng ⟨by decide, by decide⟩)⟩
          · rw [if_neg hc]
            exact leaf _ (mk_rng ⟨by decide, by decide⟩) htl
        · rw [if_neg h1]
          refine seq_fine3 (word_fine s (by simp)) (fun s2 h2 => ?_) (fun s3 h3 => ?_)
            (Q := fun s3 => s3.L.length + 2 ≤ s.L.length ∧ s3.N.length + s3.L.length + 1 ≤ s.N.length + s.L.length ∧ s.N.length ≤ s3.N.length ∧ Top1 s.O s3)
          · obtain ⟨rfl, h2⟩ := h2
            refine (ih .expr { s with L := s.L.tail } trivial (by show s.N.length + s.L.tail.length ≤ _; omega) (by show 10 * s.L.tail.length + 4 < _; omega)).mono fun s3 h3 => ?_
            obtain ⟨⟨a, b, c⟩, d⟩ := h3
            have a' : s3.L.length + 1 ≤ s.L.tail.length := a
            have b' : s3.N.length + s3.L.length ≤ s.N.length + s.L.tail.length := b
            exact ⟨by omega, by omega, c, d.o, d.k⟩
          · obtain ⟨a, b, c, d⟩ := h3
            refine (word_fine s3 (by simp)).mono fun s4 h4 => ?_
            obtain ⟨rfl, h4⟩ := h4
            refine ⟨⟨?_, ?_, c⟩, d.o, d.k⟩
            · show s3.L.tail.length + 1 ≤ _; omega
            · show s3.N.length + s3.L.tail.length ≤ _; omega
    | list o e item =>
      change 10 * s.L.length + 0 < n + 1 at hf
      obtain ⟨h1, h2, rfl⟩ := hp
      refine Fine.bind (word_fine s h1) fun s1 k1 => ?_
      obtain ⟨rfl, k1⟩ := k1
      have hl := less_tail k1
      by_cases he : (pk E s.L.tail).t = e
      · show Fine (if (pk E s.L.tail).t = e then _ else _) _
        rw [if_pos he]
        have h3 := tail_le s.L.tail
        exact ⟨⟨by show s.L.tail.tail.length + 1 ≤ _; omega, by show s.N.length + s.L.tail.tail.length ≤ _; omega, Nat.le_refl _⟩, [], by simp⟩
      · show Fine (if (pk E s.L.tail).t = e then _ else _) _
        rw [if_neg he]
        refine (ih (.items e .expr) { s with L := s.L.tail } ⟨h2, rfl⟩ (by show s.N.length + s.L.tail.length ≤ _; omega) (by show 10 * s.L.tail.length + 5 < _; omega)).mono fun s3 h3 => ?_
        exact ⟨(hl.trans h3.1).of (by omega), h3.2⟩
    | items e item =>
      change 10 * s.L.length + 5 < n + 1 at hf
      obtain ⟨h2, rfl⟩ := hp
      refine Fine.bind (ih .expr s trivial hs (by show _ + 4 < _; omega)) fun s1 h1 => ?_
      obtain ⟨hl, ht⟩ := h1
      have hl1 := hl.l; have hn1 := hl.n
      show Fine (if (pk E s1.L).t = [44] then _ else _) _
      by_cases hc : (pk E s1.L).t = [44]
      · rw [if_pos hc]
        have htl := tail_lt (pk_pos (E := E) (by rw [hc]; simp : (pk E s1.L).t ≠ []))
        refine (ih (.items e .expr) { s1 with L := s1.L.tail } ⟨h2, rfl⟩ (by show s1.N.length + s1.L.tail.length ≤ _; omega) (by show 10 * s1.L.tail.length + 5 < _; omega)).mono fun s3 h3 => ?_
        obtain ⟨hl3, l, d⟩ := h3
        refine ⟨((hl.trans (less_tail htl)).trans hl3).of (by omega), ((s1.N.length : Int) - 1) :: l, ?_⟩
        have d' : s3.O = s1.O ++ l := d
        rw [d', ht.o]; simp
      · rw [if_neg hc]
        refine (word_fine s1 h2).mono fun s2 k2 => ?_
        obtain ⟨rfl, k2⟩ := k2
        exact ⟨(hl.trans (less_tail k2)).of (by omega), [(s1.N.length : Int) - 1], ht.o⟩
end Go.Proofs.YtbjacclfhgnffaaGreatDoor
