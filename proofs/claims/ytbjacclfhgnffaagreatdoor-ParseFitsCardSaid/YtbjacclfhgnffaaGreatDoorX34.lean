/-
  Joined texts of this claim: Pu.
-/
import Derived.Test.YtbjacclfhgnffaaGreatDoorX31
import Derived.Test.YtbjacclfhgnffaaGreatDoorX09
set_option linter.unusedVariables false
set_option linter.unusedSimpArgs false
/-
  Plain: the parser of units ends with fuel enough.
-/
namespace Go.Proofs.YtbjacclfhgnffaaGreatDoor
open Tk (T4)

/-- so many words at least have gone, and the nodes have not grown by more than four a word -/
structure Part3 (c : Nat) (d : Int) (s s' : S3) : Prop where
  l : s'.L.length + c ≤ s.L.length
  n : (s'.N.length : Int) + 4 * s'.L.length + d ≤ s.N.length + 4 * s.L.length
  g : s.N.length ≤ s'.N.length
  o : ∃ l, s'.O = s.O ++ l
theorem Part3.trans {a c : Nat} {b d : Int} {s1 s2 s3 : S3} (h : Part3 a b s1 s2) (k : Part3 c d s2 s3) : Part3 (a + c) (b + d) s1 s3 := by
  obtain ⟨h1, h2, h3, l, h4⟩ := h
  obtain ⟨k1, k2, k3, m, k4⟩ := k
  exact ⟨by omega, by omega, by omega, l ++ m, by rw [k4, h4]; simp⟩
theorem Part3.weak {a c : Nat} {b d : Int} {s1 s2 : S3} (h : Part3 a b s1 s2) (h1 : c ≤ a) (h2 : d ≤ b) : Part3 c d s1 s2 :=
  ⟨by have := h.l; omega, by have := h.n; omega, h.g, h.o⟩
theorem Part3.refl (s : S3) : Part3 0 0 s s := ⟨Nat.le_refl _, by omega, Nat.le_refl _, [], by simp⟩
def sz4 (s : S3) : Int := s.N.length + 4 * s.L.length
/-- ends well at so many words, or goes wrong -/
def Q3 (K : Nat) (B : Int) (f : F3) (c : Nat) (d : Int) : Prop := ∀ s : S3, s.L.length ≤ K → sz4 s ≤ B → Fine (f s) (Part3 c d s)
theorem Q3.weak {K K' : Nat} {B B' : Int} {f : F3} {c c' : Nat} {d d' : Int} (h : Q3 K B f c d) (hK : K' ≤ K) (hB : B' ≤ B) (hc : c' ≤ c) (hd : d' ≤ d) : Q3 K' B' f c' d' := fun s h1 h2 => (h s (Nat.le_trans h1 hK) (by omega)).mono fun _ k => k.weak hc hd
theorem Q3.low {K : Nat} {B : Int} {f : F3} {c c' : Nat} {d d' : Int} (h : Q3 K B f c d) (hc : c' ≤ c) (hd : d' ≤ d) : Q3 K B f c' d' := h.weak (Nat.le_refl _) (Int.le_refl _) hc hd
theorem sz_le {c : Nat} {d B : Int} {s s' : S3} (h : Part3 c d s s') (hs : sz4 s ≤ B) : sz4 s' ≤ B - d := by
  have h1 := h.n
  unfold sz4 at hs ⊢; omega
theorem Q3.nil {K : Nat} {B : Int} : Q3 K B (seqF []) 0 0 := fun s _ _ => Part3.refl s
theorem Q3.cons {K : Nat} {B : Int} {f : F3} {fs : List F3} {c1 c2 : Nat} {d1 d2 : Int} (h : Q3 K B f c1 d1) (k : c1 ≤ K → Q3 (K - c1) (B - d1) (seqF fs) c2 d2) : Q3 K B (seqF (f :: fs)) (c1 + c2) (d1 + d2) := fun s h1 h2 => by
  unfold seqF
  refine Fine.bind (h s h1 h2) fun s1 p => ?_
  have hl := p.l
  exact (k (by omega) s1 (by omega) (sz_le p h2)).mono fun s2 q => p.trans q
theorem tail_part {s : S3} (h : s.L ≠ []) : Part3 1 4 s { s with L := s.L.tail } := by
  have h1 := tail_lt h
  exact ⟨by show s.L.tail.length + 1 ≤ _; omega, by show (s.N.length : Int) + 4 * s.L.tail.length + 4 ≤ _; omega, Nat.le_refl _, [], by simp⟩
theorem tail_part0 (s : S3) : Part3 0 0 s { s with L := s.L.tail } := by
  have h1 := tail_le s.L
  exact ⟨by show s.L.tail.length + 0 ≤ _; omega, by show (s.N.length : Int) + 4 * s.L.tail.length + 0 ≤ _; omega, Nat.le_refl _, [], by simp⟩
theorem Q3.word {K E : Nat} {B : Int} {t : List UInt8} (ht : t ≠ []) : Q3 K B (wordF E t) 1 4 := fun s _ _ => by
  refine (word_fine s ht).mono fun s1 h => ?_
  obtain ⟨rfl, h⟩ := h
  exact tail_part (fun e => by rw [e] at h; simp at h)
/-- behind a word that was taken -/
theorem Q3.tail {K : Nat} {B : Int} {f : F3} {c : Nat} {d : Int} {s : S3} (h : 1 ≤ K → Q3 (K - 1) (B - 4) f c d) (h1 : s.L.length ≤ K) (h2 : sz4 s ≤ B) (hn : s.L ≠ []) : Fine (f { s with L := s.L.tail }) (Part3 (1 + c) (4 + d) s) := by
  have hp := tail_part hn
  have h3 := hp.l
  have h4 := tail_lt hn
  exact (h (by omega) _ (by omega) (sz_le hp h2)).mono fun s2 q => hp.trans q
theorem Q3.expr {K E n : Nat} {B : Int} (h : 10 * K + 4 < n) (hB : B ≤ 4500000) : Q3 K B (runJ E n .expr) 1 3 := fun s h1 h2 => by
  unfold sz4 at h2
  refine (runJ_fine E n .expr s trivial (by omega) (by show _ + 4 < _; omega)).mono fun s1 h => ?_
  obtain ⟨⟨a, b, c⟩, d⟩ := h
  exact ⟨a, by omega, c, _, d.o⟩
theorem Q3.build {K : Nat} {B : Int} {X : S3 → Mn} {fs : List F3} {c : Nat} {d : Int} (h : Q3 K B (seqF fs) c (d + 1)) (hB : B - d ≤ 4500001) : Q3 K B (fun s => buildF (X s) fs s) c d := fun s h1 h2 => by
  show Fine (buildF (X s) fs s) _
  unfold buildF extF
  refine Fine.bind (h s h1 h2) fun s1 p => ?_
  obtain ⟨a, b, g, l, o⟩ := p
  unfold sz4 at h2
  refine (add_fine s1 (by rw [o]; simp) (by omega)).mono fun s2 h => ?_
  subst h
  refine ⟨a, ?_, ?_, [(s1.N.length : Int)], ?_⟩
  · show ((s1.N ++ _).length : Int) + 4 * s1.L.length + d ≤ _; simp; omega
  · show _ ≤ (s1.N ++ _).length; simp; omega
  · show s1.O.take s.O.length ++ _ = _; rw [o]; simp
theorem Q3.buildc {K : Nat} {B : Int} {x : Mn} {fs : List F3} {c : Nat} {d : Int} (h : Q3 K B (seqF fs) c (d + 1)) (hB : B - d ≤ 4500001) : Q3 K B (buildF x fs) c d := Q3.build (X := fun _ => x) h hB
/-- takes a word and goes on, or does the other -/
theorem Q3.took {K E : Nat} {B : Int} {t : List UInt8} (ht : t ≠ []) {f g : F3} {c : Nat} {d : Int} (h : 1 ≤ K → Q3 (K - 1) (B - 4) f c d) {c2 : Nat} {d2 : Int} (k : Q3 K B g c2 d2) (h1 : c2 ≤ c + 1) (h2 : d2 ≤ d + 4) : Q3 K B (fun s => if (pk E s.L).t = t then f { s with L := s.L.tail } else g s) c2 d2 := fun s q1 q2 => by
  show Fine (if (pk E s.L).t = t then _ else _) _
  by_cases hp : (pk E s.L).t = t
  · rw [if_pos hp]
    exact (Q3.tail h q1 q2 (pk_pos (E := E) (by rw [hp]; exact ht))).mono fun s2 q => q.weak (by omega) (by omega)
  · rw [if_neg hp]; exact k s q1 q2
theorem Q3.ite {K : Nat} {B : Int} {p : S3 → Prop} [DecidablePred p] {f g : F3} {c : Nat} {d : Int} (h : Q3 K B f c d) (k : Q3 K B g c d) : Q3 K B (fun s => if p s then f s else g s) c d := fun s h1 h2 => by
  show Fine (if p s then f s else g s) _
  by_cases hp : p s
  · rw [if_pos hp]; exact h s h1 h2
  · rw [if_neg hp]; exact k s h1 h2
theorem Q3.ok {K : Nat} {B : Int} : Q3 K B .ok 0 0 := fun s _ _ => Part3.refl s
theorem Q3.bind {K : Nat} {B : Int} {f g : F3} {c1 c2 : Nat} {d1 d2 : Int} (h : Q3 K B f c1 d1) (k : c1 ≤ K → Q3 (K - c1) (B - d1) g c2 d2) : Q3 K B (fun s => (f s).bind g) (c1 + c2) (d1 + d2) := fun s h1 h2 => by
  refine Fine.bind (h s h1 h2) fun s1 p => ?_
  have hl := p.l
  exact (k (by omega) s1 (by omega) (sz_le p h2)).mono fun s2 q => p.trans q
/-- of what is declared -/
def FineD (r : D3) (P : S3 → Prop) : Prop := match r with | .ok s _ => P s | .bad _ _ => True | .out => False
theorem FineD.bind {r : D3} {f : S3 → Mn → R3} {P Q : S3 → Prop} (h : FineD r P) (k : ∀ s x, P s → Fine (f s x) Q) : Fine (r.bind f) Q := by
  cases r with
  | ok s x => exact k s x h
  | bad c a => trivial
  | out => exact h.elim
theorem FineD.mono {r : D3} {P Q : S3 → Prop} (h : FineD r P) (k : ∀ s, P s → Q s) : FineD r Q := by
  cases r with
  | ok s x => exact k s h
  | bad c a => trivial
  | out => exact h.elim
theorem named_fine (E : Nat) (typ : Int) (s : S3) : FineD (namedF E typ s) (Part3 1 4 s) := by
  unfold namedF
  split
  · rename_i h
    exact tail_part (pk_kpos (E := E) (by rw [h]; simp))
  · trivial
theorem decl_fine (E : Nat) (s : S3) : FineD (declF E s) (Part3 2 8 s) := by
  unfold declF
  have h := word_fine (E := E) (t := [105, 110, 116]) s (by simp)
  cases hw : wordF E [105, 110, 116] s with
  | bad c a => trivial
  | out => rw [hw] at h; exact h.elim
  | ok s1 =>
    rw [hw] at h
    obtain ⟨rfl, h⟩ := h
    have hn : s.L ≠ [] := fun e => by rw [e] at h; simp at h
    have hp := tail_part hn
    show FineD (if _ then _ else _) _
    split
    · refine (named_fine E 2 _).mono fun s2 q => ?_
      have h0 := tail_part0 { s with L := s.L.tail }
      exact ((hp.trans h0).trans q).weak (by omega) (by omega)
    · exact (named_fine E 1 _).mono fun s2 q => hp.trans q
theorem Q3.decl {K E : Nat} {B : Int} {f : S3 → Mn → R3} {c : Nat} {d : Int} (h : 2 ≤ K → ∀ x, Q3 (K - 2) (B - 8) (fun s => f s x) c d) : Q3 K B (fun s => (declF E s).bind f) (2 + c) (8 + d) := fun s h1 h2 => by
  refine FineD.bind (decl_fine E s) fun s1 x p => ?_
  have hl := p.l
  exact (h (by omega) x s1 (by omega) (sz_le p h2)).mono fun s2 q => p.trans q
section small
variable {K E n : Nat} {B : Int}
theorem Q3.initial (h : 10 * K + 4 < n) (hB : B ≤ 4500000) : Q3 K B (initialF E (runJ E n .expr)) 0 0 :=
  Q3.took (by simp) (f := runJ E n .expr) (g := .ok) (c := 1) (d := 3) (fun _ => Q3.expr (by omega) (by omega)) Q3.ok (by omega) (by omega)
theorem Q3.param (hB : B ≤ 4500000) : Q3 K B (paramF E) 2 7 :=
  (Q3.decl (f := fun s1 x => buildF { x with k := 4 } [] s1) (c := 0) (d := -1) fun _ x => Q3.buildc (Q3.nil) (by omega)).low (by omega) (by omega)
theorem Q3.local (h : 10 * K + 4 < n) (hB : B ≤ 4500000) : Q3 K B (localF E (runJ E n .expr)) 2 7 :=
  (Q3.decl (f := fun s1 x => buildF { x with k := 12 } [initialF E (runJ E n .expr)] s1) (c := 0) (d := -1) fun _ x => Q3.buildc (((Q3.initial (by omega) (by omega)).cons (fun _ => Q3.nil)).low (by omega) (by omega)) (by omega)).low (by omega) (by omega)
theorem Q3.effect (h : 10 * K + 4 < n) (hB : B ≤ 4500000) : Q3 K B (effectF E (runJ E n .expr)) 1 2 :=
  Q3.build (X := fun s => mk 13 [] 0 (pk E s.L).a) (((Q3.expr h hB).cons (fun _ => Q3.nil)).low (by omega) (by omega)) (by omega)
theorem Q3.nothing (hB : B ≤ 4500000) : Q3 K B (nothingF E) 0 (-1) :=
  Q3.build (X := fun s => mk 24 [] 0 (pk E s.L).a) Q3.nil (by omega)
theorem Q3.condition (h : 10 * K + 4 < n) (hB : B ≤ 4500000) : Q3 K B (conditionF E (runJ E n .expr)) 3 11 :=
  ((Q3.word (by simp)).cons fun _ => (Q3.expr (by omega) (by omega)).cons fun _ => (Q3.word (by simp)).cons fun _ => Q3.nil).low (by omega) (by omega)
theorem Q3.told (h : 10 * K + 4 < n) (hB : B ≤ 4500000) : Q3 K B (toldF E (runJ E n .expr)) 0 0 :=
  Q3.ite (p := fun s => (pk E s.L).t = [59]) Q3.ok ((Q3.expr h hB).low (by omega) (by omega))
theorem Q3.unless {t : List UInt8} {f : F3} {c : Nat} {d : Int} (h : Q3 K B f c d) (hd : -1 ≤ d) (hB : B ≤ 4500000) : Q3 K B (unlessF E t f) 0 (-1) :=
  Q3.ite (p := fun s => (pk E s.L).t = t) (Q3.nothing hB) (h.low (by omega) hd)
theorem Q3.start (h : 10 * K + 4 < n) (hB : B ≤ 4500000) : Q3 K B (startF E (runJ E n .expr)) 0 (-1) :=
  Q3.ite (p := fun s => (pk E s.L).t = [105, 110, 116]) ((Q3.local h hB).low (by omega) (by omega)) (Q3.unless (Q3.effect h hB) (by omega) hB)
theorem items_all {en : List UInt8} (hen : en ≠ []) {f : F3} {c : Nat} {d : Int} (hc : 1 ≤ c) (hd : -4 ≤ d) (hf : ∀ K B, B ≤ 4500000 → Q3 K B f c d) : ∀ n K (B : Int), B ≤ 4500000 → K < n → Q3 K B (itemsF E en (fun _ => f) n) 1 0 := by
  intro n
  induction n with
  | zero => intro K B _ h; omega
  | succ n ih =>
    intro K B hB h
    have h1 : Q3 K B (fun s => (f s).bind fun s2 => if (pk E s2.L).t = [44] then itemsF E en (fun _ => f) n { s2 with L := s2.L.tail } else wordF E en s2) (c + 0) (d + 4) := by
      refine (hf K B hB).bind (c2 := 0) (d2 := 4) (g := fun s2 => if (pk E s2.L).t = [44] then itemsF E en (fun _ => f) n { s2 with L := s2.L.tail } else wordF E en s2) fun hK => ?_
      exact Q3.took (by simp) (fun hK2 => ih (K - c - 1) _ (by omega) (by omega)) ((Q3.word hen).low (by omega) (by omega)) (by omega) (by omega)
    exact h1.low (by omega) (by omega)
theorem list_all {o en : List UInt8} (ho : o ≠ []) (hen : en ≠ []) {f : F3} {c : Nat} {d : Int} (hc : 1 ≤ c) (hd : -4 ≤ d) (hf : ∀ K B, B ≤ 4500000 → Q3 K B f c d) (hB : B ≤ 4500000) (h : K ≤ n) : Q3 K B (listF E o en (fun _ => f) n) 1 4 :=
  ((Q3.word ho).bind (c2 := 0) (d2 := 0) (g := fun s1 => if (pk E s1.L).t = en then .ok { s1 with L := s1.L.tail } else itemsF E en (fun _ => f) n s1) fun _ =>
    Q3.took hen (f := .ok) (fun _ => Q3.ok) ((items_all hen hc hd hf n _ _ (by omega) (by omega)).low (by omega) (by omega)) (by omega) (by omega)).low (by omega) (by omega)
theorem list_expr (h : 10 * K < n) (hB : B ≤ 4500000) {o en : List UInt8} (ho : o ≠ []) (hen : en ≠ []) : Q3 K B (listF E o en (fun m => runJ E m .expr) n) 1 0 := fun s h1 h2 => by
  unfold sz4 at h2
  have h3 := runJ_fine E (n + 1) (.list o en .expr) s ⟨ho, hen, rfl⟩ (by omega) (by show _ + 0 < _; omega)
  have e : runJ E (n + 1) (.list o en .expr) s = listF E o en (fun m => runJ E m .expr) n s := by
    show (wordF E o s).bind (fun s1 => if (pk E s1.L).t = en then .ok { s1 with L := s1.L.tail } else runJ E n (.items en .expr) s1) = _
    rw [items_eq]; rfl
  rw [e] at h3
  refine h3.mono fun s1 h => ?_
  obtain ⟨⟨a, b, c⟩, d⟩ := h
  exact ⟨a, by omega, c, d⟩
theorem Q3.values {m : Int} (h : 10 * K < n) (hB : B ≤ 4500000) : Q3 K B (valuesF E m (fun m => runJ E m .expr) n) 0 0 := fun s h1 h2 => by
  unfold valuesF
  by_cases hp : (pk E s.L).t = [61]
  · rw [if_pos hp]
    have hn : s.L ≠ [] := pk_pos (E := E) (by rw [hp]; simp)
    refine Fine.bind (Q3.tail (f := listF E [123] [125] (fun m => runJ E m .expr) n) (fun _ => list_expr (by omega) (by omega) (by simp) (by simp)) h1 h2 hn) fun s2 q => ?_
    show Fine (if _ then _ else _) _
    split
    · trivial
    · exact q.weak (by omega) (by omega)
  · rw [if_neg hp]; exact Part3.refl s
theorem Q3.array {x : Mn} (h : 10 * K < n) (hB : B ≤ 4500000) : Q3 K B (arrayF E x (fun m => runJ E m .expr) n) 1 1 := fun s h1 h2 => by
  unfold arrayF
  have hw : Q3 K B (wordF E [91]) 1 4 := Q3.word (by simp)
  refine Fine.bind (hw s h1 h2) fun s1 p => ?_
  have hl := p.l
  have hs := sz_le p h2
  by_cases hk : (pk E s1.L).k = 2
  · simp only [if_pos hk]
    by_cases hr : (pk E s1.L).v < 1 ∨ 200 < (pk E s1.L).v
    · simp only [if_pos hr]; trivial
    · simp only [if_neg hr]
      have hn : s1.L ≠ [] := pk_kpos (E := E) (by rw [hk]; simp)
      have hb : Q3 (s1.L.length - 1) (B - 4 - 4) (buildF { x with k := 2, n := 3, z := ((pk E s1.L).v : Int) } [wordF E [93], valuesF E (pk E s1.L).v (fun m => runJ E m .expr) n, wordF E [59]]) 2 7 :=
        Q3.buildc (((Q3.word (by simp)).cons fun _ => (Q3.values (by omega) (by omega)).cons fun _ => (Q3.word (by simp)).cons fun _ => Q3.nil).low (by omega) (by omega)) (by omega)
      have hb2 := Q3.tail (fun _ => hb) (Nat.le_refl _) hs hn
      exact hb2.mono fun s2 q => (p.trans q).weak (by omega) (by omega)
  · simp only [if_neg hk]; trivial
end small
def rankU : UJob → Nat
  | .compound => 5
  | .block => 5
  | .action => 6
  | .inSwitch => 7
  | .body => 7
  | .braces _ => 8
  | .global => 5
  | .globals => 6
def cU : UJob → Nat
  | .globals => 0
  | _ => 1
def dU : UJob → Int
  | .globals => 0
  | .braces _ => 0
  | .body => 2
  | .global => 1
  | _ => 3
theorem runU_fine (E : Nat) : ∀ n job K (B : Int), B ≤ 4500000 → 10 * K + rankU job < n → Q3 K B (runU E n job) (cU job) (dU job) := by
  intro n
  induction n with
  | zero => intro job K B _ h; omega
  | succ n ih =>
    intro job K B hB hf
    show Q3 K B (stepU E n (runU E n) job) _ _
    have ihs : ∀ job, (c : Nat) → (d : Int) → cU job = c → dU job = d → ∀ K (B : Int), B ≤ 4500000 → 10 * K + rankU job < n → Q3 K B (runU E n job) c d := fun job c d h1 h2 K B h3 h4 => by
      subst h1; subst h2; exact ih job K B h3 h4
    cases job with
    | braces sw =>
      change 10 * K + 8 < n + 1 at hf
      have h1 : Q3 K B (runU E n (itemU sw)) 1 3 := by
        cases sw
        · exact ihs .action 1 3 rfl rfl K B hB (by show _ + 6 < _; omega)
        · exact ihs .inSwitch 1 3 rfl rfl K B hB (by show _ + 7 < _; omega)
      refine Q3.took (by simp) (f := .ok) (g := fun s => (runU E n (itemU sw) s).bind (runU E n (.braces sw))) (c := 0) (d := 0) (fun _ => Q3.ok) ?_ (by show 1 ≤ _; omega) (by show (0 : Int) ≤ _; omega)
      exact (h1.bind (c2 := 1) (d2 := 0) fun hK => ihs (.braces sw) 1 0 rfl rfl _ _ (by omega) (by show _ + 8 < _; omega)).low (by show 1 ≤ _; omega) (by show (0 : Int) ≤ _; omega)
    | block =>
      change 10 * K + 5 < n + 1 at hf
      refine Q3.build (X := fun s => mk 11 [] 0 (pk E s.L).a) (fs := [fun s => (wordF E [123] s).bind (runU E n (.braces false))]) ?_ (by show B - 3 ≤ _; omega)
      have h1 : Q3 K B (fun s => (wordF E [123] s).bind (runU E n (.braces false))) (1 + 1) (4 + 0) :=
        (Q3.word (by simp)).bind fun _ => ihs (.braces false) 1 0 rfl rfl _ _ (by omega) (by show _ + 8 < _; omega)
      exact (h1.cons fun _ => Q3.nil).low (by show 1 ≤ _; omega) (by show (3 : Int) + 1 ≤ _; omega)
    | body =>
      change 10 * K + 7 < n + 1 at hf
      refine Q3.ite (p := fun s => (pk E s.L).t = [123]) (f := runU E n .block) (g := fun s => buildF (mk 11 [] 0 (pk E s.L).a) [runU E n .action] s) ?_ ?_
      · exact (ihs .block 1 3 rfl rfl K B hB (by show _ + 5 < _; omega)).low (by show 1 ≤ _; omega) (by show (2 : Int) ≤ _; omega)
      · refine Q3.build (X := fun s => mk 11 [] 0 (pk E s.L).a) ?_ (by show B - 2 ≤ _; omega)
        exact ((ihs .action 1 3 rfl rfl K B hB (by show _ + 6 < _; omega)).cons fun _ => Q3.nil).low (by show 1 ≤ _; omega) (by show (2 : Int) + 1 ≤ _; omega)
    | action =>
      change 10 * K + 6 < n + 1 at hf
      refine Q3.ite (p := fun s => (pk E s.L).t = [123]) (f := runU E n .block) ((ihs .block 1 3 rfl rfl K B hB (by show _ + 5 < _; omega))) ?_
      refine Q3.ite (p := fun s => (pk E s.L).t = [105, 110, 116]) (f := seqF [localF E (runJ E n .expr), wordF E [59]]) ?_ ?_
      · exact ((Q3.local (by omega) hB).cons fun _ => (Q3.word (by simp)).cons fun _ => Q3.nil).low (by show 1 ≤ _; omega) (by show (3 : Int) ≤ _; omega)
      refine Q3.ite (p := fun s => (pk E s.L).t = [105, 102] ∨ (pk E s.L).t = [119, 104, 105, 108, 101] ∨ (pk E s.L).t = [100, 111] ∨ (pk E s.L).t = [102, 111, 114] ∨ (pk E s.L).t = [115, 119, 105, 116, 99, 104]) (f := runU E n .compound) (ihs .compound 1 3 rfl rfl K B hB (by show _ + 5 < _; omega)) ?_
      refine Q3.ite (p := fun s => (pk E s.L).t = [98, 114, 101, 97, 107]) (f := fun s => buildF (mk 21 [] 0 (pk E s.L).a) [wordF E [98, 114, 101, 97, 107], wordF E [59]] s) ?_ ?_
      · exact Q3.build (X := fun s => mk 21 [] 0 (pk E s.L).a) (((Q3.word (by simp)).cons fun _ => (Q3.word (by simp)).cons fun _ => Q3.nil).low (by show 1 ≤ _; omega) (by show (3 : Int) + 1 ≤ _; omega)) (by show B - 3 ≤ _; omega)
      refine Q3.ite (p := fun s => (pk E s.L).t = [99, 111, 110, 116, 105, 110, 117, 101]) (f := fun s => buildF (mk 22 [] 0 (pk E s.L).a) [wordF E [99, 111, 110, 116, 105, 110, 117, 101], wordF E [59]] s) ?_ ?_
      · exact Q3.build (X := fun s => mk 22 [] 0 (pk E s.L).a) (((Q3.word (by simp)).cons fun _ => (Q3.word (by simp)).cons fun _ => Q3.nil).low (by show 1 ≤ _; omega) (by show (3 : Int) + 1 ≤ _; omega)) (by show B - 3 ≤ _; omega)
      refine Q3.ite (p := fun s => (pk E s.L).t = [114, 101, 116, 117, 114, 110]) (f := fun s => buildF (mk 23 [] 0 (pk E s.L).a) [wordF E [114, 101, 116, 117, 114, 110], toldF E (runJ E n .expr), wordF E [59]] s) ?_ ?_
      · exact Q3.build (X := fun s => mk 23 [] 0 (pk E s.L).a) (((Q3.word (by simp)).cons fun _ => (Q3.told (by omega) (by omega)).cons fun _ => (Q3.word (by simp)).cons fun _ => Q3.nil).low (by show 1 ≤ _; omega) (by show (3 : Int) + 1 ≤ _; omega)) (by show B - 3 ≤ _; omega)
      refine Q3.ite (p := fun s => (pk E s.L).t = [59]) (f := seqF [nothingF E, wordF E [59]]) (g := seqF [effectF E (runJ E n .expr), wordF E [59]]) ?_ ?_
      · exact ((Q3.nothing (by omega)).cons fun _ => (Q3.word (by simp)).cons fun _ => Q3.nil).low (by show 1 ≤ _; omega) (by show (3 : Int) ≤ _; omega)
      · exact ((Q3.effect (by omega) hB).cons fun _ => (Q3.word (by simp)).cons fun _ => Q3.nil).low (by show 1 ≤ _; omega) (by show (3 : Int) ≤ _; omega)
    | compound =>
      change 10 * K + 5 < n + 1 at hf
      have hels : ∀ K (B : Int), B ≤ 4500000 → 10 * K < n + 1 → Q3 K B (fun s => if (pk E s.L).t = [101, 108, 115, 101] then runU E n .body { s with L := s.L.tail } else .ok s) 0 0 := fun K B h1 h2 =>
        Q3.took (by simp) (f := runU E n .body) (g := .ok) (c := 1) (d := 2) (fun _ => ihs .body 1 2 rfl rfl _ _ (by omega) (by show _ + 7 < _; omega)) Q3.ok (by omega) (by omega)
      have hbo : ∀ K (B : Int), B ≤ 4500000 → 10 * K + 7 < n → Q3 K B (runU E n .body) 1 2 := fun K B h1 h2 => ihs .body 1 2 rfl rfl K B h1 h2
      have key : ∀ (t : List UInt8), t ≠ [] → ∀ (X : S3 → Mn) (fs : List F3) (g : F3), (1 ≤ K → Q3 (K - 1) (B - 4) (seqF fs) 0 0) → Q3 K B g 1 3 →
          Q3 K B (fun s => if (pk E s.L).t = t then buildF (X s) fs { s with L := s.L.tail } else g s) 1 3 := fun t ht X fs g h1 h2 s q1 q2 => by
        show Fine (if (pk E s.L).t = t then _ else _) _
        by_cases hp : (pk E s.L).t = t
        · rw [if_pos hp]
          have hn : s.L ≠ [] := pk_pos (E := E) (by rw [hp]; exact ht)
          exact (Q3.tail (f := buildF (X s) fs) (c := 0) (d := -1) (fun hK => Q3.buildc ((h1 hK).low (Nat.le_refl _) (by omega)) (by omega)) q1 q2 hn).mono fun s2 q => q.weak (by omega) (by omega)
        · rw [if_neg hp]; exact h2 s q1 q2
      refine key [105, 102] (by simp) (fun s => mk 14 [] 0 (pk E s.L).a) [conditionF E (runJ E n .expr), runU E n .body, _] _ (fun hK => ?_) ?_
      · exact ((Q3.condition (by omega) (by omega)).cons fun _ => (hbo _ _ (by omega) (by omega)).cons fun _ => (hels _ _ (by omega) (by omega)).cons fun _ => Q3.nil).low (by omega) (by omega)
      refine key [119, 104, 105, 108, 101] (by simp) (fun s => mk 15 [] 0 (pk E s.L).a) [conditionF E (runJ E n .expr), runU E n .body] _ (fun hK => ?_) ?_
      · exact ((Q3.condition (by omega) (by omega)).cons fun _ => (hbo _ _ (by omega) (by omega)).cons fun _ => Q3.nil).low (by omega) (by omega)
      refine key [100, 111] (by simp) (fun s => mk 16 [] 0 (pk E s.L).a) [runU E n .body, wordF E [119, 104, 105, 108, 101], conditionF E (runJ E n .expr), wordF E [59]] _ (fun hK => ?_) ?_
      · exact ((hbo _ _ (by omega) (by omega)).cons fun _ => (Q3.word (by simp)).cons fun _ => (Q3.condition (by omega) (by omega)).cons fun _ => (Q3.word (by simp)).cons fun _ => Q3.nil).low (by omega) (by omega)
      refine key [102, 111, 114] (by simp) (fun s => mk 17 [] 0 (pk E s.L).a) [wordF E [40], startF E (runJ E n .expr), wordF E [59], unlessF E [59] (runJ E n .expr), wordF E [59], unlessF E [41] (effectF E (runJ E n .expr)), wordF E [41], runU E n .body] _ (fun hK => ?_) ?_
      · exact ((Q3.word (by simp)).cons fun _ => (Q3.start (by omega) (by omega)).cons fun _ => (Q3.word (by simp)).cons fun _ => (Q3.unless (Q3.expr (by omega) (by omega)) (by omega) (by omega)).cons fun _ => (Q3.word (by simp)).cons fun _ => (Q3.unless (Q3.effect (by omega) (by omega)) (by omega) (by omega)).cons fun _ => (Q3.word (by simp)).cons fun _ => (hbo _ _ (by omega) (by omega)).cons fun _ => Q3.nil).low (by omega) (by omega)
      have hsw : Q3 K B (buildF (mk 18 [] 0 0) [conditionF E (runJ E n .expr), fun s => (wordF E [123] s).bind (runU E n (.braces true))]) 1 3 → True := fun _ => trivial
      intro s q1 q2
      have hb : Q3 K B (buildF (mk 18 [] 0 (pk E s.L).a) [conditionF E (runJ E n .expr), fun s => (wordF E [123] s).bind (runU E n (.braces true))]) 1 3 := by
        refine Q3.buildc ?_ (by omega)
        refine ((Q3.condition (by omega) (by omega)).cons fun _ => Q3.cons (c1 := 1 + 1) (d1 := 4 + 0) ((Q3.word (by simp)).bind fun _ => ihs (.braces true) 1 0 rfl rfl _ _ (by omega) (by show _ + 8 < _; omega)) fun _ => Q3.nil).low (by omega) (by omega)
      have h0 := tail_part0 s
      have h1 := h0.l
      exact (hb { s with L := s.L.tail } (by omega) (Int.le_trans (sz_le h0 q2) (by omega))).mono fun s2 q => (h0.trans q).weak (by omega) (by omega)
    | inSwitch =>
      change 10 * K + 7 < n + 1 at hf
      refine Q3.ite (p := fun s => (pk E s.L).t = [99, 97, 115, 101]) (f := fun s => buildF (mk 19 [] 0 (pk E s.L).a) [wordF E [99, 97, 115, 101], runJ E n .expr, wordF E [58]] s) ?_ ?_
      · exact Q3.build (X := fun s => mk 19 [] 0 (pk E s.L).a) (((Q3.word (by simp)).cons fun _ => (Q3.expr (by omega) (by omega)).cons fun _ => (Q3.word (by simp)).cons fun _ => Q3.nil).low (by show 1 ≤ _; omega) (by show (3 : Int) + 1 ≤ _; omega)) (by show B - 3 ≤ _; omega)
      refine Q3.ite (p := fun s => (pk E s.L).t = [100, 101, 102, 97, 117, 108, 116]) (f := fun s => buildF (mk 20 [] 0 (pk E s.L).a) [wordF E [100, 101, 102, 97, 117, 108, 116], wordF E [58]] s) (g := runU E n .action) ?_ ?_
      · exact Q3.build (X := fun s => mk 20 [] 0 (pk E s.L).a) (((Q3.word (by simp)).cons fun _ => (Q3.word (by simp)).cons fun _ => Q3.nil).low (by show 1 ≤ _; omega) (by show (3 : Int) + 1 ≤ _; omega)) (by show B - 3 ≤ _; omega)
      · exact ihs .action 1 3 rfl rfl K B hB (by show _ + 6 < _; omega)
    | global =>
      change 10 * K + 5 < n + 1 at hf
      have hfn : ∀ K (B : Int), B ≤ 4500000 → 10 * K < n → ∀ x : Mn, Q3 K B (buildF { x with k := 3 } [listF E [40] [41] (fun _ => paramF E) n, runU E n .block]) 2 6 := fun K B h1 h2 x => by
        refine Q3.buildc ?_ (by omega)
        exact ((list_all (by simp) (by simp) (c := 2) (d := 7) (by omega) (by omega) (fun K B h => Q3.param h) h1 (by omega)).cons fun _ => (ihs .block 1 3 rfl rfl _ _ (by omega) (by show _ + 5 < _; omega)).cons fun _ => Q3.nil).low (by omega) (by omega)
      refine Q3.took (by simp) (t := [118, 111, 105, 100]) (f := fun s => (namedF E 0 s).bind fun s1 x => buildF { x with k := 3 } [listF E [40] [41] (fun _ => paramF E) n, runU E n .block] s1) (g := fun s => (declF E s).bind fun s1 x =>
        if (pk E s1.L).t = [40] then buildF { x with k := 3 } [listF E [40] [41] (fun _ => paramF E) n, runU E n .block] s1
        else if (pk E s1.L).t = [91] ∧ x.n = 1 then arrayF E x (fun m => runJ E m .expr) n s1
        else buildF { x with k := 2 } [initialF E (runJ E n .expr), wordF E [59]] s1) (c := 1 + 2) (d := 4 + 6) (fun hK s q1 q2 => ?_) ?_ (by show 1 ≤ _; omega) (by show (1 : Int) ≤ _; omega)
      · refine FineD.bind (named_fine E 0 s) fun s1 x p => ?_
        have hl := p.l
        exact (hfn (K - 1 - 1) (B - 4 - 4) (by omega) (by omega) x s1 (by omega) (sz_le p q2)).mono fun s2 q => p.trans q
      · refine (Q3.decl (c := 0) (d := 0) fun hK x => ?_).low (by show 1 ≤ _; omega) (by show (1 : Int) ≤ _; omega)
        refine Q3.ite (p := fun s1 => (pk E s1.L).t = [40]) (f := buildF { x with k := 3 } [listF E [40] [41] (fun _ => paramF E) n, runU E n .block]) ((hfn _ _ (by omega) (by omega) x).low (by omega) (by omega)) ?_
        refine Q3.ite (p := fun s1 => (pk E s1.L).t = [91] ∧ x.n = 1) (f := arrayF E x (fun m => runJ E m .expr) n) (g := buildF { x with k := 2 } [initialF E (runJ E n .expr), wordF E [59]]) ((Q3.array (by omega) (by omega)).low (by omega) (by omega)) ?_
        refine Q3.buildc ?_ (by omega)
        exact ((Q3.initial (by omega) (by omega)).cons fun _ => (Q3.word (by simp)).cons fun _ => Q3.nil).low (by omega) (by omega)
    | globals =>
      change 10 * K + 6 < n + 1 at hf
      refine Q3.ite (p := fun s => s.L = []) (f := .ok) (g := fun s => (runU E n .global s).bind (runU E n .globals)) Q3.ok ?_
      exact ((ihs .global 1 1 rfl rfl K B hB (by show _ + 5 < _; omega)).bind (c2 := 0) (d2 := 0) fun hK => ihs .globals 0 0 rfl rfl _ _ (by omega) (by show _ + 6 < _; omega)).low (by show 0 ≤ _; omega) (by show (0 : Int) ≤ _; omega)
theorem unit_fine (E n : Nat) (L : List T4) (hL : L.length ≤ 1100000) (hn : 10 * L.length + 6 < n) : Fine (unitF E n ⟨L, [], []⟩) (fun s => s.N.length ≤ 4500000 ∧ ∃ x, s.N.getLast? = some x ∧ x.k = 1) := by
  unfold unitF buildF extF
  have h := runU_fine E n .globals L.length (4 * L.length) (by omega) hn ⟨L, [], []⟩ (Nat.le_refl _) (by unfold sz4; simp)
  refine Fine.bind (seq_fine1 h) fun s1 p => ?_
  obtain ⟨a, b, g, l, o⟩ := p
  have b' : (s1.N.length : Int) + 4 * s1.L.length + 0 ≤ 0 + 4 * L.length := b
  refine (add_fine s1 (Nat.zero_le _) (by omega)).mono fun s2 h => ?_
  subst h
  refine ⟨?_, ⟨{ mk 1 [] 0 0 with c := s1.O.drop 0 }, ?_, rfl⟩⟩
  · show (s1.N ++ _).length ≤ _; simp; omega
  · show (s1.N ++ _).getLast? = _; simp
theorem expr_fine (E n : Nat) (L : List T4) (hL : L.length ≤ 1100000) (hn : 10 * L.length + 4 < n) : Fine (runJ E n .expr ⟨L, [], []⟩) (fun s => s.N.length ≤ 4500000 ∧ LastE s.N) := by
  refine (runJ_fine E n .expr ⟨L, [], []⟩ trivial (by show 0 + L.length ≤ _; omega) hn).mono fun s1 p => ?_
  obtain ⟨⟨a, b, g⟩, o, k⟩ := p
  have b' : s1.N.length + s1.L.length ≤ 0 + L.length := b
  exact ⟨by omega, k⟩
end Go.Proofs.YtbjacclfhgnffaaGreatDoor
