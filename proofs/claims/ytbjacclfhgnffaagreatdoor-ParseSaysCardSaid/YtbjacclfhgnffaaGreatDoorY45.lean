/-
  Joined texts of this claim: Jw, Jx, Ka.
-/
import Derived.Test.YtbjacclfhgnffaaGreatDoorY43
import Derived.Test.YtbjacclfhgnffaaGreatDoorY33
import Derived.Test.YtbjacclfhgnffaaGreatDoorY44
import Derived.Test.YtbjacclfhgnffaaGreatDoorY34
import Derived.Test.YtbjacclfhgnffaaGreatDoorY38
set_option linter.unusedVariables false
set_option linter.unusedSimpArgs false
/-
  The document's reader: a text's words, and how it begins.
-/
namespace Go.Proofs.YtbjacclfhgnffaaGreatDoor
open Go.RowKit
open Tk (T4 SR Scans bstr rowOf)
open Tr (Nd Blk KidsAt NodeAt ret_bool)

theorem rscan_R {s : ByteArray} {R : SR} (hR : TokR s.data.toList R) {w : World} (hs : s.size ≤ 140737488355328) :
    Calls Tryz.prog 33 #[.string s] w (ScR R w) := (Tk.rscan_any s w hs).mono fun e w' ⟨hb, v, c, a, he, h⟩ => by
  refine ⟨hb, v, ?_⟩
  rcases h with ⟨h, rfl, rfl, rfl⟩ | ⟨h, R', hS, ho⟩
  · obtain rfl : R = .bad 2 0 := hR.det (Or.inl ⟨h, rfl⟩)
    exact ⟨he, rfl⟩
  · obtain rfl : R = R' := hR.det (Or.inr ⟨h, hS⟩)
    cases R with
    | ok L => obtain ⟨rfl, rfl, ho⟩ := ho; exact ⟨he, ho⟩
    | bad c' a' => obtain ⟨rfl, rfl, ho⟩ := ho; exact ⟨he, ho⟩
theorem scans_short {M : Nat} {p : Nat} {l : List UInt8} {acc : List T4} {R : SR} (h : Scans p l acc R) : l.length ≤ M → (∀ x, x ∈ acc → x.t.length ≤ M) → ∀ L, R = .ok L → ∀ x, x ∈ L → x.t.length ≤ M := by
  induction h with
  | done p acc => intro _ ha L hL; injection hL with hL; subst hL; exact ha
  | skip h k ih => exact fun hl ha => ih (by rw [List.length_drop]; omega) ha
  | opens h => intro _ _ L hL; cases hL
  | much h hn hm => intro _ _ L hL; cases hL
  | bad h hn hm hf => intro _ _ L hL; cases hL
  | tok h hn hm hf k' ih =>
    intro hl ha
    refine ih (by rw [List.length_drop]; omega) fun x hx => ?_
    rcases List.mem_append.1 hx with hx | hx
    · exact ha x hx
    · rw [List.mem_singleton] at hx
      subst hx
      show (List.take _ _).length ≤ M
      rw [List.length_take]; omega
theorem TokR.short {l : List UInt8} {L : List T4} (h : TokR l (.ok L)) : L.length ≤ 5000000 ∧ ∀ x, x ∈ L → x.t.length ≤ 1000000 := by
  have hf := h.few
  rcases h with ⟨_, h⟩ | ⟨h2, h⟩
  · cases h
  · exact ⟨by have := hf.1; omega, fun x hx => Nat.le_trans (scans_short (M := 2000) h h2 (fun x hx => by cases hx) L rfl x hx) (by decide)⟩
/-- no blocks at all -/
def None_ (_ : Nat) : Prop := False
theorem in_none (w : World) : In None_ w := fun b h => h.elim
theorem row_words {A : Nat → Prop} {w : World} {b : Nat} {v : Value} {L : List T4} (h : w.ownsRow b 82 4 v L.length (rowOf L)) (hA : ∀ g, b ≤ g → ¬ A g) : ∃ p cap, v = .slice p L.length cap ∧ TkA A w p L ∧ L.length ≤ cap ∧ cap ≤ 9223372036854775807 := by
  obtain ⟨h0, h1⟩ := h
  have hc := fun g hg => World.ownsRow.cells (w := w) (base := b) (e := 82) (size := 4) (v := v) (n := L.length) (xs := rowOf L) ⟨h0, h1⟩ (g := g) hg
  rcases h1 with ⟨rfl, h2⟩ | ⟨g, cap, cur, rfl, hg, hh, hn, hm, _, _⟩
  · exact ⟨none, 0, by rw [h2], fun h => absurd h (by omega), by omega, by omega⟩
  · unfold maxLen at hm
    refine ⟨_, cap, rfl, fun h0 => ?_, hn, by omega⟩
    refine ⟨g, 0, rfl, Tr.lt_of_block hh, hA g hg, fun j hj => ?_⟩
    have e : ∀ i, i < 4 → ∀ u, (Tk.cells4 L[j])[i]? = some u → w.cell? ⟨g, j * 4 + i, none⟩ = some u := fun i hi u hu => by
      have := hc g rfl (j * 4 + i) u ((rowOf_at L j hj i hi).trans hu)
      rwa [addr_add, Nat.zero_add] at this
    simp only [Nat.zero_add]
    exact ⟨e 0 (by omega) _ rfl, e 1 (by omega) _ rfl, e 2 (by omega) _ rfl, e 3 (by omega) _ rfl⟩
/-- two blocks -/
def Ae (g : Nat) (b : Nat) : Prop := b = g ∨ b = g + 1
theorem begin_at {E : Nat} {w : World} {b g : Nat} {v : Value} {L : List T4} (h : w.ownsRow b 82 4 v L.length (rowOf L)) (hg : g + 1 < b) (hL : L.length ≤ 5000000 ∧ ∀ x, x ∈ L → x.t.length ≤ 1000000) :
    ∃ p cap, v = .slice p L.length cap ∧ RdAt E (Ae g) w ⟨[], L, 0, 0, 0⟩ (.agg #[.slice none 0 0, .slice p L.length cap, .int .i64 E, .int .i64 0, .int .i64 0, .int .i64 0]) := by
  obtain ⟨p, cap, hv, hT, hn, hc⟩ := row_words (A := Ae g) h (fun b' hb' ha => by rcases ha with rfl | rfl <;> omega)
  exact ⟨p, cap, hv, none, 0, p, cap, [], rfl, hT, hn, hc, hL, ⟨fun h => absurd h (by simp), fun i hi => absurd hi (by simp)⟩, rfl, Nat.zero_le _, Nat.zero_le _, (fun x hx => by cases hx), fun _ => ⟨rfl, rfl⟩⟩

set_option maxHeartbeats 8000000 in
set_option maxRecDepth 10000 in
theorem rexpr_walk {s : ByteArray} {L : List T4} {f : Rs → Option Rs} {r' : Rs} {w : World} (hs : s.size ≤ 140737488355328) (hscan : ∀ w, Calls Tryz.prog 33 #[.string s] w (ScR (.ok L) w)) (hL : L.length ≤ 5000000 ∧ ∀ x, x ∈ L → x.t.length ≤ 1000000)
    (hE : FnA s.size 34 #[] f) (hf : f ⟨[], L, 0, 0, 0⟩ = some r') (Q : Option Addr → Nat → Nat → Int → Int → World → Prop) (hQ : ∀ p n cap c a W W', Agr (Ae w.heap.size) W W' → Q p n cap c a W → Q p n cap c a W')
    (hD : ∀ W v, RdAt s.size (Ae w.heap.size) W r' v → Calls Tryz.prog 35 #[v] W fun e w' => ∃ p n cap c a, e = .returned (.tuple #[.agg #[.slice p n cap], .agg #[.int .i64 c, .int .i64 a]]) ∧ Hid (Q p n cap c a w') ∧ Below W.heap.size W w') :
    Calls Tryz.prog 12 #[.string s] w fun e w' => ∃ p n cap c a, e = .returned (.tuple #[.agg #[.slice p n cap], .agg #[.int .i64 c, .int .i64 a]]) ∧ Q p n cap c a w' ∧ Below w.heap.size w w' := by
  have HS := Lib.hid hscan
  have HD := Lib.hid hD
  have HF := Lib.hid hf
  have HQ := Lib.hid hQ
  have HL := Lib.hid hL
  obtain ⟨ln, hln⟩ : ∃ ln, ln = L.length := ⟨_, rfl⟩
  have Hln := Lib.hid hln
  clear hscan hD hf hQ hL hln
  go_enter Tryz.func12, Tryz.ntmps12
  go_wp2_with (go_at_call 33; refine (HS.out _).mono ?_)
  rintro e w1 ⟨hb1, v, rfl, hown⟩
  obtain ⟨b1, b2, hbw⟩ := keepTwo hb1
  have hsz : ((w.alloc (.cells #[.slice none 0 0] 24)).alloc (.cells #[.int .i64 0, .int .i64 0] 26)).heap.size = w.heap.size + 2 := by simp
  rw [hsz] at hown
  obtain ⟨p, cap, rfl, hR⟩ := begin_at (E := s.size) (g := w.heap.size) hown (by omega) HL.out
  rw [← Hln.out] at hR ⊢
  have B1 := b1.alloc (.cells #[.int .i64 0, .int .i64 0] 26)
  have B2 := b2.alloc (.cells #[.int .i64 0, .int .i64 0] 26)
  have HX := hbw.alloc hbw.size (.cells #[.int .i64 0, .int .i64 0] 26)
  have HR := Lib.hid (hR.agr ((Agr.refl _ _).alloc (.cells #[.int .i64 0, .int .i64 0] 26)))
  have HI : Hid (In (Ae w.heap.size) (w1.alloc (.cells #[.int .i64 0, .int .i64 0] 26))) := fun b hb => by
    have := B2.lt
    rcases hb with rfl | rfl <;> omega
  clear hR hown hsz b1 b2 hbw hb1
  go_wp2_with (go_at_call 34; refine (hE _ _ _ r' _ HI.out HR.out HF.out).mono ?_)
  rintro e w2 ⟨pn2, ln2, cn2, pl2, ll2, cl2, c2, a2, rfl, HQ2, hb2⟩
  have C1 := B1.below hb2 B1.lt
  have C2 := B2.below hb2 B2.lt
  have HX2 := HX.trans (hb2.mono HX.size)
  go_wp2_with (go_at_call 35; refine (HD.out w2 _ HQ2.out).mono ?_)
  rintro e w3 ⟨p3, n3, cap3, c3, a3, rfl, HQ3, hb3⟩
  have D1 := C1.below hb3 C1.lt
  have D2 := C2.below hb3 C2.lt
  have HX3 := HX2.trans (hb3.mono HX2.size)
  obtain ⟨q_0, q_1, q_2⟩ := one1 D1
  obtain ⟨s_0, s_1, s_2, s_3, s_4⟩ := two2 D2
  clear hb2 hb3
  go_wp2
  refine bodyPost_ret (v := .tuple #[.agg #[.slice p3 n3 cap3], .agg #[.int .i64 c3, .int .i64 a3]]) (by simp [results, Tryz.results12, go_sem, q_0, q_1, q_2, s_0, s_1, s_2, s_3, s_4]) rfl ?_
  refine ⟨p3, n3, cap3, c3, a3, rfl, HQ.out _ _ _ _ _ _ _ (((Agr.refl _ _).setCell (p := ⟨w.heap.size, 0, none⟩) (Or.inl rfl) _).setCell (p := ⟨w.heap.size + 1, 0, none⟩) (Or.inr rfl) _ |>.setCell (p := ⟨w.heap.size + 1, 1, none⟩) (Or.inr rfl) _) HQ3.out, ?_⟩
  exact ((HX3.setCell (p := ⟨w.heap.size, 0, none⟩) (Nat.le_refl _) _).setCell (p := ⟨w.heap.size + 1, 0, none⟩) (Nat.le_succ _) _).setCell (p := ⟨w.heap.size + 1, 1, none⟩) (Nat.le_succ _) _
set_option maxHeartbeats 8000000 in
set_option maxRecDepth 10000 in
theorem rexpr_bad {s : ByteArray} {c a : Nat} (hc : c ≠ 0) (hscan : ∀ w, Calls Tryz.prog 33 #[.string s] w (ScR (.bad c a) w)) (w : World) :
    Calls Tryz.prog 12 #[.string s] w fun e w' => e = .returned (.tuple #[.agg #[.slice none 0 0], .agg #[.int .i64 c, .int .i64 a]]) ∧ Below w.heap.size w w' := by
  have HS := Lib.hid hscan
  have q0 : ((c : Int) != 0) = true := by simpa using hc
  clear hscan hc
  go_enter Tryz.func12, Tryz.ntmps12
  go_wp2_with (go_at_call 33; refine (HS.out _).mono ?_)
  rintro e w1 ⟨hb1, v, rfl, rfl⟩
  obtain ⟨b1, b2, hbw⟩ := keepTwo hb1
  have B1 := b1.alloc (.cells #[.int .i64 c, .int .i64 a] 26)
  have B2 := b2.alloc (.cells #[.int .i64 c, .int .i64 a] 26)
  have B3 := Blk.new w1 26 #[.int .i64 c, .int .i64 a]
  have HX := hbw.alloc hbw.size (.cells #[.int .i64 c, .int .i64 a] 26)
  have hl := b2.lt
  clear b1 b2 hbw hb1
  go_wp2
  generalize w1.alloc (.cells #[.int .i64 c, .int .i64 a] 26) = W at *
  generalize w1.heap.size = g at *
  obtain ⟨q_0, q_1, q_2⟩ := one1 B1
  obtain ⟨s_0, s_1, s_2, s_3, s_4⟩ := two2 B2
  obtain ⟨t_0, t_1, t_2, t_3, t_4⟩ := two2 B3
  have hbe : Below w.heap.size w ((((W.setCell ⟨w.heap.size, 0, none⟩ (.slice none 0 0)).setCell ⟨w.heap.size + 1, 0, none⟩ (.int .i64 c)).setCell ⟨w.heap.size + 1, 1, none⟩ (.int .i64 a)).drew) :=
    (((HX.setCell (p := ⟨w.heap.size, 0, none⟩) (Nat.le_refl _) _).setCell (p := ⟨w.heap.size + 1, 0, none⟩) (Nat.le_succ _) _).setCell (p := ⟨w.heap.size + 1, 1, none⟩) (Nat.le_succ _) _).drew
  have HBE := Lib.hid hbe
  clear hbe
  go_region
  go_wp2
  refine bodyPost_ret (v := .tuple #[.agg #[.slice none 0 0], .agg #[.int .i64 c, .int .i64 a]]) (by simp [results, Tryz.results12, go_sem, q_0, q_1, q_2, s_0, s_1, s_2, s_3, s_4]) rfl ?_
  exact ⟨rfl, HBE.out⟩
end Go.Proofs.YtbjacclfhgnffaaGreatDoor
/-
  What the document's Expr gives of a text: the same as the program's.
-/
namespace Go.Proofs.YtbjacclfhgnffaaGreatDoor
open Go.RowKit
open Tk (T4 SR Scans bstr rowOf)
open Tr (Nd Blk KidsAt NodeAt ret_bool)

/-- what the document's answer gives -/
def ParD (r : R3) (w : World) (e : Ending) (w' : World) : Prop :=
  Below w.heap.size w w' ∧ match r with
  | .ok s => ∃ p cap ns, e = .returned (.tuple #[.agg #[.slice p ns.length cap], .agg #[.int .i64 0, .int .i64 0]]) ∧ Tr.Tr w' p ns ∧ Tr.Fit ns cap ∧ ns.map bare = s.N
  | .bad c a => e = .returned (.tuple #[.agg #[.slice none 0 0], .agg #[.int .i64 c, .int .i64 a]])
  | .out => True
/-- what done tells of a tree that is there -/
def QOk (g : Nat) (s1 : S3) (p : Option Addr) (n cap : Nat) (c a : Int) (W : World) : Prop :=
  ∃ ns, NdA (Ae g) W p ns ∧ ns.length = n ∧ ns.map bare = s1.N ∧ n ≤ cap ∧ n ≤ 600 ∧ (∀ x, x ∈ s1.N → x.c.length ≤ 5000000) ∧ c = 0 ∧ a = 0
def QBad (c0 a0 : Int) (p : Option Addr) (n cap : Nat) (c a : Int) (_ : World) : Prop := p = none ∧ n = 0 ∧ cap = 0 ∧ c = c0 ∧ a = a0
/-- the end of a text's tree, as done tells it: by the state in which the parser's steps end -/
theorem done_of {E : Nat} {s1 : S3} {o' : Int} {g : Nat} (h1 : 1 ≤ s1.N.length) (hgood : ∀ j, j < s1.N.length → Tr.codeAt (s1.N.map ndOf) j = 0)
    (hck : FitN s1.N ∧ CkN s1.N 0 0 ∨ ¬ FitN s1.N ∧ ¬ CkN s1.N 0 0) {r : R3} (hr : seqF [doneF E, fitsF] s1 = r) :
    (∃ s, r = .ok s ∧ s = s1 ∧ ∀ W v, RdAt E (Ae g) W (rs s1 0 o') v → Calls Tryz.prog 35 #[v] W fun e w' => ∃ p n cap c a, e = .returned (.tuple #[.agg #[.slice p n cap], .agg #[.int .i64 c, .int .i64 a]]) ∧ Hid (QOk g s1 p n cap c a w') ∧ Below W.heap.size W w') ∨
    (∃ c0 a0, r = .bad c0 a0 ∧ ∀ W v, RdAt E (Ae g) W (rs s1 0 o') v → Calls Tryz.prog 35 #[v] W fun e w' => ∃ p n cap c a, e = .returned (.tuple #[.agg #[.slice p n cap], .agg #[.int .i64 c, .int .i64 a]]) ∧ Hid (QBad c0 a0 p n cap c a w') ∧ Below W.heap.size W w') := by
  obtain ⟨j, hj⟩ : ∃ j, s1.N.length = j + 1 := ⟨s1.N.length - 1, by omega⟩
  have bad : ∀ c0 a0, (∀ W v, RdAt E (Ae g) W (rs s1 0 o') v → Calls Tryz.prog 35 #[v] W (DnP none 0 0 c0 a0 W)) → ∀ W v, RdAt E (Ae g) W (rs s1 0 o') v → Calls Tryz.prog 35 #[v] W fun e w' => ∃ p n cap c a, e = .returned (.tuple #[.agg #[.slice p n cap], .agg #[.int .i64 c, .int .i64 a]]) ∧ Hid (QBad c0 a0 p n cap c a w') ∧ Below W.heap.size W w' :=
    fun c0 a0 h W v hv => (h W v hv).mono fun e w' ⟨he, hb⟩ => ⟨none, 0, 0, c0, a0, he, ⟨rfl, rfl, rfl, rfl, rfl⟩, hb⟩
  by_cases hL : s1.L = []
  · have e1 : seqF [doneF E, fitsF] s1 = (fitsF s1).bind (seqF []) := by
      show (doneF E s1).bind _ = _
      unfold doneF; rw [if_pos hL]; rfl
    rw [e1] at hr
    rcases hck with ⟨hf, hc⟩ | ⟨hf, hc⟩
    · rw [fits_yes hc] at hr
      refine Or.inl ⟨s1, hr.symm, rfl, fun W v hv => ?_⟩
      have hf1 : s1.N.length ≤ 600 := hf.1
      have hf2 : Tr.Dp (s1.N.map ndOf) (s1.N.length - 1) ≤ 40 := hf.2
      refine (done_ok (j := j) hv rfl hL hj (by omega) (fun i hi => hgood i (by omega)) (by rw [hj] at hf2; exact hf2)).mono fun e w' ⟨p, cap, ns, he, hT, hl, hm, hcap, hk, hb⟩ => ⟨p, j + 1, cap, 0, 0, he, ⟨ns, hT, hl, hm, hcap, by omega, hk, rfl, rfl⟩, hb⟩
    · rw [fits_no hc] at hr
      refine Or.inr ⟨10, 0, hr.symm, bad 10 0 fun W v hv => ?_⟩
      by_cases hbig : 600 < s1.N.length
      · exact done_big hv rfl hL hbig
      · have hdp : 40 < Tr.Dp (s1.N.map ndOf) (s1.N.length - 1) := by
          rcases Nat.lt_or_ge 40 (Tr.Dp (s1.N.map ndOf) (s1.N.length - 1)) with h | h
          · exact h
          · exact absurd ⟨by omega, h⟩ hf
        exact done_deep (j := j) hv rfl hL hj (by omega) (fun i hi => hgood i (by omega)) (by rw [hj] at hdp; exact hdp)
  · have e1 : seqF [doneF E, fitsF] s1 = .bad 1 (pk E s1.L).a := by
      show (doneF E s1).bind _ = _
      unfold doneF; rw [if_neg hL]; rfl
    rw [e1] at hr
    exact Or.inr ⟨1, (pk E s1.L).a, hr.symm, bad 1 _ fun W v hv => done_left hv rfl hL⟩
theorem qok_agr {g : Nat} {s1 : S3} : ∀ p n cap c a W W', Agr (Ae g) W W' → QOk g s1 p n cap c a W → QOk g s1 p n cap c a W' := fun p n cap c a W W' hA ⟨ns, hT, h⟩ => ⟨ns, hT.agr hA, h⟩
theorem qok_end {g : Nat} {s1 : S3} {p : Option Addr} {n cap : Nat} {c a : Int} {W : World} (h : QOk g s1 p n cap c a W) : ∃ ns : List Nd, n = ns.length ∧ c = 0 ∧ a = 0 ∧ Tr.Tr W p ns ∧ Tr.Fit ns cap ∧ ns.map bare = s1.N := by
  obtain ⟨ns, hT, rfl, hm, hcap, hl, hk, rfl, rfl⟩ := h
  refine ⟨ns, rfl, rfl, rfl, hT.tr, ⟨hcap, by omega, fun j hj => ?_⟩, hm⟩
  have := hk (bare ns[j]) (by rw [← hm]; exact List.mem_map.2 ⟨_, List.getElem_mem hj, rfl⟩)
  exact Nat.le_trans this (by omega)
/-- what Expr of the document's answer gives of a text -/
theorem rexpr_of {s : ByteArray} {r : R3} (h : ExprOf s.data.toList r) (w : World) (hs47 : s.size ≤ 140737488355328) : Calls Tryz.prog 12 #[.string s] w (ParD r w) := by
  obtain ⟨n, R, hR, hr, ho⟩ := h
  rw [← Lib.size_eq] at hr
  cases R with
  | bad c a =>
    have hc : c ≠ 0 := hR.few
    have e : r = .bad c a := hr.symm
    subst e
    exact (rexpr_bad hc (fun w => rscan_R hR hs47) w).mono fun e w' ⟨he, hb⟩ => ⟨hb, he⟩
  | ok L =>
    have hK := hR.kinds
    have hO := hR.ok
    have hSh := hR.short
    rw [exprW_ok] at hr
    have hsim := (sim s.size n).expr ⟨L, [], []⟩ 0 0 ⟨Nat.le_refl _, Nat.zero_le _, hK⟩
    cases hrun : runJ s.size n .expr ⟨L, [], []⟩ with
    | out => rw [hrun] at hr; exact absurd hr.symm ho
    | bad c a =>
      rw [hrun] at hr hsim
      obtain ⟨hc, r', e, rfl, rfl⟩ := hsim
      have e2 : r = .bad r'.c r'.a := hr.symm
      subst e2
      refine (rexpr_walk (w := w) hs47 (fun w => rscan_R hR hs47) hSh (fjA s.size (n + 6)) (fnJ_some.2 ⟨_, e⟩) (QBad r'.c r'.a) (fun _ _ _ _ _ _ _ _ h => h)
        (fun W v hv => (done_bad hv hc).mono fun e w' ⟨he, hb⟩ => ⟨none, 0, 0, _, _, he, ⟨rfl, rfl, rfl, rfl, rfl⟩, hb⟩)).mono fun e w' ⟨p, n, cap, c, a, he, hq, hb⟩ => ?_
      obtain ⟨rfl, rfl, rfl, rfl, rfl⟩ := hq
      exact ⟨hb, he⟩
    | ok s1 =>
      have hck := expr_check hO hrun
      have hgd := run_good s.size n .expr ⟨L, [], []⟩ [] (start_inv hO)
      rw [hrun] at hr hsim hgd
      obtain ⟨h1, o', hO', e⟩ := hsim
      obtain ⟨new, hg, -⟩ := hgd
      have hgood : ∀ j, j < s1.N.length → Tr.codeAt (s1.N.map ndOf) j = 0 := fun j hj => hg.inv.gs.good j (by unfold nds; rw [List.length_map]; exact hj)
      rcases done_of (E := s.size) (o' := o') (g := w.heap.size) hck.1 hgood hck.2 hr with ⟨s2, rfl, rfl, hD⟩ | ⟨c0, a0, rfl, hD⟩
      · refine (rexpr_walk (w := w) hs47 (fun w => rscan_R hR hs47) hSh (fjA s.size (n + 6)) (fnJ_some.2 ⟨_, e⟩) (QOk w.heap.size s2) qok_agr hD).mono fun e w' ⟨p, n, cap, c, a, he, hq, hb⟩ => ?_
        obtain ⟨ns, rfl, rfl, rfl, hT, hF, hm⟩ := qok_end hq
        exact ⟨hb, p, cap, ns, he, hT, hF, hm⟩
      · refine (rexpr_walk (w := w) hs47 (fun w => rscan_R hR hs47) hSh (fjA s.size (n + 6)) (fnJ_some.2 ⟨_, e⟩) (QBad c0 a0) (fun _ _ _ _ _ _ _ _ h => h) hD).mono fun e w' ⟨p, n, cap, c, a, he, hq, hb⟩ => ?_
        obtain ⟨rfl, rfl, rfl, rfl, rfl⟩ := hq
        exact ⟨hb, he⟩
end Go.Proofs.YtbjacclfhgnffaaGreatDoor
/-
  The walk of ParseSays.
-/
namespace Go.Proofs.YtbjacclfhgnffaaGreatDoor
open Go.RowKit
open Tr (Nd Blk KidsAt NodeAt)

/-- a tree or a fault, as both sides give it -/
def PQ (N : List Mn) (c a : Int) (w : World) (e : Ending) (w' : World) : Prop :=
  Below w.heap.size w w' ∧ ∃ (ns : List Nd) (m cap : Nat) (p : Option Addr), ns.length = m ∧ e = .returned (.tuple #[.agg #[.slice p m cap], .agg #[.int .i64 c, .int .i64 a]]) ∧ Tr.Tr w' p ns ∧ Tr.Fit ns cap ∧ ns.map bare = N
theorem tr_none (w : World) : Tr.Tr w none [] := ⟨fun h => by simp at h, fun i h => by simp at h⟩
theorem fit_none : Tr.Fit [] 0 := ⟨Nat.le_refl _, by simp, fun j h => by simp at h⟩
theorem pq_parR {r : R3} (ho : r ≠ .out) : ∃ N c a, (∀ w e w', ParR r w e w' → PQ N c a w e w') ∧ (∀ w e w', ParD r w e w' → PQ N c a w e w') := by
  cases r with
  | out => exact absurd rfl ho
  | ok s =>
    refine ⟨s.N, 0, 0, fun w e w' h => ?_, fun w e w' h => ?_⟩
    · obtain ⟨hb, p, cap, ns, he, hT, hF, -, hN, -⟩ := h
      exact ⟨hb, ns, _, cap, p, rfl, he, hT, hF, hN⟩
    · obtain ⟨hb, p, cap, ns, he, hT, hF, hN⟩ := h
      exact ⟨hb, ns, _, cap, p, rfl, he, hT, hF, hN⟩
  | bad c a =>
    refine ⟨[], c, a, fun w e w' h => ?_, fun w e w' h => ?_⟩
    · obtain ⟨hb, he⟩ := h
      exact ⟨hb, [], 0, 0, none, rfl, he, tr_none _, fit_none, rfl⟩
    · obtain ⟨hb, he⟩ := h
      exact ⟨hb, [], 0, 0, none, rfl, he, tr_none _, fit_none, rfl⟩
theorem trees_pq {ns ns' : List Nd} {m m' cap cap' : Nat} {p p' : Option Addr} {N : List Mn} {w : World} (hm : ns.length = m) (hm' : ns'.length = m') (hT : Tr.Tr w p ns) (hT' : Tr.Tr w p' ns') (hF : Tr.Fit ns cap) (hF' : Tr.Fit ns' cap') (hN : ns.map bare = N) (hN' : ns'.map bare = N) :
    Calls Tryz.prog 13 #[.agg #[.slice p m cap], .agg #[.slice p' m' cap']] w fun e w' => e = .returned (.bool true) ∧ Below w.heap.size w w' := by
  subst hm hm'
  exact trees_any ns ns' p p' cap cap' w hT hT' hF hF' (hN.trans hN'.symm)

set_option maxHeartbeats 8000000 in
set_option maxRecDepth 100000 in
theorem psays_walk (s : ByteArray) (w : World) (hE : Env w) (hs : s.size ≤ 140737488355328) :
    Calls Tryz.prog 3 #[.string s] w fun e w' => e = .returned (.bool true) ∧ Below w.heap.size w w' := by
  by_cases hl : s.size ≤ 3000
  · obtain ⟨r, hr, -⟩ := exprOf_total s.data.toList
    have ho : r ≠ .out := by obtain ⟨_, _, _, _, ho⟩ := hr; exact ho
    obtain ⟨N, c, a, hp, hd⟩ := pq_parR ho
    have h11 : Calls Tryz.prog 11 #[.string s] w (PQ N c a w) := (pexpr_of hr hE hs).mono fun e w' h => hp w e w' h
    have h12 : ∀ W, Calls Tryz.prog 12 #[.string s] W (PQ N c a W) := fun W => (rexpr_of hr W hs).mono fun e w' h => hd W e w' h
    have q : decide ((3000 : Int) < (s.size : Int)) = false := decide_eq_false (by omega)
    have b1 : (c == c) = true := by simp
    have b2 : (a == a) = true := by simp
    have hsz := Lib.hid (Lib.size_eq s)
    clear hE hr ho hp hd
    go_enter Tryz.func3, Tryz.ntmps3
    go_wp2_with (go_at_call 11; refine h11.mono ?_)
    rintro e w2 ⟨hb2, ns, m, cap, p, hm, rfl, hT, hF, hN⟩
    have hz2 := hb2.size
    have x1 : Below w2.heap.size w2 ((w2.alloc (.cells #[.slice p m cap] 24)).alloc (.cells #[.int .i64 c, .int .i64 a] 26)) := ((Below.refl _ _).alloc (Nat.le_refl _) _).alloc (by simp) _
    have K1 : Hid (Blk ((w2.alloc (.cells #[.slice p m cap] 24)).alloc (.cells #[.int .i64 c, .int .i64 a] 26)) w2.heap.size 24 #[.slice p m cap]) := (Blk.new _ _ _).alloc _
    have K2 : Hid (Blk ((w2.alloc (.cells #[.slice p m cap] 24)).alloc (.cells #[.int .i64 c, .int .i64 a] 26)) (w2.heap.size + 1) 26 #[.int .i64 c, .int .i64 a]) := by
      have h := Blk.new (w2.alloc (.cells #[.slice p m cap] 24)) 26 #[.int .i64 c, .int .i64 a]
      rw [World.size_alloc] at h
      exact h
    have hcall := h12 ((w2.alloc (.cells #[.slice p m cap] 24)).alloc (.cells #[.int .i64 c, .int .i64 a] 26))
    have X1 := Lib.hid x1
    have HB2 := Lib.hid hb2
    have HT := Lib.hid hT
    have HF := Lib.hid hF
    have Hm := Lib.hid hm
    have HN := Lib.hid hN
    clear h11 h12 x1 hb2 hT hF hm hN
    go_wp2_with (go_at_call 12; refine hcall.mono ?_)
    rintro e w5 ⟨hb5, ns', m', cap', p', hm', rfl, hT', hF', hN'⟩
    have z5 : Below w2.heap.size w2 w5 := X1.out.trans (hb5.mono X1.out.size)
    have x2 : Below w5.heap.size w5 ((w5.alloc (.cells #[.slice p' m' cap'] 24)).alloc (.cells #[.int .i64 c, .int .i64 a] 26)) := ((Below.refl _ _).alloc (Nat.le_refl _) _).alloc (by simp) _
    have hcall2 := trees_pq (m := m) (m' := m') (w := (w5.alloc (.cells #[.slice p' m' cap'] 24)).alloc (.cells #[.int .i64 c, .int .i64 a] 26)) Hm.out hm' ((HT.out.below z5).below x2) (hT'.below x2) HF.out hF' HN.out hN'
    have k1 := K1.out.below hb5 K1.out.lt
    have k2 := K2.out.below hb5 K2.out.lt
    have e0 : w5.cell? ⟨w2.heap.size, 0, none⟩ = some (.slice p m cap) := by rw [k1.cell]; rfl
    have e1 : w5.cell? ⟨w2.heap.size + 1, 0, none⟩ = some (.int .i64 c) := by rw [k2.cell]; rfl
    have e2 : w5.cell? ⟨w2.heap.size + 1, 1, none⟩ = some (.int .i64 a) := by rw [k2.cell]; rfl
    have l1 := k1.lt
    have l2 := k2.lt
    have HZ : Hid (Below w.heap.size w ((w5.alloc (.cells #[.slice p' m' cap'] 24)).alloc (.cells #[.int .i64 c, .int .i64 a] 26))) := (HB2.out.trans (z5.mono hz2)).trans (x2.mono (Nat.le_trans hz2 z5.size))
    clear hb5 hcall z5 x2 k1 k2 hT' hF' hm' hN'
    go_wp2_with (go_at_call 13; refine hcall2.mono ?_)
    first | rintro e w7 rfl hb7 | rintro e w7 ⟨rfl, hb7⟩
    have HB7 := Lib.hid (HZ.out.trans (hb7.mono HZ.out.size))
    clear hb7 hcall2
    go_wp2
    (try go_ret)
    exact ⟨rfl, HB7.out⟩
  · have q : decide ((3000 : Int) < (s.size : Int)) = true := decide_eq_true (by omega)
    go_enter Tryz.func3, Tryz.ntmps3
    go_wp2
    go_ret
    exact ⟨rfl, Below.refl _ _⟩
end Go.Proofs.YtbjacclfhgnffaaGreatDoor
