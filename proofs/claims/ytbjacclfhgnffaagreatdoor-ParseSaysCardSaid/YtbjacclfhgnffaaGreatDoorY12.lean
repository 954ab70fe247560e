/-
  Joined texts of this claim: Qb, Vd, Ga, Qc, Gb.
-/
import Derived.Test.YtbjacclfhgnffaaGreatDoorY08
import Derived.Test.YtbjacclfhgnffaaGreatDoorY11
import Derived.Laws.OwnMore
import Derived.Laws.AppendOwn
import Derived.Laws.Rows
import Derived.Test.YtbjacclfhgnffaaGreatDoorY02
import Derived.StillTailTactics
import Derived.Outline
import Derived.Test.YtbjacclfhgnffaaGreatDoorY09
set_option linter.unusedVariables false
set_option linter.unusedSimpArgs false
/-
  How the parser lies in memory: its box, the words that are left, the nodes, the loose nodes; what a step may change.
-/
namespace Go.Proofs.YtbjacclfhgnffaaGreatDoor
open Go.RowKit
open Tk (T4 bstr)
open Tr (Nd Blk KidsAt)

/-- the blocks that are the parser's own -/
def Own (B : Nat) (w : World) (g : Nat) : Prop :=
  g = B ∨ (∃ v, w.cell? ⟨B, 2, none⟩ = some v ∧ v.ownBlock = some g) ∨ (∃ v, w.cell? ⟨B, 3, none⟩ = some v ∧ v.ownBlock = some g)
/-- from w to w' nothing has changed but what is the parser's own -/
structure Ext (B : Nat) (w w' : World) : Prop where
  os : w'.os = w.os
  tape : w'.tape = w.tape
  output : w'.output = w.output
  size : w.heap.size ≤ w'.heap.size
  block : ∀ g, g < w.heap.size → ¬ Own B w g → w'.heap[g]? = w.heap[g]?
  own : ∀ g, Own B w' g → Own B w g ∨ w.heap.size ≤ g
theorem Ext.refl (B : Nat) (w : World) : Ext B w w := ⟨rfl, rfl, rfl, Nat.le_refl _, fun _ _ _ => rfl, fun _ h => Or.inl h⟩
theorem Ext.trans {B : Nat} {a b c : World} (h : Ext B a b) (k : Ext B b c) : Ext B a c :=
  ⟨k.os.trans h.os, k.tape.trans h.tape, k.output.trans h.output, Nat.le_trans h.size k.size,
    fun g hg hn => (k.block g (Nat.lt_of_lt_of_le hg h.size) (fun ho => (h.own g ho).elim hn (fun hle => absurd hg (Nat.not_lt.2 hle)))).trans (h.block g hg hn),
    fun g ho => (k.own g ho).elim (fun h1 => h.own g h1) (fun h1 => Or.inr (Nat.le_trans h.size h1))⟩
theorem own_same {B : Nat} {w w' : World} (h : w'.heap[B]? = w.heap[B]?) (g : Nat) : Own B w' g ↔ Own B w g := by
  have e2 : w'.cell? ⟨B, 2, none⟩ = w.cell? ⟨B, 2, none⟩ := World.cell?_of_block (a := ⟨B, 2, none⟩) h
  have e3 : w'.cell? ⟨B, 3, none⟩ = w.cell? ⟨B, 3, none⟩ := World.cell?_of_block (a := ⟨B, 3, none⟩) h
  unfold Own; rw [e2, e3]
theorem Ext.below {B : Nat} {w w' : World} (hb : Below w.heap.size w w') (hB : B < w.heap.size) : Ext B w w' :=
  ⟨hb.os, hb.tape, hb.output, hb.size, fun g hg _ => hb.block g hg, fun g ho => Or.inl ((own_same (hb.block B hB) g).1 ho)⟩
theorem Ext.alloc {B : Nat} {w w' : World} (h : Ext B w w') (hB : B < w.heap.size) (o : Obj) : Ext B w (w'.alloc o) :=
  h.trans (Ext.below ((Below.refl _ _).alloc (Nat.le_refl _) _) (Nat.lt_of_lt_of_le hB h.size))
theorem Ext.drew {B : Nat} {w w' : World} (h : Ext B w w') : Ext B w w'.drew := ⟨h.os, h.tape, h.output, h.size, h.block, h.own⟩
theorem Ext.cell {B : Nat} {w w' : World} (h : Ext B w w') {p : Addr} (hp : p.block < w.heap.size) (hn : ¬ Own B w p.block) : w'.cell? p = w.cell? p := World.cell?_of_block (a := p) (h.block p.block hp hn)
theorem Ext.frozen {B : Nat} {w w' : World} (h : Ext B w w') {p : Addr} (hp : p.block < w.heap.size) (hn : ¬ Own B w p.block) : w'.frozen? p = w.frozen? p := World.frozen?_of_block (a := p) (h.block p.block hp hn)

/-- words from a place on -/
def TokAt (w : World) (b o : Nat) (L : List T4) : Prop := ∀ j, (h : j < L.length) →
  w.cell? ⟨b, o + j * 4, none⟩ = some (.int .i64 L[j].k) ∧ w.cell? ⟨b, o + j * 4 + 1, none⟩ = some (.string (bstr L[j].t)) ∧ w.cell? ⟨b, o + j * 4 + 2, none⟩ = some (.int .i64 L[j].v) ∧ w.cell? ⟨b, o + j * 4 + 3, none⟩ = some (.int .i64 L[j].a)
def Toks (B : Nat) (w : World) (v : Value) (L : List T4) : Prop :=
  ∃ p cap, v = .slice p L.length cap ∧ L.length ≤ cap ∧ cap ≤ 9223372036854775807 ∧ (0 < cap → ∃ b o, p = some ⟨b, o, none⟩ ∧ b < w.heap.size ∧ ¬ Own B w b ∧ TokAt w b o L)
/-- a node of the list, without where it lies -/
def bare (x : Nd) : Mn := ⟨x.k, x.t.data.toList, x.n, x.z, x.c, x.a⟩
def cells6 (x : Nd) : List Value := [.int .i64 x.k, .string x.t, .int .i64 x.n, .int .i64 x.z, .slice x.p x.c.length x.cap, .int .i64 x.a]
def rowN (l : List Nd) : List Value := l.flatMap cells6
def KidF (B : Nat) (w : World) (p : Option Addr) (c : List Int) : Prop :=
  0 < c.length → ∃ b, B < b ∧ p = some ⟨b, 0, none⟩ ∧ b < w.heap.size ∧ ¬ Own B w b ∧ ∀ j, (h : j < c.length) → w.cell? ⟨b, j, none⟩ = some (.int .i64 c[j])
def intV (l : List Int) : List Value := l.map (Value.int .i64)
/-- the parser's box and what hangs on it -/
structure PS (B T E : Nat) (w : World) (s : S3) (vT vN vL : Value) (ns : List Nd) : Prop where
  box : Blk w B T #[vT, .int .i64 E, vN, vL]
  tok : Toks B w vT s.L
  nod : w.ownsRow (B + 1) 36 6 vN ns.length (rowN ns)
  kid : ∀ i, (h : i < ns.length) → KidF B w ns[i].p ns[i].c
  loo : w.ownsRow (B + 1) 3 1 vL s.O.length (intV s.O)
  sep : ∀ g, vN.ownBlock = some g → vL.ownBlock ≠ some g
  eqN : ns.map bare = s.N
  lenO : s.O.length ≤ s.N.length
  lenN : s.N.length ≤ 5000000
  lenL : s.L.length ≤ 5000000
  kl : ∀ x, x ∈ s.N → x.c.length ≤ 5000000
def Ps (B T E : Nat) (w : World) (s : S3) : Prop := ∃ vT vN vL ns, PS B T E w s vT vN vL ns
theorem PS.lt {B T E : Nat} {w : World} {s : S3} {vT vN vL : Value} {ns : List Nd} (h : PS B T E w s vT vN vL ns) : B < w.heap.size := h.box.lt
theorem Ps.lt {B T E : Nat} {w : World} {s : S3} (h : Ps B T E w s) : B < w.heap.size := by obtain ⟨_, _, _, _, h⟩ := h; exact h.lt
theorem TokAt.same {w w' : World} {b o : Nat} {L : List T4} (h : TokAt w b o L) (hb : w'.heap[b]? = w.heap[b]?) : TokAt w' b o L := fun j hj => by
  obtain ⟨h0, h1, h2, h3⟩ := h j hj
  exact ⟨(World.cell?_of_block (a := ⟨b, o + j * 4, none⟩) hb).trans h0, (World.cell?_of_block (a := ⟨b, o + j * 4 + 1, none⟩) hb).trans h1, (World.cell?_of_block (a := ⟨b, o + j * 4 + 2, none⟩) hb).trans h2, (World.cell?_of_block (a := ⟨b, o + j * 4 + 3, none⟩) hb).trans h3⟩
theorem PS.own_cases {B T E : Nat} {w : World} {s : S3} {vT vN vL : Value} {ns : List Nd} (h : PS B T E w s vT vN vL ns) (g : Nat) : Own B w g ↔ (g = B ∨ vN.ownBlock = some g ∨ vL.ownBlock = some g) := by
  have e2 : w.cell? ⟨B, 2, none⟩ = some vN := by rw [h.box.cell]; rfl
  have e3 : w.cell? ⟨B, 3, none⟩ = some vL := by rw [h.box.cell]; rfl
  unfold Own; rw [e2, e3]; simp
/-- new blocks alone: all stays -/
theorem PS.below {B T E : Nat} {w w' : World} {s : S3} {vT vN vL : Value} {ns : List Nd} (h : PS B T E w s vT vN vL ns) (hb : Below w.heap.size w w') : PS B T E w' s vT vN vL ns := by
  have hB := h.lt
  have hO := own_same (hb.block B hB)
  have hg : w.grownBy w' none := ⟨hb.os, hb.tape, hb.output, hb.size, fun k hk _ => hb.block k hk⟩
  refine { box := (hb.block B hB).trans h.box, tok := ?_, nod := h.nod.kept hg (by cases vN.ownBlock <;> simp), kid := ?_, loo := h.loo.kept hg (by cases vL.ownBlock <;> simp), sep := h.sep, eqN := h.eqN, lenO := h.lenO, lenN := h.lenN, lenL := h.lenL, kl := h.kl }
  · obtain ⟨p, cap, hv, h1, h2, h3⟩ := h.tok
    refine ⟨p, cap, hv, h1, h2, fun hc => ?_⟩
    obtain ⟨b, o, hp, hl, hn, ht⟩ := h3 hc
    exact ⟨b, o, hp, Nat.lt_of_lt_of_le hl hb.size, fun h => hn ((hO b).1 h), ht.same (hb.block b hl)⟩
  · intro i hi h0
    obtain ⟨b, hb0, hp, hl, hn, hc⟩ := h.kid i hi h0
    exact ⟨b, hb0, hp, Nat.lt_of_lt_of_le hl hb.size, fun h => hn ((hO b).1 h), fun j hj => (hb.cell (p := ⟨b, j, none⟩) hl).trans (hc j hj)⟩
theorem Ps.below {B T E : Nat} {w w' : World} {s : S3} (h : Ps B T E w s) (hb : Below w.heap.size w w') : Ps B T E w' s := by
  obtain ⟨a, b, c, d, h⟩ := h; exact ⟨a, b, c, d, h.below hb⟩
theorem Ps.drew {B T E : Nat} {w : World} {s : S3} (h : Ps B T E w s) : Ps B T E w.drew s := h.below (Below.refl _ _).drew
theorem Ps.alloc {B T E : Nat} {w : World} {s : S3} (h : Ps B T E w s) (o : Obj) : Ps B T E (w.alloc o) s := h.below ((Below.refl _ _).alloc (Nat.le_refl _) _)
/-- what is wrong, as an error -/
def errV (c a : Int) : Value := .iface 86 (.agg #[.int .i64 c, .int .i64 a])
/-- what a step does -/
def Did (B T E : Nat) (w : World) : R3 → Ending → World → Prop
  | .ok s, e, w' => e = .returned .nilIface ∧ Ext B w w' ∧ Ps B T E w' s
  | .bad c a, e, w' => e = .returned (errV c a) ∧ Ext B w w'
  | .out, _, _ => True
end Go.Proofs.YtbjacclfhgnffaaGreatDoor
/-
  Plain: what Check tells hangs on the nodes alone, not on where they lie; and on no offset.
-/
namespace Go.Proofs.YtbjacclfhgnffaaGreatDoor
open Go.RowKit
open Tk (T4 bstr)
open Tr

section
variable {f : Nd → Nd} (hk : ∀ x, (f x).k = x.k) (hc : ∀ x, (f x).c = x.c) (hf : ∀ x, fieldC (f x) = fieldC x)
include hk in
theorem kindAt_map (l : List Nd) : kindAt (l.map f) = kindAt l := by
  funext j; unfold kindAt; rw [List.getElem?_map]; cases l[j]? <;> simp [hk]
include hc in
theorem kidsAt_map (l : List Nd) : kidsAt (l.map f) = kidsAt l := by
  funext j; unfold kidsAt; rw [List.getElem?_map]; cases l[j]? <;> simp [hc]
include hk hc in
theorem firsts_map (l : List Nd) : ∀ n, firsts (l.map f) n = firsts l n
  | 0 => rfl
  | n + 1 => by simp only [firsts, firsts_map l n, kindAt_map hk, kidsAt_map hc]
include hc in
theorem deeps_map (l : List Nd) : ∀ n, deeps (l.map f) n = deeps l n
  | 0 => rfl
  | n + 1 => by simp only [deeps, deeps_map l n, kidsAt_map hc]
include hk hc in
theorem St_map (l : List Nd) : St (l.map f) = St l := by funext j; unfold St; rw [firsts_map hk hc]
include hc in
theorem Dp_map (l : List Nd) : Dp (l.map f) = Dp l := by funext j; unfold Dp; rw [deeps_map hc]
include hk hc in
theorem wayOf_map (l : List Nd) : wayOf (l.map f) = wayOf l := by funext j; unfold wayOf; rw [St_map hk hc, kindAt_map hk, kidsAt_map hc]
include hk hc hf in
theorem codeAt_map (l : List Nd) : codeAt (l.map f) = codeAt l := by
  funext j; unfold codeAt; rw [List.getElem?_map]
  cases l[j]? with
  | none => rfl
  | some x => simp only [Option.map_some, Option.getD_some, nodeC, hk, hc, hf, wayOf_map hk hc]
include hk hc hf in
theorem CkR_map (l : List Nd) (c a : Int) : CkR (l.map f) c a ↔ CkR l c a := by
  unfold CkR; rw [List.length_map, codeAt_map hk hc hf, St_map hk hc, Dp_map hc]
end
def ndOf (x : Mn) : Nd := ⟨x.k, bstr x.t, x.n, x.z, none, 0, x.c, x.a⟩
theorem bstr_data (x : ByteArray) : bstr x.data.toList = x := by
  obtain ⟨⟨l⟩⟩ := x; rfl
theorem nd_bare (x : Nd) : ndOf (bare x) = { x with p := none, cap := 0 } := by
  obtain ⟨k, t, n, z, p, cap, c, a⟩ := x
  simp only [ndOf, bare, bstr_data]
/-- what Check tells of nodes -/
def CkN (N : List Mn) (c a : Int) : Prop := CkR (N.map ndOf) c a
theorem CkR_bare (l : List Nd) (c a : Int) : CkR l c a ↔ CkN (l.map bare) c a := by
  unfold CkN
  rw [List.map_map]
  refine (CkR_map (f := ndOf ∘ bare) (fun x => ?_) (fun x => ?_) (fun x => ?_) l c a).symm
  · show (ndOf (bare x)).k = _; rw [nd_bare]
  · show (ndOf (bare x)).c = _; rw [nd_bare]
  · show fieldC (ndOf (bare x)) = _; rw [nd_bare]; rfl
theorem CkN.det {N : List Mn} {c a c' a' : Int} (h : CkN N c a) (h' : CkN N c' a') : c = c' ∧ a = a' := CkR.det h h'
/-- the step that finds a tree too large -/
noncomputable def fitsF : F3 := fun s => open Classical in if CkN s.N 0 0 then .ok s else .bad 10 0
theorem fits_yes {s : S3} (h : CkN s.N 0 0) : fitsF s = .ok s := by unfold fitsF; exact if_pos h
theorem fits_no {s : S3} (h : ¬ CkN s.N 0 0) : fitsF s = .bad 10 0 := by unfold fitsF; exact if_neg h
end Go.Proofs.YtbjacclfhgnffaaGreatDoor
/-
  Plain: a list of nodes that grows by one node behind its kids stays in its form.
-/
namespace Go.Proofs.YtbjacclfhgnffaaGreatDoor
open Go.RowKit
open Tk (T4 bstr)
open Tr

theorem kindAt_app {l r : List Nd} {j : Nat} (h : j < l.length) : kindAt (l ++ r) j = kindAt l j := by
  unfold kindAt; rw [List.getElem?_append_left h]
theorem kidsAt_app {l r : List Nd} {j : Nat} (h : j < l.length) : kidsAt (l ++ r) j = kidsAt l j := by
  unfold kidsAt; rw [List.getElem?_append_left h]
theorem walkK_cong {S S' : Nat → Nat} {kd kd' : Nat → Int} {k : Int} {c : List Int} {K : Nat} (hS : ∀ j, S j ≤ j) (hE : ∀ j, j < K → S' j = S j) (hD : ∀ j, j < K → kd' j = kd j) :
    ∀ (i at_ : Nat), at_ ≤ K → walkK S' kd' k c i at_ = walkK S kd k c i at_
  | 0, _, _ => rfl
  | i + 1, at_, h => by
    unfold walkK
    by_cases h0 : at_ = 0
    · rw [if_pos (Or.inl h0), if_pos (Or.inl h0)]
    · rw [hD (at_ - 1) (by omega), hE (at_ - 1) (by omega)]
      split
      · rfl
      · exact walkK_cong hS hE hD i _ (by have := hS (at_ - 1); omega)
theorem firsts_app (l r : List Nd) : ∀ n, n ≤ l.length → firsts (l ++ r) n = firsts l n
  | 0, _ => rfl
  | n + 1, h => by
    have hn : n < l.length := by omega
    simp only [firsts, firsts_app l r n (by omega), kindAt_app (r := r) hn, kidsAt_app (r := r) hn]
    rw [walkK_cong (K := n) (fun j => St_le_aux l n j) (fun j _ => rfl) (fun j hj => kindAt_app (r := r) (by omega)) _ _ (Nat.le_refl _)]
theorem St_app {l r : List Nd} {j : Nat} (h : j < l.length) : St (l ++ r) j = St l j := by
  unfold St; rw [firsts_app l r _ (by omega)]
theorem wayOf_app {l r : List Nd} {j : Nat} (h : j < l.length) : wayOf (l ++ r) j = wayOf l j := by
  unfold wayOf
  rw [kindAt_app h, kidsAt_app h]
  exact walkK_cong (K := j) (St_le l) (fun i hi => St_app (by omega)) (fun i hi => kindAt_app (by omega)) _ _ (Nat.le_refl _)
theorem codeAt_app {l r : List Nd} {j : Nat} (h : j < l.length) : codeAt (l ++ r) j = codeAt l j := by
  unfold codeAt
  rw [List.getElem?_append_left h, List.getElem?_eq_getElem h]
  simp only [Option.map_some, Option.getD_some, nodeC, wayOf_app (r := r) h]

/-- parts one behind the other: where they begin, their last nodes, where they end -/
inductive Fo (S : Nat → Nat) (b : Nat) : List Nat → Nat → Prop
  | nil : Fo S b [] b
  | snoc {os : List Nat} {e o : Nat} (h : Fo S b os e) (hs : S o = e) : Fo S b (os ++ [o]) (o + 1)
theorem Fo.cong {S S' : Nat → Nat} {b e : Nat} {os : List Nat} (h : Fo S b os e) (hE : ∀ j, j ∈ os → S' j = S j) : Fo S' b os e := by
  induction h with
  | nil => exact .nil
  | snoc h hs ih => exact .snoc (ih fun j hj => hE j (by simp [hj])) (by rw [hE _ (by simp)]; exact hs)
theorem Fo.last {S : Nat → Nat} {b e : Nat} {os : List Nat} (h : Fo S b os e) : os = [] ∧ e = b ∨ ∃ os' o, os = os' ++ [o] ∧ e = o + 1 ∧ Fo S b os' (S o) := by
  cases h with
  | nil => exact Or.inl ⟨rfl, rfl⟩
  | snoc h hs => exact Or.inr ⟨_, _, rfl, rfl, by rw [hs]; exact h⟩
theorem Fo.split {S : Nat → Nat} {b e : Nat} {zs : List Nat} (h : Fo S b zs e) : ∀ xs ys, zs = xs ++ ys → ∃ m, Fo S b xs m ∧ Fo S m ys e := by
  induction h with
  | nil =>
    intro xs ys hz
    obtain ⟨rfl, rfl⟩ := List.append_eq_nil_iff.1 hz.symm
    exact ⟨b, .nil, .nil⟩
  | @snoc os e o h hs ih =>
    intro xs ys hz
    rcases List.eq_nil_or_concat ys with rfl | ⟨ys', y, rfl⟩
    · rw [List.append_nil] at hz
      subst hz
      exact ⟨_, .snoc h hs, .nil⟩
    · rw [List.concat_eq_append, ← List.append_assoc] at hz
      obtain ⟨h1, h2⟩ := List.append_inj' hz rfl
      cases h2
      obtain ⟨m, ha, hb⟩ := ih xs ys' h1
      refine ⟨m, ha, ?_⟩
      rw [List.concat_eq_append]
      exact .snoc hb hs
theorem Fo.lt {S : Nat → Nat} (hS : ∀ j, S j ≤ j) {b e : Nat} {os : List Nat} (h : Fo S b os e) : b ≤ e ∧ ∀ j, j ∈ os → j < e := by
  induction h with
  | nil => exact ⟨Nat.le_refl _, fun j hj => by cases hj⟩
  | @snoc os e o h hs ih =>
    have := hS o
    refine ⟨by omega, fun j hj => ?_⟩
    rcases List.mem_append.1 hj with hj | hj
    · have := ih.2 j hj; omega
    · rw [List.mem_singleton] at hj; omega
/-- places as indices -/
def castL (os : List Nat) : List Int := os.map Int.ofNat
theorem castL_length (os : List Nat) : (castL os).length = os.length := List.length_map ..
theorem castL_snoc (os : List Nat) (o : Nat) : castL (os ++ [o]) = castL os ++ [(o : Int)] := by unfold castL; rw [List.map_append]; rfl
theorem Fo.walk {S : Nat → Nat} {kd : Nat → Int} {k : Int} {b e : Nat} {os : List Nat} (h : Fo S b os e) : ∀ (c : List Int) (rest : List Int), c = castL os ++ rest →
    (∀ i, (hi : i < os.length) → goB k i c.length (kd os[i]) = true) → walkK S kd k c os.length e = some b := by
  induction h with
  | nil => intro c rest _ _; rfl
  | @snoc os e o h hs ih =>
    intro c rest hc hg
    have hlen : (os ++ [o]).length = os.length + 1 := by simp
    rw [hlen]
    unfold walkK
    have h1 : c.getD os.length 0 = (o : Int) := by
      rw [hc, castL_snoc, List.append_assoc, List.getD_eq_getElem?_getD, List.getElem?_append_right (by rw [castL_length]; exact Nat.le_refl _), castL_length]
      simp
    have h2 := hg os.length (by simp)
    rw [List.getElem_append_right (by simp)] at h2
    simp only [Nat.sub_self, List.getElem_cons_zero] at h2
    have h3 : o + 1 - 1 = o := by omega
    rw [h3, h1, h2]
    rw [if_neg (by intro h; rcases h with h | h | h; omega; exact absurd (by omega) h; cases h), hs]
    refine ih c ((o : Int) :: rest) (by rw [hc, castL_snoc]; simp) (fun i hi => ?_)
    have := hg i (by simp; omega)
    rwa [List.getElem_append_left hi] at this
/-- all nodes are good, and the loose ones are the last nodes of parts that lie one behind the other -/
structure GSt (l : List Nd) (os : List Nat) : Prop where
  fo : Fo (St l) 0 os l.length
  good : ∀ j, j < l.length → codeAt l j = 0
/-- what is asked of a node by its kids' kinds -/
structure OkN (k : Int) (t : ByteArray) (n z a : Int) (ks : List Int) : Prop where
  kind : kindB k = true
  low : lowV k ≤ ks.length
  high : (ks.length : Int) ≤ highV 9223372036854775807 k
  go : ∀ i, (h : i < ks.length) → goB k i ks.length ks[i] = true
  field : fieldV k t n z ks.length a = 0
theorem GSt.add {l : List Nd} {os1 os2 : List Nat} (h : GSt l (os1 ++ os2)) {x : Nd} (hc : x.c = castL os2) (hx : OkN x.k x.t x.n x.z x.a (os2.map (kindAt l))) : GSt (l ++ [x]) (os1 ++ [l.length]) := by
  obtain ⟨m, hf1, hf2⟩ := h.fo.split os1 os2 rfl
  have hlt := h.fo.lt (St_le l)
  have hS : ∀ j, j < l.length → St (l ++ [x]) j = St l j := fun j hj => St_app hj
  have hf1' : Fo (St (l ++ [x])) 0 os1 m := hf1.cong fun j hj => hS j (hlt.2 j (by simp [hj]))
  have hf2' : Fo (St (l ++ [x])) m os2 l.length := hf2.cong fun j hj => hS j (hlt.2 j (by simp [hj]))
  have hkx : kindAt (l ++ [x]) l.length = x.k := by unfold kindAt; simp
  have hcx : kidsAt (l ++ [x]) l.length = x.c := by unfold kidsAt; simp
  have hw : wayOf (l ++ [x]) l.length = some m := by
    unfold wayOf
    rw [hkx, hcx]
    have hl : x.c.length = os2.length := by rw [hc, castL_length]
    rw [hl]
    refine hf2'.walk x.c [] (by rw [hc]; simp) (fun i hi => ?_)
    have hj : os2[i] < l.length := hlt.2 _ (by simp [List.getElem_mem hi])
    rw [kindAt_app hj]
    have := hx.go i (by simpa using hi)
    simpa [hl] using this
  have hst : St (l ++ [x]) l.length = m := by rw [St_eq, hw]; rfl
  refine ⟨?_, fun j hj => ?_⟩
  · have := Fo.snoc (o := l.length) hf1' hst
    simpa using this
  · rcases Nat.lt_or_ge j l.length with hj' | hj'
    · rw [codeAt_app hj']; exact h.good j hj'
    · have : j = l.length := by simp at hj; omega
      subst this
      have hl : x.c.length = (os2.map (kindAt l)).length := by rw [hc, castL_length, List.length_map]
      unfold codeAt
      rw [List.getElem?_append_right (Nat.le_refl _)]
      simp only [Nat.sub_self, List.getElem?_cons_zero, Option.map_some, Option.getD_some]
      unfold nodeC
      rw [if_neg (by rw [hx.kind]; simp), if_neg (by rw [hl]; have := hx.low; have := hx.high; omega), if_neg (by rw [hw]; simp)]
      unfold fieldC
      rw [hl]
      exact hx.field
/-- one part alone: a tree in its form, or too large -/
theorem GSt.check {l : List Nd} {o : Nat} (h : GSt l [o]) : (1 ≤ l.length ∧ l.length ≤ 600 ∧ Dp l (l.length - 1) ≤ 40 ∧ CkR l 0 0) ∨ (1 ≤ l.length ∧ (600 < l.length ∨ 40 < Dp l (l.length - 1)) ∧ ¬ CkR l 0 0) := by
  rcases h.fo.last with ⟨h1, _⟩ | ⟨os', o', h1, h2, h3⟩
  · cases h1
  · have : os' = [] ∧ o' = o := by
      cases os' with
      | nil => simp at h1; exact ⟨rfl, h1.symm⟩
      | cons a b => simp at h1
    obtain ⟨rfl, rfl⟩ := this
    have hs : St l o' = 0 := by
      rcases h3.last with ⟨_, h⟩ | ⟨_, _, h, _⟩
      · exact h
      · simp at h
    have hl : l.length - 1 = o' := by omega
    have h1 : 1 ≤ l.length := by omega
    by_cases h6 : l.length ≤ 600
    · by_cases h4 : Dp l (l.length - 1) ≤ 40
      · exact Or.inl ⟨h1, h6, h4, Or.inr ⟨h1, h6, Or.inr ⟨h.good, Or.inr ⟨by rw [hl]; exact hs, Or.inr ⟨h4, rfl, rfl⟩⟩⟩⟩⟩
      · refine Or.inr ⟨h1, Or.inr (by omega), fun hc => ?_⟩
        have hx : CkR l 10 0 := Or.inr ⟨h1, h6, Or.inr ⟨h.good, Or.inr ⟨by rw [hl]; exact hs, Or.inl ⟨by omega, rfl, rfl⟩⟩⟩⟩
        exact absurd (hc.det hx).1 (by decide)
    · refine Or.inr ⟨h1, Or.inl (by omega), fun hc => ?_⟩
      have hx : CkR l 2 0 := Or.inl ⟨Or.inr (by omega), rfl, rfl⟩
      exact absurd (hc.det hx).1 (by decide)
end Go.Proofs.YtbjacclfhgnffaaGreatDoor
/-
  Contracts of the cursor's own functions.
-/
namespace Go.Proofs.YtbjacclfhgnffaaGreatDoor
open Go.RowKit
open Tk (T4 bstr)
open Tr (Nd Blk KidsAt)

def tokV (t : T4) : Value := .agg #[.int .i64 t.k, .string (bstr t.t), .int .i64 t.v, .int .i64 t.a]

set_option maxHeartbeats 5000000 in
theorem ended_cell (B : Nat) (p : Option Addr) (n cap : Nat) (w : World) (h0 : w.cell? ⟨B, 0, none⟩ = some (.slice p n cap)) (hn : n ≤ 5000000) :
    Calls Tryz.prog 63 #[.pointer (some ⟨B, 0, none⟩)] w fun e w' => e = .returned (.bool (decide (n = 0))) ∧ w = w' := by
  by_cases hz : n = 0
  · subst hz
    go_enter Tryz.func63, Tryz.ntmps63
    go_wp2
    go_ret
    exact ⟨rfl, rfl⟩
  · have hd : ((n : Int) == 0) = false := by simpa using hz
    have hr : Hid (decide (n = 0) = false) := by show _ = _; simpa using hz
    go_enter Tryz.func63, Tryz.ntmps63
    go_wp2
    go_ret
    exact ⟨by rw [hr.out]; rfl, rfl⟩
theorem ended_any {B T E : Nat} {w : World} {s : S3} (h : Ps B T E w s) :
    Calls Tryz.prog 63 #[.pointer (some ⟨B, 0, none⟩)] w fun e w' => e = .returned (.bool (decide (s.L.length = 0))) ∧ w = w' := by
  obtain ⟨vT, vN, vL, ns, h⟩ := h
  obtain ⟨p, cap, rfl, h1, h2, h3⟩ := h.tok
  exact ended_cell B p _ cap w (by rw [h.box.cell]; rfl) h.lenL

set_option maxHeartbeats 2000000 in
theorem peek_nil {B T E : Nat} {w : World} {s : S3} (h : Ps B T E w s) (hl : s.L = []) :
    Calls Tryz.prog 59 #[.pointer (some ⟨B, 0, none⟩)] w fun e w' => e = .returned (tokV (pk E [])) ∧ Below w.heap.size w w' := by
  obtain ⟨vT, vN, vL, ns, h⟩ := h
  obtain ⟨p, cap, rfl, h1, h2, h3⟩ := h.tok
  have hB := h.lt
  have g0 : (w.alloc (.cells #[.int .i64 0, .string ⟨#[]⟩, .int .i64 0, .int .i64 0] 82)).cell? ⟨B, 0, none⟩ = some (.slice p s.L.length cap) := by
    rw [World.cell?_alloc_past _ _ _ hB, h.box.cell]; rfl
  have g1 : (w.alloc (.cells #[.int .i64 0, .string ⟨#[]⟩, .int .i64 0, .int .i64 0] 82)).cell? ⟨B, 1, none⟩ = some (.int .i64 E) := by
    rw [World.cell?_alloc_past _ _ _ hB, h.box.cell]; rfl
  have hc := ended_cell B p s.L.length cap _ g0 h.lenL
  have hd : decide (s.L.length = 0) = true := by rw [hl]; rfl
  rw [hd] at hc
  have HB : Hid (Below w.heap.size w (w.alloc (.cells #[.int .i64 0, .string ⟨#[]⟩, .int .i64 0, .int .i64 0] 82))) := (Below.refl _ _).alloc (Nat.le_refl _) _
  have hw : w.cell? ⟨B, 1, none⟩ = some (.int .i64 E) := by rw [h.box.cell]; rfl
  clear h h3 h1 h2 hl hd g0 g1
  go_enter Tryz.func59, Tryz.ntmps59
  go_wp2_with (go_at_call 63; refine hc.mono ?_; rintro e w' ⟨rfl, rfl⟩)
  refine bodyPost_ret (v := tokV (pk E [])) (by simp [results, Tryz.results59, go_sem, tokV, pk, bstr]) rfl ?_
  exact ⟨rfl, (Below.refl _ _).alloc (Nat.le_refl _) _⟩

set_option maxHeartbeats 2000000 in
theorem peek_cons {B T E : Nat} {w : World} {s : S3} (h : Ps B T E w s) {t : T4} {L : List T4} (hl : s.L = t :: L) :
    Calls Tryz.prog 59 #[.pointer (some ⟨B, 0, none⟩)] w fun e w' => e = .returned (tokV t) ∧ Below w.heap.size w w' := by
  obtain ⟨vT, vN, vL, ns, h⟩ := h
  obtain ⟨p, cap, rfl, h1, h2, h3⟩ := h.tok
  have hB := h.lt
  have hlen : s.L.length = L.length + 1 := by rw [hl]; rfl
  obtain ⟨b, o, rfl, hb, hnb, ht⟩ := h3 (by omega)
  have ht0 := ht 0 (by omega)
  simp only [hl, List.getElem_cons_zero, Nat.zero_mul, Nat.add_zero] at ht0
  obtain ⟨t0, t1, t2, t3⟩ := ht0
  have g0 : w.cell? ⟨B, 0, none⟩ = some (.slice (some ⟨b, o, none⟩) (L.length + 1) cap) := by rw [h.box.cell, ← hlen]; rfl
  have hm : L.length + 1 ≤ 5000000 := by have := h.lenL; omega
  have g1 : (w.alloc (.cells #[.int .i64 0, .string ⟨#[]⟩, .int .i64 0, .int .i64 0] 82)).cell? ⟨B, 0, none⟩ = some (.slice (some ⟨b, o, none⟩) (L.length + 1) cap) := by
    rw [World.cell?_alloc_past _ _ _ hB]; exact g0
  have hc := ended_cell B (some ⟨b, o, none⟩) (L.length + 1) cap _ g1 hm
  have hd : decide (L.length + 1 = 0) = false := by simp
  rw [hd] at hc
  clear h h3 h1 h2 hl hd g1 ht hlen
  obtain ⟨x, hx⟩ : ∃ x, x = bstr t.t := ⟨_, rfl⟩
  unfold tokV
  rw [← hx] at t1 ⊢
  clear hx
  go_enter Tryz.func59, Tryz.ntmps59
  go_wp2_with (go_at_call 63; refine hc.mono ?_; rintro e w' ⟨rfl, rfl⟩)
  refine bodyPost_ret (v := .agg #[.int .i64 t.k, .string x, .int .i64 t.v, .int .i64 t.a]) (by simp [results, Tryz.results59, go_sem]) rfl ?_
  exact ⟨rfl, (Below.refl _ _).alloc (Nat.le_refl _) _⟩
theorem peek_any {B T E : Nat} {w : World} {s : S3} (h : Ps B T E w s) :
    Calls Tryz.prog 59 #[.pointer (some ⟨B, 0, none⟩)] w fun e w' => e = .returned (tokV (pk E s.L)) ∧ Below w.heap.size w w' := by
  cases hl : s.L with
  | nil => exact peek_nil h hl
  | cons t L => exact peek_cons h hl

theorem fldT0 (x0 x1 x2 x3 : Value) (w : World) : (Instr.field 82 (.agg #[x0, x1, x2, x3]) 0).run Tryz.prog w = .ok x0 w := by kernel_rfl
theorem fldT1 (x0 x1 x2 x3 : Value) (w : World) : (Instr.field 82 (.agg #[x0, x1, x2, x3]) 1).run Tryz.prog w = .ok x1 w := by kernel_rfl
theorem fldT3 (x0 x1 x2 x3 : Value) (w : World) : (Instr.field 82 (.agg #[x0, x1, x2, x3]) 3).run Tryz.prog w = .ok x3 w := by kernel_rfl

set_option maxHeartbeats 2000000 in
set_option maxRecDepth 100000 in
theorem sees_any {B T E : Nat} {w : World} {s : S3} (h : Ps B T E w s) (x : ByteArray) :
    Calls Tryz.prog 161 #[.pointer (some ⟨B, 0, none⟩), .string x] w fun e w' => e = .returned (.bool (decide ((pk E s.L).t = x.data.toList))) ∧ Below w.heap.size w w' := by
  have hp := peek_any h
  unfold tokV at hp
  generalize pk E s.L = t at *
  obtain ⟨y, hy⟩ : ∃ y, y = bstr t.t := ⟨_, rfl⟩
  rw [← hy] at hp
  have hr : Hid (decide (t.t = x.data.toList) = (y.toList == x.toList)) := by
    show _ = _
    have e1 : y.toList = t.t := by rw [Lib.toList_data, hy]; rfl
    rw [e1, Lib.toList_data, Bool.eq_iff_iff]; simp
  clear hy
  have hf := fldT1
  go_enter Tryz.func161, Tryz.ntmps161
  go_wp2_with (go_at_call 59; refine hp.mono ?_; rintro e w' ⟨rfl, hb⟩)
  go_ret
  exact ⟨by rw [hr.out]; rfl, hb⟩

theorem own_set0 {B T : Nat} {w : World} {x0 x1 x2 x3 v : Value} (h : Blk w B T #[x0, x1, x2, x3]) (g : Nat) : Own B (w.setCell ⟨B, 0, none⟩ v) g ↔ Own B w g := by
  have h' := h.set_ 0 v
  have e2 : (w.setCell ⟨B, 0, none⟩ v).cell? ⟨B, 2, none⟩ = w.cell? ⟨B, 2, none⟩ := by rw [h'.cell, h.cell]; rfl
  have e3 : (w.setCell ⟨B, 0, none⟩ v).cell? ⟨B, 3, none⟩ = w.cell? ⟨B, 3, none⟩ := by rw [h'.cell, h.cell]; rfl
  unfold Own; rw [e2, e3]
theorem ext_set0 {B T : Nat} {w : World} {x0 x1 x2 x3 : Value} (h : Blk w B T #[x0, x1, x2, x3]) (v : Value) : Ext B w (w.setCell ⟨B, 0, none⟩ v) :=
  ⟨rfl, rfl, rfl, by simp [World.setCell], fun g _ hn => Below.heap_setCell _ _ _ _ (fun e => hn (Or.inl e)), fun g ho => Or.inl ((own_set0 h g).1 ho)⟩
theorem PS.set0 {B T E : Nat} {w : World} {s : S3} {vT vN vL : Value} {ns : List Nd} (h : PS B T E w s vT vN vL ns) {v : Value} {L : List T4} (ht : Toks B w v L) (hL : L.length ≤ 5000000) :
    PS B T E (w.setCell ⟨B, 0, none⟩ v) { s with L := L } v vN vL ns := by
  have hO := own_set0 h.box (v := v)
  have hk : ∀ g, g ≠ B → (w.setCell ⟨B, 0, none⟩ v).heap[g]? = w.heap[g]? := fun g hg => Below.heap_setCell _ _ _ _ hg
  refine { box := h.box.set_ 0 v, tok := ?_, nod := ownsRow_setCell_below h.nod (a := ⟨B, 0, none⟩) (by show B < B + 1; omega) v, kid := ?_, loo := ownsRow_setCell_below h.loo (a := ⟨B, 0, none⟩) (by show B < B + 1; omega) v, sep := h.sep, eqN := h.eqN, lenO := h.lenO, lenN := h.lenN, lenL := hL, kl := h.kl }
  · obtain ⟨p, cap, hv, h1, h2, h3⟩ := ht
    refine ⟨p, cap, hv, h1, h2, fun hc => ?_⟩
    obtain ⟨b, o, hp, hl, hn, ht⟩ := h3 hc
    exact ⟨b, o, hp, by simpa [World.setCell] using hl, fun h => hn ((hO b).1 h), ht.same (hk b (fun e => hn (Or.inl e)))⟩
  · intro i hi h0
    obtain ⟨b, hb0, hp, hl, hn, hc⟩ := h.kid i hi h0
    exact ⟨b, hb0, hp, by simpa [World.setCell] using hl, fun h => hn ((hO b).1 h), fun j hj => (World.cell?_of_block (a := ⟨b, j, none⟩) (hk b (fun e => hn (Or.inl e)))).trans (hc j hj)⟩
theorem toks_tail {B : Nat} {w : World} {b o n cap : Nat} {t : T4} {L : List T4} (hlen : n = L.length) (h1 : L.length + 1 ≤ cap) (h2 : cap ≤ 9223372036854775807) (hl : b < w.heap.size) (hn : ¬ Own B w b) (ht : TokAt w b o (t :: L)) :
    Toks B w (.slice (some ⟨b, o + 4, none⟩) n (cap - 1)) L :=
  ⟨_, cap - 1, by rw [hlen], by omega, by omega, fun _ => ⟨b, o + 4, rfl, hl, hn, fun j hj => by
    have := ht (j + 1) (by simp; omega)
    rw [show o + (j + 1) * 4 = o + 4 + j * 4 by omega] at this
    exact this⟩⟩
theorem toks_none {B : Nat} {w : World} {p : Option Addr} : Toks B w (.slice p 0 0) [] := ⟨p, 0, rfl, Nat.le_refl _, by omega, fun h => absurd h (by omega)⟩

end Go.Proofs.YtbjacclfhgnffaaGreatDoor
/-
  Plain: the parser's steps keep the nodes in their form; what a step gives is told by the kinds of the loose nodes that it leaves.
-/
namespace Go.Proofs.YtbjacclfhgnffaaGreatDoor
open Go.RowKit
open Tk (T4 bstr)
open Tr

def nds (s : S3) : List Nd := s.N.map ndOf
/-- a word's name is a name -/
def TokOk (x : T4) : Prop := x.k = 1 → nameB (bstr x.t) = true
structure InvF (s : S3) (os : List Nat) : Prop where
  gs : GSt (nds s) os
  loose : s.O = castL os
  toks : ∀ x, x ∈ s.L → TokOk x
/-- the words alone have moved on -/
structure Moved (s s' : S3) : Prop where
  N : s'.N = s.N
  O : s'.O = s.O
  L : ∀ x, x ∈ s'.L → x ∈ s.L
theorem InvF.moved {s s' : S3} {os : List Nat} (h : InvF s os) (m : Moved s s') : InvF s' os :=
  ⟨by unfold nds; rw [m.N]; exact h.gs, by rw [m.O]; exact h.loose, fun x hx => h.toks x (m.L x hx)⟩
def kindsOf (s : S3) (os : List Nat) : List Int := os.map (kindAt (nds s))
/-- more nodes, and new loose ones behind the elder ones -/
structure Grew (s s' : S3) (os new : List Nat) : Prop where
  inv : InvF s' (os ++ new)
  more : ∃ M, s'.N = s.N ++ M
theorem nds_length (s : S3) : (nds s).length = s.N.length := List.length_map ..
theorem kindsOf_grew {s s' : S3} {os : List Nat} (hM : ∃ M, s'.N = s.N ++ M) (h : ∀ j, j ∈ os → j < s.N.length) : kindsOf s' os = kindsOf s os := by
  obtain ⟨M, hM⟩ := hM
  unfold kindsOf nds
  refine List.map_congr_left fun j hj => ?_
  rw [hM, List.map_append]
  exact kindAt_app (by rw [List.length_map]; exact h j hj)
theorem InvF.lt {s : S3} {os : List Nat} (h : InvF s os) : ∀ j, j ∈ os → j < s.N.length := fun j hj => by
  have := (h.gs.fo.lt (St_le _)).2 j hj
  rwa [nds_length] at this
/-- what a step gives at a state: kinds of its new loose nodes for which P holds -/
def GivesAt (s : S3) (r : R3) (P : List Int → Prop) : Prop := ∀ os, InvF s os → match r with
  | .ok s' => ∃ new, Grew s s' os new ∧ P (kindsOf s' new)
  | _ => True
def Gives (f : F3) (P : List Int → Prop) : Prop := ∀ s, GivesAt s (f s) P
/-- one list of kinds behind another -/
def Thn (P Q : List Int → Prop) (ks : List Int) : Prop := ∃ a b, ks = a ++ b ∧ P a ∧ Q b
def Nil (ks : List Int) : Prop := ks = []
def One (p : Int → Prop) (ks : List Int) : Prop := ∃ k, ks = [k] ∧ p k
theorem Grew.refl {s : S3} {os : List Nat} (h : InvF s os) : Grew s s os [] := ⟨by rwa [List.append_nil], [], by rw [List.append_nil]⟩
theorem GivesAt.mono {s : S3} {r : R3} {P Q : List Int → Prop} (h : GivesAt s r P) (hpq : ∀ ks, P ks → Q ks) : GivesAt s r Q := by
  intro os hi
  have := h os hi
  cases r with
  | ok s' => obtain ⟨new, hg, hp⟩ := this; exact ⟨new, hg, hpq _ hp⟩
  | bad c a => trivial
  | out => trivial
theorem GivesAt.bind {s : S3} {r : R3} {f : F3} {P Q : List Int → Prop} (h : GivesAt s r P) (hf : ∀ s', r = .ok s' → GivesAt s' (f s') Q) : GivesAt s (r.bind f) (Thn P Q) := by
  intro os hi
  have h1 := h os hi
  cases r with
  | bad c a => trivial
  | out => trivial
  | ok s1 =>
    obtain ⟨new, hg, hp⟩ := h1
    have h2 := hf s1 rfl (os ++ new) hg.inv
    show match f s1 with
      | .ok s' => ∃ new, Grew s s' os new ∧ Thn P Q (kindsOf s' new)
      | _ => True
    cases hr : f s1 with
    | bad c a => trivial
    | out => trivial
    | ok s2 =>
      rw [hr] at h2
      obtain ⟨new2, hg2, hq⟩ := h2
      obtain ⟨M1, hM1⟩ := hg.more
      obtain ⟨M2, hM2⟩ := hg2.more
      refine ⟨new ++ new2, ⟨by rw [← List.append_assoc]; exact hg2.inv, M1 ++ M2, by rw [hM2, hM1, List.append_assoc]⟩, kindsOf s2 new, kindsOf s2 new2, by unfold kindsOf; rw [List.map_append], ?_, hq⟩
      rw [kindsOf_grew hg2.more fun j hj => hg.inv.lt j (by simp [hj])]
      exact hp
theorem GivesAt.moved {s s1 : S3} {r : R3} {P : List Int → Prop} (m : Moved s s1) (h : GivesAt s1 r P) : GivesAt s r P := by
  intro os hi
  have := h os (hi.moved m)
  cases r with
  | bad c a => trivial
  | out => trivial
  | ok s' =>
    obtain ⟨new, hg, hp⟩ := this
    obtain ⟨M, hM⟩ := hg.more
    exact ⟨new, ⟨hg.inv, M, by rw [hM, m.N]⟩, hp⟩
theorem GivesAt.stay {s s' : S3} (m : Moved s s') : GivesAt s (.ok s') Nil := by
  intro os hi
  exact ⟨[], ⟨by rw [List.append_nil]; exact hi.moved m, [], by rw [List.append_nil, m.N]⟩, rfl⟩
theorem moved_refl (s : S3) : Moved s s := ⟨rfl, rfl, fun _ h => h⟩
theorem moved_tail (s : S3) : Moved s { s with L := s.L.tail } := ⟨rfl, rfl, fun _ h => List.mem_of_mem_tail h⟩
theorem givesAt_bad (s : S3) (c a : Int) (P : List Int → Prop) : GivesAt s (.bad c a) P := fun _ _ => trivial
theorem givesAt_out (s : S3) (P : List Int → Prop) : GivesAt s .out P := fun _ _ => trivial
theorem gives_word (E : Nat) (t : List UInt8) : Gives (wordF E t) Nil := by
  intro s
  unfold wordF
  split
  · exact .stay (moved_tail s)
  · exact givesAt_bad _ _ _ _
theorem gives_seq_nil : Gives (seqF []) Nil := fun s => .stay (moved_refl s)
theorem gives_seq {f : F3} {fs : List F3} {P Q : List Int → Prop} (h : Gives f P) (h2 : Gives (seqF fs) Q) : Gives (seqF (f :: fs)) (Thn P Q) :=
  fun s => (h s).bind fun s' _ => h2 s'
theorem Fo.len {S : Nat → Nat} (hS : ∀ j, S j ≤ j) {b e : Nat} {os : List Nat} (h : Fo S b os e) : os.length ≤ e := by
  induction h with
  | nil => exact Nat.zero_le _
  | @snoc os e o h hs ih =>
    have := hS o
    rw [List.length_append, List.length_singleton]
    omega
/-- a node over the loose ones from a mark on -/
theorem add_gives {s s' : S3} {x : Mn} {os1 os2 : List Nat} (h : InvF s (os1 ++ os2)) (hr : addF x os1.length s = .ok s') (hx : os2.length < 5000000 → OkN x.k (bstr x.t) x.n x.z x.a (kindsOf s os2)) :
    Grew s s' os1 [s.N.length] ∧ kindsOf s' [s.N.length] = [x.k] := by
  unfold addF at hr
  split at hr
  · cases hr
  · rename_i hn
    injection hr with hr
    subst hr
    have hO : s.O = castL os1 ++ castL os2 := by rw [h.loose]; unfold castL; rw [List.map_append]
    have hd : s.O.drop os1.length = castL os2 := by rw [hO, ← castL_length os1, List.drop_left]
    have ht : s.O.take os1.length = castL os1 := by rw [hO, ← castL_length os1, List.take_left]
    have hlen : os2.length < 5000000 := by
      have h1 := h.gs.fo.len (St_le _)
      rw [nds_length, List.length_append] at h1
      omega
    have hg := h.gs.add (x := ndOf { x with c := s.O.drop os1.length }) hd (hx hlen)
    rw [nds_length] at hg
    refine ⟨⟨⟨?_, ?_, h.toks⟩, _, rfl⟩, ?_⟩
    · unfold nds; rw [List.map_append]; exact hg
    · show s.O.take os1.length ++ [(s.N.length : Int)] = _
      rw [ht, castL_snoc]
    · unfold kindsOf nds
      show [kindAt (List.map ndOf (s.N ++ [_])) s.N.length] = [x.k]
      unfold kindAt
      rw [List.map_append, List.getElem?_append_right (by simp)]
      simp [ndOf]
/-- a node over what its steps leave -/
theorem gives_build {x : Mn} {fs : List F3} {P : List Int → Prop} (h : Gives (seqF fs) P) (hx : ∀ ks, P ks → ks.length < 5000000 → OkN x.k (bstr x.t) x.n x.z x.a ks) (s : S3) : GivesAt s (buildF x fs s) (fun ks => ks = [x.k]) := by
  intro os hi
  unfold buildF extF
  have h1 := h s os hi
  cases hs : seqF fs s with
  | bad c a => trivial
  | out => trivial
  | ok s1 =>
    rw [hs] at h1
    obtain ⟨new, hg, hp⟩ := h1
    have hl : s.O.length = os.length := by rw [hi.loose, castL_length]
    show match addF x s.O.length s1 with
      | .ok s' => ∃ new, Grew s s' os new ∧ kindsOf s' new = [x.k]
      | _ => True
    rw [hl]
    cases ha : addF x os.length s1 with
    | bad c a => trivial
    | out => trivial
    | ok s2 =>
      obtain ⟨hg2, hk⟩ := add_gives hg.inv ha fun hn => hx _ hp (by unfold kindsOf; rw [List.length_map]; exact hn)
      obtain ⟨M1, hM1⟩ := hg.more
      obtain ⟨M2, hM2⟩ := hg2.more
      exact ⟨[s1.N.length], ⟨hg2.inv, M1 ++ M2, by rw [hM2, hM1, List.append_assoc]⟩, hk⟩
end Go.Proofs.YtbjacclfhgnffaaGreatDoor
