/-
  Joined texts of this claim: Kk, Lc.
-/
import Derived.Test.YtbjacclfhgnffaaGreatDoorY39
import Derived.Deep.RegionHeld3
set_option linter.unusedVariables false
set_option linter.unusedSimpArgs false
/-
  The document's reader: what a walk of one of its functions bears along, shortly.
-/
namespace Go.Proofs.YtbjacclfhgnffaaGreatDoor
open Go.RowKit
open Tk (T4 bstr)
open Tr (Nd Blk KidsAt NodeAt ret_bool)

/-- the two boxes of a walk (the reader, the result), and what lies below -/
structure Fr (A : Nat → Prop) (w W : World) (cr cs : Array Value) : Prop where
  r : Blk W w.heap.size 63 cr
  s : Blk W (w.heap.size + 1) 63 cs
  x : Below w.heap.size w W
  i : In A W
/-- a word's box -/
structure Tb (w W : World) (g : Nat) (cs : Array Value) : Prop where
  t : ∃ ty, Blk W g ty cs
  n : w.heap.size + 1 < g
/-- a reader that is at hand -/
structure Rd (E : Nat) (A : Nat → Prop) (w W : World) (r : Rs) (v : Value) : Prop where
  out : RdAt E (Two A w.heap.size) W r v
/-- a list that is at hand -/
structure Ls (A : Nat → Prop) (w W : World) (c : List Int) (v : Value) : Prop where
  out : LsAt (Two A w.heap.size) W c v
def Q6 (g : Nat) (x0 x1 x2 x3 x4 x5 : Value) (W : World) : Prop := W.cell? ⟨g, 0, none⟩ = some x0 ∧ W.cell? ⟨g, 1, none⟩ = some x1 ∧ W.cell? ⟨g, 2, none⟩ = some x2 ∧ W.cell? ⟨g, 3, none⟩ = some x3 ∧ W.cell? ⟨g, 4, none⟩ = some x4 ∧ W.cell? ⟨g, 5, none⟩ = some x5 ∧ g < W.heap.size
def Q4 (g : Nat) (x0 x1 x2 x3 : Value) (W : World) : Prop := W.cell? ⟨g, 0, none⟩ = some x0 ∧ W.cell? ⟨g, 1, none⟩ = some x1 ∧ W.cell? ⟨g, 2, none⟩ = some x2 ∧ W.cell? ⟨g, 3, none⟩ = some x3 ∧ g < W.heap.size
section
variable {E g : Nat} {A : Nat → Prop} {w W W' : World} {cr cs ct : Array Value} {q q' : Rs} {v x0 x1 x2 x3 x4 x5 y0 y1 y2 y3 y4 y5 : Value} {c : List Int}
-- the beginning
theorem frN (hA : In A w) (h : RdAt E A w q (.agg #[x0, x1, x2, x3, x4, x5])) : Fr A w ((w.alloc (.cells #[x0, x1, x2, x3, x4, x5] 63)).alloc (.cells #[.slice none 0 0, .slice none 0 0, .int .i64 0, .int .i64 0, .int .i64 0, .int .i64 0] 63)) #[x0, x1, x2, x3, x4, x5] #[.slice none 0 0, .slice none 0 0, .int .i64 0, .int .i64 0, .int .i64 0, .int .i64 0] :=
  ⟨(Blk.new _ _ _).alloc _, Blk.new1 _ _ _ _, ((Below.refl _ _).alloc (Nat.le_refl _) _).alloc (by simp) _, (hA.alloc _).alloc _⟩
theorem rdN (h : RdAt E A w q (.agg #[x0, x1, x2, x3, x4, x5])) : Rd E A w ((w.alloc (.cells #[x0, x1, x2, x3, x4, x5] 63)).alloc (.cells #[.slice none 0 0, .slice none 0 0, .int .i64 0, .int .i64 0, .int .i64 0, .int .i64 0] 63)) q (.agg #[x0, x1, x2, x3, x4, x5]) :=
  ⟨(Two.at h).agr (((Agr.refl _ _).alloc _).alloc _)⟩
-- a call
theorem frC (F : Fr A w W cr cs) (b : Below W.heap.size W W') : Fr A w W' cr cs := ⟨F.r.below b F.r.lt, F.s.below b F.s.lt, F.x.trans (b.mono F.x.size), fun k h => Nat.lt_of_lt_of_le (F.i k h) b.size⟩
theorem tbC (T : Tb w W g ct) (b : Below W.heap.size W W') : Tb w W' g ct := ⟨T.t.imp fun _ h => h.below b h.lt, T.n⟩
theorem rdC (R : Rd E A w W q v) (b : Below W.heap.size W W') : Rd E A w W' q v := ⟨R.out.agr (.below b)⟩
theorem lsC (L : Ls A w W c v) (b : Below W.heap.size W W') : Ls A w W' c v := ⟨L.out.agr (.below b)⟩
-- a draw
theorem frD (F : Fr A w W cr cs) : Fr A w W.drew cr cs := ⟨F.r.drew, F.s.drew, F.x.drew, fun k h => F.i k h⟩
theorem tbD (T : Tb w W g ct) : Tb w W.drew g ct := ⟨T.t.imp fun _ h => h.drew, T.n⟩
theorem rdD (R : Rd E A w W q v) : Rd E A w W.drew q v := ⟨R.out.agr (Agr.refl _ _).drew⟩
theorem lsD (L : Ls A w W c v) : Ls A w W.drew c v := ⟨L.out.agr (Agr.refl _ _).drew⟩
-- a new box
theorem frA (F : Fr A w W cr cs) (o : Obj) : Fr A w (W.alloc o) cr cs := ⟨F.r.alloc o, F.s.alloc o, F.x.alloc F.x.size o, F.i.alloc o⟩
theorem tbA (T : Tb w W g ct) (o : Obj) : Tb w (W.alloc o) g ct := ⟨T.t.imp fun _ h => h.alloc o, T.n⟩
theorem rdA (R : Rd E A w W q v) (o : Obj) : Rd E A w (W.alloc o) q v := ⟨R.out.agr ((Agr.refl _ _).alloc o)⟩
theorem lsA (L : Ls A w W c v) (o : Obj) : Ls A w (W.alloc o) c v := ⟨L.out.agr ((Agr.refl _ _).alloc o)⟩
theorem tbN (F : Fr A w W cr cs) (k v a : Int) (x : ByteArray) : Tb w (W.alloc (.cells #[.int .i64 k, .string x, .int .i64 v, .int .i64 a] 82)) W.heap.size #[.int .i64 k, .string x, .int .i64 v, .int .i64 a] := ⟨⟨_, Blk.new _ _ _⟩, F.s.lt⟩
-- a reader into the first box (R), into the second one (S)
theorem frR (F : Fr A w W #[y0, y1, y2, y3, y4, y5] cs) (R : Rd E A w W q (.agg #[x0, x1, x2, x3, x4, x5])) : Fr A w (st6 W w.heap.size x0 x1 x2 x3 x4 x5) #[x0, x1, x2, x3, x4, x5] cs := ⟨st6_same F.r, st6_far F.s (by omega), st6_below F.x (Nat.le_refl _), F.i.st6⟩
theorem frS (F : Fr A w W cr #[y0, y1, y2, y3, y4, y5]) (R : Rd E A w W q (.agg #[x0, x1, x2, x3, x4, x5])) : Fr A w (st6 W (w.heap.size + 1) x0 x1 x2 x3 x4 x5) cr #[x0, x1, x2, x3, x4, x5] := ⟨st6_far F.r (by omega), st6_same F.s, st6_below F.x (Nat.le_succ _), F.i.st6⟩
theorem tbR (T : Tb w W g ct) (R : Rd E A w W q (.agg #[x0, x1, x2, x3, x4, x5])) : Tb w (st6 W w.heap.size x0 x1 x2 x3 x4 x5) g ct := ⟨T.t.imp fun _ h => st6_far h (by have := T.n; omega), T.n⟩
theorem tbS (T : Tb w W g ct) (R : Rd E A w W q (.agg #[x0, x1, x2, x3, x4, x5])) : Tb w (st6 W (w.heap.size + 1) x0 x1 x2 x3 x4 x5) g ct := ⟨T.t.imp fun _ h => st6_far h (by have := T.n; omega), T.n⟩
theorem agR (W : World) (u : Nat) : Agr (Two A u) W (st6 W u x0 x1 x2 x3 x4 x5) := st6_agr (Agr.refl _ _) (Or.inr (Or.inl rfl))
theorem agS (W : World) (u : Nat) : Agr (Two A u) W (st6 W (u + 1) x0 x1 x2 x3 x4 x5) := st6_agr (Agr.refl _ _) (Or.inr (Or.inr rfl))
theorem rdR (R : Rd E A w W q (.agg #[x0, x1, x2, x3, x4, x5])) : Rd E A w (st6 W w.heap.size x0 x1 x2 x3 x4 x5) q (.agg #[x0, x1, x2, x3, x4, x5]) := ⟨R.out.agr (agR _ _)⟩
theorem rdS (R : Rd E A w W q (.agg #[x0, x1, x2, x3, x4, x5])) : Rd E A w (st6 W (w.heap.size + 1) x0 x1 x2 x3 x4 x5) q (.agg #[x0, x1, x2, x3, x4, x5]) := ⟨R.out.agr (agS _ _)⟩
theorem lsR (L : Ls A w W c v) (R : Rd E A w W q (.agg #[x0, x1, x2, x3, x4, x5])) : Ls A w (st6 W w.heap.size x0 x1 x2 x3 x4 x5) c v := ⟨L.out.agr (agR _ _)⟩
theorem lsS (L : Ls A w W c v) (R : Rd E A w W q (.agg #[x0, x1, x2, x3, x4, x5])) : Ls A w (st6 W (w.heap.size + 1) x0 x1 x2 x3 x4 x5) c v := ⟨L.out.agr (agS _ _)⟩
-- other readers
theorem rdRo (R' : Rd E A w W q' v) (R : Rd E A w W q (.agg #[x0, x1, x2, x3, x4, x5])) : Rd E A w (st6 W w.heap.size x0 x1 x2 x3 x4 x5) q' v := ⟨R'.out.agr (agR _ _)⟩
theorem rdSo (R' : Rd E A w W q' v) (R : Rd E A w W q (.agg #[x0, x1, x2, x3, x4, x5])) : Rd E A w (st6 W (w.heap.size + 1) x0 x1 x2 x3 x4 x5) q' v := ⟨R'.out.agr (agS _ _)⟩
-- a new box with a reader
theorem t6N (F : Fr A w W cr cs) (R : Rd E A w W q (.agg #[x0, x1, x2, x3, x4, x5])) : Tb w (W.alloc (.cells #[x0, x1, x2, x3, x4, x5] 63)) W.heap.size #[x0, x1, x2, x3, x4, x5] := ⟨⟨_, Blk.new _ _ _⟩, F.s.lt⟩
theorem frB (F : Fr A w W cr cs) (R : Rd E A w W q (.agg #[x0, x1, x2, x3, x4, x5])) : Fr A w (W.alloc (.cells #[x0, x1, x2, x3, x4, x5] 63)) cr cs := frA F _
theorem tbB (T : Tb w W g ct) (R : Rd E A w W q (.agg #[x0, x1, x2, x3, x4, x5])) : Tb w (W.alloc (.cells #[x0, x1, x2, x3, x4, x5] 63)) g ct := tbA T _
theorem rdB (R : Rd E A w W q (.agg #[x0, x1, x2, x3, x4, x5])) : Rd E A w (W.alloc (.cells #[x0, x1, x2, x3, x4, x5] 63)) q (.agg #[x0, x1, x2, x3, x4, x5]) := rdA R _
theorem rdBo (R' : Rd E A w W q' v) (R : Rd E A w W q (.agg #[x0, x1, x2, x3, x4, x5])) : Rd E A w (W.alloc (.cells #[x0, x1, x2, x3, x4, x5] 63)) q' v := rdA R' _
theorem lsB (L : Ls A w W c v) (R : Rd E A w W q (.agg #[x0, x1, x2, x3, x4, x5])) : Ls A w (W.alloc (.cells #[x0, x1, x2, x3, x4, x5] 63)) c v := lsA L _
-- what the cells hold
theorem Fr.two (F : Fr A w W cr cs) : In (Two A w.heap.size) W := fun b hb => by
  have := F.s.lt
  rcases hb with h | rfl | rfl
  · exact F.i b h
  · omega
  · omega
theorem Fr.all (F : Fr A w W #[x0, x1, x2, x3, x4, x5] #[y0, y1, y2, y3, y4, y5]) : (W.cell? ⟨w.heap.size, 0, none⟩ = some x0 ∧ W.cell? ⟨w.heap.size, 1, none⟩ = some x1 ∧ W.cell? ⟨w.heap.size, 2, none⟩ = some x2 ∧ W.cell? ⟨w.heap.size, 3, none⟩ = some x3 ∧ W.cell? ⟨w.heap.size, 4, none⟩ = some x4 ∧ W.cell? ⟨w.heap.size, 5, none⟩ = some x5 ∧ w.heap.size < W.heap.size) ∧ (W.cell? ⟨w.heap.size + 1, 0, none⟩ = some y0 ∧ W.cell? ⟨w.heap.size + 1, 1, none⟩ = some y1 ∧ W.cell? ⟨w.heap.size + 1, 2, none⟩ = some y2 ∧ W.cell? ⟨w.heap.size + 1, 3, none⟩ = some y3 ∧ W.cell? ⟨w.heap.size + 1, 4, none⟩ = some y4 ∧ W.cell? ⟨w.heap.size + 1, 5, none⟩ = some y5 ∧ w.heap.size + 1 < W.heap.size) ∧ (W.frozen? ⟨w.heap.size, 0, none⟩ = false ∧ W.frozen? ⟨w.heap.size, 1, none⟩ = false ∧ W.frozen? ⟨w.heap.size, 2, none⟩ = false ∧ W.frozen? ⟨w.heap.size, 3, none⟩ = false ∧ W.frozen? ⟨w.heap.size, 4, none⟩ = false ∧ W.frozen? ⟨w.heap.size, 5, none⟩ = false) ∧ W.frozen? ⟨w.heap.size + 1, 0, none⟩ = false ∧ W.frozen? ⟨w.heap.size + 1, 1, none⟩ = false ∧ W.frozen? ⟨w.heap.size + 1, 2, none⟩ = false ∧ W.frozen? ⟨w.heap.size + 1, 3, none⟩ = false ∧ W.frozen? ⟨w.heap.size + 1, 4, none⟩ = false ∧ W.frozen? ⟨w.heap.size + 1, 5, none⟩ = false := ⟨six F.r, six F.s, six_f F.r, six_f F.s⟩
theorem Fr.held (F : Fr A w W #[x0, x1, x2, x3, x4, x5] cs) : Q6 w.heap.size x0 x1 x2 x3 x4 x5 W := six F.r
theorem Tb.all (T : Tb w W g #[y0, y1, y2, y3]) : W.cell? ⟨g, 0, none⟩ = some y0 ∧ W.cell? ⟨g, 1, none⟩ = some y1 ∧ W.cell? ⟨g, 2, none⟩ = some y2 ∧ W.cell? ⟨g, 3, none⟩ = some y3 ∧ g < W.heap.size := T.t.elim fun _ h => four h
theorem Tb.all6 (T : Tb w W g #[y0, y1, y2, y3, y4, y5]) : W.cell? ⟨g, 0, none⟩ = some y0 ∧ W.cell? ⟨g, 1, none⟩ = some y1 ∧ W.cell? ⟨g, 2, none⟩ = some y2 ∧ W.cell? ⟨g, 3, none⟩ = some y3 ∧ W.cell? ⟨g, 4, none⟩ = some y4 ∧ W.cell? ⟨g, 5, none⟩ = some y5 ∧ g < W.heap.size := T.t.elim fun _ h => six h
theorem Tb.held (T : Tb w W g #[y0, y1, y2, y3]) : Q4 g y0 y1 y2 y3 W := T.t.elim fun _ h => four h
theorem Tb.held6 (T : Tb w W g #[y0, y1, y2, y3, y4, y5]) : Q6 g y0 y1 y2 y3 y4 y5 W := T.t.elim fun _ h => six h
-- what is handed on
theorem Rd.fin {fn : Func} {a : Act} (R : Rd E A w W q v) (F : Fr A w W cr cs) (hr : (results fn a.tmps).run Tryz.prog W = .ok v W) (hd : a.defers = []) : bodyPost Tryz.prog fn (RdP E A w q) .ret a W := bodyPost_ret hr hd (RdP.of (Two.off R.out) F.x)
theorem Rd.p (R : Rd E A w W q v) (F : Fr A w W cr cs) : RdP E A w q (.returned v) W := RdP.of (Two.off R.out) F.x
end
/-- contracts with a shut answer -/
def BlP (b : Bool) (w : World) (e : Ending) (w' : World) : Prop := e = .returned (.bool b) ∧ Below w.heap.size w w'
def TkP (E : Nat) (q : Rs) (w : World) (e : Ending) (w' : World) : Prop := ∃ k x n a, e = .returned (.agg #[.int .i64 k, .string x, .int .i64 n, .int .i64 a]) ∧ Hid (TokIs E q k x n a) ∧ Below w.heap.size w w'
/-- a reader is handed back -/
def RqP (E : Nat) (A : Nat → Prop) (w w0 : World) (r' : Rs) (e : Ending) (w' : World) : Prop :=
  ∃ pn ln cn pl ll cl c a, e = .returned (.agg #[.slice pn ln cn, .slice pl ll cl, .int .i64 E, .int .i64 c, .int .i64 a, .int .i64 r'.top]) ∧
    Rd E A w w' r' (.agg #[.slice pn ln cn, .slice pl ll cl, .int .i64 E, .int .i64 c, .int .i64 a, .int .i64 r'.top]) ∧ Below w0.heap.size w0 w'
/-- a reader and a list are handed back -/
def RmP (E : Nat) (A : Nat → Prop) (w w0 : World) (p : RL) (e : Ending) (w' : World) : Prop :=
  ∃ pn ln cn pl ll cl c a kp kl kc, e = .returned (.tuple #[.agg #[.slice pn ln cn, .slice pl ll cl, .int .i64 E, .int .i64 c, .int .i64 a, .int .i64 p.1.top], .slice kp kl kc]) ∧
    Rd E A w w' p.1 (.agg #[.slice pn ln cn, .slice pl ll cl, .int .i64 E, .int .i64 c, .int .i64 a, .int .i64 p.1.top]) ∧ Ls A w w' p.2 (.slice kp kl kc) ∧ Below w0.heap.size w0 w'
/-- a function of a reader that gives a reader; the plain one gives a list beside -/
def FnB (E id : Nat) (ex : Array Value) (f : Rs → Option RL) : Prop := ∀ (A : Nat → Prop) (w : World) (r : Rs) (q : RL) (v : Value), In A w → RdAt E A w r v → f r = some q → Calls Tryz.prog id (#[v] ++ ex) w (RdP E A w q.1)
def LpP (A : Nat → Prop) (w w0 : World) (l : List Int) (k : Nat) (e : Ending) (w' : World) : Prop := ∃ p, e = .returned (.slice p k k) ∧ Ls A w w' l (.slice p k k) ∧ Below w0.heap.size w0 w'
section
variable {E : Nat} {A : Nat → Prop} {w W : World} {cr cs : Array Value} {q q' : Rs} {v : Value}
theorem rq_of {e : Ending} {W' : World} (h : RdP E (Two A w.heap.size) W q e W') : RqP E A w W q e W' := by
  obtain ⟨pn, ln, cn, pl, ll, cl, c, a, he, hr, hb⟩ := h
  exact ⟨pn, ln, cn, pl, ll, cl, c, a, he, ⟨hr.out⟩, hb⟩
theorem isC (R : Rd E A w W q v) (s : ByteArray) {b : Bool} (hb : isR E s.data.toList q = b) : Calls Tryz.prog 69 #[v, .string s] W (BlP b W) := R.out.isb s hb
theorem okC (R : Rd E A w W q v) {b : Bool} (hb : okR q = b) : Calls Tryz.prog 38 #[v] W (BlP b W) := R.out.okb hb W
theorem pkC (R : Rd E A w W q v) : Calls Tryz.prog 68 #[v] W (TkP E q W) := R.out.peekp
theorem skC (R : Rd E A w W q v) : Calls Tryz.prog 70 #[v] W (RqP E A w W (skipR q)) := R.out.skipp.mono fun _ _ h => rq_of h
theorem stC (R : Rd E A w W q v) (k : Int) : Calls Tryz.prog 74 #[v, .int .i64 k] W (RqP E A w W (stopR E k q)) := (R.out.stopp k).mono fun _ _ h => rq_of h
theorem waC (R : Rd E A w W q v) (s : ByteArray) {l : List UInt8} (hl : s.data.toList = l) : Calls Tryz.prog 71 #[v, .string s] W (RqP E A w W (wantR E l q)) := hl ▸ (R.out.wantp s).mono fun _ _ h => rq_of h
theorem faC {id : Nat} {ex : Array Value} {f : Rs → Option Rs} (hf : FnA E id ex f) (F : Fr A w W cr cs) (R : Rd E A w W q v) (h : Hid (f q = some q')) : Calls Tryz.prog id (#[v] ++ ex) W (RqP E A w W q') := (hf _ _ _ _ _ F.two R.out h.out).mono fun _ _ h => rq_of h
theorem fbC {id : Nat} {ex : Array Value} {f : Rs → Option RL} (hf : FnB E id ex f) (F : Fr A w W cr cs) (R : Rd E A w W q v) {p : RL} (h : Hid (f q = some p)) : Calls Tryz.prog id (#[v] ++ ex) W (RqP E A w W p.1) := (hf _ _ _ _ _ F.two R.out h.out).mono fun _ _ h => rq_of h
theorem flC {id : Nat} {ex : Array Value} {f : Rs → Option RL} (hf : FnL E id ex f) (F : Fr A w W cr cs) (R : Rd E A w W q v) {p : RL} (h : Hid (f q = some p)) : Calls Tryz.prog id (#[v] ++ ex) W (RmP E A w W p) := (hf _ _ _ _ _ F.two R.out h.out).mono fun _ _ ⟨pn, ln, cn, pl, ll, cl, c, a, kp, kl, kc, he, hr, hl, hb⟩ => ⟨pn, ln, cn, pl, ll, cl, c, a, kp, kl, kc, he, ⟨hr.out⟩, ⟨hl.out⟩, hb⟩
theorem oneC (F : Fr A w W cr cs) (k : Int) : Calls Tryz.prog 82 #[.int .i64 k] W (LpP A w W [k] 1) := (oneA k W F.two).mono fun _ _ ⟨p, he, hl, hb⟩ => ⟨p, he, ⟨hl.out⟩, hb⟩
theorem twoC (F : Fr A w W cr cs) (k m : Int) : Calls Tryz.prog 73 #[.int .i64 k, .int .i64 m] W (LpP A w W [k, m] 2) := (twoA_ k m W F.two).mono fun _ _ ⟨p, he, hl, hb⟩ => ⟨p, he, ⟨hl.out⟩, hb⟩
theorem lsK (F : Fr A w W cr cs) (l : List Int) {g : Nat} (e : W.heap.size = g) {xs : Array Value} (hx : xs = (l.map (Value.int .i64)).toArray) {n : Nat} (hn : l.length = n) : Ls A w (W.alloc (.cells xs 3)) l (.slice (some ⟨g, 0, none⟩) n n) := by
  subst e hx hn
  have hB := Blk.new W 3 (l.map (Value.int .i64)).toArray
  exact ⟨⟨_, _, rfl, fun _ => ⟨_, _, rfl, hB.lt, fun ha => Nat.lt_irrefl _ (F.two _ ha), fun j hj => by rw [Nat.zero_add, hB.cell]; simp [hj]⟩, Nat.le_refl _⟩⟩
theorem nilL (A : Nat → Prop) (w W : World) : Ls A w W [] (.slice none 0 0) := ⟨⟨none, 0, rfl, fun h => absurd h (Nat.lt_irrefl _), Nat.le_refl _⟩⟩
theorem adC (F : Fr A w W cr cs) (R : Rd E A w W q v) {ks : List Int} {kp : Option Addr} {kl kc : Nat} (L : Ls A w W ks (.slice kp kl kc)) (k n z a : Int) (x : ByteArray) {t : List UInt8} {m b : Int} (ht : x.data.toList = t) (hn : n = m) (ha : a = b) (hf : Hid (addR ⟨k, t, m, z, [], b⟩ ks q = some q')) :
    Calls Tryz.prog 40 #[v, .agg #[.int .i64 k, .string x, .int .i64 n, .int .i64 z, .slice none 0 0, .int .i64 a], .slice kp kl kc] W (RqP E A w W q') := by
  subst ht hn ha
  exact (radd_any F.two R.out k n z a x L.out hf.out).mono fun _ _ h => rq_of h
end
/-- the word's kind, as the walk asks for it -/
theorem kdT {E : Nat} {r : Rs} {k n a : Int} {x : ByteArray} (h : Hid (TokIs E r k x n a)) {m : Nat} {z : Int} (hz : (m : Int) = z) (e : (pk E r.L).k = m) : (k == z) = true := by rw [h.out.1, e, hz]; simp
theorem kdF {E : Nat} {r : Rs} {k n a : Int} {x : ByteArray} (h : Hid (TokIs E r k x n a)) {m : Nat} {z : Int} (hz : (m : Int) = z) (e : ¬ (pk E r.L).k = m) : (k == z) = false := by rw [h.out.1, beq_eq_false_iff_ne]; omega
def NmP (k : Int) (w : World) (e : Ending) (w' : World) : Prop := e = .returned (.int .i64 k) ∧ Below w.heap.size w w'
theorem rkC {E : Nat} {r : Rs} {k n a : Int} {x : ByteArray} (h : Hid (TokIs E r k x n a)) {rk : Nat} (e : rankT (pk E r.L).t = rk) (W : World) : Calls Tryz.prog 120 #[.string x] W (NmP rk W) := by rw [← e, ← h.out.txt]; exact rank_any x W
theorem txC {E : Nat} {A : Nat → Prop} {w W : World} {r : Rs} {v : Value} {k n a : Int} {x : ByteArray} {b : Bool} (R : Rd E A w W r v) (h : Hid (TokIs E r k x n a)) (e : setT (pk E r.L).t = b) : Calls Tryz.prog 72 #[.int .i64 39, .string x] W (BlP b W) := texts_b (R.out.small h.out) (by rw [h.out.txt]; exact e) W
/-- a loop's state: a reader in the first box -/
def Lp (E : Nat) (A : Nat → Prop) (w : World) (P : Rs → Prop) (W : World) : Prop := ∃ rho p l m n o s z a, P rho ∧
  Fr A w W #[.slice p l m, .slice n o s, .int .i64 E, .int .i64 z, .int .i64 a, .int .i64 rho.top] #[.slice none 0 0, .slice none 0 0, .int .i64 0, .int .i64 0, .int .i64 0, .int .i64 0] ∧
  Rd E A w W rho (.agg #[.slice p l m, .slice n o s, .int .i64 E, .int .i64 z, .int .i64 a, .int .i64 rho.top])
theorem tx_ {E : Nat} {r : Rs} {k n a : Int} {x : ByteArray} (h : Hid (TokIs E r k x n a)) : x.data.toList = (pk E r.L).t := h.out.txt
theorem tv_ {E : Nat} {r : Rs} {k n a : Int} {x : ByteArray} (h : Hid (TokIs E r k x n a)) : n = (pk E r.L).v := h.out.2.2.1
theorem ta_ {E : Nat} {r : Rs} {k n a : Int} {x : ByteArray} (h : Hid (TokIs E r k x n a)) : a = (pk E r.L).a := h.out.2.2.2
section
variable {α β : Type} {x a b : Option α} {o : Option β} {f : α → Option β} {y z : α} {u : β} {c : Bool} {q : RL}
theorem bnd (h : Hid (x.bind f = some u)) : ∃ a, Hid (x = some a) ∧ Hid (f a = some u) := bind_some h.out
theorem aln {o : Option Rs} (h : Hid (alone o = some q)) : ∃ r', Hid (o = some r') ∧ q = (r', []) := by
  cases o with
  | none => cases h.out
  | some r' => exact ⟨r', Lib.hid rfl, (Option.some.inj h.out).symm⟩
theorem ifT (h : Hid ((if c = true then a else b) = x)) (hc : c = true) : Hid (a = x) := by rw [if_pos hc] at h; exact h
theorem ifF (h : Hid ((if c = true then a else b) = x)) (hc : c = false) : Hid (b = x) := by rw [if_neg (by rw [hc]; decide)] at h; exact h
theorem ifN {c : Prop} [Decidable c] (h : Hid ((if c then none else b) = some z)) : ¬c ∧ Hid (b = some z) := by
  by_cases hc : c
  · rw [if_pos hc] at h; cases h.out
  · rw [if_neg hc] at h; exact ⟨hc, h⟩
theorem sm (h : Hid (some y = some z)) : z = y := (Option.some.inj h.out).symm
end
/-- regions that draw: S holds till the last operation f, which waits for all the others -/
def anyF (Q : Exit → Act → World → Prop) (S : World → Prop) (f : Nat) (ops : Array Oper) : Nat → Array Bool → Act → World → Prop
  | 0, l, a, w => Region.ready .any ops l = [] ∧ Q .normal a w
  | n + 1, l, a, w => (Region.ready .any ops l = [] → Q .normal a w) ∧ ∀ i ∈ Region.ready .any ops l, wpOp Tryz.prog ops Q i (fun a' w' => (i = f ∨ S w') ∧ anyF Q S f ops n (l.setIfInBounds i true) a' w') a w
def lastB (ops : Array Oper) (f : Nat) : Bool := (List.range ops.size).all fun i => i == f || match ops[f]? with
  | some o => o.after.any fun e => Region.binds .any e && e.on == i
  | none => true
section
variable {ops : Array Oper} {Q : Exit → Act → World → Prop} {S : World → Prop} {f : Nat}
theorem anyF_any : ∀ (n : Nat) (l : Array Bool) (a : Act) (w : World), anyF Q S f ops n l a w → wpAny Tryz.prog .any ops Q n l a w
  | 0, _, _, _, h => h
  | n + 1, _, _, _, h => ⟨h.1, fun i hi => wpOp_mono (fun _ _ k => anyF_any n _ _ _ k.2) (h.2 i hi)⟩
theorem last_spec (hl : lastB ops f = true) {i : Nat} (hi : i < ops.size) (hne : i ≠ f) {o : Oper} (ho : ops[f]? = some o) : ∃ e, e ∈ o.after ∧ Region.binds .any e = true ∧ e.on = i := by
  have h := List.all_eq_true.1 hl i (List.mem_range.2 hi)
  rw [ho] at h
  simp only [Bool.or_eq_true, beq_iff_eq, hne, false_or, Array.any_eq_true, Bool.and_eq_true] at h
  obtain ⟨k, hk, h1, h2⟩ := h
  exact ⟨_, Array.getElem_mem hk, h1, h2⟩
/-- what only looks may be taken first -/
theorem anyF_first {i : Nat} {oi : Oper} {v : Value} (hi : ops[i]? = some oi) (hs : Region.noSelect ops = true) (hl : lastB ops f = true) (hf : i ≠ f) : ∀ (n : Nat) (l : Array Bool) (a : Act) (w : World),
    (∀ j oj, ops[j]? = some oj → j ≠ i → l.getD j true = false → (∀ e ∈ oj.after, Region.binds .any e = true → e.on ≠ i) → oi.apart ops oj = true) → i ∈ Region.ready .any ops l → YieldsIf Tryz.prog ops S oi v a → S w →
    anyF (NoPanic Q) S f ops n (l.setIfInBounds i true) (a.put oi.dst v) w → anyF (NoPanic Q) S f ops (n + 1) l a w := by
  have sel := Region.noSelect_spec hs
  have hlt : i < ops.size := (Array.getElem?_eq_some_iff.1 hi).1
  intro n
  induction n with
  | zero =>
    intro l a w _ hr hy hS H
    refine ⟨fun e => absurd hr (by rw [e]; exact List.not_mem_nil), fun j hj => ?_⟩
    by_cases e : j = i
    · exact e ▸ hy.wpOp hi hS ⟨Or.inr hS, H⟩
    · have := ready_mono hj e
      rw [H.1] at this
      exact absurd this List.not_mem_nil
  | succ n ih =>
    intro l a w hfree hr hy hS H
    refine ⟨fun e => absurd hr (by rw [e]; exact List.not_mem_nil), fun j hj => ?_⟩
    by_cases e : j = i
    · exact e ▸ hy.wpOp hi hS ⟨Or.inr hS, H⟩
    obtain ⟨hun, oj, hoj, hall⟩ := mem_ready.1 hj
    have hnot : ∀ e ∈ oj.after, Region.binds .any e = true → e.on ≠ i := fun d hd hb he => by
      have h0 := (mem_ready.1 hr).1
      have h1 := hall d hd hb
      rw [he, Array.getD_eq_getD_getElem?] at h1
      rw [Array.getD_eq_getD_getElem?] at h0
      cases hx : l[i]? with
      | none => rw [hx] at h1; cases h1
      | some x => rw [hx] at h0 h1; exact absurd (h1.symm.trans h0) (by decide)
    have hjf : j ≠ f := fun ef => by
      obtain ⟨d, hd, hb, he⟩ := last_spec hl hlt hf (ef ▸ hoj)
      exact hnot d hd hb he
    refine wpOp_mono (fun a' w' h3 => ?_) (wpOp_putIf hoj (hfree j oj hoj e hun hnot) (fun cs b => sel i oi cs b hi) (fun cs b => sel j oj cs b hoj) (fun _ _ _ h => h) hy (H.2 j (ready_mono hj e)))
    have hS' : S w' := h3.2.1.resolve_left hjf
    refine ⟨h3.2.1, ih _ a' w' (fun k ok hk hki hku hno => hfree k ok hk hki ?_ hno) (ready_mono hr (Ne.symm e)) h3.1 hS' (by rw [Array.setIfInBounds_comm _ _ e]; exact h3.2.2)⟩
    by_cases hjk : j = k
    · exact hjk ▸ hun
    · rwa [getD_set_ne true hjk] at hku
end
theorem rg {id : Nat} {ops : Array Oper} {Q : Exit → Act → World → Prop} {a : Act} {w : World} {S : World → Prop} (f : Nat) (hS : S w.drew)
    (h : S w.drew → anyF (NoPanic Q) S f ops ops.size (Array.replicate ops.size false) a w.drew) : (Code.region id ops true).wp Tryz.prog Q a w :=
  wp_region_noPanic (wp_region_any (by kernel_rfl) (anyF_any _ _ _ _ (h hS)))
/-- operations that look, one behind the other -/
def Tks (ops : Array Oper) (S : World → Prop) : List Nat → Act → (Act → Prop) → Prop
  | [], a, k => k a
  | i :: is, a, k => ∃ v oi, ops[i]? = some oi ∧ Region.wanted oi (yielded ops a.tmps) = true ∧ (∀ w, S w → (execOp a.eval oi).run Tryz.prog w = .ok (.value v) w) ∧ Tks ops S is (a.put oi.dst v) k
def tksB (ops : Array Oper) (f : Nat) : List Nat → Array Bool → Bool
  | [], _ => true
  | i :: is, l => Region.noSelect ops && lastB ops f && i != f && Region.free .any ops l i && (Region.ready .any ops l).contains i && tksB ops f is (l.setIfInBounds i true)
def marks : List Nat → Array Bool → Array Bool
  | [], l => l
  | i :: is, l => marks is (l.setIfInBounds i true)
theorem tks {ops : Array Oper} {Q : Exit → Act → World → Prop} {w : World} {S : World → Prop} {f : Nat} (hS : S w) : ∀ (is : List Nat) {a : Act} {n : Nat} {l : Array Bool}, tksB ops f is l = true →
    Tks ops S is a (fun a' => anyF (NoPanic Q) S f ops n (marks is l) a' w) → anyF (NoPanic Q) S f ops (n + is.length) l a w
  | [], _, _, _, _, h => h
  | i :: is, a, n, l, hb, h => by
    obtain ⟨v, oi, ho, hw, hy, h⟩ := h
    unfold tksB at hb
    simp only [Bool.and_eq_true, bne_iff_ne] at hb
    obtain ⟨⟨⟨⟨⟨h1, h2⟩, h3⟩, h4⟩, h5⟩, h6⟩ := hb
    exact anyF_first ho h1 h2 h3 (n + is.length) l a w (fun j oj => Region.free_spec ho h4 j oj) (by simpa using h5) (Or.inl ⟨hw, hy⟩) hS (tks hS is h6 h)
/-- the one operation that comes up next -/
theorem rdy {ops : Array Oper} {Q : Exit → Act → World → Prop} {a : Act} {w : World} {S : World → Prop} {n f : Nat} {l : Array Bool} (i : Nat) {oi : Oper} (hr : Region.ready .any ops l = [i]) (ho : ops[i]? = some oi)
    (h : ∀ K' : Act → World → Prop, Shut (∀ a w, S w → (S w → anyF (NoPanic Q) S f ops n (l.setIfInBounds i true) a w) → K' a w) → if Region.wanted oi (yielded ops a.tmps) = true then Oper.wp Tryz.prog oi a w K' (NoPanic Q) else K' (a.put oi.dst undef) w) :
    anyF (NoPanic Q) S f ops (n + 1) l a w := by
  refine ⟨fun e => (by rw [hr] at e; cases e), fun j hj => ?_⟩
  rw [hr, List.mem_singleton] at hj
  subst hj
  exact wpOp_step ho fun K hK => h K fun a w hS h2 => hK a w ⟨Or.inr hS, h2 hS⟩
/-- the last one -/
theorem anyF_done {ops : Array Oper} {Q : Exit → Act → World → Prop} {S : World → Prop} {f : Nat} {l : Array Bool} {a : Act} {w : World} (hr : Region.ready .any ops l = []) (h : Q .normal a w) : ∀ n, anyF Q S f ops n l a w
  | 0 => ⟨hr, h⟩
  | _ + 1 => ⟨fun _ => h, fun i hi => by rw [hr] at hi; cases hi⟩
theorem rdl {ops : Array Oper} {Q : Exit → Act → World → Prop} {a : Act} {w : World} {S : World → Prop} {n f : Nat} {l : Array Bool} {oi : Oper} (hr : Region.ready .any ops l = [f]) (hd : Region.ready .any ops (l.setIfInBounds f true) = []) (ho : ops[f]? = some oi)
    (h : ∀ K' : Act → World → Prop, Shut (∀ a w, Q .normal a w → K' a w) → if Region.wanted oi (yielded ops a.tmps) = true then Oper.wp Tryz.prog oi a w K' (NoPanic Q) else K' (a.put oi.dst undef) w) :
    anyF (NoPanic Q) S f ops (n + 1) l a w := by
  refine ⟨fun e => (by rw [hr] at e; cases e), fun j hj => ?_⟩
  rw [hr, List.mem_singleton] at hj
  subst hj
  exact wpOp_step ho fun K hK => h K fun a w hq => hK a w ⟨Or.inl rfl, anyF_done hd (NoPanic.normal hq) _⟩
end Go.Proofs.YtbjacclfhgnffaaGreatDoor
/-
  The document's reader: level.
-/
namespace Go.Proofs.YtbjacclfhgnffaaGreatDoor
open Go.RowKit
open Tk (T4 bstr)

theorem rank_le (l : List UInt8) : rankT l ≤ 10 := by
  have h := rank_level l
  have := levelG_le l
  omega
set_option maxHeartbeats 8000000 in
set_option maxRecDepth 10000 in
theorem level_step {E n : Nat} (hah : FnB E 119 #[] (runR E n .ahead)) (hlv : ∀ m, m < n → ∀ low : Int, 0 ≤ low → FnB E 67 #[.int .i64 low] (runR E m (.level low.toNat))) (low : Int) (hlo : 0 ≤ low) : FnB E 67 #[.int .i64 low] (runR E (n + 1) (.level low.toNat)) := by
  intro A w r q v hA h hf
  have H : Hid (stepR E (runR E n) (.level low.toNat) r = some q) := Lib.hid hf
  clear hf
  have hlv' := fun m hm (k : Nat) => (show FnB E 67 #[.int .i64 ((k : Int) + 1)] (runR E m (.level (k + 1))) from hlv m hm ((k : Int) + 1) (by omega)); clear hlv
  have f0 := fldT0; have f1 := fldT1
  obtain ⟨p0, l0, m0, n0, o0, s0, z0, a0, rfl⟩ := h.parts
  have F := frN hA h; have R0 := rdN h
  clear hA h
  go_enter Tryz.func67, Tryz.ntmps67
  replace H := bnd H; obtain ⟨q1, h1, H⟩ := H
  go_wp2_with (go_at_call 119; refine (fbC hah F R0 h1).mono ?_)
  rintro e u ⟨p1, l1, m1, n1, o1, s1, z1, a1, rfl, R1, b⟩; replace F := frC F b; replace R0 := rdC R0 b; clear b
  have c := F.all
  clear R0; replace F := frR F R1; replace R1 := rdR R1
  go_wp2
  clear c
  go_loopg [] n (fun k wr => k ≤ n ∧ Lp E A w (fun rho => Hid (runR E k (.levelL low.toNat) rho = some q)) wr)
  case atStart => exact ⟨Nat.le_refl _, _, _, _, _, _, _, _, _, _, H, F, R1⟩
  clear F R1 H
  obtain ⟨hk, rho, p2, l2, m2, n2, o2, s2, z2, a2, H, F, R2⟩ := hrel
  cases gk with
  | zero => cases H.out
  | succ m =>
    have c := F.all
    by_cases i4 : okR rho = true
    · skip
      go_wp2_with (go_at_call 38; refine (okC R2 i4).mono ?_)
      rintro e u ⟨rfl, b⟩; replace F := frC F b; replace R2 := rdC R2 b; clear b
      clear c; have c := F.all
      go_wp2_with (go_at_call 68; refine (pkC R2).mono ?_)
      rintro e u ⟨k6, x6, y6, t6, rfl, T6, b⟩; replace F := frC F b; replace R2 := rdC R2 b; clear b
      clear c; have c := F.all
      by_cases i7 : (pk E rho.L).k = 4
      · skip
        have k7q := kdT T6 (z := 4) rfl i7
        go_wp2_with (go_at_call 68; refine (pkC R2).mono ?_)
        rintro e u ⟨k8, x8, y8, t8, rfl, T8, b⟩; replace F := frC F b; replace R2 := rdC R2 b; clear b
        clear c; have c := F.all
        go_wp2_with (go_at_call 120; refine (rkC T8 rfl _).mono ?_)
        rintro e u ⟨rfl, b⟩; replace F := frC F b; replace R2 := rdC R2 b; clear b
        clear c; have c := F.all
        by_cases i10 : low ≤ (rankT (pk E rho.L).t : Int)
        · skip
          have j10 : low.toNat ≤ rankT (pk E rho.L).t := by omega
          replace H := ifT H (by rw [i4, decide_eq_true i7, decide_eq_true j10]; rfl)
          have hr10 := rank_le (pk E rho.L).t
          go_wp2_with (go_at_call 68; refine (pkC R2).mono ?_)
          rintro e u ⟨k11, x11, y11, t11, rfl, T11, b⟩; replace F := frC F b; replace R2 := rdC R2 b; clear b
          clear c; have c := F.all
          have B12 := tbN F k11 y11 t11 x11; have N12 := B12.n
          replace F := frA F (.cells #[.int .i64 k11, .string x11, .int .i64 y11, .int .i64 t11] 82); replace R2 := rdA R2 (.cells #[.int .i64 k11, .string x11, .int .i64 y11, .int .i64 t11] 82)
          go_wp2
          replace F := frD F; replace B12 := tbD B12; replace R2 := rdD R2
          refine rg 7 (S := fun W => Q6 _ _ _ _ _ _ _ W ∧ Q4 _ _ _ _ _ W) ⟨F.held, B12.held⟩ fun hW => ?_
          refine tks hW [0, 2, 3] (n := 5) (by kernel_rfl) ?_
          iterate 3 (refine ⟨?_, _, rfl, rfl, fun W hW => ?_, ?_⟩; rotate_left; · (simp only [Q6, Q4] at hW; go_simp; (try with_reducible rfl)))
          (try simp only [Tks, marks, Act.put, List.setIfInBounds_toArray, List.set_cons_zero, List.set_cons_succ])
          refine rdy 1 (by kernel_rfl) rfl fun K hK => ?_
          go_simp
          refine (skC R2).mono ?_
          rintro e u ⟨p13, l13, m13, n13, o13, s13, z13, a13, rfl, R13, b⟩; replace F := frC F b; replace B12 := tbC B12 b; replace R2 := rdC R2 b; clear b
          clear c; have c := F.all; have cB12 := B12.all
          (try go_wp2_with fail)
          refine hK.out _ _ ⟨F.held, B12.held⟩ fun hW => ?_
          clear hK K
          (try simp only [Tks, marks, Act.put, List.setIfInBounds_toArray, List.set_cons_zero, List.set_cons_succ])
          refine rdy 4 (by kernel_rfl) rfl fun K hK => ?_
          go_simp
          refine (rkC T11 rfl _).mono ?_
          rintro e u ⟨rfl, b⟩; replace F := frC F b; replace B12 := tbC B12 b; replace R2 := rdC R2 b; replace R13 := rdC R13 b; clear b
          clear c; have c := F.all; clear cB12; have cB12 := B12.all
          (try go_wp2_with fail)
          refine hK.out _ _ ⟨F.held, B12.held⟩ fun hW => ?_
          clear hK K
          (try simp only [Tks, marks, Act.put, List.setIfInBounds_toArray, List.set_cons_zero, List.set_cons_succ])
          refine tks hW [5] (n := 2) (by kernel_rfl) ?_
          iterate 1 (refine ⟨?_, _, rfl, rfl, fun W hW => ?_, ?_⟩; rotate_left; · (simp only [Q6, Q4] at hW; go_simp; (try with_reducible rfl)))
          (try simp only [Tks, marks, Act.put, List.setIfInBounds_toArray, List.set_cons_zero, List.set_cons_succ])
          replace H := bnd H; obtain ⟨q15, h15, H⟩ := H
          refine rdy 6 (by kernel_rfl) rfl fun K hK => ?_
          go_simp
          rw [show IntKind.i64.wrap ((rankT (pk E rho.L).t : Int) + 1) = (rankT (pk E rho.L).t : Int) + 1 from IntWalk.i64_in _ (by omega)]
          refine (fbC (hlv' m (by omega) (rankT (pk E rho.L).t)) F R13 h15).mono ?_
          rintro e u ⟨p15, l15, m15, n15, o15, s15, z15, a15, rfl, R15, b⟩; replace F := frC F b; clear R13; replace B12 := tbC B12 b; replace R2 := rdC R2 b; clear b
          clear c; have c := F.all; clear cB12; have cB12 := B12.all
          (try go_wp2_with fail)
          refine hK.out _ _ ⟨F.held, B12.held⟩ fun hW => ?_
          clear hK K
          (try simp only [Tks, marks, Act.put, List.setIfInBounds_toArray, List.set_cons_zero, List.set_cons_succ])
          refine rdl (by kernel_rfl) (by kernel_rfl) rfl fun K hK => ?_
          go_simp
          replace B12 := tbR B12 R15; clear R2; replace F := frR F R15; replace R15 := rdR R15
          refine hK.out _ _ ?_
          clear hK K
          go_wp2_with (go_at_call 120; refine (rkC T11 rfl _).mono ?_)
          rintro e u ⟨rfl, b⟩; replace F := frC F b; replace B12 := tbC B12 b; replace R15 := rdC R15 b; clear b
          clear c; have c := F.all; clear cB12; have cB12 := B12.all
          by_cases i17 : rankT (pk E rho.L).t < 3
          · skip
            rw [if_pos i17] at H
            replace i17 : decide ((rankT (pk E rho.L).t : Int) < 3) = true := by simp; omega
            go_wp2
            replace F := frD F; replace B12 := tbD B12; replace R15 := rdD R15
            refine rg 12 (S := fun W => Q6 _ _ _ _ _ _ _ W ∧ Q4 _ _ _ _ _ W) ⟨F.held, B12.held⟩ fun hW => ?_
            refine tks hW [0, 1, 2, 3, 4, 5, 6, 7, 8, 9] (n := 3) (by kernel_rfl) ?_
            iterate 10 (refine ⟨?_, _, rfl, rfl, fun W hW => ?_, ?_⟩; rotate_left; · (simp only [Q6, Q4] at hW; go_simp; (try with_reducible rfl)))
            (try simp only [Tks, marks, Act.put, List.setIfInBounds_toArray, List.set_cons_zero, List.set_cons_succ])
            refine rdy 10 (by kernel_rfl) rfl fun K hK => ?_
            go_simp
            refine (twoC F _ _).mono ?_
            rintro e u ⟨p18, rfl, L18, b⟩; replace F := frC F b; replace B12 := tbC B12 b; replace R15 := rdC R15 b; clear b
            clear c; have c := F.all; clear cB12; have cB12 := B12.all
            (try go_wp2_with fail)
            refine hK.out _ _ ⟨F.held, B12.held⟩ fun hW => ?_
            clear hK K
            (try simp only [Tks, marks, Act.put, List.setIfInBounds_toArray, List.set_cons_zero, List.set_cons_succ])
            replace H := bnd H; obtain ⟨q19, h19, H⟩ := H
            refine rdy 11 (by kernel_rfl) rfl fun K hK => ?_
            go_simp
            refine (adC F R15 L18 37 0 0 _ x11 (tx_ T11) rfl (ta_ T11) h19).mono ?_
            rintro e u ⟨p19, l19, m19, n19, o19, s19, z19, a19, rfl, R19, b⟩; replace F := frC F b; clear L18; replace B12 := tbC B12 b; replace R15 := rdC R15 b; clear b
            clear c; have c := F.all; clear cB12; have cB12 := B12.all
            (try go_wp2_with fail)
            refine hK.out _ _ ⟨F.held, B12.held⟩ fun hW => ?_
            clear hK K
            (try simp only [Tks, marks, Act.put, List.setIfInBounds_toArray, List.set_cons_zero, List.set_cons_succ])
            refine rdl (by kernel_rfl) (by kernel_rfl) rfl fun K hK => ?_
            go_simp
            replace B12 := tbR B12 R19; clear R15; replace F := frR F R19; replace R19 := rdR R19
            refine hK.out _ _ ?_
            clear hK K
            go_wp2
            go_roundg m
            case rel => exact ⟨by omega, _, _, _, _, _, _, _, _, _, H, F, R19⟩
            case measure => omega
          · skip
            rw [if_neg i17] at H
            replace i17 : decide ((rankT (pk E rho.L).t : Int) < 3) = false := by simp; omega
            go_wp2
            replace F := frD F; replace B12 := tbD B12; replace R15 := rdD R15
            refine rg 12 (S := fun W => Q6 _ _ _ _ _ _ _ W ∧ Q4 _ _ _ _ _ W) ⟨F.held, B12.held⟩ fun hW => ?_
            refine tks hW [0, 1, 2, 3, 4, 5, 6, 7, 8, 9] (n := 3) (by kernel_rfl) ?_
            iterate 10 (refine ⟨?_, _, rfl, rfl, fun W hW => ?_, ?_⟩; rotate_left; · (simp only [Q6, Q4] at hW; go_simp; (try with_reducible rfl)))
            (try simp only [Tks, marks, Act.put, List.setIfInBounds_toArray, List.set_cons_zero, List.set_cons_succ])
            refine rdy 10 (by kernel_rfl) rfl fun K hK => ?_
            go_simp
            refine (twoC F _ _).mono ?_
            rintro e u ⟨p18, rfl, L18, b⟩; replace F := frC F b; replace B12 := tbC B12 b; replace R15 := rdC R15 b; clear b
            clear c; have c := F.all; clear cB12; have cB12 := B12.all
            (try go_wp2_with fail)
            refine hK.out _ _ ⟨F.held, B12.held⟩ fun hW => ?_
            clear hK K
            (try simp only [Tks, marks, Act.put, List.setIfInBounds_toArray, List.set_cons_zero, List.set_cons_succ])
            replace H := bnd H; obtain ⟨q19, h19, H⟩ := H
            refine rdy 11 (by kernel_rfl) rfl fun K hK => ?_
            go_simp
            refine (adC F R15 L18 36 0 0 _ x11 (tx_ T11) rfl (ta_ T11) h19).mono ?_
            rintro e u ⟨p19, l19, m19, n19, o19, s19, z19, a19, rfl, R19, b⟩; replace F := frC F b; clear L18; replace B12 := tbC B12 b; replace R15 := rdC R15 b; clear b
            clear c; have c := F.all; clear cB12; have cB12 := B12.all
            (try go_wp2_with fail)
            refine hK.out _ _ ⟨F.held, B12.held⟩ fun hW => ?_
            clear hK K
            (try simp only [Tks, marks, Act.put, List.setIfInBounds_toArray, List.set_cons_zero, List.set_cons_succ])
            refine rdl (by kernel_rfl) (by kernel_rfl) rfl fun K hK => ?_
            go_simp
            replace B12 := tbR B12 R19; clear R15; replace F := frR F R19; replace R19 := rdR R19
            refine hK.out _ _ ?_
            clear hK K
            go_wp2
            go_roundg m
            case rel => exact ⟨by omega, _, _, _, _, _, _, _, _, _, H, F, R19⟩
            case measure => omega
        · skip
          have j10 : ¬ low.toNat ≤ rankT (pk E rho.L).t := by omega
          replace H := ifF H (by rw [i4, decide_eq_true i7, decide_eq_false j10]; rfl)
          replace i10 : decide (low ≤ (rankT (pk E rho.L).t : Int)) = false := decide_eq_false i10
          replace F := frS F R2; replace R2 := rdS R2
          obtain rfl := sm H
          go_wp2
          refine R2.fin F ?_ rfl
          simp [results, Tryz.results67, go_sem, st6, c]
      · skip
        have k7q := kdF T6 (z := 4) rfl i7
        replace H := ifF H (by rw [i4, decide_eq_false i7]; rfl)
        replace F := frS F R2; replace R2 := rdS R2
        obtain rfl := sm H
        go_wp2
        refine R2.fin F ?_ rfl
        simp [results, Tryz.results67, go_sem, st6, c]
    · skip
      replace i4 := bfalse i4
      replace H := ifF H (by rw [i4]; rfl)
      go_wp2_with (go_at_call 38; refine (okC R2 i4).mono ?_)
      rintro e u ⟨rfl, b⟩; replace F := frC F b; replace R2 := rdC R2 b; clear b
      clear c; have c := F.all
      replace F := frS F R2; replace R2 := rdS R2
      obtain rfl := sm H
      go_wp2
      refine R2.fin F ?_ rfl
      simp [results, Tryz.results67, go_sem, st6, c]
end Go.Proofs.YtbjacclfhgnffaaGreatDoor
