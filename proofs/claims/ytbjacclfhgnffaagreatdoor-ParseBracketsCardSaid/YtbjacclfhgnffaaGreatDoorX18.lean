/-
  Joined texts of this claim: Qn, Qo, Va, Qp, Qq.
-/
import Derived.Test.YtbjacclfhgnffaaGreatDoorX17
import Derived.Test.YtbjacclfhgnffaaGreatDoorX15
import Derived.Deep.RegionWith
import Derived.Test.YtbjacclfhgnffaaGreatDoorX08
import Derived.Deep.RegionHeld3
import Derived.Deep.LoopGhost
set_option linter.unusedVariables false
set_option linter.unusedSimpArgs false
/-
  The contracts of extend and build.
-/
namespace Go.Proofs.YtbjacclfhgnffaaGreatDoor
open Go.RowKit
open Tk (T4 bstr)
open Tr (Nd Blk KidsAt)

theorem did_ret {B T E : Nat} {w w' : World} {r : R3} {e : Ending} (h : Did B T E w r e w') (hr : r ≠ .out) : ∃ v, e = .returned v ∧ Did B T E w r (.returned v) w' := by
  cases r with
  | out => exact absurd rfl hr
  | ok s => obtain ⟨rfl, h2⟩ := h; exact ⟨_, rfl, rfl, h2⟩
  | bad c a => obtain ⟨rfl, h2⟩ := h; exact ⟨_, rfl, rfl, h2⟩
theorem did_ext {B T E : Nat} {w w1 w2 : World} {r : R3} {e : Ending} (h : Did B T E w1 r e w2) (hx : Ext B w w1) : Did B T E w r e w2 := by
  cases r with
  | out => trivial
  | ok s => exact ⟨h.1, hx.trans h.2.1, h.2.2⟩
  | bad c a => exact ⟨h.1, hx.trans h.2⟩
theorem not_own_new {B : Nat} {w : World} (hB : ∃ T E s, Ps B T E w s) : ¬ Own B w w.heap.size := by
  obtain ⟨T, E, s, vT, vN, vL, ns, h⟩ := hB
  intro ho
  rcases (h.own_cases _).1 ho with h1 | h1 | h1
  · have := h.lt; omega
  · have := (h.nod.lt _ h1).2; omega
  · have := (h.loo.lt _ h1).2; omega
theorem Ext.notOwn {B : Nat} {w w' : World} (h : Ext B w w') {g : Nat} (hg : g < w.heap.size) (hn : ¬ Own B w g) : ¬ Own B w' g := fun ho => (h.own g ho).elim hn (fun hle => by omega)
theorem Ext.blk {B g t : Nat} {cs : Array Value} {w w' : World} (h : Ext B w w') (hb : Blk w g t cs) (hn : ¬ Own B w g) : Blk w' g t cs := (h.block g hb.lt hn).trans hb
theorem Steps.ext {B T E : Nat} {w w' : World} {p : Option Addr} {vs : List Value} {fs : List F3} (h : Steps B T E w p vs fs) (hx : Ext B w w') : Steps B T E w' p vs fs := by
  obtain ⟨h1, h2, h3, h4⟩ := h
  refine ⟨h1, h2, fun h0 => ?_, fun j a b => (h4 j a b).ext hx⟩
  obtain ⟨g, hp, hg, hn, hc⟩ := h3 h0
  exact ⟨g, hp, Nat.lt_of_lt_of_le hg hx.size, hx.notOwn hg hn, fun j hj => (hx.cell (p := ⟨g, j, none⟩) hg hn).trans (hc j hj)⟩
theorem own_alloc {B : Nat} {w : World} (hB : B < w.heap.size) (o : Obj) (g : Nat) : Own B (w.alloc o) g ↔ Own B w g := own_same (Below.heap_alloc _ _ _ hB) g
theorem box6 {w : World} {g : Nat} {t : TypeId} {x0 x1 x2 x3 x4 x5 : Value} (h : Blk w g t #[x0, x1, x2, x3, x4, x5]) :
    (w.cell? ⟨g, 0, none⟩ = some x0 ∧ w.cell? ⟨g, 1, none⟩ = some x1 ∧ w.cell? ⟨g, 2, none⟩ = some x2 ∧ w.cell? ⟨g, 3, none⟩ = some x3 ∧ w.cell? ⟨g, 4, none⟩ = some x4 ∧ w.cell? ⟨g, 5, none⟩ = some x5) ∧ g < w.heap.size :=
  ⟨⟨by rw [h.cell]; rfl, by rw [h.cell]; rfl, by rw [h.cell]; rfl, by rw [h.cell]; rfl, by rw [h.cell]; rfl, by rw [h.cell]; rfl⟩, h.lt⟩

set_option maxHeartbeats 4000000 in
set_option maxRecDepth 100000 in
theorem extend_any {B T E : Nat} {w : World} {s : S3} {p : Option Addr} {cap : Nat} {vs : List Value} {fs : List F3} (h : Ps B T E w s) (hS : Steps B T E w p vs fs) (x : Mn) (hx : x.c = []) (mark : Nat) (hr : extF mark x fs s ≠ .out) :
    Calls Tryz.prog 60 #[.pointer (some ⟨B, 2, none⟩), .int .i64 mark, nodeV x, .slice p vs.length cap] w (Did B T E w (extF mark x fs s)) := by
  obtain ⟨Q, hQ⟩ : ∃ Q : Ending → World → Prop, Q = Did B T E w (extF mark x fs s) := ⟨_, rfl⟩
  rw [← hQ]
  have HQ := Lib.hid hQ
  clear hQ
  have hB := h.lt
  unfold extF at hr HQ
  have hne : seqF fs s ≠ .out := fun e => hr (by rw [e]; rfl)
  obtain ⟨y, hy⟩ : ∃ y, y = bstr x.t := ⟨_, rfl⟩
  have Hy := Lib.hid hy
  have Hx := Lib.hid hx
  have hno := not_own_new ⟨T, E, s, h⟩
  have hn1 : ¬ Own B (w.alloc (.cells #[.int .i64 x.k, .string y, .int .i64 x.n, .int .i64 x.z, .slice none 0 0, .int .i64 x.a] 36)) w.heap.size := fun ho => hno ((own_alloc hB _ _).1 ho)
  have hE1 : Ext B w (w.alloc (.cells #[.int .i64 x.k, .string y, .int .i64 x.n, .int .i64 x.z, .slice none 0 0, .int .i64 x.a] 36)) := (Ext.refl _ _).alloc hB _
  have hin := inTurn_any (cap := cap) (h.alloc (.cells #[.int .i64 x.k, .string y, .int .i64 x.n, .int .i64 x.z, .slice none 0 0, .int .i64 x.a] 36)) (hS.ext hE1) hne
  have HR := Lib.hid hr
  have HE1 := Lib.hid hE1
  have HN1 := Lib.hid hn1
  unfold nodeV
  rw [← hy]
  clear hy hx hr hne hS h hno hE1 hn1
  generalize vs.length = n at *
  go_enter Tryz.func60, Tryz.ntmps60
  go_wp2_with (go_at_call 27; refine hin.mono ?_)
  intro e w2 hd
  cases hf : seqF fs s with
  | out => exact absurd (by rw [hf]; rfl) HR.out
  | bad c a =>
    rw [hf] at hd
    obtain ⟨rfl, hx2⟩ := hd
    have HX2 := Lib.hid (HE1.out.trans hx2)
    have Hf := Lib.hid hf
    clear hin hf hx2
    unfold errV
    go_wp2
    rw [HQ.out, Hf.out]
    exact ⟨rfl, HX2.out⟩
  | ok s2 =>
    rw [hf] at hd
    obtain ⟨rfl, hx2, hp2⟩ := hd
    have HX2 := Lib.hid (HE1.out.trans hx2)
    have Hf := Lib.hid hf
    have hbx := hx2.blk (heap_alloc_new w _) HN1.out
    obtain ⟨⟨c0, c1, c2, c3, c4, c5⟩, lb⟩ := box6 hbx
    have hra : addF x mark s2 ≠ .out := fun e => HR.out (by rw [Hf.out]; exact e)
    have hadd := add_any hp2 x Hx.out mark hra
    unfold nodeV at hadd
    rw [← Hy.out] at hadd
    clear hin hf hx2 hp2 hbx hra
    go_wp2_with (go_at_call 109; refine hadd.mono ?_)
    rintro e w3 ⟨rfl, s3, hs3, hx3, hp3⟩
    have HX3 := Lib.hid (HX2.out.trans hx3)
    have HP3 := Lib.hid hp3
    have Hs3 := Lib.hid hs3
    clear hadd hs3 hx3 hp3
    go_wp2
    rw [HQ.out, Hf.out]
    show Did B T E w (addF x mark s2) _ _
    rw [Hs3.out]
    exact ⟨rfl, HX3.out, HP3.out⟩

set_option maxHeartbeats 4000000 in
set_option maxRecDepth 100000 in
theorem build_any {B T E : Nat} {w : World} {s : S3} {p : Option Addr} {cap : Nat} {vs : List Value} {fs : List F3} (h : Ps B T E w s) (hS : Steps B T E w p vs fs) (x : Mn) (hx : x.c = []) (hr : buildF x fs s ≠ .out) :
    Calls Tryz.prog 76 #[.pointer (some ⟨B, 2, none⟩), nodeV x, .slice p vs.length cap] w (Did B T E w (buildF x fs s)) := by
  obtain ⟨Q, hQ⟩ : ∃ Q : Ending → World → Prop, Q = Did B T E w (buildF x fs s) := ⟨_, rfl⟩
  rw [← hQ]
  have HQ := Lib.hid hQ
  clear hQ
  have hB := h.lt
  unfold buildF at hr HQ
  obtain ⟨y, hy⟩ : ∃ y, y = bstr x.t := ⟨_, rfl⟩
  have hE1 : Ext B w (w.alloc (.cells #[.int .i64 x.k, .string y, .int .i64 x.n, .int .i64 x.z, .slice none 0 0, .int .i64 x.a] 36)).drew := ((Ext.refl _ _).alloc hB _).drew
  have hp1 := (h.alloc (.cells #[.int .i64 x.k, .string y, .int .i64 x.n, .int .i64 x.z, .slice none 0 0, .int .i64 x.a] 36)).drew
  have hmk := mark_any hp1
  have hext := extend_any (cap := cap) hp1 (hS.ext hE1) x hx s.O.length hr
  have HE1 := Lib.hid hE1
  have HR := Lib.hid hr
  unfold nodeV at hext ⊢
  rw [← hy] at hext ⊢
  clear hy hx hS h hE1 hp1 hr
  generalize vs.length = n at *
  generalize extF s.O.length x fs s = r at *
  generalize s.O.length = mk at *
  go_enter Tryz.func76, Tryz.ntmps76
  go_wp2
  go_region_with (first | (go_at_call 57; refine hmk.mono ?_; rintro e w' ⟨rfl, rfl⟩) | (go_at_call 60; refine hext.mono ?_; intro e w2 hd; obtain ⟨v, rfl, hd⟩ := did_ret hd HR.out))
  all_goals
    go_wp2
    (try go_ret)
    rw [HQ.out]
    exact did_ext hd HE1.out
end Go.Proofs.YtbjacclfhgnffaaGreatDoor
/-
  What the walks of the parser's own functions share: steps, rows of steps, and the calls that are to be shown.
-/
namespace Go.Proofs.YtbjacclfhgnffaaGreatDoor
open Go.RowKit
open Tk (T4 bstr)
open Tr (Nd Blk KidsAt)

/-- behind W0, with the parser in the state s -/
def Now (B T E : Nat) (s : S3) (W0 W : World) : Prop := Ext B W0 W ∧ Ps B T E W s
theorem Now.alloc {B T E : Nat} {s : S3} {W0 W : World} (h : Now B T E s W0 W) (o : Obj) : Now B T E s W0 (W.alloc o) :=
  ⟨h.1.trans ((Ext.refl _ _).alloc h.2.lt _), h.2.alloc _⟩
theorem Now.refl {B T E : Nat} {s : S3} {W : World} (h : Ps B T E W s) : Now B T E s W W := ⟨Ext.refl _ _, h⟩
theorem enters77 (args : Array Value) (w : World) : (callFunc 110 args).run Tryz.prog w = .ok (.enter 110 args) w := by kernel_rfl
theorem enters21 (args : Array Value) (w : World) : (callFunc 29 args).run Tryz.prog w = .ok (.enter 29 args) w := by kernel_rfl
theorem enters71 (args : Array Value) (w : World) : (callFunc 104 args).run Tryz.prog w = .ok (.enter 104 args) w := by kernel_rfl
theorem enters75 (args : Array Value) (w : World) : (callFunc 108 args).run Tryz.prog w = .ok (.enter 108 args) w := by kernel_rfl
theorem enters163 (args : Array Value) (w : World) : (callFunc 231 args).run Tryz.prog w = .ok (.enter 231 args) w := by kernel_rfl
/-- what word gives -/
theorem word_now {B T E : Nat} {s : S3} {W0 W : World} (h : Now B T E s W0 W) (x : ByteArray) :
    Calls Tryz.prog 61 #[.pointer (some ⟨B, 0, none⟩), .string x] W fun e w' => ∃ g1 g2, e = .returned (.func (.func 110) #[] #[.pointer (some ⟨g1, 0, none⟩), .pointer (some ⟨g2, 0, none⟩)]) ∧
      Now B T E s W0 w' ∧ Ext B W w' ∧ StepV B T E w' (.func (.func 110) #[] #[.pointer (some ⟨g1, 0, none⟩), .pointer (some ⟨g2, 0, none⟩)]) (wordF E x.data.toList) := by
  refine (word_any x W).mono fun e w' ⟨he, hw⟩ => ⟨_, _, he, ?_⟩
  have hB := h.2.lt
  have hE : Ext B W w' := by rw [hw]; exact ((Ext.refl _ _).alloc hB _).alloc hB _
  have hP : Ps B T E w' s := by rw [hw]; exact (h.2.alloc _).alloc _
  have k1 : Blk w' W.heap.size 84 #[.pointer (some ⟨B, 0, none⟩)] := by rw [hw]; exact (Blk.new _ _ _).alloc _
  have k2 : Blk w' (W.heap.size + 1) 9 #[.string x] := by
    rw [hw]
    have := Blk.new (W.alloc (.cells #[.pointer (some ⟨B, 0, none⟩)] 84)) 9 #[.string x]
    rwa [World.size_alloc] at this
  have n1 : ¬ Own B w' W.heap.size := fun ho => (hE.own _ ho).elim (not_own_new ⟨T, E, s, h.2⟩) (fun _ => by
    have h1 := (own_same (B := B) (w := W) (w' := w') (by rw [hw, Below.heap_alloc _ _ _ (by simp; omega), Below.heap_alloc _ _ _ hB]) W.heap.size).1 ho
    exact not_own_new ⟨T, E, s, h.2⟩ h1)
  have n2 : ¬ Own B w' (W.heap.size + 1) := fun ho => by
    have h1 := (own_same (B := B) (w := W) (w' := w') (by rw [hw, Below.heap_alloc _ _ _ (by simp; omega), Below.heap_alloc _ _ _ hB]) (W.heap.size + 1)).1 ho
    obtain ⟨vT, vN, vL, ns, hp⟩ := h.2
    rcases (hp.own_cases _).1 h1 with h2 | h2 | h2
    · omega
    · have := (hp.nod.lt _ h2).2; omega
    · have := (hp.loo.lt _ h2).2; omega
  refine ⟨⟨h.1.trans hE, hP⟩, hE, 110, _, _, rfl, enters77, fun w s1 hx hp _ => ?_⟩
  have c1 := (hx.blk k1 n1).cell 0
  have c2 := (hx.blk k2 n2).cell 0
  exact wordc_any hp W.heap.size (W.heap.size + 1) x c1 c2 (Nat.lt_of_lt_of_le k1.lt hx.size) (hx.notOwn k1.lt n1)

/-- a row of steps that was just laid -/
theorem steps_new {B T E : Nat} {s : S3} {W0 W : World} (h : Now B T E s W0 W) (vs : List Value) (fs : List F3) (hl : vs.length = fs.length) (hm : vs.length ≤ 1000) (hs : ∀ j, (h1 : j < vs.length) → (h2 : j < fs.length) → StepV B T E W vs[j] fs[j]) (t : TypeId) :
    Steps B T E (W.alloc (.cells vs.toArray t)) (some ⟨W.heap.size, 0, none⟩) vs fs := by
  have hE : Ext B W (W.alloc (.cells vs.toArray t)) := (Ext.refl _ _).alloc h.2.lt _
  refine ⟨hl, hm, fun _ => ⟨W.heap.size, rfl, by simp, fun ho => not_own_new ⟨T, E, s, h.2⟩ ((own_alloc h.2.lt _ _).1 ho), fun j hj => ?_⟩, fun j h1 h2 => (hs j h1 h2).ext hE⟩
  rw [(Blk.new W t vs.toArray).cell]
  simp [hj]
/-- what a call of extend, or of build, or of inTurn gives over a row that was just laid -/
def Ends (B T E : Nat) (W0 : World) (r : R3) (e : Ending) (w' : World) : Prop := ∃ v, e = .returned v ∧ Did B T E W0 r (.returned v) w' ∧ Ext B W0 w'
theorem did_x {B T E : Nat} {w w' : World} {r : R3} {e : Ending} (h : Did B T E w r e w') (hr : r ≠ .out) : Ext B w w' := by
  cases r with
  | out => exact absurd rfl hr
  | ok s => exact h.2.1
  | bad c a => exact h.2
theorem ends_of {B T E : Nat} {W0 W w' : World} {r : R3} {e : Ending} (h : Did B T E W r e w') (hr : r ≠ .out) (hx : Ext B W0 W) : Ends B T E W0 r e w' := by
  obtain ⟨v, rfl, hd⟩ := did_ret h hr
  exact ⟨v, rfl, did_ext hd hx, hx.trans (did_x h hr)⟩
theorem build_now {B T E : Nat} {s : S3} {W0 W : World} (h : Now B T E s W0 W) (vs : List Value) (fs : List F3) (hl : vs.length = fs.length) (hm : vs.length ≤ 1000) (hs : ∀ j, (h1 : j < vs.length) → (h2 : j < fs.length) → StepV B T E W vs[j] fs[j]) (x : Mn) (hx : x.c = []) (hr : buildF x fs s ≠ .out) (t : TypeId) :
    Calls Tryz.prog 76 #[.pointer (some ⟨B, 2, none⟩), nodeV x, .slice (some ⟨W.heap.size, 0, none⟩) vs.length vs.length] (W.alloc (.cells vs.toArray t)) (Ends B T E W0 (buildF x fs s)) :=
  (build_any (h.alloc _).2 (steps_new h vs fs hl hm hs t) x hx hr).mono fun e w' hd => ends_of hd hr (h.alloc _).1
theorem extend_now {B T E : Nat} {s : S3} {W0 W : World} (h : Now B T E s W0 W) (vs : List Value) (fs : List F3) (hl : vs.length = fs.length) (hm : vs.length ≤ 1000) (hs : ∀ j, (h1 : j < vs.length) → (h2 : j < fs.length) → StepV B T E W vs[j] fs[j]) (x : Mn) (hx : x.c = []) (mark : Nat) (hr : extF mark x fs s ≠ .out) (t : TypeId) :
    Calls Tryz.prog 60 #[.pointer (some ⟨B, 2, none⟩), .int .i64 mark, nodeV x, .slice (some ⟨W.heap.size, 0, none⟩) vs.length vs.length] (W.alloc (.cells vs.toArray t)) (Ends B T E W0 (extF mark x fs s)) :=
  (extend_any (h.alloc _).2 (steps_new h vs fs hl hm hs t) x hx mark hr).mono fun e w' hd => ends_of hd hr (h.alloc _).1
theorem turn_now {B T E : Nat} {s : S3} {W0 W : World} (h : Now B T E s W0 W) (vs : List Value) (fs : List F3) (hl : vs.length = fs.length) (hm : vs.length ≤ 1000) (hs : ∀ j, (h1 : j < vs.length) → (h2 : j < fs.length) → StepV B T E W vs[j] fs[j]) (hr : seqF fs s ≠ .out) (t : TypeId) :
    Calls Tryz.prog 27 #[.slice (some ⟨W.heap.size, 0, none⟩) vs.length vs.length] (W.alloc (.cells vs.toArray t)) (Ends B T E W0 (seqF fs s)) :=
  (inTurn_any (h.alloc _).2 (steps_new h vs fs hl hm hs t) hr).mono fun e w' hd => ends_of hd hr (h.alloc _).1
theorem step1 {B T E : Nat} {W : World} {v1 : Value} {f1 : F3} (h1 : StepV B T E W v1 f1) : ∀ j, (a : j < [v1].length) → (b : j < [f1].length) → StepV B T E W [v1][j] [f1][j] := fun j a b => by
  match j, a, b with
  | 0, _, _ => exact h1
theorem step2 {B T E : Nat} {W : World} {v1 v2 : Value} {f1 f2 : F3} (h1 : StepV B T E W v1 f1) (h2 : StepV B T E W v2 f2) : ∀ j, (a : j < [v1, v2].length) → (b : j < [f1, f2].length) → StepV B T E W [v1, v2][j] [f1, f2][j] := fun j a b => by
  match j, a, b with
  | 0, _, _ => exact h1
  | 1, _, _ => exact h2
theorem step3 {B T E : Nat} {W : World} {v1 v2 v3 : Value} {f1 f2 f3 : F3} (h1 : StepV B T E W v1 f1) (h2 : StepV B T E W v2 f2) (h3 : StepV B T E W v3 f3) : ∀ j, (a : j < [v1, v2, v3].length) → (b : j < [f1, f2, f3].length) → StepV B T E W [v1, v2, v3][j] [f1, f2, f3][j] := fun j a b => by
  match j, a, b with
  | 0, _, _ => exact h1
  | 1, _, _ => exact h2
  | 2, _, _ => exact h3
theorem step4 {B T E : Nat} {W : World} {v1 v2 v3 v4 : Value} {f1 f2 f3 f4 : F3} (h1 : StepV B T E W v1 f1) (h2 : StepV B T E W v2 f2) (h3 : StepV B T E W v3 f3) (h4 : StepV B T E W v4 f4) : ∀ j, (a : j < [v1, v2, v3, v4].length) → (b : j < [f1, f2, f3, f4].length) → StepV B T E W [v1, v2, v3, v4][j] [f1, f2, f3, f4][j] := fun j a b => by
  match j, a, b with
  | 0, _, _ => exact h1
  | 1, _, _ => exact h2
  | 2, _, _ => exact h3
  | 3, _, _ => exact h4

/-- the calls of the parser's own functions, for so many steps of the plain parser -/
structure CallJ (B T E : Nat) (n : Nat) : Prop where
  expr : ∀ w s, Ps B T E w s → runJ E n .expr s ≠ .out → Calls Tryz.prog 29 #[.pointer (some ⟨B, 0, none⟩)] w (Did B T E w (runJ E n .expr s))
  pairs : ∀ (low : Nat) w s, Ps B T E w s → runJ E n (.pairs low) s ≠ .out → Calls Tryz.prog 58 #[.pointer (some ⟨B, 0, none⟩), .int .i64 low] w (Did B T E w (runJ E n (.pairs low) s))
  prefixed : ∀ w s, Ps B T E w s → runJ E n .prefixed s ≠ .out → Calls Tryz.prog 104 #[.pointer (some ⟨B, 0, none⟩)] w (Did B T E w (runJ E n .prefixed s))
  postfixed : ∀ w s, Ps B T E w s → runJ E n .postfixed s ≠ .out → Calls Tryz.prog 160 #[.pointer (some ⟨B, 0, none⟩)] w (Did B T E w (runJ E n .postfixed s))
  primary : ∀ w s, Ps B T E w s → runJ E n .primary s ≠ .out → Calls Tryz.prog 198 #[.pointer (some ⟨B, 0, none⟩)] w (Did B T E w (runJ E n .primary s))
theorem stepExpr {B T E n : Nat} (h : CallJ B T E n) (w : World) : StepV B T E w (.func (.func 29) #[.pointer (some ⟨B, 0, none⟩)] #[]) (runJ E n .expr) :=
  ⟨29, _, _, rfl, enters21, fun w' s _ hp hr => h.expr w' s hp hr⟩
theorem stepPrefixed {B T E n : Nat} (h : CallJ B T E n) (w : World) : StepV B T E w (.func (.func 104) #[.pointer (some ⟨B, 0, none⟩)] #[]) (runJ E n .prefixed) :=
  ⟨104, _, _, rfl, enters71, fun w' s _ hp hr => h.prefixed w' s hp hr⟩
end Go.Proofs.YtbjacclfhgnffaaGreatDoor
/-
  The contract of inTurn for steps each of which leads from what holds ahead of it to what holds behind it.
-/
namespace Go.Proofs.YtbjacclfhgnffaaGreatDoor
open Go.RowKit
open Tk (T4 bstr)
open Tr (Nd Blk KidsAt)

/-- what a step does that leads to what holds behind it -/
def DidI (B : Nat) (I : S3 → World → Prop) (w : World) : R3 → Ending → World → Prop
  | .ok s, e, w' => e = .returned .nilIface ∧ Ext B w w' ∧ I s w'
  | .bad c a, e, w' => e = .returned (errV c a) ∧ Ext B w w'
  | .out, _, _ => True
/-- a function value that does what f does, from what holds ahead of it to what holds behind it -/
def StepI (B : Nat) (I J : S3 → World → Prop) (w0 : World) (v : Value) (f : F3) : Prop :=
  ∃ id bound caps, v = .func (.func id) bound caps ∧ (∀ args w, (callFunc id args).run Tryz.prog w = .ok (.enter id args) w) ∧ ∀ w s, Ext B w0 w → I s w → f s ≠ .out → Calls Tryz.prog id (bound ++ caps) w (DidI B J w (f s))
theorem StepI.ext {B : Nat} {I J : S3 → World → Prop} {w0 w1 : World} {v : Value} {f : F3} (h : StepI B I J w0 v f) (hx : Ext B w0 w1) : StepI B I J w1 v f := by
  obtain ⟨id, bound, caps, hv, he, h⟩ := h
  exact ⟨id, bound, caps, hv, he, fun w s h1 h2 h3 => h w s (hx.trans h1) h2 h3⟩
theorem StepI.of {B T E : Nat} {w0 : World} {v : Value} {f : F3} (h : StepV B T E w0 v f) : StepI B (fun s w => Ps B T E w s) (fun s w => Ps B T E w s) w0 v f := by
  obtain ⟨id, bound, caps, hv, he, h⟩ := h
  refine ⟨id, bound, caps, hv, he, fun w s h1 h2 h3 => (h w s h1 h2 h3).mono fun e w' hd => ?_⟩
  cases hf : f s with
  | out => trivial
  | ok s1 => rw [hf] at hd; exact hd
  | bad c a => rw [hf] at hd; exact hd
/-- steps in a row of cells -/
structure StepsI (B : Nat) (I : Nat → S3 → World → Prop) (w0 : World) (g : Nat) (vs : List Value) (fs : List F3) : Prop where
  len : vs.length = fs.length
  few : vs.length ≤ 1000
  lt : g < w0.heap.size
  no : ¬ Own B w0 g
  cell : ∀ j, (h : j < vs.length) → w0.cell? ⟨g, j, none⟩ = some vs[j]
  step : ∀ j, (h1 : j < vs.length) → (h2 : j < fs.length) → StepI B (I j) (I (j + 1)) w0 vs[j] fs[j]

set_option maxHeartbeats 4000000 in
set_option maxRecDepth 100000 in
theorem inTurnG {B : Nat} {I : Nat → S3 → World → Prop} {w : World} {s : S3} {g cap : Nat} {vs : List Value} {fs : List F3} (h : I 0 s w) (hS : StepsI B I w g vs fs) (hr : seqF fs s ≠ .out) :
    Calls Tryz.prog 27 #[.slice (some ⟨g, 0, none⟩) vs.length cap] w (DidI B (I vs.length) w (seqF fs s)) := by
  obtain ⟨r, hrr⟩ : ∃ r, r = seqF fs s := ⟨_, rfl⟩
  rw [← hrr] at hr ⊢
  have HR0 := Lib.hid hr
  obtain ⟨Q, hQ⟩ : ∃ Q : Ending → World → Prop, Q = DidI B (I vs.length) w r := ⟨_, rfl⟩
  rw [← hQ]
  have HQ := Lib.hid hQ
  clear hQ hr
  have HS := Lib.hid hS
  have hm := hS.few
  obtain ⟨n, hn⟩ : ∃ n, n = vs.length := ⟨_, rfl⟩
  have H := Lib.hid h
  have HM0 : Hid (Mid fs r 0 s) := ⟨Nat.zero_le _, by rw [hrr]; rfl⟩
  rw [← hn] at hm ⊢
  have Hn := Lib.hid hn
  clear h hS hrr hn
  go_enter Tryz.func27, Tryz.ntmps27
  go_wp2
  go_loopw [8] (fun v wr => ∃ (k : Nat) (s1 : S3), k ≤ n ∧ v = .int .i64 k ∧ Hid (Mid fs r k s1) ∧ Ext B w wr ∧ Hid (I k s1 wr)) (fun v _ => n - (intOf v).toNat)
  case atStart => exact ⟨0, s, Nat.zero_le _, rfl, HM0, Ext.refl _ _, H⟩
  case round =>
    obtain ⟨k, s1, hk, rfl, HM, hx, HP⟩ := hrel
    have HX := Lib.hid hx
    clear hx
    by_cases hlt : k < n
    · have hkv : k < vs.length := by have := Hn.out; omega
      have hkf : k < fs.length := by have := Hn.out; have := HS.out.len; omega
      have c0 : wr.cell? ⟨g, k, none⟩ = some vs[k] := (HX.out.cell (p := ⟨g, k, none⟩) HS.out.lt HS.out.no).trans (HS.out.cell k hkv)
      obtain ⟨id, bound, caps, hvk, hent, hst⟩ := HS.out.step k hkv hkf
      rw [hvk] at c0
      have hstep := HM.out.step hkf
      have hne : fs[k] s1 ≠ .out := fun e => HR0.out (by rw [hstep, e]; rfl)
      have hcall := hst wr s1 HX.out HP.out hne
      have HSt := Lib.hid hstep
      clear hst hvk hstep hne
      go_wp2_with (refine hcall.mono ?_)
      intro e w2 hd
      cases hf : fs[k] s1 with
      | out => rw [hf] at hd; exact absurd (by rw [HSt.out, hf]; rfl) HR0.out
      | bad c a =>
        rw [hf] at hd
        obtain ⟨rfl, hx2⟩ := hd
        have HX2 := Lib.hid (HX.out.trans hx2)
        have HRb : Hid (r = .bad c a) := by have h := HSt.out; rw [hf] at h; exact h
        clear hcall hent hf hx2 c0
        unfold errV
        go_wp2
        rw [HQ.out, HRb.out]
        exact ⟨rfl, HX2.out⟩
      | ok s2 =>
        rw [hf] at hd
        obtain ⟨rfl, hx2, hp2⟩ := hd
        have HX2 := Lib.hid (HX.out.trans hx2)
        have HP2 := Lib.hid hp2
        have HM2 : Hid (Mid fs r (k + 1) s2) := ⟨by omega, by have h := HSt.out; rw [hf] at h; exact h⟩
        clear hcall hent hf hx2 hp2 c0
        go_wp2
        go_roundw
        case rel => exact ⟨k + 1, s2, by omega, by go_num, HM2, HX2.out, HP2⟩
        case measure => simp [intOf]; omega
    · have hkn : k = n := by omega
      have HRk : Hid (r = .ok s1) := by
        have h := HM.out.2
        rw [List.drop_eq_nil_of_le (by have := Hn.out; have := HS.out.len; omega)] at h
        exact h
      have HPn : Hid (I vs.length s1 wr) := by have h := HP; rw [hkn, Hn.out] at h; exact h
      clear HS HP
      go_wp2
      rw [HQ.out, HRk.out]
      exact ⟨rfl, HX.out, HPn.out⟩
end Go.Proofs.YtbjacclfhgnffaaGreatDoor
/-
  The contract of prefixed, by those at fewer steps.
-/
namespace Go.Proofs.YtbjacclfhgnffaaGreatDoor
open Go.RowKit
open Tk (T4 bstr)
open Tr (Nd Blk KidsAt)

theorem tok_box {w : World} {g : Nat} {t : TypeId} {x0 x1 x2 x3 : Value} (h : Blk w g t #[x0, x1, x2, x3]) : w.cell? ⟨g, 0, none⟩ = some x0 ∧ w.cell? ⟨g, 1, none⟩ = some x1 ∧ w.cell? ⟨g, 2, none⟩ = some x2 ∧ w.cell? ⟨g, 3, none⟩ = some x3 := (box4 h).1
/-- a box that holds a token, behind W0 -/
theorem box_far {B T E : Nat} {s : S3} {w W0 : World} {t : TypeId} {x0 x1 x2 x3 : Value} (hp : Ps B T E w s) (hx : Ext B (w.alloc (.cells #[x0, x1, x2, x3] t)) W0) :
    ∀ W, Ext B W0 W → Blk W w.heap.size t #[x0, x1, x2, x3] := fun W h => by
  have hn : ¬ Own B (w.alloc (.cells #[x0, x1, x2, x3] t)) w.heap.size := fun ho => not_own_new ⟨T, E, s, hp⟩ ((own_alloc hp.lt _ _).1 ho)
  exact (hx.trans h).blk (Blk.new _ _ _) hn

set_option maxHeartbeats 8000000 in
set_option maxRecDepth 100000 in
theorem prefixed_step {B T E n : Nat} (H : CallJ B T E n) (w : World) (s : S3) (h : Ps B T E w s) (hr : runJ E (n + 1) .prefixed s ≠ .out) :
    Calls Tryz.prog 104 #[.pointer (some ⟨B, 0, none⟩)] w (Did B T E w (runJ E (n + 1) .prefixed s)) := by
  obtain ⟨r, hrr⟩ : ∃ r, r = runJ E (n + 1) .prefixed s := ⟨_, rfl⟩
  rw [← hrr] at hr ⊢
  obtain ⟨Q, hQ⟩ : ∃ Q : Ending → World → Prop, Q = Did B T E w r := ⟨_, rfl⟩
  rw [← hQ]
  have HQ := Lib.hid hQ
  have HR := Lib.hid hr
  change r = (if prefT (pk E s.L).t = 0 then runJ E n .postfixed s else buildF (mk (prefT (pk E s.L).t) (pk E s.L).t 0 (pk E s.L).a) [wordF E (pk E s.L).t, runJ E n .prefixed] s) at hrr
  have hpk := peek_any h
  unfold tokV at hpk
  obtain ⟨t, ht⟩ : ∃ t, t = pk E s.L := ⟨_, rfl⟩
  rw [← ht] at hpk hrr
  obtain ⟨x, hx⟩ : ∃ x, x = bstr t.t := ⟨_, rfl⟩
  have hpre := fun w => pref_any t.t w
  rw [← hx] at hpk hpre
  have Hx := Lib.hid hx
  have Hh := Lib.hid h
  have hB := h.lt
  clear hQ hr ht hx h
  by_cases hz : prefT t.t = 0
  · rw [if_pos hz] at hrr
    rw [hz] at hpre
    have Hrr := Lib.hid hrr
    clear hz hrr
    go_enter Tryz.func104, Tryz.ntmps104
    go_wp2_with (first | (go_at_call 59; refine hpk.mono ?_; rintro e w1 ⟨rfl, hb⟩) | (go_at_call 159; refine (hpre _).mono ?_; rintro e w' ⟨rfl, rfl⟩))
    have hp1 := (Hh.out.below hb).alloc (.cells #[.int .i64 t.k, .string x, .int .i64 t.v, .int .i64 t.a] 82)
    have hE1 := (Ext.below hb hB).alloc hB (.cells #[.int .i64 t.k, .string x, .int .i64 t.v, .int .i64 t.a] 82)
    have hpo := H.postfixed _ _ hp1 (by rw [← Hrr.out]; exact HR.out)
    rw [← Hrr.out] at hpo
    have HE1 := Lib.hid hE1
    clear hp1 hE1 hb hpk hpre
    refine hpo.mono ?_
    intro e w2 hd
    obtain ⟨v, rfl, hd⟩ := did_ret hd HR.out
    have HD := Lib.hid (did_ext hd HE1.out)
    clear hd hpo
    go_wp2
    (try go_ret)
    rw [HQ.out]
    exact HD.out
  · rw [if_neg hz] at hrr
    have hzb : (prefT t.t == 0) = false := by simpa using hz
    have hne : Hid (buildF (mk (prefT t.t) t.t 0 t.a) [wordF E t.t, runJ E n .prefixed] s ≠ .out) := by rw [hrr] at HR; exact HR
    have Hrr := Lib.hid hrr
    clear hz hrr
    go_enter Tryz.func104, Tryz.ntmps104
    go_wp2_with (first | (go_at_call 59; refine hpk.mono ?_; rintro e w1 ⟨rfl, hb⟩) | (go_at_call 159; refine (hpre _).mono ?_; rintro e w' ⟨rfl, rfl⟩))
    have hp1 := Hh.out.below hb
    have HE1 := Lib.hid ((Ext.below hb hB).alloc hB (.cells #[.int .i64 t.k, .string x, .int .i64 t.v, .int .i64 t.a] 82)).drew
    have HBox := Lib.hid (box_far (t := 82) (x0 := .int .i64 t.k) (x1 := .string x) (x2 := .int .i64 t.v) (x3 := .int .i64 t.a) hp1 (Ext.refl _ _).drew)
    have HP1 := Lib.hid (hp1.alloc (.cells #[.int .i64 t.k, .string x, .int .i64 t.v, .int .i64 t.a] 82)).drew
    clear hp1 hb hpk hpre
    generalize hW1 : w1.alloc (.cells #[.int .i64 t.k, .string x, .int .i64 t.v, .int .i64 t.a] 82) = W1 at *
    clear hW1
    have S1 : Hid (∀ W, Ext B W1.drew W → W.cell? ⟨w1.heap.size, 1, none⟩ = some (.string x) ∧ W.cell? ⟨w1.heap.size, 3, none⟩ = some (.int .i64 t.a)) := fun W hW => ⟨(tok_box (HBox.out W hW)).2.1, (tok_box (HBox.out W hW)).2.2.2⟩
    have S0 : Hid (W1.drew.cell? ⟨w1.heap.size, 1, none⟩ = some (.string x) ∧ W1.drew.cell? ⟨w1.heap.size, 3, none⟩ = some (.int .i64 t.a)) := S1.out _ (Ext.refl _ _)
    have HW : Hid (∀ W, Now B T E s W1.drew W → Calls Tryz.prog 61 #[.pointer (some ⟨B, 0, none⟩), .string x] W fun e w' => ∃ g1 g2, e = .returned (.func (.func 110) #[] #[.pointer (some ⟨g1, 0, none⟩), .pointer (some ⟨g2, 0, none⟩)]) ∧
      Now B T E s W1.drew w' ∧ Ext B W w' ∧ StepV B T E w' (.func (.func 110) #[] #[.pointer (some ⟨g1, 0, none⟩), .pointer (some ⟨g2, 0, none⟩)]) (wordF E t.t)) := fun W hW => by
      have h := word_now hW x
      rw [show x.data.toList = t.t by rw [Hx.out]; rfl] at h
      exact h
    have HN : Hid (∀ W v, Now B T E s W1.drew W → StepV B T E W v (wordF E t.t) → Calls Tryz.prog 76 #[.pointer (some ⟨B, 2, none⟩), .agg #[.int .i64 (prefT t.t), .string x, .int .i64 0, .int .i64 0, .slice none 0 0, .int .i64 t.a], .slice (some ⟨W.heap.size, 0, none⟩) 2 2] (W.alloc (.cells #[v, .func (.func 104) #[.pointer (some ⟨B, 0, none⟩)] #[]] 57)) (Ends B T E W1.drew r)) := fun W v hW hv => by
      have h := build_now hW [v, .func (.func 104) #[.pointer (some ⟨B, 0, none⟩)] #[]] [wordF E t.t, runJ E n .prefixed] rfl (by simp) (step2 hv (stepPrefixed H W)) (mk (prefT t.t) t.t 0 t.a) rfl hne.out 57
      rw [← Hrr.out] at h
      unfold nodeV mk at h
      simp only at h
      rw [← Hx.out] at h
      exact h
    have N0 : Hid (Now B T E s W1.drew W1.drew) := Now.refl HP1.out
    clear HBox HP1
    generalize prefT t.t = pv at *
    go_region_held3 (fun W => W.cell? ⟨w1.heap.size, 1, none⟩ = some (.string x) ∧ W.cell? ⟨w1.heap.size, 3, none⟩ = some (.int .i64 t.a))
      (first | exact S0.out | exact S1.out _ hn5.1 | exact S1.out _ (hn5.alloc _).1 | exact S1.out _ hx9)
      (first | (go_at_call 61; refine (HW.out _ N0.out).mono ?_; rintro e w5 ⟨g1, g2, rfl, hn5, -, hs5⟩) | (go_at_call 76; refine (HN.out _ _ hn5 hs5).mono ?_; rintro e w9 ⟨v, rfl, hd, hx9⟩))
    all_goals
      have HD := Lib.hid (did_ext hd HE1.out)
      clear hd hx9 hs5 hn5
      go_wp2
      (try go_ret)
      rw [HQ.out]
      exact HD.out
end Go.Proofs.YtbjacclfhgnffaaGreatDoor
/-
  The contract of what list gives: items with commas between them, by what the items do.
-/
namespace Go.Proofs.YtbjacclfhgnffaaGreatDoor
open Go.RowKit
open Tk (T4 bstr)
open Tr (Nd Blk KidsAt)

theorem took_yes {B T E : Nat} {w : World} {s : S3} (h : Ps B T E w s) (x : ByteArray) {l : List UInt8} (hl : x.data.toList = l) (ht : (pk E s.L).t = l) :
    Calls Tryz.prog 111 #[.pointer (some ⟨B, 0, none⟩), .string x] w fun e w' => e = .returned (.bool true) ∧ Ext B w w' ∧ Ps B T E w' { s with L := s.L.tail } := by
  refine (took_any h x).mono fun e w' ⟨hx, hc⟩ => ?_
  rcases hc with ⟨_, he, hp⟩ | ⟨hn, _⟩
  · exact ⟨he, hx, hp⟩
  · exact absurd (ht.trans hl.symm) hn
theorem took_no {B T E : Nat} {w : World} {s : S3} (h : Ps B T E w s) (x : ByteArray) {l : List UInt8} (hl : x.data.toList = l) (ht : (pk E s.L).t ≠ l) :
    Calls Tryz.prog 111 #[.pointer (some ⟨B, 0, none⟩), .string x] w fun e w' => e = .returned (.bool false) ∧ Ext B w w' ∧ Ps B T E w' s := by
  refine (took_any h x).mono fun e w' ⟨hx, hc⟩ => ?_
  rcases hc with ⟨h1, _⟩ | ⟨_, he, hp⟩
  · exact absurd (h1.trans hl) ht
  · exact ⟨he, hx, hp⟩
/-- word, and the call of what it gives -/
theorem word_call {B T E : Nat} {s : S3} {W0 W : World} (h : Now B T E s W0 W) (x : ByteArray) (hr : wordF E x.data.toList s ≠ .out) :
    Calls Tryz.prog 61 #[.pointer (some ⟨B, 0, none⟩), .string x] W fun e w' => ∃ g1 g2, e = .returned (.func (.func 110) #[] #[.pointer (some ⟨g1, 0, none⟩), .pointer (some ⟨g2, 0, none⟩)]) ∧
      Ext B W0 w' ∧ Calls Tryz.prog 110 #[.pointer (some ⟨g1, 0, none⟩), .pointer (some ⟨g2, 0, none⟩)] w' (Ends B T E W0 (wordF E x.data.toList s)) := by
  refine (word_now h x).mono fun e w' ⟨g1, g2, he, hn, hx, id, b, c, hv, _, hs⟩ => ⟨g1, g2, he, hn.1, ?_⟩
  cases hv
  have := hs w' s (Ext.refl _ _) hn.2 hr
  have e1 : (#[] ++ #[Value.pointer (some ⟨g1, 0, none⟩), Value.pointer (some ⟨g2, 0, none⟩)] : Array Value) = #[Value.pointer (some ⟨g1, 0, none⟩), Value.pointer (some ⟨g2, 0, none⟩)] := rfl
  rw [e1] at this
  exact this.mono fun e w' hd => ends_of hd hr hn.1
theorem wordF_ne {E : Nat} {t : List UInt8} {s : S3} : wordF E t s ≠ .out := by
  unfold wordF wrongF; split <;> simp

set_option maxHeartbeats 2000000 in
set_option maxRecDepth 100000 in
theorem list_lay {B : Nat} (xo xe : ByteArray) (fn : Fn) (b c : Array Value) (w : World) :
    Calls Tryz.prog 204 #[.pointer (some ⟨B, 0, none⟩), .string xo, .func fn b c, .string xe] w fun e w' =>
      e = .returned (.func (.func 231) #[] #[.pointer (some ⟨w.heap.size, 0, none⟩), .pointer (some ⟨w.heap.size + 1, 0, none⟩), .pointer (some ⟨w.heap.size + 1 + 1 + 1, 0, none⟩), .pointer (some ⟨w.heap.size + 1 + 1, 0, none⟩)]) ∧
      w' = (((w.alloc (.cells #[.pointer (some ⟨B, 0, none⟩)] 87)).alloc (.cells #[.string xo] 9)).alloc (.cells #[.func fn b c] 57)).alloc (.cells #[.string xe] 9) := by
  go_enter Tryz.func204, Tryz.ntmps204
  go_wp2
  go_ret
  exact ⟨rfl, rfl⟩
end Go.Proofs.YtbjacclfhgnffaaGreatDoor
