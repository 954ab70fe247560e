/-
  How the program's search for names lies in memory: its box, what is found, the scopes and their names; what a step may change.
-/
import Derived.Test.YtmghjfphlneblaaSa
import Derived.Maps.Own
import Derived.Maps.OwnSet
import Derived.Maps.OwnOps
import Derived.Maps.Views
namespace Go.Proofs.Ytmghjfphlneblaa.Sc
open Go.RowKit
open Tr

def intA (fs : List Int) : Array Value := (fs.map (Value.int .i64)).toArray
/-- the scopes: where each lies, and where its names; the unit's first -/
abbrev Ch := List (Nat × Nat)
def upV (ch : Ch) : Nat → Value
  | 0 => .pointer none
  | r + 1 => .pointer ((ch[r]?).map fun p => ⟨p.1, 0, none⟩)
def unitB (ch : Ch) : Nat := ((ch[0]?).getD (0, 0)).1
def keyD (s : List UInt8) : Lit := .string s
/-- a block is a map of names, that tells what f tells -/
def MapIs (w : World) (b m : Nat) (f : List UInt8 → Option Nat) : Prop :=
  ∃ D : DataW Unit, w.ownsMap Try.prog 9 (plainElem Try.prog 3) b m D ∧ ∀ s, Maps.has D (.string s) = (f s).isSome ∧ ∀ v, f s = some v → D.atKey (.string s) (.lit (.int .i64 0)) = .lit (.int .i64 v)
/-- what may change: two blocks, and what is new -/
structure Chg (F m : Nat) (w w' : World) : Prop where
  os : w'.os = w.os
  tape : w'.tape = w.tape
  output : w'.output = w.output
  size : w.heap.size ≤ w'.heap.size
  block : ∀ g, g < w.heap.size → g ≠ F → g ≠ m → w'.heap[g]? = w.heap[g]?
theorem Chg.refl (F m : Nat) (w : World) : Chg F m w w := ⟨rfl, rfl, rfl, Nat.le_refl _, fun _ _ _ _ => rfl⟩
theorem Chg.trans {F m : Nat} {a b c : World} (h : Chg F m a b) (k : Chg F m b c) : Chg F m a c :=
  ⟨k.os.trans h.os, k.tape.trans h.tape, k.output.trans h.output, Nat.le_trans h.size k.size, fun g h1 h2 h3 => (k.block g (Nat.lt_of_lt_of_le h1 h.size) h2 h3).trans (h.block g h1 h2 h3)⟩
theorem Chg.below {F m : Nat} {w w' : World} (hb : Below w.heap.size w w') : Chg F m w w' := ⟨hb.os, hb.tape, hb.output, hb.size, fun g h _ _ => hb.block g h⟩
theorem Chg.grown {F m : Nat} {w w' : World} (hb : w.grownBy w' (some m)) : Chg F m w w' := ⟨hb.os, hb.tape, hb.output, hb.size, fun g h _ h2 => hb.block g h (fun e => h2 (by cases e; rfl))⟩
theorem Chg.alloc {F m : Nat} {w w' : World} (h : Chg F m w w') (o : Obj) : Chg F m w (w'.alloc o) := h.trans (Chg.below ((Below.refl _ _).alloc (Nat.le_refl _) _))
theorem Chg.to_below {F m B : Nat} {w w' : World} (h : Chg F m w w') (hB : B ≤ w.heap.size) (hF : B ≤ F) (hm : B ≤ m) : Below B w w' :=
  ⟨h.os, h.tape, h.output, h.size, fun g hg => h.block g (by omega) (by omega) (by omega)⟩
theorem Chg.set {F m : Nat} {w w' : World} (h : Chg F m w w') (k : Nat) (v : Value) : Chg F m w (w'.setCell ⟨F, k, none⟩ v) :=
  ⟨h.os, h.tape, h.output, by simpa [World.setCell] using h.size, fun g h1 h2 h3 => (Below.heap_setCell w' ⟨F, k, none⟩ v g h2).trans (h.block g h1 h2 h3)⟩
theorem Chg.box {F m B : Nat} {w w' : World} (h : Chg F m w w') (hB : w.heap.size ≤ B) (k : Nat) (v : Value) : Chg F m w (w'.setCell ⟨B, k, none⟩ v) :=
  ⟨h.os, h.tape, h.output, by simpa [World.setCell] using h.size, fun g h1 h2 h3 => (Below.heap_setCell w' ⟨B, k, none⟩ v g (by show g ≠ B; omega)).trans (h.block g h1 h2 h3)⟩
theorem Chg.blk {F m : Nat} {w w' : World} {g : Nat} {t : TypeId} {cs : Array Value} (h : Chg F m w w') (hb : Blk w g t cs) (h1 : g ≠ F) (h2 : g ≠ m) : Blk w' g t cs := (h.block g hb.lt h1 h2).trans hb
/-- all of the search -/
structure Sm (w0 w : World) (l : List Nd) (p : Option Addr) (cap R F : Nat) (ch : Ch) (E : Env) (fs : List Int) : Prop where
  tr0 : Tr w0 p l
  bel : Below w0.heap.size w0 w
  old : w0.heap.size ≤ F ∧ ∀ r, (h : r < ch.length) → w0.heap.size ≤ (ch[r]).2
  res : Blk w R 40 #[.slice p l.length cap, .pointer (some ⟨unitB ch, 0, none⟩), .slice (some ⟨F, 0, none⟩) l.length l.length]
  fnd : Blk w F 3 (intA fs)
  len : fs.length = l.length
  one : ∀ r, (h : r < ch.length) → Blk w (ch[r]).1 58 #[upV ch r, .map (some (ch[r]).2)]
  map : ∀ r, (h : r < ch.length) → ∃ m, m ≤ E.length ∧ MapIs w (ch[r]).2 m (roomF l E r)
  sep : ∀ r r', (h : r < r') → (h' : r' < ch.length) → (ch[r]).2 ≠ (ch[r']).2
  env : ∀ x ∈ E, x.1 < l.length ∧ x.2 < ch.length

theorem Blk.type {w : World} {g : Nat} {t t' : TypeId} {cs cs' : Array Value} (h : Blk w g t cs) (h' : Blk w g t' cs') : t = t' := by
  unfold Blk at h h'; rw [h] at h'; cases h'; rfl
theorem MapIs.not_blk {w : World} {g m : Nat} {f : List UInt8 → Option Nat} {t : TypeId} {cs : Array Value} (h : MapIs w g m f) (h' : Blk w g t cs) : False := by
  obtain ⟨D, ⟨es, cl, hb, _⟩, _⟩ := h
  unfold Blk at h'; rw [hb] at h'; cases h'
theorem MapIs.lt {w : World} {g m : Nat} {f : List UInt8 → Option Nat} (h : MapIs w g m f) : g < w.heap.size := by
  obtain ⟨D, ⟨es, cl, hb, _⟩, _⟩ := h
  exact lt_of_block hb
theorem MapIs.same {w w' : World} {g m : Nat} {f : List UInt8 → Option Nat} (h : MapIs w g m f) (hb : w'.heap[g]? = w.heap[g]?) : MapIs w' g m f := by
  obtain ⟨D, ⟨es, cl, h1, h2⟩, h3⟩ := h
  exact ⟨D, ⟨es, cl, hb.trans h1, h2⟩, h3⟩
theorem MapIs.mono {w : World} {g m m' : Nat} {f f' : List UInt8 → Option Nat} (h : MapIs w g m f) (hm : m ≤ m') (hf : ∀ s, f' s = f s) : MapIs w g m' f' := by
  obtain ⟨D, h1, h3⟩ := h
  exact ⟨D, h1.mono hm, fun s => by rw [hf]; exact h3 s⟩
section
variable {w0 w w' : World} {l : List Nd} {p : Option Addr} {cap R F : Nat} {ch : Ch} {E : Env} {fs : List Int}
theorem Sm.tr (h : Sm w0 w l p cap R F ch E fs) : Tr w p l := h.tr0.below h.bel
theorem Sm.FR (h : Sm w0 w l p cap R F ch E fs) : F ≠ R := fun e => by
  have := h.fnd; rw [e] at this; exact absurd (Blk.type this h.res) (by decide)
theorem Sm.F1 (h : Sm w0 w l p cap R F ch E fs) (r : Nat) (hr : r < ch.length) : F ≠ (ch[r]).1 := fun e => by
  have := h.fnd; rw [e] at this; exact absurd (Blk.type this (h.one r hr)) (by decide)
theorem Sm.F2 (h : Sm w0 w l p cap R F ch E fs) (r : Nat) (hr : r < ch.length) : F ≠ (ch[r]).2 := fun e => by
  have := h.fnd; rw [e] at this; obtain ⟨m, _, hm⟩ := h.map r hr; exact hm.not_blk this
theorem Sm.M1 (h : Sm w0 w l p cap R F ch E fs) (r r' : Nat) (hr : r < ch.length) (hr' : r' < ch.length) : (ch[r]).1 ≠ (ch[r']).2 := fun e => by
  obtain ⟨m, _, hm⟩ := h.map r' hr'; have := h.one r hr; rw [e] at this; exact hm.not_blk this
theorem Sm.MR (h : Sm w0 w l p cap R F ch E fs) (r : Nat) (hr : r < ch.length) : R ≠ (ch[r]).2 := fun e => by
  obtain ⟨m, _, hm⟩ := h.map r hr; have := h.res; rw [e] at this; exact hm.not_blk this
/-- new blocks alone -/
theorem Sm.below (h : Sm w0 w l p cap R F ch E fs) (hb : Below w.heap.size w w') : Sm w0 w' l p cap R F ch E fs :=
  { h with
    bel := h.bel.trans (hb.mono h.bel.size)
    res := h.res.below hb h.res.lt
    fnd := h.fnd.below hb h.fnd.lt
    one := fun r hr => (h.one r hr).below hb (h.one r hr).lt
    map := fun r hr => by obtain ⟨m, h1, h2⟩ := h.map r hr; exact ⟨m, h1, h2.same (hb.block _ h2.lt)⟩ }
theorem Sm.alloc (h : Sm w0 w l p cap R F ch E fs) (o : Obj) : Sm w0 (w.alloc o) l p cap R F ch E fs := h.below ((Below.refl _ _).alloc (Nat.le_refl _) _)
/-- a store into a box that is not of the search -/
theorem Sm.box (h : Sm w0 w l p cap R F ch E fs) {B : Nat} {t : TypeId} {cs : Array Value} (hB : Blk w B t cs) (h0 : w0.heap.size ≤ B) (h1 : t ≠ 3) (h2 : t ≠ 40) (h3 : t ≠ 58) (k : Nat) (v : Value) : Sm w0 (w.setCell ⟨B, k, none⟩ v) l p cap R F ch E fs := by
  have n1 : F ≠ B := fun e => by have := h.fnd; rw [e] at this; exact h1 (Blk.type hB this)
  have n2 : R ≠ B := fun e => by have := h.res; rw [e] at this; exact h2 (Blk.type hB this)
  have n3 : ∀ r, (hr : r < ch.length) → (ch[r]).1 ≠ B := fun r hr e => by have := h.one r hr; rw [e] at this; exact h3 (Blk.type hB this)
  exact { h with
    bel := h.bel.setCell (p := ⟨B, k, none⟩) h0 v
    res := h.res.far (p := ⟨B, k, none⟩) n2 v
    fnd := h.fnd.far (p := ⟨B, k, none⟩) n1 v
    one := fun r hr => (h.one r hr).far (p := ⟨B, k, none⟩) (n3 r hr) v
    map := fun r hr => by
      obtain ⟨m, h1, h2⟩ := h.map r hr
      exact ⟨m, h1, h2.same (Below.heap_setCell w ⟨B, k, none⟩ v _ (fun e => by subst e; exact h2.not_blk hB))⟩ }
theorem intA_set (fs : List Int) (k : Nat) (v : Int) : (intA fs).setIfInBounds k (.int .i64 v) = intA (fs.set k v) := by
  apply Array.ext'
  unfold intA
  rw [Array.toList_setIfInBounds, List.map_set]
/-- what a node stands for -/
theorem Sm.put (h : Sm w0 w l p cap R F ch E fs) (k : Nat) (v : Int) : Sm w0 (w.setCell ⟨F, k, none⟩ (.int .i64 v)) l p cap R F ch E (fs.set k v) :=
  { h with
    bel := h.bel.setCell (p := ⟨F, k, none⟩) h.old.1 _
    res := h.res.far (p := ⟨F, k, none⟩) (fun e => h.FR e.symm) _
    fnd := by have := h.fnd.set_ k (.int .i64 v); rw [intA_set] at this; exact this
    len := by rw [List.length_set]; exact h.len
    one := fun r hr => (h.one r hr).far (p := ⟨F, k, none⟩) (fun e => h.F1 r hr e.symm) _
    map := fun r hr => by
      obtain ⟨m, h1, h2⟩ := h.map r hr
      exact ⟨m, h1, h2.same (Below.heap_setCell w ⟨F, k, none⟩ _ _ (fun e => h.F2 r hr e.symm))⟩ }
theorem roomF_same {l : List Nd} {E : Env} {k now : Nat} (h : (roomF l E now (tx l k)).isSome = false) : roomF l (E ++ [(k, now)]) now (tx l k) = some k := by
  unfold roomF at h ⊢
  rw [List.find?_append]
  cases h2 : E.find? fun p => p.2 == now && tx l p.1 == tx l k with
  | some p => rw [h2] at h; cases h
  | none => simp
theorem roomF_other {l : List Nd} {E : Env} {k now r : Nat} {s : List UInt8} (h : ¬ (now = r ∧ tx l k = s)) : roomF l (E ++ [(k, now)]) r s = roomF l E r s := by
  unfold roomF
  rw [List.find?_append]
  have : (now == r && tx l k == s) = false := by
    cases hb : (now == r && tx l k == s) with
    | false => rfl
    | true => simp at hb; exact absurd hb h
  cases h2 : E.find? fun p => p.2 == r && tx l p.1 == s with
  | some p => simp
  | none => simp [List.find?_cons, this]
/-- a name is declared in the last scope -/
theorem Sm.decl (h : Sm w0 w l p cap R F ch E fs) {now k g m n : Nat} (hch : ch.length = now + 1) (hg : ch[now]? = some (g, m)) (hk : k < l.length) (hno : (roomF l E now (tx l k)).isSome = false)
    (hgr : w.grownBy w' (some m)) (hm : n ≤ E.length) {D : DataW Unit} (hD : ∀ s, Maps.has D (.string s) = (roomF l E now s).isSome ∧ ∀ v, roomF l E now s = some v → D.atKey (.string s) (.lit (.int .i64 0)) = .lit (.int .i64 v)) (hMap : Maps.IsMap D)
    (hw : w'.ownsMap Try.prog 9 (plainElem Try.prog 3) m (n + 1) (D.put (.string (tx l k)) (.lit (.int .i64 k)))) : Sm w0 w' l p cap R F ch (E ++ [(k, now)]) fs := by
  have hlt : now < ch.length := by omega
  have hgm : ch[now] = (g, m) := by rw [List.getElem?_eq_getElem hlt] at hg; exact Option.some.inj hg
  have hm2 : (ch[now]).2 = m := by rw [hgm]
  have nR : R ≠ m := by rw [← hm2]; exact h.MR now hlt
  have nF : F ≠ m := by rw [← hm2]; exact h.F2 now hlt
  have n1 : ∀ r, (hr : r < ch.length) → (ch[r]).1 ≠ m := fun r hr => by rw [← hm2]; exact h.M1 r now hr hlt
  exact { h with
    bel := h.bel.trans ⟨hgr.os, hgr.tape, hgr.output, hgr.size, fun b hb => hgr.block b (Nat.lt_of_lt_of_le hb h.bel.size) (fun e => by
      have e2 : b = m := by cases e; rfl
      have := h.old.2 now hlt; rw [hm2] at this; omega)⟩
    res := h.res.grown hgr (by simpa using nR)
    fnd := h.fnd.grown hgr (by simpa using nF)
    one := fun r hr => (h.one r hr).grown hgr (by simpa using n1 r hr)
    map := fun r hr => by
      by_cases e : r = now
      · subst e
        rw [hm2]
        refine ⟨n + 1, by simp; omega, _, hw, fun s => ?_⟩
        by_cases hs : s = tx l k
        · subst hs
          rw [roomF_same hno]
          have hk : WideAt.IsKeyLit (.string (tx l k)) := trivial
          exact ⟨Maps.has_put_same hMap hk _, fun v hv => by cases hv; exact Maps.atKey_put_same hMap hk _ _⟩
        · have hne : Lit.string s ≠ Lit.string (tx l k) := fun e => hs (by cases e; rfl)
          rw [Maps.has_put_other hne, Maps.atKey_put_other hne, roomF_other (fun hc => hs hc.2.symm)]
          exact hD s
      · obtain ⟨m1, h1, h2⟩ := h.map r hr
        refine ⟨m1, by simp; omega, (h2.same (hgr.block _ h2.lt (fun e2 => ?_))).mono (Nat.le_refl _) (fun s => ?_)⟩
        · have e3 : (ch[r]).2 = m := by injection e2
          rcases Nat.lt_or_ge r now with hl | hl
          · exact h.sep r now hl hlt (by rw [e3, hm2])
          · omega
        · exact roomF_other (fun hc => e hc.1.symm)
    env := fun x hx => by
      rcases List.mem_append.1 hx with hx | hx
      · exact h.env x hx
      · simp only [List.mem_cons, List.not_mem_nil, or_false] at hx; subst hx; exact ⟨hk, hlt⟩ }
theorem upV_snoc (ch : Ch) (x : Nat × Nat) (r : Nat) (hr : r ≤ ch.length) : upV (ch ++ [x]) r = upV ch r := by
  cases r with
  | zero => rfl
  | succ r => simp only [upV]; rw [List.getElem?_append_left (by omega)]
theorem roomF_none {l : List Nd} {E : Env} {r : Nat} (h : ∀ x ∈ E, x.2 < r) (s : List UInt8) : roomF l E r s = none := by
  unfold roomF
  rw [List.find?_eq_none.2 (fun x hx => ?_)]
  · rfl
  · have := h x hx
    simp; intro e; omega
/-- a scope within the last one -/
theorem Sm.push (h : Sm w0 w l p cap R F ch E fs) {now g m : Nat} (hch : ch.length = now + 1) (hg : ch[now]? = some (g, m)) :
    Sm w0 ((w.alloc (.map #[] 0)).alloc (.cells #[.pointer (some ⟨g, 0, none⟩), .map (some w.heap.size)] 58)) l p cap R F (ch ++ [(w.heap.size + 1, w.heap.size)]) E fs := by
  have h2 := (h.alloc (.map #[] 0)).alloc (.cells #[.pointer (some ⟨g, 0, none⟩), .map (some w.heap.size)] 58)
  have hm : MapIs ((w.alloc (.map #[] 0)).alloc (.cells #[.pointer (some ⟨g, 0, none⟩), .map (some w.heap.size)] 58)) w.heap.size 0 (fun _ => none) :=
    ⟨.map [], (World.ownsMap_made _ _ _ _).alloc _, fun s => ⟨rfl, fun v hv => by cases hv⟩⟩
  refine { h2 with old := ⟨h2.old.1, ?_⟩, res := ?_, one := ?_, map := ?_, sep := ?_, env := ?_ }
  · intro r hr
    rw [List.getElem_append]
    split
    · exact h.old.2 r _
    · simpa using h.bel.size
  · have e : unitB (ch ++ [(w.heap.size + 1, w.heap.size)]) = unitB ch := by unfold unitB; rw [List.getElem?_append_left (by omega)]
    rw [e]; exact h2.res
  · intro r hr
    rw [upV_snoc _ _ _ (by simp at hr; omega)]
    by_cases hl : r < ch.length
    · simp only [List.getElem_append_left hl]
      exact h2.one r hl
    · have e : r = now + 1 := by simp at hr; omega
      subst e
      rw [List.getElem_append_right (by omega)]
      have e2 : upV ch (now + 1) = .pointer (some ⟨g, 0, none⟩) := by simp only [upV, hg]; rfl
      rw [e2]
      simp only [hch, Nat.sub_self, List.getElem_cons_zero]
      have := Blk.new (w.alloc (.map #[] 0)) 58 #[.pointer (some ⟨g, 0, none⟩), .map (some w.heap.size)]
      rwa [World.size_alloc] at this
  · intro r hr
    by_cases hl : r < ch.length
    · simp only [List.getElem_append_left hl]
      exact h2.map r hl
    · have e : r = now + 1 := by simp at hr; omega
      subst e
      rw [List.getElem_append_right (by omega)]
      simp only [hch, Nat.sub_self, List.getElem_cons_zero]
      exact ⟨0, Nat.zero_le _, hm.mono (Nat.le_refl _) (fun s => roomF_none (fun x hx => by have := (h.env x hx).2; omega) s)⟩
  · intro r r' hr hr'
    have hl : r < ch.length := by simp at hr'; omega
    rw [List.getElem_append_left hl]
    by_cases hl' : r' < ch.length
    · rw [List.getElem_append_left hl']; exact h.sep r r' hr hl'
    · rw [List.getElem_append_right (by omega)]
      obtain ⟨m1, _, hm1⟩ := h.map r hl
      have := hm1.lt
      have e3 : r' - ch.length = 0 := by simp at hr'; omega
      simp only [e3, List.getElem_cons_zero]
      omega
  · intro x hx
    have := h.env x hx
    exact ⟨this.1, by simp; omega⟩
/-- behind the scope within: what was declared there is gone -/
theorem Sm.pop {w1 w2 : World} {E2 : Env} {fs2 : List Int} {x : Nat × Nat} (h : Sm w0 w l p cap R F ch E fs) (hb : Below w.heap.size w w1) (hx : w.heap.size ≤ x.2) (hc : Chg F x.2 w1 w2) (h2 : Sm w0 w2 l p cap R F (ch ++ [x]) E2 fs2) : Sm w0 w2 l p cap R F ch E fs2 := by
  have hk : ∀ b, b < w.heap.size → b ≠ F → w2.heap[b]? = w.heap[b]? := fun b h1 h3 => (hc.block b (Nat.lt_of_lt_of_le h1 hb.size) h3 (by omega)).trans (hb.block b h1)
  exact { h with
    bel := h2.bel
    res := (hk R h.res.lt (fun e => h.FR e.symm)).trans h.res
    fnd := h2.fnd
    len := h2.len
    one := fun r hr => (hk _ (h.one r hr).lt (fun e => h.F1 r hr e.symm)).trans (h.one r hr)
    map := fun r hr => by
      obtain ⟨m, h1, h3⟩ := h.map r hr
      exact ⟨m, h1, h3.same (hk _ h3.lt (fun e => h.F2 r hr e.symm))⟩ }
end
/-- what a step does -/
def Dn (w0 w : World) (l : List Nd) (p : Option Addr) (cap R F : Nat) (ch : Ch) (m : Nat) (fs : List Int) : Rs → Ending → World → Prop
  | .ok E W, e, w' => e = .returned (.agg #[.int .i64 0, .int .i64 0]) ∧ Chg F m w w' ∧ Sm w0 w' l p cap R F ch E (ov W fs)
  | .bad c a, e, w' => e = .returned (.agg #[.int .i64 c, .int .i64 a]) ∧ Chg F m w w'
  | .out, _, _ => True
end Go.Proofs.Ytmghjfphlneblaa.Sc
