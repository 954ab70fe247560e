/-
  Joined texts of this claim: Jb.
-/
import Derived.Test.YtbjacclfhgnffaaGreatDoorY33
import Derived.Test.YtbjacclfhgnffaaGreatDoorY32
import Derived.Test.YtbjacclfhgnffaaGreatDoorY12
set_option linter.unusedVariables false
set_option linter.unusedSimpArgs false
/-
  The document's reader in memory: what it holds lies outside of some blocks, which may be written.
-/
namespace Go.Proofs.YtbjacclfhgnffaaGreatDoor
open Go.RowKit
open Tk (T4 bstr)
open Tr (Nd Blk KidsAt NodeAt ret_bool)

/-- nothing has changed but blocks for which A holds, and there may be more -/
structure Agr (A : Nat → Prop) (w w' : World) : Prop where
  size : w.heap.size ≤ w'.heap.size
  block : ∀ b, b < w.heap.size → ¬ A b → w'.heap[b]? = w.heap[b]?
section
variable {A A' : Nat → Prop} {w w' w2 : World}
theorem Agr.refl (A : Nat → Prop) (w : World) : Agr A w w := ⟨Nat.le_refl _, fun _ _ _ => rfl⟩
theorem Agr.trans (h : Agr A w w') (k : Agr A w' w2) : Agr A w w2 :=
  ⟨Nat.le_trans h.size k.size, fun b hb hn => (k.block b (Nat.lt_of_lt_of_le hb h.size) hn).trans (h.block b hb hn)⟩
theorem Agr.below (h : Below w.heap.size w w') : Agr A w w' := ⟨h.size, fun b hb _ => h.block b hb⟩
theorem Agr.alloc (h : Agr A w w') (o : Obj) : Agr A w (w'.alloc o) := h.trans (.below ((Below.refl _ _).alloc (Nat.le_refl _) _))
theorem Agr.drew (h : Agr A w w') : Agr A w w'.drew := ⟨h.size, h.block⟩
theorem Agr.setCell (h : Agr A w w') {p : Addr} (hp : A p.block) (u : Value) : Agr A w (w'.setCell p u) := by
  have hs : (w'.setCell p u).heap.size = w'.heap.size := by simp [World.setCell]
  refine h.trans ⟨by rw [hs]; exact Nat.le_refl _, fun b hb hn => ?_⟩
  exact Below.heap_setCell w' p u b (fun e => hn (e ▸ hp))
end
/-- words that lie outside of A -/
def TkA (A : Nat → Prop) (w : World) (p : Option Addr) (L : List T4) : Prop := 0 < L.length → ∃ b o, p = some ⟨b, o, none⟩ ∧ b < w.heap.size ∧ ¬ A b ∧ TokAt w b o L
/-- a list of numbers that lies outside of A -/
def KdA (A : Nat → Prop) (w : World) (p : Option Addr) (c : List Int) : Prop := 0 < c.length → ∃ b o, p = some ⟨b, o, none⟩ ∧ b < w.heap.size ∧ ¬ A b ∧ ∀ j, (h : j < c.length) → w.cell? ⟨b, o + j, none⟩ = some (.int .i64 c[j])
/-- nodes that lie outside of A -/
def NdA (A : Nat → Prop) (w : World) (p : Option Addr) (l : List Nd) : Prop :=
  (0 < l.length → ∃ b o, p = some ⟨b, o, none⟩ ∧ b < w.heap.size ∧ ¬ A b ∧ ∀ i, (h : i < l.length) → NodeAt w b (o + i * 6) l[i]) ∧ ∀ i, (h : i < l.length) → KdA A w l[i].p l[i].c
section
variable {A A' : Nat → Prop} {w w' : World} {p : Option Addr}
theorem TkA.agr {L : List T4} (h : TkA A w p L) (k : Agr A w w') : TkA A w' p L := fun h0 => by
  obtain ⟨b, o, e, hb, hn, ht⟩ := h h0
  exact ⟨b, o, e, Nat.lt_of_lt_of_le hb k.size, hn, ht.same (k.block b hb hn)⟩
theorem TkA.row {L : List T4} (h : TkA A w p L) : TkRow w p L := fun h0 => by
  obtain ⟨b, o, e, hb, hn, ht⟩ := h h0
  exact ⟨b, o, e, hb, ht⟩
theorem TkA.more {L : List T4} (h : TkA A w p L) (hA : ∀ b, b < w.heap.size → A' b → A b) : TkA A' w p L := fun h0 => by
  obtain ⟨b, o, e, hb, hn, ht⟩ := h h0
  exact ⟨b, o, e, hb, fun ha => hn (hA b hb ha), ht⟩
theorem KdA.agr {c : List Int} (h : KdA A w p c) (k : Agr A w w') : KdA A w' p c := fun h0 => by
  obtain ⟨b, o, e, hb, hn, ht⟩ := h h0
  exact ⟨b, o, e, Nat.lt_of_lt_of_le hb k.size, hn, fun j hj => (World.cell?_of_block (a := ⟨b, o + j, none⟩) (k.block b hb hn)).trans (ht j hj)⟩
theorem KdA.more {c : List Int} (h : KdA A w p c) (hA : ∀ b, b < w.heap.size → A' b → A b) : KdA A' w p c := fun h0 => by
  obtain ⟨b, o, e, hb, hn, ht⟩ := h h0
  exact ⟨b, o, e, hb, fun ha => hn (hA b hb ha), ht⟩
theorem NodeAt.same {b o : Nat} {x : Nd} (h : NodeAt w b o x) (hb : w'.heap[b]? = w.heap[b]?) : NodeAt w' b o x := by
  obtain ⟨h1, h2, h3, h4, h5, h6⟩ := h
  have e : ∀ k v, w.cell? ⟨b, k, none⟩ = some v → w'.cell? ⟨b, k, none⟩ = some v := fun k v h => (World.cell?_of_block (a := ⟨b, k, none⟩) hb).trans h
  exact ⟨e _ _ h1, e _ _ h2, e _ _ h3, e _ _ h4, e _ _ h5, e _ _ h6⟩
theorem NdA.agr {l : List Nd} (h : NdA A w p l) (k : Agr A w w') : NdA A w' p l :=
  ⟨fun h0 => by
    obtain ⟨b, o, e, hb, hn, ht⟩ := h.1 h0
    exact ⟨b, o, e, Nat.lt_of_lt_of_le hb k.size, hn, fun j hj => NodeAt.same (ht j hj) (k.block b hb hn)⟩, fun i hi => (h.2 i hi).agr k⟩
theorem NdA.more {l : List Nd} (h : NdA A w p l) (hA : ∀ b, b < w.heap.size → A' b → A b) : NdA A' w p l :=
  ⟨fun h0 => by
    obtain ⟨b, o, e, hb, hn, ht⟩ := h.1 h0
    exact ⟨b, o, e, hb, fun ha => hn (hA b hb ha), ht⟩, fun i hi => (h.2 i hi).more hA⟩
theorem NdA.tr {l : List Nd} (h : NdA A w p l) : Tr.Tr w p l :=
  ⟨fun h0 => by
    obtain ⟨b, o, e, hb, hn, ht⟩ := h.1 h0
    exact ⟨b, o, e, hb, ht⟩, fun i hi h0 => by
    obtain ⟨b, o, e, hb, hn, ht⟩ := h.2 i hi h0
    exact ⟨b, o, e, hb, ht⟩⟩
end
/-- a reader's value -/
def RdAt (E : Nat) (A : Nat → Prop) (w : World) (r : Rs) (v : Value) : Prop :=
  ∃ pn cn pl cl ns, v = rdV pn r.N.length cn pl r.L.length cl E r.c r.a r.top ∧ TkA A w pl r.L ∧ r.L.length ≤ cl ∧ cl ≤ 9223372036854775807 ∧ (r.L.length ≤ 5000000 ∧ ∀ x, x ∈ r.L → x.t.length ≤ 1000000) ∧
    NdA A w pn ns ∧ ns.map bare = r.N ∧ r.N.length ≤ cn ∧ r.N.length ≤ 5000000 ∧ (∀ x, x ∈ r.N → x.c.length ≤ 5000000) ∧ (r.N = [] → pn = none ∧ cn = 0)
/-- a list of nodes -/
def LsAt (A : Nat → Prop) (w : World) (c : List Int) (v : Value) : Prop := ∃ p cap, v = .slice p c.length cap ∧ KdA A w p c ∧ c.length ≤ cap
section
variable {E : Nat} {A A' : Nat → Prop} {w w' : World} {r : Rs} {v : Value}
theorem RdAt.agr (h : RdAt E A w r v) (k : Agr A w w') : RdAt E A w' r v := by
  obtain ⟨pn, cn, pl, cl, ns, e, h1, h2, h3, h4, h5, h6⟩ := h
  exact ⟨pn, cn, pl, cl, ns, e, h1.agr k, h2, h3, h4, h5.agr k, h6⟩
theorem RdAt.more (h : RdAt E A w r v) (hA : ∀ b, b < w.heap.size → A' b → A b) : RdAt E A' w r v := by
  obtain ⟨pn, cn, pl, cl, ns, e, h1, h2, h3, h4, h5, h6⟩ := h
  exact ⟨pn, cn, pl, cl, ns, e, h1.more hA, h2, h3, h4, h5.more hA, h6⟩
theorem LsAt.agr {c : List Int} (h : LsAt A w c v) (k : Agr A w w') : LsAt A w' c v := by
  obtain ⟨p, cap, e, h1, h2⟩ := h
  exact ⟨p, cap, e, h1.agr k, h2⟩
theorem LsAt.more {c : List Int} (h : LsAt A w c v) (hA : ∀ b, b < w.heap.size → A' b → A b) : LsAt A' w c v := by
  obtain ⟨p, cap, e, h1, h2⟩ := h
  exact ⟨p, cap, e, h1.more hA, h2⟩
end
/-- what is returned: a reader -/
def RdRet (E : Nat) (A : Nat → Prop) (w : World) (r' : Rs) (e : Ending) (w' : World) : Prop :=
  ∃ pn cn pl cl, e = .returned (.agg #[.slice pn r'.N.length cn, .slice pl r'.L.length cl, .int .i64 E, .int .i64 r'.c, .int .i64 r'.a, .int .i64 r'.top]) ∧
    Hid (RdAt E A w' r' (.agg #[.slice pn r'.N.length cn, .slice pl r'.L.length cl, .int .i64 E, .int .i64 r'.c, .int .i64 r'.a, .int .i64 r'.top])) ∧ Below w.heap.size w w'
theorem RdRet.of {E : Nat} {A : Nat → Prop} {w w' : World} {r' : Rs} {v : Value} (h : RdAt E A w' r' v) (hb : Below w.heap.size w w') : RdRet E A w r' (.returned v) w' := by
  have h' := h
  obtain ⟨pn, cn, pl, cl, ns, e, _⟩ := h
  subst e
  exact ⟨pn, cn, pl, cl, rfl, h', hb⟩
/-- blocks that are there -/
def In (A : Nat → Prop) (w : World) : Prop := ∀ b, A b → b < w.heap.size
/-- a function of a reader that gives a reader -/
def FnR (E id : Nat) (f : Rs → Option Rs) : Prop := ∀ (A : Nat → Prop) (w : World) (r r' : Rs) (v : Value), In A w → RdAt E A w r v → f r = some r' →
  Calls Tryz.prog id #[v] w (RdRet E A w r')
/-- going on: the first word is gone -/
theorem skip_tk {A : Nat → Prop} {w0 : World} (pn : Option Addr) (ln cn : Nat) (pl : Option Addr) (cl E : Nat) (a top : Int) (w : World) (L : List T4) (hT : TkA A w0 pl L) (hl : L.length ≤ 5000000) (hc : L.length ≤ cl) (hcl : cl ≤ 9223372036854775807) :
    Calls Tryz.prog 70 #[rdV pn ln cn pl L.length cl E 0 a top] w fun e w' => ∃ pl' cl', e = .returned (rdV pn ln cn pl' L.tail.length cl' E 0 a top) ∧ TkA A w0 pl' L.tail ∧ L.tail.length ≤ cl' ∧ cl' ≤ 9223372036854775807 ∧ Below w.heap.size w w' := by
  cases L with
  | nil => exact (rskip_nil pn ln cn pl cl E a top w).mono fun e w' ⟨he, hb⟩ => ⟨pl, cl, he, fun h => absurd h (Nat.lt_irrefl _), hc, hcl, hb⟩
  | cons t L =>
    obtain ⟨b, o, rfl, hb, hA, ht⟩ := hT (Nat.succ_pos _)
    by_cases h1 : cl = 1
    · subst h1
      have : L = [] := List.eq_nil_of_length_eq_zero (Nat.le_zero.1 (Nat.le_of_succ_le_succ hc))
      subst this
      exact (rskip_one pn ln cn b o E a top w).mono fun e w' ⟨he, hb⟩ => ⟨_, _, he, fun h => absurd h (Nat.lt_irrefl _), Nat.le_refl _, Nat.zero_le _, hb⟩
    · refine (rskip_cons pn ln cn b o L.length cl E a top w hl hc hcl h1).mono fun e w' ⟨he, hbw⟩ => ⟨_, _, he, fun _ => ⟨b, o + 4, rfl, hb, hA, fun j hj => ?_⟩, Nat.le_sub_of_add_le hc, Nat.le_trans (Nat.sub_le _ _) hcl, hbw⟩
      have := ht (j + 1) (Nat.succ_lt_succ hj)
      simp only [List.getElem_cons_succ] at this
      have e : o + (j + 1) * 4 = o + 4 + j * 4 := by omega
      rw [e] at this
      exact this
section
variable {E : Nat} {A : Nat → Prop} {w : World} {r : Rs} {v : Value}
theorem RdAt.ok (h : RdAt E A w r v) (w2 : World) : Calls Tryz.prog 38 #[v] w2 fun e w' => e = .returned (.bool (okR r)) ∧ Below w2.heap.size w2 w' := by
  obtain ⟨pn, cn, pl, cl, ns, rfl, _⟩ := h
  exact rok_any pn r.N.length cn pl r.L.length cl E r.c r.a r.top w2
theorem RdAt.peek (h : RdAt E A w r v) : Calls Tryz.prog 68 #[v] w fun e w' => e = .returned (tokV (pk E r.L)) ∧ Below w.heap.size w w' := by
  obtain ⟨pn, cn, pl, cl, ns, rfl, h1, h2, h3, h4, _⟩ := h
  exact rpeek_any pn r.N.length cn pl cl E r.c r.a r.top w r.L h1.row h4.1
theorem RdAt.is (h : RdAt E A w r v) (s : ByteArray) : Calls Tryz.prog 69 #[v, .string s] w fun e w' => e = .returned (.bool (isR E s.toList r)) ∧ Below w.heap.size w w' := by
  obtain ⟨pn, cn, pl, cl, ns, rfl, h1, h2, h3, h4, _⟩ := h
  have hp : ∀ w2, Below w.heap.size w w2 → Calls Tryz.prog 68 #[rdV pn r.N.length cn pl r.L.length cl E r.c r.a r.top] w2 fun e w' => e = .returned (tokV (pk E r.L)) ∧ Below w2.heap.size w2 w' := fun w2 hb2 =>
    rpeek_any pn r.N.length cn pl cl E r.c r.a r.top w2 r.L (h1.row.below hb2) h4.1
  by_cases hc : r.c = 0
  · have := ris_ok pn r.N.length cn pl r.L.length cl E r.a r.top w s (bstr (pk E r.L).t) (pk E r.L).k (pk E r.L).v (pk E r.L).a (by rw [hc] at hp; exact hp)
    rw [hc]
    refine this.mono fun e w' ⟨he, hb⟩ => ⟨?_, hb⟩
    rw [he]
    refine ret_bool ?_
    unfold isR okR
    rw [decide_eq_true hc, Bool.true_and, bstr_back]
    congr 1
    · rw [Bool.eq_iff_iff, decide_eq_true_eq, decide_eq_true_eq]; omega
    · rw [Bool.eq_iff_iff, beq_iff_eq, decide_eq_true_eq]
  · have := ris_bad pn r.N.length cn pl r.L.length cl E r.c r.a r.top w s (bstr (pk E r.L).t) (pk E r.L).k (pk E r.L).v (pk E r.L).a hc hp
    refine this.mono fun e w' ⟨he, hb⟩ => ⟨?_, hb⟩
    rw [he]
    refine ret_bool ?_
    unfold isR okR
    rw [decide_eq_false hc, Bool.false_and]
theorem RdAt.skip (h : RdAt E A w r v) : Calls Tryz.prog 70 #[v] w (RdRet E A w (skipR r)) := by
  by_cases hc : r.c = 0
  · obtain ⟨pn, cn, pl, cl, ns, rfl, h1, h2, h3, h4, h5, h6⟩ := h
    have e : skipR r = { r with L := r.L.tail } := by unfold skipR okR; rw [decide_eq_true hc]; exact if_pos rfl
    rw [e]
    have := skip_tk (A := A) pn r.N.length cn pl cl E r.a r.top w r.L h1 h4.1 h2 h3
    rw [hc]
    refine this.mono fun e w' ⟨pl', cl', he, g1, g2, g3, hb⟩ => ?_
    rw [he]
    exact RdRet.of (v := rdV pn r.N.length cn pl' r.L.tail.length cl' E 0 r.a r.top) ⟨pn, cn, pl', cl', ns, rfl, g1.agr (.below hb), g2, g3, ⟨by rw [List.length_tail]; have := h4.1; omega, fun x hx => h4.2 x (List.mem_of_mem_tail hx)⟩, h5.agr (.below hb), h6⟩ hb
  · have e : skipR r = r := by unfold skipR okR; rw [decide_eq_false hc]; rfl
    rw [e]
    have h' := h
    obtain ⟨pn, cn, pl, cl, ns, rfl, _⟩ := h
    exact (rskip_bad pn r.N.length cn pl r.L.length cl E r.c r.a r.top w hc).mono fun e w' ⟨he, hb⟩ => he ▸ RdRet.of (h'.agr (.below hb)) hb
theorem RdAt.stop (h : RdAt E A w r v) (code : Int) : Calls Tryz.prog 74 #[v, .int .i64 code] w (RdRet E A w (stopR E code r)) := by
  have h' := h
  obtain ⟨pn, cn, pl, cl, ns, rfl, h1, h2, h3, h4, h5⟩ := h
  by_cases hc : r.c = 0
  · have e : stopR E code r = { r with c := code, a := (pk E r.L).a } := by unfold stopR okR; rw [decide_eq_true hc]; exact if_pos rfl
    rw [e, hc]
    refine (rstop_ok pn r.N.length cn pl r.L.length cl E r.a r.top w (bstr (pk E r.L).t) (pk E r.L).k (pk E r.L).v (pk E r.L).a code (fun w2 hb2 => rpeek_any pn r.N.length cn pl cl E 0 r.a r.top w2 r.L (h1.row.below hb2) h4.1)).mono
      fun e w' ⟨he, hb⟩ => he ▸ RdRet.of ⟨pn, cn, pl, cl, ns, rfl, h1.agr (.below hb), h2, h3, h4, h5.1.agr (.below hb), h5.2⟩ hb
  · have e : stopR E code r = r := by unfold stopR okR; rw [decide_eq_false hc]; rfl
    rw [e]
    exact (rstop_bad pn r.N.length cn pl r.L.length cl E r.c r.a r.top code w hc).mono fun e w' ⟨he, hb⟩ => he ▸ RdRet.of (h'.agr (.below hb)) hb
end
end Go.Proofs.YtbjacclfhgnffaaGreatDoor
