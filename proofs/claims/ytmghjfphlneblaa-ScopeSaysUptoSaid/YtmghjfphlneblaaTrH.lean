/-
  How trees read in memory; the contract of begin: what is wrong with one node, where its part begins.
-/
import Derived.Test.YtmghjfphlneblaaTrG
import Derived.StillTailTactics
import Derived.Outline
namespace Go.Proofs.Ytmghjfphlneblaa.Tr
open Go.RowKit

def KidsAt (w : World) (p : Option Addr) (c : List Int) : Prop :=
  0 < c.length → ∃ b o, p = some ⟨b, o, none⟩ ∧ b < w.heap.size ∧ ∀ j, (h : j < c.length) → w.cell? ⟨b, o + j, none⟩ = some (.int .i64 c[j])
def NodeAt (w : World) (b o : Nat) (x : Nd) : Prop :=
  w.cell? ⟨b, o, none⟩ = some (.int .i64 x.k) ∧ w.cell? ⟨b, o + 1, none⟩ = some (.string x.t) ∧ w.cell? ⟨b, o + 2, none⟩ = some (.int .i64 x.n) ∧
  w.cell? ⟨b, o + 3, none⟩ = some (.int .i64 x.z) ∧ w.cell? ⟨b, o + 4, none⟩ = some (.slice x.p x.c.length x.cap) ∧ w.cell? ⟨b, o + 5, none⟩ = some (.int .i64 x.a)
def Tr (w : World) (p : Option Addr) (l : List Nd) : Prop :=
  (0 < l.length → ∃ b o, p = some ⟨b, o, none⟩ ∧ b < w.heap.size ∧ ∀ i, (h : i < l.length) → NodeAt w b (o + i * 6) l[i]) ∧ ∀ i, (h : i < l.length) → KidsAt w l[i].p l[i].c
theorem KidsAt.below {w w' : World} {p : Option Addr} {c : List Int} (h : KidsAt w p c) (hb : Below w.heap.size w w') : KidsAt w' p c := fun h0 => by
  obtain ⟨b, o, rfl, hl, hc⟩ := h h0
  exact ⟨b, o, rfl, Nat.lt_of_lt_of_le hl hb.size, fun j hj => (hb.cell (p := ⟨b, o + j, none⟩) hl).trans (hc j hj)⟩
theorem NodeAt.below {w w' : World} {b o : Nat} {x : Nd} (h : NodeAt w b o x) (hb : Below w.heap.size w w') (hl : b < w.heap.size) : NodeAt w' b o x := by
  obtain ⟨h0, h1, h2, h3, h4, h5⟩ := h
  exact ⟨(hb.cell (p := ⟨b, o, none⟩) hl).trans h0, (hb.cell (p := ⟨b, o + 1, none⟩) hl).trans h1, (hb.cell (p := ⟨b, o + 2, none⟩) hl).trans h2, (hb.cell (p := ⟨b, o + 3, none⟩) hl).trans h3, (hb.cell (p := ⟨b, o + 4, none⟩) hl).trans h4, (hb.cell (p := ⟨b, o + 5, none⟩) hl).trans h5⟩
theorem Tr.below {w w' : World} {p : Option Addr} {l : List Nd} (h : Tr w p l) (hb : Below w.heap.size w w') : Tr w' p l :=
  ⟨fun h0 => by
    obtain ⟨b, o, rfl, hl, hc⟩ := h.1 h0
    exact ⟨b, o, rfl, Nat.lt_of_lt_of_le hl hb.size, fun i hi => (hc i hi).below hb hl⟩, fun i hi => (h.2 i hi).below hb⟩

theorem lt_of_block {w : World} {g : Nat} {o : Obj} (h : w.heap[g]? = some o) : g < w.heap.size := by
  rcases Nat.lt_or_ge g w.heap.size with hlt | hge
  · exact hlt
  · rw [Array.getElem?_eq_none hge] at h; cases h
/-- what begin tells of a node -/
def BgPost (l : List Nd) (i : Nat) (w : World) (e : Ending) (w' : World) : Prop :=
  Below w.heap.size w w' ∧ ((codeAt l i = 0 ∧ e = .returned (.tuple #[.int .i64 (St l i), .int .i64 0])) ∨ (codeAt l i ≠ 0 ∧ e = .returned (.tuple #[.int .i64 0, .int .i64 (codeAt l i)])))

set_option maxHeartbeats 4000000 in
set_option maxRecDepth 100000 in
theorem begin_kind (x : Nd) (i b o cap B cnt : Nat) (w : World) (hi : i < 600) (hN : NodeAt w b (o + i * 6) x) (hk : kindB x.k = false) :
    Calls Try.prog 27 #[.slice (some ⟨b, o, none⟩) (i + 1) cap, .slice (some ⟨B, 0, none⟩) cnt cnt] w fun e w' => e = .returned (.tuple #[.int .i64 0, .int .i64 4]) ∧ Below w.heap.size w w' := by
  obtain ⟨k, t, n, z, p, kc, c, a⟩ := x
  obtain ⟨c0, c1, c2, c3, c4, c5⟩ := hN
  simp only at c0 c1 c2 c3 c4 c5 hk
  go_enter Try.func27, Try.ntmps27
  go_wp2_with (first | (go_at_call 41; refine (kind_any _ _).mono ?_; rintro e w' ⟨rfl, rfl⟩))
  go_ret2
  exact ⟨rfl, (Below.refl _ _).alloc (Nat.le_refl _) _⟩

set_option maxHeartbeats 4000000 in
set_option maxRecDepth 100000 in
theorem begin_size (x : Nd) (i b o cap B cnt : Nat) (w : World) (hi : i < 600) (hN : NodeAt w b (o + i * 6) x) (hk : kindB x.k = true) (hs : (x.c.length : Int) < lowV x.k ∨ highV 9223372036854775807 x.k < x.c.length) :
    Calls Try.prog 27 #[.slice (some ⟨b, o, none⟩) (i + 1) cap, .slice (some ⟨B, 0, none⟩) cnt cnt] w fun e w' => e = .returned (.tuple #[.int .i64 0, .int .i64 9]) ∧ Below w.heap.size w w' := by
  obtain ⟨k, t, n, z, p, kc, c, a⟩ := x
  obtain ⟨c0, c1, c2, c3, c4, c5⟩ := hN
  simp only at c0 c1 c2 c3 c4 c5 hk hs
  generalize c.length = m at *
  by_cases h1 : (m : Int) < lowV k
  · clear hs
    go_enter Try.func27, Try.ntmps27
    go_wp2_with (first | (go_at_call 41; refine (kind_any _ _).mono ?_; rintro e w' ⟨rfl, rfl⟩) | (go_at_call 42; refine (sizes_any _ _).mono ?_; rintro e w' ⟨rfl, rfl⟩))
    go_ret2
    exact ⟨rfl, (Below.refl _ _).alloc (Nat.le_refl _) _⟩
  · have h2 : highV 9223372036854775807 k < m := by rcases hs with h | h; exact absurd h h1; exact h
    clear hs
    go_enter Try.func27, Try.ntmps27
    go_wp2_with (first | (go_at_call 41; refine (kind_any _ _).mono ?_; rintro e w' ⟨rfl, rfl⟩) | (go_at_call 42; refine (sizes_any _ _).mono ?_; rintro e w' ⟨rfl, rfl⟩))
    go_ret2
    exact ⟨rfl, (Below.refl _ _).alloc (Nat.le_refl _) _⟩

end Go.Proofs.Ytmghjfphlneblaa.Tr
