/-
  How the document's search for names lies in memory; contracts of what is wrong, and of a name that is there already.
-/
import Derived.Test.YtmghjfphlneblaaSp
import Derived.Test.YtmghjfphlneblaaSb
import Derived.Laws.AppendOwn
import Derived.Laws.OwnMore
import Derived.Deep.QuietTactic
import Derived.BigQuiet
namespace Go.Proofs.Ytmghjfphlneblaa.Sc
open Go.RowKit
open Tr

def intV (l : List Int) : List Value := l.map (Value.int .i64)
theorem intV_len (l : List Int) : (intV l).length = l.length := by simp [intV]
section
variable {w w' : World} {b0 n : Nat} {v : Value} {xs : List Value}
theorem row_far (h : w.ownsRow b0 3 1 v n xs) {B : Nat} {t : TypeId} {cs : Array Value} (hB : Blk w B t cs) (ht : t ≠ 3) (k : Nat) (u : Value) : (w.setCell ⟨B, k, none⟩ u).ownsRow b0 3 1 v n xs := by
  refine ⟨h.1, ?_⟩
  rcases h.2 with h | ⟨g, cap, cur, e, h1, h2, h3⟩
  · exact Or.inl h
  · refine Or.inr ⟨g, cap, cur, e, h1, ?_, h3⟩
    rw [Below.heap_setCell w ⟨B, k, none⟩ u g (fun e => ?_)]
    · exact h2
    · have e2 : g = B := e
      subst e2; exact ht (Blk.type hB h2)
theorem row_below (h : w.ownsRow b0 3 1 v n xs) (hb : Below w.heap.size w w') : w'.ownsRow b0 3 1 v n xs := by
  refine ⟨h.1, ?_⟩
  rcases h.2 with h | ⟨g, cap, cur, e, h1, h2, h3⟩
  · exact Or.inl h
  · exact Or.inr ⟨g, cap, cur, e, h1, (hb.block g (lt_of_block h2)).trans h2, h3⟩
theorem row_at {p : Option Addr} {cap : Nat} {l : List Int} (h : w.ownsRow b0 3 1 (.slice p n cap) n (intV l)) (h0 : 0 < n) : ∃ g, p = some ⟨g, 0, none⟩ ∧ b0 ≤ g ∧ g < w.heap.size ∧ n ≤ cap ∧ cap ≤ maxLen ∧ l.length = n ∧ ∀ j, (hj : j < l.length) → w.cell? ⟨g, j, none⟩ = some (.int .i64 l[j]) ∧ w.frozen? ⟨g, j, none⟩ = false := by
  have hlen : l.length = n := by have := h.1; rw [intV_len] at this; omega
  rcases h.2 with ⟨_, h⟩ | ⟨g, cap', cur, e, h1, h2, h3, h4, h5, h6⟩
  · omega
  · cases e
    refine ⟨g, rfl, h1, lt_of_block h2, h3, h4, hlen, fun j hj => ⟨?_, by simp [World.frozen?, h2]⟩⟩
    rw [cell_of_row w g j cur 3 (0, 0) h2]
    have : (cur.toList.take (n * 1))[j]? = some (.int .i64 l[j]) := by rw [h6]; simp [intV, hj]
    rw [List.getElem?_take_of_lt (by omega)] at this
    simpa using this
theorem row_nil {p : Option Addr} {cap n : Nat} (h : w.ownsRow b0 3 1 (.slice p n cap) n xs) (h0 : n = 0) : xs = [] := List.eq_nil_of_length_eq_zero (by rw [h.1, h0])
end
/-- the document's search -/
structure Rf (w0 w : World) (l : List Nd) (p : Option Addr) (E : Env) (of : List Int) (vh vr : Value) (O oc : Nat) : Prop where
  tr0 : Tr w0 p l
  bel : Below w0.heap.size w0 w
  has : w.ownsRow w0.heap.size 3 1 vh E.length (intV (hasL E))
  rom : w.ownsRow w0.heap.size 3 1 vr E.length (intV (roomL E))
  ofr : w.ownsRow w0.heap.size 3 1 (.slice (some ⟨O, 0, none⟩) l.length oc) l.length (intV of)
  sepH : vh.ownBlock ≠ some O
  sepR : vr.ownBlock ≠ some O
  shpH : ∃ ph kh, vh = .slice ph E.length kh
  shpR : ∃ pr kr, vr = .slice pr E.length kr
  env : ∀ x ∈ E, x.1 < l.length
  uni : Uni l E
section
variable {w0 w w' : World} {l : List Nd} {p : Option Addr} {E : Env} {of : List Int} {vh vr : Value} {O oc : Nat}
theorem Rf.tr (h : Rf w0 w l p E of vh vr O oc) : Tr w p l := h.tr0.below h.bel
theorem Rf.below (h : Rf w0 w l p E of vh vr O oc) (hb : Below w.heap.size w w') : Rf w0 w' l p E of vh vr O oc :=
  { h with bel := h.bel.trans (hb.mono h.bel.size), has := row_below h.has hb, rom := row_below h.rom hb, ofr := row_below h.ofr hb }
theorem Rf.alloc (h : Rf w0 w l p E of vh vr O oc) (o : Obj) : Rf w0 (w.alloc o) l p E of vh vr O oc := h.below ((Below.refl _ _).alloc (Nat.le_refl _) _)
theorem Rf.box (h : Rf w0 w l p E of vh vr O oc) {B : Nat} {t : TypeId} {cs : Array Value} (hB : Blk w B t cs) (h0 : w0.heap.size ≤ B) (ht : t ≠ 3) (k : Nat) (u : Value) : Rf w0 (w.setCell ⟨B, k, none⟩ u) l p E of vh vr O oc :=
  { h with bel := h.bel.setCell (p := ⟨B, k, none⟩) h0 u, has := row_far h.has hB ht k u, rom := row_far h.rom hB ht k u, ofr := row_far h.ofr hB ht k u }
theorem Rf.drew (h : Rf w0 w l p E of vh vr O oc) : Rf w0 w.drew l p E of vh vr O oc := h.below (Below.refl _ _).drew
end
/-- the value -/
def rmV (ph pr : Option Addr) (n kh kr : Nat) (now c a : Int) (O ln oc : Nat) : Value := .agg #[.slice ph n kh, .slice pr n kr, .int .i64 now, .int .i64 c, .int .i64 a, .slice (some ⟨O, 0, none⟩) ln oc]

set_option maxHeartbeats 400000 in
theorem rfault_any (c a : Int) (w : World) :
    Calls Try.prog 12 #[.int .i64 c, .int .i64 a] w fun e w' => e = .returned (.agg #[.int .i64 c, .int .i64 a]) ∧ Below w.heap.size w w' := by
  go_enter Try.func12, Try.ntmps12
  go_wp2
  refine bodyPost_ret (v := .agg #[.int .i64 c, .int .i64 a]) (by simp [results, Try.results12, go_sem]) rfl ?_
  exact ⟨rfl, (Below.refl _ _).alloc (Nat.le_refl _) _⟩
theorem Rf.nodeAt {w0 w : World} {l : List Nd} {p : Option Addr} {E : Env} {of : List Int} {vh vr : Value} {O oc : Nat} (h : Rf w0 w l p E of vh vr O oc) {k : Nat} (hk : k < l.length) : ∃ b o, p = some ⟨b, o, none⟩ ∧ b < w0.heap.size ∧ ∀ j, (hj : j < l.length) → ∀ w', Below w0.heap.size w0 w' → NodeAt w' b (o + j * 6) l[j] := by
  obtain ⟨b, o, hp, hb, hN⟩ := h.tr0.1 (by omega)
  exact ⟨b, o, hp, hb, fun j hj w' hb' => (hN j hj).below hb' hb⟩
end Go.Proofs.Ytmghjfphlneblaa.Sc
