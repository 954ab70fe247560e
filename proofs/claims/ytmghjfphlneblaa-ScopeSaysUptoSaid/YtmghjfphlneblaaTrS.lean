/-
  The contract of the document's wrong at every node, and of the document's Tree.
-/
import Derived.Test.YtmghjfphlneblaaTrRa
import Derived.Test.YtmghjfphlneblaaTrRb
import Derived.Test.YtmghjfphlneblaaTrRc
namespace Go.Proofs.Ytmghjfphlneblaa.Tr
open Go.RowKit

theorem wrong_any (l : List Nd) (i : Nat) (hi : i < l.length) (b o cap : Nat) (w : World) (hl : l.length ≤ 1000) (hb : b < w.heap.size) (hN : ∀ j, (h : j < l.length) → NodeAt w b (o + j * 6) l[j]) (hK : ∀ j, (h : j < l.length) → KidsAt w l[j].p l[j].c)
    (hg : ∀ j, j < i → codeAt l j = 0) (hm : l[i].c.length ≤ 1099511627776) (ht : l[i].t.size ≤ 1000000000000000000) :
    Calls Try.prog 23 #[.agg #[.slice (some ⟨b, o, none⟩) l.length cap], .int .i64 i] w fun e w' => e = .returned (.int .i64 (codeAt l i)) ∧ Below w.heap.size w w' := by
  have hc : codeAt l i = nodeC l i l[i] := codeAt_get hi
  cases hk : kindB l[i].k with
  | false =>
    refine (wrong_kind l[i] i b o l.length cap w hi hb (hN i hi) hk).mono fun e w' ⟨he, hbel⟩ => ⟨?_, hbel⟩
    rw [he, hc]; unfold nodeC; rw [if_pos hk]
  | true =>
    have hh := high_same (k := l[i].k) hm
    cases hs : inB (l[i].c.length : Int) (lowV l[i].k) (highV 1099511627776 l[i].k) with
    | false =>
      have hs' : (l[i].c.length : Int) < lowV l[i].k ∨ highV 9223372036854775807 l[i].k < l[i].c.length := Decidable.byContradiction fun h => by rw [hh.2 h] at hs; cases hs
      refine (wrong_size l[i] i b o l.length cap w hi hb (hN i hi) hk hs).mono fun e w' ⟨he, hbel⟩ => ⟨?_, hbel⟩
      rw [he, hc]; unfold nodeC; rw [if_neg (by rw [hk]; simp), if_pos hs']
    | true =>
      have hs' := hh.1 hs
      have hn : codeAt l i = if wayOf l i = none then 5 else fieldC l[i] := by rw [hc]; unfold nodeC; rw [if_neg (by rw [hk]; simp), if_neg hs']
      have hfin : ∀ e w', WrPost l i l[i] w e w' → e = .returned (.int .i64 (codeAt l i)) ∧ Below w.heap.size w w' := fun e w' ⟨hbel, h⟩ => by
        rcases h with ⟨hw, he⟩ | ⟨hw, he⟩
        · rw [if_pos hw] at hn; exact ⟨by rw [hn]; exact he, hbel⟩
        · rw [if_neg hw] at hn; exact ⟨by rw [hn]; exact he, hbel⟩
      rcases kind_split hk with k1 | ⟨k1, k2⟩ | ⟨k1, k2, k3⟩
      · exact (wrong_main_a l i hi l[i] rfl b o cap w hl hb hN hK hg hm ht k1 hs).mono hfin
      · exact (wrong_main_b l i hi l[i] rfl b o cap w hl hb hN hK hg hm ht k1 k2 hs).mono hfin
      · exact (wrong_main_c l i hi l[i] rfl b o cap w hl hb hN hK hg hm ht k1 k2 k3 hs).mono hfin

set_option maxHeartbeats 1000000 in
theorem fault_any (c a : Int) (w : World) :
    Calls Try.prog 12 #[.int .i64 c, .int .i64 a] w fun e w' => e = .returned (.agg #[.int .i64 c, .int .i64 a]) ∧ Below w.heap.size w w' := by
  go_enter Try.func12, Try.ntmps12
  go_wp2
  refine bodyPost_ret (v := .agg #[.int .i64 c, .int .i64 a]) (by simp [results, Try.results12, go_sem]) rfl ?_
  exact ⟨rfl, (Below.refl _ _).alloc (Nat.le_refl _) _⟩
/-- what is asked of a tree's lengths besides -/
def Fit2 (l : List Nd) : Prop := ∀ j, (h : j < l.length) → l[j].c.length ≤ 1099511627776 ∧ l[j].t.size ≤ 1000000000000000000

set_option maxHeartbeats 4000000 in
set_option maxRecDepth 100000 in
theorem rtree_count (l : List Nd) (p : Option Addr) (cap : Nat) (w : World) (hlen : l.length ≤ 140737488355328) (hbad : l.length < 1 ∨ 600 < l.length) :
    Calls Try.prog 11 #[.agg #[.slice p l.length cap]] w (CkPost l w) := by
  have HR : Hid (CkR l 2 0) := Or.inl ⟨hbad, rfl, rfl⟩
  obtain ⟨Q, hQ⟩ : ∃ Q : Ending → World → Prop, Q = CkPost l w := ⟨_, rfl⟩
  have HQ := Lib.hid hQ
  rw [← hQ]
  clear hQ
  generalize l.length = n at *
  have hi : inB (n : Int) 1 600 = false := decide_eq_false (by omega)
  have HW : Hid (Below w.heap.size w ((w.alloc (.cells #[.slice p n cap] 24)).alloc (.cells #[.int .i64 0, .int .i64 0] 27))) := ((Below.refl _ _).alloc (Nat.le_refl _) _).alloc (by simp) _
  have HY : Hid (Blk ((w.alloc (.cells #[.slice p n cap] 24)).alloc (.cells #[.int .i64 0, .int .i64 0] 27)) (w.heap.size + 1) 27 #[.int .i64 0, .int .i64 0]) := by
    have h := Blk.new (w.alloc (.cells #[.slice p n cap] 24)) 27 #[.int .i64 0, .int .i64 0]
    rw [World.size_alloc] at h
    exact h
  go_enter Try.func11, Try.ntmps11
  go_wp2_with (first | (go_at_call 22; refine (in18_any _ _ _ _).mono ?_; rintro e w' ⟨rfl, rfl⟩) | (go_at_call 12; refine (fault_any _ _ _).mono ?_))
  first | rintro e w3 rfl hb3 | rintro e w3 ⟨rfl, hb3⟩
  have hY3 := HY.out.below hb3 (by simp)
  have HB3 := Lib.hid (HW.out.trans (hb3.mono (by simp; omega)))
  have y0 : w3.cell? ⟨w.heap.size + 1, 0, none⟩ = some (.int .i64 0) := by rw [hY3.cell]; rfl
  have y1 : w3.cell? ⟨w.heap.size + 1, 1, none⟩ = some (.int .i64 0) := by rw [hY3.cell]; rfl
  have g0 := hY3.frozen 0
  have g1 := hY3.frozen 1
  have lY := hY3.lt
  clear hb3 hY3
  go_wp2
  refine bodyPost_ret (v := .agg #[.int .i64 2, .int .i64 0]) (by simp [results, Try.results11, go_sem, y0, y1]) rfl ?_
  rw [HQ.out]
  exact ⟨(HB3.out.setCell (p := ⟨w.heap.size + 1, 0, none⟩) (by simp) _).setCell (p := ⟨w.heap.size + 1, 1, none⟩) (by simp) _, 2, 0, rfl, HR.out⟩
end Go.Proofs.Ytmghjfphlneblaa.Tr
