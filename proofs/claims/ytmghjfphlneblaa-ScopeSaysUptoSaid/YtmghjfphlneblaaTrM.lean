/-
  The contract of begins at every tree, and of Check.
-/
import Derived.Test.YtmghjfphlneblaaTrL
namespace Go.Proofs.Ytmghjfphlneblaa.Tr
open Go.RowKit

/-- what is asked of a tree's lengths -/
def Fit (l : List Nd) (cap : Nat) : Prop := l.length ≤ cap ∧ l.length ≤ 140737488355328 ∧ ∀ j, (h : j < l.length) → l[j].c.length ≤ 1000000000000000000
theorem begins_any (l : List Nd) (p : Option Addr) (cap : Nat) (w : World) (hT : Tr w p l) (hf : Fit l cap) : Calls Try.prog 15 #[.agg #[.slice p l.length cap]] w (BsPost l w) := by
  by_cases h : l.length < 1 ∨ 600 < l.length
  · exact begins_count l p cap w hf.2.1 h
  · obtain ⟨b, o, rfl, hb, hN⟩ := hT.1 (by omega)
    exact begins_main l b o cap w (by omega) (by omega) hf.1 hb hN hT.2 hf.2.2

/-- what Check tells of a tree -/
def CkPost (l : List Nd) (w : World) (e : Ending) (w' : World) : Prop :=
  Below w.heap.size w w' ∧ ∃ c a : Int, e = .returned (.agg #[.int .i64 c, .int .i64 a]) ∧ CkR l c a

theorem box_one {w w' : World} {x0 : Value} {t : TypeId} (hb : Below (w.alloc (.cells #[x0] t)).heap.size (w.alloc (.cells #[x0] t)) w') : Blk w' w.heap.size t #[x0] :=
  (Blk.new w t #[x0]).below hb (by simp)

theorem fault_set {w : World} {g : Nat} {x0 x1 : Value} (h : Blk w g 27 #[x0, x1]) (c a : Value) (o : Obj) : Blk (((w.setCell ⟨g, 0, none⟩ c).setCell ⟨g, 1, none⟩ a).alloc o) g 27 #[c, a] := by
  have h1 := ((h.set_ 0 c).set_ 1 a).alloc o
  simpa using h1

set_option maxHeartbeats 4000000 in
set_option maxRecDepth 100000 in
theorem check_any (l : List Nd) (p : Option Addr) (cap : Nat) (w : World) (hT : Tr w p l) (hf : Fit l cap) : Calls Try.prog 7 #[.agg #[.slice p l.length cap]] w (CkPost l w) := by
  have h1 : Below w.heap.size w ((w.alloc (.cells #[.slice p l.length cap] 24)).alloc (.cells #[.int .i64 0, .int .i64 0] 27)) := ((Below.refl _ _).alloc (Nat.le_refl _) _).alloc (by simp) _
  have hbg := begins_any l p cap ((w.alloc (.cells #[.slice p l.length cap] 24)).alloc (.cells #[.int .i64 0, .int .i64 0] 27)) (hT.below h1) hf
  have H1 := Lib.hid h1
  clear h1
  obtain ⟨Q, hQ⟩ : ∃ Q : Ending → World → Prop, Q = CkPost l w := ⟨_, rfl⟩
  have HQ := Lib.hid hQ
  rw [← hQ]
  clear hQ
  generalize l.length = n at *
  go_enter Try.func7, Try.ntmps7
  go_wp2_with (go_at_call 15; refine hbg.mono ?_)
  intro e w3 hp
  obtain ⟨hb3, v, c, a, rfl, hr, -⟩ := hp
  have HR := Lib.hid hr
  have hY : Blk w3 (w.heap.size + 1) 27 #[.int .i64 0, .int .i64 0] := by
    have h := Blk.new (w.alloc (.cells #[.slice p n cap] 24)) 27 #[.int .i64 0, .int .i64 0]
    rw [World.size_alloc] at h
    exact h.below hb3 (by simp)
  have HB3 := Lib.hid (H1.out.trans (hb3.mono (by simp; omega)))
  have y0 : w3.cell? ⟨w.heap.size + 1, 0, none⟩ = some (.int .i64 0) := by rw [hY.cell]; rfl
  have y1 : w3.cell? ⟨w.heap.size + 1, 1, none⟩ = some (.int .i64 0) := by rw [hY.cell]; rfl
  have g0 := hY.frozen 0
  have g1 := hY.frozen 1
  have lY := hY.lt
  have hZ := fault_set hY (.int .i64 c) (.int .i64 a) (.cells #[.int .i64 c, .int .i64 a] 27)
  have z0 := hZ.cell 0
  have z1 := hZ.cell 1
  have Z0 := Lib.hid z0
  have Z1 := Lib.hid z1
  clear hr hb3 hbg hY hZ z0 z1
  go_wp2
  have z0 := Z0.out
  have z1 := Z1.out
  refine bodyPost_ret (v := .agg #[.int .i64 c, .int .i64 a]) (by simp [results, Try.results7, go_sem, z0, z1]) rfl ?_
  rw [HQ.out]
  exact ⟨((HB3.out.setCell (p := ⟨w.heap.size + 1, 0, none⟩) (by simp) _).setCell (p := ⟨w.heap.size + 1, 1, none⟩) (by simp) _).alloc (by simp; omega) _, c, a, rfl, HR.out⟩
end Go.Proofs.Ytmghjfphlneblaa.Tr
