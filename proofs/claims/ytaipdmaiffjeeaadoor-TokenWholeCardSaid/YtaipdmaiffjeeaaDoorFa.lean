/-
  Contract of the closed fact with which the further laws begin: it is true.
-/
import Derived.Test.YtaipdmaiffjeeaaDoorTc
import Derived.Test.YtaipdmaiffjeeaaDoorPb
namespace Go.Proofs.YtaipdmaiffjeeaaDoor
open Go.RowKit

def factT : List UInt8 := [120, 49, 43, 61, 48, 120, 49, 102]
def factL : List T4 := [⟨1, [120, 49], 0, 0⟩, ⟨4, [43, 61], 0, 2⟩, ⟨2, [48, 120, 49, 102], 31, 4⟩]
theorem fact_scans : Scans 0 factT [] (.ok factL) := by
  refine .tok (k := 1) (n := 2) (v := 0) (by rfl) (by decide) (by decide) (by rfl) ?_
  refine .tok (k := 4) (n := 2) (v := 0) (by rfl) (by decide) (by decide) (by rfl) ?_
  refine .tok (k := 2) (n := 4) (v := 31) (by rfl) (by decide) (by decide) (by rfl) ?_
  exact .done _ _
theorem fact_sc : ScR factT 0 0 factL := Or.inr ⟨by decide, Or.inl ⟨fact_scans, rfl, rfl⟩⟩
theorem fact_tx : TxR (factL.map toI) [120, 49, 32, 43, 61, 32, 48, 120, 49, 102] 0 0 :=
  Or.inr (Or.inr ⟨by decide, fun j h => scans_good fact_scans (fun _ h => absurd h (by simp)) _ rfl |> fun H => by
      have hj : j < factL.length := by simpa using h
      have := H factL[j] (List.getElem_mem hj)
      simpa using this, Or.inr ⟨by decide, by decide, rfl, rfl⟩⟩)

set_option maxHeartbeats 4000000 in
set_option maxRecDepth 100000 in
theorem fact_any (w : World) (hsh : w.ShapedOpen Tryd.prog) (te : TypeId) (pe : Value) (hv : w.cell? ⟨2, 0, none⟩ = some (.iface te pe)) :
    Calls Tryd.prog 14 #[] w fun e w' => e = .returned (.bool true) ∧ Below w.heap.size w w' := by
  go_enter Tryd.func14, Tryd.ntmps14
  go_wp2_with (go_at_call 9; refine (scan_any ⟨#[120, 49, 43, 61, 48, 120, 49, 102]⟩ _ (by decide) hsh te pe hv).mono ?_)
  intro e w1 hp
  obtain ⟨v, c, a, l, rfl, hr, hread, hlen, hb⟩ := sc_use hp
  clear hp
  obtain ⟨rfl, rfl, rfl⟩ := ScR.det fact_sc hr
  have hv1 : w1.cell? ⟨2, 0, none⟩ = some (.iface te pe) := (hb.cell (p := ⟨2, 0, none⟩) (Lib.lt_of_cell hv)).trans hv
  have hT := text_any (factL.map toI) v (w1.alloc (.cells #[.int .i64 0, .int .i64 0] 24)) ((hread.below ((Below.refl _ _).alloc (Nat.le_refl _) _)).toI) (by decide) (fun j h => by
      have : ∀ t ∈ factL.map toI, t.t.length ≤ 140737488355328 := by decide
      exact this _ (List.getElem_mem h)) te pe (hv_alloc hv1 _)
  obtain ⟨p, cap, rfl, hc⟩ := hread
  have e3 : factL.length = 3 := rfl
  rw [e3] at hT hc ⊢
  have HC := Lib.hid hc
  have HB := Lib.hid hb
  clear hr hlen hc hb e3
  go_wp2_with (go_at_call 12; refine hT.mono ?_)
  rintro e w2 ⟨hb', out, c', a', rfl, hr'⟩
  obtain ⟨rfl, rfl, rfl⟩ := TxR.det fact_tx hr'
  obtain ⟨b, o, rfl, hbl, hcell⟩ := HC.out (by decide)
  obtain ⟨c0, c1, _, _, l1⟩ := fault_cells hb'
  have hb1 : Below w1.heap.size w1 w2 := ((Below.refl _ _).alloc (Nat.le_refl _) _).trans (hb'.mono (by simp))
  have d0 : w2.cell? ⟨b, o + 8 + 2, none⟩ = some (.int .i64 31) := (hb1.cell (p := ⟨b, o + 10, none⟩) hbl).trans (hcell 10 (.int .i64 31) (by rfl))
  have d1 : w2.cell? ⟨b, o + 8 + 3, none⟩ = some (.int .i64 4) := (hb1.cell (p := ⟨b, o + 11, none⟩) hbl).trans (hcell 11 (.int .i64 4) (by rfl))
  have hbw : Below w.heap.size w w2 := HB.out.trans (hb1.mono HB.out.size)
  have lb2 : b < w2.heap.size := Nat.lt_trans hbl l1
  have hq : ((bstr [120, 49, 32, 43, 61, 32, 48, 120, 49, 102]).toList == [120, 49, 32, 43, 61, 32, 48, 120, 49, 102]) = true := by rw [Lib.toList_data]; rfl
  have HBW := Lib.hid hbw
  clear hT hr' hb' hb1 hbw hcell
  go_wp2
  go_ret
  exact ⟨rfl, HBW.out.alloc HBW.out.size _⟩
end Go.Proofs.YtaipdmaiffjeeaaDoor
