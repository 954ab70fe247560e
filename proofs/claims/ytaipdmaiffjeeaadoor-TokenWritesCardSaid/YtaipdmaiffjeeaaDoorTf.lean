/-
  The walk of the law TokenWrites: it returns true, and nothing that was there has turned.
-/
import Derived.Test.YtaipdmaiffjeeaaDoorTe
namespace Go.Proofs.YtaipdmaiffjeeaaDoor
open Go.RowKit

set_option maxHeartbeats 4000000 in
set_option maxRecDepth 100000 in
theorem writes_walk (l : List I4) (v : Value) (w : World) (hread : ReadsI w v l) (hcap : l.length ≤ 140737488355328) (hlen : ∀ j, (h : j < l.length) → l[j].t.length ≤ 140737488355328) (te : TypeId) (pe : Value) (hv : w.cell? ⟨2, 0, none⟩ = some (.iface te pe)) :
    Calls Tryd.prog 4 #[v] w fun e w' => e = .returned (.bool true) ∧ Below w.heap.size w w' := by
  have hT := fun w1 hb hv => text_any l v w1 (hread.below hb) hcap hlen te pe hv
  have hU := fun w1 hb => rtext_any l v w1 (hread.below hb) hcap hlen
  have hT0 := hT w (Below.refl _ _) hv
  obtain ⟨p, cap, rfl, _⟩ := hread
  obtain ⟨m, hmm⟩ : ∃ m, m = l.length := ⟨_, rfl⟩
  rw [← hmm] at hcap hT0 hU hT ⊢
  have Hm := Lib.hid hmm
  clear hT hmm hlen
  by_cases hbig : 1000 < m
  · clear hT0 hU
    go_enter Tryd.func4, Tryd.ntmps4
    go_wp2
    go_ret
    exact ⟨rfl, Below.refl _ _⟩
  · go_enter Tryd.func4, Tryd.ntmps4
    go_wp2_with (go_at_call 12; refine hT0.mono ?_)
    rintro e w1 ⟨hb, out, c, a, rfl, hr⟩
    have HR := Lib.hid hr
    have HB := Lib.hid hb
    have hU1 := hU (w1.alloc (.cells #[.int .i64 c, .int .i64 a] 24)) (hb.trans (((Below.refl _ _).alloc (Nat.le_refl _) _).mono hb.size))
    clear hr hb hT0 hU
    go_wp2_with (go_at_call 13; refine hU1.mono ?_)
    rintro e w2 ⟨hb', out', c', a', rfl, hr'⟩
    obtain ⟨rfl, rfl, rfl⟩ := TxR.det HR.out hr'
    obtain ⟨c0, c1, _, _, l1⟩ := fault_cells hb'
    have hbw : Below w.heap.size w w2 := (HB.out.alloc HB.out.size _).trans (hb'.mono (by have := HB.out.size; simp; omega))
    have HBW := Lib.hid hbw
    generalize bstr out = x at *
    clear hr' hb' hbw hU1
    go_wp2
    go_ret
    exact ⟨rfl, HBW.out.alloc HBW.out.size _⟩
end Go.Proofs.YtaipdmaiffjeeaaDoor
