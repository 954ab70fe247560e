/-
  The walk of the law TokenBack: it returns true, and nothing that was there has turned.
-/
import Derived.Test.YtaipdmaiffjeeaaDoorKa
namespace Go.Proofs.YtaipdmaiffjeeaaDoor
open Go.RowKit

theorem size_of_data {x : ByteArray} {L : List UInt8} (h : x = bstr L) : x.size = L.length := by rw [h, Lib.size_eq]; rfl
set_option maxHeartbeats 8000000 in
set_option maxRecDepth 100000 in
theorem back_walk (l : List I4) (v : Value) (s : ByteArray) (w : World) (hread : ReadsI w v l) (hcap : l.length ≤ 140737488355328) (hlen : ∀ j, (h : j < l.length) → l[j].t.length ≤ 140737488355328)
    (hs : s.size ≤ 140737488355328) (hsh : w.ShapedOpen Tryd.prog) (te : TypeId) (pe : Value) (hv : w.cell? ⟨2, 0, none⟩ = some (.iface te pe)) :
    Calls Tryd.prog 5 #[v, .string s] w fun e w' => e = .returned (.bool true) ∧ Below w.heap.size w w' := by
  have keep : ∀ w' : World, Below w.heap.size w w' → w'.ShapedOpen Tryd.prog ∧ w'.cell? ⟨2, 0, none⟩ = some (.iface te pe) := fun w' hb => ⟨sh_below hsh hb, (hb.cell (p := ⟨2, 0, none⟩) (Lib.lt_of_cell hv)).trans hv⟩
  have hreadB : ∀ w' : World, Below w.heap.size w w' → ReadsI w' v l := fun w' hb => hread.below hb
  have KE := Lib.hid keep
  have RB := Lib.hid hreadB
  clear keep hreadB
  go_enter Tryd.func5, Tryd.ntmps5
  go_wp2_with (go_at_call 14; refine (fact_any _ hsh te pe hv).mono ?_)
  rintro e w1 ⟨rfl, hb1⟩
  have hT := text_any l v w1 (RB.out w1 hb1) hcap hlen te pe (KE.out w1 hb1).2
  go_wp2_with (go_at_call 12; refine hT.mono ?_)
  rintro e w2 ⟨hb2, out, c, a, rfl, hr⟩
  have hB2 : Below w.heap.size w w2 := hb1.trans (hb2.mono hb1.size)
  have lw2 := hB2.size
  have hB2a : Below w.heap.size w (w2.alloc (.cells #[.int .i64 c, .int .i64 a] 24)) := hB2.alloc lw2 _
  have hbox : (w2.alloc (.cells #[.int .i64 c, .int .i64 a] 24)).heap[w2.heap.size]? = some (.cells #[.int .i64 c, .int .i64 a] 24 (0, 0)) := heap_alloc_new w2 _
  clear hT hb1 hb2 hB2
  rcases hr.ways with ⟨hc, rfl⟩ | ⟨rfl, rfl, hl800, hgood, hj2000, rfl⟩
  · have hne : (c != 0) = true := by simpa using hc
    have heq : (c == 0) = false := beq_of_ne hc
    have hq : (bstr []).toList.isEmpty = true := by rw [Lib.toList_data]; rfl
    have sh6 := (KE.out _ hB2a).1
    have hv6 := (KE.out _ hB2a).2
    have HB6 := Lib.hid hB2a
    have HX := Lib.hid hbox
    clear hr hB2a hbox hc
    go_wp2_with (go_at_call 9; refine (scan_any s _ hs sh6 te pe hv6).mono ?_)
    clear sh6 hv6 hne heq hq
    revert HB6 HX
    generalize hw6 : w2.alloc (.cells #[.int .i64 c, .int .i64 a] 24) = w6
    intro HB6 HX
    clear hw6
    intro e w7 hp
    obtain ⟨v7, c7, a7, l7, rfl, hr7, hk7, hl7, hb7⟩ := sc_use2 hp
    clear hp
    have lBA := lt_of_block HX.out
    have hB7 := HB6.out.trans (hb7.mono HB6.out.size)
    have hX7 := (hb7.block w2.heap.size lBA).trans HX.out
    obtain ⟨q0, q1, g0, g1, lX⟩ := fault_at hX7
    have hX8 := fault_set (c' := c7) (a' := a7) hX7
    have hk8 := (hk7.set (p := ⟨w2.heap.size, 0, none⟩) lBA (.int .i64 c7)).set (p := ⟨w2.heap.size, 1, none⟩) lBA (.int .i64 a7)
    have hB8 := (hB7.setCell (p := ⟨w2.heap.size, 0, none⟩) lw2 (.int .i64 c7)).setCell (p := ⟨w2.heap.size, 1, none⟩) lw2 (.int .i64 a7)
    rcases hr7.ways with ⟨hc7, rfl⟩ | ⟨rfl, rfl, hL, hS⟩
    · obtain ⟨p7, cap7, rfl⟩ : ∃ p cap, v7 = .slice p 0 cap := by
        obtain ⟨p, cap, h, _⟩ := hk7.here
        exact ⟨p, cap, h⟩
      have hne7 : (c7 != 0) = true := by simpa using hc7
      have HB8 := Lib.hid hB8
      clear hr7 hk7 hb7 hB7 hX7 hX8 hk8 hB8 HX HB6 hc7 hl7
      go_wp2
      go_ret
      exact ⟨rfl, HB8.out⟩
    · have hgood7 := read_good hS
      have hl7m : (l7.map toI).length ≤ 800 := by rw [List.length_map]; exact hl7
      have hsm : ∀ j, (h : j < (l7.map toI).length) → (l7.map toI)[j].t.length ≤ 140737488355328 := fun j h => by
        have := hS.small 2000 (fun _ h => by simp at h) hL l7 rfl (l7[j]'(by simpa using h)) (List.getElem_mem _)
        rw [List.getElem_map]
        exact Nat.le_trans this (by omega)
      have hT8 := text_any (l7.map toI) v7 _ hk8.here (by omega) hsm te pe (KE.out _ hB8).2
      have HB8 := Lib.hid hB8
      have HX8 := Lib.hid hX8
      have HK8 := Lib.hid hk8
      have HG7 := Lib.hid hgood7
      clear hr7 hk7 hb7 hB7 hX7 hX8 hk8 hB8 HX HB6 hL hS hgood7 hsm hl7
      go_wp2_with (go_at_call 12; refine hT8.mono ?_)
      rintro e w9 ⟨hb9, out9, c9, a9, rfl, hr9⟩
      have hB9 := HB8.out.trans (hb9.mono HB8.out.size)
      have hX9 := (hb9.block w2.heap.size (lt_of_block HX8.out)).trans HX8.out
      have hK9 := HK8.out.below hb9
      obtain ⟨r0, r1, f0, f1, lX9⟩ := fault_at hX9
      have hX10 := fault_set (c' := c9) (a' := a9) hX9
      have hk10 := (hK9.set (p := ⟨w2.heap.size, 0, none⟩) lBA (.int .i64 c9)).set (p := ⟨w2.heap.size, 1, none⟩) lBA (.int .i64 a9)
      have hB10 := (hB9.setCell (p := ⟨w2.heap.size, 0, none⟩) lw2 (.int .i64 c9)).setCell (p := ⟨w2.heap.size, 1, none⟩) lw2 (.int .i64 a9)
      have HB10 := Lib.hid hB10
      have HX10 := Lib.hid hX10
      have HK10 := Lib.hid hk10
      clear hT8 hb9 hB9 hX9 hK9 hX10 hk10 hB10 HB8 HX8 HK8 q0 q1 g0 g1 lX
      rcases hr9.good hl7m HG7.out with ⟨rfl, rfl, rfl⟩ | ⟨rfl, rfl, hj, rfl⟩
      · clear hr9
        go_wp2
        go_ret
        exact ⟨rfl, HB10.out⟩
      · obtain ⟨ts7, hSc7, hE7⟩ := join_sc hl7m HG7.out hj
        obtain ⟨y, hy⟩ : ∃ y, y = bstr (joinB (l7.map toI)) := ⟨_, rfl⟩
        rw [← hy] at hSc7 ⊢
        have hys : y.size ≤ 140737488355328 := by rw [size_of_data hy]; omega
        have sh10 := (KE.out _ HB10.out).1
        have hv10 := (KE.out _ HB10.out).2
        have HSc7 := Lib.hid hSc7
        have HE7 := Lib.hid hE7
        clear hr9 hy hSc7 hE7 hj
        go_wp2_with (go_at_call 9; refine (scan_any y _ hys sh10 te pe hv10).mono ?_)
        intro e w11 hp
        obtain ⟨v11, c11, a11, l11, rfl, hr11, hk11, hl11, hb11⟩ := sc_use2 hp
        clear hp
        obtain ⟨rfl, rfl, rfl⟩ := ScR.det HSc7.out hr11
        have lBB := lt_of_block HX10.out
        have hB11 := HB10.out.trans (hb11.mono HB10.out.size)
        have hX11 := (hb11.block w2.heap.size lBB).trans HX10.out
        have hK11 := HK10.out.below hb11
        obtain ⟨s0, s1, t0, t1, lX11⟩ := fault_at hX11
        have hX12 := fault_set (c' := 0) (a' := 0) hX11
        have hk12 := (hk11.set (p := ⟨w2.heap.size, 0, none⟩) lBB (.int .i64 0)).set (p := ⟨w2.heap.size, 1, none⟩) lBB (.int .i64 0)
        have hK12 := (hK11.set (p := ⟨w2.heap.size, 0, none⟩) lBA (.int .i64 0)).set (p := ⟨w2.heap.size, 1, none⟩) lBA (.int .i64 0)
        have hB12 := (hB11.setCell (p := ⟨w2.heap.size, 0, none⟩) lw2 (.int .i64 0)).setCell (p := ⟨w2.heap.size, 1, none⟩) lw2 (.int .i64 0)
        have hA := bare_any (ts7.map toI) v11 _ hk12.here (by rw [List.length_map]; omega)
        rw [HE7.out] at hA
        have HB12 := Lib.hid hB12
        have HK12 := Lib.hid hK12
        clear hr11 hk11 hb11 hB11 hX11 hK11 hX12 hk12 hK12 hB12 HB10 HX10 HK10 r0 r1 f0 f1 lX9 sh10 hv10 HSc7 HE7
        go_wp2_with (go_at_call 15; refine hA.mono ?_)
        rintro e w13 ⟨v13, rfl, hr13, hb13⟩
        have hB13 := HB12.out.trans (hb13.mono HB12.out.size)
        have hA2 := bare_any (l7.map toI) v7 w13 (HK12.out.below hb13).here (by omega)
        have HR13 := Lib.hid hr13
        have HB13 := Lib.hid hB13
        clear hr13 hb13 hB13 hA HB12 HK12 s0 s1 t0 t1 lX11
        go_wp2_with (go_at_call 15; refine hA2.mono ?_)
        rintro e w14 ⟨v14, rfl, hr14, hb14⟩
        have hB14 := HB13.out.trans (hb14.mono HB13.out.size)
        have hQ := same_any ((l7.map toI).map bareI) v13 v14 w14 (by rw [List.length_map]; omega) (HR13.out.below hb14) hr14
        have HB14 := Lib.hid hB14
        clear hr14 hb14 hB14 hA2 HR13 HB13
        go_wp2_with (go_at_call 11; refine hQ.mono ?_)
        rintro e w15 ⟨rfl, hb15⟩
        go_wp2
        go_ret
        exact ⟨rfl, HB14.out.trans (hb15.mono HB14.out.size)⟩
  · obtain ⟨ts, hSc, hE⟩ := join_sc hl800 hgood hj2000
    obtain ⟨x, hx⟩ : ∃ x, x = bstr (joinB l) := ⟨_, rfl⟩
    rw [← hx] at hSc ⊢
    have hxs : x.size ≤ 140737488355328 := by rw [size_of_data hx]; omega
    have sh6 := (KE.out _ hB2a).1
    have hv6 := (KE.out _ hB2a).2
    have HB6 := Lib.hid hB2a
    have HX := Lib.hid hbox
    have HSc := Lib.hid hSc
    have HE := Lib.hid hE
    clear hr hB2a hbox hgood hx hSc hE
    go_wp2_with (go_at_call 9; refine (scan_any x _ hxs sh6 te pe hv6).mono ?_)
    intro e w3 hp
    obtain ⟨v3, c3, a3, l3, rfl, hr3, hk3, hl3, hb3⟩ := sc_use2 hp
    clear hp
    obtain ⟨rfl, rfl, rfl⟩ := ScR.det HSc.out hr3
    have hB3 := HB6.out.trans (hb3.mono HB6.out.size)
    have lw3 := hB3.size
    have hX3 := (hb3.block w2.heap.size (lt_of_block HX.out)).trans HX.out
    have lX3 := lt_of_block hX3
    have hx3a : Below w3.heap.size w3 (w3.alloc (.cells #[.int .i64 0, .int .i64 0] 24)) := (Below.refl _ _).alloc (Nat.le_refl _) _
    have hk3a := hk3.below hx3a
    have hB3a := hB3.trans (hx3a.mono lw3)
    have hX3a := (hx3a.block w2.heap.size lX3).trans hX3
    obtain ⟨n0, n1, m0, m1, n2⟩ := fault_at (heap_alloc_new w3 (.cells #[.int .i64 0, .int .i64 0] 24))
    have hA := bare_any (ts.map toI) v3 (w3.alloc (.cells #[.int .i64 0, .int .i64 0] 24)) hk3a.here (by rw [List.length_map]; omega)
    rw [HE.out] at hA
    have HB3 := Lib.hid hB3a
    have HX3 := Lib.hid hX3a
    clear hr3 hk3 hk3a hb3 hB3 hX3 hx3a hB3a hX3a sh6 hv6 HB6 HX
    go_wp2_with (go_at_call 15; refine hA.mono ?_)
    rintro e w4 ⟨v4, rfl, hr4, hb4⟩
    have hB4 := HB3.out.trans (hb4.mono HB3.out.size)
    have hX4 := (hb4.block w2.heap.size (lt_of_block HX3.out)).trans HX3.out
    have hA2 := bare_any l v w4 (RB.out w4 hB4) (by omega)
    have HR4 := Lib.hid hr4
    have HB4 := Lib.hid hB4
    have HX4 := Lib.hid hX4
    clear hr4 hb4 hB4 hX4 hA HB3 HX3 n0 n1 m0 m1 n2
    go_wp2_with (go_at_call 15; refine hA2.mono ?_)
    rintro e w5 ⟨v5, rfl, hr5, hb5⟩
    have hB5 := HB4.out.trans (hb5.mono HB4.out.size)
    have hX5 := (hb5.block w2.heap.size (lt_of_block HX4.out)).trans HX4.out
    have hQ := same_any (l.map bareI) v4 v5 w5 (by rw [List.length_map]; omega) (HR4.out.below hb5) hr5
    have HB5 := Lib.hid hB5
    have HX5 := Lib.hid hX5
    clear hr5 hb5 hB5 hX5 hA2 HR4 HB4 HX4
    go_wp2_with (go_at_call 11; refine hQ.mono ?_)
    rintro e w6 ⟨rfl, hb6⟩
    have hB6 := HB5.out.trans (hb6.mono HB5.out.size)
    have hX6 := (hb6.block w2.heap.size (lt_of_block HX5.out)).trans HX5.out
    have sh6 := (KE.out _ hB6).1
    have hv6 := (KE.out _ hB6).2
    have HB6 := Lib.hid hB6
    have HX := Lib.hid hX6
    clear hb6 hB6 hX6 hQ HB5 HX5 HE HSc
    go_wp2_with (go_at_call 9; refine (scan_any s _ hs sh6 te pe hv6).mono ?_)
    clear sh6 hv6
    intro e w7 hp
    obtain ⟨v7, c7, a7, l7, rfl, hr7, hk7, hl7, hb7⟩ := sc_use2 hp
    clear hp
    have lBA := lt_of_block HX.out
    have hB7 := HB6.out.trans (hb7.mono HB6.out.size)
    have hX7 := (hb7.block w2.heap.size lBA).trans HX.out
    obtain ⟨q0, q1, g0, g1, lX⟩ := fault_at hX7
    have hX8 := fault_set (c' := c7) (a' := a7) hX7
    have hk8 := (hk7.set (p := ⟨w2.heap.size, 0, none⟩) lBA (.int .i64 c7)).set (p := ⟨w2.heap.size, 1, none⟩) lBA (.int .i64 a7)
    have hB8 := (hB7.setCell (p := ⟨w2.heap.size, 0, none⟩) lw2 (.int .i64 c7)).setCell (p := ⟨w2.heap.size, 1, none⟩) lw2 (.int .i64 a7)
    rcases hr7.ways with ⟨hc7, rfl⟩ | ⟨rfl, rfl, hL, hS⟩
    · obtain ⟨p7, cap7, rfl⟩ : ∃ p cap, v7 = .slice p 0 cap := by
        obtain ⟨p, cap, h, _⟩ := hk7.here
        exact ⟨p, cap, h⟩
      have hne7 : (c7 != 0) = true := by simpa using hc7
      have HB8 := Lib.hid hB8
      clear hr7 hk7 hb7 hB7 hX7 hX8 hk8 hB8 HX HB6 hc7 hl7
      go_wp2
      go_ret
      exact ⟨rfl, HB8.out⟩
    · have hgood7 := read_good hS
      have hl7m : (l7.map toI).length ≤ 800 := by rw [List.length_map]; exact hl7
      have hsm : ∀ j, (h : j < (l7.map toI).length) → (l7.map toI)[j].t.length ≤ 140737488355328 := fun j h => by
        have := hS.small 2000 (fun _ h => by simp at h) hL l7 rfl (l7[j]'(by simpa using h)) (List.getElem_mem _)
        rw [List.getElem_map]
        exact Nat.le_trans this (by omega)
      have hT8 := text_any (l7.map toI) v7 _ hk8.here (by omega) hsm te pe (KE.out _ hB8).2
      have HB8 := Lib.hid hB8
      have HX8 := Lib.hid hX8
      have HK8 := Lib.hid hk8
      have HG7 := Lib.hid hgood7
      clear hr7 hk7 hb7 hB7 hX7 hX8 hk8 hB8 HX HB6 hL hS hgood7 hsm hl7
      go_wp2_with (go_at_call 12; refine hT8.mono ?_)
      rintro e w9 ⟨hb9, out9, c9, a9, rfl, hr9⟩
      have hB9 := HB8.out.trans (hb9.mono HB8.out.size)
      have hX9 := (hb9.block w2.heap.size (lt_of_block HX8.out)).trans HX8.out
      have hK9 := HK8.out.below hb9
      obtain ⟨r0, r1, f0, f1, lX9⟩ := fault_at hX9
      have hX10 := fault_set (c' := c9) (a' := a9) hX9
      have hk10 := (hK9.set (p := ⟨w2.heap.size, 0, none⟩) lBA (.int .i64 c9)).set (p := ⟨w2.heap.size, 1, none⟩) lBA (.int .i64 a9)
      have hB10 := (hB9.setCell (p := ⟨w2.heap.size, 0, none⟩) lw2 (.int .i64 c9)).setCell (p := ⟨w2.heap.size, 1, none⟩) lw2 (.int .i64 a9)
      have HB10 := Lib.hid hB10
      have HX10 := Lib.hid hX10
      have HK10 := Lib.hid hk10
      clear hT8 hb9 hB9 hX9 hK9 hX10 hk10 hB10 HB8 HX8 HK8 q0 q1 g0 g1 lX
      rcases hr9.good hl7m HG7.out with ⟨rfl, rfl, rfl⟩ | ⟨rfl, rfl, hj, rfl⟩
      · clear hr9
        go_wp2
        go_ret
        exact ⟨rfl, HB10.out⟩
      · obtain ⟨ts7, hSc7, hE7⟩ := join_sc hl7m HG7.out hj
        obtain ⟨y, hy⟩ : ∃ y, y = bstr (joinB (l7.map toI)) := ⟨_, rfl⟩
        rw [← hy] at hSc7 ⊢
        have hys : y.size ≤ 140737488355328 := by rw [size_of_data hy]; omega
        have sh10 := (KE.out _ HB10.out).1
        have hv10 := (KE.out _ HB10.out).2
        have HSc7 := Lib.hid hSc7
        have HE7 := Lib.hid hE7
        clear hr9 hy hSc7 hE7 hj
        go_wp2_with (go_at_call 9; refine (scan_any y _ hys sh10 te pe hv10).mono ?_)
        intro e w11 hp
        obtain ⟨v11, c11, a11, l11, rfl, hr11, hk11, hl11, hb11⟩ := sc_use2 hp
        clear hp
        obtain ⟨rfl, rfl, rfl⟩ := ScR.det HSc7.out hr11
        have lBB := lt_of_block HX10.out
        have hB11 := HB10.out.trans (hb11.mono HB10.out.size)
        have hX11 := (hb11.block w2.heap.size lBB).trans HX10.out
        have hK11 := HK10.out.below hb11
        obtain ⟨s0, s1, t0, t1, lX11⟩ := fault_at hX11
        have hX12 := fault_set (c' := 0) (a' := 0) hX11
        have hk12 := (hk11.set (p := ⟨w2.heap.size, 0, none⟩) lBB (.int .i64 0)).set (p := ⟨w2.heap.size, 1, none⟩) lBB (.int .i64 0)
        have hK12 := (hK11.set (p := ⟨w2.heap.size, 0, none⟩) lBA (.int .i64 0)).set (p := ⟨w2.heap.size, 1, none⟩) lBA (.int .i64 0)
        have hB12 := (hB11.setCell (p := ⟨w2.heap.size, 0, none⟩) lw2 (.int .i64 0)).setCell (p := ⟨w2.heap.size, 1, none⟩) lw2 (.int .i64 0)
        have hA := bare_any (ts7.map toI) v11 _ hk12.here (by rw [List.length_map]; omega)
        rw [HE7.out] at hA
        have HB12 := Lib.hid hB12
        have HK12 := Lib.hid hK12
        clear hr11 hk11 hb11 hB11 hX11 hK11 hX12 hk12 hK12 hB12 HB10 HX10 HK10 r0 r1 f0 f1 lX9 sh10 hv10 HSc7 HE7
        go_wp2_with (go_at_call 15; refine hA.mono ?_)
        rintro e w13 ⟨v13, rfl, hr13, hb13⟩
        have hB13 := HB12.out.trans (hb13.mono HB12.out.size)
        have hA2 := bare_any (l7.map toI) v7 w13 (HK12.out.below hb13).here (by omega)
        have HR13 := Lib.hid hr13
        have HB13 := Lib.hid hB13
        clear hr13 hb13 hB13 hA HB12 HK12 s0 s1 t0 t1 lX11
        go_wp2_with (go_at_call 15; refine hA2.mono ?_)
        rintro e w14 ⟨v14, rfl, hr14, hb14⟩
        have hB14 := HB13.out.trans (hb14.mono HB13.out.size)
        have hQ := same_any ((l7.map toI).map bareI) v13 v14 w14 (by rw [List.length_map]; omega) (HR13.out.below hb14) hr14
        have HB14 := Lib.hid hB14
        clear hr14 hb14 hB14 hA2 HR13 HB13
        go_wp2_with (go_at_call 11; refine hQ.mono ?_)
        rintro e w15 ⟨rfl, hb15⟩
        go_wp2
        go_ret
        exact ⟨rfl, HB14.out.trans (hb15.mono HB14.out.size)⟩
end Go.Proofs.YtaipdmaiffjeeaaDoor
