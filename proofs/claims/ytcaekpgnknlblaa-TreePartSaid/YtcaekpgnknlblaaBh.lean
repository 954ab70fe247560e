/-
  The walk of the law TreePart: it returns true, and nothing that was there has turned.
-/
import Derived.Test.YtcaekpgnknlblaaBq
import Derived.Test.YtcaekpgnknlblaaBc
namespace Go.Proofs.Ytcaekpgnknlblaa
open Go.RowKit

theorem pfield0 (c a : Int) (w : World) : (Instr.field 26 (.agg #[.int .i64 c, .int .i64 a]) 0).run Try.prog w = .ok (.int .i64 c) w := by kernel_rfl

set_option maxHeartbeats 16000000 in
set_option maxRecDepth 100000 in
theorem part_walk (l : List Nd) (p : Option Addr) (cap : Nat) (k jj : Int) (w : World) (hT : Tr w p l) (hf : Fit l cap) (ht : ∀ j, (h : j < l.length) → l[j].t.size ≤ 281474976710656) :
    Calls Try.prog 5 #[.agg #[.slice p l.length cap], .int .i64 k, .int .i64 jj] w fun e w' => e = .returned (.bool true) ∧ Below w.heap.size w w' := by
  have HP : Hid (∀ (x : Int) W, Below w.heap.size w W → Calls Try.prog 9 #[.agg #[.slice p l.length cap], .int .i64 x] W (PtPost l x W)) := fun x W hW => part_any l p cap x W (hT.below hW) hf ht
  have Ht := Lib.hid ht
  clear hT hf ht
  obtain ⟨n, hn⟩ : ∃ n, n = l.length := ⟨_, rfl⟩
  rw [← hn] at HP ⊢
  have Hn := Lib.hid hn
  clear hn
  have HW : Hid (Below w.heap.size w (w.alloc (.cells #[.slice p n cap] 24))) := (Below.refl _ _).alloc (Nat.le_refl _) _
  have hfa := fact_any (w.alloc (.cells #[.slice p n cap] 24))
  have HX : Hid (Blk (w.alloc (.cells #[.slice p n cap] 24)) w.heap.size 24 #[.slice p n cap]) := Blk.new _ _ _
  go_enter Try.func5, Try.ntmps5
  go_wp2_with (go_at_call 17; refine hfa.mono ?_)
  first | rintro e w1 rfl hb1 | rintro e w1 ⟨rfl, hb1⟩
  have HB1 := Lib.hid (HW.out.trans (hb1.mono (by simp)))
  have HX1 := Lib.hid (HX.out.below hb1 (by simp))
  have l1 := HX1.out.lt
  have x1 : w1.cell? ⟨w.heap.size, 0, none⟩ = some (.slice p n cap) := by rw [HX1.out.cell]; rfl
  have hp1 := HP.out k w1 HB1.out
  clear hb1 hfa HX HW
  go_wp2_with (go_at_call 9; refine hp1.mono ?_)
  intro e w2 hp
  obtain ⟨hb2, L, q, qc, c, a, rfl, hTL', hqc, hr⟩ := hp
  have hTL := hTL' w2 fun _ _ _ => rfl
  clear hTL'
  have HR := Lib.hid hr
  have HTL := Lib.hid hTL
  have HX2 := Lib.hid (HX1.out.below hb2 l1)
  have HB2 := Lib.hid (HB1.out.trans (hb2.mono HB1.out.size))
  have l2 := HX2.out.lt
  clear hr hTL hb2 hp1 x1 HX1
  obtain ⟨m, hm⟩ : ∃ m, m = L.length := ⟨_, rfl⟩
  rw [← hm] at hqc ⊢
  have Hm := Lib.hid hm
  clear hm
  have HW2 : Hid (Below w2.heap.size w2 ((w2.alloc (.cells #[.slice q m qc] 24)).alloc (.cells #[.int .i64 c, .int .i64 a] 26))) := ((Below.refl _ _).alloc (Nat.le_refl _) _).alloc (by simp) _
  have HB2' := Lib.hid (HB2.out.trans (HW2.out.mono HB2.out.size))
  have HG2 : Hid (Blk ((w2.alloc (.cells #[.slice q m qc] 24)).alloc (.cells #[.int .i64 c, .int .i64 a] 26)) w2.heap.size 24 #[.slice q m qc]) := (Blk.new _ _ _).alloc _
  have HF2 : Hid (Blk ((w2.alloc (.cells #[.slice q m qc] 24)).alloc (.cells #[.int .i64 c, .int .i64 a] 26)) (w2.heap.size + 1) 26 #[.int .i64 c, .int .i64 a]) := by
    have h := Blk.new (w2.alloc (.cells #[.slice q m qc] 24)) 26 #[.int .i64 c, .int .i64 a]
    rw [World.size_alloc] at h
    exact h
  by_cases hc0 : c = 0
  · subst hc0
    obtain ⟨hl, rfl, kn, rfl, hkn, hlen, hcut⟩ := HR.out.fine
    obtain ⟨g1, g2, g3, g4, g5⟩ := hl.good
    have hle := St_le l kn
    have hLg := part_good hl hkn hlen hcut
    have hfL := fit_good hLg (by rw [← Hm.out]; exact hqc)
    have htL : ∀ j, (h : j < L.length) → L[j].t.size ≤ 281474976710656 := fun j hj => by
      rw [(hcut j hj (by omega)).2.1]; exact Ht.out _ _
    have HC : Hid (∀ W, Below w2.heap.size w2 W → Calls Try.prog 8 #[.agg #[.slice q m qc]] W (CkPost L W)) := fun W hW => by
      have h := check_any L q qc W (HTL.out.below hW) hfL
      rw [← Hm.out] at h; exact h
    have HPL : Hid (∀ W, Below w2.heap.size w2 W → Calls Try.prog 9 #[.agg #[.slice q m qc], .int .i64 jj] W (PtPost L jj W)) := fun W hW => by
      have h := part_any L q qc jj W (HTL.out.below hW) hfL htL
      rw [← Hm.out] at h; exact h
    obtain ⟨f, hfe⟩ : ∃ f, f = St l kn := ⟨_, rfl⟩
    rw [← hfe] at hle hlen
    have HFe := Lib.hid hfe
    have hmf : m = kn + 1 - f := by rw [Hm.out]; exact hlen
    have hin : inB (m : Int) 1 ((kn : Int) + 1) = true := decide_eq_true (by omega)
    have e1 : (kn : Int) - (m : Int) = (f : Int) - 1 := by omega
    have hk600 : kn < 600 := by omega
    have hkn2 : kn < n := by rw [Hn.out]; exact hkn
    have hm600 : m ≤ 600 := by omega
    have Hlg := Lib.hid hl
    have HLg := Lib.hid hLg
    have Hlen : Hid (L.length = kn + 1 - St l kn) := by show _ = _; rw [← HFe.out]; exact hlen
    have Hcut := Lib.hid hcut
    have Hkn := Lib.hid hkn
    have HMF := Lib.hid hmf
    have hcC := HC.out _ HW2.out
    clear hl hkn hlen hcut g1 g2 g3 g4 g5 hLg hfL htL hfe hmf hle
    go_wp2_with (go_at_call 8; refine hcC.mono ?_)
    intro e w3 hp
    obtain ⟨hb3, c, a, rfl, hr⟩ := hp
    obtain ⟨rfl, rfl⟩ := HLg.out.det hr
    have hfd := pfield0 0 0
    have HB3 := Lib.hid (HB2'.out.trans (hb3.mono HB2'.out.size))
    have HW3 := Lib.hid (HW2.out.trans (hb3.mono (by simp; omega)))
    have HG3 := Lib.hid (HG2.out.below hb3 (by simp; omega))
    have HF3 := Lib.hid (HF2.out.below hb3 (by simp))
    have s3 : w3.cell? ⟨w2.heap.size, 0, none⟩ = some (.slice q m qc) := by rw [HG3.out.cell]; rfl
    have lF3 := HF3.out.lt
    have hp2 := HPL.out w3 HW3.out
    clear hr hb3 hcC
    go_wp2_with (first | (go_at_call 10; refine (in10_any _ _ _ _).mono ?_; rintro e w' ⟨rfl, rfl⟩) | (go_at_call 9; refine hp2.mono ?_))
    intro e w4 hp
    obtain ⟨hb4, Lq, qq, qqc, c2, a2, rfl, hTq, hqqc, hr2⟩ := hp
    have HR2 := Lib.hid hr2
    have HTq := Lib.hid hTq
    have HB4 := Lib.hid (HB3.out.trans (hb4.mono HB3.out.size))
    have HG4 := Lib.hid (HG3.out.below hb4 (by omega))
    have HF4 := Lib.hid (HF3.out.below hb4 lF3)
    have lF4 := HF4.out.lt
    have lG4 := HG4.out.lt
    have s4 : w4.cell? ⟨w2.heap.size, 0, none⟩ = some (.slice q m qc) := by rw [HG4.out.cell]; rfl
    have t4 : w4.cell? ⟨w2.heap.size + 1, 0, none⟩ = some (.int .i64 0) := by rw [HF4.out.cell]; rfl
    have t5 : w4.cell? ⟨w2.heap.size + 1, 1, none⟩ = some (.int .i64 0) := by rw [HF4.out.cell]; rfl
    have tz0 := HF4.out.frozen 0
    have tz1 := HF4.out.frozen 1
    have x4 : w4.cell? ⟨w.heap.size, 0, none⟩ = some (.slice p n cap) := by
      rw [(((HX2.out.below HW3.out l2).below hb4 (Nat.lt_of_lt_of_le l2 HW3.out.size)).cell 0)]; rfl
    have l4 := World.block_lt_of_cell? _ _ x4
    clear hr2 hTq hb4 hp2 s3 hfd
    obtain ⟨mq, hmq⟩ : ∃ m, m = Lq.length := ⟨_, rfl⟩
    rw [← hmq] at hqqc ⊢
    have Hmq := Lib.hid hmq
    clear hmq
    have HBs : Hid (Below w.heap.size w (((w4.setCell ⟨w2.heap.size + 1, 0, none⟩ (.int .i64 c2)).setCell ⟨w2.heap.size + 1, 1, none⟩ (.int .i64 a2)).alloc (.cells #[.slice qq mq qqc] 24))) := ((HB4.out.setCell (p := ⟨w2.heap.size + 1, 0, none⟩) (by simp; omega) _).setCell (p := ⟨w2.heap.size + 1, 1, none⟩) (by simp; omega) _).alloc (by simpa using HB4.out.size) _
    by_cases hc2 : c2 = 0
    · subst hc2
      obtain ⟨_, rfl, jn, rfl, hjn, hlq, hcq⟩ := HR2.out.fine
      have hjm : jn < m := by rw [Hm.out]; exact hjn
      have hfj : f + jn < n := by have := HMF.out; omega
      have hp3 := HP.out ((f : Int) + (jn : Int)) _ HBs.out
      have Hjn := Lib.hid hjn
      have Hlq := Lib.hid hlq
      have Hcq := Lib.hid hcq
      have HGs : Hid (Blk (((w4.setCell ⟨w2.heap.size + 1, 0, none⟩ (.int .i64 0)).setCell ⟨w2.heap.size + 1, 1, none⟩ (.int .i64 0)).alloc (.cells #[.slice qq mq qqc] 24)) w4.heap.size 24 #[.slice qq mq qqc]) := by
        have h := Blk.new ((w4.setCell ⟨w2.heap.size + 1, 0, none⟩ (.int .i64 0)).setCell ⟨w2.heap.size + 1, 1, none⟩ (.int .i64 0)) 24 #[.slice qq mq qqc]
        rw [World.size_setCell, World.size_setCell] at h
        exact h
      have HFs : Hid (Blk (((w4.setCell ⟨w2.heap.size + 1, 0, none⟩ (.int .i64 0)).setCell ⟨w2.heap.size + 1, 1, none⟩ (.int .i64 0)).alloc (.cells #[.slice qq mq qqc] 24)) (w2.heap.size + 1) 26 #[.int .i64 0, .int .i64 0]) := (fault_put HF4.out _ _).alloc _
      have HWs : Hid (∀ g, w2.heap.size + 1 + 1 ≤ g → g < w4.heap.size → (((w4.setCell ⟨w2.heap.size + 1, 0, none⟩ (.int .i64 0)).setCell ⟨w2.heap.size + 1, 1, none⟩ (.int .i64 0)).alloc (.cells #[.slice qq mq qqc] 24)).heap[g]? = w4.heap[g]?) := fun g hg hg2 => by
        rw [Below.heap_alloc _ _ _ (by simpa using hg2), Below.heap_setCell _ _ _ _ (by simp; omega), Below.heap_setCell _ _ _ _ (by simp; omega)]
      clear hjn hlq hcq
      go_wp2_with (go_at_call 9; refine hp3.mono ?_)
      intro e w5 hp
      obtain ⟨hb5, Lr, qr, qrc, c3, a3, rfl, hTr, hqrc, hr3⟩ := hp
      have hc3 : c3 = 0 := Decidable.byContradiction fun h => by
        have := hr3.range Hlg.out h
        have := Hn.out
        omega
      subst hc3
      obtain ⟨_, rfl, k3, hk3, hk3l, hlr, hcr⟩ := hr3.fine
      obtain rfl : k3 = f + jn := by omega
      have hpp := part_part Hlg.out Hkn.out Hlen.out Hcut.out Hjn.out Hlq.out Hcq.out (Lr := Lr) (by rw [← HFe.out]; exact hlr) (by rw [← HFe.out]; exact hcr)
      have Hpp := Lib.hid hpp
      obtain ⟨mr, hmr⟩ : ∃ m, m = Lr.length := ⟨_, rfl⟩
      rw [← hmr] at hqrc ⊢
      have Hmr := Lib.hid hmr
      have HTr := Lib.hid hTr
      have HG5 := Lib.hid (HGs.out.below hb5 (by simp))
      have HF5 := Lib.hid (HFs.out.below hb5 (by simp; omega))
      have lG5 := HG5.out.lt
      have lF5 := HF5.out.lt
      have s5 : w5.cell? ⟨w4.heap.size, 0, none⟩ = some (.slice qq mq qqc) := by rw [HG5.out.cell]; rfl
      have t6 : w5.cell? ⟨w2.heap.size + 1, 0, none⟩ = some (.int .i64 0) := by rw [HF5.out.cell]; rfl
      have t7 : w5.cell? ⟨w2.heap.size + 1, 1, none⟩ = some (.int .i64 0) := by rw [HF5.out.cell]; rfl
      have tz6 := HF5.out.frozen 0
      have tz7 := HF5.out.frozen 1
      have HB5 := Lib.hid (HBs.out.trans (hb5.mono HBs.out.size))
      have hb5s : w4.heap.size + 1 ≤ w5.heap.size := by have := hb5.size; simpa using this
      have HBf : Hid (Below w.heap.size w (((w5.setCell ⟨w2.heap.size + 1, 0, none⟩ (.int .i64 0)).setCell ⟨w2.heap.size + 1, 1, none⟩ (.int .i64 0)).alloc (.cells #[.slice qr mr qrc] 24))) := ((HB5.out.setCell (p := ⟨w2.heap.size + 1, 0, none⟩) (by simp; omega) _).setCell (p := ⟨w2.heap.size + 1, 1, none⟩) (by simp; omega) _).alloc (by simpa using HB5.out.size) _
      have hw3s : w2.heap.size + 1 + 1 ≤ w3.heap.size := lF3
      have hTq1 : Tr (((w5.setCell ⟨w2.heap.size + 1, 0, none⟩ (.int .i64 0)).setCell ⟨w2.heap.size + 1, 1, none⟩ (.int .i64 0)).alloc (.cells #[.slice qr mr qrc] 24)) qq Lq := HTq.out _ fun g hg hlt => by
        rw [Below.heap_alloc _ _ _ (by simp; omega), Below.heap_setCell _ _ _ _ (by simp; omega), Below.heap_setCell _ _ _ _ (by simp; omega)]
        rw [hb5.block g (by simp; omega)]
        exact HWs.out g (by omega) hlt
      have hTr1 : Tr (((w5.setCell ⟨w2.heap.size + 1, 0, none⟩ (.int .i64 0)).setCell ⟨w2.heap.size + 1, 1, none⟩ (.int .i64 0)).alloc (.cells #[.slice qr mr qrc] 24)) qr Lr := HTr.out _ fun g hg hlt => by
        have hg2 : w4.heap.size + 1 ≤ g := by simpa using hg
        rw [Below.heap_alloc _ _ _ (by simpa using hlt), Below.heap_setCell _ _ _ _ (by simp; omega), Below.heap_setCell _ _ _ _ (by simp; omega)]
      have hkq : ∀ j, (h : j < Lq.length) → Lq[j].c.length ≤ 1000000000000000000 := fun j hj => by
        obtain ⟨g1, g2, g3, g4, g5⟩ := HLg.out.good
        have hjm2 := Hjn.out
        have hst := St_le L jn
        have hl2 := Hlq.out
        have h1 := (Hcq.out j hj (by omega)).2.2.2.2.1
        have h2 := (code_kids (l := L) (j := St L jn + j) (by omega) (g3 _ (by omega))).1
        rw [h1, subs_length]
        omega
      have hte := trees_eq Lq Lr qq qr qqc qrc (((w5.setCell ⟨w2.heap.size + 1, 0, none⟩ (.int .i64 0)).setCell ⟨w2.heap.size + 1, 1, none⟩ (.int .i64 0)).alloc (.cells #[.slice qr mr qrc] 24)) hTq1 hTr1 hpp.1 (by have h1 := Hlq.out; have h2 := Hjn.out; have h3 := Hm.out; omega) hkq hpp.2
      rw [← Hmq.out, ← hmr] at hte
      have HTE := Lib.hid hte
      clear hr3 hTr hb5 hpp hmr hlr hcr hk3l hk3 hTq1 hTr1 hkq hte hp3 s4 t4 t5 tz0 tz1 x4
      have hte := HTE.out
      go_wp2_with (go_at_call 13; refine hte.mono ?_)
      first | rintro e w7 rfl hb7 | rintro e w7 ⟨rfl, hb7⟩
      have HB7 := Lib.hid (HBf.out.trans (hb7.mono HBf.out.size))
      clear hb7 hte
      go_wp2
      go_ret
      exact ⟨rfl, HB7.out⟩
    · have hLq := HR2.out.bad hc2
      have hrg := HR2.out.range HLg.out hc2
      rw [← Hm.out] at hrg
      have hmq0 : mq = 0 := by rw [Hmq.out, hLq]; rfl
      subst hmq0
      have q1 : (c2 != 0) = true := by simpa using hc2
      have q2 : (c2 == 0) = false := by simpa using hc2
      have hinj : inB jj 0 ((m : Int) - 1) = false := decide_eq_false (by omega)
      have hno := fun W => none_any qq 0 qqc W (by omega)
      clear hc2 hLq hrg
      go_wp2_with (go_at_call 12; refine (hno _).mono ?_)
      first | rintro e w5 rfl hb5 | rintro e w5 ⟨rfl, hb5⟩
      have HB5 := Lib.hid (HBs.out.trans (hb5.mono HBs.out.size))
      have s5 : w5.cell? ⟨w2.heap.size, 0, none⟩ = some (.slice q m qc) := (hb5.cell (p := ⟨w2.heap.size, 0, none⟩) (by simp; omega)).trans (by
        rw [World.cell?_alloc_lt _ _ _ (by simpa using lG4), World.cell?_setCell_other _ _ _ _ (by simp), World.cell?_setCell_other _ _ _ _ (by simp)]; exact s4)
      have l5 := World.block_lt_of_cell? _ _ s5
      clear hb5 hno
      go_wp2_with (go_at_call 10; refine (in10_any _ _ _ _).mono ?_; rintro e w' ⟨rfl, rfl⟩)
      go_ret
      exact ⟨rfl, HB5.out⟩
  · have hL := HR.out.bad hc0
    have hm0 : m = 0 := by rw [Hm.out, hL]; rfl
    subst hm0
    have q1 : (c != 0) = true := by simpa using hc0
    have q2 : (c == 0) = false := by simpa using hc0
    have hno := none_any q 0 qc ((w2.alloc (.cells #[.slice q 0 qc] 24)).alloc (.cells #[.int .i64 c, .int .i64 a] 26)) (by omega)
    clear hc0 hL
    go_wp2_with (go_at_call 12; refine hno.mono ?_)
    first | rintro e w3 rfl hb3 | rintro e w3 ⟨rfl, hb3⟩
    have HB3 := Lib.hid (HB2'.out.trans (hb3.mono HB2'.out.size))
    clear hb3 hno
    go_wp2
    go_ret
    exact ⟨rfl, HB3.out⟩
end Go.Proofs.Ytcaekpgnknlblaa
