/-
  The walk of the law TreeSays: it returns true, and nothing that was there has turned.
-/
import Derived.Test.YtcaekpgnknlblaaT
import Derived.Test.YtcaekpgnknlblaaBd
import Derived.Test.YtcaekpgnknlblaaBe
import Derived.Test.YtcaekpgnknlblaaBc
import Derived.Laws.StructEq
import Derived.Deep.RegionHeld3
namespace Go.Proofs.Ytcaekpgnknlblaa
open Go.RowKit

theorem CutOf.alike {a : Nat} {x y z : Nd} (h : CutOf a x y) (h' : CutOf a x z) : Like y z := by
  obtain ⟨h1, h2, h3, h4, h5, h6⟩ := h
  obtain ⟨g1, g2, g3, g4, g5, g6⟩ := h'
  exact ⟨h1.trans g1.symm, h2.trans g2.symm, h3.trans g3.symm, h4.trans g4.symm, h5.trans g5.symm, h6.trans g6.symm⟩
/-- what Part tells, where Check's answer is known -/
theorem PtR.cases {l L : List Nd} {k c a c2 a2 : Int} (h : PtR l k L c2 a2) (hc : CkR l c a) :
    (c ≠ 0 ∧ c2 = c ∧ a2 = a ∧ L = []) ∨ (c = 0 ∧ a = 0 ∧ (k < 0 ∨ (l.length : Int) ≤ k) ∧ c2 = 3 ∧ a2 = -1 ∧ L = []) ∨
    (c = 0 ∧ a = 0 ∧ c2 = 0 ∧ a2 = 0 ∧ CkR l 0 0 ∧ ∃ kn : Nat, k = kn ∧ kn < l.length ∧ L.length = kn + 1 - St l kn ∧ ∀ j, (h : j < L.length) → (h' : St l kn + j < l.length) → CutOf (St l kn) l[St l kn + j] L[j]) := by
  rcases h with ⟨h1, h2, h3⟩ | ⟨h1, h2, h3, h4, h5⟩ | ⟨h1, h2, h3, h4⟩
  · obtain ⟨rfl, rfl⟩ := h1.det hc
    exact Or.inl ⟨h2, rfl, rfl, h3⟩
  · obtain ⟨rfl, rfl⟩ := h1.det hc
    exact Or.inr (Or.inl ⟨rfl, rfl, h2, h3, h4, h5⟩)
  · obtain ⟨rfl, rfl⟩ := h1.det hc
    exact Or.inr (Or.inr ⟨rfl, rfl, h2, h3, h1, h4⟩)

set_option maxHeartbeats 16000000 in
set_option maxRecDepth 100000 in
theorem says_walk (l : List Nd) (p : Option Addr) (cap : Nat) (k : Int) (w : World) (hT : Tr w p l) (hf : Fit l cap) (hg : Fit2 l) (ht : ∀ j, (h : j < l.length) → l[j].t.size ≤ 281474976710656) :
    Calls Try.prog 3 #[.agg #[.slice p l.length cap], .int .i64 k] w fun e w' => e = .returned (.bool true) ∧ Below w.heap.size w w' := by
  have HR1 : Hid (∀ W, Below w.heap.size w W → Calls Try.prog 7 #[.agg #[.slice p l.length cap]] W (CkPost l W)) := fun W hW => rtree_any l p cap W (hT.below hW) hf hg
  have HC : Hid (∀ W, Below w.heap.size w W → Calls Try.prog 8 #[.agg #[.slice p l.length cap]] W (CkPost l W)) := fun W hW => check_any l p cap W (hT.below hW) hf
  have HP : Hid (∀ W, Below w.heap.size w W → Calls Try.prog 9 #[.agg #[.slice p l.length cap], .int .i64 k] W (PtPost l k W)) := fun W hW => part_any l p cap k W (hT.below hW) hf ht
  have HE : Hid (CkR l 0 0 → ∀ kn : Nat, kn < l.length → ∀ W, Below w.heap.size w W → Calls Try.prog 14 #[.agg #[.slice p l.length cap], .int .i64 kn] W (CtPost l (St l kn) (kn + 1 - St l kn) W)) := fun hl kn hkn W hW => by
    obtain ⟨g1, g2, g3, g4, g5⟩ := hl.good
    obtain ⟨b, o, rfl, hb, hN⟩ := hT.1 (by omega)
    exact rpart_any l b o cap kn (St l kn) W hkn g2 rfl g3 (Nat.lt_of_lt_of_le hb hW.size) (fun j hj => (hN j hj).below hW hb) (fun j hj => (hT.2 j hj).below hW) (good_tame g3 g2 ht)
  have hn47 := hf.2.1
  clear hT hf hg ht
  obtain ⟨n, hn⟩ : ∃ n, n = l.length := ⟨_, rfl⟩
  rw [← hn] at HR1 HC HP HE hn47 ⊢
  have Hn := Lib.hid hn
  clear hn
  have HW : Hid (Below w.heap.size w (w.alloc (.cells #[.slice p n cap] 24))) := (Below.refl _ _).alloc (Nat.le_refl _) _
  by_cases hbig : 700 < n
  · go_enter Try.func3, Try.ntmps3
    go_wp2
    go_ret
    exact ⟨rfl, HW.out⟩
  · have hr1 := HR1.out _ HW.out
    have HX : Hid (Blk (w.alloc (.cells #[.slice p n cap] 24)) w.heap.size 24 #[.slice p n cap]) := Blk.new _ _ _
    go_enter Try.func3, Try.ntmps3
    go_wp2_with (go_at_call 7; refine hr1.mono ?_)
    intro e w1 hp
    obtain ⟨hb1, c, a, rfl, hr⟩ := hp
    have HRc := Lib.hid hr
    have HB1 := Lib.hid (HW.out.trans (hb1.mono (by simp; try omega)))
    have HX1 := Lib.hid (HX.out.below hb1 (by simp; try omega))
    have l1 := HX1.out.lt
    have x1 : w1.cell? ⟨w.heap.size, 0, none⟩ = some (.slice p n cap) := by rw [HX1.out.cell]; rfl
    have HBa := Lib.hid (HB1.out.alloc HB1.out.size (.cells #[.int .i64 c, .int .i64 a] 26))
    have HFa : Hid (Blk (w1.alloc (.cells #[.int .i64 c, .int .i64 a] 26)) w1.heap.size 26 #[.int .i64 c, .int .i64 a]) := Blk.new _ _ _
    have HXa := Lib.hid (HX1.out.alloc (.cells #[.int .i64 c, .int .i64 a] 26))
    have hc := HC.out _ HBa.out
    clear hr hb1 hr1 HX
    go_wp2_with (go_at_call 8; refine hc.mono ?_)
    intro e w2 hp
    obtain ⟨hb2, c', a', rfl, hr⟩ := hp
    obtain ⟨rfl, rfl⟩ := HRc.out.det hr
    have HB2 := Lib.hid (HBa.out.trans (hb2.mono HBa.out.size))
    have HX2 := Lib.hid (HXa.out.below hb2 HXa.out.lt)
    have HF2 := Lib.hid (HFa.out.below hb2 HFa.out.lt)
    have l2 := HX2.out.lt
    have m2 := HF2.out.lt
    have x2 : w2.cell? ⟨w.heap.size, 0, none⟩ = some (.slice p n cap) := by rw [HX2.out.cell]; rfl
    have HBb := Lib.hid (HB2.out.alloc HB2.out.size (.cells #[.int .i64 c, .int .i64 a] 26))
    have HGb : Hid (Blk (w2.alloc (.cells #[.int .i64 c, .int .i64 a] 26)) w2.heap.size 26 #[.int .i64 c, .int .i64 a]) := Blk.new _ _ _
    have HXb := Lib.hid (HX2.out.alloc (.cells #[.int .i64 c, .int .i64 a] 26))
    have HFb := Lib.hid (HF2.out.alloc (.cells #[.int .i64 c, .int .i64 a] 26))
    have hpt := HP.out _ HBb.out
    clear hr hb2 hc x1 HXa HFa
    go_wp2_with (go_at_call 9; refine hpt.mono ?_)
    intro e w3 hp
    obtain ⟨hb3, L, q, qc, c2, a2, rfl, hTL, hqc, hr⟩ := hp
    have HTL := Lib.hid hTL
    have HB3 := Lib.hid (HBb.out.trans (hb3.mono HBb.out.size))
    have HX3 := Lib.hid (HXb.out.below hb3 HXb.out.lt)
    have HF3 := Lib.hid (HFb.out.below hb3 HFb.out.lt)
    have HG3 := Lib.hid (HGb.out.below hb3 HGb.out.lt)
    have l3 := HX3.out.lt
    have m3 := HF3.out.lt
    have o3 := HG3.out.lt
    have x3 : w3.cell? ⟨w.heap.size, 0, none⟩ = some (.slice p n cap) := by rw [HX3.out.cell]; rfl
    have f0 : w3.cell? ⟨w1.heap.size, 0, none⟩ = some (.int .i64 c) := by rw [HF3.out.cell]; rfl
    have f1 : w3.cell? ⟨w1.heap.size, 1, none⟩ = some (.int .i64 a) := by rw [HF3.out.cell]; rfl
    have fz0 := HF3.out.frozen 0
    have fz1 := HF3.out.frozen 1
    have g0 : w3.cell? ⟨w2.heap.size, 0, none⟩ = some (.int .i64 c) := by rw [HG3.out.cell]; rfl
    have g1 : w3.cell? ⟨w2.heap.size, 1, none⟩ = some (.int .i64 a) := by rw [HG3.out.cell]; rfl
    have hcs := hr.cases HRc.out
    obtain ⟨m, hm⟩ : ∃ m, m = L.length := ⟨_, rfl⟩
    rw [← hm] at hqc ⊢
    have Hm := Lib.hid hm
    have HBc : Hid (Below w.heap.size w ((w3.alloc (.cells #[.slice q m qc] 24)).alloc (.cells #[.int .i64 c2, .int .i64 a2] 26))) := (HB3.out.alloc HB3.out.size _).alloc (by have := HB3.out.size; simp; omega) _
    clear hm hb3 hTL hr hpt x2 HX2 HF2 HXb HFb HGb
    rcases hcs with ⟨h1, rfl, rfl, hL⟩ | ⟨rfl, rfl, h1, rfl, rfl, hL⟩ | ⟨rfl, rfl, rfl, rfl, hl0, kn, rfl, hkn, hLl, hcut⟩
    · have hm0 : m = 0 := by rw [Hm.out, hL]; rfl
      subst hm0
      have q1 : (c2 != 0) = true := by simpa using h1
      have q2 : (c2 == 0) = false := by simpa using h1
      have q3 : (c2 == c2) = true := by simp
      have q4 : (a2 == a2) = true := by simp
      have hno := fun W => none_any q 0 qc W (by omega)
      clear h1 hL
      go_wp2_with (go_at_call 12; refine (hno _).mono ?_)
      first | rintro e w5 rfl hb5 | rintro e w5 ⟨rfl, hb5⟩
      have HB5 := Lib.hid (HBc.out.trans (hb5.mono HBc.out.size))
      clear hb5 hno
      go_wp2
      go_ret
      exact ⟨rfl, HB5.out⟩
    · rw [← Hn.out] at h1
      have hm0 : m = 0 := by rw [Hm.out, hL]; rfl
      subst hm0
      have hinj : inB k 0 ((n : Int) - 1) = false := decide_eq_false (by omega)
      have hno := fun W => none_any q 0 qc W (by omega)
      have HFc : Hid (Blk ((w3.alloc (.cells #[.slice q 0 qc] 24)).alloc (.cells #[.int .i64 3, .int .i64 (-1)] 26)) w1.heap.size 26 #[.int .i64 0, .int .i64 0]) := (HF3.out.alloc _).alloc _
      have HPc : Hid (Blk ((w3.alloc (.cells #[.slice q 0 qc] 24)).alloc (.cells #[.int .i64 3, .int .i64 (-1)] 26)) w3.heap.size 24 #[.slice q 0 qc]) := (Blk.new _ _ _).alloc _
      have HKc : Hid (Blk ((w3.alloc (.cells #[.slice q 0 qc] 24)).alloc (.cells #[.int .i64 3, .int .i64 (-1)] 26)) (w3.heap.size + 1) 26 #[.int .i64 3, .int .i64 (-1)]) := by
        have h := Blk.new (w3.alloc (.cells #[.slice q 0 qc] 24)) 26 #[.int .i64 3, .int .i64 (-1)]
        rw [World.size_alloc] at h
        exact h
      clear h1 hL
      go_wp2_with (first | (go_at_call 10; refine (in10_any _ _ _ _).mono ?_; rintro e w' ⟨rfl, rfl⟩) | (go_at_call 11; refine (efault_any _ _ _).mono ?_))
      first | rintro e w5 rfl hb5 | rintro e w5 ⟨rfl, hb5⟩
      have HB5 := Lib.hid (HBc.out.trans (hb5.mono HBc.out.size))
      have HF5 := Lib.hid (HFc.out.below hb5 HFc.out.lt)
      have HP5 := Lib.hid (HPc.out.below hb5 HPc.out.lt)
      have HK5 := Lib.hid (HKc.out.below hb5 HKc.out.lt)
      have lF5 := HF5.out.lt
      have lP5 := HP5.out.lt
      have lK5 := HK5.out.lt
      have r0 : w5.cell? ⟨w1.heap.size, 0, none⟩ = some (.int .i64 0) := by rw [HF5.out.cell]; rfl
      have r1 : w5.cell? ⟨w1.heap.size, 1, none⟩ = some (.int .i64 0) := by rw [HF5.out.cell]; rfl
      have rz0 := HF5.out.frozen 0
      have rz1 := HF5.out.frozen 1
      have s0 : w5.cell? ⟨w3.heap.size, 0, none⟩ = some (.slice q 0 qc) := by rw [HP5.out.cell]; rfl
      have t0 : w5.cell? ⟨w3.heap.size + 1, 0, none⟩ = some (.int .i64 3) := by rw [HK5.out.cell]; rfl
      have t1 : w5.cell? ⟨w3.heap.size + 1, 1, none⟩ = some (.int .i64 (-1)) := by rw [HK5.out.cell]; rfl
      have lw1 := HB1.out.size
      have HB6 : Hid (Below w.heap.size w ((w5.setCell ⟨w1.heap.size, 0, none⟩ (.int .i64 3)).setCell ⟨w1.heap.size, 1, none⟩ (.int .i64 (-1)))) := (HB5.out.setCell (p := ⟨w1.heap.size, 0, none⟩) lw1 _).setCell (p := ⟨w1.heap.size, 1, none⟩) lw1 _
      clear hb5 x3 f0 f1 fz0 fz1 g0 g1
      go_wp2_with (go_at_call 12; refine (hno _).mono ?_)
      first | rintro e w6 rfl hb6 | rintro e w6 ⟨rfl, hb6⟩
      have HB7 := Lib.hid (HB6.out.trans (hb6.mono HB6.out.size))
      clear hb6 hno
      go_wp2
      go_ret
      exact ⟨rfl, HB7.out⟩
    · have hin : inB (kn : Int) 0 ((n : Int) - 1) = true := decide_eq_true (by have := Hn.out; omega)
      have hmk : m = kn + 1 - St l kn := by rw [Hm.out]; exact hLl
      have hkn2 : kn < n := by rw [Hn.out]; exact hkn
      have HPc : Hid (Blk ((w3.alloc (.cells #[.slice q m qc] 24)).alloc (.cells #[.int .i64 0, .int .i64 0] 26)) w3.heap.size 24 #[.slice q m qc]) := (Blk.new _ _ _).alloc _
      have HXc := Lib.hid ((HX3.out.alloc (.cells #[.slice q m qc] 24)).alloc (.cells #[.int .i64 0, .int .i64 0] 26))
      have HTc : Hid (∀ W', Below ((w3.alloc (.cells #[.slice q m qc] 24)).alloc (.cells #[.int .i64 0, .int .i64 0] 26)).heap.size ((w3.alloc (.cells #[.slice q m qc] 24)).alloc (.cells #[.int .i64 0, .int .i64 0] 26)) W' → Tr W' q L) := fun W' hW' => HTL.out W' fun g _ hlt => by
        rw [hW'.block g (by simp; omega), Below.heap_alloc _ _ _ (by simp; omega), Below.heap_alloc _ _ _ hlt]
      have Hkn := Lib.hid hkn
      have Hl0 := Lib.hid hl0
      have Hmk := Lib.hid hmk
      have Hcut := Lib.hid hcut
      clear hkn hl0 hmk hcut hLl HTL
      go_wp2_with (go_at_call 10; refine (in10_any _ _ _ _).mono ?_; rintro e w' ⟨rfl, rfl⟩)
      clear x3 f0 f1 fz0 fz1 g0 g1 hin
      generalize (w3.alloc (.cells #[.slice q m qc] 24)).alloc (.cells #[.int .i64 0, .int .i64 0] 26) = Wc at *
      have hEc := HE.out Hl0.out kn hkn2 Wc.drew HBc.out.drew
      have S0 : Hid (Wc.drew.cell? ⟨w.heap.size, 0, none⟩ = some (.slice p n cap) ∧ Wc.drew.cell? ⟨w3.heap.size, 0, none⟩ = some (.slice q m qc)) := ⟨by rw [HXc.out.drew.cell]; rfl, by rw [HPc.out.drew.cell]; rfl⟩
      have lx : w.heap.size < Wc.drew.heap.size := HXc.out.lt
      have lp : w3.heap.size < Wc.drew.heap.size := HPc.out.lt
      have S1 : Hid (∀ W, Below Wc.drew.heap.size Wc.drew W → W.cell? ⟨w.heap.size, 0, none⟩ = some (.slice p n cap) ∧ W.cell? ⟨w3.heap.size, 0, none⟩ = some (.slice q m qc)) := fun W h => ⟨(h.cell (p := ⟨w.heap.size, 0, none⟩) lx).trans S0.out.1, (h.cell (p := ⟨w3.heap.size, 0, none⟩) lp).trans S0.out.2⟩
      have HOpen : Hid (∀ e w6, CtPost l (St l kn) (kn + 1 - St l kn) Wc.drew e w6 → ∃ q' qc', e = .returned (.agg #[.slice q' m qc']) ∧ Below Wc.drew.heap.size Wc.drew w6 ∧ Calls Try.prog 13 #[.agg #[.slice q m qc], .agg #[.slice q' m qc']] w6 fun e w' => e = .returned (.bool true) ∧ Below Wc.drew.heap.size Wc.drew w') := fun e w6 ⟨L', q', qc', he, h1, h2, h3, h4, h5⟩ => by
        have hm1 := Hm.out
        have hm2 := Hmk.out
        have hkl := Hkn.out
        have hle := St_le l kn
        have hL' : L'.length = m := by omega
        obtain ⟨g1, g2, g3, g4, g5⟩ := Hl0.out.good
        have hb6 : Below Wc.heap.size Wc w6 := ((Below.refl _ _).drew).trans h5
        have h := trees_eq L L' q q' qc qc' w6 (HTc.out w6 hb6) (h3 w6 fun _ _ _ => rfl) (by omega) (by omega) (fun j hj => by
          have e := (Hcut.out j hj (by omega)).2.2.2.2.1
          have hk := (code_kids (l := l) (j := St l kn + j) (by omega) (g3 _ (by omega))).1
          rw [e, subs_length]
          omega) (fun j hj hj' => (Hcut.out j hj (by omega)).alike (h4 j hj' (by omega)))
        rw [← hm1, hL'] at h
        refine ⟨q', qc', by rw [he, hL'], h5, h.mono fun e w7 ⟨he, hb⟩ => ⟨he, h5.trans (hb.mono h5.size)⟩⟩
      clear HE HTc HXc HPc Hcut Hl0 Hkn
      go_region_held3 (fun W => W.cell? ⟨w.heap.size, 0, none⟩ = some (.slice p n cap) ∧ W.cell? ⟨w3.heap.size, 0, none⟩ = some (.slice q m qc))
        (first | exact S0.out | exact S1.out _ hb7 | exact S1.out _ hb6)
        (first | (go_at_call 14; refine hEc.mono ?_; intro e w6 hp; obtain ⟨q', qc', rfl, hb6, h13⟩ := HOpen.out e w6 hp; clear hp) | (go_at_call 13; refine h13.mono ?_; rintro e w7 ⟨rfl, hb7⟩))
      have HB7 := Lib.hid (HBc.out.drew.trans (hb7.mono HBc.out.size))
      clear hb7 hb6 h13 hEc
      go_wp2
      go_ret
      exact ⟨rfl, HB7.out⟩
end Go.Proofs.Ytcaekpgnknlblaa
