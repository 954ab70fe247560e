/-
  The contract of Part.
-/
import Derived.Test.YtcaekpgnknlblaaBb
import Derived.Test.YtcaekpgnknlblaaW
import Derived.Deep.RegionWith
namespace Go.Proofs.Ytcaekpgnknlblaa
open Go.RowKit

/-- what Part tells -/
def PtR (l : List Nd) (k : Int) (L : List Nd) (c a : Int) : Prop :=
  (CkR l c a ∧ c ≠ 0 ∧ L = []) ∨ (CkR l 0 0 ∧ (k < 0 ∨ (l.length : Int) ≤ k) ∧ c = 3 ∧ a = -1 ∧ L = []) ∨
  (CkR l 0 0 ∧ c = 0 ∧ a = 0 ∧ ∃ kn : Nat, k = kn ∧ kn < l.length ∧ L.length = kn + 1 - St l kn ∧ ∀ j, (h : j < L.length) → (h' : St l kn + j < l.length) → CutOf (St l kn) l[St l kn + j] L[j])
def PtPost (l : List Nd) (k : Int) (w : World) (e : Ending) (w' : World) : Prop :=
  Below w.heap.size w w' ∧ ∃ (L : List Nd) (p : Option Addr) (cap : Nat) (c a : Int), e = .returned (.tuple #[.agg #[.slice p L.length cap], .agg #[.int .i64 c, .int .i64 a]]) ∧ (∀ W' : World, (∀ g, w.heap.size ≤ g → g < w'.heap.size → W'.heap[g]? = w'.heap[g]?) → Tr W' p L) ∧ L.length ≤ cap ∧ PtR l k L c a
theorem CkR.good {l : List Nd} (h : CkR l 0 0) : 1 ≤ l.length ∧ l.length ≤ 600 ∧ (∀ j, j < l.length → codeAt l j = 0) ∧ St l (l.length - 1) = 0 ∧ Dp l (l.length - 1) ≤ 40 := by
  rcases h with ⟨_, h, _⟩ | ⟨h1, h2, h⟩
  · cases h
  · rcases h with ⟨i, _, _, hne, h, _⟩ | ⟨ha, h⟩
    · exact absurd h.symm hne
    · rcases h with ⟨_, h, _⟩ | ⟨h3, ⟨_, h, _⟩ | ⟨h4, _⟩⟩
      · cases h
      · cases h
      · exact ⟨h1, h2, ha, h3, h4⟩
theorem tr_nil (w : World) : Tr w none [] := ⟨fun h => by simp at h, fun i h => by simp at h⟩
theorem good_tame {l : List Nd} (hg : ∀ j, j < l.length → codeAt l j = 0) (hl : l.length ≤ 600) (ht : ∀ j, (h : j < l.length) → l[j].t.size ≤ 281474976710656) : ∀ j, (h : j < l.length) → Tame l[j] := fun j hj => by
  obtain ⟨h1, h2⟩ := code_kids hj (hg j hj)
  exact ⟨by omega, ht j hj, fun i hi => by
    obtain ⟨q, hq, e⟩ := h2 i hi
    rw [e]; omega⟩

theorem three_set {w : World} {g1 g2 : Nat} {x y0 y1 : Value} (hR : Blk w g1 24 #[x]) (hF : Blk w g2 26 #[y0, y1]) (hne : g1 ≠ g2) (v c a : Value) :
    Blk (((w.setCell ⟨g1, 0, none⟩ v).setCell ⟨g2, 0, none⟩ c).setCell ⟨g2, 1, none⟩ a) g1 24 #[v] ∧ Blk (((w.setCell ⟨g1, 0, none⟩ v).setCell ⟨g2, 0, none⟩ c).setCell ⟨g2, 1, none⟩ a) g2 26 #[c, a] := by
  have h1 : Blk (w.setCell ⟨g1, 0, none⟩ v) g1 24 #[v] := by have h := hR.set_ 0 v; simpa using h
  have h2 : Blk (w.setCell ⟨g1, 0, none⟩ v) g2 26 #[y0, y1] := hF.far (by exact fun e => hne e.symm) v
  exact ⟨(h1.far (p := ⟨g2, 0, none⟩) hne c).far (p := ⟨g2, 1, none⟩) hne a, fault_put h2 c a⟩
theorem below_three {B g1 g2 : Nat} {a w : World} (h : Below B a w) (h1 : B ≤ g1) (h2 : B ≤ g2) (v x y : Value) : Below B a (((w.setCell ⟨g1, 0, none⟩ v).setCell ⟨g2, 0, none⟩ x).setCell ⟨g2, 1, none⟩ y) :=
  ((h.setCell (p := ⟨g1, 0, none⟩) h1 v).setCell (p := ⟨g2, 0, none⟩) h2 x).setCell (p := ⟨g2, 1, none⟩) h2 y

set_option maxHeartbeats 16000000 in
set_option maxRecDepth 100000 in
theorem part_any (l : List Nd) (p : Option Addr) (cap : Nat) (k : Int) (w : World) (hT : Tr w p l) (hf : Fit l cap) (ht : ∀ j, (h : j < l.length) → l[j].t.size ≤ 281474976710656) :
    Calls Try.prog 9 #[.agg #[.slice p l.length cap], .int .i64 k] w (PtPost l k w) := by
  have hW : Below w.heap.size w (((w.alloc (.cells #[.slice p l.length cap] 24)).alloc (.cells #[.slice none 0 0] 24)).alloc (.cells #[.int .i64 0, .int .i64 0] 26)) := (((Below.refl _ _).alloc (Nat.le_refl _) _).alloc (by simp) _).alloc (by simp; omega) _
  have hbg := begins_any l p cap _ (hT.below hW) hf
  have hX0 : Blk (((w.alloc (.cells #[.slice p l.length cap] 24)).alloc (.cells #[.slice none 0 0] 24)).alloc (.cells #[.int .i64 0, .int .i64 0] 26)) w.heap.size 24 #[.slice p l.length cap] := ((Blk.new _ _ _).alloc _).alloc _
  have hR0 : Blk (((w.alloc (.cells #[.slice p l.length cap] 24)).alloc (.cells #[.slice none 0 0] 24)).alloc (.cells #[.int .i64 0, .int .i64 0] 26)) (w.heap.size + 1) 24 #[.slice none 0 0] := by
    have h := Blk.new (w.alloc (.cells #[.slice p l.length cap] 24)) 24 #[.slice none 0 0]
    rw [World.size_alloc] at h
    exact h.alloc _
  have hF0 : Blk (((w.alloc (.cells #[.slice p l.length cap] 24)).alloc (.cells #[.slice none 0 0] 24)).alloc (.cells #[.int .i64 0, .int .i64 0] 26)) (w.heap.size + 1 + 1) 26 #[.int .i64 0, .int .i64 0] := by
    have h := Blk.new ((w.alloc (.cells #[.slice p l.length cap] 24)).alloc (.cells #[.slice none 0 0] 24)) 26 #[.int .i64 0, .int .i64 0]
    rw [World.size_alloc, World.size_alloc] at h
    exact h
  have HW := Lib.hid hW
  have HX0 := Lib.hid hX0
  have HR0 := Lib.hid hR0
  have HF0 := Lib.hid hF0
  have HT := Lib.hid hT
  have Ht := Lib.hid ht
  have hcap := hf.1
  have h47 := hf.2.1
  clear hW hX0 hR0 hF0 hT ht hf
  obtain ⟨Q, hQ⟩ : ∃ Q : Ending → World → Prop, Q = PtPost l k w := ⟨_, rfl⟩
  have HQ := Lib.hid hQ
  rw [← hQ]
  clear hQ
  obtain ⟨n, hn⟩ : ∃ n, n = l.length := ⟨_, rfl⟩
  rw [← hn] at hcap h47 HW HX0 HR0 HF0 hbg ⊢
  have Hn := Lib.hid hn
  clear hn
  go_enter Try.func9, Try.ntmps9
  go_wp2_with (go_at_call 23; refine hbg.mono ?_)
  intro e w3 hp
  obtain ⟨hb3, v, c, a, rfl, hr, hv⟩ := hp
  have HR := Lib.hid hr
  have HV := Lib.hid hv
  have HB3 := Lib.hid (HW.out.trans (hb3.mono (by simp; try omega)))
  have hX3 := HX0.out.below hb3 (by simp; try omega)
  have hR3 := HR0.out.below hb3 (by simp; try omega)
  have hF3 := HF0.out.below hb3 (by simp; try omega)
  have x0 : w3.cell? ⟨w.heap.size, 0, none⟩ = some (.slice p n cap) := by rw [hX3.cell]; rfl
  have r0 : w3.cell? ⟨w.heap.size + 1, 0, none⟩ = some (.slice none 0 0) := by rw [hR3.cell]; rfl
  have f0 : w3.cell? ⟨w.heap.size + 1 + 1, 0, none⟩ = some (.int .i64 0) := by rw [hF3.cell]; rfl
  have f1 : w3.cell? ⟨w.heap.size + 1 + 1, 1, none⟩ = some (.int .i64 0) := by rw [hF3.cell]; rfl
  have rz := hR3.frozen 0
  have fz0 := hF3.frozen 0
  have fz1 := hF3.frozen 1
  have lF := hF3.lt
  have lR : w.heap.size + 1 < w3.heap.size := by omega
  have lX : w.heap.size < w3.heap.size := by omega
  have HX3 := Lib.hid hX3
  have HR3 := Lib.hid hR3
  have HF3 := Lib.hid hF3
  clear hb3 hr hv hbg hX3 hR3 hF3 HW HX0 HR0 HF0
  by_cases hc0 : c = 0
  · subst hc0
    have ha := HR.out.zero
    subst ha
    obtain ⟨B, hvB, hB1, hB2, hB3⟩ := HV.out rfl
    rw [← Hn.out] at hvB
    subst hvB
    have HBc := Lib.hid hB3
    clear hB3 HV
    by_cases hk : k < 0 ∨ (n : Int) ≤ k
    · have HP : Hid (PtR l k [] 3 (-1)) := Or.inr (Or.inl ⟨HR.out, by rw [← Hn.out]; exact hk, rfl, rfl, rfl⟩)
      rcases hk with hk | hk
      · go_wp2
        have h3 := three_set HR3.out HF3.out (by omega) (.slice none 0 0) (.int .i64 3) (.int .i64 (-1))
        have hA1 := h3.1.alloc (.cells #[.int .i64 0, .int .i64 0] 26)
        have hA2 := h3.2.alloc (.cells #[.int .i64 0, .int .i64 0] 26)
        have z0 := hA1.cell 0
        have z1 := hA2.cell 0
        have z2 := hA2.cell 1
        clear h3 hA1 hA2
        refine bodyPost_ret (v := .tuple #[.agg #[.slice none 0 0], .agg #[.int .i64 3, .int .i64 (-1)]]) (by simp [results, Try.results9, go_sem, z0, z1, z2]) rfl ?_
        rw [HQ.out]
        exact ⟨(below_three HB3.out (by omega) (by omega) _ _ _).alloc (by simpa using HB3.out.size) _, [], none, 0, 3, -1, rfl, fun _ _ => tr_nil _, Nat.le_refl _, HP.out⟩
      · have hk0 : ¬ k < 0 := by omega
        go_wp2
        have h3 := three_set HR3.out HF3.out (by omega) (.slice none 0 0) (.int .i64 3) (.int .i64 (-1))
        have hA1 := h3.1.alloc (.cells #[.int .i64 0, .int .i64 0] 26)
        have hA2 := h3.2.alloc (.cells #[.int .i64 0, .int .i64 0] 26)
        have z0 := hA1.cell 0
        have z1 := hA2.cell 0
        have z2 := hA2.cell 1
        clear h3 hA1 hA2
        refine bodyPost_ret (v := .tuple #[.agg #[.slice none 0 0], .agg #[.int .i64 3, .int .i64 (-1)]]) (by simp [results, Try.results9, go_sem, z0, z1, z2]) rfl ?_
        rw [HQ.out]
        exact ⟨(below_three HB3.out (by omega) (by omega) _ _ _).alloc (by simpa using HB3.out.size) _, [], none, 0, 3, -1, rfl, fun _ _ => tr_nil _, Nat.le_refl _, HP.out⟩
    · have hk0 : 0 ≤ k := by omega
      obtain ⟨kn, rfl⟩ : ∃ kn : Nat, k = kn := ⟨k.toNat, by omega⟩
      have hkn : kn < n := by omega
      have hgood := HR.out.good
      obtain ⟨g1, g2, g3, g4, g5⟩ := hgood
      obtain ⟨b, o, rfl, hb, hN⟩ := HT.out.1 (by omega)
      have hle := St_le l kn
      have hb0 := (HBc.out kn (by have := Hn.out; omega))
      have HBd := Lib.hid ((HB3.out.alloc HB3.out.size (.cells #[.int .i64 0, .int .i64 0] 26)).drew)
      obtain ⟨f, hfe⟩ : ∃ f, f = St l kn := ⟨_, rfl⟩
      rw [← hfe] at hb0 hle
      have HFe := Lib.hid hfe
      have hct := cut_any l b o cap f (kn + 1 - f) (w3.alloc (.cells #[.int .i64 0, .int .i64 0] 26)).drew (by have := Hn.out; omega) (by omega) g2 (by have := Hn.out; omega) (Nat.lt_of_lt_of_le hb HBd.out.size) (fun j hj => (hN j hj).below HBd.out hb) (fun j hj => (HT.out.2 j hj).below HBd.out) (good_tame g3 g2 Ht.out)
      rw [show f + (kn + 1 - f) - 1 = kn by omega, ← Hn.out] at hct
      have hR4 := HR3.out.alloc (.cells #[.int .i64 0, .int .i64 0] 26)
      have hF4 := HF3.out.alloc (.cells #[.int .i64 0, .int .i64 0] 26)
      have HP : Hid (∀ e w5, CtPost l f (kn + 1 - f) (w3.alloc (.cells #[.int .i64 0, .int .i64 0] 26)).drew e w5 → ∃ (L : List Nd) (q : Option Addr) (qn qc : Nat), e = .returned (.agg #[.slice q qn qc]) ∧ w5.cell? ⟨w.heap.size + 1, 0, none⟩ = some (.slice none 0 0) ∧ w5.frozen? ⟨w.heap.size + 1, 0, none⟩ = false ∧
          w5.cell? ⟨w.heap.size + 1 + 1, 0, none⟩ = some (.int .i64 0) ∧ w5.cell? ⟨w.heap.size + 1 + 1, 1, none⟩ = some (.int .i64 0) ∧ w5.frozen? ⟨w.heap.size + 1 + 1, 0, none⟩ = false ∧ w5.frozen? ⟨w.heap.size + 1 + 1, 1, none⟩ = false ∧
          Hid (qn = L.length ∧ Blk w5 (w.heap.size + 1) 24 #[.slice none 0 0] ∧ Blk w5 (w.heap.size + 1 + 1) 26 #[.int .i64 0, .int .i64 0] ∧ L.length = kn + 1 - f ∧ L.length ≤ qc ∧ (∀ W' : World, (∀ g, (w3.alloc (.cells #[.int .i64 0, .int .i64 0] 26)).drew.heap.size ≤ g → g < w5.heap.size → W'.heap[g]? = w5.heap[g]?) → Tr W' q L) ∧ (∀ j, (h : j < L.length) → (h' : f + j < l.length) → CutOf f l[f + j] L[j]) ∧ Below (w3.alloc (.cells #[.int .i64 0, .int .i64 0] 26)).drew.heap.size (w3.alloc (.cells #[.int .i64 0, .int .i64 0] 26)).drew w5)) := fun e w5 ⟨L, q, qc, he, h1, h2, h3, h4, h5⟩ => by
        have hR5 : Blk w5 (w.heap.size + 1) 24 #[.slice none 0 0] := hR4.drew.below h5 (by exact hR4.lt)
        have hF5 : Blk w5 (w.heap.size + 1 + 1) 26 #[.int .i64 0, .int .i64 0] := hF4.drew.below h5 (by exact hF4.lt)
        exact ⟨L, q, L.length, qc, he, by rw [hR5.cell]; rfl, hR5.frozen 0, by rw [hF5.cell]; rfl, by rw [hF5.cell]; rfl, hF5.frozen 0, hF5.frozen 1, rfl, hR5, hF5, h1, h2, h3, h4, h5⟩
      have hki : (kn : Int) < (n : Int) := by omega
      have hk1 : ¬ (kn : Int) < 0 := by omega
      have hk2 : ¬ (n : Int) ≤ (kn : Int) := by omega
      have hNr := Lib.hid hN
      have HG2 := Lib.hid g2
      clear g1 g2 g3 g4 g5 hN hR4 hF4 hfe hk
      go_wp2
      go_region_with (go_at_call 24; refine hct.mono ?_; intro e w5 hp; obtain ⟨L, q, qn, qc, rfl, e1, e2, e3, e4, e5, e6, HH⟩ := HP.out e w5 hp; clear hp)
      all_goals
        obtain ⟨i1, i2, i3, i4, i5, i6, i7, i8⟩ := HH.out
        have h3 := three_set i2 i3 (by omega) (.slice q qn qc) (.int .i64 0) (.int .i64 0)
        have z0 := h3.1.cell 0
        have z1 := h3.2.cell 0
        have z2 := h3.2.cell 1
        have HI : Hid (∀ W' : World, (∀ g, w.heap.size ≤ g → g < (((w5.setCell ⟨w.heap.size + 1, 0, none⟩ (.slice q qn qc)).setCell ⟨w.heap.size + 1 + 1, 0, none⟩ (.int .i64 0)).setCell ⟨w.heap.size + 1 + 1, 1, none⟩ (.int .i64 0)).heap.size → W'.heap[g]? = (((w5.setCell ⟨w.heap.size + 1, 0, none⟩ (.slice q qn qc)).setCell ⟨w.heap.size + 1 + 1, 0, none⟩ (.int .i64 0)).setCell ⟨w.heap.size + 1 + 1, 1, none⟩ (.int .i64 0)).heap[g]?) → Tr W' q L) := fun W' hW' => i6 W' fun g hg hlt => by
          have hg2 : w3.heap.size + 1 ≤ g := by simpa using hg
          rw [hW' g (by omega) (by simpa using hlt), Below.heap_setCell _ _ _ _ (by simp; omega), Below.heap_setCell _ _ _ _ (by simp; omega), Below.heap_setCell _ _ _ _ (by simp; omega)]
        have HJ : Hid (Below w.heap.size w (((w5.setCell ⟨w.heap.size + 1, 0, none⟩ (.slice q qn qc)).setCell ⟨w.heap.size + 1 + 1, 0, none⟩ (.int .i64 0)).setCell ⟨w.heap.size + 1 + 1, 1, none⟩ (.int .i64 0))) := below_three (HBd.out.trans (i8.mono HBd.out.size)) (by omega) (by omega) _ _ _
        have HP2 : Hid (PtR l kn L 0 0) := Or.inr (Or.inr ⟨HR.out, rfl, rfl, kn, rfl, by have := Hn.out; omega, by rw [i4, HFe.out], by rw [← HFe.out]; exact i7⟩)
        clear i2 i3 i6 i7 i8 h3
        go_wp2
        subst i1
        refine bodyPost_ret (v := .tuple #[.agg #[.slice q L.length qc], .agg #[.int .i64 0, .int .i64 0]]) (by simp [results, Try.results9, go_sem, z0, z1, z2]) rfl ?_
        rw [HQ.out]
        exact ⟨HJ.out, L, q, qc, 0, 0, rfl, HI.out, i5, HP2.out⟩
  · have q1 : (c != 0) = true := by simpa using hc0
    have q2 : (c == 0) = false := by simpa using hc0
    have HP : Hid (PtR l k [] c a) := Or.inl ⟨HR.out, hc0, rfl⟩
    clear hc0 HV
    go_wp2
    go_region
    go_wp2
    have h3 := three_set HR3.out HF3.out (by omega) (.slice none 0 0) (.int .i64 c) (.int .i64 a)
    have hA1 := h3.1.alloc (.cells #[.int .i64 c, .int .i64 a] 26)
    have hA2 := h3.2.alloc (.cells #[.int .i64 c, .int .i64 a] 26)
    have z0 := hA1.cell 0
    have z1 := hA2.cell 0
    have z2 := hA2.cell 1
    clear h3 hA1 hA2
    refine bodyPost_ret (v := .tuple #[.agg #[.slice none 0 0], .agg #[.int .i64 c, .int .i64 a]]) (by simp [results, Try.results9, go_sem, z0, z1, z2]) rfl ?_
    rw [HQ.out]
    exact ⟨((below_three HB3.out (by omega) (by omega) _ _ _).alloc (by simpa using HB3.out.size) _).drew, [], none, 0, c, a, rfl, fun _ _ => tr_nil _, Nat.le_refl _, HP.out⟩
end Go.Proofs.Ytcaekpgnknlblaa
