/-
  The contract of the document's Tree: what is wrong with a tree.
-/
import Derived.Test.YtmghjfphlneblaaTrS
namespace Go.Proofs.Ytmghjfphlneblaa.Tr
open Go.RowKit

set_option maxHeartbeats 8000000 in
set_option maxRecDepth 100000 in
theorem rtree_main (l : List Nd) (b o cap : Nat) (w : World) (h1 : 1 ≤ l.length) (h600 : l.length ≤ 600) (hb : b < w.heap.size) (hN : ∀ j, (h : j < l.length) → NodeAt w b (o + j * 6) l[j]) (hK : ∀ j, (h : j < l.length) → KidsAt w l[j].p l[j].c) (hf : Fit2 l) :
    Calls Try.prog 11 #[.agg #[.slice (some ⟨b, o, none⟩) l.length cap]] w (CkPost l w) := by
  have HN := Lib.hid hN
  have HK := Lib.hid hK
  have HF := Lib.hid hf
  clear hN hK hf
  obtain ⟨Q, hQ⟩ : ∃ Q : Ending → World → Prop, Q = CkPost l w := ⟨_, rfl⟩
  have HQ := Lib.hid hQ
  rw [← hQ]
  clear hQ
  obtain ⟨n, hn⟩ : ∃ n, n = l.length := ⟨_, rfl⟩
  rw [← hn] at h1 h600 ⊢
  have Hn := Lib.hid hn
  clear hn
  have hi : inB (n : Int) 1 600 = true := decide_eq_true (by omega)
  go_enter Try.func11, Try.ntmps11
  go_wp2_with (first | (go_at_call 22; refine (in18_any _ _ _ _).mono ?_; rintro e w' ⟨rfl, rfl⟩))
  go_loopw [3] (fun v wr => ∃ k : Nat, k ≤ n ∧ v = .int .i64 k ∧ Blk wr w.heap.size 24 #[.slice (some ⟨b, o, none⟩) n cap] ∧ Blk wr (w.heap.size + 1) 27 #[.int .i64 0, .int .i64 0] ∧ Hid (∀ j, j < k → codeAt l j = 0) ∧ Below w.heap.size w wr) (fun v _ => n - (intOf v).toNat)
  case atStart =>
    exact ⟨0, Nat.zero_le _, rfl, (Blk.new _ _ _).alloc _, by have := Blk.new (w.alloc (.cells #[.slice (some ⟨b, o, none⟩) n cap] 24)) 27 #[.int .i64 0, .int .i64 0]; rw [World.size_alloc] at this; exact this, fun j h => by omega,
      ((Below.refl _ _).alloc (Nat.le_refl _) _).alloc (by simp) _⟩
  case round =>
    obtain ⟨k, hk, rfl, hX, hY, HC, hbel⟩ := hrel
    have x0 : wr.cell? ⟨w.heap.size, 0, none⟩ = some (.slice (some ⟨b, o, none⟩) n cap) := by rw [hX.cell]; rfl
    have HB := Lib.hid hbel
    have lX := hX.lt
    have lY := hY.lt
    have HX := Lib.hid hX
    have HY := Lib.hid hY
    clear hbel hX hY
    by_cases hlt : k < n
    · have hkl : k < l.length := by have := Hn.out; omega
      have hwr := wrong_any l k hkl b o cap wr (by have := Hn.out; omega) (Nat.lt_of_lt_of_le hb HB.out.size) (fun j hj => (HN.out j hj).below HB.out hb) (fun j hj => (HK.out j hj).below HB.out) HC.out (HF.out k hkl).1 (HF.out k hkl).2
      rw [← Hn.out] at hwr
      by_cases hc : codeAt l k = 0
      · have HC2 : Hid (∀ j, j < k + 1 → codeAt l j = 0) := fun j hj => by
          by_cases e : j = k
          · subst e; exact hc
          · exact HC.out j (by omega)
        rw [hc] at hwr
        clear hc HC
        go_wp2_with (go_at_call 23; refine hwr.mono ?_)
        first | rintro e w3 rfl hb3 | rintro e w3 ⟨rfl, hb3⟩
        have HX3 := Lib.hid (HX.out.below hb3 (by omega))
        have HY3 := Lib.hid (HY.out.below hb3 lY)
        have HB3 := Lib.hid (HB.out.trans (hb3.mono (by omega)))
        clear hb3 hwr
        go_wp2
        go_roundw
        case rel => exact ⟨k + 1, by omega, by go_num, HX3.out, HY3.out, HC2, HB3.out⟩
        case measure => simp [intOf]; try omega
      · have HR : Hid (CkR l (codeAt l k) k) := Or.inr ⟨by have := Hn.out; omega, by have := Hn.out; omega, Or.inl ⟨k, hkl, HC.out, hc, rfl, rfl⟩⟩
        have c1 : (codeAt l k != 0) = true := by simpa using hc
        clear hc HC
        generalize codeAt l k = c at *
        go_wp2_with (go_at_call 23; refine hwr.mono ?_)
        first | rintro e w3 rfl hb3 | rintro e w3 ⟨rfl, hb3⟩
        have HY3 := HY.out.below hb3 lY
        have HB3 := Lib.hid (HB.out.trans (hb3.mono (by omega)))
        have lY3 := HY3.lt
        have HYh := Lib.hid HY3
        clear hb3 hwr HY3
        go_wp2_with (go_at_call 12; refine (fault_any _ _ _).mono ?_)
        first | rintro e w4 rfl hb4 | rintro e w4 ⟨rfl, hb4⟩
        have HY4 := HYh.out.below hb4 lY3
        have HB4 := Lib.hid (HB3.out.trans (hb4.mono (by omega)))
        have y0 : w4.cell? ⟨w.heap.size + 1, 0, none⟩ = some (.int .i64 0) := by rw [HY4.cell]; rfl
        have y1 : w4.cell? ⟨w.heap.size + 1, 1, none⟩ = some (.int .i64 0) := by rw [HY4.cell]; rfl
        have g0 := HY4.frozen 0
        have g1 := HY4.frozen 1
        have lY4 := HY4.lt
        clear hb4 HY4
        go_wp2
        refine bodyPost_ret (v := .agg #[.int .i64 c, .int .i64 k]) (by simp [results, Try.results11, go_sem, y0, y1]) rfl ?_
        rw [HQ.out]
        exact ⟨(HB4.out.setCell (p := ⟨w.heap.size + 1, 0, none⟩) (by simp) _).setCell (p := ⟨w.heap.size + 1, 1, none⟩) (by simp) _, c, k, rfl, HR.out⟩
    · have hkn : k = n := by omega
      subst hkn
      have hall : Hid (∀ j, j < l.length → codeAt l j = 0) := fun j hj => HC.out j (by have := Hn.out; omega)
      have e1 : (k : Int) - 1 = ((k - 1 : Nat) : Int) := by omega
      have hmn : Hid (Mn l (k - 1) = k - St l (k - 1)) := by show _ = _; unfold Mn; omega
      have hsle := St_le l (k - 1)
      have hca : Hid (∀ W, Below wr.heap.size wr W → Calls Try.prog 24 #[.agg #[.slice (some ⟨b, o, none⟩) k cap], .int .i64 ((k - 1 : Nat) : Int)] W fun e w' => e = .returned (.int .i64 (Mn l (k - 1))) ∧ Below W.heap.size W w') := fun W hW => by
        have h := many_any l b o cap (by have := Hn.out; omega) (k - 1) W (by have := Hn.out; omega) (fun i' hi' => hall.out i' (by have := Hn.out; omega)) (Nat.lt_of_lt_of_le hb (Nat.le_trans HB.out.size hW.size)) (fun j hj => (HN.out j hj).below (HB.out.trans (hW.mono HB.out.size)) hb) (fun j hj => (HK.out j hj).below (HB.out.trans (hW.mono HB.out.size)))
        rw [← Hn.out] at h
        exact h
      have hde : Hid (∀ W, Below wr.heap.size wr W → Calls Try.prog 25 #[.agg #[.slice (some ⟨b, o, none⟩) k cap], .int .i64 ((k - 1 : Nat) : Int)] W fun e w' => e = .returned (.int .i64 (Dp l (k - 1))) ∧ Below W.heap.size W w') := fun W hW => by
        have h := deep_any l b o cap (by have := Hn.out; omega) (k - 1) W (by have := Hn.out; omega) (fun i' hi' => hall.out i' (by have := Hn.out; omega)) (Nat.lt_of_lt_of_le hb (Nat.le_trans HB.out.size hW.size)) (fun j hj => (HN.out j hj).below (HB.out.trans (hW.mono HB.out.size)) hb) (fun j hj => (HK.out j hj).below (HB.out.trans (hW.mono HB.out.size)))
        rw [← Hn.out] at h
        exact h
      have hx1 : wr.drew.cell? ⟨w.heap.size, 0, none⟩ = some (.slice (some ⟨b, o, none⟩) k cap) := x0
      have S0 := Lib.hid hx1
      have S1 : Hid (∀ W, Below wr.drew.heap.size wr.drew W → W.cell? ⟨w.heap.size, 0, none⟩ = some (.slice (some ⟨b, o, none⟩) k cap)) := fun W h => (h.cell (p := ⟨w.heap.size, 0, none⟩) lX).trans S0.out
      have hcd := hca.out wr.drew (Below.refl _ _).drew
      clear HC hx1
      generalize hM : Mn l (k - 1) = mq at *
      have HM := Lib.hid hM
      clear hM
      by_cases hs : St l (k - 1) = 0
      · have Hs : Hid (St l (l.length - 1) = 0) := by show _ = _; rw [← Hn.out]; exact hs
        have e5 : ((mq : Int) != (k : Int)) = false := by have := hmn.out; have : mq = k := by omega
                                                          rw [this]; simp
        have e6 : ((mq : Int) == (k : Int)) = true := by have := hmn.out; have : mq = k := by omega
                                                         rw [this]; simp
        clear hs hsle hca
        go_wp2
        go_region_held3 (fun W => W.cell? ⟨w.heap.size, 0, none⟩ = some (.slice (some ⟨b, o, none⟩) k cap))
          (first | exact S0.out | exact S1.out _ hb3)
          ((go_at_call 24; refine hcd.mono ?_; rintro e w3 ⟨rfl, hb3⟩))
        have hb4 : Below wr.heap.size wr w3 := (Below.refl _ _).drew.trans hb3
        have HX3 := HX.out.below hb4 lX
        have HY3 := HY.out.below hb4 lY
        have HB3 := Lib.hid (HB.out.trans (hb4.mono (by omega)))
        have HB4 := Lib.hid hb4
        have x3 : w3.cell? ⟨w.heap.size, 0, none⟩ = some (.slice (some ⟨b, o, none⟩) k cap) := by rw [HX3.cell]; rfl
        have lY3 := HY3.lt
        have HYh := Lib.hid HY3
        clear hb3 hb4 HX3 HY3 hcd
        have hdd := hde.out w3 HB4.out
        obtain ⟨d, hd⟩ : ∃ d, d = Dp l (k - 1) := ⟨_, rfl⟩
        rw [← hd] at hdd
        have Hd : Hid (d = Dp l (l.length - 1)) := by show _ = _; rw [← Hn.out]; exact hd
        clear hd e5 e6
        by_cases h40 : 40 < d
        · have HR : Hid (CkR l 10 0) := Or.inr ⟨by have := Hn.out; omega, by have := Hn.out; omega, Or.inr ⟨hall.out, Or.inr ⟨Hs.out, Or.inl ⟨by rw [← Hd.out]; exact h40, rfl, rfl⟩⟩⟩⟩
          go_wp2_with (go_at_call 25; refine hdd.mono ?_)
          first | rintro e w5 rfl hb5 | rintro e w5 ⟨rfl, hb5⟩
          have HY5 := HYh.out.below hb5 lY3
          have HB3 := Lib.hid (HB3.out.trans (hb5.mono (by omega)))
          have lY3 := HY5.lt
          have HYh := Lib.hid HY5
          clear hb5 HY5 hdd
          go_wp2_with (go_at_call 12; refine (fault_any _ _ _).mono ?_)
          first | rintro e w4 rfl hb4 | rintro e w4 ⟨rfl, hb4⟩
          have HY4 := HYh.out.below hb4 lY3
          have HB5 := Lib.hid (HB3.out.trans (hb4.mono (by omega)))
          have y0 : w4.cell? ⟨w.heap.size + 1, 0, none⟩ = some (.int .i64 0) := by rw [HY4.cell]; rfl
          have y1 : w4.cell? ⟨w.heap.size + 1, 1, none⟩ = some (.int .i64 0) := by rw [HY4.cell]; rfl
          have g0 := HY4.frozen 0
          have g1 := HY4.frozen 1
          have lY4 := HY4.lt
          clear hb4 HY4
          go_wp2
          refine bodyPost_ret (v := .agg #[.int .i64 10, .int .i64 0]) (by simp [results, Try.results11, go_sem, y0, y1]) rfl ?_
          rw [HQ.out]
          exact ⟨(HB5.out.setCell (p := ⟨w.heap.size + 1, 0, none⟩) (by simp) _).setCell (p := ⟨w.heap.size + 1, 1, none⟩) (by simp) _, _, _, rfl, HR.out⟩
        · have HR : Hid (CkR l 0 0) := Or.inr ⟨by have := Hn.out; omega, by have := Hn.out; omega, Or.inr ⟨hall.out, Or.inr ⟨Hs.out, Or.inr ⟨by rw [← Hd.out]; omega, rfl, rfl⟩⟩⟩⟩
          go_wp2_with (go_at_call 25; refine hdd.mono ?_)
          first | rintro e w5 rfl hb5 | rintro e w5 ⟨rfl, hb5⟩
          have HY5 := HYh.out.below hb5 lY3
          have HB5 := Lib.hid (HB3.out.trans (hb5.mono (by omega)))
          have y0 : w5.cell? ⟨w.heap.size + 1, 0, none⟩ = some (.int .i64 0) := by rw [HY5.cell]; rfl
          have y1 : w5.cell? ⟨w.heap.size + 1, 1, none⟩ = some (.int .i64 0) := by rw [HY5.cell]; rfl
          have g0 := HY5.frozen 0
          have g1 := HY5.frozen 1
          have lY5 := HY5.lt
          clear hb5 HY5 hdd
          go_wp2
          refine bodyPost_ret (v := .agg #[.int .i64 0, .int .i64 0]) (by simp [results, Try.results11, go_sem, y0, y1]) rfl ?_
          rw [HQ.out]
          exact ⟨(HB5.out.setCell (p := ⟨w.heap.size + 1, 0, none⟩) (by simp) _).setCell (p := ⟨w.heap.size + 1, 1, none⟩) (by simp) _, _, _, rfl, HR.out⟩
      · have HR : Hid (CkR l 5 ((k - 1 : Nat) : Int)) := Or.inr ⟨by have := Hn.out; omega, by have := Hn.out; omega, Or.inr ⟨hall.out, Or.inl ⟨by rw [← Hn.out]; exact hs, rfl, by rw [← Hn.out]; omega⟩⟩⟩
        have e5 : ((mq : Int) != (k : Int)) = true := by rw [bne_iff_ne]; have := hmn.out; omega
        have e6 : ((mq : Int) == (k : Int)) = false := by rw [beq_eq_false_iff_ne]; have := hmn.out; omega
        clear hs hsle hca hde
        go_wp2
        go_region_held3 (fun W => W.cell? ⟨w.heap.size, 0, none⟩ = some (.slice (some ⟨b, o, none⟩) k cap))
          (first | exact S0.out | exact S1.out _ hb3)
          ((go_at_call 24; refine hcd.mono ?_; rintro e w3 ⟨rfl, hb3⟩))
        have hb4 : Below wr.heap.size wr w3 := (Below.refl _ _).drew.trans hb3
        have HX3 := HX.out.below hb4 lX
        have HY3 := HY.out.below hb4 lY
        have HB3 := Lib.hid (HB.out.trans (hb4.mono (by omega)))
        have HB4 := Lib.hid hb4
        have x3 : w3.cell? ⟨w.heap.size, 0, none⟩ = some (.slice (some ⟨b, o, none⟩) k cap) := by rw [HX3.cell]; rfl
        have lY3 := HY3.lt
        have HYh := Lib.hid HY3
        clear hb3 hb4 HX3 HY3 hcd
        go_wp2_with (go_at_call 12; refine (fault_any _ _ _).mono ?_)
        first | rintro e w4 rfl hb4 | rintro e w4 ⟨rfl, hb4⟩
        have HY4 := HYh.out.below hb4 lY3
        have HB5 := Lib.hid (HB3.out.trans (hb4.mono (by omega)))
        have y0 : w4.cell? ⟨w.heap.size + 1, 0, none⟩ = some (.int .i64 0) := by rw [HY4.cell]; rfl
        have y1 : w4.cell? ⟨w.heap.size + 1, 1, none⟩ = some (.int .i64 0) := by rw [HY4.cell]; rfl
        have g0 := HY4.frozen 0
        have g1 := HY4.frozen 1
        have lY4 := HY4.lt
        clear hb4 HY4
        go_wp2
        refine bodyPost_ret (v := .agg #[.int .i64 5, .int .i64 ((k - 1 : Nat) : Int)]) (by simp [results, Try.results11, go_sem, y0, y1]) rfl ?_
        rw [HQ.out]
        exact ⟨(HB5.out.setCell (p := ⟨w.heap.size + 1, 0, none⟩) (by simp) _).setCell (p := ⟨w.heap.size + 1, 1, none⟩) (by simp) _, _, _, rfl, HR.out⟩

theorem rtree_any (l : List Nd) (p : Option Addr) (cap : Nat) (w : World) (hT : Tr w p l) (hf : Fit l cap) (hf2 : Fit2 l) : Calls Try.prog 11 #[.agg #[.slice p l.length cap]] w (CkPost l w) := by
  by_cases h : l.length < 1 ∨ 600 < l.length
  · exact rtree_count l p cap w hf.2.1 h
  · obtain ⟨b, o, rfl, hb, hN⟩ := hT.1 (by omega)
    exact rtree_main l b o cap w (by omega) (by omega) hb hN hT.2 hf2
end Go.Proofs.Ytmghjfphlneblaa.Tr
