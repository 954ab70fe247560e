/-
  The contract of depth: how deep a list of good nodes is.
-/
import Derived.Test.YtmghjfphlneblaaTrJ
namespace Go.Proofs.Ytmghjfphlneblaa.Tr
open Go.RowKit

theorem info3 : (Try.prog.info? 3).map (fun i => (i.zero, i.size, i.bytes)) = some (some (.int .i64 0), 1, 8) := by kernel_rfl
theorem make_ints (n : Nat) (w : World) (h : n ≤ 1000000) :
    (Instr.makeSlice 25 (.int .i64 (n : Int)) (.int .i64 (n : Int))).run Try.prog w = .ok (.slice (some ⟨w.heap.size, 0, none⟩) n n) (w.alloc (.cells (numC n []) 3)) := by
  obtain ⟨i0, hi, hz0, hz1, hz2⟩ := info_parts info3
  have := run_make (P := Try.prog) w 25 3 i0 (.int .i64 0) Try.underlying25 hi hz0 .i64 .i64 n n (by omega) (Int.le_refl _) (by rw [hz2]; omega) (by omega)
  rw [hz1] at this
  simp only [Int.toNat_natCast, Nat.mul_one] at this
  rw [this, ← numC_made]
  rfl

theorem numC_pad {n : Nat} {xs : List Nat} (h : xs.length < n) : numC n xs = numC n (xs ++ [0]) := by
  rw [← numC_snoc 0 h]
  apply Array.ext'
  rw [Array.toList_setIfInBounds]
  apply List.ext_getElem?
  intro j
  rw [List.getElem?_set]
  split
  · rename_i e
    subst e
    have h1 := numC_zero (n := n) (xs := xs) (j := xs.length) (Nat.le_refl _) h
    have hsz : xs.length < (numC n xs).toList.length := by unfold numC; simp; omega
    rw [Array.getElem?_toList, h1, if_pos hsz]
    rfl
  · rfl
theorem deeps_succ (l : List Nd) (k : Nat) : deeps l (k + 1) = deeps l k ++ [maxI (fun j => (deeps l k).getD j 0) (kidsAt l k) + 1] := rfl
theorem maxI_le {d : Nat → Nat} {K : Nat} (h : ∀ q, d q ≤ K) (c : List Int) : maxI d c ≤ K := by
  induction c with
  | nil => exact Nat.zero_le _
  | cons x c ih => have := h x.toNat; simp only [maxI]; omega
theorem deeps_le (l : List Nd) (k : Nat) : ∀ q, (deeps l k).getD q 0 ≤ k := by
  induction k with
  | zero => intro q; simp [deeps]
  | succ k ih =>
    intro q
    have hm := maxI_le ih (kidsAt l k)
    simp only [List.getD] at ih hm ⊢
    rw [deeps_succ]
    by_cases hq : q < (deeps l k).length
    · rw [List.getElem?_append_left hq]; have := ih q; omega
    · rw [List.getElem?_append_right (by omega)]
      by_cases e : q - (deeps l k).length = 0
      · rw [e]; simpa using hm
      · rw [List.getElem?_eq_none (by simp; omega)]; simp
theorem if_max (M d : Nat) : (if M < d then (d : Int) else (M : Int)) = ((max M d : Nat) : Int) := by split <;> omega
theorem snoc_getD {xs : List Nat} {u : Nat} {j : Nat} (h : j < xs.length) : (xs ++ [u]).getD j 0 = xs.getD j 0 := by
  simp only [List.getD]; rw [List.getElem?_append_left h]
theorem snoc_last {xs : List Nat} {u : Nat} : (xs ++ [u]).getD xs.length 0 = u := by
  simp only [List.getD]; rw [List.getElem?_append_right (Nat.le_refl _)]; simp

set_option maxHeartbeats 8000000 in
set_option maxRecDepth 100000 in
theorem depth_any (l : List Nd) (b o cap : Nat) (w : World) (hl : l.length ≤ 600) (h0 : 0 < l.length) (hb : b < w.heap.size) (hN : ∀ j, (h : j < l.length) → NodeAt w b (o + j * 6) l[j]) (hK : ∀ j, (h : j < l.length) → KidsAt w l[j].p l[j].c)
    (hg : ∀ j, j < l.length → codeAt l j = 0) :
    Calls Try.prog 28 #[.slice (some ⟨b, o, none⟩) l.length cap] w fun e w' => e = .returned (.int .i64 (Dp l (l.length - 1))) ∧ Below w.heap.size w w' := by
  have HN := Lib.hid hN
  have HK := Lib.hid hK
  have HG := Lib.hid hg
  clear hN hK hg
  obtain ⟨n, hn⟩ : ∃ n, n = l.length := ⟨_, rfl⟩
  rw [← hn] at hl h0 ⊢
  have Hn := Lib.hid hn
  clear hn
  have hmk := make_ints n w (by omega)
  go_enter Try.func28, Try.ntmps28
  go_wp2
  have HMK := Lib.hid hmk
  clear hmk
  go_loopw [13] (fun v wr => ∃ k : Nat, k ≤ n ∧ v = .int .i64 k ∧ Blk wr w.heap.size 3 (numC n (deeps l k)) ∧ Below w.heap.size w wr) (fun v _ => n - (intOf v).toNat)
  case atStart => exact ⟨0, Nat.zero_le _, rfl, Blk.new _ _ _, (Below.refl _ _).alloc (Nat.le_refl _) _⟩
  case round =>
    obtain ⟨k, hk, rfl, hB, hbel⟩ := hrel
    obtain ⟨wo, rfl⟩ : ∃ wo : World, wo = wr := ⟨_, rfl⟩
    have HBel := Lib.hid hbel
    have hDlt := hB.lt
    clear hbel
    by_cases hlt : k < n
    · have hkl : k < l.length := by have := Hn.out; omega
      obtain ⟨c0, c1, c2, c3, c4, c5⟩ := (HN.out k hkl).below HBel.out hb
      obtain ⟨hcl, hck⟩ := code_kids hkl (HG.out k hkl)
      have hKk := HK.out k hkl
      have hkk : kidsAt l k = l[k].c := kidsAt_get hkl
      have HS : Hid (deeps l (k + 1) = deeps l k ++ [maxI (fun j => (deeps l k).getD j 0) l[k].c + 1]) := by show _ = _; rw [deeps_succ, hkk]
      have hdl : (deeps l k).length = k := deeps_length l k
      clear hkk
      generalize l[k] = x at *
      obtain ⟨xk, t, xn, z, p, kc, c, a⟩ := x
      simp only at c0 c1 c2 c3 c4 c5 hcl hck hKk HS
      obtain ⟨d, hd⟩ : ∃ d : Nat → Nat, d = fun j => (deeps l k).getD j 0 := ⟨_, rfl⟩
      rw [← hd] at HS
      obtain ⟨xs, hxs⟩ : ∃ xs, xs = deeps l k := ⟨_, rfl⟩
      rw [← hxs] at hB hd HS hdl
      have Hxs := Lib.hid hxs
      have Hd := Lib.hid hd
      have Hdl := Lib.hid hdl
      have HCK := Lib.hid hck
      have HKK := Lib.hid hKk
      clear hxs hd hdl hck hKk
      obtain ⟨m, hm⟩ : ∃ m, m = c.length := ⟨_, rfl⟩
      rw [← hm] at c4 hcl
      have Hm := Lib.hid hm
      clear hm
      go_wp2
      go_loopw [21] (fun v wi => ∃ j : Nat, j ≤ m ∧ v = .int .i64 j ∧ Blk wi w.heap.size 3 (numC n (xs ++ [maxI d (c.take j)])) ∧ Below w.heap.size w wi) (fun v _ => m - (intOf v).toNat)
      case atStart => exact ⟨0, Nat.zero_le _, rfl, by rw [← show numC n xs = numC n (xs ++ [maxI d (c.take 0)]) from numC_pad (by rw [Hdl.out]; exact hlt)]; exact hB.alloc _, HBel.out.alloc (Nat.le_of_lt hDlt) _⟩
      case round =>
        obtain ⟨j, hj, rfl, hBi, hbi⟩ := hrel
        have HBi := Lib.hid hbi
        have hDi := hBi.lt
        clear hbi hB
        by_cases hjt : j < m
        · have hjc : j < c.length := by have := Hm.out; omega
          obtain ⟨q, hq, hcq⟩ := HCK.out j hjc
          obtain ⟨kb, ko, rfl, hkb, hkc⟩ := HKK.out (by omega)
          have hxl : xs.length = k := Hdl.out
          have e0 := (HBi.out.cell (p := ⟨kb, ko + j, none⟩) hkb).trans (hkc j hjc)
          rw [hcq] at e0
          have f0 : wr.cell? ⟨w.heap.size, k, none⟩ = some (.int .i64 ((maxI d (c.take j) : Nat) : Int)) := by
            have h1 := numC_get (n := n) (j := xs.length) (xs := xs ++ [maxI d (c.take j)]) (by simp)
            rw [snoc_last, hxl] at h1
            rw [hBi.cell]; exact h1
          have f1 : wr.cell? ⟨w.heap.size, q, none⟩ = some (.int .i64 ((d q : Nat) : Int)) := by
            have h1 := numC_get (n := n) (j := q) (xs := xs ++ [maxI d (c.take j)]) (by simp; omega)
            rw [snoc_getD (by omega)] at h1
            have hdq : d q = xs.getD q 0 := by rw [Hd.out]
            rw [hBi.cell, hdq]; exact h1
          have f2 := hBi.frozen k
          have hmx : maxI d (c.take (j + 1)) = max (maxI d (c.take j)) (d q) := by
            rw [List.take_succ_eq_append_getElem hjc, maxI_snoc, hcq]; rfl
          have hset : Hid (∀ W : World, Blk W w.heap.size 3 (numC n (xs ++ [maxI d (c.take j)])) → Blk (W.setCell ⟨w.heap.size, k, none⟩ (.int .i64 ((maxI d (c.take (j + 1)) : Nat) : Int))) w.heap.size 3 (numC n (xs ++ [maxI d (c.take (j + 1))]))) := fun W hW => by
            rw [← numC_last (maxI d (c.take j)), hxl]; exact hW.set_ _ _
          have HB0 := Lib.hid hBi
          have Hmx := Lib.hid hmx
          clear hBi hkc hcq hmx hxl
          generalize maxI d (c.take j) = M at *
          generalize d q = dq at *
          go_wp2
          go_region
          all_goals go_wp2
          go_roundw
          case rel =>
            refine ⟨j + 1, by omega, by go_num, ?_, (HBi.out.setCell (p := ⟨w.heap.size, k, none⟩) (Nat.le_refl _) _).drew⟩
            have h := hset.out _ HB0.out
            rw [Hmx.out] at h ⊢
            rw [if_max M dq]
            exact h
          case measure => simp [intOf]; try omega
        · have hct : c.take j = c := List.take_of_length_le (by have := Hm.out; omega)
          rw [hct] at hBi
          have hxl : xs.length = k := Hdl.out
          have f0 : wr.cell? ⟨w.heap.size, k, none⟩ = some (.int .i64 ((maxI d c : Nat) : Int)) := by
            have h1 := numC_get (n := n) (j := xs.length) (xs := xs ++ [maxI d c]) (by simp)
            rw [snoc_last, hxl] at h1
            rw [hBi.cell]; exact h1
          have f2 := hBi.frozen k
          have hset : Hid (Blk (wr.setCell ⟨w.heap.size, k, none⟩ (.int .i64 ((maxI d c + 1 : Nat) : Int))) w.heap.size 3 (numC n (deeps l (k + 1)))) := by
            show Blk _ _ _ _
            rw [HS.out, ← numC_last (maxI d c), hxl]; exact hBi.set_ _ _
          clear hBi hxl hct
          have hM : maxI d c ≤ k := maxI_le (fun q => by rw [Hd.out]; show xs.getD q 0 ≤ k; rw [Hxs.out]; exact deeps_le l k q) c
          generalize maxI d c = M at *
          go_wp2
          go_roundw
          case rel => exact ⟨k + 1, by omega, by go_num, by simpa using hset.out, HBi.out.setCell (p := ⟨w.heap.size, k, none⟩) (Nat.le_refl _) _⟩
          case measure => simp [intOf]; try omega
    · have hkn : k = n := by omega
      subst hkn
      have f0 : wo.cell? ⟨w.heap.size, k - 1, none⟩ = some (.int .i64 ((Dp l (k - 1) : Nat) : Int)) := by
        have h1 := numC_get (n := k) (j := k - 1) (xs := deeps l k) (by rw [deeps_length]; omega)
        rw [deeps_get l (by omega)] at h1
        rw [hB.cell]; exact h1
      have e1 : (k : Int) - 1 = ((k - 1 : Nat) : Int) := by omega
      clear hB
      obtain ⟨dd, hdd⟩ : ∃ dd, dd = Dp l (k - 1) := ⟨_, rfl⟩
      rw [← hdd] at f0
      have HDD := Lib.hid hdd
      clear hdd
      go_wp2
      go_ret
      exact ⟨by rw [← HDD.out]; rfl, HBel.out⟩
end Go.Proofs.Ytmghjfphlneblaa.Tr
