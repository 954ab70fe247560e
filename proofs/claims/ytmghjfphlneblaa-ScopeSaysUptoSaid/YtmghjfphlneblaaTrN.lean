/-
  The contracts of the document's Many and Deep: how many nodes a part has, how deep it is.
-/
import Derived.Test.YtmghjfphlneblaaTrM
import Derived.Deep.RegionHeld3
namespace Go.Proofs.Ytmghjfphlneblaa.Tr
open Go.RowKit

def Mn (l : List Nd) (j : Nat) : Nat := j + 1 - St l j
def sumK (d : Nat → Nat) : List Int → Nat
  | [] => 0
  | x :: c => d x.toNat + sumK d c
theorem sumK_snoc (d : Nat → Nat) (c : List Int) (x : Int) : sumK d (c ++ [x]) = sumK d c + d x.toNat := by
  induction c with
  | nil => simp [sumK]
  | cons y c ih => simp only [List.cons_append, sumK, ih]; omega
theorem walkK_sum {S : Nat → Nat} {kd : Nat → Int} {k : Int} {c : List Int} (hS : ∀ j, S j ≤ j) : ∀ (i at_ r : Nat), i ≤ c.length → walkK S kd k c i at_ = some r → r + sumK (fun j => j + 1 - S j) (c.take i) = at_ := by
  intro i
  induction i with
  | zero => intro at_ r _ h; simp [walkK] at h; simp [sumK]; exact h.symm
  | succ i ih =>
    intro at_ r hi h
    rw [walkK] at h
    split at h
    · cases h
    · rename_i hn
      have h0 : at_ ≠ 0 := fun e => hn (Or.inl e)
      have h1 : c.getD i 0 = (at_ : Int) - 1 := Decidable.byContradiction fun e => hn (Or.inr (Or.inl e))
      have hic : i < c.length := by omega
      have h2 := ih _ _ (by omega) h
      have hs := hS (at_ - 1)
      have h3 : c[i] = (at_ : Int) - 1 := by rw [← h1]; simp [hic]
      rw [List.take_succ_eq_append_getElem hic, sumK_snoc, h3]
      have h4 : ((at_ : Int) - 1).toNat = at_ - 1 := by omega
      rw [h4]
      omega
theorem Mn_eq {l : List Nd} {j : Nat} (hj : j < l.length) (h : codeAt l j = 0) : Mn l j = sumK (Mn l) l[j].c + 1 := by
  have hw := code_way hj h
  cases hr : wayOf l j with
  | none => exact absurd hr hw
  | some r =>
    have hst : St l j = r := by rw [St_eq, hr]; rfl
    unfold wayOf at hr
    rw [kidsAt_get hj] at hr
    have h1 := walkK_sum (St_le l) _ _ _ (Nat.le_refl _) hr
    rw [List.take_length] at h1
    unfold Mn
    rw [hst]
    have : (fun j => j + 1 - St l j) = Mn l := rfl
    rw [this] at h1
    unfold Mn at h1
    omega
theorem Mn_le {l : List Nd} (j : Nat) : Mn l j ≤ j + 1 := by unfold Mn; omega
theorem sumK_take {d : Nat → Nat} {c : List Int} {j : Nat} : sumK d (c.take j) ≤ sumK d c := by
  induction c generalizing j with
  | nil => simp
  | cons x c ih =>
    cases j with
    | zero => simp [sumK]
    | succ j => simp only [List.take_succ_cons, sumK]; have := ih (j := j); omega
theorem maxI_congr {d d' : Nat → Nat} {c : List Int} (h : ∀ i, (hi : i < c.length) → d c[i].toNat = d' c[i].toNat) : maxI d c = maxI d' c := by
  induction c with
  | nil => rfl
  | cons x c ih =>
    have h0 := h 0 (by simp)
    simp only [List.getElem_cons_zero] at h0
    simp only [maxI, h0]
    rw [ih fun i hi => by have := h (i + 1) (by simpa using hi); simpa using this]
theorem Dp_kids {l : List Nd} {j : Nat} (hj : j < l.length) (h : codeAt l j = 0) : Dp l j = maxI (Dp l) l[j].c + 1 := by
  obtain ⟨_, hk⟩ := code_kids hj h
  rw [Dp_eq, kidsAt_get hj]
  congr 1
  refine maxI_congr fun i hi => ?_
  obtain ⟨q, hq, e⟩ := hk i hi
  rw [e]
  exact deeps_get l (by simpa using hq)
theorem Dp_le (l : List Nd) (j : Nat) : Dp l j ≤ j + 1 := deeps_le l (j + 1) j

set_option maxHeartbeats 8000000 in
set_option maxRecDepth 100000 in
theorem many_any (l : List Nd) (b o cap : Nat) (hl : l.length ≤ 1000000) (j : Nat) : ∀ (w : World), j < l.length → (∀ i, i ≤ j → codeAt l i = 0) → b < w.heap.size → (∀ j, (h : j < l.length) → NodeAt w b (o + j * 6) l[j]) → (∀ j, (h : j < l.length) → KidsAt w l[j].p l[j].c) →
    Calls Try.prog 24 #[.agg #[.slice (some ⟨b, o, none⟩) l.length cap], .int .i64 j] w fun e w' => e = .returned (.int .i64 (Mn l j)) ∧ Below w.heap.size w w' := by
  induction j using Nat.strongRecOn with
  | _ j ih =>
  intro w hj hg hb hN hK
  have h1 : Below w.heap.size w (w.alloc (.cells #[.slice (some ⟨b, o, none⟩) l.length cap] 24)) := (Below.refl _ _).alloc (Nat.le_refl _) _
  have HI := Lib.hid ih
  have HG := Lib.hid hg
  have HN := Lib.hid hN
  have HK := Lib.hid hK
  obtain ⟨c0, c1, c2, c3, c4, c5⟩ := hN j hj
  obtain ⟨hcl, hck⟩ := code_kids hj (hg j (Nat.le_refl _))
  have hKj := hK j hj
  have hMn := Mn_eq hj (hg j (Nat.le_refl _))
  have hMle := Mn_le (l := l) j
  clear ih hg hN hK h1
  generalize l[j] = x at *
  obtain ⟨xk, t, xn, z, p, kc, c, a⟩ := x
  simp only at c0 c1 c2 c3 c4 c5 hcl hck hKj hMn
  obtain ⟨n, hn⟩ : ∃ n, n = l.length := ⟨_, rfl⟩
  rw [← hn] at hl hj ⊢
  have Hn := Lib.hid hn
  clear hn
  obtain ⟨m, hm⟩ : ∃ m, m = c.length := ⟨_, rfl⟩
  rw [← hm] at c4 hcl
  have Hm := Lib.hid hm
  have HCK := Lib.hid hck
  have HKJ := Lib.hid hKj
  have HMn := Lib.hid hMn
  clear hm hck hKj hMn
  go_enter Try.func24, Try.ntmps24
  go_wp2
  go_loopw [5, 6] (fun vn vi wr => ∃ i : Nat, i ≤ m ∧ vi = .int .i64 i ∧ vn = .int .i64 ((1 + sumK (Mn l) (c.take i) : Nat) : Int) ∧ Blk wr w.heap.size 24 #[.slice (some ⟨b, o, none⟩) n cap] ∧ Below w.heap.size w wr) (fun _ vi _ => m - (intOf vi).toNat)
  case atStart => exact ⟨0, Nat.zero_le _, rfl, rfl, Blk.new _ _ _, (Below.refl _ _).alloc (Nat.le_refl _) _⟩
  case round =>
    obtain ⟨i, hi, rfl, rfl, hX, hbel⟩ := hrel
    have x0 : wr.cell? ⟨w.heap.size, 0, none⟩ = some (.slice (some ⟨b, o, none⟩) n cap) := by rw [hX.cell]; rfl
    have n4 := (hbel.cell (p := ⟨b, o + j * 6 + 4, none⟩) hb).trans c4
    have lX := hX.lt
    have HX := Lib.hid hX
    have HB := Lib.hid hbel
    clear hX hbel
    by_cases hlt : i < m
    · have hic : i < c.length := by have := Hm.out; omega
      obtain ⟨q, hq, hcq⟩ := HCK.out i hic
      obtain ⟨kb, ko, rfl, hkb, hkc⟩ := HKJ.out (by omega)
      have e0 := (HB.out.cell (p := ⟨kb, ko + i, none⟩) hkb).trans (hkc i hic)
      rw [hcq] at e0
      have hsn : Hid (1 + sumK (Mn l) (c.take (i + 1)) = (1 + sumK (Mn l) (c.take i)) + Mn l q) := by
        show _ = _
        rw [List.take_succ_eq_append_getElem hic, sumK_snoc, hcq]
        simp only [Int.toNat_natCast]; omega
      have hle := sumK_take (d := Mn l) (c := c) (j := i + 1)
      have hle1 : 1 + sumK (Mn l) (c.take i) + Mn l q ≤ j + 1 := by have := HMn.out; have := hsn.out; omega
      have hca := HI.out q hq wr.drew (by have := Hn.out; omega) (fun i hi => HG.out i (by omega)) (Nat.lt_of_lt_of_le hb HB.out.size) (fun j hj => (HN.out j hj).below HB.out.drew hb) (fun j hj => (HK.out j hj).below HB.out.drew)
      rw [← Hn.out] at hca
      have hqn : (q : Int) < (n : Int) := by omega
      have hjn : (j : Int) < (n : Int) := by omega
      have him : (i : Int) < (m : Int) := by omega
      clear hkc hcq hle
      generalize 1 + sumK (Mn l) (c.take i) = s at *
      generalize Mn l q = mq at *
      have hs : IntKind.i64.wrap ((s : Int) + (mq : Int)) = (s : Int) + (mq : Int) := IntWalk.i64_in _ (by omega)
      have lb : b < wr.heap.size := Nat.lt_of_lt_of_le hb HB.out.size
      have lk : kb < wr.heap.size := Nat.lt_of_lt_of_le hkb HB.out.size
      have S0 : Hid (wr.drew.cell? ⟨w.heap.size, 0, none⟩ = some (.slice (some ⟨b, o, none⟩) n cap) ∧ wr.drew.cell? ⟨b, o + j * 6 + 4, none⟩ = some (.slice (some ⟨kb, ko, none⟩) m kc) ∧ wr.drew.cell? ⟨kb, ko + i, none⟩ = some (.int .i64 q) ∧ Blk wr.drew w.heap.size 24 #[.slice (some ⟨b, o, none⟩) n cap] ∧ Below w.heap.size w wr.drew) := ⟨x0, n4, e0, HX.out.drew, HB.out.drew⟩
      have S1 : Hid (∀ W, Below wr.drew.heap.size wr.drew W → W.cell? ⟨w.heap.size, 0, none⟩ = some (.slice (some ⟨b, o, none⟩) n cap) ∧ W.cell? ⟨b, o + j * 6 + 4, none⟩ = some (.slice (some ⟨kb, ko, none⟩) m kc) ∧ W.cell? ⟨kb, ko + i, none⟩ = some (.int .i64 q) ∧ Blk W w.heap.size 24 #[.slice (some ⟨b, o, none⟩) n cap] ∧ Below w.heap.size w W) := fun W h =>
        ⟨(h.cell (p := ⟨w.heap.size, 0, none⟩) lX).trans S0.out.1, (h.cell (p := ⟨b, o + j * 6 + 4, none⟩) lb).trans S0.out.2.1, (h.cell (p := ⟨kb, ko + i, none⟩) lk).trans S0.out.2.2.1, HX.out.drew.below h lX, HB.out.drew.trans (h.mono HB.out.drew.size)⟩
      go_wp2
      clear x0 n4 e0
      go_region_held3 (fun W => W.cell? ⟨w.heap.size, 0, none⟩ = some (.slice (some ⟨b, o, none⟩) n cap) ∧ W.cell? ⟨b, o + j * 6 + 4, none⟩ = some (.slice (some ⟨kb, ko, none⟩) m kc) ∧ W.cell? ⟨kb, ko + i, none⟩ = some (.int .i64 q) ∧ Blk W w.heap.size 24 #[.slice (some ⟨b, o, none⟩) n cap] ∧ Below w.heap.size w W)
        (first | exact S0.out | exact S1.out _ hb3)
        ((go_at_call 24; refine hca.mono ?_; rintro e w3 ⟨rfl, hb3⟩))
      have HH : Hid (Blk w3 w.heap.size 24 #[.slice (some ⟨b, o, none⟩) n cap] ∧ Below w.heap.size w w3) := ⟨(S1.out _ hb3).2.2.2.1, (S1.out _ hb3).2.2.2.2⟩
      go_wp2
      go_roundw
      case rel => exact ⟨i + 1, by omega, by go_num, by rw [hsn.out]; go_num, HH.out.1, HH.out.2⟩
      case measure => simp [intOf]; try omega
    · have hct : c.take i = c := List.take_of_length_le (by have := Hm.out; omega)
      rw [hct]
      have hR : Hid (Mn l j = 1 + sumK (Mn l) c) := by show _ = _; rw [HMn.out]; omega
      generalize 1 + sumK (Mn l) c = s at *
      go_wp2
      go_ret
      exact ⟨by rw [hR.out]; rfl, HB.out⟩
set_option maxHeartbeats 8000000 in
set_option maxRecDepth 100000 in
theorem deep_any (l : List Nd) (b o cap : Nat) (hl : l.length ≤ 1000000) (j : Nat) : ∀ (w : World), j < l.length → (∀ i, i ≤ j → codeAt l i = 0) → b < w.heap.size → (∀ j, (h : j < l.length) → NodeAt w b (o + j * 6) l[j]) → (∀ j, (h : j < l.length) → KidsAt w l[j].p l[j].c) →
    Calls Try.prog 25 #[.agg #[.slice (some ⟨b, o, none⟩) l.length cap], .int .i64 j] w fun e w' => e = .returned (.int .i64 (Dp l j)) ∧ Below w.heap.size w w' := by
  induction j using Nat.strongRecOn with
  | _ j ih =>
  intro w hj hg hb hN hK
  have h1 : Below w.heap.size w (w.alloc (.cells #[.slice (some ⟨b, o, none⟩) l.length cap] 24)) := (Below.refl _ _).alloc (Nat.le_refl _) _
  have HI := Lib.hid ih
  have HG := Lib.hid hg
  have HN := Lib.hid hN
  have HK := Lib.hid hK
  obtain ⟨c0, c1, c2, c3, c4, c5⟩ := hN j hj
  obtain ⟨hcl, hck⟩ := code_kids hj (hg j (Nat.le_refl _))
  have hKj := hK j hj
  have hMn := Dp_kids hj (hg j (Nat.le_refl _))
  have hMle := Dp_le l j
  clear ih hg hN hK h1
  generalize l[j] = x at *
  obtain ⟨xk, t, xn, z, p, kc, c, a⟩ := x
  simp only at c0 c1 c2 c3 c4 c5 hcl hck hKj hMn
  obtain ⟨n, hn⟩ : ∃ n, n = l.length := ⟨_, rfl⟩
  rw [← hn] at hl hj ⊢
  have Hn := Lib.hid hn
  clear hn
  obtain ⟨m, hm⟩ : ∃ m, m = c.length := ⟨_, rfl⟩
  rw [← hm] at c4 hcl
  have Hm := Lib.hid hm
  have HCK := Lib.hid hck
  have HKJ := Lib.hid hKj
  have HMn := Lib.hid hMn
  clear hm hck hKj hMn
  go_enter Try.func25, Try.ntmps25
  go_wp2
  go_loopw [5, 6] (fun vn vi wr => ∃ i : Nat, i ≤ m ∧ vi = .int .i64 i ∧ vn = .int .i64 ((maxI (Dp l) (c.take i) : Nat) : Int) ∧ Blk wr w.heap.size 24 #[.slice (some ⟨b, o, none⟩) n cap] ∧ Below w.heap.size w wr) (fun _ vi _ => m - (intOf vi).toNat)
  case atStart => exact ⟨0, Nat.zero_le _, rfl, rfl, Blk.new _ _ _, (Below.refl _ _).alloc (Nat.le_refl _) _⟩
  case round =>
    obtain ⟨i, hi, rfl, rfl, hX, hbel⟩ := hrel
    have x0 : wr.cell? ⟨w.heap.size, 0, none⟩ = some (.slice (some ⟨b, o, none⟩) n cap) := by rw [hX.cell]; rfl
    have n4 := (hbel.cell (p := ⟨b, o + j * 6 + 4, none⟩) hb).trans c4
    have lX := hX.lt
    have HX := Lib.hid hX
    have HB := Lib.hid hbel
    clear hX hbel
    by_cases hlt : i < m
    · have hic : i < c.length := by have := Hm.out; omega
      obtain ⟨q, hq, hcq⟩ := HCK.out i hic
      obtain ⟨kb, ko, rfl, hkb, hkc⟩ := HKJ.out (by omega)
      have e0 := (HB.out.cell (p := ⟨kb, ko + i, none⟩) hkb).trans (hkc i hic)
      rw [hcq] at e0
      have hsn : Hid (maxI (Dp l) (c.take (i + 1)) = max (maxI (Dp l) (c.take i)) (Dp l q)) := by
        show _ = _
        rw [List.take_succ_eq_append_getElem hic, maxI_snoc, hcq]
        rfl
      have hca := HI.out q hq wr.drew (by have := Hn.out; omega) (fun i hi => HG.out i (by omega)) (Nat.lt_of_lt_of_le hb HB.out.size) (fun j hj => (HN.out j hj).below HB.out.drew hb) (fun j hj => (HK.out j hj).below HB.out.drew)
      rw [← Hn.out] at hca
      have hqn : (q : Int) < (n : Int) := by omega
      have hjn : (j : Int) < (n : Int) := by omega
      have him : (i : Int) < (m : Int) := by omega
      clear hkc hcq
      generalize maxI (Dp l) (c.take i) = s at *
      generalize Dp l q = mq at *
      have lb : b < wr.heap.size := Nat.lt_of_lt_of_le hb HB.out.size
      have lk : kb < wr.heap.size := Nat.lt_of_lt_of_le hkb HB.out.size
      have S0 : Hid (wr.drew.cell? ⟨w.heap.size, 0, none⟩ = some (.slice (some ⟨b, o, none⟩) n cap) ∧ wr.drew.cell? ⟨b, o + j * 6 + 4, none⟩ = some (.slice (some ⟨kb, ko, none⟩) m kc) ∧ wr.drew.cell? ⟨kb, ko + i, none⟩ = some (.int .i64 q) ∧ Blk wr.drew w.heap.size 24 #[.slice (some ⟨b, o, none⟩) n cap] ∧ Below w.heap.size w wr.drew) := ⟨x0, n4, e0, HX.out.drew, HB.out.drew⟩
      have S1 : Hid (∀ W, Below wr.drew.heap.size wr.drew W → W.cell? ⟨w.heap.size, 0, none⟩ = some (.slice (some ⟨b, o, none⟩) n cap) ∧ W.cell? ⟨b, o + j * 6 + 4, none⟩ = some (.slice (some ⟨kb, ko, none⟩) m kc) ∧ W.cell? ⟨kb, ko + i, none⟩ = some (.int .i64 q) ∧ Blk W w.heap.size 24 #[.slice (some ⟨b, o, none⟩) n cap] ∧ Below w.heap.size w W) := fun W h =>
        ⟨(h.cell (p := ⟨w.heap.size, 0, none⟩) lX).trans S0.out.1, (h.cell (p := ⟨b, o + j * 6 + 4, none⟩) lb).trans S0.out.2.1, (h.cell (p := ⟨kb, ko + i, none⟩) lk).trans S0.out.2.2.1, HX.out.drew.below h lX, HB.out.drew.trans (h.mono HB.out.drew.size)⟩
      go_wp2
      clear x0 n4 e0
      go_region_held3 (fun W => W.cell? ⟨w.heap.size, 0, none⟩ = some (.slice (some ⟨b, o, none⟩) n cap) ∧ W.cell? ⟨b, o + j * 6 + 4, none⟩ = some (.slice (some ⟨kb, ko, none⟩) m kc) ∧ W.cell? ⟨kb, ko + i, none⟩ = some (.int .i64 q) ∧ Blk W w.heap.size 24 #[.slice (some ⟨b, o, none⟩) n cap] ∧ Below w.heap.size w W)
        (first | exact S0.out | exact S1.out _ hb3)
        ((go_at_call 25; refine hca.mono ?_; rintro e w3 ⟨rfl, hb3⟩))
      have HH : Hid (Blk w3 w.heap.size 24 #[.slice (some ⟨b, o, none⟩) n cap] ∧ Below w.heap.size w w3) := ⟨(S1.out _ hb3).2.2.2.1, (S1.out _ hb3).2.2.2.2⟩
      go_wp2
      · go_roundw
        case rel => exact ⟨i + 1, by omega, by go_num, by rw [hsn.out, show max s mq = mq by omega], HH.out.1, HH.out.2⟩
        case measure => simp [intOf]; try omega
      · go_roundw
        case rel => exact ⟨i + 1, by omega, by go_num, by rw [hsn.out, show max s mq = s by omega], HH.out.1, HH.out.2⟩
        case measure => simp [intOf]; try omega
    · have hct : c.take i = c := List.take_of_length_le (by have := Hm.out; omega)
      rw [hct]
      have hR : Hid (Dp l j = maxI (Dp l) c + 1) := HMn.out
      have hb1 : maxI (Dp l) c ≤ 1000000 := by have := HMn.out; omega
      generalize maxI (Dp l) c = s at *
      go_wp2
      go_ret
      exact ⟨by rw [hR.out]; rfl, HB.out⟩
end Go.Proofs.Ytmghjfphlneblaa.Tr
