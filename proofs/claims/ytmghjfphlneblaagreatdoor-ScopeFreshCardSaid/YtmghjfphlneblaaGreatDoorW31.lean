/-
  Joined texts of this claim: Soi, Soj.
-/
import Derived.Test.YtmghjfphlneblaaGreatDoorW00
import Derived.Test.YtmghjfphlneblaaGreatDoorW27
import Derived.Test.YtmghjfphlneblaaGreatDoorW30
import Derived.Test.YtmghjfphlneblaaGreatDoorW12
import Derived.Test.YtmghjfphlneblaaGreatDoorW14
set_option maxHeartbeats 40000000
set_option maxRecDepth 100000
set_option linter.unusedVariables false
set_option linter.unusedSimpArgs false
namespace Go.Proofs.YtmghjfphlneblaaGreatDoor
section
namespace Sc
open Go.RowKit
open Tr
open Go.Proofs.YtmghjfphlneblaaGreatDoor (rowN cells6 rowN_snoc)

theorem rowN_get (l : List Nd) (i : Nat) (h : i < l.length) : (rowN l)[i * 6]? = some (.int .i64 l[i].k) ∧ (rowN l)[i * 6 + 1]? = some (.string l[i].t) ∧ (rowN l)[i * 6 + 2]? = some (.int .i64 l[i].n) ∧ (rowN l)[i * 6 + 3]? = some (.int .i64 l[i].z) ∧ (rowN l)[i * 6 + 4]? = some (.slice l[i].p l[i].c.length l[i].cap) ∧ (rowN l)[i * 6 + 5]? = some (.int .i64 l[i].a) := by
  induction l generalizing i with
  | nil => simp at h
  | cons t l ih =>
    cases i with
    | zero => simp [rowN, cells6]
    | succ i =>
      have := ih i (by simpa using h)
      have e : ∀ j, (rowN (t :: l))[(i + 1) * 6 + j]? = (rowN l)[i * 6 + j]? := fun j => by
        show (cells6 t ++ rowN l)[_]? = _
        rw [List.getElem?_append_right (by simp [cells6]; omega)]
        congr 1
        simp [cells6]; omega
      have e0 := e 0
      simp only [Nat.add_zero] at e0
      rw [e0, e 1, e 2, e 3, e 4, e 5]
      simpa using this
theorem tr_row {w : World} {B n cap : Nat} {p : Option Addr} {l : List Nd} (h : w.ownsRow B 34 6 (.slice p n cap) n (rowN l)) (hn : n = l.length) (hK : ∀ i, (h : i < l.length) → KidsAt w l[i].p l[i].c) : Tr.Tr w p l := by
  subst hn
  refine ⟨fun h0 => ?_, hK⟩
  have hlt := h.lt
  have hcs := fun g hg => World.ownsRow.cells h (g := g) hg
  rcases h.2 with ⟨hv, h1⟩ | ⟨g, cap', cur, hv, _⟩
  · omega
  · injection hv with hv
    subst hv
    refine ⟨g, 0, rfl, (hlt g rfl).2, fun i hi => ?_⟩
    obtain ⟨r0, r1, r2, r3, r4, r5⟩ := rowN_get l i hi
    have e : ∀ j, ((⟨g, 0, none⟩ : Addr).add j) = ⟨g, 0 + j, none⟩ := fun j => by unfold Addr.add; split <;> simp_all
    have a0 := hcs g rfl _ _ r0
    have a1 := hcs g rfl _ _ r1
    have a2 := hcs g rfl _ _ r2
    have a3 := hcs g rfl _ _ r3
    have a4 := hcs g rfl _ _ r4
    have a5 := hcs g rfl _ _ r5
    rw [e] at a0 a1 a2 a3 a4 a5
    rw [← Nat.add_assoc] at a1 a2 a3 a4 a5
    exact ⟨a0, a1, a2, a3, a4, a5⟩
theorem row_cap {w : World} {B e s n cap : Nat} {p : Option Addr} {xs : List Value} (h : w.ownsRow B e s (.slice p n cap) n xs) : n ≤ cap := by
  rcases h.2 with ⟨hv, h0⟩ | ⟨g, cap', cur, hv, _, _, hc, _⟩
  · injection hv with _ h1 h2; omega
  · injection hv with _ h1 h2; omega
theorem row_shape {w : World} {B e s n : Nat} {v : Value} {xs : List Value} (h : w.ownsRow B e s v n xs) : ∃ p cap, v = .slice p n cap := by
  rcases h.2 with ⟨rfl, h0⟩ | ⟨g, cap, cur, hv, _⟩
  · rw [h0]; exact ⟨none, 0, rfl⟩
  · exact ⟨_, _, hv⟩
/-- the first nodes of the tree that is named anew, as values -/
def rowR (fs : List Int) (k : Nat) (l : List Nd) (i : Nat) : List Value := rowN ((renL fs k l).take i)
theorem rowR_zero (fs : List Int) (k : Nat) (l : List Nd) : rowR fs k l 0 = [] := rfl
theorem rowR_next {fs : List Int} {k i : Nat} {l : List Nd} (h : i < l.length) : rowR fs k l (i + 1) = rowR fs k l i ++ cells6 (renN fs k i l[i]) := by
  unfold rowR
  have h2 : i < (renL fs k l).length := by rw [renL_len]; exact h
  have h3 : (renL fs k l)[i] = renN fs k i l[i] := by
    have := renL_get (fs := fs) (k := k) h
    rw [List.getElem?_eq_getElem h2] at this
    injection this
  rw [List.take_succ_eq_append_getElem h2, rowN_snoc, h3]
theorem rowR_new {fs : List Int} {k i : Nat} {l : List Nd} (h : i < l.length) (hf : fs[i]? = some (k : Int)) : rowR fs k l (i + 1) = rowR fs k l i ++ [.int .i64 l[i].k, .string anewT, .int .i64 l[i].n, .int .i64 l[i].z, .slice l[i].p l[i].c.length l[i].cap, .int .i64 l[i].a] := by
  rw [rowR_next h]; simp [renN, hf, cells6]
theorem rowR_old {fs : List Int} {k i : Nat} {l : List Nd} (h : i < l.length) (hf : fs[i]? ≠ some (k : Int)) : rowR fs k l (i + 1) = rowR fs k l i ++ [.int .i64 l[i].k, .string l[i].t, .int .i64 l[i].n, .int .i64 l[i].z, .slice l[i].p l[i].c.length l[i].cap, .int .i64 l[i].a] := by
  rw [rowR_next h]; simp [renN, hf, cells6]
theorem renL_at {fs : List Int} {k i : Nat} {l : List Nd} (hi : i < (renL fs k l).length) : ∃ h : i < l.length, (renL fs k l)[i].p = l[i].p ∧ (renL fs k l)[i].c = l[i].c := by
  have h : i < l.length := by rw [renL_len] at hi; exact hi
  refine ⟨h, ?_⟩
  have h3 : (renL fs k l)[i] = renN fs k i l[i] := by
    have := renL_get (fs := fs) (k := k) h
    rw [List.getElem?_eq_getElem hi] at this
    injection this
  rw [h3]; unfold renN; split <;> exact ⟨rfl, rfl⟩
theorem renL_tr {w w0 : World} {fs : List Int} {k B n qc : Nat} {q : Option Addr} {l : List Nd} (h : w.ownsRow B 34 6 (.slice q n qc) n (rowR fs k l n)) (hn : n = l.length) (hK : ∀ i, (h : i < l.length) → KidsAt w0 l[i].p l[i].c) (hb : Below w0.heap.size w0 w) : Tr.Tr w q (renL fs k l) := by
  have e : rowR fs k l n = rowN (renL fs k l) := by unfold rowR; rw [List.take_of_length_le (by rw [renL_len]; omega)]
  rw [e] at h
  refine tr_row h (by rw [renL_len]; exact hn) fun i hi => ?_
  obtain ⟨h1, h2, h3⟩ := renL_at hi
  rw [h2, h3]
  exact (hK i h1).below hb
theorem renL_fit {fs : List Int} {k qc : Nat} {l : List Nd} {cap : Nat} (hf : Fit l cap) (hq : l.length ≤ qc) : Fit (renL fs k l) qc := by
  refine ⟨by rw [renL_len]; exact hq, by rw [renL_len]; exact hf.2.1, fun j hj => ?_⟩
  obtain ⟨h1, h2, h3⟩ := renL_at hj
  rw [h3]; exact hf.2.2 j h1
theorem own_far {w : World} {base e size n : Nat} {v : Value} {xs : List Value} (h : w.ownsRow base e size v n xs) {p : Addr} (hp : ∀ g, v.ownBlock = some g → g ≠ p.block) (u : Value) : (w.setCell p u).ownsRow base e size v n xs := by
  obtain ⟨h1, h2⟩ := h
  refine ⟨h1, ?_⟩
  rcases h2 with h0 | ⟨g, cap, cur, rfl, hb, hg, r⟩
  · exact Or.inl h0
  · exact Or.inr ⟨g, cap, cur, rfl, hb, (Below.heap_setCell w p u g (hp g rfl)).trans hg, r⟩
theorem news_node (w : World) (x0 x1 x2 x3 x4 x5 : Value) : ∀ j u, [x0, x1, x2, x3, x4, x5][j]? = some u → (w.alloc (.cells #[x0, x1, x2, x3, x4, x5] 34)).cell? ((⟨w.heap.size, 0, none⟩ : Addr).add j) = some u := by
  intro j u hu
  have e : ((⟨w.heap.size, 0, none⟩ : Addr).add j) = ⟨w.heap.size, 0 + j, none⟩ := by unfold Addr.add; split <;> simp_all
  rw [e, (Blk.new w 34 #[x0, x1, x2, x3, x4, x5]).cell]
  rw [Nat.zero_add, ← hu]
  simp
theorem tx_tb2 {l : List Nd} {k : Nat} (hk : k < l.length) {t : ByteArray} (ht : t = l[k].t) : t.toList = tx l k := by rw [ht, Lib.toList_data]; simp [tx, hk]
/-- what Names tells of the tree that is named anew -/
theorem names_again {l : List Nd} {fs : List Int} {k qc : Nat} {q : Option Addr} {w : World} (hn : namesF l = .ok fs) (hz : CkR l 0 0) (hno : ∀ i, i < l.length → tx l i ≠ anewS) (hk : k < l.length) (hloc : kindAt l k = 4 ∨ kindAt l k = 12)
    (hown : ∀ k, k < l.length → OwnP l fs k) (hT : Tr.Tr w q (renL fs k l)) (hf : Fit (renL fs k l) qc) :
    Calls Tryz.prog 19 #[.agg #[.slice q l.length qc]] w fun e w' => ∃ F, e = .returned (.tuple #[.slice (some ⟨F, 0, none⟩) l.length l.length, .agg #[.int .i64 0, .int .i64 0]]) ∧ Below w.heap.size w w' ∧ w.heap.size ≤ F ∧ Blk w' F 3 (intA fs) := by
  have h := names_any (renL fs k l) q qc w hT hf
  rw [renL_len] at h
  have hself : fs[k]? = some (k : Int) := by
    obtain ⟨v, h1, h2, _⟩ := hown k hk
    rw [h1, h2 (hloc.elim (fun h => Or.inr (Or.inr (Or.inl h))) (fun h => Or.inr (Or.inr (Or.inr h))))]
  obtain ⟨z1, z2, z3, z4, z5⟩ := ckr_zero hz
  have hN := names_ren (renL_ren hno hk hloc hself) z1 z3 z4 hn
  refine h.mono fun e w' hp => ?_
  obtain ⟨c, a, hc, hp⟩ := hp
  obtain ⟨rfl, rfl⟩ := (ckr_ren (k := k) hn hz).det hc
  rcases hp with ⟨h0, _⟩ | ⟨_, hp⟩
  · exact absurd rfl h0
  · rw [hN] at hp
    obtain ⟨F, h1, h2, h3, h4, h5⟩ := hp
    rw [renL_len] at h2
    exact ⟨F, h2, h3, h1, h4⟩
theorem ints_kids {w : World} {F : Nat} {fs : List Int} (h : Blk w F 3 (intA fs)) : KidsAt w (some ⟨F, 0, none⟩) fs := fun _ => ⟨F, 0, rfl, h.lt, fun j hj => by rw [Nat.zero_add, h.cell]; simp [intA, hj]⟩
/-- the two lists are one -/
theorem ints_same {w : World} {F F' : Nat} {fs : List Int} {n : Nat} (hn : fs.length = n) (hm : n ≤ 140737488355328) (h : Blk w F 3 (intA fs)) (h' : Blk w F' 3 (intA fs)) :
    Calls Tryz.prog 21 #[.slice (some ⟨F, 0, none⟩) n n, .slice (some ⟨F', 0, none⟩) n n] w fun e w' => e = .returned (.bool true) ∧ Below w.heap.size w w' := by
  subst hn
  refine (rints_any fs fs _ _ fs.length fs.length w (ints_kids h) (ints_kids h') (by omega) (by omega)).mono fun e w' ⟨h1, h2⟩ => ⟨?_, h2⟩
  rw [h1]; simp
end Sc
end
section
namespace Sc
open Go.RowKit
open Tr
open Go.Proofs.YtmghjfphlneblaaGreatDoor (rowN cells6 rowN_snoc info3 info36)

set_option maxHeartbeats 16000000 in
set_option maxRecDepth 100000 in
theorem fresh_walk (l : List Nd) (p : Option Addr) (cap : Nat) (kk : Int) (w : World) (hE : Go.Proofs.YtmghjfphlneblaaGreatDoor.Env w) (hT : Tr.Tr w p l) (hf : Fit l cap) (hr : l.length * 72 ≤ 140737488351232) :
    Calls Tryz.prog 7 #[.agg #[.slice p l.length cap], .int .i64 kk] w fun e w' => e = .returned (.bool true) ∧ Below w.heap.size w w' := by
  have HW : Hid (Below w.heap.size w (w.alloc (.cells #[.slice p l.length cap] 24))) := (Below.refl _ _).alloc (Nat.le_refl _) _
  have hfa := sfact_any (hE.below HW.out)
  have HNM : Hid (∀ W, Below w.heap.size w W → Calls Tryz.prog 19 #[.agg #[.slice p l.length cap]] W (NmGood l W)) := fun W hW => names_good l p cap W (hT.below hW) hf
  have HT := Lib.hid hT
  have HF := Lib.hid hf
  have hn47 := hf.2.1
  obtain ⟨n, hn⟩ : ∃ n, n = l.length := ⟨_, rfl⟩
  rw [← hn] at HW hfa HNM hn47 hr ⊢
  have HN := Lib.hid hn
  have HX : Hid (Blk (w.alloc (.cells #[.slice p n cap] 24)) w.heap.size 24 #[.slice p n cap]) := Blk.new _ _ _
  clear hE hT hf hn
  go_enter Tryz.func7, Tryz.ntmps7
  go_wp2_with (go_at_call 18; refine hfa.mono ?_)
  first | rintro e w2 ⟨rfl, hb2⟩ | (intro e w2 he hb2; subst he)
  have HB2 := Lib.hid (HW.out.trans (hb2.mono (by simp; try omega)))
  have HX2 := Lib.hid (HX.out.below hb2 (by simp; try omega))
  have x2 : w2.cell? ⟨w.heap.size, 0, none⟩ = some (.slice p n cap) := by rw [HX2.out.cell]; rfl
  have l2 := HX2.out.lt
  have hnm := HNM.out w2 HB2.out
  clear hb2 hfa HX
  go_wp2_with (go_at_call 19; refine hnm.mono ?_)
  intro e w3 hp
  obtain ⟨hb3, ⟨c, a, hc, rfl⟩ | ⟨F, fs, rfl, hF0, hF1, hFB, hfl, hnn, hck, hown⟩⟩ := hp
  · have hc' : (c != 0) = true := by simpa using hc
    have HB3 := Lib.hid ((HB2.out.trans (hb3.mono HB2.out.size)).alloc (by have := HB2.out.size; have := hb3.size; omega) (.cells #[.int .i64 c, .int .i64 a] 26))
    clear hb3 hc hnm
    go_wp2
    go_ret
    exact ⟨rfl, HB3.out⟩
  · have HB3 := Lib.hid (HB2.out.trans (hb3.mono HB2.out.size))
    have HX3 := Lib.hid (HX2.out.below hb3 HX2.out.lt)
    have x3 : w3.cell? ⟨w.heap.size, 0, none⟩ = some (.slice p n cap) := by rw [HX3.out.cell]; rfl
    have l3 := HX3.out.lt
    rw [← HN.out]
    obtain ⟨w4, hw4⟩ : ∃ w4, w4 = w3.alloc (.cells #[.int .i64 0, .int .i64 0] 26) := ⟨_, rfl⟩
    have hb34 : Below w3.heap.size w3 w4 := by rw [hw4]; exact (Below.refl _ _).alloc (Nat.le_refl _) _
    have HB4 := Lib.hid (HB3.out.trans (hb34.mono HB3.out.size))
    have HX4 := Lib.hid (HX3.out.below hb34 HX3.out.lt)
    have HK4 : Hid (Blk w4 w3.heap.size 26 #[.int .i64 0, .int .i64 0]) := by rw [hw4]; exact Blk.new _ _ _
    have HFB := Lib.hid (hFB.below hb34 hF1)
    have HOWN := Lib.hid hown
    have HFL := Lib.hid hfl
    have HNN := Lib.hid hnn
    have HCK := Lib.hid hck
    have HW4 := Lib.hid hw4
    have hz4 : w3.heap.size + 1 = w4.heap.size := by rw [hw4, World.size_alloc]
    have HZ4 := Lib.hid hz4
    have HF1 := Lib.hid hF1
    have hin := fun W => in20_any kk 0 ((n : Int) - 1) W
    clear hb3 hnm hb34 hw4 hFB hown hfl hck hnn x2 l2 hz4
    by_cases hk : 0 ≤ kk ∧ kk ≤ (n : Int) - 1
    case neg =>
      have k1 : inL kk 0 ((n : Int) - 1) = false := decide_eq_false hk
      go_wp2_with (go_at_call 20; refine (hin _).mono ?_; rw [k1]; rintro e w' ⟨rfl, rfl⟩)
      rw [← HW4.out]
      go_ret
      exact ⟨rfl, HB4.out⟩
    · have k1 : inL kk 0 ((n : Int) - 1) = true := decide_eq_true hk
      obtain ⟨k, rfl⟩ : ∃ k : Nat, kk = (k : Int) := ⟨kk.toNat, by omega⟩
      have hkn : k < n := by omega
      have hkl : k < l.length := by have := HN.out; omega
      obtain ⟨b, o, rfl, hb, hNd⟩ := HT.out.1 (by omega)
      have hK0 := ((hNd k hkl).below HB4.out hb).1
      rw [← kindAt_get hkl] at hK0
      have HND := Lib.hid hNd
      have HB0 := Lib.hid hb
      have hbl : b < w4.heap.size := Nat.lt_of_lt_of_le hb HB4.out.size
      obtain ⟨kd, hkd⟩ : ∃ kd, kd = kindAt l k := ⟨_, rfl⟩
      rw [← hkd] at hK0
      have HKD := Lib.hid hkd
      have x4 : w4.cell? ⟨w.heap.size, 0, none⟩ = some (.slice (some ⟨b, o, none⟩) n cap) := by rw [HX4.out.cell]; rfl
      have lx4 := HX4.out.lt
      clear hNd hb hkd hkl hk
      by_cases hlc : kd = 12 ∨ kd = 4
      case neg =>
        have q1 : (kd != 12) = true := by simp; omega
        have q2 : (kd != 4) = true := by simp; omega
        rw [HW4.out] at hK0 x4
        go_wp2_with (go_at_call 20; refine (hin _).mono ?_; rw [k1]; rintro e w' ⟨rfl, rfl⟩)
        rw [← HW4.out]
        go_ret
        exact ⟨rfl, HB4.out⟩
      · have hq : (kd != 12) = false ∨ ((kd != 12) = true ∧ (kd != 4) = false) := by
          rcases hlc with rfl | rfl
          · exact Or.inl rfl
          · exact Or.inr ⟨rfl, rfl⟩
        have HLC : Hid (kindAt l k = 4 ∨ kindAt l k = 12) := by
          have h := HKD.out
          rw [h] at hlc
          exact hlc.symm
        have HU4 : Hid (Below w4.heap.size w4 (w4.alloc (.cells #[.slice none 0 0] 24))) := (Below.refl _ _).alloc (Nat.le_refl _) _
        have HUB : Hid (Blk (w4.alloc (.cells #[.slice none 0 0] 24)) w4.heap.size 24 #[.slice none 0 0]) := Blk.new _ _ _
        clear hlc
        rw [HW4.out] at hK0 x4
        rcases hq with q1 | ⟨q1, q2⟩
        all_goals
          go_wp2_with (go_at_call 20; refine (hin _).mono ?_; rw [k1]; rintro e w' ⟨rfl, rfl⟩)
          rw [← HW4.out]
          rw [HZ4.out]
          clear hK0 x4 x3 l3 q1 hbl hin
          go_loopw [9] (fun v wr => ∃ (i : Nat) (q : Option Addr) (qc : Nat), i ≤ n ∧ v = .int .i64 i ∧ Hid (∀ j, j < i → tx l j ≠ anewS) ∧ Blk wr w4.heap.size 24 #[.slice q i qc] ∧ wr.ownsRow (w4.heap.size + 1) 34 6 (.slice q i qc) i (rowR fs k l i) ∧ Below w4.heap.size w4 wr) (fun v _ => n - (intOf v).toNat)
          case atStart => exact ⟨0, none, 0, Nat.zero_le _, rfl, fun j hj => absurd hj (Nat.not_lt_zero _), HUB.out, World.ownsRow_nil _ _ _ _, HU4.out⟩
          case round =>
            obtain ⟨i, q, qc, hi, rfl, HNO, hU, hO, hbe⟩ := hrel
            have HB := Lib.hid hbe
            have HU := Lib.hid hU
            have HO := Lib.hid hO
            have lU := hU.lt
            have hX := HX4.out.below hbe HX4.out.lt
            have lX := hX.lt
            have x0 : wr.cell? ⟨w.heap.size, 0, none⟩ = some (.slice (some ⟨b, o, none⟩) n cap) := by rw [hX.cell]; rfl
            have u0 : wr.cell? ⟨w4.heap.size, 0, none⟩ = some (.slice q i qc) := by rw [hU.cell]; rfl
            have uz := hU.frozen 0
            have hF := HFB.out.below hbe HFB.out.lt
            have lF := hF.lt
            have HFW := Lib.hid hF
            by_cases hlt : i < n
            · have hil : i < l.length := by have := HN.out; omega
              have hbw := HB4.out.trans (hbe.mono HB4.out.size)
              have hbl : b < wr.heap.size := Nat.lt_of_lt_of_le HB0.out hbw.size
              obtain ⟨c0, c1, c2, c3, c4, c5⟩ := (HND.out i hil).below hbw HB0.out
              obtain ⟨v, hv, _⟩ := HOWN.out i hil
              have hFi : wr.cell? ⟨F, i, none⟩ = some (.int .i64 v) := by rw [hF.cell]; simp [intA, hv]
              have HTI := Lib.hid (tx_tb2 hil rfl)
              have hcase : (v = (k : Int) ∧ Hid (rowR fs k l (i + 1) = rowR fs k l i ++ [.int .i64 l[i].k, .string anewT, .int .i64 l[i].n, .int .i64 l[i].z, .slice l[i].p l[i].c.length l[i].cap, .int .i64 l[i].a])) ∨ (v ≠ (k : Int) ∧ Hid (rowR fs k l (i + 1) = rowR fs k l i ++ [.int .i64 l[i].k, .string l[i].t, .int .i64 l[i].n, .int .i64 l[i].z, .slice l[i].p l[i].c.length l[i].cap, .int .i64 l[i].a])) := by
                by_cases e : v = (k : Int)
                · exact Or.inl ⟨e, rowR_new hil (by rw [hv, e])⟩
                · exact Or.inr ⟨e, rowR_old hil (by rw [hv]; intro h; injection h with h; exact e h)⟩
              clear hbe hU hO hX hF hv hbw
              generalize l[i] = x at *
              obtain ⟨xk, xt, xn, xz, xp, xcap, xc, xa⟩ := x
              simp only at c0 c1 c2 c3 c4 c5 hcase HTI
              obtain ⟨M, hM⟩ : ∃ M, M = xc.length := ⟨_, rfl⟩
              rw [← hM] at c4 hcase
              clear hM
              by_cases htx : tx l i = anewS
              · have t1 : (xt.toList == [97, 110, 101, 119]) = true := by rw [HTI.out, htx]; rfl
                clear hcase htx
                go_wp2
                go_ret
                exact ⟨rfl, ((HB4.out.trans (HB.out.mono HB4.out.size))).alloc (by have := HB4.out.size; have := HB.out.size; omega) _⟩
              · have t1 : (xt.toList == [97, 110, 101, 119]) = false := by rw [HTI.out]; simpa [anewS] using htx
                have HNO2 : Hid (∀ j, j < i + 1 → tx l j ≠ anewS) := fun j hj => by
                  by_cases e : j = i
                  · rw [e]; exact htx
                  · exact HNO.out j (by omega)
                clear htx
                rcases hcase with ⟨rfl, Hnext⟩ | ⟨hvk, Hnext⟩
                · have HO5 := Lib.hid ((HO.out.alloc (.cells #[.int .i64 xk, .string ⟨#[97, 110, 101, 119]⟩, .int .i64 xn, .int .i64 xz, .slice xp M xcap, .int .i64 xa] 34)).alloc (.cells #[.int .i64 xk, .string ⟨#[97, 110, 101, 119]⟩, .int .i64 xn, .int .i64 xz, .slice xp M xcap, .int .i64 xa] 34))
                  have HW6 : Hid (Below wr.heap.size wr ((wr.alloc (.cells #[.int .i64 xk, .string ⟨#[97, 110, 101, 119]⟩, .int .i64 xn, .int .i64 xz, .slice xp M xcap, .int .i64 xa] 34)).alloc (.cells #[.int .i64 xk, .string ⟨#[97, 110, 101, 119]⟩, .int .i64 xn, .int .i64 xz, .slice xp M xcap, .int .i64 xa] 34))) := ((Below.refl _ _).alloc (Nat.le_refl _) _).alloc (by simp) _
                  have HNews : Hid (∀ j u, ([.int .i64 xk, .string ⟨#[97, 110, 101, 119]⟩, .int .i64 xn, .int .i64 xz, .slice xp M xcap, .int .i64 xa] : List Value)[j]? = some u → ((wr.alloc (.cells #[.int .i64 xk, .string ⟨#[97, 110, 101, 119]⟩, .int .i64 xn, .int .i64 xz, .slice xp M xcap, .int .i64 xa] 34)).alloc (.cells #[.int .i64 xk, .string ⟨#[97, 110, 101, 119]⟩, .int .i64 xn, .int .i64 xz, .slice xp M xcap, .int .i64 xa] 34)).cell? ((⟨wr.heap.size + 1, 0, none⟩ : Addr).add j) = some u) := by
                    have h := news_node (wr.alloc (.cells #[.int .i64 xk, .string ⟨#[97, 110, 101, 119]⟩, .int .i64 xn, .int .i64 xz, .slice xp M xcap, .int .i64 xa] 34)) (.int .i64 xk) (.string ⟨#[97, 110, 101, 119]⟩) (.int .i64 xn) (.int .i64 xz) (.slice xp M xcap) (.int .i64 xa)
                    rw [World.size_alloc] at h
                    exact h
                  obtain ⟨i0, hi0, hz0, hz1, hz2⟩ := info_parts info36
                  go_wp2_with (at_builtin; refine wpList_append_own _ rfl _ _ 22 rfl (w4.heap.size + 1) 34 i0 (.agg #[.int .i64 0, .string ⟨#[]⟩, .int .i64 0, .int .i64 0, .slice none 0 0, .int .i64 0]) 6 72 Tryz.underlying22 hi0 hz0 hz1 hz2 rfl (by decide) _ i (rowR fs k l i) rfl HO5.out ⟨wr.heap.size + 1, 0, none⟩ 1 1 [.int .i64 xk, .string ⟨#[97, 110, 101, 119]⟩, .int .i64 xn, .int .i64 xz, .slice xp M xcap, .int .i64 xa] rfl rfl ?c1 ?c2 ?c3 ?c4 ?c5 ?_)
                  case c1 => exact HNews.out
                  case c2 => intro u hu; simp at hu; rcases hu with rfl | rfl | rfl | rfl | rfl | rfl <;> rfl
                  case c3 => unfold maxLen; omega
                  case c4 => omega
                  case c5 => simp; omega
                  intro v' w7 hown' hgrow _
                  obtain ⟨q', qc', rfl⟩ := row_shape hown'
                  have hrow : ∀ g, (Value.slice q i qc).ownBlock = some g → w4.heap.size + 1 ≤ g := fun g h => (HO5.out.lt g h).1
                  have hB6 := HB.out.trans (HW6.out.mono HB.out.size)
                  have hB7 : Below w4.heap.size w4 w7 := Below.grown hB6 hgrow hB6.size (fun g h => by have := hrow g h; omega)
                  have hneU : some w4.heap.size ≠ (Value.slice q i qc).ownBlock := fun h => by have := hrow _ h.symm; omega
                  have hU7 := (HU.out.below HW6.out lU).grown hgrow hneU
                  have hU8 : Blk (w7.setCell ⟨w4.heap.size, 0, none⟩ (.slice q' (i + 1) qc')) w4.heap.size 24 #[.slice q' (i + 1) qc'] := by have h := hU7.set_ 0 (.slice q' (i + 1) qc'); simpa using h
                  have hO8 : (w7.setCell ⟨w4.heap.size, 0, none⟩ (.slice q' (i + 1) qc')).ownsRow (w4.heap.size + 1) 34 6 (.slice q' (i + 1) qc') (i + 1) (rowR fs k l (i + 1)) := by
                    rw [Hnext.out]
                    exact own_far hown' (fun g hg => by have := (hown'.lt g hg).1; simp; omega) _
                  have hB8 : Below w4.heap.size w4 (w7.setCell ⟨w4.heap.size, 0, none⟩ (.slice q' (i + 1) qc')) := hB7.setCell (p := ⟨w4.heap.size, 0, none⟩) (Nat.le_refl _) _
                  have z7 : w7.cell? ⟨w4.heap.size, 0, none⟩ = some (.slice q i qc) := by rw [hU7.cell]; rfl
                  have zf := hU7.frozen 0
                  have HU8 := Lib.hid hU8
                  have HO8 := Lib.hid hO8
                  have HB8 := Lib.hid hB8
                  clear hown' hgrow hrow hB6 hB7 hneU hU7 hU8 hO8 hB8 c0 c1 c2 c3 c4 c5 x0 u0 uz
                  go_wp2
                  go_roundw
                  case rel => exact ⟨i + 1, q', qc', by omega, by go_num, HNO2, HU8.out, HO8.out, HB8.out⟩
                  case measure => simp [intOf]; try omega
                · have v1 : (v == (k : Int)) = false := by simpa using hvk
                  clear hvk
                  have HO5 := Lib.hid ((HO.out.alloc (.cells #[.int .i64 xk, .string xt, .int .i64 xn, .int .i64 xz, .slice xp M xcap, .int .i64 xa] 34)).alloc (.cells #[.int .i64 xk, .string xt, .int .i64 xn, .int .i64 xz, .slice xp M xcap, .int .i64 xa] 34))
                  have HW6 : Hid (Below wr.heap.size wr ((wr.alloc (.cells #[.int .i64 xk, .string xt, .int .i64 xn, .int .i64 xz, .slice xp M xcap, .int .i64 xa] 34)).alloc (.cells #[.int .i64 xk, .string xt, .int .i64 xn, .int .i64 xz, .slice xp M xcap, .int .i64 xa] 34))) := ((Below.refl _ _).alloc (Nat.le_refl _) _).alloc (by simp) _
                  have HNews : Hid (∀ j u, ([.int .i64 xk, .string xt, .int .i64 xn, .int .i64 xz, .slice xp M xcap, .int .i64 xa] : List Value)[j]? = some u → ((wr.alloc (.cells #[.int .i64 xk, .string xt, .int .i64 xn, .int .i64 xz, .slice xp M xcap, .int .i64 xa] 34)).alloc (.cells #[.int .i64 xk, .string xt, .int .i64 xn, .int .i64 xz, .slice xp M xcap, .int .i64 xa] 34)).cell? ((⟨wr.heap.size + 1, 0, none⟩ : Addr).add j) = some u) := by
                    have h := news_node (wr.alloc (.cells #[.int .i64 xk, .string xt, .int .i64 xn, .int .i64 xz, .slice xp M xcap, .int .i64 xa] 34)) (.int .i64 xk) (.string xt) (.int .i64 xn) (.int .i64 xz) (.slice xp M xcap) (.int .i64 xa)
                    rw [World.size_alloc] at h
                    exact h
                  obtain ⟨i0, hi0, hz0, hz1, hz2⟩ := info_parts info36
                  go_wp2_with (at_builtin; refine wpList_append_own _ rfl _ _ 22 rfl (w4.heap.size + 1) 34 i0 (.agg #[.int .i64 0, .string ⟨#[]⟩, .int .i64 0, .int .i64 0, .slice none 0 0, .int .i64 0]) 6 72 Tryz.underlying22 hi0 hz0 hz1 hz2 rfl (by decide) _ i (rowR fs k l i) rfl HO5.out ⟨wr.heap.size + 1, 0, none⟩ 1 1 [.int .i64 xk, .string xt, .int .i64 xn, .int .i64 xz, .slice xp M xcap, .int .i64 xa] rfl rfl ?c1 ?c2 ?c3 ?c4 ?c5 ?_)
                  case c1 => exact HNews.out
                  case c2 => intro u hu; simp at hu; rcases hu with rfl | rfl | rfl | rfl | rfl | rfl <;> rfl
                  case c3 => unfold maxLen; omega
                  case c4 => omega
                  case c5 => simp; omega
                  intro v' w7 hown' hgrow _
                  obtain ⟨q', qc', rfl⟩ := row_shape hown'
                  have hrow : ∀ g, (Value.slice q i qc).ownBlock = some g → w4.heap.size + 1 ≤ g := fun g h => (HO5.out.lt g h).1
                  have hB6 := HB.out.trans (HW6.out.mono HB.out.size)
                  have hB7 : Below w4.heap.size w4 w7 := Below.grown hB6 hgrow hB6.size (fun g h => by have := hrow g h; omega)
                  have hneU : some w4.heap.size ≠ (Value.slice q i qc).ownBlock := fun h => by have := hrow _ h.symm; omega
                  have hU7 := (HU.out.below HW6.out lU).grown hgrow hneU
                  have hU8 : Blk (w7.setCell ⟨w4.heap.size, 0, none⟩ (.slice q' (i + 1) qc')) w4.heap.size 24 #[.slice q' (i + 1) qc'] := by have h := hU7.set_ 0 (.slice q' (i + 1) qc'); simpa using h
                  have hO8 : (w7.setCell ⟨w4.heap.size, 0, none⟩ (.slice q' (i + 1) qc')).ownsRow (w4.heap.size + 1) 34 6 (.slice q' (i + 1) qc') (i + 1) (rowR fs k l (i + 1)) := by
                    rw [Hnext.out]
                    exact own_far hown' (fun g hg => by have := (hown'.lt g hg).1; simp; omega) _
                  have hB8 : Below w4.heap.size w4 (w7.setCell ⟨w4.heap.size, 0, none⟩ (.slice q' (i + 1) qc')) := hB7.setCell (p := ⟨w4.heap.size, 0, none⟩) (Nat.le_refl _) _
                  have z7 : w7.cell? ⟨w4.heap.size, 0, none⟩ = some (.slice q i qc) := by rw [hU7.cell]; rfl
                  have zf := hU7.frozen 0
                  have HU8 := Lib.hid hU8
                  have HO8 := Lib.hid hO8
                  have HB8 := Lib.hid hB8
                  clear hown' hgrow hrow hB6 hB7 hneU hU7 hU8 hO8 hB8 c0 c1 c2 c3 c4 c5 x0 u0 uz
                  go_wp2
                  go_roundw
                  case rel => exact ⟨i + 1, q', qc', by omega, by go_num, HNO2, HU8.out, HO8.out, HB8.out⟩
                  case measure => simp [intOf]; try omega
            · have hin_ : i = n := by omega
              subst hin_
              have hTU := renL_tr HO.out HN.out HT.out.2 (HB4.out.trans (HB.out.mono HB4.out.size))
              have hfU := renL_fit (fs := fs) (k := k) HF.out (show l.length ≤ qc by rw [← HN.out]; exact row_cap HO.out)
              have hno : ∀ j, j < l.length → tx l j ≠ anewS := fun j hj => HNO.out j (by have := HN.out; omega)
              have hs := names_again HNN.out HCK.out hno (by have := HN.out; omega) HLC.out HOWN.out hTU hfU
              rw [← HN.out] at hs
              have HFL2 : Hid (fs.length = i) := HFL.out.trans HN.out.symm
              have hK := HK4.out.below hbe HK4.out.lt
              have HKW := Lib.hid hK
              have lK := hK.lt
              have HZ3 : Hid (w3.heap.size < w4.heap.size) := Lib.hid (by have := HZ4.out; omega)
              clear hbe hU hO hX hF hTU hfU hno hK
              go_wp2_with (go_at_call 19; refine hs.mono ?_)
              intro e w6 hp
              obtain ⟨F2, rfl, hb6, lF2, hB6⟩ := hp
              have HK6 := Lib.hid (HKW.out.below hb6 HKW.out.lt)
              have k0 : w6.cell? ⟨w3.heap.size, 0, none⟩ = some (.int .i64 0) := by rw [HK6.out.cell]; rfl
              have k1' : w6.cell? ⟨w3.heap.size, 1, none⟩ = some (.int .i64 0) := by rw [HK6.out.cell]; rfl
              have fz0 := HK6.out.frozen 0
              have fz1 := HK6.out.frozen 1
              have lK6 := HK6.out.lt
              have HB6 := Lib.hid (HB4.out.trans ((HB.out.trans (hb6.mono HB.out.size)).mono HB4.out.size))
              have hFne : F ≠ w3.heap.size := by have := HF1.out; omega
              have hF2ne : F2 ≠ w3.heap.size := by have := HZ3.out; have := HB.out.size; omega
              have hA := (((HFW.out.below hb6 lF).far (p := ⟨w3.heap.size, 0, none⟩) hFne (.int .i64 0)).far (p := ⟨w3.heap.size, 1, none⟩) hFne (.int .i64 0))
              have hA2 := (hB6.far (p := ⟨w3.heap.size, 0, none⟩) hF2ne (.int .i64 0)).far (p := ⟨w3.heap.size, 1, none⟩) hF2ne (.int .i64 0)
              have hsz : w.heap.size ≤ w3.heap.size := HB3.out.size
              have HB7 : Hid (Below w.heap.size w ((w6.setCell ⟨w3.heap.size, 0, none⟩ (.int .i64 0)).setCell ⟨w3.heap.size, 1, none⟩ (.int .i64 0))) := (HB6.out.setCell (p := ⟨w3.heap.size, 0, none⟩) hsz _).setCell (p := ⟨w3.heap.size, 1, none⟩) hsz _
              have hi2 := ints_same HFL2.out hn47 hA hA2
              clear hb6 hB6 hA hA2 hs
              go_wp2_with (go_at_call 21; refine hi2.mono ?_)
              first | rintro e w8 ⟨rfl, hb8⟩ | (intro e w8 he hb8; subst he)
              have HB8 := Lib.hid (HB7.out.trans (hb8.mono HB7.out.size))
              clear hb8 hi2
              go_wp2
              go_ret
              exact ⟨rfl, HB8.out⟩
end Sc
end
end Go.Proofs.YtmghjfphlneblaaGreatDoor
