/-
  Joined texts of this claim: Nb.
-/
import Derived.Test.YtbjacclfhgnffaaGreatDoorX32
import Derived.Test.YtbjacclfhgnffaaGreatDoorX44
import Derived.Deep.DeepCutAuto
import Derived.Deep.QuietTactic
import Derived.BigQuiet
set_option linter.unusedVariables false
set_option linter.unusedSimpArgs false
/-
  The walk of ParseNearest.
-/
namespace Go.Proofs.YtbjacclfhgnffaaGreatDoor
open Go.RowKit
open Tk (T4 SR Scans bstr rowOf)
open Tr (Nd Blk KidsAt Fit CkPost CkR sameL)

def rowS : Array Value := #[.string ⟨#[124, 124]⟩, .string ⟨#[38, 38]⟩, .string ⟨#[124]⟩, .string ⟨#[94]⟩, .string ⟨#[38]⟩, .string ⟨#[61, 61]⟩, .string ⟨#[60]⟩, .string ⟨#[62, 62]⟩, .string ⟨#[43]⟩, .string ⟨#[37]⟩]
theorem row_at (p : Nat) (hp : p < 10) : rowS[p]? = some (.string (bstr (signL.getD p []))) := by
  match p, hp with
  | 0, _ => rfl
  | 1, _ => rfl
  | 2, _ => rfl
  | 3, _ => rfl
  | 4, _ => rfl
  | 5, _ => rfl
  | 6, _ => rfl
  | 7, _ => rfl
  | 8, _ => rfl
  | 9, _ => rfl
theorem inB_no {n a b : Int} (h : ¬ (a ≤ n ∧ n ≤ b)) : Tr.inB n a b = false := decide_eq_false h
theorem inB_yes {n a b : Int} (h : a ≤ n ∧ n ≤ b) : Tr.inB n a b = true := decide_eq_true h

set_option maxHeartbeats 4000000 in
set_option maxRecDepth 100000 in
theorem near_out (i j : Int) (w : World) (hE : Env w) (h : ¬ ((0 ≤ i ∧ i ≤ 9) ∧ (0 ≤ j ∧ j ≤ 9))) :
    Calls Tryz.prog 7 #[.int .i64 i, .int .i64 j] w fun e w' => e = .returned (.bool true) ∧ Below w.heap.size w w' := by
  have hfa := fact_any hE
  have hi := fun w => Tr.in10_any i 0 9 w
  have hj := fun w => Tr.in10_any j 0 9 w
  by_cases h1 : 0 ≤ i ∧ i ≤ 9
  · have h2 : ¬ (0 ≤ j ∧ j ≤ 9) := fun h2 => h ⟨h1, h2⟩
    rw [inB_yes h1] at hi
    rw [inB_no h2] at hj
    clear h h1 h2 hE
    go_enter Tryz.func7, Tryz.ntmps7
    go_wp2_with (first | (go_at_call 16; refine hfa.mono ?_; rintro e w1 ⟨rfl, hb1⟩) | (go_at_call 21; first | ((with_reducible refine (hi _).mono ?_); rintro e w' ⟨rfl, rfl⟩) | ((with_reducible refine (hj _).mono ?_); rintro e w' ⟨rfl, rfl⟩)))
    (try go_ret)
    exact ⟨rfl, hb1.alloc hb1.size _⟩
  · rw [inB_no h1] at hi
    clear h h1 hE hj
    go_enter Tryz.func7, Tryz.ntmps7
    go_wp2_with (first | (go_at_call 16; refine hfa.mono ?_; rintro e w1 ⟨rfl, hb1⟩) | (go_at_call 21; ((with_reducible refine (hi _).mono ?_); rintro e w' ⟨rfl, rfl⟩)))
    (try go_ret)
    exact ⟨rfl, hb1.alloc hb1.size _⟩

theorem S_get {A B : Prop} {n0 : Nat} {W2 W : World} (h : A ∧ B ∧ Below n0 W2 W) : Below n0 W2 W := h.2.2
theorem S_alloc {A B : Prop} {n0 : Nat} {W2 W : World} {o : Obj} (h : A ∧ B ∧ Below n0 W2 W) (hn : n0 ≤ W2.heap.size) : Below n0 W2 (W.alloc o) := h.2.2.alloc (Nat.le_trans hn h.2.2.size) _
theorem S_call {A B : Prop} {n0 : Nat} {W2 W W5 : World} (h : A ∧ B ∧ Below n0 W2 W) (hb : Below W.heap.size W W5) (hn : n0 ≤ W2.heap.size) : Below n0 W2 W5 := h.2.2.trans (hb.mono (Nat.le_trans hn h.2.2.size))
theorem S_set {A B : Prop} {n0 : Nat} {W2 W : World} {b o : Nat} {v : Value} (h : A ∧ B ∧ Below n0 W2 W) (hn : n0 ≤ b) : Below n0 W2 (W.setCell ⟨b, o, none⟩ v) := h.2.2.setCell (p := ⟨b, o, none⟩) hn _
theorem S_set2 {A B : Prop} {n0 : Nat} {W2 W : World} {b o o' : Nat} {v v' : Value} (h : A ∧ B ∧ Below n0 W2 W) (hn : n0 ≤ b) : Below n0 W2 ((W.setCell ⟨b, o, none⟩ v).setCell ⟨b, o', none⟩ v') := (h.2.2.setCell (p := ⟨b, o, none⟩) hn _).setCell (p := ⟨b, o', none⟩) hn _
theorem bcell {W w1 : World} (hb : Below W.heap.size W w1) : (∀ b o, b < W.heap.size → w1.cell? ⟨b, o, none⟩ = W.cell? ⟨b, o, none⟩) ∧ (∀ b o, b < W.heap.size → w1.frozen? ⟨b, o, none⟩ = W.frozen? ⟨b, o, none⟩) :=
  ⟨fun b o h => hb.cell (p := ⟨b, o, none⟩) h, fun b o h => hb.frozen (p := ⟨b, o, none⟩) h⟩
theorem pre_cell {W w1 : World} (hb : Below W.heap.size W w1) {b o : Nat} {v : Value} (h : W.cell? ⟨b, o, none⟩ = some v) : w1.cell? ⟨b, o, none⟩ = some v := (hb.cell (p := ⟨b, o, none⟩) (Lib.lt_of_cell h)).trans h
theorem pre_froz {W w1 : World} (hb : Below W.heap.size W w1) {b o : Nat} (hl : b < W.heap.size) (h : W.frozen? ⟨b, o, none⟩ = false) : w1.frozen? ⟨b, o, none⟩ = false := (hb.frozen (p := ⟨b, o, none⟩) hl).trans h
theorem hv {a b : Prop} (h : a) (k : a → b) : b := k h
/-- between the first call and the second one: where its result stands -/
def Mid1 (n0 : Nat) (W2 : World) (N : List Mn) (ga gb : Nat) (wx : World) : Prop :=
  ∃ (ns : List Nd) (m cap : Nat) (pp : Option Addr), Below n0 W2 wx ∧ wx.cell? ⟨ga, 0, none⟩ = some (.slice pp m cap) ∧ wx.cell? ⟨gb, 0, none⟩ = some (.int .i64 0) ∧ Tr.Tr wx pp ns ∧ Fit ns cap ∧ CkR ns 0 0 ∧ ns.length = m ∧ m ≤ 5000000 ∧ ns.map bare = N
theorem mid_intro {n0 : Nat} {W2 w5 wx : World} {N : List Mn} {ga gb b0 : Nat} {ns : List Nd} {m cap : Nat} {pp : Option Addr} (hT : Tr.Tr w5 pp ns) (hH : Hi b0 pp ns) (hF : Fit ns cap) (hck : CkR ns 0 0) (hm : ns.length = m) (hm5 : m ≤ 5000000) (hN : ns.map bare = N)
    (hs : ∀ b, b0 ≤ b → b < w5.heap.size → wx.heap[b]? = w5.heap[b]?) (hz : w5.heap.size ≤ wx.heap.size) (hb : Below n0 W2 wx) (h1 : wx.cell? ⟨ga, 0, none⟩ = some (.slice pp m cap)) (h2 : wx.cell? ⟨gb, 0, none⟩ = some (.int .i64 0)) : Mid1 n0 W2 N ga gb wx :=
  ⟨ns, m, cap, pp, hb, h1, h2, tr_hi hT hH hs hz, hF, hck, hm, hm5, hN⟩
theorem hsc (w : World) (g o : Nat) (v : Value) (b : Nat) (h : b ≠ g) : (w.setCell ⟨g, o, none⟩ v).heap[b]? = w.heap[b]? := Below.heap_setCell _ _ _ _ h
theorem txtA_data (p q : Nat) : (((((⟨#[120, 32]⟩ : ByteArray) ++ bstr (signL.getD p [])) ++ (⟨#[32, 121, 32]⟩ : ByteArray)) ++ bstr (signL.getD q [])) ++ (⟨#[32, 122]⟩ : ByteArray)).data.toList = txtA p q := by
  simp only [ByteArray.data_append, Array.toList_append]; simp [txtA, bstr]

theorem txtL_data (p q : Nat) : (((((⟨#[40, 120, 32]⟩ : ByteArray) ++ bstr (signL.getD p [])) ++ (⟨#[32, 121, 41, 32]⟩ : ByteArray)) ++ bstr (signL.getD q [])) ++ (⟨#[32, 122]⟩ : ByteArray)).data.toList = txtL p q := by
  simp only [ByteArray.data_append, Array.toList_append]; simp [txtL, bstr]
theorem txtR_data (p q : Nat) : (((((⟨#[120, 32]⟩ : ByteArray) ++ bstr (signL.getD p [])) ++ (⟨#[32, 40, 121, 32]⟩ : ByteArray)) ++ bstr (signL.getD q [])) ++ (⟨#[32, 122, 41]⟩ : ByteArray)).data.toList = txtR p q := by
  simp only [ByteArray.data_append, Array.toList_append]; simp [txtR, bstr]
theorem below_dn {n : Nat} {a w : World} (h : Below n a w) (k : Nat) : Below n a (w.drewN k) := ⟨h.os, h.tape, h.output, h.size, h.block⟩
theorem tr_dn {w : World} {p : Option Addr} {l : List Nd} (h : Tr.Tr w p l) (k : Nat) : Tr.Tr (w.drewN k) p l := h.below (below_dn (Below.refl _ _) k)

set_option maxHeartbeats 8000000 in
set_option maxRecDepth 100000 in
theorem near_in (p q : Nat) (hp : p < 10) (hq : q < 10) (w : World) (hE : Env w) :
    Calls Tryz.prog 7 #[.int .i64 p, .int .i64 q] w fun e w' => e = .returned (.bool true) ∧ Below w.heap.size w w' := by
  have hfa := fact_any hE
  have hi := fun w => Tr.in10_any (p : Int) 0 9 w
  have hj := fun w => Tr.in10_any (q : Int) 0 9 w
  rw [inB_yes (by omega)] at hi
  rw [inB_yes (by omega)] at hj
  have b1 : (0 : Int) ≤ (p : Int) := by omega
  have b2 : (p : Int) < 10 := by omega
  have b3 : (0 : Int) ≤ (q : Int) := by omega
  have b4 : (q : Int) < 10 := by omega
  have HE := Lib.hid hE
  clear hE
  go_enter Tryz.func7, Tryz.ntmps7
  go_upto_region 7 with (first | (go_at_call 16; refine hfa.mono ?_; rintro e w1 ⟨rfl, hb1⟩) | (go_at_call 21; first | ((with_reducible refine (hi _).mono ?_); rintro e w' ⟨rfl, rfl⟩) | ((with_reducible refine (hj _).mono ?_); rintro e w' ⟨rfl, rfl⟩)))
  have hb2 : Below w.heap.size w (w1.alloc (.cells #[.string ⟨#[124, 124]⟩, .string ⟨#[38, 38]⟩, .string ⟨#[124]⟩, .string ⟨#[94]⟩, .string ⟨#[38]⟩, .string ⟨#[61, 61]⟩, .string ⟨#[60]⟩, .string ⟨#[62, 62]⟩, .string ⟨#[43]⟩, .string ⟨#[37]⟩] 9)) := hb1.alloc hb1.size _
  have hk2 : Blk (w1.alloc (.cells #[.string ⟨#[124, 124]⟩, .string ⟨#[38, 38]⟩, .string ⟨#[124]⟩, .string ⟨#[94]⟩, .string ⟨#[38]⟩, .string ⟨#[61, 61]⟩, .string ⟨#[60]⟩, .string ⟨#[62, 62]⟩, .string ⟨#[43]⟩, .string ⟨#[37]⟩] 9)) w1.heap.size 9 rowS := Blk.new _ _ _
  have HG : Hid (w.heap.size ≤ w1.heap.size) := hb1.size
  clear hb1 hfa hi hj
  generalize w1.alloc (.cells #[.string ⟨#[124, 124]⟩, .string ⟨#[38, 38]⟩, .string ⟨#[124]⟩, .string ⟨#[94]⟩, .string ⟨#[38]⟩, .string ⟨#[61, 61]⟩, .string ⟨#[60]⟩, .string ⟨#[62, 62]⟩, .string ⟨#[43]⟩, .string ⟨#[37]⟩] 9) = W2 at *
  generalize w1.heap.size = g at *
  obtain ⟨sA, sB, hA, hBt, hcA, hcB, hlk⟩ := near_of hp hq
  have HE2 := Lib.hid (HE.out.below hb2)
  obtain ⟨x, hx⟩ : ∃ x, x = bstr (signL.getD p []) := ⟨_, rfl⟩
  obtain ⟨y, hy⟩ : ∃ y, y = bstr (signL.getD q []) := ⟨_, rfl⟩
  have hS : ∀ W, Below W2.heap.size W2 W → W.cell? ⟨g, p, none⟩ = some (.string x) ∧ W.cell? ⟨g, q, none⟩ = some (.string y) ∧ Below W2.heap.size W2 W := fun W hW => by
    refine ⟨?_, ?_, hW⟩
    · rw [hW.cell (p := ⟨g, p, none⟩) hk2.lt, hk2.cell, row_at p hp, hx]
    · rw [hW.cell (p := ⟨g, q, none⟩) hk2.lt, hk2.cell, row_at q hq, hy]
  have hA' : ExprOf ((((((⟨#[120, 32]⟩ : ByteArray) ++ x) ++ (⟨#[32, 121, 32]⟩ : ByteArray)) ++ y) ++ (⟨#[32, 122]⟩ : ByteArray)).data.toList) (.ok sA) := by rw [hx, hy, txtA_data]; exact hA
  have hxs : x.size ≤ 1000 := by
    rw [hx, Lib.size_eq]; show (signL.getD p []).length ≤ 1000
    have h : signL.all (fun l => decide (l.length ≤ 1000)) = true := by decide
    by_cases hl : p < signL.length
    · have := List.all_eq_true.1 h signL[p] (List.getElem_mem hl)
      rw [List.getD_eq_getElem?_getD, List.getElem?_eq_getElem hl]
      simpa using this
    · rw [List.getD_eq_getElem?_getD, List.getElem?_eq_none (by omega)]; simp
  have hys : y.size ≤ 1000 := by
    rw [hy, Lib.size_eq]; show (signL.getD q []).length ≤ 1000
    have h : signL.all (fun l => decide (l.length ≤ 1000)) = true := by decide
    by_cases hl : q < signL.length
    · have := List.all_eq_true.1 h signL[q] (List.getElem_mem hl)
      rw [List.getD_eq_getElem?_getD, List.getElem?_eq_getElem hl]
      simpa using this
    · rw [List.getD_eq_getElem?_getD, List.getElem?_eq_none (by omega)]; simp
  have hsA : (((((⟨#[120, 32]⟩ : ByteArray) ++ x) ++ (⟨#[32, 121, 32]⟩ : ByteArray)) ++ y) ++ (⟨#[32, 122]⟩ : ByteArray)).size ≤ 140737488355328 := by
    simp only [ByteArray.size_append]; show 2 + x.size + 3 + y.size + 2 ≤ _; omega
  have HCA : Hid (∀ W, Below W2.heap.size W2 W → Calls Tryz.prog 11 #[.string (((((⟨#[120, 32]⟩ : ByteArray) ++ x) ++ (⟨#[32, 121, 32]⟩ : ByteArray)) ++ y) ++ (⟨#[32, 122]⟩ : ByteArray))] W fun e w' => Below W.heap.size W w' ∧ ∃ (ns : List Nd) (m cap : Nat) (pp : Option Addr), ns.length = m ∧ m ≤ 5000000 ∧ e = .returned (.tuple #[.agg #[.slice pp m cap], .agg #[.int .i64 0, .int .i64 0]]) ∧ Tr.Tr w' pp ns ∧ Fit ns cap ∧ CkR ns 0 0 ∧ ns.map bare = sA.N ∧ Hi W.heap.size pp ns) := fun W hW => expr_ok hA' hcA (HE2.out.below hW) hsA
  have HS := Lib.hid hS
  have HB2 := Lib.hid hb2
  have Hx := Lib.hid hx
  have Hy := Lib.hid hy
  have HBt := Lib.hid hBt
  have HcB := Lib.hid hcB
  have Hlk := Lib.hid hlk
  have a4 : ¬ 9223372036854775807 < 2 + x.size := by omega
  have a5 : ¬ 9223372036854775807 < 2 + x.size + 3 := by omega
  have a10 : ¬ 9223372036854775807 < 2 + x.size + 3 + y.size := by omega
  have a11 : ¬ 9223372036854775807 < 2 + x.size + 3 + y.size + 2 := by omega
  obtain ⟨n0, hn0⟩ : ∃ n0, n0 = W2.heap.size := ⟨_, rfl⟩
  rw [← hn0] at HCA HS
  have hn1 : n0 ≤ W2.heap.size := by omega
  have hS0 : Below n0 W2 W2.drew := by rw [hn0]; exact (Below.refl _ _).drew
  have HS0 := Lib.hid hS0
  have Hn0 := Lib.hid hn0
  have HR0 : Hid (Below n0 W2 W2) := by show Below n0 W2 W2; rw [hn0]; exact Below.refl _ _
  clear hA hBt hcA hcB hlk hS hA' hsA hk2 hx hy hn0 hS0 hb2
  go_cut [7, 8] (fun s7 s8 wx => ∃ ga gb, s7 = .pointer (some ⟨ga, 0, none⟩) ∧ s8 = .pointer (some ⟨gb, 0, none⟩) ∧ Mid1 n0 W2 sA.N ga gb wx)
  case first =>
    go_region_held3 (fun W => W.cell? ⟨g, p, none⟩ = some (.string x) ∧ W.cell? ⟨g, q, none⟩ = some (.string y) ∧ Below n0 W2 W)
      (exact HS.out _ (by repeat (first | exact hw5 | exact HS0.out | exact HR0.out | (refine Below.drew ?_) | (refine Below.alloc ?_ (by first | omega | (simp [World.setCell]; done) | (simp [World.setCell]; omega)) _) | (refine Below.setCell (p := ⟨_, _, none⟩) ?_ (by first | omega | (simp; omega)) _))))
      (first | (go_at_call 11; refine (HCA.out _ (S_get (by assumption))).mono ?_; rintro e w5 ⟨hb5, ns, m, cap, pp, hm, hm5, rfl, hT, hF, hck, hN, hH⟩; have hsz5 := hb5.size; simp at hsz5; have hn5 : n0 ≤ w5.heap.size := (by omega); have hw5 : Below n0 W2 w5 := S_call (by assumption) hb5 hn1; (try (refine hv (a := w5.cell? ⟨W2.heap.size, 0, none⟩ = some (.slice none 0 0)) ?_ ?_; (focus (refine pre_cell hb5 ?_; go_simp; done)); intro _)); (try (refine hv (a := w5.cell? ⟨W2.heap.size, 0, none⟩ = some (.int .i64 0)) ?_ ?_; (focus (refine pre_cell hb5 ?_; go_simp; done)); intro _)); (try (refine hv (a := w5.cell? ⟨W2.heap.size, 1, none⟩ = some (.int .i64 0)) ?_ ?_; (focus (refine pre_cell hb5 ?_; go_simp; done)); intro _)); (try (refine hv (a := w5.frozen? ⟨W2.heap.size, 0, none⟩ = false) ?_ ?_; (focus (refine pre_froz hb5 ?_ ?_; (focus (first | (simp; done) | (simp; omega))); (focus (go_simp; done)))); intro _)); (try (refine hv (a := w5.frozen? ⟨W2.heap.size, 1, none⟩ = false) ?_ ?_; (focus (refine pre_froz hb5 ?_ ?_; (focus (first | (simp; done) | (simp; omega))); (focus (go_simp; done)))); intro _)); (try (refine hv (a := W2.heap.size < w5.heap.size) ?_ ?_; (focus omega); intro _)); (try (refine hv (a := w5.cell? ⟨W2.heap.size + 1, 0, none⟩ = some (.slice none 0 0)) ?_ ?_; (focus (refine pre_cell hb5 ?_; go_simp; done)); intro _)); (try (refine hv (a := w5.cell? ⟨W2.heap.size + 1, 0, none⟩ = some (.int .i64 0)) ?_ ?_; (focus (refine pre_cell hb5 ?_; go_simp; done)); intro _)); (try (refine hv (a := w5.cell? ⟨W2.heap.size + 1, 1, none⟩ = some (.int .i64 0)) ?_ ?_; (focus (refine pre_cell hb5 ?_; go_simp; done)); intro _)); (try (refine hv (a := w5.frozen? ⟨W2.heap.size + 1, 0, none⟩ = false) ?_ ?_; (focus (refine pre_froz hb5 ?_ ?_; (focus (first | (simp; done) | (simp; omega))); (focus (go_simp; done)))); intro _)); (try (refine hv (a := w5.frozen? ⟨W2.heap.size + 1, 1, none⟩ = false) ?_ ?_; (focus (refine pre_froz hb5 ?_ ?_; (focus (first | (simp; done) | (simp; omega))); (focus (go_simp; done)))); intro _)); (try (refine hv (a := W2.heap.size + 1 < w5.heap.size) ?_ ?_; (focus omega); intro _))))
    all_goals
      have HT := Lib.hid hT
      have HH := Lib.hid hH
      have HF := Lib.hid hF
      have Hck := Lib.hid hck
      have Hm := Lib.hid hm
      have HN := Lib.hid hN
      clear hT hH hF hck hm hN
      go_wp2_with fail
      go_meet
      refine ⟨_, _, rfl, rfl, mid_intro HT.out HH.out HF.out Hck.out Hm.out hm5 HN.out ?_ ?_ ?_ ?_ ?_⟩
      · intro b h1 h2
        simp at h1
        (repeat (first | rw [Below.heap_alloc _ _ _ (by first | omega | (simp [World.setCell]; omega))] | rw [hsc _ W2.heap.size _ _ b (by omega)] | rw [hsc _ (W2.heap.size + 1) _ _ b (by omega)]))
      · first | (simp [World.setCell]; done) | (simp [World.setCell]; omega)
      · repeat (first | exact hw5 | exact HS0.out | exact HR0.out | (refine Below.drew ?_) | (refine Below.alloc ?_ (by first | omega | (simp [World.setCell]; done) | (simp [World.setCell]; omega)) _) | (refine Below.setCell (p := ⟨_, _, none⟩) ?_ (by first | omega | (simp; omega)) _))
      · go_simp
      · go_simp
  case rest =>
    obtain ⟨ga, gb, rfl, rfl, ns, m, cap, pp, hbc, hca, hcb, hT, hF, hck, hm, hm5, hN⟩ := hcut
    obtain ⟨hcx, hcy, -⟩ := HS.out wc hbc
    have HBq0 := Lib.hid hbc
    have HA0 := Lib.hid hca
    have HBc0 := Lib.hid hcb
    have HT0 := Lib.hid hT
    have HF := Lib.hid hF
    have Hck := Lib.hid hck
    have Hm := Lib.hid hm
    have HN := Lib.hid hN
    have HN0 : Hid (w.heap.size ≤ n0) := by show w.heap.size ≤ n0; rw [Hn0.out]; exact HB2.out.size
    clear hbc hca hcb hT hF hck hm hN
    have l4 : ¬ 9223372036854775807 < 3 + x.size := by omega
    have l5 : ¬ 9223372036854775807 < 3 + x.size + 4 := by omega
    have l10 : ¬ 9223372036854775807 < 3 + x.size + 4 + y.size := by omega
    have l11 : ¬ 9223372036854775807 < 3 + x.size + 4 + y.size + 2 := by omega
    have r5 : ¬ 9223372036854775807 < 2 + x.size + 4 := by omega
    have r10 : ¬ 9223372036854775807 < 2 + x.size + 4 + y.size := by omega
    have r11 : ¬ 9223372036854775807 < 2 + x.size + 4 + y.size + 3 := by omega
    have hsL : (((((⟨#[40, 120, 32]⟩ : ByteArray) ++ x) ++ (⟨#[32, 121, 41, 32]⟩ : ByteArray)) ++ y) ++ (⟨#[32, 122]⟩ : ByteArray)).size ≤ 140737488355328 := by
      simp only [ByteArray.size_append]; show 3 + x.size + 4 + y.size + 2 ≤ _; omega
    have hsR : (((((⟨#[120, 32]⟩ : ByteArray) ++ x) ++ (⟨#[32, 40, 121, 32]⟩ : ByteArray)) ++ y) ++ (⟨#[32, 122, 41]⟩ : ByteArray)).size ≤ 140737488355328 := by
      simp only [ByteArray.size_append]; show 2 + x.size + 4 + y.size + 3 ≤ _; omega
    by_cases hpq : p < q
    · have hq1 : decide (p < q) = true := decide_eq_true hpq
      have hE1 : ExprOf (((((⟨#[120, 32]⟩ : ByteArray) ++ x) ++ (⟨#[32, 40, 121, 32]⟩ : ByteArray)) ++ y) ++ (⟨#[32, 122, 41]⟩ : ByteArray)).data.toList (.ok sB) := by
        rw [Hx.out, Hy.out, txtR_data]; have h := HBt.out; unfold txtB at h; rw [if_pos hpq] at h; exact h
      have HCB : Hid (∀ W, Below n0 W2 W → Calls Tryz.prog 11 #[.string (((((⟨#[120, 32]⟩ : ByteArray) ++ x) ++ (⟨#[32, 40, 121, 32]⟩ : ByteArray)) ++ y) ++ (⟨#[32, 122, 41]⟩ : ByteArray))] W fun e w' => Below W.heap.size W w' ∧ ∃ (ns : List Nd) (m cap : Nat) (pp : Option Addr), ns.length = m ∧ m ≤ 5000000 ∧ e = .returned (.tuple #[.agg #[.slice pp m cap], .agg #[.int .i64 0, .int .i64 0]]) ∧ Tr.Tr w' pp ns ∧ Fit ns cap ∧ CkR ns 0 0 ∧ ns.map bare = sB.N ∧ Hi W.heap.size pp ns) := fun W hW => expr_ok hE1 HcB.out (HE2.out.below (by rw [← Hn0.out]; exact hW)) hsR
      clear hpq hE1 hsL hsR
      go_wp2
      go_quiet (fail)
      obtain ⟨wq0, hwq0⟩ : ∃ wq0, wq0 = wc.drewN nq := ⟨_, rfl⟩
      rw [← hwq0]
      have HBq1 : Hid (Below n0 W2 wq0) := by show Below n0 W2 wq0; rw [hwq0]; exact below_dn HBq0.out nq
      have HA1 : Hid (wq0.cell? ⟨ga, 0, none⟩ = some (.slice pp m cap)) := by show wq0.cell? _ = _; rw [hwq0]; exact HA0.out
      have HBc1 : Hid (wq0.cell? ⟨gb, 0, none⟩ = some (.int .i64 0)) := by show wq0.cell? _ = _; rw [hwq0]; exact HBc0.out
      have HT1 : Hid (Tr.Tr wq0 pp ns) := by show Tr.Tr wq0 pp ns; rw [hwq0]; exact tr_dn HT0.out nq
      obtain ⟨hcx1, hcy1, -⟩ := HS.out wq0 HBq1.out
      clear hwq0
      go_wp2
      go_quiet (fail)
      obtain ⟨wq1, hwq1⟩ : ∃ wq1, wq1 = wq0.drewN nq := ⟨_, rfl⟩
      rw [← hwq1]
      have HBq2 : Hid (Below n0 W2 wq1) := by show Below n0 W2 wq1; rw [hwq1]; exact below_dn HBq1.out nq
      have HA2 : Hid (wq1.cell? ⟨ga, 0, none⟩ = some (.slice pp m cap)) := by show wq1.cell? _ = _; rw [hwq1]; exact HA1.out
      have HBc2 : Hid (wq1.cell? ⟨gb, 0, none⟩ = some (.int .i64 0)) := by show wq1.cell? _ = _; rw [hwq1]; exact HBc1.out
      have HT2 : Hid (Tr.Tr wq1 pp ns) := by show Tr.Tr wq1 pp ns; rw [hwq1]; exact tr_dn HT1.out nq
      obtain ⟨hcx2, hcy2, -⟩ := HS.out wq1 HBq2.out
      clear hwq1
      have HB := HBq2
      have HA := HA2
      have HBc := HBc2
      have HT := HT2
      go_wp2_with (go_at_call 11; refine (HCB.out _ HB.out).mono ?_)
      rintro e w6 ⟨hb6, ns', m', cap', pp', hm', hm5', rfl, hT', hF', hck', hN', -⟩
      have hw6 : Below n0 W2 w6 := HB.out.trans (hb6.mono (Nat.le_trans hn1 HB.out.size))
      have k1 := pre_cell hb6 (b := ga) (o := 0) (v := .slice pp m cap) HA.out
      have k2 := pre_cell hb6 (b := gb) (o := 0) (v := .int .i64 0) HBc.out
      have la := Lib.lt_of_cell k1
      have lb := Lib.lt_of_cell k2
      have hTs : Tr.Tr w6 pp ns := HT.out.below hb6
      have hx7 : Below w6.heap.size w6 ((w6.alloc (.cells #[.slice pp' m' cap'] 24)).alloc (.cells #[.int .i64 0, .int .i64 0] 26)) := ((Below.refl _ _).alloc (Nat.le_refl _) _).alloc (by simp) _
      have hsame := same0 (hTs.below hx7) (hT'.below hx7) HF.out hF' Hck.out hck' Hm.out hm' (like_same (by rw [HN.out, hN']; exact Hlk.out))
      have HX7 := Lib.hid (hw6.trans (hx7.mono (Nat.le_trans hn1 hw6.size)))
      have G1 := Lib.hid (pre_cell hx7 k1)
      have G2 := Lib.hid (pre_cell hx7 k2)
      have G3 : Hid (((w6.alloc (.cells #[.slice pp' m' cap'] 24)).alloc (.cells #[.int .i64 0, .int .i64 0] 26)).cell? ⟨w6.heap.size + 1, 0, none⟩ = some (.int .i64 0)) := by
        have h := (Blk.new (w6.alloc (.cells #[.slice pp' m' cap'] 24)) 26 #[.int .i64 0, .int .i64 0]).cell 0
        rw [World.size_alloc] at h
        exact h
      clear hb6 hw6 hTs hx7 hT' hF' hck' hN' hm'
      go_wp2_with (go_at_call 20; refine hsame.mono ?_; rintro e w8 ⟨rfl, hb8⟩; have d1 := pre_cell hb8 G2.out; have d2 := pre_cell hb8 G3.out; have d3 := Lib.lt_of_cell d1; have d4 := Lib.lt_of_cell d2)
      (try go_ret)
      have hfin : Below w.heap.size w w8 := HB2.out.trans ((HX7.out.trans (hb8.mono (Nat.le_trans hn1 HX7.out.size))).mono HN0.out)
      exact ⟨rfl, hfin.alloc hfin.size _⟩
    · have hq1 : decide (p < q) = false := decide_eq_false hpq
      have hE1 : ExprOf (((((⟨#[40, 120, 32]⟩ : ByteArray) ++ x) ++ (⟨#[32, 121, 41, 32]⟩ : ByteArray)) ++ y) ++ (⟨#[32, 122]⟩ : ByteArray)).data.toList (.ok sB) := by
        rw [Hx.out, Hy.out, txtL_data]; have h := HBt.out; unfold txtB at h; rw [if_neg hpq] at h; exact h
      have HCB : Hid (∀ W, Below n0 W2 W → Calls Tryz.prog 11 #[.string (((((⟨#[40, 120, 32]⟩ : ByteArray) ++ x) ++ (⟨#[32, 121, 41, 32]⟩ : ByteArray)) ++ y) ++ (⟨#[32, 122]⟩ : ByteArray))] W fun e w' => Below W.heap.size W w' ∧ ∃ (ns : List Nd) (m cap : Nat) (pp : Option Addr), ns.length = m ∧ m ≤ 5000000 ∧ e = .returned (.tuple #[.agg #[.slice pp m cap], .agg #[.int .i64 0, .int .i64 0]]) ∧ Tr.Tr w' pp ns ∧ Fit ns cap ∧ CkR ns 0 0 ∧ ns.map bare = sB.N ∧ Hi W.heap.size pp ns) := fun W hW => expr_ok hE1 HcB.out (HE2.out.below (by rw [← Hn0.out]; exact hW)) hsL
      clear hpq hE1 hsL hsR
      go_wp2
      go_quiet (fail)
      obtain ⟨wq0, hwq0⟩ : ∃ wq0, wq0 = wc.drewN nq := ⟨_, rfl⟩
      rw [← hwq0]
      have HBq1 : Hid (Below n0 W2 wq0) := by show Below n0 W2 wq0; rw [hwq0]; exact below_dn HBq0.out nq
      have HA1 : Hid (wq0.cell? ⟨ga, 0, none⟩ = some (.slice pp m cap)) := by show wq0.cell? _ = _; rw [hwq0]; exact HA0.out
      have HBc1 : Hid (wq0.cell? ⟨gb, 0, none⟩ = some (.int .i64 0)) := by show wq0.cell? _ = _; rw [hwq0]; exact HBc0.out
      have HT1 : Hid (Tr.Tr wq0 pp ns) := by show Tr.Tr wq0 pp ns; rw [hwq0]; exact tr_dn HT0.out nq
      obtain ⟨hcx1, hcy1, -⟩ := HS.out wq0 HBq1.out
      clear hwq0
      have HB := HBq1
      have HA := HA1
      have HBc := HBc1
      have HT := HT1
      go_wp2_with (go_at_call 11; refine (HCB.out _ HB.out).mono ?_)
      rintro e w6 ⟨hb6, ns', m', cap', pp', hm', hm5', rfl, hT', hF', hck', hN', -⟩
      have hw6 : Below n0 W2 w6 := HB.out.trans (hb6.mono (Nat.le_trans hn1 HB.out.size))
      have k1 := pre_cell hb6 (b := ga) (o := 0) (v := .slice pp m cap) HA.out
      have k2 := pre_cell hb6 (b := gb) (o := 0) (v := .int .i64 0) HBc.out
      have la := Lib.lt_of_cell k1
      have lb := Lib.lt_of_cell k2
      have hTs : Tr.Tr w6 pp ns := HT.out.below hb6
      have hx7 : Below w6.heap.size w6 ((w6.alloc (.cells #[.slice pp' m' cap'] 24)).alloc (.cells #[.int .i64 0, .int .i64 0] 26)) := ((Below.refl _ _).alloc (Nat.le_refl _) _).alloc (by simp) _
      have hsame := same0 (hTs.below hx7) (hT'.below hx7) HF.out hF' Hck.out hck' Hm.out hm' (like_same (by rw [HN.out, hN']; exact Hlk.out))
      have HX7 := Lib.hid (hw6.trans (hx7.mono (Nat.le_trans hn1 hw6.size)))
      have G1 := Lib.hid (pre_cell hx7 k1)
      have G2 := Lib.hid (pre_cell hx7 k2)
      have G3 : Hid (((w6.alloc (.cells #[.slice pp' m' cap'] 24)).alloc (.cells #[.int .i64 0, .int .i64 0] 26)).cell? ⟨w6.heap.size + 1, 0, none⟩ = some (.int .i64 0)) := by
        have h := (Blk.new (w6.alloc (.cells #[.slice pp' m' cap'] 24)) 26 #[.int .i64 0, .int .i64 0]).cell 0
        rw [World.size_alloc] at h
        exact h
      clear hb6 hw6 hTs hx7 hT' hF' hck' hN' hm'
      go_wp2_with (go_at_call 20; refine hsame.mono ?_; rintro e w8 ⟨rfl, hb8⟩; have d1 := pre_cell hb8 G2.out; have d2 := pre_cell hb8 G3.out; have d3 := Lib.lt_of_cell d1; have d4 := Lib.lt_of_cell d2)
      (try go_ret)
      have hfin : Below w.heap.size w w8 := HB2.out.trans ((HX7.out.trans (hb8.mono (Nat.le_trans hn1 HX7.out.size))).mono HN0.out)
      exact ⟨rfl, hfin.alloc hfin.size _⟩
end Go.Proofs.YtbjacclfhgnffaaGreatDoor
