/-
  Contracts of join and of the program's Text.
-/
import Derived.Test.YtaipdmaiffjeeaaDoorTa
import Derived.Test.YtaipdmaiffjeeaaDoorBuild
import Derived.Lib.OthersKept
import Derived.Lib.FrozenHead
namespace Go.Proofs.YtaipdmaiffjeeaaDoor
open Go.RowKit

theorem pieces_take (l : List I4) (k : Nat) : (pieces (l.take k)).length ≤ (pieces l).length := by
  have h : pieces l = pieces (l.take k) ++ pieces (l.drop k) := by
    unfold pieces; rw [← List.flatMap_append, List.take_append_drop]
  rw [h, List.length_append]; omega
theorem joinB_take (l : List I4) (k : Nat) : (joinB (l.take k)).length ≤ (joinB l).length := by
  unfold joinB
  have := pieces_take l k
  rw [List.length_drop, List.length_drop]; omega
theorem joinB_part {l : List I4} {k : Nat} (h : k < l.length) : (joinB (l.take k)).length + l[k].t.length ≤ (joinB l).length := by
  have h1 := joinB_take l (k + 1)
  by_cases hk : 0 < k
  · rw [joinB_take_succ h hk] at h1; simp at h1; omega
  · obtain rfl : k = 0 := by omega
    rw [joinB_take_zero h] at h1
    have h0 : (joinB (l.take 0)).length = 0 := rfl
    omega
theorem cells_first {l : List I4} (h : 0 < l.length) : Lib.byteCells (joinB (l.take 0)) ++ Lib.strCells (bstr l[0].t) = Lib.byteCells (joinB (l.take (0 + 1))) := by
  rw [joinB_take_zero h]; rfl
theorem cells_next {l : List I4} {k : Nat} (h : k < l.length) (hk : 0 < k) : (Lib.byteCells (joinB (l.take k)) ++ [.int .u8 32]) ++ Lib.strCells (bstr l[k].t) = Lib.byteCells (joinB (l.take (k + 1))) := by
  rw [joinB_take_succ h hk, Lib.byteCells_append, List.append_assoc]; rfl

set_option maxHeartbeats 4000000 in
set_option maxRecDepth 100000 in
theorem join_any (l : List I4) (v : Value) (n : Nat) (w : World) (hn : n ≤ 2000) (hread : ReadsI w v l) (hm : l.length ≤ 800) (hlen : (joinB l).length ≤ 2000) :
    Calls Tryd.prog 21 #[v, .int .i64 n] w fun e w' => e = .returned (.string (bstr (joinB l))) ∧ Below w.heap.size w w' := by
  obtain ⟨p, cap, rfl, hc⟩ := hread
  have HC := Lib.hid hc
  obtain ⟨m, hmm⟩ : ∃ m, m = l.length := ⟨_, rfl⟩
  rw [← hmm] at hm ⊢
  have Hm := Lib.hid hmm
  clear hc hmm
  go_enter Tryd.func21, Tryd.ntmps21
  go_wp2_with (go_at_call 35; refine (Tryd.Builder_Grow_fresh w.heap.size w.heap.size n _ (Nat.le_refl _) (heap_alloc_new w _) (by simp) (by omega)).mono ?_)
  rintro e w1 ⟨rfl, hb1, hbel⟩
  have hI : Hid (Lib.IsBuilderF 62 5 w.heap.size w.heap.size (Lib.byteCells (joinB (l.take 0))) w1) := Lib.IsBuilderF.of (Or.inr hb1)
  have hbw : Hid (Below w.heap.size w w1) := ((Below.refl _ _).alloc (Nat.le_refl _) _).trans hbel
  clear hb1 hbel
  go_wp2
  go_loopw [12] (fun i wr => ∃ k : Nat, k ≤ m ∧ i = .int .i64 k ∧ Lib.IsBuilderF 62 5 w.heap.size w.heap.size (Lib.byteCells (joinB (l.take k))) wr ∧ Below w.heap.size w wr) (fun i _ => m - (intOf i).toNat)
  case atStart => exact ⟨0, Nat.zero_le _, rfl, hI.out, hbw.out⟩
  case round =>
    obtain ⟨k, hk, rfl, hIk, hbk⟩ := hrel
    have HI := Lib.hid hIk
    have HB := Lib.hid hbk
    have lB : w.heap.size < wr.heap.size := by
      rcases hIk with ⟨_, v, h, _⟩ | ⟨_, v, h, _⟩ <;> exact lt_of_block h
    clear hIk hbk hI hbw
    by_cases hlt : k < m
    · have hl : k < l.length := by have := Hm.out; omega
      obtain ⟨b, o, rfl, hbl, hcell⟩ := HC.out (by omega)
      obtain ⟨r0, r1, r2, r3⟩ := rowI_get l k hl
      have c0 := (HB.out.cell (p := ⟨b, o + k * 4, none⟩) hbl).trans (hcell _ _ r0)
      have c1 := (HB.out.cell (p := ⟨b, o + (k * 4 + 1), none⟩) hbl).trans (hcell _ _ r1)
      have c2 := (HB.out.cell (p := ⟨b, o + (k * 4 + 2), none⟩) hbl).trans (hcell _ _ r2)
      have c3 := (HB.out.cell (p := ⟨b, o + (k * 4 + 3), none⟩) hbl).trans (hcell _ _ r3)
      rw [← Nat.add_assoc] at c1 c2 c3
      have hpart := joinB_part hl
      have hf : k = 0 → Hid (Lib.byteCells (joinB (l.take k)) ++ Lib.strCells (bstr l[k].t) = Lib.byteCells (joinB (l.take (k + 1)))) := fun e => by subst e; exact cells_first hl
      have hx : 0 < k → Hid ((Lib.byteCells (joinB (l.take k)) ++ [.int .u8 32]) ++ Lib.strCells (bstr l[k].t) = Lib.byteCells (joinB (l.take (k + 1)))) := fun e => cells_next hl e
      have hsx : (bstr l[k].t).size = l[k].t.length := by rw [Lib.size_eq]; rfl
      have hbl2 : (Lib.byteCells (joinB (l.take k))).length + (bstr l[k].t).size ≤ 2000 := by rw [Lib.byteCells_length, hsx]; omega
      clear r0 r1 r2 r3 hcell hpart hsx
      generalize l[k] = t at *
      generalize bstr t.t = x at *
      generalize Lib.byteCells (joinB (l.take k)) = bs at *
      obtain ⟨bs', hbs'⟩ : ∃ b, b = Lib.byteCells (joinB (l.take (k + 1))) := ⟨_, rfl⟩
      rw [← hbs'] at hf hx
      have Hbs := Lib.hid hbs'
      clear hbs'
      by_cases hk0 : k = 0
      · replace hf := hf hk0
        have hkn : ¬ 0 < k := by omega
        clear hx
        subst hk0
        rw [Nat.zero_mul, Nat.add_zero] at c0 c1 c2 c3
        go_wp2_with (go_at_call 37; refine (Tryd.Builder_WriteString_k w.heap.size w.heap.size bs x _ (HI.out.alloc _) (by omega) (by simp; omega)).mono ?_)
        first | rintro e w3 rfl hb3 hbel3 _ | rintro e w3 ⟨rfl, hb3, hbel3, _⟩
        have HR : Hid (Lib.IsBuilderF 62 5 w.heap.size w.heap.size bs' w3 ∧ Below w.heap.size w w3) := by
          refine ⟨?_, (HB.out.alloc (Nat.le_of_lt lB) _).trans hbel3⟩
          rw [← hf.out]; exact Or.inr hb3
        clear hb3 hbel3 hf
        go_wp2
        go_roundw
        case rel => exact ⟨0 + 1, by omega, by go_num, by rw [← Hbs.out]; exact HR.out.1, HR.out.2⟩
        case measure => simp [intOf]; omega
      · replace hx := hx (by omega)
        have hkp : 0 < k := by omega
        clear hf hk0
        go_wp2_with (go_at_call 36; refine (Tryd.Builder_WriteByte_k w.heap.size w.heap.size bs 32 _ (HI.out.alloc _) (by omega) (by simp; omega)).mono ?_)
        first | rintro e w3 rfl hb3 hbel3 hoth | rintro e w3 ⟨rfl, hb3, hbel3, hoth⟩
        have ht := hoth wr.heap.size _ (heap_alloc_new wr _) (by simp; omega) (fun c fz e => by simp at e)
        have d0 : w3.cell? ⟨wr.heap.size, 0, none⟩ = some (.int .i64 t.k) := by simp [World.cell?, ht]
        have d1 : w3.cell? ⟨wr.heap.size, 1, none⟩ = some (.string x) := by simp [World.cell?, ht]
        have hb4 := (HB.out.alloc (Nat.le_of_lt lB) _).trans hbel3
        have HB3 := Lib.hid hb3
        have HB4 := Lib.hid hb4
        have l3 : w.heap.size ≤ w3.heap.size := hb4.size
        clear hb3 hbel3 hoth ht hb4
        go_wp2_with (go_at_call 37; refine (Tryd.Builder_WriteString_k w.heap.size w.heap.size (bs ++ [.int .u8 32]) x _ (Or.inr HB3.out) (by simp; omega) l3).mono ?_)
        first | rintro e w5 rfl hb5 hbel5 _ | rintro e w5 ⟨rfl, hb5, hbel5, _⟩
        have HR : Hid (Lib.IsBuilderF 62 5 w.heap.size w.heap.size bs' w5 ∧ Below w.heap.size w w5) := by
          refine ⟨?_, HB4.out.trans hbel5⟩
          rw [← hx.out]; exact Or.inr hb5
        clear hb5 hbel5 hx
        go_wp2
        go_roundw
        case rel => exact ⟨k + 1, by omega, by go_num, by rw [← Hbs.out]; exact HR.out.1, HR.out.2⟩
        case measure => simp [intOf]; omega
    · have hkm : l.take k = l := List.take_of_length_le (by have := Hm.out; omega)
      have HI2 : Hid (Lib.IsBuilderF 62 5 w.heap.size w.heap.size (Lib.byteCells (joinB l)) wr) := by have := HI.out; rw [hkm] at this; exact this
      clear HI hkm
      go_wp2_with (go_at_call 38; refine (Tryd.Builder_String_any_k w.heap.size w.heap.size (joinB l) _ HI2.out (Nat.le_of_lt lB)).mono ?_; rintro e w3 ⟨rfl, _, hbel3, _⟩)
      go_ret
      exact ⟨rfl, HB.out.trans hbel3⟩
end Go.Proofs.YtaipdmaiffjeeaaDoor
