/-
  Contract of the program's Text.
-/
import Derived.Test.YtaipdmaiffjeeaaDoorTb
namespace Go.Proofs.YtaipdmaiffjeeaaDoor
open Go.RowKit

theorem joinB_len_first {l : List I4} (h : 0 < l.length) : (joinB (l.take (0 + 1))).length = l[0].t.length := by rw [joinB_take_zero h]
theorem joinB_len_next {l : List I4} {k : Nat} (h : k < l.length) (hk : 0 < k) : (joinB (l.take (k + 1))).length = (joinB (l.take k)).length + 1 + l[k].t.length := by
  rw [joinB_take_succ h hk]; simp; omega

set_option maxHeartbeats 8000000 in
set_option maxRecDepth 100000 in
theorem text_any (l : List I4) (v : Value) (w : World) (hread : ReadsI w v l) (hcap : l.length ≤ 140737488355328) (hlen : ∀ j, (h : j < l.length) → l[j].t.length ≤ 140737488355328) (te : TypeId) (pe : Value) (hv : w.cell? ⟨2, 0, none⟩ = some (.iface te pe)) :
    Calls Tryd.prog 12 #[v] w (TxPost l w) := by
  obtain ⟨p, cap, rfl, hc⟩ := hread
  have HC := Lib.hid hc
  obtain ⟨m, hmm⟩ : ∃ m, m = l.length := ⟨_, rfl⟩
  rw [← hmm] at hcap ⊢
  have Hm := Lib.hid hmm
  have HL := Lib.hid hlen
  clear hc hlen
  by_cases h800 : 800 < m
  · clear hmm
    go_enter Tryd.func12, Tryd.ntmps12
    go_wp2
    refine bodyPost_ret (v := .tuple #[.string ⟨#[]⟩, .agg #[.int .i64 2, .int .i64 0]]) (by simp [results, Tryd.results12, go_sem]) rfl ?_
    exact ⟨(Below.refl _ _).alloc (Nat.le_refl _) _, [], _, _, rfl, Or.inl ⟨by have := Hm.out; omega, rfl, rfl, rfl⟩⟩
  · have hread2 : Hid (ReadsI w (.slice p m cap) l) := ⟨p, cap, by rw [Hm.out], HC.out⟩
    clear hmm
    go_enter Tryd.func12, Tryd.ntmps12
    go_wp2
    go_loopw [4, 14] (fun vs vi wr => ∃ k : Nat, k ≤ m ∧ vi = .int .i64 k ∧ vs = .int .i64 ((joinB (l.take k)).length : Nat) ∧ (joinB (l.take k)).length ≤ k * 140737488355329 ∧ Below w.heap.size w wr ∧ wr.heap[w.heap.size]? = some (.cells #[.int .i64 0, .int .i64 0] 24 (0, 0)) ∧ Hid (∀ j, (h : j < l.length) → j < k → checkC l[j] = 0)) (fun _ vi _ => m - (intOf vi).toNat)
    case atStart => exact ⟨0, Nat.zero_le _, rfl, rfl, Nat.zero_le _, (Below.refl _ _).alloc (Nat.le_refl _) _, heap_alloc_new w _, fun j _ h => by omega⟩
    case round =>
      obtain ⟨k, hk, rfl, rfl, hJ, hb, hR, HK⟩ := hrel
      have r0 : wr.cell? ⟨w.heap.size, 0, none⟩ = some (.int .i64 0) := by simp [World.cell?, hR]
      have r1 : wr.cell? ⟨w.heap.size, 1, none⟩ = some (.int .i64 0) := by simp [World.cell?, hR]
      have f0 : wr.frozen? ⟨w.heap.size, 0, none⟩ = false := by simp [World.frozen?, hR]
      have f1 : wr.frozen? ⟨w.heap.size, 1, none⟩ = false := by simp [World.frozen?, hR]
      have lR := lt_of_block hR
      have HB := Lib.hid hb
      have HR := Lib.hid hR
      clear hb hR
      by_cases hlt : k < m
      · have hl : k < l.length := by have := Hm.out; omega
        obtain ⟨b, o, rfl, hbl, hcell⟩ := HC.out (by omega)
        obtain ⟨q0, q1, q2, q3⟩ := rowI_get l k hl
        have c0 := (HB.out.cell (p := ⟨b, o + k * 4, none⟩) hbl).trans (hcell _ _ q0)
        have c1 := (HB.out.cell (p := ⟨b, o + (k * 4 + 1), none⟩) hbl).trans (hcell _ _ q1)
        have c2 := (HB.out.cell (p := ⟨b, o + (k * 4 + 2), none⟩) hbl).trans (hcell _ _ q2)
        have c3 := (HB.out.cell (p := ⟨b, o + (k * 4 + 3), none⟩) hbl).trans (hcell _ _ q3)
        rw [← Nat.add_assoc] at c1 c2 c3
        have hlk := HL.out k hl
        have hvr : wr.cell? ⟨2, 0, none⟩ = some (.iface te pe) := (HB.out.cell (p := ⟨2, 0, none⟩) (Lib.lt_of_cell hv)).trans hv
        have hCk := check_any l[k] (wr.alloc (.cells #[.int .i64 l[k].k, .string (bstr l[k].t), .int .i64 l[k].v, .int .i64 l[k].a] 36)) hlk te pe (hv_alloc hvr _)
        have hbad : checkC l[k] ≠ 0 → Hid (TxR l [] (checkC l[k]) k) := fun h => Or.inr (Or.inl ⟨by have := Hm.out; omega, k, hl, HK.out, h, rfl, rfl, rfl⟩)
        have hgood : checkC l[k] = 0 → Hid (∀ j, (h : j < l.length) → j < k + 1 → checkC l[j] = 0) := fun h => fun j hj hjk => by
          by_cases e : j = k
          · subst e; exact h
          · exact HK.out j hj (by omega)
        have hfi : k = 0 → (joinB (l.take (k + 1))).length = l[k].t.length := fun e => by subst e; exact joinB_len_first hl
        have hnx : 0 < k → (joinB (l.take (k + 1))).length = (joinB (l.take k)).length + 1 + l[k].t.length := fun e => joinB_len_next hl e
        have hj0 : k = 0 → (joinB (l.take k)).length = 0 := fun e => by subst e; rfl
        have hsx : (bstr l[k].t).size = l[k].t.length := by rw [Lib.size_eq]; rfl
        clear q0 q1 q2 q3 hcell hvr HK
        generalize l[k] = t at *
        rw [← hsx] at hfi hnx hlk
        generalize bstr t.t = x at *
        generalize (joinB (l.take k)).length = J at *
        obtain ⟨J', hJd⟩ : ∃ J', J' = (joinB (l.take (k + 1))).length := ⟨_, rfl⟩
        rw [← hJd] at hfi hnx
        have HJd := Lib.hid hJd
        clear hJd
        clear hsx
        cases hcz : decide (checkC t = 0) with
        | false =>
          have hne : checkC t ≠ 0 := of_decide_eq_false hcz
          have hT := hbad hne
          have e1 : (checkC t != 0) = true := by simpa using hne
          clear hbad hgood hfi hnx hj0 hcz
          generalize checkC t = c at *
          go_wp2_with (go_at_call 20; refine hCk.mono ?_)
          rintro e w3 ⟨rfl, hb3⟩
          have hR3 := (hb3.block w.heap.size (by simp; omega)).trans ((Below.heap_alloc _ _ _ lR).trans HR.out)
          have hB3 : Below w.heap.size w w3 := (HB.out.alloc (Nat.le_of_lt lR) _).trans (hb3.mono (by simp; omega))
          have s0 : w3.cell? ⟨w.heap.size, 0, none⟩ = some (.int .i64 0) := by simp [World.cell?, hR3]
          have s1 : w3.cell? ⟨w.heap.size, 1, none⟩ = some (.int .i64 0) := by simp [World.cell?, hR3]
          have g0 : w3.frozen? ⟨w.heap.size, 0, none⟩ = false := by simp [World.frozen?, hR3]
          have g1 : w3.frozen? ⟨w.heap.size, 1, none⟩ = false := by simp [World.frozen?, hR3]
          have lR3 := lt_of_block hR3
          have HB3 := Lib.hid hB3
          clear hb3 hR3 hB3 hCk hne
          go_wp2
          refine bodyPost_ret (v := .tuple #[.string ⟨#[]⟩, .agg #[.int .i64 c, .int .i64 k]]) (by simp [results, Tryd.results12, go_sem, s0, s1]) rfl ?_
          exact ⟨(HB3.out.setCell (p := ⟨w.heap.size, 0, none⟩) (Nat.le_refl _) _).setCell (p := ⟨w.heap.size, 1, none⟩) (Nat.le_refl _) _, [], _, _, rfl, hT.out⟩
        | true =>
          have hez : checkC t = 0 := of_decide_eq_true hcz
          have HN := hgood hez
          rw [hez] at hCk
          clear hbad hgood hcz hez
          go_wp2_with (go_at_call 20; refine hCk.mono ?_)
          rintro e w3 ⟨rfl, hb3⟩
          have hR3 := (hb3.block w.heap.size (by simp; omega)).trans ((Below.heap_alloc _ _ _ lR).trans HR.out)
          have hB3 : Below w.heap.size w w3 := (HB.out.alloc (Nat.le_of_lt lR) _).trans (hb3.mono (by simp; omega))
          obtain ⟨d0, d1, d2, d3, l3⟩ := box_cells (t := t) hb3
          have HR3 := Lib.hid hR3
          have HB3 := Lib.hid hB3
          clear hb3 hR3 hB3 hCk
          by_cases hk0 : k = 0
          · replace hfi := hfi hk0
            replace hj0 := hj0 hk0
            have hkn : ¬ 0 < k := by omega
            have HJ' := Lib.hid hfi
            have HJ0 := Lib.hid hj0
            clear hnx hfi hj0
            go_wp2
            go_roundw
            case rel =>
              have h1 := HJ'.out
              have h2 := HJ0.out
              exact ⟨k + 1, by omega, by go_num, by rw [← HJd.out, h1, h2]; simp, by rw [← HJd.out]; omega, HB3.out, HR3.out, HN⟩
            case measure => simp [intOf]; omega
          · replace hnx := hnx (by omega)
            have hkp : 0 < k := by omega
            have HJ' := Lib.hid hnx
            clear hfi hnx hj0 hk0
            go_wp2
            go_roundw
            case rel =>
              have h1 := HJ'.out
              exact ⟨k + 1, by omega, by go_num, by rw [← HJd.out, h1]; go_num, by rw [← HJd.out]; omega, HB3.out, HR3.out, HN⟩
            case measure => simp [intOf]; omega
      · have hkm : l.take k = l := List.take_of_length_le (by have := Hm.out; omega)
        have hall : Hid (∀ j, (h : j < l.length) → checkC l[j] = 0) := fun j hj => HK.out j hj (by have := Hm.out; omega)
        rw [hkm] at hJ ⊢
        clear HK hkm
        by_cases h2000 : 2000 < (joinB l).length
        · have HT : Hid (TxR l [] 10 0) := Or.inr (Or.inr ⟨by have := Hm.out; omega, hall.out, Or.inl ⟨h2000, rfl, rfl, rfl⟩⟩)
          generalize (joinB l).length = J at *
          go_wp2
          refine bodyPost_ret (v := .tuple #[.string ⟨#[]⟩, .agg #[.int .i64 10, .int .i64 0]]) (by simp [results, Tryd.results12, go_sem, r0, r1]) rfl ?_
          exact ⟨(HB.out.setCell (p := ⟨w.heap.size, 0, none⟩) (Nat.le_refl _) _).setCell (p := ⟨w.heap.size, 1, none⟩) (Nat.le_refl _) _, [], _, _, rfl, HT.out⟩
        · have HT : Hid (TxR l (joinB l) 0 0) := Or.inr (Or.inr ⟨by have := Hm.out; omega, hall.out, Or.inr ⟨by omega, rfl, rfl, rfl⟩⟩)
          have hrd : ReadsI wr (.slice p m cap) l := by
            obtain ⟨p', cap', e, h⟩ := hread2.out
            cases e
            refine ⟨p, cap, by rw [Hm.out], fun h0 => ?_⟩
            obtain ⟨b, o, e, hbl, hcl⟩ := h h0
            exact ⟨b, o, e, Nat.lt_of_lt_of_le hbl HB.out.size, fun j u hu => (HB.out.cell (p := ⟨b, o + j, none⟩) hbl).trans (hcl j u hu)⟩
          have hJn := join_any l (.slice p m cap) (joinB l).length wr (by omega) hrd (by have := Hm.out; omega) (by omega)
          generalize (joinB l).length = J at *
          clear hrd
          go_wp2_with (go_at_call 21; refine hJn.mono ?_)
          rintro e w3 ⟨rfl, hb3⟩
          have hR3 := (hb3.block w.heap.size lR).trans HR.out
          have hB3 : Below w.heap.size w w3 := HB.out.trans (hb3.mono (Nat.le_of_lt lR))
          have s0 : w3.cell? ⟨w.heap.size, 0, none⟩ = some (.int .i64 0) := by simp [World.cell?, hR3]
          have s1 : w3.cell? ⟨w.heap.size, 1, none⟩ = some (.int .i64 0) := by simp [World.cell?, hR3]
          have g0 : w3.frozen? ⟨w.heap.size, 0, none⟩ = false := by simp [World.frozen?, hR3]
          have g1 : w3.frozen? ⟨w.heap.size, 1, none⟩ = false := by simp [World.frozen?, hR3]
          have lR3 := lt_of_block hR3
          have HB3 := Lib.hid hB3
          clear hb3 hR3 hB3 hJn
          go_wp2
          refine bodyPost_ret (v := .tuple #[.string (bstr (joinB l)), .agg #[.int .i64 0, .int .i64 0]]) (by simp [results, Tryd.results12, go_sem, s0, s1]) rfl ?_
          exact ⟨(HB3.out.setCell (p := ⟨w.heap.size, 0, none⟩) (Nat.le_refl _) _).setCell (p := ⟨w.heap.size, 1, none⟩) (Nat.le_refl _) _, joinB l, _, _, rfl, HT.out⟩
end Go.Proofs.YtaipdmaiffjeeaaDoor
