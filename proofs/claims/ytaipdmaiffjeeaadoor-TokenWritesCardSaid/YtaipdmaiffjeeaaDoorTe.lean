/-
  Contract of the document's Text: it gives what the plain relation tells.
-/
import Derived.Test.YtaipdmaiffjeeaaDoorTd
namespace Go.Proofs.YtaipdmaiffjeeaaDoor
open Go.RowKit

theorem bne_of_ne {a b : Int} (h : a ≠ b) : (a != b) = true := by simpa using h
theorem bne_of {a b : Int} (h : a = b) : (a != b) = false := by simpa using h
theorem below_res2 {B : Nat} {a w2 : World} (h : Below B a w2) (hB : B ≤ w2.heap.size) (x y : Value) (o o' : Obj) : Below B a ((((w2.setCell ⟨B, 0, none⟩ x).setCell ⟨B, 1, none⟩ y).alloc o).alloc o') :=
  (below_res h hB x y o).alloc (by simp [World.setCell]; omega) o'

set_option maxHeartbeats 16000000 in
set_option maxRecDepth 100000 in
theorem rtext_any (l : List I4) (v : Value) (w : World) (hread : ReadsI w v l) (hcap : l.length ≤ 140737488355328) (hlen : ∀ j, (h : j < l.length) → l[j].t.length ≤ 140737488355328) :
    Calls Tryd.prog 13 #[v] w (TxPost l w) := by
  obtain ⟨p, cap, rfl, hc⟩ := hread
  have HC := Lib.hid hc
  obtain ⟨m, hmm⟩ : ∃ m, m = l.length := ⟨_, rfl⟩
  rw [← hmm] at hcap ⊢
  have Hm := Lib.hid hmm
  have HL := Lib.hid hlen
  clear hc hlen hmm
  by_cases h800 : 800 < m
  · go_enter Tryd.func13, Tryd.ntmps13
    go_wp2_with (go_at_call 18; refine (fault_any _ _ _).mono ?_; rintro e w' ⟨rfl, rfl⟩)
    refine bodyPost_ret (v := .tuple #[.string ⟨#[]⟩, .agg #[.int .i64 2, .int .i64 0]]) (by simp [results, Tryd.results13, go_sem]) rfl ?_
    exact ⟨((Below.refl _ _).alloc (Nat.le_refl _) _).alloc (by simp) _, [], _, _, rfl, Or.inl ⟨by have := Hm.out; omega, rfl, rfl, rfl⟩⟩
  · go_enter Tryd.func13, Tryd.ntmps13
    go_wp2
    go_loopw [4, 5] (fun vs vi wr => ∃ (k : Nat) (S : ByteArray), k ≤ m ∧ vi = .int .i64 k ∧ vs = .string S ∧ S.size ≤ k * 140737488355329 ∧ Below w.heap.size w wr ∧ wr.heap[w.heap.size]? = some (.cells #[.int .i64 0, .int .i64 0] 24 (0, 0)) ∧ Hid (S = bstr (joinB (l.take k))) ∧ Hid (∀ j, (h : j < l.length) → j < k → checkC l[j] = 0)) (fun _ vi _ => m - (intOf vi).toNat)
    case atStart => exact ⟨0, ⟨#[]⟩, Nat.zero_le _, rfl, rfl, Nat.zero_le _, (Below.refl _ _).alloc (Nat.le_refl _) _, heap_alloc_new w _, rfl, fun j _ h => by omega⟩
    case round =>
      obtain ⟨k, S, hk, rfl, rfl, hJ, hb, hR, HS, HK⟩ := hrel
      have r0 : wr.cell? ⟨w.heap.size, 0, none⟩ = some (.int .i64 0) := by simp [World.cell?, hR]
      have r1 : wr.cell? ⟨w.heap.size, 1, none⟩ = some (.int .i64 0) := by simp [World.cell?, hR]
      have f0 : wr.frozen? ⟨w.heap.size, 0, none⟩ = false := by simp [World.frozen?, hR]
      have f1 : wr.frozen? ⟨w.heap.size, 1, none⟩ = false := by simp [World.frozen?, hR]
      have lR := lt_of_block hR
      have HB := Lib.hid hb
      have HR := Lib.hid hR
      clear hb hR
      by_cases hlt : k < m
      · have hl : k < l.length := by have := Hm.out; omega
        obtain ⟨b, o, rfl, hbl, hcell⟩ := HC.out (by omega)
        obtain ⟨q0, q1, q2, q3⟩ := rowI_get l k hl
        have c0 := (HB.out.cell (p := ⟨b, o + k * 4, none⟩) hbl).trans (hcell _ _ q0)
        have c1 := (HB.out.cell (p := ⟨b, o + (k * 4 + 1), none⟩) hbl).trans (hcell _ _ q1)
        have c2 := (HB.out.cell (p := ⟨b, o + (k * 4 + 2), none⟩) hbl).trans (hcell _ _ q2)
        have c3 := (HB.out.cell (p := ⟨b, o + (k * 4 + 3), none⟩) hbl).trans (hcell _ _ q3)
        rw [← Nat.add_assoc] at c1 c2 c3
        have hlk := HL.out k hl
        have hbad : ∀ c : Int, c ≠ 0 → checkC l[k] = c → Hid (TxR l [] c k) := fun c hc h => Or.inr (Or.inl ⟨by have := Hm.out; omega, k, hl, HK.out, by rw [h]; exact hc, h.symm, rfl, rfl⟩)
        have hgood : checkC l[k] = 0 → Hid (∀ j, (h : j < l.length) → j < k + 1 → checkC l[j] = 0) := fun h => fun j hj hjk => by
          by_cases e : j = k
          · subst e; exact h
          · exact HK.out j hj (by omega)
        have hfi : k = 0 → Hid (S ++ bstr l[k].t = bstr (joinB (l.take (k + 1)))) := fun e => by
          show _ = _
          rw [HS.out]; subst e; exact bstr_first hl
        have hnx : 0 < k → Hid ((S ++ ⟨#[32]⟩) ++ bstr l[k].t = bstr (joinB (l.take (k + 1)))) := fun e => by
          show _ = _
          rw [HS.out]; exact bstr_next hl e
        have hsx := bstr_size l[k].t
        have hw := check_ways l[k]
        have hN : 0 < (bstr l[k].t).size → ∀ w : World, _ := fun h0 w => next_any (bstr l[k].t) w (by rw [hsx]; exact hlk) h0
        rw [bstr_data] at hN
        have HBad := Lib.hid hbad
        have HGood := Lib.hid hgood
        clear q0 q1 q2 q3 hcell hbad hgood HK HS
        generalize l[k] = t at *
        rw [← hsx] at hw hlk
        have Hsx := Lib.hid hsx
        clear hsx
        generalize bstr t.t = x at *
        rcases hw with ⟨hkind, hck⟩ | ⟨⟨hk1, hk4⟩, hw⟩
        · -- the kind is unknown
          have hT := HBad.out 4 (by decide) hck
          have hI := fun w => rin_any t.k 1 4 w
          rw [decide_eq_false hkind] at hI
          clear hck hkind hfi hnx hN
          go_wp2_with (first | (go_at_call 22; refine (hI _).mono ?_; rintro e w' ⟨rfl, rfl⟩) | (go_at_call 18; refine (fault_any _ _ _).mono ?_; rintro e w' ⟨rfl, rfl⟩))
          refine bodyPost_ret (v := .tuple #[.string ⟨#[]⟩, .agg #[.int .i64 4, .int .i64 k]]) (by simp [results, Tryd.results13, go_sem, r0, r1, lR]) rfl ?_
          exact ⟨below_res2 HB.out (Nat.le_of_lt lR) _ _ _ _, [], _, _, rfl, hT.out⟩
        · have hI := fun w => rin_any t.k 1 4 w
          rw [decide_eq_true ⟨hk1, hk4⟩] at hI
          rcases hw with ⟨h0, hck⟩ | ⟨h0, ha, hck⟩ | ⟨h0, ha, hw⟩
          · have hT := HBad.out 5 (by decide) hck
            clear hck hfi hnx hN
            go_wp2_with (first | (go_at_call 22; refine (hI _).mono ?_; rintro e w' ⟨rfl, rfl⟩) | (go_at_call 18; refine (fault_any _ _ _).mono ?_; rintro e w' ⟨rfl, rfl⟩))
            refine bodyPost_ret (v := .tuple #[.string ⟨#[]⟩, .agg #[.int .i64 5, .int .i64 k]]) (by simp [results, Tryd.results13, go_sem, r0, r1, lR]) rfl ?_
            exact ⟨below_res2 HB.out (Nat.le_of_lt lR) _ _ _ _, [], _, _, rfl, hT.out⟩
          · have hT := HBad.out 5 (by decide) hck
            have h01 : ((x.size : Int) == 0) = false := beq_of_ne (by omega)
            clear hck hfi hnx hN
            go_wp2_with (first | (go_at_call 22; refine (hI _).mono ?_; rintro e w' ⟨rfl, rfl⟩) | (go_at_call 18; refine (fault_any _ _ _).mono ?_; rintro e w' ⟨rfl, rfl⟩))
            refine bodyPost_ret (v := .tuple #[.string ⟨#[]⟩, .agg #[.int .i64 5, .int .i64 k]]) (by simp [results, Tryd.results13, go_sem, r0, r1, lR]) rfl ?_
            exact ⟨below_res2 HB.out (Nat.le_of_lt lR) _ _ _ _, [], _, _, rfl, hT.out⟩
          · have h01 : ((x.size : Int) == 0) = false := beq_of_ne (by omega)
            have hpos : 0 < x.size := by omega
            have hN2 := fun w => hN hpos w
            clear hN
            go_wp2_with (first | (go_at_call 22; refine (hI _).mono ?_; rintro e w' ⟨rfl, rfl⟩) | (go_at_call 19; refine (hN2 _).mono ?_))
            rintro e w3 ⟨hb3, hcase⟩
            have hR3 := (hb3.block w.heap.size (by simp; omega)).trans ((Below.heap_alloc _ _ _ lR).trans HR.out)
            have hB3 : Below w.heap.size w w3 := (HB.out.alloc (Nat.le_of_lt lR) _).trans (hb3.mono (by simp; omega))
            have s0 : w3.cell? ⟨w.heap.size, 0, none⟩ = some (.int .i64 0) := by simp [World.cell?, hR3]
            have s1 : w3.cell? ⟨w.heap.size, 1, none⟩ = some (.int .i64 0) := by simp [World.cell?, hR3]
            have g0 : w3.frozen? ⟨w.heap.size, 0, none⟩ = false := by simp [World.frozen?, hR3]
            have g1 : w3.frozen? ⟨w.heap.size, 1, none⟩ = false := by simp [World.frozen?, hR3]
            have lR3 := lt_of_block hR3
            obtain ⟨d0, d1, d2, d3, l3⟩ := box_cells (t := t) hb3
            have HR3 := Lib.hid hR3
            have HB3 := Lib.hid hB3
            clear hb3 hR3 hB3 hN2 c0 c1 c2 c3
            rcases hcase with ⟨kd, n, v', hf, rfl⟩ | ⟨c, a, v', n, ec, tt, hf, rfl, hec, _⟩
            · rcases hw with ⟨c', hf', _⟩ | ⟨kd', n', v'', hf', hw⟩
              · rw [hf] at hf'; cases hf'
              · rw [hf] at hf'
                cases hf'
                have Hf := Lib.hid hf
                clear hf
                obtain ⟨y, hy⟩ : ∃ y, y = bstr (t.t.take n) := ⟨_, rfl⟩
                rw [← hy]
                clear hy
                rcases hw with ⟨z1, hck⟩ | ⟨z1, z2, hck⟩ | ⟨z1, z2, z3, hck⟩ | ⟨z1, z2, z3, hck⟩
                · have hT := HBad.out 5 (by decide) hck
                  have y1 : ((n : Int) != (x.size : Int)) = true := bne_of_ne (by omega)
                  clear hck hfi hnx z1
                  go_wp2_with (go_at_call 18; refine (fault_any _ _ _).mono ?_; rintro e w' ⟨rfl, rfl⟩)
                  refine bodyPost_ret (v := .tuple #[.string ⟨#[]⟩, .agg #[.int .i64 5, .int .i64 k]]) (by simp [results, Tryd.results13, go_sem, s0, s1, lR3]) rfl ?_
                  exact ⟨below_res2 HB3.out (Nat.le_of_lt lR3) _ _ _ _, [], _, _, rfl, hT.out⟩
                · have hT := HBad.out 5 (by decide) hck
                  have y1 : ((n : Int) != (x.size : Int)) = false := bne_of (by omega)
                  have y2 : ((kd : Int) != t.k) = true := by simpa using z2
                  clear hck hfi hnx z1 z2
                  go_wp2_with (go_at_call 18; refine (fault_any _ _ _).mono ?_; rintro e w' ⟨rfl, rfl⟩)
                  refine bodyPost_ret (v := .tuple #[.string ⟨#[]⟩, .agg #[.int .i64 5, .int .i64 k]]) (by simp [results, Tryd.results13, go_sem, s0, s1, lR3]) rfl ?_
                  exact ⟨below_res2 HB3.out (Nat.le_of_lt lR3) _ _ _ _, [], _, _, rfl, hT.out⟩
                · have hT := HBad.out 5 (by decide) hck
                  have y1 : ((n : Int) != (x.size : Int)) = false := bne_of (by omega)
                  have y2 : ((kd : Int) != t.k) = false := by simpa using z2
                  have y3 : ((v' : Int) != t.v) = true := by simpa using z3
                  clear hck hfi hnx z1 z2 z3
                  go_wp2_with (go_at_call 18; refine (fault_any _ _ _).mono ?_; rintro e w' ⟨rfl, rfl⟩)
                  refine bodyPost_ret (v := .tuple #[.string ⟨#[]⟩, .agg #[.int .i64 5, .int .i64 k]]) (by simp [results, Tryd.results13, go_sem, s0, s1, lR3]) rfl ?_
                  exact ⟨below_res2 HB3.out (Nat.le_of_lt lR3) _ _ _ _, [], _, _, rfl, hT.out⟩
                · have HG := HGood.out hck
                  have y1 : ((n : Int) != (x.size : Int)) = false := bne_of (by omega)
                  have y2 : ((kd : Int) != t.k) = false := by simpa using z2
                  have y3 : ((v' : Int) != t.v) = false := by simpa using z3
                  clear hck z1 z2 z3
                  by_cases hk0 : k = 0
                  · replace hfi := hfi hk0
                    have hkn : ¬ 0 < k := by omega
                    have hss : S.size + x.size ≤ 9223372036854775807 := by omega
                    clear hnx
                    go_wp2
                    go_roundw
                    case rel => exact ⟨k + 1, S ++ x, by omega, by go_num, rfl, by rw [ByteArray.size_append]; omega, HB3.out.alloc (Nat.le_of_lt lR3) _, (Below.heap_alloc _ _ _ lR3).trans HR3.out, hfi, HG⟩
                    case measure => simp [intOf]; omega
                  · replace hnx := hnx (by omega)
                    have hkp : 0 < k := by omega
                    clear hfi hk0
                    have hss : S.size + 1 ≤ 9223372036854775807 := by omega
                    have hst : S.size + 1 + x.size ≤ 9223372036854775807 := by omega
                    go_wp2
                    go_roundw
                    case rel => exact ⟨k + 1, (S ++ ⟨#[32]⟩) ++ x, by omega, by go_num, rfl, by rw [ByteArray.size_append, ByteArray.size_append]; show S.size + 1 + x.size ≤ _; omega, HB3.out.alloc (Nat.le_of_lt lR3) _, (Below.heap_alloc _ _ _ lR3).trans HR3.out, hnx, HG⟩
                    case measure => simp [intOf]; omega
            · rcases hw with ⟨c', hf', hck⟩ | ⟨kd', n', v'', hf', _⟩
              · have hT := HBad.out 5 (by decide) hck
                have y1 : (ec != 0) = true := by simpa using hec
                clear hck hfi hnx hf hf'
                go_wp2_with (go_at_call 18; refine (fault_any _ _ _).mono ?_; rintro e w' ⟨rfl, rfl⟩)
                refine bodyPost_ret (v := .tuple #[.string ⟨#[]⟩, .agg #[.int .i64 5, .int .i64 k]]) (by simp [results, Tryd.results13, go_sem, s0, s1, lR3]) rfl ?_
                exact ⟨below_res2 HB3.out (Nat.le_of_lt lR3) _ _ _ _, [], _, _, rfl, hT.out⟩
              · rw [hf] at hf'; cases hf'
      · have hkm : l.take k = l := List.take_of_length_le (by have := Hm.out; omega)
        have hall : Hid (∀ j, (h : j < l.length) → checkC l[j] = 0) := fun j hj => HK.out j hj (by have := Hm.out; omega)
        have HS2 : Hid (S = bstr (joinB l)) := by have := HS.out; rw [hkm] at this; exact this
        have hSz : S.size = (joinB l).length := by rw [HS2.out, bstr_size]
        by_cases h2000 : 2000 < S.size
        · have HT : Hid (TxR l [] 10 0) := Or.inr (Or.inr ⟨by have := Hm.out; omega, hall.out, Or.inl ⟨by omega, rfl, rfl, rfl⟩⟩)
          clear hkm HS HK hSz
          go_wp2_with (go_at_call 18; refine (fault_any _ _ _).mono ?_; rintro e w' ⟨rfl, rfl⟩)
          refine bodyPost_ret (v := .tuple #[.string ⟨#[]⟩, .agg #[.int .i64 10, .int .i64 0]]) (by simp [results, Tryd.results13, go_sem, r0, r1, lR]) rfl ?_
          exact ⟨below_res HB.out (Nat.le_of_lt lR) _ _ _, [], _, _, rfl, HT.out⟩
        · have HT : Hid (TxR l (joinB l) 0 0) := Or.inr (Or.inr ⟨by have := Hm.out; omega, hall.out, Or.inr ⟨by omega, rfl, rfl, rfl⟩⟩)
          clear hkm HS HK hSz
          go_wp2
          refine bodyPost_ret (v := .tuple #[.string S, .agg #[.int .i64 0, .int .i64 0]]) (by simp [results, Tryd.results13, go_sem, r0, r1]) rfl ?_
          exact ⟨(HB.out.setCell (p := ⟨w.heap.size, 0, none⟩) (Nat.le_refl _) _).setCell (p := ⟨w.heap.size, 1, none⟩) (Nat.le_refl _) _, joinB l, _, _, by rw [HS2.out], HT.out⟩
end Go.Proofs.YtaipdmaiffjeeaaDoor
