/-
  Contract of the words without where they stand, and of the comparison of two lists of words of whatever make.
-/
import Derived.Test.YtaipdmaiffjeeaaDoorTc
import Derived.Test.YtaipdmaiffjeeaaDoorPb
namespace Go.Proofs.YtaipdmaiffjeeaaDoor
open Go.RowKit

theorem own_shape {w : World} {B e size n : Nat} {v : Value} {xs : List Value} (h : w.ownsRow B e size v n xs) : ∃ p cap, v = .slice p n cap := by
  rcases h.2 with ⟨rfl, h0⟩ | ⟨g, cap, cur, hv, _⟩
  · rw [h0]; exact ⟨none, 0, rfl⟩
  · exact ⟨_, _, hv⟩
theorem readsI_own {w : World} {B n : Nat} {v : Value} {l : List I4} (h : w.ownsRow B 36 4 v n (rowI l)) (hn : n = l.length) : ReadsI w v l := by
  subst hn
  have hlt := h.lt
  have hcs := fun g hg => h.cells (g := g) hg
  obtain ⟨_, h2⟩ := h
  rcases h2 with ⟨rfl, h0⟩ | ⟨g, cap, cur, rfl, hg, r⟩
  · exact ⟨none, 0, by rw [h0], fun h => by omega⟩
  · refine ⟨_, cap, rfl, fun _ => ⟨g, 0, rfl, (hlt g rfl).2, fun j u hu => ?_⟩⟩
    have := hcs g rfl j u hu
    have e : ((⟨g, 0, none⟩ : Addr).add j) = ⟨g, 0 + j, none⟩ := by unfold Addr.add; split <;> simp_all
    rw [e] at this
    exact this
theorem rowI_snoc (l : List I4) (t : I4) : rowI (l ++ [t]) = rowI l ++ cellsI t := by simp [rowI]
theorem bare_next {l : List I4} {k : Nat} (h : k < l.length) : rowI ((l.map bareI).take (k + 1)) = rowI ((l.map bareI).take k) ++ [.int .i64 l[k].k, .string (bstr l[k].t), .int .i64 l[k].v, .int .i64 0] := by
  rw [← List.map_take, take_succ_I h, List.map_append, List.map_singleton, rowI_snoc, List.map_take]; rfl

set_option maxHeartbeats 4000000 in
set_option maxRecDepth 100000 in
theorem bare_any (l : List I4) (v : Value) (w : World) (hread : ReadsI w v l) (hm : l.length ≤ 1000) :
    Calls Tryd.prog 15 #[v] w fun e w' => ∃ v', e = .returned v' ∧ ReadsI w' v' (l.map bareI) ∧ Below w.heap.size w w' := by
  obtain ⟨p, cap, rfl, hc⟩ := hread
  have HC := Lib.hid hc
  obtain ⟨m, hmm⟩ : ∃ m, m = l.length := ⟨_, rfl⟩
  rw [← hmm] at hm ⊢
  have Hm := Lib.hid hmm
  clear hc hmm
  go_enter Tryd.func15, Tryd.ntmps15
  go_wp2
  go_loopw [3, 4] (fun vo vi wr => ∃ k : Nat, k ≤ m ∧ vi = .int .i64 k ∧ Below w.heap.size w wr ∧ wr.ownsRow w.heap.size 36 4 vo k (rowI ((l.map bareI).take k))) (fun _ vi _ => m - (intOf vi).toNat)
  case atStart => exact ⟨0, Nat.zero_le _, rfl, Below.refl _ _, World.ownsRow_nil _ _ _ _⟩
  case round =>
    obtain ⟨k, hk, rfl, hb, ho⟩ := hrel
    obtain ⟨q, qc, rfl⟩ := own_shape ho
    have HB := Lib.hid hb
    have HO := Lib.hid ho
    clear hb ho
    by_cases hlt : k < m
    · have hl : k < l.length := by have := Hm.out; omega
      obtain ⟨b, o, rfl, hbl, hcell⟩ := HC.out (by omega)
      obtain ⟨q0, q1, q2, q3⟩ := rowI_get l k hl
      have c0 := (HB.out.cell (p := ⟨b, o + k * 4, none⟩) hbl).trans (hcell _ _ q0)
      have c1 := (HB.out.cell (p := ⟨b, o + (k * 4 + 1), none⟩) hbl).trans (hcell _ _ q1)
      have c2 := (HB.out.cell (p := ⟨b, o + (k * 4 + 2), none⟩) hbl).trans (hcell _ _ q2)
      have c3 := (HB.out.cell (p := ⟨b, o + (k * 4 + 3), none⟩) hbl).trans (hcell _ _ q3)
      rw [← Nat.add_assoc] at c1 c2 c3
      have hnext := bare_next hl
      clear q0 q1 q2 q3 hcell
      generalize l[k] = t at *
      generalize bstr t.t = x at *
      have Hnext := Lib.hid hnext
      have HO5 := Lib.hid ((HO.out.alloc (.cells #[.int .i64 t.k, .string x, .int .i64 t.v, .int .i64 0] 36)).alloc (.cells #[.int .i64 t.k, .string x, .int .i64 t.v, .int .i64 0] 36))
      have lw := HB.out.size
      clear hnext
      obtain ⟨i0, hi, hz0, hz1, hz2⟩ := info_parts info36
      go_wp2_with (at_builtin; refine wpList_append_own _ rfl _ _ 22 rfl w.heap.size 36 i0 (.agg #[.int .i64 0, .string ⟨#[]⟩, .int .i64 0, .int .i64 0]) 4 40 Tryd.underlying22 hi hz0 hz1 hz2 rfl (by decide) _ k (rowI ((l.map bareI).take k)) rfl HO5.out ⟨wr.heap.size + 1, 0, none⟩ 1 1 [.int .i64 t.k, .string x, .int .i64 t.v, .int .i64 0] rfl rfl ?c1 ?c2 ?c3 ?c4 ?c5 ?_)
      case c1 => exact news_cells _ [.int .i64 t.k, .string x, .int .i64 t.v, .int .i64 0] 36 _ (by simp)
      case c2 => intro u hu; simp at hu; rcases hu with rfl | rfl | rfl | rfl <;> rfl
      case c3 => unfold maxLen; omega
      case c4 => omega
      case c5 => simp; omega
      intro v' w1 hown' hgrow _
      have hbel : Below w.heap.size w w1 := by
        refine Below.grown ((HB.out.alloc lw _).alloc ?_ _) hgrow ?_ (fun g h => by have := (HO5.out.lt g h).1; omega)
        · simp; omega
        · simp; omega
      rw [← Hnext.out] at hown'
      have HOw := Lib.hid hown'
      have HBel := Lib.hid hbel
      clear hown' hgrow hbel
      go_wp2
      go_roundw
      case rel => exact ⟨k + 1, by omega, by go_num, HBel.out, HOw.out⟩
      case measure => simp [intOf]; omega
    · have hkm : k = l.length := by have := Hm.out; omega
      have hr := HO.out
      rw [List.take_of_length_le (by rw [List.length_map]; omega)] at hr
      have HR := Lib.hid hr
      have Hk := Lib.hid hkm
      clear hr hkm
      go_wp2
      go_ret
      exact ⟨_, rfl, readsI_own HR.out (by rw [List.length_map]; exact Hk.out), HB.out⟩

set_option maxHeartbeats 4000000 in
set_option maxRecDepth 100000 in
theorem same_any (l : List I4) (v v' : Value) (w : World) (hm : l.length ≤ 1000000) (h : ReadsI w v l) (h' : ReadsI w v' l) :
    Calls Tryd.prog 11 #[v, v'] w fun e w' => e = .returned (.bool true) ∧ Below w.heap.size w w' := by
  obtain ⟨p, cap, rfl, hc⟩ := h
  obtain ⟨p', cap', rfl, hc'⟩ := h'
  have HC := Lib.hid hc
  have HC' := Lib.hid hc'
  obtain ⟨n, hn⟩ : ∃ n, n = l.length := ⟨_, rfl⟩
  rw [← hn] at hm ⊢
  have Hn := Lib.hid hn
  clear hc hc' hn
  go_enter Tryd.func11, Tryd.ntmps11
  go_wp2
  go_loopw [5] (fun i wr => ∃ k : Nat, k ≤ n ∧ i = .int .i64 k ∧ Below w.heap.size w wr) (fun i _ => n - (intOf i).toNat)
  case atStart => exact ⟨0, Nat.zero_le _, rfl, Below.refl _ _⟩
  case round =>
    obtain ⟨k, hk, rfl, hb⟩ := hrel
    by_cases hlt : k < n
    · have hl : k < l.length := by have := Hn.out; omega
      obtain ⟨b, o, rfl, hbl, hcell⟩ := HC.out (by omega)
      obtain ⟨b', o', rfl, hbl', hcell'⟩ := HC'.out (by omega)
      obtain ⟨r0, r1, r2, r3⟩ := rowI_get l k hl
      have c0 := (hb.cell (p := ⟨b, o + k * 4, none⟩) hbl).trans (hcell _ _ r0)
      have c1 := (hb.cell (p := ⟨b, o + (k * 4 + 1), none⟩) hbl).trans (hcell _ _ r1)
      have c2 := (hb.cell (p := ⟨b, o + (k * 4 + 2), none⟩) hbl).trans (hcell _ _ r2)
      have c3 := (hb.cell (p := ⟨b, o + (k * 4 + 3), none⟩) hbl).trans (hcell _ _ r3)
      have d0 := (hb.cell (p := ⟨b', o' + k * 4, none⟩) hbl').trans (hcell' _ _ r0)
      have d1 := (hb.cell (p := ⟨b', o' + (k * 4 + 1), none⟩) hbl').trans (hcell' _ _ r1)
      have d2 := (hb.cell (p := ⟨b', o' + (k * 4 + 2), none⟩) hbl').trans (hcell' _ _ r2)
      have d3 := (hb.cell (p := ⟨b', o' + (k * 4 + 3), none⟩) hbl').trans (hcell' _ _ r3)
      rw [← Nat.add_assoc] at c1 c2 c3 d1 d2 d3
      have HB := Lib.hid hb
      generalize l[k] = t at *
      generalize bstr t.t = x at *
      clear r0 r1 r2 r3 hcell hcell' hb
      go_wp2
      go_region
      all_goals go_wp2
      go_roundw
      case rel => exact ⟨k + 1, by omega, by go_num, HB.out.drew⟩
      case measure => simp [intOf]; omega
    · go_wp2
      go_ret
      exact ⟨rfl, hb⟩
end Go.Proofs.YtaipdmaiffjeeaaDoor
