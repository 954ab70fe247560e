/-
  The walk of the law TreePlaces: it returns true, and nothing that was there has turned.
-/
import Derived.Test.YtcaekpgnknlblaaBf
namespace Go.Proofs.Ytcaekpgnknlblaa
open Go.RowKit

def atN (a : Int) (x : Nd) : Nd := { x with a := a }
def rowU (a : Int) (l : List Nd) (k : Nat) : List Value := rowN ((l.map (atN a)).take k)
theorem rowU_next {a : Int} {l : List Nd} {k : Nat} (h : k < l.length) : rowU a l (k + 1) = rowU a l k ++ [.int .i64 l[k].k, .string l[k].t, .int .i64 l[k].n, .int .i64 l[k].z, .slice l[k].p l[k].c.length l[k].cap, .int .i64 a] := by
  unfold rowU
  rw [List.take_succ_eq_append_getElem (by rw [List.length_map]; exact h), rowN_snoc]
  simp [cellsN, atN]
theorem rowU_zero (a : Int) (l : List Nd) : rowU a l 0 = [] := rfl
theorem rowU_whole {a : Int} {l : List Nd} {k : Nat} (h : l.length ≤ k) : rowU a l k = rowN (l.map (atN a)) := by
  unfold rowU; rw [List.take_of_length_le (by rw [List.length_map]; exact h)]
theorem tr_places {w w0 : World} {a : Int} {l : List Nd} {B n qc : Nat} {q : Option Addr} (h : w.ownsRow B 42 6 (.slice q n qc) n (rowU a l n)) (hn : n = l.length) (hK : ∀ i, (h : i < l.length) → KidsAt w0 l[i].p l[i].c) (hb : Below w0.heap.size w0 w) : Tr w q (l.map (atN a)) := by
  rw [rowU_whole (by omega)] at h
  refine ⟨fun h0 => ?_, fun i hi => ?_⟩
  · have hlen : n = (l.map (atN a)).length := by rw [List.length_map]; exact hn
    have hlt := h.lt
    have hcs := fun g hg => World.ownsRow.cells h (g := g) hg
    rcases h.2 with ⟨hv, h1⟩ | ⟨g, cap', cur, hv, _⟩
    · omega
    · injection hv with hv
      subst hv
      refine ⟨g, 0, rfl, (hlt g rfl).2, fun i hi => ?_⟩
      obtain ⟨r0, r1, r2, r3, r4, r5⟩ := rowN_get (l.map (atN a)) i hi
      have e : ∀ j, ((⟨g, 0, none⟩ : Addr).add j) = ⟨g, 0 + j, none⟩ := fun j => by unfold Addr.add; split <;> simp_all
      have a0 := hcs g rfl _ _ r0
      have a1 := hcs g rfl _ _ r1
      have a2 := hcs g rfl _ _ r2
      have a3 := hcs g rfl _ _ r3
      have a4 := hcs g rfl _ _ r4
      have a5 := hcs g rfl _ _ r5
      rw [e] at a0 a1 a2 a3 a4 a5
      rw [← Nat.add_assoc] at a1 a2 a3 a4 a5
      exact ⟨a0, a1, a2, a3, a4, a5⟩
  · have hi2 : i < l.length := by rw [List.length_map] at hi; exact hi
    have h2 := (hK i hi2).below hb
    simpa [atN] using h2
theorem same_places (a : Int) (l : List Nd) : sameL l (l.map (atN a)) = true := sameL_all (by rw [List.length_map]) fun j h1 h2 => sameB_yes (by simp [atN])

theorem field0 (c a : Int) (w : World) : (Instr.field 26 (.agg #[.int .i64 c, .int .i64 a]) 0).run Try.prog w = .ok (.int .i64 c) w := by kernel_rfl

set_option maxHeartbeats 16000000 in
set_option maxRecDepth 100000 in
theorem places_walk (l : List Nd) (p : Option Addr) (cap : Nat) (at_ : Int) (w : World) (hT : Tr w p l) (hf : Fit l cap) (hr : l.length * 72 ≤ 140737488351232) :
    Calls Try.prog 6 #[.agg #[.slice p l.length cap], .int .i64 at_] w fun e w' => e = .returned (.bool true) ∧ Below w.heap.size w w' := by
  have HT := Lib.hid hT
  have HF := Lib.hid hf
  clear hT hf
  obtain ⟨n, hn⟩ : ∃ n, n = l.length := ⟨_, rfl⟩
  rw [← hn] at hr ⊢
  have Hn := Lib.hid hn
  clear hn
  have HW : Hid (Below w.heap.size w (w.alloc (.cells #[.slice p n cap] 24))) := (Below.refl _ _).alloc (Nat.le_refl _) _
  have hfa := fact_any (w.alloc (.cells #[.slice p n cap] 24))
  have HX : Hid (Blk (w.alloc (.cells #[.slice p n cap] 24)) w.heap.size 24 #[.slice p n cap]) := Blk.new _ _ _
  by_cases hat : at_ < 0
  · go_enter Try.func6, Try.ntmps6
    go_wp2_with (go_at_call 17; refine hfa.mono ?_)
    first | rintro e w1 rfl hb1 | rintro e w1 ⟨rfl, hb1⟩
    have HB1 := Lib.hid (HW.out.trans (hb1.mono (by simp)))
    clear hb1 hfa
    go_wp2
    go_ret
    exact ⟨rfl, HB1.out⟩
  · go_enter Try.func6, Try.ntmps6
    go_wp2_with (go_at_call 17; refine hfa.mono ?_)
    first | rintro e w1 rfl hb1 | rintro e w1 ⟨rfl, hb1⟩
    have HB1 := Lib.hid (HW.out.trans (hb1.mono (by simp)))
    have HX1 := Lib.hid (HX.out.below hb1 (by simp))
    have l1 := HX1.out.lt
    have HB2 := Lib.hid (HB1.out.alloc HB1.out.size (.cells #[.slice none 0 0] 24))
    have HX2 := Lib.hid (HX1.out.alloc (.cells #[.slice none 0 0] 24))
    clear hb1 hfa HX HW
    go_wp2
    go_loopw [7] (fun v wr => ∃ (k : Nat) (q : Option Addr) (qc : Nat), k ≤ n ∧ v = .int .i64 k ∧ Blk wr w.heap.size 24 #[.slice p n cap] ∧ Blk wr w1.heap.size 24 #[.slice q k qc] ∧ wr.ownsRow (w1.heap.size + 1) 42 6 (.slice q k qc) k (rowU at_ l k) ∧ Below w.heap.size w wr) (fun v _ => n - (intOf v).toNat)
    case atStart => exact ⟨0, none, 0, Nat.zero_le _, rfl, HX2.out, Blk.new _ _ _, World.ownsRow_nil _ _ _ _, HB2.out⟩
    case round =>
      obtain ⟨k, q, qc, hk, rfl, hX, hU, hO, hbe⟩ := hrel
      have HB := Lib.hid hbe
      have HX := Lib.hid hX
      have HU := Lib.hid hU
      have HO := Lib.hid hO
      have lX := hX.lt
      have lU := hU.lt
      have x0 : wr.cell? ⟨w.heap.size, 0, none⟩ = some (.slice p n cap) := by rw [hX.cell]; rfl
      have u0 : wr.cell? ⟨w1.heap.size, 0, none⟩ = some (.slice q k qc) := by rw [hU.cell]; rfl
      have uz := hU.frozen 0
      clear hbe hX hU hO HB2 HX2
      by_cases hlt : k < n
      · have hkl : k < l.length := by have := Hn.out; omega
        obtain ⟨b, o, rfl, hb, hN⟩ := HT.out.1 (by omega)
        obtain ⟨c0, c1, c2, c3, c4, c5⟩ := (hN k hkl).below HB.out hb
        have Hnext := Lib.hid (rowU_next (a := at_) hkl)
        have hkn : (k : Int) < (n : Int) := by omega
        clear hN
        generalize l[k] = x at *
        obtain ⟨xk, xt, xn, xz, xp, xcap, xc, xa⟩ := x
        simp only at c0 c1 c2 c3 c4 c5 Hnext
        have HO5 := Lib.hid ((HO.out.alloc (.cells #[.int .i64 xk, .string xt, .int .i64 xn, .int .i64 xz, .slice xp xc.length xcap, .int .i64 at_] 42)).alloc (.cells #[.int .i64 xk, .string xt, .int .i64 xn, .int .i64 xz, .slice xp xc.length xcap, .int .i64 at_] 42))
        have hw6 : Below wr.heap.size wr ((wr.alloc (.cells #[.int .i64 xk, .string xt, .int .i64 xn, .int .i64 xz, .slice xp xc.length xcap, .int .i64 at_] 42)).alloc (.cells #[.int .i64 xk, .string xt, .int .i64 xn, .int .i64 xz, .slice xp xc.length xcap, .int .i64 at_] 42)) := ((Below.refl _ _).alloc (Nat.le_refl _) _).alloc (by simp) _
        have HW6 := Lib.hid hw6
        have hnews : ∀ j u, ([.int .i64 xk, .string xt, .int .i64 xn, .int .i64 xz, .slice xp xc.length xcap, .int .i64 at_] : List Value)[j]? = some u → ((wr.alloc (.cells #[.int .i64 xk, .string xt, .int .i64 xn, .int .i64 xz, .slice xp xc.length xcap, .int .i64 at_] 42)).alloc (.cells #[.int .i64 xk, .string xt, .int .i64 xn, .int .i64 xz, .slice xp xc.length xcap, .int .i64 at_] 42)).cell? ((⟨wr.heap.size + 1, 0, none⟩ : Addr).add j) = some u := by
          have h := news_node (wr.alloc (.cells #[.int .i64 xk, .string xt, .int .i64 xn, .int .i64 xz, .slice xp xc.length xcap, .int .i64 at_] 42)) (.int .i64 xk) (.string xt) (.int .i64 xn) (.int .i64 xz) (.slice xp xc.length xcap) (.int .i64 at_)
          rw [World.size_alloc] at h
          exact h
        have HNews := Lib.hid hnews
        clear hnews hw6
        obtain ⟨i0, hi, hz0, hz1, hz2⟩ := info_parts info42
        go_wp2_with (at_builtin; refine wpList_append_own _ rfl _ _ 22 rfl (w1.heap.size + 1) 42 i0 (.agg #[.int .i64 0, .string ⟨#[]⟩, .int .i64 0, .int .i64 0, .slice none 0 0, .int .i64 0]) 6 72 Try.underlying22 hi hz0 hz1 hz2 rfl (by decide) _ k (rowU at_ l k) rfl HO5.out ⟨wr.heap.size + 1, 0, none⟩ 1 1 [.int .i64 xk, .string xt, .int .i64 xn, .int .i64 xz, .slice xp xc.length xcap, .int .i64 at_] rfl rfl ?c1 ?c2 ?c3 ?c4 ?c5 ?_)
        case c1 => exact HNews.out
        case c2 => intro u hu; simp at hu; rcases hu with rfl | rfl | rfl | rfl | rfl | rfl <;> rfl
        case c3 => unfold maxLen; omega
        case c4 => omega
        case c5 => simp; omega
        intro v' w7 hown' hgrow _
        obtain ⟨q', qc', rfl, _⟩ := own_shape hown'
        have hrow : ∀ g, (Value.slice q k qc).ownBlock = some g → w1.heap.size + 1 ≤ g := fun g h => (HO5.out.lt g h).1
        have hB6 := HB.out.trans (HW6.out.mono HB.out.size)
        have hB7 : Below w.heap.size w w7 := Below.grown hB6 hgrow hB6.size (fun g h => by have := hrow g h; omega)
        have hneU : some w1.heap.size ≠ (Value.slice q k qc).ownBlock := fun h => by have := hrow _ h.symm; omega
        have hneX : some w.heap.size ≠ (Value.slice q k qc).ownBlock := fun h => by have := hrow _ h.symm; omega
        have hU7 := (HU.out.below HW6.out lU).grown hgrow hneU
        have hX7 := (HX.out.below HW6.out lX).grown hgrow hneX
        have hU8 : Blk (w7.setCell ⟨w1.heap.size, 0, none⟩ (.slice q' (k + 1) qc')) w1.heap.size 24 #[.slice q' (k + 1) qc'] := by have h := hU7.set_ 0 (.slice q' (k + 1) qc'); simpa using h
        have hX8 : Blk (w7.setCell ⟨w1.heap.size, 0, none⟩ (.slice q' (k + 1) qc')) w.heap.size 24 #[.slice (some ⟨b, o, none⟩) n cap] := hX7.far (by simp; omega) _
        have hO8 : (w7.setCell ⟨w1.heap.size, 0, none⟩ (.slice q' (k + 1) qc')).ownsRow (w1.heap.size + 1) 42 6 (.slice q' (k + 1) qc') (k + 1) (rowU at_ l (k + 1)) := by
          rw [Hnext.out]
          exact own_far hown' (fun g hg => by have := (hown'.lt g hg).1; simp; omega) _
        have hB8 : Below w.heap.size w (w7.setCell ⟨w1.heap.size, 0, none⟩ (.slice q' (k + 1) qc')) := hB7.setCell (p := ⟨w1.heap.size, 0, none⟩) (by simp; omega) _
        have z7 : w7.cell? ⟨w1.heap.size, 0, none⟩ = some (.slice q k qc) := by rw [hU7.cell]; rfl
        have zf := hU7.frozen 0
        have HU8 := Lib.hid hU8
        have HX8 := Lib.hid hX8
        have HO8 := Lib.hid hO8
        have HB8 := Lib.hid hB8
        clear hown' hgrow hrow hB6 hB7 hneU hneX hU7 hX7 hU8 hX8 hO8 hB8 c0 c1 c2 c3 c4 c5 x0 u0 uz
        go_wp2
        go_roundw
        case rel => exact ⟨k + 1, q', qc', by omega, by go_num, HX8.out, HU8.out, HO8.out, HB8.out⟩
        case measure => simp [intOf]; try omega
      · have hkn : k = n := by omega
        subst hkn
        have hTU := tr_places HO.out Hn.out HT.out.2 HB.out
        obtain ⟨_, _, hsh, hcq⟩ := own_shape HO.out
        injection hsh with hs1 hs2 hs3
        have hUl : (l.map (atN at_)).length = k := by rw [List.length_map]; exact Hn.out.symm
        have hfU : Fit (l.map (atN at_)) qc := ⟨by rw [hUl]; omega, by rw [hUl]; omega, fun j hj => by
          have hj2 : j < l.length := by rw [List.length_map] at hj; exact hj
          have h := HF.out.2.2 j hj2
          simpa [atN] using h⟩
        have HC : Hid (∀ W, Below wr.heap.size wr W → Calls Try.prog 8 #[.agg #[.slice p k cap]] W (CkPost l W)) := fun W hW => by
          have h := check_any l p cap W (HT.out.below (HB.out.trans (hW.mono HB.out.size))) HF.out
          rw [← Hn.out] at h; exact h
        have HCU : Hid (∀ W, Below wr.heap.size wr W → Calls Try.prog 8 #[.agg #[.slice q k qc]] W (CkPost (l.map (atN at_)) W)) := fun W hW => by
          have h := check_any (l.map (atN at_)) q qc W (hTU.below hW) hfU
          rw [hUl] at h; exact h
        have hs := tsame_any l (l.map (atN at_)) p q cap qc wr (HT.out.below HB.out) hTU HF.out hfU
        rw [← Hn.out, hUl] at hs
        have hcq2 : k ≤ qc := by omega
        clear hTU hs1 hs2 hs3 hcq hUl hfU uz
        go_wp2_with (go_at_call 15; refine hs.mono ?_)
        intro e w4 hp
        obtain ⟨hb4, is, c, a, rfl, hr⟩ := hp
        have HR := Lib.hid hr
        have x4 : w4.cell? ⟨w.heap.size, 0, none⟩ = some (.slice p k cap) := (hb4.cell (p := ⟨w.heap.size, 0, none⟩) lX).trans x0
        have u4 : w4.cell? ⟨w1.heap.size, 0, none⟩ = some (.slice q k qc) := (hb4.cell (p := ⟨w1.heap.size, 0, none⟩) lU).trans u0
        have HB4 := Lib.hid (HB.out.trans (hb4.mono HB.out.size))
        have hb5 := hb4.alloc hb4.size (.cells #[.int .i64 c, .int .i64 a] 26)
        have HB5 := Lib.hid hb5
        have l4 := World.block_lt_of_cell? _ _ x4
        have l5 := World.block_lt_of_cell? _ _ u4
        have hcC := HC.out _ hb5
        clear hr hb4 hb5 hs x0 u0
        by_cases hc0 : c = 0
        · have hx : is = true := by
            rcases HR.out with ⟨_, h, _⟩ | ⟨_, _, h, _⟩ | ⟨_, _, _, _, h⟩
            · exact absurd hc0 h
            · exact absurd hc0 h
            · rw [h]; exact same_places _ _
          subst hx
          subst hc0
          clear hcC
          go_wp2
          go_ret
          exact ⟨rfl, HB4.out.alloc HB4.out.size _⟩
        · have hx : is = false ∧ (CkR l c a ∨ (CkR l 0 0 ∧ CkR (l.map (atN at_)) c a)) := by
            rcases HR.out with ⟨h1, _, h⟩ | ⟨h1, h2, _, h⟩ | ⟨_, _, h, _⟩
            · exact ⟨h, Or.inl h1⟩
            · exact ⟨h, Or.inr ⟨h1, h2⟩⟩
            · exact absurd h hc0
          obtain ⟨rfl, hx⟩ := hx
          have q1 : (c != 0) = true := by simpa using hc0
          have q2 : (c == 0) = false := by simpa using hc0
          have HC0 := Lib.hid hc0
          have HXx := Lib.hid hx
          clear hc0 hx
          go_wp2_with (go_at_call 8; refine hcC.mono ?_)
          intro e w6 hp
          obtain ⟨hb6, c', a', rfl, hr'⟩ := hp
          have HR' := Lib.hid hr'
          have HB6 := Lib.hid ((HB4.out.alloc HB4.out.size (.cells #[.int .i64 c, .int .i64 a] 26)).trans (hb6.mono (by have := HB4.out.size; simp; omega)))
          have u6 : w6.cell? ⟨w1.heap.size, 0, none⟩ = some (.slice q k qc) := (hb6.cell (p := ⟨w1.heap.size, 0, none⟩) (by simp; omega)).trans (by rw [World.cell?_alloc_lt _ _ _ l5]; exact u4)
          have l6 := World.block_lt_of_cell? _ _ u6
          have hcU := HCU.out w6 (HB5.out.trans (hb6.mono HB5.out.size))
          clear hr' hb6 hcC x4 u4
          have hfd := field0 c' a'
          by_cases hc' : c' = 0
          · have hcu : CkR (l.map (atN at_)) c a := by
              rcases HXx.out with h | h
              · exact absurd ((h.det HR'.out).1.trans hc') HC0.out
              · exact h.2
            subst hc'
            go_wp2_with (go_at_call 8; refine hcU.mono ?_)
            intro e w7 hp
            obtain ⟨hb7, c'', a'', rfl, hr''⟩ := hp
            obtain ⟨rfl, rfl⟩ := hcu.det hr''
            have hfd2 := field0 c a
            have HB7 := Lib.hid (HB6.out.trans (hb7.mono HB6.out.size))
            clear hr'' hb7 hcU hcu
            go_wp2
            go_ret
            exact ⟨rfl, HB7.out⟩
          · have q3 : (c' != 0) = true := by simpa using hc'
            have q4 : (c' == 0) = false := by simpa using hc'
            clear hc' hcU
            go_wp2
            go_ret
            exact ⟨rfl, HB6.out⟩
end Go.Proofs.Ytcaekpgnknlblaa
