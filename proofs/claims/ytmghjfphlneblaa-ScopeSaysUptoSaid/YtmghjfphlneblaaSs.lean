/-
  Contract of the document's declare, where the name is new: two rows are copied, and each grows by one.
-/
import Derived.Test.YtmghjfphlneblaaSr
import Derived.Deep.AppendLies
import Derived.Test.YtmghjfphlneblaaTrK
namespace Go.Proofs.Ytmghjfphlneblaa.Sc
open Go.RowKit
open Tr

theorem row_mono {w : World} {b b' n : Nat} {v : Value} {xs : List Value} (h : w.ownsRow b 3 1 v n xs) (hb : b' ≤ b) : w.ownsRow b' 3 1 v n xs := by
  refine ⟨h.1, ?_⟩
  rcases h.2 with h | ⟨g, cap, cur, e, h1, h2⟩
  · exact Or.inl h
  · exact Or.inr ⟨g, cap, cur, e, Nat.le_trans hb h1, h2⟩
theorem row_other {w : World} {b n B : Nat} {v : Value} {xs : List Value} (h : w.ownsRow b 3 1 v n xs) (hne : v.ownBlock ≠ some B) (k : Nat) (u : Value) : (w.setCell ⟨B, k, none⟩ u).ownsRow b 3 1 v n xs := by
  refine ⟨h.1, ?_⟩
  rcases h.2 with h | ⟨g, cap, cur, e, h1, h2, h3⟩
  · exact Or.inl h
  · refine Or.inr ⟨g, cap, cur, e, h1, ?_, h3⟩
    rw [Below.heap_setCell w ⟨B, k, none⟩ u g (fun e2 => hne (by rw [e]; show some g = some B; rw [show g = B from e2]))]
    exact h2
theorem below_grown {N : Nat} {W0 W W' : World} {row : Option Nat} (hb : Below N W0 W) (hg : W.grownBy W' row) (h : ∀ g, row = some g → N ≤ g) (hN : N ≤ W.heap.size) : Below N W0 W' :=
  hb.trans ⟨hg.os, hg.tape, hg.output, hg.size, fun b hb => hg.block b (Nat.lt_of_lt_of_le hb hN) (fun e => absurd (h b e.symm) (by omega))⟩
theorem cp_run {W : World} {b0 n c : Nat} {p : Option Addr} {xs : List Int} (h : W.ownsRow b0 3 1 (.slice p n c) n (intV xs)) (hn : n ≤ 1000000) :
    ∃ q cq W', (Builtin.append_ #[25, 25] 25 #[.slice none 0 0, .slice p n c]).run Try.prog W = .ok (.slice q n cq) W' ∧ W'.ownsRow W.heap.size 3 1 (.slice q n cq) n (intV xs) ∧ Below W.heap.size W W' := by
  obtain ⟨i0, hi, hz0, hz1, hz2⟩ := info_parts info3
  by_cases h0 : n = 0
  · subst h0
    have hx := row_nil h rfl
    refine ⟨none, 0, W, ?_, ⟨by rw [hx]; rfl, Or.inl ⟨rfl, rfl⟩⟩, Below.refl _ _⟩
    cases p <;> simp [Builtin.append_, run_underlying Try.underlying25, sizeOf, typeInfo, hi, Builtin.lenOf, Builtin.firstCells, storeCells, loadCells, loadCellsFrom]
  · obtain ⟨g, rfl, _, _, _, _, hl, hc⟩ := row_at h (by omega)
    obtain ⟨g', cap, w', hr, h2, h3, _, _⟩ := run_append_lies (P := Try.prog) (w := W) 25 25 W.heap.size 3 i0 (.int .i64 0) 1 8 Try.underlying25 hi hz0 hz1 hz2 rfl (by decide) (.slice none 0 0) 0 [] (World.ownsRow_nil _ _ _ _) ⟨g, 0, none⟩ n c (intV xs) (by rw [intV_len]; omega)
      (fun j u hu => by
        have hj : j < xs.length := by have := (List.getElem?_eq_some_iff.1 hu).1; rwa [intV_len] at this
        have e : ((⟨g, 0, none⟩ : Addr).add j) = ⟨g, j, none⟩ := by simp [Addr.add]; try omega
        rw [e, (hc j hj).1]
        unfold intV at hu
        rw [List.getElem?_map, List.getElem?_eq_getElem hj] at hu
        exact hu) (fun u hu => by
        obtain ⟨x, _, rfl⟩ := List.mem_map.1 hu
        rfl) (by omega) (by unfold maxLen; omega) (by omega) (Nat.le_refl _) _ rfl
    rw [Nat.zero_add] at hr h2
    exact ⟨_, _, w', hr, h2, ⟨h3.os, h3.tape, h3.output, h3.size, fun b hb => h3.block b hb (by simp [Value.ownBlock])⟩⟩
theorem ap1_run {W : World} {b n : Nat} {v : Value} {xs : List Int} (h : W.ownsRow b 3 1 v n (intV xs)) (hb : b ≤ W.heap.size) (hn : n ≤ 1000000) (k : Int) :
    ∃ g cap W', (Builtin.append_ #[25, 25] 25 #[v, .slice (some ⟨W.heap.size, 0, none⟩) 1 1]).run Try.prog (W.alloc (.cells #[.int .i64 k] 3)) = .ok (.slice (some ⟨g, 0, none⟩) (n + 1) cap) W' ∧
      W'.ownsRow b 3 1 (.slice (some ⟨g, 0, none⟩) (n + 1) cap) (n + 1) (intV (xs ++ [k])) ∧ (W.alloc (.cells #[.int .i64 k] 3)).grownBy W' v.ownBlock ∧ (v.ownBlock = some g ∨ W.heap.size ≤ g) := by
  obtain ⟨i0, hi, hz0, hz1, hz2⟩ := info_parts info3
  obtain ⟨g', cap, w', hr, h2, h3, h4, _⟩ := run_append_lies (P := Try.prog) (w := W.alloc (.cells #[.int .i64 k] 3)) 25 25 b 3 i0 (.int .i64 0) 1 8 Try.underlying25 hi hz0 hz1 hz2 rfl (by decide) v n (intV xs) (h.alloc _) ⟨W.heap.size, 0, none⟩ 1 1 [.int .i64 k] rfl (cell_one_new _ _ _) (ints_oneCell .i64 [k]) (by omega) (by unfold maxLen; omega) (by omega) (by rw [World.size_alloc]; omega) _ rfl
  exact ⟨g', cap, w', hr, by unfold intV at h2 ⊢; rw [List.map_append]; exact h2, h3, h4.imp id (fun e => by rw [e, World.size_alloc]; omega)⟩
section
variable {ops : Array Oper} {rest : List Oper} {o : Oper} {a : Act} {Q : Exit → Act → World → Prop} {w w' : World} {v sv xv : Value}
theorem apW (hgd : o.guard = none) (s x : Operand) (ho : o.op = .call { callee := .builtin .append, args := #[s, x], argTypes := #[25, 25] }) (ht : o.type = 25) (hs : a.eval s = sv) (hx : a.eval x = xv) (hr : (Builtin.append_ #[25, 25] 25 #[sv, xv]).run Try.prog w = .ok v w')
    (h : wpList Try.prog ops Q rest (a.put o.dst v) w') : wpList Try.prog ops Q (o :: rest) a w :=
  wpList_plain hgd fun K hK => by
    unfold Oper.wp
    simp [execOp, ho, ht, resolve, invoke, builtin, hs, hx, hr, Result.andThen]
    exact hK _ _ h
end
theorem hasL_snoc (E : Env) (k now : Nat) : hasL (E ++ [(k, now)]) = hasL E ++ [(k : Int)] := by simp [hasL]
theorem roomL_snoc (E : Env) (k now : Nat) : roomL (E ++ [(k, now)]) = roomL E ++ [(now : Int)] := by simp [roomL]
theorem own_ge {w : World} {b n : Nat} {v : Value} {xs : List Value} (h : w.ownsRow b 3 1 v n xs) {g : Nat} (hg : v.ownBlock = some g) : b ≤ g ∧ g < w.heap.size := h.lt g hg

theorem own_sep {u v : Value} {P : Nat → Prop} (h : ∀ g, v.ownBlock = some g → P g) (h' : ∀ g, u.ownBlock = some g → ¬ P g) : v.ownBlock = none ∨ v.ownBlock ≠ u.ownBlock := by
  cases hv : v.ownBlock with
  | none => exact Or.inl rfl
  | some g => exact Or.inr fun e => h' g e.symm (h g hv)
theorem row_st6 {w : World} {b n g : Nat} {v : Value} {xs : List Value} {t : TypeId} {x0 x1 x2 x3 x4 x5 : Value} (h : w.ownsRow b 3 1 v n xs) (hB : Blk w g t #[x0, x1, x2, x3, x4, x5]) (ht : t ≠ 3) (a0 a1 a2 a3 a4 a5 : Value) : (st6 w g a0 a1 a2 a3 a4 a5).ownsRow b 3 1 v n xs := by
  have hne : v.ownBlock ≠ some g := fun e => by
    rcases h.2 with ⟨h, _⟩ | ⟨g', cap, cur, h1, _, h2, _⟩
    · rw [h] at e; cases e
    · rw [h1] at e
      have : g' = g := by cases e; rfl
      subst this
      exact ht (Blk.type hB h2)
  exact row_other (row_other (row_other (row_other (row_other (row_other h hne 0 a0) hne 1 a1) hne 2 a2) hne 3 a3) hne 4 a4) hne 5 a5
theorem grown_below {w X : World} {row : Option Nat} (h : Below w.heap.size w X) : w.grownBy X row := ⟨h.os, h.tape, h.output, h.size, fun b hb _ => h.block b hb⟩
theorem grown_box {w X : World} {row : Option Nat} {B : Nat} (h : w.grownBy X row) (hB : w.heap.size ≤ B ∨ some B = row) (k : Nat) (u : Value) : w.grownBy (X.setCell ⟨B, k, none⟩ u) row :=
  ⟨h.os, h.tape, h.output, by simpa [World.setCell] using h.size, fun b hb hne => (Below.heap_setCell X ⟨B, k, none⟩ u b (fun e => by
    have e2 : b = B := e
    rcases hB with hB | hB
    · omega
    · exact hne (by rw [e2]; exact hB))).trans (h.block b hb hne)⟩
theorem grown_st6 {w X : World} {row : Option Nat} {B : Nat} (h : w.grownBy X row) (hB : w.heap.size ≤ B) (a b c d e f : Value) : w.grownBy (st6 X B a b c d e f) row :=
  grown_box (grown_box (grown_box (grown_box (grown_box (grown_box h (Or.inl hB) 0 a) (Or.inl hB) 1 b) (Or.inl hB) 2 c) (Or.inl hB) 3 d) (Or.inl hB) 4 e) (Or.inl hB) 5 f
/-- what a step of the document's search leaves -/
def RfPost (w0 w : World) (l : List Nd) (p : Option Addr) (of : List Int) (now O oc : Nat) : Rs → Ending → World → Prop
  | .ok E W, e, w' => ∃ ph pr kh kr, e = .returned (.agg #[.slice ph E.length kh, .slice pr E.length kr, .int .i64 now, .int .i64 0, .int .i64 0, .slice (some ⟨O, 0, none⟩) l.length oc]) ∧ w.grownBy w' (some O) ∧ Rf w0 w' l p E (ov W of) (.slice ph E.length kh) (.slice pr E.length kr) O oc
  | .bad c a, e, w' => ∃ ph pr n m kh kr, e = .returned (.agg #[.slice ph n kh, .slice pr m kr, .int .i64 now, .int .i64 c, .int .i64 a, .slice (some ⟨O, 0, none⟩) l.length oc]) ∧ w.grownBy w' (some O)
  | .out, _, _ => True
set_option maxHeartbeats 16000000 in
set_option maxRecDepth 100000 in
theorem rdecl_yes {w0 w : World} {l : List Nd} {p : Option Addr} {E : Env} {of : List Int} {ph pr : Option Addr} {kh kr O oc cap now k : Nat} (h : Rf w0 w l p E of (.slice ph E.length kh) (.slice pr E.length kr) O oc) (hk : k < l.length) (hl : l.length ≤ 600) (hE : E.length ≤ 100000) (hn : (roomF l E now (tx l k)).isSome = false) :
    Calls Try.prog 13 #[.agg #[.slice ph E.length kh, .slice pr E.length kr, .int .i64 now, .int .i64 0, .int .i64 0, .slice (some ⟨O, 0, none⟩) l.length oc], .agg #[.slice p l.length cap], .int .i64 k] w (RfPost w0 w l p of now O oc (.ok (E ++ [(k, now)]) [(k, (k : Int))])) := by
  obtain ⟨Q, hQ⟩ : ∃ Q : Ending → World → Prop, Q = RfPost w0 w l p of now O oc (.ok (E ++ [(k, now)]) [(k, (k : Int))]) := ⟨_, rfl⟩
  rw [← hQ]
  have HQ := Lib.hid hQ
  clear hQ
  obtain ⟨b, o, rfl, hb, hN⟩ := h.nodeAt hk
  have hbb : b < w.heap.size := Nat.lt_of_lt_of_le hb h.bel.size
  have hno := Lib.hid hn
  have hno0 := Lib.hid hn
  obtain ⟨n, hnn⟩ : ∃ n, n = E.length := ⟨_, rfl⟩
  have HH : Hid (Rf w0 w l (some ⟨b, o, none⟩) E of (.slice ph n kh) (.slice pr n kr) O oc) := by rw [hnn]; exact h
  rw [← hnn]
  rw [← hnn] at hE
  obtain ⟨ln, hln⟩ : ∃ ln, ln = l.length := ⟨_, rfl⟩
  rw [← hln]
  have hln6 : ln ≤ 600 := by omega
  have hkl : k < ln := by omega
  have HN := Lib.hid hnn
  have HLN := Lib.hid hln
  obtain ⟨nw, hnw⟩ : ∃ nw : Int, nw = (now : Int) := ⟨_, rfl⟩
  rw [← hnw]
  have HNW := Lib.hid hnw
  clear h hN hn hnn hln hnw hk hl
  go_enter Try.func13, Try.ntmps13
  go_wp2
  obtain ⟨w3, hw3⟩ : ∃ w3, w3 = ((w.alloc (.cells #[.slice ph n kh, .slice pr n kr, .int .i64 nw, .int .i64 0, .int .i64 0, .slice (some ⟨O, 0, none⟩) ln oc] 44)).alloc (.cells #[.slice (some ⟨b, o, none⟩) ln cap] 24)).alloc (.cells #[.slice none 0 0, .slice none 0 0, .int .i64 0, .int .i64 0, .int .i64 0, .slice none 0 0] 44) := ⟨_, rfl⟩
  have hB := Box3.new w #[.slice ph n kh, .slice pr n kr, .int .i64 nw, .int .i64 0, .int .i64 0, .slice (some ⟨O, 0, none⟩) ln oc] #[.slice (some ⟨b, o, none⟩) ln cap] #[.slice none 0 0, .slice none 0 0, .int .i64 0, .int .i64 0, .int .i64 0, .slice none 0 0]
  rw [← hw3] at hB ⊢
  have H0 : Hid (NoHit l E now k 0) := fun j _ h => by omega
  clear hw3
  go_loopw [7] (fun v wr => ∃ i : Nat, i ≤ n ∧ v = .int .i64 i ∧ Hid (NoHit l E now k i) ∧ Hid (Box3 w wr #[.slice ph n kh, .slice pr n kr, .int .i64 nw, .int .i64 0, .int .i64 0, .slice (some ⟨O, 0, none⟩) ln oc] #[.slice (some ⟨b, o, none⟩) ln cap] #[.slice none 0 0, .slice none 0 0, .int .i64 0, .int .i64 0, .int .i64 0, .slice none 0 0])) (fun v _ => n - (intOf v).toNat)
  case atStart => exact ⟨0, Nat.zero_le _, rfl, H0.out, hB⟩
  clear H0 hB
  obtain ⟨i, hi, rfl, HNo, HB⟩ := hrel
  have hB := HB.out
  have lB : w.heap.size + 1 + 1 < wr.heap.size := hB.b6.lt
  have x0 : wr.cell? ⟨w.heap.size, 0, none⟩ = some (.slice ph n kh) := by rw [hB.b3.cell]; rfl
  have x1 : wr.cell? ⟨w.heap.size, 1, none⟩ = some (.slice pr n kr) := by rw [hB.b3.cell]; rfl
  have x2 : wr.cell? ⟨w.heap.size, 2, none⟩ = some (.int .i64 nw) := by rw [hB.b3.cell]; rfl
  have x4 : wr.cell? ⟨w.heap.size + 1, 0, none⟩ = some (.slice (some ⟨b, o, none⟩) ln cap) := by rw [hB.b4.cell]; rfl
  have hr : Rf w0 wr l (some ⟨b, o, none⟩) E of (.slice ph n kh) (.slice pr n kr) O oc := HH.out.below hB.bel
  by_cases hlt : i < n
  · have hiE : i < E.length := by have := HN.out; omega
    have hat : _ := Rf.at (E := E) (i := i) (by rw [← HN.out]; exact hr) hiE
    obtain ⟨gh, gr, rfl, rfl, g1, g2, g3, g4, g5, g6, g7, t, ht, g8, g9⟩ := hat
    obtain ⟨b', o', e', _, hN'⟩ := hr.nodeAt (k := k) (by have := HLN.out; omega)
    cases e'
    obtain ⟨c0, c1, _⟩ := hN' k (by have := HLN.out; omega) wr hr.bel
    have hbw : b < wr.heap.size := Nat.lt_of_lt_of_le hbb hB.bel.size
    obtain ⟨tk', htk'⟩ : ∃ tk', tk' = (l[k]'(by have := HLN.out; omega)).t := ⟨_, rfl⟩
    have htk2 := tx_text (by have := HLN.out; omega) htk'
    rw [← htk'] at c1
    obtain ⟨xi, hxi⟩ : ∃ xi, xi = (E[i]).1 := ⟨_, rfl⟩
    obtain ⟨ri, hri⟩ : ∃ ri : Int, ri = ((E[i]).2 : Int) := ⟨_, rfl⟩
    have hxl : xi < ln := by have := HLN.out; omega
    have HRI := Lib.hid hri
    have HXI := Lib.hid hxi
    have HNH := Lib.hid (show ¬ ((E[i]).2 = now ∧ tx l (E[i]).1 = tx l k) from fun hc => by
      have := decl_hit.2 ⟨i, hiE, hc.1, hc.2⟩
      rw [hno.out] at this; cases this)
    rw [← hxi] at g5 g8 ht
    rw [← hri] at g6
    have HT1 := Lib.hid ht
    have HT2 := Lib.hid htk2
    have HNo2 : Hid (NoHit l E now k (i + 1)) := HNo.out.step hiE HNH.out
    clear hB hr hN' c0 g9 hxi hri htk' ht htk2 g7
    by_cases hroom : ri = nw
    · have d1 : (ri == nw) = true := by simpa using hroom
      have htext : t.toList ≠ tk'.toList := fun e => HNH.out ⟨by have h1 := HRI.out; have h2 := HNW.out; omega, by rw [← HXI.out, ← HT1.out, ← HT2.out]; exact e⟩
      have d2 : (t.toList == tk'.toList) = false := by simpa using htext
      clear hroom htext
      go_wp2
      go_quiet (fail)
      go_wp2
      go_roundw
      case rel => exact ⟨i + 1, by omega, by go_num, HNo2.out, HB.out.drewN _⟩
      case measure => simp [intOf]; omega
    · have d1 : (ri == nw) = false := by simpa using hroom
      clear hroom
      go_wp2
      go_quiet (fail)
      go_wp2
      go_roundw
      case rel => exact ⟨i + 1, by omega, by go_num, HNo2.out, HB.out.drewN _⟩
      case measure => simp [intOf]; omega
  · clear x0 x1 x2 x4
    obtain ⟨q1, c1, W1, r1, o1, b1⟩ := cp_run (show wr.ownsRow w0.heap.size 3 1 (.slice ph n kh) n (intV (hasL E)) by have := hr.has; rwa [← HN.out] at this) (by omega)
    obtain ⟨q2, c2, W2, r2, o2, b2⟩ := cp_run (show W1.ownsRow w0.heap.size 3 1 (.slice pr n kr) n (intV (roomL E)) by have := row_below hr.rom b1; rwa [← HN.out] at this) (by omega)
    have o1' := row_below o1 b2
    have s12 : ∀ g, (Value.slice q1 n c1).ownBlock = some g → wr.heap.size ≤ g ∧ g < W1.heap.size := fun g hg => own_ge o1 hg
    have s21 : ∀ g, (Value.slice q2 n c2).ownBlock = some g → W1.heap.size ≤ g ∧ g < W2.heap.size := fun g hg => own_ge o2 hg
    obtain ⟨g1, k1, W3, r3, o3, y3, l3⟩ := ap1_run o1' (Nat.le_trans b1.size b2.size) (by omega) (k : Int)
    have lg1 : wr.heap.size ≤ g1 ∧ (g1 < W1.heap.size ∨ W2.heap.size ≤ g1) := by
      rcases l3 with l3 | l3
      · have := s12 g1 l3; exact ⟨this.1, Or.inl this.2⟩
      · exact ⟨Nat.le_trans (Nat.le_trans b1.size b2.size) l3, Or.inr l3⟩
    have B2 : Box3 w W2 _ _ _ := (hB.below b1).below b2
    have be3 : Below wr.heap.size wr W3 := below_grown (((b1.trans (b2.mono b1.size)).alloc (Nat.le_trans b1.size b2.size) (.cells #[.int .i64 k] 3))) y3 (fun g hg => (s12 g hg).1) (by rw [World.size_alloc]; have := b1.size; have := b2.size; omega)
    have B3 : Box3 w W3 _ _ _ := hB.below be3
    have o2' : W3.ownsRow W1.heap.size 3 1 (.slice q2 n c2) n (intV (roomL E)) := (o2.alloc (.cells #[.int .i64 k] 3)).kept y3 (own_sep (P := fun g => W1.heap.size ≤ g) (fun g hg => (s21 g hg).1) (fun g hg h => by have := (s12 g hg).2; omega))
    have o2s := row_far o2' B3.b3 (by decide) 0 (.slice (some ⟨g1, 0, none⟩) (n + 1) k1)
    have o3s := row_far o3 B3.b3 (by decide) 0 (.slice (some ⟨g1, 0, none⟩) (n + 1) k1)
    have hs3 : (W3.setCell ⟨w.heap.size, 0, none⟩ (.slice (some ⟨g1, 0, none⟩) (n + 1) k1)).heap.size = W3.heap.size := by simp [World.setCell]
    have z23 : W2.heap.size + 1 ≤ W3.heap.size := by have := y3.size; rwa [World.size_alloc] at this
    obtain ⟨g2, k2, W4, r4, o4, y4, l4⟩ := ap1_run o2s (by rw [hs3]; have := b2.size; omega) (by omega) nw
    rw [hs3] at r4 l4
    have lg2 : wr.heap.size ≤ g2 := by
      rcases l4 with l4 | l4
      · have := s21 g2 l4; have := b1.size; omega
      · have := b1.size; have := b2.size; omega
    have lt1 : g1 < W3.heap.size := (own_ge o3 (g := g1) rfl).2
    have sep4 : ∀ g, (Value.slice q2 n c2).ownBlock = some g → g ≠ g1 := fun g hg e => by
      have h1 := s21 g hg
      rcases lg1.2 with h2 | h2
      · omega
      · omega
    have o3' : W4.ownsRow wr.heap.size 3 1 (.slice (some ⟨g1, 0, none⟩) (n + 1) k1) (n + 1) (intV (hasL E ++ [(k : Int)])) := (o3s.alloc (.cells #[.int .i64 nw] 3)).kept y4 (own_sep (P := fun g => g = g1) (fun g hg => by cases hg; rfl) (fun g hg h => sep4 g hg h))
    have be3s : Below w.heap.size w (W3.setCell ⟨w.heap.size, 0, none⟩ (.slice (some ⟨g1, 0, none⟩) (n + 1) k1)) := B3.bel.setCell (p := ⟨w.heap.size, 0, none⟩) (Nat.le_refl _) _
    have b3s3 := B3.b3.set_ 0 (.slice (some ⟨g1, 0, none⟩) (n + 1) k1)
    have b4s3 := B3.b4.far (p := ⟨w.heap.size, 0, none⟩) (by simp) (.slice (some ⟨g1, 0, none⟩) (n + 1) k1)
    have b6s3 := B3.b6.far (p := ⟨w.heap.size, 0, none⟩) (by simp; omega) (.slice (some ⟨g1, 0, none⟩) (n + 1) k1)
    have bx : ∀ B, B < wr.heap.size → some B ≠ (Value.slice q2 n c2).ownBlock := fun B hB e => by have := (s21 B e.symm).1; have := b1.size; omega
    have b3s4 := (b3s3.alloc (.cells #[.int .i64 nw] 3)).grown y4 (bx _ (by omega))
    have b6s4 := (b6s3.alloc (.cells #[.int .i64 nw] 3)).grown y4 (bx _ (by omega))
    have b3w4 : Blk W4 w.heap.size 44 #[.slice (some ⟨g1, 0, none⟩) (n + 1) k1, .slice pr n kr, .int .i64 nw, .int .i64 0, .int .i64 0, .slice (some ⟨O, 0, none⟩) ln oc] := by simpa using b3s4
    have lO := own_ge HH.out.ofr (g := O) rfl
    have ofw : wr.ownsRow w0.heap.size 3 1 (.slice (some ⟨O, 0, none⟩) ln oc) ln (intV of) := by have := hr.ofr; rwa [← HLN.out] at this
    have of4 := ((row_far (row_below ofw be3) B3.b3 (by decide) 0 (.slice (some ⟨g1, 0, none⟩) (n + 1) k1)).alloc (.cells #[.int .i64 nw] 3)).kept y4 (Or.inr fun e => bx O (by have := hB.bel.size; omega) (by rw [← e]; rfl))
    obtain ⟨gO, eO, _, _, _, _, lof, hO⟩ := row_at of4 (by omega)
    cases eO
    obtain ⟨ovk, vO, fO⟩ : ∃ ovk : Int, W4.cell? ⟨O, k, none⟩ = some (.int .i64 ovk) ∧ W4.frozen? ⟨O, k, none⟩ = false := ⟨_, hO k (by omega)⟩
    obtain ⟨e40, e41, e42, e43, e44, e45⟩ := six b3w4
    obtain ⟨z0, z1, z2, z3, z4, z5⟩ := six b6s4
    have f41 := b3w4.frozen 1
    have q0 := b6s4.frozen 0
    have q1' := b6s4.frozen 1
    have q2' := b6s4.frozen 2
    have q3 := b6s4.frozen 3
    have q4 := b6s4.frozen 4
    have q5 := b6s4.frozen 5
    have e30 : W3.cell? ⟨w.heap.size, 0, none⟩ = some (.slice ph n kh) := by rw [B3.b3.cell]; rfl
    have e32 : W3.cell? ⟨w.heap.size, 2, none⟩ = some (.int .i64 nw) := by rw [B3.b3.cell]; rfl
    have f30 := B3.b3.frozen 0
    have e11 : W1.cell? ⟨w.heap.size, 1, none⟩ = some (.slice pr n kr) := by rw [(hB.below b1).b3.cell]; rfl
    have x0 : wr.cell? ⟨w.heap.size, 0, none⟩ = some (.slice ph n kh) := by rw [hB.b3.cell]; rfl
    have nO1 : O ≠ w.heap.size := by omega
    have nO2 : O ≠ w.heap.size + 1 + 1 := by omega
    have l4' : w.heap.size + 1 + 1 < W4.heap.size := b6s4.lt
    have lO4 : O < W4.heap.size := (own_ge of4 (g := O) rfl).2
    have lw3 : w.heap.size < W3.heap.size := B3.b3.lt
    have ng1 : (Value.slice (some ⟨g1, 0, none⟩) (n + 1) k1).ownBlock ≠ some O := fun e => by
      have e2 : g1 = O := by cases e; rfl
      have := hB.bel.size; omega
    have ng2 : (Value.slice (some ⟨g2, 0, none⟩) (n + 1) k2).ownBlock ≠ some O := fun e => by
      have e2 : g2 = O := by cases e; rfl
      have := hB.bel.size; omega
    have be4 : Below w.heap.size w W4 := below_grown (be3s.alloc (by rw [hs3]; omega) (.cells #[.int .i64 nw] 3)) y4 (fun g hg => by have := (s21 g hg).1; have := b1.size; omega) (by rw [World.size_alloc, hs3]; omega)
    have HHas := Lib.hid (row_other (row_far o3' b3w4 (by decide) 1 (.slice (some ⟨g2, 0, none⟩) (n + 1) k2)) ng1 k (.int .i64 k))
    have HRom := Lib.hid (row_other (row_far o4 b3w4 (by decide) 1 (.slice (some ⟨g2, 0, none⟩) (n + 1) k2)) ng2 k (.int .i64 k))
    have HOf := Lib.hid ((row_far of4 b3w4 (by decide) 1 (.slice (some ⟨g2, 0, none⟩) (n + 1) k2)).stored k (.int .i64 k)).1
    have HB6 := Lib.hid ((b6s4.far (p := ⟨w.heap.size, 1, none⟩) (by simp; omega) (.slice (some ⟨g2, 0, none⟩) (n + 1) k2)).far (p := ⟨O, k, none⟩) (fun e => nO2 e.symm) (.int .i64 k))
    have HB3 := Lib.hid (show Blk ((W4.setCell ⟨w.heap.size, 1, none⟩ (.slice (some ⟨g2, 0, none⟩) (n + 1) k2)).setCell ⟨O, k, none⟩ (.int .i64 k)) w.heap.size 44 #[.slice (some ⟨g1, 0, none⟩) (n + 1) k1, .slice (some ⟨g2, 0, none⟩) (n + 1) k2, .int .i64 nw, .int .i64 0, .int .i64 0, .slice (some ⟨O, 0, none⟩) ln oc] by have := (b3w4.set_ 1 (.slice (some ⟨g2, 0, none⟩) (n + 1) k2)).far (p := ⟨O, k, none⟩) (fun e => nO1 e.symm) (.int .i64 k); simpa using this)
    have HG := Lib.hid (grown_box (grown_below (row := some O) (be4.setCell (p := ⟨w.heap.size, 1, none⟩) (Nat.le_refl _) (.slice (some ⟨g2, 0, none⟩) (n + 1) k2))) (Or.inr rfl) k (.int .i64 k))
    have hww : w.heap.size ≤ wr.heap.size := hB.bel.size
    have lOw := lO.2
    have lg2' := lg2
    have hw1 : w0.heap.size ≤ W1.heap.size := by have := HH.out.bel.size; have := b1.size; omega
    have lOb := lO.1
    clear hB hr HNo HB o1 o2 o1' b1 b2 s12 s21 o3 y3 l3 lg1 B2 be3 B3 o2' o2s o3s hs3 z23 o4 y4 lt1 sep4 o3' be3s b3s3 b4s3 b6s3 bx b3s4 b6s4 b3w4 ofw of4 hO lof lO hno lg2 ng1 ng2 be4
    have R1 := Lib.hid r1
    have R2 := Lib.hid r2
    have R3 := Lib.hid r3
    have R4 := Lib.hid r4
    clear r1 r2 r3 r4 l4
    go_upto_region 12 with (first | (at_builtin; refine apW rfl _ _ rfl rfl rfl rfl R1.out ?_; clear R1) | (at_builtin; refine apW rfl _ _ rfl rfl rfl rfl R2.out ?_; clear R2) | (at_builtin; refine apW rfl _ _ rfl rfl rfl rfl R3.out ?_; clear R3) | (at_builtin; refine apW rfl _ _ rfl rfl rfl rfl R4.out ?_; clear R4))
    clear e30 e32 f30 e11 x0 lw3
    go_upto_region 13 with (fail)
    obtain ⟨W5, hW5⟩ : ∃ W5, W5 = (W4.setCell ⟨w.heap.size, 1, none⟩ (.slice (some ⟨g2, 0, none⟩) (n + 1) k2)).setCell ⟨O, k, none⟩ (.int .i64 k) := ⟨_, rfl⟩
    rw [← hW5] at HHas HRom HOf HB6 HG HB3 ⊢
    clear e40 e42 e43 e44 e45 e41 f41 z0 z1 z2 z3 z4 z5 q0 q1' q2' q3 q4 q5 vO fO l4' lO4 hW5
    obtain ⟨y0, y1, y2, y3, y4, y5⟩ := six HB3.out
    obtain ⟨z0, z1, z2, z3, z4, z5⟩ := six HB6.out
    have q0 := HB6.out.frozen 0
    have q1' := HB6.out.frozen 1
    have q2' := HB6.out.frozen 2
    have q3 := HB6.out.frozen 3
    have q4 := HB6.out.frozen 4
    have q5 := HB6.out.frozen 5
    have l5 := HB6.out.lt
    go_wp2
    have hz := st6_blk HB6.out (.slice (some ⟨g1, 0, none⟩) (n + 1) k1) (.slice (some ⟨g2, 0, none⟩) (n + 1) k2) (.int .i64 nw) (.int .i64 0) (.int .i64 0) (.slice (some ⟨O, 0, none⟩) ln oc)
    obtain ⟨v0, v1, v2, v3, v4, v5⟩ := six hz
    unfold st6 at v0 v1 v2 v3 v4 v5
    refine bodyPost_ret (v := .agg #[.slice (some ⟨g1, 0, none⟩) (n + 1) k1, .slice (some ⟨g2, 0, none⟩) (n + 1) k2, .int .i64 nw, .int .i64 0, .int .i64 0, .slice (some ⟨O, 0, none⟩) ln oc]) (by simp [results, Try.results13, go_sem, v0, v1, v2, v3, v4, v5]) rfl ?_
    rw [HQ.out]
    have hlen : (E ++ [(k, now)]).length = n + 1 := by simp; exact HN.out.symm
    have hg := grown_st6 HG.out (B := w.heap.size + 1 + 1) (by omega) (.slice (some ⟨g1, 0, none⟩) (n + 1) k1) (.slice (some ⟨g2, 0, none⟩) (n + 1) k2) (.int .i64 nw) (.int .i64 0) (.int .i64 0) (.slice (some ⟨O, 0, none⟩) ln oc)
    refine ⟨_, _, k1, k2, by rw [hlen, ← HLN.out, HNW.out], hg, ?_⟩
    rw [hlen]
    refine { tr0 := HH.out.tr0, bel := below_grown HH.out.bel hg (fun g e => by cases e; omega) HH.out.bel.size, has := ?_, rom := ?_, ofr := ?_, sepH := fun e => by have e2 : g1 = O := (by cases e; rfl); have := (own_ge HHas.out (g := g1) rfl).1; omega, sepR := fun e => by have e2 : g2 = O := (by cases e; rfl); omega, shpH := ⟨_, _, by rw [hlen]⟩, shpR := ⟨_, _, by rw [hlen]⟩, env := ?_, uni := HH.out.uni.snoc hno0.out }
    · rw [hlen, hasL_snoc]
      exact row_mono (row_st6 HHas.out HB6.out (by decide) _ _ _ _ _ _) (Nat.le_trans HH.out.bel.size hww)
    · rw [hlen, roomL_snoc, ← HNW.out]
      exact row_mono (row_st6 HRom.out HB6.out (by decide) _ _ _ _ _ _) hw1
    · rw [← HLN.out, ov_one]
      have := row_st6 HOf.out HB6.out (by decide) (.slice (some ⟨g1, 0, none⟩) (n + 1) k1) (.slice (some ⟨g2, 0, none⟩) (n + 1) k2) (.int .i64 nw) (.int .i64 0) (.int .i64 0) (.slice (some ⟨O, 0, none⟩) ln oc)
      unfold intV at this ⊢
      rw [List.map_set]; exact this
    · intro x hx
      rcases List.mem_append.1 hx with hx | hx
      · exact HH.out.env x hx
      · simp only [List.mem_cons, List.not_mem_nil, or_false] at hx; subst hx; show k < l.length; have := HLN.out; omega
end Go.Proofs.Ytmghjfphlneblaa.Sc
