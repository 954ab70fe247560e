/-
  Joined texts of this claim: Bkc, Bkd.
-/
import Derived.Test.YtbjacclfhgnffaaGreatDoorX43
import Derived.Test.YtbjacclfhgnffaaGreatDoorX32
import Derived.Test.YtbjacclfhgnffaaGreatDoorX41
set_option linter.unusedVariables false
set_option linter.unusedSimpArgs false
/-
  Plain: what Expr gives of a text in brackets.
-/
namespace Go.Proofs.YtbjacclfhgnffaaGreatDoor
open Go.RowKit
open Tk (T4 SR sh)
open Tr (Nd CkR codeAt nodeC fieldC fieldV)

theorem tail1 (E n mark : Nat) (s : S3) (h : s.L = []) : runJ E (n + 1) (.postL mark) s = .ok s := by
  have hp : pk E s.L = ⟨0, [], 0, E⟩ := by rw [h]; rfl
  show (if (pk E s.L).t = [91] then _ else if (pk E s.L).t = [43, 43] ∨ (pk E s.L).t = [45, 45] then _ else R3.ok s) = _
  rw [hp]
  dsimp only
  rw [if_neg (by decide), if_neg (by decide)]
theorem tail2 (E n mark : Nat) (s : S3) (h : s.L = []) : runJ E (n + 1) (.pairsL 2 mark) s = .ok s := by
  have hp : pk E s.L = ⟨0, [], 0, E⟩ := by rw [h]; rfl
  show (if 2 ≤ levelT (pk E s.L).t then _ else R3.ok s) = _
  rw [hp]
  dsimp only
  rw [if_neg (by decide)]
theorem tail3 (E n : Nat) (s s1 : S3) (h1 : runJ E n (.pairs 2) s = .ok s1) (h : s1.L = []) : runJ E (n + 1) .expr s = .ok s1 := by
  have hp : pk E s1.L = ⟨0, [], 0, E⟩ := by rw [h]; rfl
  show (runJ E n (.pairs 2) s).bind _ = _
  rw [h1]
  show (if (pk E s1.L).t = [63] then _ else if setT (pk E s1.L).t = true then _ else R3.ok s1) = _
  rw [hp]
  dsimp only
  rw [if_neg (by decide), if_neg (by decide)]
theorem prim_paren (E n : Nat) (s : S3) (h2 : (pk E s.L).k ≠ 2) (h1 : (pk E s.L).k ≠ 1) : runJ E (n + 1) .primary s = seqF [wordF E [40], runJ E n .expr, wordF E [41]] s := by
  show (if (pk E s.L).k = 2 then _ else if (pk E s.L).k = 1 then _ else _) = _
  rw [if_neg h2, if_neg h1]
theorem pref_none (E n : Nat) (s : S3) (h : prefT (pk E s.L).t = 0) : runJ E (n + 1) .prefixed s = runJ E n .postfixed s := by
  show (if prefT (pk E s.L).t = 0 then _ else _) = _
  rw [if_pos h]
theorem word_ok {E : Nat} {t : List UInt8} {s : S3} (h : (pk E s.L).t = t) : wordF E t s = .ok { s with L := s.L.tail } := by unfold wordF; rw [if_pos h]
theorem in_brackets {E E' n q : Nat} {L : List T4} {s : S3} (h : runJ E n .expr ⟨L, [], []⟩ = .ok s) (hs : s.L = []) :
    runJ E' (n + 5) .expr ⟨lp :: (L.map (sh 1) ++ [rp q]), [], []⟩ = .ok ⟨[], s.N.map shM, s.O⟩ := by
  obtain ⟨s', h', hd⟩ := rel_run q E E' n .expr trivial ⟨L, [], []⟩ ⟨L.map (sh 1) ++ [rp q], [], []⟩ ⟨rfl, rfl, rfl⟩ s h
  have hL' : s'.L = [rp q] := by rw [hd.l, hs]; rfl
  have e1 : runJ E' (n + 1) .primary ⟨lp :: (L.map (sh 1) ++ [rp q]), [], []⟩ = .ok ⟨[], s.N.map shM, s.O⟩ := by
    rw [prim_paren _ _ _ (by show lp.k ≠ 2; decide) (by show lp.k ≠ 1; decide)]
    show (wordF E' [40] ⟨lp :: (L.map (sh 1) ++ [rp q]), [], []⟩).bind (seqF [runJ E' n .expr, wordF E' [41]]) = _
    rw [word_ok (by rfl)]
    show (runJ E' n .expr ⟨L.map (sh 1) ++ [rp q], [], []⟩).bind (seqF [wordF E' [41]]) = _
    rw [h']
    show (wordF E' [41] s').bind (seqF []) = _
    rw [word_ok (by rw [hL']; rfl)]
    show R3.ok { s' with L := s'.L.tail } = _
    rw [hL']
    have hN := hd.n
    have hO := hd.o
    obtain ⟨a, b, c⟩ := s'
    simp only at hN hO ⊢
    rw [hN, hO]; rfl
  have e2 : runJ E' (n + 2) .postfixed ⟨lp :: (L.map (sh 1) ++ [rp q]), [], []⟩ = .ok ⟨[], s.N.map shM, s.O⟩ := by
    show (runJ E' (n + 1) .primary _).bind (runJ E' (n + 1) (.postL 0)) = _
    rw [e1]
    exact tail1 _ _ _ _ rfl
  have e3 : runJ E' (n + 3) .prefixed ⟨lp :: (L.map (sh 1) ++ [rp q]), [], []⟩ = .ok ⟨[], s.N.map shM, s.O⟩ := by
    rw [pref_none _ _ _ (by show prefT lp.t = 0; decide)]
    exact e2
  have e4 : runJ E' (n + 4) (.pairs 2) ⟨lp :: (L.map (sh 1) ++ [rp q]), [], []⟩ = .ok ⟨[], s.N.map shM, s.O⟩ := by
    show (if 1000 < 2 then R3.out else (runJ E' (n + 3) .prefixed _).bind (runJ E' (n + 3) (.pairsL 2 0))) = _
    rw [if_neg (by decide), e3]
    exact tail2 _ _ _ _ rfl
  exact tail3 _ _ _ _ e4 rfl
/-- where a tree is in its form, its offsets do not matter -/
def shN (x : Nd) : Nd := if 0 ≤ x.a then { x with a := x.a + 1 } else x
theorem shN_k (x : Nd) : (shN x).k = x.k := by unfold shN; split <;> rfl
theorem shN_c (x : Nd) : (shN x).c = x.c := by unfold shN; split <;> rfl
theorem shN_f (x : Nd) : fieldC (shN x) = fieldC x := by
  unfold shN
  split
  · rename_i h
    unfold fieldC fieldV
    dsimp only
    have e : (x.a + 1 < 0) = (x.a < 0) := propext ⟨fun h => by omega, fun h => by omega⟩
    simp only [e]
  · rfl
theorem node_pos {l : List Nd} {j : Nat} {x : Nd} (h : nodeC l j x = 0) : 0 ≤ x.a := by
  unfold nodeC at h
  split at h
  · cases h
  · split at h
    · cases h
    · split at h
      · cases h
      · unfold fieldC fieldV at h
        split at h
        · cases h
        · split at h
          · cases h
          · split at h
            · cases h
            · rename_i hn
              by_cases ha : x.a < 0
              · exact absurd (Or.inr ha) hn
              · omega
theorem ck_pos {l : List Nd} (h : CkR l 0 0) : ∀ x, x ∈ l → 0 ≤ x.a := by
  intro x hx
  obtain ⟨j, hj, rfl⟩ := List.getElem_of_mem hx
  rcases h with ⟨_, h, _⟩ | ⟨_, _, h⟩
  · cases h
  · rcases h with ⟨i, _, _, h1, h2, _⟩ | ⟨hall, _⟩
    · exact absurd h2.symm h1
    · have := hall j hj
      unfold codeAt at this
      rw [List.getElem?_eq_getElem hj] at this
      exact node_pos this
theorem nd_sh (x : Mn) (h : 0 ≤ x.a) : ndOf (shM x) = shN (ndOf x) := by
  unfold shN
  rw [if_pos (by exact h)]
  rfl
theorem ck_sh {N : List Mn} (h : CkN N 0 0) : CkN (N.map shM) 0 0 := by
  have hp := ck_pos h
  have e : (N.map shM).map ndOf = (N.map ndOf).map shN := by
    rw [List.map_map, List.map_map]
    exact List.map_congr_left fun x hx => nd_sh x (hp (ndOf x) (List.mem_map.2 ⟨x, hx, rfl⟩))
  unfold CkN
  rw [e]
  exact (CkR_map shN_k shN_c shN_f _ _ _).2 h
/-- what Expr gives of a text in brackets -/
theorem brackets_of {l : List UInt8} {s : S3} (h : ExprOf l (.ok s)) (hl : l.length ≤ 1900) :
    CkN s.N 0 0 ∧ ∃ r', ExprOf (40 :: (l ++ [10, 41])) r' ∧ ((∃ a, r' = .bad 10 a) ∨ ∃ s', r' = .ok s' ∧ likeN s.N s'.N = true ∧ CkN s'.N 0 0) := by
  obtain ⟨n, R, hR, he, _⟩ := h
  cases R with
  | bad c a => cases he
  | ok L =>
    rw [exprW_ok] at he
    obtain ⟨s1, h1, h2⟩ := bindF_ok he
    obtain ⟨rfl, hL, hc⟩ := seq_tail_ok h2
    refine ⟨hc, ?_⟩
    rcases brackets_tok hR hl with ht | ⟨a, ht⟩
    · have hb := in_brackets (E' := (40 :: (l ++ [10, 41])).length) (q := l.length + 2) h1 hL
      have hc' : CkN (s.N.map shM) 0 0 := ck_sh hc
      refine ⟨.ok ⟨[], s.N.map shM, s.O⟩, ⟨n + 5, _, ht, ?_, by simp⟩, Or.inr ⟨_, rfl, like_map (fun x => by simp [likeM, shM]) _, hc'⟩⟩
      rw [exprW_ok, hb]
      show (doneF (40 :: (l ++ [10, 41])).length ⟨[], s.N.map shM, s.O⟩).bind (seqF [fitsF]) = _
      have hd : doneF (40 :: (l ++ [10, 41])).length ⟨[], s.N.map shM, s.O⟩ = .ok ⟨[], s.N.map shM, s.O⟩ := by unfold doneF; rw [if_pos rfl]
      rw [hd]
      show (fitsF ⟨[], s.N.map shM, s.O⟩).bind (seqF []) = _
      rw [fits_yes (by exact hc')]
      rfl
    · exact ⟨.bad 10 a, ⟨0, _, ht, rfl, by simp⟩, Or.inl ⟨a, rfl⟩⟩
end Go.Proofs.YtbjacclfhgnffaaGreatDoor
/-
  The walk of ParseBrackets.
-/
namespace Go.Proofs.YtbjacclfhgnffaaGreatDoor
open Go.RowKit
open Tk (T4 SR Scans bstr rowOf)
open Tr (Nd Blk KidsAt Fit CkPost CkR sameL)

theorem br_text (s : ByteArray) : ((⟨#[40]⟩ : ByteArray) ++ s ++ (⟨#[10, 41]⟩ : ByteArray)).data.toList = 40 :: (s.data.toList ++ [10, 41]) := by
  rw [ByteArray.data_append, ByteArray.data_append]; simp
/-- Same, of two trees in their form -/
theorem same0 {ns ns' : List Nd} {p p' : Option Addr} {cap cap' m m' : Nat} {w : World} (hT : Tr.Tr w p ns) (hT' : Tr.Tr w p' ns') (hf : Fit ns cap) (hf' : Fit ns' cap') (hc : CkR ns 0 0) (hc' : CkR ns' 0 0) (hm : ns.length = m) (hm' : ns'.length = m') (hs : sameL ns ns' = true) :
    Calls Tryz.prog 20 #[.agg #[.slice p m cap], .agg #[.slice p' m' cap']] w fun e w' => e = .returned (.tuple #[.bool true, .agg #[.int .i64 0, .int .i64 0]]) ∧ Below w.heap.size w w' := by
  subst hm hm'
  refine (Tr.tsame_any ns ns' p p' cap cap' w hT hT' hf hf').mono fun e w' ⟨hb, is, c, a, he, hr⟩ => ⟨?_, hb⟩
  rcases hr with ⟨h1, h2, _⟩ | ⟨_, h1, h2, _⟩ | ⟨_, _, rfl, rfl, rfl⟩
  · exact absurd (hc.det h1).1.symm h2
  · exact absurd (hc'.det h1).1.symm h2
  · rw [hs] at he; exact he
/-- what Expr gives where the plain result is known -/
theorem expr_ok {s : ByteArray} {s0 : S3} (h : ExprOf s.data.toList (.ok s0)) (hc : CkN s0.N 0 0) {w : World} (hE : Env w) (hs : s.size ≤ 140737488355328) :
    Calls Tryz.prog 11 #[.string s] w fun e w' => Below w.heap.size w w' ∧ ∃ (ns : List Nd) (m cap : Nat) (p : Option Addr), ns.length = m ∧ m ≤ 5000000 ∧ e = .returned (.tuple #[.agg #[.slice p m cap], .agg #[.int .i64 0, .int .i64 0]]) ∧ Tr.Tr w' p ns ∧ Fit ns cap ∧ CkR ns 0 0 ∧ ns.map bare = s0.N ∧ Hi w.heap.size p ns :=
  (pexpr_of h hE hs).mono fun e w' ⟨hb, p, cap, ns, he, hT, hF, hl, hN, hH⟩ => ⟨hb, ns, _, cap, p, rfl, hl, he, hT, hF, by rw [CkR_bare, hN]; exact hc, hN, hH⟩
theorem expr_bad {s : ByteArray} {c a : Int} (h : ExprOf s.data.toList (.bad c a)) {w : World} (hE : Env w) (hs : s.size ≤ 140737488355328) :
    Calls Tryz.prog 11 #[.string s] w fun e w' => Below w.heap.size w w' ∧ c ≠ 0 ∧ e = .returned (.tuple #[.agg #[.slice none 0 0], .agg #[.int .i64 c, .int .i64 a]]) := by
  obtain ⟨n, R, hR, he, ho⟩ := h
  have hz : c ≠ 0 := (nz_exprW (E := s.data.toList.length) (n := n) hR) c a he
  exact (pexpr_of ⟨n, R, hR, he, ho⟩ hE hs).mono fun e w' ⟨hb, h⟩ => ⟨hb, hz, h⟩

set_option maxHeartbeats 8000000 in
set_option maxRecDepth 100000 in
theorem pbrackets_walk (s : ByteArray) (w : World) (hE : Env w) (hs : s.size ≤ 140737488355328) :
    Calls Tryz.prog 6 #[.string s] w fun e w' => e = .returned (.bool true) ∧ Below w.heap.size w w' := by
  have hfa := fact_any hE
  have HE := Lib.hid hE
  have hsz := Lib.hid (Lib.size_eq s)
  clear hE
  obtain ⟨r, hr, -⟩ := exprOf_total s.data.toList
  cases r with
  | out => obtain ⟨_, _, _, _, ho⟩ := hr; exact absurd rfl ho
  | bad c a =>
    have HR := Lib.hid hr
    clear hr
    go_enter Tryz.func6, Tryz.ntmps6
    go_wp2_with (go_at_call 16; refine hfa.mono ?_; rintro e w1 ⟨rfl, hb1⟩)
    refine (expr_bad HR.out (HE.out.below hb1) hs).mono ?_
    rintro e w2 ⟨hb2, hc, rfl⟩
    have q : (c != 0) = true := by simpa using hc
    have q2 : (c == 0) = false := by simpa using hc
    have HB2 := Lib.hid (hb1.trans (hb2.mono hb1.size))
    clear hb1 hb2 hc hfa
    go_wp2_with (go_at_call 17; refine (none_any none 0 0 (by omega) _).mono ?_; rintro e w3 ⟨rfl, hb3⟩)
    (try go_ret)
    have hz := (HB2.out.alloc HB2.out.size (.cells #[.slice none 0 0] 24)).alloc (by simp; have := HB2.out.size; omega) (.cells #[.int .i64 c, .int .i64 a] 26)
    exact ⟨rfl, hz.trans (hb3.mono hz.size)⟩
  | ok s0 =>
    by_cases hl : s.size ≤ 1900
    · obtain ⟨hc, r', hr', hw⟩ := brackets_of hr (by rw [← Lib.size_eq]; exact hl)
      rw [← br_text] at hr'
      have hs2 : ((⟨#[40]⟩ : ByteArray) ++ s ++ (⟨#[10, 41]⟩ : ByteArray)).size ≤ 140737488355328 := by
        rw [ByteArray.size_append, ByteArray.size_append]; show 1 + s.size + 2 ≤ _; omega
      have HR := Lib.hid hr
      have HC := Lib.hid hc
      have HR' := Lib.hid hr'
      have HW := Lib.hid hw
      clear hr hc hr' hw
      go_enter Tryz.func6, Tryz.ntmps6
      go_wp2_with (go_at_call 16; refine hfa.mono ?_; rintro e w1 ⟨rfl, hb1⟩)
      refine (expr_ok HR.out HC.out (HE.out.below hb1) hs).mono ?_
      rintro e w2 ⟨hb2, ns, m, cap, p, hm, hm5, rfl, hT, hF, hck, hN, hH⟩
      have hB2 : Below w.heap.size w w2 := hb1.trans (hb2.mono hb1.size)
      have hz2 := hB2.size
      have q : decide ((1900 : Int) < (s.size : Int)) = false := decide_eq_false (by omega)
      have hx1 : Below w2.heap.size w2 ((w2.alloc (.cells #[.slice p m cap] 24)).alloc (.cells #[.int .i64 0, .int .i64 0] 26)) := ((Below.refl _ _).alloc (Nat.le_refl _) _).alloc (by simp) _
      have K1 : Hid (Blk ((w2.alloc (.cells #[.slice p m cap] 24)).alloc (.cells #[.int .i64 0, .int .i64 0] 26)) w2.heap.size 24 #[.slice p m cap]) := (Blk.new _ _ _).alloc _
      have K2 : Hid (Blk ((w2.alloc (.cells #[.slice p m cap] 24)).alloc (.cells #[.int .i64 0, .int .i64 0] 26)) (w2.heap.size + 1) 26 #[.int .i64 0, .int .i64 0]) := by
        have h := Blk.new (w2.alloc (.cells #[.slice p m cap] 24)) 26 #[.int .i64 0, .int .i64 0]
        rw [World.size_alloc] at h
        exact h
      have hE3 := HE.out.below (hB2.trans (hx1.mono hz2))
      rcases HW.out with ⟨a, rfl⟩ | ⟨s1, rfl, hlk, hc1⟩
      · have hcall := expr_bad HR'.out hE3 hs2
        have HX1 := Lib.hid (hB2.trans (hx1.mono hz2))
        clear hb1 hb2 hfa hB2 hx1 hE3 hT hF hck hN hH hm
        go_wp2_with (go_at_call 11; refine hcall.mono ?_)
        rintro e w5 ⟨hb5, -, rfl⟩
        have HB5 := Lib.hid (HX1.out.trans (hb5.mono HX1.out.size))
        have k2 := (K2.out.below hb5 K2.out.lt)
        have b0 : w5.cell? ⟨w2.heap.size + 1, 0, none⟩ = some (.int .i64 0) := by rw [k2.cell]; rfl
        have b1 : w5.cell? ⟨w2.heap.size + 1, 1, none⟩ = some (.int .i64 0) := by rw [k2.cell]; rfl
        have f0 := k2.frozen 0
        have f1 := k2.frozen 1
        have l2 := k2.lt
        clear hb5 hcall k2
        go_wp2
        (try go_ret)
        exact ⟨rfl, ((HB5.out.setCell (p := ⟨w2.heap.size + 1, 0, none⟩) (Nat.le_succ_of_le hz2) _).setCell (p := ⟨w2.heap.size + 1, 1, none⟩) (Nat.le_succ_of_le hz2) _).alloc (by simpa [World.setCell] using HB5.out.size) _⟩
      · have hcall := expr_ok HR'.out hc1 hE3 hs2
        have HX1 := Lib.hid (hB2.trans (hx1.mono hz2))
        have HX2 := Lib.hid hx1
        have HT := Lib.hid hT
        have Hm := Lib.hid hm
        have HN := Lib.hid hN
        have HF := Lib.hid hF
        have Hck := Lib.hid hck
        have Hlk := Lib.hid hlk
        clear hb1 hb2 hfa hB2 hx1 hE3 hT hF hck hN hH hm hlk
        go_wp2_with (go_at_call 11; refine hcall.mono ?_)
        rintro e w5 ⟨hb5, ns', m', cap', p', hm', hm5', rfl, hT', hF', hck', hN', hH'⟩
        have HB5 := Lib.hid (HX1.out.trans (hb5.mono HX1.out.size))
        have k1 := (K1.out.below hb5 K1.out.lt)
        have k2 := (K2.out.below hb5 K2.out.lt)
        have hz5 : w2.heap.size + 1 + 1 ≤ w5.heap.size := by have := hb5.size; simp at this; omega
        have hbl : Below w2.heap.size w2 w5 := HX2.out.trans (hb5.mono HX2.out.size)
        have hTs : Tr.Tr (((w5.setCell ⟨w2.heap.size + 1, 0, none⟩ (.int .i64 0)).setCell ⟨w2.heap.size + 1, 1, none⟩ (.int .i64 0)).alloc (.cells #[.slice p' m' cap'] 24)) p ns :=
          HT.out.below (((hbl.setCell (p := ⟨w2.heap.size + 1, 0, none⟩) (Nat.le_succ _) _).setCell (p := ⟨w2.heap.size + 1, 1, none⟩) (Nat.le_succ _) _).alloc (by simpa [World.setCell] using hbl.size) _)
        have hTs' : Tr.Tr (((w5.setCell ⟨w2.heap.size + 1, 0, none⟩ (.int .i64 0)).setCell ⟨w2.heap.size + 1, 1, none⟩ (.int .i64 0)).alloc (.cells #[.slice p' m' cap'] 24)) p' ns' :=
          (tr_hi hT' hH' (w' := (w5.setCell ⟨w2.heap.size + 1, 0, none⟩ (.int .i64 0)).setCell ⟨w2.heap.size + 1, 1, none⟩ (.int .i64 0)) (fun b hb _ => by
            simp at hb
            exact (Below.heap_setCell _ _ _ _ (by show b ≠ w2.heap.size + 1; omega)).trans (Below.heap_setCell _ _ _ _ (by show b ≠ w2.heap.size + 1; omega))) (by simp [World.setCell])).below ((Below.refl _ _).alloc (Nat.le_refl _) _)
        have hsl : sameL ns ns' = true := like_same (by rw [HN.out, hN']; exact Hlk.out)
        have hsame := same0 hTs hTs' HF.out hF' Hck.out hck' Hm.out hm' hsl
        have k1s : Blk (((w5.setCell ⟨w2.heap.size + 1, 0, none⟩ (.int .i64 0)).setCell ⟨w2.heap.size + 1, 1, none⟩ (.int .i64 0)).alloc (.cells #[.slice p' m' cap'] 24)) (w2.heap.size + 1) 26 #[.int .i64 0, .int .i64 0] := by
          
          have h := (k2.set_ 0 (.int .i64 0)).set_ 1 (.int .i64 0)
          have h2 : Blk ((w5.setCell ⟨w2.heap.size + 1, 0, none⟩ (.int .i64 0)).setCell ⟨w2.heap.size + 1, 1, none⟩ (.int .i64 0)) (w2.heap.size + 1) 26 #[.int .i64 0, .int .i64 0] := by simpa using h
          exact h2.alloc _
        have hzz := ((HB5.out.setCell (p := ⟨w2.heap.size + 1, 0, none⟩) (Nat.le_succ_of_le hz2) (.int .i64 0)).setCell (p := ⟨w2.heap.size + 1, 1, none⟩) (Nat.le_succ_of_le hz2) (.int .i64 0)).alloc (by simpa [World.setCell] using HB5.out.size) (.cells #[.slice p' m' cap'] 24)
        have HK1s := Lib.hid k1s
        have HZZ := Lib.hid hzz
        have a0 : w5.cell? ⟨w2.heap.size, 0, none⟩ = some (.slice p m cap) := by rw [k1.cell]; rfl
        have b0 : w5.cell? ⟨w2.heap.size + 1, 0, none⟩ = some (.int .i64 0) := by rw [k2.cell]; rfl
        have b1 : w5.cell? ⟨w2.heap.size + 1, 1, none⟩ = some (.int .i64 0) := by rw [k2.cell]; rfl
        have f0 := k2.frozen 0
        have f1 := k2.frozen 1
        have l1 := k1.lt
        have l2 := k2.lt
        clear hb5 hcall k1 k2 hbl hTs hTs' hsl k1s hzz hT' hF' hck' hN' hH' hm'
        go_wp2_with (go_at_call 20; refine hsame.mono ?_; rintro e w6 ⟨rfl, hb6⟩; have k6 := HK1s.out.below hb6 HK1s.out.lt; have d0 : w6.cell? ⟨w2.heap.size + 1, 0, none⟩ = some (.int .i64 0) := (by rw [k6.cell]; rfl); have d1 : w6.cell? ⟨w2.heap.size + 1, 1, none⟩ = some (.int .i64 0) := (by rw [k6.cell]; rfl); have g0 := k6.frozen 0; have g1 := k6.frozen 1; have l6 := k6.lt)
        (try go_ret)
        exact ⟨rfl, ((HZZ.out.trans (hb6.mono HZZ.out.size)).setCell (p := ⟨w2.heap.size + 1, 0, none⟩) (Nat.le_succ_of_le hz2) _).setCell (p := ⟨w2.heap.size + 1, 1, none⟩) (Nat.le_succ_of_le hz2) _⟩
    · have q : decide ((1900 : Int) < (s.size : Int)) = true := decide_eq_true (by omega)
      obtain ⟨n, R, hR, he, ho⟩ := hr
      have HV := Lib.hid (expr_view (s := s) (HE.out) hs)
      have hpx : Hid (∀ W, Env W → Calls Tryz.prog 11 #[.string s] W (ParR (.ok s0) W)) := fun W hW => pexpr_of ⟨n, R, hR, he, ho⟩ hW hs
      clear HV hR he ho
      go_enter Tryz.func6, Tryz.ntmps6
      go_wp2_with (go_at_call 16; refine hfa.mono ?_; rintro e w1 ⟨rfl, hb1⟩)
      refine (hpx.out _ (HE.out.below hb1)).mono ?_
      rintro e w2 ⟨hb2, p, cap, ns, rfl, hT, hF, hl5, hN, hH⟩
      obtain ⟨m, hm⟩ : ∃ m, m = ns.length := ⟨_, rfl⟩
      rw [← hm]
      have hm5 : m ≤ 5000000 := by omega
      have HB2 := Lib.hid (hb1.trans (hb2.mono hb1.size))
      clear hb1 hb2 hfa hT hF hl5 hN hH hm hpx
      go_wp2
      (try go_ret)
      exact ⟨rfl, (HB2.out.alloc HB2.out.size _).alloc (by simp; have := HB2.out.size; omega) _⟩
end Go.Proofs.YtbjacclfhgnffaaGreatDoor
