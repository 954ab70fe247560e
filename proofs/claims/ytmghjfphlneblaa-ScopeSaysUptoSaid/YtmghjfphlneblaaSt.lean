/-
  Contract of the document's find: the innermost room first.
-/
import Derived.Test.YtmghjfphlneblaaSr
namespace Go.Proofs.Ytmghjfphlneblaa.Sc
open Go.RowKit
open Tr

/-- what find gives -/
def fndV (l : List Nd) (E : Env) (s : List UInt8) (now : Nat) : Int := match findF l E s (now + 1) with
  | some j => (j : Int)
  | none => -1
/-- two new boxes -/
structure Box2 (w wr : World) (A3 A4 : Array Value) : Prop where
  b3 : Blk wr w.heap.size 44 A3
  b4 : Blk wr (w.heap.size + 1) 24 A4
  bel : Below w.heap.size w wr
theorem Box2.new (w : World) (A3 A4 : Array Value) : Box2 w ((w.alloc (.cells A3 44)).alloc (.cells A4 24)) A3 A4 where
  b3 := (Blk.new w _ _).alloc _
  b4 := by have := Blk.new (w.alloc (.cells A3 44)) 24 A4; rwa [World.size_alloc] at this
  bel := ((Below.refl w.heap.size w).alloc (Nat.le_refl _) _).alloc (by simp) _
theorem Box2.drewN {w wr : World} {A3 A4 : Array Value} (h : Box2 w wr A3 A4) (n : Nat) : Box2 w (wr.drewN n) A3 A4 := ⟨h.b3, h.b4, below_drewN h.bel n⟩
set_option maxHeartbeats 16000000 in
set_option maxRecDepth 100000 in
theorem rfind_any {w0 w : World} {l : List Nd} {p : Option Addr} {E : Env} {of : List Int} {ph pr : Option Addr} {kh kr O oc cap now : Nat} (h : Rf w0 w l p E of (.slice ph E.length kh) (.slice pr E.length kr) O oc) (h0 : 0 < l.length) (hl : l.length ≤ 600) (hE : E.length ≤ 100000) (hrm : ∀ x ∈ E, x.2 ≤ now) (s : ByteArray) :
    Calls Try.prog 40 #[.agg #[.slice ph E.length kh, .slice pr E.length kr, .int .i64 now, .int .i64 0, .int .i64 0, .slice (some ⟨O, 0, none⟩) l.length oc], .agg #[.slice p l.length cap], .string s] w fun e w' => e = .returned (.int .i64 (fndV l E s.toList now)) ∧ Below w.heap.size w w' := by
  obtain ⟨Q, hQ⟩ : ∃ Q : Ending → World → Prop, Q = fun e w' => e = .returned (.int .i64 (fndV l E s.toList now)) ∧ Below w.heap.size w w' := ⟨_, rfl⟩
  rw [← hQ]
  have HQ := Lib.hid hQ
  clear hQ
  obtain ⟨b, o, rfl, hb, hN⟩ := h.nodeAt h0
  have hbb : b < w.heap.size := Nat.lt_of_lt_of_le hb h.bel.size
  obtain ⟨n, hnn⟩ : ∃ n, n = E.length := ⟨_, rfl⟩
  have HH : Hid (Rf w0 w l (some ⟨b, o, none⟩) E of (.slice ph n kh) (.slice pr n kr) O oc) := by rw [hnn]; exact h
  rw [← hnn]
  rw [← hnn] at hE
  obtain ⟨ln, hln⟩ : ∃ ln, ln = l.length := ⟨_, rfl⟩
  rw [← hln]
  have hln6 : ln ≤ 600 := by omega
  have HN := Lib.hid hnn
  have HLN := Lib.hid hln
  have HRM := Lib.hid hrm
  obtain ⟨nw, hnw⟩ : ∃ nw : Int, nw = (now : Int) := ⟨_, rfl⟩
  rw [← hnw]
  clear h hN hnn hln hnw h0 hl hrm
  go_enter Try.func40, Try.ntmps40
  go_wp2
  obtain ⟨w3, hw3⟩ : ∃ w3, w3 = ((w.alloc (.cells #[.slice ph n kh, .slice pr n kr, .int .i64 nw, .int .i64 0, .int .i64 0, .slice (some ⟨O, 0, none⟩) ln oc] 44)).alloc (.cells #[.slice (some ⟨b, o, none⟩) ln cap] 24)) := ⟨_, rfl⟩
  have hB := Box2.new w #[.slice ph n kh, .slice pr n kr, .int .i64 nw, .int .i64 0, .int .i64 0, .slice (some ⟨O, 0, none⟩) ln oc] #[.slice (some ⟨b, o, none⟩) ln cap]
  rw [← hw3] at hB ⊢
  have H0 : Hid (Best l E s.toList 0 (-1)) := Best.zero _ _ _
  clear hw3
  go_loopw [7, 8] (fun vb v wr => ∃ (i : Nat) (bv : Int), i ≤ n ∧ v = .int .i64 i ∧ vb = .int .i64 bv ∧ Hid (Best l E s.toList i bv) ∧ Hid (Box2 w wr #[.slice ph n kh, .slice pr n kr, .int .i64 nw, .int .i64 0, .int .i64 0, .slice (some ⟨O, 0, none⟩) ln oc] #[.slice (some ⟨b, o, none⟩) ln cap])) (fun _ v _ => n - (intOf v).toNat)
  case atStart => exact ⟨0, -1, Nat.zero_le _, rfl, rfl, H0.out, hB⟩
  clear H0 hB
  obtain ⟨i, bv, hi, rfl, rfl, HBe, HB⟩ := hrel
  have hB := HB.out
  have lB : w.heap.size + 1 < wr.heap.size := hB.b4.lt
  have lB0 : w.heap.size < wr.heap.size := hB.b3.lt
  have x0 : wr.cell? ⟨w.heap.size, 0, none⟩ = some (.slice ph n kh) := by rw [hB.b3.cell]; rfl
  have x1 : wr.cell? ⟨w.heap.size, 1, none⟩ = some (.slice pr n kr) := by rw [hB.b3.cell]; rfl
  have x4 : wr.cell? ⟨w.heap.size + 1, 0, none⟩ = some (.slice (some ⟨b, o, none⟩) ln cap) := by rw [hB.b4.cell]; rfl
  have hr : Rf w0 wr l (some ⟨b, o, none⟩) E of (.slice ph n kh) (.slice pr n kr) O oc := HH.out.below hB.bel
  by_cases hlt : i < n
  · have hiE : i < E.length := by have := HN.out; omega
    have hat : _ := Rf.at (E := E) (i := i) (by rw [← HN.out]; exact hr) hiE
    obtain ⟨gh, gr, rfl, rfl, g1, g2, g3, g4, g5, g6, g7, t, ht, g8, g9⟩ := hat
    have hbw : b < wr.heap.size := Nat.lt_of_lt_of_le hbb hB.bel.size
    obtain ⟨xi, hxi⟩ : ∃ xi, xi = (E[i]).1 := ⟨_, rfl⟩
    obtain ⟨ri, hri⟩ : ∃ ri : Int, ri = ((E[i]).2 : Int) := ⟨_, rfl⟩
    have hxl : xi < ln := by have := HLN.out; omega
    have HRI := Lib.hid hri
    have HXI := Lib.hid hxi
    rw [← hxi] at g5 g8 ht
    rw [← hri] at g6
    have HT1 := Lib.hid ht
    clear g9 hxi hri ht g7
    by_cases htext : t.toList = s.toList
    · have d2 : (t.toList == s.toList) = true := by simpa using htext
      have HTX := Lib.hid (show tx l (E[i]).1 = s.toList by rw [← HXI.out, ← HT1.out]; exact htext)
      by_cases hneg : bv < 0
      · have hb1 : bv = -1 := by
          rcases HBe.out with ⟨h, _⟩ | ⟨q, _, _, h, _⟩
          · exact h
          · omega
        have HBe2 : Hid (Best l E s.toList (i + 1) i) := HBe.out.take hiE HTX.out (Or.inl hb1)
        have d3 : decide (bv < 0) = true := decide_eq_true hneg
        clear hB hr htext hneg hb1
        go_wp2
        go_quiet (fail)
        go_wp2
        go_roundw
        case rel => exact ⟨i + 1, i, by omega, by go_num, rfl, HBe2.out, HB.out.drewN _⟩
        case measure => simp [intOf]; omega
      · obtain ⟨q, hqE, hq, hv⟩ : ∃ q : Nat, ∃ _ : q < E.length, q < i ∧ bv = (q : Int) := by
          rcases HBe.out with ⟨h, _⟩ | ⟨q, h1, h2, h3, _⟩
          · omega
          · exact ⟨q, h1, h2, h3⟩
        subst hv
        have hat2 : _ := Rf.at (E := E) (i := q) (by rw [← HN.out]; exact hr) hqE
        obtain ⟨gh', gr', e1, e2, _, _, _, _, _, k6, _⟩ := hat2
        cases e1; cases e2
        obtain ⟨rq, hrq⟩ : ∃ rq : Int, rq = ((E[q]).2 : Int) := ⟨_, rfl⟩
        rw [← hrq] at k6
        have HRQ := Lib.hid hrq
        have hqn : q < n := by omega
        have d3 : decide ((q : Int) < 0) = false := decide_eq_false (by omega)
        by_cases hgt : rq < ri
        · have HBe2 : Hid (Best l E s.toList (i + 1) i) := HBe.out.take hiE HTX.out (Or.inr ⟨q, hqE, rfl, by have h1 := HRQ.out; have h2 := HRI.out; omega⟩)
          have d4 : decide (rq < ri) = true := decide_eq_true hgt
          clear hB hr htext hneg hrq hgt
          go_wp2
          go_quiet (fail)
          go_wp2
          go_roundw
          case rel => exact ⟨i + 1, i, by omega, by go_num, rfl, HBe2.out, HB.out.drewN _⟩
          case measure => simp [intOf]; omega
        · have HBe2 : Hid (Best l E s.toList (i + 1) q) := HBe.out.stay hiE hqE (by have h1 := HRQ.out; have h2 := HRI.out; omega)
          have d4 : decide (rq < ri) = false := decide_eq_false hgt
          clear hB hr htext hneg hrq hgt
          go_wp2
          go_quiet (fail)
          go_wp2
          go_roundw
          case rel => exact ⟨i + 1, q, by omega, by go_num, rfl, HBe2.out, HB.out.drewN _⟩
          case measure => simp [intOf]; omega
    · have d2 : (t.toList == s.toList) = false := by simpa using htext
      have HBe2 : Hid (Best l E s.toList (i + 1) bv) := HBe.out.skip hiE fun hc => htext (by rw [HT1.out, HXI.out]; exact hc)
      clear hB hr htext
      go_wp2
      go_quiet (fail)
      go_wp2
      go_roundw
      case rel => exact ⟨i + 1, bv, by omega, by go_num, rfl, HBe2.out, HB.out.drewN _⟩
      case measure => simp [intOf]; omega
  · have HBel := Lib.hid hB.bel
    rcases HBe.out.end_ (by have := HN.out; omega) HH.out.uni HRM.out with ⟨rfl, hf⟩ | ⟨q, hqE, rfl, hf⟩
    · have HF := Lib.hid (show fndV l E s.toList now = -1 by unfold fndV; rw [hf])
      clear hB hr hf
      go_wp2
      (try go_ret)
      rw [HQ.out, HF.out]
      exact ⟨rfl, HBel.out⟩
    · have HF := Lib.hid (show fndV l E s.toList now = ((E[q]).1 : Int) by unfold fndV; rw [hf])
      have hat2 : _ := Rf.at (E := E) (i := q) (by rw [← HN.out]; exact hr) hqE
      obtain ⟨gh', gr', rfl, rfl, k1, _, _, _, k5, _⟩ := hat2
      have hqn : q < n := by have := HN.out; omega
      have d3 : decide ((q : Int) < 0) = false := decide_eq_false (by omega)
      obtain ⟨xq, hxq⟩ : ∃ xq : Int, xq = ((E[q]).1 : Int) := ⟨_, rfl⟩
      rw [← hxq] at k5
      have HXQ := Lib.hid hxq
      clear hB hr hf hxq
      go_wp2
      (try go_ret)
      rw [HQ.out, HF.out, ← HXQ.out]
      exact ⟨rfl, HBel.out⟩
end Go.Proofs.Ytmghjfphlneblaa.Sc
