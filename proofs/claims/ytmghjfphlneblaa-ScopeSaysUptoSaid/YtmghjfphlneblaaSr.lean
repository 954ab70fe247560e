/-
  Contract of the document's declare, where the name is there already.
-/
import Derived.Test.YtmghjfphlneblaaSq
namespace Go.Proofs.Ytmghjfphlneblaa.Sc
open Go.RowKit
open Tr

theorem tx_text {l : List Nd} {k : Nat} (hk : k < l.length) {t : ByteArray} (ht : t = l[k].t) : t.toList = tx l k := by rw [ht, Lib.toList_data]; simp [tx, hk]
/-- what the walk of a loop over what is declared wants of the i-th -/
theorem Rf.at {w0 w : World} {l : List Nd} {b o : Nat} {E : Env} {of : List Int} {ph pr : Option Addr} {kh kr O oc : Nat} (h : Rf w0 w l (some ⟨b, o, none⟩) E of (.slice ph E.length kh) (.slice pr E.length kr) O oc) {i : Nat} (hi : i < E.length) :
    ∃ gh gr, ph = some ⟨gh, 0, none⟩ ∧ pr = some ⟨gr, 0, none⟩ ∧ gh < w.heap.size ∧ gr < w.heap.size ∧ w0.heap.size ≤ gh ∧ w0.heap.size ≤ gr ∧ w.cell? ⟨gh, i, none⟩ = some (.int .i64 ((E[i]).1 : Int)) ∧ w.cell? ⟨gr, i, none⟩ = some (.int .i64 ((E[i]).2 : Int)) ∧ (E[i]).1 < l.length ∧
      ∃ t : ByteArray, t.toList = tx l (E[i]).1 ∧ w.cell? ⟨b, o + (E[i]).1 * 6 + 1, none⟩ = some (.string t) ∧ w.cell? ⟨b, o + (E[i]).1 * 6, none⟩ = some (.int .i64 (kindAt l (E[i]).1)) := by
  obtain ⟨gh, rfl, h1, h2, _, _, h3, h4⟩ := row_at h.has (by omega)
  obtain ⟨gr, rfl, k1, k2, _, _, k3, k4⟩ := row_at h.rom (by omega)
  have hx := h.env _ (List.getElem_mem hi)
  obtain ⟨b', o', e, _, hN⟩ := h.nodeAt hx
  cases e
  obtain ⟨c0, c1, _⟩ := hN _ hx w h.bel
  refine ⟨gh, gr, rfl, rfl, h2, k2, h1, k1, ?_, ?_, hx, l[(E[i]).1].t, tx_text hx rfl, c1, by rw [kindAt_get hx]; exact c0⟩
  · have := (h4 i (by rw [hasL_len]; exact hi)).1; rw [hasL_get hi] at this; exact this
  · have := (k4 i (by rw [roomL_len]; exact hi)).1; rw [roomL_get hi] at this; exact this
/-- no such name among the first -/
def NoHit (l : List Nd) (E : Env) (now k i : Nat) : Prop := ∀ j, (h : j < E.length) → j < i → ¬ ((E[j]).2 = now ∧ tx l (E[j]).1 = tx l k)
theorem NoHit.step {l : List Nd} {E : Env} {now k i : Nat} (h : NoHit l E now k i) (hi : i < E.length) (hn : ¬ ((E[i]).2 = now ∧ tx l (E[i]).1 = tx l k)) : NoHit l E now k (i + 1) := fun j hj hji => by
  by_cases e : j = i
  · subst e; exact hn
  · exact h j hj (by omega)
/-- three new boxes -/
structure Box3 (w wr : World) (A3 A4 A6 : Array Value) : Prop where
  b3 : Blk wr w.heap.size 44 A3
  b4 : Blk wr (w.heap.size + 1) 24 A4
  b6 : Blk wr (w.heap.size + 1 + 1) 44 A6
  bel : Below w.heap.size w wr
theorem Box3.new (w : World) (A3 A4 A6 : Array Value) : Box3 w (((w.alloc (.cells A3 44)).alloc (.cells A4 24)).alloc (.cells A6 44)) A3 A4 A6 where
  b3 := ((Blk.new w _ _).alloc _).alloc _
  b4 := by have := (Blk.new (w.alloc (.cells A3 44)) 24 A4).alloc (.cells A6 44); rwa [World.size_alloc] at this
  b6 := by have := Blk.new ((w.alloc (.cells A3 44)).alloc (.cells A4 24)) 44 A6; rwa [World.size_alloc, World.size_alloc] at this
  bel := (((Below.refl w.heap.size w).alloc (Nat.le_refl _) _).alloc (by simp) _).alloc (by simp; omega) _
theorem Box3.drewN {w wr : World} {A3 A4 A6 : Array Value} (h : Box3 w wr A3 A4 A6) (n : Nat) : Box3 w (wr.drewN n) A3 A4 A6 := ⟨h.b3, h.b4, h.b6, below_drewN h.bel n⟩
theorem Box3.below {w wr w2 : World} {A3 A4 A6 : Array Value} (h : Box3 w wr A3 A4 A6) (hb : Below wr.heap.size wr w2) : Box3 w w2 A3 A4 A6 :=
  ⟨h.b3.below hb h.b3.lt, h.b4.below hb h.b4.lt, h.b6.below hb h.b6.lt, h.bel.trans (hb.mono h.bel.size)⟩
/-- a box of six that is written -/
def st6 (W : World) (g : Nat) (a b c d e f : Value) : World := (((((W.setCell ⟨g, 0, none⟩ a).setCell ⟨g, 1, none⟩ b).setCell ⟨g, 2, none⟩ c).setCell ⟨g, 3, none⟩ d).setCell ⟨g, 4, none⟩ e).setCell ⟨g, 5, none⟩ f
theorem st6_blk {W : World} {g : Nat} {t : TypeId} {x0 x1 x2 x3 x4 x5 : Value} (h : Blk W g t #[x0, x1, x2, x3, x4, x5]) (a b c d e f : Value) : Blk (st6 W g a b c d e f) g t #[a, b, c, d, e, f] := by
  have := (((((h.set_ 0 a).set_ 1 b).set_ 2 c).set_ 3 d).set_ 4 e).set_ 5 f
  simpa [st6] using this
theorem st6_far {W : World} {g B : Nat} {t : TypeId} {cs : Array Value} (h : Blk W B t cs) (hne : B ≠ g) (a b c d e f : Value) : Blk (st6 W g a b c d e f) B t cs :=
  (((((h.far (p := ⟨g, 0, none⟩) hne a).far (p := ⟨g, 1, none⟩) hne b).far (p := ⟨g, 2, none⟩) hne c).far (p := ⟨g, 3, none⟩) hne d).far (p := ⟨g, 4, none⟩) hne e).far (p := ⟨g, 5, none⟩) hne f
theorem st6_below {N g : Nat} {W0 W : World} (h : Below N W0 W) (hg : N ≤ g) (a b c d e f : Value) : Below N W0 (st6 W g a b c d e f) :=
  (((((h.setCell (p := ⟨g, 0, none⟩) hg a).setCell (p := ⟨g, 1, none⟩) hg b).setCell (p := ⟨g, 2, none⟩) hg c).setCell (p := ⟨g, 3, none⟩) hg d).setCell (p := ⟨g, 4, none⟩) hg e).setCell (p := ⟨g, 5, none⟩) hg f
/-- the cells of a box of six -/
theorem six {W : World} {g : Nat} {t : TypeId} {x0 x1 x2 x3 x4 x5 : Value} (h : Blk W g t #[x0, x1, x2, x3, x4, x5]) : W.cell? ⟨g, 0, none⟩ = some x0 ∧ W.cell? ⟨g, 1, none⟩ = some x1 ∧ W.cell? ⟨g, 2, none⟩ = some x2 ∧ W.cell? ⟨g, 3, none⟩ = some x3 ∧ W.cell? ⟨g, 4, none⟩ = some x4 ∧ W.cell? ⟨g, 5, none⟩ = some x5 :=
  ⟨by rw [h.cell]; rfl, by rw [h.cell]; rfl, by rw [h.cell]; rfl, by rw [h.cell]; rfl, by rw [h.cell]; rfl, by rw [h.cell]; rfl⟩
def zroom : Array Value := #[.slice none 0 0, .slice none 0 0, .int .i64 0, .int .i64 0, .int .i64 0, .slice none 0 0]
set_option maxHeartbeats 8000000 in
set_option maxRecDepth 100000 in
theorem rdecl_no {w0 w : World} {l : List Nd} {p : Option Addr} {E : Env} {of : List Int} {ph pr : Option Addr} {kh kr O oc cap now k : Nat} (h : Rf w0 w l p E of (.slice ph E.length kh) (.slice pr E.length kr) O oc) (hk : k < l.length) (hl : l.length ≤ 600) (hE : E.length ≤ 1000000) (hn : (roomF l E now (tx l k)).isSome = true) :
    Calls Try.prog 13 #[rmV ph pr E.length kh kr now 0 0 O l.length oc, .agg #[.slice p l.length cap], .int .i64 k] w fun e w' => e = .returned (rmV ph pr E.length kh kr now 7 k O l.length oc) ∧ Below w.heap.size w w' := by
  unfold rmV
  obtain ⟨b, o, rfl, hb, hN⟩ := h.nodeAt hk
  obtain ⟨c0, c1, c2, c3, c4, c5⟩ := hN k hk w h.bel
  obtain ⟨tk, htk⟩ : ∃ tk, tk = l[k].t := ⟨_, rfl⟩
  have htk2 := tx_text hk htk
  rw [← htk] at c1
  have hbb : b < w.heap.size := Nat.lt_of_lt_of_le hb h.bel.size
  obtain ⟨i0, hi0, hi1, hi2⟩ := decl_hit.1 hn
  have HIT := Lib.hid (show ∃ i0, ∃ _ : i0 < E.length, (E[i0]).2 = now ∧ tx l (E[i0]).1 = tx l k from ⟨i0, hi0, hi1, hi2⟩)
  obtain ⟨n, hnn⟩ : ∃ n, n = E.length := ⟨_, rfl⟩
  have HH : Hid (Rf w0 w l (some ⟨b, o, none⟩) E of (.slice ph n kh) (.slice pr n kr) O oc) := by rw [hnn]; exact h
  rw [← hnn]
  rw [← hnn] at hE
  obtain ⟨ln, hln⟩ : ∃ ln, ln = l.length := ⟨_, rfl⟩
  rw [← hln]
  have hln6 : ln ≤ 600 := by omega
  have hkl : k < ln := by omega
  have HN := Lib.hid hnn
  have HLN := Lib.hid hln
  have HTK := Lib.hid htk2
  obtain ⟨nw, hnw⟩ : ∃ nw : Int, nw = (now : Int) := ⟨_, rfl⟩
  rw [← hnw]
  have HNW := Lib.hid hnw
  clear h hN hn hi0 hi1 hi2 c0 c2 c3 c4 c5 htk htk2 hnn hln hnw hk hl
  go_enter Try.func13, Try.ntmps13
  go_wp2
  obtain ⟨w3, hw3⟩ : ∃ w3, w3 = ((w.alloc (.cells #[.slice ph n kh, .slice pr n kr, .int .i64 nw, .int .i64 0, .int .i64 0, .slice (some ⟨O, 0, none⟩) ln oc] 44)).alloc (.cells #[.slice (some ⟨b, o, none⟩) ln cap] 24)).alloc (.cells #[.slice none 0 0, .slice none 0 0, .int .i64 0, .int .i64 0, .int .i64 0, .slice none 0 0] 44) := ⟨_, rfl⟩
  have hB := Box3.new w #[.slice ph n kh, .slice pr n kr, .int .i64 nw, .int .i64 0, .int .i64 0, .slice (some ⟨O, 0, none⟩) ln oc] #[.slice (some ⟨b, o, none⟩) ln cap] #[.slice none 0 0, .slice none 0 0, .int .i64 0, .int .i64 0, .int .i64 0, .slice none 0 0]
  rw [← hw3] at hB ⊢
  have H0 : Hid (NoHit l E now k 0) := fun j _ h => by omega
  clear hw3
  go_loopw [7] (fun v wr => ∃ i : Nat, i ≤ n ∧ v = .int .i64 i ∧ Hid (NoHit l E now k i) ∧ Hid (Box3 w wr #[.slice ph n kh, .slice pr n kr, .int .i64 nw, .int .i64 0, .int .i64 0, .slice (some ⟨O, 0, none⟩) ln oc] #[.slice (some ⟨b, o, none⟩) ln cap] #[.slice none 0 0, .slice none 0 0, .int .i64 0, .int .i64 0, .int .i64 0, .slice none 0 0])) (fun v _ => n - (intOf v).toNat)
  case atStart => exact ⟨0, Nat.zero_le _, rfl, H0.out, hB⟩
  clear H0 hB c1
  obtain ⟨i, hi, rfl, HNo, HB⟩ := hrel
  have hB := HB.out
  have lB : w.heap.size + 1 + 1 < wr.heap.size := hB.b6.lt
  have x0 : wr.cell? ⟨w.heap.size, 0, none⟩ = some (.slice ph n kh) := by rw [hB.b3.cell]; rfl
  have x1 : wr.cell? ⟨w.heap.size, 1, none⟩ = some (.slice pr n kr) := by rw [hB.b3.cell]; rfl
  have x2 : wr.cell? ⟨w.heap.size, 2, none⟩ = some (.int .i64 nw) := by rw [hB.b3.cell]; rfl
  have x4 : wr.cell? ⟨w.heap.size + 1, 0, none⟩ = some (.slice (some ⟨b, o, none⟩) ln cap) := by rw [hB.b4.cell]; rfl
  have hltn : i < n := by
    rcases Nat.lt_or_ge i n with h | h
    · exact h
    · obtain ⟨i0, h1, h2⟩ := HIT.out
      exact absurd h2 (HNo.out i0 h1 (by have := HN.out; omega))
  have hlt := hltn
  have hr : Rf w0 wr l (some ⟨b, o, none⟩) E of (.slice ph n kh) (.slice pr n kr) O oc := HH.out.below hB.bel
  have hiE : i < E.length := by have := HN.out; omega
  have hat : _ := Rf.at (E := E) (i := i) (by rw [← HN.out]; exact hr) hiE
  obtain ⟨gh, gr, rfl, rfl, g1, g2, g3, g4, g5, g6, g7, t, ht, g8, g9⟩ := hat
  obtain ⟨b', o', e', _, hN'⟩ := hr.nodeAt (k := k) (by have := HLN.out; omega)
  cases e'
  obtain ⟨c0, c1, _⟩ := hN' k (by have := HLN.out; omega) wr hr.bel
  have hbw : b < wr.heap.size := Nat.lt_of_lt_of_le hbb hB.bel.size
  obtain ⟨tk', htk'⟩ : ∃ tk', tk' = (l[k]'(by have := HLN.out; omega)).t := ⟨_, rfl⟩
  have htk2 := tx_text (by have := HLN.out; omega) htk'
  rw [← htk'] at c1
  obtain ⟨xi, hxi⟩ : ∃ xi, xi = (E[i]).1 := ⟨_, rfl⟩
  obtain ⟨ri, hri⟩ : ∃ ri : Int, ri = ((E[i]).2 : Int) := ⟨_, rfl⟩
  have hxl : xi < ln := by have := HLN.out; omega
  have HRI := Lib.hid hri
  have HXI := Lib.hid hxi
  rw [← hxi] at g5 g8 ht
  rw [← hri] at g6
  have HT1 := Lib.hid ht
  have HT2 := Lib.hid htk2
  clear hB hr hN' c0 g9 hxi hri htk' ht htk2 g7
  by_cases hroom : ri = nw
  · have d1 : (ri == nw) = true := by simpa using hroom
    by_cases htext : t.toList = tk'.toList
    · have d2 : (t.toList == tk'.toList) = true := by simpa using htext
      clear hroom htext
      go_wp2
      go_quiet (fail)
      go_wp2_with (go_at_call 12; refine (rfault_any _ _ _).mono ?_)
      rintro e w5 ⟨rfl, hb5⟩
      have hB5 := (HB.out.drewN _).below hb5
      obtain ⟨y0, y1, y2, y3, y4, y5⟩ := six hB5.b3
      obtain ⟨z0, z1, z2, z3, z4, z5⟩ := six hB5.b6
      have f3 := hB5.b3.frozen 3
      have f4 := hB5.b3.frozen 4
      have q0 := hB5.b6.frozen 0
      have q1 := hB5.b6.frozen 1
      have q2 := hB5.b6.frozen 2
      have q3 := hB5.b6.frozen 3
      have q4 := hB5.b6.frozen 4
      have q5 := hB5.b6.frozen 5
      have l6 := hB5.b6.lt
      have HB5 := Lib.hid hB5
      clear hB5 hb5 x0 x1 x2 x4 c1 g5 g6 g8
      go_wp2
      have hz := st6_blk (((HB5.out.b6.far (p := ⟨w.heap.size, 3, none⟩) (by simp; omega) (.int .i64 7)).far (p := ⟨w.heap.size, 4, none⟩) (by simp; omega) (.int .i64 k))) (.slice (some ⟨gh, 0, none⟩) n kh) (.slice (some ⟨gr, 0, none⟩) n kr) (.int .i64 nw) (.int .i64 7) (.int .i64 k) (.slice (some ⟨O, 0, none⟩) ln oc)
      obtain ⟨v0, v1, v2, v3, v4, v5⟩ := six hz
      unfold st6 at v0 v1 v2 v3 v4 v5
      refine bodyPost_ret (v := .agg #[.slice (some ⟨gh, 0, none⟩) n kh, .slice (some ⟨gr, 0, none⟩) n kr, .int .i64 nw, .int .i64 7, .int .i64 k, .slice (some ⟨O, 0, none⟩) ln oc]) (by simp [results, Try.results13, go_sem, v0, v1, v2, v3, v4, v5]) rfl ?_
      exact ⟨rfl, st6_below ((HB5.out.bel.setCell (p := ⟨w.heap.size, 3, none⟩) (Nat.le_refl _) _).setCell (p := ⟨w.heap.size, 4, none⟩) (Nat.le_refl _) _) (by omega) _ _ _ _ _ _⟩
    · have d2 : (t.toList == tk'.toList) = false := by simpa using htext
      have HNo2 : Hid (NoHit l E now k (i + 1)) := HNo.out.step hiE fun hc => htext (by rw [HT1.out, HT2.out, HXI.out]; exact hc.2)
      clear hroom htext
      go_wp2
      go_quiet (fail)
      go_wp2
      go_roundw
      case rel => exact ⟨i + 1, by omega, by go_num, HNo2.out, HB.out.drewN _⟩
      case measure => simp [intOf]; omega
  · have d1 : (ri == nw) = false := by simpa using hroom
    have HNo2 : Hid (NoHit l E now k (i + 1)) := HNo.out.step hiE fun hc => hroom (by rw [HRI.out, HNW.out, hc.1])
    clear hroom
    go_wp2
    go_quiet (fail)
    go_wp2
    go_roundw
    case rel => exact ⟨i + 1, by omega, by go_num, HNo2.out, HB.out.drewN _⟩
    case measure => simp [intOf]; omega
end Go.Proofs.Ytmghjfphlneblaa.Sc
