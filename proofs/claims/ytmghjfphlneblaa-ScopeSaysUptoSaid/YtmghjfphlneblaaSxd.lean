/-
  Contracts of the document's look: a call.
-/
import Derived.Test.YtmghjfphlneblaaSxc
namespace Go.Proofs.Ytmghjfphlneblaa.Sc
open Go.RowKit
open Tr

/-- which function a call has found among the first -/
def Cal (l : List Nd) (E : Env) (s : List UInt8) (i : Nat) (v : Int) : Prop :=
  (v = -1 ∧ ∀ j, (h : j < E.length) → j < i → ¬ ((E[j]).2 = 0 ∧ tx l (E[j]).1 = s ∧ kindAt l (E[j]).1 = 3)) ∨ ∃ j, ∃ h : j < E.length, v = ((E[j]).1 : Int) ∧ (E[j]).2 = 0 ∧ tx l (E[j]).1 = s ∧ kindAt l (E[j]).1 = 3
theorem Cal.skip {l : List Nd} {E : Env} {s : List UInt8} {i : Nat} {v : Int} (h : Cal l E s i v) (hi : i < E.length) (hn : ¬ ((E[i]).2 = 0 ∧ tx l (E[i]).1 = s ∧ kindAt l (E[i]).1 = 3)) : Cal l E s (i + 1) v := by
  rcases h with ⟨h1, h2⟩ | h
  · refine Or.inl ⟨h1, fun j hj hji => ?_⟩
    by_cases e : j = i
    · subst e; exact hn
    · exact h2 j hj (by omega)
  · exact Or.inr h
theorem Cal.end_ {l : List Nd} {E : Env} {s : List UInt8} {i : Nat} {v : Int} (h : Cal l E s i v) (hi : E.length ≤ i) (hu : Uni l E) : (v = -1 ∧ ∀ j, roomF l E 0 s = some j → kindAt l j ≠ 3) ∨ ∃ j : Nat, v = (j : Int) ∧ roomF l E 0 s = some j ∧ kindAt l j = 3 ∧ ∃ x ∈ E, x.1 = j ∧ x.2 = 0 := by
  rcases h with ⟨h1, h2⟩ | ⟨j, hj, h1, h2, h3, h4⟩
  · refine Or.inl ⟨h1, fun j hr h3 => ?_⟩
    obtain ⟨x, hx, e1, e2, e3⟩ := roomF_mem hr
    obtain ⟨q, hq, rfl⟩ := List.getElem_of_mem hx
    subst e1
    exact h2 q hq (by omega) ⟨e2, e3, h3⟩
  · exact Or.inr ⟨(E[j]).1, h1, roomF_index hu hj h2 h3, h4, _, List.getElem_mem hj, rfl, h2⟩
theorem callF_no {l : List Nd} {k : Nat} {E : Env} (h : ∀ j, roomF l E 0 (tx l k) = some j → kindAt l j ≠ 3) (hl : libB (tx l k) = false) : callF l k E = .bad 6 k := by
  unfold callF
  rw [hl]
  cases hr : roomF l E 0 (tx l k) with
  | none => rfl
  | some j => exact if_neg (h j hr)
theorem callF_lib {l : List Nd} {k : Nat} {E : Env} (hl : libB (tx l k) = true) : callF l k E = .ok E [(k, -1)] := by
  unfold callF
  rw [hl]; rfl
theorem callF_yes {l : List Nd} {k j : Nat} {E : Env} (h : roomF l E 0 (tx l k) = some j) (h3 : kindAt l j = 3) (hl : libB (tx l k) = false) : callF l k E = .ok E [(k, (j : Int))] := by
  unfold callF
  rw [hl, h]
  exact if_pos h3
set_option maxHeartbeats 16000000 in
set_option maxRecDepth 100000 in
theorem look_call {w0 w : World} {l : List Nd} {p : Option Addr} {E : Env} {of : List Int} {ph pr : Option Addr} {kh kr O oc cap now k q f : Nat} (hV : LookOK w0 l p cap O oc f) (hC : ∀ j, j < l.length → codeAt l j = 0) (hl : l.length ≤ 600) (h : Rf w0 w l p E of (.slice ph E.length kh) (.slice pr E.length kr) O oc) (hk : k < l.length) (hkf : k < f + 1) (hnow : now + (f + 1) ≤ 1000000) (hE : E.length ≤ q + St l k) (hq : q + (k + 1) ≤ 100000) (hlow : Low l now E)
    (hz : now = 0 → Zk (kindAt l k)) (ht : kindAt l k = 2 ∨ kindAt l k = 3 → of[k]? = some (k : Int)) (h1u : kindAt l k ≠ 1) (h33 : kindAt l k = 33) :
    Calls Try.prog 26 #[.agg #[.slice ph E.length kh, .slice pr E.length kr, .int .i64 now, .int .i64 0, .int .i64 0, .slice (some ⟨O, 0, none⟩) l.length oc], .agg #[.slice p l.length cap], .int .i64 k] w (RfPost w0 w l p of now O oc (look l (f + 1) now k E)) := by
  have h3n : kindAt l k ≠ 3 := by omega
  obtain ⟨pos, hK⟩ := kin_of hk (hC k hk)
  have hz' : now = 0 → ∀ x : Nat, (x : Int) ∈ kidsAt l k → Zk (kindAt l x) := fun e x hx => by
    obtain ⟨j, hj, hjx⟩ := hK.mem hx
    refine hK.kidZ ?_ j hj hjx
    rcases hz e with h | h | h
    · exact Or.inl h
    · exact absurd h h3n
    · exact Or.inr h
  have ht' : ∀ x : Nat, (x : Int) ∈ kidsAt l k → kindAt l x = 2 ∨ kindAt l x = 3 → of[x]? = some (x : Int) := fun x hx e => by
    obtain ⟨j, hj, hjx⟩ := hK.mem hx
    exact absurd e (hK.kidTop h1u j hj hjx)
  have hle := St_le l k
  have ht7 : ∀ of7 : List Int, ∀ x : Nat, (x : Int) ∈ kidsAt l k → kindAt l x = 2 ∨ kindAt l x = 3 → of7[x]? = some (x : Int) := fun of7 x hx e => by
    obtain ⟨j, hj, hjx⟩ := hK.mem hx
    exact absurd e (hK.kidTop h1u j hj hjx)
  have hne := (fine_each (q := q) hK hk (fun x E h1 h2 h3 => fine_look hC f now x q E (by omega) h2 h3) (kidsAt l k).length 0 E (by omega) (by rw [hK.from_]; exact hE)).out
  have hlk : look l (f + 1) now k E = (callF l k E).bind (each (look l f now) (kidsAt l k)) := by
    simp only [look]
    rw [if_neg (by rw [h33]; decide)]
    have ho : own l now k E = callF l k E := by unfold own; rw [if_neg (by rw [h33]; decide), if_neg (by rw [h33]; decide), if_neg (by rw [h33]; decide), if_pos h33]
    rw [ho]
    have hkk : kidsF l (look l f) now k = each (look l f now) (kidsAt l k) := by
      funext E
      unfold kidsF
      rw [if_neg (by rw [h33]; decide)]
    rw [hkk]
  obtain ⟨b, o, hp, hbb, t, nn, zz, aa, cp, kc, htx, c0, c1, c2, c3, c4, c5⟩ := h.node hk
  obtain ⟨r, hr⟩ : ∃ r, r = look l (f + 1) now k E := ⟨_, rfl⟩
  obtain ⟨Q, hQ⟩ : ∃ Q : Ending → World → Prop, Q = RfPost w0 w l p of now O oc r := ⟨_, rfl⟩
  rw [← hr, ← hQ]
  have HQ := Lib.hid hQ
  have HR := Lib.hid hr
  have lO := own_ge h.ofr (g := O) rfl
  have lO2 := lO.2
  have lO1 := lO.1
  have hww := h.bel.size
  have hbb1 : b < w.heap.size + 1 := by omega
  have hbb2 : b < w.heap.size + 1 + 1 := by omega
  have hkl6 : k ≤ 600 := by omega
  obtain ⟨kd, hkd⟩ : ∃ kd, kd = kindAt l k := ⟨_, rfl⟩
  rw [← hkd] at c0
  rw [h33] at hkd
  subst hkd
  have hkd : (33 : Int) = 33 := rfl
  have HLK := Lib.hid hlk
  have HNE := Lib.hid (show each (look l f now) (kidsAt l k) E ≠ .out from hne)
  obtain ⟨cn, hcn⟩ : ∃ cn, cn = (kidsAt l k).length := ⟨_, rfl⟩
  rw [← hcn] at c4
  obtain ⟨w4, hw4⟩ : ∃ w4, w4 = ((((w.alloc (.cells #[.slice ph E.length kh, .slice pr E.length kr, .int .i64 now, .int .i64 0, .int .i64 0, .slice (some ⟨O, 0, none⟩) l.length oc] 44)).alloc (.cells #[.slice p l.length cap] 24)).alloc (.cells #[.slice none 0 0, .slice none 0 0, .int .i64 0, .int .i64 0, .int .i64 0, .slice none 0 0] 44)).alloc (.cells #[.int .i64 33, .string t, .int .i64 nn, .int .i64 zz, .slice cp cn kc, .int .i64 aa] 34)) := ⟨_, rfl⟩
  obtain ⟨hB, hB7, hbel⟩ := four_new w _ _ _ _ _ w4 hw4
  have h4 := h.below hbel
  subst hp
  have HUNI := Lib.hid h.uni
  have HKL := Lib.hid hk
  have HLOW := Lib.hid hlow
  have hE1 : E.length ≤ 100000 := by omega
  obtain ⟨n, hn⟩ : ∃ n, n = E.length := ⟨_, rfl⟩
  obtain ⟨ln, hln⟩ : ∃ ln, ln = l.length := ⟨_, rfl⟩
  obtain ⟨nw, hnw⟩ : ∃ nw : Int, nw = (now : Int) := ⟨_, rfl⟩
  have hln6 : ln ≤ 600 := by omega
  have hkl : k < ln := by omega
  rw [← hn, ← hln, ← hnw] at hw4 hB ⊢
  have HALL : Hid (∀ (w7 : World) (of7 : List Int), Rf w0 w7 l (some ⟨b, o, none⟩) E of7 (.slice ph E.length kh) (.slice pr E.length kr) O oc →
      Calls Try.prog 14 #[.agg #[.slice ph n kh, .slice pr n kr, .int .i64 nw, .int .i64 0, .int .i64 0, .slice (some ⟨O, 0, none⟩) ln oc], .agg #[.slice (some ⟨b, o, none⟩) ln cap], .int .i64 k] w7 (RfPost w0 w7 l (some ⟨b, o, none⟩) of7 now O oc (each (look l f now) (kidsAt l k) E))) := by
    rw [hn, hln, hnw]
    exact fun w7 of7 h7 => all_any hV hC hl h7 hk hkf (by omega) hE (by omega) hlow hz' (ht7 of7)
  rw [← hn] at hE1
  have nw0 : (0 : Int) ≤ nw := by omega
  have nw1 : nw ≤ 1000000 := by omega
  have HB := Lib.hid hB
  have HB7 := Lib.hid hB7
  have HBel := Lib.hid hbel
  have HW4 := Lib.hid hw4
  have HH := Lib.hid h
  have HH4 := Lib.hid h4
  have HLN := Lib.hid hln
  have HN := Lib.hid hn
  have HNW := Lib.hid hnw
  have HKD := Lib.hid hkd
  have HTX := Lib.hid htx
  clear hQ hr lO hkd hB hB7 hbel h4 h hw4 hV hC hE hlow hz ht hcn hn hln hnw htx hne hlk hle h33 h1u h3n hk hl hK hz' ht' ht7
  go_enter Try.func26, Try.ntmps26
  go_upto_region 26 with (fail)
  rw [← HW4.out]
  clear HW4 c0 c1 c2 c3 c4 c5
  have hbb4 : b < w4.heap.size := Nat.lt_of_lt_of_le hbb HBel.out.size
  obtain ⟨y0, y1, y2, y3, y4, y5⟩ := six HB.out.b3
  obtain ⟨n0, n1, n2, n3, n4, n5⟩ := six HB7.out
  have x4 : w4.cell? ⟨w.heap.size + 1, 0, none⟩ = some (.slice (some ⟨b, o, none⟩) ln cap) := by rw [HB.out.b4.cell]; rfl
  have l3 := HB.out.b3.lt
  have l4 := HB.out.b4.lt
  have l6 := HB.out.b6.lt
  have l7 := HB7.out.lt
  have HE1 := Lib.hid hE1
  go_wp2
  go_loopw [11, 12] (fun vb v wr => ∃ (i : Nat) (bv : Int), i ≤ n ∧ v = .int .i64 i ∧ vb = .int .i64 bv ∧ Hid (Cal l E (tx l k) i bv) ∧ Hid (Below w4.heap.size w4 wr)) (fun _ v _ => n - (intOf v).toNat)
  case atStart => exact ⟨0, -1, Nat.zero_le _, rfl, rfl, Or.inl ⟨rfl, fun j _ h => by omega⟩, Below.refl _ _⟩
  clear y0 y1 y2 y3 y4 y5 n0 n1 n2 n3 n4 n5 x4 l3 l4 l6 l7
  obtain ⟨i, bv, hi, rfl, rfl, HCA, HBE⟩ := hrel
  have hbe := HBE.out
  have hg5 := grown_below (row := none) hbe
  have HG5 := Lib.hid (show w.grownBy wr (some O) from grown_trans (grown_below HBel.out) (grown_below hbe))
  have HB5 := Lib.hid (show Bx3 w wr #[.slice ph n kh, .slice pr n kr, .int .i64 nw, .int .i64 0, .int .i64 0, .slice (some ⟨O, 0, none⟩) ln oc] #[.slice (some ⟨b, o, none⟩) ln cap] #[.slice none 0 0, .slice none 0 0, .int .i64 0, .int .i64 0, .int .i64 0, .slice none 0 0] from HB.out.grown hg5 (fun g e => by cases e))
  have HR5 := Lib.hid (HH4.out.below hbe)
  have hbb5 : b < wr.heap.size := Nat.lt_of_lt_of_le hbb4 hbe.size
  obtain ⟨n0, n1, n2, n3, n4, n5⟩ := six (HB7.out.grown hg5 (fun e => by cases e))
  have l7 := (HB7.out.grown hg5 (fun e => by cases e)).lt
  clear hg5 hbe
  obtain ⟨y0, y1, y2, y3, y4, y5⟩ := six HB5.out.b3
  obtain ⟨z0, z1, z2, z3, z4, z5⟩ := six HB5.out.b6
  have x4 : wr.cell? ⟨w.heap.size + 1, 0, none⟩ = some (.slice (some ⟨b, o, none⟩) ln cap) := by rw [HB5.out.b4.cell]; rfl
  have l3 := HB5.out.b3.lt
  have l4 := HB5.out.b4.lt
  have l6 := HB5.out.b6.lt
  have q0 := HB5.out.b6.frozen 0
  have q1 := HB5.out.b6.frozen 1
  have q2 := HB5.out.b6.frozen 2
  have q3 := HB5.out.b6.frozen 3
  have q4 := HB5.out.b6.frozen 4
  have q5 := HB5.out.b6.frozen 5
  have f0 := HB5.out.b3.frozen 0
  have f1 := HB5.out.b3.frozen 1
  have f2 := HB5.out.b3.frozen 2
  have f3 := HB5.out.b3.frozen 3
  have f4 := HB5.out.b3.frozen 4
  have f5 := HB5.out.b3.frozen 5
  have n1 := n1
  by_cases hlt : i < n
  · have hiE : i < E.length := by have := HN.out; omega
    have hat : _ := Rf.at (E := E) (i := i) HR5.out hiE
    obtain ⟨gh, gr, rfl, rfl, g1, g2, g3, g4, g5, g6, g7, tt, htt, g8, g9⟩ := hat
    obtain ⟨xi, hxi⟩ : ∃ xi, xi = (E[i]).1 := ⟨_, rfl⟩
    obtain ⟨ri, hri⟩ : ∃ ri : Int, ri = ((E[i]).2 : Int) := ⟨_, rfl⟩
    have hxl : xi < ln := by have := HLN.out; omega
    have HRI := Lib.hid hri
    have HXI := Lib.hid hxi
    rw [← hxi] at g5 g8 g9 htt
    rw [← hri] at g6
    obtain ⟨kx, hkx⟩ : ∃ kx, kx = kindAt l xi := ⟨_, rfl⟩
    rw [← hkx] at g9
    have HKX := Lib.hid hkx
    have HT1 := Lib.hid htt
    clear hxi hri htt g7 hkx HNE
    by_cases hroom : ri = 0
    · have d1 : (ri == 0) = true := by simpa using hroom
      by_cases htext : tt.toList = t.toList
      · have d2 : (tt.toList == t.toList) = true := by simpa using htext
        by_cases hk3 : kx = 3
        · have d3 : (kx == 3) = true := by simpa using hk3
          have HC2 : Hid (Cal l E (tx l k) (i + 1) xi) := Or.inr ⟨i, hiE, by rw [HXI.out], by have h1 := HRI.out; omega, by rw [← HXI.out, ← HT1.out, ← HTX.out]; exact htext, by rw [← HXI.out, ← HKX.out]; exact hk3⟩
          clear hroom htext hk3 HB5 HR5 HG5
          go_wp2
          go_quiet (fail)
          go_wp2
          go_roundw
          case rel => exact ⟨i + 1, xi, by omega, by go_num, rfl, HC2.out, below_drewN HBE.out _⟩
          case measure => simp [intOf]; omega
        · have d3 : (kx == 3) = false := by simpa using hk3
          have HC2 : Hid (Cal l E (tx l k) (i + 1) bv) := HCA.out.skip hiE fun hc => hk3 (by rw [HKX.out, HXI.out]; exact hc.2.2)
          clear hroom htext hk3 HB5 HR5 HG5
          go_wp2
          go_quiet (fail)
          go_wp2
          go_roundw
          case rel => exact ⟨i + 1, bv, by omega, by go_num, rfl, HC2.out, below_drewN HBE.out _⟩
          case measure => simp [intOf]; omega
      · have d2 : (tt.toList == t.toList) = false := by simpa using htext
        have HC2 : Hid (Cal l E (tx l k) (i + 1) bv) := HCA.out.skip hiE fun hc => htext (by rw [HT1.out, HXI.out, HTX.out]; exact hc.2.1)
        clear hroom htext HB5 HR5 HG5
        go_wp2
        go_quiet (fail)
        go_wp2
        go_roundw
        case rel => exact ⟨i + 1, bv, by omega, by go_num, rfl, HC2.out, below_drewN HBE.out _⟩
        case measure => simp [intOf]; omega
    · have d1 : (ri == 0) = false := by simpa using hroom
      have HC2 : Hid (Cal l E (tx l k) (i + 1) bv) := HCA.out.skip hiE fun hc => hroom (by rw [HRI.out, hc.1]; rfl)
      clear hroom HB5 HR5 HG5
      go_wp2
      go_quiet (fail)
      go_wp2
      go_roundw
      case rel => exact ⟨i + 1, bv, by omega, by go_num, rfl, HC2.out, below_drewN HBE.out _⟩
      case measure => simp [intOf]; omega
  · have hcf := HCA.out.end_ (by have := HN.out; omega) HUNI.out
    rcases hcf with ⟨rfl, hcf⟩ | ⟨j, rfl, hcf, hc3, x, hx1, hx2, hx3⟩
    · cases hlib : libB (tx l k) with
      | true =>
        have hlt2 := callF_lib (l := l) (k := k) (E := E) hlib
        unfold libB at hlib
        rw [← HTX.out] at hlib
        rcases Bool.or_eq_true_iff.1 hlib with hs | hs
        · have e1 : (t.toList == [114, 101, 97, 100]) = true := hs
          clear hlib hs hcf
          have HRB := Lib.hid (show r = (each (look l f now) (kidsAt l k) E).pre [(k, (-1))] by rw [HR.out, HLK.out, hlt2]; rfl)
          obtain ⟨g, hg1, hg2, hg3, hg4, hg5, hg6, hg7⟩ := row_at HR5.out.ofr (Nat.lt_of_le_of_lt (Nat.zero_le _) HKL.out)
          cases hg1
          obtain ⟨ok1, ok2⟩ := hg7 k (by rw [hg6]; exact HKL.out)
          obtain ⟨vk, hvk⟩ : ∃ vk, vk = of[k]'(by rw [hg6]; exact HKL.out) := ⟨_, rfl⟩
          rw [← hvk] at ok1
          clear hg2 hg4 hg5 hg6 hg7 hvk
          obtain ⟨w7, hw7⟩ : ∃ w7, w7 = wr.setCell ⟨O, k, none⟩ (.int .i64 (-1)) := ⟨_, rfl⟩
          have hO : O < w.heap.size := lO2
          have HB7' := Lib.hid (show Bx3 w w7 #[.slice ph n kh, .slice pr n kr, .int .i64 nw, .int .i64 0, .int .i64 0, .slice (some ⟨O, 0, none⟩) ln oc] #[.slice (some ⟨b, o, none⟩) ln cap] #[.slice none 0 0, .slice none 0 0, .int .i64 0, .int .i64 0, .int .i64 0, .slice none 0 0] by rw [hw7]; exact ⟨HB5.out.b3.far (p := ⟨O, k, none⟩) (show w.heap.size ≠ O by omega) _, HB5.out.b4.far (p := ⟨O, k, none⟩) (show w.heap.size + 1 ≠ O by omega) _, HB5.out.b6.far (p := ⟨O, k, none⟩) (show w.heap.size + 1 + 1 ≠ O by omega) _⟩)
          have HG7 := Lib.hid (show w.grownBy w7 (some O) by rw [hw7]; exact grown_row HG5.out _ _)
          have HR7 := Lib.hid (show Rf w0 w7 l (some ⟨b, o, none⟩) E (of.set k (-1)) (.slice ph E.length kh) (.slice pr E.length kr) O oc by rw [hw7]; exact HR5.out.setOf k (-1))
          have HW7 := Lib.hid hw7
          clear hw7
          go_upto_region 36 with (fail)
          rw [← HW7.out]
          clear HW7 ok1 ok2
          clear y0 y1 y2 y3 y4 y5 z0 z1 z2 z3 z4 z5 x4 l3 l4 l6 q0 q1 q2 q3 q4 q5 f0 f1 f2 f3 f4 f5
          obtain ⟨y0, y1, y2, y3, y4, y5⟩ := six HB7'.out.b3
          obtain ⟨z0, z1, z2, z3, z4, z5⟩ := six HB7'.out.b6
          have x4 : w7.cell? ⟨w.heap.size + 1, 0, none⟩ = some (.slice (some ⟨b, o, none⟩) ln cap) := by rw [HB7'.out.b4.cell]; rfl
          have l3 := HB7'.out.b3.lt
          have l4 := HB7'.out.b4.lt
          have l6 := HB7'.out.b6.lt
          have q0 := HB7'.out.b6.frozen 0
          have q1 := HB7'.out.b6.frozen 1
          have q2 := HB7'.out.b6.frozen 2
          have q3 := HB7'.out.b6.frozen 3
          have q4 := HB7'.out.b6.frozen 4
          have q5 := HB7'.out.b6.frozen 5
          have f0 := HB7'.out.b3.frozen 0
          have f1 := HB7'.out.b3.frozen 1
          have f2 := HB7'.out.b3.frozen 2
          have f3 := HB7'.out.b3.frozen 3
          have f4 := HB7'.out.b3.frozen 4
          have f5 := HB7'.out.b3.frozen 5
          have hcall := HALL.out w7 _ HR7.out
          go_wp2_with (go_at_call 14; refine hcall.mono ?_)
          intro e w5 hd
          clear y0 y1 y2 y3 y4 y5 z0 z1 z2 z3 z4 z5 x4 l3 l4 l6 q0 q1 q2 q3 q4 q5 f0 f1 f2 f3 f4 f5
          have hg5 := RfPost.grown_ hd HNE.out
          obtain ⟨ph5, pr5, n5', m5, kh5, kr5, c5', a5, rfl, hg6, hcl⟩ := RfPost.open_ (RfPost.from_ HG7.out hd) HNE.out
          have hB5 := HB7'.out.grown hg5 (fun g e => by cases e; exact lO2)
          obtain ⟨z0, z1, z2, z3, z4, z5⟩ := six hB5.b6
          have q0 := hB5.b6.frozen 0
          have q1 := hB5.b6.frozen 1
          have q2 := hB5.b6.frozen 2
          have q3 := hB5.b6.frozen 3
          have q4 := hB5.b6.frozen 4
          have q5 := hB5.b6.frozen 5
          have l65 := hB5.b6.lt
          have HCL := Lib.hid (hcl.out _ _ _ _ _ _ _ _ hB5.b6 (by decide) (by omega) (by omega))
          have HB5 := Lib.hid hB5
          clear hB5 hg5 hg6 hcl hcall hd
          go_wp2
          have hz := st6_blk HB5.out.b6 (.slice ph5 n5' kh5) (.slice pr5 m5 kr5) (.int .i64 now) (.int .i64 c5') (.int .i64 a5) (.slice (some ⟨O, 0, none⟩) l.length oc)
          obtain ⟨v0, v1, v2, v3, v4, v5⟩ := six hz
          unfold st6 at v0 v1 v2 v3 v4 v5
          refine bodyPost_ret (v := .agg #[.slice ph5 n5' kh5, .slice pr5 m5 kr5, .int .i64 now, .int .i64 c5', .int .i64 a5, .slice (some ⟨O, 0, none⟩) l.length oc]) (by simp [results, Try.results26, go_sem, v0, v1, v2, v3, v4, v5]) rfl ?_
          rw [HQ.out]
          rw [HRB.out]
          refine RfPost.pre ?_
          rw [ov_one]
          exact HCL.out
        · have e1 : (t.toList == [112, 114, 105, 110, 116]) = true := hs
          have e2 : (t.toList == [114, 101, 97, 100]) = false := by
            have e3 := eq_of_beq hs
            rw [e3]; rfl
          clear hlib hs hcf
          have HRB := Lib.hid (show r = (each (look l f now) (kidsAt l k) E).pre [(k, (-1))] by rw [HR.out, HLK.out, hlt2]; rfl)
          obtain ⟨g, hg1, hg2, hg3, hg4, hg5, hg6, hg7⟩ := row_at HR5.out.ofr (Nat.lt_of_le_of_lt (Nat.zero_le _) HKL.out)
          cases hg1
          obtain ⟨ok1, ok2⟩ := hg7 k (by rw [hg6]; exact HKL.out)
          obtain ⟨vk, hvk⟩ : ∃ vk, vk = of[k]'(by rw [hg6]; exact HKL.out) := ⟨_, rfl⟩
          rw [← hvk] at ok1
          clear hg2 hg4 hg5 hg6 hg7 hvk
          obtain ⟨w7, hw7⟩ : ∃ w7, w7 = wr.setCell ⟨O, k, none⟩ (.int .i64 (-1)) := ⟨_, rfl⟩
          have hO : O < w.heap.size := lO2
          have HB7' := Lib.hid (show Bx3 w w7 #[.slice ph n kh, .slice pr n kr, .int .i64 nw, .int .i64 0, .int .i64 0, .slice (some ⟨O, 0, none⟩) ln oc] #[.slice (some ⟨b, o, none⟩) ln cap] #[.slice none 0 0, .slice none 0 0, .int .i64 0, .int .i64 0, .int .i64 0, .slice none 0 0] by rw [hw7]; exact ⟨HB5.out.b3.far (p := ⟨O, k, none⟩) (show w.heap.size ≠ O by omega) _, HB5.out.b4.far (p := ⟨O, k, none⟩) (show w.heap.size + 1 ≠ O by omega) _, HB5.out.b6.far (p := ⟨O, k, none⟩) (show w.heap.size + 1 + 1 ≠ O by omega) _⟩)
          have HG7 := Lib.hid (show w.grownBy w7 (some O) by rw [hw7]; exact grown_row HG5.out _ _)
          have HR7 := Lib.hid (show Rf w0 w7 l (some ⟨b, o, none⟩) E (of.set k (-1)) (.slice ph E.length kh) (.slice pr E.length kr) O oc by rw [hw7]; exact HR5.out.setOf k (-1))
          have HW7 := Lib.hid hw7
          clear hw7
          go_upto_region 36 with (fail)
          rw [← HW7.out]
          clear HW7 ok1 ok2
          clear y0 y1 y2 y3 y4 y5 z0 z1 z2 z3 z4 z5 x4 l3 l4 l6 q0 q1 q2 q3 q4 q5 f0 f1 f2 f3 f4 f5
          obtain ⟨y0, y1, y2, y3, y4, y5⟩ := six HB7'.out.b3
          obtain ⟨z0, z1, z2, z3, z4, z5⟩ := six HB7'.out.b6
          have x4 : w7.cell? ⟨w.heap.size + 1, 0, none⟩ = some (.slice (some ⟨b, o, none⟩) ln cap) := by rw [HB7'.out.b4.cell]; rfl
          have l3 := HB7'.out.b3.lt
          have l4 := HB7'.out.b4.lt
          have l6 := HB7'.out.b6.lt
          have q0 := HB7'.out.b6.frozen 0
          have q1 := HB7'.out.b6.frozen 1
          have q2 := HB7'.out.b6.frozen 2
          have q3 := HB7'.out.b6.frozen 3
          have q4 := HB7'.out.b6.frozen 4
          have q5 := HB7'.out.b6.frozen 5
          have f0 := HB7'.out.b3.frozen 0
          have f1 := HB7'.out.b3.frozen 1
          have f2 := HB7'.out.b3.frozen 2
          have f3 := HB7'.out.b3.frozen 3
          have f4 := HB7'.out.b3.frozen 4
          have f5 := HB7'.out.b3.frozen 5
          have hcall := HALL.out w7 _ HR7.out
          go_wp2_with (go_at_call 14; refine hcall.mono ?_)
          intro e w5 hd
          clear y0 y1 y2 y3 y4 y5 z0 z1 z2 z3 z4 z5 x4 l3 l4 l6 q0 q1 q2 q3 q4 q5 f0 f1 f2 f3 f4 f5
          have hg5 := RfPost.grown_ hd HNE.out
          obtain ⟨ph5, pr5, n5', m5, kh5, kr5, c5', a5, rfl, hg6, hcl⟩ := RfPost.open_ (RfPost.from_ HG7.out hd) HNE.out
          have hB5 := HB7'.out.grown hg5 (fun g e => by cases e; exact lO2)
          obtain ⟨z0, z1, z2, z3, z4, z5⟩ := six hB5.b6
          have q0 := hB5.b6.frozen 0
          have q1 := hB5.b6.frozen 1
          have q2 := hB5.b6.frozen 2
          have q3 := hB5.b6.frozen 3
          have q4 := hB5.b6.frozen 4
          have q5 := hB5.b6.frozen 5
          have l65 := hB5.b6.lt
          have HCL := Lib.hid (hcl.out _ _ _ _ _ _ _ _ hB5.b6 (by decide) (by omega) (by omega))
          have HB5 := Lib.hid hB5
          clear hB5 hg5 hg6 hcl hcall hd
          go_wp2
          have hz := st6_blk HB5.out.b6 (.slice ph5 n5' kh5) (.slice pr5 m5 kr5) (.int .i64 now) (.int .i64 c5') (.int .i64 a5) (.slice (some ⟨O, 0, none⟩) l.length oc)
          obtain ⟨v0, v1, v2, v3, v4, v5⟩ := six hz
          unfold st6 at v0 v1 v2 v3 v4 v5
          refine bodyPost_ret (v := .agg #[.slice ph5 n5' kh5, .slice pr5 m5 kr5, .int .i64 now, .int .i64 c5', .int .i64 a5, .slice (some ⟨O, 0, none⟩) l.length oc]) (by simp [results, Try.results26, go_sem, v0, v1, v2, v3, v4, v5]) rfl ?_
          rw [HQ.out]
          rw [HRB.out]
          refine RfPost.pre ?_
          rw [ov_one]
          exact HCL.out
      | false =>
        have hlt2 := callF_no hcf hlib
        unfold libB at hlib
        rw [← HTX.out] at hlib
        obtain ⟨e1, e2⟩ := Bool.or_eq_false_iff.1 hlib
        have HRB := Lib.hid (show r = .bad 6 k by rw [HR.out, HLK.out, hlt2]; rfl)
        clear hlib hcf hlt2
        go_wp2_with (go_at_call 12; refine (rfault_any _ _ _).mono ?_)
        rintro e w6 ⟨rfl, hb6⟩
        have HB6 := Lib.hid (show Bx3 w w6 #[.slice ph n kh, .slice pr n kr, .int .i64 nw, .int .i64 0, .int .i64 0, .slice (some ⟨O, 0, none⟩) ln oc] #[.slice (some ⟨b, o, none⟩) ln cap] #[.slice none 0 0, .slice none 0 0, .int .i64 0, .int .i64 0, .int .i64 0, .slice none 0 0] from HB5.out.grown (row := none) (grown_below hb6) (fun g e => by cases e))
        have HG6 := Lib.hid (show w.grownBy w6 (some O) from grown_trans HG5.out (grown_below hb6))
        clear hb6
        clear y0 y1 y2 y3 y4 y5 z0 z1 z2 z3 z4 z5 x4 l3 l4 l6 q0 q1 q2 q3 q4 q5 f0 f1 f2 f3 f4 f5
        obtain ⟨y0, y1, y2, y3, y4, y5⟩ := six HB6.out.b3
        obtain ⟨z0, z1, z2, z3, z4, z5⟩ := six HB6.out.b6
        have x4 : w6.cell? ⟨w.heap.size + 1, 0, none⟩ = some (.slice (some ⟨b, o, none⟩) ln cap) := by rw [HB6.out.b4.cell]; rfl
        have l3 := HB6.out.b3.lt
        have l4 := HB6.out.b4.lt
        have l6 := HB6.out.b6.lt
        have q0 := HB6.out.b6.frozen 0
        have q1 := HB6.out.b6.frozen 1
        have q2 := HB6.out.b6.frozen 2
        have q3 := HB6.out.b6.frozen 3
        have q4 := HB6.out.b6.frozen 4
        have q5 := HB6.out.b6.frozen 5
        have f0 := HB6.out.b3.frozen 0
        have f1 := HB6.out.b3.frozen 1
        have f2 := HB6.out.b3.frozen 2
        have f3 := HB6.out.b3.frozen 3
        have f4 := HB6.out.b3.frozen 4
        have f5 := HB6.out.b3.frozen 5
        obtain ⟨w7, hw7⟩ : ∃ w7, w7 = (w6.setCell ⟨w.heap.size, 3, none⟩ (.int .i64 6)).setCell ⟨w.heap.size, 4, none⟩ (.int .i64 k) := ⟨_, rfl⟩
        have HB7 := Lib.hid (show Bx3 w w7 #[.slice ph n kh, .slice pr n kr, .int .i64 nw, .int .i64 6, .int .i64 k, .slice (some ⟨O, 0, none⟩) ln oc] #[.slice (some ⟨b, o, none⟩) ln cap] #[.slice none 0 0, .slice none 0 0, .int .i64 0, .int .i64 0, .int .i64 0, .slice none 0 0] by rw [hw7]; exact ⟨blk_two HB6.out.b3 _ _, blk_twoFar HB6.out.b4 (by omega) _ _, blk_twoFar HB6.out.b6 (by omega) _ _⟩)
        have HG7 := Lib.hid (show w.grownBy w7 (some O) by rw [hw7]; exact grown_two HG6.out (Nat.le_refl _) _ _)
        have HW7 := Lib.hid hw7
        clear hw7
        go_upto_region 34 with (fail)
        rw [← HW7.out]
        clear HW7
        clear y0 y1 y2 y3 y4 y5 z0 z1 z2 z3 z4 z5 x4 l3 l4 l6 q0 q1 q2 q3 q4 q5 f0 f1 f2 f3 f4 f5
        obtain ⟨y0, y1, y2, y3, y4, y5⟩ := six HB7.out.b3
        obtain ⟨z0, z1, z2, z3, z4, z5⟩ := six HB7.out.b6
        have x4 : w7.cell? ⟨w.heap.size + 1, 0, none⟩ = some (.slice (some ⟨b, o, none⟩) ln cap) := by rw [HB7.out.b4.cell]; rfl
        have l3 := HB7.out.b3.lt
        have l4 := HB7.out.b4.lt
        have l6 := HB7.out.b6.lt
        have q0 := HB7.out.b6.frozen 0
        have q1 := HB7.out.b6.frozen 1
        have q2 := HB7.out.b6.frozen 2
        have q3 := HB7.out.b6.frozen 3
        have q4 := HB7.out.b6.frozen 4
        have q5 := HB7.out.b6.frozen 5
        have f0 := HB7.out.b3.frozen 0
        have f1 := HB7.out.b3.frozen 1
        have f2 := HB7.out.b3.frozen 2
        have f3 := HB7.out.b3.frozen 3
        have f4 := HB7.out.b3.frozen 4
        have f5 := HB7.out.b3.frozen 5
        go_wp2
        have hz := st6_blk HB7.out.b6 (.slice ph n kh) (.slice pr n kr) (.int .i64 nw) (.int .i64 6) (.int .i64 k) (.slice (some ⟨O, 0, none⟩) ln oc)
        obtain ⟨v0, v1, v2, v3, v4, v5⟩ := six hz
        unfold st6 at v0 v1 v2 v3 v4 v5
        refine bodyPost_ret (v := .agg #[.slice ph n kh, .slice pr n kr, .int .i64 nw, .int .i64 6, .int .i64 k, .slice (some ⟨O, 0, none⟩) ln oc]) (by simp [results, Try.results26, go_sem, v0, v1, v2, v3, v4, v5]) rfl ?_
        rw [HQ.out]
        rw [HRB.out]
        exact ⟨ph, pr, n, n, kh, kr, by rw [HNW.out, HLN.out], grown_st6 HG7.out (by omega) _ _ _ _ _ _⟩
    · have hlib : libB (tx l k) = false := by
        have := HLOW.out.2 x hx1 hx3
        obtain ⟨y, hy1, hy2, hy3, hy4⟩ := roomF_mem hcf
        rw [hx2] at this
        rwa [hy4] at this
      have hlt2 := callF_yes hcf hc3 hlib
      have hj0 : decide ((j : Int) < 0) = false := by simp
      clear hlib hcf hc3 hx1 hx2 hx3
      have HRB := Lib.hid (show r = (each (look l f now) (kidsAt l k) E).pre [(k, (j : Int))] by rw [HR.out, HLK.out, hlt2]; rfl)
      obtain ⟨g, hg1, hg2, hg3, hg4, hg5, hg6, hg7⟩ := row_at HR5.out.ofr (Nat.lt_of_le_of_lt (Nat.zero_le _) HKL.out)
      cases hg1
      obtain ⟨ok1, ok2⟩ := hg7 k (by rw [hg6]; exact HKL.out)
      obtain ⟨vk, hvk⟩ : ∃ vk, vk = of[k]'(by rw [hg6]; exact HKL.out) := ⟨_, rfl⟩
      rw [← hvk] at ok1
      clear hg2 hg4 hg5 hg6 hg7 hvk
      obtain ⟨w7, hw7⟩ : ∃ w7, w7 = wr.setCell ⟨O, k, none⟩ (.int .i64 (j : Int)) := ⟨_, rfl⟩
      have hO : O < w.heap.size := lO2
      have HB7' := Lib.hid (show Bx3 w w7 #[.slice ph n kh, .slice pr n kr, .int .i64 nw, .int .i64 0, .int .i64 0, .slice (some ⟨O, 0, none⟩) ln oc] #[.slice (some ⟨b, o, none⟩) ln cap] #[.slice none 0 0, .slice none 0 0, .int .i64 0, .int .i64 0, .int .i64 0, .slice none 0 0] by rw [hw7]; exact ⟨HB5.out.b3.far (p := ⟨O, k, none⟩) (show w.heap.size ≠ O by omega) _, HB5.out.b4.far (p := ⟨O, k, none⟩) (show w.heap.size + 1 ≠ O by omega) _, HB5.out.b6.far (p := ⟨O, k, none⟩) (show w.heap.size + 1 + 1 ≠ O by omega) _⟩)
      have HG7 := Lib.hid (show w.grownBy w7 (some O) by rw [hw7]; exact grown_row HG5.out _ _)
      have HR7 := Lib.hid (show Rf w0 w7 l (some ⟨b, o, none⟩) E (of.set k (j : Int)) (.slice ph E.length kh) (.slice pr E.length kr) O oc by rw [hw7]; exact HR5.out.setOf k (j : Int))
      have HW7 := Lib.hid hw7
      clear hw7
      go_upto_region 36 with (fail)
      rw [← HW7.out]
      clear HW7 ok1 ok2
      clear y0 y1 y2 y3 y4 y5 z0 z1 z2 z3 z4 z5 x4 l3 l4 l6 q0 q1 q2 q3 q4 q5 f0 f1 f2 f3 f4 f5
      obtain ⟨y0, y1, y2, y3, y4, y5⟩ := six HB7'.out.b3
      obtain ⟨z0, z1, z2, z3, z4, z5⟩ := six HB7'.out.b6
      have x4 : w7.cell? ⟨w.heap.size + 1, 0, none⟩ = some (.slice (some ⟨b, o, none⟩) ln cap) := by rw [HB7'.out.b4.cell]; rfl
      have l3 := HB7'.out.b3.lt
      have l4 := HB7'.out.b4.lt
      have l6 := HB7'.out.b6.lt
      have q0 := HB7'.out.b6.frozen 0
      have q1 := HB7'.out.b6.frozen 1
      have q2 := HB7'.out.b6.frozen 2
      have q3 := HB7'.out.b6.frozen 3
      have q4 := HB7'.out.b6.frozen 4
      have q5 := HB7'.out.b6.frozen 5
      have f0 := HB7'.out.b3.frozen 0
      have f1 := HB7'.out.b3.frozen 1
      have f2 := HB7'.out.b3.frozen 2
      have f3 := HB7'.out.b3.frozen 3
      have f4 := HB7'.out.b3.frozen 4
      have f5 := HB7'.out.b3.frozen 5
      have hcall := HALL.out w7 _ HR7.out
      go_wp2_with (go_at_call 14; refine hcall.mono ?_)
      intro e w5 hd
      clear y0 y1 y2 y3 y4 y5 z0 z1 z2 z3 z4 z5 x4 l3 l4 l6 q0 q1 q2 q3 q4 q5 f0 f1 f2 f3 f4 f5
      have hg5 := RfPost.grown_ hd HNE.out
      obtain ⟨ph5, pr5, n5', m5, kh5, kr5, c5', a5, rfl, hg6, hcl⟩ := RfPost.open_ (RfPost.from_ HG7.out hd) HNE.out
      have hB5 := HB7'.out.grown hg5 (fun g e => by cases e; exact lO2)
      obtain ⟨z0, z1, z2, z3, z4, z5⟩ := six hB5.b6
      have q0 := hB5.b6.frozen 0
      have q1 := hB5.b6.frozen 1
      have q2 := hB5.b6.frozen 2
      have q3 := hB5.b6.frozen 3
      have q4 := hB5.b6.frozen 4
      have q5 := hB5.b6.frozen 5
      have l65 := hB5.b6.lt
      have HCL := Lib.hid (hcl.out _ _ _ _ _ _ _ _ hB5.b6 (by decide) (by omega) (by omega))
      have HB5 := Lib.hid hB5
      clear hB5 hg5 hg6 hcl hcall hd
      go_wp2
      have hz := st6_blk HB5.out.b6 (.slice ph5 n5' kh5) (.slice pr5 m5 kr5) (.int .i64 now) (.int .i64 c5') (.int .i64 a5) (.slice (some ⟨O, 0, none⟩) l.length oc)
      obtain ⟨v0, v1, v2, v3, v4, v5⟩ := six hz
      unfold st6 at v0 v1 v2 v3 v4 v5
      refine bodyPost_ret (v := .agg #[.slice ph5 n5' kh5, .slice pr5 m5 kr5, .int .i64 now, .int .i64 c5', .int .i64 a5, .slice (some ⟨O, 0, none⟩) l.length oc]) (by simp [results, Try.results26, go_sem, v0, v1, v2, v3, v4, v5]) rfl ?_
      rw [HQ.out]
      rw [HRB.out]
      refine RfPost.pre ?_
      rw [ov_one]
      exact HCL.out

end Go.Proofs.Ytmghjfphlneblaa.Sc
