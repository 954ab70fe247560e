/-
  Contracts of the document's look: a local.
-/
import Derived.Test.YtmghjfphlneblaaSw
namespace Go.Proofs.Ytmghjfphlneblaa.Sc
open Go.RowKit
open Tr

set_option maxHeartbeats 16000000 in
set_option maxRecDepth 100000 in
theorem look_var {w0 w : World} {l : List Nd} {p : Option Addr} {E : Env} {of : List Int} {ph pr : Option Addr} {kh kr O oc cap now k q f : Nat} (hV : LookOK w0 l p cap O oc f) (hC : ∀ j, j < l.length → codeAt l j = 0) (hl : l.length ≤ 600) (h : Rf w0 w l p E of (.slice ph E.length kh) (.slice pr E.length kr) O oc) (hk : k < l.length) (hkf : k < f + 1) (hnow : now + (f + 1) ≤ 1000000) (hE : E.length ≤ q + St l k) (hq : q + (k + 1) ≤ 100000) (hlow : Low l now E)
    (hz : now = 0 → Zk (kindAt l k)) (ht : kindAt l k = 2 ∨ kindAt l k = 3 → of[k]? = some (k : Int)) (h1u : kindAt l k ≠ 1) (h12 : kindAt l k = 12) :
    Calls Try.prog 26 #[.agg #[.slice ph E.length kh, .slice pr E.length kr, .int .i64 now, .int .i64 0, .int .i64 0, .slice (some ⟨O, 0, none⟩) l.length oc], .agg #[.slice p l.length cap], .int .i64 k] w (RfPost w0 w l p of now O oc (look l (f + 1) now k E)) := by
  have h3n : kindAt l k ≠ 3 := by omega
  obtain ⟨pos, hK⟩ := kin_of hk (hC k hk)
  have hz' : now = 0 → ∀ x : Nat, (x : Int) ∈ kidsAt l k → Zk (kindAt l x) := fun e x hx => by
    obtain ⟨j, hj, hjx⟩ := hK.mem hx
    refine hK.kidZ ?_ j hj hjx
    rcases hz e with h | h | h
    · exact Or.inl h
    · exact absurd h h3n
    · exact Or.inr h
  have ht' : ∀ x : Nat, (x : Int) ∈ kidsAt l k → kindAt l x = 2 ∨ kindAt l x = 3 → of[x]? = some (x : Int) := fun x hx e => by
    obtain ⟨j, hj, hjx⟩ := hK.mem hx
    exact absurd e (hK.kidTop h1u j hj hjx)
  have hle := St_le l k
  have hfin := fine_each (q := q) hK hk (fun x E h1 h2 h3 => fine_look hC f now x q E (by omega) h2 h3) (kidsAt l k).length 0 E (by omega) (by rw [hK.from_]; exact hE)
  rw [List.drop_zero] at hfin
  have hlk : look l (f + 1) now k E = (each (look l f now) (kidsAt l k) E).bind (declF l now k) := by
    simp only [look]
    rw [if_pos h12]
    have ho : own l now k = declF l now k := by funext E; unfold own; rw [if_neg (by omega), if_pos (Or.inr h12)]
    rw [ho]
    unfold kidsF
    rw [if_neg (by rw [h12]; decide)]
  obtain ⟨b, o, hp, hbb, t, nn, zz, aa, cp, kc, htx, c0, c1, c2, c3, c4, c5⟩ := h.node hk
  obtain ⟨r, hr⟩ : ∃ r, r = look l (f + 1) now k E := ⟨_, rfl⟩
  obtain ⟨Q, hQ⟩ : ∃ Q : Ending → World → Prop, Q = RfPost w0 w l p of now O oc r := ⟨_, rfl⟩
  rw [← hr, ← hQ]
  have HQ := Lib.hid hQ
  have HR := Lib.hid hr
  have lO := own_ge h.ofr (g := O) rfl
  have lO2 := lO.2
  have lO1 := lO.1
  have hww := h.bel.size
  have hbb1 : b < w.heap.size + 1 := by omega
  have hbb2 : b < w.heap.size + 1 + 1 := by omega
  have hkl6 : k ≤ 600 := by omega
  obtain ⟨kd, hkd⟩ : ∃ kd, kd = kindAt l k := ⟨_, rfl⟩
  rw [← hkd] at c0
  rw [h12] at hkd
  subst hkd
  have hkd : (12 : Int) = 12 := rfl
  have HLK := Lib.hid hlk
  have HFI := Lib.hid hfin
  have HNE := Lib.hid (show each (look l f now) (kidsAt l k) E ≠ .out from hfin.out)
  have HL := Lib.hid hl
  have HK := Lib.hid hk
  have HQB := Lib.hid (show q + k ≤ 100000 by omega)
  obtain ⟨cn, hcn⟩ : ∃ cn, cn = (kidsAt l k).length := ⟨_, rfl⟩
  rw [← hcn] at c4
  obtain ⟨w4, hw4⟩ : ∃ w4, w4 = ((((w.alloc (.cells #[.slice ph E.length kh, .slice pr E.length kr, .int .i64 now, .int .i64 0, .int .i64 0, .slice (some ⟨O, 0, none⟩) l.length oc] 44)).alloc (.cells #[.slice p l.length cap] 24)).alloc (.cells #[.slice none 0 0, .slice none 0 0, .int .i64 0, .int .i64 0, .int .i64 0, .slice none 0 0] 44)).alloc (.cells #[.int .i64 12, .string t, .int .i64 nn, .int .i64 zz, .slice cp cn kc, .int .i64 aa] 34)) := ⟨_, rfl⟩
  obtain ⟨hB, hB7, hbel⟩ := four_new w _ _ _ _ _ w4 hw4
  have h4 := h.below hbel
  have hcall := all_any hV hC hl h4 hk hkf (by omega) hE (by omega) hlow hz' ht'
  subst hp
  obtain ⟨n, hn⟩ : ∃ n, n = E.length := ⟨_, rfl⟩
  obtain ⟨ln, hln⟩ : ∃ ln, ln = l.length := ⟨_, rfl⟩
  obtain ⟨nw, hnw⟩ : ∃ nw : Int, nw = (now : Int) := ⟨_, rfl⟩
  have hln6 : ln ≤ 600 := by omega
  have hkl : k < ln := by omega
  rw [← hn, ← hln, ← hnw] at hw4 hB ⊢
  rw [← hn, ← hln, ← hnw] at hcall
  have nw0 : (0 : Int) ≤ nw := by omega
  have nw1 : nw ≤ 1000000 := by omega
  have HB := Lib.hid hB
  have HB7 := Lib.hid hB7
  have HBel := Lib.hid hbel
  have HW4 := Lib.hid hw4
  have HH := Lib.hid h
  have HH4 := Lib.hid h4
  have HLN := Lib.hid hln
  have HN := Lib.hid hn
  have HNW := Lib.hid hnw
  have HKD := Lib.hid hkd
  have HTX := Lib.hid htx
  clear hQ hr lO hkd hB hB7 hbel h4 h hw4 hV hC hE hlow hz ht hcn hn hln hnw htx hz' ht' hK hle hfin hlk h12 h3n h1u hk hl
  go_enter Try.func26, Try.ntmps26
  go_upto_region 14 with (fail)
  rw [← HW4.out]
  clear HW4 c0 c1 c2 c3 c4 c5
  have hbb4 : b < w4.heap.size := Nat.lt_of_lt_of_le hbb HBel.out.size
  obtain ⟨y0, y1, y2, y3, y4, y5⟩ := six HB.out.b3
  obtain ⟨n0, n1, n2, n3, n4, n5⟩ := six HB7.out
  have x4 : w4.cell? ⟨w.heap.size + 1, 0, none⟩ = some (.slice (some ⟨b, o, none⟩) ln cap) := by rw [HB.out.b4.cell]; rfl
  have l3 := HB.out.b3.lt
  have l4 := HB.out.b4.lt
  have l6 := HB.out.b6.lt
  have l7 := HB7.out.lt
  go_wp2_with (go_at_call 14; refine hcall.mono ?_)
  intro e w5 hd
  have hg5 := RfPost.grown_ hd HNE.out
  have hB5 := HB.out.grown hg5 (fun g e => by cases e; exact lO2)
  clear y0 y1 y2 y3 y4 y5 n0 n1 n2 n3 n4 n5 x4 l3 l4 l6 l7 hbb4
  obtain ⟨y0, y1, y2, y3, y4, y5⟩ := six hB5.b3
  have f0 := hB5.b3.frozen 0
  have f1 := hB5.b3.frozen 1
  have f2 := hB5.b3.frozen 2
  have f3 := hB5.b3.frozen 3
  have f4 := hB5.b3.frozen 4
  have f5 := hB5.b3.frozen 5
  have l3 := hB5.b3.lt
  have hfi := HFI.out
  cases hr2 : each (look l f now) (kidsAt l k) E with
  | out => rw [hr2] at hfi; exact hfi.elim
  | bad c1 a1 =>
    rw [hr2] at hd hfi
    have hd2 := RfPost.from_ (grown_below HBel.out) hd
    obtain ⟨ph5, pr5, n5', m5, kh5, kr5, rfl, hgx⟩ := hd
    have hc0 : (c1 == 0) = false := by rcases hfi with rfl | rfl <;> rfl
    obtain ⟨W6, hW6⟩ : ∃ W6, W6 = st6 w5 w.heap.size (.slice ph5 n5' kh5) (.slice pr5 m5 kr5) (.int .i64 now) (.int .i64 c1) (.int .i64 a1) (.slice (some ⟨O, 0, none⟩) l.length oc) := ⟨_, rfl⟩
    have HBW6 := Lib.hid (show Bx3 w W6 #[.slice ph5 n5' kh5, .slice pr5 m5 kr5, .int .i64 now, .int .i64 c1, .int .i64 a1, .slice (some ⟨O, 0, none⟩) l.length oc] #[.slice (some ⟨b, o, none⟩) ln cap] #[.slice none 0 0, .slice none 0 0, .int .i64 0, .int .i64 0, .int .i64 0, .slice none 0 0] by rw [hW6]; exact ⟨st6_blk hB5.b3 _ _ _ _ _ _, st6_far hB5.b4 (by omega) _ _ _ _ _ _, st6_far hB5.b6 (by omega) _ _ _ _ _ _⟩)
    have HD6 := Lib.hid (show RfPost w0 w l (some ⟨b, o, none⟩) of now O oc (.bad c1 a1) (.returned (.agg #[.slice ph5 n5' kh5, .slice pr5 m5 kr5, .int .i64 now, .int .i64 c1, .int .i64 a1, .slice (some ⟨O, 0, none⟩) l.length oc])) W6 by rw [hW6]; exact RfPost.box6 hd2 hB5.b3 (by decide) (by omega) (Nat.le_refl _) _ _ _ _ _ _)
    have HRB := Lib.hid (show r = .bad c1 a1 by rw [HR.out, HLK.out, hr2]; rfl)
    unfold st6 at hW6
    have HW6 := Lib.hid hW6
    clear hW6 hd2 hgx hfi hg5 hcall hr2
    go_upto_region 15 with (fail)
    rw [← HW6.out]
    clear HW6 hB5 y0 y1 y2 y3 y4 y5 f0 f1 f2 f3 f4 f5 l3
    obtain ⟨y0, y1, y2, y3, y4, y5⟩ := six HBW6.out.b3
    obtain ⟨z0, z1, z2, z3, z4, z5⟩ := six HBW6.out.b6
    have x4 : W6.cell? ⟨w.heap.size + 1, 0, none⟩ = some (.slice (some ⟨b, o, none⟩) ln cap) := by rw [HBW6.out.b4.cell]; rfl
    have l3 := HBW6.out.b3.lt
    have l4 := HBW6.out.b4.lt
    have l6 := HBW6.out.b6.lt
    have q0 := HBW6.out.b6.frozen 0
    have q1 := HBW6.out.b6.frozen 1
    have q2 := HBW6.out.b6.frozen 2
    have q3 := HBW6.out.b6.frozen 3
    have q4 := HBW6.out.b6.frozen 4
    have q5 := HBW6.out.b6.frozen 5
    have f0 := HBW6.out.b3.frozen 0
    have f1 := HBW6.out.b3.frozen 1
    have f2 := HBW6.out.b3.frozen 2
    have f3 := HBW6.out.b3.frozen 3
    have f4 := HBW6.out.b3.frozen 4
    have f5 := HBW6.out.b3.frozen 5
    go_wp2
    have hz := st6_blk HBW6.out.b6 (.slice ph5 n5' kh5) (.slice pr5 m5 kr5) (.int .i64 now) (.int .i64 c1) (.int .i64 a1) (.slice (some ⟨O, 0, none⟩) l.length oc)
    obtain ⟨v0, v1, v2, v3, v4, v5⟩ := six hz
    unfold st6 at v0 v1 v2 v3 v4 v5
    refine bodyPost_ret (v := .agg #[.slice ph5 n5' kh5, .slice pr5 m5 kr5, .int .i64 now, .int .i64 c1, .int .i64 a1, .slice (some ⟨O, 0, none⟩) l.length oc]) (by simp [results, Try.results26, go_sem, v0, v1, v2, v3, v4, v5]) rfl ?_
    rw [HQ.out]
    rw [HRB.out]
    exact RfPost.box6 HD6.out HBW6.out.b6 (by decide) (by omega) (by omega) _ _ _ _ _ _
  | ok E1 W1 =>
    rw [hr2] at hd hfi
    obtain ⟨ph5, pr5, kh5, kr5, rfl, hgx, hr5⟩ := hd
    obtain ⟨W6, hW6⟩ : ∃ W6, W6 = st6 w5 w.heap.size (.slice ph5 E1.length kh5) (.slice pr5 E1.length kr5) (.int .i64 now) (.int .i64 0) (.int .i64 0) (.slice (some ⟨O, 0, none⟩) l.length oc) := ⟨_, rfl⟩
    have HBW6 := Lib.hid (show Bx3 w W6 #[.slice ph5 E1.length kh5, .slice pr5 E1.length kr5, .int .i64 now, .int .i64 0, .int .i64 0, .slice (some ⟨O, 0, none⟩) l.length oc] #[.slice (some ⟨b, o, none⟩) ln cap] #[.slice none 0 0, .slice none 0 0, .int .i64 0, .int .i64 0, .int .i64 0, .slice none 0 0] by rw [hW6]; exact ⟨st6_blk hB5.b3 _ _ _ _ _ _, st6_far hB5.b4 (by omega) _ _ _ _ _ _, st6_far hB5.b6 (by omega) _ _ _ _ _ _⟩)
    have hr6 : Rf w0 W6 l (some ⟨b, o, none⟩) E1 (ov W1 of) (.slice ph5 E1.length kh5) (.slice pr5 E1.length kr5) O oc := by rw [hW6]; exact hr5.st6 hB5.b3 (by decide) hww _ _ _ _ _ _
    have HG6 := Lib.hid (show w.grownBy W6 (some O) by rw [hW6]; exact grown_st6 (grown_trans (grown_below HBel.out) hg5) (Nat.le_refl _) _ _ _ _ _ _)
    have hdec := rdecl_any (now := now) (cap := cap) hr6 HK.out HL.out (by have := hfi.1; have := HQB.out; omega)
    have HRB := Lib.hid (show r = (declF l now k E1).pre W1 by rw [HR.out, HLK.out, hr2]; rfl)
    have HND := Lib.hid (show declF l now k E1 ≠ .out by unfold declF; split <;> simp)
    rw [← HLN.out] at hdec
    unfold st6 at hW6
    have HW6 := Lib.hid hW6
    clear hW6 hr5 hgx hfi hg5 hcall hr2 hr6
    obtain ⟨n1', hn1'⟩ : ∃ n1', n1' = E1.length := ⟨_, rfl⟩
    rw [← hn1'] at HW6 HBW6 hdec ⊢
    rw [← HLN.out] at HBW6
    rw [← HLN.out] at HW6
    rw [← HLN.out]
    have HN1 := Lib.hid hn1'
    clear hn1'
    go_upto_region 15 with (fail)
    rw [← HW6.out]
    clear HW6 hB5 y0 y1 y2 y3 y4 y5 f0 f1 f2 f3 f4 f5 l3
    obtain ⟨y0, y1, y2, y3, y4, y5⟩ := six HBW6.out.b3
    obtain ⟨z0, z1, z2, z3, z4, z5⟩ := six HBW6.out.b6
    have x4 : W6.cell? ⟨w.heap.size + 1, 0, none⟩ = some (.slice (some ⟨b, o, none⟩) ln cap) := by rw [HBW6.out.b4.cell]; rfl
    have l3 := HBW6.out.b3.lt
    have l4 := HBW6.out.b4.lt
    have l6 := HBW6.out.b6.lt
    have q0 := HBW6.out.b6.frozen 0
    have q1 := HBW6.out.b6.frozen 1
    have q2 := HBW6.out.b6.frozen 2
    have q3 := HBW6.out.b6.frozen 3
    have q4 := HBW6.out.b6.frozen 4
    have q5 := HBW6.out.b6.frozen 5
    have f0 := HBW6.out.b3.frozen 0
    have f1 := HBW6.out.b3.frozen 1
    have f2 := HBW6.out.b3.frozen 2
    have f3 := HBW6.out.b3.frozen 3
    have f4 := HBW6.out.b3.frozen 4
    have f5 := HBW6.out.b3.frozen 5
    go_wp2_with (go_at_call 13; refine hdec.mono ?_)
    intro e w7 hd7
    have hg7 := RfPost.grown_ hd7 HND.out
    have hd8 := RfPost.from_ HG6.out hd7
    obtain ⟨ph7, pr7, n7, m7, kh7, kr7, c7, a7, rfl, hgx, _⟩ := RfPost.open_ hd7 HND.out
    have hB7' := HBW6.out.grown hg7 (fun g e => by cases e; exact lO2)
    clear y0 y1 y2 y3 y4 y5 z0 z1 z2 z3 z4 z5 x4 l3 l4 l6 q0 q1 q2 q3 q4 q5 f0 f1 f2 f3 f4 f5
    obtain ⟨y0, y1, y2, y3, y4, y5⟩ := six hB7'.b3
    have f0 := hB7'.b3.frozen 0
    have f1 := hB7'.b3.frozen 1
    have f2 := hB7'.b3.frozen 2
    have f3 := hB7'.b3.frozen 3
    have f4 := hB7'.b3.frozen 4
    have f5 := hB7'.b3.frozen 5
    have l3 := hB7'.b3.lt
    obtain ⟨W8, hW8⟩ : ∃ W8, W8 = st6 w7 w.heap.size (.slice ph7 n7 kh7) (.slice pr7 m7 kr7) (.int .i64 now) (.int .i64 c7) (.int .i64 a7) (.slice (some ⟨O, 0, none⟩) l.length oc) := ⟨_, rfl⟩
    have HBW8 := Lib.hid (show Bx3 w W8 #[.slice ph7 n7 kh7, .slice pr7 m7 kr7, .int .i64 now, .int .i64 c7, .int .i64 a7, .slice (some ⟨O, 0, none⟩) l.length oc] #[.slice (some ⟨b, o, none⟩) ln cap] #[.slice none 0 0, .slice none 0 0, .int .i64 0, .int .i64 0, .int .i64 0, .slice none 0 0] by rw [hW8]; exact ⟨st6_blk hB7'.b3 _ _ _ _ _ _, st6_far hB7'.b4 (by omega) _ _ _ _ _ _, st6_far hB7'.b6 (by omega) _ _ _ _ _ _⟩)
    have HD8 := Lib.hid (show RfPost w0 w l (some ⟨b, o, none⟩) (ov W1 of) now O oc (declF l now k E1) (.returned (.agg #[.slice ph7 n7 kh7, .slice pr7 m7 kr7, .int .i64 now, .int .i64 c7, .int .i64 a7, .slice (some ⟨O, 0, none⟩) l.length oc])) W8 by rw [hW8]; exact RfPost.box6 hd8 hB7'.b3 (by decide) (by omega) (Nat.le_refl _) _ _ _ _ _ _)
    unfold st6 at hW8
    have HW8 := Lib.hid hW8
    clear hW8 hd7 hd8 hgx hg7 hdec
    go_upto_region 17 with (fail)
    rw [← HW8.out]
    clear HW8 hB7' y0 y1 y2 y3 y4 y5 f0 f1 f2 f3 f4 f5 l3
    obtain ⟨y0, y1, y2, y3, y4, y5⟩ := six HBW8.out.b3
    obtain ⟨z0, z1, z2, z3, z4, z5⟩ := six HBW8.out.b6
    have x4 : W8.cell? ⟨w.heap.size + 1, 0, none⟩ = some (.slice (some ⟨b, o, none⟩) ln cap) := by rw [HBW8.out.b4.cell]; rfl
    have l3 := HBW8.out.b3.lt
    have l4 := HBW8.out.b4.lt
    have l6 := HBW8.out.b6.lt
    have q0 := HBW8.out.b6.frozen 0
    have q1 := HBW8.out.b6.frozen 1
    have q2 := HBW8.out.b6.frozen 2
    have q3 := HBW8.out.b6.frozen 3
    have q4 := HBW8.out.b6.frozen 4
    have q5 := HBW8.out.b6.frozen 5
    have f0 := HBW8.out.b3.frozen 0
    have f1 := HBW8.out.b3.frozen 1
    have f2 := HBW8.out.b3.frozen 2
    have f3 := HBW8.out.b3.frozen 3
    have f4 := HBW8.out.b3.frozen 4
    have f5 := HBW8.out.b3.frozen 5
    go_wp2
    have hz := st6_blk HBW8.out.b6 (.slice ph7 n7 kh7) (.slice pr7 m7 kr7) (.int .i64 now) (.int .i64 c7) (.int .i64 a7) (.slice (some ⟨O, 0, none⟩) l.length oc)
    obtain ⟨v0, v1, v2, v3, v4, v5⟩ := six hz
    unfold st6 at v0 v1 v2 v3 v4 v5
    refine bodyPost_ret (v := .agg #[.slice ph7 n7 kh7, .slice pr7 m7 kr7, .int .i64 now, .int .i64 c7, .int .i64 a7, .slice (some ⟨O, 0, none⟩) l.length oc]) (by simp [results, Try.results26, go_sem, v0, v1, v2, v3, v4, v5]) rfl ?_
    rw [HQ.out]
    rw [HRB.out]
    exact RfPost.pre (RfPost.box6 HD8.out HBW8.out.b6 (by decide) (by omega) (by omega) _ _ _ _ _ _)

end Go.Proofs.Ytmghjfphlneblaa.Sc
