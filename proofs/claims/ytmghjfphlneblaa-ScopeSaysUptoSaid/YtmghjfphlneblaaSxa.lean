/-
  Contracts of the document's look: a node of no kind of its own, a parameter.
-/
import Derived.Test.YtmghjfphlneblaaSw
namespace Go.Proofs.Ytmghjfphlneblaa.Sc
open Go.RowKit
open Tr

set_option maxHeartbeats 16000000 in
set_option maxRecDepth 100000 in
theorem look_else {w0 w : World} {l : List Nd} {p : Option Addr} {E : Env} {of : List Int} {ph pr : Option Addr} {kh kr O oc cap now k q f : Nat} (hV : LookOK w0 l p cap O oc f) (hC : ∀ j, j < l.length → codeAt l j = 0) (hl : l.length ≤ 600) (h : Rf w0 w l p E of (.slice ph E.length kh) (.slice pr E.length kr) O oc) (hk : k < l.length) (hkf : k < f + 1) (hnow : now + (f + 1) ≤ 1000000) (hE : E.length ≤ q + St l k) (hq : q + (k + 1) ≤ 100000) (hlow : Low l now E)
    (hz : now = 0 → Zk (kindAt l k)) (ht : kindAt l k = 2 ∨ kindAt l k = 3 → of[k]? = some (k : Int)) (h1u : kindAt l k ≠ 1) (hF : kindAt l k ≠ 3 ∧ kindAt l k ≠ 11 ∧ kindAt l k ≠ 17 ∧ kindAt l k ≠ 18 ∧ kindAt l k ≠ 4 ∧ kindAt l k ≠ 12 ∧ kindAt l k ≠ 32 ∧ kindAt l k ≠ 33) :
    Calls Try.prog 26 #[.agg #[.slice ph E.length kh, .slice pr E.length kr, .int .i64 now, .int .i64 0, .int .i64 0, .slice (some ⟨O, 0, none⟩) l.length oc], .agg #[.slice p l.length cap], .int .i64 k] w (RfPost w0 w l p of now O oc (look l (f + 1) now k E)) := by
  obtain ⟨f3, f11, f17, f18, f4, f12, f32, f33⟩ := hF
  have hW0 : ∃ W0, own l now k E = .ok E W0 ∧ ov W0 of = of := by
    unfold own
    by_cases h2 : kindAt l k = 2
    · refine ⟨[(k, (k : Int))], by rw [if_pos (Or.inl h2)], ?_⟩
      obtain ⟨e1, e2⟩ := List.getElem?_eq_some_iff.1 (ht (Or.inl h2))
      rw [ov_one, ← e2]; simp
    · exact ⟨[], by rw [if_neg (by omega), if_neg (by omega), if_neg f32, if_neg f33], rfl⟩
  obtain ⟨W0, hW0, hov⟩ := hW0
  have hlk : look l (f + 1) now k E = (each (look l f now) (kidsAt l k) E).pre W0 := by
    simp only [look]
    rw [if_neg f12, hW0]
    show (kidsF l (look l f) now k E).pre W0 = _
    unfold kidsF
    rw [if_neg (by unfold opB; rw [decide_eq_true_eq]; omega)]
  have h3n : kindAt l k ≠ 3 := f3
  obtain ⟨pos, hK⟩ := kin_of hk (hC k hk)
  have hz' : now = 0 → ∀ x : Nat, (x : Int) ∈ kidsAt l k → Zk (kindAt l x) := fun e x hx => by
    obtain ⟨j, hj, hjx⟩ := hK.mem hx
    refine hK.kidZ ?_ j hj hjx
    rcases hz e with h | h | h
    · exact Or.inl h
    · exact absurd h h3n
    · exact Or.inr h
  have ht' : ∀ x : Nat, (x : Int) ∈ kidsAt l k → kindAt l x = 2 ∨ kindAt l x = 3 → of[x]? = some (x : Int) := fun x hx e => by
    obtain ⟨j, hj, hjx⟩ := hK.mem hx
    exact absurd e (hK.kidTop h1u j hj hjx)
  have hle := St_le l k
  have hne := (fine_each (q := q) hK hk (fun x E h1 h2 h3 => fine_look hC f now x q E (by omega) h2 h3) (kidsAt l k).length 0 E (by omega) (by rw [hK.from_]; exact hE)).out
  obtain ⟨b, o, hp, hbb, t, nn, zz, aa, cp, kc, htx, c0, c1, c2, c3, c4, c5⟩ := h.node hk
  obtain ⟨r, hr⟩ : ∃ r, r = look l (f + 1) now k E := ⟨_, rfl⟩
  obtain ⟨Q, hQ⟩ : ∃ Q : Ending → World → Prop, Q = RfPost w0 w l p of now O oc r := ⟨_, rfl⟩
  rw [← hr, ← hQ]
  have HQ := Lib.hid hQ
  have HR := Lib.hid hr
  have lO := own_ge h.ofr (g := O) rfl
  have lO2 := lO.2
  have lO1 := lO.1
  have hww := h.bel.size
  have hbb1 : b < w.heap.size + 1 := by omega
  have hbb2 : b < w.heap.size + 1 + 1 := by omega
  have hkl6 : k ≤ 600 := by omega
  obtain ⟨kd, hkd⟩ : ∃ kd, kd = kindAt l k := ⟨_, rfl⟩
  rw [← hkd] at c0
  have d3 : (kd == 3) = false := by simp; omega
  have d11 : (kd == 11) = false := by simp; omega
  have d17 : (kd == 17) = false := by simp; omega
  have d18 : (kd == 18) = false := by simp; omega
  have d4 : (kd == 4) = false := by simp; omega
  have d12 : (kd == 12) = false := by simp; omega
  have d32 : (kd == 32) = false := by simp; omega
  have d33 : (kd == 33) = false := by simp; omega
  have HLK := Lib.hid hlk
  have HOV := Lib.hid hov
  have HNE := Lib.hid (show each (look l f now) (kidsAt l k) E ≠ .out from hne)
  obtain ⟨cn, hcn⟩ : ∃ cn, cn = (kidsAt l k).length := ⟨_, rfl⟩
  rw [← hcn] at c4
  obtain ⟨w4, hw4⟩ : ∃ w4, w4 = ((((w.alloc (.cells #[.slice ph E.length kh, .slice pr E.length kr, .int .i64 now, .int .i64 0, .int .i64 0, .slice (some ⟨O, 0, none⟩) l.length oc] 44)).alloc (.cells #[.slice p l.length cap] 24)).alloc (.cells #[.slice none 0 0, .slice none 0 0, .int .i64 0, .int .i64 0, .int .i64 0, .slice none 0 0] 44)).alloc (.cells #[.int .i64 kd, .string t, .int .i64 nn, .int .i64 zz, .slice cp cn kc, .int .i64 aa] 34)) := ⟨_, rfl⟩
  obtain ⟨hB, hB7, hbel⟩ := four_new w _ _ _ _ _ w4 hw4
  have h4 := h.below hbel
  have hcall := all_any hV hC hl h4 hk hkf (by omega) hE (by omega) hlow hz' ht'
  subst hp
  obtain ⟨n, hn⟩ : ∃ n, n = E.length := ⟨_, rfl⟩
  obtain ⟨ln, hln⟩ : ∃ ln, ln = l.length := ⟨_, rfl⟩
  obtain ⟨nw, hnw⟩ : ∃ nw : Int, nw = (now : Int) := ⟨_, rfl⟩
  have hln6 : ln ≤ 600 := by omega
  have hkl : k < ln := by omega
  rw [← hn, ← hln, ← hnw] at hw4 hB ⊢
  rw [← hn, ← hln, ← hnw] at hcall
  have nw0 : (0 : Int) ≤ nw := by omega
  have nw1 : nw ≤ 1000000 := by omega
  have HB := Lib.hid hB
  have HB7 := Lib.hid hB7
  have HBel := Lib.hid hbel
  have HW4 := Lib.hid hw4
  have HH := Lib.hid h
  have HH4 := Lib.hid h4
  have HLN := Lib.hid hln
  have HN := Lib.hid hn
  have HNW := Lib.hid hnw
  have HKD := Lib.hid hkd
  have HTX := Lib.hid htx
  clear hQ hr lO hkd hB hB7 hbel h4 h hw4 hV hC hE hlow hz ht hcn hn hln hnw htx hz' ht' hK hle hne hlk hov hW0 f3 f11 f17 f18 f4 f12 f32 f33 h3n h1u
  go_enter Try.func26, Try.ntmps26
  go_upto_region 36 with (fail)
  rw [← HW4.out]
  clear HW4 c0 c1 c2 c3 c4 c5
  have hbb4 : b < w4.heap.size := Nat.lt_of_lt_of_le hbb HBel.out.size
  obtain ⟨y0, y1, y2, y3, y4, y5⟩ := six HB.out.b3
  obtain ⟨n0, n1, n2, n3, n4, n5⟩ := six HB7.out
  have x4 : w4.cell? ⟨w.heap.size + 1, 0, none⟩ = some (.slice (some ⟨b, o, none⟩) ln cap) := by rw [HB.out.b4.cell]; rfl
  have l3 := HB.out.b3.lt
  have l4 := HB.out.b4.lt
  have l6 := HB.out.b6.lt
  have l7 := HB7.out.lt
  go_wp2_with (go_at_call 14; refine hcall.mono ?_)
  intro e w5 hd
  have hg5 := RfPost.grown_ hd HNE.out
  obtain ⟨ph5, pr5, n5', m5, kh5, kr5, c5', a5, rfl, hg6, hcl⟩ := RfPost.open_ (RfPost.from_ (grown_below HBel.out) hd) HNE.out
  have hB5 := HB.out.grown hg5 (fun g e => by cases e; exact lO2)
  obtain ⟨z0, z1, z2, z3, z4, z5⟩ := six hB5.b6
  have q0 := hB5.b6.frozen 0
  have q1 := hB5.b6.frozen 1
  have q2 := hB5.b6.frozen 2
  have q3 := hB5.b6.frozen 3
  have q4 := hB5.b6.frozen 4
  have q5 := hB5.b6.frozen 5
  have l65 := hB5.b6.lt
  have HCL := Lib.hid (hcl.out _ _ _ _ _ _ _ _ hB5.b6 (by decide) (by omega) (by omega))
  have HB5 := Lib.hid hB5
  clear hB5 hg5 hg6 hcl hcall hd
  go_wp2
  have hz := st6_blk HB5.out.b6 (.slice ph5 n5' kh5) (.slice pr5 m5 kr5) (.int .i64 now) (.int .i64 c5') (.int .i64 a5) (.slice (some ⟨O, 0, none⟩) l.length oc)
  obtain ⟨v0, v1, v2, v3, v4, v5⟩ := six hz
  unfold st6 at v0 v1 v2 v3 v4 v5
  refine bodyPost_ret (v := .agg #[.slice ph5 n5' kh5, .slice pr5 m5 kr5, .int .i64 now, .int .i64 c5', .int .i64 a5, .slice (some ⟨O, 0, none⟩) l.length oc]) (by simp [results, Try.results26, go_sem, v0, v1, v2, v3, v4, v5]) rfl ?_
  rw [HQ.out]
  rw [HR.out, HLK.out]
  refine RfPost.pre ?_
  rw [HOV.out]
  exact HCL.out

set_option maxHeartbeats 16000000 in
set_option maxRecDepth 100000 in
theorem look_param {w0 w : World} {l : List Nd} {p : Option Addr} {E : Env} {of : List Int} {ph pr : Option Addr} {kh kr O oc cap now k q f : Nat} (hV : LookOK w0 l p cap O oc f) (hC : ∀ j, j < l.length → codeAt l j = 0) (hl : l.length ≤ 600) (h : Rf w0 w l p E of (.slice ph E.length kh) (.slice pr E.length kr) O oc) (hk : k < l.length) (hkf : k < f + 1) (hnow : now + (f + 1) ≤ 1000000) (hE : E.length ≤ q + St l k) (hq : q + (k + 1) ≤ 100000) (hlow : Low l now E)
    (hz : now = 0 → Zk (kindAt l k)) (ht : kindAt l k = 2 ∨ kindAt l k = 3 → of[k]? = some (k : Int)) (h1u : kindAt l k ≠ 1) (h4k : kindAt l k = 4) :
    Calls Try.prog 26 #[.agg #[.slice ph E.length kh, .slice pr E.length kr, .int .i64 now, .int .i64 0, .int .i64 0, .slice (some ⟨O, 0, none⟩) l.length oc], .agg #[.slice p l.length cap], .int .i64 k] w (RfPost w0 w l p of now O oc (look l (f + 1) now k E)) := by
  have hkn := kids_none hk (hC k hk) (Or.inl h4k)
  have hlk : look l (f + 1) now k E = declF l now k E := by
    simp only [look]
    rw [if_neg (by rw [h4k]; decide)]
    have ho : own l now k E = declF l now k E := by unfold own; rw [if_neg (by rw [h4k]; decide), if_pos (Or.inl h4k)]
    rw [ho]
    have hkk : kidsF l (look l f) now k = fun E => .ok E [] := by
      funext E
      unfold kidsF
      rw [if_neg (by rw [h4k]; decide), hkn]; rfl
    rw [hkk]
    unfold declF
    split
    · rfl
    · rfl
  have hle := St_le l k
  obtain ⟨b, o, hp, hbb, t, nn, zz, aa, cp, kc, htx, c0, c1, c2, c3, c4, c5⟩ := h.node hk
  obtain ⟨r, hr⟩ : ∃ r, r = look l (f + 1) now k E := ⟨_, rfl⟩
  obtain ⟨Q, hQ⟩ : ∃ Q : Ending → World → Prop, Q = RfPost w0 w l p of now O oc r := ⟨_, rfl⟩
  rw [← hr, ← hQ]
  have HQ := Lib.hid hQ
  have HR := Lib.hid hr
  have lO := own_ge h.ofr (g := O) rfl
  have lO2 := lO.2
  have lO1 := lO.1
  have hww := h.bel.size
  have hbb1 : b < w.heap.size + 1 := by omega
  have hbb2 : b < w.heap.size + 1 + 1 := by omega
  have hkl6 : k ≤ 600 := by omega
  obtain ⟨kd, hkd⟩ : ∃ kd, kd = kindAt l k := ⟨_, rfl⟩
  rw [← hkd] at c0
  rw [h4k] at hkd
  subst hkd
  have hkd : (4 : Int) = 4 := rfl
  have HLK := Lib.hid hlk
  have HNE := Lib.hid (show declF l now k E ≠ .out by unfold declF; split <;> simp)
  obtain ⟨cn, hcn⟩ : ∃ cn, cn = (kidsAt l k).length := ⟨_, rfl⟩
  rw [← hcn] at c4
  obtain ⟨w4, hw4⟩ : ∃ w4, w4 = ((((w.alloc (.cells #[.slice ph E.length kh, .slice pr E.length kr, .int .i64 now, .int .i64 0, .int .i64 0, .slice (some ⟨O, 0, none⟩) l.length oc] 44)).alloc (.cells #[.slice p l.length cap] 24)).alloc (.cells #[.slice none 0 0, .slice none 0 0, .int .i64 0, .int .i64 0, .int .i64 0, .slice none 0 0] 44)).alloc (.cells #[.int .i64 4, .string t, .int .i64 nn, .int .i64 zz, .slice cp cn kc, .int .i64 aa] 34)) := ⟨_, rfl⟩
  obtain ⟨hB, hB7, hbel⟩ := four_new w _ _ _ _ _ w4 hw4
  have h4 := h.below hbel
  have hcall := rdecl_any (now := now) (cap := cap) h4 hk hl (by omega)
  subst hp
  obtain ⟨n, hn⟩ : ∃ n, n = E.length := ⟨_, rfl⟩
  obtain ⟨ln, hln⟩ : ∃ ln, ln = l.length := ⟨_, rfl⟩
  obtain ⟨nw, hnw⟩ : ∃ nw : Int, nw = (now : Int) := ⟨_, rfl⟩
  have hln6 : ln ≤ 600 := by omega
  have hkl : k < ln := by omega
  rw [← hn, ← hln, ← hnw] at hw4 hB ⊢
  rw [← hn, ← hln, ← hnw] at hcall
  have nw0 : (0 : Int) ≤ nw := by omega
  have nw1 : nw ≤ 1000000 := by omega
  have HB := Lib.hid hB
  have HB7 := Lib.hid hB7
  have HBel := Lib.hid hbel
  have HW4 := Lib.hid hw4
  have HH := Lib.hid h
  have HH4 := Lib.hid h4
  have HLN := Lib.hid hln
  have HN := Lib.hid hn
  have HNW := Lib.hid hnw
  have HKD := Lib.hid hkd
  have HTX := Lib.hid htx
  clear hQ hr lO hkd hB hB7 hbel h4 h hw4 hV hC hE hlow hz ht hcn hn hln hnw htx hkn hle hlk h4k h1u
  go_enter Try.func26, Try.ntmps26
  go_upto_region 12 with (fail)
  rw [← HW4.out]
  clear HW4 c0 c1 c2 c3 c4 c5
  have hbb4 : b < w4.heap.size := Nat.lt_of_lt_of_le hbb HBel.out.size
  obtain ⟨y0, y1, y2, y3, y4, y5⟩ := six HB.out.b3
  obtain ⟨n0, n1, n2, n3, n4, n5⟩ := six HB7.out
  have x4 : w4.cell? ⟨w.heap.size + 1, 0, none⟩ = some (.slice (some ⟨b, o, none⟩) ln cap) := by rw [HB.out.b4.cell]; rfl
  have l3 := HB.out.b3.lt
  have l4 := HB.out.b4.lt
  have l6 := HB.out.b6.lt
  have l7 := HB7.out.lt
  go_wp2_with (go_at_call 13; refine hcall.mono ?_)
  intro e w5 hd
  have hg5 := RfPost.grown_ hd HNE.out
  obtain ⟨ph5, pr5, n5', m5, kh5, kr5, c5', a5, rfl, hg6, hcl⟩ := RfPost.open_ (RfPost.from_ (grown_below HBel.out) hd) HNE.out
  have hB5 := HB.out.grown hg5 (fun g e => by cases e; exact lO2)
  obtain ⟨z0, z1, z2, z3, z4, z5⟩ := six hB5.b6
  have q0 := hB5.b6.frozen 0
  have q1 := hB5.b6.frozen 1
  have q2 := hB5.b6.frozen 2
  have q3 := hB5.b6.frozen 3
  have q4 := hB5.b6.frozen 4
  have q5 := hB5.b6.frozen 5
  have l65 := hB5.b6.lt
  have HCL := Lib.hid (hcl.out _ _ _ _ _ _ _ _ hB5.b6 (by decide) (by omega) (by omega))
  have HB5 := Lib.hid hB5
  clear hB5 hg5 hg6 hcl hcall hd
  go_wp2
  have hz := st6_blk HB5.out.b6 (.slice ph5 n5' kh5) (.slice pr5 m5 kr5) (.int .i64 now) (.int .i64 c5') (.int .i64 a5) (.slice (some ⟨O, 0, none⟩) l.length oc)
  obtain ⟨v0, v1, v2, v3, v4, v5⟩ := six hz
  unfold st6 at v0 v1 v2 v3 v4 v5
  refine bodyPost_ret (v := .agg #[.slice ph5 n5' kh5, .slice pr5 m5 kr5, .int .i64 now, .int .i64 c5', .int .i64 a5, .slice (some ⟨O, 0, none⟩) l.length oc]) (by simp [results, Try.results26, go_sem, v0, v1, v2, v3, v4, v5]) rfl ?_
  rw [HQ.out]
  rw [HR.out, HLK.out]
  exact HCL.out

end Go.Proofs.Ytmghjfphlneblaa.Sc
