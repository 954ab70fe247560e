/-
  Contracts of the document's look: what opens a room.
-/
import Derived.Test.YtmghjfphlneblaaSxc
namespace Go.Proofs.Ytmghjfphlneblaa.Sc
open Go.RowKit
open Tr

section
variable {w X : World} {g B n : Nat} {t : TypeId} {x0 x1 x2 x3 x4 x5 v : Value} {xs : List Value} {cs : Array Value} {row : Option Nat}
/-- a room is left -/
def st3 (w : World) (g : Nat) (a b c : Value) : World := ((w.setCell ⟨g, 2, none⟩ a).setCell ⟨g, 0, none⟩ b).setCell ⟨g, 1, none⟩ c
theorem st3_blk (h : Blk w g t #[x0, x1, x2, x3, x4, x5]) (a b c : Value) : Blk (st3 w g a b c) g t #[b, c, a, x3, x4, x5] := by
  have := ((h.set_ 2 a).set_ 0 b).set_ 1 c
  simpa [st3] using this
theorem st3_far (h : Blk w B t cs) (hne : B ≠ g) (a b c : Value) : Blk (st3 w g a b c) B t cs :=
  ((h.far (p := ⟨g, 2, none⟩) hne a).far (p := ⟨g, 0, none⟩) hne b).far (p := ⟨g, 1, none⟩) hne c
theorem row_st3 {b0 : Nat} (h : w.ownsRow b0 3 1 v n xs) (hB : Blk w g t #[x0, x1, x2, x3, x4, x5]) (ht : t ≠ 3) (a b c : Value) : (st3 w g a b c).ownsRow b0 3 1 v n xs :=
  row_far (row_far (row_far h hB ht 2 a) (hB.set_ 2 a) ht 0 b) ((hB.set_ 2 a).set_ 0 b) ht 1 c
theorem grown_st3 (h : w.grownBy X row) (hB : w.heap.size ≤ B) (a b c : Value) : w.grownBy (st3 X B a b c) row :=
  grown_box (grown_box (grown_box h (Or.inl hB) 2 a) (Or.inl hB) 0 b) (Or.inl hB) 1 c
end
set_option maxHeartbeats 16000000 in
set_option maxRecDepth 100000 in
theorem look_open3 {w0 w : World} {l : List Nd} {p : Option Addr} {E : Env} {of : List Int} {ph pr : Option Addr} {kh kr O oc cap now k q f : Nat} (hV : LookOK w0 l p cap O oc f) (hC : ∀ j, j < l.length → codeAt l j = 0) (hl : l.length ≤ 600) (h : Rf w0 w l p E of (.slice ph E.length kh) (.slice pr E.length kr) O oc) (hk : k < l.length) (hkf : k < f + 1) (hnow : now + (f + 1) ≤ 1000000) (hE : E.length ≤ q + St l k) (hq : q + (k + 1) ≤ 100000) (hlow : Low l now E)
    (hz : now = 0 → Zk (kindAt l k)) (ht : kindAt l k = 2 ∨ kindAt l k = 3 → of[k]? = some (k : Int)) (h1u : kindAt l k ≠ 1) (hop : kindAt l k = 3) :
    Calls Try.prog 26 #[.agg #[.slice ph E.length kh, .slice pr E.length kr, .int .i64 now, .int .i64 0, .int .i64 0, .slice (some ⟨O, 0, none⟩) l.length oc], .agg #[.slice p l.length cap], .int .i64 k] w (RfPost w0 w l p of now O oc (look l (f + 1) now k E)) := by
  have hW0 : ∃ W0, own l now k E = .ok E W0 ∧ ov W0 of = of := by
    unfold own
    by_cases h2 : kindAt l k = 3
    · refine ⟨[(k, (k : Int))], by rw [if_pos (Or.inr h2)], ?_⟩
      obtain ⟨e1, e2⟩ := List.getElem?_eq_some_iff.1 (ht (Or.inr h2))
      rw [ov_one, ← e2]; simp
    · exact ⟨[], by rw [if_neg (by omega), if_neg (by omega), if_neg (by omega), if_neg (by omega)], rfl⟩
  obtain ⟨W0, hW0, hov⟩ := hW0
  have hlk : look l (f + 1) now k E = ((each (look l f (now + 1)) (kidsAt l k) E).back E).pre W0 := by
    simp only [look]
    rw [if_neg (by omega), hW0]
    show (kidsF l (look l f) now k E).pre W0 = _
    unfold kidsF
    rw [if_pos (by unfold opB; rw [decide_eq_true_eq]; omega)]
  obtain ⟨pos, hK⟩ := kin_of hk (hC k hk)
  have ht' : ∀ x : Nat, (x : Int) ∈ kidsAt l k → kindAt l x = 2 ∨ kindAt l x = 3 → of[x]? = some (x : Int) := fun x hx e => by
    obtain ⟨j, hj, hjx⟩ := hK.mem hx
    exact absurd e (hK.kidTop h1u j hj hjx)
  have hle := St_le l k
  have hne := (fine_each (q := q) hK hk (fun x E h1 h2 h3 => fine_look hC f (now + 1) x q E (by omega) h2 h3) (kidsAt l k).length 0 E (by omega) (by rw [hK.from_]; exact hE)).out
  obtain ⟨b, o, hp, hbb, t, nn, zz, aa, cp, kc, htx, c0, c1, c2, c3, c4, c5⟩ := h.node hk
  obtain ⟨r, hr⟩ : ∃ r, r = look l (f + 1) now k E := ⟨_, rfl⟩
  obtain ⟨Q, hQ⟩ : ∃ Q : Ending → World → Prop, Q = RfPost w0 w l p of now O oc r := ⟨_, rfl⟩
  rw [← hr, ← hQ]
  have HQ := Lib.hid hQ
  have HR := Lib.hid hr
  have lO := own_ge h.ofr (g := O) rfl
  have lO2 := lO.2
  have lO1 := lO.1
  have hww := h.bel.size
  have hbb1 : b < w.heap.size + 1 := by omega
  have hbb2 : b < w.heap.size + 1 + 1 := by omega
  have hkl6 : k ≤ 600 := by omega
  obtain ⟨kd, hkd⟩ : ∃ kd, kd = kindAt l k := ⟨_, rfl⟩
  rw [← hkd] at c0
  rw [hop] at hkd
  subst hkd
  have hkd : (3 : Int) = 3 := rfl
  have HLK := Lib.hid hlk
  have HOV := Lib.hid hov
  have HNE := Lib.hid (show each (look l f (now + 1)) (kidsAt l k) E ≠ .out from hne)
  obtain ⟨cn, hcn⟩ : ∃ cn, cn = (kidsAt l k).length := ⟨_, rfl⟩
  rw [← hcn] at c4
  obtain ⟨w4, hw4⟩ : ∃ w4, w4 = ((((w.alloc (.cells #[.slice ph E.length kh, .slice pr E.length kr, .int .i64 now, .int .i64 0, .int .i64 0, .slice (some ⟨O, 0, none⟩) l.length oc] 44)).alloc (.cells #[.slice p l.length cap] 24)).alloc (.cells #[.slice none 0 0, .slice none 0 0, .int .i64 0, .int .i64 0, .int .i64 0, .slice none 0 0] 44)).alloc (.cells #[.int .i64 3, .string t, .int .i64 nn, .int .i64 zz, .slice cp cn kc, .int .i64 aa] 34)) := ⟨_, rfl⟩
  obtain ⟨hB, hB7, hbel⟩ := four_new w _ _ _ _ _ w4 hw4
  have h4 := h.below hbel
  subst hp
  have HBX := Lib.hid hB.b3
  obtain ⟨n, hn⟩ : ∃ n, n = E.length := ⟨_, rfl⟩
  obtain ⟨ln, hln⟩ : ∃ ln, ln = l.length := ⟨_, rfl⟩
  obtain ⟨nw, hnw⟩ : ∃ nw : Int, nw = (now : Int) := ⟨_, rfl⟩
  have hln6 : ln ≤ 600 := by omega
  have hkl : k < ln := by omega
  rw [← hn, ← hln, ← hnw] at hw4 hB ⊢
  obtain ⟨nx, hnx⟩ : ∃ nx : Int, nx = ((now + 1 : Nat) : Int) := ⟨_, rfl⟩
  have hnx1 : nw + 1 = nx := by omega
  have hnx2 : nx - 1 = nw := by omega
  have nx0 : (1 : Int) ≤ nx := by omega
  have nx2 : nx ≤ 1000001 := by omega
  obtain ⟨w5, hw5⟩ : ∃ w5, w5 = w4.setCell ⟨w.heap.size, 2, none⟩ (.int .i64 nx) := ⟨_, rfl⟩
  have h5 : Rf w0 w5 l (some ⟨b, o, none⟩) E of (.slice ph E.length kh) (.slice pr E.length kr) O oc := by rw [hw5]; exact h4.box HBX.out hww (by decide) 2 _
  have hcall := all_any hV hC hl h5 hk hkf (by omega) hE (by omega) hlow.succ (fun e => by omega) ht'
  rw [← hn, ← hln, ← hnx] at hcall
  have HG5 := Lib.hid (show w.grownBy w5 (some O) by rw [hw5]; exact grown_box (grown_below hbel) (Or.inl (Nat.le_refl _)) 2 _)
  have HB5 := Lib.hid (show Bx3 w w5 #[.slice ph n kh, .slice pr n kr, .int .i64 nx, .int .i64 0, .int .i64 0, .slice (some ⟨O, 0, none⟩) ln oc] #[.slice (some ⟨b, o, none⟩) ln cap] #[.slice none 0 0, .slice none 0 0, .int .i64 0, .int .i64 0, .int .i64 0, .slice none 0 0] by
    rw [hw5]
    have hz := hB.b3.set_ 2 (.int .i64 nx)
    exact ⟨by simpa using hz, hB.b4.far (p := ⟨w.heap.size, 2, none⟩) (show w.heap.size + 1 ≠ w.heap.size by omega) _, hB.b6.far (p := ⟨w.heap.size, 2, none⟩) (show w.heap.size + 1 + 1 ≠ w.heap.size by omega) _⟩)
  have HW5 := Lib.hid hw5
  have HX2 := Lib.hid hnx2
  have HNX := Lib.hid hnx
  clear hw5 h5 hnx
  have nw0 : (0 : Int) ≤ nw := by omega
  have nw1 : nw ≤ 1000000 := by omega
  have HB := Lib.hid hB
  have HB7 := Lib.hid hB7
  have HBel := Lib.hid hbel
  have HW4 := Lib.hid hw4
  have HH := Lib.hid h
  have HH4 := Lib.hid h4
  have HLN := Lib.hid hln
  have HN := Lib.hid hn
  have HNW := Lib.hid hnw
  have HKD := Lib.hid hkd
  have HTX := Lib.hid htx
  clear hQ hr lO hkd hB hB7 hbel h4 h hw4 hV hC hE hlow hz ht hcn hn hln hnw htx hne hlk hov hW0 hle hop h1u hk hl hK ht'
  go_enter Try.func26, Try.ntmps26
  go_upto_region 3 with (fail)
  rw [← HW4.out]
  clear HW4 c0 c1 c2 c3 c4 c5
  have hbb4 : b < w4.heap.size := Nat.lt_of_lt_of_le hbb HBel.out.size
  obtain ⟨y0, y1, y2, y3, y4, y5⟩ := six HB.out.b3
  obtain ⟨n0, n1, n2, n3, n4, n5⟩ := six HB7.out
  have x4 : w4.cell? ⟨w.heap.size + 1, 0, none⟩ = some (.slice (some ⟨b, o, none⟩) ln cap) := by rw [HB.out.b4.cell]; rfl
  have l3 := HB.out.b3.lt
  have l4 := HB.out.b4.lt
  have l6 := HB.out.b6.lt
  have l7 := HB7.out.lt
  have f2 := HB.out.b3.frozen 2
  clear n0 n1 n2 n3 n4 n5
  go_upto_region 6 with (fail)
  rw [← HW5.out]
  clear HW5 y0 y1 y2 y3 y4 y5 x4 l3 l4 l6 l7 f2 hbb4
  obtain ⟨y0, y1, y2, y3, y4, y5⟩ := six HB5.out.b3
  obtain ⟨z0, z1, z2, z3, z4, z5⟩ := six HB5.out.b6
  have x4 : w5.cell? ⟨w.heap.size + 1, 0, none⟩ = some (.slice (some ⟨b, o, none⟩) ln cap) := by rw [HB5.out.b4.cell]; rfl
  have l3 := HB5.out.b3.lt
  have l4 := HB5.out.b4.lt
  have l6 := HB5.out.b6.lt
  have q0 := HB5.out.b6.frozen 0
  have q1 := HB5.out.b6.frozen 1
  have q2 := HB5.out.b6.frozen 2
  have q3 := HB5.out.b6.frozen 3
  have q4 := HB5.out.b6.frozen 4
  have q5 := HB5.out.b6.frozen 5
  have f0 := HB5.out.b3.frozen 0
  have f1 := HB5.out.b3.frozen 1
  have f2 := HB5.out.b3.frozen 2
  have f3 := HB5.out.b3.frozen 3
  have f4 := HB5.out.b3.frozen 4
  have f5 := HB5.out.b3.frozen 5
  clear hnx1 hnx2
  go_wp2_with (go_at_call 14; refine hcall.mono ?_)
  intro e w6 hd
  have hg6 := RfPost.grown_ hd HNE.out
  have hd2 := RfPost.from_ HG5.out hd
  obtain ⟨ph5, pr5, n5', m5, kh5, kr5, c5', a5, rfl, hg6', hcl⟩ := RfPost.back_ (now := now) HH.out lO1 hd2 HNE.out
  have HCL := Lib.hid hcl.out
  have hB6 := HB5.out.grown hg6 (fun g e => by cases e; exact lO2)
  have HG6 := Lib.hid hg6'
  rw [← HNX.out, ← HLN.out]
  clear hcall hd hd2 hg6 hg6' hcl HB5
  clear y0 y1 y2 y3 y4 y5 z0 z1 z2 z3 z4 z5 x4 l3 l4 l6 q0 q1 q2 q3 q4 q5 f0 f1 f2 f3 f4 f5
  obtain ⟨y0, y1, y2, y3, y4, y5⟩ := six hB6.b3
  have f0 := hB6.b3.frozen 0
  have f1 := hB6.b3.frozen 1
  have f2 := hB6.b3.frozen 2
  have f3 := hB6.b3.frozen 3
  have f4 := hB6.b3.frozen 4
  have f5 := hB6.b3.frozen 5
  have l3 := hB6.b3.lt
  obtain ⟨w7, hw7⟩ : ∃ w7, w7 = st6 w6 w.heap.size (.slice ph5 n5' kh5) (.slice pr5 m5 kr5) (.int .i64 nx) (.int .i64 c5') (.int .i64 a5) (.slice (some ⟨O, 0, none⟩) ln oc) := ⟨_, rfl⟩
  have HB7' := Lib.hid (show Bx3 w w7 #[.slice ph5 n5' kh5, .slice pr5 m5 kr5, .int .i64 nx, .int .i64 c5', .int .i64 a5, .slice (some ⟨O, 0, none⟩) ln oc] #[.slice (some ⟨b, o, none⟩) ln cap] #[.slice none 0 0, .slice none 0 0, .int .i64 0, .int .i64 0, .int .i64 0, .slice none 0 0] by rw [hw7]; exact ⟨st6_blk hB6.b3 _ _ _ _ _ _, st6_far hB6.b4 (by omega) _ _ _ _ _ _, st6_far hB6.b6 (by omega) _ _ _ _ _ _⟩)
  have HG7 := Lib.hid (show w.grownBy w7 (some O) by rw [hw7]; exact grown_st6 HG6.out (Nat.le_refl _) _ _ _ _ _ _)
  have HR7 : Hid (∀ v n xs, w6.ownsRow w0.heap.size 3 1 v n xs → w7.ownsRow w0.heap.size 3 1 v n xs) := fun v n xs h => by rw [hw7]; exact row_st6 h hB6.b3 (by decide) _ _ _ _ _ _
  unfold st6 at hw7
  have HW7 := Lib.hid hw7
  clear hw7
  go_upto_region 7 with (fail)
  rw [← HW7.out]
  clear HW7 hB6 y0 y1 y2 y3 y4 y5 f0 f1 f2 f3 f4 f5 l3
  obtain ⟨y0, y1, y2, y3, y4, y5⟩ := six HB7'.out.b3
  obtain ⟨z0, z1, z2, z3, z4, z5⟩ := six HB7'.out.b6
  have x4 : w7.cell? ⟨w.heap.size + 1, 0, none⟩ = some (.slice (some ⟨b, o, none⟩) ln cap) := by rw [HB7'.out.b4.cell]; rfl
  have l3 := HB7'.out.b3.lt
  have l4 := HB7'.out.b4.lt
  have l6 := HB7'.out.b6.lt
  have q0 := HB7'.out.b6.frozen 0
  have q1 := HB7'.out.b6.frozen 1
  have q2 := HB7'.out.b6.frozen 2
  have q3 := HB7'.out.b6.frozen 3
  have q4 := HB7'.out.b6.frozen 4
  have q5 := HB7'.out.b6.frozen 5
  have f0 := HB7'.out.b3.frozen 0
  have f1 := HB7'.out.b3.frozen 1
  have f2 := HB7'.out.b3.frozen 2
  have f3 := HB7'.out.b3.frozen 3
  have f4 := HB7'.out.b3.frozen 4
  have f5 := HB7'.out.b3.frozen 5
  obtain ⟨w8, hw8⟩ : ∃ w8, w8 = st3 w7 w.heap.size (.int .i64 (nx - 1)) (.slice ph n kh) (.slice pr n kr) := ⟨_, rfl⟩
  have HB8 := Lib.hid (show Bx3 w w8 #[.slice ph n kh, .slice pr n kr, .int .i64 (nx - 1), .int .i64 c5', .int .i64 a5, .slice (some ⟨O, 0, none⟩) ln oc] #[.slice (some ⟨b, o, none⟩) ln cap] #[.slice none 0 0, .slice none 0 0, .int .i64 0, .int .i64 0, .int .i64 0, .slice none 0 0] by rw [hw8]; exact ⟨st3_blk HB7'.out.b3 _ _ _, st3_far HB7'.out.b4 (by omega) _ _ _, st3_far HB7'.out.b6 (by omega) _ _ _⟩)
  have HG8 := Lib.hid (show w.grownBy w8 (some O) by rw [hw8]; exact grown_st3 HG7.out (Nat.le_refl _) _ _ _)
  have HR8 : Hid (∀ v n xs, w6.ownsRow w0.heap.size 3 1 v n xs → w8.ownsRow w0.heap.size 3 1 v n xs) := fun v n xs h => by rw [hw8]; exact row_st3 (HR7.out v n xs h) HB7'.out.b3 (by decide) _ _ _
  unfold st3 at hw8
  have HW8 := Lib.hid hw8
  clear hw8
  go_upto_region 10 with (fail)
  rw [← HW8.out]
  clear HW8
  clear y0 y1 y2 y3 y4 y5 z0 z1 z2 z3 z4 z5 x4 l3 l4 l6 q0 q1 q2 q3 q4 q5 f0 f1 f2 f3 f4 f5
  obtain ⟨y0, y1, y2, y3, y4, y5⟩ := six HB8.out.b3
  obtain ⟨z0, z1, z2, z3, z4, z5⟩ := six HB8.out.b6
  have x4 : w8.cell? ⟨w.heap.size + 1, 0, none⟩ = some (.slice (some ⟨b, o, none⟩) ln cap) := by rw [HB8.out.b4.cell]; rfl
  have l3 := HB8.out.b3.lt
  have l4 := HB8.out.b4.lt
  have l6 := HB8.out.b6.lt
  have q0 := HB8.out.b6.frozen 0
  have q1 := HB8.out.b6.frozen 1
  have q2 := HB8.out.b6.frozen 2
  have q3 := HB8.out.b6.frozen 3
  have q4 := HB8.out.b6.frozen 4
  have q5 := HB8.out.b6.frozen 5
  have f0 := HB8.out.b3.frozen 0
  have f1 := HB8.out.b3.frozen 1
  have f2 := HB8.out.b3.frozen 2
  have f3 := HB8.out.b3.frozen 3
  have f4 := HB8.out.b3.frozen 4
  have f5 := HB8.out.b3.frozen 5
  go_wp2
  have hz := st6_blk HB8.out.b6 (.slice ph n kh) (.slice pr n kr) (.int .i64 (nx - 1)) (.int .i64 c5') (.int .i64 a5) (.slice (some ⟨O, 0, none⟩) ln oc)
  obtain ⟨v0, v1, v2, v3, v4, v5⟩ := six hz
  unfold st6 at v0 v1 v2 v3 v4 v5
  refine bodyPost_ret (v := .agg #[.slice ph n kh, .slice pr n kr, .int .i64 (nx - 1), .int .i64 c5', .int .i64 a5, .slice (some ⟨O, 0, none⟩) ln oc]) (by simp [results, Try.results26, go_sem, v0, v1, v2, v3, v4, v5]) rfl ?_
  rw [HQ.out]
  rw [HR.out, HLK.out]
  refine RfPost.pre ?_
  rw [HOV.out, HX2.out, HN.out, HNW.out, HLN.out]
  exact HCL.out _ (grown_st6 HG8.out (by omega) _ _ _ _ _ _) (fun v n xs h => row_st6 (HR8.out v n xs h) HB8.out.b6 (by decide) _ _ _ _ _ _)

set_option maxHeartbeats 16000000 in
set_option maxRecDepth 100000 in
theorem look_open11 {w0 w : World} {l : List Nd} {p : Option Addr} {E : Env} {of : List Int} {ph pr : Option Addr} {kh kr O oc cap now k q f : Nat} (hV : LookOK w0 l p cap O oc f) (hC : ∀ j, j < l.length → codeAt l j = 0) (hl : l.length ≤ 600) (h : Rf w0 w l p E of (.slice ph E.length kh) (.slice pr E.length kr) O oc) (hk : k < l.length) (hkf : k < f + 1) (hnow : now + (f + 1) ≤ 1000000) (hE : E.length ≤ q + St l k) (hq : q + (k + 1) ≤ 100000) (hlow : Low l now E)
    (hz : now = 0 → Zk (kindAt l k)) (ht : kindAt l k = 2 ∨ kindAt l k = 3 → of[k]? = some (k : Int)) (h1u : kindAt l k ≠ 1) (hop : kindAt l k = 11) :
    Calls Try.prog 26 #[.agg #[.slice ph E.length kh, .slice pr E.length kr, .int .i64 now, .int .i64 0, .int .i64 0, .slice (some ⟨O, 0, none⟩) l.length oc], .agg #[.slice p l.length cap], .int .i64 k] w (RfPost w0 w l p of now O oc (look l (f + 1) now k E)) := by
  have hW0 : ∃ W0, own l now k E = .ok E W0 ∧ ov W0 of = of := by
    unfold own
    by_cases h2 : kindAt l k = 3
    · refine ⟨[(k, (k : Int))], by rw [if_pos (Or.inr h2)], ?_⟩
      obtain ⟨e1, e2⟩ := List.getElem?_eq_some_iff.1 (ht (Or.inr h2))
      rw [ov_one, ← e2]; simp
    · exact ⟨[], by rw [if_neg (by omega), if_neg (by omega), if_neg (by omega), if_neg (by omega)], rfl⟩
  obtain ⟨W0, hW0, hov⟩ := hW0
  have hlk : look l (f + 1) now k E = ((each (look l f (now + 1)) (kidsAt l k) E).back E).pre W0 := by
    simp only [look]
    rw [if_neg (by omega), hW0]
    show (kidsF l (look l f) now k E).pre W0 = _
    unfold kidsF
    rw [if_pos (by unfold opB; rw [decide_eq_true_eq]; omega)]
  obtain ⟨pos, hK⟩ := kin_of hk (hC k hk)
  have ht' : ∀ x : Nat, (x : Int) ∈ kidsAt l k → kindAt l x = 2 ∨ kindAt l x = 3 → of[x]? = some (x : Int) := fun x hx e => by
    obtain ⟨j, hj, hjx⟩ := hK.mem hx
    exact absurd e (hK.kidTop h1u j hj hjx)
  have hle := St_le l k
  have hne := (fine_each (q := q) hK hk (fun x E h1 h2 h3 => fine_look hC f (now + 1) x q E (by omega) h2 h3) (kidsAt l k).length 0 E (by omega) (by rw [hK.from_]; exact hE)).out
  obtain ⟨b, o, hp, hbb, t, nn, zz, aa, cp, kc, htx, c0, c1, c2, c3, c4, c5⟩ := h.node hk
  obtain ⟨r, hr⟩ : ∃ r, r = look l (f + 1) now k E := ⟨_, rfl⟩
  obtain ⟨Q, hQ⟩ : ∃ Q : Ending → World → Prop, Q = RfPost w0 w l p of now O oc r := ⟨_, rfl⟩
  rw [← hr, ← hQ]
  have HQ := Lib.hid hQ
  have HR := Lib.hid hr
  have lO := own_ge h.ofr (g := O) rfl
  have lO2 := lO.2
  have lO1 := lO.1
  have hww := h.bel.size
  have hbb1 : b < w.heap.size + 1 := by omega
  have hbb2 : b < w.heap.size + 1 + 1 := by omega
  have hkl6 : k ≤ 600 := by omega
  obtain ⟨kd, hkd⟩ : ∃ kd, kd = kindAt l k := ⟨_, rfl⟩
  rw [← hkd] at c0
  rw [hop] at hkd
  subst hkd
  have hkd : (11 : Int) = 11 := rfl
  have HLK := Lib.hid hlk
  have HOV := Lib.hid hov
  have HNE := Lib.hid (show each (look l f (now + 1)) (kidsAt l k) E ≠ .out from hne)
  obtain ⟨cn, hcn⟩ : ∃ cn, cn = (kidsAt l k).length := ⟨_, rfl⟩
  rw [← hcn] at c4
  obtain ⟨w4, hw4⟩ : ∃ w4, w4 = ((((w.alloc (.cells #[.slice ph E.length kh, .slice pr E.length kr, .int .i64 now, .int .i64 0, .int .i64 0, .slice (some ⟨O, 0, none⟩) l.length oc] 44)).alloc (.cells #[.slice p l.length cap] 24)).alloc (.cells #[.slice none 0 0, .slice none 0 0, .int .i64 0, .int .i64 0, .int .i64 0, .slice none 0 0] 44)).alloc (.cells #[.int .i64 11, .string t, .int .i64 nn, .int .i64 zz, .slice cp cn kc, .int .i64 aa] 34)) := ⟨_, rfl⟩
  obtain ⟨hB, hB7, hbel⟩ := four_new w _ _ _ _ _ w4 hw4
  have h4 := h.below hbel
  subst hp
  have HBX := Lib.hid hB.b3
  obtain ⟨n, hn⟩ : ∃ n, n = E.length := ⟨_, rfl⟩
  obtain ⟨ln, hln⟩ : ∃ ln, ln = l.length := ⟨_, rfl⟩
  obtain ⟨nw, hnw⟩ : ∃ nw : Int, nw = (now : Int) := ⟨_, rfl⟩
  have hln6 : ln ≤ 600 := by omega
  have hkl : k < ln := by omega
  rw [← hn, ← hln, ← hnw] at hw4 hB ⊢
  obtain ⟨nx, hnx⟩ : ∃ nx : Int, nx = ((now + 1 : Nat) : Int) := ⟨_, rfl⟩
  have hnx1 : nw + 1 = nx := by omega
  have hnx2 : nx - 1 = nw := by omega
  have nx0 : (1 : Int) ≤ nx := by omega
  have nx2 : nx ≤ 1000001 := by omega
  obtain ⟨w5, hw5⟩ : ∃ w5, w5 = w4.setCell ⟨w.heap.size, 2, none⟩ (.int .i64 nx) := ⟨_, rfl⟩
  have h5 : Rf w0 w5 l (some ⟨b, o, none⟩) E of (.slice ph E.length kh) (.slice pr E.length kr) O oc := by rw [hw5]; exact h4.box HBX.out hww (by decide) 2 _
  have hcall := all_any hV hC hl h5 hk hkf (by omega) hE (by omega) hlow.succ (fun e => by omega) ht'
  rw [← hn, ← hln, ← hnx] at hcall
  have HG5 := Lib.hid (show w.grownBy w5 (some O) by rw [hw5]; exact grown_box (grown_below hbel) (Or.inl (Nat.le_refl _)) 2 _)
  have HB5 := Lib.hid (show Bx3 w w5 #[.slice ph n kh, .slice pr n kr, .int .i64 nx, .int .i64 0, .int .i64 0, .slice (some ⟨O, 0, none⟩) ln oc] #[.slice (some ⟨b, o, none⟩) ln cap] #[.slice none 0 0, .slice none 0 0, .int .i64 0, .int .i64 0, .int .i64 0, .slice none 0 0] by
    rw [hw5]
    have hz := hB.b3.set_ 2 (.int .i64 nx)
    exact ⟨by simpa using hz, hB.b4.far (p := ⟨w.heap.size, 2, none⟩) (show w.heap.size + 1 ≠ w.heap.size by omega) _, hB.b6.far (p := ⟨w.heap.size, 2, none⟩) (show w.heap.size + 1 + 1 ≠ w.heap.size by omega) _⟩)
  have HW5 := Lib.hid hw5
  have HX2 := Lib.hid hnx2
  have HNX := Lib.hid hnx
  clear hw5 h5 hnx
  have nw0 : (0 : Int) ≤ nw := by omega
  have nw1 : nw ≤ 1000000 := by omega
  have HB := Lib.hid hB
  have HB7 := Lib.hid hB7
  have HBel := Lib.hid hbel
  have HW4 := Lib.hid hw4
  have HH := Lib.hid h
  have HH4 := Lib.hid h4
  have HLN := Lib.hid hln
  have HN := Lib.hid hn
  have HNW := Lib.hid hnw
  have HKD := Lib.hid hkd
  have HTX := Lib.hid htx
  clear hQ hr lO hkd hB hB7 hbel h4 h hw4 hV hC hE hlow hz ht hcn hn hln hnw htx hne hlk hov hW0 hle hop h1u hk hl hK ht'
  go_enter Try.func26, Try.ntmps26
  go_upto_region 3 with (fail)
  rw [← HW4.out]
  clear HW4 c0 c1 c2 c3 c4 c5
  have hbb4 : b < w4.heap.size := Nat.lt_of_lt_of_le hbb HBel.out.size
  obtain ⟨y0, y1, y2, y3, y4, y5⟩ := six HB.out.b3
  obtain ⟨n0, n1, n2, n3, n4, n5⟩ := six HB7.out
  have x4 : w4.cell? ⟨w.heap.size + 1, 0, none⟩ = some (.slice (some ⟨b, o, none⟩) ln cap) := by rw [HB.out.b4.cell]; rfl
  have l3 := HB.out.b3.lt
  have l4 := HB.out.b4.lt
  have l6 := HB.out.b6.lt
  have l7 := HB7.out.lt
  have f2 := HB.out.b3.frozen 2
  clear n0 n1 n2 n3 n4 n5
  go_upto_region 6 with (fail)
  rw [← HW5.out]
  clear HW5 y0 y1 y2 y3 y4 y5 x4 l3 l4 l6 l7 f2 hbb4
  obtain ⟨y0, y1, y2, y3, y4, y5⟩ := six HB5.out.b3
  obtain ⟨z0, z1, z2, z3, z4, z5⟩ := six HB5.out.b6
  have x4 : w5.cell? ⟨w.heap.size + 1, 0, none⟩ = some (.slice (some ⟨b, o, none⟩) ln cap) := by rw [HB5.out.b4.cell]; rfl
  have l3 := HB5.out.b3.lt
  have l4 := HB5.out.b4.lt
  have l6 := HB5.out.b6.lt
  have q0 := HB5.out.b6.frozen 0
  have q1 := HB5.out.b6.frozen 1
  have q2 := HB5.out.b6.frozen 2
  have q3 := HB5.out.b6.frozen 3
  have q4 := HB5.out.b6.frozen 4
  have q5 := HB5.out.b6.frozen 5
  have f0 := HB5.out.b3.frozen 0
  have f1 := HB5.out.b3.frozen 1
  have f2 := HB5.out.b3.frozen 2
  have f3 := HB5.out.b3.frozen 3
  have f4 := HB5.out.b3.frozen 4
  have f5 := HB5.out.b3.frozen 5
  clear hnx1 hnx2
  go_wp2_with (go_at_call 14; refine hcall.mono ?_)
  intro e w6 hd
  have hg6 := RfPost.grown_ hd HNE.out
  have hd2 := RfPost.from_ HG5.out hd
  obtain ⟨ph5, pr5, n5', m5, kh5, kr5, c5', a5, rfl, hg6', hcl⟩ := RfPost.back_ (now := now) HH.out lO1 hd2 HNE.out
  have HCL := Lib.hid hcl.out
  have hB6 := HB5.out.grown hg6 (fun g e => by cases e; exact lO2)
  have HG6 := Lib.hid hg6'
  rw [← HNX.out, ← HLN.out]
  clear hcall hd hd2 hg6 hg6' hcl HB5
  clear y0 y1 y2 y3 y4 y5 z0 z1 z2 z3 z4 z5 x4 l3 l4 l6 q0 q1 q2 q3 q4 q5 f0 f1 f2 f3 f4 f5
  obtain ⟨y0, y1, y2, y3, y4, y5⟩ := six hB6.b3
  have f0 := hB6.b3.frozen 0
  have f1 := hB6.b3.frozen 1
  have f2 := hB6.b3.frozen 2
  have f3 := hB6.b3.frozen 3
  have f4 := hB6.b3.frozen 4
  have f5 := hB6.b3.frozen 5
  have l3 := hB6.b3.lt
  obtain ⟨w7, hw7⟩ : ∃ w7, w7 = st6 w6 w.heap.size (.slice ph5 n5' kh5) (.slice pr5 m5 kr5) (.int .i64 nx) (.int .i64 c5') (.int .i64 a5) (.slice (some ⟨O, 0, none⟩) ln oc) := ⟨_, rfl⟩
  have HB7' := Lib.hid (show Bx3 w w7 #[.slice ph5 n5' kh5, .slice pr5 m5 kr5, .int .i64 nx, .int .i64 c5', .int .i64 a5, .slice (some ⟨O, 0, none⟩) ln oc] #[.slice (some ⟨b, o, none⟩) ln cap] #[.slice none 0 0, .slice none 0 0, .int .i64 0, .int .i64 0, .int .i64 0, .slice none 0 0] by rw [hw7]; exact ⟨st6_blk hB6.b3 _ _ _ _ _ _, st6_far hB6.b4 (by omega) _ _ _ _ _ _, st6_far hB6.b6 (by omega) _ _ _ _ _ _⟩)
  have HG7 := Lib.hid (show w.grownBy w7 (some O) by rw [hw7]; exact grown_st6 HG6.out (Nat.le_refl _) _ _ _ _ _ _)
  have HR7 : Hid (∀ v n xs, w6.ownsRow w0.heap.size 3 1 v n xs → w7.ownsRow w0.heap.size 3 1 v n xs) := fun v n xs h => by rw [hw7]; exact row_st6 h hB6.b3 (by decide) _ _ _ _ _ _
  unfold st6 at hw7
  have HW7 := Lib.hid hw7
  clear hw7
  go_upto_region 7 with (fail)
  rw [← HW7.out]
  clear HW7 hB6 y0 y1 y2 y3 y4 y5 f0 f1 f2 f3 f4 f5 l3
  obtain ⟨y0, y1, y2, y3, y4, y5⟩ := six HB7'.out.b3
  obtain ⟨z0, z1, z2, z3, z4, z5⟩ := six HB7'.out.b6
  have x4 : w7.cell? ⟨w.heap.size + 1, 0, none⟩ = some (.slice (some ⟨b, o, none⟩) ln cap) := by rw [HB7'.out.b4.cell]; rfl
  have l3 := HB7'.out.b3.lt
  have l4 := HB7'.out.b4.lt
  have l6 := HB7'.out.b6.lt
  have q0 := HB7'.out.b6.frozen 0
  have q1 := HB7'.out.b6.frozen 1
  have q2 := HB7'.out.b6.frozen 2
  have q3 := HB7'.out.b6.frozen 3
  have q4 := HB7'.out.b6.frozen 4
  have q5 := HB7'.out.b6.frozen 5
  have f0 := HB7'.out.b3.frozen 0
  have f1 := HB7'.out.b3.frozen 1
  have f2 := HB7'.out.b3.frozen 2
  have f3 := HB7'.out.b3.frozen 3
  have f4 := HB7'.out.b3.frozen 4
  have f5 := HB7'.out.b3.frozen 5
  obtain ⟨w8, hw8⟩ : ∃ w8, w8 = st3 w7 w.heap.size (.int .i64 (nx - 1)) (.slice ph n kh) (.slice pr n kr) := ⟨_, rfl⟩
  have HB8 := Lib.hid (show Bx3 w w8 #[.slice ph n kh, .slice pr n kr, .int .i64 (nx - 1), .int .i64 c5', .int .i64 a5, .slice (some ⟨O, 0, none⟩) ln oc] #[.slice (some ⟨b, o, none⟩) ln cap] #[.slice none 0 0, .slice none 0 0, .int .i64 0, .int .i64 0, .int .i64 0, .slice none 0 0] by rw [hw8]; exact ⟨st3_blk HB7'.out.b3 _ _ _, st3_far HB7'.out.b4 (by omega) _ _ _, st3_far HB7'.out.b6 (by omega) _ _ _⟩)
  have HG8 := Lib.hid (show w.grownBy w8 (some O) by rw [hw8]; exact grown_st3 HG7.out (Nat.le_refl _) _ _ _)
  have HR8 : Hid (∀ v n xs, w6.ownsRow w0.heap.size 3 1 v n xs → w8.ownsRow w0.heap.size 3 1 v n xs) := fun v n xs h => by rw [hw8]; exact row_st3 (HR7.out v n xs h) HB7'.out.b3 (by decide) _ _ _
  unfold st3 at hw8
  have HW8 := Lib.hid hw8
  clear hw8
  go_upto_region 10 with (fail)
  rw [← HW8.out]
  clear HW8
  clear y0 y1 y2 y3 y4 y5 z0 z1 z2 z3 z4 z5 x4 l3 l4 l6 q0 q1 q2 q3 q4 q5 f0 f1 f2 f3 f4 f5
  obtain ⟨y0, y1, y2, y3, y4, y5⟩ := six HB8.out.b3
  obtain ⟨z0, z1, z2, z3, z4, z5⟩ := six HB8.out.b6
  have x4 : w8.cell? ⟨w.heap.size + 1, 0, none⟩ = some (.slice (some ⟨b, o, none⟩) ln cap) := by rw [HB8.out.b4.cell]; rfl
  have l3 := HB8.out.b3.lt
  have l4 := HB8.out.b4.lt
  have l6 := HB8.out.b6.lt
  have q0 := HB8.out.b6.frozen 0
  have q1 := HB8.out.b6.frozen 1
  have q2 := HB8.out.b6.frozen 2
  have q3 := HB8.out.b6.frozen 3
  have q4 := HB8.out.b6.frozen 4
  have q5 := HB8.out.b6.frozen 5
  have f0 := HB8.out.b3.frozen 0
  have f1 := HB8.out.b3.frozen 1
  have f2 := HB8.out.b3.frozen 2
  have f3 := HB8.out.b3.frozen 3
  have f4 := HB8.out.b3.frozen 4
  have f5 := HB8.out.b3.frozen 5
  go_wp2
  have hz := st6_blk HB8.out.b6 (.slice ph n kh) (.slice pr n kr) (.int .i64 (nx - 1)) (.int .i64 c5') (.int .i64 a5) (.slice (some ⟨O, 0, none⟩) ln oc)
  obtain ⟨v0, v1, v2, v3, v4, v5⟩ := six hz
  unfold st6 at v0 v1 v2 v3 v4 v5
  refine bodyPost_ret (v := .agg #[.slice ph n kh, .slice pr n kr, .int .i64 (nx - 1), .int .i64 c5', .int .i64 a5, .slice (some ⟨O, 0, none⟩) ln oc]) (by simp [results, Try.results26, go_sem, v0, v1, v2, v3, v4, v5]) rfl ?_
  rw [HQ.out]
  rw [HR.out, HLK.out]
  refine RfPost.pre ?_
  rw [HOV.out, HX2.out, HN.out, HNW.out, HLN.out]
  exact HCL.out _ (grown_st6 HG8.out (by omega) _ _ _ _ _ _) (fun v n xs h => row_st6 (HR8.out v n xs h) HB8.out.b6 (by decide) _ _ _ _ _ _)

set_option maxHeartbeats 16000000 in
set_option maxRecDepth 100000 in
theorem look_open17 {w0 w : World} {l : List Nd} {p : Option Addr} {E : Env} {of : List Int} {ph pr : Option Addr} {kh kr O oc cap now k q f : Nat} (hV : LookOK w0 l p cap O oc f) (hC : ∀ j, j < l.length → codeAt l j = 0) (hl : l.length ≤ 600) (h : Rf w0 w l p E of (.slice ph E.length kh) (.slice pr E.length kr) O oc) (hk : k < l.length) (hkf : k < f + 1) (hnow : now + (f + 1) ≤ 1000000) (hE : E.length ≤ q + St l k) (hq : q + (k + 1) ≤ 100000) (hlow : Low l now E)
    (hz : now = 0 → Zk (kindAt l k)) (ht : kindAt l k = 2 ∨ kindAt l k = 3 → of[k]? = some (k : Int)) (h1u : kindAt l k ≠ 1) (hop : kindAt l k = 17) :
    Calls Try.prog 26 #[.agg #[.slice ph E.length kh, .slice pr E.length kr, .int .i64 now, .int .i64 0, .int .i64 0, .slice (some ⟨O, 0, none⟩) l.length oc], .agg #[.slice p l.length cap], .int .i64 k] w (RfPost w0 w l p of now O oc (look l (f + 1) now k E)) := by
  have hW0 : ∃ W0, own l now k E = .ok E W0 ∧ ov W0 of = of := by
    unfold own
    by_cases h2 : kindAt l k = 3
    · refine ⟨[(k, (k : Int))], by rw [if_pos (Or.inr h2)], ?_⟩
      obtain ⟨e1, e2⟩ := List.getElem?_eq_some_iff.1 (ht (Or.inr h2))
      rw [ov_one, ← e2]; simp
    · exact ⟨[], by rw [if_neg (by omega), if_neg (by omega), if_neg (by omega), if_neg (by omega)], rfl⟩
  obtain ⟨W0, hW0, hov⟩ := hW0
  have hlk : look l (f + 1) now k E = ((each (look l f (now + 1)) (kidsAt l k) E).back E).pre W0 := by
    simp only [look]
    rw [if_neg (by omega), hW0]
    show (kidsF l (look l f) now k E).pre W0 = _
    unfold kidsF
    rw [if_pos (by unfold opB; rw [decide_eq_true_eq]; omega)]
  obtain ⟨pos, hK⟩ := kin_of hk (hC k hk)
  have ht' : ∀ x : Nat, (x : Int) ∈ kidsAt l k → kindAt l x = 2 ∨ kindAt l x = 3 → of[x]? = some (x : Int) := fun x hx e => by
    obtain ⟨j, hj, hjx⟩ := hK.mem hx
    exact absurd e (hK.kidTop h1u j hj hjx)
  have hle := St_le l k
  have hne := (fine_each (q := q) hK hk (fun x E h1 h2 h3 => fine_look hC f (now + 1) x q E (by omega) h2 h3) (kidsAt l k).length 0 E (by omega) (by rw [hK.from_]; exact hE)).out
  obtain ⟨b, o, hp, hbb, t, nn, zz, aa, cp, kc, htx, c0, c1, c2, c3, c4, c5⟩ := h.node hk
  obtain ⟨r, hr⟩ : ∃ r, r = look l (f + 1) now k E := ⟨_, rfl⟩
  obtain ⟨Q, hQ⟩ : ∃ Q : Ending → World → Prop, Q = RfPost w0 w l p of now O oc r := ⟨_, rfl⟩
  rw [← hr, ← hQ]
  have HQ := Lib.hid hQ
  have HR := Lib.hid hr
  have lO := own_ge h.ofr (g := O) rfl
  have lO2 := lO.2
  have lO1 := lO.1
  have hww := h.bel.size
  have hbb1 : b < w.heap.size + 1 := by omega
  have hbb2 : b < w.heap.size + 1 + 1 := by omega
  have hkl6 : k ≤ 600 := by omega
  obtain ⟨kd, hkd⟩ : ∃ kd, kd = kindAt l k := ⟨_, rfl⟩
  rw [← hkd] at c0
  rw [hop] at hkd
  subst hkd
  have hkd : (17 : Int) = 17 := rfl
  have HLK := Lib.hid hlk
  have HOV := Lib.hid hov
  have HNE := Lib.hid (show each (look l f (now + 1)) (kidsAt l k) E ≠ .out from hne)
  obtain ⟨cn, hcn⟩ : ∃ cn, cn = (kidsAt l k).length := ⟨_, rfl⟩
  rw [← hcn] at c4
  obtain ⟨w4, hw4⟩ : ∃ w4, w4 = ((((w.alloc (.cells #[.slice ph E.length kh, .slice pr E.length kr, .int .i64 now, .int .i64 0, .int .i64 0, .slice (some ⟨O, 0, none⟩) l.length oc] 44)).alloc (.cells #[.slice p l.length cap] 24)).alloc (.cells #[.slice none 0 0, .slice none 0 0, .int .i64 0, .int .i64 0, .int .i64 0, .slice none 0 0] 44)).alloc (.cells #[.int .i64 17, .string t, .int .i64 nn, .int .i64 zz, .slice cp cn kc, .int .i64 aa] 34)) := ⟨_, rfl⟩
  obtain ⟨hB, hB7, hbel⟩ := four_new w _ _ _ _ _ w4 hw4
  have h4 := h.below hbel
  subst hp
  have HBX := Lib.hid hB.b3
  obtain ⟨n, hn⟩ : ∃ n, n = E.length := ⟨_, rfl⟩
  obtain ⟨ln, hln⟩ : ∃ ln, ln = l.length := ⟨_, rfl⟩
  obtain ⟨nw, hnw⟩ : ∃ nw : Int, nw = (now : Int) := ⟨_, rfl⟩
  have hln6 : ln ≤ 600 := by omega
  have hkl : k < ln := by omega
  rw [← hn, ← hln, ← hnw] at hw4 hB ⊢
  obtain ⟨nx, hnx⟩ : ∃ nx : Int, nx = ((now + 1 : Nat) : Int) := ⟨_, rfl⟩
  have hnx1 : nw + 1 = nx := by omega
  have hnx2 : nx - 1 = nw := by omega
  have nx0 : (1 : Int) ≤ nx := by omega
  have nx2 : nx ≤ 1000001 := by omega
  obtain ⟨w5, hw5⟩ : ∃ w5, w5 = w4.setCell ⟨w.heap.size, 2, none⟩ (.int .i64 nx) := ⟨_, rfl⟩
  have h5 : Rf w0 w5 l (some ⟨b, o, none⟩) E of (.slice ph E.length kh) (.slice pr E.length kr) O oc := by rw [hw5]; exact h4.box HBX.out hww (by decide) 2 _
  have hcall := all_any hV hC hl h5 hk hkf (by omega) hE (by omega) hlow.succ (fun e => by omega) ht'
  rw [← hn, ← hln, ← hnx] at hcall
  have HG5 := Lib.hid (show w.grownBy w5 (some O) by rw [hw5]; exact grown_box (grown_below hbel) (Or.inl (Nat.le_refl _)) 2 _)
  have HB5 := Lib.hid (show Bx3 w w5 #[.slice ph n kh, .slice pr n kr, .int .i64 nx, .int .i64 0, .int .i64 0, .slice (some ⟨O, 0, none⟩) ln oc] #[.slice (some ⟨b, o, none⟩) ln cap] #[.slice none 0 0, .slice none 0 0, .int .i64 0, .int .i64 0, .int .i64 0, .slice none 0 0] by
    rw [hw5]
    have hz := hB.b3.set_ 2 (.int .i64 nx)
    exact ⟨by simpa using hz, hB.b4.far (p := ⟨w.heap.size, 2, none⟩) (show w.heap.size + 1 ≠ w.heap.size by omega) _, hB.b6.far (p := ⟨w.heap.size, 2, none⟩) (show w.heap.size + 1 + 1 ≠ w.heap.size by omega) _⟩)
  have HW5 := Lib.hid hw5
  have HX2 := Lib.hid hnx2
  have HNX := Lib.hid hnx
  clear hw5 h5 hnx
  have nw0 : (0 : Int) ≤ nw := by omega
  have nw1 : nw ≤ 1000000 := by omega
  have HB := Lib.hid hB
  have HB7 := Lib.hid hB7
  have HBel := Lib.hid hbel
  have HW4 := Lib.hid hw4
  have HH := Lib.hid h
  have HH4 := Lib.hid h4
  have HLN := Lib.hid hln
  have HN := Lib.hid hn
  have HNW := Lib.hid hnw
  have HKD := Lib.hid hkd
  have HTX := Lib.hid htx
  clear hQ hr lO hkd hB hB7 hbel h4 h hw4 hV hC hE hlow hz ht hcn hn hln hnw htx hne hlk hov hW0 hle hop h1u hk hl hK ht'
  go_enter Try.func26, Try.ntmps26
  go_upto_region 3 with (fail)
  rw [← HW4.out]
  clear HW4 c0 c1 c2 c3 c4 c5
  have hbb4 : b < w4.heap.size := Nat.lt_of_lt_of_le hbb HBel.out.size
  obtain ⟨y0, y1, y2, y3, y4, y5⟩ := six HB.out.b3
  obtain ⟨n0, n1, n2, n3, n4, n5⟩ := six HB7.out
  have x4 : w4.cell? ⟨w.heap.size + 1, 0, none⟩ = some (.slice (some ⟨b, o, none⟩) ln cap) := by rw [HB.out.b4.cell]; rfl
  have l3 := HB.out.b3.lt
  have l4 := HB.out.b4.lt
  have l6 := HB.out.b6.lt
  have l7 := HB7.out.lt
  have f2 := HB.out.b3.frozen 2
  clear n0 n1 n2 n3 n4 n5
  go_upto_region 6 with (fail)
  rw [← HW5.out]
  clear HW5 y0 y1 y2 y3 y4 y5 x4 l3 l4 l6 l7 f2 hbb4
  obtain ⟨y0, y1, y2, y3, y4, y5⟩ := six HB5.out.b3
  obtain ⟨z0, z1, z2, z3, z4, z5⟩ := six HB5.out.b6
  have x4 : w5.cell? ⟨w.heap.size + 1, 0, none⟩ = some (.slice (some ⟨b, o, none⟩) ln cap) := by rw [HB5.out.b4.cell]; rfl
  have l3 := HB5.out.b3.lt
  have l4 := HB5.out.b4.lt
  have l6 := HB5.out.b6.lt
  have q0 := HB5.out.b6.frozen 0
  have q1 := HB5.out.b6.frozen 1
  have q2 := HB5.out.b6.frozen 2
  have q3 := HB5.out.b6.frozen 3
  have q4 := HB5.out.b6.frozen 4
  have q5 := HB5.out.b6.frozen 5
  have f0 := HB5.out.b3.frozen 0
  have f1 := HB5.out.b3.frozen 1
  have f2 := HB5.out.b3.frozen 2
  have f3 := HB5.out.b3.frozen 3
  have f4 := HB5.out.b3.frozen 4
  have f5 := HB5.out.b3.frozen 5
  clear hnx1 hnx2
  go_wp2_with (go_at_call 14; refine hcall.mono ?_)
  intro e w6 hd
  have hg6 := RfPost.grown_ hd HNE.out
  have hd2 := RfPost.from_ HG5.out hd
  obtain ⟨ph5, pr5, n5', m5, kh5, kr5, c5', a5, rfl, hg6', hcl⟩ := RfPost.back_ (now := now) HH.out lO1 hd2 HNE.out
  have HCL := Lib.hid hcl.out
  have hB6 := HB5.out.grown hg6 (fun g e => by cases e; exact lO2)
  have HG6 := Lib.hid hg6'
  rw [← HNX.out, ← HLN.out]
  clear hcall hd hd2 hg6 hg6' hcl HB5
  clear y0 y1 y2 y3 y4 y5 z0 z1 z2 z3 z4 z5 x4 l3 l4 l6 q0 q1 q2 q3 q4 q5 f0 f1 f2 f3 f4 f5
  obtain ⟨y0, y1, y2, y3, y4, y5⟩ := six hB6.b3
  have f0 := hB6.b3.frozen 0
  have f1 := hB6.b3.frozen 1
  have f2 := hB6.b3.frozen 2
  have f3 := hB6.b3.frozen 3
  have f4 := hB6.b3.frozen 4
  have f5 := hB6.b3.frozen 5
  have l3 := hB6.b3.lt
  obtain ⟨w7, hw7⟩ : ∃ w7, w7 = st6 w6 w.heap.size (.slice ph5 n5' kh5) (.slice pr5 m5 kr5) (.int .i64 nx) (.int .i64 c5') (.int .i64 a5) (.slice (some ⟨O, 0, none⟩) ln oc) := ⟨_, rfl⟩
  have HB7' := Lib.hid (show Bx3 w w7 #[.slice ph5 n5' kh5, .slice pr5 m5 kr5, .int .i64 nx, .int .i64 c5', .int .i64 a5, .slice (some ⟨O, 0, none⟩) ln oc] #[.slice (some ⟨b, o, none⟩) ln cap] #[.slice none 0 0, .slice none 0 0, .int .i64 0, .int .i64 0, .int .i64 0, .slice none 0 0] by rw [hw7]; exact ⟨st6_blk hB6.b3 _ _ _ _ _ _, st6_far hB6.b4 (by omega) _ _ _ _ _ _, st6_far hB6.b6 (by omega) _ _ _ _ _ _⟩)
  have HG7 := Lib.hid (show w.grownBy w7 (some O) by rw [hw7]; exact grown_st6 HG6.out (Nat.le_refl _) _ _ _ _ _ _)
  have HR7 : Hid (∀ v n xs, w6.ownsRow w0.heap.size 3 1 v n xs → w7.ownsRow w0.heap.size 3 1 v n xs) := fun v n xs h => by rw [hw7]; exact row_st6 h hB6.b3 (by decide) _ _ _ _ _ _
  unfold st6 at hw7
  have HW7 := Lib.hid hw7
  clear hw7
  go_upto_region 7 with (fail)
  rw [← HW7.out]
  clear HW7 hB6 y0 y1 y2 y3 y4 y5 f0 f1 f2 f3 f4 f5 l3
  obtain ⟨y0, y1, y2, y3, y4, y5⟩ := six HB7'.out.b3
  obtain ⟨z0, z1, z2, z3, z4, z5⟩ := six HB7'.out.b6
  have x4 : w7.cell? ⟨w.heap.size + 1, 0, none⟩ = some (.slice (some ⟨b, o, none⟩) ln cap) := by rw [HB7'.out.b4.cell]; rfl
  have l3 := HB7'.out.b3.lt
  have l4 := HB7'.out.b4.lt
  have l6 := HB7'.out.b6.lt
  have q0 := HB7'.out.b6.frozen 0
  have q1 := HB7'.out.b6.frozen 1
  have q2 := HB7'.out.b6.frozen 2
  have q3 := HB7'.out.b6.frozen 3
  have q4 := HB7'.out.b6.frozen 4
  have q5 := HB7'.out.b6.frozen 5
  have f0 := HB7'.out.b3.frozen 0
  have f1 := HB7'.out.b3.frozen 1
  have f2 := HB7'.out.b3.frozen 2
  have f3 := HB7'.out.b3.frozen 3
  have f4 := HB7'.out.b3.frozen 4
  have f5 := HB7'.out.b3.frozen 5
  obtain ⟨w8, hw8⟩ : ∃ w8, w8 = st3 w7 w.heap.size (.int .i64 (nx - 1)) (.slice ph n kh) (.slice pr n kr) := ⟨_, rfl⟩
  have HB8 := Lib.hid (show Bx3 w w8 #[.slice ph n kh, .slice pr n kr, .int .i64 (nx - 1), .int .i64 c5', .int .i64 a5, .slice (some ⟨O, 0, none⟩) ln oc] #[.slice (some ⟨b, o, none⟩) ln cap] #[.slice none 0 0, .slice none 0 0, .int .i64 0, .int .i64 0, .int .i64 0, .slice none 0 0] by rw [hw8]; exact ⟨st3_blk HB7'.out.b3 _ _ _, st3_far HB7'.out.b4 (by omega) _ _ _, st3_far HB7'.out.b6 (by omega) _ _ _⟩)
  have HG8 := Lib.hid (show w.grownBy w8 (some O) by rw [hw8]; exact grown_st3 HG7.out (Nat.le_refl _) _ _ _)
  have HR8 : Hid (∀ v n xs, w6.ownsRow w0.heap.size 3 1 v n xs → w8.ownsRow w0.heap.size 3 1 v n xs) := fun v n xs h => by rw [hw8]; exact row_st3 (HR7.out v n xs h) HB7'.out.b3 (by decide) _ _ _
  unfold st3 at hw8
  have HW8 := Lib.hid hw8
  clear hw8
  go_upto_region 10 with (fail)
  rw [← HW8.out]
  clear HW8
  clear y0 y1 y2 y3 y4 y5 z0 z1 z2 z3 z4 z5 x4 l3 l4 l6 q0 q1 q2 q3 q4 q5 f0 f1 f2 f3 f4 f5
  obtain ⟨y0, y1, y2, y3, y4, y5⟩ := six HB8.out.b3
  obtain ⟨z0, z1, z2, z3, z4, z5⟩ := six HB8.out.b6
  have x4 : w8.cell? ⟨w.heap.size + 1, 0, none⟩ = some (.slice (some ⟨b, o, none⟩) ln cap) := by rw [HB8.out.b4.cell]; rfl
  have l3 := HB8.out.b3.lt
  have l4 := HB8.out.b4.lt
  have l6 := HB8.out.b6.lt
  have q0 := HB8.out.b6.frozen 0
  have q1 := HB8.out.b6.frozen 1
  have q2 := HB8.out.b6.frozen 2
  have q3 := HB8.out.b6.frozen 3
  have q4 := HB8.out.b6.frozen 4
  have q5 := HB8.out.b6.frozen 5
  have f0 := HB8.out.b3.frozen 0
  have f1 := HB8.out.b3.frozen 1
  have f2 := HB8.out.b3.frozen 2
  have f3 := HB8.out.b3.frozen 3
  have f4 := HB8.out.b3.frozen 4
  have f5 := HB8.out.b3.frozen 5
  go_wp2
  have hz := st6_blk HB8.out.b6 (.slice ph n kh) (.slice pr n kr) (.int .i64 (nx - 1)) (.int .i64 c5') (.int .i64 a5) (.slice (some ⟨O, 0, none⟩) ln oc)
  obtain ⟨v0, v1, v2, v3, v4, v5⟩ := six hz
  unfold st6 at v0 v1 v2 v3 v4 v5
  refine bodyPost_ret (v := .agg #[.slice ph n kh, .slice pr n kr, .int .i64 (nx - 1), .int .i64 c5', .int .i64 a5, .slice (some ⟨O, 0, none⟩) ln oc]) (by simp [results, Try.results26, go_sem, v0, v1, v2, v3, v4, v5]) rfl ?_
  rw [HQ.out]
  rw [HR.out, HLK.out]
  refine RfPost.pre ?_
  rw [HOV.out, HX2.out, HN.out, HNW.out, HLN.out]
  exact HCL.out _ (grown_st6 HG8.out (by omega) _ _ _ _ _ _) (fun v n xs h => row_st6 (HR8.out v n xs h) HB8.out.b6 (by decide) _ _ _ _ _ _)

set_option maxHeartbeats 16000000 in
set_option maxRecDepth 100000 in
theorem look_open18 {w0 w : World} {l : List Nd} {p : Option Addr} {E : Env} {of : List Int} {ph pr : Option Addr} {kh kr O oc cap now k q f : Nat} (hV : LookOK w0 l p cap O oc f) (hC : ∀ j, j < l.length → codeAt l j = 0) (hl : l.length ≤ 600) (h : Rf w0 w l p E of (.slice ph E.length kh) (.slice pr E.length kr) O oc) (hk : k < l.length) (hkf : k < f + 1) (hnow : now + (f + 1) ≤ 1000000) (hE : E.length ≤ q + St l k) (hq : q + (k + 1) ≤ 100000) (hlow : Low l now E)
    (hz : now = 0 → Zk (kindAt l k)) (ht : kindAt l k = 2 ∨ kindAt l k = 3 → of[k]? = some (k : Int)) (h1u : kindAt l k ≠ 1) (hop : kindAt l k = 18) :
    Calls Try.prog 26 #[.agg #[.slice ph E.length kh, .slice pr E.length kr, .int .i64 now, .int .i64 0, .int .i64 0, .slice (some ⟨O, 0, none⟩) l.length oc], .agg #[.slice p l.length cap], .int .i64 k] w (RfPost w0 w l p of now O oc (look l (f + 1) now k E)) := by
  have hW0 : ∃ W0, own l now k E = .ok E W0 ∧ ov W0 of = of := by
    unfold own
    by_cases h2 : kindAt l k = 3
    · refine ⟨[(k, (k : Int))], by rw [if_pos (Or.inr h2)], ?_⟩
      obtain ⟨e1, e2⟩ := List.getElem?_eq_some_iff.1 (ht (Or.inr h2))
      rw [ov_one, ← e2]; simp
    · exact ⟨[], by rw [if_neg (by omega), if_neg (by omega), if_neg (by omega), if_neg (by omega)], rfl⟩
  obtain ⟨W0, hW0, hov⟩ := hW0
  have hlk : look l (f + 1) now k E = ((each (look l f (now + 1)) (kidsAt l k) E).back E).pre W0 := by
    simp only [look]
    rw [if_neg (by omega), hW0]
    show (kidsF l (look l f) now k E).pre W0 = _
    unfold kidsF
    rw [if_pos (by unfold opB; rw [decide_eq_true_eq]; omega)]
  obtain ⟨pos, hK⟩ := kin_of hk (hC k hk)
  have ht' : ∀ x : Nat, (x : Int) ∈ kidsAt l k → kindAt l x = 2 ∨ kindAt l x = 3 → of[x]? = some (x : Int) := fun x hx e => by
    obtain ⟨j, hj, hjx⟩ := hK.mem hx
    exact absurd e (hK.kidTop h1u j hj hjx)
  have hle := St_le l k
  have hne := (fine_each (q := q) hK hk (fun x E h1 h2 h3 => fine_look hC f (now + 1) x q E (by omega) h2 h3) (kidsAt l k).length 0 E (by omega) (by rw [hK.from_]; exact hE)).out
  obtain ⟨b, o, hp, hbb, t, nn, zz, aa, cp, kc, htx, c0, c1, c2, c3, c4, c5⟩ := h.node hk
  obtain ⟨r, hr⟩ : ∃ r, r = look l (f + 1) now k E := ⟨_, rfl⟩
  obtain ⟨Q, hQ⟩ : ∃ Q : Ending → World → Prop, Q = RfPost w0 w l p of now O oc r := ⟨_, rfl⟩
  rw [← hr, ← hQ]
  have HQ := Lib.hid hQ
  have HR := Lib.hid hr
  have lO := own_ge h.ofr (g := O) rfl
  have lO2 := lO.2
  have lO1 := lO.1
  have hww := h.bel.size
  have hbb1 : b < w.heap.size + 1 := by omega
  have hbb2 : b < w.heap.size + 1 + 1 := by omega
  have hkl6 : k ≤ 600 := by omega
  obtain ⟨kd, hkd⟩ : ∃ kd, kd = kindAt l k := ⟨_, rfl⟩
  rw [← hkd] at c0
  rw [hop] at hkd
  subst hkd
  have hkd : (18 : Int) = 18 := rfl
  have HLK := Lib.hid hlk
  have HOV := Lib.hid hov
  have HNE := Lib.hid (show each (look l f (now + 1)) (kidsAt l k) E ≠ .out from hne)
  obtain ⟨cn, hcn⟩ : ∃ cn, cn = (kidsAt l k).length := ⟨_, rfl⟩
  rw [← hcn] at c4
  obtain ⟨w4, hw4⟩ : ∃ w4, w4 = ((((w.alloc (.cells #[.slice ph E.length kh, .slice pr E.length kr, .int .i64 now, .int .i64 0, .int .i64 0, .slice (some ⟨O, 0, none⟩) l.length oc] 44)).alloc (.cells #[.slice p l.length cap] 24)).alloc (.cells #[.slice none 0 0, .slice none 0 0, .int .i64 0, .int .i64 0, .int .i64 0, .slice none 0 0] 44)).alloc (.cells #[.int .i64 18, .string t, .int .i64 nn, .int .i64 zz, .slice cp cn kc, .int .i64 aa] 34)) := ⟨_, rfl⟩
  obtain ⟨hB, hB7, hbel⟩ := four_new w _ _ _ _ _ w4 hw4
  have h4 := h.below hbel
  subst hp
  have HBX := Lib.hid hB.b3
  obtain ⟨n, hn⟩ : ∃ n, n = E.length := ⟨_, rfl⟩
  obtain ⟨ln, hln⟩ : ∃ ln, ln = l.length := ⟨_, rfl⟩
  obtain ⟨nw, hnw⟩ : ∃ nw : Int, nw = (now : Int) := ⟨_, rfl⟩
  have hln6 : ln ≤ 600 := by omega
  have hkl : k < ln := by omega
  rw [← hn, ← hln, ← hnw] at hw4 hB ⊢
  obtain ⟨nx, hnx⟩ : ∃ nx : Int, nx = ((now + 1 : Nat) : Int) := ⟨_, rfl⟩
  have hnx1 : nw + 1 = nx := by omega
  have hnx2 : nx - 1 = nw := by omega
  have nx0 : (1 : Int) ≤ nx := by omega
  have nx2 : nx ≤ 1000001 := by omega
  obtain ⟨w5, hw5⟩ : ∃ w5, w5 = w4.setCell ⟨w.heap.size, 2, none⟩ (.int .i64 nx) := ⟨_, rfl⟩
  have h5 : Rf w0 w5 l (some ⟨b, o, none⟩) E of (.slice ph E.length kh) (.slice pr E.length kr) O oc := by rw [hw5]; exact h4.box HBX.out hww (by decide) 2 _
  have hcall := all_any hV hC hl h5 hk hkf (by omega) hE (by omega) hlow.succ (fun e => by omega) ht'
  rw [← hn, ← hln, ← hnx] at hcall
  have HG5 := Lib.hid (show w.grownBy w5 (some O) by rw [hw5]; exact grown_box (grown_below hbel) (Or.inl (Nat.le_refl _)) 2 _)
  have HB5 := Lib.hid (show Bx3 w w5 #[.slice ph n kh, .slice pr n kr, .int .i64 nx, .int .i64 0, .int .i64 0, .slice (some ⟨O, 0, none⟩) ln oc] #[.slice (some ⟨b, o, none⟩) ln cap] #[.slice none 0 0, .slice none 0 0, .int .i64 0, .int .i64 0, .int .i64 0, .slice none 0 0] by
    rw [hw5]
    have hz := hB.b3.set_ 2 (.int .i64 nx)
    exact ⟨by simpa using hz, hB.b4.far (p := ⟨w.heap.size, 2, none⟩) (show w.heap.size + 1 ≠ w.heap.size by omega) _, hB.b6.far (p := ⟨w.heap.size, 2, none⟩) (show w.heap.size + 1 + 1 ≠ w.heap.size by omega) _⟩)
  have HW5 := Lib.hid hw5
  have HX2 := Lib.hid hnx2
  have HNX := Lib.hid hnx
  clear hw5 h5 hnx
  have nw0 : (0 : Int) ≤ nw := by omega
  have nw1 : nw ≤ 1000000 := by omega
  have HB := Lib.hid hB
  have HB7 := Lib.hid hB7
  have HBel := Lib.hid hbel
  have HW4 := Lib.hid hw4
  have HH := Lib.hid h
  have HH4 := Lib.hid h4
  have HLN := Lib.hid hln
  have HN := Lib.hid hn
  have HNW := Lib.hid hnw
  have HKD := Lib.hid hkd
  have HTX := Lib.hid htx
  clear hQ hr lO hkd hB hB7 hbel h4 h hw4 hV hC hE hlow hz ht hcn hn hln hnw htx hne hlk hov hW0 hle hop h1u hk hl hK ht'
  go_enter Try.func26, Try.ntmps26
  go_upto_region 3 with (fail)
  rw [← HW4.out]
  clear HW4 c0 c1 c2 c3 c4 c5
  have hbb4 : b < w4.heap.size := Nat.lt_of_lt_of_le hbb HBel.out.size
  obtain ⟨y0, y1, y2, y3, y4, y5⟩ := six HB.out.b3
  obtain ⟨n0, n1, n2, n3, n4, n5⟩ := six HB7.out
  have x4 : w4.cell? ⟨w.heap.size + 1, 0, none⟩ = some (.slice (some ⟨b, o, none⟩) ln cap) := by rw [HB.out.b4.cell]; rfl
  have l3 := HB.out.b3.lt
  have l4 := HB.out.b4.lt
  have l6 := HB.out.b6.lt
  have l7 := HB7.out.lt
  have f2 := HB.out.b3.frozen 2
  clear n0 n1 n2 n3 n4 n5
  go_upto_region 6 with (fail)
  rw [← HW5.out]
  clear HW5 y0 y1 y2 y3 y4 y5 x4 l3 l4 l6 l7 f2 hbb4
  obtain ⟨y0, y1, y2, y3, y4, y5⟩ := six HB5.out.b3
  obtain ⟨z0, z1, z2, z3, z4, z5⟩ := six HB5.out.b6
  have x4 : w5.cell? ⟨w.heap.size + 1, 0, none⟩ = some (.slice (some ⟨b, o, none⟩) ln cap) := by rw [HB5.out.b4.cell]; rfl
  have l3 := HB5.out.b3.lt
  have l4 := HB5.out.b4.lt
  have l6 := HB5.out.b6.lt
  have q0 := HB5.out.b6.frozen 0
  have q1 := HB5.out.b6.frozen 1
  have q2 := HB5.out.b6.frozen 2
  have q3 := HB5.out.b6.frozen 3
  have q4 := HB5.out.b6.frozen 4
  have q5 := HB5.out.b6.frozen 5
  have f0 := HB5.out.b3.frozen 0
  have f1 := HB5.out.b3.frozen 1
  have f2 := HB5.out.b3.frozen 2
  have f3 := HB5.out.b3.frozen 3
  have f4 := HB5.out.b3.frozen 4
  have f5 := HB5.out.b3.frozen 5
  clear hnx1 hnx2
  go_wp2_with (go_at_call 14; refine hcall.mono ?_)
  intro e w6 hd
  have hg6 := RfPost.grown_ hd HNE.out
  have hd2 := RfPost.from_ HG5.out hd
  obtain ⟨ph5, pr5, n5', m5, kh5, kr5, c5', a5, rfl, hg6', hcl⟩ := RfPost.back_ (now := now) HH.out lO1 hd2 HNE.out
  have HCL := Lib.hid hcl.out
  have hB6 := HB5.out.grown hg6 (fun g e => by cases e; exact lO2)
  have HG6 := Lib.hid hg6'
  rw [← HNX.out, ← HLN.out]
  clear hcall hd hd2 hg6 hg6' hcl HB5
  clear y0 y1 y2 y3 y4 y5 z0 z1 z2 z3 z4 z5 x4 l3 l4 l6 q0 q1 q2 q3 q4 q5 f0 f1 f2 f3 f4 f5
  obtain ⟨y0, y1, y2, y3, y4, y5⟩ := six hB6.b3
  have f0 := hB6.b3.frozen 0
  have f1 := hB6.b3.frozen 1
  have f2 := hB6.b3.frozen 2
  have f3 := hB6.b3.frozen 3
  have f4 := hB6.b3.frozen 4
  have f5 := hB6.b3.frozen 5
  have l3 := hB6.b3.lt
  obtain ⟨w7, hw7⟩ : ∃ w7, w7 = st6 w6 w.heap.size (.slice ph5 n5' kh5) (.slice pr5 m5 kr5) (.int .i64 nx) (.int .i64 c5') (.int .i64 a5) (.slice (some ⟨O, 0, none⟩) ln oc) := ⟨_, rfl⟩
  have HB7' := Lib.hid (show Bx3 w w7 #[.slice ph5 n5' kh5, .slice pr5 m5 kr5, .int .i64 nx, .int .i64 c5', .int .i64 a5, .slice (some ⟨O, 0, none⟩) ln oc] #[.slice (some ⟨b, o, none⟩) ln cap] #[.slice none 0 0, .slice none 0 0, .int .i64 0, .int .i64 0, .int .i64 0, .slice none 0 0] by rw [hw7]; exact ⟨st6_blk hB6.b3 _ _ _ _ _ _, st6_far hB6.b4 (by omega) _ _ _ _ _ _, st6_far hB6.b6 (by omega) _ _ _ _ _ _⟩)
  have HG7 := Lib.hid (show w.grownBy w7 (some O) by rw [hw7]; exact grown_st6 HG6.out (Nat.le_refl _) _ _ _ _ _ _)
  have HR7 : Hid (∀ v n xs, w6.ownsRow w0.heap.size 3 1 v n xs → w7.ownsRow w0.heap.size 3 1 v n xs) := fun v n xs h => by rw [hw7]; exact row_st6 h hB6.b3 (by decide) _ _ _ _ _ _
  unfold st6 at hw7
  have HW7 := Lib.hid hw7
  clear hw7
  go_upto_region 7 with (fail)
  rw [← HW7.out]
  clear HW7 hB6 y0 y1 y2 y3 y4 y5 f0 f1 f2 f3 f4 f5 l3
  obtain ⟨y0, y1, y2, y3, y4, y5⟩ := six HB7'.out.b3
  obtain ⟨z0, z1, z2, z3, z4, z5⟩ := six HB7'.out.b6
  have x4 : w7.cell? ⟨w.heap.size + 1, 0, none⟩ = some (.slice (some ⟨b, o, none⟩) ln cap) := by rw [HB7'.out.b4.cell]; rfl
  have l3 := HB7'.out.b3.lt
  have l4 := HB7'.out.b4.lt
  have l6 := HB7'.out.b6.lt
  have q0 := HB7'.out.b6.frozen 0
  have q1 := HB7'.out.b6.frozen 1
  have q2 := HB7'.out.b6.frozen 2
  have q3 := HB7'.out.b6.frozen 3
  have q4 := HB7'.out.b6.frozen 4
  have q5 := HB7'.out.b6.frozen 5
  have f0 := HB7'.out.b3.frozen 0
  have f1 := HB7'.out.b3.frozen 1
  have f2 := HB7'.out.b3.frozen 2
  have f3 := HB7'.out.b3.frozen 3
  have f4 := HB7'.out.b3.frozen 4
  have f5 := HB7'.out.b3.frozen 5
  obtain ⟨w8, hw8⟩ : ∃ w8, w8 = st3 w7 w.heap.size (.int .i64 (nx - 1)) (.slice ph n kh) (.slice pr n kr) := ⟨_, rfl⟩
  have HB8 := Lib.hid (show Bx3 w w8 #[.slice ph n kh, .slice pr n kr, .int .i64 (nx - 1), .int .i64 c5', .int .i64 a5, .slice (some ⟨O, 0, none⟩) ln oc] #[.slice (some ⟨b, o, none⟩) ln cap] #[.slice none 0 0, .slice none 0 0, .int .i64 0, .int .i64 0, .int .i64 0, .slice none 0 0] by rw [hw8]; exact ⟨st3_blk HB7'.out.b3 _ _ _, st3_far HB7'.out.b4 (by omega) _ _ _, st3_far HB7'.out.b6 (by omega) _ _ _⟩)
  have HG8 := Lib.hid (show w.grownBy w8 (some O) by rw [hw8]; exact grown_st3 HG7.out (Nat.le_refl _) _ _ _)
  have HR8 : Hid (∀ v n xs, w6.ownsRow w0.heap.size 3 1 v n xs → w8.ownsRow w0.heap.size 3 1 v n xs) := fun v n xs h => by rw [hw8]; exact row_st3 (HR7.out v n xs h) HB7'.out.b3 (by decide) _ _ _
  unfold st3 at hw8
  have HW8 := Lib.hid hw8
  clear hw8
  go_upto_region 10 with (fail)
  rw [← HW8.out]
  clear HW8
  clear y0 y1 y2 y3 y4 y5 z0 z1 z2 z3 z4 z5 x4 l3 l4 l6 q0 q1 q2 q3 q4 q5 f0 f1 f2 f3 f4 f5
  obtain ⟨y0, y1, y2, y3, y4, y5⟩ := six HB8.out.b3
  obtain ⟨z0, z1, z2, z3, z4, z5⟩ := six HB8.out.b6
  have x4 : w8.cell? ⟨w.heap.size + 1, 0, none⟩ = some (.slice (some ⟨b, o, none⟩) ln cap) := by rw [HB8.out.b4.cell]; rfl
  have l3 := HB8.out.b3.lt
  have l4 := HB8.out.b4.lt
  have l6 := HB8.out.b6.lt
  have q0 := HB8.out.b6.frozen 0
  have q1 := HB8.out.b6.frozen 1
  have q2 := HB8.out.b6.frozen 2
  have q3 := HB8.out.b6.frozen 3
  have q4 := HB8.out.b6.frozen 4
  have q5 := HB8.out.b6.frozen 5
  have f0 := HB8.out.b3.frozen 0
  have f1 := HB8.out.b3.frozen 1
  have f2 := HB8.out.b3.frozen 2
  have f3 := HB8.out.b3.frozen 3
  have f4 := HB8.out.b3.frozen 4
  have f5 := HB8.out.b3.frozen 5
  go_wp2
  have hz := st6_blk HB8.out.b6 (.slice ph n kh) (.slice pr n kr) (.int .i64 (nx - 1)) (.int .i64 c5') (.int .i64 a5) (.slice (some ⟨O, 0, none⟩) ln oc)
  obtain ⟨v0, v1, v2, v3, v4, v5⟩ := six hz
  unfold st6 at v0 v1 v2 v3 v4 v5
  refine bodyPost_ret (v := .agg #[.slice ph n kh, .slice pr n kr, .int .i64 (nx - 1), .int .i64 c5', .int .i64 a5, .slice (some ⟨O, 0, none⟩) ln oc]) (by simp [results, Try.results26, go_sem, v0, v1, v2, v3, v4, v5]) rfl ?_
  rw [HQ.out]
  rw [HR.out, HLK.out]
  refine RfPost.pre ?_
  rw [HOV.out, HX2.out, HN.out, HNW.out, HLN.out]
  exact HCL.out _ (grown_st6 HG8.out (by omega) _ _ _ _ _ _) (fun v n xs h => row_st6 (HR8.out v n xs h) HB8.out.b6 (by decide) _ _ _ _ _ _)

end Go.Proofs.Ytmghjfphlneblaa.Sc
