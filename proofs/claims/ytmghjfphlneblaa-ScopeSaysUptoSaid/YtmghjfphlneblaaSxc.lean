/-
  Contracts of the document's look: a name.
-/
import Derived.Test.YtmghjfphlneblaaSw
import Derived.Test.YtmghjfphlneblaaSf
namespace Go.Proofs.Ytmghjfphlneblaa.Sc
open Go.RowKit
open Tr

theorem row_set {w : World} {b0 O n c : Nat} {xs : List Int} (h : w.ownsRow b0 3 1 (.slice (some ⟨O, 0, none⟩) n c) n (intV xs)) (k : Nat) (v : Int) : (w.setCell ⟨O, k, none⟩ (.int .i64 v)).ownsRow b0 3 1 (.slice (some ⟨O, 0, none⟩) n c) n (intV (xs.set k v)) := by
  obtain ⟨hl, h2⟩ := h
  rcases h2 with ⟨e, _⟩ | ⟨g, cap, cur, e, h1, h2, h3, h4, h5, h6⟩
  · cases e
  · cases e
    refine ⟨by rw [intV_len] at hl ⊢; simpa using hl, Or.inr ⟨O, c, cur.setIfInBounds k (.int .i64 v), rfl, h1, ?_, h3, h4, by simpa using h5, ?_⟩⟩
    · exact Blk.set_ h2 k _
    · rw [Array.toList_setIfInBounds, List.take_set, h6]
      simp [intV, List.map_set]
theorem Rf.setOf {w0 w : World} {l : List Nd} {p : Option Addr} {E : Env} {of : List Int} {vh vr : Value} {O oc : Nat} (h : Rf w0 w l p E of vh vr O oc) (k : Nat) (v : Int) : Rf w0 (w.setCell ⟨O, k, none⟩ (.int .i64 v)) l p E (of.set k v) vh vr O oc :=
  { h with bel := h.bel.setCell (p := ⟨O, k, none⟩) (own_ge h.ofr (g := O) rfl).1 _, has := row_other h.has h.sepH k _, rom := row_other h.rom h.sepR k _, ofr := row_set h.ofr k v }
theorem grown_row {w X : World} {O : Nat} (h : w.grownBy X (some O)) (k : Nat) (u : Value) : w.grownBy (X.setCell ⟨O, k, none⟩ u) (some O) := grown_box h (Or.inr rfl) k u
theorem blk_two {W : World} {g : Nat} {t : TypeId} {x0 x1 x2 x3 x4 x5 : Value} (h : Blk W g t #[x0, x1, x2, x3, x4, x5]) (a b : Value) : Blk ((W.setCell ⟨g, 3, none⟩ a).setCell ⟨g, 4, none⟩ b) g t #[x0, x1, x2, a, b, x5] := by
  have := (h.set_ 3 a).set_ 4 b
  simpa using this
theorem blk_twoFar {W : World} {g B : Nat} {t : TypeId} {cs : Array Value} (h : Blk W B t cs) (hne : B ≠ g) (a b : Value) : Blk ((W.setCell ⟨g, 3, none⟩ a).setCell ⟨g, 4, none⟩ b) B t cs :=
  (h.far (p := ⟨g, 3, none⟩) hne a).far (p := ⟨g, 4, none⟩) hne b
theorem grown_two {w X : World} {row : Option Nat} {B : Nat} (h : w.grownBy X row) (hB : w.heap.size ≤ B) (a b : Value) : w.grownBy ((X.setCell ⟨B, 3, none⟩ a).setCell ⟨B, 4, none⟩ b) row :=
  grown_box (grown_box h (Or.inl hB) 3 a) (Or.inl hB) 4 b
set_option maxHeartbeats 16000000 in
set_option maxRecDepth 100000 in
theorem look_name {w0 w : World} {l : List Nd} {p : Option Addr} {E : Env} {of : List Int} {ph pr : Option Addr} {kh kr O oc cap now k q f : Nat} (hV : LookOK w0 l p cap O oc f) (hC : ∀ j, j < l.length → codeAt l j = 0) (hl : l.length ≤ 600) (h : Rf w0 w l p E of (.slice ph E.length kh) (.slice pr E.length kr) O oc) (hk : k < l.length) (hkf : k < f + 1) (hnow : now + (f + 1) ≤ 1000000) (hE : E.length ≤ q + St l k) (hq : q + (k + 1) ≤ 100000) (hlow : Low l now E)
    (hz : now = 0 → Zk (kindAt l k)) (ht : kindAt l k = 2 ∨ kindAt l k = 3 → of[k]? = some (k : Int)) (h1u : kindAt l k ≠ 1) (h32 : kindAt l k = 32) :
    Calls Try.prog 26 #[.agg #[.slice ph E.length kh, .slice pr E.length kr, .int .i64 now, .int .i64 0, .int .i64 0, .slice (some ⟨O, 0, none⟩) l.length oc], .agg #[.slice p l.length cap], .int .i64 k] w (RfPost w0 w l p of now O oc (look l (f + 1) now k E)) := by
  have hkn := kids_none hk (hC k hk) (Or.inr h32)
  have hlk : look l (f + 1) now k E = nameF l now k E := by
    simp only [look]
    rw [if_neg (by rw [h32]; decide)]
    have ho : own l now k E = nameF l now k E := by unfold own; rw [if_neg (by rw [h32]; decide), if_neg (by rw [h32]; decide), if_pos h32]
    rw [ho]
    have hkk : kidsF l (look l f) now k = fun E => .ok E [] := by
      funext E
      unfold kidsF
      rw [if_neg (by rw [h32]; decide), hkn]; rfl
    rw [hkk]
    unfold nameF
    split
    · split
      · rfl
      · rfl
    · rfl
  have hle := St_le l k
  obtain ⟨b, o, hp, hbb, t, nn, zz, aa, cp, kc, htx, c0, c1, c2, c3, c4, c5⟩ := h.node hk
  obtain ⟨r, hr⟩ : ∃ r, r = look l (f + 1) now k E := ⟨_, rfl⟩
  obtain ⟨Q, hQ⟩ : ∃ Q : Ending → World → Prop, Q = RfPost w0 w l p of now O oc r := ⟨_, rfl⟩
  rw [← hr, ← hQ]
  have HQ := Lib.hid hQ
  have HR := Lib.hid hr
  have lO := own_ge h.ofr (g := O) rfl
  have lO2 := lO.2
  have lO1 := lO.1
  have hww := h.bel.size
  have hbb1 : b < w.heap.size + 1 := by omega
  have hbb2 : b < w.heap.size + 1 + 1 := by omega
  have hkl6 : k ≤ 600 := by omega
  obtain ⟨kd, hkd⟩ : ∃ kd, kd = kindAt l k := ⟨_, rfl⟩
  rw [← hkd] at c0
  rw [h32] at hkd
  subst hkd
  have hkd : (32 : Int) = 32 := rfl
  have HLK := Lib.hid hlk
  obtain ⟨cn, hcn⟩ : ∃ cn, cn = (kidsAt l k).length := ⟨_, rfl⟩
  rw [← hcn] at c4
  obtain ⟨w4, hw4⟩ : ∃ w4, w4 = ((((w.alloc (.cells #[.slice ph E.length kh, .slice pr E.length kr, .int .i64 now, .int .i64 0, .int .i64 0, .slice (some ⟨O, 0, none⟩) l.length oc] 44)).alloc (.cells #[.slice p l.length cap] 24)).alloc (.cells #[.slice none 0 0, .slice none 0 0, .int .i64 0, .int .i64 0, .int .i64 0, .slice none 0 0] 44)).alloc (.cells #[.int .i64 32, .string t, .int .i64 nn, .int .i64 zz, .slice cp cn kc, .int .i64 aa] 34)) := ⟨_, rfl⟩
  obtain ⟨hB, hB7, hbel⟩ := four_new w _ _ _ _ _ w4 hw4
  have h4 := h.below hbel
  have hcall := rfind_any (cap := cap) h4 (Nat.lt_of_le_of_lt (Nat.zero_le _) hk) hl (by omega) hlow.1 t
  have HKL := Lib.hid hk
  subst hp
  have HNB : Hid (∀ j, j < l.length → ∀ w', Below w0.heap.size w0 w' → w'.cell? ⟨b, o + j * 6, none⟩ = some (.int .i64 (kindAt l j))) := fun j hj w' hb' => by
    obtain ⟨b', o', hp', _, hN'⟩ := h.nodeAt hj
    cases hp'
    rw [kindAt_get hj]
    exact (hN' j hj w' hb').1
  have HENV := Lib.hid h.env
  unfold fndV at hcall
  rw [htx] at hcall
  have HFN : Hid (nameF l now k E = (match findF l E (tx l k) (now + 1) with | some j => if kindAt l j = 3 then .bad 6 k else .ok E [(k, (j : Int))] | none => .bad 6 k)) := rfl
  obtain ⟨n, hn⟩ : ∃ n, n = E.length := ⟨_, rfl⟩
  obtain ⟨ln, hln⟩ : ∃ ln, ln = l.length := ⟨_, rfl⟩
  obtain ⟨nw, hnw⟩ : ∃ nw : Int, nw = (now : Int) := ⟨_, rfl⟩
  have hln6 : ln ≤ 600 := by omega
  have hkl : k < ln := by omega
  rw [← hn, ← hln, ← hnw] at hw4 hB ⊢
  rw [← hn, ← hln, ← hnw] at hcall
  have nw0 : (0 : Int) ≤ nw := by omega
  have nw1 : nw ≤ 1000000 := by omega
  have HB := Lib.hid hB
  have HB7 := Lib.hid hB7
  have HBel := Lib.hid hbel
  have HW4 := Lib.hid hw4
  have HH := Lib.hid h
  have HH4 := Lib.hid h4
  have HLN := Lib.hid hln
  have HN := Lib.hid hn
  have HNW := Lib.hid hnw
  have HKD := Lib.hid hkd
  have HTX := Lib.hid htx
  clear hQ hr lO hkd hB hB7 hbel h4 h hw4 hV hC hE hlow hz ht hcn hn hln hnw htx hkn hle hlk h32 h1u hk hl
  go_enter Try.func26, Try.ntmps26
  go_upto_region 19 with (fail)
  rw [← HW4.out]
  clear HW4 c0 c1 c2 c3 c4 c5
  have hbb4 : b < w4.heap.size := Nat.lt_of_lt_of_le hbb HBel.out.size
  obtain ⟨y0, y1, y2, y3, y4, y5⟩ := six HB.out.b3
  obtain ⟨n0, n1, n2, n3, n4, n5⟩ := six HB7.out
  have x4 : w4.cell? ⟨w.heap.size + 1, 0, none⟩ = some (.slice (some ⟨b, o, none⟩) ln cap) := by rw [HB.out.b4.cell]; rfl
  have l3 := HB.out.b3.lt
  have l4 := HB.out.b4.lt
  have l6 := HB.out.b6.lt
  have l7 := HB7.out.lt
  cases hfd : findF l E (tx l k) (now + 1) with
  | none =>
    have HRB := Lib.hid (show r = .bad 6 k by rw [HR.out, HLK.out, HFN.out, hfd])
    rw [hfd] at hcall
    clear hfd HFN HNB
    go_wp2_with (go_at_call 40; refine hcall.mono ?_)
    intro e w5 he5 hb5
    subst he5
    clear hcall
    clear y0 y1 y2 y3 y4 y5 n0 n1 n2 n3 n4 n5 x4 l3 l4 l6 l7
    have hg5 := grown_below (row := none) hb5
    have HG5 := Lib.hid (show w.grownBy w5 (some O) from grown_trans (grown_below HBel.out) (grown_below hb5))
    have HB5 := Lib.hid (show Bx3 w w5 #[.slice ph n kh, .slice pr n kr, .int .i64 nw, .int .i64 0, .int .i64 0, .slice (some ⟨O, 0, none⟩) ln oc] #[.slice (some ⟨b, o, none⟩) ln cap] #[.slice none 0 0, .slice none 0 0, .int .i64 0, .int .i64 0, .int .i64 0, .slice none 0 0] from HB.out.grown hg5 (fun g e => by cases e))
    have HR5 := Lib.hid (HH4.out.below hb5)
    have hbb5 : b < w5.heap.size := Nat.lt_of_lt_of_le hbb4 hb5.size
    obtain ⟨n0, n1, n2, n3, n4, n5⟩ := six (HB7.out.grown hg5 (fun e => by cases e))
    have l7 := (HB7.out.grown hg5 (fun e => by cases e)).lt
    clear hg5 hb5
    obtain ⟨y0, y1, y2, y3, y4, y5⟩ := six HB5.out.b3
    obtain ⟨z0, z1, z2, z3, z4, z5⟩ := six HB5.out.b6
    have x4 : w5.cell? ⟨w.heap.size + 1, 0, none⟩ = some (.slice (some ⟨b, o, none⟩) ln cap) := by rw [HB5.out.b4.cell]; rfl
    have l3 := HB5.out.b3.lt
    have l4 := HB5.out.b4.lt
    have l6 := HB5.out.b6.lt
    have q0 := HB5.out.b6.frozen 0
    have q1 := HB5.out.b6.frozen 1
    have q2 := HB5.out.b6.frozen 2
    have q3 := HB5.out.b6.frozen 3
    have q4 := HB5.out.b6.frozen 4
    have q5 := HB5.out.b6.frozen 5
    have f0 := HB5.out.b3.frozen 0
    have f1 := HB5.out.b3.frozen 1
    have f2 := HB5.out.b3.frozen 2
    have f3 := HB5.out.b3.frozen 3
    have f4 := HB5.out.b3.frozen 4
    have f5 := HB5.out.b3.frozen 5
    go_wp2_with (go_at_call 12; refine (rfault_any _ _ _).mono ?_)
    rintro e w6 ⟨rfl, hb6⟩
    have HB6 := Lib.hid (show Bx3 w w6 #[.slice ph n kh, .slice pr n kr, .int .i64 nw, .int .i64 0, .int .i64 0, .slice (some ⟨O, 0, none⟩) ln oc] #[.slice (some ⟨b, o, none⟩) ln cap] #[.slice none 0 0, .slice none 0 0, .int .i64 0, .int .i64 0, .int .i64 0, .slice none 0 0] from HB5.out.grown (row := none) (grown_below hb6) (fun g e => by cases e))
    have HG6 := Lib.hid (show w.grownBy w6 (some O) from grown_trans HG5.out (grown_below hb6))
    clear hb6
    clear y0 y1 y2 y3 y4 y5 z0 z1 z2 z3 z4 z5 x4 l3 l4 l6 q0 q1 q2 q3 q4 q5 f0 f1 f2 f3 f4 f5
    obtain ⟨y0, y1, y2, y3, y4, y5⟩ := six HB6.out.b3
    obtain ⟨z0, z1, z2, z3, z4, z5⟩ := six HB6.out.b6
    have x4 : w6.cell? ⟨w.heap.size + 1, 0, none⟩ = some (.slice (some ⟨b, o, none⟩) ln cap) := by rw [HB6.out.b4.cell]; rfl
    have l3 := HB6.out.b3.lt
    have l4 := HB6.out.b4.lt
    have l6 := HB6.out.b6.lt
    have q0 := HB6.out.b6.frozen 0
    have q1 := HB6.out.b6.frozen 1
    have q2 := HB6.out.b6.frozen 2
    have q3 := HB6.out.b6.frozen 3
    have q4 := HB6.out.b6.frozen 4
    have q5 := HB6.out.b6.frozen 5
    have f0 := HB6.out.b3.frozen 0
    have f1 := HB6.out.b3.frozen 1
    have f2 := HB6.out.b3.frozen 2
    have f3 := HB6.out.b3.frozen 3
    have f4 := HB6.out.b3.frozen 4
    have f5 := HB6.out.b3.frozen 5
    obtain ⟨w7, hw7⟩ : ∃ w7, w7 = (w6.setCell ⟨w.heap.size, 3, none⟩ (.int .i64 6)).setCell ⟨w.heap.size, 4, none⟩ (.int .i64 k) := ⟨_, rfl⟩
    have HB7 := Lib.hid (show Bx3 w w7 #[.slice ph n kh, .slice pr n kr, .int .i64 nw, .int .i64 6, .int .i64 k, .slice (some ⟨O, 0, none⟩) ln oc] #[.slice (some ⟨b, o, none⟩) ln cap] #[.slice none 0 0, .slice none 0 0, .int .i64 0, .int .i64 0, .int .i64 0, .slice none 0 0] by rw [hw7]; exact ⟨blk_two HB6.out.b3 _ _, blk_twoFar HB6.out.b4 (by omega) _ _, blk_twoFar HB6.out.b6 (by omega) _ _⟩)
    have HG7 := Lib.hid (show w.grownBy w7 (some O) by rw [hw7]; exact grown_two HG6.out (Nat.le_refl _) _ _)
    have HW7 := Lib.hid hw7
    clear hw7
    go_upto_region 22 with (fail)
    rw [← HW7.out]
    clear HW7
    clear y0 y1 y2 y3 y4 y5 z0 z1 z2 z3 z4 z5 x4 l3 l4 l6 q0 q1 q2 q3 q4 q5 f0 f1 f2 f3 f4 f5
    obtain ⟨y0, y1, y2, y3, y4, y5⟩ := six HB7.out.b3
    obtain ⟨z0, z1, z2, z3, z4, z5⟩ := six HB7.out.b6
    have x4 : w7.cell? ⟨w.heap.size + 1, 0, none⟩ = some (.slice (some ⟨b, o, none⟩) ln cap) := by rw [HB7.out.b4.cell]; rfl
    have l3 := HB7.out.b3.lt
    have l4 := HB7.out.b4.lt
    have l6 := HB7.out.b6.lt
    have q0 := HB7.out.b6.frozen 0
    have q1 := HB7.out.b6.frozen 1
    have q2 := HB7.out.b6.frozen 2
    have q3 := HB7.out.b6.frozen 3
    have q4 := HB7.out.b6.frozen 4
    have q5 := HB7.out.b6.frozen 5
    have f0 := HB7.out.b3.frozen 0
    have f1 := HB7.out.b3.frozen 1
    have f2 := HB7.out.b3.frozen 2
    have f3 := HB7.out.b3.frozen 3
    have f4 := HB7.out.b3.frozen 4
    have f5 := HB7.out.b3.frozen 5
    go_wp2
    have hz := st6_blk HB7.out.b6 (.slice ph n kh) (.slice pr n kr) (.int .i64 nw) (.int .i64 6) (.int .i64 k) (.slice (some ⟨O, 0, none⟩) ln oc)
    obtain ⟨v0, v1, v2, v3, v4, v5⟩ := six hz
    unfold st6 at v0 v1 v2 v3 v4 v5
    refine bodyPost_ret (v := .agg #[.slice ph n kh, .slice pr n kr, .int .i64 nw, .int .i64 6, .int .i64 k, .slice (some ⟨O, 0, none⟩) ln oc]) (by simp [results, Try.results26, go_sem, v0, v1, v2, v3, v4, v5]) rfl ?_
    rw [HQ.out]
    rw [HRB.out]
    exact ⟨ph, pr, n, n, kh, kr, by rw [HNW.out, HLN.out], grown_st6 HG7.out (by omega) _ _ _ _ _ _⟩
  | some j =>
    obtain ⟨x, hx1, hx2, _, _⟩ := findF_mem hfd
    have hjl : j < l.length := by rw [← hx2]; exact HENV.out x hx1
    clear hx1 hx2
    rw [hfd] at hcall
    have hj0 : decide ((j : Int) < 0) = false := by simp
    by_cases h3 : kindAt l j = 3
    · have HRB := Lib.hid (show r = .bad 6 k by rw [HR.out, HLK.out, HFN.out, hfd]; exact if_pos h3)
      clear hfd HFN
      go_wp2_with (go_at_call 40; refine hcall.mono ?_)
      intro e w5 he5 hb5
      subst he5
      clear hcall
      clear y0 y1 y2 y3 y4 y5 n0 n1 n2 n3 n4 n5 x4 l3 l4 l6 l7
      have hg5 := grown_below (row := none) hb5
      have HG5 := Lib.hid (show w.grownBy w5 (some O) from grown_trans (grown_below HBel.out) (grown_below hb5))
      have HB5 := Lib.hid (show Bx3 w w5 #[.slice ph n kh, .slice pr n kr, .int .i64 nw, .int .i64 0, .int .i64 0, .slice (some ⟨O, 0, none⟩) ln oc] #[.slice (some ⟨b, o, none⟩) ln cap] #[.slice none 0 0, .slice none 0 0, .int .i64 0, .int .i64 0, .int .i64 0, .slice none 0 0] from HB.out.grown hg5 (fun g e => by cases e))
      have HR5 := Lib.hid (HH4.out.below hb5)
      have hbb5 : b < w5.heap.size := Nat.lt_of_lt_of_le hbb4 hb5.size
      obtain ⟨n0, n1, n2, n3, n4, n5⟩ := six (HB7.out.grown hg5 (fun e => by cases e))
      have l7 := (HB7.out.grown hg5 (fun e => by cases e)).lt
      clear hg5 hb5
      obtain ⟨y0, y1, y2, y3, y4, y5⟩ := six HB5.out.b3
      obtain ⟨z0, z1, z2, z3, z4, z5⟩ := six HB5.out.b6
      have x4 : w5.cell? ⟨w.heap.size + 1, 0, none⟩ = some (.slice (some ⟨b, o, none⟩) ln cap) := by rw [HB5.out.b4.cell]; rfl
      have l3 := HB5.out.b3.lt
      have l4 := HB5.out.b4.lt
      have l6 := HB5.out.b6.lt
      have q0 := HB5.out.b6.frozen 0
      have q1 := HB5.out.b6.frozen 1
      have q2 := HB5.out.b6.frozen 2
      have q3 := HB5.out.b6.frozen 3
      have q4 := HB5.out.b6.frozen 4
      have q5 := HB5.out.b6.frozen 5
      have f0 := HB5.out.b3.frozen 0
      have f1 := HB5.out.b3.frozen 1
      have f2 := HB5.out.b3.frozen 2
      have f3 := HB5.out.b3.frozen 3
      have f4 := HB5.out.b3.frozen 4
      have f5 := HB5.out.b3.frozen 5
      have cj := HNB.out j hjl w5 HR5.out.bel
      rw [h3] at cj
      have hjn : j < ln := by have := HLN.out; omega
      clear hjl h3 HNB
      go_wp2_with (go_at_call 12; refine (rfault_any _ _ _).mono ?_)
      rintro e w6 ⟨rfl, hb6⟩
      have HB6 := Lib.hid (show Bx3 w w6 #[.slice ph n kh, .slice pr n kr, .int .i64 nw, .int .i64 0, .int .i64 0, .slice (some ⟨O, 0, none⟩) ln oc] #[.slice (some ⟨b, o, none⟩) ln cap] #[.slice none 0 0, .slice none 0 0, .int .i64 0, .int .i64 0, .int .i64 0, .slice none 0 0] from HB5.out.grown (row := none) (grown_below hb6) (fun g e => by cases e))
      have HG6 := Lib.hid (show w.grownBy w6 (some O) from grown_trans HG5.out (grown_below hb6))
      clear hb6 cj
      clear y0 y1 y2 y3 y4 y5 z0 z1 z2 z3 z4 z5 x4 l3 l4 l6 q0 q1 q2 q3 q4 q5 f0 f1 f2 f3 f4 f5
      obtain ⟨y0, y1, y2, y3, y4, y5⟩ := six HB6.out.b3
      obtain ⟨z0, z1, z2, z3, z4, z5⟩ := six HB6.out.b6
      have x4 : w6.cell? ⟨w.heap.size + 1, 0, none⟩ = some (.slice (some ⟨b, o, none⟩) ln cap) := by rw [HB6.out.b4.cell]; rfl
      have l3 := HB6.out.b3.lt
      have l4 := HB6.out.b4.lt
      have l6 := HB6.out.b6.lt
      have q0 := HB6.out.b6.frozen 0
      have q1 := HB6.out.b6.frozen 1
      have q2 := HB6.out.b6.frozen 2
      have q3 := HB6.out.b6.frozen 3
      have q4 := HB6.out.b6.frozen 4
      have q5 := HB6.out.b6.frozen 5
      have f0 := HB6.out.b3.frozen 0
      have f1 := HB6.out.b3.frozen 1
      have f2 := HB6.out.b3.frozen 2
      have f3 := HB6.out.b3.frozen 3
      have f4 := HB6.out.b3.frozen 4
      have f5 := HB6.out.b3.frozen 5
      obtain ⟨w7, hw7⟩ : ∃ w7, w7 = (w6.setCell ⟨w.heap.size, 3, none⟩ (.int .i64 6)).setCell ⟨w.heap.size, 4, none⟩ (.int .i64 k) := ⟨_, rfl⟩
      have HB7 := Lib.hid (show Bx3 w w7 #[.slice ph n kh, .slice pr n kr, .int .i64 nw, .int .i64 6, .int .i64 k, .slice (some ⟨O, 0, none⟩) ln oc] #[.slice (some ⟨b, o, none⟩) ln cap] #[.slice none 0 0, .slice none 0 0, .int .i64 0, .int .i64 0, .int .i64 0, .slice none 0 0] by rw [hw7]; exact ⟨blk_two HB6.out.b3 _ _, blk_twoFar HB6.out.b4 (by omega) _ _, blk_twoFar HB6.out.b6 (by omega) _ _⟩)
      have HG7 := Lib.hid (show w.grownBy w7 (some O) by rw [hw7]; exact grown_two HG6.out (Nat.le_refl _) _ _)
      have HW7 := Lib.hid hw7
      clear hw7
      go_upto_region 22 with (fail)
      rw [← HW7.out]
      clear HW7
      clear y0 y1 y2 y3 y4 y5 z0 z1 z2 z3 z4 z5 x4 l3 l4 l6 q0 q1 q2 q3 q4 q5 f0 f1 f2 f3 f4 f5
      obtain ⟨y0, y1, y2, y3, y4, y5⟩ := six HB7.out.b3
      obtain ⟨z0, z1, z2, z3, z4, z5⟩ := six HB7.out.b6
      have x4 : w7.cell? ⟨w.heap.size + 1, 0, none⟩ = some (.slice (some ⟨b, o, none⟩) ln cap) := by rw [HB7.out.b4.cell]; rfl
      have l3 := HB7.out.b3.lt
      have l4 := HB7.out.b4.lt
      have l6 := HB7.out.b6.lt
      have q0 := HB7.out.b6.frozen 0
      have q1 := HB7.out.b6.frozen 1
      have q2 := HB7.out.b6.frozen 2
      have q3 := HB7.out.b6.frozen 3
      have q4 := HB7.out.b6.frozen 4
      have q5 := HB7.out.b6.frozen 5
      have f0 := HB7.out.b3.frozen 0
      have f1 := HB7.out.b3.frozen 1
      have f2 := HB7.out.b3.frozen 2
      have f3 := HB7.out.b3.frozen 3
      have f4 := HB7.out.b3.frozen 4
      have f5 := HB7.out.b3.frozen 5
      go_wp2
      have hz := st6_blk HB7.out.b6 (.slice ph n kh) (.slice pr n kr) (.int .i64 nw) (.int .i64 6) (.int .i64 k) (.slice (some ⟨O, 0, none⟩) ln oc)
      obtain ⟨v0, v1, v2, v3, v4, v5⟩ := six hz
      unfold st6 at v0 v1 v2 v3 v4 v5
      refine bodyPost_ret (v := .agg #[.slice ph n kh, .slice pr n kr, .int .i64 nw, .int .i64 6, .int .i64 k, .slice (some ⟨O, 0, none⟩) ln oc]) (by simp [results, Try.results26, go_sem, v0, v1, v2, v3, v4, v5]) rfl ?_
      rw [HQ.out]
      rw [HRB.out]
      exact ⟨ph, pr, n, n, kh, kr, by rw [HNW.out, HLN.out], grown_st6 HG7.out (by omega) _ _ _ _ _ _⟩
    · have HRB := Lib.hid (show r = .ok E [(k, (j : Int))] by rw [HR.out, HLK.out, HFN.out, hfd]; exact if_neg h3)
      clear hfd HFN
      go_wp2_with (go_at_call 40; refine hcall.mono ?_)
      intro e w5 he5 hb5
      subst he5
      clear hcall
      clear y0 y1 y2 y3 y4 y5 n0 n1 n2 n3 n4 n5 x4 l3 l4 l6 l7
      have hg5 := grown_below (row := none) hb5
      have HG5 := Lib.hid (show w.grownBy w5 (some O) from grown_trans (grown_below HBel.out) (grown_below hb5))
      have HB5 := Lib.hid (show Bx3 w w5 #[.slice ph n kh, .slice pr n kr, .int .i64 nw, .int .i64 0, .int .i64 0, .slice (some ⟨O, 0, none⟩) ln oc] #[.slice (some ⟨b, o, none⟩) ln cap] #[.slice none 0 0, .slice none 0 0, .int .i64 0, .int .i64 0, .int .i64 0, .slice none 0 0] from HB.out.grown hg5 (fun g e => by cases e))
      have HR5 := Lib.hid (HH4.out.below hb5)
      have hbb5 : b < w5.heap.size := Nat.lt_of_lt_of_le hbb4 hb5.size
      obtain ⟨n0, n1, n2, n3, n4, n5⟩ := six (HB7.out.grown hg5 (fun e => by cases e))
      have l7 := (HB7.out.grown hg5 (fun e => by cases e)).lt
      clear hg5 hb5
      obtain ⟨y0, y1, y2, y3, y4, y5⟩ := six HB5.out.b3
      obtain ⟨z0, z1, z2, z3, z4, z5⟩ := six HB5.out.b6
      have x4 : w5.cell? ⟨w.heap.size + 1, 0, none⟩ = some (.slice (some ⟨b, o, none⟩) ln cap) := by rw [HB5.out.b4.cell]; rfl
      have l3 := HB5.out.b3.lt
      have l4 := HB5.out.b4.lt
      have l6 := HB5.out.b6.lt
      have q0 := HB5.out.b6.frozen 0
      have q1 := HB5.out.b6.frozen 1
      have q2 := HB5.out.b6.frozen 2
      have q3 := HB5.out.b6.frozen 3
      have q4 := HB5.out.b6.frozen 4
      have q5 := HB5.out.b6.frozen 5
      have f0 := HB5.out.b3.frozen 0
      have f1 := HB5.out.b3.frozen 1
      have f2 := HB5.out.b3.frozen 2
      have f3 := HB5.out.b3.frozen 3
      have f4 := HB5.out.b3.frozen 4
      have f5 := HB5.out.b3.frozen 5
      have cj := HNB.out j hjl w5 HR5.out.bel
      have d3 : (kindAt l j == 3) = false := by simp; exact h3
      have hjn : j < ln := by have := HLN.out; omega
      obtain ⟨g, hg1, hg2, hg3, hg4, hg5, hg6, hg7⟩ := row_at HR5.out.ofr (Nat.lt_of_le_of_lt (Nat.zero_le _) HKL.out)
      cases hg1
      obtain ⟨ok1, ok2⟩ := hg7 k (by rw [hg6]; exact HKL.out)
      obtain ⟨vk, hvk⟩ : ∃ vk, vk = of[k]'(by rw [hg6]; exact HKL.out) := ⟨_, rfl⟩
      rw [← hvk] at ok1
      clear hjl h3 HNB hg2 hg4 hg5 hg6 hg7 hvk
      obtain ⟨w7, hw7⟩ : ∃ w7, w7 = w5.setCell ⟨O, k, none⟩ (.int .i64 j) := ⟨_, rfl⟩
      have hO : O < w.heap.size := lO2
      have HB7' := Lib.hid (show Bx3 w w7 #[.slice ph n kh, .slice pr n kr, .int .i64 nw, .int .i64 0, .int .i64 0, .slice (some ⟨O, 0, none⟩) ln oc] #[.slice (some ⟨b, o, none⟩) ln cap] #[.slice none 0 0, .slice none 0 0, .int .i64 0, .int .i64 0, .int .i64 0, .slice none 0 0] by rw [hw7]; exact ⟨HB5.out.b3.far (p := ⟨O, k, none⟩) (show w.heap.size ≠ O by omega) _, HB5.out.b4.far (p := ⟨O, k, none⟩) (show w.heap.size + 1 ≠ O by omega) _, HB5.out.b6.far (p := ⟨O, k, none⟩) (show w.heap.size + 1 + 1 ≠ O by omega) _⟩)
      have HG7 := Lib.hid (show w.grownBy w7 (some O) by rw [hw7]; exact grown_row HG5.out _ _)
      have HR7 := Lib.hid (show Rf w0 w7 l (some ⟨b, o, none⟩) E (of.set k j) (.slice ph E.length kh) (.slice pr E.length kr) O oc by rw [hw7]; exact HR5.out.setOf k j)
      have HW7 := Lib.hid hw7
      clear hw7
      go_upto_region 24 with (fail)
      rw [← HW7.out]
      clear HW7 cj ok1 ok2 d3 hj0
      clear y0 y1 y2 y3 y4 y5 z0 z1 z2 z3 z4 z5 x4 l3 l4 l6 q0 q1 q2 q3 q4 q5 f0 f1 f2 f3 f4 f5
      obtain ⟨y0, y1, y2, y3, y4, y5⟩ := six HB7'.out.b3
      obtain ⟨z0, z1, z2, z3, z4, z5⟩ := six HB7'.out.b6
      have x4 : w7.cell? ⟨w.heap.size + 1, 0, none⟩ = some (.slice (some ⟨b, o, none⟩) ln cap) := by rw [HB7'.out.b4.cell]; rfl
      have l3 := HB7'.out.b3.lt
      have l4 := HB7'.out.b4.lt
      have l6 := HB7'.out.b6.lt
      have q0 := HB7'.out.b6.frozen 0
      have q1 := HB7'.out.b6.frozen 1
      have q2 := HB7'.out.b6.frozen 2
      have q3 := HB7'.out.b6.frozen 3
      have q4 := HB7'.out.b6.frozen 4
      have q5 := HB7'.out.b6.frozen 5
      have f0 := HB7'.out.b3.frozen 0
      have f1 := HB7'.out.b3.frozen 1
      have f2 := HB7'.out.b3.frozen 2
      have f3 := HB7'.out.b3.frozen 3
      have f4 := HB7'.out.b3.frozen 4
      have f5 := HB7'.out.b3.frozen 5
      go_wp2
      have hz := st6_blk HB7'.out.b6 (.slice ph n kh) (.slice pr n kr) (.int .i64 nw) (.int .i64 0) (.int .i64 0) (.slice (some ⟨O, 0, none⟩) ln oc)
      obtain ⟨v0, v1, v2, v3, v4, v5⟩ := six hz
      unfold st6 at v0 v1 v2 v3 v4 v5
      refine bodyPost_ret (v := .agg #[.slice ph n kh, .slice pr n kr, .int .i64 nw, .int .i64 0, .int .i64 0, .slice (some ⟨O, 0, none⟩) ln oc]) (by simp [results, Try.results26, go_sem, v0, v1, v2, v3, v4, v5]) rfl ?_
      rw [HQ.out]
      rw [HRB.out]
      refine ⟨ph, pr, kh, kr, by rw [HNW.out, HLN.out, HN.out], grown_st6 HG7.out (by omega) _ _ _ _ _ _, ?_⟩
      rw [ov_one]
      exact HR7.out.st6 HB7'.out.b6 (by decide) (by omega) _ _ _ _ _ _

end Go.Proofs.Ytmghjfphlneblaa.Sc
