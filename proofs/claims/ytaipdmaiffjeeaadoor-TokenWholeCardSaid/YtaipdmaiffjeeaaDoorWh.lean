/-
  The walk of the law TokenWhole: it returns true, and nothing that was there has turned.
-/
import Derived.Test.YtaipdmaiffjeeaaDoorBl
import Derived.Test.YtaipdmaiffjeeaaDoorTd
import Derived.BigQuiet
import Derived.Deep.QuietTactic
namespace Go.Proofs.YtaipdmaiffjeeaaDoor
open Go.RowKit

/-- a word by itself is the one word of its text -/
theorem own_scan {L : List UInt8} {k n v : Nat} (hw : skp L = .word) (hf : fstT L = .tok k n v) (h : n ≤ 2000) : ScR (L.take n) 0 0 [⟨k, L.take n, v, 0⟩] := by
  obtain ⟨h1, h2⟩ := fstT_tok hf
  have hw2 := word_app (r := []) (j := n) (Or.inl rfl) hw h1 h2
  have hf2 := fstT_app (r := []) (j := n) (Or.inl rfl) hf (Nat.le_refl _) h2
  rw [List.append_nil] at hw2 hf2
  have hlen : (L.take n).length = n := by rw [List.length_take]; omega
  refine Or.inr ⟨by omega, Or.inl ⟨?_, rfl, rfl⟩⟩
  refine .tok hw2 (by intro e; rw [e] at hlen; simp at hlen; omega) (by decide) hf2 ?_
  rw [List.drop_eq_nil_of_le (by omega), List.take_take, Nat.min_self]
  exact .done _ _
theorem fst_kind_word {c : UInt8} {l : List UInt8} {k n v : Nat} (h : fstT (c :: l) = .tok k n v) (hk : k = 1 ∨ k = 3) : digB c = false ∧ wordB c = true ∧ n = preN wordB (c :: l) := by
  have h0 := h
  simp only [fstT] at h
  split at h
  · have : k = 2 := by
      unfold numT at h
      split at h
      · split at h
        · cases h
        · unfold numD at h
          split at h
          · cases h
          · split at h
            · cases h; rfl
            · cases h
      · unfold numD at h
        split at h
        · cases h
        · split at h
          · cases h; rfl
          · cases h
    omega
  · rename_i hd
    split at h
    · rename_i hw
      refine ⟨by simpa using hd, hw, ?_⟩
      unfold wrdT at h
      have hlen : ((c :: l).take (preN wordB (c :: l))).length = preN wordB (c :: l) := by rw [List.length_take]; have := preN_le wordB (c :: l); omega
      split at h
      · cases h; exact hlen
      · split at h
        · cases h
        · cases h; exact hlen
    · split at h
      · rcases chrT_cases (c :: l) with e | ⟨_, w, e⟩ | ⟨_, w, e⟩ <;> rw [e] at h <;> cases h <;> omega
      · have := (sgnF_top h).2.1; omega
/-- a name or a keyword is the longest that could stand there -/
theorem longest {L : List UInt8} {k n v : Nat} (hf : fstT L = .tok k n v) (hk : k = 1 ∨ k = 3) (hn : n < L.length) {c a : Int} {x : List T4} (h : ScR (L.take (n + 1)) c a x) (hc : c = 0) : ∀ t, x = [t] → t.t.length ≤ n := by
  intro t hx
  subst hx
  rcases h.ways with ⟨h', _⟩ | ⟨_, _, _, hS⟩
  · exact absurd hc h'
  · cases L with
    | nil => cases hf
    | cons c0 l0 =>
      obtain ⟨hd, hw, hpn⟩ := fst_kind_word hf hk
      have hp2 : preN wordB ((c0 :: l0).take (n + 1)) = n := by
        have := preN_lt (p := wordB) (l := c0 :: l0) (X := []) (j := n + 1) (by omega) (by omega)
        rw [List.append_nil] at this
        omega
      have hcons : (c0 :: l0).take (n + 1) = c0 :: l0.take n := List.take_succ_cons
      rw [hcons] at hS hp2
      have hnw : ∀ q, fstT (c0 :: l0.take n) = q → ∀ k' n' v', q = .tok k' n' v' → n' = n := by
        intro q hq k' n' v' e
        rw [e] at hq
        simp only [fstT] at hq
        rw [if_neg (by simp [hd]), if_pos hw] at hq
        have hlen : ((c0 :: l0.take n).take (preN wordB (c0 :: l0.take n))).length = n := by rw [List.length_take, hp2, List.length_cons, List.length_take]; rw [List.length_cons] at hn; omega
        unfold wrdT at hq
        split at hq
        · cases hq; exact hlen
        · split at hq
          · cases hq
          · cases hq; exact hlen
      have hsw : skp (c0 :: l0.take n) = .word := by
        have hb : blankB c0 = false := by
          cases e : blankB c0 with
          | false => rfl
          | true => rw [(blank_no_word e).2.1] at hw; cases hw
        have hno : ∀ y : UInt8, Lib.hasPrefix (c0 :: l0.take n) [47, y] = false := fun y => by
          cases hq : Lib.hasPrefix (c0 :: l0.take n) [47, y] with
          | false => rfl
          | true =>
            have : c0 = 47 := by
              have : ((47 == c0) && (Lib.hasPrefix (l0.take n) [y])) = true := hq
              simp at this
              exact this.1.symm
            rw [this] at hw; exact absurd hw (by decide)
        exact skp_make hb (hno 47) (hno 42)
      obtain ⟨j, q, h1, h2, _, h3, h4, h5, _⟩ := hS.step [t] t [] rfl rfl
      cases hS with
      | skip hs => rw [hsw] at hs; cases hs
      | @tok _ _ _ _ k' n' v' _ hne hm hf2 k2 =>
        have e := hnw _ rfl k' n' v' hf2
        obtain ⟨m, hm2⟩ := k2.pre [t] rfl
        have : (⟨k', (c0 :: l0.take n).take n', v', 0⟩ : T4) = t := by
          have := congrArg List.head? hm2
          simpa using this.symm
        rw [← this, List.length_take]
        omega

theorem in_true {n a b : Int} (h1 : a ≤ n) (h2 : n ≤ b) (w : World) :
    Calls Tryd.prog 16 #[.int .i64 n, .int .i64 a, .int .i64 b] w fun e w' => e = .returned (.bool true) ∧ w' = w :=
  (in_any n a b w).mono fun e w' h => ⟨by rw [h.1, decide_eq_true ⟨h1, h2⟩], h.2.symm⟩
theorem below_drewN {B : Nat} {a w : World} (h : Below B a w) (n : Nat) : Below B a (w.drewN n) := ⟨h.os, h.tape, h.output, h.size, h.block⟩
theorem ext_bstr {s : ByteArray} {a n : Nat} : s.extract a (a + n) = bstr ((s.data.toList.drop a).take n) := by
  rw [Lib.extract_eq, Nat.add_sub_cancel_left]; rfl
set_option maxHeartbeats 8000000 in
set_option maxRecDepth 100000 in
theorem whole_walk (s : ByteArray) (w : World) (hs : s.size ≤ 140737488355328) (hsh : w.ShapedOpen Tryd.prog) (te : TypeId) (pe : Value) (hv : w.cell? ⟨2, 0, none⟩ = some (.iface te pe)) :
    Calls Tryd.prog 8 #[.string s] w fun e w' => e = .returned (.bool true) ∧ Below w.heap.size w w' := by
  have keep : ∀ w' : World, Below w.heap.size w w' → w'.ShapedOpen Tryd.prog ∧ w'.cell? ⟨2, 0, none⟩ = some (.iface te pe) := fun w' hb => ⟨sh_below hsh hb, (hb.cell (p := ⟨2, 0, none⟩) (Lib.lt_of_cell hv)).trans hv⟩
  have KE := Lib.hid keep
  have HZ1 := Lib.hid (Lib.size_eq s)
  clear keep
  go_enter Tryd.func8, Tryd.ntmps8
  go_wp2_with (go_at_call 14; refine (fact_any _ hsh te pe hv).mono ?_)
  rintro e w1 ⟨rfl, hb1⟩
  have sh1 := (KE.out _ hb1).1
  have hv1 := (KE.out _ hb1).2
  have HB1 := Lib.hid hb1
  clear hb1
  go_wp2_with (go_at_call 9; refine (scan_any s _ hs sh1 te pe hv1).mono ?_)
  intro e w2 hp
  obtain ⟨vA, cA, aA, l, rfl, hrA, hkA, hlA, hbA⟩ := sc_use2 hp
  clear hp sh1 hv1
  have hB2 := HB1.out.trans (hbA.mono HB1.out.size)
  have lw2 := hB2.size
  have hB2a : Below w.heap.size w (w2.alloc (.cells #[.int .i64 cA, .int .i64 aA] 24)) := hB2.alloc lw2 _
  have hkA2 := hkA.below (w' := w2.alloc (.cells #[.int .i64 cA, .int .i64 aA] 24)) ((Below.refl _ _).alloc (Nat.le_refl _) _)
  obtain ⟨pA, qA, rfl⟩ : ∃ p c, vA = .slice p l.length c := by obtain ⟨p, c, h, _⟩ := hkA.here; exact ⟨p, c, by rw [h, List.length_map]⟩
  have HKA := Lib.hid hkA2
  have HB2 := Lib.hid hB2a
  clear hkA hbA hB2 hB2a hkA2 HB1
  rcases hrA.ways with ⟨hc, rfl⟩ | ⟨rfl, rfl, hL, hS⟩
  · have n1 : (cA != 0) = true := by simpa using hc
    have n2 : (cA == 0) = false := beq_of_ne hc
    clear hrA hc HKA
    rw [List.length_nil]
    go_wp2
    go_ret
    exact ⟨rfl, HB2.out⟩
  · have hs2 : s.size ≤ 2000 := by have := HZ1.out; omega
    have HS := Lib.hid hS
    clear hrA hS hL
    obtain ⟨n, hn⟩ : ∃ n, n = l.length := ⟨_, rfl⟩
    rw [← hn] at hlA ⊢
    have Hn := Lib.hid hn
    clear hn
    go_wp2
    go_loopw [6, 7] (fun ve vi wr => ∃ i e : Nat, i ≤ n ∧ e ≤ s.size ∧ vi = .int .i64 i ∧ ve = .int .i64 e ∧ Below (w2.heap.size + 1) (w2.alloc (.cells #[.int .i64 0, .int .i64 0] 24)) wr ∧ Hid (Scans e (s.data.toList.drop e) (l.take i) (.ok l))) (fun _ vi _ => n - (intOf vi).toNat)
    case atStart => exact ⟨0, 0, Nat.zero_le _, Nat.zero_le _, rfl, rfl, Below.refl _ _, HS.out⟩
    case round =>
      obtain ⟨i, e, hi, he, rfl, rfl, hb, HE⟩ := hrel
      have lwr : w2.heap.size + 1 ≤ wr.heap.size := by simpa using hb.size
      have HB := Lib.hid hb
      clear hb
      by_cases hlt : i < n
      · have hl : i < l.length := by have := Hn.out; omega
        obtain ⟨j, q, h1, h2, _, h3, h4, h5, h6, _, h9, _⟩ := HE.out.step l l[i] (l.drop (i + 1)) rfl (by rw [List.getElem_cons_drop, List.take_append_drop])
        rw [List.drop_drop] at h3 h4 h5
        rw [List.drop_drop, ← Nat.add_assoc] at h9
        rw [List.length_drop, ← HZ1.out] at h1
        have hAq0 : e + j + q ≤ s.size := Nat.add_assoc e j q ▸ (by clear h9 h5 h6 h4 h3; omega)
        have ht : l.take i ++ [l[i]] = l.take (i + 1) := (List.take_succ_eq_append_getElem hl).symm
        rw [ht] at h9
        obtain ⟨p', cap', e', hc'⟩ := HKA.out.here
        have hkm : i < (l.map toI).length := by rw [List.length_map]; exact hl
        obtain ⟨q0, q1, q2, q3⟩ := rowI_get (l.map toI) i hkm
        rw [List.length_map] at e'
        cases e'
        obtain ⟨b, o, rfl, hbl, hcell⟩ := hc' (by omega)
        have hbl2 : b < w2.heap.size + 1 := by simpa using hbl
        rw [List.getElem_map] at q0 q1 q2 q3
        have c0 := (HB.out.cell (p := ⟨b, o + i * 4, none⟩) hbl2).trans (hcell _ _ q0)
        have c1 := (HB.out.cell (p := ⟨b, o + (i * 4 + 1), none⟩) hbl2).trans (hcell _ _ q1)
        have c2 := (HB.out.cell (p := ⟨b, o + (i * 4 + 2), none⟩) hbl2).trans (hcell _ _ q2)
        have c3 := (HB.out.cell (p := ⟨b, o + (i * 4 + 3), none⟩) hbl2).trans (hcell _ _ q3)
        rw [← Nat.add_assoc] at c1 c2 c3
        change wr.cell? _ = some (.int .i64 (l[i].k : Nat)) at c0
        change wr.cell? _ = some (.string (bstr l[i].t)) at c1
        change wr.cell? _ = some (.int .i64 (l[i].v : Nat)) at c2
        change wr.cell? _ = some (.int .i64 (l[i].a : Nat)) at c3
        obtain ⟨A, hA⟩ : ∃ A, A = e + j := ⟨_, rfl⟩
        rw [← hA] at h3 h4 h5 h6 h9
        rw [h6] at c3
        have hAq : A + q ≤ s.size := by rw [hA]; exact hAq0
        have heA : e ≤ A := by rw [hA]; exact Nat.le_add_right _ _
        have hlen0 : q ≤ s.data.toList.length - A := Nat.le_sub_of_add_le (by rw [Nat.add_comm, ← HZ1.out]; exact hAq)
        have hlenA : q < s.size - A → q < (s.data.toList.drop A).length := fun h => by rw [List.length_drop, ← HZ1.out]; exact h
        generalize l[i].k = kd at *
        generalize l[i].v = vv at *
        have hx : s.extract A (A + q) = bstr l[i].t := by rw [h5]; exact ext_bstr
        have hxs : (bstr l[i].t).size = q := by rw [bstr_size, h5, List.length_take, List.length_drop]; exact Nat.min_eq_left hlen0
        obtain ⟨x, hxd⟩ : ∃ x, x = bstr l[i].t := ⟨_, rfl⟩
        have hxl : x.data.toList = (s.data.toList.drop A).take q := by rw [hxd, ← h5]; rfl
        rw [← hxd] at c1 hx hxs
        have HX := Lib.hid hx
        have HXL := Lib.hid hxl
        have H3 := Lib.hid h3
        have H4 := Lib.hid h4
        have H9 := Lib.hid h9
        clear q0 q1 q2 q3 hcell hc' hkm h1 h3 h4 h5 h6 h9 ht hx hxl hxd hA HE
        have hIn := fun w => in_true (n := (A : Int)) (a := (e : Int)) (b := (s.size : Int) - (q : Int)) (by omega) (by omega) w
        have z1 : ((q : Int) == 0) = false := beq_of_ne (by omega)
        have hq0 : q ≠ 0 := by omega
        have z2 : ((s.extract A (A + q)).toList != x.toList) = false := by rw [HX.out]; simp
        have z3 : ((s.extract A (A + q)).toList == x.toList) = true := by rw [HX.out]; simp
        go_wp2
        obtain ⟨u1, u2, u3, u4, u5, u6⟩ : IntKind.i64.wrap ((s.size : Int) - (q : Int)) = (s.size : Int) - (q : Int) ∧ IntKind.i64.wrap ((A : Int) + (q : Int)) = ((A + q : Nat) : Int) ∧ A ≤ A + q ∧ A + q ≤ s.size ∧ (A : Int) ≤ ((A + q : Nat) : Int) ∧ ((A + q : Nat) : Int) ≤ (s.size : Int) :=
          ⟨by rw [IntKind.wrap_i64]; omega, by rw [IntKind.wrap_i64]; omega, by omega, by omega, by omega, by omega⟩
        go_quiet ((go_at_call 16; exact Calls.quiet_of_same (hIn _)))
        have hb3 : Below (w2.heap.size + 1) (w2.alloc (.cells #[.int .i64 0, .int .i64 0] 24)) ((wr.alloc (.cells #[.int .i64 kd, .string x, .int .i64 vv, .int .i64 A] 36)).drewN nq) := below_drewN (HB.out.alloc lwr _) nq
        have hbx : ((wr.alloc (.cells #[.int .i64 kd, .string x, .int .i64 vv, .int .i64 A] 36)).drewN nq).heap[wr.heap.size]? = some (.cells #[.int .i64 kd, .string x, .int .i64 vv, .int .i64 A] 36 (0, 0)) := heap_alloc_new wr _
        clear u1 u2 u3 u4 u5 u6 hIn z1 z2 z3 c0 c1 c2 c3
        revert hb3 hbx
        generalize (wr.alloc (.cells #[.int .i64 kd, .string x, .int .i64 vv, .int .i64 A] 36)).drewN nq = w3
        intro hb3 hbx
        have lw3 : w2.heap.size + 1 ≤ w3.heap.size := by simpa using hb3.size
        have hBw3 : Below w.heap.size w w3 := HB2.out.trans (hb3.mono (Nat.le_succ_of_le lw2))
        have sh3 := (KE.out _ hBw3).1
        have hv3 := (KE.out _ hBw3).2
        have r0 : w3.cell? ⟨wr.heap.size, 0, none⟩ = some (.int .i64 kd) := by simp [World.cell?, hbx]
        have r1 : w3.cell? ⟨wr.heap.size, 1, none⟩ = some (.string x) := by simp [World.cell?, hbx]
        have r2 : w3.cell? ⟨wr.heap.size, 3, none⟩ = some (.int .i64 A) := by simp [World.cell?, hbx]
        have lbx := lt_of_block hbx
        have HBX := Lib.hid hbx
        have HB3 := Lib.hid hb3
        have hOwn := own_scan H3.out H4.out (by omega)
        have HO := Lib.hid hOwn
        have hx47 : x.size ≤ 140737488355328 := by omega
        clear hbx hb3 hBw3 hOwn
        go_wp2_with (go_at_call 9; refine (scan_any x _ hx47 sh3 te pe hv3).mono ?_)
        intro e5 w5 hp
        rw [HXL.out] at hp
        obtain ⟨v5, c5, a5, l5, rfl, hr5, hk5, hl5, hb5⟩ := sc_use2 hp
        clear hp
        obtain ⟨rfl, rfl, rfl⟩ := ScR.det HO.out hr5
        obtain ⟨p5, cap5, rfl⟩ : ∃ p c, v5 = .slice p 1 c := by
          obtain ⟨p, c, h, _⟩ := hk5.here
          exact ⟨p, c, h⟩
        have hB5 := HB3.out.trans (hb5.mono lw3)
        have lw5 : w2.heap.size + 1 ≤ w5.heap.size := by simpa using hB5.size
        have hBX5 := (hb5.block wr.heap.size lbx).trans HBX.out
        have hx5 : Below w5.heap.size w5 (w5.alloc (.cells #[.int .i64 0, .int .i64 0] 24)) := (Below.refl _ _).alloc (Nat.le_refl _) _
        have s0 : w5.cell? ⟨wr.heap.size, 0, none⟩ = some (.int .i64 kd) := by simp [World.cell?, hBX5]
        have s1 : w5.cell? ⟨wr.heap.size, 1, none⟩ = some (.string x) := by simp [World.cell?, hBX5]
        have s2 : w5.cell? ⟨wr.heap.size, 3, none⟩ = some (.int .i64 A) := by simp [World.cell?, hBX5]
        have lb5 := lt_of_block hBX5
        have HB5 := Lib.hid (hB5.trans (hx5.mono lw5))
        have HBX5 := Lib.hid ((hx5.block wr.heap.size lb5).trans hBX5)
        clear hr5 hk5 hl5 hb5 hB5 hBX5 hx5 r0 r1 r2 HBX HB3 HO sh3 hv3
        have finish : ∀ wz : World, Below (w2.heap.size + 1) (w2.alloc (.cells #[.int .i64 0, .int .i64 0] 24)) wz → Below w.heap.size w wz := fun wz h => HB2.out.trans (h.mono (Nat.le_succ_of_le lw2))
        have FI := Lib.hid finish
        clear finish
        by_cases hend : A + q < s.size
        · by_cases hk : kd = 1 ∨ kd = 3
          · have hk13 : (((kd : Int) == 1) = true) ∨ (((kd : Int) == 1) = false ∧ ((kd : Int) == 3) = true) := by
              rcases hk with rfl | rfl
              · exact Or.inl rfl
              · exact Or.inr ⟨rfl, rfl⟩
            have hLg : Hid (∀ c a x', ScR ((s.data.toList.drop A).take (q + 1)) c a x' → c = 0 → ∀ t, x' = [t] → t.t.length ≤ q) := fun c a x' h hc => longest H4.out hk (hlenA (by omega)) h hc
            have sh5 := (KE.out _ (FI.out _ HB5.out)).1
            have hv5 := (KE.out _ (FI.out _ HB5.out)).2
            have hex : (s.extract A (A + q + 1)).data.toList = (s.data.toList.drop A).take (q + 1) := by rw [Lib.extract_data, show A + q + 1 - A = q + 1 by omega]
            have hexz : (s.extract A (A + q + 1)).size ≤ 140737488355328 := by rw [Lib.size_eq, hex, List.length_take]; omega
            have hScan := scan_any (s.extract A (A + q + 1)) _ hexz sh5 te pe hv5
            rw [hex] at hScan
            clear hk hex sh5 hv5
            rcases hk13 with k1 | ⟨k1, k3⟩
            all_goals
              go_wp2_with (go_at_call 9; refine hScan.mono ?_)
              intro e6 w6 hp
              obtain ⟨v6, c6, a6, l6, rfl, hr6, hk6, hl6, hb6⟩ := sc_use2 hp
              clear hp
              have hB6 := HB5.out.trans (hb6.mono (by simp; omega))
              have lw6 : w2.heap.size + 1 ≤ w6.heap.size := by simpa using hB6.size
              have hBX6 := (hb6.block wr.heap.size (lt_of_block HBX5.out)).trans HBX5.out
              have y1 : w6.cell? ⟨wr.heap.size, 1, none⟩ = some (.string x) := by simp [World.cell?, hBX6]
              have lb6 := lt_of_block hBX6
              have hshort := hLg.out _ _ _ hr6
              have hk6h := hk6.here
              obtain ⟨p6, cap6, e6', hc6⟩ := hk6h
              rw [List.length_map] at e6' hc6
              subst e6'
              have HB6 := Lib.hid (hB6.alloc lw6 (.cells #[.int .i64 c6, .int .i64 a6] 24))
              clear hr6 hk6 hb6 hB6 hBX6 hScan
              by_cases hc0 : c6 = 0
              · subst hc0
                by_cases hl1 : l6.length = 1
                · obtain ⟨t6, rfl⟩ : ∃ t, l6 = [t] := List.length_eq_one_iff.1 hl1
                  have hle := hshort rfl t6 rfl
                  obtain ⟨b6, o6, rfl, hb6l, hcell6⟩ := hc6 (by simp)
                  have y2 := hcell6 1 (.string (bstr t6.t)) rfl
                  have y3 : (bstr t6.t).size ≤ q := by rw [bstr_size]; exact hle
                  obtain ⟨X6, hX6⟩ : ∃ X6, X6 = bstr t6.t := ⟨_, rfl⟩
                  rw [← hX6] at y2 y3
                  clear hshort hle hcell6 hX6 hl1 hl6 hc6
                  rw [show ([t6] : List T4).length = 1 from rfl]
                  go_wp2
                  go_region
                  all_goals go_wp2
                  go_roundw
                  case rel => exact ⟨i + 1, A + q, by omega, by omega, by go_num, by go_num, HB6.out.drew, H9.out⟩
                  case measure => simp [intOf]; omega
                · have hn1 : ((l6.length : Int) == 1) = false := beq_of_ne (by omega)
                  clear hshort hc6 hl1
                  go_wp2
                  go_region
                  all_goals go_wp2
                  go_roundw
                  case rel => exact ⟨i + 1, A + q, by omega, by omega, by go_num, by go_num, HB6.out.drew, H9.out⟩
                  case measure => simp [intOf]; omega
              · have hn0 : (c6 == 0) = false := beq_of_ne hc0
                clear hshort hc6 hc0
                go_wp2
                go_region
                all_goals go_wp2
                go_roundw
                case rel => exact ⟨i + 1, A + q, by omega, by omega, by go_num, by go_num, HB6.out.drew, H9.out⟩
                case measure => simp [intOf]; omega
          · have k1 : ((kd : Int) == 1) = false := beq_of_ne (by omega)
            have k3 : ((kd : Int) == 3) = false := beq_of_ne (by omega)
            clear hk
            go_wp2
            go_roundw
            case rel => exact ⟨i + 1, A + q, by omega, by omega, by go_num, by go_num, HB5.out, H9.out⟩
            case measure => simp [intOf]; omega
        · go_wp2
          go_roundw
          case rel => exact ⟨i + 1, A + q, by omega, by omega, by go_num, by go_num, HB5.out, H9.out⟩
          case measure => simp [intOf]; omega
      · go_wp2
        go_ret
        exact ⟨rfl, HB2.out.trans (HB.out.mono (Nat.le_succ_of_le lw2))⟩
end Go.Proofs.YtaipdmaiffjeeaaDoor
