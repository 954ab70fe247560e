/-
  The contracts of comparisons: of lists of numbers, of nodes.
-/
import Derived.Test.YtcaekpgnknlblaaM
namespace Go.Proofs.Ytcaekpgnknlblaa
open Go.RowKit

theorem list_ne {c c' : List Int} {k : Nat} (h : k < c.length) (h' : k < c'.length) (hne : c[k] ≠ c'[k]) : decide (c = c') = false := decide_eq_false (fun e => by subst e; exact hne rfl)
theorem list_len {c c' : List Int} (h : c.length ≠ c'.length) : decide (c = c') = false := decide_eq_false (fun e => h (by rw [e]))
theorem list_all {c c' : List Int} (h : c.length = c'.length) (ha : ∀ j, (h1 : j < c.length) → (h2 : j < c'.length) → c[j] = c'[j]) : decide (c = c') = true := decide_eq_true (List.ext_getElem h ha)

set_option maxHeartbeats 4000000 in
set_option maxRecDepth 100000 in
theorem eqints_any (c c' : List Int) (p p' : Option Addr) (cap cap' : Nat) (w : World) (hK : KidsAt w p c) (hK' : KidsAt w p' c') (hm : c.length ≤ 1000000000000000000) (hm' : c'.length ≤ 1000000000000000000) :
    Calls Try.prog 40 #[.slice p c.length cap, .slice p' c'.length cap'] w fun e w' => e = .returned (.bool (decide (c = c'))) ∧ Below w.heap.size w w' := by
  have HK := Lib.hid hK
  have HK' := Lib.hid hK'
  clear hK hK'
  obtain ⟨r, hr⟩ : ∃ r, r = decide (c = c') := ⟨_, rfl⟩
  rw [← hr]
  have HR := Lib.hid hr
  clear hr
  obtain ⟨n, hn⟩ : ∃ n, n = c.length := ⟨_, rfl⟩
  obtain ⟨n', hn'⟩ : ∃ n, n = c'.length := ⟨_, rfl⟩
  rw [← hn] at hm ⊢
  rw [← hn'] at hm' ⊢
  have Hn := Lib.hid hn
  have Hn' := Lib.hid hn'
  clear hn hn'
  by_cases hl : n = n'
  · subst hl
    go_enter Try.func40, Try.ntmps40
    go_wp2
    go_loopw [13] (fun v wr => ∃ k : Nat, k ≤ n ∧ v = .int .i64 k ∧ Hid (∀ j, (h1 : j < c.length) → (h2 : j < c'.length) → j < k → c[j] = c'[j]) ∧ Below w.heap.size w wr) (fun v _ => n - (intOf v).toNat)
    case atStart => exact ⟨0, Nat.zero_le _, rfl, fun j _ _ h => by omega, Below.refl _ _⟩
    case round =>
      obtain ⟨k, hk, rfl, HE, hb⟩ := hrel
      have HB := Lib.hid hb
      clear hb
      by_cases hlt : k < n
      · have h1 : k < c.length := by have := Hn.out; omega
        have h2 : k < c'.length := by have := Hn'.out; omega
        obtain ⟨b, o, rfl, hbl, hc⟩ := HK.out (by omega)
        obtain ⟨b', o', rfl, hbl', hc'⟩ := HK'.out (by omega)
        have e0 := (HB.out.cell (p := ⟨b, o + k, none⟩) hbl).trans (hc k h1)
        have e1 := (HB.out.cell (p := ⟨b', o' + k, none⟩) hbl').trans (hc' k h2)
        have hki : (k : Int) < (n : Int) := by omega
        have hF : c[k] ≠ c'[k] → Hid (r = false) := fun h => HR.out.trans (list_ne h1 h2 h)
        have hN : c[k] = c'[k] → Hid (∀ j, (h1 : j < c.length) → (h2 : j < c'.length) → j < k + 1 → c[j] = c'[j]) := fun h j g1 g2 hj => by
          by_cases e : j = k
          · subst e; exact h
          · exact HE.out j g1 g2 (by omega)
        clear hc hc'
        generalize c[k] = x at *
        generalize c'[k] = y at *
        by_cases hxy : x = y
        · have HN := hN hxy
          subst hxy
          clear hF hN
          have q1 : (x != x) = false := by simp
          have q2 : (x == x) = true := by simp
          go_wp2
          go_quiet (fail)
          go_wp2
          go_roundw
          case rel => exact ⟨k + 1, by omega, by go_num, HN, below_drewN HB.out _⟩
          case measure => simp [intOf]; try omega
        · have HF := hF hxy
          have q1 : (x != y) = true := by simpa using hxy
          have q2 : (x == y) = false := by simpa using hxy
          clear hF hN hxy
          go_wp2
          go_quiet (fail)
          go_wp2
          go_ret
          exact ⟨by rw [HF.out]; rfl, below_drewN HB.out _⟩
      · have HT : Hid (r = true) := HR.out.trans (list_all (by rw [← Hn.out, ← Hn'.out]) fun j g1 g2 => HE.out j g1 g2 (by have := Hn.out; omega))
        go_wp2
        go_ret
        exact ⟨by rw [HT.out]; rfl, HB.out⟩
  · have HF : Hid (r = false) := HR.out.trans (list_len (by rw [← Hn.out, ← Hn'.out]; exact hl))
    have q1 : ((n : Int) != (n' : Int)) = true := by rw [bne_iff_ne]; omega
    have q2 : ((n : Int) == (n' : Int)) = false := by rw [beq_eq_false_iff_ne]; omega
    go_enter Try.func40, Try.ntmps40
    go_wp2
    go_ret
    exact ⟨by rw [HF.out]; rfl, Below.refl _ _⟩

set_option maxHeartbeats 4000000 in
set_option maxRecDepth 100000 in
theorem rints_any (c c' : List Int) (p p' : Option Addr) (cap cap' : Nat) (w : World) (hK : KidsAt w p c) (hK' : KidsAt w p' c') (hm : c.length ≤ 1000000000000000000) (hm' : c'.length ≤ 1000000000000000000) :
    Calls Try.prog 39 #[.slice p c.length cap, .slice p' c'.length cap'] w fun e w' => e = .returned (.bool (decide (c = c'))) ∧ Below w.heap.size w w' := by
  have HK := Lib.hid hK
  have HK' := Lib.hid hK'
  clear hK hK'
  obtain ⟨r, hr⟩ : ∃ r, r = decide (c = c') := ⟨_, rfl⟩
  rw [← hr]
  have HR := Lib.hid hr
  clear hr
  obtain ⟨n, hn⟩ : ∃ n, n = c.length := ⟨_, rfl⟩
  obtain ⟨n', hn'⟩ : ∃ n, n = c'.length := ⟨_, rfl⟩
  rw [← hn] at hm ⊢
  rw [← hn'] at hm' ⊢
  have Hn := Lib.hid hn
  have Hn' := Lib.hid hn'
  clear hn hn'
  by_cases hl : n = n'
  · subst hl
    go_enter Try.func39, Try.ntmps39
    go_wp2
    go_loopw [5] (fun v wr => ∃ k : Nat, k ≤ n ∧ v = .int .i64 k ∧ Hid (∀ j, (h1 : j < c.length) → (h2 : j < c'.length) → j < k → c[j] = c'[j]) ∧ Below w.heap.size w wr) (fun v _ => n - (intOf v).toNat)
    case atStart => exact ⟨0, Nat.zero_le _, rfl, fun j _ _ h => by omega, Below.refl _ _⟩
    case round =>
      obtain ⟨k, hk, rfl, HE, hb⟩ := hrel
      have HB := Lib.hid hb
      clear hb
      by_cases hlt : k < n
      · have h1 : k < c.length := by have := Hn.out; omega
        have h2 : k < c'.length := by have := Hn'.out; omega
        obtain ⟨b, o, rfl, hbl, hc⟩ := HK.out (by omega)
        obtain ⟨b', o', rfl, hbl', hc'⟩ := HK'.out (by omega)
        have e0 := (HB.out.cell (p := ⟨b, o + k, none⟩) hbl).trans (hc k h1)
        have e1 := (HB.out.cell (p := ⟨b', o' + k, none⟩) hbl').trans (hc' k h2)
        have hki : (k : Int) < (n : Int) := by omega
        have hF : c[k] ≠ c'[k] → Hid (r = false) := fun h => HR.out.trans (list_ne h1 h2 h)
        have hN : c[k] = c'[k] → Hid (∀ j, (h1 : j < c.length) → (h2 : j < c'.length) → j < k + 1 → c[j] = c'[j]) := fun h j g1 g2 hj => by
          by_cases e : j = k
          · subst e; exact h
          · exact HE.out j g1 g2 (by omega)
        clear hc hc'
        generalize c[k] = x at *
        generalize c'[k] = y at *
        by_cases hxy : x = y
        · have HN := hN hxy
          subst hxy
          clear hF hN
          have q1 : (x != x) = false := by simp
          have q2 : (x == x) = true := by simp
          go_wp2
          go_quiet (fail)
          go_wp2
          go_roundw
          case rel => exact ⟨k + 1, by omega, by go_num, HN, below_drewN HB.out _⟩
          case measure => simp [intOf]; try omega
        · have HF := hF hxy
          have q1 : (x != y) = true := by simpa using hxy
          have q2 : (x == y) = false := by simpa using hxy
          clear hF hN hxy
          go_wp2
          go_quiet (fail)
          go_wp2
          go_ret
          exact ⟨by rw [HF.out]; rfl, below_drewN HB.out _⟩
      · have HT : Hid (r = true) := HR.out.trans (list_all (by rw [← Hn.out, ← Hn'.out]) fun j g1 g2 => HE.out j g1 g2 (by have := Hn.out; omega))
        go_wp2
        go_ret
        exact ⟨by rw [HT.out]; rfl, HB.out⟩
  · have HF : Hid (r = false) := HR.out.trans (list_len (by rw [← Hn.out, ← Hn'.out]; exact hl))
    have q1 : ((n : Int) != (n' : Int)) = true := by rw [bne_iff_ne]; omega
    have q2 : ((n : Int) == (n' : Int)) = false := by rw [beq_eq_false_iff_ne]; omega
    go_enter Try.func39, Try.ntmps39
    go_wp2
    go_ret
    exact ⟨by rw [HF.out]; rfl, Below.refl _ _⟩


def sameV (k k' : Int) (t t' : ByteArray) (n n' z z' : Int) (c c' : List Int) : Bool := decide (k = k' ∧ t.toList = t'.toList ∧ n = n' ∧ z = z' ∧ c = c')
def sameB (x y : Nd) : Bool := sameV x.k y.k x.t y.t x.n y.n x.z y.z x.c y.c

set_option maxHeartbeats 4000000 in
set_option maxRecDepth 100000 in
theorem same_any (x y : Nd) (w : World) (hK : KidsAt w x.p x.c) (hK' : KidsAt w y.p y.c) (hm : x.c.length ≤ 1000000000000000000) (hm' : y.c.length ≤ 1000000000000000000) :
    Calls Try.prog 27 #[.agg #[.int .i64 x.k, .string x.t, .int .i64 x.n, .int .i64 x.z, .slice x.p x.c.length x.cap, .int .i64 x.a], .agg #[.int .i64 y.k, .string y.t, .int .i64 y.n, .int .i64 y.z, .slice y.p y.c.length y.cap, .int .i64 y.a]] w
      fun e w' => e = .returned (.bool (sameB x y)) ∧ Below w.heap.size w w' := by
  obtain ⟨k, t, n, z, p, cap, c, a⟩ := x
  obtain ⟨k', t', n', z', p', cap', c', a'⟩ := y
  simp only at hK hK' hm hm' ⊢
  have hW : Below w.heap.size w ((w.alloc (.cells #[.int .i64 k, .string t, .int .i64 n, .int .i64 z, .slice p c.length cap, .int .i64 a] 42)).alloc (.cells #[.int .i64 k', .string t', .int .i64 n', .int .i64 z', .slice p' c'.length cap', .int .i64 a'] 42)) := ((Below.refl _ _).alloc (Nat.le_refl _) _).alloc (by simp) _
  have hE := eqints_any c c' p p' cap cap' _ (hK.below hW) (hK'.below hW) hm hm'
  have HW := Lib.hid hW
  obtain ⟨r, hr⟩ : ∃ r, r = sameV k k' t t' n n' z z' c c' := ⟨_, rfl⟩
  show Calls _ _ _ _ fun e w' => e = .returned (.bool (sameV k k' t t' n n' z z' c c')) ∧ Below w.heap.size w w'
  rw [← hr]
  unfold sameV at hr
  clear hW hK hK' hm hm'
  by_cases q1 : k = k'
  · by_cases q2 : t.toList = t'.toList
    · by_cases q3 : n = n'
      · by_cases q4 : z = z'
        · have HR : Hid (r = decide (c = c')) := by show _ = _; rw [hr]; simp [q1, q2, q3, q4]
          have b1 : (k == k') = true := by simpa using q1
          have b2 : (t.toList == t'.toList) = true := by simpa using q2
          have b3 : (n == n') = true := by simpa using q3
          have b4 : (z == z') = true := by simpa using q4
          clear hr q1 q2 q3 q4
          generalize decide (c = c') = d at *
          go_enter Try.func27, Try.ntmps27
          go_wp2_with (go_at_call 40; refine hE.mono ?_)
          first | rintro e w3 rfl hb3 | rintro e w3 ⟨rfl, hb3⟩
          have HB3 := Lib.hid (HW.out.trans (hb3.mono (by simp; omega)))
          clear hb3 hE
          go_wp2
          go_ret
          exact ⟨by rw [HR.out]; rfl, HB3.out⟩
        · have HR : Hid (r = false) := by show _ = _; rw [hr]; simp [q4]
          have b1 : (k == k') = true := by simpa using q1
          have b2 : (t.toList == t'.toList) = true := by simpa using q2
          have b3 : (n == n') = true := by simpa using q3
          have b4 : (z == z') = false := by simpa using q4
          clear hr q1 q2 q3 q4 hE
          go_enter Try.func27, Try.ntmps27
          go_wp2
          go_ret
          exact ⟨by rw [HR.out]; rfl, HW.out⟩
      · have HR : Hid (r = false) := by show _ = _; rw [hr]; simp [q3]
        have b1 : (k == k') = true := by simpa using q1
        have b2 : (t.toList == t'.toList) = true := by simpa using q2
        have b3 : (n == n') = false := by simpa using q3
        clear hr q1 q2 q3 hE
        go_enter Try.func27, Try.ntmps27
        go_wp2
        go_ret
        exact ⟨by rw [HR.out]; rfl, HW.out⟩
    · have HR : Hid (r = false) := by show _ = _; rw [hr]; simp [q2]
      have b1 : (k == k') = true := by simpa using q1
      have b2 : (t.toList == t'.toList) = false := by simpa using q2
      clear hr q1 q2 hE
      go_enter Try.func27, Try.ntmps27
      go_wp2
      go_ret
      exact ⟨by rw [HR.out]; rfl, HW.out⟩
  · have HR : Hid (r = false) := by show _ = _; rw [hr]; simp [q1]
    have b1 : (k == k') = false := by simpa using q1
    clear hr q1 hE
    go_enter Try.func27, Try.ntmps27
    go_wp2
    go_ret
    exact ⟨by rw [HR.out]; rfl, HW.out⟩

/-- two nodes that are told to be the same by the document's comparison -/
def Like (x y : Nd) : Prop := x.k = y.k ∧ x.t = y.t ∧ x.n = y.n ∧ x.z = y.z ∧ x.c = y.c ∧ x.a = y.a
set_option maxHeartbeats 4000000 in
set_option maxRecDepth 100000 in
theorem nodes_eq (x y : Nd) (w : World) (hL : Like x y) (hK : KidsAt w x.p x.c) (hK' : KidsAt w y.p y.c) (hm : x.c.length ≤ 1000000000000000000) :
    Calls Try.prog 25 #[.agg #[.int .i64 x.k, .string x.t, .int .i64 x.n, .int .i64 x.z, .slice x.p x.c.length x.cap, .int .i64 x.a], .agg #[.int .i64 y.k, .string y.t, .int .i64 y.n, .int .i64 y.z, .slice y.p y.c.length y.cap, .int .i64 y.a]] w
      fun e w' => e = .returned (.bool true) ∧ Below w.heap.size w w' := by
  obtain ⟨k, t, n, z, p, cap, c, a⟩ := x
  obtain ⟨k', t', n', z', p', cap', c', a'⟩ := y
  obtain ⟨l1, l2, l3, l4, l5, l6⟩ := hL
  simp only at l1 l2 l3 l4 l5 l6 hK hK' hm ⊢
  subst l1; subst l2; subst l3; subst l4; subst l5; subst l6
  have hW : Below w.heap.size w ((w.alloc (.cells #[.int .i64 k, .string t, .int .i64 n, .int .i64 z, .slice p c.length cap, .int .i64 a] 42)).alloc (.cells #[.int .i64 k, .string t, .int .i64 n, .int .i64 z, .slice p' c.length cap', .int .i64 a] 42)) := ((Below.refl _ _).alloc (Nat.le_refl _) _).alloc (by simp) _
  have hE := rints_any c c p p' cap cap' _ (hK.below hW) (hK'.below hW) hm hm
  rw [show decide (c = c) = true from decide_eq_true rfl] at hE
  have HW := Lib.hid hW
  clear hW hK hK' hm
  have b1 : (k == k) = true := by simp
  have b2 : (t.toList == t.toList) = true := by simp
  go_enter Try.func25, Try.ntmps25
  go_wp2_with (go_at_call 39; refine hE.mono ?_)
  first | rintro e w3 rfl hb3 | rintro e w3 ⟨rfl, hb3⟩
  have HB3 := Lib.hid (HW.out.trans (hb3.mono (by simp; omega)))
  clear hb3 hE
  go_wp2
  go_ret
  exact ⟨rfl, HB3.out⟩
end Go.Proofs.Ytcaekpgnknlblaa
