/-
  The contract of the document's comparison of lists of numbers.
-/
import Derived.Test.YtmghjfphlneblaaTrM
namespace Go.Proofs.Ytmghjfphlneblaa.Tr
open Go.RowKit

theorem list_ne {c c' : List Int} {k : Nat} (h : k < c.length) (h' : k < c'.length) (hne : c[k] ≠ c'[k]) : decide (c = c') = false := decide_eq_false (fun e => by subst e; exact hne rfl)
theorem list_len {c c' : List Int} (h : c.length ≠ c'.length) : decide (c = c') = false := decide_eq_false (fun e => h (by rw [e]))
theorem list_all {c c' : List Int} (h : c.length = c'.length) (ha : ∀ j, (h1 : j < c.length) → (h2 : j < c'.length) → c[j] = c'[j]) : decide (c = c') = true := decide_eq_true (List.ext_getElem h ha)

set_option maxHeartbeats 4000000 in
set_option maxRecDepth 100000 in
theorem rints_any (c c' : List Int) (p p' : Option Addr) (cap cap' : Nat) (w : World) (hK : KidsAt w p c) (hK' : KidsAt w p' c') (hm : c.length ≤ 1000000000000000000) (hm' : c'.length ≤ 1000000000000000000) :
    Calls Try.prog 6 #[.slice p c.length cap, .slice p' c'.length cap'] w fun e w' => e = .returned (.bool (decide (c = c'))) ∧ Below w.heap.size w w' := by
  have HK := Lib.hid hK
  have HK' := Lib.hid hK'
  clear hK hK'
  obtain ⟨r, hr⟩ : ∃ r, r = decide (c = c') := ⟨_, rfl⟩
  rw [← hr]
  have HR := Lib.hid hr
  clear hr
  obtain ⟨n, hn⟩ : ∃ n, n = c.length := ⟨_, rfl⟩
  obtain ⟨n', hn'⟩ : ∃ n, n = c'.length := ⟨_, rfl⟩
  rw [← hn] at hm ⊢
  rw [← hn'] at hm' ⊢
  have Hn := Lib.hid hn
  have Hn' := Lib.hid hn'
  clear hn hn'
  by_cases hl : n = n'
  · subst hl
    go_enter Try.func6, Try.ntmps6
    go_wp2
    go_loopw [5] (fun v wr => ∃ k : Nat, k ≤ n ∧ v = .int .i64 k ∧ Hid (∀ j, (h1 : j < c.length) → (h2 : j < c'.length) → j < k → c[j] = c'[j]) ∧ Below w.heap.size w wr) (fun v _ => n - (intOf v).toNat)
    case atStart => exact ⟨0, Nat.zero_le _, rfl, fun j _ _ h => by omega, Below.refl _ _⟩
    case round =>
      obtain ⟨k, hk, rfl, HE, hb⟩ := hrel
      have HB := Lib.hid hb
      clear hb
      by_cases hlt : k < n
      · have h1 : k < c.length := by have := Hn.out; omega
        have h2 : k < c'.length := by have := Hn'.out; omega
        obtain ⟨b, o, rfl, hbl, hc⟩ := HK.out (by omega)
        obtain ⟨b', o', rfl, hbl', hc'⟩ := HK'.out (by omega)
        have e0 := (HB.out.cell (p := ⟨b, o + k, none⟩) hbl).trans (hc k h1)
        have e1 := (HB.out.cell (p := ⟨b', o' + k, none⟩) hbl').trans (hc' k h2)
        have hki : (k : Int) < (n : Int) := by omega
        have hF : c[k] ≠ c'[k] → Hid (r = false) := fun h => HR.out.trans (list_ne h1 h2 h)
        have hN : c[k] = c'[k] → Hid (∀ j, (h1 : j < c.length) → (h2 : j < c'.length) → j < k + 1 → c[j] = c'[j]) := fun h j g1 g2 hj => by
          by_cases e : j = k
          · subst e; exact h
          · exact HE.out j g1 g2 (by omega)
        clear hc hc'
        generalize c[k] = x at *
        generalize c'[k] = y at *
        by_cases hxy : x = y
        · have HN := hN hxy
          subst hxy
          clear hF hN
          have q1 : (x != x) = false := by simp
          have q2 : (x == x) = true := by simp
          go_wp2
          go_quiet (fail)
          go_wp2
          go_roundw
          case rel => exact ⟨k + 1, by omega, by go_num, HN, below_drewN HB.out _⟩
          case measure => simp [intOf]; try omega
        · have HF := hF hxy
          have q1 : (x != y) = true := by simpa using hxy
          have q2 : (x == y) = false := by simpa using hxy
          clear hF hN hxy
          go_wp2
          go_quiet (fail)
          go_wp2
          go_ret
          exact ⟨by rw [HF.out]; rfl, below_drewN HB.out _⟩
      · have HT : Hid (r = true) := HR.out.trans (list_all (by rw [← Hn.out, ← Hn'.out]) fun j g1 g2 => HE.out j g1 g2 (by have := Hn.out; omega))
        go_wp2
        go_ret
        exact ⟨by rw [HT.out]; rfl, HB.out⟩
  · have HF : Hid (r = false) := HR.out.trans (list_len (by rw [← Hn.out, ← Hn'.out]; exact hl))
    have q1 : ((n : Int) != (n' : Int)) = true := by rw [bne_iff_ne]; omega
    have q2 : ((n : Int) == (n' : Int)) = false := by rw [beq_eq_false_iff_ne]; omega
    go_enter Try.func6, Try.ntmps6
    go_wp2
    go_ret
    exact ⟨by rw [HF.out]; rfl, Below.refl _ _⟩
end Go.Proofs.Ytmghjfphlneblaa.Tr
