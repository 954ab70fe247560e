/-
  The contracts of the comparison of lists of nodes, and of Same.
-/
import Derived.Test.YtcaekpgnknlblaaU
namespace Go.Proofs.Ytcaekpgnknlblaa
open Go.RowKit

def sameL (l l' : List Nd) : Bool := decide (l.length = l'.length ∧ ∀ j, (h : j < l.length) → (h' : j < l'.length) → sameB l[j] l'[j] = true)
theorem sameL_len {l l' : List Nd} (h : l.length ≠ l'.length) : sameL l l' = false := decide_eq_false (fun e => h e.1)
theorem sameL_at {l l' : List Nd} {k : Nat} (h : k < l.length) (h' : k < l'.length) (hne : sameB l[k] l'[k] = false) : sameL l l' = false := decide_eq_false (fun e => by rw [e.2 k h h'] at hne; cases hne)
theorem sameL_all {l l' : List Nd} (h : l.length = l'.length) (ha : ∀ j, (h1 : j < l.length) → (h2 : j < l'.length) → sameB l[j] l'[j] = true) : sameL l l' = true := decide_eq_true ⟨h, ha⟩

set_option maxHeartbeats 4000000 in
set_option maxRecDepth 100000 in
theorem eqfunc_any (l l' : List Nd) (p p' : Option Addr) (cap cap' : Nat) (w : World) (hT : Tr w p l) (hT' : Tr w p' l') (hf : Fit l cap) (hf' : Fit l' cap') :
    Calls Try.prog 26 #[.slice p l.length cap, .slice p' l'.length cap', .func (.func 27) #[] #[]] w fun e w' => e = .returned (.bool (sameL l l')) ∧ Below w.heap.size w w' := by
  have HT := Lib.hid hT
  have HT' := Lib.hid hT'
  have HF := Lib.hid hf
  have HF' := Lib.hid hf'
  have hn47 := hf.2.1
  have hn47' := hf'.2.1
  clear hT hT' hf hf'
  obtain ⟨r, hr⟩ : ∃ r, r = sameL l l' := ⟨_, rfl⟩
  rw [← hr]
  have HR := Lib.hid hr
  clear hr
  obtain ⟨n, hn⟩ : ∃ n, n = l.length := ⟨_, rfl⟩
  obtain ⟨n', hn'⟩ : ∃ n, n = l'.length := ⟨_, rfl⟩
  rw [← hn] at hn47 ⊢
  rw [← hn'] at hn47' ⊢
  have Hn := Lib.hid hn
  have Hn' := Lib.hid hn'
  clear hn hn'
  by_cases hl : n = n'
  · subst hl
    go_enter Try.func26, Try.ntmps26
    go_wp2
    go_loopw [17] (fun v wr => ∃ k : Nat, k ≤ n ∧ v = .int .i64 k ∧ Hid (∀ j, (h1 : j < l.length) → (h2 : j < l'.length) → j < k → sameB l[j] l'[j] = true) ∧ Below w.heap.size w wr) (fun v _ => n - (intOf v).toNat)
    case atStart => exact ⟨0, Nat.zero_le _, rfl, fun j _ _ h => by omega, Below.refl _ _⟩
    case round =>
      obtain ⟨k, hk, rfl, HE, hb⟩ := hrel
      have HB := Lib.hid hb
      clear hb
      by_cases hlt : k < n
      · have h1 : k < l.length := by have := Hn.out; omega
        have h2 : k < l'.length := by have := Hn'.out; omega
        obtain ⟨b, o, rfl, hbl, hc⟩ := HT.out.1 (by omega)
        obtain ⟨b', o', rfl, hbl', hc'⟩ := HT'.out.1 (by omega)
        obtain ⟨x0, x1, x2, x3, x4, x5⟩ := (hc k h1).below HB.out hbl
        have lb' : b' < wr.heap.size := Nat.lt_of_lt_of_le hbl' HB.out.size
        have hBa : Below w.heap.size w (wr.alloc (.cells #[.int .i64 l[k].k, .string l[k].t, .int .i64 l[k].n, .int .i64 l[k].z, .slice l[k].p l[k].c.length l[k].cap, .int .i64 l[k].a] 42)) := HB.out.alloc HB.out.size _
        obtain ⟨y0, y1, y2, y3, y4, y5⟩ := (hc' k h2).below hBa hbl'
        have hBb : Below w.heap.size w ((wr.alloc (.cells #[.int .i64 l[k].k, .string l[k].t, .int .i64 l[k].n, .int .i64 l[k].z, .slice l[k].p l[k].c.length l[k].cap, .int .i64 l[k].a] 42)).alloc (.cells #[.int .i64 l'[k].k, .string l'[k].t, .int .i64 l'[k].n, .int .i64 l'[k].z, .slice l'[k].p l'[k].c.length l'[k].cap, .int .i64 l'[k].a] 42)) := hBa.alloc hBa.size _
        have hS := same_any l[k] l'[k] _ ((HT.out.2 k h1).below hBb) ((HT'.out.2 k h2).below hBb) (HF.out.2.2 k h1) (HF'.out.2.2 k h2)
        have hF : sameB l[k] l'[k] = false → Hid (r = false) := fun h => HR.out.trans (sameL_at h1 h2 h)
        have hN : sameB l[k] l'[k] = true → Hid (∀ j, (h1 : j < l.length) → (h2 : j < l'.length) → j < k + 1 → sameB l[j] l'[j] = true) := fun h j g1 g2 hj => by
          by_cases e : j = k
          · subst e; exact h
          · exact HE.out j g1 g2 (by omega)
        have HBb := Lib.hid hBb
        clear hc hc' hBa hBb
        generalize l[k] = x at *
        generalize l'[k] = y at *
        obtain ⟨xk, xt, xn, xz, xp, xcap, xc, xa⟩ := x
        obtain ⟨yk, yt, yn, yz, yp, ycap, yc, ya⟩ := y
        simp only at x0 x1 x2 x3 x4 x5 y0 y1 y2 y3 y4 y5 hS HBb
        cases hs : sameB ⟨xk, xt, xn, xz, xp, xcap, xc, xa⟩ ⟨yk, yt, yn, yz, yp, ycap, yc, ya⟩ with
        | true =>
          have HN := hN hs
          rw [hs] at hS
          clear hF hN hs
          go_wp2_with (go_at_call 27; refine hS.mono ?_)
          first | rintro e w3 rfl hb3 | rintro e w3 ⟨rfl, hb3⟩
          have HB3 := Lib.hid (HBb.out.trans (hb3.mono HBb.out.size))
          clear hb3 hS
          go_wp2
          go_roundw
          case rel => exact ⟨k + 1, by omega, by go_num, HN, HB3.out⟩
          case measure => simp [intOf]; try omega
        | false =>
          have HF0 := hF hs
          rw [hs] at hS
          clear hF hN hs
          go_wp2_with (go_at_call 27; refine hS.mono ?_)
          first | rintro e w3 rfl hb3 | rintro e w3 ⟨rfl, hb3⟩
          have HB3 := Lib.hid (HBb.out.trans (hb3.mono HBb.out.size))
          clear hb3 hS
          go_wp2
          go_ret
          exact ⟨by rw [HF0.out]; rfl, HB3.out⟩
      · have HT0 : Hid (r = true) := HR.out.trans (sameL_all (by rw [← Hn.out, ← Hn'.out]) fun j g1 g2 => HE.out j g1 g2 (by have := Hn.out; omega))
        go_wp2
        go_ret
        exact ⟨by rw [HT0.out]; rfl, HB.out⟩
  · have HF0 : Hid (r = false) := HR.out.trans (sameL_len (by rw [← Hn.out, ← Hn'.out]; exact hl))
    have q1 : ((n : Int) != (n' : Int)) = true := by rw [bne_iff_ne]; omega
    have q2 : ((n : Int) == (n' : Int)) = false := by rw [beq_eq_false_iff_ne]; omega
    go_enter Try.func26, Try.ntmps26
    go_wp2
    go_ret
    exact ⟨by rw [HF0.out]; rfl, Below.refl _ _⟩
end Go.Proofs.Ytcaekpgnknlblaa
