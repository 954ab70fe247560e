/-
  Contracts of name and call: a name's and a call's own step.
-/
import Derived.Test.YtmghjfphlneblaaSe
namespace Go.Proofs.Ytmghjfphlneblaa.Sc
open Go.RowKit
open Tr

section
variable {w0 w w2 : World} {l : List Nd} {p : Option Addr} {cap R F : Nat} {ch : Ch} {E : Env} {fs : List Int}
theorem roomF_mem {r : Nat} {s : List UInt8} {j : Nat} (h : roomF l E r s = some j) : ∃ x ∈ E, x.1 = j ∧ x.2 = r ∧ tx l j = s := by
  unfold roomF at h
  cases h2 : E.find? fun p => p.2 == r && tx l p.1 == s with
  | none => rw [h2] at h; cases h
  | some x =>
    rw [h2] at h
    have h3 := List.find?_some h2
    have h4 := List.mem_of_find?_eq_some h2
    simp at h3 h
    exact ⟨x, h4, h, h3.1, by rw [← h]; exact h3.2⟩
theorem findF_mem {s : List UInt8} {j : Nat} : ∀ {n : Nat}, findF l E s n = some j → ∃ x ∈ E, x.1 = j ∧ x.2 < n ∧ tx l j = s := by
  intro n
  induction n with
  | zero => intro h; cases h
  | succ n ih =>
    intro h
    simp only [findF] at h
    cases hr : roomF l E n s with
    | some i =>
      rw [hr] at h
      cases h
      obtain ⟨x, h1, h2, h3, h4⟩ := roomF_mem hr
      exact ⟨x, h1, h2, by omega, h4⟩
    | none =>
      rw [hr] at h
      obtain ⟨x, h1, h2, h3, h4⟩ := ih h
      exact ⟨x, h1, h2, by omega, h4⟩
theorem upV_in {now g m : Nat} (hg : ch[now]? = some (g, m)) : upV ch (now + 1) = .pointer (some ⟨g, 0, none⟩) := by simp only [upV, hg]; rfl

set_option maxHeartbeats 4000000 in
set_option maxRecDepth 100000 in
theorem name_any (h : Sm w0 w l p cap R F ch E fs) {now k g m : Nat} (hch : ch.length = now + 1) (hg : ch[now]? = some (g, m)) (hk : k < l.length) (hl : l.length ≤ 600) (hnow : now ≤ 1000000) (hs : l[k].t.size ≤ maxLen) :
    Calls Try.prog 31 #[.pointer (some ⟨R, 0, none⟩), .int .i64 k, .pointer (some ⟨g, 0, none⟩)] w (Dn w0 w l p cap R F ch m fs (nameF l now k E)) := by
  have ha := h.alloc (.cells #[.int .i64 0, .int .i64 0] 27)
  have hY := Blk.new w 27 #[.int .i64 0, .int .i64 0]
  obtain ⟨b, o, rfl, hb, hN, hN2⟩ := h.node hk
  have hlt := (tx_get hk).symm
  obtain ⟨c0, c1, c2, c3, c4, c5⟩ := hN2 w h.bel
  obtain ⟨q2, r0, qf, ⟨v, qv⟩, qF, qR⟩ := h.wants hk
  obtain ⟨Q, hQ⟩ : ∃ Q : Ending → World → Prop, Q = Dn w0 w l (some ⟨b, o, none⟩) cap R F ch m fs (nameF l now k E) := ⟨_, rfl⟩
  rw [← hQ]
  have HQ := Lib.hid hQ
  have HL := Lib.hid h.bel.size
  have hbb : b < w.heap.size := Nat.lt_of_lt_of_le hb h.bel.size
  have HY := Lib.hid hY
  clear c0 c2 c3 c4 c5 hQ hY hN hN2
  obtain ⟨t, ht⟩ : ∃ t, t = l[k].t := ⟨_, rfl⟩
  obtain ⟨n, hn⟩ : ∃ n, n = l.length := ⟨_, rfl⟩
  rw [← ht] at c1 hlt hs
  rw [← hn] at r0 q2
  have hl' : n ≤ 600 := by omega
  have hkn : k < n := by omega
  have HN := Lib.hid hn
  have HK := Lib.hid hk
  have HH := Lib.hid h
  have hf := find_any ha hch hnow t hs
  rw [upV_in hg, hlt] at hf
  cases hd : findF l E (tx l k) (now + 1) with
  | none =>
    rw [hd] at hf
    have HR : Hid (nameF l now k E = .bad 6 k) := by unfold nameF; rw [hd]; rfl
    simp only [Option.getD_none, Option.isSome_none] at hf
    clear h ha hlt hd hn hk ht hg hch hl
    go_enter Try.func31, Try.ntmps31
    go_wp2_with (go_at_call 45; refine hf.mono ?_; rintro e w' ⟨rfl, rfl⟩)
    refine bodyPost_ret (v := .agg #[.int .i64 6, .int .i64 k]) (by simp [results, Try.results31, go_sem]) rfl ?_
    rw [HQ.out, HR.out]
    exact ⟨rfl, (Chg.refl _ _ _).alloc _⟩
  | some j =>
    rw [hd] at hf
    simp only [Option.getD_some, Option.isSome_some] at hf
    obtain ⟨x, hx1, hx2, hx3, hx4⟩ := findF_mem hd
    have hj : j < l.length := by rw [← hx2]; exact (h.env x hx1).1
    have hjn : j < n := by omega
    obtain ⟨b', o', hp', hz1, hz2, hN2⟩ := h.node hj
    have e : b' = b ∧ o' = o := by cases hp'; exact ⟨rfl, rfl⟩
    obtain ⟨rfl, rfl⟩ := e
    obtain ⟨d0, d1, d2, d3, d4, d5⟩ := hN2 w h.bel
    have hkj := kindAt_get hj
    rw [← hkj] at d0
    obtain ⟨kd, hkd⟩ : ∃ kd, kd = kindAt l j := ⟨_, rfl⟩
    rw [← hkd] at d0
    by_cases h3 : kd = 3
    · have HR := Lib.hid (show nameF l now k E = .bad 6 k by unfold nameF; rw [hd]; simp only; rw [if_pos (by rw [← hkd, h3])])
      subst h3
      clear h ha hlt hd hn hk ht hg hch hl hx1 hx2 hx3 hx4 hj hN2 hp' hz1 hz2 d1 d2 d3 d4 d5 hkj hkd
      go_enter Try.func31, Try.ntmps31
      go_wp2_with (go_at_call 45; refine hf.mono ?_; rintro e w' ⟨rfl, rfl⟩)
      refine bodyPost_ret (v := .agg #[.int .i64 6, .int .i64 k]) (by simp [results, Try.results31, go_sem]) rfl ?_
      rw [HQ.out, HR.out]
      exact ⟨rfl, (Chg.refl _ _ _).alloc _⟩
    · have HR := Lib.hid (show nameF l now k E = .ok E [(k, (j : Int))] by unfold nameF; rw [hd]; simp only; rw [if_neg (by rw [← hkd]; exact h3)])
      have h3' : (kd == 3) = false := by simpa using h3
      have HA := Lib.hid ha
      clear h ha hlt hd hn hk ht hg hch hl hx1 hx2 hx3 hx4 hj hN2 hp' hz1 hz2 d1 d2 d3 d4 d5 hkj hkd
      go_enter Try.func31, Try.ntmps31
      go_wp2_with (go_at_call 45; refine hf.mono ?_; rintro e w' ⟨rfl, rfl⟩)
      refine bodyPost_ret (v := .agg #[.int .i64 0, .int .i64 0]) (by simp [results, Try.results31, go_sem]) rfl ?_
      rw [HQ.out, HR.out]
      exact ⟨rfl, ((Chg.refl _ _ _).set k _).alloc _, (HH.out.put k j).alloc _⟩
end
end Go.Proofs.Ytmghjfphlneblaa.Sc
