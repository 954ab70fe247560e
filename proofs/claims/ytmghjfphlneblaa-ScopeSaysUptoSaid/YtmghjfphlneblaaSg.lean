/-
  Contracts of call and own.
-/
import Derived.Test.YtmghjfphlneblaaSf
namespace Go.Proofs.Ytmghjfphlneblaa.Sc
open Go.RowKit
open Tr

section
variable {w0 w w2 : World} {l : List Nd} {p : Option Addr} {cap R F : Nat} {ch : Ch} {E : Env} {fs : List Int}
set_option maxHeartbeats 4000000 in
set_option maxRecDepth 100000 in
theorem call_any (h : Sm w0 w l p cap R F ch E fs) {now k m : Nat} (hch : ch.length = now + 1) (hk : k < l.length) (hl : l.length ≤ 600) (hs : l[k].t.size ≤ maxLen) (hq : libB (tx l k) = true → fs[k]? = some (-1)) :
    Calls Try.prog 32 #[.pointer (some ⟨R, 0, none⟩), .int .i64 k] w (Dn w0 w l p cap R F ch m fs (callF l k E)) := by
  obtain ⟨b, o, rfl, hb, hN, hN2⟩ := h.node hk
  have hlt := (tx_get hk).symm
  obtain ⟨c0, c1, c2, c3, c4, c5⟩ := hN2 w h.bel
  obtain ⟨q2, r0, qf, ⟨v, qv⟩, qF, qR⟩ := h.wants hk
  have q1 : w.cell? ⟨R, 1, none⟩ = some (.pointer (some ⟨unitB ch, 0, none⟩)) := by rw [h.res.cell]; rfl
  have h0 : 0 < ch.length := by omega
  have hu : unitB ch = (ch[0]).1 := by unfold unitB; rw [List.getElem?_eq_getElem h0]; rfl
  have hb0 := h.one 0 h0
  rw [← hu] at hb0
  obtain ⟨n0, _, hM⟩ := h.map 0 h0
  obtain ⟨m0, hm0⟩ : ∃ m0, m0 = (ch[0]).2 := ⟨_, rfl⟩
  rw [← hm0] at hb0 hM
  have u1 : w.cell? ⟨unitB ch, 1, none⟩ = some (.map (some m0)) := by rw [hb0.cell]; rfl
  have ul : unitB ch < w.heap.size := hb0.lt
  have HM := Lib.hid (hM.same (w' := w.alloc (.cells #[.int .i64 0, .int .i64 0] 27)) (Below.heap_alloc w _ _ hM.lt))
  obtain ⟨Q, hQ⟩ : ∃ Q : Ending → World → Prop, Q = Dn w0 w l (some ⟨b, o, none⟩) cap R F ch m fs (callF l k E) := ⟨_, rfl⟩
  rw [← hQ]
  have HQ := Lib.hid hQ
  have hbb : b < w.heap.size := Nat.lt_of_lt_of_le hb h.bel.size
  clear c0 c2 c3 c4 c5 hQ hN hN2 hb0 hM hm0
  generalize unitB ch = U at *
  clear hu
  obtain ⟨t, ht⟩ : ∃ t, t = l[k].t := ⟨_, rfl⟩
  obtain ⟨n, hn⟩ : ∃ n, n = l.length := ⟨_, rfl⟩
  rw [← ht] at c1 hlt hs
  rw [← hn] at r0 q2
  have hl' : n ≤ 600 := by omega
  have hkn : k < n := by omega
  have HN := Lib.hid hn
  have HK := Lib.hid hk
  have HS := Lib.hid hs
  have HH := Lib.hid h
  cases hlib : libB (tx l k) with
  | true =>
    have hf := fun w => lib_any t w
    rw [hlt, hlib] at hf
    have HR := Lib.hid (show callF l k E = .ok E [(k, -1)] by unfold callF; rw [if_pos hlib])
    have HFS := Lib.hid (show ov [(k, (-1 : Int))] fs = fs by
      rw [ov_one]
      have := hq hlib
      obtain ⟨h1, h2⟩ := List.getElem?_eq_some_iff.1 this
      rw [← h2]; simp)
    clear h hlt hlib hn hk ht hch hl hq h0 hs
    go_enter Try.func32, Try.ntmps32
    go_wp2_with (go_at_call 17; refine (hf _).mono ?_; rintro e w' ⟨rfl, rfl⟩)
    refine bodyPost_ret (v := .agg #[.int .i64 0, .int .i64 0]) (by simp [results, Try.results32, go_sem]) rfl ?_
    rw [HQ.out, HR.out]
    refine ⟨rfl, (Chg.refl _ _ _).alloc _, ?_⟩
    rw [HFS.out]
    exact HH.out.alloc _
  | false =>
    have hf := fun w => lib_any t w
    rw [hlt, hlib] at hf
    cases hd : roomF l E 0 (tx l k) with
    | none =>
      have HR := Lib.hid (show callF l k E = .bad 6 k by unfold callF; rw [if_neg (by rw [hlib]; simp), hd])
      have HD := Lib.hid (show roomF l E 0 t.data.toList = none by rw [hlt]; exact hd)
      clear h hlt hlib hn hk ht hch hl hq h0 hs hd
      go_enter Try.func32, Try.ntmps32
      go_wp2_with (first | (go_at_call 17; refine (hf _).mono ?_; rintro e w' ⟨rfl, rfl⟩) | (at_lookup; refine look_none _ HM.out HS.out HD.out rfl _ _ rfl rfl rfl ?_))
      refine bodyPost_ret (v := .agg #[.int .i64 6, .int .i64 k]) (by simp [results, Try.results32, go_sem]) rfl ?_
      rw [HQ.out, HR.out]
      exact ⟨rfl, (Chg.refl _ _ _).alloc _⟩
    | some j =>
      obtain ⟨x, hx1, hx2, hx3, hx4⟩ := roomF_mem hd
      have hj : j < l.length := by rw [← hx2]; exact (h.env x hx1).1
      have hjn : j < n := by omega
      obtain ⟨b', o', hp', hz1, hz2, hN2⟩ := h.node hj
      have e : b' = b ∧ o' = o := by cases hp'; exact ⟨rfl, rfl⟩
      obtain ⟨rfl, rfl⟩ := e
      obtain ⟨d0, d1, d2, d3, d4, d5⟩ := hN2 w h.bel
      have hkj := kindAt_get hj
      rw [← hkj] at d0
      obtain ⟨kd, hkd⟩ : ∃ kd, kd = kindAt l j := ⟨_, rfl⟩
      rw [← hkd] at d0
      have HD := Lib.hid (show roomF l E 0 t.data.toList = some j by rw [hlt]; exact hd)
      by_cases h3 : kd = 3
      · have HR := Lib.hid (show callF l k E = .ok E [(k, (j : Int))] by unfold callF; rw [if_neg (by rw [hlib]; simp), hd]; simp only; rw [if_pos (by rw [← hkd, h3])])
        subst h3
        clear h hlt hlib hd hn hk ht hch hl hx1 hx2 hx3 hx4 hj hN2 hp' hz1 hz2 d1 d2 d3 d4 d5 hkj hkd hq h0 hs
        go_enter Try.func32, Try.ntmps32
        go_wp2_with (first | (go_at_call 17; refine (hf _).mono ?_; rintro e w' ⟨rfl, rfl⟩) | (at_lookup; refine look_some _ HM.out HS.out HD.out rfl _ _ rfl rfl rfl ?_))
        refine bodyPost_ret (v := .agg #[.int .i64 0, .int .i64 0]) (by simp [results, Try.results32, go_sem]) rfl ?_
        rw [HQ.out, HR.out]
        exact ⟨rfl, ((Chg.refl _ _ _).set k _).alloc _, (HH.out.put k j).alloc _⟩
      · have HR := Lib.hid (show callF l k E = .bad 6 k by unfold callF; rw [if_neg (by rw [hlib]; simp), hd]; simp only; rw [if_neg (by rw [← hkd]; exact h3)])
        have h3' : (kd != 3) = true := by simpa using h3
        clear h hlt hlib hd hn hk ht hch hl hx1 hx2 hx3 hx4 hj hN2 hp' hz1 hz2 d1 d2 d3 d4 d5 hkj hkd hq h0 hs
        go_enter Try.func32, Try.ntmps32
        go_wp2_with (first | (go_at_call 17; refine (hf _).mono ?_; rintro e w' ⟨rfl, rfl⟩) | (at_lookup; refine look_some _ HM.out HS.out HD.out rfl _ _ rfl rfl rfl ?_))
        refine bodyPost_ret (v := .agg #[.int .i64 6, .int .i64 k]) (by simp [results, Try.results32, go_sem]) rfl ?_
        rw [HQ.out, HR.out]
        exact ⟨rfl, (Chg.refl _ _ _).alloc _⟩

/-- what stands of calls of the two functions that are there already -/
def NoLib (l : List Nd) (fs : List Int) : Prop := ∀ k : Nat, kindAt l k = 33 → libB (tx l k) = true → k < l.length → fs[k]? = some (-1)
set_option maxHeartbeats 8000000 in
set_option maxRecDepth 100000 in
theorem own_any (h : Sm w0 w l p cap R F ch E fs) {now k g m : Nat} (hch : ch.length = now + 1) (hg : ch[now]? = some (g, m)) (hk : k < l.length) (hl : l.length ≤ 600) (hE : E.length ≤ 1000000) (hnow : now ≤ 1000000) (hc : codeAt l k = 0) (hq : NoLib l fs) :
    Calls Try.prog 21 #[.pointer (some ⟨R, 0, none⟩), .int .i64 k, .pointer (some ⟨g, 0, none⟩)] w (Dn w0 w l p cap R F ch m fs (own l now k E)) := by
  obtain ⟨hm1, hm2, hg1⟩ := h.m_lt hg
  have hF := h.fnd.lt
  have ha := h.alloc (.cells #[.int .i64 0, .int .i64 0] 27)
  have hY := Blk.new w 27 #[.int .i64 0, .int .i64 0]
  obtain ⟨b, o, rfl, hb, hN, hN2⟩ := h.node hk
  obtain ⟨c0, c1, c2, c3, c4, c5⟩ := hN2 w h.bel
  obtain ⟨q2, r0, qf, ⟨v, qv⟩, qF, qR⟩ := h.wants hk
  have hkk := kindAt_get hk
  obtain ⟨kd, hkd⟩ : ∃ kd, kd = kindAt l k := ⟨_, rfl⟩
  rw [← hkk, ← hkd] at c0
  obtain ⟨Q, hQ⟩ : ∃ Q : Ending → World → Prop, Q = Dn w0 w l (some ⟨b, o, none⟩) cap R F ch m fs (own l now k E) := ⟨_, rfl⟩
  rw [← hQ]
  have HQ := Lib.hid hQ
  have HL := Lib.hid h.bel.size
  have hbb : b < w.heap.size := Nat.lt_of_lt_of_le hb h.bel.size
  have HY := Lib.hid hY
  have HH := Lib.hid h
  have hloc := Lib.hid fun (e : namedB kd = true) => local_any ha hch hg hk hl hE (text_size hk hc (by rw [← hkd]; exact e))
  have hnam := Lib.hid fun (e : namedB kd = true) => name_any ha hch hg hk hl hnow (text_size hk hc (by rw [← hkd]; exact e))
  have hcal := Lib.hid fun (e : kd = 33) => call_any (m := m) ha hch hk hl (text_size hk hc (by rw [← hkd, e]; decide)) (fun e2 => hq k (by rw [← hkd]; exact e) e2 hk)
  have HO := Lib.hid (show own l now k E = if kd = 2 ∨ kd = 3 then .ok E [(k, (k : Int))] else if kd = 4 ∨ kd = 12 then declF l now k E else if kd = 32 then nameF l now k E else if kd = 33 then callF l k E else .ok E [] by unfold own; rw [← hkd])
  clear c1 c2 c3 c4 c5 hQ hY hN hN2 hkk hkd hc
  obtain ⟨n, hn⟩ : ∃ n, n = l.length := ⟨_, rfl⟩
  rw [← hn] at r0 q2
  have hl' : n ≤ 600 := by omega
  have hkn : k < n := by omega
  clear hn hk hl hch hg h ha hq
  have HEND : ∀ (r : Rs) (e : Ending) (w2 : World), own l now k E = r → Dn w0 (w.alloc (.cells #[.int .i64 0, .int .i64 0] 27)) l (some ⟨b, o, none⟩) cap R F ch m fs r e w2 → r ≠ .out → ∃ c a : Int, e = .returned (.agg #[.int .i64 c, .int .i64 a]) ∧ Blk w2 w.heap.size 27 #[.int .i64 0, .int .i64 0] ∧ Q (.returned (.agg #[.int .i64 c, .int .i64 a])) ((w2.setCell ⟨w.heap.size, 0, none⟩ (.int .i64 c)).setCell ⟨w.heap.size, 1, none⟩ (.int .i64 a)) := by
    intro r e w2 hr hd hout
    cases r with
    | ok E' W =>
      obtain ⟨rfl, hc, hs⟩ := hd
      have hB := hc.blk HY.out (by omega) (by omega)
      refine ⟨0, 0, rfl, hB, ?_⟩
      rw [HQ.out, hr]
      exact Dn.fine (((Chg.refl _ _ _).alloc _).trans hc) hs HL.out hB (Nat.le_refl _) rfl
    | bad c a =>
      obtain ⟨rfl, hc⟩ := hd
      refine ⟨c, a, rfl, hc.blk HY.out (by omega) (by omega), ?_⟩
      rw [HQ.out, hr]
      exact ⟨rfl, (((Chg.refl _ _ _).alloc _).trans hc).box2 (Nat.le_refl _) _ _⟩
    | out => exact absurd rfl hout
  have HE := Lib.hid HEND
  clear HEND
  by_cases h2 : kd = 2 ∨ kd = 3
  · have HR := Lib.hid (HO.out.trans (if_pos h2))
    have hk2 : (kd == 2) = true ∨ ((kd == 2) = false ∧ (kd == 3) = true) := by
      rcases h2 with rfl | rfl
      · exact Or.inl rfl
      · exact Or.inr ⟨rfl, rfl⟩
    clear HE HO hloc hnam hcal h2
    rcases hk2 with h2 | ⟨h2, h3⟩
    all_goals
      go_enter Try.func21, Try.ntmps21
      go_wp2
      refine bodyPost_ret (v := .agg #[.int .i64 0, .int .i64 0]) (by simp [results, Try.results21, go_sem]) rfl ?_
      rw [HQ.out, HR.out]
      exact ⟨rfl, ((Chg.refl _ _ _).set k _).alloc _, (HH.out.put k k).alloc _⟩
  · have k2 : (kd == 2) = false := by simp; omega
    have k3 : (kd == 3) = false := by simp; omega
    by_cases h4 : kd = 4 ∨ kd = 12
    · have hr : own l now k E = declF l now k E := HO.out.trans ((if_neg h2).trans (if_pos h4))
      have hcl := hloc.out (by rcases h4 with rfl | rfl <;> rfl)
      have hk4 : (kd == 4) = true ∨ ((kd == 4) = false ∧ (kd == 12) = true) := by
        rcases h4 with rfl | rfl
        · exact Or.inl rfl
        · exact Or.inr ⟨rfl, rfl⟩
      have HR := Lib.hid hr
      have HN := Lib.hid (show declF l now k E ≠ .out by unfold declF; split <;> simp)
      clear HO hloc hnam hcal h2 h4 hr
      rcases hk4 with h2 | ⟨h2, h3⟩
      all_goals
        go_enter Try.func21, Try.ntmps21
        go_wp2_with (go_at_call 30; refine hcl.mono ?_)
        intro e w3 hd
        obtain ⟨c, a, rfl, hB, hf⟩ := HE.out _ e w3 HR.out hd HN.out
        have y0 : w3.cell? ⟨w.heap.size, 0, none⟩ = some (.int .i64 0) := by rw [hB.cell]; rfl
        have y1 : w3.cell? ⟨w.heap.size, 1, none⟩ = some (.int .i64 0) := by rw [hB.cell]; rfl
        have g0 := hB.frozen 0
        have g1 := hB.frozen 1
        have lY := hB.lt
        have hz := set2 hB (.int .i64 c) (.int .i64 a)
        have Z0 := Lib.hid (hz.cell 0)
        have Z1 := Lib.hid (hz.cell 1)
        have HF := Lib.hid hf
        clear hd hB hf hz hcl
        go_wp2
        have z0 := Z0.out
        have z1 := Z1.out
        refine bodyPost_ret (v := .agg #[.int .i64 c, .int .i64 a]) (by simp [results, Try.results21, go_sem, z0, z1]) rfl ?_
        exact HF.out
    · have k4 : (kd == 4) = false := by simp; omega
      have k12 : (kd == 12) = false := by simp; omega
      by_cases h5 : kd = 32
      · have hr : own l now k E = nameF l now k E := HO.out.trans ((if_neg h2).trans ((if_neg h4).trans (if_pos h5)))
        have hcl := hnam.out (by rw [h5]; rfl)
        have HR := Lib.hid hr
        have HN := Lib.hid (show nameF l now k E ≠ .out by unfold nameF; split <;> (try split) <;> simp)
        subst h5
        clear HO hloc hnam hcal h2 h4 hr k2 k3 k4 k12
        go_enter Try.func21, Try.ntmps21
        go_wp2_with (go_at_call 31; refine hcl.mono ?_)
        intro e w3 hd
        obtain ⟨c, a, rfl, hB, hf⟩ := HE.out _ e w3 HR.out hd HN.out
        have y0 : w3.cell? ⟨w.heap.size, 0, none⟩ = some (.int .i64 0) := by rw [hB.cell]; rfl
        have y1 : w3.cell? ⟨w.heap.size, 1, none⟩ = some (.int .i64 0) := by rw [hB.cell]; rfl
        have g0 := hB.frozen 0
        have g1 := hB.frozen 1
        have lY := hB.lt
        have hz := set2 hB (.int .i64 c) (.int .i64 a)
        have Z0 := Lib.hid (hz.cell 0)
        have Z1 := Lib.hid (hz.cell 1)
        have HF := Lib.hid hf
        clear hd hB hf hz hcl
        go_wp2
        have z0 := Z0.out
        have z1 := Z1.out
        refine bodyPost_ret (v := .agg #[.int .i64 c, .int .i64 a]) (by simp [results, Try.results21, go_sem, z0, z1]) rfl ?_
        exact HF.out
      · have k32 : (kd == 32) = false := by simp; omega
        by_cases h6 : kd = 33
        · have hr : own l now k E = callF l k E := HO.out.trans ((if_neg h2).trans ((if_neg h4).trans ((if_neg h5).trans (if_pos h6))))
          have hcl := hcal.out h6
          have HR := Lib.hid hr
          have HN := Lib.hid (show callF l k E ≠ .out by unfold callF; split; · simp
                                                         · split <;> (try split) <;> simp)
          subst h6
          clear HO hloc hnam hcal h2 h4 h5 hr k2 k3 k4 k12 k32
          go_enter Try.func21, Try.ntmps21
          go_wp2_with (go_at_call 32; refine hcl.mono ?_)
          intro e w3 hd
          obtain ⟨c, a, rfl, hB, hf⟩ := HE.out _ e w3 HR.out hd HN.out
          have y0 : w3.cell? ⟨w.heap.size, 0, none⟩ = some (.int .i64 0) := by rw [hB.cell]; rfl
          have y1 : w3.cell? ⟨w.heap.size, 1, none⟩ = some (.int .i64 0) := by rw [hB.cell]; rfl
          have g0 := hB.frozen 0
          have g1 := hB.frozen 1
          have lY := hB.lt
          have hz := set2 hB (.int .i64 c) (.int .i64 a)
          have Z0 := Lib.hid (hz.cell 0)
          have Z1 := Lib.hid (hz.cell 1)
          have HF := Lib.hid hf
          clear hd hB hf hz hcl
          go_wp2
          have z0 := Z0.out
          have z1 := Z1.out
          refine bodyPost_ret (v := .agg #[.int .i64 c, .int .i64 a]) (by simp [results, Try.results21, go_sem, z0, z1]) rfl ?_
          exact HF.out
        · have k33 : (kd == 33) = false := by simp; omega
          have HR := Lib.hid (HO.out.trans ((if_neg h2).trans ((if_neg h4).trans ((if_neg h5).trans (if_neg h6)))))
          clear HE HO hloc hnam hcal h2 h4 h5 h6
          go_enter Try.func21, Try.ntmps21
          go_wp2
          refine bodyPost_ret (v := .agg #[.int .i64 0, .int .i64 0]) (by simp [results, Try.results21, go_sem]) rfl ?_
          rw [HQ.out, HR.out]
          exact ⟨rfl, (Chg.refl _ _ _).alloc _, HH.out.alloc _⟩
end
end Go.Proofs.Ytmghjfphlneblaa.Sc
