/-
  Contracts of kids and visit: a node and all below it.
-/
import Derived.Test.YtmghjfphlneblaaSi
namespace Go.Proofs.Ytmghjfphlneblaa.Sc
open Go.RowKit
open Tr

def VisitOK (w0 : World) (l : List Nd) (p : Option Addr) (cap R F f : Nat) : Prop :=
  ∀ (w : World) (ch : Ch) (E : Env) (fs : List Int) (now k g m q : Nat), Sm w0 w l p cap R F ch E fs → ch.length = now + 1 → ch[now]? = some (g, m) → k < l.length → k < f → now + f ≤ 1000000 → E.length ≤ q + St l k → q + (k + 1) ≤ 1000000 → NoLib l fs →
    Calls Try.prog 10 #[.pointer (some ⟨R, 0, none⟩), .int .i64 k, .pointer (some ⟨g, 0, none⟩)] w (Dn w0 w l p cap R F ch m fs (look l f now k E))
/-- how far the kids have come -/
def RelK (w0 w2 : World) (l : List Nd) (p : Option Addr) (cap R F : Nat) (ch2 : Ch) (m2 : Nat) (fs : List Int) (f now2 k q : Nat) (pos : Nat → Nat) (tot : Rs) (j : Nat) (wr : World) : Prop :=
  ∃ E' W fs', Chg F m2 w2 wr ∧ Sm w0 wr l p cap R F ch2 E' fs' ∧ fs' = ov W fs ∧ NoLib l fs' ∧ E'.length ≤ q + pos j ∧ tot = (each (look l f now2) ((kidsAt l k).drop j) E').pre W
section
variable {w0 w w2 : World} {l : List Nd} {p : Option Addr} {cap R F : Nat} {ch : Ch} {E : Env} {fs : List Int}
theorem inside_sm (h : Sm w0 w l p cap R F ch E fs) {now g m : Nat} (hch : ch.length = now + 1) (hg : ch[now]? = some (g, m)) :
    Calls Try.prog 16 #[.pointer (some ⟨g, 0, none⟩)] w fun e w' => ∃ g2 m2, e = .returned (.pointer (some ⟨g2, 0, none⟩)) ∧ Below w.heap.size w w' ∧ Sm w0 w' l p cap R F (ch ++ [(g2, m2)]) E fs ∧ w.heap.size ≤ m2 :=
  (inside_any _ _ rfl w).mono fun e w' he => by
    obtain ⟨rfl, rfl⟩ := he
    exact ⟨_, _, rfl, ((Below.refl _ _).alloc (Nat.le_refl _) _).alloc (by simp) _, h.push hch hg, Nat.le_refl _⟩
set_option maxHeartbeats 8000000 in
set_option maxRecDepth 100000 in
theorem kids_open {f : Nat} (hV : VisitOK w0 l p cap R F f) (hC : ∀ j, j < l.length → codeAt l j = 0) (hl : l.length ≤ 600) {now k g m q : Nat} (hk : k < l.length) (hkf : k < f + 1) (hch : ch.length = now + 1) (hg : ch[now]? = some (g, m)) (hnow : now + (f + 1) ≤ 1000000) (hq : q + k ≤ 1000000) (hop : opB (kindAt l k) = true) :
    StepF w0 l p cap R F ch m g k 20 (q + St l k) (kidsF l (look l f) now k) := by
  intro w E fs h hE hnl
  obtain ⟨hm1, hm2, hg1⟩ := h.m_lt hg
  have hF := h.fnd.lt
  obtain ⟨pos, hK⟩ := kin_of hk (hC k hk)
  obtain ⟨b, o, rfl, hb, hN, hN2⟩ := h.node hk
  obtain ⟨c0, c1, c2, c3, c4, c5⟩ := hN2 w h.bel
  obtain ⟨q2, r0, qf, ⟨v, qv⟩, qF, qR⟩ := h.wants hk
  have hkk := kindAt_get hk
  have hcc := kidsAt_get hk
  rw [← hkk] at c0
  rw [← hcc] at c4
  have hKA := h.tr0.2 k hk
  rw [← hcc] at hKA
  have hcl : (kidsAt l k).length ≤ 600 := by have := (code_kids hk (hC k hk)).1; rw [← hcc] at this; omega
  obtain ⟨t, ht⟩ : ∃ t, t = l[k].t := ⟨_, rfl⟩
  obtain ⟨nn, hnn⟩ : ∃ nn, nn = l[k].n := ⟨_, rfl⟩
  obtain ⟨zz, hzz⟩ : ∃ zz, zz = l[k].z := ⟨_, rfl⟩
  obtain ⟨aa, haa⟩ : ∃ aa, aa = l[k].a := ⟨_, rfl⟩
  obtain ⟨cp, hcp⟩ : ∃ cp, cp = l[k].p := ⟨_, rfl⟩
  obtain ⟨kc, hkc⟩ : ∃ kc, kc = l[k].cap := ⟨_, rfl⟩
  rw [← ht] at c1; rw [← hnn] at c2; rw [← hzz] at c3; rw [← hcp, ← hkc] at c4; rw [← haa] at c5; rw [← hcp] at hKA
  clear ht hnn hzz haa hcp hkc hkk hcc hN hN2 qf qv v q2
  obtain ⟨Q, hQ⟩ : ∃ Q : Ending → World → Prop, Q = Dn w0 w l (some ⟨b, o, none⟩) cap R F ch m fs (kidsF l (look l f) now k E) := ⟨_, rfl⟩
  rw [← hQ]
  have HQ := Lib.hid hQ
  have hL := h.bel.size
  have hbb : b < w.heap.size := Nat.lt_of_lt_of_le hb hL
  obtain ⟨kd, hkd⟩ : ∃ kd, kd = kindAt l k := ⟨_, rfl⟩
  rw [← hkd] at c0
  obtain ⟨cn, hcn⟩ : ∃ cn, cn = (kidsAt l k).length := ⟨_, rfl⟩
  rw [← hcn] at c4 hcl
  obtain ⟨n, hn⟩ : ∃ n, n = l.length := ⟨_, rfl⟩
  rw [← hn] at r0
  have hkn : k < n := by omega
  have hn6 : n ≤ 600 := by omega
  have HO : ∀ W, Calls Try.prog 29 #[.int .i64 kd] W fun e w' => e = .returned (.bool true) ∧ W = w' := fun W => by
    have := opens_any kd W
    rw [hkd, hop] at this
    rw [hkd]; exact this
  have HP := Lib.hid hop
  have hin := inside_sm ((h.alloc (.cells #[.int .i64 0, .int .i64 0] 27)).alloc (.cells #[.int .i64 kd, .string t, .int .i64 nn, .int .i64 zz, .slice cp cn kc, .int .i64 aa] 34)) hch hg
  have HB := Lib.hid ((Blk.new w 27 #[.int .i64 0, .int .i64 0]).alloc (.cells #[.int .i64 kd, .string t, .int .i64 nn, .int .i64 zz, .slice cp cn kc, .int .i64 aa] 34))
  have HB2 := Lib.hid (Blk.new (w.alloc (.cells #[.int .i64 0, .int .i64 0] 27)) 34 #[.int .i64 kd, .string t, .int .i64 nn, .int .i64 zz, .slice cp cn kc, .int .i64 aa])
  have HV := Lib.hid hV
  have HK := Lib.hid hK
  have HKA := Lib.hid hKA
  have HH := Lib.hid h
  have HKD := Lib.hid hkd
  have HN := Lib.hid hn
  have HCN := Lib.hid hcn
  have HE0 := Lib.hid (show E.length ≤ q + pos 0 by rw [hK.from_]; exact hE)
  have HNL := Lib.hid hnl
  have HC := Lib.hid hC
  have HG := Lib.hid hg
  have HCH := Lib.hid hch
  have hfin := Lib.hid fun (now : Nat) => fine_each (q := q) hK hk (fun x E h1 h2 h3 => fine_look hC f now x q E (by omega) h2 h3)
  clear hop hV hK hKA h hkd hn hcn hE hnl hC hQ hg hch
  go_enter Try.func20, Try.ntmps20
  go_wp2_with (first | (go_at_call 29; refine (HO _).mono ?_; rintro e w' ⟨rfl, rfl⟩) | (go_at_call 16; refine hin.mono ?_))
  rintro e w2 ⟨g2, m2, rfl, hb2, hs2, hm22⟩
  obtain ⟨ch2, hch2⟩ : ∃ ch2, ch2 = ch ++ [(g2, m2)] := ⟨_, rfl⟩
  rw [← hch2] at hs2
  have HS2 := Lib.hid hs2
  obtain ⟨now2, hnow2⟩ : ∃ now2, now2 = now + 1 := ⟨_, rfl⟩
  have HC2 := Lib.hid (show ch2.length = now2 + 1 by rw [hch2, List.length_append, HCH.out, hnow2]; rfl)
  have HG2 := Lib.hid (show ch2[now2]? = some (g2, m2) by rw [hch2, hnow2, List.getElem?_append_right (by rw [HCH.out]; exact Nat.le_refl _), HCH.out]; simp)
  have hb3 : Below w.heap.size w w2 := (((Below.refl w.heap.size w).alloc (Nat.le_refl _) _).alloc (by simp) _).trans (hb2.mono (by simp; omega))
  have HPOP : Hid (∀ wr E' fs', Chg F m2 w2 wr → Sm w0 wr l (some ⟨b, o, none⟩) cap R F ch2 E' fs' → Chg F m w wr ∧ Sm w0 wr l (some ⟨b, o, none⟩) cap R F ch E fs') := fun wr E' fs' h1 h2 => by
    rw [hch2] at h2
    have hm3 : w.heap.size ≤ m2 := by have := hm22; simp at this; omega
    exact ⟨⟨h1.os.trans hb3.os, h1.tape.trans hb3.tape, h1.output.trans hb3.output, Nat.le_trans hb3.size h1.size, fun y y1 y2 y3 => (h1.block y (Nat.lt_of_lt_of_le y1 hb3.size) y2 (by omega)).trans (hb3.block y y1)⟩, HH.out.pop hb3 hm3 h1 h2⟩
  have HPB : Hid (∀ wr, Chg F m2 w2 wr → Chg F m w wr) := fun wr h1 => by
    have hm3 : w.heap.size ≤ m2 := by have := hm22; simp at this; omega
    exact ⟨h1.os.trans hb3.os, h1.tape.trans hb3.tape, h1.output.trans hb3.output, Nat.le_trans hb3.size h1.size, fun y y1 y2 y3 => (h1.block y (Nat.lt_of_lt_of_le y1 hb3.size) y2 (by omega)).trans (hb3.block y y1)⟩
  have HBw := Lib.hid (HB.out.below hb2 (by simp; omega))
  have hB2 := HB2.out.below hb2 (by simp)
  have x4 : w2.cell? ⟨w.heap.size + 1, 4, none⟩ = some (.slice cp cn kc) := by have := hB2.cell 4; simp at this; simpa using this
  have lB2 : w.heap.size + 1 < w2.heap.size := by have := hB2.lt; simp at this; exact this
  have hne : w.heap.size ≠ m2 := by have := hm22; simp at this; omega
  have HT : Hid (∀ r, each (look l f now2) (kidsAt l k) E = r → kidsF l (look l f) now k E = r.back E) := fun r hr => by
    unfold kidsF; rw [if_pos HP.out, ← hr, hnow2]
  have hn2 : now2 + f ≤ 1000000 := by omega
  clear hs2 hb2 hb3 hB2 hm22 hin HO hch2 hnow2 c0 c1 c2 c3 c4 c5 r0
  have hneF : w.heap.size ≠ F := by omega
  have HRL : Hid (RelK w0 w2 l (some ⟨b, o, none⟩) cap R F ch2 m2 fs f now2 k q pos (each (look l f now2) (kidsAt l k) E) 0 w2) :=
    ⟨E, [], fs, Chg.refl _ _ _, HS2.out, rfl, HNL.out, HE0.out, by rw [pre_nil]; rfl⟩
  obtain ⟨tot, htot⟩ : ∃ tot, tot = each (look l f now2) (kidsAt l k) E := ⟨_, rfl⟩
  rw [← htot] at HRL
  have HTO := Lib.hid htot
  clear htot
  go_wp2
  go_loopw [26] (fun v wr => ∃ j : Nat, j ≤ cn ∧ v = .int .i64 j ∧ Hid (RelK w0 w2 l (some ⟨b, o, none⟩) cap R F ch2 m2 fs f now2 k q pos tot j wr) ∧ Blk wr w.heap.size 27 #[.int .i64 0, .int .i64 0]) (fun v _ => cn - (intOf v).toNat)
  case atStart => exact ⟨0, Nat.zero_le _, rfl, HRL.out, HBw.out⟩
  clear HRL x4 HBw
  obtain ⟨j, hj, rfl, HR, hY⟩ := hrel
  obtain ⟨E', W, fs', hc, hs, hfs, hnl, hb', ht⟩ := HR.out
  have HCg := Lib.hid hc
  have HSr := Lib.hid hs
  have HFS := Lib.hid hfs
  have HNl := Lib.hid hnl
  have HTt := Lib.hid ht
  have HY := Lib.hid hY
  clear hc hfs hnl ht hY HR
  by_cases hlt : j < cn
  · have hjl : j < (kidsAt l k).length := by have := HCN.out; omega
    obtain ⟨kb, ko, rfl, hkb, hkc⟩ := HKA.out (by omega)
    obtain ⟨x, hx1, hx2, hx3, hx4⟩ := HK.out.lt j hjl
    have d0 : wr.cell? ⟨kb, ko + j, none⟩ = some (.int .i64 x) := by
      have := hkc j hjl
      rw [hx1] at this
      exact (hs.bel.cell (p := ⟨kb, ko + j, none⟩) hkb).trans this
    have hkb2 : kb < wr.heap.size := Nat.lt_of_lt_of_le hkb hs.bel.size
    have hcall := HV.out wr ch2 E' fs' now2 x g2 m2 q hs HC2.out HG2.out (by omega) (by omega) hn2 (by omega) (by omega) HNl.out
    have hfine := fine_look HC.out f now2 x q E' (by omega) (by omega) (by omega)
    have HD := Lib.hid (show each (look l f now2) ((kidsAt l k).drop j) E' = (look l f now2 x E').bind (each (look l f now2) ((kidsAt l k).drop (j + 1))) by rw [each_drop hjl, hx1, Int.toNat_natCast])
    clear hs hkc hx1 hx4
    go_wp2_with (go_at_call 10; refine hcall.mono ?_)
    intro e w3 hd
    cases hr : look l f now2 x E' with
    | out => rw [hr] at hfine; exact hfine.elim
    | bad c a =>
      rw [hr] at hd hfine
      obtain ⟨rfl, hc3⟩ := hd
      have hB := hc3.blk HY.out hneF hne
      have HF : Hid (∀ o, Q (.returned (.agg #[.int .i64 c, .int .i64 a])) (((w3.setCell ⟨w.heap.size, 0, none⟩ (.int .i64 c)).setCell ⟨w.heap.size, 1, none⟩ (.int .i64 a)).alloc o)) := fun o => by
        rw [HQ.out, HT.out (.bad c a) (by rw [← HTO.out, HTt.out, HD.out, hr]; rfl)]
        exact ⟨rfl, ((HPB.out _ (HCg.out.trans hc3)).box2 (Nat.le_refl _) _ _).alloc _⟩
      have y0 : w3.cell? ⟨w.heap.size, 0, none⟩ = some (.int .i64 0) := by rw [hB.cell]; rfl
      have y1 : w3.cell? ⟨w.heap.size, 1, none⟩ = some (.int .i64 0) := by rw [hB.cell]; rfl
      have g0 := hB.frozen 0
      have g1 := hB.frozen 1
      have lY := hB.lt
      have hz := (set2 hB (.int .i64 c) (.int .i64 a)).alloc (.cells #[.int .i64 c, .int .i64 a] 27)
      have Z0 := Lib.hid (hz.cell 0)
      have Z1 := Lib.hid (hz.cell 1)
      clear hB hz hcall hc3 hr
      rcases hfine with rfl | rfl
      all_goals
        go_wp2
        have z0 := Z0.out
        have z1 := Z1.out
        refine bodyPost_ret (v := .agg #[_, _]) (by simp [results, Try.results20, go_sem, z0, z1]; exact ⟨rfl, rfl⟩) rfl ?_
        exact HF.out _
    | ok E2 W2 =>
      rw [hr] at hd hfine
      obtain ⟨rfl, hc3, hs3⟩ := hd
      have HY3 := Lib.hid (hc3.blk HY.out hneF hne)
      have HREL : Hid (RelK w0 w2 l (some ⟨b, o, none⟩) cap R F ch2 m2 fs f now2 k q pos tot (j + 1) (w3.alloc (.cells #[.int .i64 0, .int .i64 0] 27))) :=
        ⟨E2, W ++ W2, _, (HCg.out.trans hc3).alloc _, hs3.alloc _, by rw [HFS.out, ov_app], HNl.out.ov hfine.2, by have := hfine.1; omega, by rw [HTt.out, HD.out, hr]; show ((each _ _ E2).pre W2).pre W = _; rw [pre_pre]⟩
      clear hcall hc3 hs3 hr hfine d0
      go_wp2
      go_roundw
      case rel => exact ⟨j + 1, by omega, by go_num, HREL.out, HY3.out.alloc _⟩
      case measure => simp [intOf]; omega
  · have hje : j = cn := by omega
    have HR : Hid (tot = .ok E' W) := by
      have := HTt.out
      rw [each_end (by have := HCN.out; omega)] at this
      rw [this]
      exact congrArg (Rs.ok E') (by simp)
    obtain ⟨hc4, hs4⟩ := HPOP.out _ _ _ HCg.out hs
    have hB := HY.out
    have y0 : wr.cell? ⟨w.heap.size, 0, none⟩ = some (.int .i64 0) := by rw [hB.cell]; rfl
    have y1 : wr.cell? ⟨w.heap.size, 1, none⟩ = some (.int .i64 0) := by rw [hB.cell]; rfl
    have g0 := hB.frozen 0
    have g1 := hB.frozen 1
    have lY := hB.lt
    have hz := set2 hB (.int .i64 0) (.int .i64 0)
    have Z0 := Lib.hid (hz.cell 0)
    have Z1 := Lib.hid (hz.cell 1)
    have HC4 := Lib.hid hc4
    have HS4 := Lib.hid hs4
    clear hB hz hc4 hs4 hs
    go_wp2
    have z0 := Z0.out
    have z1 := Z1.out
    refine bodyPost_ret (v := .agg #[.int .i64 0, .int .i64 0]) (by simp [results, Try.results20, go_sem, z0, z1]) rfl ?_
    rw [HQ.out, HT.out (.ok E' W) (by rw [← HTO.out, HR.out])]
    exact Dn.fine HC4.out HS4.out hL HY.out (Nat.le_refl _) HFS.out

set_option maxHeartbeats 8000000 in
set_option maxRecDepth 100000 in
theorem kids_plain {f : Nat} (hV : VisitOK w0 l p cap R F f) (hC : ∀ j, j < l.length → codeAt l j = 0) (hl : l.length ≤ 600) {now k g m q : Nat} (hk : k < l.length) (hkf : k < f + 1) (hch : ch.length = now + 1) (hg : ch[now]? = some (g, m)) (hnow : now + (f + 1) ≤ 1000000) (hq : q + k ≤ 1000000) (hop : opB (kindAt l k) = false) :
    StepF w0 l p cap R F ch m g k 20 (q + St l k) (kidsF l (look l f) now k) := by
  intro w E fs h hE hnl
  obtain ⟨hm1, hm2, hg1⟩ := h.m_lt hg
  have hF := h.fnd.lt
  obtain ⟨pos, hK⟩ := kin_of hk (hC k hk)
  obtain ⟨b, o, rfl, hb, hN, hN2⟩ := h.node hk
  obtain ⟨c0, c1, c2, c3, c4, c5⟩ := hN2 w h.bel
  obtain ⟨q2, r0, qf, ⟨v, qv⟩, qF, qR⟩ := h.wants hk
  have hkk := kindAt_get hk
  have hcc := kidsAt_get hk
  rw [← hkk] at c0
  rw [← hcc] at c4
  have hKA := h.tr0.2 k hk
  rw [← hcc] at hKA
  have hcl : (kidsAt l k).length ≤ 600 := by have := (code_kids hk (hC k hk)).1; rw [← hcc] at this; omega
  obtain ⟨t, ht⟩ : ∃ t, t = l[k].t := ⟨_, rfl⟩
  obtain ⟨nn, hnn⟩ : ∃ nn, nn = l[k].n := ⟨_, rfl⟩
  obtain ⟨zz, hzz⟩ : ∃ zz, zz = l[k].z := ⟨_, rfl⟩
  obtain ⟨aa, haa⟩ : ∃ aa, aa = l[k].a := ⟨_, rfl⟩
  obtain ⟨cp, hcp⟩ : ∃ cp, cp = l[k].p := ⟨_, rfl⟩
  obtain ⟨kc, hkc⟩ : ∃ kc, kc = l[k].cap := ⟨_, rfl⟩
  rw [← ht] at c1; rw [← hnn] at c2; rw [← hzz] at c3; rw [← hcp, ← hkc] at c4; rw [← haa] at c5; rw [← hcp] at hKA
  clear ht hnn hzz haa hcp hkc hkk hcc hN hN2 qf qv v q2
  obtain ⟨Q, hQ⟩ : ∃ Q : Ending → World → Prop, Q = Dn w0 w l (some ⟨b, o, none⟩) cap R F ch m fs (kidsF l (look l f) now k E) := ⟨_, rfl⟩
  rw [← hQ]
  have HQ := Lib.hid hQ
  have hL := h.bel.size
  have hbb : b < w.heap.size := Nat.lt_of_lt_of_le hb hL
  obtain ⟨kd, hkd⟩ : ∃ kd, kd = kindAt l k := ⟨_, rfl⟩
  rw [← hkd] at c0
  obtain ⟨cn, hcn⟩ : ∃ cn, cn = (kidsAt l k).length := ⟨_, rfl⟩
  rw [← hcn] at c4 hcl
  obtain ⟨n, hn⟩ : ∃ n, n = l.length := ⟨_, rfl⟩
  rw [← hn] at r0
  have hkn : k < n := by omega
  have hn6 : n ≤ 600 := by omega
  have HO : ∀ W, Calls Try.prog 29 #[.int .i64 kd] W fun e w' => e = .returned (.bool false) ∧ W = w' := fun W => by
    have := opens_any kd W
    rw [hkd, hop] at this
    rw [hkd]; exact this
  have HP := Lib.hid hop
  have HB := Lib.hid ((Blk.new w 27 #[.int .i64 0, .int .i64 0]).alloc (.cells #[.int .i64 kd, .string t, .int .i64 nn, .int .i64 zz, .slice cp cn kc, .int .i64 aa] 34))
  have HB2 := Lib.hid (Blk.new (w.alloc (.cells #[.int .i64 0, .int .i64 0] 27)) 34 #[.int .i64 kd, .string t, .int .i64 nn, .int .i64 zz, .slice cp cn kc, .int .i64 aa])
  have HV := Lib.hid hV
  have HK := Lib.hid hK
  have HKA := Lib.hid hKA
  have HH := Lib.hid h
  have HKD := Lib.hid hkd
  have HN := Lib.hid hn
  have HCN := Lib.hid hcn
  have HE0 := Lib.hid (show E.length ≤ q + pos 0 by rw [hK.from_]; exact hE)
  have HNL := Lib.hid hnl
  have HC := Lib.hid hC
  have HG := Lib.hid hg
  have HCH := Lib.hid hch
  have hfin := Lib.hid fun (now : Nat) => fine_each (q := q) hK hk (fun x E h1 h2 h3 => fine_look hC f now x q E (by omega) h2 h3)
  clear hop hV hK hKA h hkd hn hcn hE hnl hC hQ hg hch
  go_enter Try.func20, Try.ntmps20
  go_wp2_with (first | (go_at_call 29; refine (HO _).mono ?_; rintro e w' ⟨rfl, rfl⟩))
  obtain ⟨w2, hw2⟩ : ∃ w2, w2 = (w.alloc (.cells #[.int .i64 0, .int .i64 0] 27)).alloc (.cells #[.int .i64 kd, .string t, .int .i64 nn, .int .i64 zz, .slice cp cn kc, .int .i64 aa] 34) := ⟨_, rfl⟩
  rw [← hw2] at HB HB2 ⊢
  have hs2 := (HH.out.alloc (.cells #[.int .i64 0, .int .i64 0] 27)).alloc (.cells #[.int .i64 kd, .string t, .int .i64 nn, .int .i64 zz, .slice cp cn kc, .int .i64 aa] 34)
  have hb3 : Below w.heap.size w w2 := by rw [hw2]; exact ((Below.refl w.heap.size w).alloc (Nat.le_refl _) _).alloc (by simp) _
  rw [← hw2] at hs2
  obtain ⟨ch2, hch2⟩ : ∃ ch2, ch2 = ch := ⟨_, rfl⟩
  obtain ⟨now2, hnow2⟩ : ∃ now2, now2 = now := ⟨_, rfl⟩
  obtain ⟨g2, hg2⟩ : ∃ g2, g2 = g := ⟨_, rfl⟩
  obtain ⟨m2, hm22⟩ : ∃ m2, m2 = m := ⟨_, rfl⟩
  rw [← hch2] at hs2
  have HS2 := Lib.hid hs2
  have HC2 := Lib.hid (show ch2.length = now2 + 1 by rw [hch2, HCH.out, hnow2])
  have HG2 := Lib.hid (show ch2[now2]? = some (g2, m2) by rw [hch2, hnow2, HG.out, hg2, hm22])
  have HPOP : Hid (∀ wr E' fs', Chg F m2 w2 wr → Sm w0 wr l (some ⟨b, o, none⟩) cap R F ch2 E' fs' → Chg F m w wr ∧ Sm w0 wr l (some ⟨b, o, none⟩) cap R F ch E' fs') := fun wr E' fs' h1 h2 => by
    rw [hch2] at h2; rw [hm22] at h1
    exact ⟨(Chg.below hb3).trans h1, h2⟩
  have HPB : Hid (∀ wr, Chg F m2 w2 wr → Chg F m w wr) := fun wr h1 => by rw [hm22] at h1; exact (Chg.below hb3).trans h1
  have HBw := HB
  have x4 : w2.cell? ⟨w.heap.size + 1, 4, none⟩ = some (.slice cp cn kc) := by have := HB2.out.cell 4; simp at this; simpa using this
  have lB2 : w.heap.size + 1 < w2.heap.size := by have := HB2.out.lt; simp at this; exact this
  have hne : w.heap.size ≠ m2 := by omega
  have HT : Hid (∀ r, each (look l f now2) (kidsAt l k) E = r → kidsF l (look l f) now k E = r) := fun r hr => by
    unfold kidsF; rw [if_neg (by rw [HP.out]; simp), ← hr, hnow2]
  have hn2 : now2 + f ≤ 1000000 := by omega
  rw [← hg2]
  clear hs2 hb3 hw2 HO hch2 hnow2 hg2 hm22 c0 c1 c2 c3 c4 c5 r0
  have hneF : w.heap.size ≠ F := by omega
  have HRL : Hid (RelK w0 w2 l (some ⟨b, o, none⟩) cap R F ch2 m2 fs f now2 k q pos (each (look l f now2) (kidsAt l k) E) 0 w2) :=
    ⟨E, [], fs, Chg.refl _ _ _, HS2.out, rfl, HNL.out, HE0.out, by rw [pre_nil]; rfl⟩
  obtain ⟨tot, htot⟩ : ∃ tot, tot = each (look l f now2) (kidsAt l k) E := ⟨_, rfl⟩
  rw [← htot] at HRL
  have HTO := Lib.hid htot
  clear htot
  go_wp2
  go_loopw [26] (fun v wr => ∃ j : Nat, j ≤ cn ∧ v = .int .i64 j ∧ Hid (RelK w0 w2 l (some ⟨b, o, none⟩) cap R F ch2 m2 fs f now2 k q pos tot j wr) ∧ Blk wr w.heap.size 27 #[.int .i64 0, .int .i64 0]) (fun v _ => cn - (intOf v).toNat)
  case atStart => exact ⟨0, Nat.zero_le _, rfl, HRL.out, HBw.out⟩
  clear HRL x4 HBw
  obtain ⟨j, hj, rfl, HR, hY⟩ := hrel
  obtain ⟨E', W, fs', hc, hs, hfs, hnl, hb', ht⟩ := HR.out
  have HCg := Lib.hid hc
  have HSr := Lib.hid hs
  have HFS := Lib.hid hfs
  have HNl := Lib.hid hnl
  have HTt := Lib.hid ht
  have HY := Lib.hid hY
  clear hc hfs hnl ht hY HR
  by_cases hlt : j < cn
  · have hjl : j < (kidsAt l k).length := by have := HCN.out; omega
    obtain ⟨kb, ko, rfl, hkb, hkc⟩ := HKA.out (by omega)
    obtain ⟨x, hx1, hx2, hx3, hx4⟩ := HK.out.lt j hjl
    have d0 : wr.cell? ⟨kb, ko + j, none⟩ = some (.int .i64 x) := by
      have := hkc j hjl
      rw [hx1] at this
      exact (hs.bel.cell (p := ⟨kb, ko + j, none⟩) hkb).trans this
    have hkb2 : kb < wr.heap.size := Nat.lt_of_lt_of_le hkb hs.bel.size
    have hcall := HV.out wr ch2 E' fs' now2 x g2 m2 q hs HC2.out HG2.out (by omega) (by omega) hn2 (by omega) (by omega) HNl.out
    have hfine := fine_look HC.out f now2 x q E' (by omega) (by omega) (by omega)
    have HD := Lib.hid (show each (look l f now2) ((kidsAt l k).drop j) E' = (look l f now2 x E').bind (each (look l f now2) ((kidsAt l k).drop (j + 1))) by rw [each_drop hjl, hx1, Int.toNat_natCast])
    clear hs hkc hx1 hx4
    go_wp2_with (go_at_call 10; refine hcall.mono ?_)
    intro e w3 hd
    cases hr : look l f now2 x E' with
    | out => rw [hr] at hfine; exact hfine.elim
    | bad c a =>
      rw [hr] at hd hfine
      obtain ⟨rfl, hc3⟩ := hd
      have hB := hc3.blk HY.out hneF hne
      have HF : Hid (∀ o, Q (.returned (.agg #[.int .i64 c, .int .i64 a])) (((w3.setCell ⟨w.heap.size, 0, none⟩ (.int .i64 c)).setCell ⟨w.heap.size, 1, none⟩ (.int .i64 a)).alloc o)) := fun o => by
        rw [HQ.out, HT.out (.bad c a) (by rw [← HTO.out, HTt.out, HD.out, hr]; rfl)]
        exact ⟨rfl, ((HPB.out _ (HCg.out.trans hc3)).box2 (Nat.le_refl _) _ _).alloc _⟩
      have y0 : w3.cell? ⟨w.heap.size, 0, none⟩ = some (.int .i64 0) := by rw [hB.cell]; rfl
      have y1 : w3.cell? ⟨w.heap.size, 1, none⟩ = some (.int .i64 0) := by rw [hB.cell]; rfl
      have g0 := hB.frozen 0
      have g1 := hB.frozen 1
      have lY := hB.lt
      have hz := (set2 hB (.int .i64 c) (.int .i64 a)).alloc (.cells #[.int .i64 c, .int .i64 a] 27)
      have Z0 := Lib.hid (hz.cell 0)
      have Z1 := Lib.hid (hz.cell 1)
      clear hB hz hcall hc3 hr
      rcases hfine with rfl | rfl
      all_goals
        go_wp2
        have z0 := Z0.out
        have z1 := Z1.out
        refine bodyPost_ret (v := .agg #[_, _]) (by simp [results, Try.results20, go_sem, z0, z1]; exact ⟨rfl, rfl⟩) rfl ?_
        exact HF.out _
    | ok E2 W2 =>
      rw [hr] at hd hfine
      obtain ⟨rfl, hc3, hs3⟩ := hd
      have HY3 := Lib.hid (hc3.blk HY.out hneF hne)
      have HREL : Hid (RelK w0 w2 l (some ⟨b, o, none⟩) cap R F ch2 m2 fs f now2 k q pos tot (j + 1) (w3.alloc (.cells #[.int .i64 0, .int .i64 0] 27))) :=
        ⟨E2, W ++ W2, _, (HCg.out.trans hc3).alloc _, hs3.alloc _, by rw [HFS.out, ov_app], HNl.out.ov hfine.2, by have := hfine.1; omega, by rw [HTt.out, HD.out, hr]; show ((each _ _ E2).pre W2).pre W = _; rw [pre_pre]⟩
      clear hcall hc3 hs3 hr hfine d0
      go_wp2
      go_roundw
      case rel => exact ⟨j + 1, by omega, by go_num, HREL.out, HY3.out.alloc _⟩
      case measure => simp [intOf]; omega
  · have hje : j = cn := by omega
    have HR : Hid (tot = .ok E' W) := by
      have := HTt.out
      rw [each_end (by have := HCN.out; omega)] at this
      rw [this]
      exact congrArg (Rs.ok E') (by simp)
    obtain ⟨hc4, hs4⟩ := HPOP.out _ _ _ HCg.out hs
    have hB := HY.out
    have y0 : wr.cell? ⟨w.heap.size, 0, none⟩ = some (.int .i64 0) := by rw [hB.cell]; rfl
    have y1 : wr.cell? ⟨w.heap.size, 1, none⟩ = some (.int .i64 0) := by rw [hB.cell]; rfl
    have g0 := hB.frozen 0
    have g1 := hB.frozen 1
    have lY := hB.lt
    have hz := set2 hB (.int .i64 0) (.int .i64 0)
    have Z0 := Lib.hid (hz.cell 0)
    have Z1 := Lib.hid (hz.cell 1)
    have HC4 := Lib.hid hc4
    have HS4 := Lib.hid hs4
    clear hB hz hc4 hs4 hs
    go_wp2
    have z0 := Z0.out
    have z1 := Z1.out
    refine bodyPost_ret (v := .agg #[.int .i64 0, .int .i64 0]) (by simp [results, Try.results20, go_sem, z0, z1]) rfl ?_
    rw [HQ.out, HT.out (.ok E' W) (by rw [← HTO.out, HR.out])]
    exact Dn.fine HC4.out HS4.out hL HY.out (Nat.le_refl _) HFS.out

end
end Go.Proofs.Ytmghjfphlneblaa.Sc
