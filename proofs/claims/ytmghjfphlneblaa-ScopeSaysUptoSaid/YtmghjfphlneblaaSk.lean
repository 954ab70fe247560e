/-
  Contract of visit: a node and all below it are looked for as the plain function says.
-/
import Derived.Test.YtmghjfphlneblaaSj
namespace Go.Proofs.Ytmghjfphlneblaa.Sc
open Go.RowKit
open Tr

section
variable {w0 w w2 : World} {l : List Nd} {p : Option Addr} {cap R F : Nat} {ch : Ch} {E : Env} {fs : List Int}
theorem own_step (hC : ∀ j, j < l.length → codeAt l j = 0) (hl : l.length ≤ 600) {now k g m b : Nat} (hk : k < l.length) (hch : ch.length = now + 1) (hg : ch[now]? = some (g, m)) (hnow : now ≤ 1000000) (hb : b ≤ 1000000) :
    StepF w0 l p cap R F ch m g k 21 b (own l now k) :=
  fun _ _ _ h hE hn => own_any h hch hg hk hl (by omega) hnow (hC k hk) hn
theorem kids_step {f : Nat} (hV : VisitOK w0 l p cap R F f) (hC : ∀ j, j < l.length → codeAt l j = 0) (hl : l.length ≤ 600) {now k g m q : Nat} (hk : k < l.length) (hkf : k < f + 1) (hch : ch.length = now + 1) (hg : ch[now]? = some (g, m)) (hnow : now + (f + 1) ≤ 1000000) (hq : q + k ≤ 1000000) :
    StepF w0 l p cap R F ch m g k 20 (q + St l k) (kidsF l (look l f) now k) := by
  cases hop : opB (kindAt l k) with
  | true => exact kids_open hV hC hl hk hkf hch hg hnow hq hop
  | false => exact kids_plain hV hC hl hk hkf hch hg hnow hq hop
theorem fine_kids_look (hC : ∀ j, j < l.length → codeAt l j = 0) {f now k q : Nat} {E : Env} (hk : k < l.length) (hkf : k < f + 1) (hE : E.length ≤ q + St l k) : Fine l (q + k) (kidsF l (look l f) now k E) :=
  fine_kids hk (hC k hk) (fun now x E'' h1 h2 h3 => fine_look hC f now x q E'' (by omega) h2 h3) hE
/-- what a store of what came of two steps gives -/
theorem Dn.lift {m B : Nat} {r : Rs} {e : Ending} (hb : Below w.heap.size w w2) (hL : w0.heap.size ≤ w.heap.size) (hB : Blk w2 B 27 #[.int .i64 0, .int .i64 0]) (hBw : w.heap.size ≤ B) (hBF : B ≠ F) (hBm : B ≠ m) {w3 : World} (h : Dn w0 w2 l p cap R F ch m fs r e w3) (hr : r ≠ .out) :
    ∃ c a : Int, e = .returned (.agg #[.int .i64 c, .int .i64 a]) ∧ Blk w3 B 27 #[.int .i64 0, .int .i64 0] ∧ Dn w0 w l p cap R F ch m fs r (.returned (.agg #[.int .i64 c, .int .i64 a])) ((w3.setCell ⟨B, 0, none⟩ (.int .i64 c)).setCell ⟨B, 1, none⟩ (.int .i64 a)) := by
  cases r with
  | out => exact absurd rfl hr
  | bad c a =>
    obtain ⟨rfl, hc⟩ := h
    exact ⟨c, a, rfl, hc.blk hB hBF hBm, rfl, ((Chg.below hb).trans hc).box2 hBw _ _⟩
  | ok E' W =>
    obtain ⟨rfl, hc, hs⟩ := h
    have h3 := hc.blk hB hBF hBm
    exact ⟨0, 0, rfl, h3, Dn.fine ((Chg.below hb).trans hc) hs hL h3 hBw rfl⟩

set_option maxHeartbeats 8000000 in
set_option maxRecDepth 100000 in
theorem visit_step {f : Nat} (hV : VisitOK w0 l p cap R F f) (hC : ∀ j, j < l.length → codeAt l j = 0) (hl : l.length ≤ 600) : VisitOK w0 l p cap R F (f + 1) := by
  intro w ch E fs now k g m q h hch hg hk hkf hnow hE hq hnl
  obtain ⟨hm1, hm2, hg1⟩ := h.m_lt hg
  have hF := h.fnd.lt
  have hle := St_le l k
  have hown : ∀ b, b ≤ 1000000 → StepF w0 l p cap R F ch m g k 21 b (own l now k) := fun b hb => own_step hC hl hk hch hg (by omega) hb
  have hkid : ∀ q, q + k ≤ 1000000 → StepF w0 l p cap R F ch m g k 20 (q + St l k) (kidsF l (look l f) now k) := fun q hq => kids_step hV hC hl hk hkf hch hg hnow hq
  have hout := (fine_look hC (f + 1) now k q E hkf hk hE).out
  obtain ⟨r, hr⟩ : ∃ r, r = look l (f + 1) now k E := ⟨_, rfl⟩
  rw [← hr] at hout ⊢
  obtain ⟨b, o, hp, hb, hN, hN2⟩ := h.node hk
  obtain ⟨c0, c1, c2, c3, c4, c5⟩ := hN2 w h.bel
  obtain ⟨q2, r0, qf, ⟨v, qv⟩, qF, qR⟩ := h.wants hk
  rw [hp] at r0
  rw [← kindAt_get hk] at c0
  have hbb : b < w.heap.size := Nat.lt_of_lt_of_le hb h.bel.size
  obtain ⟨kd, hkd⟩ : ∃ kd, kd = kindAt l k := ⟨_, rfl⟩
  rw [← hkd] at c0
  have HL := Lib.hid h.bel.size
  have hlk : look l (f + 1) now k E = if kindAt l k = 12 then (kidsF l (look l f) now k E).bind (own l now k) else (own l now k E).bind (kidsF l (look l f) now k) := rfl
  have hw1 : ∀ cs, Below w.heap.size w ((w.alloc (.cells #[.int .i64 0, .int .i64 0] 27)).alloc (.cells cs 41)) := fun cs => ((Below.refl w.heap.size w).alloc (Nat.le_refl _) _).alloc (by simp) _
  have hBx : ∀ cs, Blk ((w.alloc (.cells #[.int .i64 0, .int .i64 0] 27)).alloc (.cells cs 41)) w.heap.size 27 #[.int .i64 0, .int .i64 0] := fun cs => (Blk.new w 27 #[.int .i64 0, .int .i64 0]).alloc _
  have hRw : ∀ cs, Blk ((w.alloc (.cells #[.int .i64 0, .int .i64 0] 27)).alloc (.cells cs 41)) (w.heap.size + 1) 41 cs := fun cs => by have := Blk.new (w.alloc (.cells #[.int .i64 0, .int .i64 0] 27)) 41 cs; rw [World.size_alloc] at this; exact this
  by_cases h12 : kd = 12
  · have hr2 : r = (kidsF l (look l f) now k E).bind (own l now k) := by rw [hr, hlk, if_pos (by rw [← hkd]; exact h12)]
    have HS1 := hkid q (by omega)
    have HS2 := hown (q + k) (by omega)
    have HF1 : ∀ E, E.length ≤ q + St l k → Fine l (q + k) (kidsF l (look l f) now k E) := fun E hE => fine_kids_look hC hk hkf hE
    have HF2 : ∀ E, E.length ≤ q + k → Fine l 100000000 (own l now k E) := fun E hE => fine_own hk (by omega) (fun _ => by omega)
    have hE' := hE
    subst h12
    have hin := inTurn_two (id1 := 20) (id2 := 21) ((h.alloc (.cells #[.int .i64 0, .int .i64 0] 27)).alloc (.cells #[.func (.func 20) #[.pointer (some ⟨R, 0, none⟩)] #[], .func (.func 21) #[.pointer (some ⟨R, 0, none⟩)] #[]] 41)) hg hE' hnl (hRw _) entKids entOwn HS1 HS2 HF1 HF2
    rw [← hr2] at hin
    obtain ⟨Q, hQ⟩ : ∃ Q : Ending → World → Prop, Q = Dn w0 w l p cap R F ch m fs r := ⟨_, rfl⟩
    rw [← hQ]
    have HQ := Lib.hid hQ
    have HLIFT : Hid (∀ (e : Ending) (w3 : World), Dn w0 ((w.alloc (.cells #[.int .i64 0, .int .i64 0] 27)).alloc (.cells #[.func (.func 20) #[.pointer (some ⟨R, 0, none⟩)] #[], .func (.func 21) #[.pointer (some ⟨R, 0, none⟩)] #[]] 41)) l p cap R F ch m fs r e w3 → ∃ c a : Int, e = .returned (.agg #[.int .i64 c, .int .i64 a]) ∧ Blk w3 w.heap.size 27 #[.int .i64 0, .int .i64 0] ∧ Dn w0 w l p cap R F ch m fs r (.returned (.agg #[.int .i64 c, .int .i64 a])) ((w3.setCell ⟨w.heap.size, 0, none⟩ (.int .i64 c)).setCell ⟨w.heap.size, 1, none⟩ (.int .i64 a))) :=
      fun e w3 hd => hd.lift (hw1 _) HL.out (hBx _) (Nat.le_refl _) (by omega) (by omega) hout
    have hn6 : l.length ≤ 1000000 := by omega
    clear hQ HS1 HS2 HF1 HF2 hE' hr2 hr hlk hw1 hBx hRw hown hkid hnl hN hN2 c1 c2 c3 c4 c5 q2 qf qv h hout hV hC hkd hch hg hp
    obtain ⟨n, hn⟩ : ∃ n, n = l.length := ⟨_, rfl⟩
    rw [← hn] at r0 hk hl
    clear hn6 hn
    go_enter Try.func10, Try.ntmps10
    go_wp2_with (go_at_call 19; refine hin.mono ?_)
    intro e w3 hd
    obtain ⟨c, a, rfl, hB, hf⟩ := HLIFT.out e w3 hd
    have y0 : w3.cell? ⟨w.heap.size, 0, none⟩ = some (.int .i64 0) := by rw [hB.cell]; rfl
    have y1 : w3.cell? ⟨w.heap.size, 1, none⟩ = some (.int .i64 0) := by rw [hB.cell]; rfl
    have g0 := hB.frozen 0
    have g1 := hB.frozen 1
    have lY := hB.lt
    have hz := set2 hB (.int .i64 c) (.int .i64 a)
    have Z0 := Lib.hid (hz.cell 0)
    have Z1 := Lib.hid (hz.cell 1)
    have HF := Lib.hid hf
    clear hd hB hf hz hin HLIFT
    go_wp2
    have z0 := Z0.out
    have z1 := Z1.out
    refine bodyPost_ret (v := .agg #[.int .i64 c, .int .i64 a]) (by simp [results, Try.results10, go_sem, z0, z1]) rfl ?_
    rw [HQ.out]
    exact HF.out
  · have hr2 : r = (own l now k E).bind (kidsF l (look l f) now k) := by rw [hr, hlk, if_neg (by rw [← hkd]; exact h12)]
    obtain ⟨q', hq', hq1, hq2⟩ : ∃ q', q ≤ q' ∧ q' ≤ q + 1 ∧ (kindAt l k = 4 → q' = q + 1) := by
      by_cases h4 : kindAt l k = 4
      · exact ⟨q + 1, by omega, by omega, fun _ => rfl⟩
      · exact ⟨q, by omega, by omega, fun e => absurd e h4⟩
    have HS1 := hown (q + St l k) (by omega)
    have HS2 := hkid q' (by omega)
    have HF1 : ∀ E, E.length ≤ q + St l k → Fine l (q' + St l k) (own l now k E) := fun E hE => by
      refine fine_own hk (by omega) (fun h4 => ?_)
      rcases h4 with h4 | h4
      · have := hq2 h4; omega
      · exact absurd (by rw [hkd]; exact h4) h12
    have HF2 : ∀ E, E.length ≤ q' + St l k → Fine l 100000000 (kidsF l (look l f) now k E) := fun E hE => (fine_kids_look hC hk hkf hE).mono (by omega)
    have hE' := hE
    have h12' : (kd == 12) = false := by simpa using h12
    clear hq' hq1 hq2 h12
    have hin := inTurn_two (id1 := 21) (id2 := 20) ((h.alloc (.cells #[.int .i64 0, .int .i64 0] 27)).alloc (.cells #[.func (.func 21) #[.pointer (some ⟨R, 0, none⟩)] #[], .func (.func 20) #[.pointer (some ⟨R, 0, none⟩)] #[]] 41)) hg hE' hnl (hRw _) entOwn entKids HS1 HS2 HF1 HF2
    rw [← hr2] at hin
    obtain ⟨Q, hQ⟩ : ∃ Q : Ending → World → Prop, Q = Dn w0 w l p cap R F ch m fs r := ⟨_, rfl⟩
    rw [← hQ]
    have HQ := Lib.hid hQ
    have HLIFT : Hid (∀ (e : Ending) (w3 : World), Dn w0 ((w.alloc (.cells #[.int .i64 0, .int .i64 0] 27)).alloc (.cells #[.func (.func 21) #[.pointer (some ⟨R, 0, none⟩)] #[], .func (.func 20) #[.pointer (some ⟨R, 0, none⟩)] #[]] 41)) l p cap R F ch m fs r e w3 → ∃ c a : Int, e = .returned (.agg #[.int .i64 c, .int .i64 a]) ∧ Blk w3 w.heap.size 27 #[.int .i64 0, .int .i64 0] ∧ Dn w0 w l p cap R F ch m fs r (.returned (.agg #[.int .i64 c, .int .i64 a])) ((w3.setCell ⟨w.heap.size, 0, none⟩ (.int .i64 c)).setCell ⟨w.heap.size, 1, none⟩ (.int .i64 a))) :=
      fun e w3 hd => hd.lift (hw1 _) HL.out (hBx _) (Nat.le_refl _) (by omega) (by omega) hout
    have hn6 : l.length ≤ 1000000 := by omega
    clear hQ HS1 HS2 HF1 HF2 hE' hr2 hr hlk hw1 hBx hRw hown hkid hnl hN hN2 c1 c2 c3 c4 c5 q2 qf qv h hout hV hC hkd hch hg hp
    obtain ⟨n, hn⟩ : ∃ n, n = l.length := ⟨_, rfl⟩
    rw [← hn] at r0 hk hl
    clear hn6 hn
    go_enter Try.func10, Try.ntmps10
    go_wp2_with (go_at_call 19; refine hin.mono ?_)
    intro e w3 hd
    obtain ⟨c, a, rfl, hB, hf⟩ := HLIFT.out e w3 hd
    have y0 : w3.cell? ⟨w.heap.size, 0, none⟩ = some (.int .i64 0) := by rw [hB.cell]; rfl
    have y1 : w3.cell? ⟨w.heap.size, 1, none⟩ = some (.int .i64 0) := by rw [hB.cell]; rfl
    have g0 := hB.frozen 0
    have g1 := hB.frozen 1
    have lY := hB.lt
    have hz := set2 hB (.int .i64 c) (.int .i64 a)
    have Z0 := Lib.hid (hz.cell 0)
    have Z1 := Lib.hid (hz.cell 1)
    have HF := Lib.hid hf
    clear hd hB hf hz hin HLIFT
    go_wp2
    have z0 := Z0.out
    have z1 := Z1.out
    refine bodyPost_ret (v := .agg #[.int .i64 c, .int .i64 a]) (by simp [results, Try.results10, go_sem, z0, z1]) rfl ?_
    rw [HQ.out]
    exact HF.out
theorem visit_all (hC : ∀ j, j < l.length → codeAt l j = 0) (hl : l.length ≤ 600) : ∀ f, VisitOK w0 l p cap R F f := by
  intro f
  induction f with
  | zero => intro w ch E fs now k g m q _ _ _ _ h; omega
  | succ f ih => exact visit_step ih hC hl
end
end Go.Proofs.Ytmghjfphlneblaa.Sc
