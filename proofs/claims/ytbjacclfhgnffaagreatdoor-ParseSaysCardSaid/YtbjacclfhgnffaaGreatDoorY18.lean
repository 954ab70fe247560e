/-
  Joined texts of this claim: Va, Qp, Qq, Qr.
-/
import Derived.Test.YtbjacclfhgnffaaGreatDoorY17
import Derived.Deep.LoopGhost
set_option linter.unusedVariables false
set_option linter.unusedSimpArgs false
/-
  The contract of inTurn for steps each of which leads from what holds ahead of it to what holds behind it.
-/
namespace Go.Proofs.YtbjacclfhgnffaaGreatDoor
open Go.RowKit
open Tk (T4 bstr)
open Tr (Nd Blk KidsAt)

/-- what a step does that leads to what holds behind it -/
def DidI (B : Nat) (I : S3 → World → Prop) (w : World) : R3 → Ending → World → Prop
  | .ok s, e, w' => e = .returned .nilIface ∧ Ext B w w' ∧ I s w'
  | .bad c a, e, w' => e = .returned (errV c a) ∧ Ext B w w'
  | .out, _, _ => True
/-- a function value that does what f does, from what holds ahead of it to what holds behind it -/
def StepI (B : Nat) (I J : S3 → World → Prop) (w0 : World) (v : Value) (f : F3) : Prop :=
  ∃ id bound caps, v = .func (.func id) bound caps ∧ (∀ args w, (callFunc id args).run Tryz.prog w = .ok (.enter id args) w) ∧ ∀ w s, Ext B w0 w → I s w → f s ≠ .out → Calls Tryz.prog id (bound ++ caps) w (DidI B J w (f s))
theorem StepI.ext {B : Nat} {I J : S3 → World → Prop} {w0 w1 : World} {v : Value} {f : F3} (h : StepI B I J w0 v f) (hx : Ext B w0 w1) : StepI B I J w1 v f := by
  obtain ⟨id, bound, caps, hv, he, h⟩ := h
  exact ⟨id, bound, caps, hv, he, fun w s h1 h2 h3 => h w s (hx.trans h1) h2 h3⟩
theorem StepI.of {B T E : Nat} {w0 : World} {v : Value} {f : F3} (h : StepV B T E w0 v f) : StepI B (fun s w => Ps B T E w s) (fun s w => Ps B T E w s) w0 v f := by
  obtain ⟨id, bound, caps, hv, he, h⟩ := h
  refine ⟨id, bound, caps, hv, he, fun w s h1 h2 h3 => (h w s h1 h2 h3).mono fun e w' hd => ?_⟩
  cases hf : f s with
  | out => trivial
  | ok s1 => rw [hf] at hd; exact hd
  | bad c a => rw [hf] at hd; exact hd
/-- steps in a row of cells -/
structure StepsI (B : Nat) (I : Nat → S3 → World → Prop) (w0 : World) (g : Nat) (vs : List Value) (fs : List F3) : Prop where
  len : vs.length = fs.length
  few : vs.length ≤ 1000
  lt : g < w0.heap.size
  no : ¬ Own B w0 g
  cell : ∀ j, (h : j < vs.length) → w0.cell? ⟨g, j, none⟩ = some vs[j]
  step : ∀ j, (h1 : j < vs.length) → (h2 : j < fs.length) → StepI B (I j) (I (j + 1)) w0 vs[j] fs[j]

set_option maxHeartbeats 4000000 in
set_option maxRecDepth 100000 in
theorem inTurnG {B : Nat} {I : Nat → S3 → World → Prop} {w : World} {s : S3} {g cap : Nat} {vs : List Value} {fs : List F3} (h : I 0 s w) (hS : StepsI B I w g vs fs) (hr : seqF fs s ≠ .out) :
    Calls Tryz.prog 27 #[.slice (some ⟨g, 0, none⟩) vs.length cap] w (DidI B (I vs.length) w (seqF fs s)) := by
  obtain ⟨r, hrr⟩ : ∃ r, r = seqF fs s := ⟨_, rfl⟩
  rw [← hrr] at hr ⊢
  have HR0 := Lib.hid hr
  obtain ⟨Q, hQ⟩ : ∃ Q : Ending → World → Prop, Q = DidI B (I vs.length) w r := ⟨_, rfl⟩
  rw [← hQ]
  have HQ := Lib.hid hQ
  clear hQ hr
  have HS := Lib.hid hS
  have hm := hS.few
  obtain ⟨n, hn⟩ : ∃ n, n = vs.length := ⟨_, rfl⟩
  have H := Lib.hid h
  have HM0 : Hid (Mid fs r 0 s) := ⟨Nat.zero_le _, by rw [hrr]; rfl⟩
  rw [← hn] at hm ⊢
  have Hn := Lib.hid hn
  clear h hS hrr hn
  go_enter Tryz.func27, Tryz.ntmps27
  go_wp2
  go_loopw [8] (fun v wr => ∃ (k : Nat) (s1 : S3), k ≤ n ∧ v = .int .i64 k ∧ Hid (Mid fs r k s1) ∧ Ext B w wr ∧ Hid (I k s1 wr)) (fun v _ => n - (intOf v).toNat)
  case atStart => exact ⟨0, s, Nat.zero_le _, rfl, HM0, Ext.refl _ _, H⟩
  case round =>
    obtain ⟨k, s1, hk, rfl, HM, hx, HP⟩ := hrel
    have HX := Lib.hid hx
    clear hx
    by_cases hlt : k < n
    · have hkv : k < vs.length := by have := Hn.out; omega
      have hkf : k < fs.length := by have := Hn.out; have := HS.out.len; omega
      have c0 : wr.cell? ⟨g, k, none⟩ = some vs[k] := (HX.out.cell (p := ⟨g, k, none⟩) HS.out.lt HS.out.no).trans (HS.out.cell k hkv)
      obtain ⟨id, bound, caps, hvk, hent, hst⟩ := HS.out.step k hkv hkf
      rw [hvk] at c0
      have hstep := HM.out.step hkf
      have hne : fs[k] s1 ≠ .out := fun e => HR0.out (by rw [hstep, e]; rfl)
      have hcall := hst wr s1 HX.out HP.out hne
      have HSt := Lib.hid hstep
      clear hst hvk hstep hne
      go_wp2_with (refine hcall.mono ?_)
      intro e w2 hd
      cases hf : fs[k] s1 with
      | out => rw [hf] at hd; exact absurd (by rw [HSt.out, hf]; rfl) HR0.out
      | bad c a =>
        rw [hf] at hd
        obtain ⟨rfl, hx2⟩ := hd
        have HX2 := Lib.hid (HX.out.trans hx2)
        have HRb : Hid (r = .bad c a) := by have h := HSt.out; rw [hf] at h; exact h
        clear hcall hent hf hx2 c0
        unfold errV
        go_wp2
        rw [HQ.out, HRb.out]
        exact ⟨rfl, HX2.out⟩
      | ok s2 =>
        rw [hf] at hd
        obtain ⟨rfl, hx2, hp2⟩ := hd
        have HX2 := Lib.hid (HX.out.trans hx2)
        have HP2 := Lib.hid hp2
        have HM2 : Hid (Mid fs r (k + 1) s2) := ⟨by omega, by have h := HSt.out; rw [hf] at h; exact h⟩
        clear hcall hent hf hx2 hp2 c0
        go_wp2
        go_roundw
        case rel => exact ⟨k + 1, s2, by omega, by go_num, HM2, HX2.out, HP2⟩
        case measure => simp [intOf]; omega
    · have hkn : k = n := by omega
      have HRk : Hid (r = .ok s1) := by
        have h := HM.out.2
        rw [List.drop_eq_nil_of_le (by have := Hn.out; have := HS.out.len; omega)] at h
        exact h
      have HPn : Hid (I vs.length s1 wr) := by have h := HP; rw [hkn, Hn.out] at h; exact h
      clear HS HP
      go_wp2
      rw [HQ.out, HRk.out]
      exact ⟨rfl, HX.out, HPn.out⟩
end Go.Proofs.YtbjacclfhgnffaaGreatDoor
/-
  The contract of prefixed, by those at fewer steps.
-/
namespace Go.Proofs.YtbjacclfhgnffaaGreatDoor
open Go.RowKit
open Tk (T4 bstr)
open Tr (Nd Blk KidsAt)

theorem tok_box {w : World} {g : Nat} {t : TypeId} {x0 x1 x2 x3 : Value} (h : Blk w g t #[x0, x1, x2, x3]) : w.cell? ⟨g, 0, none⟩ = some x0 ∧ w.cell? ⟨g, 1, none⟩ = some x1 ∧ w.cell? ⟨g, 2, none⟩ = some x2 ∧ w.cell? ⟨g, 3, none⟩ = some x3 := (box4 h).1
/-- a box that holds a token, behind W0 -/
theorem box_far {B T E : Nat} {s : S3} {w W0 : World} {t : TypeId} {x0 x1 x2 x3 : Value} (hp : Ps B T E w s) (hx : Ext B (w.alloc (.cells #[x0, x1, x2, x3] t)) W0) :
    ∀ W, Ext B W0 W → Blk W w.heap.size t #[x0, x1, x2, x3] := fun W h => by
  have hn : ¬ Own B (w.alloc (.cells #[x0, x1, x2, x3] t)) w.heap.size := fun ho => not_own_new ⟨T, E, s, hp⟩ ((own_alloc hp.lt _ _).1 ho)
  exact (hx.trans h).blk (Blk.new _ _ _) hn

set_option maxHeartbeats 8000000 in
set_option maxRecDepth 100000 in
theorem prefixed_step {B T E n : Nat} (H : CallJ B T E n) (w : World) (s : S3) (h : Ps B T E w s) (hr : runJ E (n + 1) .prefixed s ≠ .out) :
    Calls Tryz.prog 104 #[.pointer (some ⟨B, 0, none⟩)] w (Did B T E w (runJ E (n + 1) .prefixed s)) := by
  obtain ⟨r, hrr⟩ : ∃ r, r = runJ E (n + 1) .prefixed s := ⟨_, rfl⟩
  rw [← hrr] at hr ⊢
  obtain ⟨Q, hQ⟩ : ∃ Q : Ending → World → Prop, Q = Did B T E w r := ⟨_, rfl⟩
  rw [← hQ]
  have HQ := Lib.hid hQ
  have HR := Lib.hid hr
  change r = (if prefT (pk E s.L).t = 0 then runJ E n .postfixed s else buildF (mk (prefT (pk E s.L).t) (pk E s.L).t 0 (pk E s.L).a) [wordF E (pk E s.L).t, runJ E n .prefixed] s) at hrr
  have hpk := peek_any h
  unfold tokV at hpk
  obtain ⟨t, ht⟩ : ∃ t, t = pk E s.L := ⟨_, rfl⟩
  rw [← ht] at hpk hrr
  obtain ⟨x, hx⟩ : ∃ x, x = bstr t.t := ⟨_, rfl⟩
  have hpre := fun w => pref_any t.t w
  rw [← hx] at hpk hpre
  have Hx := Lib.hid hx
  have Hh := Lib.hid h
  have hB := h.lt
  clear hQ hr ht hx h
  by_cases hz : prefT t.t = 0
  · rw [if_pos hz] at hrr
    rw [hz] at hpre
    have Hrr := Lib.hid hrr
    clear hz hrr
    go_enter Tryz.func104, Tryz.ntmps104
    go_wp2_with (first | (go_at_call 59; refine hpk.mono ?_; rintro e w1 ⟨rfl, hb⟩) | (go_at_call 159; refine (hpre _).mono ?_; rintro e w' ⟨rfl, rfl⟩))
    have hp1 := (Hh.out.below hb).alloc (.cells #[.int .i64 t.k, .string x, .int .i64 t.v, .int .i64 t.a] 82)
    have hE1 := (Ext.below hb hB).alloc hB (.cells #[.int .i64 t.k, .string x, .int .i64 t.v, .int .i64 t.a] 82)
    have hpo := H.postfixed _ _ hp1 (by rw [← Hrr.out]; exact HR.out)
    rw [← Hrr.out] at hpo
    have HE1 := Lib.hid hE1
    clear hp1 hE1 hb hpk hpre
    refine hpo.mono ?_
    intro e w2 hd
    obtain ⟨v, rfl, hd⟩ := did_ret hd HR.out
    have HD := Lib.hid (did_ext hd HE1.out)
    clear hd hpo
    go_wp2
    (try go_ret)
    rw [HQ.out]
    exact HD.out
  · rw [if_neg hz] at hrr
    have hzb : (prefT t.t == 0) = false := by simpa using hz
    have hne : Hid (buildF (mk (prefT t.t) t.t 0 t.a) [wordF E t.t, runJ E n .prefixed] s ≠ .out) := by rw [hrr] at HR; exact HR
    have Hrr := Lib.hid hrr
    clear hz hrr
    go_enter Tryz.func104, Tryz.ntmps104
    go_wp2_with (first | (go_at_call 59; refine hpk.mono ?_; rintro e w1 ⟨rfl, hb⟩) | (go_at_call 159; refine (hpre _).mono ?_; rintro e w' ⟨rfl, rfl⟩))
    have hp1 := Hh.out.below hb
    have HE1 := Lib.hid ((Ext.below hb hB).alloc hB (.cells #[.int .i64 t.k, .string x, .int .i64 t.v, .int .i64 t.a] 82)).drew
    have HBox := Lib.hid (box_far (t := 82) (x0 := .int .i64 t.k) (x1 := .string x) (x2 := .int .i64 t.v) (x3 := .int .i64 t.a) hp1 (Ext.refl _ _).drew)
    have HP1 := Lib.hid (hp1.alloc (.cells #[.int .i64 t.k, .string x, .int .i64 t.v, .int .i64 t.a] 82)).drew
    clear hp1 hb hpk hpre
    generalize hW1 : w1.alloc (.cells #[.int .i64 t.k, .string x, .int .i64 t.v, .int .i64 t.a] 82) = W1 at *
    clear hW1
    have S1 : Hid (∀ W, Ext B W1.drew W → W.cell? ⟨w1.heap.size, 1, none⟩ = some (.string x) ∧ W.cell? ⟨w1.heap.size, 3, none⟩ = some (.int .i64 t.a)) := fun W hW => ⟨(tok_box (HBox.out W hW)).2.1, (tok_box (HBox.out W hW)).2.2.2⟩
    have S0 : Hid (W1.drew.cell? ⟨w1.heap.size, 1, none⟩ = some (.string x) ∧ W1.drew.cell? ⟨w1.heap.size, 3, none⟩ = some (.int .i64 t.a)) := S1.out _ (Ext.refl _ _)
    have HW : Hid (∀ W, Now B T E s W1.drew W → Calls Tryz.prog 61 #[.pointer (some ⟨B, 0, none⟩), .string x] W fun e w' => ∃ g1 g2, e = .returned (.func (.func 110) #[] #[.pointer (some ⟨g1, 0, none⟩), .pointer (some ⟨g2, 0, none⟩)]) ∧
      Now B T E s W1.drew w' ∧ Ext B W w' ∧ StepV B T E w' (.func (.func 110) #[] #[.pointer (some ⟨g1, 0, none⟩), .pointer (some ⟨g2, 0, none⟩)]) (wordF E t.t)) := fun W hW => by
      have h := word_now hW x
      rw [show x.data.toList = t.t by rw [Hx.out]; rfl] at h
      exact h
    have HN : Hid (∀ W v, Now B T E s W1.drew W → StepV B T E W v (wordF E t.t) → Calls Tryz.prog 76 #[.pointer (some ⟨B, 2, none⟩), .agg #[.int .i64 (prefT t.t), .string x, .int .i64 0, .int .i64 0, .slice none 0 0, .int .i64 t.a], .slice (some ⟨W.heap.size, 0, none⟩) 2 2] (W.alloc (.cells #[v, .func (.func 104) #[.pointer (some ⟨B, 0, none⟩)] #[]] 57)) (Ends B T E W1.drew r)) := fun W v hW hv => by
      have h := build_now hW [v, .func (.func 104) #[.pointer (some ⟨B, 0, none⟩)] #[]] [wordF E t.t, runJ E n .prefixed] rfl (by simp) (step2 hv (stepPrefixed H W)) (mk (prefT t.t) t.t 0 t.a) rfl hne.out 57
      rw [← Hrr.out] at h
      unfold nodeV mk at h
      simp only at h
      rw [← Hx.out] at h
      exact h
    have N0 : Hid (Now B T E s W1.drew W1.drew) := Now.refl HP1.out
    clear HBox HP1
    generalize prefT t.t = pv at *
    go_region_held3 (fun W => W.cell? ⟨w1.heap.size, 1, none⟩ = some (.string x) ∧ W.cell? ⟨w1.heap.size, 3, none⟩ = some (.int .i64 t.a))
      (first | exact S0.out | exact S1.out _ hn5.1 | exact S1.out _ (hn5.alloc _).1 | exact S1.out _ hx9)
      (first | (go_at_call 61; refine (HW.out _ N0.out).mono ?_; rintro e w5 ⟨g1, g2, rfl, hn5, -, hs5⟩) | (go_at_call 76; refine (HN.out _ _ hn5 hs5).mono ?_; rintro e w9 ⟨v, rfl, hd, hx9⟩))
    all_goals
      have HD := Lib.hid (did_ext hd HE1.out)
      clear hd hx9 hs5 hn5
      go_wp2
      (try go_ret)
      rw [HQ.out]
      exact HD.out
end Go.Proofs.YtbjacclfhgnffaaGreatDoor
/-
  The contract of what list gives: items with commas between them, by what the items do.
-/
namespace Go.Proofs.YtbjacclfhgnffaaGreatDoor
open Go.RowKit
open Tk (T4 bstr)
open Tr (Nd Blk KidsAt)

theorem took_yes {B T E : Nat} {w : World} {s : S3} (h : Ps B T E w s) (x : ByteArray) {l : List UInt8} (hl : x.data.toList = l) (ht : (pk E s.L).t = l) :
    Calls Tryz.prog 111 #[.pointer (some ⟨B, 0, none⟩), .string x] w fun e w' => e = .returned (.bool true) ∧ Ext B w w' ∧ Ps B T E w' { s with L := s.L.tail } := by
  refine (took_any h x).mono fun e w' ⟨hx, hc⟩ => ?_
  rcases hc with ⟨_, he, hp⟩ | ⟨hn, _⟩
  · exact ⟨he, hx, hp⟩
  · exact absurd (ht.trans hl.symm) hn
theorem took_no {B T E : Nat} {w : World} {s : S3} (h : Ps B T E w s) (x : ByteArray) {l : List UInt8} (hl : x.data.toList = l) (ht : (pk E s.L).t ≠ l) :
    Calls Tryz.prog 111 #[.pointer (some ⟨B, 0, none⟩), .string x] w fun e w' => e = .returned (.bool false) ∧ Ext B w w' ∧ Ps B T E w' s := by
  refine (took_any h x).mono fun e w' ⟨hx, hc⟩ => ?_
  rcases hc with ⟨h1, _⟩ | ⟨_, he, hp⟩
  · exact absurd (h1.trans hl) ht
  · exact ⟨he, hx, hp⟩
/-- word, and the call of what it gives -/
theorem word_call {B T E : Nat} {s : S3} {W0 W : World} (h : Now B T E s W0 W) (x : ByteArray) (hr : wordF E x.data.toList s ≠ .out) :
    Calls Tryz.prog 61 #[.pointer (some ⟨B, 0, none⟩), .string x] W fun e w' => ∃ g1 g2, e = .returned (.func (.func 110) #[] #[.pointer (some ⟨g1, 0, none⟩), .pointer (some ⟨g2, 0, none⟩)]) ∧
      Ext B W0 w' ∧ Calls Tryz.prog 110 #[.pointer (some ⟨g1, 0, none⟩), .pointer (some ⟨g2, 0, none⟩)] w' (Ends B T E W0 (wordF E x.data.toList s)) := by
  refine (word_now h x).mono fun e w' ⟨g1, g2, he, hn, hx, id, b, c, hv, _, hs⟩ => ⟨g1, g2, he, hn.1, ?_⟩
  cases hv
  have := hs w' s (Ext.refl _ _) hn.2 hr
  have e1 : (#[] ++ #[Value.pointer (some ⟨g1, 0, none⟩), Value.pointer (some ⟨g2, 0, none⟩)] : Array Value) = #[Value.pointer (some ⟨g1, 0, none⟩), Value.pointer (some ⟨g2, 0, none⟩)] := rfl
  rw [e1] at this
  exact this.mono fun e w' hd => ends_of hd hr hn.1
theorem wordF_ne {E : Nat} {t : List UInt8} {s : S3} : wordF E t s ≠ .out := by
  unfold wordF wrongF; split <;> simp

set_option maxHeartbeats 2000000 in
set_option maxRecDepth 100000 in
theorem list_lay {B : Nat} (xo xe : ByteArray) (fn : Fn) (b c : Array Value) (w : World) :
    Calls Tryz.prog 204 #[.pointer (some ⟨B, 0, none⟩), .string xo, .func fn b c, .string xe] w fun e w' =>
      e = .returned (.func (.func 231) #[] #[.pointer (some ⟨w.heap.size, 0, none⟩), .pointer (some ⟨w.heap.size + 1, 0, none⟩), .pointer (some ⟨w.heap.size + 1 + 1 + 1, 0, none⟩), .pointer (some ⟨w.heap.size + 1 + 1, 0, none⟩)]) ∧
      w' = (((w.alloc (.cells #[.pointer (some ⟨B, 0, none⟩)] 87)).alloc (.cells #[.string xo] 9)).alloc (.cells #[.func fn b c] 57)).alloc (.cells #[.string xe] 9) := by
  go_enter Tryz.func204, Tryz.ntmps204
  go_wp2
  go_ret
  exact ⟨rfl, rfl⟩
end Go.Proofs.YtbjacclfhgnffaaGreatDoor
/-
  The contract of the closure that list gives.
-/
namespace Go.Proofs.YtbjacclfhgnffaaGreatDoor
open Go.RowKit
open Tk (T4 bstr)
open Tr (Nd Blk KidsAt)

set_option maxHeartbeats 8000000 in
set_option maxRecDepth 100000 in
theorem listc_any {B T E n : Nat} {w : World} {s : S3} {gp go ge gi : Nat} {xo xe : ByteArray} {o en : List UInt8} {item : Job} {id : FuncId} {b c : Array Value} (ho : xo.data.toList = o) (he : xe.data.toList = en)
    (hbx : ∀ W, Ext B w W → W.cell? ⟨gp, 0, none⟩ = some (.pointer (some ⟨B, 0, none⟩)) ∧ W.cell? ⟨go, 0, none⟩ = some (.string xo) ∧ W.cell? ⟨ge, 0, none⟩ = some (.string xe) ∧ W.cell? ⟨gi, 0, none⟩ = some (.func (.func id) b c))
    (hen : ∀ args w, (callFunc id args).run Tryz.prog w = .ok (.enter id args) w) (hit : ∀ m, m < n → ∀ W s1, Ext B w W → Ps B T E W s1 → runJ E m item s1 ≠ .out → Calls Tryz.prog id (b ++ c) W (Did B T E W (runJ E m item s1)))
    (h : Ps B T E w s) (hr : runJ E (n + 1) (.list o en item) s ≠ .out) :
    Calls Tryz.prog 231 #[.pointer (some ⟨gp, 0, none⟩), .pointer (some ⟨go, 0, none⟩), .pointer (some ⟨ge, 0, none⟩), .pointer (some ⟨gi, 0, none⟩)] w (Did B T E w (runJ E (n + 1) (.list o en item) s)) := by
  obtain ⟨r, hrr⟩ : ∃ r, r = runJ E (n + 1) (.list o en item) s := ⟨_, rfl⟩
  rw [← hrr] at hr ⊢
  obtain ⟨Q, hQ⟩ : ∃ Q : Ending → World → Prop, Q = Did B T E w r := ⟨_, rfl⟩
  rw [← hQ]
  have HQ := Lib.hid hQ
  have HR := Lib.hid hr
  change r = ((wordF E o s).bind fun s1 => if (pk E s1.L).t = en then .ok { s1 with L := s1.L.tail } else runJ E n (.items en item) s1) at hrr
  have Hrr := Lib.hid hrr
  have HBx := Lib.hid hbx
  have HIt := Lib.hid hit
  have Ho := Lib.hid ho
  have He := Lib.hid he
  have HEn := Lib.hid hen
  have hB := h.lt
  have hWc := word_call (B := B) (T := T) (E := E) (W0 := w.drew) (W := w.drew) (Now.refl h.drew) xo wordF_ne
  rw [ho] at hWc
  have HX0 : Hid (Ext B w w.drew) := (Ext.refl _ _).drew
  have S1 : Hid (∀ W, Ext B w.drew W → W.cell? ⟨gp, 0, none⟩ = some (.pointer (some ⟨B, 0, none⟩)) ∧ W.cell? ⟨go, 0, none⟩ = some (.string xo)) := fun W hW => ⟨(HBx.out W (HX0.out.trans hW)).1, (HBx.out W (HX0.out.trans hW)).2.1⟩
  have S0 : Hid (w.drew.cell? ⟨gp, 0, none⟩ = some (.pointer (some ⟨B, 0, none⟩)) ∧ w.drew.cell? ⟨go, 0, none⟩ = some (.string xo)) := S1.out _ (Ext.refl _ _)
  clear hQ hr hrr hbx hit ho he hen h
  go_enter Tryz.func231, Tryz.ntmps231
  go_wp2
  go_region_held3 (fun W => W.cell? ⟨gp, 0, none⟩ = some (.pointer (some ⟨B, 0, none⟩)) ∧ W.cell? ⟨go, 0, none⟩ = some (.string xo))
    (first | exact S0.out | exact S1.out _ hx5 | exact S1.out _ hx6)
    (first | (go_at_call 61; refine hWc.mono ?_; rintro e w5 ⟨g1, g2, rfl, hx5, h77⟩) | (go_at_call 110; refine h77.mono ?_; rintro e w6 ⟨v, rfl, hd, hx6⟩))
  have HX6 := Lib.hid (HX0.out.trans hx6)
  have HD := Lib.hid hd
  clear hx6 hd h77 hx5 hWc S0 S1
  cases hw : wordF E o s with
  | out => exact absurd hw wordF_ne
  | bad c1 a1 =>
    have HD2 := HD.out
    rw [hw] at HD2
    obtain ⟨hv, _⟩ := HD2
    obtain rfl : v = errV c1 a1 := Ending.returned.inj hv
    have HRb : Hid (r = .bad c1 a1) := by have h := Hrr.out; rw [hw] at h; exact h
    clear hv hw HD
    unfold errV
    go_wp2
    (try go_ret)
    rw [HQ.out, HRb.out]
    exact ⟨rfl, HX6.out⟩
  | ok s1 =>
    have HD2 := HD.out
    rw [hw] at HD2
    obtain ⟨hv, _, hp6⟩ := HD2
    obtain rfl : v = .nilIface := Ending.returned.inj hv
    have HR1 : Hid (r = if (pk E s1.L).t = en then .ok { s1 with L := s1.L.tail } else runJ E n (.items en item) s1) := by have h := Hrr.out; rw [hw] at h; exact h
    have HP6 := Lib.hid hp6
    clear hv hw HD hp6 Hrr
    have S4 : Hid (∀ W, Ext B w6.drew W → W.cell? ⟨gp, 0, none⟩ = some (.pointer (some ⟨B, 0, none⟩)) ∧ W.cell? ⟨ge, 0, none⟩ = some (.string xe)) := fun W hW => ⟨(HBx.out W (HX6.out.drew.trans hW)).1, (HBx.out W (HX6.out.drew.trans hW)).2.2.1⟩
    have S3 : Hid (w6.drew.cell? ⟨gp, 0, none⟩ = some (.pointer (some ⟨B, 0, none⟩)) ∧ w6.drew.cell? ⟨ge, 0, none⟩ = some (.string xe)) := S4.out _ (Ext.refl _ _)
    by_cases ht : (pk E s1.L).t = en
    · have htk := took_yes HP6.out.drew xe He.out ht
      have HR2 : Hid (r = .ok { s1 with L := s1.L.tail }) := by have h := HR1.out; rw [if_pos ht] at h; exact h
      clear ht HR1
      go_wp2
      go_region_held3 (fun W => W.cell? ⟨gp, 0, none⟩ = some (.pointer (some ⟨B, 0, none⟩)) ∧ W.cell? ⟨ge, 0, none⟩ = some (.string xe))
        (first | exact S3.out | exact S4.out _ hx7)
        (first | (go_at_call 111; refine htk.mono ?_; rintro e w7 ⟨rfl, hx7, hp7⟩))
      have HX7 := Lib.hid (HX6.out.drew.trans hx7)
      have HP7 := Lib.hid hp7
      clear hx7 hp7 htk S3 S4
      go_wp2
      (try go_ret)
      rw [HQ.out, HR2.out]
      exact ⟨rfl, HX7.out, HP7.out⟩
    · have htk := took_no HP6.out.drew xe He.out ht
      have HR2 : Hid (r = runJ E n (.items en item) s1) := by have h := HR1.out; rw [if_neg ht] at h; exact h
      clear ht HR1
      go_wp2
      go_region_held3 (fun W => W.cell? ⟨gp, 0, none⟩ = some (.pointer (some ⟨B, 0, none⟩)) ∧ W.cell? ⟨ge, 0, none⟩ = some (.string xe))
        (first | exact S3.out | exact S4.out _ hx7)
        (first | (go_at_call 111; refine htk.mono ?_; rintro e w7 ⟨rfl, hx7, hp7⟩))
      have HX7 := Lib.hid (HX6.out.drew.trans hx7)
      have HP7 := Lib.hid hp7
      clear hx7 hp7 htk S3 S4
      go_wp2
      go_loopg [] n (fun k wr => ∃ s2, k ≤ n ∧ Hid (r = runJ E k (.items en item) s2) ∧ Ext B w wr ∧ Ps B T E wr s2)
      case atStart => exact ⟨s1, Nat.le_refl _, HR2, HX7.out, HP7.out⟩
      case round =>
        obtain ⟨s2, hk, HK, hx, hp⟩ := hrel
        have HXr := Lib.hid hx
        have HPr := Lib.hid hp
        clear hx hp HR2 HX7 HP7
        cases gk with
        | zero => exact absurd HK.out HR.out
        | succ m =>
          have HK2 : Hid (r = (runJ E m item s2).bind fun s3 => if (pk E s3.L).t = [44] then runJ E m (.items en item) { s3 with L := s3.L.tail } else wordF E en s3) := HK.out
          have ci := (HBx.out wr HXr.out).2.2.2
          have hne : runJ E m item s2 ≠ .out := fun e => HR.out (by rw [HK2.out, e]; rfl)
          have hcall := HIt.out m (by omega) wr s2 HXr.out HPr.out hne
          have hent := HEn.out
          clear hne HK
          go_wp2_with (refine hcall.mono ?_)
          intro e w8 hd
          cases hf : runJ E m item s2 with
          | out => exact absurd (by rw [HK2.out, hf]; rfl) HR.out
          | bad c1 a1 =>
            rw [hf] at hd
            obtain ⟨rfl, hx8⟩ := hd
            have HX8 := Lib.hid (HXr.out.trans hx8)
            have HRb : Hid (r = .bad c1 a1) := by have h := HK2.out; rw [hf] at h; exact h
            clear hcall hent hf hx8 ci
            unfold errV
            go_wp2
            (try go_ret)
            rw [HQ.out, HRb.out]
            exact ⟨rfl, HX8.out⟩
          | ok s3 =>
            rw [hf] at hd
            obtain ⟨rfl, hx8, hp8⟩ := hd
            have HX8 := Lib.hid (HXr.out.trans hx8)
            have HP8 := Lib.hid hp8
            have HK3 : Hid (r = if (pk E s3.L).t = [44] then runJ E m (.items en item) { s3 with L := s3.L.tail } else wordF E en s3) := by have h := HK2.out; rw [hf] at h; exact h
            have cp := (HBx.out w8 HX8.out).1
            clear hcall hent hf hx8 hp8 ci HK2 HXr HPr
            by_cases ht : (pk E s3.L).t = [44]
            · have htk := took_yes HP8.out ⟨#[44]⟩ rfl ht
              have HK4 : Hid (r = runJ E m (.items en item) { s3 with L := s3.L.tail }) := by have h := HK3.out; rw [if_pos ht] at h; exact h
              clear ht HK3
              go_wp2_with (go_at_call 111; refine htk.mono ?_; rintro e w9 ⟨rfl, hx9, hp9⟩)
              have HX9 := Lib.hid (HX8.out.trans hx9)
              have HP9 := Lib.hid hp9
              clear hx9 hp9 htk
              go_wp2
              go_roundg m
              case rel => exact ⟨_, by omega, HK4, HX9.out, HP9.out⟩
              case measure => omega
            · have htk := took_no HP8.out ⟨#[44]⟩ rfl ht
              have HK4 : Hid (r = wordF E en s3) := by have h := HK3.out; rw [if_neg ht] at h; exact h
              clear ht HK3
              go_wp2_with (go_at_call 111; refine htk.mono ?_; rintro e w9 ⟨rfl, hx9, hp9⟩)
              have HX9 := Lib.hid (HX8.out.trans hx9)
              have hWc := word_call (B := B) (T := T) (E := E) (W0 := w9.drew) (W := w9.drew) (Now.refl hp9.drew) xe wordF_ne
              rw [He.out, ← HK4.out] at hWc
              have S4 : Hid (∀ W, Ext B w9.drew W → W.cell? ⟨gp, 0, none⟩ = some (.pointer (some ⟨B, 0, none⟩)) ∧ W.cell? ⟨ge, 0, none⟩ = some (.string xe)) := fun W hW => ⟨(HBx.out W (HX9.out.drew.trans hW)).1, (HBx.out W (HX9.out.drew.trans hW)).2.2.1⟩
              have S3 : Hid (w9.drew.cell? ⟨gp, 0, none⟩ = some (.pointer (some ⟨B, 0, none⟩)) ∧ w9.drew.cell? ⟨ge, 0, none⟩ = some (.string xe)) := S4.out _ (Ext.refl _ _)
              clear hx9 hp9 htk cp
              go_wp2
              go_region_held3 (fun W => W.cell? ⟨gp, 0, none⟩ = some (.pointer (some ⟨B, 0, none⟩)) ∧ W.cell? ⟨ge, 0, none⟩ = some (.string xe))
                (first | exact S3.out | exact S4.out _ hx5 | exact S4.out _ hx6)
                (first | (go_at_call 61; refine hWc.mono ?_; rintro e w5 ⟨g1, g2, rfl, hx5, h77⟩) | (go_at_call 110; refine h77.mono ?_; rintro e w10 ⟨v, rfl, hd, hx6⟩))
              have HD := Lib.hid (did_ext hd (HX9.out.drew))
              clear hd hx6 hx5 h77 hWc S3 S4
              go_wp2
              (try go_ret)
              rw [HQ.out]
              exact HD.out
end Go.Proofs.YtbjacclfhgnffaaGreatDoor
