/-
  Joined texts of this claim: Qm.
-/
import Derived.Test.YtbjacclfhgnffaaGreatDoorX12
import Derived.Deep.LoopGhost
set_option linter.unusedVariables false
set_option linter.unusedSimpArgs false
/-
  Steps as function values; the contract of inTurn: steps one behind the other.
-/
namespace Go.Proofs.YtbjacclfhgnffaaGreatDoor
open Go.RowKit
open Tk (T4 bstr)
open Tr (Nd Blk KidsAt)

/-- a function value that does what f does, in w0 and in each world behind it -/
def StepV (B T E : Nat) (w0 : World) (v : Value) (f : F3) : Prop :=
  ∃ id bound caps, v = .func (.func id) bound caps ∧ (∀ args w, (callFunc id args).run Tryz.prog w = .ok (.enter id args) w) ∧ ∀ w s, Ext B w0 w → Ps B T E w s → f s ≠ .out → Calls Tryz.prog id (bound ++ caps) w (Did B T E w (f s))
theorem StepV.ext {B T E : Nat} {w0 w1 : World} {v : Value} {f : F3} (h : StepV B T E w0 v f) (hx : Ext B w0 w1) : StepV B T E w1 v f := by
  obtain ⟨id, bound, caps, hv, he, h⟩ := h
  exact ⟨id, bound, caps, hv, he, fun w s h1 h2 h3 => h w s (hx.trans h1) h2 h3⟩
/-- steps in a row of cells -/
def Steps (B T E : Nat) (w : World) (p : Option Addr) (vs : List Value) (fs : List F3) : Prop :=
  vs.length = fs.length ∧ vs.length ≤ 1000 ∧ (0 < vs.length → ∃ g, p = some ⟨g, 0, none⟩ ∧ g < w.heap.size ∧ ¬ Own B w g ∧ ∀ j, (h : j < vs.length) → w.cell? ⟨g, j, none⟩ = some vs[j]) ∧
  ∀ j, (h1 : j < vs.length) → (h2 : j < fs.length) → StepV B T E w vs[j] fs[j]

theorem seqF_take {fs : List F3} {s : S3} : ∀ (k : Nat), k ≤ fs.length → seqF fs s = (seqF (fs.take k) s).bind (seqF (fs.drop k)) := by
  induction fs generalizing s with
  | nil => intro k hk; simp [seqF, R3.bind]
  | cons f fs ih =>
    intro k hk
    cases k with
    | zero => simp [seqF, R3.bind]
    | succ k =>
      simp only [List.take_succ_cons, List.drop_succ_cons, seqF]
      cases hf : f s with
      | ok s1 => simp only [R3.bind]; exact ih k (by simpa using hk)
      | bad c a => rfl
      | out => rfl
theorem seqF_snoc {fs : List F3} {f : F3} {s : S3} : seqF (fs ++ [f]) s = (seqF fs s).bind f := by
  induction fs generalizing s with
  | nil => show (f s).bind .ok = f s; cases f s <;> rfl
  | cons g fs ih =>
    simp only [List.cons_append, seqF]
    cases g s with
    | ok s1 => simp only [R3.bind]; exact ih
    | bad c a => rfl
    | out => rfl
/-- the run so far, and the end that it has from here on -/
def Mid (fs : List F3) (r : R3) (k : Nat) (s1 : S3) : Prop := k ≤ fs.length ∧ r = seqF (fs.drop k) s1
theorem Mid.step {fs : List F3} {r : R3} {k : Nat} {s1 : S3} (h : Mid fs r k s1) (hk : k < fs.length) : r = (fs[k] s1).bind (seqF (fs.drop (k + 1))) := by
  rw [h.2, List.drop_eq_getElem_cons hk]; rfl

set_option maxHeartbeats 4000000 in
set_option maxRecDepth 100000 in
theorem inTurn_any {B T E : Nat} {w : World} {s : S3} {p : Option Addr} {cap : Nat} {vs : List Value} {fs : List F3} (h : Ps B T E w s) (hS : Steps B T E w p vs fs) (hr : seqF fs s ≠ .out) :
    Calls Tryz.prog 27 #[.slice p vs.length cap] w (Did B T E w (seqF fs s)) := by
  obtain ⟨r, hrr⟩ : ∃ r, r = seqF fs s := ⟨_, rfl⟩
  rw [← hrr] at hr ⊢
  have HR0 := Lib.hid hr
  obtain ⟨Q, hQ⟩ : ∃ Q : Ending → World → Prop, Q = Did B T E w r := ⟨_, rfl⟩
  rw [← hQ]
  have HQ := Lib.hid hQ
  clear hQ hr
  obtain ⟨hl, hm, hc, hv⟩ := hS
  obtain ⟨n, hn⟩ : ∃ n, n = vs.length := ⟨_, rfl⟩
  have H := Lib.hid h
  have Hl := Lib.hid hl
  have HC := Lib.hid hc
  have HV := Lib.hid hv
  have HM0 : Hid (Mid fs r 0 s) := ⟨Nat.zero_le _, by rw [hrr]; rfl⟩
  rw [← hn] at hm ⊢
  have Hn := Lib.hid hn
  clear h hl hc hv hrr hn
  go_enter Tryz.func27, Tryz.ntmps27
  go_wp2
  go_loopw [8] (fun v wr => ∃ (k : Nat) (s1 : S3), k ≤ n ∧ v = .int .i64 k ∧ Hid (Mid fs r k s1) ∧ Ext B w wr ∧ Ps B T E wr s1) (fun v _ => n - (intOf v).toNat)
  case atStart => exact ⟨0, s, Nat.zero_le _, rfl, HM0, Ext.refl _ _, H.out⟩
  case round =>
    obtain ⟨k, s1, hk, rfl, HM, hx, hp⟩ := hrel
    have HX := Lib.hid hx
    have HP := Lib.hid hp
    clear hx hp
    by_cases hlt : k < n
    · have hkv : k < vs.length := by have := Hn.out; omega
      have hkf : k < fs.length := by have := Hn.out; have := Hl.out; omega
      obtain ⟨g, rfl, hg1, hg2, hg3⟩ := HC.out (by omega)
      have c0 : wr.cell? ⟨g, k, none⟩ = some vs[k] := (HX.out.cell (p := ⟨g, k, none⟩) hg1 hg2).trans (hg3 k hkv)
      obtain ⟨id, bound, caps, hvk, hent, hst⟩ := HV.out k hkv hkf
      rw [hvk] at c0
      have hstep := HM.out.step hkf
      have hne : fs[k] s1 ≠ .out := fun e => HR0.out (by rw [hstep, e]; rfl)
      have hcall := hst wr s1 HX.out HP.out hne
      have HSt := Lib.hid hstep
      clear hst hvk hstep hne hg3 hg1 hg2
      go_wp2_with (refine hcall.mono ?_)
      intro e w2 hd
      cases hf : fs[k] s1 with
      | out => rw [hf] at hd; exact absurd (by rw [HSt.out, hf]; rfl) HR0.out
      | bad c a =>
        rw [hf] at hd
        obtain ⟨rfl, hx2⟩ := hd
        have HX2 := Lib.hid (HX.out.trans hx2)
        have HRb : Hid (r = .bad c a) := by have h := HSt.out; rw [hf] at h; exact h
        clear hcall hent hf hx2 c0
        unfold errV
        go_wp2
        rw [HQ.out, HRb.out]
        exact ⟨rfl, HX2.out⟩
      | ok s2 =>
        rw [hf] at hd
        obtain ⟨rfl, hx2, hp2⟩ := hd
        have HX2 := Lib.hid (HX.out.trans hx2)
        have HP2 := Lib.hid hp2
        have HM2 : Hid (Mid fs r (k + 1) s2) := ⟨by omega, by have h := HSt.out; rw [hf] at h; exact h⟩
        clear hcall hent hf hx2 hp2 c0
        go_wp2
        go_roundw
        case rel => exact ⟨k + 1, s2, by omega, by go_num, HM2, HX2.out, HP2.out⟩
        case measure => simp [intOf]; omega
    · have hkn : k = n := by omega
      have HRk : Hid (r = .ok s1) := by
        have h := HM.out.2
        rw [List.drop_eq_nil_of_le (by have := Hn.out; have := Hl.out; omega)] at h
        exact h
      clear HC HV
      go_wp2
      rw [HQ.out, HRk.out]
      exact ⟨rfl, HX.out, HP.out⟩
end Go.Proofs.YtbjacclfhgnffaaGreatDoor
