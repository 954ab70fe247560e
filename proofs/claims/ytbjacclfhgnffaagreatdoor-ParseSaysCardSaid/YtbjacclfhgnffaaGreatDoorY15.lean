/-
  Joined texts of this claim: Qm, Ge, Gf.
-/
import Derived.Test.YtbjacclfhgnffaaGreatDoorY13
import Derived.Deep.LoopGhost
set_option linter.unusedVariables false
set_option linter.unusedSimpArgs false
/-
  Steps as function values; the contract of inTurn: steps one behind the other.
-/
namespace Go.Proofs.YtbjacclfhgnffaaGreatDoor
open Go.RowKit
open Tk (T4 bstr)
open Tr (Nd Blk KidsAt)

/-- a function value that does what f does, in w0 and in each world behind it -/
def StepV (B T E : Nat) (w0 : World) (v : Value) (f : F3) : Prop :=
  ∃ id bound caps, v = .func (.func id) bound caps ∧ (∀ args w, (callFunc id args).run Tryz.prog w = .ok (.enter id args) w) ∧ ∀ w s, Ext B w0 w → Ps B T E w s → f s ≠ .out → Calls Tryz.prog id (bound ++ caps) w (Did B T E w (f s))
theorem StepV.ext {B T E : Nat} {w0 w1 : World} {v : Value} {f : F3} (h : StepV B T E w0 v f) (hx : Ext B w0 w1) : StepV B T E w1 v f := by
  obtain ⟨id, bound, caps, hv, he, h⟩ := h
  exact ⟨id, bound, caps, hv, he, fun w s h1 h2 h3 => h w s (hx.trans h1) h2 h3⟩
/-- steps in a row of cells -/
def Steps (B T E : Nat) (w : World) (p : Option Addr) (vs : List Value) (fs : List F3) : Prop :=
  vs.length = fs.length ∧ vs.length ≤ 1000 ∧ (0 < vs.length → ∃ g, p = some ⟨g, 0, none⟩ ∧ g < w.heap.size ∧ ¬ Own B w g ∧ ∀ j, (h : j < vs.length) → w.cell? ⟨g, j, none⟩ = some vs[j]) ∧
  ∀ j, (h1 : j < vs.length) → (h2 : j < fs.length) → StepV B T E w vs[j] fs[j]

theorem seqF_take {fs : List F3} {s : S3} : ∀ (k : Nat), k ≤ fs.length → seqF fs s = (seqF (fs.take k) s).bind (seqF (fs.drop k)) := by
  induction fs generalizing s with
  | nil => intro k hk; simp [seqF, R3.bind]
  | cons f fs ih =>
    intro k hk
    cases k with
    | zero => simp [seqF, R3.bind]
    | succ k =>
      simp only [List.take_succ_cons, List.drop_succ_cons, seqF]
      cases hf : f s with
      | ok s1 => simp only [R3.bind]; exact ih k (by simpa using hk)
      | bad c a => rfl
      | out => rfl
theorem seqF_snoc {fs : List F3} {f : F3} {s : S3} : seqF (fs ++ [f]) s = (seqF fs s).bind f := by
  induction fs generalizing s with
  | nil => show (f s).bind .ok = f s; cases f s <;> rfl
  | cons g fs ih =>
    simp only [List.cons_append, seqF]
    cases g s with
    | ok s1 => simp only [R3.bind]; exact ih
    | bad c a => rfl
    | out => rfl
/-- the run so far, and the end that it has from here on -/
def Mid (fs : List F3) (r : R3) (k : Nat) (s1 : S3) : Prop := k ≤ fs.length ∧ r = seqF (fs.drop k) s1
theorem Mid.step {fs : List F3} {r : R3} {k : Nat} {s1 : S3} (h : Mid fs r k s1) (hk : k < fs.length) : r = (fs[k] s1).bind (seqF (fs.drop (k + 1))) := by
  rw [h.2, List.drop_eq_getElem_cons hk]; rfl

set_option maxHeartbeats 4000000 in
set_option maxRecDepth 100000 in
theorem inTurn_any {B T E : Nat} {w : World} {s : S3} {p : Option Addr} {cap : Nat} {vs : List Value} {fs : List F3} (h : Ps B T E w s) (hS : Steps B T E w p vs fs) (hr : seqF fs s ≠ .out) :
    Calls Tryz.prog 27 #[.slice p vs.length cap] w (Did B T E w (seqF fs s)) := by
  obtain ⟨r, hrr⟩ : ∃ r, r = seqF fs s := ⟨_, rfl⟩
  rw [← hrr] at hr ⊢
  have HR0 := Lib.hid hr
  obtain ⟨Q, hQ⟩ : ∃ Q : Ending → World → Prop, Q = Did B T E w r := ⟨_, rfl⟩
  rw [← hQ]
  have HQ := Lib.hid hQ
  clear hQ hr
  obtain ⟨hl, hm, hc, hv⟩ := hS
  obtain ⟨n, hn⟩ : ∃ n, n = vs.length := ⟨_, rfl⟩
  have H := Lib.hid h
  have Hl := Lib.hid hl
  have HC := Lib.hid hc
  have HV := Lib.hid hv
  have HM0 : Hid (Mid fs r 0 s) := ⟨Nat.zero_le _, by rw [hrr]; rfl⟩
  rw [← hn] at hm ⊢
  have Hn := Lib.hid hn
  clear h hl hc hv hrr hn
  go_enter Tryz.func27, Tryz.ntmps27
  go_wp2
  go_loopw [8] (fun v wr => ∃ (k : Nat) (s1 : S3), k ≤ n ∧ v = .int .i64 k ∧ Hid (Mid fs r k s1) ∧ Ext B w wr ∧ Ps B T E wr s1) (fun v _ => n - (intOf v).toNat)
  case atStart => exact ⟨0, s, Nat.zero_le _, rfl, HM0, Ext.refl _ _, H.out⟩
  case round =>
    obtain ⟨k, s1, hk, rfl, HM, hx, hp⟩ := hrel
    have HX := Lib.hid hx
    have HP := Lib.hid hp
    clear hx hp
    by_cases hlt : k < n
    · have hkv : k < vs.length := by have := Hn.out; omega
      have hkf : k < fs.length := by have := Hn.out; have := Hl.out; omega
      obtain ⟨g, rfl, hg1, hg2, hg3⟩ := HC.out (by omega)
      have c0 : wr.cell? ⟨g, k, none⟩ = some vs[k] := (HX.out.cell (p := ⟨g, k, none⟩) hg1 hg2).trans (hg3 k hkv)
      obtain ⟨id, bound, caps, hvk, hent, hst⟩ := HV.out k hkv hkf
      rw [hvk] at c0
      have hstep := HM.out.step hkf
      have hne : fs[k] s1 ≠ .out := fun e => HR0.out (by rw [hstep, e]; rfl)
      have hcall := hst wr s1 HX.out HP.out hne
      have HSt := Lib.hid hstep
      clear hst hvk hstep hne hg3 hg1 hg2
      go_wp2_with (refine hcall.mono ?_)
      intro e w2 hd
      cases hf : fs[k] s1 with
      | out => rw [hf] at hd; exact absurd (by rw [HSt.out, hf]; rfl) HR0.out
      | bad c a =>
        rw [hf] at hd
        obtain ⟨rfl, hx2⟩ := hd
        have HX2 := Lib.hid (HX.out.trans hx2)
        have HRb : Hid (r = .bad c a) := by have h := HSt.out; rw [hf] at h; exact h
        clear hcall hent hf hx2 c0
        unfold errV
        go_wp2
        rw [HQ.out, HRb.out]
        exact ⟨rfl, HX2.out⟩
      | ok s2 =>
        rw [hf] at hd
        obtain ⟨rfl, hx2, hp2⟩ := hd
        have HX2 := Lib.hid (HX.out.trans hx2)
        have HP2 := Lib.hid hp2
        have HM2 : Hid (Mid fs r (k + 1) s2) := ⟨by omega, by have h := HSt.out; rw [hf] at h; exact h⟩
        clear hcall hent hf hx2 hp2 c0
        go_wp2
        go_roundw
        case rel => exact ⟨k + 1, s2, by omega, by go_num, HM2, HX2.out, HP2.out⟩
        case measure => simp [intOf]; omega
    · have hkn : k = n := by omega
      have HRk : Hid (r = .ok s1) := by
        have h := HM.out.2
        rw [List.drop_eq_nil_of_le (by have := Hn.out; have := Hl.out; omega)] at h
        exact h
      clear HC HV
      go_wp2
      rw [HQ.out, HRk.out]
      exact ⟨rfl, HX.out, HP.out⟩
end Go.Proofs.YtbjacclfhgnffaaGreatDoor
/-
  Plain: the parser of units leaves a tree in its form.
-/
namespace Go.Proofs.YtbjacclfhgnffaaGreatDoor
open Go.RowKit
open Tk (T4 bstr)
open Tr

def All (p : Int → Prop) (ks : List Int) : Prop := ∀ k, k ∈ ks → p k
def OptE (ks : List Int) : Prop := ks = [] ∨ OneE ks
def Is (k : Int) (ks : List Int) : Prop := ks = [k]
theorem All.app {p : Int → Prop} {a b : List Int} (h : All p a) (h2 : All p b) : All p (a ++ b) := fun k hk => by
  rcases List.mem_append.1 hk with hk | hk
  · exact h k hk
  · exact h2 k hk
theorem all_nil (p : Int → Prop) : All p [] := fun k h => by cases h
theorem One.all {p : Int → Prop} {ks : List Int} (h : One p ks) : All p ks := by
  obtain ⟨k, rfl, hk⟩ := h; intro x hx; rw [List.mem_singleton] at hx; subst hx; exact hk
theorem OptE.len {ks : List Int} (h : OptE ks) : ks.length ≤ 1 ∧ EE ks := by
  rcases h with rfl | h
  · exact ⟨Nat.zero_le _, fun k h => by cases h⟩
  · have := h.ee; obtain ⟨k, rfl, hk⟩ := h; exact ⟨Nat.le_refl _, this⟩
/-- a declared name -/
structure Dcl (x : Mn) : Prop where
  name : nameB (bstr x.t) = true
  z : x.z = 0
  a : 0 ≤ x.a
theorem gives_named {E : Nat} {typ : Int} {s : S3} {f : S3 → Mn → R3} {P : List Int → Prop} (h : ∀ s1 x, Dcl x → x.n = typ → GivesAt s1 (f s1 x) P) : GivesAt s ((namedF E typ s).bind f) P :=
  GivesAt.toks fun htk => by
    unfold namedF
    split
    · next hk => exact GivesAt.moved (moved_tail s) (h _ _ ⟨pk_ok htk hk, rfl, pk_a _ _⟩ rfl)
    · exact givesAt_bad _ _ _ _
theorem gives_decl {E : Nat} {s : S3} {f : S3 → Mn → R3} {P : List Int → Prop} (h : ∀ s1 x, Dcl x → wordB x.n = true → GivesAt s1 (f s1 x) P) : GivesAt s ((declF E s).bind f) P := by
  unfold declF wordF
  by_cases hc : (pk E s.L).t = [105, 110, 116]
  · rw [if_pos hc]
    show GivesAt s (D3.bind (if (pk E s.L.tail).t = [42] then _ else _) f) P
    split
    · exact GivesAt.moved (moved_tail s) (GivesAt.moved (moved_tail _) (gives_named fun s1 x hd hn => h s1 x hd (by rw [hn]; rfl)))
    · exact GivesAt.moved (moved_tail s) (gives_named fun s1 x hd hn => h s1 x hd (by rw [hn]; rfl))
  · rw [if_neg hc]; exact givesAt_bad _ _ _ _
theorem gives_listF {E : Nat} {o en : List UInt8} {fam : Nat → F3} {p : Int → Prop} (h : ∀ m, Gives (fam m) (One p)) (n : Nat) : Gives (listF E o en fam n) (All p) := by
  have hi : ∀ m, Gives (itemsF E en fam m) (All p) := by
    intro m
    induction m with
    | zero => exact fun s => givesAt_out _ _
    | succ m ih =>
      intro s
      show GivesAt s ((fam m s).bind _) (All p)
      refine (GivesAt.bind (h m s) (Q := All p) fun s1 _ => ?_).mono fun ks hk => by obtain ⟨a, b, rfl, ha, hb⟩ := hk; exact ha.all.app hb
      split
      · exact GivesAt.moved (moved_tail s1) (ih _)
      · exact (gives_word E en s1).mono fun ks hk => by unfold Nil at hk; subst hk; exact all_nil p
  intro s
  show GivesAt s ((wordF E o s).bind _) (All p)
  refine (GivesAt.bind (gives_word E o s) (Q := All p) fun s1 _ => ?_).mono fun ks hk => nil_thn hk
  split
  · exact (GivesAt.stay (moved_tail s1)).mono fun ks hk => by unfold Nil at hk; subst hk; exact all_nil p
  · exact hi n s1
/-- what is asked of kids one by one -/
theorem okG {k : Int} {t : ByteArray} {n z a : Int} {ks : List Int} (hk : kindB k = true) (lo : lowV k ≤ ks.length) (hi : (ks.length : Int) ≤ highV 9223372036854775807 k) (hg : ∀ i, (h : i < ks.length) → goB k i ks.length ks[i] = true)
    (h1 : namedB k = true → nameB t = true) (h2 : namedB k = false → signB k t = true) (h3 : numB k n z ks.length = true) (h4 : 0 ≤ a) : OkN k t n z a ks := ⟨hk, lo, hi, hg, field_of h1 h2 h3 h4⟩
/-- a node whose kids are all of one sort -/
theorem okAll {k : Int} {n a : Int} {ks : List Int} {p : Int → Bool} (hk : kindB k = true) (hp : ∀ i m kid, goB k i m kid = p kid) (lo : lowV k ≤ ks.length) (hi : (ks.length : Int) ≤ highV 9223372036854775807 k) (hg : All (fun x => p x = true) ks)
    (h1 : namedB k = false) (h2 : signB k (bstr []) = (bstr []).toList.isEmpty) (h3 : numB k n 0 ks.length = true) (h4 : 0 ≤ a) : OkN k (bstr []) n 0 a ks :=
  okG hk lo hi (fun i h => by rw [hp]; exact hg _ (List.getElem_mem h)) (fun h => by rw [h1] at h; cases h) (fun _ => sign_none k h2) h3 h4
theorem ok1 {ks : List Int} (h : All (fun x => x = 2 ∨ x = 3) ks) (hl : ks.length < 5000000) : OkN 1 (bstr []) 0 0 0 ks :=
  okAll (p := fun kid => kid == 2 || kid == 3) rfl (fun _ _ _ => rfl) (by show (0 : Int) ≤ _; omega) (by show _ ≤ (9223372036854775807 : Int); omega) (fun k hk => by rcases h k hk with rfl | rfl <;> rfl) rfl rfl rfl (by decide)
theorem ok11 {a : Int} {ks : List Int} (ha : 0 ≤ a) (h : All (fun x => actB x = true) ks) (hl : ks.length < 5000000) : OkN 11 (bstr []) 0 0 a ks :=
  okAll (p := actB) rfl (fun _ _ _ => rfl) (by show (0 : Int) ≤ _; omega) (by show _ ≤ (9223372036854775807 : Int); omega) h rfl rfl rfl ha
theorem ok13 {a k1 : Int} (ha : 0 ≤ a) (h : exprB k1 = true) : OkN 13 (bstr []) 0 0 a [k1] :=
  okAll (p := exprB) rfl (fun _ _ _ => rfl) (show lowV 13 ≤ ((1 : Nat) : Int) by decide) (show ((1 : Nat) : Int) ≤ highV _ 13 by decide) (ee1 h) rfl rfl rfl ha
theorem ok19 {a k1 : Int} (ha : 0 ≤ a) (h : exprB k1 = true) : OkN 19 (bstr []) 0 0 a [k1] :=
  okAll (p := exprB) rfl (fun _ _ _ => rfl) (show lowV 19 ≤ ((1 : Nat) : Int) by decide) (show ((1 : Nat) : Int) ≤ highV _ 19 by decide) (ee1 h) rfl rfl rfl ha
theorem ok23 {a : Int} {ks : List Int} (ha : 0 ≤ a) (h : OptE ks) : OkN 23 (bstr []) 0 0 a ks :=
  okAll (p := exprB) rfl (fun _ _ _ => rfl) (by show (0 : Int) ≤ _; omega) (by show _ ≤ (1 : Int); have := h.len.1; omega) h.len.2 rfl rfl rfl ha
theorem okBare {k a : Int} (hk : k = 20 ∨ k = 21 ∨ k = 22 ∨ k = 24) (ha : 0 ≤ a) : OkN k (bstr []) 0 0 a [] := by
  rcases hk with rfl | rfl | rfl | rfl <;>
  exact okG rfl (show lowV _ ≤ ((0 : Nat) : Int) by decide) (show ((0 : Nat) : Int) ≤ highV _ _ by decide) (fun i h => by cases h) (fun h => absurd h (by decide)) (fun _ => sign_none _ rfl) rfl ha
theorem ok4 {x : Mn} (hd : Dcl x) (hn : wordB x.n = true) : OkN 4 (bstr x.t) x.n x.z x.a [] := by
  rw [hd.z]
  exact okG rfl (show lowV _ ≤ ((0 : Nat) : Int) by decide) (show ((0 : Nat) : Int) ≤ highV _ _ by decide) (fun i h => by cases h) (fun _ => hd.name) (fun h => absurd h (by decide)) hn hd.a
theorem ok12 {x : Mn} {ks : List Int} (hd : Dcl x) (hn : wordB x.n = true) (h : OptE ks) : OkN 12 (bstr x.t) x.n x.z x.a ks := by
  rw [hd.z]
  exact okG rfl (by show (0 : Int) ≤ _; omega) (by show _ ≤ (1 : Int); have := h.len.1; omega) (fun i hi => h.len.2 _ (List.getElem_mem hi)) (fun _ => hd.name) (fun h => absurd h (by decide)) hn hd.a
theorem ok2 {x : Mn} {ks : List Int} (hd : Dcl x) (hn : wordB x.n = true) (h : OptE ks) : OkN 2 (bstr x.t) x.n x.z x.a ks := by
  rw [hd.z]
  have h3 : ¬ ((2 : Int) = 2 ∧ x.n = 3) := by intro h; unfold wordB at hn; rw [decide_eq_true_eq] at hn; omega
  refine okG rfl (by show (0 : Int) ≤ _; omega) (by show _ ≤ (200 : Int); have := h.len.1; omega) (fun i hi => h.len.2 _ (List.getElem_mem hi)) (fun _ => hd.name) (fun h => absurd h (by decide)) ?_ hd.a
  unfold numB
  rw [if_neg h3, if_pos rfl, if_pos rfl, hn, decide_eq_true h.len.1]; rfl
theorem ok2a {x : Mn} {z : Int} {ks : List Int} (hd : Dcl x) (h : EE ks) (hz : 1 ≤ z ∧ z ≤ 200) (hl : (ks.length : Int) ≤ z) : OkN 2 (bstr x.t) 3 z x.a ks := by
  refine okG rfl (by show (0 : Int) ≤ _; omega) (by show _ ≤ (200 : Int); omega) (fun i hi => h _ (List.getElem_mem hi)) (fun _ => hd.name) (fun h => absurd h (by decide)) ?_ hd.a
  unfold numB
  rw [if_pos ⟨rfl, rfl⟩, decide_eq_true hz.1, decide_eq_true hz.2, decide_eq_true hl]; rfl
theorem ok3 {x : Mn} {ps : List Int} (hd : Dcl x) (hn : x.n = 0 ∨ wordB x.n = true) (h : All (· = 4) ps) (hl : (ps ++ [11]).length < 5000000) : OkN 3 (bstr x.t) x.n x.z x.a (ps ++ [11]) := by
  rw [hd.z]
  have hlen : (ps ++ [(11 : Int)]).length = ps.length + 1 := by rw [List.length_append]; rfl
  refine okG rfl (by show (1 : Int) ≤ _; omega) (by show _ ≤ (9223372036854775807 : Int); omega) (fun i hi => ?_) (fun _ => hd.name) (fun h => absurd h (by decide)) ?_ hd.a
  · show (if (i : Int) = (((ps ++ [(11 : Int)]).length : Nat) : Int) - 1 then (ps ++ [11])[i] == 11 else (ps ++ [11])[i] == 4) = true
    rcases Nat.lt_or_ge i ps.length with h1 | h1
    · rw [if_neg (by omega), List.getElem_append_left h1, h _ (List.getElem_mem h1)]; rfl
    · have : i = ps.length := by omega
      subst this
      rw [if_pos (by omega), List.getElem_append_right (Nat.le_refl _)]; simp
  · show (x.n == 0 || wordB x.n) = true
    rcases hn with h | h
    · rw [h]; rfl
    · rw [h, Bool.or_true]
theorem ok14 {a k0 : Int} {els : List Int} (ha : 0 ≤ a) (h0 : exprB k0 = true) (h : els = [] ∨ els = [11]) : OkN 14 (bstr []) 0 0 a (k0 :: 11 :: els) := by
  rcases h with rfl | rfl
  · exact okG rfl (show lowV _ ≤ ((2 : Nat) : Int) by decide) (show ((2 : Nat) : Int) ≤ highV _ _ by decide) (fun i h => by rcases i with _ | _ | i; exact h0; rfl; simp at h; omega) (fun h => absurd h (by decide)) (fun _ => sign_none _ rfl) rfl ha
  · exact okG rfl (show lowV _ ≤ ((3 : Nat) : Int) by decide) (show ((3 : Nat) : Int) ≤ highV _ _ by decide) (fun i h => by rcases i with _ | _ | _ | i; exact h0; rfl; rfl; simp at h; omega) (fun h => absurd h (by decide)) (fun _ => sign_none _ rfl) rfl ha
theorem ok15 {a k0 : Int} (ha : 0 ≤ a) (h0 : exprB k0 = true) : OkN 15 (bstr []) 0 0 a [k0, 11] :=
  okG rfl (show lowV _ ≤ ((2 : Nat) : Int) by decide) (show ((2 : Nat) : Int) ≤ highV _ _ by decide) (fun i h => by rcases i with _ | _ | i; exact h0; rfl; simp at h; omega) (fun h => absurd h (by decide)) (fun _ => sign_none _ rfl) rfl ha
theorem ok16 {a k0 : Int} (ha : 0 ≤ a) (h0 : exprB k0 = true) : OkN 16 (bstr []) 0 0 a [11, k0] :=
  okG rfl (show lowV _ ≤ ((2 : Nat) : Int) by decide) (show ((2 : Nat) : Int) ≤ highV _ _ by decide) (fun i h => by rcases i with _ | _ | i; rfl; exact h0; simp at h; omega) (fun h => absurd h (by decide)) (fun _ => sign_none _ rfl) rfl ha
theorem ok17 {a k0 k1 k2 : Int} (ha : 0 ≤ a) (h0 : k0 = 12 ∨ k0 = 13 ∨ k0 = 24) (h1 : exprB k1 = true ∨ k1 = 24) (h2 : k2 = 13 ∨ k2 = 24) : OkN 17 (bstr []) 0 0 a [k0, k1, k2, 11] :=
  okG rfl (show lowV _ ≤ ((4 : Nat) : Int) by decide) (show ((4 : Nat) : Int) ≤ highV _ _ by decide) (fun i h => by
    rcases i with _ | _ | _ | _ | i
    · rcases h0 with rfl | rfl | rfl <;> rfl
    · show (exprB k1 || k1 == 24) = true
      rcases h1 with h1 | rfl
      · rw [h1]; rfl
      · rfl
    · rcases h2 with rfl | rfl <;> rfl
    · rfl
    · simp at h; omega) (fun h => absurd h (by decide)) (fun _ => sign_none _ rfl) rfl ha
def SwP (k : Int) : Prop := actB k = true ∨ k = 19 ∨ k = 20
theorem ok18 {a k0 : Int} {ks : List Int} (ha : 0 ≤ a) (h0 : exprB k0 = true) (h : All SwP ks) (hl : (k0 :: ks).length < 5000000) : OkN 18 (bstr []) 0 0 a (k0 :: ks) := by
  have hlen : (k0 :: ks).length = ks.length + 1 := rfl
  refine okG rfl (by show (1 : Int) ≤ _; omega) (by show _ ≤ (9223372036854775807 : Int); omega) (fun i hi => ?_) (fun h => absurd h (by decide)) (fun _ => sign_none _ rfl) rfl ha
  show (if (i : Int) = 0 then exprB (k0 :: ks)[i] else (actB (k0 :: ks)[i] || (k0 :: ks)[i] == 19 || (k0 :: ks)[i] == 20)) = true
  rcases i with _ | i
  · rw [if_pos (show ((0 : Nat) : Int) = 0 from rfl)]; exact h0
  · rw [if_neg (by omega), List.getElem_cons_succ]
    rcases h _ (List.getElem_mem (by simpa using hi)) with h | h | h
    · rw [h]; rfl
    · rw [h]; rfl
    · rw [h]; rfl
end Go.Proofs.YtbjacclfhgnffaaGreatDoor
/-
  Plain: the parser of units, its jobs one by one; the unit's tree is in its form, or too large.
-/
namespace Go.Proofs.YtbjacclfhgnffaaGreatDoor
open Go.RowKit
open Tk (T4 bstr)
open Tr

section
variable {E : Nat} {ex : F3} (hE : Gives ex OneE)
include hE
theorem gives_initial : Gives (initialF E ex) OptE := by
  intro s
  unfold initialF
  split
  · exact (GivesAt.moved (moved_tail s) (hE _)).mono fun ks hk => Or.inr hk
  · exact (GivesAt.stay (moved_refl s)).mono fun ks hk => Or.inl hk
theorem gives_local : Gives (localF E ex) (Is 12) := fun s =>
  gives_decl fun s1 x hd hn => gives_build (x := { x with k := 12 }) (gives_seq (gives_initial hE) gives_seq_nil) (fun ks hk _ => ok12 (x := x) hd hn (thn_nil hk)) s1
theorem gives_effect : Gives (effectF E ex) (Is 13) := fun s =>
  gives_build (gives_seq hE gives_seq_nil) (fun ks hk _ => by obtain ⟨k1, rfl, h1⟩ := thn_nil hk; exact ok13 (pk_a _ _) h1) s
theorem gives_condition : Gives (conditionF E ex) OneE := fun s =>
  (gives_seq (gives_word E _) (gives_seq hE (gives_seq (gives_word E _) gives_seq_nil)) s).mono fun ks hk => oneE_thn hk
theorem gives_told : Gives (toldF E ex) OptE := by
  intro s
  unfold toldF
  split
  · exact (GivesAt.stay (moved_refl s)).mono fun ks hk => Or.inl hk
  · exact (hE s).mono fun ks hk => Or.inr hk
end
theorem gives_nothing (E : Nat) : Gives (nothingF E) (Is 24) := fun s =>
  gives_build gives_seq_nil (fun ks hk _ => by unfold Nil at hk; subst hk; exact okBare (k := 24) (by decide) (pk_a _ _)) s
theorem gives_unless {E : Nat} {e : List UInt8} {f : F3} {p : Int → Prop} (hf : Gives f (One p)) (h24 : p 24) : Gives (unlessF E e f) (One p) := by
  intro s
  unfold unlessF
  split
  · exact (gives_nothing E s).mono fun ks hk => ⟨24, hk, h24⟩
  · exact hf s
theorem gives_start {E : Nat} {ex : F3} (hE : Gives ex OneE) : Gives (startF E ex) (One fun k => k = 12 ∨ k = 13 ∨ k = 24) := by
  intro s
  unfold startF
  split
  · exact (gives_local hE s).mono fun ks hk => ⟨12, hk, Or.inl rfl⟩
  · exact gives_unless (fun s => (gives_effect hE s).mono fun ks hk => ⟨13, hk, Or.inr (Or.inl rfl)⟩) (Or.inr (Or.inr rfl)) s
theorem gives_param (E : Nat) : Gives (paramF E) (One (· = 4)) := fun s =>
  gives_decl fun s1 x hd hn => (gives_build (x := { x with k := 4 }) gives_seq_nil (fun ks hk _ => by unfold Nil at hk; subst hk; exact ok4 (x := x) hd hn) s1).mono fun ks hk => ⟨4, hk, rfl⟩
theorem gives_values {E : Nat} {most : Int} {fam : Nat → F3} (hm : 0 ≤ most) (h : ∀ m, Gives (fam m) OneE) (n : Nat) : Gives (valuesF E most fam n) (fun ks => EE ks ∧ (ks.length : Int) ≤ most) := by
  intro s
  unfold valuesF
  split
  · refine GivesAt.moved (moved_tail s) ?_
    intro os hi
    have h1 := gives_listF (E := E) (o := [123]) (en := [125]) h n _ os hi
    cases hr : listF E [123] [125] fam n { s with L := s.L.tail } with
    | bad c a => trivial
    | out => trivial
    | ok s2 =>
      rw [hr] at h1
      obtain ⟨new, hg, hp⟩ := h1
      show match (if most < (s2.O.length : Int) - s.O.length then R3.bad 9 (pk E s.L.tail).a else .ok s2) with
        | .ok s' => ∃ new, Grew { s with L := s.L.tail } s' os new ∧ (EE (kindsOf s' new) ∧ ((kindsOf s' new).length : Int) ≤ most)
        | _ => True
      have hl : s2.O.length = s.O.length + new.length := by
        have a1 : s.O = castL os := hi.loose
        rw [hg.inv.loose, a1, castL_length, castL_length, List.length_append]
      by_cases hm : most < (s2.O.length : Int) - s.O.length
      · rw [if_pos hm]; trivial
      · rw [if_neg hm]
        refine ⟨new, hg, hp, ?_⟩
        unfold kindsOf; rw [List.length_map]; omega
  · exact (GivesAt.stay (moved_refl s)).mono fun ks hk => by unfold Nil at hk; subst hk; exact ⟨fun k h => (by cases h), hm⟩
theorem gives_array {E : Nat} {x : Mn} {fam : Nat → F3} (hd : Dcl x) (h : ∀ m, Gives (fam m) OneE) (n : Nat) (s : S3) : GivesAt s (arrayF E x fam n s) (Is 2) := by
  unfold arrayF
  refine (GivesAt.bind (gives_word E [91] s) (Q := Is 2) fun s1 _ => ?_).mono fun ks hk => nil_thn hk
  split
  · split
    · exact givesAt_bad _ _ _ _
    · next hz =>
      refine GivesAt.moved (moved_tail s1) (gives_build (x := { x with k := 2, n := 3, z := (pk E s1.L).v }) (gives_seq (gives_word E _) (gives_seq (gives_values (Int.natCast_nonneg _) h n) (gives_seq (gives_word E _) gives_seq_nil))) (fun ks hk _ => ?_) _)
      obtain ⟨a, b, rfl, ⟨h1, h2⟩, hb⟩ := nil_thn hk
      have hb := nil_thn hb
      unfold Nil at hb; subst hb
      rw [List.append_nil]
      exact ok2a (x := x) (z := (pk E s1.L).v) hd h1 (by omega) h2
  · exact givesAt_bad _ _ _ _

def GlP (k : Int) : Prop := k = 2 ∨ k = 3
def ItP (sw : Bool) (k : Int) : Prop := if sw = true then SwP k else actB k = true
def UJobS : UJob → List Int → Prop
  | .block => Is 11
  | .body => Is 11
  | .action => One fun k => actB k = true
  | .compound => One fun k => actB k = true
  | .inSwitch => One SwP
  | .braces sw => All (ItP sw)
  | .global => One GlP
  | .globals => All GlP
theorem itemU_job (sw : Bool) : UJobS (itemU sw) = One (ItP sw) := by cases sw <;> rfl
theorem runU_good (E : Nat) : ∀ n j, Gives (runU E n j) (UJobS j) := by
  intro n
  induction n with
  | zero => exact fun j s => givesAt_out _ _
  | succ n ih =>
    have hE : ∀ m, Gives (runJ E m .expr) OneE := fun m s => run_good E m .expr s
    have hb : Gives (runU E n .body) (Is 11) := ih .body
    intro j s
    cases j with
    | braces sw =>
      show GivesAt s (if (pk E s.L).t = [125] then _ else (runU E n (itemU sw) s).bind (runU E n (.braces sw))) (All (ItP sw))
      split
      · exact (GivesAt.stay (moved_tail s)).mono fun ks hk => by unfold Nil at hk; subst hk; exact all_nil _
      · refine (GivesAt.bind (ih (itemU sw) s) fun s1 _ => ih (.braces sw) s1).mono fun ks hk => ?_
        rw [itemU_job] at hk
        obtain ⟨a, b, rfl, ha, hb⟩ := hk
        exact ha.all.app hb
    | block =>
      refine gives_build (gives_seq (P := All (ItP false)) (fun s => (GivesAt.bind (gives_word E [123] s) fun s1 _ => ih (.braces false) s1).mono fun ks hk => nil_thn hk) gives_seq_nil) (fun ks hk hl => ?_) s
      exact ok11 (pk_a _ _) (thn_nil hk) hl
    | body =>
      show GivesAt s (if (pk E s.L).t = [123] then _ else _) (Is 11)
      split
      · exact ih .block s
      · refine gives_build (gives_seq (ih .action) gives_seq_nil) (fun ks hk hl => ?_) s
        exact ok11 (pk_a _ _) (One.all (thn_nil hk)) hl
    | action =>
      show GivesAt s (if (pk E s.L).t = [123] then _ else if (pk E s.L).t = [105, 110, 116] then _ else if _ then _ else if _ then _ else if _ then _ else if _ then _ else if _ then _ else _) (One fun k => actB k = true)
      have to1 : ∀ (k : Int) ks, actB k = true → Is k ks → One (fun k => actB k = true) ks := fun k ks h hk => ⟨k, hk, h⟩
      have w1 : ∀ (k : Int) ks, actB k = true → Thn (Is k) (Thn Nil Nil) ks → One (fun k => actB k = true) ks := fun k ks h hk => by
        obtain ⟨a, b, rfl, ha, hb⟩ := hk
        have := nil_thn hb; unfold Nil at this; subst this
        rw [List.append_nil]; exact ⟨k, ha, h⟩
      split
      · exact (ih .block s).mono fun ks => to1 11 ks rfl
      · split
        · exact (gives_seq (gives_local (hE n)) (gives_seq (gives_word E _) gives_seq_nil) s).mono fun ks => w1 12 ks rfl
        · split
          · exact ih .compound s
          · split
            · exact (gives_build (gives_seq (gives_word E _) (gives_seq (gives_word E _) gives_seq_nil)) (fun ks hk _ => by have := nil_thn (nil_thn hk); unfold Nil at this; subst this; exact okBare (k := 21) (by decide) (pk_a _ _)) s).mono fun ks => to1 21 ks rfl
            · split
              · exact (gives_build (gives_seq (gives_word E _) (gives_seq (gives_word E _) gives_seq_nil)) (fun ks hk _ => by have := nil_thn (nil_thn hk); unfold Nil at this; subst this; exact okBare (k := 22) (by decide) (pk_a _ _)) s).mono fun ks => to1 22 ks rfl
              · split
                · exact (gives_build (gives_seq (gives_word E _) (gives_seq (gives_told (hE n)) (gives_seq (gives_word E _) gives_seq_nil))) (fun ks hk _ => ok23 (pk_a _ _) (by
                    obtain ⟨a, b, rfl, ha, hb⟩ := nil_thn hk
                    have := nil_thn hb; unfold Nil at this; subst this
                    rw [List.append_nil]; exact ha)) s).mono fun ks => to1 23 ks rfl
                · split
                  · exact (gives_seq (gives_nothing E) (gives_seq (gives_word E _) gives_seq_nil) s).mono fun ks => w1 24 ks rfl
                  · exact (gives_seq (gives_effect (hE n)) (gives_seq (gives_word E _) gives_seq_nil) s).mono fun ks => w1 13 ks rfl
    | compound =>
      have to1 : ∀ (k : Int) ks, actB k = true → Is k ks → One (fun k => actB k = true) ks := fun k ks h hk => ⟨k, hk, h⟩
      show GivesAt s (if (pk E s.L).t = [105, 102] then _ else if _ then _ else if _ then _ else if _ then _ else _) (One fun k => actB k = true)
      split
      · refine GivesAt.moved (moved_tail s) ((gives_build (gives_seq (gives_condition (hE n)) (gives_seq hb (gives_seq (P := fun ks => ks = [] ∨ ks = [11]) (fun s => ?_) gives_seq_nil))) (fun ks hk _ => ?_) _).mono fun ks => to1 14 ks rfl)
        · show GivesAt s (if _ then _ else _) _
          split
          · exact GivesAt.moved (moved_tail s) ((hb _).mono fun ks hk => Or.inr hk)
          · exact (GivesAt.stay (moved_refl s)).mono fun ks hk => Or.inl hk
        · obtain ⟨a, b, rfl, ⟨k0, rfl, h0⟩, c, d, rfl, hc, hd⟩ := hk
          unfold Is at hc; subst hc
          exact ok14 (pk_a _ _) h0 (thn_nil hd)
      · split
        · refine GivesAt.moved (moved_tail s) ((gives_build (gives_seq (gives_condition (hE n)) (gives_seq hb gives_seq_nil)) (fun ks hk _ => ?_) _).mono fun ks => to1 15 ks rfl)
          obtain ⟨a, b, rfl, ⟨k0, rfl, h0⟩, hb⟩ := hk
          have := thn_nil hb; unfold Is at this; subst this
          exact ok15 (pk_a _ _) h0
        · split
          · refine GivesAt.moved (moved_tail s) ((gives_build (gives_seq hb (gives_seq (gives_word E _) (gives_seq (gives_condition (hE n)) (gives_seq (gives_word E _) gives_seq_nil)))) (fun ks hk _ => ?_) _).mono fun ks => to1 16 ks rfl)
            obtain ⟨a, b, rfl, ha, hb⟩ := hk
            unfold Is at ha; subst ha
            obtain ⟨c, d, rfl, ⟨k0, rfl, h0⟩, hd⟩ := nil_thn hb
            have := nil_thn hd; unfold Nil at this; subst this
            exact ok16 (pk_a _ _) h0
          · split
            · refine GivesAt.moved (moved_tail s) ((gives_build (gives_seq (gives_word E _) (gives_seq (gives_start (hE n)) (gives_seq (gives_word E _) (gives_seq (gives_unless (p := fun k => exprB k = true ∨ k = 24) (fun s => (hE n s).mono fun ks hk => by obtain ⟨k, rfl, h⟩ := hk; exact ⟨k, rfl, Or.inl h⟩) (Or.inr rfl)) (gives_seq (gives_word E _) (gives_seq (gives_unless (p := fun k => k = 13 ∨ k = 24) (fun s => (gives_effect (hE n) s).mono fun ks hk => ⟨13, hk, Or.inl rfl⟩) (Or.inr rfl)) (gives_seq (gives_word E _) (gives_seq hb gives_seq_nil)))))))) (fun ks hk _ => ?_) _).mono fun ks => to1 17 ks rfl)
              obtain ⟨a, b, rfl, ⟨k0, rfl, h0⟩, hb⟩ := nil_thn hk
              obtain ⟨c, d, rfl, ⟨k1, rfl, h1⟩, hd⟩ := nil_thn hb
              obtain ⟨e, f, rfl, ⟨k2, rfl, h2⟩, hf⟩ := nil_thn hd
              have := thn_nil (nil_thn hf); unfold Is at this; subst this
              exact ok17 (pk_a _ _) h0 h1 h2
            · refine GivesAt.moved (moved_tail s) ((gives_build (gives_seq (gives_condition (hE n)) (gives_seq (P := All (ItP true)) (fun s => (GivesAt.bind (gives_word E [123] s) fun s1 _ => ih (.braces true) s1).mono fun ks hk => nil_thn hk) gives_seq_nil)) (fun ks hk hl => ?_) _).mono fun ks => to1 18 ks rfl)
              obtain ⟨a, b, rfl, ⟨k0, rfl, h0⟩, hb⟩ := hk
              exact ok18 (pk_a _ _) h0 (thn_nil hb) hl
    | inSwitch =>
      show GivesAt s (if (pk E s.L).t = [99, 97, 115, 101] then _ else if _ then _ else _) (One SwP)
      split
      · refine (gives_build (gives_seq (gives_word E _) (gives_seq (hE n) (gives_seq (gives_word E _) gives_seq_nil))) (fun ks hk _ => ?_) s).mono fun ks hk => ⟨19, hk, Or.inr (Or.inl rfl)⟩
        obtain ⟨k0, rfl, h0⟩ := oneE_thn hk
        exact ok19 (pk_a _ _) h0
      · split
        · refine (gives_build (gives_seq (gives_word E _) (gives_seq (gives_word E _) gives_seq_nil)) (fun ks hk _ => ?_) s).mono fun ks hk => ⟨20, hk, Or.inr (Or.inr rfl)⟩
          have := nil_thn (nil_thn hk); unfold Nil at this; subst this; exact okBare (k := 20) (by decide) (pk_a _ _)
        · refine (ih .action s).mono fun ks hk => ?_
          obtain ⟨k, rfl, h⟩ := hk
          exact ⟨k, rfl, Or.inl h⟩
    | global =>
      have hfn : ∀ x s1, Dcl x → (x.n = 0 ∨ wordB x.n = true) → GivesAt s1 (buildF { x with k := 3 } [listF E [40] [41] (fun _ => paramF E) n, runU E n .block] s1) (One GlP) := by
        intro x s1 hd hn
        refine (gives_build (x := { x with k := 3 }) (gives_seq (gives_listF (fun _ => gives_param E) n) (gives_seq (ih .block) gives_seq_nil)) (fun ks hk hl => ?_) s1).mono fun ks hk => ⟨3, hk, Or.inr rfl⟩
        obtain ⟨a, b, rfl, ha, hb⟩ := hk
        have := thn_nil hb; unfold UJobS Is at this; subst this
        exact ok3 (x := x) hd hn ha hl
      show GivesAt s (if (pk E s.L).t = [118, 111, 105, 100] then _ else _) (One GlP)
      split
      · exact GivesAt.moved (moved_tail s) (gives_named fun s1 x hd hn => hfn x s1 hd (Or.inl hn))
      · refine gives_decl fun s1 x hd hn => ?_
        show GivesAt s1 (if (pk E s1.L).t = [40] then _ else if _ then _ else _) (One GlP)
        split
        · exact hfn x s1 hd (Or.inr hn)
        · split
          · exact (gives_array hd hE n s1).mono fun ks hk => ⟨2, hk, Or.inl rfl⟩
          · refine (gives_build (x := { x with k := 2 }) (gives_seq (gives_initial (hE n)) (gives_seq (gives_word E _) gives_seq_nil)) (fun ks hk _ => ?_) s1).mono fun ks hk => ⟨2, hk, Or.inl rfl⟩
            obtain ⟨a, b, rfl, ha, hb⟩ := hk
            have := nil_thn hb; unfold Nil at this; subst this
            rw [List.append_nil]
            exact ok2 (x := x) hd hn ha
    | globals =>
      show GivesAt s (if s.L = [] then _ else (runU E n .global s).bind (runU E n .globals)) (All GlP)
      split
      · exact (GivesAt.stay (moved_refl s)).mono fun ks hk => by unfold Nil at hk; subst hk; exact all_nil _
      · refine (GivesAt.bind (ih .global s) fun s1 _ => ih .globals s1).mono fun ks hk => ?_
        obtain ⟨a, b, rfl, ha, hb⟩ := hk
        exact One.all ha |>.app hb
theorem unitF_good (E n : Nat) : Gives (unitF E n) (Is 1) := fun s =>
  gives_build (gives_seq (runU_good E n .globals) gives_seq_nil) (fun ks hk hl => ok1 (thn_nil hk) hl) s
end Go.Proofs.YtbjacclfhgnffaaGreatDoor
