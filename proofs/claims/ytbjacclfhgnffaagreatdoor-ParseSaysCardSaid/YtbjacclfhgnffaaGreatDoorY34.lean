/-
  Joined texts of this claim: Vi.
-/
import Derived.Test.YtbjacclfhgnffaaGreatDoorY28
import Derived.Test.YtbjacclfhgnffaaGreatDoorY29
import Derived.Test.YtbjacclfhgnffaaGreatDoorY09
import Derived.Test.YtbjacclfhgnffaaGreatDoorY27
set_option linter.unusedVariables false
set_option linter.unusedSimpArgs false
/-
  What Expr gives of a text: a plain word for it, each text's, and the contract by it.
-/
namespace Go.Proofs.YtbjacclfhgnffaaGreatDoor
open Go.RowKit
open Tk (T4 SR Scans bstr rowOf)
open Tr (Nd Blk KidsAt Fit)

/-- what a world has that the parser needs -/
structure Env (w : World) : Prop where
  sh : w.ShapedOpen Tryz.prog
  v3 : ∃ te pe, w.cell? ⟨4, 0, none⟩ = some (.iface te pe)
  v0 : w.cell? ⟨0, 0, none⟩ = some (.iface 185 (.agg #[hd 55]))
theorem Env.below {w w' : World} (h : Env w) (hb : Below w.heap.size w w') : Env w' := by
  obtain ⟨te, pe, hv⟩ := h.v3
  exact ⟨Tk.sh_below h.sh hb, ⟨te, pe, (hb.cell (p := ⟨4, 0, none⟩) (Lib.lt_of_cell hv)).trans hv⟩, (hb.cell (p := ⟨0, 0, none⟩) (Lib.lt_of_cell h.v0)).trans h.v0⟩
theorem nz_read {l : List UInt8} {R : SR} (h : TokR l R) : NzF (readF R) := fun s => by
  cases R with
  | ok L => exact nz_ok _
  | bad c a => exact nz_bad (by have h := h.few; have h1 : c ≠ 0 := h; exact_mod_cast h1)
theorem nz_done (E : Nat) : NzF (doneF E) := fun s => Nz.ite (nz_ok _) (nz_wrong E s)
theorem nz_fits : NzF fitsF := fun s => by unfold fitsF; split; exact nz_ok _; exact nz_bad (by decide)
theorem nz_exprW {l : List UInt8} {E n : Nat} {R : SR} (h : TokR l R) : Nz (exprW E n R) := nz_seq _ (nz4 (nz_read h) (nz_run E n _) (nz_done E) nz_fits) _
/-- what Expr gives of a text -/
def ExprOf (l : List UInt8) (r : R3) : Prop := ∃ n R, TokR l R ∧ exprW l.length n R = r ∧ r ≠ .out
theorem pexpr_of {s : ByteArray} {r : R3} (h : ExprOf s.data.toList r) {w : World} (hE : Env w) (hs47 : s.size ≤ 140737488355328) : Calls Tryz.prog 11 #[.string s] w (ParR r w) := by
  obtain ⟨n, R, hR, hr, ho⟩ := h
  obtain ⟨te, pe, hv⟩ := hE.v3
  rw [← Lib.size_eq] at hr
  have := pexpr_any (n := n) hR w hs47 hE.sh hv hE.v0 (by rw [hr]; exact ho) (nz_exprW hR)
  rwa [hr] at this
/-- where it is well: a tree in its form, and the last node is an expression -/
def GoodE (r : R3) : Prop := ∀ s, r = .ok s → CkN s.N 0 0 ∧ LastE s.N
theorem bindF_ok {r : R3} {f : F3} {s : S3} (h : r.bind f = .ok s) : ∃ s1, r = .ok s1 ∧ f s1 = .ok s := by
  cases r with
  | ok s1 => exact ⟨s1, rfl, h⟩
  | bad c a => cases h
  | out => cases h
theorem fits_ok {s s1 : S3} (h : fitsF s = .ok s1) : s1 = s ∧ CkN s.N 0 0 := by
  unfold fitsF at h
  split at h
  · rename_i hc; cases h; exact ⟨rfl, hc⟩
  · cases h
theorem fits_ne (s : S3) : fitsF s ≠ .out := by unfold fitsF; split <;> simp
theorem done_ne (E : Nat) (s : S3) : doneF E s ≠ .out := by unfold doneF; split; simp; simp [wrongF]
theorem bind_ne {r : R3} {f : F3} (h : r ≠ .out) (k : ∀ s, f s ≠ .out) : r.bind f ≠ .out := by
  cases r with
  | ok s => exact k s
  | bad c a => simp [R3.bind]
  | out => exact absurd rfl h
theorem seq_tail_ne (E : Nat) (s : S3) : seqF [doneF E, fitsF] s ≠ .out := bind_ne (done_ne E s) (fun s => bind_ne (fits_ne s) (fun s => by simp [seqF]))
theorem exprW_ok (E n : Nat) (L : List T4) : exprW E n (.ok L) = (runJ E n .expr ⟨L, [], []⟩).bind (seqF [doneF E, fitsF]) := rfl
theorem seq_tail_ok {E : Nat} {s s1 : S3} (h : seqF [doneF E, fitsF] s = .ok s1) : s1 = s ∧ s.L = [] ∧ CkN s.N 0 0 := by
  obtain ⟨s2, h2, h3⟩ := bindF_ok h
  obtain ⟨s3, h4, h5⟩ := bindF_ok h3
  obtain ⟨rfl, hc⟩ := fits_ok h4
  cases h5
  unfold doneF at h2
  split at h2
  · rename_i hL; cases h2; exact ⟨rfl, hL, hc⟩
  · cases h2
theorem exprOf_total (l : List UInt8) : ∃ r, ExprOf l r ∧ GoodE r := by
  obtain ⟨R, hR⟩ := TokR.total l
  have hf := hR.few
  cases R with
  | bad c a => exact ⟨.bad c a, ⟨0, .bad c a, hR, rfl, by simp⟩, fun s h => by cases h⟩
  | ok L =>
    obtain ⟨h8, -⟩ := hf
    have hfine := runJ_fine l.length 8100 .expr ⟨L, [], []⟩ trivial (by simp; omega) (by simp [rankJ]; omega)
    refine ⟨exprW l.length 8100 (.ok L), ⟨8100, .ok L, hR, rfl, ?_⟩, fun s hs => ?_⟩
    · rw [exprW_ok]; exact bind_ne hfine.ne (seq_tail_ne _)
    · rw [exprW_ok] at hs
      obtain ⟨s1, h1, h2⟩ := bindF_ok hs
      obtain ⟨rfl, hL, hc⟩ := seq_tail_ok h2
      exact ⟨hc, (hfine.ok h1).2.k⟩
theorem exprOf_eval {l : List UInt8} {N : List Mn} (h : parseB l = some N) (hl : l.length ≤ 2000) : ∃ s, ExprOf l (.ok s) ∧ s.N = N := by
  obtain ⟨R, s, hR, he, hN⟩ := parseB_sound h hl
  exact ⟨s, ⟨200, R, hR, he, by simp⟩, hN⟩
end Go.Proofs.YtbjacclfhgnffaaGreatDoor
