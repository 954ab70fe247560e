/-
  PROVED: for every tree of at most 1048576 values and letters, ScopeSays returns true and the tree reads as it did: scope.Names tells what the document's answer tells. Condition: the bound of the given second form (its first form is false for a list of more than 2 to the power of 40 kids, which no machine holds).
-/
import Derived.Test.YtmghjfphlneblaaSz
import Derived.Test.YtmghjfphlneblaaTrZa
import Derived.JoinedCond
import Derived.Deep.CondSized
namespace Go.Proofs.Ytmghjfphlneblaa.scopeSays
open Go.ChangeShapes Go.WideShapes Go.ChangeAt Go.RowKit
open Tr Sc

theorem own : ownKnob Try.prog.godebug = none := by kernel_rfl
theorem laidOut : laidOutB Try.prog = true := by kernel_rfl

theorem fits {l : List Nd} {cap : Nat} {H : Type} {d : DataW H} (h1 : l.length ≤ cap) (h2 : l.length * 72 ≤ reachBytes) (h3 : ∀ j, (h : j < l.length) → l[j].c.length * 8 ≤ reachBytes ∧ l[j].t.size ≤ reachBytes ∧ l[j].c.length ≤ Rows.uptoBulk d) (hb : Rows.uptoBulk d ≤ 1048576) : Fit l cap ∧ Fit2 l := by
  unfold reachBytes at h2 h3
  refine ⟨⟨h1, by omega, fun j hj => ?_⟩, fun j hj => ?_⟩
  · have := (h3 j hj).1; omega
  · have := h3 j hj; exact ⟨by omega, by omega⟩

set_option maxRecDepth 100000 in
theorem contract (H : Type) (enc : TypeId × Value → H) (W : World) (base : Nat) (args : Array Value) (ds gs : List (DataW H)) (before : List MemPlace)
    (hval : ∀ (j : Nat) t v, Try.f3.params[j]? = some t → args[j]? = some v → Value.okWide Try.prog W .any base t v)
    (hW : DataW.Whole enc Try.prog Try.f3.params.toList Rows.scopeSaysSpec.vars false W args.toList ds gs before)
    (hk : Rows.uptoSmall H (ds ++ gs) = true)
    (hz : (DataW.weightsEach Try.prog (Try.f3.params.toList ++ (Rows.OpenSpec.upto Rows.scopeSaysSpec).bare.plain.varTypes Try.prog) (ds ++ gs)).all (· ≤ reachBytes) = true) :
    Calls Try.prog 3 args W fun e W' => ∃ v, e = .returned v ∧ Rows.scopeSaysSpec.post enc Try.prog Try.f3 false true false false W args v W' := by
  have hW' := hW
  obtain ⟨p, q, hA0, hV, rfl, hfz, hnd⟩ := hW
  have hA : DataW.TrodAll enc Try.prog W 0 (fun _ => true) true Try.f3.params.toList args.toList ds p := hA0
  rw [Try.params3] at hA hval
  obtain ⟨v0, d0, rfl, rfl, h0⟩ := trodAll_one hA
  obtain ⟨rfl, rfl⟩ := trodVars_none hV
  clear hA0
  simp only [List.append_nil] at hW' hk
  have hz0 : ∀ n ∈ d0.weights Try.prog 24, n ≤ reachBytes := fun n hn => by
    have := List.all_eq_true.1 hz _ (DataW.weights_mem_each (j := 0) (t := 24) (d := d0) rfl rfl n hn)
    simpa using this
  have hb := of_decide_eq_true hk
  simp only [Rows.uptoBulkAll] at hb
  obtain ⟨l, pp, cap, rfl, hT, a1, a2, a3⟩ := open_tree (hval 0 24 v0 rfl rfl) h0 hz0
  obtain ⟨hf, hg⟩ := fits a1 a2 a3 (by omega)
  have hlt : ∀ x ∈ p, x.block < W.heap.size := fun x hx => hW'.lt x hx
  refine (says_walk l pp cap W hT hf hg).mono fun e W' ⟨he, hgw⟩ => ?_
  subst he
  have e1 : Rows.scopeSaysSpec.fn H ([d0] ++ []) = { results := [.lit (.bool true)], args := [d0] } := rfl
  refine ⟨_, rfl, _, _, _, [], p, [], hW', ?_, ?_, ?_, hgw.frame _, fun h => by cases h⟩
  · rw [e1]; exact trodAll_mk1 (shut_bool Try.underlying4 true)
  · rw [e1]; exact trodAll_mk1 (Below.trod laidOut (by kernel_rfl) (of_decide_eq_true (by kernel_rfl)) h0 hgw hlt)
  · rw [e1]; rfl

set_option maxRecDepth 100000 in
theorem lifted (os : Os) (started : os.Started) (H : Type) (enc : TypeId × Value → H) (F : Stop.Interp) :
    ReturnsInHanded {} Try.checked os 3 .any ((Rows.OpenSpec.upto Rows.scopeSaysSpec).pre6 enc Try.prog Try.f3 Rows.scopeSaysUptoRow.domain false) (((Rows.OpenSpec.upto Rows.scopeSaysSpec).at F).post enc Try.prog Try.f3 false true false false) := by
  refine returnsInHanded_of_cond_sized (C := Try.checked) (s := Rows.OpenSpec.upto Rows.scopeSaysSpec) (k := Rows.uptoSmall) rfl own started (by kernel_rfl) Try.func3
    (OpenSpec.witness (enc := enc) (C := Try.checked) (s := Rows.OpenSpec.upto Rows.scopeSaysSpec) (k := Rows.uptoSmall) rfl false ⟨#[], #[.agg #[.slice none 0 0]], []⟩ 8 (by kernel_rfl) (by kernel_rfl) (by kernel_rfl)
      (x := ([.agg [.nil]], [], [])) (by kernel_rfl) rfl (by kernel_rfl)) ?_
  intro W base args ds gs before hval hW _ hk hz _
  exact contract H enc W base args ds gs before hval hW hk hz

theorem upto : Rows.ScopeSaysUptoSaid :=
  OpenClaim.holds_of_cond 3 Try.f3 rfl rfl rfl rfl rfl rfl rfl ⟨rfl, rfl, rfl, rfl, rfl⟩ rfl rfl rfl rfl rfl (by kernel_rfl) Try.func3 (by kernel_rfl)
    (of_decide_eq_true (by kernel_rfl)) (by unfold Func.isWrapper; first | (rw [if_pos (by decide +kernel)]; kernel_rfl) | (rw [if_neg (by decide +kernel)]; exact ⟨rfl, rfl⟩))
    (fun os started H enc _ F => lifted os started H enc F)
#print axioms upto
end Go.Proofs.Ytmghjfphlneblaa.scopeSays
