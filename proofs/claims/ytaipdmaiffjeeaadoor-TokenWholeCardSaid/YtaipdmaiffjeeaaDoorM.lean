/-
  Contract of the comparison of two lists of words: two that read alike are told to be the same.
-/
import Derived.Test.YtaipdmaiffjeeaaDoorK
import Derived.Deep.AppendLies
import Derived.Deep.Draws
import Derived.Deep.QuietTactic
import Derived.BigQuiet
import Derived.Laws.StructEq
namespace Go.Proofs.YtaipdmaiffjeeaaDoor
open Go.RowKit

/-- a slice value whose words are those of a list -/
def Reads4 (w : World) (v : Value) (l : List T4) : Prop :=
  ∃ p cap, v = .slice p l.length cap ∧ (0 < l.length → ∃ b o, p = some ⟨b, o, none⟩ ∧ b < w.heap.size ∧ ∀ j u, (rowOf l)[j]? = some u → w.cell? ⟨b, o + j, none⟩ = some u)
theorem rowOf_length (l : List T4) : (rowOf l).length = l.length * 4 := by
  induction l with
  | nil => rfl
  | cons t l ih => simp [rowOf, cells4] at *; omega
theorem rowOf_get (l : List T4) (i : Nat) (h : i < l.length) : (rowOf l)[i * 4]? = some (.int .i64 l[i].k) ∧ (rowOf l)[i * 4 + 1]? = some (.string (bstr l[i].t)) ∧ (rowOf l)[i * 4 + 2]? = some (.int .i64 l[i].v) ∧ (rowOf l)[i * 4 + 3]? = some (.int .i64 l[i].a) := by
  induction l generalizing i with
  | nil => simp at h
  | cons t l ih =>
    cases i with
    | zero => simp [rowOf, cells4]
    | succ i =>
      have := ih i (by simpa using h)
      have e : ∀ j, (rowOf (t :: l))[(i + 1) * 4 + j]? = (rowOf l)[i * 4 + j]? := fun j => by
        show (cells4 t ++ rowOf l)[_]? = _
        rw [List.getElem?_append_right (by simp [cells4]; omega)]
        congr 1
        simp [cells4]; omega
      have e0 := e 0
      simp only [Nat.add_zero] at e0
      rw [e0, e 1, e 2, e 3]
      simpa using this
theorem reads_own {w : World} {B : Nat} {v : Value} {l : List T4} (h : w.ownsRow B 36 4 v l.length (rowOf l)) : Reads4 w v l := by
  have hlt := h.lt
  have hcs := fun g hg => h.cells (g := g) hg
  obtain ⟨_, h2⟩ := h
  rcases h2 with ⟨rfl, h0⟩ | ⟨g, cap, cur, rfl, hg, r⟩
  · exact ⟨none, 0, by rw [h0], fun h => by omega⟩
  · refine ⟨_, cap, rfl, fun _ => ⟨g, 0, rfl, (hlt g rfl).2, fun j u hu => ?_⟩⟩
    have := hcs g rfl j u hu
    have e : ((⟨g, 0, none⟩ : Addr).add j) = ⟨g, 0 + j, none⟩ := by unfold Addr.add; split <;> simp_all
    rw [e] at this
    exact this
theorem Reads4.below {w w' : World} {v : Value} {l : List T4} (h : Reads4 w v l) (hb : Below w.heap.size w w') : Reads4 w' v l := by
  obtain ⟨p, cap, rfl, hc⟩ := h
  refine ⟨p, cap, rfl, fun h0 => ?_⟩
  obtain ⟨b, o, rfl, hbl, hcell⟩ := hc h0
  exact ⟨b, o, rfl, Nat.lt_of_lt_of_le hbl hb.size, fun j u hu => (hb.cell (p := ⟨b, o + j, none⟩) hbl).trans (hcell j u hu)⟩

set_option maxHeartbeats 4000000 in
set_option maxRecDepth 100000 in
theorem tokens_eq (l : List T4) (v v' : Value) (w : World) (hm : l.length ≤ 1000000) (h : Reads4 w v l) (h' : Reads4 w v' l) :
    Calls Tryd.prog 11 #[v, v'] w fun e w' => e = .returned (.bool true) ∧ Below w.heap.size w w' := by
  obtain ⟨p, cap, rfl, hc⟩ := h
  obtain ⟨p', cap', rfl, hc'⟩ := h'
  have HC := Lib.hid hc
  have HC' := Lib.hid hc'
  obtain ⟨n, hn⟩ : ∃ n, n = l.length := ⟨_, rfl⟩
  rw [← hn] at hm ⊢
  have Hn := Lib.hid hn
  clear hc hc' hn
  go_enter Tryd.func11, Tryd.ntmps11
  go_wp2
  go_loopw [5] (fun i wr => ∃ k : Nat, k ≤ n ∧ i = .int .i64 k ∧ Below w.heap.size w wr) (fun i _ => n - (intOf i).toNat)
  case atStart => exact ⟨0, Nat.zero_le _, rfl, Below.refl _ _⟩
  case round =>
    obtain ⟨k, hk, rfl, hb⟩ := hrel
    by_cases hlt : k < n
    · have hl : k < l.length := by have := Hn.out; omega
      obtain ⟨b, o, rfl, hbl, hcell⟩ := HC.out (by omega)
      obtain ⟨b', o', rfl, hbl', hcell'⟩ := HC'.out (by omega)
      obtain ⟨r0, r1, r2, r3⟩ := rowOf_get l k hl
      have c0 := (hb.cell (p := ⟨b, o + k * 4, none⟩) hbl).trans (hcell _ _ r0)
      have c1 := (hb.cell (p := ⟨b, o + (k * 4 + 1), none⟩) hbl).trans (hcell _ _ r1)
      have c2 := (hb.cell (p := ⟨b, o + (k * 4 + 2), none⟩) hbl).trans (hcell _ _ r2)
      have c3 := (hb.cell (p := ⟨b, o + (k * 4 + 3), none⟩) hbl).trans (hcell _ _ r3)
      have d0 := (hb.cell (p := ⟨b', o' + k * 4, none⟩) hbl').trans (hcell' _ _ r0)
      have d1 := (hb.cell (p := ⟨b', o' + (k * 4 + 1), none⟩) hbl').trans (hcell' _ _ r1)
      have d2 := (hb.cell (p := ⟨b', o' + (k * 4 + 2), none⟩) hbl').trans (hcell' _ _ r2)
      have d3 := (hb.cell (p := ⟨b', o' + (k * 4 + 3), none⟩) hbl').trans (hcell' _ _ r3)
      rw [← Nat.add_assoc] at c1 c2 c3 d1 d2 d3
      have HB := Lib.hid hb
      generalize l[k] = t at *
      generalize bstr t.t = x at *
      clear r0 r1 r2 r3 hcell hcell' hb
      go_wp2
      go_region
      all_goals go_wp2
      go_roundw
      case rel => exact ⟨k + 1, by omega, by go_num, HB.out.drew⟩
      case measure => simp [intOf]; omega
    · go_wp2
      go_ret
      exact ⟨rfl, hb⟩
end Go.Proofs.YtaipdmaiffjeeaaDoor
