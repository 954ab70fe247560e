/-
  Plain facts: a part of a part is a part.
-/
import Derived.Test.YtcaekpgnknlblaaBf
namespace Go.Proofs.Ytcaekpgnknlblaa
open Go.RowKit

theorem part_good {l L : List Nd} {kn : Nat} (hl : CkR l 0 0) (hk : kn < l.length) (hm : L.length = kn + 1 - St l kn) (hc : ∀ j, (h : j < L.length) → (h' : St l kn + j < l.length) → CutOf (St l kn) l[St l kn + j] L[j]) : CkR L 0 0 := by
  obtain ⟨g1, g2, g3, g4, g5⟩ := hl.good
  have hle := St_le l kn
  have hall := part_all (L := L) hk (fun j hj => g3 j (by omega)) rfl hm hc
  have hlast := hall (L.length - 1) (by omega)
  have e : St l kn + (L.length - 1) = kn := by omega
  rw [e] at hlast
  have hn := (nest (l.length - 1) (by omega) (fun i hi => g3 i (by omega)) kn (by omega) (by omega)).2
  refine Or.inr ⟨by omega, by omega, Or.inr ⟨fun j hj => (hall j hj).2.2.2.1, Or.inr ⟨by rw [hlast.2.2.1]; omega, Or.inr ⟨by rw [hlast.2.2.2.2]; omega, rfl, rfl⟩⟩⟩⟩
theorem subs_subs (a b : Nat) (c : List Int) : subs b (subs a c) = subs (a + b) c := by
  unfold subs
  rw [List.map_map]
  congr 1
  funext x
  simp only [Function.comp]
  omega
theorem CutOf.more {a b : Nat} {x y z : Nd} (h : CutOf a x y) (h' : CutOf b y z) : CutOf (a + b) x z := by
  obtain ⟨h1, h2, h3, h4, h5, h6⟩ := h
  obtain ⟨g1, g2, g3, g4, g5, g6⟩ := h'
  exact ⟨g1.trans h1, g2.trans h2, g3.trans h3, g4.trans h4, by rw [g5, h5, subs_subs], g6.trans h6⟩
theorem CutOf.like {a : Nat} {x y z : Nd} (h : CutOf a x y) (h' : CutOf a x z) : Like y z := by
  obtain ⟨h1, h2, h3, h4, h5, h6⟩ := h
  obtain ⟨g1, g2, g3, g4, g5, g6⟩ := h'
  exact ⟨h1.trans g1.symm, h2.trans g2.symm, h3.trans g3.symm, h4.trans g4.symm, h5.trans g5.symm, h6.trans g6.symm⟩
theorem part_part {l L Lq Lr : List Nd} {kn jn : Nat} (hl : CkR l 0 0) (hk : kn < l.length) (hm : L.length = kn + 1 - St l kn) (hc : ∀ j, (h : j < L.length) → (h' : St l kn + j < l.length) → CutOf (St l kn) l[St l kn + j] L[j])
    (hj : jn < L.length) (hq : Lq.length = jn + 1 - St L jn) (hcq : ∀ j, (h : j < Lq.length) → (h' : St L jn + j < L.length) → CutOf (St L jn) L[St L jn + j] Lq[j])
    (hr : Lr.length = St l kn + jn + 1 - St l (St l kn + jn)) (hcr : ∀ j, (h : j < Lr.length) → (h' : St l (St l kn + jn) + j < l.length) → CutOf (St l (St l kn + jn)) l[St l (St l kn + jn) + j] Lr[j]) :
    Lq.length = Lr.length ∧ ∀ j, (h : j < Lq.length) → (h' : j < Lr.length) → Like Lq[j] Lr[j] := by
  obtain ⟨g1, g2, g3, g4, g5⟩ := hl.good
  have hle := St_le l kn
  obtain ⟨a1, _, a3, _, _⟩ := part_all (L := L) hk (fun j hj => g3 j (by omega)) rfl hm hc jn hj
  have hle2 := St_le l (St l kn + jn)
  refine ⟨by omega, fun i h h' => ?_⟩
  have b1 := hcq i h (by omega)
  have b2 := hc (St L jn + i) (by omega) (by omega)
  have b3 := hcr i h' (by omega)
  have b4 := b2.more b1
  have e1 : St l kn + St L jn = St l (St l kn + jn) := by omega
  have e2 : St l kn + (St L jn + i) = St l (St l kn + jn) + i := by omega
  simp only [e1, e2] at b4
  exact b4.like b3
theorem fit_good {l : List Nd} {cap : Nat} (hl : CkR l 0 0) (hc : l.length ≤ cap) : Fit l cap := by
  obtain ⟨g1, g2, g3, g4, g5⟩ := hl.good
  exact ⟨hc, by omega, fun j hj => by have := (code_kids hj (g3 j hj)).1; omega⟩
theorem PtR.bad {l L : List Nd} {k c a : Int} (h : PtR l k L c a) (hc : c ≠ 0) : L = [] := by
  rcases h with ⟨_, _, h⟩ | ⟨_, _, _, _, h⟩ | ⟨_, h, _⟩
  · exact h
  · exact h
  · exact absurd h hc
theorem PtR.fine {l L : List Nd} {k a : Int} (h : PtR l k L 0 a) : CkR l 0 0 ∧ a = 0 ∧ ∃ kn : Nat, k = kn ∧ kn < l.length ∧ L.length = kn + 1 - St l kn ∧ ∀ j, (h : j < L.length) → (h' : St l kn + j < l.length) → CutOf (St l kn) l[St l kn + j] L[j] := by
  rcases h with ⟨_, h, _⟩ | ⟨_, _, h, _⟩ | ⟨h1, _, h2, h3⟩
  · exact absurd rfl h
  · cases h
  · exact ⟨h1, h2, h3⟩
theorem PtR.range {l L : List Nd} {k c a : Int} (h : PtR l k L c a) (hl : CkR l 0 0) (hc : c ≠ 0) : k < 0 ∨ (l.length : Int) ≤ k := by
  rcases h with ⟨h1, _, _⟩ | ⟨_, h, _⟩ | ⟨_, h, _⟩
  · exact absurd (hl.det h1).1.symm hc
  · exact h
  · exact absurd h hc
end Go.Proofs.Ytcaekpgnknlblaa
