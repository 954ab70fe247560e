/-
  An argument that is a slice of words, opened to its cells.
-/
import Derived.Test.YtaipdmaiffjeeaaDoorTa
import Derived.Test.YtaipdmaiffjeeaaDoorY
import Derived.SizedLaws
import Derived.Deep.Slices
import Derived.Deep.Fields
import Derived.ChangeSame
import Derived.Carry
namespace Go.Proofs.YtaipdmaiffjeeaaDoor
open Go.ChangeShapes Go.WideShapes Go.Deep Go.RowKit

section
variable {H : Type} {enc : TypeId × Value → H} {P : Program} {w : World} {base : Nat} {spare : Nat → Bool} {held : Bool}
theorem open_slice_fields {t e : TypeId} {fs : Array Field} {fuel : Nat} {cs : List Value} {x : DataW H × List MemPlace} (ht : P.underlying t = some (.slice e)) (he : P.underlying e = some (.struct fs))
    (hone : oneCellFields P fs = true) (hC : P.cellsOf e = fs.size) (h : DataW.trod enc P w base spare held fuel t cs = some x) :
    (cs = [.slice none 0 0] ∧ x = (.nil, [])) ∨
    ∃ (a : Addr) (len cap m : Nat) (D : Nat → DataW H) (Pl : Nat → List MemPlace), cs = [.slice (some a) len cap] ∧ base ≤ a.block ∧ len ≤ cap ∧ cap ≤ maxLen ∧ m = (if spare a.block then cap else len) ∧
      x = (.slice ((List.range len).map D) ((List.range (m - len)).map fun j => D (len + j)), MemPlace.row a (m * fs.size) ++ (List.range m).flatMap Pl) ∧
      ∀ i, i < m → ∃ (ys : List (DataW H × List MemPlace)) (n : Nat), D i = .agg (ys.map (·.1)) ∧ Pl i = ys.flatMap (·.2) ∧ ys.length = fs.size ∧
        ∀ (j : Nat) (f : Field), fs[j]? = some f → ∃ (v : Value) (y : DataW H × List MemPlace), w.cell? (a.add (i * fs.size + j)) = some v ∧ ys[j]? = some y ∧ DataW.trod enc P w base spare held n f.type [v] = some y := by
  rcases open_slice ht h with h0 | ⟨a, len, cap, m, n, D, Pl, hcs, hb, hl, hm, hmm, hx, hi⟩
  · exact .inl h0
  · refine .inr ⟨a, len, cap, m, D, Pl, hcs, hb, hl, hm, hmm, by rw [hC] at hx; exact hx, fun i him => ?_⟩
    obtain ⟨cs', hc, ht'⟩ := hi i him
    rw [hC] at hc
    obtain ⟨ys, n', hn', hy, hlen, hyl, hf⟩ := DataW.trod_struct he ht'
    obtain ⟨_, hcl, hat⟩ := World.cells?_some hc
    simp only [Prod.mk.injEq] at hy
    refine ⟨ys, n', hy.1, hy.2, hyl, fun j f hj => ?_⟩
    obtain ⟨ho, hk⟩ := hone_of hone j f hj
    have hjl : j < fs.size := (Array.getElem?_eq_some_iff.1 hj).1
    have hcell := hat j hjl
    have hv : cs'[j]? = some (cs'[j]'(by omega)) := List.getElem?_eq_getElem (by omega)
    have h1 := hf j f hj
    rw [ho, hk] at h1
    have hone' : (cs'.drop j).take 1 = [cs'[j]'(by omega)] := by
      rw [List.drop_eq_getElem_cons (by omega)]
      rfl
    rw [hone'] at h1
    have hys : ys[j]? = some (ys[j]'(by omega)) := List.getElem?_eq_getElem (by omega)
    refine ⟨_, _, ?_, hys, h1.trans hys⟩
    rw [← Go.Deep.add_add, hcell, hv]
end

theorem build_list {α : Type} {P : Nat → α → Prop} : ∀ (n : Nat), (∀ i, i < n → ∃ t, P i t) → ∃ l : List α, l.length = n ∧ ∀ i, (h : i < l.length) → P i l[i] := by
  intro n
  induction n with
  | zero => intro _; exact ⟨[], rfl, fun i h => by simp at h⟩
  | succ n ih =>
    intro h
    obtain ⟨l, hl, hp⟩ := ih fun i hi => h i (by omega)
    obtain ⟨t, ht⟩ := h n (by omega)
    refine ⟨l ++ [t], by simp [hl], fun i hi => ?_⟩
    by_cases e : i < l.length
    · rw [List.getElem_append_left e]; exact hp i e
    · have e2 : i = l.length := by simp at hi; omega
      subst e2
      rw [List.getElem_append_right (by omega)]
      simp only [Nat.sub_self, List.getElem_cons_zero]
      rw [hl]; exact ht
theorem weightsAll_mem {H : Type} {P : Program} {e : TypeId} {l : List (DataW H)} {d : DataW H} (hd : d ∈ l) : ∀ n ∈ d.weights P e, n ∈ DataW.weightsAll P e l := by
  induction l with
  | nil => cases hd
  | cons x l ih =>
    intro n hn
    simp only [DataW.weightsAll, List.mem_append]
    rcases List.mem_cons.1 hd with rfl | h
    · exact Or.inl hn
    · exact Or.inr (ih h n hn)
theorem rowI_length (l : List I4) : (rowI l).length = l.length * 4 := by
  induction l with
  | nil => rfl
  | cons t l ih => simp [rowI, cellsI] at *; omega
theorem readsI_of_cells {W : World} {b o cap : Nat} {l : List I4} (h0 : 0 < l.length → b < W.heap.size)
    (h : ∀ i, (h : i < l.length) → W.cell? ⟨b, o + i * 4, none⟩ = some (.int .i64 l[i].k) ∧ W.cell? ⟨b, o + (i * 4 + 1), none⟩ = some (.string (bstr l[i].t)) ∧ W.cell? ⟨b, o + (i * 4 + 2), none⟩ = some (.int .i64 l[i].v) ∧ W.cell? ⟨b, o + (i * 4 + 3), none⟩ = some (.int .i64 l[i].a)) :
    ReadsI W (.slice (some ⟨b, o, none⟩) l.length cap) l := by
  refine ⟨_, cap, rfl, fun hp => ⟨b, o, rfl, h0 hp, fun j u hu => ?_⟩⟩
  have hj : j < l.length * 4 := by
    have := (List.getElem?_eq_some_iff.1 hu).1
    rw [rowI_length] at this; exact this
  have hi : j / 4 < l.length := by omega
  obtain ⟨a0, a1, a2, a3⟩ := h (j / 4) hi
  obtain ⟨b0, b1, b2, b3⟩ := rowI_get l (j / 4) hi
  have hr : j % 4 = 0 ∨ j % 4 = 1 ∨ j % 4 = 2 ∨ j % 4 = 3 := by omega
  rcases hr with r | r | r | r
  · have e : j = j / 4 * 4 := by omega
    rw [e] at hu ⊢; rw [b0] at hu; rw [← hu]; exact a0
  · have e : j = j / 4 * 4 + 1 := by omega
    rw [e] at hu ⊢; rw [b1] at hu; rw [← hu]; exact a1
  · have e : j = j / 4 * 4 + 2 := by omega
    rw [e] at hu ⊢; rw [b2] at hu; rw [← hu]; exact a2
  · have e : j = j / 4 * 4 + 3 := by omega
    rw [e] at hu ⊢; rw [b3] at hu; rw [← hu]; exact a3

theorem addr_plain (b off j : Nat) : ((⟨b, off, none⟩ : Addr).add j) = ⟨b, off + j, none⟩ := by unfold Addr.add; split <;> simp_all
set_option maxRecDepth 100000 in
theorem open_tokens {H : Type} {enc : TypeId × Value → H} {W : World} {base : Nat} {v : Value} {d : DataW H} {p : List MemPlace}
    (hval : Value.okWide Tryd.prog W .any base 22 v) (h : DataW.Trod enc Tryd.prog W 0 (fun _ => true) true 22 v d p) (hz : ∀ n ∈ d.weights Tryd.prog 22, n ≤ reachBytes) :
    ∃ l : List I4, ReadsI W v l ∧ l.length ≤ 140737488355328 ∧ ∀ j, (h : j < l.length) → l[j].t.length ≤ 140737488355328 := by
  obtain ⟨a0, len, cap, rfl⟩ := okWide_slice Tryd.underlying22 hval
  obtain ⟨fuel, hf⟩ := h
  rcases open_slice_fields Tryd.underlying22 Tryd.underlying36 (by kernel_rfl) (by kernel_rfl) hf with ⟨hcs, hx⟩ | ⟨a, len', cap', m, D, Pl, hcs, hb, hl, hm, hmm, hx, hi⟩
  · simp [Value.cells] at hcs
    obtain ⟨rfl, rfl, rfl⟩ := hcs
    exact ⟨[], ⟨none, 0, rfl, fun h => by simp at h⟩, by simp, fun j h => by simp at h⟩
  · simp [Value.cells] at hcs
    obtain ⟨rfl, rfl, rfl⟩ := hcs
    have hmc : m = cap := by simpa using hmm
    subst hmc
    have hcell : ∀ i, i < len → ∃ t : I4, (W.cell? (a.add (i * 4)) = some (.int .i64 t.k) ∧ W.cell? (a.add (i * 4 + 1)) = some (.string (bstr t.t)) ∧ W.cell? (a.add (i * 4 + 2)) = some (.int .i64 t.v) ∧ W.cell? (a.add (i * 4 + 3)) = some (.int .i64 t.a)) ∧ t.t.length ≤ 140737488355328 := by
      intro i hi2
      obtain ⟨ys, n, hD, _, hyl, hfs⟩ := hi i (by omega)
      obtain ⟨v0, y0, hc0, hy0, ht0⟩ := hfs 0 _ rfl
      obtain ⟨v1, y1, hc1, hy1, ht1⟩ := hfs 1 _ rfl
      obtain ⟨v2, y2, hc2, hy2, ht2⟩ := hfs 2 _ rfl
      obtain ⟨v3, y3, hc3, hy3, ht3⟩ := hfs 3 _ rfl
      obtain ⟨k, e0, rfl, _⟩ := DataW.trod_int Tryd.underlying3 ht0
      obtain ⟨s, e1, rfl, _⟩ := DataW.trod_string Tryd.underlying9 ht1
      obtain ⟨q, e2, rfl, _⟩ := DataW.trod_int Tryd.underlying3 ht2
      obtain ⟨r, e3, rfl, _⟩ := DataW.trod_int Tryd.underlying3 ht3
      simp at e0 e1 e2 e3
      subst e0; subst e1; subst e2; subst e3
      refine ⟨⟨k, s.data.toList, q, r⟩, ⟨hc0, ?_, hc2, hc3⟩, ?_⟩
      · rw [show bstr s.data.toList = s from Lib.mk_data s]; exact hc1
      · have hmem : D i ∈ (List.range len).map D := List.mem_map.2 ⟨i, List.mem_range.2 hi2, rfl⟩
        have hw : s.data.toList.length ∈ (D i).weights Tryd.prog 36 := by
          rw [hD]
          match ys, hyl, hy0, hy1, hy2, hy3 with
          | [z0, z1, z2, z3], _, hy0, hy1, hy2, hy3 =>
            simp at hy0 hy1 hy2 hy3
            subst hy0; subst hy1; subst hy2; subst hy3
            simp [DataW.weights, Tryd.underlying36, DataW.weightsEach]
        simp only [Prod.mk.injEq] at hx
        have := hz s.data.toList.length (by
          rw [hx.1]
          simp only [DataW.weights, Tryd.underlying22, List.mem_cons, List.mem_append]
          exact Or.inr (Or.inl (weightsAll_mem hmem _ hw)))
        exact Nat.le_trans this (by unfold reachBytes; omega)
    obtain ⟨l, hln, hlp⟩ := build_list len hcell
    have hlen47 : len ≤ 140737488355328 := by
      simp only [Prod.mk.injEq] at hx
      have hb36 : Tryd.prog.bytesOf 36 = 40 := by kernel_rfl
      have := hz _ (by rw [hx.1]; simp only [DataW.weights, Tryd.underlying22, List.mem_cons]; exact Or.inl rfl)
      rw [hb36, List.length_map, List.length_range] at this
      unfold reachBytes at this
      omega
    refine ⟨l, ?_, by omega, fun j h => (hlp j h).2⟩
    by_cases h0 : 0 < len
    · have hsp := (hlp 0 (by omega)).1.1
      obtain ⟨b, off, spot⟩ := a
      have hspot : spot = none := by simpa [Addr.add] using World.cell?_spot hsp
      subst hspot
      have hadd : ∀ j, ((⟨b, off, none⟩ : Addr).add j) = ⟨b, off + j, none⟩ := fun j => addr_plain b off j
      rw [← hln]
      refine readsI_of_cells (fun _ => ?_) fun i hi => ?_
      · have := World.block_lt_of_cell? W _ hsp
        rw [hadd] at this
        exact this
      · have := (hlp i hi).1
        rw [hadd, hadd, hadd, hadd] at this
        exact this
    · obtain rfl : len = 0 := by omega
      obtain rfl : l = [] := List.eq_nil_of_length_eq_zero hln
      exact ⟨some a, m, rfl, fun h => by simp at h⟩
end Go.Proofs.YtaipdmaiffjeeaaDoor
