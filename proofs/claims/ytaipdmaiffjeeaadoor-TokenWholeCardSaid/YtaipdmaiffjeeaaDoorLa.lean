/-
  Contract of the document's answer: fault; and what the plain relation says of comments, byte by byte.
-/
import Derived.Test.YtaipdmaiffjeeaaDoorK
import Derived.Test.YtaipdmaiffjeeaaDoorX
namespace Go.Proofs.YtaipdmaiffjeeaaDoor
open Go.RowKit

set_option maxHeartbeats 1000000 in
theorem fault_any (c a : Int) (w : World) :
    Calls Tryd.prog 18 #[.int .i64 c, .int .i64 a] w fun e w' => e = .returned (.agg #[.int .i64 c, .int .i64 a]) ∧ w' = w.alloc (.cells #[.int .i64 c, .int .i64 a] 24) := by
  go_enter Tryd.func18, Tryd.ntmps18
  go_wp2
  exact bodyPost_ret (v := .agg #[.int .i64 c, .int .i64 a]) (by simp [results, Tryd.results18, go_sem]) rfl ⟨rfl, rfl⟩

theorem pre2_iff {l : List UInt8} {k : Nat} (hk : k < l.length) (x y : UInt8) : Lib.hasPrefix (l.drop k) [x, y] = true ↔ l[k] = x ∧ ∃ h : k + 1 < l.length, l[k + 1] = y := by
  rw [List.drop_eq_getElem_cons hk]
  by_cases h1 : k + 1 < l.length
  · rw [List.drop_eq_getElem_cons h1]
    show ((x == l[k]) && ((y == l[k + 1]) && true)) = true ↔ _
    simp only [Bool.and_true, Bool.and_eq_true, beq_iff_eq]
    exact ⟨fun ⟨a, b⟩ => ⟨a.symm, h1, b.symm⟩, fun ⟨a, _, b⟩ => ⟨a.symm, b.symm⟩⟩
  · rw [List.drop_eq_nil_of_le (by omega)]
    simp [Lib.hasPrefix, h1]
theorem skp_line {l : List UInt8} {k : Nat} (hk : k < l.length) (h0 : blankB l[k] = false) (h : Lib.hasPrefix (l.drop k) [47, 47] = true) : skp (l.drop k) = .skip (preN nlB (l.drop k)) ∧ 1 ≤ preN nlB (l.drop k) := by
  have hc : cmtT (l.drop k) = ((preN nlB (l.drop k) : Int), false) := if_pos h
  have h1 := (pre2_iff hk 47 47).1 h
  have hp : 1 ≤ preN nlB (l.drop k) := by
    rw [List.drop_eq_getElem_cons hk]
    exact preN_pos (by rw [h1.1]; decide)
  refine ⟨?_, hp⟩
  have e := List.drop_eq_getElem_cons hk
  have h2 : (cmtT (l[k] :: l.drop (k + 1))).2 = false := by rw [← e, hc]
  have h3 : (cmtT (l[k] :: l.drop (k + 1))).1 ≠ 0 := by rw [← e, hc]; show ((preN nlB (l.drop k) : Nat) : Int) ≠ 0; omega
  have h4 := skp_more h0 h2 h3
  rw [← e, hc] at h4
  simpa using h4
theorem skp_block {l : List UInt8} {k : Nat} (hk : k < l.length) (h0 : blankB l[k] = false) (h : Lib.hasPrefix (l.drop k) [47, 42] = true) :
    (Lib.index (l.drop (k + 2)) [42, 47] < 0 → skp (l.drop k) = .opens) ∧ (∀ i : Nat, Lib.index (l.drop (k + 2)) [42, 47] = i → skp (l.drop k) = .skip (i + 4)) := by
  have h1 := (pre2_iff hk 47 42).1 h
  have hnl : Lib.hasPrefix (l.drop k) [47, 47] = false := by
    cases e : Lib.hasPrefix (l.drop k) [47, 47] with
    | false => rfl
    | true =>
      obtain ⟨_, h5⟩ := h1
      obtain ⟨_, h6⟩ := (pre2_iff hk 47 47).1 e
      obtain ⟨a, b⟩ := h5
      obtain ⟨_, d⟩ := h6
      rw [b] at d
      exact absurd d (by decide)
  have e := List.drop_eq_getElem_cons hk
  have hdd : (l.drop k).drop 2 = l.drop (k + 2) := by rw [List.drop_drop]
  constructor
  · intro hi
    have hc : cmtT (l.drop k) = (0, true) := by unfold cmtT; rw [if_neg (by simp [hnl]), if_neg (by simp [h]), hdd, if_pos hi]
    have h4 := skp_open (c := l[k]) (l := l.drop (k + 1)) h0 (by rw [← e, hc])
    rw [← e] at h4
    exact h4
  · intro i hi
    have hc : cmtT (l.drop k) = ((i : Int) + 4, false) := by unfold cmtT; rw [if_neg (by simp [hnl]), if_neg (by simp [h]), hdd, if_neg (by omega), hi]
    have h4 := skp_more (c := l[k]) (l := l.drop (k + 1)) h0 (by rw [← e, hc]) (by rw [← e, hc]; show (i : Int) + 4 ≠ 0; omega)
    rw [← e, hc] at h4
    rw [h4]
    congr 1
theorem skp_none {l : List UInt8} {k : Nat} (hk : k < l.length) (h0 : blankB l[k] = false) (h1 : Lib.hasPrefix (l.drop k) [47, 47] = false) (h2 : Lib.hasPrefix (l.drop k) [47, 42] = false) : skp (l.drop k) = .word := by
  have e := List.drop_eq_getElem_cons hk
  have hc : cmtT (l.drop k) = (0, false) := by unfold cmtT; rw [if_neg (by simp [h1]), if_pos h2]
  have h4 := skp_word (c := l[k]) (l := l.drop (k + 1)) h0 (by rw [← e, hc]) (by rw [← e, hc])
  rw [← e] at h4
  exact h4
theorem occ2 {l : List UInt8} {j : Nat} : Lib.occAt l [42, 47] j = true ↔ l[j]? = some 42 ∧ l[j + 1]? = some 47 := by
  unfold Lib.occAt
  by_cases h : j < l.length
  · rw [List.drop_eq_getElem_cons h]
    by_cases h1 : j + 1 < l.length
    · rw [List.drop_eq_getElem_cons h1]
      rw [List.getElem?_eq_getElem h, List.getElem?_eq_getElem h1]
      show ((42 == l[j]) && ((47 == l[j + 1]) && true)) = true ↔ _
      simp only [Bool.and_true, Bool.and_eq_true, beq_iff_eq, Option.some.injEq]
      exact ⟨fun ⟨a, b⟩ => ⟨a.symm, b.symm⟩, fun ⟨a, b⟩ => ⟨a.symm, b.symm⟩⟩
    · rw [List.drop_eq_nil_of_le (by omega)]
      simp [List.getElem?_eq_none (show l.length ≤ j + 1 by omega)]
  · rw [List.drop_eq_nil_of_le (by omega)]
    simp [List.getElem?_eq_none (show l.length ≤ j by omega)]
/-- no comment's end before place i -/
def NoEnd (l : List UInt8) (i : Nat) : Prop := ∀ j, j < i → Lib.occAt l [42, 47] j = false
theorem noEnd_zero (l : List UInt8) : NoEnd l 0 := fun j h => by omega
theorem noEnd_succ {l : List UInt8} {i : Nat} (h : NoEnd l i) (hn : ¬ (l[i]? = some 42 ∧ l[i + 1]? = some 47)) : NoEnd l (i + 1) := fun j hj => by
  by_cases e : j = i
  · subst e
    cases ho : Lib.occAt l [42, 47] j with
    | false => rfl
    | true => exact absurd (occ2.1 ho) hn
  · exact h j (by omega)
theorem noEnd_hit {l : List UInt8} {i : Nat} (h : NoEnd l i) (h1 : l[i]? = some 42) (h2 : l[i + 1]? = some 47) : Lib.index l [42, 47] = i := by
  have hl : i < l.length := (List.getElem?_eq_some_iff.1 h1).1
  exact Lib.index_first (by omega) (occ2.2 ⟨h1, h2⟩) h
theorem noEnd_none {l : List UInt8} {i : Nat} (h : NoEnd l i) (hl : l.length ≤ i + 1) : Lib.index l [42, 47] < 0 := by
  have : Lib.index l [42, 47] = -1 := Lib.index_none fun j _ => by
    by_cases e : j < i
    · exact h j e
    · cases ho : Lib.occAt l [42, 47] j with
      | false => rfl
      | true =>
        have := (List.getElem?_eq_some_iff.1 (occ2.1 ho).2).1
        omega
  omega

/-- what holds at the head of each round of the document's Scan -/
structure RInv (s : ByteArray) (w : World) (B : Nat) (v : Value) (wr : World) (k : Nat) (acc : List T4) : Prop where
  kle : k ≤ s.size
  res : wr.heap[B]? = some (.cells #[.int .i64 0, .int .i64 0] 24 (0, 0))
  own : wr.ownsRow (B + 1) 36 4 v acc.length (rowOf acc)
  below : Below B w wr
  few : acc.length ≤ 800
  rest : ∀ r, Scans k (s.data.toList.drop k) acc r → Scans 0 s.data.toList [] r
theorem rInv_len {s : ByteArray} {w : World} {B : Nat} {v : Value} {wr : World} {k : Nat} {acc : List T4} (h : RInv s w B v wr k acc) : ∃ p cap, v = .slice p acc.length cap ∧ acc.length ≤ 800 := by
  rcases h.own.2 with ⟨rfl, h0⟩ | ⟨g, cap, cur, hv, _⟩
  · rw [h0]; exact ⟨none, 0, rfl, by omega⟩
  · exact ⟨_, _, hv, h.few⟩
theorem rInv_skip {s : ByteArray} {w : World} {B : Nat} {v : Value} {wr : World} {k n : Nat} {acc : List T4} (h : RInv s w B v wr k acc) (hs : skp (s.data.toList.drop k) = .skip n) (hn : k + n ≤ s.size) : RInv s w B v wr (k + n) acc :=
  { h with kle := hn, rest := fun r hr => h.rest r (.skip hs (by rw [List.drop_drop]; exact hr)) }
end Go.Proofs.YtaipdmaiffjeeaaDoor
