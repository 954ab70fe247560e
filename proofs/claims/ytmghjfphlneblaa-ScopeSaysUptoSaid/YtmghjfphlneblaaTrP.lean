/-
  The contract of the document's texts: may a node without a name have a text?
-/
import Derived.Test.YtmghjfphlneblaaTrO
namespace Go.Proofs.Ytmghjfphlneblaa.Tr
open Go.RowKit

def strs (L : List (List UInt8)) : Array Value := (L.map fun l => Value.string ⟨l.toArray⟩).toArray
theorem txt_new (w : World) (L : List (List UInt8)) (T : TypeId) : TxtAt (w.alloc (.cells (strs L) T)) w.heap.size L := fun i h => by
  refine ⟨⟨L[i].toArray⟩, by rw [Lib.toList_data], ?_⟩
  rw [(Blk.new w T (strs L)).cell i]
  simp [strs, h]
theorem TxtAt.alloc {w : World} {b : Nat} {L : List (List UInt8)} (h : TxtAt w b L) (o : Obj) : TxtAt (w.alloc o) b L := fun i hi => by
  obtain ⟨x, hx, hc⟩ := h i hi
  exact ⟨x, hx, by rw [World.cell?_alloc_lt _ _ _ (World.block_lt_of_cell? w _ hc)]; exact hc⟩
theorem set_split {L : List UInt8} : L ∈ setS ↔ L = [61] ∨ (1 < L.length ∧ L.getLast? = some 61 ∧ L.dropLast ∈ twoA) := by
  constructor
  · intro h
    simp only [setS, List.mem_cons, List.not_mem_nil, or_false] at h
    rcases h with rfl | rfl | rfl | rfl | rfl | rfl | rfl | rfl | rfl | rfl | rfl <;> decide
  · rintro (rfl | ⟨h1, h2, h3⟩)
    · decide
    · have h4 : L ≠ [] := by intro e; rw [e] at h1; simp at h1
      have h5 : L = L.dropLast ++ [61] := by
        have h := List.dropLast_concat_getLast h4
        have h6 : L.getLast h4 = 61 := by rw [List.getLast?_eq_some_getLast h4] at h2; exact Option.some.inj h2
        rw [h6] at h
        exact h.symm
      generalize L.dropLast = X at *
      subst h5
      simp only [twoA, List.mem_cons, List.not_mem_nil, or_false] at h3
      rcases h3 with rfl | rfl | rfl | rfl | rfl | rfl | rfl | rfl | rfl | rfl <;> decide

set_option maxHeartbeats 2000000 in
set_option maxRecDepth 10000 in
theorem texts_one (s : ByteArray) (w : World) :
    Calls Try.prog 38 #[.int .i64 35, .string s] w fun e w' => e = .returned (.bool (oneB s)) ∧ Below w.heap.size w w' := by
  have T1 : Hid (TxtAt ((w.alloc (Obj.cells #[Value.string { data := #[43] }, Value.string { data := #[45] }, Value.string { data := #[42] }, Value.string { data := #[47] }, Value.string { data := #[37] }, Value.string { data := #[38] }, Value.string { data := #[124] }, Value.string { data := #[94] }, Value.string { data := #[60, 60] }, Value.string { data := #[62, 62] }] 9)).alloc (Obj.cells #[Value.string { data := #[45] }, Value.string { data := #[33] }, Value.string { data := #[126] }, Value.string { data := #[42] }, Value.string { data := #[38] }] 9)) (w.heap.size + 1) oneS) := by
    have h := txt_new (w.alloc (.cells (strs twoA) 9)) oneS 9
    rw [World.size_alloc] at h
    exact h
  go_enter Try.func38, Try.ntmps38
  go_wp2_with (go_at_call 49; refine (among_any oneS _ _ s _ T1.out (by decide) _ rfl).mono ?_; rintro e w' ⟨rfl, rfl⟩)
  go_ret
  exact ⟨rfl, ((Below.refl _ _).alloc (Nat.le_refl _) _).alloc (by simp) _⟩

set_option maxHeartbeats 2000000 in
set_option maxRecDepth 10000 in
theorem texts_two (s : ByteArray) (w : World) :
    Calls Try.prog 38 #[.int .i64 36, .string s] w fun e w' => e = .returned (.bool (twoB s)) ∧ Below w.heap.size w w' := by
  have T1 : Hid (TxtAt (w.alloc (Obj.cells #[Value.string { data := #[43] }, Value.string { data := #[45] }, Value.string { data := #[42] }, Value.string { data := #[47] }, Value.string { data := #[37] }, Value.string { data := #[38] }, Value.string { data := #[124] }, Value.string { data := #[94] }, Value.string { data := #[60, 60] }, Value.string { data := #[62, 62] }] 9)) w.heap.size twoA) := txt_new w twoA 9
  have T2 : Hid (TxtAt ((w.alloc (Obj.cells #[Value.string { data := #[43] }, Value.string { data := #[45] }, Value.string { data := #[42] }, Value.string { data := #[47] }, Value.string { data := #[37] }, Value.string { data := #[38] }, Value.string { data := #[124] }, Value.string { data := #[94] }, Value.string { data := #[60, 60] }, Value.string { data := #[62, 62] }] 9)).alloc (Obj.cells #[Value.string { data := #[61, 61] }, Value.string { data := #[33, 61] }, Value.string { data := #[60] }, Value.string { data := #[60, 61] }, Value.string { data := #[62] }, Value.string { data := #[62, 61] }] 9)) (w.heap.size + 1) twoC) := by
    have h := txt_new (w.alloc (.cells (strs twoA) 9)) twoC 9
    rw [World.size_alloc] at h
    exact h
  have hR : Hid (twoB s = (amB twoA s || amB twoC s)) := by
    show _ = _
    unfold twoB amB
    rw [Bool.eq_iff_iff]; simp [List.mem_append]
  have C1 := fun W h => among_any twoA w.heap.size 10 s W h (by decide) 10 rfl
  have C2 := fun W h => among_any twoC (w.heap.size + 1) 6 s W h (by decide) 6 rfl
  go_enter Try.func38, Try.ntmps38
  cases h1 : amB twoA s with
  | true =>
    rw [h1] at hR
    go_wp2_with (go_at_call 49; refine (C1 _ T1.out).mono ?_; rintro e w' ⟨rfl, rfl⟩)
    go_ret
    exact ⟨ret_bool hR.out.symm, (Below.refl _ _).alloc (Nat.le_refl _) _⟩
  | false =>
    rw [h1] at hR
    go_wp2_with (go_at_call 49; refine (C1 _ T1.out).mono ?_)
    first | rintro e w' rfl rfl | rintro e w' ⟨rfl, rfl⟩
    clear C1
    go_wp2_with (go_at_call 49; refine (C2 _ T2.out).mono ?_)
    first | rintro e w' rfl rfl | rintro e w' ⟨rfl, rfl⟩
    go_wp2
    go_ret
    exact ⟨ret_bool hR.out.symm, ((Below.refl _ _).alloc (Nat.le_refl _) _).alloc (by simp) _⟩

set_option maxHeartbeats 2000000 in
set_option maxRecDepth 10000 in
theorem texts_set (s : ByteArray) (w : World) (hs : s.size ≤ 1000000000000000000) :
    Calls Try.prog 38 #[.int .i64 39, .string s] w fun e w' => e = .returned (.bool (setB s)) ∧ Below w.heap.size w w' := by
  have T1 : Hid (TxtAt (w.alloc (Obj.cells #[Value.string { data := #[43] }, Value.string { data := #[45] }, Value.string { data := #[42] }, Value.string { data := #[47] }, Value.string { data := #[37] }, Value.string { data := #[38] }, Value.string { data := #[124] }, Value.string { data := #[94] }, Value.string { data := #[60, 60] }, Value.string { data := #[62, 62] }] 9)) w.heap.size twoA) := txt_new w twoA 9
  have hlen : s.toList.length = s.size := by rw [Lib.toList_data, ← Lib.size_eq]
  by_cases h1 : s.toList = [61]
  · have hR : Hid (setB s = true) := decide_eq_true (by rw [h1]; decide)
    clear hlen
    go_enter Try.func38, Try.ntmps38
    go_wp2
    go_ret
    exact ⟨ret_bool hR.out.symm, (Below.refl _ _).alloc (Nat.le_refl _) _⟩
  · have e1 : (s.toList == [61]) = false := by simpa using h1
    have hR : Hid (setB s = true ↔ (1 < s.size ∧ s.toList.getLast? = some 61 ∧ s.toList.dropLast ∈ twoA)) := by
      show _ ↔ _
      unfold setB
      rw [decide_eq_true_eq, set_split, hlen]
      exact ⟨fun h => h.resolve_left h1, Or.inr⟩
    clear h1
    by_cases h2 : 1 < s.size
    · obtain ⟨q, hq⟩ : ∃ q, q = s.size - 1 := ⟨_, rfl⟩
      have hql : q < s.size := by omega
      have hgl : s.toList.getLast? = some s[q] := by
        rw [List.getLast?_eq_getElem?, hlen, ← hq, List.getElem?_eq_getElem (by rw [hlen]; omega)]
        simp only [Lib.toList_data]
        rfl
      have hdl : s.toList.dropLast = (s.extract 0 q).toList := by
        rw [Lib.toList_data, Lib.toList_data, List.dropLast_eq_take, ← Lib.size_eq, hq]
        simp
        rw [List.dropLast_eq_take, ← Lib.size_eq]
      have e3 : (s.size : Int) - 1 = (q : Int) := by omega
      have e4 : (1 : Int) < (s.size : Int) := by omega
      have e5 : decide ((1 : Int) < (s.size : Int)) = true := by simpa using e4
      by_cases h3 : s[q].toNat = 61
      · have h61 : s[q] = 61 := by apply UInt8.toNat.inj; exact h3
        have hR2 : Hid (setB s = amB twoA (s.extract 0 q)) := by
          show _ = _
          rw [Bool.eq_iff_iff, hR.out, hgl, h61, hdl]
          unfold amB
          simp [h2]
        have e6 : ((s[q].toNat : Int) == 61) = true := by rw [h3]; rfl
        have C1 := among_any twoA w.heap.size 10 (s.extract 0 q) _ T1.out (by decide) 10 rfl
        clear hgl hdl h61 h3 hlen hq hR
        go_enter Try.func38, Try.ntmps38
        go_wp2_with (go_at_call 49; refine C1.mono ?_)
        first | rintro e w' rfl rfl | rintro e w' ⟨rfl, rfl⟩
        go_wp2
        go_ret
        exact ⟨ret_bool hR2.out.symm, (Below.refl _ _).alloc (Nat.le_refl _) _⟩
      · have hF : Hid (setB s = false) := by
          show _ = _
          cases hb : setB s with
          | false => rfl
          | true =>
            have h := (hR.out.1 hb).2.1
            rw [hgl] at h
            have h := Option.some.inj h
            exact absurd (by rw [h]; rfl) h3
        have e6 : ((s[q].toNat : Int) == 61) = false := by rw [beq_eq_false_iff_ne]; intro h; exact h3 (by omega)
        clear hgl hdl h3 hlen hq hR
        go_enter Try.func38, Try.ntmps38
        go_wp2
        go_ret
        exact ⟨ret_bool hF.out.symm, (Below.refl _ _).alloc (Nat.le_refl _) _⟩
    · have hF : Hid (setB s = false) := by
        show _ = _
        cases hb : setB s with
        | false => rfl
        | true => exact absurd (hR.out.1 hb).1 h2
      clear hlen
      go_enter Try.func38, Try.ntmps38
      go_wp2
      go_ret
      exact ⟨ret_bool hF.out.symm, (Below.refl _ _).alloc (Nat.le_refl _) _⟩

set_option maxHeartbeats 2000000 in
set_option maxRecDepth 10000 in
theorem texts_rest (k : Int) (s : ByteArray) (w : World) (h1 : k ≠ 35) (h2 : k ≠ 36) (h3 : k ≠ 39) :
    Calls Try.prog 38 #[.int .i64 k, .string s] w fun e w' => e = .returned (.bool (signB k s)) ∧ Below w.heap.size w w' := by
  go_enter Try.func38, Try.ntmps38
  go_wp2
  all_goals go_ret
  all_goals exact ⟨ret_bool (by go_light; rw [Bool.eq_iff_iff]; simp_all [signB, bothB, bothS, stepB, stepS]), (Below.refl _ _).alloc (Nat.le_refl _) _⟩
theorem rtexts_any (k : Int) (s : ByteArray) (w : World) (hs : s.size ≤ 1000000000000000000) :
    Calls Try.prog 38 #[.int .i64 k, .string s] w fun e w' => e = .returned (.bool (signB k s)) ∧ Below w.heap.size w w' := by
  by_cases h1 : k = 35
  · subst h1; exact texts_one s w
  · by_cases h2 : k = 36
    · subst h2; exact texts_two s w
    · by_cases h3 : k = 39
      · subst h3; exact texts_set s w hs
      · exact texts_rest k s w h1 h2 h3
end Go.Proofs.Ytmghjfphlneblaa.Tr
