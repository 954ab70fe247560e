/-
  Contracts of the document's answer: among, Key, sign, Name, number, quoted.
-/
import Derived.Test.YtaipdmaiffjeeaaDoorF
namespace Go.Proofs.YtaipdmaiffjeeaaDoor
open Go.RowKit

theorem contains_drop_true {xs : List (List UInt8)} {l : List UInt8} {k : Nat} (hk : k < xs.length) (h : xs[k] = l) (e : xs.contains l = (xs.drop k).contains l) : xs.contains l = true := by
  rw [e, List.drop_eq_getElem_cons hk, h]; simp
theorem contains_drop_false {xs : List (List UInt8)} {l : List UInt8} {k : Nat} (hk : k < xs.length) (h : xs[k] ≠ l) (e : xs.contains l = (xs.drop k).contains l) : xs.contains l = (xs.drop (k + 1)).contains l := by
  rw [e, List.drop_eq_getElem_cons hk, List.contains_cons]
  have : (l == xs[k]) = false := by simpa using fun h2 => h h2.symm
  rw [this, Bool.false_or]

def cont (xs : List (List UInt8)) (l : List UInt8) : Bool := xs.contains l
set_option maxHeartbeats 1000000 in
theorem among_any (xs : List (List UInt8)) (b o n cap : Nat) (s : ByteArray) (w : World) (hn : xs.length = n) (hm : n ≤ 100)
    (hc : ∀ i, (h : i < xs.length) → w.cell? ⟨b, o + i, none⟩ = some (.string (bstr xs[i]))) :
    Calls Tryd.prog 50 #[.slice (some ⟨b, o, none⟩) n cap, .string s] w fun e w' => e = .returned (.bool (cont xs s.data.toList)) ∧ w = w' := by
  have Hn := Lib.hid hn
  have HC := Lib.hid hc
  clear hn hc
  go_enter Tryd.func50, Tryd.ntmps50
  go_wp2
  go_loop [5] (fun i => ∃ k : Nat, k ≤ n ∧ i = .int .i64 k ∧ Hid (cont xs s.data.toList = cont (xs.drop k) s.data.toList)) (fun i => n - (intOf i).toNat)
  case atStart => exact ⟨0, Nat.zero_le _, rfl, rfl⟩
  case round =>
    obtain ⟨k, hk, rfl, HK⟩ := hrel
    by_cases hlt : k < n
    · have hl : k < xs.length := by have := Hn.out; omega
      have hcell := HC.out k hl
      by_cases he : xs[k] = s.data.toList
      · have HR : Hid (cont xs s.data.toList = true) := contains_drop_true hl he HK.out
        have ht : ((bstr xs[k]).toList == s.toList) = true := by rw [Lib.toList_data, Lib.toList_data]; show (xs[k] == s.data.toList) = true; simpa using he
        clear HK
        generalize bstr xs[k] = x at *
        clear he
        go_wp2
        go_ret
        exact ⟨ret_bool HR.out.symm, rfl⟩
      · have HR : Hid (cont xs s.data.toList = cont (xs.drop (k + 1)) s.data.toList) := contains_drop_false hl he HK.out
        have ht : ((bstr xs[k]).toList == s.toList) = false := by rw [Lib.toList_data, Lib.toList_data]; show (xs[k] == s.data.toList) = false; simpa using he
        clear HK
        generalize bstr xs[k] = x at *
        clear he
        go_wp2
        go_round
        case rel => exact ⟨k + 1, by omega, by go_num, HR⟩
        case measure => simp [intOf]; omega
    · have HR : Hid (cont xs s.data.toList = false) := by
        have e0 : xs.drop k = [] := List.drop_eq_nil_of_le (by have := Hn.out; omega)
        exact HK.out.trans (by rw [e0]; rfl)
      clear HK
      go_wp2
      go_ret
      exact ⟨ret_bool HR.out.symm, rfl⟩

theorem lit_cells (w : World) (xs : List (List UInt8)) (t : TypeId) (i : Nat) (h : i < xs.length) : (w.alloc (.cells (xs.map fun x => Value.string (bstr x)).toArray t)).cell? ⟨w.heap.size, 0 + i, none⟩ = some (.string (bstr xs[i])) := by
  rw [Nat.zero_add, World.cell?_alloc_new]; simp [h]

set_option maxHeartbeats 1000000 in
theorem rKey_any (s : ByteArray) (w : World) :
    Calls Tryd.prog 31 #[.string s] w fun e w' => e = .returned (.bool (keyB s.data.toList)) ∧ Below w.heap.size w w' := by
  go_enter Tryd.func31, Tryd.ntmps31
  go_wp2_with (go_at_call 50; refine (among_any keys _ 0 13 13 s _ rfl (by omega) (fun i h => lit_cells w keys 9 i h)).mono ?_; rintro e w' ⟨rfl, rfl⟩)
  go_ret
  exact ⟨ret_bool rfl, (Below.refl _ _).alloc (Nat.le_refl _) _⟩

set_option maxHeartbeats 1000000 in
theorem rSign_any (s : ByteArray) (w : World) :
    Calls Tryd.prog 34 #[.string s] w fun e w' => e = .returned (.bool (signB s.data.toList)) ∧ Below w.heap.size w w' := by
  go_enter Tryd.func34, Tryd.ntmps34
  go_wp2_with (go_at_call 50; refine (among_any signs _ 0 43 43 s _ rfl (by omega) (fun i h => lit_cells w signs 9 i h)).mono ?_; rintro e w' ⟨rfl, rfl⟩)
  go_ret
  exact ⟨ret_bool rfl, (Below.refl _ _).alloc (Nat.le_refl _) _⟩

set_option maxHeartbeats 1000000 in
theorem rin_any (n a b : Int) (w : World) :
    Calls Tryd.prog 22 #[.int .i64 n, .int .i64 a, .int .i64 b] w fun e w' => e = .returned (.bool (decide (a ≤ n ∧ n ≤ b))) ∧ w = w' := by
  go_enter Tryd.func22, Tryd.ntmps22
  go_wp2
  all_goals go_ret
  all_goals exact ⟨ret_bool (by rw [Bool.eq_iff_iff]; simp at *; try omega), rfl⟩

theorem let_word {c : UInt8} : (letB c = true ∨ digB c = true) ↔ wordB c = true := by simp [letB, digB, wordB]; omega

set_option maxHeartbeats 1000000 in
theorem rName_any (s : ByteArray) (w : World) (h1 : 1 ≤ s.size) (hs : s.size ≤ 140737488355328) (hd : digB s[0] = false) (hall : ∀ c ∈ s.data.toList, wordB c = true) :
    Calls Tryd.prog 32 #[.string s] w fun e w' => e = .returned (.bool (decide (s.size ≤ 12))) ∧ w = w' := by
  have hI := fun w => rin_any s.size 1 12 w
  have hD := fun w => rdig_any s[0] w
  rw [hd] at hD
  by_cases h12 : s.size ≤ 12
  · have hin : decide ((1 : Int) ≤ s.size ∧ (s.size : Int) ≤ 12) = true := decide_eq_true ⟨by omega, by omega⟩
    rw [hin] at hI
    have HR : Hid (decide (s.size ≤ 12) = true) := decide_eq_true h12
    have HA := Lib.hid hall
    clear hall hin hd
    go_enter Tryd.func32, Tryd.ntmps32
    go_wp2_with (first | (go_at_call 22; refine (hI _).mono ?_; rintro e w' ⟨rfl, rfl⟩) | (go_at_call 29; refine (hD _).mono ?_; rintro e w' ⟨rfl, rfl⟩))
    go_loop [3] (fun i => ∃ k : Nat, k ≤ s.size ∧ i = .int .i64 k) (fun i => s.size - (intOf i).toNat)
    case atStart => exact ⟨0, Nat.zero_le _, rfl⟩
    case round =>
      obtain ⟨k, hk, rfl⟩ := hrel
      by_cases hlt : k < s.size
      · have hw : wordB s[k] = true := HA.out _ (by rw [Array.mem_toList_iff]; exact Array.getElem_mem _)
        have hL := fun w => rlet_any s[k] w
        have hD2 := fun w => rdig_any s[k] w
        cases hl : letB s[k] with
        | true =>
          rw [hl] at hL
          clear hw hl
          go_wp2_with (go_at_call 28; refine (hL _).mono ?_; rintro e w' ⟨rfl, rfl⟩)
          go_round
          case rel => exact ⟨k + 1, by omega, by go_num⟩
          case measure => simp [intOf]; omega
        | false =>
          have hd2 : digB s[k] = true := (let_word.2 hw).resolve_left (by simp [hl])
          rw [hl] at hL
          rw [hd2] at hD2
          clear hw hl hd2
          go_wp2_with (first | (go_at_call 28; refine (hL _).mono ?_; rintro e w' ⟨rfl, rfl⟩) | (go_at_call 29; refine (hD2 _).mono ?_; rintro e w' ⟨rfl, rfl⟩))
          go_round
          case rel => exact ⟨k + 1, by omega, by go_num⟩
          case measure => simp [intOf]; omega
      · go_wp2
        go_ret
        exact ⟨ret_bool (by first | exact HR.out.symm | rfl), rfl⟩
  · have hin : decide ((1 : Int) ≤ s.size ∧ (s.size : Int) ≤ 12) = false := decide_eq_false (by omega)
    rw [hin] at hI
    have HR : Hid (decide (s.size ≤ 12) = false) := decide_eq_false h12
    clear hall hin hd
    go_enter Tryd.func32, Tryd.ntmps32
    go_wp2_with (first | (go_at_call 22; refine (hI _).mono ?_; rintro e w' ⟨rfl, rfl⟩) | (go_at_call 29; refine (hD _).mono ?_; rintro e w' ⟨rfl, rfl⟩))
    go_ret
    exact ⟨ret_bool (by first | exact HR.out.symm | rfl), rfl⟩
end Go.Proofs.YtaipdmaiffjeeaaDoor
