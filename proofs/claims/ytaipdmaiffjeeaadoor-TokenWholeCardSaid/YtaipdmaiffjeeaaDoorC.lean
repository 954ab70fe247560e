/-
  Contract of prefix: how many bytes at the start of a text are so, for each of the four predicates that it is called with.
-/
import Derived.Test.YtaipdmaiffjeeaaDoorB
import Derived.Lib.Strings
import Derived.Lib.Hide
namespace Go.Proofs.YtaipdmaiffjeeaaDoor
open Go.RowKit

/-- how many bytes at the start are so -/
def preN (p : UInt8 → Bool) (l : List UInt8) : Nat := (l.takeWhile p).length

theorem preN_le (p : UInt8 → Bool) (l : List UInt8) : preN p l ≤ l.length := by
  unfold preN
  induction l with
  | nil => simp
  | cons c r ih => rw [List.takeWhile_cons]; split <;> simp_all
theorem preN_drop_true {p : UInt8 → Bool} {l : List UInt8} {k : Nat} (hk : k < l.length) (h : p l[k] = true) : k + preN p (l.drop k) = k + 1 + preN p (l.drop (k + 1)) := by
  rw [List.drop_eq_getElem_cons hk]
  unfold preN
  rw [List.takeWhile_cons, if_pos h]
  simp; omega
theorem preN_drop_false {p : UInt8 → Bool} {l : List UInt8} {k : Nat} (hk : k < l.length) (h : p l[k] = false) : preN p (l.drop k) = 0 := by
  rw [List.drop_eq_getElem_cons hk]
  unfold preN
  rw [List.takeWhile_cons, if_neg (by simp [h])]
  rfl

set_option maxHeartbeats 1000000 in
theorem pre_word (s : ByteArray) (w : World) (hs : s.size ≤ maxLen) :
    Calls Tryd.prog 43 #[.string s, .func (.func 44) #[] #[]] w fun e w' => e = .returned (.int .i64 (preN wordB s.data.toList)) ∧ w = w' := by
  unfold maxLen at hs
  have hsz := Lib.hid (Lib.size_eq s)
  go_enter Tryd.func43, Tryd.ntmps43
  go_wp2
  go_loop [5] (fun i => ∃ k : Nat, k ≤ s.size ∧ i = .int .i64 k ∧ Hid (preN wordB s.data.toList = k + preN wordB (s.data.toList.drop k))) (fun i => s.size - (intOf i).toNat)
  case atStart => exact ⟨0, Nat.zero_le _, rfl, by simp [Hid]⟩
  case round =>
    obtain ⟨k, hk, rfl, HK⟩ := hrel
    by_cases hlt : k < s.size
    · have hl : k < s.data.toList.length := by have := hsz.out; omega
      cases hp : wordB s[k] with
      | true =>
        have HN : Hid (preN wordB s.data.toList = (k + 1 : Nat) + preN wordB (s.data.toList.drop (k + 1))) := by
          have := preN_drop_true hl (p := wordB) hp
          exact HK.out.trans this
        clear HK
        go_wp2_with (go_at_call 44; refine (word_any _ _).mono ?_; rintro e w' ⟨rfl, rfl⟩)
        go_round
        case rel => exact ⟨k + 1, by omega, by go_num, HN⟩
        case measure => simp [intOf]; omega
      | false =>
        have HN : Hid (preN wordB s.data.toList = k) := by
          have := preN_drop_false hl (p := wordB) hp
          exact HK.out.trans (by rw [this]; rfl)
        clear HK
        go_wp2_with (go_at_call 44; refine (word_any _ _).mono ?_; rintro e w' ⟨rfl, rfl⟩)
        go_ret
        exact ⟨ret_int (by rw [HN.out]), rfl⟩
    · have HN : Hid (preN wordB s.data.toList = k) := by
        have e0 : s.data.toList.drop k = [] := List.drop_eq_nil_of_le (by have := hsz.out; omega)
        exact HK.out.trans (by rw [e0]; rfl)
      clear HK
      go_wp2
      go_ret
      exact ⟨ret_int (by rw [HN.out]), rfl⟩

set_option maxHeartbeats 1000000 in
theorem pre_dig (s : ByteArray) (w : World) (hs : s.size ≤ maxLen) :
    Calls Tryd.prog 43 #[.string s, .func (.func 41) #[] #[]] w fun e w' => e = .returned (.int .i64 (preN digB s.data.toList)) ∧ w = w' := by
  unfold maxLen at hs
  have hsz := Lib.hid (Lib.size_eq s)
  go_enter Tryd.func43, Tryd.ntmps43
  go_wp2
  go_loop [5] (fun i => ∃ k : Nat, k ≤ s.size ∧ i = .int .i64 k ∧ Hid (preN digB s.data.toList = k + preN digB (s.data.toList.drop k))) (fun i => s.size - (intOf i).toNat)
  case atStart => exact ⟨0, Nat.zero_le _, rfl, by simp [Hid]⟩
  case round =>
    obtain ⟨k, hk, rfl, HK⟩ := hrel
    by_cases hlt : k < s.size
    · have hl : k < s.data.toList.length := by have := hsz.out; omega
      cases hp : digB s[k] with
      | true =>
        have HN : Hid (preN digB s.data.toList = (k + 1 : Nat) + preN digB (s.data.toList.drop (k + 1))) := by
          have := preN_drop_true hl (p := digB) hp
          exact HK.out.trans this
        clear HK
        go_wp2_with (go_at_call 41; refine (dig_any _ _).mono ?_; rintro e w' ⟨rfl, rfl⟩)
        go_round
        case rel => exact ⟨k + 1, by omega, by go_num, HN⟩
        case measure => simp [intOf]; omega
      | false =>
        have HN : Hid (preN digB s.data.toList = k) := by
          have := preN_drop_false hl (p := digB) hp
          exact HK.out.trans (by rw [this]; rfl)
        clear HK
        go_wp2_with (go_at_call 41; refine (dig_any _ _).mono ?_; rintro e w' ⟨rfl, rfl⟩)
        go_ret
        exact ⟨ret_int (by rw [HN.out]), rfl⟩
    · have HN : Hid (preN digB s.data.toList = k) := by
        have e0 : s.data.toList.drop k = [] := List.drop_eq_nil_of_le (by have := hsz.out; omega)
        exact HK.out.trans (by rw [e0]; rfl)
      clear HK
      go_wp2
      go_ret
      exact ⟨ret_int (by rw [HN.out]), rfl⟩

set_option maxHeartbeats 1000000 in
theorem pre_hex (s : ByteArray) (w : World) (hs : s.size ≤ maxLen) :
    Calls Tryd.prog 43 #[.string s, .func (.func 56) #[] #[]] w fun e w' => e = .returned (.int .i64 (preN hexB s.data.toList)) ∧ w = w' := by
  unfold maxLen at hs
  have hsz := Lib.hid (Lib.size_eq s)
  go_enter Tryd.func43, Tryd.ntmps43
  go_wp2
  go_loop [5] (fun i => ∃ k : Nat, k ≤ s.size ∧ i = .int .i64 k ∧ Hid (preN hexB s.data.toList = k + preN hexB (s.data.toList.drop k))) (fun i => s.size - (intOf i).toNat)
  case atStart => exact ⟨0, Nat.zero_le _, rfl, by simp [Hid]⟩
  case round =>
    obtain ⟨k, hk, rfl, HK⟩ := hrel
    by_cases hlt : k < s.size
    · have hl : k < s.data.toList.length := by have := hsz.out; omega
      cases hp : hexB s[k] with
      | true =>
        have HN : Hid (preN hexB s.data.toList = (k + 1 : Nat) + preN hexB (s.data.toList.drop (k + 1))) := by
          have := preN_drop_true hl (p := hexB) hp
          exact HK.out.trans this
        clear HK
        go_wp2_with (go_at_call 56; refine (hex_any _ _).mono ?_; rintro e w' ⟨rfl, rfl⟩)
        go_round
        case rel => exact ⟨k + 1, by omega, by go_num, HN⟩
        case measure => simp [intOf]; omega
      | false =>
        have HN : Hid (preN hexB s.data.toList = k) := by
          have := preN_drop_false hl (p := hexB) hp
          exact HK.out.trans (by rw [this]; rfl)
        clear HK
        go_wp2_with (go_at_call 56; refine (hex_any _ _).mono ?_; rintro e w' ⟨rfl, rfl⟩)
        go_ret
        exact ⟨ret_int (by rw [HN.out]), rfl⟩
    · have HN : Hid (preN hexB s.data.toList = k) := by
        have e0 : s.data.toList.drop k = [] := List.drop_eq_nil_of_le (by have := hsz.out; omega)
        exact HK.out.trans (by rw [e0]; rfl)
      clear HK
      go_wp2
      go_ret
      exact ⟨ret_int (by rw [HN.out]), rfl⟩

set_option maxHeartbeats 1000000 in
theorem pre_nl (s : ByteArray) (w : World) (hs : s.size ≤ maxLen) :
    Calls Tryd.prog 43 #[.string s, .func (.func 54) #[] #[]] w fun e w' => e = .returned (.int .i64 (preN nlB s.data.toList)) ∧ w = w' := by
  unfold maxLen at hs
  have hsz := Lib.hid (Lib.size_eq s)
  go_enter Tryd.func43, Tryd.ntmps43
  go_wp2
  go_loop [5] (fun i => ∃ k : Nat, k ≤ s.size ∧ i = .int .i64 k ∧ Hid (preN nlB s.data.toList = k + preN nlB (s.data.toList.drop k))) (fun i => s.size - (intOf i).toNat)
  case atStart => exact ⟨0, Nat.zero_le _, rfl, by simp [Hid]⟩
  case round =>
    obtain ⟨k, hk, rfl, HK⟩ := hrel
    by_cases hlt : k < s.size
    · have hl : k < s.data.toList.length := by have := hsz.out; omega
      cases hp : nlB s[k] with
      | true =>
        have HN : Hid (preN nlB s.data.toList = (k + 1 : Nat) + preN nlB (s.data.toList.drop (k + 1))) := by
          have := preN_drop_true hl (p := nlB) hp
          exact HK.out.trans this
        clear HK
        go_wp2_with (go_at_call 54; refine (nl_any _ _).mono ?_; rintro e w' ⟨rfl, rfl⟩)
        go_round
        case rel => exact ⟨k + 1, by omega, by go_num, HN⟩
        case measure => simp [intOf]; omega
      | false =>
        have HN : Hid (preN nlB s.data.toList = k) := by
          have := preN_drop_false hl (p := nlB) hp
          exact HK.out.trans (by rw [this]; rfl)
        clear HK
        go_wp2_with (go_at_call 54; refine (nl_any _ _).mono ?_; rintro e w' ⟨rfl, rfl⟩)
        go_ret
        exact ⟨ret_int (by rw [HN.out]), rfl⟩
    · have HN : Hid (preN nlB s.data.toList = k) := by
        have e0 : s.data.toList.drop k = [] := List.drop_eq_nil_of_le (by have := hsz.out; omega)
        exact HK.out.trans (by rw [e0]; rfl)
      clear HK
      go_wp2
      go_ret
      exact ⟨ret_int (by rw [HN.out]), rfl⟩

end Go.Proofs.YtaipdmaiffjeeaaDoor
