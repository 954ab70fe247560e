/-
  Contracts of the two predicates on names.
-/
import Derived.Test.YtmghjfphlneblaaTrB
import Derived.Test.YtmghjfphlneblaaTrC
import Derived.Lib.Strings
namespace Go.Proofs.Ytmghjfphlneblaa.Tr
open Go.RowKit

theorem nameB_yes {s : ByteArray} (h0 : 0 < s.size) (h1 : s.size ≤ 12) (h2 : digB s[0] = false) (h3 : ∀ j, (hj : j < s.size) → byteB s[j] = true) : nameB s = true := decide_eq_true ⟨h0, h1, h2, h3⟩
theorem nameB_empty {s : ByteArray} (h : s.size = 0) : nameB s = false := decide_eq_false (by rintro ⟨h0, _⟩; omega)
theorem nameB_long {s : ByteArray} (h : 12 < s.size) : nameB s = false := decide_eq_false (by rintro ⟨_, h0, _⟩; omega)
theorem nameB_dig {s : ByteArray} (h0 : 0 < s.size) (h : digB s[0] = true) : nameB s = false := decide_eq_false (by rintro ⟨_, _, h2, _⟩; rw [h] at h2; cases h2)
theorem nameB_byte {s : ByteArray} {j : Nat} (hj : j < s.size) (h : byteB s[j] = false) : nameB s = false := decide_eq_false (by rintro ⟨_, _, _, h2⟩; rw [h2 j hj] at h; cases h)
theorem byte_cases (c : UInt8) : (byteB c = true ∧ digB c = true) ∨ (byteB c = true ∧ digB c = false ∧ letB c = true) ∨ (byteB c = true ∧ digB c = false ∧ letB c = false ∧ ((c.toNat : Int) != 95) = false ∧ ((c.toNat : Int) == 95) = true) ∨ (byteB c = false ∧ digB c = false ∧ letB c = false ∧ ((c.toNat : Int) != 95) = true ∧ ((c.toNat : Int) == 95) = false) := by
  simp only [byteB, digB, letB, decide_eq_true_eq, decide_eq_false_iff_not, bne_iff_ne, beq_iff_eq, ne_eq, bne_eq_false_iff_eq, beq_eq_false_iff_ne]; omega
theorem toList_nil {s : ByteArray} (h : s.size = 0) : s.toList = [] := by
  rw [Lib.toList_data]; apply List.eq_nil_of_length_eq_zero; rw [← Lib.size_eq]; exact h
theorem toList_ne {s : ByteArray} (h : 0 < s.size) : s.toList.isEmpty = false := by
  rw [Lib.toList_data]
  cases hd : s.data.toList with
  | nil => have := Lib.size_eq s; rw [hd, List.length_nil] at this; omega
  | cons _ _ => rfl

set_option maxHeartbeats 800000 in
theorem name_any (s : ByteArray) (w : World) :
    Calls Try.prog 54 #[.string s] w fun e w' => e = .returned (.bool (nameB s)) ∧ w = w' := by
  by_cases h0 : s.size = 0
  · have HR := Lib.hid (nameB_empty h0)
    have he := toList_nil h0
    clear h0
    go_enter Try.func54, Try.ntmps54
    go_wp2
    go_ret
    exact ⟨ret_bool HR.out.symm, rfl⟩
  · have hp : 0 < s.size := by omega
    have he := toList_ne hp
    clear h0
    by_cases hl : 12 < s.size
    · have HR := Lib.hid (nameB_long hl)
      go_enter Try.func54, Try.ntmps54
      go_wp2
      go_ret
      exact ⟨ret_bool HR.out.symm, rfl⟩
    · cases hd : digB s[0] with
      | true =>
        have HR := Lib.hid (nameB_dig hp hd)
        go_enter Try.func54, Try.ntmps54
        go_wp2_with (go_at_call 57; refine (dig_any _ _).mono ?_; rintro e w' ⟨rfl, rfl⟩)
        go_ret
        exact ⟨ret_bool HR.out.symm, rfl⟩
      | false =>
        go_enter Try.func54, Try.ntmps54
        go_wp2_with (go_at_call 57; refine (dig_any _ _).mono ?_; rintro e w' ⟨rfl, rfl⟩)
        have HD := Lib.hid hd
        clear hd
        go_loop [19] (fun i => ∃ k : Nat, k ≤ s.size ∧ i = .int .i64 k ∧ Hid (∀ j, (hj : j < s.size) → j < k → byteB s[j] = true)) (fun i => s.size - (intOf i).toNat)
        case atStart => exact ⟨0, by omega, rfl, fun j _ h => by omega⟩
        case round =>
          obtain ⟨k, hk, rfl, HK⟩ := hrel
          by_cases hlt : k < s.size
          · rcases byte_cases s[k] with ⟨hb, hd⟩ | ⟨hb, hd, hl⟩ | ⟨hb, hd, hl, hc, hc2⟩ | ⟨hb, hd, hl, hc, hc2⟩
            all_goals have HB := Lib.hid hb
            all_goals clear hb
            · go_wp2_with (first | (go_at_call 57; refine (dig_any _ _).mono ?_; rintro e w' ⟨rfl, rfl⟩) | (go_at_call 58; refine (let_any _ _).mono ?_; rintro e w' ⟨rfl, rfl⟩))
              go_round
              case rel => exact ⟨k + 1, by omega, by go_num, fun j hj hjk => by
                by_cases e : j = k
                · subst e; exact HB.out
                · exact HK.out j hj (by omega)⟩
              case measure => simp [intOf]; omega
            · go_wp2_with (first | (go_at_call 57; refine (dig_any _ _).mono ?_; rintro e w' ⟨rfl, rfl⟩) | (go_at_call 58; refine (let_any _ _).mono ?_; rintro e w' ⟨rfl, rfl⟩))
              go_round
              case rel => exact ⟨k + 1, by omega, by go_num, fun j hj hjk => by
                by_cases e : j = k
                · subst e; exact HB.out
                · exact HK.out j hj (by omega)⟩
              case measure => simp [intOf]; omega
            · go_wp2_with (first | (go_at_call 57; refine (dig_any _ _).mono ?_; rintro e w' ⟨rfl, rfl⟩) | (go_at_call 58; refine (let_any _ _).mono ?_; rintro e w' ⟨rfl, rfl⟩))
              go_round
              case rel => exact ⟨k + 1, by omega, by go_num, fun j hj hjk => by
                by_cases e : j = k
                · subst e; exact HB.out
                · exact HK.out j hj (by omega)⟩
              case measure => simp [intOf]; omega
            · go_wp2_with (first | (go_at_call 57; refine (dig_any _ _).mono ?_; rintro e w' ⟨rfl, rfl⟩) | (go_at_call 58; refine (let_any _ _).mono ?_; rintro e w' ⟨rfl, rfl⟩))
              go_ret
              exact ⟨ret_bool (nameB_byte hlt HB.out).symm, rfl⟩
          · go_wp2
            go_ret
            exact ⟨ret_bool (nameB_yes hp (by omega) HD.out fun j hj => HK.out j hj (by omega)).symm, rfl⟩
end Go.Proofs.Ytmghjfphlneblaa.Tr
