/-
  The contracts of the document's predicates on texts: names, one of some, signs.
-/
import Derived.Test.YtmghjfphlneblaaTrJ
namespace Go.Proofs.Ytmghjfphlneblaa.Tr
open Go.RowKit

set_option maxHeartbeats 400000 in
theorem rdig_any (c : UInt8) (w : World) :
    Calls Try.prog 47 #[.int .u8 c.toNat] w fun e w' => e = .returned (.bool (digB c)) ∧ w = w' := by
  have hc : c.toNat < 256 := c.toNat_lt
  go_enter Try.func47, Try.ntmps47
  go_wp2
  all_goals go_ret
  all_goals exact ⟨ret_bool (by go_light; rw [Bool.eq_iff_iff]; simp [digB] at *; try omega), rfl⟩
set_option maxHeartbeats 400000 in
theorem rlet_any (c : UInt8) (w : World) :
    Calls Try.prog 48 #[.int .u8 c.toNat] w fun e w' => e = .returned (.bool (rletB c)) ∧ w = w' := by
  have hc : c.toNat < 256 := c.toNat_lt
  go_enter Try.func48, Try.ntmps48
  go_wp2
  all_goals go_ret
  all_goals exact ⟨ret_bool (by go_light; rw [Bool.eq_iff_iff]; simp [rletB] at *; try omega), rfl⟩
theorem rbyte_cases (c : UInt8) : (byteB c = true ∧ rletB c = true) ∨ (byteB c = true ∧ rletB c = false ∧ digB c = true) ∨ (byteB c = false ∧ rletB c = false ∧ digB c = false) := by
  simp only [byteB, digB, rletB, decide_eq_true_eq, decide_eq_false_iff_not]; omega

set_option maxHeartbeats 800000 in
theorem rname_any (s : ByteArray) (w : World) (hs : s.size ≤ 1000000000000000000) :
    Calls Try.prog 37 #[.string s] w fun e w' => e = .returned (.bool (nameB s)) ∧ w = w' := by
  by_cases h0 : s.size = 0
  · have HR := Lib.hid (nameB_empty h0)
    have hi : inB (s.size : Int) 1 12 = false := decide_eq_false (by omega)
    clear h0
    go_enter Try.func37, Try.ntmps37
    go_wp2_with (go_at_call 22; refine (in18_any _ _ _ _).mono ?_; rintro e w' ⟨rfl, rfl⟩)
    go_ret
    exact ⟨ret_bool HR.out.symm, rfl⟩
  · have hp : 0 < s.size := by omega
    clear h0
    by_cases hl : 12 < s.size
    · have HR := Lib.hid (nameB_long hl)
      have hi : inB (s.size : Int) 1 12 = false := decide_eq_false (by omega)
      go_enter Try.func37, Try.ntmps37
      go_wp2_with (go_at_call 22; refine (in18_any _ _ _ _).mono ?_; rintro e w' ⟨rfl, rfl⟩)
      go_ret
      exact ⟨ret_bool HR.out.symm, rfl⟩
    · have hi : inB (s.size : Int) 1 12 = true := decide_eq_true (by omega)
      cases hd : digB s[0] with
      | true =>
        have HR := Lib.hid (nameB_dig hp hd)
        go_enter Try.func37, Try.ntmps37
        go_wp2_with (first | (go_at_call 22; refine (in18_any _ _ _ _).mono ?_; rintro e w' ⟨rfl, rfl⟩) | (go_at_call 47; refine (rdig_any _ _).mono ?_; rintro e w' ⟨rfl, rfl⟩))
        go_ret
        exact ⟨ret_bool HR.out.symm, rfl⟩
      | false =>
        go_enter Try.func37, Try.ntmps37
        go_wp2_with (first | (go_at_call 22; refine (in18_any _ _ _ _).mono ?_; rintro e w' ⟨rfl, rfl⟩) | (go_at_call 47; refine (rdig_any _ _).mono ?_; rintro e w' ⟨rfl, rfl⟩))
        have HD := Lib.hid hd
        clear hd
        go_loop [3] (fun i => ∃ k : Nat, k ≤ s.size ∧ i = .int .i64 k ∧ Hid (∀ j, (hj : j < s.size) → j < k → byteB s[j] = true)) (fun i => s.size - (intOf i).toNat)
        case atStart => exact ⟨0, by omega, rfl, fun j _ h => by omega⟩
        case round =>
          obtain ⟨k, hk, rfl, HK⟩ := hrel
          by_cases hlt : k < s.size
          · rcases rbyte_cases s[k] with ⟨hb, hd⟩ | ⟨hb, hd, hl⟩ | ⟨hb, hd, hl⟩
            all_goals have HB := Lib.hid hb
            all_goals clear hb
            · go_wp2_with (first | (go_at_call 47; refine (rdig_any _ _).mono ?_; rintro e w' ⟨rfl, rfl⟩) | (go_at_call 48; refine (rlet_any _ _).mono ?_; rintro e w' ⟨rfl, rfl⟩))
              go_round
              case rel => exact ⟨k + 1, by omega, by go_num, fun j hj hjk => by
                by_cases e : j = k
                · subst e; exact HB.out
                · exact HK.out j hj (by omega)⟩
              case measure => simp [intOf]; omega
            · go_wp2_with (first | (go_at_call 47; refine (rdig_any _ _).mono ?_; rintro e w' ⟨rfl, rfl⟩) | (go_at_call 48; refine (rlet_any _ _).mono ?_; rintro e w' ⟨rfl, rfl⟩))
              go_round
              case rel => exact ⟨k + 1, by omega, by go_num, fun j hj hjk => by
                by_cases e : j = k
                · subst e; exact HB.out
                · exact HK.out j hj (by omega)⟩
              case measure => simp [intOf]; omega
            · go_wp2_with (first | (go_at_call 47; refine (rdig_any _ _).mono ?_; rintro e w' ⟨rfl, rfl⟩) | (go_at_call 48; refine (rlet_any _ _).mono ?_; rintro e w' ⟨rfl, rfl⟩))
              go_ret
              exact ⟨ret_bool (nameB_byte hlt HB.out).symm, rfl⟩
          · go_wp2
            go_ret
            exact ⟨ret_bool (nameB_yes hp (by omega) HD.out fun j hj => HK.out j hj (by omega)).symm, rfl⟩

def amB (L : List (List UInt8)) (s : ByteArray) : Bool := decide (s.toList ∈ L)
def TxtAt (w : World) (b : Nat) (L : List (List UInt8)) : Prop := ∀ i, (h : i < L.length) → ∃ x : ByteArray, x.toList = L[i] ∧ w.cell? ⟨b, i, none⟩ = some (.string x)
set_option maxHeartbeats 800000 in
theorem among_any (L : List (List UInt8)) (b cap : Nat) (s : ByteArray) (w : World) (hL : TxtAt w b L) (hl : L.length ≤ 1000) (n : Nat) (hn : n = L.length) :
    Calls Try.prog 49 #[.slice (some ⟨b, 0, none⟩) n cap, .string s] w fun e w' => e = .returned (.bool (amB L s)) ∧ w = w' := by
  subst hn
  have HL := Lib.hid hL
  clear hL
  obtain ⟨n, hn⟩ : ∃ n, n = L.length := ⟨_, rfl⟩
  rw [← hn] at hl ⊢
  have Hn := Lib.hid hn
  clear hn
  go_enter Try.func49, Try.ntmps49
  go_wp2
  go_loop [5] (fun i => ∃ k : Nat, k ≤ n ∧ i = .int .i64 k ∧ Hid (∀ j, (hj : j < L.length) → j < k → s.toList ≠ L[j])) (fun i => n - (intOf i).toNat)
  case atStart => exact ⟨0, by omega, rfl, fun j _ h => by omega⟩
  case round =>
    obtain ⟨k, hk, rfl, HK⟩ := hrel
    by_cases hlt : k < n
    · have hkL : k < L.length := by have := Hn.out; omega
      obtain ⟨x, hx, hc⟩ := HL.out k hkL
      have HX := Lib.hid hx
      clear hx
      by_cases he : x.toList = s.toList
      · have hq : (x.toList == s.toList) = true := by simpa using he
        have HR : Hid (amB L s = true) := decide_eq_true (by rw [← he, HX.out]; exact List.getElem_mem hkL)
        clear he
        go_wp2
        go_ret
        exact ⟨ret_bool HR.out.symm, rfl⟩
      · have hq : (x.toList == s.toList) = false := by simpa using he
        have HN : Hid (∀ j, (hj : j < L.length) → j < k + 1 → s.toList ≠ L[j]) := fun j hj hjk => by
          by_cases e : j = k
          · subst e; rw [← HX.out]; exact fun h => he h.symm
          · exact HK.out j hj (by omega)
        clear he
        go_wp2
        go_round
        case rel => exact ⟨k + 1, by omega, by go_num, HN⟩
        case measure => simp [intOf]; omega
    · have HR : Hid (amB L s = false) := decide_eq_false (fun h => by
        obtain ⟨j, hj, e⟩ := List.getElem_of_mem h
        exact HK.out j hj (by have := Hn.out; omega) e.symm)
      go_wp2
      go_ret
      exact ⟨ret_bool HR.out.symm, rfl⟩
end Go.Proofs.Ytmghjfphlneblaa.Tr
