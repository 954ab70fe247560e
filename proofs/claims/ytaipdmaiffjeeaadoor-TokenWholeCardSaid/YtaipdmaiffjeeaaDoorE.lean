/-
  Contracts of character, sign and first: the word with which a text begins.
-/
import Derived.Test.YtaipdmaiffjeeaaDoorD
namespace Go.Proofs.YtaipdmaiffjeeaaDoor
open Go.RowKit

def chrT (l : List UInt8) : Tk :=
  if l.length < 3 then .bad 1
  else if l.getD 1 0 = 92 then (if escV (l.getD 2 0) < 0 ∨ l.length < 4 ∨ l.getD 3 0 ≠ 39 then .bad 1 else .tok 2 4 (escV (l.getD 2 0)).toNat)
  else if plainB (l.getD 1 0) = true then (if l.getD 2 0 ≠ 39 then .bad 1 else .tok 2 3 (l.getD 1 0).toNat)
  else .bad 1
theorem ext0 (s : ByteArray) (n : Nat) : bstr (s.data.toList.take n) = s.extract 0 n := by
  rw [Lib.extract_eq]; rfl
theorem u8_ne {c d : UInt8} (h : c ≠ d) : ((c.toNat : Int) == (d.toNat : Int)) = false := beq_of_ne fun e => h (UInt8.toNat_inj.1 (by omega))
theorem u8_nb {c : UInt8} {n : Int} {b : Bool} (h : ((c.toNat : Int) == n) = b) : ((c.toNat : Int) != n) = !b := by rw [← h]; rfl

set_option maxHeartbeats 4000000 in
theorem chr_any (s : ByteArray) (w : World) (hs : s.size ≤ 140737488355328) :
    Calls Tryd.prog 46 #[.string s] w (TkPost (chrT s.data.toList) s.data.toList w) := by
  obtain ⟨r, hr⟩ : ∃ r, r = chrT s.data.toList := ⟨_, rfl⟩
  rw [← hr]
  unfold chrT at hr
  by_cases h3 : s.size < 3
  · rw [if_pos (by have := Lib.size_eq s; omega)] at hr
    have HR := Lib.hid hr
    clear hr
    go_enter Tryd.func46, Tryd.ntmps46
    go_wp2
    exact bodyPost_ret (v := .tuple #[.agg #[.int .i64 0, .string ⟨#[]⟩, .int .i64 0, .int .i64 0], .int .i64 1]) (by simp [results, Tryd.results46, go_sem]) rfl (post_bad HR ((Below.refl _ _).alloc (Nat.le_refl _) _))
  · rw [if_neg (by have := Lib.size_eq s; omega), getD_idx s 1 (by omega), getD_idx s 2 (by omega)] at hr
    by_cases h92 : s[1] = 92
    · rw [if_pos h92] at hr
      have e1 : ((s[1].toNat : Int) == 92) = true := beq_of (by rw [h92]; rfl)
      have hE := fun w => esc_any s[2] w
      clear h92
      generalize escV s[2] = x at hE hr
      by_cases hx : x < 0
      · rw [if_pos (Or.inl hx)] at hr
        have HR := Lib.hid hr
        clear hr
        go_enter Tryd.func46, Tryd.ntmps46
        go_wp2_with (go_at_call 59; refine (hE _).mono ?_; rintro e w' ⟨rfl, rfl⟩)
        exact bodyPost_ret (v := .tuple #[.agg #[.int .i64 0, .string ⟨#[]⟩, .int .i64 0, .int .i64 0], .int .i64 1]) (by simp [results, Tryd.results46, go_sem]) rfl (post_bad HR ((Below.refl _ _).alloc (Nat.le_refl _) _))
      · by_cases h4 : s.size < 4
        · rw [if_pos (Or.inr (Or.inl (by have := Lib.size_eq s; omega)))] at hr
          have HR := Lib.hid hr
          clear hr
          go_enter Tryd.func46, Tryd.ntmps46
          go_wp2_with (go_at_call 59; refine (hE _).mono ?_; rintro e w' ⟨rfl, rfl⟩)
          exact bodyPost_ret (v := .tuple #[.agg #[.int .i64 0, .string ⟨#[]⟩, .int .i64 0, .int .i64 0], .int .i64 1]) (by simp [results, Tryd.results46, go_sem]) rfl (post_bad HR ((Below.refl _ _).alloc (Nat.le_refl _) _))
        · rw [getD_idx s 3 (by omega)] at hr
          by_cases h39 : s[3] = 39
          · rw [if_neg (by intro h; rcases h with h | h | h; exact hx h; exact h4 (by have := Lib.size_eq s; omega); exact h h39)] at hr
            have e3 : ((s[3].toNat : Int) == 39) = true := beq_of (by rw [h39]; rfl)
            have n3 := u8_nb e3
            clear h39
            obtain ⟨n, rfl⟩ : ∃ n : Nat, x = n := ⟨x.toNat, by omega⟩
            rw [Int.toNat_natCast] at hr
            have HR := Lib.hid hr
            clear hr
            go_enter Tryd.func46, Tryd.ntmps46
            go_wp2_with (go_at_call 59; refine (hE _).mono ?_; rintro e w' ⟨rfl, rfl⟩)
            exact bodyPost_ret (v := .tuple #[.agg #[.int .i64 2, .string (s.extract 0 4), .int .i64 n, .int .i64 0], .int .i64 0]) (by simp [results, Tryd.results46, go_sem]) rfl (post_tok HR (ext0 s 4) ((Below.refl _ _).alloc (Nat.le_refl _) _))
          · rw [if_pos (Or.inr (Or.inr h39))] at hr
            have e3 : ((s[3].toNat : Int) == 39) = false := u8_ne h39
            have n3 := u8_nb e3
            clear h39
            have HR := Lib.hid hr
            clear hr
            go_enter Tryd.func46, Tryd.ntmps46
            go_wp2_with (go_at_call 59; refine (hE _).mono ?_; rintro e w' ⟨rfl, rfl⟩)
            exact bodyPost_ret (v := .tuple #[.agg #[.int .i64 0, .string ⟨#[]⟩, .int .i64 0, .int .i64 0], .int .i64 1]) (by simp [results, Tryd.results46, go_sem]) rfl (post_bad HR ((Below.refl _ _).alloc (Nat.le_refl _) _))
    · rw [if_neg h92] at hr
      have e1 : ((s[1].toNat : Int) == 92) = false := u8_ne h92
      clear h92
      have hP := fun w => plain_any s[1] w
      have hb1 : s[1].toNat < 256 := s[1].toNat_lt
      cases hp : plainB s[1] with
      | false =>
        rw [hp] at hr hP
        rw [if_neg (by decide)] at hr
        have HR := Lib.hid hr
        clear hr hp
        go_enter Tryd.func46, Tryd.ntmps46
        go_wp2_with (go_at_call 60; refine (hP _).mono ?_; rintro e w' ⟨rfl, rfl⟩)
        exact bodyPost_ret (v := .tuple #[.agg #[.int .i64 0, .string ⟨#[]⟩, .int .i64 0, .int .i64 0], .int .i64 1]) (by simp [results, Tryd.results46, go_sem]) rfl (post_bad HR ((Below.refl _ _).alloc (Nat.le_refl _) _))
      | true =>
        rw [hp] at hr hP
        rw [if_pos rfl] at hr
        clear hp
        by_cases h39 : s[2] = 39
        · rw [if_neg (by simp [h39])] at hr
          have e3 : ((s[2].toNat : Int) == 39) = true := beq_of (by rw [h39]; rfl)
          have n3 := u8_nb e3
          clear h39
          have HR := Lib.hid hr
          clear hr
          go_enter Tryd.func46, Tryd.ntmps46
          go_wp2_with (go_at_call 60; refine (hP _).mono ?_; rintro e w' ⟨rfl, rfl⟩)
          exact bodyPost_ret (v := .tuple #[.agg #[.int .i64 2, .string (s.extract 0 3), .int .i64 s[1].toNat, .int .i64 0], .int .i64 0]) (by simp [results, Tryd.results46, go_sem]) rfl (post_tok HR (ext0 s 3) ((Below.refl _ _).alloc (Nat.le_refl _) _))
        · rw [if_pos h39] at hr
          have e3 : ((s[2].toNat : Int) == 39) = false := u8_ne h39
          have n3 := u8_nb e3
          clear h39
          have HR := Lib.hid hr
          clear hr
          go_enter Tryd.func46, Tryd.ntmps46
          go_wp2_with (go_at_call 60; refine (hP _).mono ?_; rintro e w' ⟨rfl, rfl⟩)
          exact bodyPost_ret (v := .tuple #[.agg #[.int .i64 0, .string ⟨#[]⟩, .int .i64 0, .int .i64 0], .int .i64 1]) (by simp [results, Tryd.results46, go_sem]) rfl (post_bad HR ((Below.refl _ _).alloc (Nat.le_refl _) _))

def sgnF (l : List UInt8) : Nat → Tk
  | 0 => .bad 1
  | n + 1 => if signB (l.take (n + 1)) = true then .tok 4 (n + 1) 0 else sgnF l n
def sgnT (l : List UInt8) : Tk := sgnF l (min 3 l.length)

theorem ext0_data (s : ByteArray) (n : Nat) : (s.extract 0 n).data.toList = s.data.toList.take n := by
  rw [Lib.extract_data, List.drop_zero, Nat.sub_zero]

set_option maxHeartbeats 4000000 in
theorem sgn_any (s : ByteArray) (w : World) (hs : s.size ≤ 140737488355328) :
    Calls Tryd.prog 47 #[.string s] w (TkPost (sgnT s.data.toList) s.data.toList w) := by
  obtain ⟨r, hr⟩ : ∃ r, r = sgnT s.data.toList := ⟨_, rfl⟩
  rw [← hr]
  have H0 : Hid (r = sgnF s.data.toList (min 3 s.size)) := by show _ = _; rw [hr, sgnT, Lib.size_eq]
  clear hr
  have hm : (min 3 s.size : Nat) ≤ 3 ∧ min 3 s.size ≤ s.size := ⟨by omega, by omega⟩
  go_enter Tryd.func47, Tryd.ntmps47
  go_wp2
  go_loop [4] (fun v => ∃ k : Nat, k ≤ 3 ∧ k ≤ s.size ∧ v = .int .i64 k ∧ Hid (r = sgnF s.data.toList k)) (fun v => (intOf v).toNat)
  case atStart => exact ⟨min 3 s.size, hm.1, hm.2, by congr 1; omega, H0⟩
  case round =>
    obtain ⟨k, hk3, hks, rfl, HK⟩ := hrel
    cases k with
    | zero =>
      go_wp2
      exact bodyPost_ret (v := .tuple #[.agg #[.int .i64 0, .string ⟨#[]⟩, .int .i64 0, .int .i64 0], .int .i64 1]) (by simp [results, Tryd.results47, go_sem]) rfl (post_bad HK ((Below.refl _ _).alloc (Nat.le_refl _) _))
    | succ n =>
      have hS := fun w => isSign_any (s.extract 0 (n + 1)) w
      rw [ext0_data] at hS
      cases hb : signB (s.data.toList.take (n + 1)) with
      | true =>
        have HR : Hid (r = .tok 4 (n + 1) 0) := HK.out.trans (if_pos hb)
        rw [hb] at hS
        clear HK hb
        go_wp2_with (go_at_call 61; refine (hS _).mono ?_; rintro e w' ⟨rfl, rfl⟩)
        exact bodyPost_ret (v := .tuple #[.agg #[.int .i64 4, .string (s.extract 0 (n + 1)), .int .i64 0, .int .i64 0], .int .i64 0]) (by simp [results, Tryd.results47, go_sem]) rfl (post_tok HR (ext0 s (n + 1)) ((Below.refl _ _).alloc (Nat.le_refl _) _))
      | false =>
        have HR : Hid (r = sgnF s.data.toList n) := HK.out.trans (if_neg (by simp [hb]))
        rw [hb] at hS
        clear HK hb
        go_wp2_with (go_at_call 61; refine (hS _).mono ?_; rintro e w' ⟨rfl, rfl⟩)
        go_round
        case rel => exact ⟨n, by omega, by omega, by go_num, HR⟩
        case measure => simp [intOf]
end Go.Proofs.YtaipdmaiffjeeaaDoor
