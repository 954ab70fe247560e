/-
  Joined texts of this claim: TkT, TkU.
-/
import Derived.Test.YtbjacclfhgnffaaGreatDoorY08
import Derived.Test.YtbjacclfhgnffaaGreatDoorY09
set_option linter.unusedVariables false
set_option linter.unusedSimpArgs false
/-
  Contract of the document's answer: number.
-/
namespace Go.Proofs.YtbjacclfhgnffaaGreatDoor.Tk
open Go.RowKit

set_option maxHeartbeats 4000000 in
set_option maxRecDepth 10000 in
theorem rnum_dec1 (s : ByteArray) (t : List UInt8) (w : World) (hs : s.size ≤ 140737488355328) (h0 : s.size ≠ 0) (h1 : ¬ 1 < s.size) :
    Calls Tryz.prog 115 #[.string s] w fun e w' => e = .returned (.tuple #[.int .i64 (tkN (numD 10 digB s.data.toList t)), .int .i64 (tkE (numD 10 digB s.data.toList t))]) ∧ w = w' := by
  obtain ⟨ds, hds⟩ : ∃ ds, ds = s.data.toList := ⟨_, rfl⟩
  rw [← hds]
  have hlen : ds.length = s.size := by rw [hds, Lib.size_eq]
  have hne : ds ≠ [] := fun h => by rw [h] at hlen; simp at hlen; omega
  have hget : ∀ j, (h : j < ds.length) → (h2 : j < s.size) → s[j] = ds[j] := by
    intro j h h2
    rw [← getD_idx s (j) h2]
    simp only [hds, List.getD]
    rw [List.getElem?_eq_getElem (by have := Lib.size_eq s; omega)]; simp
  have Hlen := Lib.hid hlen
  have Hne := Lib.hid hne
  have Hget := Lib.hid hget
  clear hlen hne hget hds
  have h12 : ¬ 2 < s.size := by omega
  go_enter Tryz.func115, Tryz.ntmps115
  go_wp2
  go_loop [6, 7, 8] (fun vn vb vi => ∃ (j : Nat) (a : Int) (big : Bool), j ≤ s.size ∧ vn = .int .i64 a ∧ vb = .bool big ∧ vi = .int .i64 (j : Nat) ∧ 0 ≤ a ∧ a ≤ 9223372036854775807 ∧ Hid (NumInv 10 digB ds j a big)) (fun _ _ vi => s.size - (intOf vi).toNat)
  case atStart => exact ⟨0, 0, false, by omega, rfl, rfl, rfl, by decide, by decide, numInv_zero _ _ _⟩
  case round =>
    obtain ⟨j, a, big, hj, rfl, rfl, rfl, ha0, ha1, HK⟩ := hrel
    by_cases hlt : j < s.size
    · have hjl : j < ds.length := by have := Hlen.out; omega
      have hsj := Hget.out j hjl hlt
      have hV := fun w => val_any s[j] w
      rw [hsj] at hV
      have hval := val_dec ds[j]
      have Hs := Lib.hid hsj
      clear hsj
      cases hp : digB ds[j] with
      | false =>
        rw [hp] at hval
        have hval : valV ds[j] < 0 ∨ 10 ≤ valV ds[j] := hval
        have HR : Hid (numD 10 digB ds t = .bad 1) := numInv_bad HK.out hjl hp
        clear HK hp
        generalize valV ds[j] = x at *
        rcases hval with hx | hx
        · rw [← Hs.out] at hV
          go_wp2_with (go_at_call 166; refine (hV _).mono ?_; rintro e w' ⟨rfl, rfl⟩)
          go_ret2
          exact ⟨by rw [HR.out]; rfl, rfl⟩
        · have hx0 : ¬ x < 0 := by omega
          rw [← Hs.out] at hV
          go_wp2_with (go_at_call 166; refine (hV _).mono ?_; rintro e w' ⟨rfl, rfl⟩)
          go_ret2
          exact ⟨by rw [HR.out]; rfl, rfl⟩
      | true =>
        rw [hp] at hval
        have hval : valV ds[j] = dv ds[j] ∧ dv ds[j] < 10 := hval
        have hB : (big = true ∨ 9223372036854775807 < a * 10 + dv ds[j]) → Hid (NumInv 10 digB ds (j + 1) a true) := fun h => numInv_big (by decide) HK.out hjl hp h
        have hO : big = false → a * 10 + dv ds[j] ≤ 9223372036854775807 → Hid (NumInv 10 digB ds (j + 1) (a * 10 + dv ds[j]) false) := fun h1 h2 => by subst h1; exact numInv_add HK.out hjl hp h2
        clear HK hp
        rw [hval.1] at hV
        have hd := hval.2
        clear hval
        obtain ⟨x, hx⟩ : ∃ x : Int, x = (dv ds[j] : Int) := ⟨_, rfl⟩
        rw [← hx] at hV hB hO
        rw [← Hs.out] at hV
        clear Hs
        have hx0 : 0 ≤ x := by omega
        have hx1 : x < 10 := by omega
        clear hx hd
        cases big with
        | true =>
          have HN := hB (Or.inl rfl)
          clear hB hO
          go_wp2_with (go_at_call 166; refine (hV _).mono ?_; rintro e w' ⟨rfl, rfl⟩)
          go_round
          case rel => exact ⟨j + 1, a, true, by omega, rfl, rfl, by go_num, ha0, ha1, HN⟩
          case measure => simp [intOf]; omega
        | false =>
          by_cases hov : 9223372036854775807 < a * 10 + x
          · have HN := hB (Or.inr hov)
            have hq : (9223372036854775807 - x) / 10 < a := by omega
            clear hB hO
            go_wp2_with (go_at_call 166; refine (hV _).mono ?_; rintro e w' ⟨rfl, rfl⟩)
            go_round
            case rel => exact ⟨j + 1, a, true, by omega, rfl, rfl, by go_num, ha0, ha1, HN⟩
            case measure => simp [intOf]; omega
          · have HN := hO rfl (by omega)
            have hq : ¬ (9223372036854775807 - x) / 10 < a := by omega
            have hov2 : a * 10 + x ≤ 9223372036854775807 := by omega
            clear hB hO hov
            go_wp2_with (go_at_call 166; refine (hV _).mono ?_; rintro e w' ⟨rfl, rfl⟩)
            go_round
            case rel => exact ⟨j + 1, a * 10 + x, false, by omega, rfl, rfl, by go_num, by omega, hov2, HN⟩
            case measure => simp [intOf]; omega
    · have hjl : ds.length ≤ j := by have := Hlen.out; omega
      cases big with
      | true =>
        have HR : Hid (numD 10 digB ds t = .bad 3) := numInv_end_big HK.out hjl Hne.out
        clear HK
        go_wp2
        go_ret2
        exact ⟨by rw [HR.out]; rfl, rfl⟩
      | false =>
        obtain ⟨v, hv, hR⟩ := numInv_end_ok (t := t) HK.out hjl Hne.out
        have HR := Lib.hid hR
        subst hv
        clear HK hR
        go_wp2
        go_ret2
        exact ⟨by rw [HR.out]; rfl, rfl⟩

set_option maxHeartbeats 4000000 in
set_option maxRecDepth 10000 in
theorem rnum_dec2a (s : ByteArray) (t : List UInt8) (w : World) (hs : s.size ≤ 140737488355328) (h1 : 1 < s.size) (h3 : 2 < s.size) (h2 : ((s[0].toNat : Int) == 48) = false) :
    Calls Tryz.prog 115 #[.string s] w fun e w' => e = .returned (.tuple #[.int .i64 (tkN (numD 10 digB s.data.toList t)), .int .i64 (tkE (numD 10 digB s.data.toList t))]) ∧ w = w' := by
  obtain ⟨ds, hds⟩ : ∃ ds, ds = s.data.toList := ⟨_, rfl⟩
  rw [← hds]
  have hlen : ds.length = s.size := by rw [hds, Lib.size_eq]
  have hne : ds ≠ [] := fun h => by rw [h] at hlen; simp at hlen; omega
  have hget : ∀ j, (h : j < ds.length) → (h2 : j < s.size) → s[j] = ds[j] := by
    intro j h h2
    rw [← getD_idx s (j) h2]
    simp only [hds, List.getD]
    rw [List.getElem?_eq_getElem (by have := Lib.size_eq s; omega)]; simp
  have Hlen := Lib.hid hlen
  have Hne := Lib.hid hne
  have Hget := Lib.hid hget
  clear hlen hne hget hds
  go_enter Tryz.func115, Tryz.ntmps115
  go_wp2
  go_loop [6, 7, 8] (fun vn vb vi => ∃ (j : Nat) (a : Int) (big : Bool), j ≤ s.size ∧ vn = .int .i64 a ∧ vb = .bool big ∧ vi = .int .i64 (j : Nat) ∧ 0 ≤ a ∧ a ≤ 9223372036854775807 ∧ Hid (NumInv 10 digB ds j a big)) (fun _ _ vi => s.size - (intOf vi).toNat)
  case atStart => exact ⟨0, 0, false, by omega, rfl, rfl, rfl, by decide, by decide, numInv_zero _ _ _⟩
  case round =>
    obtain ⟨j, a, big, hj, rfl, rfl, rfl, ha0, ha1, HK⟩ := hrel
    by_cases hlt : j < s.size
    · have hjl : j < ds.length := by have := Hlen.out; omega
      have hsj := Hget.out j hjl hlt
      have hV := fun w => val_any s[j] w
      rw [hsj] at hV
      have hval := val_dec ds[j]
      have Hs := Lib.hid hsj
      clear hsj
      cases hp : digB ds[j] with
      | false =>
        rw [hp] at hval
        have hval : valV ds[j] < 0 ∨ 10 ≤ valV ds[j] := hval
        have HR : Hid (numD 10 digB ds t = .bad 1) := numInv_bad HK.out hjl hp
        clear HK hp
        generalize valV ds[j] = x at *
        rcases hval with hx | hx
        · rw [← Hs.out] at hV
          go_wp2_with (go_at_call 166; refine (hV _).mono ?_; rintro e w' ⟨rfl, rfl⟩)
          go_ret2
          exact ⟨by rw [HR.out]; rfl, rfl⟩
        · have hx0 : ¬ x < 0 := by omega
          rw [← Hs.out] at hV
          go_wp2_with (go_at_call 166; refine (hV _).mono ?_; rintro e w' ⟨rfl, rfl⟩)
          go_ret2
          exact ⟨by rw [HR.out]; rfl, rfl⟩
      | true =>
        rw [hp] at hval
        have hval : valV ds[j] = dv ds[j] ∧ dv ds[j] < 10 := hval
        have hB : (big = true ∨ 9223372036854775807 < a * 10 + dv ds[j]) → Hid (NumInv 10 digB ds (j + 1) a true) := fun h => numInv_big (by decide) HK.out hjl hp h
        have hO : big = false → a * 10 + dv ds[j] ≤ 9223372036854775807 → Hid (NumInv 10 digB ds (j + 1) (a * 10 + dv ds[j]) false) := fun h1 h2 => by subst h1; exact numInv_add HK.out hjl hp h2
        clear HK hp
        rw [hval.1] at hV
        have hd := hval.2
        clear hval
        obtain ⟨x, hx⟩ : ∃ x : Int, x = (dv ds[j] : Int) := ⟨_, rfl⟩
        rw [← hx] at hV hB hO
        rw [← Hs.out] at hV
        clear Hs
        have hx0 : 0 ≤ x := by omega
        have hx1 : x < 10 := by omega
        clear hx hd
        cases big with
        | true =>
          have HN := hB (Or.inl rfl)
          clear hB hO
          go_wp2_with (go_at_call 166; refine (hV _).mono ?_; rintro e w' ⟨rfl, rfl⟩)
          go_round
          case rel => exact ⟨j + 1, a, true, by omega, rfl, rfl, by go_num, ha0, ha1, HN⟩
          case measure => simp [intOf]; omega
        | false =>
          by_cases hov : 9223372036854775807 < a * 10 + x
          · have HN := hB (Or.inr hov)
            have hq : (9223372036854775807 - x) / 10 < a := by omega
            clear hB hO
            go_wp2_with (go_at_call 166; refine (hV _).mono ?_; rintro e w' ⟨rfl, rfl⟩)
            go_round
            case rel => exact ⟨j + 1, a, true, by omega, rfl, rfl, by go_num, ha0, ha1, HN⟩
            case measure => simp [intOf]; omega
          · have HN := hO rfl (by omega)
            have hq : ¬ (9223372036854775807 - x) / 10 < a := by omega
            have hov2 : a * 10 + x ≤ 9223372036854775807 := by omega
            clear hB hO hov
            go_wp2_with (go_at_call 166; refine (hV _).mono ?_; rintro e w' ⟨rfl, rfl⟩)
            go_round
            case rel => exact ⟨j + 1, a * 10 + x, false, by omega, rfl, rfl, by go_num, by omega, hov2, HN⟩
            case measure => simp [intOf]; omega
    · have hjl : ds.length ≤ j := by have := Hlen.out; omega
      cases big with
      | true =>
        have HR : Hid (numD 10 digB ds t = .bad 3) := numInv_end_big HK.out hjl Hne.out
        clear HK
        go_wp2
        go_ret2
        exact ⟨by rw [HR.out]; rfl, rfl⟩
      | false =>
        obtain ⟨v, hv, hR⟩ := numInv_end_ok (t := t) HK.out hjl Hne.out
        have HR := Lib.hid hR
        subst hv
        clear HK hR
        go_wp2
        go_ret2
        exact ⟨by rw [HR.out]; rfl, rfl⟩

set_option maxHeartbeats 4000000 in
set_option maxRecDepth 10000 in
theorem rnum_dec2b (s : ByteArray) (t : List UInt8) (w : World) (hs : s.size ≤ 140737488355328) (h1 : 1 < s.size) (h3 : ¬ 2 < s.size) (h2 : ((s[0].toNat : Int) == 48) = false) :
    Calls Tryz.prog 115 #[.string s] w fun e w' => e = .returned (.tuple #[.int .i64 (tkN (numD 10 digB s.data.toList t)), .int .i64 (tkE (numD 10 digB s.data.toList t))]) ∧ w = w' := by
  obtain ⟨ds, hds⟩ : ∃ ds, ds = s.data.toList := ⟨_, rfl⟩
  rw [← hds]
  have hlen : ds.length = s.size := by rw [hds, Lib.size_eq]
  have hne : ds ≠ [] := fun h => by rw [h] at hlen; simp at hlen; omega
  have hget : ∀ j, (h : j < ds.length) → (h2 : j < s.size) → s[j] = ds[j] := by
    intro j h h2
    rw [← getD_idx s (j) h2]
    simp only [hds, List.getD]
    rw [List.getElem?_eq_getElem (by have := Lib.size_eq s; omega)]; simp
  have Hlen := Lib.hid hlen
  have Hne := Lib.hid hne
  have Hget := Lib.hid hget
  clear hlen hne hget hds
  go_enter Tryz.func115, Tryz.ntmps115
  go_wp2
  go_loop [6, 7, 8] (fun vn vb vi => ∃ (j : Nat) (a : Int) (big : Bool), j ≤ s.size ∧ vn = .int .i64 a ∧ vb = .bool big ∧ vi = .int .i64 (j : Nat) ∧ 0 ≤ a ∧ a ≤ 9223372036854775807 ∧ Hid (NumInv 10 digB ds j a big)) (fun _ _ vi => s.size - (intOf vi).toNat)
  case atStart => exact ⟨0, 0, false, by omega, rfl, rfl, rfl, by decide, by decide, numInv_zero _ _ _⟩
  case round =>
    obtain ⟨j, a, big, hj, rfl, rfl, rfl, ha0, ha1, HK⟩ := hrel
    by_cases hlt : j < s.size
    · have hjl : j < ds.length := by have := Hlen.out; omega
      have hsj := Hget.out j hjl hlt
      have hV := fun w => val_any s[j] w
      rw [hsj] at hV
      have hval := val_dec ds[j]
      have Hs := Lib.hid hsj
      clear hsj
      cases hp : digB ds[j] with
      | false =>
        rw [hp] at hval
        have hval : valV ds[j] < 0 ∨ 10 ≤ valV ds[j] := hval
        have HR : Hid (numD 10 digB ds t = .bad 1) := numInv_bad HK.out hjl hp
        clear HK hp
        generalize valV ds[j] = x at *
        rcases hval with hx | hx
        · rw [← Hs.out] at hV
          go_wp2_with (go_at_call 166; refine (hV _).mono ?_; rintro e w' ⟨rfl, rfl⟩)
          go_ret2
          exact ⟨by rw [HR.out]; rfl, rfl⟩
        · have hx0 : ¬ x < 0 := by omega
          rw [← Hs.out] at hV
          go_wp2_with (go_at_call 166; refine (hV _).mono ?_; rintro e w' ⟨rfl, rfl⟩)
          go_ret2
          exact ⟨by rw [HR.out]; rfl, rfl⟩
      | true =>
        rw [hp] at hval
        have hval : valV ds[j] = dv ds[j] ∧ dv ds[j] < 10 := hval
        have hB : (big = true ∨ 9223372036854775807 < a * 10 + dv ds[j]) → Hid (NumInv 10 digB ds (j + 1) a true) := fun h => numInv_big (by decide) HK.out hjl hp h
        have hO : big = false → a * 10 + dv ds[j] ≤ 9223372036854775807 → Hid (NumInv 10 digB ds (j + 1) (a * 10 + dv ds[j]) false) := fun h1 h2 => by subst h1; exact numInv_add HK.out hjl hp h2
        clear HK hp
        rw [hval.1] at hV
        have hd := hval.2
        clear hval
        obtain ⟨x, hx⟩ : ∃ x : Int, x = (dv ds[j] : Int) := ⟨_, rfl⟩
        rw [← hx] at hV hB hO
        rw [← Hs.out] at hV
        clear Hs
        have hx0 : 0 ≤ x := by omega
        have hx1 : x < 10 := by omega
        clear hx hd
        cases big with
        | true =>
          have HN := hB (Or.inl rfl)
          clear hB hO
          go_wp2_with (go_at_call 166; refine (hV _).mono ?_; rintro e w' ⟨rfl, rfl⟩)
          go_round
          case rel => exact ⟨j + 1, a, true, by omega, rfl, rfl, by go_num, ha0, ha1, HN⟩
          case measure => simp [intOf]; omega
        | false =>
          by_cases hov : 9223372036854775807 < a * 10 + x
          · have HN := hB (Or.inr hov)
            have hq : (9223372036854775807 - x) / 10 < a := by omega
            clear hB hO
            go_wp2_with (go_at_call 166; refine (hV _).mono ?_; rintro e w' ⟨rfl, rfl⟩)
            go_round
            case rel => exact ⟨j + 1, a, true, by omega, rfl, rfl, by go_num, ha0, ha1, HN⟩
            case measure => simp [intOf]; omega
          · have HN := hO rfl (by omega)
            have hq : ¬ (9223372036854775807 - x) / 10 < a := by omega
            have hov2 : a * 10 + x ≤ 9223372036854775807 := by omega
            clear hB hO hov
            go_wp2_with (go_at_call 166; refine (hV _).mono ?_; rintro e w' ⟨rfl, rfl⟩)
            go_round
            case rel => exact ⟨j + 1, a * 10 + x, false, by omega, rfl, rfl, by go_num, by omega, hov2, HN⟩
            case measure => simp [intOf]; omega
    · have hjl : ds.length ≤ j := by have := Hlen.out; omega
      cases big with
      | true =>
        have HR : Hid (numD 10 digB ds t = .bad 3) := numInv_end_big HK.out hjl Hne.out
        clear HK
        go_wp2
        go_ret2
        exact ⟨by rw [HR.out]; rfl, rfl⟩
      | false =>
        obtain ⟨v, hv, hR⟩ := numInv_end_ok (t := t) HK.out hjl Hne.out
        have HR := Lib.hid hR
        subst hv
        clear HK hR
        go_wp2
        go_ret2
        exact ⟨by rw [HR.out]; rfl, rfl⟩

set_option maxHeartbeats 4000000 in
set_option maxRecDepth 10000 in
theorem rnum_hex1 (s : ByteArray) (t : List UInt8) (w : World) (hs : s.size ≤ 140737488355328) (h1 : 2 < s.size) (h2 : ((s[0].toNat : Int) == 48) = true) (hx : ((s[1].toNat : Int) == 120) = true) :
    Calls Tryz.prog 115 #[.string s] w fun e w' => e = .returned (.tuple #[.int .i64 (tkN (numD 16 hexB (s.data.toList.drop 2) t)), .int .i64 (tkE (numD 16 hexB (s.data.toList.drop 2) t))]) ∧ w = w' := by
  obtain ⟨ds, hds⟩ : ∃ ds, ds = (s.data.toList.drop 2) := ⟨_, rfl⟩
  rw [← hds]
  have hlen : ds.length + 2 = s.size := by rw [hds, Lib.size_eq]; rw [List.length_drop]; have := Lib.size_eq s; omega
  have hne : ds ≠ [] := fun h => by rw [h] at hlen; simp at hlen; omega
  have hget : ∀ j, (h : j < ds.length) → (h2 : j + 2 < s.size) → s[j + 2] = ds[j] := by
    intro j h h2
    rw [← getD_idx s (j + 2) h2]
    simp only [hds, List.getD]
    rw [List.getElem_drop]; rw [List.getElem?_eq_getElem (by have := Lib.size_eq s; omega)]; simp [Nat.add_comm]
  have Hlen := Lib.hid hlen
  have Hne := Lib.hid hne
  have Hget := Lib.hid hget
  clear hlen hne hget hds
  go_enter Tryz.func115, Tryz.ntmps115
  go_wp2
  go_loop [6, 7, 8] (fun vn vb vi => ∃ (j : Nat) (a : Int) (big : Bool), j + 2 ≤ s.size ∧ vn = .int .i64 a ∧ vb = .bool big ∧ vi = .int .i64 (j + 2 : Nat) ∧ 0 ≤ a ∧ a ≤ 9223372036854775807 ∧ Hid (NumInv 16 hexB ds j a big)) (fun _ _ vi => s.size - (intOf vi).toNat)
  case atStart => exact ⟨0, 0, false, by omega, rfl, rfl, rfl, by decide, by decide, numInv_zero _ _ _⟩
  case round =>
    obtain ⟨j, a, big, hj, rfl, rfl, rfl, ha0, ha1, HK⟩ := hrel
    by_cases hlt : j + 2 < s.size
    · have hjl : j < ds.length := by have := Hlen.out; omega
      have hsj := Hget.out j hjl hlt
      have hV := fun w => val_any s[j + 2] w
      rw [hsj] at hV
      have hval := val_hex ds[j]
      have Hs := Lib.hid hsj
      clear hsj
      cases hp : hexB ds[j] with
      | false =>
        rw [hp] at hval
        have hval : valV ds[j] < 0 ∨ 16 ≤ valV ds[j] := hval
        have HR : Hid (numD 16 hexB ds t = .bad 1) := numInv_bad HK.out hjl hp
        clear HK hp
        generalize valV ds[j] = x at *
        rcases hval with hx | hx
        · rw [← Hs.out] at hV
          go_wp2_with (go_at_call 166; refine (hV _).mono ?_; rintro e w' ⟨rfl, rfl⟩)
          go_ret2
          exact ⟨by rw [HR.out]; rfl, rfl⟩
        · have hx0 : ¬ x < 0 := by omega
          rw [← Hs.out] at hV
          go_wp2_with (go_at_call 166; refine (hV _).mono ?_; rintro e w' ⟨rfl, rfl⟩)
          go_ret2
          exact ⟨by rw [HR.out]; rfl, rfl⟩
      | true =>
        rw [hp] at hval
        have hval : valV ds[j] = dv ds[j] ∧ dv ds[j] < 16 := hval
        have hB : (big = true ∨ 9223372036854775807 < a * 16 + dv ds[j]) → Hid (NumInv 16 hexB ds (j + 1) a true) := fun h => numInv_big (by decide) HK.out hjl hp h
        have hO : big = false → a * 16 + dv ds[j] ≤ 9223372036854775807 → Hid (NumInv 16 hexB ds (j + 1) (a * 16 + dv ds[j]) false) := fun h1 h2 => by subst h1; exact numInv_add HK.out hjl hp h2
        clear HK hp
        rw [hval.1] at hV
        have hd := hval.2
        clear hval
        obtain ⟨x, hx⟩ : ∃ x : Int, x = (dv ds[j] : Int) := ⟨_, rfl⟩
        rw [← hx] at hV hB hO
        rw [← Hs.out] at hV
        clear Hs
        have hx0 : 0 ≤ x := by omega
        have hx1 : x < 16 := by omega
        clear hx hd
        cases big with
        | true =>
          have HN := hB (Or.inl rfl)
          clear hB hO
          go_wp2_with (go_at_call 166; refine (hV _).mono ?_; rintro e w' ⟨rfl, rfl⟩)
          go_round
          case rel => exact ⟨j + 1, a, true, by omega, rfl, rfl, by go_num, ha0, ha1, HN⟩
          case measure => simp [intOf]; omega
        | false =>
          by_cases hov : 9223372036854775807 < a * 16 + x
          · have HN := hB (Or.inr hov)
            have hq : (9223372036854775807 - x) / 16 < a := by omega
            clear hB hO
            go_wp2_with (go_at_call 166; refine (hV _).mono ?_; rintro e w' ⟨rfl, rfl⟩)
            go_round
            case rel => exact ⟨j + 1, a, true, by omega, rfl, rfl, by go_num, ha0, ha1, HN⟩
            case measure => simp [intOf]; omega
          · have HN := hO rfl (by omega)
            have hq : ¬ (9223372036854775807 - x) / 16 < a := by omega
            have hov2 : a * 16 + x ≤ 9223372036854775807 := by omega
            clear hB hO hov
            go_wp2_with (go_at_call 166; refine (hV _).mono ?_; rintro e w' ⟨rfl, rfl⟩)
            go_round
            case rel => exact ⟨j + 1, a * 16 + x, false, by omega, rfl, rfl, by go_num, by omega, hov2, HN⟩
            case measure => simp [intOf]; omega
    · have hjl : ds.length ≤ j := by have := Hlen.out; omega
      cases big with
      | true =>
        have HR : Hid (numD 16 hexB ds t = .bad 3) := numInv_end_big HK.out hjl Hne.out
        clear HK
        go_wp2
        go_ret2
        exact ⟨by rw [HR.out]; rfl, rfl⟩
      | false =>
        obtain ⟨v, hv, hR⟩ := numInv_end_ok (t := t) HK.out hjl Hne.out
        have HR := Lib.hid hR
        subst hv
        clear HK hR
        go_wp2
        go_ret2
        exact ⟨by rw [HR.out]; rfl, rfl⟩

set_option maxHeartbeats 4000000 in
set_option maxRecDepth 10000 in
theorem rnum_hex2 (s : ByteArray) (t : List UInt8) (w : World) (hs : s.size ≤ 140737488355328) (h1 : 2 < s.size) (h2 : ((s[0].toNat : Int) == 48) = true) (hx : ((s[1].toNat : Int) == 120) = false) (hy : ((s[1].toNat : Int) == 88) = true) :
    Calls Tryz.prog 115 #[.string s] w fun e w' => e = .returned (.tuple #[.int .i64 (tkN (numD 16 hexB (s.data.toList.drop 2) t)), .int .i64 (tkE (numD 16 hexB (s.data.toList.drop 2) t))]) ∧ w = w' := by
  obtain ⟨ds, hds⟩ : ∃ ds, ds = (s.data.toList.drop 2) := ⟨_, rfl⟩
  rw [← hds]
  have hlen : ds.length + 2 = s.size := by rw [hds, Lib.size_eq]; rw [List.length_drop]; have := Lib.size_eq s; omega
  have hne : ds ≠ [] := fun h => by rw [h] at hlen; simp at hlen; omega
  have hget : ∀ j, (h : j < ds.length) → (h2 : j + 2 < s.size) → s[j + 2] = ds[j] := by
    intro j h h2
    rw [← getD_idx s (j + 2) h2]
    simp only [hds, List.getD]
    rw [List.getElem_drop]; rw [List.getElem?_eq_getElem (by have := Lib.size_eq s; omega)]; simp [Nat.add_comm]
  have Hlen := Lib.hid hlen
  have Hne := Lib.hid hne
  have Hget := Lib.hid hget
  clear hlen hne hget hds
  go_enter Tryz.func115, Tryz.ntmps115
  go_wp2
  go_loop [6, 7, 8] (fun vn vb vi => ∃ (j : Nat) (a : Int) (big : Bool), j + 2 ≤ s.size ∧ vn = .int .i64 a ∧ vb = .bool big ∧ vi = .int .i64 (j + 2 : Nat) ∧ 0 ≤ a ∧ a ≤ 9223372036854775807 ∧ Hid (NumInv 16 hexB ds j a big)) (fun _ _ vi => s.size - (intOf vi).toNat)
  case atStart => exact ⟨0, 0, false, by omega, rfl, rfl, rfl, by decide, by decide, numInv_zero _ _ _⟩
  case round =>
    obtain ⟨j, a, big, hj, rfl, rfl, rfl, ha0, ha1, HK⟩ := hrel
    by_cases hlt : j + 2 < s.size
    · have hjl : j < ds.length := by have := Hlen.out; omega
      have hsj := Hget.out j hjl hlt
      have hV := fun w => val_any s[j + 2] w
      rw [hsj] at hV
      have hval := val_hex ds[j]
      have Hs := Lib.hid hsj
      clear hsj
      cases hp : hexB ds[j] with
      | false =>
        rw [hp] at hval
        have hval : valV ds[j] < 0 ∨ 16 ≤ valV ds[j] := hval
        have HR : Hid (numD 16 hexB ds t = .bad 1) := numInv_bad HK.out hjl hp
        clear HK hp
        generalize valV ds[j] = x at *
        rcases hval with hx | hx
        · rw [← Hs.out] at hV
          go_wp2_with (go_at_call 166; refine (hV _).mono ?_; rintro e w' ⟨rfl, rfl⟩)
          go_ret2
          exact ⟨by rw [HR.out]; rfl, rfl⟩
        · have hx0 : ¬ x < 0 := by omega
          rw [← Hs.out] at hV
          go_wp2_with (go_at_call 166; refine (hV _).mono ?_; rintro e w' ⟨rfl, rfl⟩)
          go_ret2
          exact ⟨by rw [HR.out]; rfl, rfl⟩
      | true =>
        rw [hp] at hval
        have hval : valV ds[j] = dv ds[j] ∧ dv ds[j] < 16 := hval
        have hB : (big = true ∨ 9223372036854775807 < a * 16 + dv ds[j]) → Hid (NumInv 16 hexB ds (j + 1) a true) := fun h => numInv_big (by decide) HK.out hjl hp h
        have hO : big = false → a * 16 + dv ds[j] ≤ 9223372036854775807 → Hid (NumInv 16 hexB ds (j + 1) (a * 16 + dv ds[j]) false) := fun h1 h2 => by subst h1; exact numInv_add HK.out hjl hp h2
        clear HK hp
        rw [hval.1] at hV
        have hd := hval.2
        clear hval
        obtain ⟨x, hx⟩ : ∃ x : Int, x = (dv ds[j] : Int) := ⟨_, rfl⟩
        rw [← hx] at hV hB hO
        rw [← Hs.out] at hV
        clear Hs
        have hx0 : 0 ≤ x := by omega
        have hx1 : x < 16 := by omega
        clear hx hd
        cases big with
        | true =>
          have HN := hB (Or.inl rfl)
          clear hB hO
          go_wp2_with (go_at_call 166; refine (hV _).mono ?_; rintro e w' ⟨rfl, rfl⟩)
          go_round
          case rel => exact ⟨j + 1, a, true, by omega, rfl, rfl, by go_num, ha0, ha1, HN⟩
          case measure => simp [intOf]; omega
        | false =>
          by_cases hov : 9223372036854775807 < a * 16 + x
          · have HN := hB (Or.inr hov)
            have hq : (9223372036854775807 - x) / 16 < a := by omega
            clear hB hO
            go_wp2_with (go_at_call 166; refine (hV _).mono ?_; rintro e w' ⟨rfl, rfl⟩)
            go_round
            case rel => exact ⟨j + 1, a, true, by omega, rfl, rfl, by go_num, ha0, ha1, HN⟩
            case measure => simp [intOf]; omega
          · have HN := hO rfl (by omega)
            have hq : ¬ (9223372036854775807 - x) / 16 < a := by omega
            have hov2 : a * 16 + x ≤ 9223372036854775807 := by omega
            clear hB hO hov
            go_wp2_with (go_at_call 166; refine (hV _).mono ?_; rintro e w' ⟨rfl, rfl⟩)
            go_round
            case rel => exact ⟨j + 1, a * 16 + x, false, by omega, rfl, rfl, by go_num, by omega, hov2, HN⟩
            case measure => simp [intOf]; omega
    · have hjl : ds.length ≤ j := by have := Hlen.out; omega
      cases big with
      | true =>
        have HR : Hid (numD 16 hexB ds t = .bad 3) := numInv_end_big HK.out hjl Hne.out
        clear HK
        go_wp2
        go_ret2
        exact ⟨by rw [HR.out]; rfl, rfl⟩
      | false =>
        obtain ⟨v, hv, hR⟩ := numInv_end_ok (t := t) HK.out hjl Hne.out
        have HR := Lib.hid hR
        subst hv
        clear HK hR
        go_wp2
        go_ret2
        exact ⟨by rw [HR.out]; rfl, rfl⟩

set_option maxHeartbeats 4000000 in
theorem rnum_no (s : ByteArray) (w : World) (hs : s.size ≤ 140737488355328) (h1 : 1 < s.size) (h2 : ((s[0].toNat : Int) == 48) = true)
    (hx : ¬ 2 < s.size ∨ (((s[1].toNat : Int) == 120) = false ∧ ((s[1].toNat : Int) == 88) = false)) :
    Calls Tryz.prog 115 #[.string s] w fun e w' => e = .returned (.tuple #[.int .i64 0, .int .i64 2]) ∧ w = w' := by
  rcases hx with hx | ⟨hx, hy⟩
  · go_enter Tryz.func115, Tryz.ntmps115
    go_wp2
    go_ret2
    exact ⟨rfl, rfl⟩
  · by_cases h3 : 2 < s.size
    · go_enter Tryz.func115, Tryz.ntmps115
      go_wp2
      go_ret2
      exact ⟨rfl, rfl⟩
    · go_enter Tryz.func115, Tryz.ntmps115
      go_wp2
      go_ret2
      exact ⟨rfl, rfl⟩

end Go.Proofs.YtbjacclfhgnffaaGreatDoor.Tk
/-
  Contracts of the document's answer: number, whatever the text, and quoted.
-/
namespace Go.Proofs.YtbjacclfhgnffaaGreatDoor.Tk
open Go.RowKit

theorem rnum_any (s : ByteArray) (w : World) (hs : s.size ≤ 140737488355328) (h0 : s.size ≠ 0) :
    Calls Tryz.prog 115 #[.string s] w fun e w' => e = .returned (.tuple #[.int .i64 (tkN (numT s.data.toList)), .int .i64 (tkE (numT s.data.toList))]) ∧ w = w' := by
  have hsz := Lib.size_eq s
  by_cases h1 : 1 < s.size
  · have g0 := getD_idx s 0 (by omega)
    have g1 := getD_idx s 1 h1
    by_cases h2 : s[0] = 48
    · have hp : 1 < s.data.toList.length ∧ s.data.toList.getD 0 0 = 48 := ⟨by omega, by rw [g0, h2]⟩
      have e0 : ((s[0].toNat : Int) == 48) = true := beq_of (by rw [h2]; rfl)
      by_cases hx : s[1] = 120 ∨ s[1] = 88
      · have hT : numT s.data.toList = numD 16 hexB (s.data.toList.drop 2) s.data.toList := by
          unfold numT; rw [if_pos hp, if_neg (by rw [g1]; rcases hx with hx | hx <;> rw [hx] <;> decide)]
        by_cases h3 : 2 < s.size
        · rw [hT]
          by_cases hx' : s[1] = 120
          · exact rnum_hex1 s _ w hs h3 e0 (beq_of (by rw [hx']; rfl))
          · have hy := hx.resolve_left hx'
            exact rnum_hex2 s _ w hs h3 e0 (u8_ne hx') (beq_of (by rw [hy]; rfl))
        · have hB : numT s.data.toList = .bad 1 := by
            rw [hT]; unfold numD; rw [if_pos (Or.inl (List.drop_eq_nil_of_le (by omega)))]
          rw [hB]
          exact rnum_no s w hs h1 e0 (Or.inl h3)
      · have hB : numT s.data.toList = .bad 1 := by
          unfold numT; rw [if_pos hp, if_pos (by rw [g1]; exact ⟨fun h => hx (Or.inl h), fun h => hx (Or.inr h)⟩)]
        rw [hB]
        exact rnum_no s w hs h1 e0 (Or.inr ⟨u8_ne fun h => hx (Or.inl h), u8_ne fun h => hx (Or.inr h)⟩)
    · have hT : numT s.data.toList = numD 10 digB s.data.toList s.data.toList := by
        unfold numT; rw [if_neg (by rw [g0]; exact fun h => h2 h.2)]
      rw [hT]
      have e0 : ((s[0].toNat : Int) == 48) = false := u8_ne h2
      by_cases h3 : 2 < s.size
      · exact rnum_dec2a s _ w hs h1 h3 e0
      · exact rnum_dec2b s _ w hs h1 h3 e0
  · have hT : numT s.data.toList = numD 10 digB s.data.toList s.data.toList := by
      unfold numT; rw [if_neg (by omega)]
    rw [hT]
    exact rnum_dec1 s _ w hs h0 h1

theorem escV_cases (c : UInt8) : (c = 110 ∧ escV c = 10) ∨ (c = 48 ∧ escV c = 0) ∨ (c = 92 ∧ escV c = 92) ∨ (c = 39 ∧ escV c = 39) ∨ (c ≠ 110 ∧ c ≠ 48 ∧ c ≠ 92 ∧ c ≠ 39 ∧ escV c < 0) := by
  have : ∀ n : Fin 256, (UInt8.ofNat n.val = 110 ∧ escV (UInt8.ofNat n.val) = 10) ∨ (UInt8.ofNat n.val = 48 ∧ escV (UInt8.ofNat n.val) = 0) ∨ (UInt8.ofNat n.val = 92 ∧ escV (UInt8.ofNat n.val) = 92) ∨ (UInt8.ofNat n.val = 39 ∧ escV (UInt8.ofNat n.val) = 39) ∨ (UInt8.ofNat n.val ≠ 110 ∧ UInt8.ofNat n.val ≠ 48 ∧ UInt8.ofNat n.val ≠ 92 ∧ UInt8.ofNat n.val ≠ 39 ∧ escV (UInt8.ofNat n.val) < 0) := by decide +kernel
  have h2 := this ⟨c.toNat, c.toNat_lt⟩
  simpa using h2

/-- the two numbers that quoted gives -/
def QPost (r : Tk) (w : World) (e : Ending) (w' : World) : Prop := e = .returned (.tuple #[.int .i64 (tkN r), .int .i64 (tkL r)]) ∧ w = w'
theorem qpost {r r' : Tk} {w : World} (h : Hid (r = r')) : QPost r w (.returned (.tuple #[.int .i64 (tkN r'), .int .i64 (tkL r')])) w := by rw [h.out]; exact ⟨rfl, rfl⟩

set_option maxHeartbeats 4000000 in
set_option maxRecDepth 100000 in
theorem quo_any (s : ByteArray) (w : World) (hs : s.size ≤ 140737488355328) :
    Calls Tryz.prog 117 #[.string s] w (QPost (chrT s.data.toList) w) := by
  obtain ⟨r, hr⟩ : ∃ r, r = chrT s.data.toList := ⟨_, rfl⟩
  rw [← hr]
  unfold chrT at hr
  by_cases h3 : s.size < 3
  · rw [if_pos (by have := Lib.size_eq s; omega)] at hr
    have HR := Lib.hid hr
    have h4 : ¬ 2 < s.size := by omega
    have h5 : ¬ 3 < s.size := by omega
    clear hr
    go_enter Tryz.func117, Tryz.ntmps117
    go_wp2
    go_ret2
    exact qpost HR
  · rw [if_neg (by have := Lib.size_eq s; omega), getD_idx s 1 (by omega), getD_idx s 2 (by omega)] at hr
    have h2s : 2 < s.size := by omega
    have hb1 : s[1].toNat < 256 := s[1].toNat_lt
    have hb2 : s[2].toNat < 256 := s[2].toNat_lt
    by_cases h92 : s[1] = 92
    · rw [if_pos h92] at hr
      have e1 : ((s[1].toNat : Int) == 92) = true := beq_of (by rw [h92]; rfl)
      have n1 := u8_nb e1
      have v1 : (s[1].toNat : Int) = 92 := by rw [h92]; rfl
      have V1 : (32 : Int) ≤ s[1].toNat := by omega
      have V2 : (s[1].toNat : Int) < 127 := by omega
      clear v1 h92
      have eG : ∀ (b : Bool), ((s[2].toNat : Int) == 39) = b → True := fun _ _ => trivial
      by_cases h4 : s.size < 4
      · rw [if_pos (Or.inr (Or.inl (by have := Lib.size_eq s; omega)))] at hr
        have HR := Lib.hid hr
        have h5 : ¬ 3 < s.size := by omega
        clear hr
        cases e2 : ((s[2].toNat : Int) == 39) <;>
        · go_enter Tryz.func117, Tryz.ntmps117
          go_wp2
          go_ret2
          exact qpost HR
      · have h5 : 3 < s.size := by omega
        rw [getD_idx s 3 (by omega)] at hr
        by_cases h39 : s[3] = 39
        · have e3 : ((s[3].toNat : Int) == 39) = true := beq_of (by rw [h39]; rfl)
          have hl4 : ¬ s.data.toList.length < 4 := by have := Lib.size_eq s; omega
          rcases escV_cases s[2] with ⟨hc, hv⟩ | ⟨hc, hv⟩ | ⟨hc, hv⟩ | ⟨hc, hv⟩ | ⟨hc1, hc2, hc3, hc4, hv⟩
          · rw [hv, if_neg (by rintro (h | h | h); exact absurd h (by decide); exact hl4 h; exact h h39)] at hr
            have HR := Lib.hid hr
            have g1 : ((s[2].toNat : Int) == 110) = true := beq_of (by rw [hc]; rfl)
            have g4 : ((s[2].toNat : Int) == 39) = false := beq_of_ne (by rw [hc]; decide)
            clear hr hc h39
            go_enter Tryz.func117, Tryz.ntmps117
            go_wp2
            go_ret2
            exact qpost HR
          · rw [hv, if_neg (by rintro (h | h | h); exact absurd h (by decide); exact hl4 h; exact h h39)] at hr
            have HR := Lib.hid hr
            have g1 : ((s[2].toNat : Int) == 110) = false := beq_of_ne (by rw [hc]; decide)
            have g2 : ((s[2].toNat : Int) == 48) = true := beq_of (by rw [hc]; rfl)
            have g4 : ((s[2].toNat : Int) == 39) = false := beq_of_ne (by rw [hc]; decide)
            clear hr hc h39
            go_enter Tryz.func117, Tryz.ntmps117
            go_wp2
            go_ret2
            exact qpost HR
          · rw [hv, if_neg (by rintro (h | h | h); exact absurd h (by decide); exact hl4 h; exact h h39)] at hr
            have HR := Lib.hid hr
            have g1 : ((s[2].toNat : Int) == 110) = false := beq_of_ne (by rw [hc]; decide)
            have g2 : ((s[2].toNat : Int) == 48) = false := beq_of_ne (by rw [hc]; decide)
            have g3 : ((s[2].toNat : Int) == 92) = true := beq_of (by rw [hc]; rfl)
            have g4 : ((s[2].toNat : Int) == 39) = false := beq_of_ne (by rw [hc]; decide)
            have gv : (s[2].toNat : Int) = 92 := by rw [hc]; rfl
            clear hr hc h39
            go_enter Tryz.func117, Tryz.ntmps117
            go_wp2
            go_ret2
            exact qpost HR
          · rw [hv, if_neg (by rintro (h | h | h); exact absurd h (by decide); exact hl4 h; exact h h39)] at hr
            have HR := Lib.hid hr
            have g1 : ((s[2].toNat : Int) == 110) = false := beq_of_ne (by rw [hc]; decide)
            have g2 : ((s[2].toNat : Int) == 48) = false := beq_of_ne (by rw [hc]; decide)
            have g3 : ((s[2].toNat : Int) == 92) = false := beq_of_ne (by rw [hc]; decide)
            have g4 : ((s[2].toNat : Int) == 39) = true := beq_of (by rw [hc]; rfl)
            have gv : (s[2].toNat : Int) = 39 := by rw [hc]; rfl
            clear hr hc h39
            go_enter Tryz.func117, Tryz.ntmps117
            go_wp2
            go_ret2
            exact qpost HR
          · rw [if_pos (Or.inl hv)] at hr
            have HR := Lib.hid hr
            have g1 : ((s[2].toNat : Int) == 110) = false := u8_ne hc1
            have g2 : ((s[2].toNat : Int) == 48) = false := u8_ne hc2
            have g3 : ((s[2].toNat : Int) == 92) = false := u8_ne hc3
            have g4 : ((s[2].toNat : Int) == 39) = false := u8_ne hc4
            clear hr hc1 hc2 hc3 hc4 h39 hv
            go_enter Tryz.func117, Tryz.ntmps117
            go_wp2
            go_ret2
            exact qpost HR
        · rw [if_pos (Or.inr (Or.inr h39))] at hr
          have HR := Lib.hid hr
          have e3 : ((s[3].toNat : Int) == 39) = false := u8_ne h39
          clear hr h39
          cases e2 : ((s[2].toNat : Int) == 39) <;>
          · go_enter Tryz.func117, Tryz.ntmps117
            go_wp2
            go_ret2
            exact qpost HR
    · rw [if_neg h92] at hr
      have e1 : ((s[1].toNat : Int) == 92) = false := u8_ne h92
      have n1 := u8_nb e1
      cases hp : plainB s[1] with
      | true =>
        rw [hp, if_pos rfl] at hr
        have hpl : 32 ≤ s[1].toNat ∧ s[1].toNat ≤ 126 ∧ s[1].toNat ≠ 39 ∧ s[1].toNat ≠ 92 := by simpa [plainB] using hp
        have V1 : (32 : Int) ≤ s[1].toNat := by omega
        have V2 : (s[1].toNat : Int) < 127 := by omega
        have e4 : ((s[1].toNat : Int) == 39) = false := beq_of_ne (by omega)
        have n4 := u8_nb e4
        clear hpl hp h92
        by_cases h39 : s[2] = 39
        · rw [if_neg (by simp [h39])] at hr
          have HR := Lib.hid hr
          have e2 : ((s[2].toNat : Int) == 39) = true := beq_of (by rw [h39]; rfl)
          clear hr h39
          go_enter Tryz.func117, Tryz.ntmps117
          go_wp2
          go_ret2
          exact qpost HR
        · rw [if_pos h39] at hr
          have HR := Lib.hid hr
          have e2 : ((s[2].toNat : Int) == 39) = false := u8_ne h39
          clear hr h39
          by_cases h5 : 3 < s.size
          · cases e3 : ((s[3].toNat : Int) == 39) <;>
            · go_enter Tryz.func117, Tryz.ntmps117
              go_wp2
              go_ret2
              exact qpost HR
          · go_enter Tryz.func117, Tryz.ntmps117
            go_wp2
            go_ret2
            exact qpost HR
      | false =>
        rw [hp, if_neg (by decide)] at hr
        have HR := Lib.hid hr
        have hpl : s[1].toNat < 32 ∨ (32 ≤ s[1].toNat ∧ 127 ≤ s[1].toNat) ∨ (32 ≤ s[1].toNat ∧ s[1].toNat < 127 ∧ s[1].toNat = 39) := by
          have h92' : s[1].toNat ≠ 92 := fun h => h92 (UInt8.toNat_inj.1 h)
          simp [plainB] at hp
          omega
        clear hr hp h92
        have hq : ∀ b : Bool, b = true ∨ b = false := by decide
        by_cases h5 : 3 < s.size
        · cases e3 : ((s[3].toNat : Int) == 39) <;> cases e2 : ((s[2].toNat : Int) == 39) <;> rcases hpl with h | ⟨h, h'⟩ | ⟨h, h', h''⟩ <;>
          · (try have e4 : ((s[1].toNat : Int) == 39) = true := beq_of (by omega))
            (try have n4 := u8_nb e4)
            (try have V1 : (32 : Int) ≤ s[1].toNat := by omega)
            (try have V2 : ¬ (s[1].toNat : Int) < 127 := by omega)
            (try clear h'')
            go_enter Tryz.func117, Tryz.ntmps117
            go_wp2
            go_ret2
            exact qpost HR
        · cases e2 : ((s[2].toNat : Int) == 39) <;> rcases hpl with h | ⟨h, h'⟩ | ⟨h, h', h''⟩ <;>
          · (try have e4 : ((s[1].toNat : Int) == 39) = true := beq_of (by omega))
            (try have n4 := u8_nb e4)
            (try have V1 : (32 : Int) ≤ s[1].toNat := by omega)
            (try have V2 : ¬ (s[1].toNat : Int) < 127 := by omega)
            (try clear h'')
            go_enter Tryz.func117, Tryz.ntmps117
            go_wp2
            go_ret2
            exact qpost HR
end Go.Proofs.YtbjacclfhgnffaaGreatDoor.Tk
