/-
  Contract of the document's answer: number.
-/
import Derived.Test.YtaipdmaiffjeeaaDoorS
namespace Go.Proofs.YtaipdmaiffjeeaaDoor
open Go.RowKit

set_option maxHeartbeats 4000000 in
set_option maxRecDepth 10000 in
theorem rnum_dec1 (s : ByteArray) (t : List UInt8) (w : World) (hs : s.size ≤ 140737488355328) (h0 : s.size ≠ 0) (h1 : ¬ 1 < s.size) :
    Calls Tryd.prog 30 #[.string s] w fun e w' => e = .returned (.tuple #[.int .i64 (tkN (numD 10 digB s.data.toList t)), .int .i64 (tkE (numD 10 digB s.data.toList t))]) ∧ w = w' := by
  obtain ⟨ds, hds⟩ : ∃ ds, ds = s.data.toList := ⟨_, rfl⟩
  rw [← hds]
  have hlen : ds.length = s.size := by rw [hds, Lib.size_eq]
  have hne : ds ≠ [] := fun h => by rw [h] at hlen; simp at hlen; omega
  have hget : ∀ j, (h : j < ds.length) → (h2 : j < s.size) → s[j] = ds[j] := by
    intro j h h2
    rw [← getD_idx s (j) h2]
    simp only [hds, List.getD]
    rw [List.getElem?_eq_getElem (by have := Lib.size_eq s; omega)]; simp
  have Hlen := Lib.hid hlen
  have Hne := Lib.hid hne
  have Hget := Lib.hid hget
  clear hlen hne hget hds
  have h12 : ¬ 2 < s.size := by omega
  go_enter Tryd.func30, Tryd.ntmps30
  go_wp2
  go_loop [6, 7, 8] (fun vn vb vi => ∃ (j : Nat) (a : Int) (big : Bool), j ≤ s.size ∧ vn = .int .i64 a ∧ vb = .bool big ∧ vi = .int .i64 (j : Nat) ∧ 0 ≤ a ∧ a ≤ 9223372036854775807 ∧ Hid (NumInv 10 digB ds j a big)) (fun _ _ vi => s.size - (intOf vi).toNat)
  case atStart => exact ⟨0, 0, false, by omega, rfl, rfl, rfl, by decide, by decide, numInv_zero _ _ _⟩
  case round =>
    obtain ⟨j, a, big, hj, rfl, rfl, rfl, ha0, ha1, HK⟩ := hrel
    by_cases hlt : j < s.size
    · have hjl : j < ds.length := by have := Hlen.out; omega
      have hsj := Hget.out j hjl hlt
      have hV := fun w => val_any s[j] w
      rw [hsj] at hV
      have hval := val_dec ds[j]
      have Hs := Lib.hid hsj
      clear hsj
      cases hp : digB ds[j] with
      | false =>
        rw [hp] at hval
        have hval : valV ds[j] < 0 ∨ 10 ≤ valV ds[j] := hval
        have HR : Hid (numD 10 digB ds t = .bad 1) := numInv_bad HK.out hjl hp
        clear HK hp
        generalize valV ds[j] = x at *
        rcases hval with hx | hx
        · rw [← Hs.out] at hV
          go_wp2_with (go_at_call 49; refine (hV _).mono ?_; rintro e w' ⟨rfl, rfl⟩)
          go_ret2
          exact ⟨by rw [HR.out]; rfl, rfl⟩
        · have hx0 : ¬ x < 0 := by omega
          rw [← Hs.out] at hV
          go_wp2_with (go_at_call 49; refine (hV _).mono ?_; rintro e w' ⟨rfl, rfl⟩)
          go_ret2
          exact ⟨by rw [HR.out]; rfl, rfl⟩
      | true =>
        rw [hp] at hval
        have hval : valV ds[j] = dv ds[j] ∧ dv ds[j] < 10 := hval
        have hB : (big = true ∨ 9223372036854775807 < a * 10 + dv ds[j]) → Hid (NumInv 10 digB ds (j + 1) a true) := fun h => numInv_big (by decide) HK.out hjl hp h
        have hO : big = false → a * 10 + dv ds[j] ≤ 9223372036854775807 → Hid (NumInv 10 digB ds (j + 1) (a * 10 + dv ds[j]) false) := fun h1 h2 => by subst h1; exact numInv_add HK.out hjl hp h2
        clear HK hp
        rw [hval.1] at hV
        have hd := hval.2
        clear hval
        obtain ⟨x, hx⟩ : ∃ x : Int, x = (dv ds[j] : Int) := ⟨_, rfl⟩
        rw [← hx] at hV hB hO
        rw [← Hs.out] at hV
        clear Hs
        have hx0 : 0 ≤ x := by omega
        have hx1 : x < 10 := by omega
        clear hx hd
        cases big with
        | true =>
          have HN := hB (Or.inl rfl)
          clear hB hO
          go_wp2_with (go_at_call 49; refine (hV _).mono ?_; rintro e w' ⟨rfl, rfl⟩)
          go_round
          case rel => exact ⟨j + 1, a, true, by omega, rfl, rfl, by go_num, ha0, ha1, HN⟩
          case measure => simp [intOf]; omega
        | false =>
          by_cases hov : 9223372036854775807 < a * 10 + x
          · have HN := hB (Or.inr hov)
            have hq : (9223372036854775807 - x) / 10 < a := by omega
            clear hB hO
            go_wp2_with (go_at_call 49; refine (hV _).mono ?_; rintro e w' ⟨rfl, rfl⟩)
            go_round
            case rel => exact ⟨j + 1, a, true, by omega, rfl, rfl, by go_num, ha0, ha1, HN⟩
            case measure => simp [intOf]; omega
          · have HN := hO rfl (by omega)
            have hq : ¬ (9223372036854775807 - x) / 10 < a := by omega
            have hov2 : a * 10 + x ≤ 9223372036854775807 := by omega
            clear hB hO hov
            go_wp2_with (go_at_call 49; refine (hV _).mono ?_; rintro e w' ⟨rfl, rfl⟩)
            go_round
            case rel => exact ⟨j + 1, a * 10 + x, false, by omega, rfl, rfl, by go_num, by omega, hov2, HN⟩
            case measure => simp [intOf]; omega
    · have hjl : ds.length ≤ j := by have := Hlen.out; omega
      cases big with
      | true =>
        have HR : Hid (numD 10 digB ds t = .bad 3) := numInv_end_big HK.out hjl Hne.out
        clear HK
        go_wp2
        go_ret2
        exact ⟨by rw [HR.out]; rfl, rfl⟩
      | false =>
        obtain ⟨v, hv, hR⟩ := numInv_end_ok (t := t) HK.out hjl Hne.out
        have HR := Lib.hid hR
        subst hv
        clear HK hR
        go_wp2
        go_ret2
        exact ⟨by rw [HR.out]; rfl, rfl⟩

set_option maxHeartbeats 4000000 in
set_option maxRecDepth 10000 in
theorem rnum_dec2a (s : ByteArray) (t : List UInt8) (w : World) (hs : s.size ≤ 140737488355328) (h1 : 1 < s.size) (h3 : 2 < s.size) (h2 : ((s[0].toNat : Int) == 48) = false) :
    Calls Tryd.prog 30 #[.string s] w fun e w' => e = .returned (.tuple #[.int .i64 (tkN (numD 10 digB s.data.toList t)), .int .i64 (tkE (numD 10 digB s.data.toList t))]) ∧ w = w' := by
  obtain ⟨ds, hds⟩ : ∃ ds, ds = s.data.toList := ⟨_, rfl⟩
  rw [← hds]
  have hlen : ds.length = s.size := by rw [hds, Lib.size_eq]
  have hne : ds ≠ [] := fun h => by rw [h] at hlen; simp at hlen; omega
  have hget : ∀ j, (h : j < ds.length) → (h2 : j < s.size) → s[j] = ds[j] := by
    intro j h h2
    rw [← getD_idx s (j) h2]
    simp only [hds, List.getD]
    rw [List.getElem?_eq_getElem (by have := Lib.size_eq s; omega)]; simp
  have Hlen := Lib.hid hlen
  have Hne := Lib.hid hne
  have Hget := Lib.hid hget
  clear hlen hne hget hds
  go_enter Tryd.func30, Tryd.ntmps30
  go_wp2
  go_loop [6, 7, 8] (fun vn vb vi => ∃ (j : Nat) (a : Int) (big : Bool), j ≤ s.size ∧ vn = .int .i64 a ∧ vb = .bool big ∧ vi = .int .i64 (j : Nat) ∧ 0 ≤ a ∧ a ≤ 9223372036854775807 ∧ Hid (NumInv 10 digB ds j a big)) (fun _ _ vi => s.size - (intOf vi).toNat)
  case atStart => exact ⟨0, 0, false, by omega, rfl, rfl, rfl, by decide, by decide, numInv_zero _ _ _⟩
  case round =>
    obtain ⟨j, a, big, hj, rfl, rfl, rfl, ha0, ha1, HK⟩ := hrel
    by_cases hlt : j < s.size
    · have hjl : j < ds.length := by have := Hlen.out; omega
      have hsj := Hget.out j hjl hlt
      have hV := fun w => val_any s[j] w
      rw [hsj] at hV
      have hval := val_dec ds[j]
      have Hs := Lib.hid hsj
      clear hsj
      cases hp : digB ds[j] with
      | false =>
        rw [hp] at hval
        have hval : valV ds[j] < 0 ∨ 10 ≤ valV ds[j] := hval
        have HR : Hid (numD 10 digB ds t = .bad 1) := numInv_bad HK.out hjl hp
        clear HK hp
        generalize valV ds[j] = x at *
        rcases hval with hx | hx
        · rw [← Hs.out] at hV
          go_wp2_with (go_at_call 49; refine (hV _).mono ?_; rintro e w' ⟨rfl, rfl⟩)
          go_ret2
          exact ⟨by rw [HR.out]; rfl, rfl⟩
        · have hx0 : ¬ x < 0 := by omega
          rw [← Hs.out] at hV
          go_wp2_with (go_at_call 49; refine (hV _).mono ?_; rintro e w' ⟨rfl, rfl⟩)
          go_ret2
          exact ⟨by rw [HR.out]; rfl, rfl⟩
      | true =>
        rw [hp] at hval
        have hval : valV ds[j] = dv ds[j] ∧ dv ds[j] < 10 := hval
        have hB : (big = true ∨ 9223372036854775807 < a * 10 + dv ds[j]) → Hid (NumInv 10 digB ds (j + 1) a true) := fun h => numInv_big (by decide) HK.out hjl hp h
        have hO : big = false → a * 10 + dv ds[j] ≤ 9223372036854775807 → Hid (NumInv 10 digB ds (j + 1) (a * 10 + dv ds[j]) false) := fun h1 h2 => by subst h1; exact numInv_add HK.out hjl hp h2
        clear HK hp
        rw [hval.1] at hV
        have hd := hval.2
        clear hval
        obtain ⟨x, hx⟩ : ∃ x : Int, x = (dv ds[j] : Int) := ⟨_, rfl⟩
        rw [← hx] at hV hB hO
        rw [← Hs.out] at hV
        clear Hs
        have hx0 : 0 ≤ x := by omega
        have hx1 : x < 10 := by omega
        clear hx hd
        cases big with
        | true =>
          have HN := hB (Or.inl rfl)
          clear hB hO
          go_wp2_with (go_at_call 49; refine (hV _).mono ?_; rintro e w' ⟨rfl, rfl⟩)
          go_round
          case rel => exact ⟨j + 1, a, true, by omega, rfl, rfl, by go_num, ha0, ha1, HN⟩
          case measure => simp [intOf]; omega
        | false =>
          by_cases hov : 9223372036854775807 < a * 10 + x
          · have HN := hB (Or.inr hov)
            have hq : (9223372036854775807 - x) / 10 < a := by omega
            clear hB hO
            go_wp2_with (go_at_call 49; refine (hV _).mono ?_; rintro e w' ⟨rfl, rfl⟩)
            go_round
            case rel => exact ⟨j + 1, a, true, by omega, rfl, rfl, by go_num, ha0, ha1, HN⟩
            case measure => simp [intOf]; omega
          · have HN := hO rfl (by omega)
            have hq : ¬ (9223372036854775807 - x) / 10 < a := by omega
            have hov2 : a * 10 + x ≤ 9223372036854775807 := by omega
            clear hB hO hov
            go_wp2_with (go_at_call 49; refine (hV _).mono ?_; rintro e w' ⟨rfl, rfl⟩)
            go_round
            case rel => exact ⟨j + 1, a * 10 + x, false, by omega, rfl, rfl, by go_num, by omega, hov2, HN⟩
            case measure => simp [intOf]; omega
    · have hjl : ds.length ≤ j := by have := Hlen.out; omega
      cases big with
      | true =>
        have HR : Hid (numD 10 digB ds t = .bad 3) := numInv_end_big HK.out hjl Hne.out
        clear HK
        go_wp2
        go_ret2
        exact ⟨by rw [HR.out]; rfl, rfl⟩
      | false =>
        obtain ⟨v, hv, hR⟩ := numInv_end_ok (t := t) HK.out hjl Hne.out
        have HR := Lib.hid hR
        subst hv
        clear HK hR
        go_wp2
        go_ret2
        exact ⟨by rw [HR.out]; rfl, rfl⟩

set_option maxHeartbeats 4000000 in
set_option maxRecDepth 10000 in
theorem rnum_dec2b (s : ByteArray) (t : List UInt8) (w : World) (hs : s.size ≤ 140737488355328) (h1 : 1 < s.size) (h3 : ¬ 2 < s.size) (h2 : ((s[0].toNat : Int) == 48) = false) :
    Calls Tryd.prog 30 #[.string s] w fun e w' => e = .returned (.tuple #[.int .i64 (tkN (numD 10 digB s.data.toList t)), .int .i64 (tkE (numD 10 digB s.data.toList t))]) ∧ w = w' := by
  obtain ⟨ds, hds⟩ : ∃ ds, ds = s.data.toList := ⟨_, rfl⟩
  rw [← hds]
  have hlen : ds.length = s.size := by rw [hds, Lib.size_eq]
  have hne : ds ≠ [] := fun h => by rw [h] at hlen; simp at hlen; omega
  have hget : ∀ j, (h : j < ds.length) → (h2 : j < s.size) → s[j] = ds[j] := by
    intro j h h2
    rw [← getD_idx s (j) h2]
    simp only [hds, List.getD]
    rw [List.getElem?_eq_getElem (by have := Lib.size_eq s; omega)]; simp
  have Hlen := Lib.hid hlen
  have Hne := Lib.hid hne
  have Hget := Lib.hid hget
  clear hlen hne hget hds
  go_enter Tryd.func30, Tryd.ntmps30
  go_wp2
  go_loop [6, 7, 8] (fun vn vb vi => ∃ (j : Nat) (a : Int) (big : Bool), j ≤ s.size ∧ vn = .int .i64 a ∧ vb = .bool big ∧ vi = .int .i64 (j : Nat) ∧ 0 ≤ a ∧ a ≤ 9223372036854775807 ∧ Hid (NumInv 10 digB ds j a big)) (fun _ _ vi => s.size - (intOf vi).toNat)
  case atStart => exact ⟨0, 0, false, by omega, rfl, rfl, rfl, by decide, by decide, numInv_zero _ _ _⟩
  case round =>
    obtain ⟨j, a, big, hj, rfl, rfl, rfl, ha0, ha1, HK⟩ := hrel
    by_cases hlt : j < s.size
    · have hjl : j < ds.length := by have := Hlen.out; omega
      have hsj := Hget.out j hjl hlt
      have hV := fun w => val_any s[j] w
      rw [hsj] at hV
      have hval := val_dec ds[j]
      have Hs := Lib.hid hsj
      clear hsj
      cases hp : digB ds[j] with
      | false =>
        rw [hp] at hval
        have hval : valV ds[j] < 0 ∨ 10 ≤ valV ds[j] := hval
        have HR : Hid (numD 10 digB ds t = .bad 1) := numInv_bad HK.out hjl hp
        clear HK hp
        generalize valV ds[j] = x at *
        rcases hval with hx | hx
        · rw [← Hs.out] at hV
          go_wp2_with (go_at_call 49; refine (hV _).mono ?_; rintro e w' ⟨rfl, rfl⟩)
          go_ret2
          exact ⟨by rw [HR.out]; rfl, rfl⟩
        · have hx0 : ¬ x < 0 := by omega
          rw [← Hs.out] at hV
          go_wp2_with (go_at_call 49; refine (hV _).mono ?_; rintro e w' ⟨rfl, rfl⟩)
          go_ret2
          exact ⟨by rw [HR.out]; rfl, rfl⟩
      | true =>
        rw [hp] at hval
        have hval : valV ds[j] = dv ds[j] ∧ dv ds[j] < 10 := hval
        have hB : (big = true ∨ 9223372036854775807 < a * 10 + dv ds[j]) → Hid (NumInv 10 digB ds (j + 1) a true) := fun h => numInv_big (by decide) HK.out hjl hp h
        have hO : big = false → a * 10 + dv ds[j] ≤ 9223372036854775807 → Hid (NumInv 10 digB ds (j + 1) (a * 10 + dv ds[j]) false) := fun h1 h2 => by subst h1; exact numInv_add HK.out hjl hp h2
        clear HK hp
        rw [hval.1] at hV
        have hd := hval.2
        clear hval
        obtain ⟨x, hx⟩ : ∃ x : Int, x = (dv ds[j] : Int) := ⟨_, rfl⟩
        rw [← hx] at hV hB hO
        rw [← Hs.out] at hV
        clear Hs
        have hx0 : 0 ≤ x := by omega
        have hx1 : x < 10 := by omega
        clear hx hd
        cases big with
        | true =>
          have HN := hB (Or.inl rfl)
          clear hB hO
          go_wp2_with (go_at_call 49; refine (hV _).mono ?_; rintro e w' ⟨rfl, rfl⟩)
          go_round
          case rel => exact ⟨j + 1, a, true, by omega, rfl, rfl, by go_num, ha0, ha1, HN⟩
          case measure => simp [intOf]; omega
        | false =>
          by_cases hov : 9223372036854775807 < a * 10 + x
          · have HN := hB (Or.inr hov)
            have hq : (9223372036854775807 - x) / 10 < a := by omega
            clear hB hO
            go_wp2_with (go_at_call 49; refine (hV _).mono ?_; rintro e w' ⟨rfl, rfl⟩)
            go_round
            case rel => exact ⟨j + 1, a, true, by omega, rfl, rfl, by go_num, ha0, ha1, HN⟩
            case measure => simp [intOf]; omega
          · have HN := hO rfl (by omega)
            have hq : ¬ (9223372036854775807 - x) / 10 < a := by omega
            have hov2 : a * 10 + x ≤ 9223372036854775807 := by omega
            clear hB hO hov
            go_wp2_with (go_at_call 49; refine (hV _).mono ?_; rintro e w' ⟨rfl, rfl⟩)
            go_round
            case rel => exact ⟨j + 1, a * 10 + x, false, by omega, rfl, rfl, by go_num, by omega, hov2, HN⟩
            case measure => simp [intOf]; omega
    · have hjl : ds.length ≤ j := by have := Hlen.out; omega
      cases big with
      | true =>
        have HR : Hid (numD 10 digB ds t = .bad 3) := numInv_end_big HK.out hjl Hne.out
        clear HK
        go_wp2
        go_ret2
        exact ⟨by rw [HR.out]; rfl, rfl⟩
      | false =>
        obtain ⟨v, hv, hR⟩ := numInv_end_ok (t := t) HK.out hjl Hne.out
        have HR := Lib.hid hR
        subst hv
        clear HK hR
        go_wp2
        go_ret2
        exact ⟨by rw [HR.out]; rfl, rfl⟩

set_option maxHeartbeats 4000000 in
set_option maxRecDepth 10000 in
theorem rnum_hex1 (s : ByteArray) (t : List UInt8) (w : World) (hs : s.size ≤ 140737488355328) (h1 : 2 < s.size) (h2 : ((s[0].toNat : Int) == 48) = true) (hx : ((s[1].toNat : Int) == 120) = true) :
    Calls Tryd.prog 30 #[.string s] w fun e w' => e = .returned (.tuple #[.int .i64 (tkN (numD 16 hexB (s.data.toList.drop 2) t)), .int .i64 (tkE (numD 16 hexB (s.data.toList.drop 2) t))]) ∧ w = w' := by
  obtain ⟨ds, hds⟩ : ∃ ds, ds = (s.data.toList.drop 2) := ⟨_, rfl⟩
  rw [← hds]
  have hlen : ds.length + 2 = s.size := by rw [hds, Lib.size_eq]; rw [List.length_drop]; have := Lib.size_eq s; omega
  have hne : ds ≠ [] := fun h => by rw [h] at hlen; simp at hlen; omega
  have hget : ∀ j, (h : j < ds.length) → (h2 : j + 2 < s.size) → s[j + 2] = ds[j] := by
    intro j h h2
    rw [← getD_idx s (j + 2) h2]
    simp only [hds, List.getD]
    rw [List.getElem_drop]; rw [List.getElem?_eq_getElem (by have := Lib.size_eq s; omega)]; simp [Nat.add_comm]
  have Hlen := Lib.hid hlen
  have Hne := Lib.hid hne
  have Hget := Lib.hid hget
  clear hlen hne hget hds
  go_enter Tryd.func30, Tryd.ntmps30
  go_wp2
  go_loop [6, 7, 8] (fun vn vb vi => ∃ (j : Nat) (a : Int) (big : Bool), j + 2 ≤ s.size ∧ vn = .int .i64 a ∧ vb = .bool big ∧ vi = .int .i64 (j + 2 : Nat) ∧ 0 ≤ a ∧ a ≤ 9223372036854775807 ∧ Hid (NumInv 16 hexB ds j a big)) (fun _ _ vi => s.size - (intOf vi).toNat)
  case atStart => exact ⟨0, 0, false, by omega, rfl, rfl, rfl, by decide, by decide, numInv_zero _ _ _⟩
  case round =>
    obtain ⟨j, a, big, hj, rfl, rfl, rfl, ha0, ha1, HK⟩ := hrel
    by_cases hlt : j + 2 < s.size
    · have hjl : j < ds.length := by have := Hlen.out; omega
      have hsj := Hget.out j hjl hlt
      have hV := fun w => val_any s[j + 2] w
      rw [hsj] at hV
      have hval := val_hex ds[j]
      have Hs := Lib.hid hsj
      clear hsj
      cases hp : hexB ds[j] with
      | false =>
        rw [hp] at hval
        have hval : valV ds[j] < 0 ∨ 16 ≤ valV ds[j] := hval
        have HR : Hid (numD 16 hexB ds t = .bad 1) := numInv_bad HK.out hjl hp
        clear HK hp
        generalize valV ds[j] = x at *
        rcases hval with hx | hx
        · rw [← Hs.out] at hV
          go_wp2_with (go_at_call 49; refine (hV _).mono ?_; rintro e w' ⟨rfl, rfl⟩)
          go_ret2
          exact ⟨by rw [HR.out]; rfl, rfl⟩
        · have hx0 : ¬ x < 0 := by omega
          rw [← Hs.out] at hV
          go_wp2_with (go_at_call 49; refine (hV _).mono ?_; rintro e w' ⟨rfl, rfl⟩)
          go_ret2
          exact ⟨by rw [HR.out]; rfl, rfl⟩
      | true =>
        rw [hp] at hval
        have hval : valV ds[j] = dv ds[j] ∧ dv ds[j] < 16 := hval
        have hB : (big = true ∨ 9223372036854775807 < a * 16 + dv ds[j]) → Hid (NumInv 16 hexB ds (j + 1) a true) := fun h => numInv_big (by decide) HK.out hjl hp h
        have hO : big = false → a * 16 + dv ds[j] ≤ 9223372036854775807 → Hid (NumInv 16 hexB ds (j + 1) (a * 16 + dv ds[j]) false) := fun h1 h2 => by subst h1; exact numInv_add HK.out hjl hp h2
        clear HK hp
        rw [hval.1] at hV
        have hd := hval.2
        clear hval
        obtain ⟨x, hx⟩ : ∃ x : Int, x = (dv ds[j] : Int) := ⟨_, rfl⟩
        rw [← hx] at hV hB hO
        rw [← Hs.out] at hV
        clear Hs
        have hx0 : 0 ≤ x := by omega
        have hx1 : x < 16 := by omega
        clear hx hd
        cases big with
        | true =>
          have HN := hB (Or.inl rfl)
          clear hB hO
          go_wp2_with (go_at_call 49; refine (hV _).mono ?_; rintro e w' ⟨rfl, rfl⟩)
          go_round
          case rel => exact ⟨j + 1, a, true, by omega, rfl, rfl, by go_num, ha0, ha1, HN⟩
          case measure => simp [intOf]; omega
        | false =>
          by_cases hov : 9223372036854775807 < a * 16 + x
          · have HN := hB (Or.inr hov)
            have hq : (9223372036854775807 - x) / 16 < a := by omega
            clear hB hO
            go_wp2_with (go_at_call 49; refine (hV _).mono ?_; rintro e w' ⟨rfl, rfl⟩)
            go_round
            case rel => exact ⟨j + 1, a, true, by omega, rfl, rfl, by go_num, ha0, ha1, HN⟩
            case measure => simp [intOf]; omega
          · have HN := hO rfl (by omega)
            have hq : ¬ (9223372036854775807 - x) / 16 < a := by omega
            have hov2 : a * 16 + x ≤ 9223372036854775807 := by omega
            clear hB hO hov
            go_wp2_with (go_at_call 49; refine (hV _).mono ?_; rintro e w' ⟨rfl, rfl⟩)
            go_round
            case rel => exact ⟨j + 1, a * 16 + x, false, by omega, rfl, rfl, by go_num, by omega, hov2, HN⟩
            case measure => simp [intOf]; omega
    · have hjl : ds.length ≤ j := by have := Hlen.out; omega
      cases big with
      | true =>
        have HR : Hid (numD 16 hexB ds t = .bad 3) := numInv_end_big HK.out hjl Hne.out
        clear HK
        go_wp2
        go_ret2
        exact ⟨by rw [HR.out]; rfl, rfl⟩
      | false =>
        obtain ⟨v, hv, hR⟩ := numInv_end_ok (t := t) HK.out hjl Hne.out
        have HR := Lib.hid hR
        subst hv
        clear HK hR
        go_wp2
        go_ret2
        exact ⟨by rw [HR.out]; rfl, rfl⟩

set_option maxHeartbeats 4000000 in
set_option maxRecDepth 10000 in
theorem rnum_hex2 (s : ByteArray) (t : List UInt8) (w : World) (hs : s.size ≤ 140737488355328) (h1 : 2 < s.size) (h2 : ((s[0].toNat : Int) == 48) = true) (hx : ((s[1].toNat : Int) == 120) = false) (hy : ((s[1].toNat : Int) == 88) = true) :
    Calls Tryd.prog 30 #[.string s] w fun e w' => e = .returned (.tuple #[.int .i64 (tkN (numD 16 hexB (s.data.toList.drop 2) t)), .int .i64 (tkE (numD 16 hexB (s.data.toList.drop 2) t))]) ∧ w = w' := by
  obtain ⟨ds, hds⟩ : ∃ ds, ds = (s.data.toList.drop 2) := ⟨_, rfl⟩
  rw [← hds]
  have hlen : ds.length + 2 = s.size := by rw [hds, Lib.size_eq]; rw [List.length_drop]; have := Lib.size_eq s; omega
  have hne : ds ≠ [] := fun h => by rw [h] at hlen; simp at hlen; omega
  have hget : ∀ j, (h : j < ds.length) → (h2 : j + 2 < s.size) → s[j + 2] = ds[j] := by
    intro j h h2
    rw [← getD_idx s (j + 2) h2]
    simp only [hds, List.getD]
    rw [List.getElem_drop]; rw [List.getElem?_eq_getElem (by have := Lib.size_eq s; omega)]; simp [Nat.add_comm]
  have Hlen := Lib.hid hlen
  have Hne := Lib.hid hne
  have Hget := Lib.hid hget
  clear hlen hne hget hds
  go_enter Tryd.func30, Tryd.ntmps30
  go_wp2
  go_loop [6, 7, 8] (fun vn vb vi => ∃ (j : Nat) (a : Int) (big : Bool), j + 2 ≤ s.size ∧ vn = .int .i64 a ∧ vb = .bool big ∧ vi = .int .i64 (j + 2 : Nat) ∧ 0 ≤ a ∧ a ≤ 9223372036854775807 ∧ Hid (NumInv 16 hexB ds j a big)) (fun _ _ vi => s.size - (intOf vi).toNat)
  case atStart => exact ⟨0, 0, false, by omega, rfl, rfl, rfl, by decide, by decide, numInv_zero _ _ _⟩
  case round =>
    obtain ⟨j, a, big, hj, rfl, rfl, rfl, ha0, ha1, HK⟩ := hrel
    by_cases hlt : j + 2 < s.size
    · have hjl : j < ds.length := by have := Hlen.out; omega
      have hsj := Hget.out j hjl hlt
      have hV := fun w => val_any s[j + 2] w
      rw [hsj] at hV
      have hval := val_hex ds[j]
      have Hs := Lib.hid hsj
      clear hsj
      cases hp : hexB ds[j] with
      | false =>
        rw [hp] at hval
        have hval : valV ds[j] < 0 ∨ 16 ≤ valV ds[j] := hval
        have HR : Hid (numD 16 hexB ds t = .bad 1) := numInv_bad HK.out hjl hp
        clear HK hp
        generalize valV ds[j] = x at *
        rcases hval with hx | hx
        · rw [← Hs.out] at hV
          go_wp2_with (go_at_call 49; refine (hV _).mono ?_; rintro e w' ⟨rfl, rfl⟩)
          go_ret2
          exact ⟨by rw [HR.out]; rfl, rfl⟩
        · have hx0 : ¬ x < 0 := by omega
          rw [← Hs.out] at hV
          go_wp2_with (go_at_call 49; refine (hV _).mono ?_; rintro e w' ⟨rfl, rfl⟩)
          go_ret2
          exact ⟨by rw [HR.out]; rfl, rfl⟩
      | true =>
        rw [hp] at hval
        have hval : valV ds[j] = dv ds[j] ∧ dv ds[j] < 16 := hval
        have hB : (big = true ∨ 9223372036854775807 < a * 16 + dv ds[j]) → Hid (NumInv 16 hexB ds (j + 1) a true) := fun h => numInv_big (by decide) HK.out hjl hp h
        have hO : big = false → a * 16 + dv ds[j] ≤ 9223372036854775807 → Hid (NumInv 16 hexB ds (j + 1) (a * 16 + dv ds[j]) false) := fun h1 h2 => by subst h1; exact numInv_add HK.out hjl hp h2
        clear HK hp
        rw [hval.1] at hV
        have hd := hval.2
        clear hval
        obtain ⟨x, hx⟩ : ∃ x : Int, x = (dv ds[j] : Int) := ⟨_, rfl⟩
        rw [← hx] at hV hB hO
        rw [← Hs.out] at hV
        clear Hs
        have hx0 : 0 ≤ x := by omega
        have hx1 : x < 16 := by omega
        clear hx hd
        cases big with
        | true =>
          have HN := hB (Or.inl rfl)
          clear hB hO
          go_wp2_with (go_at_call 49; refine (hV _).mono ?_; rintro e w' ⟨rfl, rfl⟩)
          go_round
          case rel => exact ⟨j + 1, a, true, by omega, rfl, rfl, by go_num, ha0, ha1, HN⟩
          case measure => simp [intOf]; omega
        | false =>
          by_cases hov : 9223372036854775807 < a * 16 + x
          · have HN := hB (Or.inr hov)
            have hq : (9223372036854775807 - x) / 16 < a := by omega
            clear hB hO
            go_wp2_with (go_at_call 49; refine (hV _).mono ?_; rintro e w' ⟨rfl, rfl⟩)
            go_round
            case rel => exact ⟨j + 1, a, true, by omega, rfl, rfl, by go_num, ha0, ha1, HN⟩
            case measure => simp [intOf]; omega
          · have HN := hO rfl (by omega)
            have hq : ¬ (9223372036854775807 - x) / 16 < a := by omega
            have hov2 : a * 16 + x ≤ 9223372036854775807 := by omega
            clear hB hO hov
            go_wp2_with (go_at_call 49; refine (hV _).mono ?_; rintro e w' ⟨rfl, rfl⟩)
            go_round
            case rel => exact ⟨j + 1, a * 16 + x, false, by omega, rfl, rfl, by go_num, by omega, hov2, HN⟩
            case measure => simp [intOf]; omega
    · have hjl : ds.length ≤ j := by have := Hlen.out; omega
      cases big with
      | true =>
        have HR : Hid (numD 16 hexB ds t = .bad 3) := numInv_end_big HK.out hjl Hne.out
        clear HK
        go_wp2
        go_ret2
        exact ⟨by rw [HR.out]; rfl, rfl⟩
      | false =>
        obtain ⟨v, hv, hR⟩ := numInv_end_ok (t := t) HK.out hjl Hne.out
        have HR := Lib.hid hR
        subst hv
        clear HK hR
        go_wp2
        go_ret2
        exact ⟨by rw [HR.out]; rfl, rfl⟩

set_option maxHeartbeats 4000000 in
theorem rnum_no (s : ByteArray) (w : World) (hs : s.size ≤ 140737488355328) (h1 : 1 < s.size) (h2 : ((s[0].toNat : Int) == 48) = true)
    (hx : ¬ 2 < s.size ∨ (((s[1].toNat : Int) == 120) = false ∧ ((s[1].toNat : Int) == 88) = false)) :
    Calls Tryd.prog 30 #[.string s] w fun e w' => e = .returned (.tuple #[.int .i64 0, .int .i64 2]) ∧ w = w' := by
  rcases hx with hx | ⟨hx, hy⟩
  · go_enter Tryd.func30, Tryd.ntmps30
    go_wp2
    go_ret2
    exact ⟨rfl, rfl⟩
  · by_cases h3 : 2 < s.size
    · go_enter Tryd.func30, Tryd.ntmps30
      go_wp2
      go_ret2
      exact ⟨rfl, rfl⟩
    · go_enter Tryd.func30, Tryd.ntmps30
      go_wp2
      go_ret2
      exact ⟨rfl, rfl⟩

end Go.Proofs.YtaipdmaiffjeeaaDoor
