/-
  Contracts of comment and gap, and the plain relation that tells what the words of a text are.
-/
import Derived.Test.YtaipdmaiffjeeaaDoorF
import Derived.Lib.IndexMore
namespace Go.Proofs.YtaipdmaiffjeeaaDoor
open Go.RowKit

def cmtT (l : List UInt8) : Int × Bool :=
  if Lib.hasPrefix l [47, 47] = true then (preN nlB l, false)
  else if Lib.hasPrefix l [47, 42] = false then (0, false)
  else if Lib.index (l.drop 2) [42, 47] < 0 then (0, true)
  else (Lib.index (l.drop 2) [42, 47] + 4, false)
inductive Skp where
  | skip (n : Nat)
  | opens
  | word
def skp : List UInt8 → Skp
  | [] => .word
  | c :: l => if blankB c = true then .skip 1 else if (cmtT (c :: l)).2 = true then .opens else if (cmtT (c :: l)).1 = 0 then .word else .skip (cmtT (c :: l)).1.toNat
structure T4 where
  k : Nat
  t : List UInt8
  v : Nat
  a : Nat
inductive SR where
  | ok (l : List T4)
  | bad (code at' : Nat)
inductive Scans : Nat → List UInt8 → List T4 → SR → Prop
  | done (p : Nat) (acc : List T4) : Scans p [] acc (.ok acc)
  | skip {p : Nat} {l : List UInt8} {acc : List T4} {r : SR} {n : Nat} (h : skp l = .skip n) (k : Scans (p + n) (l.drop n) acc r) : Scans p l acc r
  | opens {p : Nat} {l : List UInt8} {acc : List T4} (h : skp l = .opens) : Scans p l acc (.bad 1 p)
  | much {p : Nat} {l : List UInt8} {acc : List T4} (h : skp l = .word) (hn : l ≠ []) (hm : acc.length = 800) : Scans p l acc (.bad 10 p)
  | bad {p : Nat} {l : List UInt8} {acc : List T4} {c : Nat} (h : skp l = .word) (hn : l ≠ []) (hm : acc.length ≠ 800) (hf : fstT l = .bad c) : Scans p l acc (.bad c p)
  | tok {p : Nat} {l : List UInt8} {acc : List T4} {r : SR} {k n v : Nat} (h : skp l = .word) (hn : l ≠ []) (hm : acc.length ≠ 800) (hf : fstT l = .tok k n v)
      (k' : Scans (p + n) (l.drop n) (acc ++ [⟨k, l.take n, v, p⟩]) r) : Scans p l acc r
theorem skp_nil : skp [] = .word := rfl
theorem Scans.det {p : Nat} {l : List UInt8} {acc : List T4} {r r' : SR} (h : Scans p l acc r) (h' : Scans p l acc r') : r = r' := by
  induction h generalizing r' with
  | done p acc =>
    cases h' with
    | done => rfl
    | skip h => simp [skp_nil] at h
    | opens h => simp [skp_nil] at h
    | much h hn => exact absurd rfl hn
    | bad h hn => exact absurd rfl hn
    | tok h hn => exact absurd rfl hn
  | skip h k ih =>
    cases h' with
    | done => simp [skp_nil] at h
    | skip h2 k2 => rw [h] at h2; cases h2; exact ih k2
    | opens h2 => rw [h] at h2; cases h2
    | much h2 => rw [h] at h2; cases h2
    | bad h2 => rw [h] at h2; cases h2
    | tok h2 => rw [h] at h2; cases h2
  | opens h =>
    cases h' with
    | done => simp [skp_nil] at h
    | skip h2 k2 => rw [h] at h2; cases h2
    | opens h2 => rfl
    | much h2 => rw [h] at h2; cases h2
    | bad h2 => rw [h] at h2; cases h2
    | tok h2 => rw [h] at h2; cases h2
  | much h hn hm =>
    cases h' with
    | done => exact absurd rfl hn
    | skip h2 k2 => rw [h] at h2; cases h2
    | opens h2 => rw [h] at h2; cases h2
    | much => rfl
    | bad _ _ hm2 => exact absurd hm hm2
    | tok _ _ hm2 => exact absurd hm hm2
  | bad h hn hm hf =>
    cases h' with
    | done => exact absurd rfl hn
    | skip h2 k2 => rw [h] at h2; cases h2
    | opens h2 => rw [h] at h2; cases h2
    | much _ _ hm2 => exact absurd hm2 hm
    | bad _ _ _ hf2 => rw [hf] at hf2; cases hf2; rfl
    | tok _ _ _ hf2 => rw [hf] at hf2; cases hf2
  | tok h hn hm hf k' ih =>
    cases h' with
    | done => exact absurd rfl hn
    | skip h2 k2 => rw [h] at h2; cases h2
    | opens h2 => rw [h] at h2; cases h2
    | much _ _ hm2 => exact absurd hm2 hm
    | bad _ _ _ hf2 => rw [hf] at hf2; cases hf2
    | tok _ _ _ hf2 k2 => rw [hf] at hf2; cases hf2; exact ih k2

theorem cmtT_bd (l : List UInt8) : 0 ≤ (cmtT l).1 ∧ (cmtT l).1 ≤ l.length ∧ ((cmtT l).2 = true → (cmtT l).1 = 0) := by
  unfold cmtT
  split
  · exact ⟨by simp, by have := preN_le nlB l; simp; omega, by simp⟩
  · split
    · simp
    · split
      · simp
      · rename_i h1 h2 h3
        have := Lib.index_room (l.drop 2) [42, 47] (by omega)
        simp at this
        have h42 : 2 ≤ l.length := by
          simp [Lib.hasPrefix] at h2
          have := h2.length_le
          simpa using this
        exact ⟨by simp; omega, by simp; omega, by simp⟩

set_option maxHeartbeats 4000000 in
theorem cmt_any (s : ByteArray) (w : World) (hs : s.size < 4294967281) (hsh : w.ShapedOpen Tryd.prog) :
    Calls Tryd.prog 40 #[.string s] w fun e w' => e = .returned (.tuple #[.int .i64 (cmtT s.data.toList).1, .bool (cmtT s.data.toList).2]) ∧ w = w' := by
  obtain ⟨r, hr⟩ : ∃ r, r = cmtT s.data.toList := ⟨_, rfl⟩
  rw [← hr]
  unfold cmtT at hr
  have hp1 := fun w => Tryd.strings_HasPrefix s ⟨#[47, 47]⟩ w
  have hp2 := fun w => Tryd.strings_HasPrefix s ⟨#[47, 42]⟩ w
  have hi := fun w h h2 => Tryd.strings_Index_shaped (s.extract 2 s.size) ⟨#[42, 47]⟩ w h h2
  have e1 : (⟨#[47, 47]⟩ : ByteArray).data.toList = [47, 47] := rfl
  have e2 : (⟨#[47, 42]⟩ : ByteArray).data.toList = [47, 42] := rfl
  have e3 : (⟨#[42, 47]⟩ : ByteArray).data.toList = [42, 47] := rfl
  rw [e1] at hp1
  rw [e2] at hp2
  rw [e3] at hi
  clear e1 e2 e3
  cases h1 : Lib.hasPrefix s.data.toList [47, 47] with
  | true =>
    rw [if_pos h1] at hr
    rw [h1] at hp1
    have hN := fun w => pre_nl s w (by unfold maxLen; omega)
    have HR := Lib.hid hr
    clear hr h1 hp2 hi
    generalize preN nlB s.data.toList = n at *
    go_enter Tryd.func40, Tryd.ntmps40
    go_wp2_with (first | (go_at_call 53; refine (hp1 _).mono ?_; rintro e w' ⟨rfl, rfl⟩) | (go_at_call 43; refine (hN _).mono ?_; rintro e w' ⟨rfl, rfl⟩))
    go_ret2
    exact ⟨by rw [HR.out]; rfl, rfl⟩
  | false =>
    rw [if_neg (by simp [h1])] at hr
    rw [h1] at hp1
    cases h2 : Lib.hasPrefix s.data.toList [47, 42] with
    | false =>
      rw [if_pos h2] at hr
      rw [h2] at hp2
      have HR := Lib.hid hr
      clear hr h1 h2 hi
      go_enter Tryd.func40, Tryd.ntmps40
      go_wp2_with (first | (go_at_call 53; first | ((with_reducible refine (hp1 _).mono ?_); rintro e w' ⟨rfl, rfl⟩) | ((with_reducible refine (hp2 _).mono ?_); rintro e w' ⟨rfl, rfl⟩)))
      go_ret2
      exact ⟨by rw [HR.out]; rfl, rfl⟩
    | true =>
      rw [if_neg (by simp [h2])] at hr
      rw [h2] at hp2
      have hd : (s.extract 2 s.size).data.toList = s.data.toList.drop 2 := by
        rw [Lib.extract_data, List.take_of_length_le (by rw [List.length_drop, Lib.size_eq]; omega)]
      have hds : (s.extract 2 s.size).size < 4294967281 := by rw [Lib.size_eq, hd, List.length_drop, ← Lib.size_eq]; omega
      have h2s : 2 ≤ s.size := by
        simp [Lib.hasPrefix] at h2
        have := h2.length_le
        rw [Lib.size_eq]; simpa using this
      have hx1 := Lib.index_ge (s.data.toList.drop 2) [42, 47]
      have hx2 : Lib.index (s.data.toList.drop 2) [42, 47] ≤ s.size := by
        by_cases h : 0 ≤ Lib.index (s.data.toList.drop 2) [42, 47]
        · have := Lib.index_room (s.data.toList.drop 2) [42, 47] h
          rw [List.length_drop, ← Lib.size_eq] at this; omega
        · omega
      rw [hd] at hi
      clear h1 h2 hd
      generalize Lib.index (s.data.toList.drop 2) [42, 47] = x at *
      by_cases hx : x < 0
      · rw [if_pos hx] at hr
        have HR := Lib.hid hr
        clear hr
        go_enter Tryd.func40, Tryd.ntmps40
        go_wp2_with (first | (go_at_call 53; first | ((with_reducible refine (hp1 _).mono ?_); rintro e w' ⟨rfl, rfl⟩) | ((with_reducible refine (hp2 _).mono ?_); rintro e w' ⟨rfl, rfl⟩)) | (go_at_call 55; refine (hi _ hsh hds).mono ?_; rintro e w' ⟨rfl, rfl⟩))
        go_ret2
        exact ⟨by rw [HR.out]; rfl, rfl⟩
      · rw [if_neg hx] at hr
        have HR := Lib.hid hr
        clear hr
        go_enter Tryd.func40, Tryd.ntmps40
        go_wp2_with (first | (go_at_call 53; first | ((with_reducible refine (hp1 _).mono ?_); rintro e w' ⟨rfl, rfl⟩) | ((with_reducible refine (hp2 _).mono ?_); rintro e w' ⟨rfl, rfl⟩)) | (go_at_call 55; refine (hi _ hsh hds).mono ?_; rintro e w' ⟨rfl, rfl⟩))
        go_ret2
        exact ⟨by rw [HR.out]; rfl, rfl⟩

end Go.Proofs.YtaipdmaiffjeeaaDoor
