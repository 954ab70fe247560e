/-
  Contracts of the predicates on texts of package tree: names and signs.
-/
import Derived.Test.YtmghjfphlneblaaTrA
namespace Go.Proofs.Ytmghjfphlneblaa.Tr
open Go.RowKit

def digB (c : UInt8) : Bool := decide (48 ≤ c.toNat ∧ c.toNat ≤ 57)
def letB (c : UInt8) : Bool := decide ((97 ≤ c.toNat ∧ c.toNat ≤ 122) ∨ (65 ≤ c.toNat ∧ c.toNat ≤ 90))
def byteB (c : UInt8) : Bool := decide ((48 ≤ c.toNat ∧ c.toNat ≤ 57) ∨ (97 ≤ c.toNat ∧ c.toNat ≤ 122) ∨ (65 ≤ c.toNat ∧ c.toNat ≤ 90) ∨ c.toNat = 95)
def rletB (c : UInt8) : Bool := decide ((97 ≤ c.toNat ∧ c.toNat ≤ 122) ∨ (65 ≤ c.toNat ∧ c.toNat ≤ 90) ∨ c.toNat = 95)
def nameB (s : ByteArray) : Bool := decide (∃ h : 0 < s.size, s.size ≤ 12 ∧ digB s[0] = false ∧ ∀ j, (hj : j < s.size) → byteB s[j] = true)
def oneS : List (List UInt8) := [[45], [33], [126], [42], [38]]
def twoA : List (List UInt8) := [[43], [45], [42], [47], [37], [38], [124], [94], [60, 60], [62, 62]]
def twoC : List (List UInt8) := [[61, 61], [33, 61], [60], [60, 61], [62], [62, 61]]
def bothS : List (List UInt8) := [[38, 38], [124, 124]]
def setS : List (List UInt8) := [[61], [43, 61], [45, 61], [42, 61], [47, 61], [37, 61], [38, 61], [124, 61], [94, 61], [60, 60, 61], [62, 62, 61]]
def stepS : List (List UInt8) := [[43, 43], [45, 45]]
def oneB (s : ByteArray) : Bool := decide (s.toList ∈ oneS)
def twoB (s : ByteArray) : Bool := decide (s.toList ∈ twoA ++ twoC)
def bothB (s : ByteArray) : Bool := decide (s.toList ∈ bothS)
def setB (s : ByteArray) : Bool := decide (s.toList ∈ setS)
def stepB (s : ByteArray) : Bool := decide (s.toList ∈ stepS)
def signB (k : Int) (s : ByteArray) : Bool := if k = 35 then oneB s else if k = 36 then twoB s else if k = 37 then bothB s else if k = 39 then setB s else if k = 40 then stepB s else s.toList.isEmpty

set_option maxHeartbeats 400000 in
theorem dig_any (c : UInt8) (w : World) :
    Calls Try.prog 57 #[.int .u8 c.toNat] w fun e w' => e = .returned (.bool (digB c)) ∧ w = w' := by
  have hc : c.toNat < 256 := c.toNat_lt
  go_enter Try.func57, Try.ntmps57
  go_wp2
  all_goals go_ret
  all_goals exact ⟨ret_bool (by go_light; rw [Bool.eq_iff_iff]; simp [digB] at *; try omega), rfl⟩

set_option maxHeartbeats 400000 in
theorem let_any (c : UInt8) (w : World) :
    Calls Try.prog 58 #[.int .u8 c.toNat] w fun e w' => e = .returned (.bool (letB c)) ∧ w = w' := by
  have hc : c.toNat < 256 := c.toNat_lt
  go_enter Try.func58, Try.ntmps58
  go_wp2
  all_goals go_ret
  all_goals exact ⟨ret_bool (by go_light; rw [Bool.eq_iff_iff]; simp [letB] at *; try omega), rfl⟩

set_option maxHeartbeats 400000 in
theorem one_any (s : ByteArray) (w : World) :
    Calls Try.prog 59 #[.string s] w fun e w' => e = .returned (.bool (oneB s)) ∧ w = w' := by
  go_enter Try.func59, Try.ntmps59
  go_wp2
  all_goals go_ret
  all_goals exact ⟨ret_bool (by go_light; simp_all [oneB, oneS]), rfl⟩

set_option maxHeartbeats 400000 in
theorem two_any (s : ByteArray) (w : World) :
    Calls Try.prog 60 #[.string s] w fun e w' => e = .returned (.bool (twoB s)) ∧ w = w' := by
  go_enter Try.func60, Try.ntmps60
  go_wp2
  all_goals go_ret
  all_goals exact ⟨ret_bool (by go_light; simp_all [twoB, twoA, twoC]), rfl⟩

set_option maxHeartbeats 400000 in
theorem set_any (s : ByteArray) (w : World) :
    Calls Try.prog 61 #[.string s] w fun e w' => e = .returned (.bool (setB s)) ∧ w = w' := by
  go_enter Try.func61, Try.ntmps61
  go_wp2
  all_goals go_ret
  all_goals exact ⟨ret_bool (by go_light; simp_all [setB, setS]), rfl⟩

set_option maxHeartbeats 800000 in
theorem sign_any (k : Int) (s : ByteArray) (w : World) :
    Calls Try.prog 55 #[.int .i64 k, .string s] w fun e w' => e = .returned (.bool (signB k s)) ∧ w = w' := by
  go_enter Try.func55, Try.ntmps55
  go_wp2_with (first | (go_at_call 59; refine (one_any _ _).mono ?_; rintro e w' ⟨rfl, rfl⟩) | (go_at_call 60; refine (two_any _ _).mono ?_; rintro e w' ⟨rfl, rfl⟩) | (go_at_call 61; refine (set_any _ _).mono ?_; rintro e w' ⟨rfl, rfl⟩))
  all_goals go_ret
  all_goals exact ⟨ret_bool (by go_light; rw [Bool.eq_iff_iff]; simp_all [signB, bothB, bothS, stepB, stepS]), rfl⟩
end Go.Proofs.Ytmghjfphlneblaa.Tr
