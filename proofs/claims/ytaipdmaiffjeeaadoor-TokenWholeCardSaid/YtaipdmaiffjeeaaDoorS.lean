/-
  Contracts of the document's answer: number and quoted.
-/
import Derived.Test.YtaipdmaiffjeeaaDoorF
namespace Go.Proofs.YtaipdmaiffjeeaaDoor
open Go.RowKit

theorem valV_some {c : UInt8} (h : hexB c = true) : valV c = dv c := by
  have : ∀ n : Fin 256, hexB (UInt8.ofNat n.val) = true → valV (UInt8.ofNat n.val) = dv (UInt8.ofNat n.val) := by decide +kernel
  have h2 := this ⟨c.toNat, c.toNat_lt⟩
  simpa using h2 (by simpa using h)
theorem valV_none {c : UInt8} (h : hexB c = false) : valV c = -1 := by
  have : ∀ n : Fin 256, hexB (UInt8.ofNat n.val) = false → valV (UInt8.ofNat n.val) = -1 := by decide +kernel
  have h2 := this ⟨c.toNat, c.toNat_lt⟩
  simpa using h2 (by simpa using h)
theorem dv_hex {c : UInt8} (h : hexB c = true) : dv c < 16 := by
  have : ∀ n : Fin 256, hexB (UInt8.ofNat n.val) = true → dv (UInt8.ofNat n.val) < 16 := by decide +kernel
  have h2 := this ⟨c.toNat, c.toNat_lt⟩
  simpa using h2 (by simpa using h)
theorem val_dec (c : UInt8) : if digB c = true then valV c = dv c ∧ dv c < 10 else (valV c < 0 ∨ 10 ≤ valV c) := by
  have : ∀ n : Fin 256, if digB (UInt8.ofNat n.val) = true then valV (UInt8.ofNat n.val) = dv (UInt8.ofNat n.val) ∧ dv (UInt8.ofNat n.val) < 10 else (valV (UInt8.ofNat n.val) < 0 ∨ 10 ≤ valV (UInt8.ofNat n.val)) := by decide +kernel
  have h2 := this ⟨c.toNat, c.toNat_lt⟩
  simpa using h2
theorem val_hex (c : UInt8) : if hexB c = true then valV c = dv c ∧ dv c < 16 else (valV c < 0 ∨ 16 ≤ valV c) := by
  cases h : hexB c with
  | true => exact ⟨valV_some h, dv_hex h⟩
  | false => exact Or.inl (by rw [valV_none h]; decide)

def tkN : Tk → Int | .bad _ => 0 | .tok _ _ v => v
def tkL : Tk → Int | .bad _ => 0 | .tok _ n _ => n
def tkE : Tk → Int | .bad c => if c = 1 then 2 else c | .tok _ _ _ => 0

/-- the state of the loop over the digits: how far, the number so far, whether it is too large -/
def NumInv (b : Nat) (p : UInt8 → Bool) (ds : List UInt8) (j : Nat) (a : Int) (big : Bool) : Prop :=
  preN p ds = j + preN p (ds.drop j) ∧ 0 ≤ a ∧ a ≤ 9223372036854775807 ∧ (big = false → ∃ acc : Nat, a = acc ∧ numN b 0 ds = numN b acc (ds.drop j)) ∧ (big = true → 9223372036854775808 ≤ numN b 0 ds)
theorem numInv_zero (b : Nat) (p : UInt8 → Bool) (ds : List UInt8) : NumInv b p ds 0 0 false := ⟨by simp, by decide, by decide, fun _ => ⟨0, rfl, by simp⟩, by simp⟩
theorem numInv_bad {b : Nat} {p : UInt8 → Bool} {ds t : List UInt8} {j : Nat} {a : Int} {big : Bool} (h : NumInv b p ds j a big) (hj : j < ds.length) (hp : p ds[j] = false) : numD b p ds t = .bad 1 := by
  unfold numD; rw [if_pos (Or.inr ?_)]
  have := h.1
  rw [preN_drop_false hj hp] at this; omega
theorem numInv_big {b : Nat} (hb : 1 ≤ b) {p : UInt8 → Bool} {ds : List UInt8} {j : Nat} {a : Int} {big : Bool} (h : NumInv b p ds j a big) (hj : j < ds.length) (hp : p ds[j] = true) (hbig : big = true ∨ 9223372036854775807 < a * b + dv ds[j]) : NumInv b p ds (j + 1) a true := by
  obtain ⟨h1, h2, h3, h4, h5⟩ := h
  refine ⟨by have := preN_drop_true hj hp; omega, h2, h3, by simp, fun _ => ?_⟩
  cases big with
  | true => exact h5 rfl
  | false =>
    obtain ⟨acc, rfl, e⟩ := h4 rfl
    rw [e, List.drop_eq_getElem_cons hj]
    have := numN_ge b hb (acc * b + dv ds[j]) (ds.drop (j + 1))
    rcases hbig with h | h
    · cases h
    · show _ ≤ numN b (acc * b + dv ds[j]) _
      have e2 : ((acc : Int) * b + dv ds[j]) = ((acc * b + dv ds[j] : Nat) : Int) := by simp
      omega
theorem numInv_add {b : Nat} {p : UInt8 → Bool} {ds : List UInt8} {j : Nat} {a : Int} (h : NumInv b p ds j a false) (hj : j < ds.length) (hp : p ds[j] = true) (hs : a * b + dv ds[j] ≤ 9223372036854775807) : NumInv b p ds (j + 1) (a * b + dv ds[j]) false := by
  obtain ⟨h1, h2, h3, h4, h5⟩ := h
  refine ⟨by have := preN_drop_true hj hp; omega, ?_, hs, fun _ => ?_, by simp⟩
  · have : 0 ≤ a * b := Int.mul_nonneg h2 (by simp)
    omega
  · obtain ⟨acc, rfl, e⟩ := h4 rfl
    exact ⟨acc * b + dv ds[j], by simp, by rw [e, List.drop_eq_getElem_cons hj]; rfl⟩
theorem numInv_end_big {b : Nat} {p : UInt8 → Bool} {ds t : List UInt8} {j : Nat} {a : Int} (h : NumInv b p ds j a true) (hj : ds.length ≤ j) (hne : ds ≠ []) : numD b p ds t = .bad 3 := by
  obtain ⟨h1, h2, h3, h4, h5⟩ := h
  unfold numD
  rw [if_neg, if_neg (by have := h5 rfl; omega)]
  rintro (h | h)
  · exact hne h
  · rw [List.drop_eq_nil_of_le hj] at h1; simp [preN] at h1 h; omega
theorem numInv_end_ok {b : Nat} {p : UInt8 → Bool} {ds t : List UInt8} {j : Nat} {a : Int} (h : NumInv b p ds j a false) (hj : ds.length ≤ j) (hne : ds ≠ []) : ∃ v : Nat, a = v ∧ numD b p ds t = .tok 2 t.length v := by
  obtain ⟨h1, h2, h3, h4, h5⟩ := h
  obtain ⟨acc, rfl, e⟩ := h4 rfl
  rw [List.drop_eq_nil_of_le hj] at e h1
  refine ⟨acc, rfl, ?_⟩
  have e2 : numN b 0 ds = acc := e
  unfold numD
  rw [if_neg, if_pos (by omega), e2]
  rintro (h | h)
  · exact hne h
  · simp [preN] at h1 h; omega
end Go.Proofs.YtaipdmaiffjeeaaDoor
