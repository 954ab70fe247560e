/-
  Contract of gap: the blanks and comments with which a text begins.
-/
import Derived.Test.YtaipdmaiffjeeaaDoorG
namespace Go.Proofs.YtaipdmaiffjeeaaDoor
open Go.RowKit

/-- n bytes are left out; behind them a comment opens that does not close, or a word begins, or the text is at its end -/
def Gap (l : List UInt8) (n : Nat) (o : Bool) : Prop :=
  n ≤ l.length ∧ (∀ p acc r, Scans (p + n) (l.drop n) acc r → Scans p l acc r) ∧ (o = true → skp (l.drop n) = .opens) ∧ (o = false → l.drop n = [] ∨ skp (l.drop n) = .word)
def GapR (l : List UInt8) (n : Nat) : Prop := n ≤ l.length ∧ (∀ p acc r, Scans (p + n) (l.drop n) acc r → Scans p l acc r)
theorem gapR_zero (l : List UInt8) : GapR l 0 := ⟨Nat.zero_le _, fun _ _ _ h => h⟩
theorem gapR_skip {l : List UInt8} {n m : Nat} (h : GapR l n) (hs : skp (l.drop n) = .skip m) (hm : n + m ≤ l.length) : GapR l (n + m) :=
  ⟨hm, fun p acc r hr => h.2 p acc r (.skip hs (by rw [List.drop_drop]; rw [Nat.add_assoc]; exact hr))⟩
theorem skp_blank {c : UInt8} {l : List UInt8} (h : blankB c = true) : skp (c :: l) = .skip 1 := if_pos h
theorem skp_open {c : UInt8} {l : List UInt8} (h : blankB c = false) (h2 : (cmtT (c :: l)).2 = true) : skp (c :: l) = .opens := by
  simp only [skp]; rw [if_neg (by simp [h]), if_pos h2]
theorem skp_word {c : UInt8} {l : List UInt8} (h : blankB c = false) (h2 : (cmtT (c :: l)).2 = false) (h3 : (cmtT (c :: l)).1 = 0) : skp (c :: l) = .word := by
  simp only [skp]; rw [if_neg (by simp [h]), if_neg (by simp [h2]), if_pos h3]
theorem skp_more {c : UInt8} {l : List UInt8} (h : blankB c = false) (h2 : (cmtT (c :: l)).2 = false) (h3 : (cmtT (c :: l)).1 ≠ 0) : skp (c :: l) = .skip (cmtT (c :: l)).1.toNat := by
  simp only [skp]; rw [if_neg (by simp [h]), if_neg (by simp [h2]), if_neg h3]
theorem extE_data (s : ByteArray) (k : Nat) : (s.extract k s.size).data.toList = s.data.toList.drop k := by
  rw [Lib.extract_data, List.take_of_length_le (by rw [List.length_drop, Lib.size_eq]; omega)]
theorem extE_size (s : ByteArray) (k : Nat) : (s.extract k s.size).size = s.size - k := by
  rw [Lib.size_eq, extE_data, List.length_drop, ← Lib.size_eq]
def GapPost (s : ByteArray) (w : World) (e : Ending) (w' : World) : Prop :=
  ∃ n o, e = .returned (.tuple #[.int .i64 (n : Nat), .bool o]) ∧ Gap s.data.toList n o ∧ w = w'

set_option maxHeartbeats 4000000 in
theorem gap_any (s : ByteArray) (w : World) (hs : s.size < 4294967281) (hsh : w.ShapedOpen Tryd.prog) :
    Calls Tryd.prog 24 #[.string s] w (GapPost s w) := by
  have hsz := Lib.hid (Lib.size_eq s)
  go_enter Tryd.func24, Tryd.ntmps24
  go_wp2
  go_loop [2, 3] (fun v o => ∃ k : Nat, k ≤ s.size ∧ v = .int .i64 k ∧ o = .bool false ∧ Hid (GapR s.data.toList k)) (fun v _ => s.size - (intOf v).toNat)
  case atStart => exact ⟨0, Nat.zero_le _, rfl, rfl, gapR_zero _⟩
  case round =>
    obtain ⟨k, hk, rfl, rfl, HK⟩ := hrel
    by_cases hlt : k < s.size
    · have hl : k < s.data.toList.length := by have := hsz.out; omega
      have hdrop : s.data.toList.drop k = s[k] :: s.data.toList.drop (k + 1) := List.drop_eq_getElem_cons hl
      have hB := fun w => blank_any s[k] w
      cases hb : blankB s[k] with
      | true =>
        have HN : Hid (GapR s.data.toList (k + 1)) := gapR_skip HK.out (by rw [hdrop]; exact skp_blank hb) (by omega)
        rw [hb] at hB
        clear HK hb hdrop
        go_wp2_with (go_at_call 39; refine (hB _).mono ?_; rintro e w' ⟨rfl, rfl⟩)
        go_round
        case rel => exact ⟨k + 1, by omega, by go_num, rfl, HN⟩
        case measure => simp [intOf]; omega
      | false =>
        rw [hb] at hB
        have hC := fun w h => cmt_any (s.extract k s.size) w (by rw [extE_size]; omega) h
        rw [extE_data] at hC
        obtain ⟨b0, b1, b2⟩ := cmtT_bd (s.data.toList.drop k)
        rw [List.length_drop] at b1
        have ho := fun h2 => (congrArg skp hdrop).trans (skp_open hb (l := s.data.toList.drop (k + 1)) h2)
        have hw := fun h2 h3 => (congrArg skp hdrop).trans (skp_word hb (l := s.data.toList.drop (k + 1)) h2 h3)
        have hm := fun h2 h3 => (congrArg skp hdrop).trans (skp_more hb (l := s.data.toList.drop (k + 1)) h2 h3)
        rw [← hdrop] at ho hw hm
        clear hb hdrop
        generalize cmtT (s.data.toList.drop k) = q at *
        obtain ⟨x, o⟩ := q
        simp only at b0 b1 b2 ho hw hm hC
        have hxs : x ≤ s.size := by have := hsz.out; omega
        cases o with
        | true =>
          have hx0 := b2 rfl
          have HG : Hid (Gap s.data.toList k true) := ⟨HK.out.1, HK.out.2, fun _ => ho rfl, (fun h => by cases h)⟩
          subst hx0
          clear HK ho hw hm b1 b2
          go_wp2_with (first | (go_at_call 39; refine (hB _).mono ?_; rintro e w' ⟨rfl, rfl⟩) | (go_at_call 40; refine (hC _ hsh).mono ?_; rintro e w' ⟨rfl, rfl⟩))
          go_ret2
          exact ⟨k, true, rfl, HG.out, rfl⟩
        | false =>
          by_cases hx0 : x = 0
          · have HG : Hid (Gap s.data.toList k false) := ⟨HK.out.1, HK.out.2, (fun h => by cases h), fun _ => Or.inr (hw rfl hx0)⟩
            subst hx0
            clear HK ho hw hm b1 b2
            go_wp2_with (first | (go_at_call 39; refine (hB _).mono ?_; rintro e w' ⟨rfl, rfl⟩) | (go_at_call 40; refine (hC _ hsh).mono ?_; rintro e w' ⟨rfl, rfl⟩))
            go_ret2
            exact ⟨k, false, rfl, HG.out, rfl⟩
          · obtain ⟨m, rfl⟩ : ∃ m : Nat, x = m := ⟨x.toNat, by omega⟩
            have hmk : k + m ≤ s.size := by have := hsz.out; omega
            have HN : Hid (GapR s.data.toList (k + m)) := gapR_skip HK.out (by have := hm rfl hx0; simpa using this) (by omega)
            have hm1 : 1 ≤ m := by omega
            have hx1 : ((m : Int) == 0) = false := beq_of_ne hx0
            clear HK ho hw hm b1 b2 hx0
            go_wp2_with (first | (go_at_call 39; refine (hB _).mono ?_; rintro e w' ⟨rfl, rfl⟩) | (go_at_call 40; refine (hC _ hsh).mono ?_; rintro e w' ⟨rfl, rfl⟩))
            go_round
            case rel => exact ⟨k + m, by omega, by go_num, rfl, HN⟩
            case measure => simp [intOf]; omega
    · have HG : Hid (Gap s.data.toList k false) := ⟨HK.out.1, HK.out.2, (fun h => by cases h), fun _ => Or.inl (List.drop_eq_nil_of_le (by have := hsz.out; omega))⟩
      clear HK
      go_wp2
      go_ret2
      exact ⟨k, false, rfl, HG.out, rfl⟩
end Go.Proofs.YtaipdmaiffjeeaaDoor
