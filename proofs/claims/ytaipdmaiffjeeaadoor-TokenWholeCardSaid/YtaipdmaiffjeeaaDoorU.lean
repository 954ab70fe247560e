/-
  Contracts of the document's answer: number, whatever the text, and quoted.
-/
import Derived.Test.YtaipdmaiffjeeaaDoorT
import Derived.Test.YtaipdmaiffjeeaaDoorI
namespace Go.Proofs.YtaipdmaiffjeeaaDoor
open Go.RowKit

theorem rnum_any (s : ByteArray) (w : World) (hs : s.size ≤ 140737488355328) (h0 : s.size ≠ 0) :
    Calls Tryd.prog 30 #[.string s] w fun e w' => e = .returned (.tuple #[.int .i64 (tkN (numT s.data.toList)), .int .i64 (tkE (numT s.data.toList))]) ∧ w = w' := by
  have hsz := Lib.size_eq s
  by_cases h1 : 1 < s.size
  · have g0 := getD_idx s 0 (by omega)
    have g1 := getD_idx s 1 h1
    by_cases h2 : s[0] = 48
    · have hp : 1 < s.data.toList.length ∧ s.data.toList.getD 0 0 = 48 := ⟨by omega, by rw [g0, h2]⟩
      have e0 : ((s[0].toNat : Int) == 48) = true := beq_of (by rw [h2]; rfl)
      by_cases hx : s[1] = 120 ∨ s[1] = 88
      · have hT : numT s.data.toList = numD 16 hexB (s.data.toList.drop 2) s.data.toList := by
          unfold numT; rw [if_pos hp, if_neg (by rw [g1]; rcases hx with hx | hx <;> rw [hx] <;> decide)]
        by_cases h3 : 2 < s.size
        · rw [hT]
          by_cases hx' : s[1] = 120
          · exact rnum_hex1 s _ w hs h3 e0 (beq_of (by rw [hx']; rfl))
          · have hy := hx.resolve_left hx'
            exact rnum_hex2 s _ w hs h3 e0 (u8_ne hx') (beq_of (by rw [hy]; rfl))
        · have hB : numT s.data.toList = .bad 1 := by
            rw [hT]; unfold numD; rw [if_pos (Or.inl (List.drop_eq_nil_of_le (by omega)))]
          rw [hB]
          exact rnum_no s w hs h1 e0 (Or.inl h3)
      · have hB : numT s.data.toList = .bad 1 := by
          unfold numT; rw [if_pos hp, if_pos (by rw [g1]; exact ⟨fun h => hx (Or.inl h), fun h => hx (Or.inr h)⟩)]
        rw [hB]
        exact rnum_no s w hs h1 e0 (Or.inr ⟨u8_ne fun h => hx (Or.inl h), u8_ne fun h => hx (Or.inr h)⟩)
    · have hT : numT s.data.toList = numD 10 digB s.data.toList s.data.toList := by
        unfold numT; rw [if_neg (by rw [g0]; exact fun h => h2 h.2)]
      rw [hT]
      have e0 : ((s[0].toNat : Int) == 48) = false := u8_ne h2
      by_cases h3 : 2 < s.size
      · exact rnum_dec2a s _ w hs h1 h3 e0
      · exact rnum_dec2b s _ w hs h1 h3 e0
  · have hT : numT s.data.toList = numD 10 digB s.data.toList s.data.toList := by
      unfold numT; rw [if_neg (by omega)]
    rw [hT]
    exact rnum_dec1 s _ w hs h0 h1

theorem escV_cases (c : UInt8) : (c = 110 ∧ escV c = 10) ∨ (c = 48 ∧ escV c = 0) ∨ (c = 92 ∧ escV c = 92) ∨ (c = 39 ∧ escV c = 39) ∨ (c ≠ 110 ∧ c ≠ 48 ∧ c ≠ 92 ∧ c ≠ 39 ∧ escV c < 0) := by
  have : ∀ n : Fin 256, (UInt8.ofNat n.val = 110 ∧ escV (UInt8.ofNat n.val) = 10) ∨ (UInt8.ofNat n.val = 48 ∧ escV (UInt8.ofNat n.val) = 0) ∨ (UInt8.ofNat n.val = 92 ∧ escV (UInt8.ofNat n.val) = 92) ∨ (UInt8.ofNat n.val = 39 ∧ escV (UInt8.ofNat n.val) = 39) ∨ (UInt8.ofNat n.val ≠ 110 ∧ UInt8.ofNat n.val ≠ 48 ∧ UInt8.ofNat n.val ≠ 92 ∧ UInt8.ofNat n.val ≠ 39 ∧ escV (UInt8.ofNat n.val) < 0) := by decide +kernel
  have h2 := this ⟨c.toNat, c.toNat_lt⟩
  simpa using h2

/-- the two numbers that quoted gives -/
def QPost (r : Tk) (w : World) (e : Ending) (w' : World) : Prop := e = .returned (.tuple #[.int .i64 (tkN r), .int .i64 (tkL r)]) ∧ w = w'
theorem qpost {r r' : Tk} {w : World} (h : Hid (r = r')) : QPost r w (.returned (.tuple #[.int .i64 (tkN r'), .int .i64 (tkL r')])) w := by rw [h.out]; exact ⟨rfl, rfl⟩

set_option maxHeartbeats 4000000 in
set_option maxRecDepth 100000 in
theorem quo_any (s : ByteArray) (w : World) (hs : s.size ≤ 140737488355328) :
    Calls Tryd.prog 33 #[.string s] w (QPost (chrT s.data.toList) w) := by
  obtain ⟨r, hr⟩ : ∃ r, r = chrT s.data.toList := ⟨_, rfl⟩
  rw [← hr]
  unfold chrT at hr
  by_cases h3 : s.size < 3
  · rw [if_pos (by have := Lib.size_eq s; omega)] at hr
    have HR := Lib.hid hr
    have h4 : ¬ 2 < s.size := by omega
    have h5 : ¬ 3 < s.size := by omega
    clear hr
    go_enter Tryd.func33, Tryd.ntmps33
    go_wp2
    go_ret2
    exact qpost HR
  · rw [if_neg (by have := Lib.size_eq s; omega), getD_idx s 1 (by omega), getD_idx s 2 (by omega)] at hr
    have h2s : 2 < s.size := by omega
    have hb1 : s[1].toNat < 256 := s[1].toNat_lt
    have hb2 : s[2].toNat < 256 := s[2].toNat_lt
    by_cases h92 : s[1] = 92
    · rw [if_pos h92] at hr
      have e1 : ((s[1].toNat : Int) == 92) = true := beq_of (by rw [h92]; rfl)
      have n1 := u8_nb e1
      have v1 : (s[1].toNat : Int) = 92 := by rw [h92]; rfl
      have V1 : (32 : Int) ≤ s[1].toNat := by omega
      have V2 : (s[1].toNat : Int) < 127 := by omega
      clear v1 h92
      have eG : ∀ (b : Bool), ((s[2].toNat : Int) == 39) = b → True := fun _ _ => trivial
      by_cases h4 : s.size < 4
      · rw [if_pos (Or.inr (Or.inl (by have := Lib.size_eq s; omega)))] at hr
        have HR := Lib.hid hr
        have h5 : ¬ 3 < s.size := by omega
        clear hr
        cases e2 : ((s[2].toNat : Int) == 39) <;>
        · go_enter Tryd.func33, Tryd.ntmps33
          go_wp2
          go_ret2
          exact qpost HR
      · have h5 : 3 < s.size := by omega
        rw [getD_idx s 3 (by omega)] at hr
        by_cases h39 : s[3] = 39
        · have e3 : ((s[3].toNat : Int) == 39) = true := beq_of (by rw [h39]; rfl)
          have hl4 : ¬ s.data.toList.length < 4 := by have := Lib.size_eq s; omega
          rcases escV_cases s[2] with ⟨hc, hv⟩ | ⟨hc, hv⟩ | ⟨hc, hv⟩ | ⟨hc, hv⟩ | ⟨hc1, hc2, hc3, hc4, hv⟩
          · rw [hv, if_neg (by rintro (h | h | h); exact absurd h (by decide); exact hl4 h; exact h h39)] at hr
            have HR := Lib.hid hr
            have g1 : ((s[2].toNat : Int) == 110) = true := beq_of (by rw [hc]; rfl)
            have g4 : ((s[2].toNat : Int) == 39) = false := beq_of_ne (by rw [hc]; decide)
            clear hr hc h39
            go_enter Tryd.func33, Tryd.ntmps33
            go_wp2
            go_ret2
            exact qpost HR
          · rw [hv, if_neg (by rintro (h | h | h); exact absurd h (by decide); exact hl4 h; exact h h39)] at hr
            have HR := Lib.hid hr
            have g1 : ((s[2].toNat : Int) == 110) = false := beq_of_ne (by rw [hc]; decide)
            have g2 : ((s[2].toNat : Int) == 48) = true := beq_of (by rw [hc]; rfl)
            have g4 : ((s[2].toNat : Int) == 39) = false := beq_of_ne (by rw [hc]; decide)
            clear hr hc h39
            go_enter Tryd.func33, Tryd.ntmps33
            go_wp2
            go_ret2
            exact qpost HR
          · rw [hv, if_neg (by rintro (h | h | h); exact absurd h (by decide); exact hl4 h; exact h h39)] at hr
            have HR := Lib.hid hr
            have g1 : ((s[2].toNat : Int) == 110) = false := beq_of_ne (by rw [hc]; decide)
            have g2 : ((s[2].toNat : Int) == 48) = false := beq_of_ne (by rw [hc]; decide)
            have g3 : ((s[2].toNat : Int) == 92) = true := beq_of (by rw [hc]; rfl)
            have g4 : ((s[2].toNat : Int) == 39) = false := beq_of_ne (by rw [hc]; decide)
            have gv : (s[2].toNat : Int) = 92 := by rw [hc]; rfl
            clear hr hc h39
            go_enter Tryd.func33, Tryd.ntmps33
            go_wp2
            go_ret2
            exact qpost HR
          · rw [hv, if_neg (by rintro (h | h | h); exact absurd h (by decide); exact hl4 h; exact h h39)] at hr
            have HR := Lib.hid hr
            have g1 : ((s[2].toNat : Int) == 110) = false := beq_of_ne (by rw [hc]; decide)
            have g2 : ((s[2].toNat : Int) == 48) = false := beq_of_ne (by rw [hc]; decide)
            have g3 : ((s[2].toNat : Int) == 92) = false := beq_of_ne (by rw [hc]; decide)
            have g4 : ((s[2].toNat : Int) == 39) = true := beq_of (by rw [hc]; rfl)
            have gv : (s[2].toNat : Int) = 39 := by rw [hc]; rfl
            clear hr hc h39
            go_enter Tryd.func33, Tryd.ntmps33
            go_wp2
            go_ret2
            exact qpost HR
          · rw [if_pos (Or.inl hv)] at hr
            have HR := Lib.hid hr
            have g1 : ((s[2].toNat : Int) == 110) = false := u8_ne hc1
            have g2 : ((s[2].toNat : Int) == 48) = false := u8_ne hc2
            have g3 : ((s[2].toNat : Int) == 92) = false := u8_ne hc3
            have g4 : ((s[2].toNat : Int) == 39) = false := u8_ne hc4
            clear hr hc1 hc2 hc3 hc4 h39 hv
            go_enter Tryd.func33, Tryd.ntmps33
            go_wp2
            go_ret2
            exact qpost HR
        · rw [if_pos (Or.inr (Or.inr h39))] at hr
          have HR := Lib.hid hr
          have e3 : ((s[3].toNat : Int) == 39) = false := u8_ne h39
          clear hr h39
          cases e2 : ((s[2].toNat : Int) == 39) <;>
          · go_enter Tryd.func33, Tryd.ntmps33
            go_wp2
            go_ret2
            exact qpost HR
    · rw [if_neg h92] at hr
      have e1 : ((s[1].toNat : Int) == 92) = false := u8_ne h92
      have n1 := u8_nb e1
      cases hp : plainB s[1] with
      | true =>
        rw [hp, if_pos rfl] at hr
        have hpl : 32 ≤ s[1].toNat ∧ s[1].toNat ≤ 126 ∧ s[1].toNat ≠ 39 ∧ s[1].toNat ≠ 92 := by simpa [plainB] using hp
        have V1 : (32 : Int) ≤ s[1].toNat := by omega
        have V2 : (s[1].toNat : Int) < 127 := by omega
        have e4 : ((s[1].toNat : Int) == 39) = false := beq_of_ne (by omega)
        have n4 := u8_nb e4
        clear hpl hp h92
        by_cases h39 : s[2] = 39
        · rw [if_neg (by simp [h39])] at hr
          have HR := Lib.hid hr
          have e2 : ((s[2].toNat : Int) == 39) = true := beq_of (by rw [h39]; rfl)
          clear hr h39
          go_enter Tryd.func33, Tryd.ntmps33
          go_wp2
          go_ret2
          exact qpost HR
        · rw [if_pos h39] at hr
          have HR := Lib.hid hr
          have e2 : ((s[2].toNat : Int) == 39) = false := u8_ne h39
          clear hr h39
          by_cases h5 : 3 < s.size
          · cases e3 : ((s[3].toNat : Int) == 39) <;>
            · go_enter Tryd.func33, Tryd.ntmps33
              go_wp2
              go_ret2
              exact qpost HR
          · go_enter Tryd.func33, Tryd.ntmps33
            go_wp2
            go_ret2
            exact qpost HR
      | false =>
        rw [hp, if_neg (by decide)] at hr
        have HR := Lib.hid hr
        have hpl : s[1].toNat < 32 ∨ (32 ≤ s[1].toNat ∧ 127 ≤ s[1].toNat) ∨ (32 ≤ s[1].toNat ∧ s[1].toNat < 127 ∧ s[1].toNat = 39) := by
          have h92' : s[1].toNat ≠ 92 := fun h => h92 (UInt8.toNat_inj.1 h)
          simp [plainB] at hp
          omega
        clear hr hp h92
        have hq : ∀ b : Bool, b = true ∨ b = false := by decide
        by_cases h5 : 3 < s.size
        · cases e3 : ((s[3].toNat : Int) == 39) <;> cases e2 : ((s[2].toNat : Int) == 39) <;> rcases hpl with h | ⟨h, h'⟩ | ⟨h, h', h''⟩ <;>
          · (try have e4 : ((s[1].toNat : Int) == 39) = true := beq_of (by omega))
            (try have n4 := u8_nb e4)
            (try have V1 : (32 : Int) ≤ s[1].toNat := by omega)
            (try have V2 : ¬ (s[1].toNat : Int) < 127 := by omega)
            (try clear h'')
            go_enter Tryd.func33, Tryd.ntmps33
            go_wp2
            go_ret2
            exact qpost HR
        · cases e2 : ((s[2].toNat : Int) == 39) <;> rcases hpl with h | ⟨h, h'⟩ | ⟨h, h', h''⟩ <;>
          · (try have e4 : ((s[1].toNat : Int) == 39) = true := beq_of (by omega))
            (try have n4 := u8_nb e4)
            (try have V1 : (32 : Int) ≤ s[1].toNat := by omega)
            (try have V2 : ¬ (s[1].toNat : Int) < 127 := by omega)
            (try clear h'')
            go_enter Tryd.func33, Tryd.ntmps33
            go_wp2
            go_ret2
            exact qpost HR
end Go.Proofs.YtaipdmaiffjeeaaDoor
