/-
  Contract of the document's answer: next, at a letter.
-/
import Derived.Test.YtaipdmaiffjeeaaDoorV
namespace Go.Proofs.YtaipdmaiffjeeaaDoor
open Go.RowKit

set_option maxHeartbeats 8000000 in
set_option maxRecDepth 100000 in
theorem next_let (s : ByteArray) (w : World) (hs : s.size ≤ 140737488355328) (h0 : 0 < s.size) (hd : digB s[0] = false) (hl0 : letB s[0] = true) (r : Tk) (hr : r = wrdT (s.data.toList.take (preN wordB s.data.toList))) :
    Calls Tryd.prog 19 #[.string s] w (NxPost r s.data.toList w) := by
  have hsz := Lib.hid (Lib.size_eq s)
  have hL := fun w => rlet_any s[0] w
  have hD := fun w => rdig_any s[0] w
  rw [hl0] at hL
  rw [hd] at hD
  obtain ⟨n, hn⟩ : ∃ n, n = preN wordB s.data.toList := ⟨_, rfl⟩
  rw [← hn] at hr
  have hn1 : 1 ≤ n := by
    rw [hn]
    have hg := getD_idx s 0 h0
    cases e : s.data.toList with
    | nil => rw [(nil_iff s).1 e] at h0; omega
    | cons c l => rw [e] at hg; exact preN_pos (let_word.1 (Or.inl (by rw [← hg] at hl0; exact hl0)))
  have hnl : n ≤ s.data.toList.length := by rw [hn]; exact preN_le _ _
  have hns : n ≤ s.size := by rw [Lib.size_eq]; exact hnl
  have hxs : (s.extract 0 n).size = n := by rw [Lib.size_eq, ext0_data, List.length_take, Nat.min_eq_left hnl]
  have hK := fun w => rKey_any (s.extract 0 n) w
  have hx0 : (s.extract 0 n)[0]'(by omega) = s[0] := by
    rw [← getD_idx _ 0 (by omega), ← getD_idx s 0 h0, ext0_data]
    simp only [List.getD]
    rw [List.getElem?_take_of_lt (by omega)]
  have hM := fun w => rName_any (s.extract 0 n) w (by omega) (by omega) (by rw [hx0]; exact hd) (by rw [ext0_data, hn]; exact preN_take_all _ _)
  rw [hxs] at hM
  rw [ext0_data] at hK
  have hr : r = if keyB (s.data.toList.take n) = true then .tok 3 n 0 else if 12 < n then .bad 12 else .tok 1 n 0 := by
    rw [hr]; unfold wrdT; rw [List.length_take, Nat.min_eq_left hnl]
  clear hnl hd hl0 hx0 hxs
  have Hn := Lib.hid hn
  clear hn
  go_enter Tryd.func19, Tryd.ntmps19
  go_wp2_with (first | (go_at_call 28; refine (hL _).mono ?_; rintro e w' ⟨rfl, rfl⟩) | (go_at_call 29; refine (hD _).mono ?_; rintro e w' ⟨rfl, rfl⟩))
  go_loop [5] (fun i => ∃ k : Nat, k ≤ s.size ∧ i = .int .i64 k ∧ Hid (n = k + preN wordB (s.data.toList.drop k))) (fun i => s.size - (intOf i).toNat)
  case atStart => exact ⟨0, Nat.zero_le _, rfl, by have := Hn.out; simpa [Hid] using this⟩
  case round =>
    obtain ⟨k, hk, rfl, HK⟩ := hrel
    by_cases hst : k < s.size ∧ wordB (s.data.toList.getD k 0) = true
    · obtain ⟨hlt, hw⟩ := hst
      have hl : k < s.data.toList.length := by have := hsz.out; omega
      rw [getD_idx s k hlt] at hw
      have hLk := fun w => rlet_any s[k] w
      have hDk := fun w => rdig_any s[k] w
      have HN : Hid (n = (k + 1 : Nat) + preN wordB (s.data.toList.drop (k + 1))) := pre_step HK.out hl hw
      cases hlet : letB s[k] with
      | true =>
        rw [hlet] at hLk
        clear HK hw hlet
        go_wp2_with (go_at_call 28; refine (hLk _).mono ?_; rintro e w' ⟨rfl, rfl⟩)
        go_round
        case rel => exact ⟨k + 1, by omega, by go_num, HN⟩
        case measure => simp [intOf]; omega
      | false =>
        have hdk : digB s[k] = true := (let_word.2 hw).resolve_left (by simp [hlet])
        rw [hlet] at hLk
        rw [hdk] at hDk
        clear HK hw hlet hdk
        go_wp2_with (first | (go_at_call 28; refine (hLk _).mono ?_; rintro e w' ⟨rfl, rfl⟩) | (go_at_call 29; refine (hDk _).mono ?_; rintro e w' ⟨rfl, rfl⟩))
        go_round
        case rel => exact ⟨k + 1, by omega, by go_num, HN⟩
        case measure => simp [intOf]; omega
    · have hkn : n = k := by
        by_cases hlt : k < s.size
        · have hw : wordB (s.data.toList.getD k 0) = false := by cases h : wordB (s.data.toList.getD k 0) with | false => rfl | true => exact absurd ⟨hlt, h⟩ hst
          rw [getD_idx s k hlt] at hw
          exact pre_stop HK.out (by have := hsz.out; omega) hw
        · exact pre_end HK.out (by have := hsz.out; omega)
      have hx : ¬ n < s.size ∨ ∃ h : n < s.size, letB s[n] = false ∧ digB s[n] = false := by
        subst hkn
        by_cases hlt : n < s.size
        · have hw : wordB (s.data.toList.getD n 0) = false := by cases h : wordB (s.data.toList.getD n 0) with | false => rfl | true => exact absurd ⟨hlt, h⟩ hst
          rw [getD_idx s n hlt] at hw
          exact Or.inr ⟨hlt, not_word hw⟩
        · exact Or.inl hlt
      subst hkn
      clear hst HK
      have hx : (¬ n < s.size ∧ True) ∨ (∃ h : n < s.size, (∀ w, Calls Tryd.prog 28 #[.int .u8 s[n].toNat] w fun e w' => e = .returned (.bool false) ∧ w = w') ∧ (∀ w, Calls Tryd.prog 29 #[.int .u8 s[n].toNat] w fun e w' => e = .returned (.bool false) ∧ w = w')) := by
        rcases hx with hx | ⟨hx, hx1, hx2⟩
        · exact Or.inl ⟨hx, trivial⟩
        · have a := fun w => rlet_any s[n] w
          have b := fun w => rdig_any s[n] w
          rw [hx1] at a
          rw [hx2] at b
          exact Or.inr ⟨hx, a, b⟩
      cases hq : keyB (s.data.toList.take n) with
      | true =>
        rw [hq, if_pos rfl] at hr
        rw [hq] at hK
        have HR := Lib.hid hr
        clear hr hq
        rcases hx with ⟨hx, _⟩ | ⟨hx, hLn, hDn⟩
        all_goals
          go_wp2_with (first | (go_at_call 28; ((with_reducible refine (hL _).mono ?_); rintro e w' ⟨rfl, rfl⟩)) | (go_at_call 28; ((with_reducible refine (hLn _).mono ?_); rintro e w' ⟨rfl, rfl⟩)) | (go_at_call 29; ((with_reducible refine (hD _).mono ?_); rintro e w' ⟨rfl, rfl⟩)) | (go_at_call 29; ((with_reducible refine (hDn _).mono ?_); rintro e w' ⟨rfl, rfl⟩)) | (go_at_call 31; refine (hK _).mono ?_; rintro e w2 ⟨rfl, hb⟩; obtain ⟨hc, hf⟩ := bcell hb; have hsz2 := hb.size; simp at hsz2) | (go_at_call 32; refine (hM _).mono ?_; rintro e w' ⟨rfl, rfl⟩))
          exact bodyPost_ret (v := .tuple #[.agg #[.int .i64 3, .string (s.extract 0 n), .int .i64 0, .int .i64 0], .int .i64 n, .int .i64 0]) (by simp [results, Tryd.results19, go_sem, hc]) rfl (nx_tok HR (ext0 s n) (below_set4 (below_call hb) _ _ _ _))
      | false =>
        rw [hq, if_neg (by decide)] at hr
        rw [hq] at hK
        clear hq
        by_cases h12 : 12 < n
        · rw [if_pos h12] at hr
          have e12 : decide (n ≤ 12) = false := decide_eq_false (by omega)
          rw [e12] at hM
          have HR := Lib.hid hr
          clear hr h12 e12
          rcases hx with ⟨hx, _⟩ | ⟨hx, hLn, hDn⟩
          all_goals
            go_wp2_with (first | (go_at_call 28; ((with_reducible refine (hL _).mono ?_); rintro e w' ⟨rfl, rfl⟩)) | (go_at_call 28; ((with_reducible refine (hLn _).mono ?_); rintro e w' ⟨rfl, rfl⟩)) | (go_at_call 29; ((with_reducible refine (hD _).mono ?_); rintro e w' ⟨rfl, rfl⟩)) | (go_at_call 29; ((with_reducible refine (hDn _).mono ?_); rintro e w' ⟨rfl, rfl⟩)) | (go_at_call 31; refine (hK _).mono ?_; rintro e w2 ⟨rfl, hb⟩; obtain ⟨hc, hf⟩ := bcell hb; have hsz2 := hb.size; simp at hsz2) | (go_at_call 32; refine (hM _).mono ?_; rintro e w' ⟨rfl, rfl⟩))
            exact bodyPost_ret (v := .tuple #[.agg #[.int .i64 0, .string ⟨#[]⟩, .int .i64 0, .int .i64 0], .int .i64 0, .int .i64 12]) (by simp [results, Tryd.results19, go_sem, hc]) rfl (nx_bad HR (by decide) (Or.inr ⟨by decide, rfl⟩) (below_set4 (below_call hb) _ _ _ _))
        · rw [if_neg h12] at hr
          have e12 : decide (n ≤ 12) = true := decide_eq_true (by omega)
          rw [e12] at hM
          have HR := Lib.hid hr
          clear hr h12 e12
          rcases hx with ⟨hx, _⟩ | ⟨hx, hLn, hDn⟩
          all_goals
            go_wp2_with (first | (go_at_call 28; ((with_reducible refine (hL _).mono ?_); rintro e w' ⟨rfl, rfl⟩)) | (go_at_call 28; ((with_reducible refine (hLn _).mono ?_); rintro e w' ⟨rfl, rfl⟩)) | (go_at_call 29; ((with_reducible refine (hD _).mono ?_); rintro e w' ⟨rfl, rfl⟩)) | (go_at_call 29; ((with_reducible refine (hDn _).mono ?_); rintro e w' ⟨rfl, rfl⟩)) | (go_at_call 31; refine (hK _).mono ?_; rintro e w2 ⟨rfl, hb⟩; obtain ⟨hc, hf⟩ := bcell hb; have hsz2 := hb.size; simp at hsz2) | (go_at_call 32; refine (hM _).mono ?_; rintro e w' ⟨rfl, rfl⟩))
            exact bodyPost_ret (v := .tuple #[.agg #[.int .i64 1, .string (s.extract 0 n), .int .i64 0, .int .i64 0], .int .i64 n, .int .i64 0]) (by simp [results, Tryd.results19, go_sem, hc]) rfl (nx_tok HR (ext0 s n) (below_set4 (below_call hb) _ _ _ _))

end Go.Proofs.YtaipdmaiffjeeaaDoor
