/-
  Contract of the document's answer: next, the word with which a text begins.
-/
import Derived.Test.YtaipdmaiffjeeaaDoorU
import Derived.Test.YtaipdmaiffjeeaaDoorR
namespace Go.Proofs.YtaipdmaiffjeeaaDoor
open Go.RowKit

def NxPost (r : Tk) (l : List UInt8) (w : World) (e : Ending) (w' : World) : Prop :=
  Below w.heap.size w w' ∧
  ((∃ kd n v, r = .tok kd n v ∧ e = .returned (.tuple #[.agg #[.int .i64 (kd : Nat), .string (bstr (l.take n)), .int .i64 (v : Nat), .int .i64 0], .int .i64 (n : Nat), .int .i64 0])) ∨
   (∃ (c : Nat) (a v n ec : Int) (t : ByteArray), r = .bad c ∧ e = .returned (.tuple #[.agg #[.int .i64 a, .string t, .int .i64 v, .int .i64 0], .int .i64 n, .int .i64 ec]) ∧ ec ≠ 0 ∧ ((ec = 2 ∧ c = 1) ∨ (ec ≠ 2 ∧ ec = c))))
theorem nx_tok {r : Tk} {l : List UInt8} {w w' : World} {kd n v : Nat} {s : ByteArray} (hr : Hid (r = .tok kd n v)) (ht : bstr (l.take n) = s) (hb : Below w.heap.size w w') :
    NxPost r l w (.returned (.tuple #[.agg #[.int .i64 kd, .string s, .int .i64 v, .int .i64 0], .int .i64 n, .int .i64 0])) w' := ⟨hb, Or.inl ⟨kd, n, v, hr.out, by rw [ht]⟩⟩
theorem nx_bad {r : Tk} {l : List UInt8} {w w' : World} {c : Nat} {a v n ec : Int} {t : ByteArray} (hr : Hid (r = .bad c)) (h0 : ec ≠ 0) (hc : (ec = 2 ∧ c = 1) ∨ (ec ≠ 2 ∧ ec = c)) (hb : Below w.heap.size w w') :
    NxPost r l w (.returned (.tuple #[.agg #[.int .i64 a, .string t, .int .i64 v, .int .i64 0], .int .i64 n, .int .i64 ec])) w' := ⟨hb, Or.inr ⟨c, a, v, n, ec, t, hr.out, rfl, h0, hc⟩⟩

theorem numD_kind {b : Nat} {p : UInt8 → Bool} {ds t : List UInt8} {k n v : Nat} (h : numD b p ds t = .tok k n v) : k = 2 := by
  unfold numD at h
  split at h
  · cases h
  · split at h
    · cases h; rfl
    · cases h
theorem numT_kind {t : List UInt8} {k n v : Nat} (h : numT t = .tok k n v) : k = 2 := by
  unfold numT at h
  split at h
  · split at h
    · cases h
    · exact numD_kind h
  · exact numD_kind h
theorem numD_code {b : Nat} {p : UInt8 → Bool} {ds t : List UInt8} {c : Nat} (h : numD b p ds t = .bad c) : c = 1 ∨ c = 3 := by
  unfold numD at h
  split at h
  · cases h; exact Or.inl rfl
  · split at h
    · cases h
    · cases h; exact Or.inr rfl
theorem numT_code {t : List UInt8} {c : Nat} (h : numT t = .bad c) : c = 1 ∨ c = 3 := by
  unfold numT at h
  split at h
  · split at h
    · cases h; exact Or.inl rfl
    · exact numD_code h
  · exact numD_code h
theorem preN_take_all (p : UInt8 → Bool) (l : List UInt8) : ∀ c ∈ l.take (preN p l), p c = true := by
  unfold preN
  induction l with
  | nil => simp
  | cons x l ih =>
    rw [List.takeWhile_cons]
    by_cases hx : p x = true
    · rw [if_pos hx]
      intro c hc
      rw [List.length_cons, List.take_succ_cons] at hc
      rcases List.mem_cons.1 hc with rfl | hc
      · exact hx
      · exact ih c hc
    · rw [if_neg hx]; simp
/-- at the loop that counts the letters and digits: a byte more, or the end -/
theorem pre_step {l : List UInt8} {n k : Nat} (h : n = k + preN wordB (l.drop k)) (hl : k < l.length) (hw : wordB l[k] = true) : n = (k + 1) + preN wordB (l.drop (k + 1)) := h.trans (preN_drop_true hl hw)
theorem pre_stop {l : List UInt8} {n k : Nat} (h : n = k + preN wordB (l.drop k)) (hl : k < l.length) (hw : wordB l[k] = false) : n = k := h.trans (by rw [preN_drop_false hl hw]; rfl)
theorem pre_end {l : List UInt8} {n k : Nat} (h : n = k + preN wordB (l.drop k)) (hl : l.length ≤ k) : n = k := h.trans (by rw [List.drop_eq_nil_of_le hl]; rfl)
theorem not_word {c : UInt8} (hw : wordB c = false) : letB c = false ∧ digB c = false := by
  simp [letB, digB, wordB] at *; omega

set_option maxHeartbeats 8000000 in
set_option maxRecDepth 100000 in
theorem next_dig (s : ByteArray) (w : World) (hs : s.size ≤ 140737488355328) (h0 : 0 < s.size) (hd : digB s[0] = true) (r : Tk) (hr : r = numT (s.data.toList.take (preN wordB s.data.toList))) :
    Calls Tryd.prog 19 #[.string s] w (NxPost r s.data.toList w) := by
  have hsz := Lib.hid (Lib.size_eq s)
  have hlf : letB s[0] = false := by simp [digB] at hd; simp [letB]; omega
  have hL := fun w => rlet_any s[0] w
  have hD := fun w => rdig_any s[0] w
  rw [hlf] at hL
  rw [hd] at hD
  obtain ⟨n, hn⟩ : ∃ n, n = preN wordB s.data.toList := ⟨_, rfl⟩
  rw [← hn] at hr
  have hn1 : 1 ≤ n := by
    rw [hn]
    have hg := getD_idx s 0 h0
    cases e : s.data.toList with
    | nil => rw [(nil_iff s).1 e] at h0; omega
    | cons c l => rw [e] at hg; exact preN_pos (dig_word (by rw [← hg] at hd; exact hd))
  have hnl : n ≤ s.data.toList.length := by rw [hn]; exact preN_le _ _
  have hns : n ≤ s.size := by rw [Lib.size_eq]; exact hnl
  have hN := fun w => rnum_any (s.extract 0 n) w (by rw [Lib.size_eq, ext0_data, List.length_take]; omega) (by rw [Lib.size_eq, ext0_data, List.length_take]; omega)
  rw [ext0_data] at hN
  have hfull := numT_full (s.data.toList.take n)
  have hkind := fun k m v => numT_kind (t := s.data.toList.take n) (k := k) (n := m) (v := v)
  have hcode := fun c => numT_code (t := s.data.toList.take n) (c := c)
  rw [List.length_take, Nat.min_eq_left hnl] at hfull
  rw [← hr] at hN hfull hkind hcode
  clear hr hnl hd hlf
  have Hn := Lib.hid hn
  clear hn
  go_enter Tryd.func19, Tryd.ntmps19
  go_wp2_with (first | (go_at_call 28; refine (hL _).mono ?_; rintro e w' ⟨rfl, rfl⟩) | (go_at_call 29; refine (hD _).mono ?_; rintro e w' ⟨rfl, rfl⟩))
  go_loop [5] (fun i => ∃ k : Nat, k ≤ s.size ∧ i = .int .i64 k ∧ Hid (n = k + preN wordB (s.data.toList.drop k))) (fun i => s.size - (intOf i).toNat)
  case atStart => exact ⟨0, Nat.zero_le _, rfl, by have := Hn.out; simpa [Hid] using this⟩
  case round =>
    obtain ⟨k, hk, rfl, HK⟩ := hrel
    by_cases hst : k < s.size ∧ wordB (s.data.toList.getD k 0) = true
    · obtain ⟨hlt, hw⟩ := hst
      have hl : k < s.data.toList.length := by have := hsz.out; omega
      rw [getD_idx s k hlt] at hw
      have hLk := fun w => rlet_any s[k] w
      have hDk := fun w => rdig_any s[k] w
      have HN : Hid (n = (k + 1 : Nat) + preN wordB (s.data.toList.drop (k + 1))) := pre_step HK.out hl hw
      cases hlet : letB s[k] with
      | true =>
        rw [hlet] at hLk
        clear HK hw hlet
        go_wp2_with (go_at_call 28; refine (hLk _).mono ?_; rintro e w' ⟨rfl, rfl⟩)
        go_round
        case rel => exact ⟨k + 1, by omega, by go_num, HN⟩
        case measure => simp [intOf]; omega
      | false =>
        have hdk : digB s[k] = true := (let_word.2 hw).resolve_left (by simp [hlet])
        rw [hlet] at hLk
        rw [hdk] at hDk
        clear HK hw hlet hdk
        go_wp2_with (first | (go_at_call 28; refine (hLk _).mono ?_; rintro e w' ⟨rfl, rfl⟩) | (go_at_call 29; refine (hDk _).mono ?_; rintro e w' ⟨rfl, rfl⟩))
        go_round
        case rel => exact ⟨k + 1, by omega, by go_num, HN⟩
        case measure => simp [intOf]; omega
    · have hkn : n = k := by
        by_cases hlt : k < s.size
        · have hw : wordB (s.data.toList.getD k 0) = false := by cases h : wordB (s.data.toList.getD k 0) with | false => rfl | true => exact absurd ⟨hlt, h⟩ hst
          rw [getD_idx s k hlt] at hw
          exact pre_stop HK.out (by have := hsz.out; omega) hw
        · exact pre_end HK.out (by have := hsz.out; omega)
      have hx : ¬ n < s.size ∨ ∃ h : n < s.size, letB s[n] = false ∧ digB s[n] = false := by
        subst hkn
        by_cases hlt : n < s.size
        · have hw : wordB (s.data.toList.getD n 0) = false := by cases h : wordB (s.data.toList.getD n 0) with | false => rfl | true => exact absurd ⟨hlt, h⟩ hst
          rw [getD_idx s n hlt] at hw
          exact Or.inr ⟨hlt, not_word hw⟩
        · exact Or.inl hlt
      subst hkn
      clear hst HK
      have hx : (¬ n < s.size ∧ True) ∨ (∃ h : n < s.size, (∀ w, Calls Tryd.prog 28 #[.int .u8 s[n].toNat] w fun e w' => e = .returned (.bool false) ∧ w = w') ∧ (∀ w, Calls Tryd.prog 29 #[.int .u8 s[n].toNat] w fun e w' => e = .returned (.bool false) ∧ w = w')) := by
        rcases hx with hx | ⟨hx, hx1, hx2⟩
        · exact Or.inl ⟨hx, trivial⟩
        · have a := fun w => rlet_any s[n] w
          have b := fun w => rdig_any s[n] w
          rw [hx1] at a
          rw [hx2] at b
          exact Or.inr ⟨hx, a, b⟩
      cases hq : r with
      | tok kd m v =>
        have hm := hfull kd m v hq
        have hk2 := hkind kd m v hq
        have HR : Hid (r = .tok 2 n v) := by show _ = _; rw [hq, hm, hk2]
        subst hk2
        have hN2 := hN
        rw [hq] at hN2
        simp only [tkN, tkE] at hN2
        clear hN hq hfull hkind hcode hm
        rcases hx with ⟨hx, _⟩ | ⟨hx, hLn, hDn⟩
        all_goals
          go_wp2_with (first | (go_at_call 28; ((with_reducible refine (hL _).mono ?_); rintro e w' ⟨rfl, rfl⟩)) | (go_at_call 28; ((with_reducible refine (hLn _).mono ?_); rintro e w' ⟨rfl, rfl⟩)) | (go_at_call 29; ((with_reducible refine (hD _).mono ?_); rintro e w' ⟨rfl, rfl⟩)) | (go_at_call 29; ((with_reducible refine (hDn _).mono ?_); rintro e w' ⟨rfl, rfl⟩)) | (go_at_call 30; refine (hN2 _).mono ?_; rintro e w' ⟨rfl, rfl⟩))
          exact bodyPost_ret (v := .tuple #[.agg #[.int .i64 2, .string (s.extract 0 n), .int .i64 v, .int .i64 0], .int .i64 n, .int .i64 0]) (by simp [results, Tryd.results19, go_sem]) rfl (nx_tok HR (ext0 s n) ((Below.refl _ _).alloc (Nat.le_refl _) _))
      | bad c =>
        have hc := hcode c hq
        have HR := Lib.hid hq
        have hN2 := hN
        rw [hq] at hN2
        simp only [tkN, tkE] at hN2
        obtain ⟨ec, hec⟩ : ∃ ec : Int, ec = (if c = 1 then 2 else (c : Int)) := ⟨_, rfl⟩
        rw [← hec] at hN2
        have HE : Hid (ec ≠ 0 ∧ ((ec = 2 ∧ c = 1) ∨ (ec ≠ 2 ∧ ec = c))) := by
          show _ ∧ _
          rw [hec]
          rcases hc with rfl | rfl <;> simp
        clear hN hq hfull hkind hcode hc hec
        rcases hx with ⟨hx, _⟩ | ⟨hx, hLn, hDn⟩
        all_goals
          go_wp2_with (first | (go_at_call 28; ((with_reducible refine (hL _).mono ?_); rintro e w' ⟨rfl, rfl⟩)) | (go_at_call 28; ((with_reducible refine (hLn _).mono ?_); rintro e w' ⟨rfl, rfl⟩)) | (go_at_call 29; ((with_reducible refine (hD _).mono ?_); rintro e w' ⟨rfl, rfl⟩)) | (go_at_call 29; ((with_reducible refine (hDn _).mono ?_); rintro e w' ⟨rfl, rfl⟩)) | (go_at_call 30; refine (hN2 _).mono ?_; rintro e w' ⟨rfl, rfl⟩))
          exact bodyPost_ret (v := .tuple #[.agg #[.int .i64 2, .string (s.extract 0 n), .int .i64 0, .int .i64 0], .int .i64 n, .int .i64 ec]) (by simp [results, Tryd.results19, go_sem]) rfl (nx_bad HR HE.out.1 HE.out.2 ((Below.refl _ _).alloc (Nat.le_refl _) _))

end Go.Proofs.YtaipdmaiffjeeaaDoor
