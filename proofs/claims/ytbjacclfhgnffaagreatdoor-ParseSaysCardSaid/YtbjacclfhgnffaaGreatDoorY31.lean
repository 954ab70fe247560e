/-
  Joined texts of this claim: TkV, TkW, TkX, TkLa.
-/
import Derived.Test.YtbjacclfhgnffaaGreatDoorY30
import Derived.Test.YtbjacclfhgnffaaGreatDoorY08
import Derived.LoopTactic
import Derived.Test.YtbjacclfhgnffaaGreatDoorY23
set_option linter.unusedVariables false
set_option linter.unusedSimpArgs false
/-
  Contract of the document's answer: next, the word with which a text begins.
-/
namespace Go.Proofs.YtbjacclfhgnffaaGreatDoor.Tk
open Go.RowKit

def NxPost (r : Tk) (l : List UInt8) (w : World) (e : Ending) (w' : World) : Prop :=
  Below w.heap.size w w' ∧
  ((∃ kd n v, r = .tok kd n v ∧ e = .returned (.tuple #[.agg #[.int .i64 (kd : Nat), .string (bstr (l.take n)), .int .i64 (v : Nat), .int .i64 0], .int .i64 (n : Nat), .int .i64 0])) ∨
   (∃ (c : Nat) (a v n ec : Int) (t : ByteArray), r = .bad c ∧ e = .returned (.tuple #[.agg #[.int .i64 a, .string t, .int .i64 v, .int .i64 0], .int .i64 n, .int .i64 ec]) ∧ ec ≠ 0 ∧ ((ec = 2 ∧ c = 1) ∨ (ec ≠ 2 ∧ ec = c))))
theorem nx_tok {r : Tk} {l : List UInt8} {w w' : World} {kd n v : Nat} {s : ByteArray} (hr : Hid (r = .tok kd n v)) (ht : bstr (l.take n) = s) (hb : Below w.heap.size w w') :
    NxPost r l w (.returned (.tuple #[.agg #[.int .i64 kd, .string s, .int .i64 v, .int .i64 0], .int .i64 n, .int .i64 0])) w' := ⟨hb, Or.inl ⟨kd, n, v, hr.out, by rw [ht]⟩⟩
theorem nx_bad {r : Tk} {l : List UInt8} {w w' : World} {c : Nat} {a v n ec : Int} {t : ByteArray} (hr : Hid (r = .bad c)) (h0 : ec ≠ 0) (hc : (ec = 2 ∧ c = 1) ∨ (ec ≠ 2 ∧ ec = c)) (hb : Below w.heap.size w w') :
    NxPost r l w (.returned (.tuple #[.agg #[.int .i64 a, .string t, .int .i64 v, .int .i64 0], .int .i64 n, .int .i64 ec])) w' := ⟨hb, Or.inr ⟨c, a, v, n, ec, t, hr.out, rfl, h0, hc⟩⟩

theorem numD_kind {b : Nat} {p : UInt8 → Bool} {ds t : List UInt8} {k n v : Nat} (h : numD b p ds t = .tok k n v) : k = 2 := by
  unfold numD at h
  split at h
  · cases h
  · split at h
    · cases h; rfl
    · cases h
theorem numT_kind {t : List UInt8} {k n v : Nat} (h : numT t = .tok k n v) : k = 2 := by
  unfold numT at h
  split at h
  · split at h
    · cases h
    · exact numD_kind h
  · exact numD_kind h
theorem numD_code {b : Nat} {p : UInt8 → Bool} {ds t : List UInt8} {c : Nat} (h : numD b p ds t = .bad c) : c = 1 ∨ c = 3 := by
  unfold numD at h
  split at h
  · cases h; exact Or.inl rfl
  · split at h
    · cases h
    · cases h; exact Or.inr rfl
theorem numT_code {t : List UInt8} {c : Nat} (h : numT t = .bad c) : c = 1 ∨ c = 3 := by
  unfold numT at h
  split at h
  · split at h
    · cases h; exact Or.inl rfl
    · exact numD_code h
  · exact numD_code h
theorem preN_take_all (p : UInt8 → Bool) (l : List UInt8) : ∀ c ∈ l.take (preN p l), p c = true := by
  unfold preN
  induction l with
  | nil => simp
  | cons x l ih =>
    rw [List.takeWhile_cons]
    by_cases hx : p x = true
    · rw [if_pos hx]
      intro c hc
      rw [List.length_cons, List.take_succ_cons] at hc
      rcases List.mem_cons.1 hc with rfl | hc
      · exact hx
      · exact ih c hc
    · rw [if_neg hx]; simp
/-- at the loop that counts the letters and digits: a byte more, or the end -/
theorem pre_step {l : List UInt8} {n k : Nat} (h : n = k + preN wordB (l.drop k)) (hl : k < l.length) (hw : wordB l[k] = true) : n = (k + 1) + preN wordB (l.drop (k + 1)) := h.trans (preN_drop_true hl hw)
theorem pre_stop {l : List UInt8} {n k : Nat} (h : n = k + preN wordB (l.drop k)) (hl : k < l.length) (hw : wordB l[k] = false) : n = k := h.trans (by rw [preN_drop_false hl hw]; rfl)
theorem pre_end {l : List UInt8} {n k : Nat} (h : n = k + preN wordB (l.drop k)) (hl : l.length ≤ k) : n = k := h.trans (by rw [List.drop_eq_nil_of_le hl]; rfl)
theorem not_word {c : UInt8} (hw : wordB c = false) : letB c = false ∧ digB c = false := by
  simp [letB, digB, wordB] at *; omega

set_option maxHeartbeats 8000000 in
set_option maxRecDepth 100000 in
theorem next_dig (s : ByteArray) (w : World) (hs : s.size ≤ 140737488355328) (h0 : 0 < s.size) (hd : digB s[0] = true) (r : Tk) (hr : r = numT (s.data.toList.take (preN wordB s.data.toList))) :
    Calls Tryz.prog 66 #[.string s] w (NxPost r s.data.toList w) := by
  have hsz := Lib.hid (Lib.size_eq s)
  have hlf : letB s[0] = false := by simp [digB] at hd; simp [letB]; omega
  have hL := fun w => rlet_any s[0] w
  have hD := fun w => rdig_any s[0] w
  rw [hlf] at hL
  rw [hd] at hD
  obtain ⟨n, hn⟩ : ∃ n, n = preN wordB s.data.toList := ⟨_, rfl⟩
  rw [← hn] at hr
  have hn1 : 1 ≤ n := by
    rw [hn]
    have hg := getD_idx s 0 h0
    cases e : s.data.toList with
    | nil => rw [(nil_iff s).1 e] at h0; omega
    | cons c l => rw [e] at hg; exact preN_pos (dig_word (by rw [← hg] at hd; exact hd))
  have hnl : n ≤ s.data.toList.length := by rw [hn]; exact preN_le _ _
  have hns : n ≤ s.size := by rw [Lib.size_eq]; exact hnl
  have hN := fun w => rnum_any (s.extract 0 n) w (by rw [Lib.size_eq, ext0_data, List.length_take]; omega) (by rw [Lib.size_eq, ext0_data, List.length_take]; omega)
  rw [ext0_data] at hN
  have hfull := numT_full (s.data.toList.take n)
  have hkind := fun k m v => numT_kind (t := s.data.toList.take n) (k := k) (n := m) (v := v)
  have hcode := fun c => numT_code (t := s.data.toList.take n) (c := c)
  rw [List.length_take, Nat.min_eq_left hnl] at hfull
  rw [← hr] at hN hfull hkind hcode
  clear hr hnl hd hlf
  have Hn := Lib.hid hn
  clear hn
  go_enter Tryz.func66, Tryz.ntmps66
  go_wp2_with (first | (go_at_call 113; refine (hL _).mono ?_; rintro e w' ⟨rfl, rfl⟩) | (go_at_call 114; refine (hD _).mono ?_; rintro e w' ⟨rfl, rfl⟩))
  go_loop [5] (fun i => ∃ k : Nat, k ≤ s.size ∧ i = .int .i64 k ∧ Hid (n = k + preN wordB (s.data.toList.drop k))) (fun i => s.size - (intOf i).toNat)
  case atStart => exact ⟨0, Nat.zero_le _, rfl, by have := Hn.out; simpa [Hid] using this⟩
  case round =>
    obtain ⟨k, hk, rfl, HK⟩ := hrel
    by_cases hst : k < s.size ∧ wordB (s.data.toList.getD k 0) = true
    · obtain ⟨hlt, hw⟩ := hst
      have hl : k < s.data.toList.length := by have := hsz.out; omega
      rw [getD_idx s k hlt] at hw
      have hLk := fun w => rlet_any s[k] w
      have hDk := fun w => rdig_any s[k] w
      have HN : Hid (n = (k + 1 : Nat) + preN wordB (s.data.toList.drop (k + 1))) := pre_step HK.out hl hw
      cases hlet : letB s[k] with
      | true =>
        rw [hlet] at hLk
        clear HK hw hlet
        go_wp2_with (go_at_call 113; refine (hLk _).mono ?_; rintro e w' ⟨rfl, rfl⟩)
        go_round
        case rel => exact ⟨k + 1, by omega, by go_num, HN⟩
        case measure => simp [intOf]; omega
      | false =>
        have hdk : digB s[k] = true := (let_word.2 hw).resolve_left (by simp [hlet])
        rw [hlet] at hLk
        rw [hdk] at hDk
        clear HK hw hlet hdk
        go_wp2_with (first | (go_at_call 113; refine (hLk _).mono ?_; rintro e w' ⟨rfl, rfl⟩) | (go_at_call 114; refine (hDk _).mono ?_; rintro e w' ⟨rfl, rfl⟩))
        go_round
        case rel => exact ⟨k + 1, by omega, by go_num, HN⟩
        case measure => simp [intOf]; omega
    · have hkn : n = k := by
        by_cases hlt : k < s.size
        · have hw : wordB (s.data.toList.getD k 0) = false := by cases h : wordB (s.data.toList.getD k 0) with | false => rfl | true => exact absurd ⟨hlt, h⟩ hst
          rw [getD_idx s k hlt] at hw
          exact pre_stop HK.out (by have := hsz.out; omega) hw
        · exact pre_end HK.out (by have := hsz.out; omega)
      have hx : ¬ n < s.size ∨ ∃ h : n < s.size, letB s[n] = false ∧ digB s[n] = false := by
        subst hkn
        by_cases hlt : n < s.size
        · have hw : wordB (s.data.toList.getD n 0) = false := by cases h : wordB (s.data.toList.getD n 0) with | false => rfl | true => exact absurd ⟨hlt, h⟩ hst
          rw [getD_idx s n hlt] at hw
          exact Or.inr ⟨hlt, not_word hw⟩
        · exact Or.inl hlt
      subst hkn
      clear hst HK
      have hx : (¬ n < s.size ∧ True) ∨ (∃ h : n < s.size, (∀ w, Calls Tryz.prog 113 #[.int .u8 s[n].toNat] w fun e w' => e = .returned (.bool false) ∧ w = w') ∧ (∀ w, Calls Tryz.prog 114 #[.int .u8 s[n].toNat] w fun e w' => e = .returned (.bool false) ∧ w = w')) := by
        rcases hx with hx | ⟨hx, hx1, hx2⟩
        · exact Or.inl ⟨hx, trivial⟩
        · have a := fun w => rlet_any s[n] w
          have b := fun w => rdig_any s[n] w
          rw [hx1] at a
          rw [hx2] at b
          exact Or.inr ⟨hx, a, b⟩
      cases hq : r with
      | tok kd m v =>
        have hm := hfull kd m v hq
        have hk2 := hkind kd m v hq
        have HR : Hid (r = .tok 2 n v) := by show _ = _; rw [hq, hm, hk2]
        subst hk2
        have hN2 := hN
        rw [hq] at hN2
        simp only [tkN, tkE] at hN2
        clear hN hq hfull hkind hcode hm
        rcases hx with ⟨hx, _⟩ | ⟨hx, hLn, hDn⟩
        all_goals
          go_wp2_with (first | (go_at_call 113; ((with_reducible refine (hL _).mono ?_); rintro e w' ⟨rfl, rfl⟩)) | (go_at_call 113; ((with_reducible refine (hLn _).mono ?_); rintro e w' ⟨rfl, rfl⟩)) | (go_at_call 114; ((with_reducible refine (hD _).mono ?_); rintro e w' ⟨rfl, rfl⟩)) | (go_at_call 114; ((with_reducible refine (hDn _).mono ?_); rintro e w' ⟨rfl, rfl⟩)) | (go_at_call 115; refine (hN2 _).mono ?_; rintro e w' ⟨rfl, rfl⟩))
          exact bodyPost_ret (v := .tuple #[.agg #[.int .i64 2, .string (s.extract 0 n), .int .i64 v, .int .i64 0], .int .i64 n, .int .i64 0]) (by simp [results, Tryz.results66, go_sem]) rfl (nx_tok HR (ext0 s n) ((Below.refl _ _).alloc (Nat.le_refl _) _))
      | bad c =>
        have hc := hcode c hq
        have HR := Lib.hid hq
        have hN2 := hN
        rw [hq] at hN2
        simp only [tkN, tkE] at hN2
        obtain ⟨ec, hec⟩ : ∃ ec : Int, ec = (if c = 1 then 2 else (c : Int)) := ⟨_, rfl⟩
        rw [← hec] at hN2
        have HE : Hid (ec ≠ 0 ∧ ((ec = 2 ∧ c = 1) ∨ (ec ≠ 2 ∧ ec = c))) := by
          show _ ∧ _
          rw [hec]
          rcases hc with rfl | rfl <;> simp
        clear hN hq hfull hkind hcode hc hec
        rcases hx with ⟨hx, _⟩ | ⟨hx, hLn, hDn⟩
        all_goals
          go_wp2_with (first | (go_at_call 113; ((with_reducible refine (hL _).mono ?_); rintro e w' ⟨rfl, rfl⟩)) | (go_at_call 113; ((with_reducible refine (hLn _).mono ?_); rintro e w' ⟨rfl, rfl⟩)) | (go_at_call 114; ((with_reducible refine (hD _).mono ?_); rintro e w' ⟨rfl, rfl⟩)) | (go_at_call 114; ((with_reducible refine (hDn _).mono ?_); rintro e w' ⟨rfl, rfl⟩)) | (go_at_call 115; refine (hN2 _).mono ?_; rintro e w' ⟨rfl, rfl⟩))
          exact bodyPost_ret (v := .tuple #[.agg #[.int .i64 2, .string (s.extract 0 n), .int .i64 0, .int .i64 0], .int .i64 n, .int .i64 ec]) (by simp [results, Tryz.results66, go_sem]) rfl (nx_bad HR HE.out.1 HE.out.2 ((Below.refl _ _).alloc (Nat.le_refl _) _))

end Go.Proofs.YtbjacclfhgnffaaGreatDoor.Tk
/-
  Contract of the document's answer: next, at a letter.
-/
namespace Go.Proofs.YtbjacclfhgnffaaGreatDoor.Tk
open Go.RowKit

set_option maxHeartbeats 8000000 in
set_option maxRecDepth 100000 in
theorem next_let (s : ByteArray) (w : World) (hs : s.size ≤ 140737488355328) (h0 : 0 < s.size) (hd : digB s[0] = false) (hl0 : letB s[0] = true) (r : Tk) (hr : r = wrdT (s.data.toList.take (preN wordB s.data.toList))) :
    Calls Tryz.prog 66 #[.string s] w (NxPost r s.data.toList w) := by
  have hsz := Lib.hid (Lib.size_eq s)
  have hL := fun w => rlet_any s[0] w
  have hD := fun w => rdig_any s[0] w
  rw [hl0] at hL
  rw [hd] at hD
  obtain ⟨n, hn⟩ : ∃ n, n = preN wordB s.data.toList := ⟨_, rfl⟩
  rw [← hn] at hr
  have hn1 : 1 ≤ n := by
    rw [hn]
    have hg := getD_idx s 0 h0
    cases e : s.data.toList with
    | nil => rw [(nil_iff s).1 e] at h0; omega
    | cons c l => rw [e] at hg; exact preN_pos (let_word.1 (Or.inl (by rw [← hg] at hl0; exact hl0)))
  have hnl : n ≤ s.data.toList.length := by rw [hn]; exact preN_le _ _
  have hns : n ≤ s.size := by rw [Lib.size_eq]; exact hnl
  have hxs : (s.extract 0 n).size = n := by rw [Lib.size_eq, ext0_data, List.length_take, Nat.min_eq_left hnl]
  have hK := fun w => rKey_any (s.extract 0 n) w
  have hx0 : (s.extract 0 n)[0]'(by omega) = s[0] := by
    rw [← getD_idx _ 0 (by omega), ← getD_idx s 0 h0, ext0_data]
    simp only [List.getD]
    rw [List.getElem?_take_of_lt (by omega)]
  have hM := fun w => rName_any (s.extract 0 n) w (by omega) (by omega) (by rw [hx0]; exact hd) (by rw [ext0_data, hn]; exact preN_take_all _ _)
  rw [hxs] at hM
  rw [ext0_data] at hK
  have hr : r = if keyB (s.data.toList.take n) = true then .tok 3 n 0 else if 12 < n then .bad 12 else .tok 1 n 0 := by
    rw [hr]; unfold wrdT; rw [List.length_take, Nat.min_eq_left hnl]
  clear hnl hd hl0 hx0 hxs
  have Hn := Lib.hid hn
  clear hn
  go_enter Tryz.func66, Tryz.ntmps66
  go_wp2_with (first | (go_at_call 113; refine (hL _).mono ?_; rintro e w' ⟨rfl, rfl⟩) | (go_at_call 114; refine (hD _).mono ?_; rintro e w' ⟨rfl, rfl⟩))
  go_loop [5] (fun i => ∃ k : Nat, k ≤ s.size ∧ i = .int .i64 k ∧ Hid (n = k + preN wordB (s.data.toList.drop k))) (fun i => s.size - (intOf i).toNat)
  case atStart => exact ⟨0, Nat.zero_le _, rfl, by have := Hn.out; simpa [Hid] using this⟩
  case round =>
    obtain ⟨k, hk, rfl, HK⟩ := hrel
    by_cases hst : k < s.size ∧ wordB (s.data.toList.getD k 0) = true
    · obtain ⟨hlt, hw⟩ := hst
      have hl : k < s.data.toList.length := by have := hsz.out; omega
      rw [getD_idx s k hlt] at hw
      have hLk := fun w => rlet_any s[k] w
      have hDk := fun w => rdig_any s[k] w
      have HN : Hid (n = (k + 1 : Nat) + preN wordB (s.data.toList.drop (k + 1))) := pre_step HK.out hl hw
      cases hlet : letB s[k] with
      | true =>
        rw [hlet] at hLk
        clear HK hw hlet
        go_wp2_with (go_at_call 113; refine (hLk _).mono ?_; rintro e w' ⟨rfl, rfl⟩)
        go_round
        case rel => exact ⟨k + 1, by omega, by go_num, HN⟩
        case measure => simp [intOf]; omega
      | false =>
        have hdk : digB s[k] = true := (let_word.2 hw).resolve_left (by simp [hlet])
        rw [hlet] at hLk
        rw [hdk] at hDk
        clear HK hw hlet hdk
        go_wp2_with (first | (go_at_call 113; refine (hLk _).mono ?_; rintro e w' ⟨rfl, rfl⟩) | (go_at_call 114; refine (hDk _).mono ?_; rintro e w' ⟨rfl, rfl⟩))
        go_round
        case rel => exact ⟨k + 1, by omega, by go_num, HN⟩
        case measure => simp [intOf]; omega
    · have hkn : n = k := by
        by_cases hlt : k < s.size
        · have hw : wordB (s.data.toList.getD k 0) = false := by cases h : wordB (s.data.toList.getD k 0) with | false => rfl | true => exact absurd ⟨hlt, h⟩ hst
          rw [getD_idx s k hlt] at hw
          exact pre_stop HK.out (by have := hsz.out; omega) hw
        · exact pre_end HK.out (by have := hsz.out; omega)
      have hx : ¬ n < s.size ∨ ∃ h : n < s.size, letB s[n] = false ∧ digB s[n] = false := by
        subst hkn
        by_cases hlt : n < s.size
        · have hw : wordB (s.data.toList.getD n 0) = false := by cases h : wordB (s.data.toList.getD n 0) with | false => rfl | true => exact absurd ⟨hlt, h⟩ hst
          rw [getD_idx s n hlt] at hw
          exact Or.inr ⟨hlt, not_word hw⟩
        · exact Or.inl hlt
      subst hkn
      clear hst HK
      have hx : (¬ n < s.size ∧ True) ∨ (∃ h : n < s.size, (∀ w, Calls Tryz.prog 113 #[.int .u8 s[n].toNat] w fun e w' => e = .returned (.bool false) ∧ w = w') ∧ (∀ w, Calls Tryz.prog 114 #[.int .u8 s[n].toNat] w fun e w' => e = .returned (.bool false) ∧ w = w')) := by
        rcases hx with hx | ⟨hx, hx1, hx2⟩
        · exact Or.inl ⟨hx, trivial⟩
        · have a := fun w => rlet_any s[n] w
          have b := fun w => rdig_any s[n] w
          rw [hx1] at a
          rw [hx2] at b
          exact Or.inr ⟨hx, a, b⟩
      cases hq : keyB (s.data.toList.take n) with
      | true =>
        rw [hq, if_pos rfl] at hr
        rw [hq] at hK
        have HR := Lib.hid hr
        clear hr hq
        rcases hx with ⟨hx, _⟩ | ⟨hx, hLn, hDn⟩
        all_goals
          go_wp2_with (first | (go_at_call 113; ((with_reducible refine (hL _).mono ?_); rintro e w' ⟨rfl, rfl⟩)) | (go_at_call 113; ((with_reducible refine (hLn _).mono ?_); rintro e w' ⟨rfl, rfl⟩)) | (go_at_call 114; ((with_reducible refine (hD _).mono ?_); rintro e w' ⟨rfl, rfl⟩)) | (go_at_call 114; ((with_reducible refine (hDn _).mono ?_); rintro e w' ⟨rfl, rfl⟩)) | (go_at_call 116; refine (hK _).mono ?_; rintro e w2 ⟨rfl, hb⟩; obtain ⟨hc, hf⟩ := bcell hb; have hsz2 := hb.size; simp at hsz2) | (go_at_call 93; refine (hM _).mono ?_; rintro e w' ⟨rfl, rfl⟩))
          exact bodyPost_ret (v := .tuple #[.agg #[.int .i64 3, .string (s.extract 0 n), .int .i64 0, .int .i64 0], .int .i64 n, .int .i64 0]) (by simp [results, Tryz.results66, go_sem, hc]) rfl (nx_tok HR (ext0 s n) (below_set4 (below_call hb) _ _ _ _))
      | false =>
        rw [hq, if_neg (by decide)] at hr
        rw [hq] at hK
        clear hq
        by_cases h12 : 12 < n
        · rw [if_pos h12] at hr
          have e12 : decide (n ≤ 12) = false := decide_eq_false (by omega)
          rw [e12] at hM
          have HR := Lib.hid hr
          clear hr h12 e12
          rcases hx with ⟨hx, _⟩ | ⟨hx, hLn, hDn⟩
          all_goals
            go_wp2_with (first | (go_at_call 113; ((with_reducible refine (hL _).mono ?_); rintro e w' ⟨rfl, rfl⟩)) | (go_at_call 113; ((with_reducible refine (hLn _).mono ?_); rintro e w' ⟨rfl, rfl⟩)) | (go_at_call 114; ((with_reducible refine (hD _).mono ?_); rintro e w' ⟨rfl, rfl⟩)) | (go_at_call 114; ((with_reducible refine (hDn _).mono ?_); rintro e w' ⟨rfl, rfl⟩)) | (go_at_call 116; refine (hK _).mono ?_; rintro e w2 ⟨rfl, hb⟩; obtain ⟨hc, hf⟩ := bcell hb; have hsz2 := hb.size; simp at hsz2) | (go_at_call 93; refine (hM _).mono ?_; rintro e w' ⟨rfl, rfl⟩))
            exact bodyPost_ret (v := .tuple #[.agg #[.int .i64 0, .string ⟨#[]⟩, .int .i64 0, .int .i64 0], .int .i64 0, .int .i64 12]) (by simp [results, Tryz.results66, go_sem, hc]) rfl (nx_bad HR (by decide) (Or.inr ⟨by decide, rfl⟩) (below_set4 (below_call hb) _ _ _ _))
        · rw [if_neg h12] at hr
          have e12 : decide (n ≤ 12) = true := decide_eq_true (by omega)
          rw [e12] at hM
          have HR := Lib.hid hr
          clear hr h12 e12
          rcases hx with ⟨hx, _⟩ | ⟨hx, hLn, hDn⟩
          all_goals
            go_wp2_with (first | (go_at_call 113; ((with_reducible refine (hL _).mono ?_); rintro e w' ⟨rfl, rfl⟩)) | (go_at_call 113; ((with_reducible refine (hLn _).mono ?_); rintro e w' ⟨rfl, rfl⟩)) | (go_at_call 114; ((with_reducible refine (hD _).mono ?_); rintro e w' ⟨rfl, rfl⟩)) | (go_at_call 114; ((with_reducible refine (hDn _).mono ?_); rintro e w' ⟨rfl, rfl⟩)) | (go_at_call 116; refine (hK _).mono ?_; rintro e w2 ⟨rfl, hb⟩; obtain ⟨hc, hf⟩ := bcell hb; have hsz2 := hb.size; simp at hsz2) | (go_at_call 93; refine (hM _).mono ?_; rintro e w' ⟨rfl, rfl⟩))
            exact bodyPost_ret (v := .tuple #[.agg #[.int .i64 1, .string (s.extract 0 n), .int .i64 0, .int .i64 0], .int .i64 n, .int .i64 0]) (by simp [results, Tryz.results66, go_sem, hc]) rfl (nx_tok HR (ext0 s n) (below_set4 (below_call hb) _ _ _ _))

end Go.Proofs.YtbjacclfhgnffaaGreatDoor.Tk
/-
  Contract of the document's answer: next, whatever the text begins with.
-/
namespace Go.Proofs.YtbjacclfhgnffaaGreatDoor.Tk
open Go.RowKit

set_option maxHeartbeats 4000000 in
set_option maxRecDepth 100000 in
theorem next_quo (s : ByteArray) (w : World) (hs : s.size ≤ 140737488355328) (h0 : 0 < s.size) (hd : digB s[0] = false) (hl0 : letB s[0] = false) (h39 : s[0] = 39) (r : Tk) (hr : r = chrT s.data.toList) :
    Calls Tryz.prog 66 #[.string s] w (NxPost r s.data.toList w) := by
  have hL := fun w => rlet_any s[0] w
  have hD := fun w => rdig_any s[0] w
  rw [hl0] at hL
  rw [hd] at hD
  have e39 : ((s[0].toNat : Int) == 39) = true := beq_of (by rw [h39]; rfl)
  have hQ := fun w => quo_any s w hs
  rw [← hr] at hQ
  have hcs := chrT_cases s.data.toList
  rw [← hr] at hcs
  have hsz := Lib.hid (Lib.size_eq s)
  clear hr hd hl0 h39
  rcases hcs with hq | ⟨hl, v, hq⟩ | ⟨hl, v, hq⟩
  · have HR := Lib.hid hq
    rw [hq] at hQ
    clear hq
    go_enter Tryz.func66, Tryz.ntmps66
    go_wp2_with (first | (go_at_call 113; refine (hL _).mono ?_; rintro e w' ⟨rfl, rfl⟩) | (go_at_call 114; refine (hD _).mono ?_; rintro e w' ⟨rfl, rfl⟩) | (go_at_call 117; refine (hQ _).mono ?_; rintro e w' ⟨rfl, rfl⟩; simp only [tkN, tkL]))
    exact bodyPost_ret (v := .tuple #[.agg #[.int .i64 0, .string ⟨#[]⟩, .int .i64 0, .int .i64 0], .int .i64 0, .int .i64 1]) (by simp [results, Tryz.results66, go_sem]) rfl (nx_bad HR (by decide) (Or.inr ⟨by decide, rfl⟩) ((Below.refl _ _).alloc (Nat.le_refl _) _))
  · have HR := Lib.hid hq
    rw [hq] at hQ
    have hl4 : 4 ≤ s.size := by have := hsz.out; omega
    clear hq
    go_enter Tryz.func66, Tryz.ntmps66
    go_wp2_with (first | (go_at_call 113; refine (hL _).mono ?_; rintro e w' ⟨rfl, rfl⟩) | (go_at_call 114; refine (hD _).mono ?_; rintro e w' ⟨rfl, rfl⟩) | (go_at_call 117; refine (hQ _).mono ?_; rintro e w' ⟨rfl, rfl⟩; simp only [tkN, tkL]))
    exact bodyPost_ret (v := .tuple #[.agg #[.int .i64 2, .string (s.extract 0 4), .int .i64 v, .int .i64 0], .int .i64 4, .int .i64 0]) (by simp [results, Tryz.results66, go_sem]) rfl (nx_tok HR (ext0 s 4) ((Below.refl _ _).alloc (Nat.le_refl _) _))
  · have HR := Lib.hid hq
    rw [hq] at hQ
    have hl4 : 3 ≤ s.size := by have := hsz.out; omega
    clear hq
    go_enter Tryz.func66, Tryz.ntmps66
    go_wp2_with (first | (go_at_call 113; refine (hL _).mono ?_; rintro e w' ⟨rfl, rfl⟩) | (go_at_call 114; refine (hD _).mono ?_; rintro e w' ⟨rfl, rfl⟩) | (go_at_call 117; refine (hQ _).mono ?_; rintro e w' ⟨rfl, rfl⟩; simp only [tkN, tkL]))
    exact bodyPost_ret (v := .tuple #[.agg #[.int .i64 2, .string (s.extract 0 3), .int .i64 v, .int .i64 0], .int .i64 3, .int .i64 0]) (by simp [results, Tryz.results66, go_sem]) rfl (nx_tok HR (ext0 s 3) ((Below.refl _ _).alloc (Nat.le_refl _) _))

theorem tok_block {w w2 : World} (hb : Below (w.alloc (.cells #[.int .i64 0, .string ⟨#[]⟩, .int .i64 0, .int .i64 0] 82)).heap.size (w.alloc (.cells #[.int .i64 0, .string ⟨#[]⟩, .int .i64 0, .int .i64 0] 82)) w2) :
    w2.frozen? ⟨w.heap.size, 0, none⟩ = false ∧ w2.frozen? ⟨w.heap.size, 1, none⟩ = false ∧ w2.frozen? ⟨w.heap.size, 2, none⟩ = false ∧ w2.frozen? ⟨w.heap.size, 3, none⟩ = false ∧
    w2.cell? ⟨w.heap.size, 0, none⟩ = some (.int .i64 0) ∧ w2.cell? ⟨w.heap.size, 1, none⟩ = some (.string ⟨#[]⟩) ∧ w2.cell? ⟨w.heap.size, 2, none⟩ = some (.int .i64 0) ∧ w2.cell? ⟨w.heap.size, 3, none⟩ = some (.int .i64 0) := by
  have h : w2.heap[w.heap.size]? = some (.cells #[.int .i64 0, .string ⟨#[]⟩, .int .i64 0, .int .i64 0] 82 (0, 0)) := by
    rw [hb.block w.heap.size (by simp)]; exact heap_alloc_new w _
  refine ⟨?_, ?_, ?_, ?_, ?_, ?_, ?_, ?_⟩ <;> simp [World.cell?, World.frozen?, h]
theorem sgnF_cap (l : List UInt8) (k : Nat) : k ≤ l.length → sgnF l (min (k + 1) l.length) = if k + 1 ≤ l.length ∧ signB (l.take (k + 1)) = true then .tok 4 (k + 1) 0 else sgnF l (min k l.length) := by
  intro hk
  by_cases h : k + 1 ≤ l.length
  · rw [Nat.min_eq_left h, Nat.min_eq_left hk]
    show (if _ then _ else _) = _
    by_cases hs : signB (l.take (k + 1)) = true
    · rw [if_pos hs, if_pos ⟨h, hs⟩]
    · rw [if_neg hs, if_neg fun h => hs h.2]
  · rw [if_neg fun h2 => h h2.1, Nat.min_eq_right (by omega), Nat.min_eq_right (by omega)]
theorem sgnF_step (l : List UInt8) (k : Nat) : sgnF l (min (k + 1) l.length) = if k + 1 ≤ l.length ∧ signB (l.take (k + 1)) = true then .tok 4 (k + 1) 0 else sgnF l (min k l.length) := by
  by_cases hk : k ≤ l.length
  · exact sgnF_cap l k hk
  · rw [if_neg fun h2 => hk (by omega), Nat.min_eq_right (by omega), Nat.min_eq_right (by omega)]

set_option maxHeartbeats 4000000 in
set_option maxRecDepth 100000 in
theorem next_sgn (s : ByteArray) (w : World) (_hs : s.size ≤ 140737488355328) (h0 : 0 < s.size) (hd : digB s[0] = false) (hl0 : letB s[0] = false) (h39 : s[0] ≠ 39) (r : Tk) (hr : r = sgnT s.data.toList) :
    Calls Tryz.prog 66 #[.string s] w (NxPost r s.data.toList w) := by
  have hL := fun w => rlet_any s[0] w
  have hD := fun w => rdig_any s[0] w
  rw [hl0] at hL
  rw [hd] at hD
  have e39 : ((s[0].toNat : Int) == 39) = false := u8_ne h39
  have hsz := Lib.hid (Lib.size_eq s)
  have HR := Lib.hid hr
  clear hr hd hl0 h39
  go_enter Tryz.func66, Tryz.ntmps66
  go_wp2_with (first | (go_at_call 113; refine (hL _).mono ?_; rintro e w' ⟨rfl, rfl⟩) | (go_at_call 114; refine (hD _).mono ?_; rintro e w' ⟨rfl, rfl⟩))
  go_loopw [11] (fun v wr => ∃ k : Nat, k ≤ 3 ∧ v = .int .i64 k ∧ Hid (r = sgnF s.data.toList (min k s.data.toList.length)) ∧ Below (w.alloc (.cells #[.int .i64 0, .string ⟨#[]⟩, .int .i64 0, .int .i64 0] 82)).heap.size (w.alloc (.cells #[.int .i64 0, .string ⟨#[]⟩, .int .i64 0, .int .i64 0] 82)) wr) (fun v _ => (intOf v).toNat)
  case atStart => exact ⟨3, by omega, rfl, HR.out, Below.refl _ _⟩
  case round =>
    obtain ⟨k, hk3, rfl, HK, hb⟩ := hrel
    obtain ⟨hc, hf⟩ := bcell hb
    have hz := hb.size
    simp at hz
    have HB := Lib.hid hb
    clear hb
    cases k with
    | zero =>
      have HB2 : Hid (r = .bad 1) := HK.out.trans (by rw [Nat.zero_min]; rfl)
      go_wp2
      exact bodyPost_ret (v := .tuple #[.agg #[.int .i64 0, .string ⟨#[]⟩, .int .i64 0, .int .i64 0], .int .i64 0, .int .i64 1]) (by simp [results, Tryz.results66, go_sem, hc]) rfl (nx_bad HB2 (by decide) (Or.inr ⟨by decide, rfl⟩) (below_set4 (below_call HB.out) _ _ _ _))
    | succ n =>
      have hstep := HK.out.trans (sgnF_step s.data.toList n)
      by_cases hl : n + 1 ≤ s.size
      · have hl2 : n + 1 ≤ s.data.toList.length := by have := hsz.out; omega
        have hS := fun w => rSign_any (s.extract 0 (n + 1)) w
        rw [ext0_data] at hS
        cases hq : signB (s.data.toList.take (n + 1)) with
        | true =>
          rw [if_pos ⟨hl2, hq⟩] at hstep
          have HR2 := Lib.hid hstep
          rw [hq] at hS
          clear hstep HK hq hl2
          go_wp2_with (go_at_call 118; refine (hS _).mono ?_)
          rintro e w3 ⟨rfl, hb3⟩
          have hb4 := HB.out.trans (hb3.mono (by have := HB.out.size; exact this))
          obtain ⟨f0, f1, f2, f3, c0, c1, c2, c3⟩ := tok_block hb4
          have hz3 := hb4.size
          simp at hz3
          clear hc hf hb3
          go_wp2
          exact bodyPost_ret (v := .tuple #[.agg #[.int .i64 4, .string (s.extract 0 (n + 1)), .int .i64 0, .int .i64 0], .int .i64 ((n : Int) + 1), .int .i64 0]) (by simp [results, Tryz.results66, go_sem, c0, c1, c2, c3]) rfl (nx_tok HR2 (ext0 s (n + 1)) (below_set4 (below_call hb4) _ _ _ _))
        | false =>
          rw [if_neg (by rw [hq]; exact fun h => by cases h.2)] at hstep
          have HR2 := Lib.hid hstep
          rw [hq] at hS
          clear hstep HK hq hl2
          go_wp2_with (go_at_call 118; refine (hS _).mono ?_)
          rintro e w3 ⟨rfl, hb3⟩
          have hb4 := HB.out.trans (hb3.mono (by have := HB.out.size; exact this))
          clear hc hf hb3
          go_wp2
          go_roundw
          case rel => exact ⟨n, by omega, by go_num, HR2, hb4⟩
          case measure => simp [intOf]
      · rw [if_neg (by have := hsz.out; omega)] at hstep
        have HR2 := Lib.hid hstep
        clear hstep HK
        go_wp2
        go_roundw
        case rel => exact ⟨n, by omega, by go_num, HR2, HB.out⟩
        case measure => simp [intOf]

/-- next: the word with which a text that is not empty begins -/
theorem next_any (s : ByteArray) (w : World) (hs : s.size ≤ 140737488355328) (h0 : 0 < s.size) :
    Calls Tryz.prog 66 #[.string s] w (NxPost (fstT s.data.toList) s.data.toList w) := by
  obtain ⟨c, l, hL⟩ : ∃ c l, s.data.toList = c :: l := by
    cases e : s.data.toList with
    | nil => have := (nil_iff s).1 e; omega
    | cons c l => exact ⟨c, l, rfl⟩
  have hc0 : s[0] = c := by have := getD_idx s 0 h0; rw [hL] at this; exact this.symm
  have hW : fstT s.data.toList = if digB c = true then numT (s.data.toList.take (preN wordB s.data.toList)) else if wordB c = true then wrdT (s.data.toList.take (preN wordB s.data.toList)) else if c = 39 then chrT s.data.toList else sgnT s.data.toList := by
    rw [hL]; rfl
  rw [← hc0] at hW
  cases h1 : digB s[0] with
  | true => rw [h1, if_pos rfl] at hW; exact next_dig s w hs h0 h1 _ hW
  | false =>
    rw [h1, if_neg (by decide)] at hW
    cases h2 : wordB s[0] with
    | true =>
      rw [h2, if_pos rfl] at hW
      exact next_let s w hs h0 h1 ((let_word.2 h2).resolve_right (by simp [h1])) _ hW
    | false =>
      rw [h2, if_neg (by decide)] at hW
      have h3 := (not_word h2).1
      by_cases h39 : s[0] = 39
      · rw [if_pos h39] at hW; exact next_quo s w hs h0 h1 h3 h39 _ hW
      · rw [if_neg h39] at hW; exact next_sgn s w hs h0 h1 h3 h39 _ hW
end Go.Proofs.YtbjacclfhgnffaaGreatDoor.Tk
/-
  Contract of the document's answer: fault; and what the plain relation says of comments, byte by byte.
-/
namespace Go.Proofs.YtbjacclfhgnffaaGreatDoor.Tk
open Go.RowKit

set_option maxHeartbeats 1000000 in
theorem fault_any (c a : Int) (w : World) :
    Calls Tryz.prog 47 #[.int .i64 c, .int .i64 a] w fun e w' => e = .returned (.agg #[.int .i64 c, .int .i64 a]) ∧ w' = w.alloc (.cells #[.int .i64 c, .int .i64 a] 26) := by
  go_enter Tryz.func47, Tryz.ntmps47
  go_wp2
  exact bodyPost_ret (v := .agg #[.int .i64 c, .int .i64 a]) (by simp [results, Tryz.results47, go_sem]) rfl ⟨rfl, rfl⟩

theorem pre2_iff {l : List UInt8} {k : Nat} (hk : k < l.length) (x y : UInt8) : Lib.hasPrefix (l.drop k) [x, y] = true ↔ l[k] = x ∧ ∃ h : k + 1 < l.length, l[k + 1] = y := by
  rw [List.drop_eq_getElem_cons hk]
  by_cases h1 : k + 1 < l.length
  · rw [List.drop_eq_getElem_cons h1]
    show ((x == l[k]) && ((y == l[k + 1]) && true)) = true ↔ _
    simp only [Bool.and_true, Bool.and_eq_true, beq_iff_eq]
    exact ⟨fun ⟨a, b⟩ => ⟨a.symm, h1, b.symm⟩, fun ⟨a, _, b⟩ => ⟨a.symm, b.symm⟩⟩
  · rw [List.drop_eq_nil_of_le (by omega)]
    simp [Lib.hasPrefix, h1]
theorem skp_line {l : List UInt8} {k : Nat} (hk : k < l.length) (h0 : blankB l[k] = false) (h : Lib.hasPrefix (l.drop k) [47, 47] = true) : skp (l.drop k) = .skip (preN nlB (l.drop k)) ∧ 1 ≤ preN nlB (l.drop k) := by
  have hc : cmtT (l.drop k) = ((preN nlB (l.drop k) : Int), false) := if_pos h
  have h1 := (pre2_iff hk 47 47).1 h
  have hp : 1 ≤ preN nlB (l.drop k) := by
    rw [List.drop_eq_getElem_cons hk]
    exact preN_pos (by rw [h1.1]; decide)
  refine ⟨?_, hp⟩
  have e := List.drop_eq_getElem_cons hk
  have h2 : (cmtT (l[k] :: l.drop (k + 1))).2 = false := by rw [← e, hc]
  have h3 : (cmtT (l[k] :: l.drop (k + 1))).1 ≠ 0 := by rw [← e, hc]; show ((preN nlB (l.drop k) : Nat) : Int) ≠ 0; omega
  have h4 := skp_more h0 h2 h3
  rw [← e, hc] at h4
  simpa using h4
theorem skp_block {l : List UInt8} {k : Nat} (hk : k < l.length) (h0 : blankB l[k] = false) (h : Lib.hasPrefix (l.drop k) [47, 42] = true) :
    (Lib.index (l.drop (k + 2)) [42, 47] < 0 → skp (l.drop k) = .opens) ∧ (∀ i : Nat, Lib.index (l.drop (k + 2)) [42, 47] = i → skp (l.drop k) = .skip (i + 4)) := by
  have h1 := (pre2_iff hk 47 42).1 h
  have hnl : Lib.hasPrefix (l.drop k) [47, 47] = false := by
    cases e : Lib.hasPrefix (l.drop k) [47, 47] with
    | false => rfl
    | true =>
      obtain ⟨_, h5⟩ := h1
      obtain ⟨_, h6⟩ := (pre2_iff hk 47 47).1 e
      obtain ⟨a, b⟩ := h5
      obtain ⟨_, d⟩ := h6
      rw [b] at d
      exact absurd d (by decide)
  have e := List.drop_eq_getElem_cons hk
  have hdd : (l.drop k).drop 2 = l.drop (k + 2) := by rw [List.drop_drop]
  constructor
  · intro hi
    have hc : cmtT (l.drop k) = (0, true) := by unfold cmtT; rw [if_neg (by simp [hnl]), if_neg (by simp [h]), hdd, if_pos hi]
    have h4 := skp_open (c := l[k]) (l := l.drop (k + 1)) h0 (by rw [← e, hc])
    rw [← e] at h4
    exact h4
  · intro i hi
    have hc : cmtT (l.drop k) = ((i : Int) + 4, false) := by unfold cmtT; rw [if_neg (by simp [hnl]), if_neg (by simp [h]), hdd, if_neg (by omega), hi]
    have h4 := skp_more (c := l[k]) (l := l.drop (k + 1)) h0 (by rw [← e, hc]) (by rw [← e, hc]; show (i : Int) + 4 ≠ 0; omega)
    rw [← e, hc] at h4
    rw [h4]
    congr 1
theorem skp_none {l : List UInt8} {k : Nat} (hk : k < l.length) (h0 : blankB l[k] = false) (h1 : Lib.hasPrefix (l.drop k) [47, 47] = false) (h2 : Lib.hasPrefix (l.drop k) [47, 42] = false) : skp (l.drop k) = .word := by
  have e := List.drop_eq_getElem_cons hk
  have hc : cmtT (l.drop k) = (0, false) := by unfold cmtT; rw [if_neg (by simp [h1]), if_pos h2]
  have h4 := skp_word (c := l[k]) (l := l.drop (k + 1)) h0 (by rw [← e, hc]) (by rw [← e, hc])
  rw [← e] at h4
  exact h4
theorem occ2 {l : List UInt8} {j : Nat} : Lib.occAt l [42, 47] j = true ↔ l[j]? = some 42 ∧ l[j + 1]? = some 47 := by
  unfold Lib.occAt
  by_cases h : j < l.length
  · rw [List.drop_eq_getElem_cons h]
    by_cases h1 : j + 1 < l.length
    · rw [List.drop_eq_getElem_cons h1]
      rw [List.getElem?_eq_getElem h, List.getElem?_eq_getElem h1]
      show ((42 == l[j]) && ((47 == l[j + 1]) && true)) = true ↔ _
      simp only [Bool.and_true, Bool.and_eq_true, beq_iff_eq, Option.some.injEq]
      exact ⟨fun ⟨a, b⟩ => ⟨a.symm, b.symm⟩, fun ⟨a, b⟩ => ⟨a.symm, b.symm⟩⟩
    · rw [List.drop_eq_nil_of_le (by omega)]
      simp [List.getElem?_eq_none (show l.length ≤ j + 1 by omega)]
  · rw [List.drop_eq_nil_of_le (by omega)]
    simp [List.getElem?_eq_none (show l.length ≤ j by omega)]
/-- no comment's end before place i -/
def NoEnd (l : List UInt8) (i : Nat) : Prop := ∀ j, j < i → Lib.occAt l [42, 47] j = false
theorem noEnd_zero (l : List UInt8) : NoEnd l 0 := fun j h => by omega
theorem noEnd_succ {l : List UInt8} {i : Nat} (h : NoEnd l i) (hn : ¬ (l[i]? = some 42 ∧ l[i + 1]? = some 47)) : NoEnd l (i + 1) := fun j hj => by
  by_cases e : j = i
  · subst e
    cases ho : Lib.occAt l [42, 47] j with
    | false => rfl
    | true => exact absurd (occ2.1 ho) hn
  · exact h j (by omega)
theorem noEnd_hit {l : List UInt8} {i : Nat} (h : NoEnd l i) (h1 : l[i]? = some 42) (h2 : l[i + 1]? = some 47) : Lib.index l [42, 47] = i := by
  have hl : i < l.length := (List.getElem?_eq_some_iff.1 h1).1
  exact Lib.index_first (by omega) (occ2.2 ⟨h1, h2⟩) h
theorem noEnd_none {l : List UInt8} {i : Nat} (h : NoEnd l i) (hl : l.length ≤ i + 1) : Lib.index l [42, 47] < 0 := by
  have : Lib.index l [42, 47] = -1 := Lib.index_none fun j _ => by
    by_cases e : j < i
    · exact h j e
    · cases ho : Lib.occAt l [42, 47] j with
      | false => rfl
      | true =>
        have := (List.getElem?_eq_some_iff.1 (occ2.1 ho).2).1
        omega
  omega

/-- what holds at the head of each round of the document's Scan -/
structure RInv (s : ByteArray) (w : World) (B : Nat) (v : Value) (wr : World) (k : Nat) (acc : List T4) : Prop where
  kle : k ≤ s.size
  res : wr.heap[B]? = some (.cells #[.int .i64 0, .int .i64 0] 26 (0, 0))
  own : wr.ownsRow (B + 1) 82 4 v acc.length (rowOf acc)
  below : Below B w wr
  few : acc.length ≤ 800
  rest : ∀ r, Scans k (s.data.toList.drop k) acc r → Scans 0 s.data.toList [] r
theorem rInv_len {s : ByteArray} {w : World} {B : Nat} {v : Value} {wr : World} {k : Nat} {acc : List T4} (h : RInv s w B v wr k acc) : ∃ p cap, v = .slice p acc.length cap ∧ acc.length ≤ 800 := by
  rcases h.own.2 with ⟨rfl, h0⟩ | ⟨g, cap, cur, hv, _⟩
  · rw [h0]; exact ⟨none, 0, rfl, by omega⟩
  · exact ⟨_, _, hv, h.few⟩
theorem rInv_skip {s : ByteArray} {w : World} {B : Nat} {v : Value} {wr : World} {k n : Nat} {acc : List T4} (h : RInv s w B v wr k acc) (hs : skp (s.data.toList.drop k) = .skip n) (hn : k + n ≤ s.size) : RInv s w B v wr (k + n) acc :=
  { h with kle := hn, rest := fun r hr => h.rest r (.skip hs (by rw [List.drop_drop]; exact hr)) }
end Go.Proofs.YtbjacclfhgnffaaGreatDoor.Tk
