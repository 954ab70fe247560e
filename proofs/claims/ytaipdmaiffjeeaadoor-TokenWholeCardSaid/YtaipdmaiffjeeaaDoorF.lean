/-
  Contract of first: the word with which a text begins, or what is wrong with it.
-/
import Derived.Test.YtaipdmaiffjeeaaDoorE
namespace Go.Proofs.YtaipdmaiffjeeaaDoor
open Go.RowKit

def fstT : List UInt8 → Tk
  | [] => .bad 1
  | c :: l => if digB c = true then numT ((c :: l).take (preN wordB (c :: l))) else if wordB c = true then wrdT ((c :: l).take (preN wordB (c :: l))) else if c = 39 then chrT (c :: l) else sgnT (c :: l)

theorem tk_open {r : Tk} {l : List UInt8} {w w' : World} {e : Ending} (h : TkPost r l w e w') :
    ∃ (k v c : Int) (t : ByteArray), e = .returned (.tuple #[.agg #[.int .i64 k, .string t, .int .i64 v, .int .i64 0], .int .i64 c]) ∧ Hid (tkV l r = .agg #[.int .i64 k, .string t, .int .i64 v, .int .i64 0] ∧ tkCode r = c) ∧ Below w.heap.size w w' := by
  obtain ⟨rfl, hb⟩ := h
  cases r with
  | bad c => exact ⟨_, _, _, _, rfl, ⟨rfl, rfl⟩, hb⟩
  | tok k n v => exact ⟨_, _, _, _, rfl, ⟨rfl, rfl⟩, hb⟩
theorem post_open {r : Tk} {l : List UInt8} {w w' : World} {k v c : Int} {t : ByteArray}
    (h : Hid (tkV l r = .agg #[.int .i64 k, .string t, .int .i64 v, .int .i64 0] ∧ tkCode r = c)) (hb : Below w.heap.size w w') :
    TkPost r l w (.returned (.tuple #[.agg #[.int .i64 k, .string t, .int .i64 v, .int .i64 0], .int .i64 c])) w' := by
  obtain ⟨h1, h2⟩ := h.out
  exact ⟨by rw [h1, h2], hb⟩
/-- a word that is the whole of its own text -/
def Full (r : Tk) (n : Nat) : Prop := ∀ k m v, r = .tok k m v → m = n
theorem wrdT_full (t : List UInt8) : Full (wrdT t) t.length := by
  intro k m v h
  unfold wrdT at h
  split at h
  · cases h; rfl
  · split at h
    · cases h
    · cases h; rfl
theorem numD_full (b : Nat) (p : UInt8 → Bool) (ds t : List UInt8) : Full (numD b p ds t) t.length := by
  intro k m v h
  unfold numD at h
  split at h
  · cases h
  · split at h
    · cases h; rfl
    · cases h
theorem numT_full (t : List UInt8) : Full (numT t) t.length := by
  intro k m v h
  unfold numT at h
  split at h
  · split at h
    · cases h
    · exact numD_full _ _ _ _ k m v h
  · exact numD_full _ _ _ _ k m v h
theorem full_tkV {r : Tk} {l : List UInt8} {n : Nat} (hn : n ≤ l.length) (h : Full r (l.take n).length) : tkV (l.take n) r = tkV l r := by
  cases r with
  | bad c => rfl
  | tok k m v =>
    have := h k m v rfl
    rw [List.length_take, Nat.min_eq_left hn] at this
    subst this
    simp only [tkV, List.take_take, Nat.min_self]
set_option maxHeartbeats 4000000 in
theorem fst_any (s : ByteArray) (w : World) (hs : s.size ≤ 140737488355328) (te : TypeId) (pe : Value) (hv : w.cell? ⟨2, 0, none⟩ = some (.iface te pe)) :
    Calls Tryd.prog 26 #[.string s] w (TkPost (fstT s.data.toList) s.data.toList w) := by
  by_cases h0 : s.size = 0
  · have hemp := emp_true h0
    have HR : Hid (fstT s.data.toList = .bad 1) := by show _ = _; rw [(nil_iff s).2 h0]; rfl
    go_enter Tryd.func26, Tryd.ntmps26
    go_wp2
    exact bodyPost_ret (v := .tuple #[.agg #[.int .i64 0, .string ⟨#[]⟩, .int .i64 0, .int .i64 0], .int .i64 1]) (by simp [results, Tryd.results26, go_sem]) rfl (post_bad HR ((Below.refl _ _).alloc (Nat.le_refl _) _))
  · have hemp := emp_false h0
    have hpos : 0 < s.size := by omega
    obtain ⟨c, l, hL⟩ : ∃ c l, s.data.toList = c :: l := by
      cases e : s.data.toList with
      | nil => exact absurd ((nil_iff s).1 e) h0
      | cons c l => exact ⟨c, l, rfl⟩
    have hc0 : s[0] = c := by have := getD_idx s 0 hpos; rw [hL] at this; exact this.symm
    obtain ⟨n, hn⟩ : ∃ n, n = preN wordB s.data.toList := ⟨_, rfl⟩
    have hnle : n ≤ s.data.toList.length := by rw [hn]; exact preN_le _ _
    have hnsz : n ≤ s.size := by rw [Lib.size_eq]; exact hnle
    have hpre := fun w => pre_word s w (by unfold maxLen; omega)
    rw [← hn] at hpre
    have hd : (s.extract 0 n).data.toList = s.data.toList.take n := ext0_data s n
    have hds : (s.extract 0 n).size ≤ 140737488355328 := by rw [Lib.size_eq, hd, List.length_take]; omega
    have hW : fstT s.data.toList = if digB c = true then numT (s.data.toList.take n) else if wordB c = true then wrdT (s.data.toList.take n) else if c = 39 then chrT s.data.toList else sgnT s.data.toList := by
      rw [hn, hL]; rfl
    have hdg := fun w => dig_any s[0] w
    have hwd := fun w => word_any s[0] w
    rw [hc0] at hdg hwd
    rw [hW]
    clear hW hn hL h0
    cases h1 : digB c with
    | true =>
      rw [h1] at hdg
      rw [if_pos rfl]
      have hN := fun w hv => num_any (s.extract 0 n) w hds te pe hv
      rw [hd] at hN
      have hT := Lib.hid (full_tkV hnle (numT_full (s.data.toList.take n)))
      clear hd h1 hwd hnle
      generalize s.data.toList.take n = t at *
      generalize numT t = r at *
      go_enter Tryd.func26, Tryd.ntmps26
      go_wp2_with (first | (go_at_call 41; refine (hdg _).mono ?_; rintro e w' ⟨rfl, rfl⟩) | (go_at_call 43; refine (hpre _).mono ?_; rintro e w' ⟨rfl, rfl⟩) | (go_at_call 42; refine (hN _ (hv_alloc hv _)).mono ?_))
      intro e W2 hp
      obtain ⟨k, v, cd, x, rfl, HH, hb⟩ := tk_open hp
      obtain ⟨hc, hf⟩ := bcell hb
      have hsz2 := hb.size
      simp at hsz2
      clear hp
      go_wp2
      have HH2 : Hid (tkV s.data.toList r = .agg #[.int .i64 k, .string x, .int .i64 v, .int .i64 0] ∧ tkCode r = cd) := ⟨hT.out ▸ HH.out.1, HH.out.2⟩
      exact bodyPost_ret (v := .tuple #[.agg #[.int .i64 k, .string x, .int .i64 v, .int .i64 0], .int .i64 cd]) (by simp [results, Tryd.results26, go_sem, hc]) rfl (post_open HH2 (below_set4 (below_call hb) _ _ _ _))
    | false =>
      rw [h1] at hdg
      rw [if_neg (by decide)]
      cases h2 : wordB c with
      | true =>
        rw [h2] at hwd
        rw [if_pos rfl]
        have hN := fun w => wrd_any (s.extract 0 n) w (by unfold maxLen; omega)
        rw [hd] at hN
        have hT := Lib.hid (full_tkV hnle (wrdT_full (s.data.toList.take n)))
        clear hd h1 h2 hnle
        generalize s.data.toList.take n = t at *
        generalize wrdT t = r at *
        go_enter Tryd.func26, Tryd.ntmps26
        go_wp2_with (first | (go_at_call 41; refine (hdg _).mono ?_; rintro e w' ⟨rfl, rfl⟩) | (go_at_call 44; refine (hwd _).mono ?_; rintro e w' ⟨rfl, rfl⟩) | (go_at_call 43; refine (hpre _).mono ?_; rintro e w' ⟨rfl, rfl⟩) | (go_at_call 45; refine (hN _).mono ?_))
        intro e W2 hp
        obtain ⟨k, v, cd, x, rfl, HH, hb⟩ := tk_open hp
        obtain ⟨hc, hf⟩ := bcell hb
        have hsz2 := hb.size
        simp at hsz2
        clear hp
        go_wp2
        have HH2 : Hid (tkV s.data.toList r = .agg #[.int .i64 k, .string x, .int .i64 v, .int .i64 0] ∧ tkCode r = cd) := ⟨hT.out ▸ HH.out.1, HH.out.2⟩
        exact bodyPost_ret (v := .tuple #[.agg #[.int .i64 k, .string x, .int .i64 v, .int .i64 0], .int .i64 cd]) (by simp [results, Tryd.results26, go_sem, hc]) rfl (post_open HH2 (below_set4 (below_call hb) _ _ _ _))
      | false =>
        rw [h2] at hwd
        rw [if_neg (by decide)]
        by_cases h39 : c = 39
        · rw [if_pos h39]
          have e3 : ((s[0].toNat : Int) == 39) = true := beq_of (by rw [hc0, h39]; rfl)
          have hN := fun w => chr_any s w hs
          rw [← hc0] at hdg hwd
          clear h39 hd h1 h2 hnle hc0 hpre
          generalize chrT s.data.toList = r at *
          go_enter Tryd.func26, Tryd.ntmps26
          go_wp2_with (first | (go_at_call 41; refine (hdg _).mono ?_; rintro e w' ⟨rfl, rfl⟩) | (go_at_call 44; refine (hwd _).mono ?_; rintro e w' ⟨rfl, rfl⟩) | (go_at_call 46; refine (hN _).mono ?_))
          intro e W2 hp
          obtain ⟨k, v, cd, x, rfl, HH, hb⟩ := tk_open hp
          obtain ⟨hc, hf⟩ := bcell hb
          have hsz2 := hb.size
          simp at hsz2
          clear hp
          go_wp2
          exact bodyPost_ret (v := .tuple #[.agg #[.int .i64 k, .string x, .int .i64 v, .int .i64 0], .int .i64 cd]) (by simp [results, Tryd.results26, go_sem, hc]) rfl (post_open HH (below_set4 (below_call hb) _ _ _ _))
        · rw [if_neg h39]
          have e3 : ((s[0].toNat : Int) == 39) = false := by rw [hc0]; exact u8_ne h39
          have hN := fun w => sgn_any s w hs
          rw [← hc0] at hdg hwd
          clear h39 hd h1 h2 hnle hc0 hpre
          generalize sgnT s.data.toList = r at *
          go_enter Tryd.func26, Tryd.ntmps26
          go_wp2_with (first | (go_at_call 41; refine (hdg _).mono ?_; rintro e w' ⟨rfl, rfl⟩) | (go_at_call 44; refine (hwd _).mono ?_; rintro e w' ⟨rfl, rfl⟩) | (go_at_call 47; refine (hN _).mono ?_))
          intro e W2 hp
          obtain ⟨k, v, cd, x, rfl, HH, hb⟩ := tk_open hp
          obtain ⟨hc, hf⟩ := bcell hb
          have hsz2 := hb.size
          simp at hsz2
          clear hp
          go_wp2
          exact bodyPost_ret (v := .tuple #[.agg #[.int .i64 k, .string x, .int .i64 v, .int .i64 0], .int .i64 cd]) (by simp [results, Tryd.results26, go_sem, hc]) rfl (post_open HH (below_set4 (below_call hb) _ _ _ _))
end Go.Proofs.YtaipdmaiffjeeaaDoor
