/-
  Joined texts of this claim: TkD, TkE, TkF.
-/
import Derived.Test.YtbjacclfhgnffaaGreatDoorY04
import Derived.Test.YtbjacclfhgnffaaGreatDoorY06
set_option linter.unusedVariables false
set_option linter.unusedSimpArgs false
/-
  Contracts of the functions that read one word of a text: word, number, character, sign, first.
-/
namespace Go.Proofs.YtbjacclfhgnffaaGreatDoor.Tk
open Go.RowKit

/-- the string of bytes -/
def bstr (l : List UInt8) : ByteArray := ⟨l.toArray⟩
/-- what one word is: a fault, or its kind, its length, its number -/
inductive Tk where
  | bad (code : Nat)
  | tok (kind len n : Nat)
def tkCode : Tk → Int | .bad c => c | .tok _ _ _ => 0
def tkV (l : List UInt8) : Tk → Value
  | .bad _ => .agg #[.int .i64 0, .string ⟨#[]⟩, .int .i64 0, .int .i64 0]
  | .tok k n v => .agg #[.int .i64 k, .string (bstr (l.take n)), .int .i64 v, .int .i64 0]
def TkPost (r : Tk) (l : List UInt8) (w : World) (e : Ending) (w' : World) : Prop :=
  e = .returned (.tuple #[tkV l r, .int .i64 (tkCode r)]) ∧ Below w.heap.size w w'

def wrdT (t : List UInt8) : Tk := if keyB t = true then .tok 3 t.length 0 else if 12 < t.length then .bad 12 else .tok 1 t.length 0

theorem bstr_all (s : ByteArray) : bstr (s.data.toList.take s.data.toList.length) = s := by
  rw [List.take_length]; exact Lib.mk_data s
theorem post_tok {r : Tk} {l : List UInt8} {w w' : World} {k n v : Nat} {s : ByteArray} (hr : Hid (r = .tok k n v)) (ht : bstr (l.take n) = s) (hb : Below w.heap.size w w') :
    TkPost r l w (.returned (.tuple #[.agg #[.int .i64 k, .string s, .int .i64 v, .int .i64 0], .int .i64 0])) w' := by
  subst ht
  have := hr.out
  subst this
  exact ⟨rfl, hb⟩
theorem post_bad {r : Tk} {l : List UInt8} {w w' : World} {c : Nat} (hr : Hid (r = .bad c)) (hb : Below w.heap.size w w') :
    TkPost r l w (.returned (.tuple #[.agg #[.int .i64 0, .string ⟨#[]⟩, .int .i64 0, .int .i64 0], .int .i64 c])) w' := by
  have := hr.out
  subst this
  exact ⟨rfl, hb⟩
/-- the cells and marks of a world that a call left -/
theorem bcell {W w1 : World} (hb : Below W.heap.size W w1) : (∀ b o, b < W.heap.size → w1.cell? ⟨b, o, none⟩ = W.cell? ⟨b, o, none⟩) ∧ (∀ b o, b < W.heap.size → w1.frozen? ⟨b, o, none⟩ = W.frozen? ⟨b, o, none⟩) :=
  ⟨fun b o h => hb.cell (p := ⟨b, o, none⟩) h, fun b o h => hb.frozen (p := ⟨b, o, none⟩) h⟩

set_option maxHeartbeats 1000000 in
theorem wrd_any (s : ByteArray) (w : World) (hs : s.size ≤ maxLen) :
    Calls Tryz.prog 190 #[.string s] w (TkPost (wrdT s.data.toList) s.data.toList w) := by
  unfold maxLen at hs
  have hsz := Lib.hid (Lib.size_eq s)
  cases hk : keyB s.data.toList with
  | true =>
    have HR : Hid (wrdT s.data.toList = .tok 3 s.data.toList.length 0) := if_pos hk
    go_enter Tryz.func190, Tryz.ntmps190
    go_wp2_with (go_at_call 222; refine (isKey_any _ _).mono ?_; rintro e w' ⟨rfl, rfl⟩)
    exact bodyPost_ret (v := .tuple #[.agg #[.int .i64 3, .string s, .int .i64 0, .int .i64 0], .int .i64 0]) (by simp [results, Tryz.results190, go_sem]) rfl (post_tok HR (bstr_all s) ((Below.refl _ _).alloc (Nat.le_refl _) _))
  | false =>
    by_cases hl : 12 < s.size
    · have HR : Hid (wrdT s.data.toList = .bad 12) := by show _ = _; unfold wrdT; rw [if_neg (by simp [hk]), if_pos (by have := hsz.out; omega)]
      go_enter Tryz.func190, Tryz.ntmps190
      go_wp2_with (go_at_call 222; refine (isKey_any _ _).mono ?_; rintro e w' ⟨rfl, rfl⟩)
      exact bodyPost_ret (v := .tuple #[.agg #[.int .i64 0, .string ⟨#[]⟩, .int .i64 0, .int .i64 0], .int .i64 12]) (by simp [results, Tryz.results190, go_sem]) rfl (post_bad HR ((Below.refl _ _).alloc (Nat.le_refl _) _))
    · have HR : Hid (wrdT s.data.toList = .tok 1 s.data.toList.length 0) := by show _ = _; unfold wrdT; rw [if_neg (by simp [hk]), if_neg (by have := hsz.out; omega)]
      go_enter Tryz.func190, Tryz.ntmps190
      go_wp2_with (go_at_call 222; refine (isKey_any _ _).mono ?_; rintro e w' ⟨rfl, rfl⟩)
      exact bodyPost_ret (v := .tuple #[.agg #[.int .i64 1, .string s, .int .i64 0, .int .i64 0], .int .i64 0]) (by simp [results, Tryz.results190, go_sem]) rfl (post_tok HR (bstr_all s) ((Below.refl _ _).alloc (Nat.le_refl _) _))

/-- digits of a base: the number that they spell, or a fault -/
def numD (b : Nat) (p : UInt8 → Bool) (ds t : List UInt8) : Tk :=
  if ds = [] ∨ preN p ds < ds.length then .bad 1 else if numN b 0 ds < 9223372036854775808 then .tok 2 t.length (numN b 0 ds) else .bad 3
def numT (t : List UInt8) : Tk :=
  if 1 < t.length ∧ t.getD 0 0 = 48 then (if t.getD 1 0 ≠ 120 ∧ t.getD 1 0 ≠ 88 then .bad 1 else numD 16 hexB (t.drop 2) t) else numD 10 digB t t

theorem preN_all {p : UInt8 → Bool} {l : List UInt8} (h : ¬ preN p l < l.length) : ∀ c ∈ l, p c = true := by
  unfold preN at h
  induction l with
  | nil => simp
  | cons c r ih =>
    rw [List.takeWhile_cons] at h
    by_cases hc : p c = true
    · rw [if_pos hc] at h
      intro x hx
      rcases List.mem_cons.1 hx with rfl | hx
      · exact hc
      · exact ih (by simpa using h) x hx
    · rw [if_neg hc] at h; simp at h

theorem hv_alloc {w : World} {te : TypeId} {pe : Value} (hv : w.cell? ⟨4, 0, none⟩ = some (.iface te pe)) (o : Obj) : (w.alloc o).cell? ⟨4, 0, none⟩ = some (.iface te pe) :=
  (((Below.refl w.heap.size w).alloc (Nat.le_refl _) o).cell (p := ⟨4, 0, none⟩) (Lib.lt_of_cell hv)).trans hv
theorem below_call {w W2 : World} {o : Obj} (hb : Below (w.alloc o).heap.size (w.alloc o) W2) : Below w.heap.size w W2 :=
  ((Below.refl _ _).alloc (Nat.le_refl _) _).trans (hb.mono (by simp))
theorem below_set4 {a w : World} (h : Below a.heap.size a w) (x0 x1 x2 x3 : Value) : Below a.heap.size a ((((w.setCell ⟨a.heap.size, 0, none⟩ x0).setCell ⟨a.heap.size, 1, none⟩ x1).setCell ⟨a.heap.size, 2, none⟩ x2).setCell ⟨a.heap.size, 3, none⟩ x3) :=
  (((h.setCell (p := ⟨a.heap.size, 0, none⟩) (Nat.le_refl _) x0).setCell (p := ⟨a.heap.size, 1, none⟩) (Nat.le_refl _) x1).setCell (p := ⟨a.heap.size, 2, none⟩) (Nat.le_refl _) x2).setCell (p := ⟨a.heap.size, 3, none⟩) (Nat.le_refl _) x3
theorem nil_iff (s : ByteArray) : s.data.toList = [] ↔ s.size = 0 := by
  rw [Lib.size_eq]; exact List.length_eq_zero_iff.symm
theorem emp_true {s : ByteArray} (h : s.size = 0) : s.toList.isEmpty = true := by rw [Lib.toList_data, (nil_iff s).2 h]; rfl
theorem emp_false {s : ByteArray} (h : s.size ≠ 0) : s.toList.isEmpty = false := by
  rw [Lib.toList_data]
  cases e : s.data.toList with
  | nil => exact absurd ((nil_iff s).1 e) h
  | cons => rfl
/-- where the decimal road is taken -/
def DecRoad (s : ByteArray) : Prop := (¬ 1 < s.size) ∨ (∃ h : 1 < s.size, ((s[0].toNat : Int) == 48) = false)

set_option maxHeartbeats 4000000 in
set_option maxRecDepth 100000 in
theorem num_dec (s : ByteArray) (w : World) (hs : s.size ≤ 140737488355328) (te : TypeId) (pe : Value) (hv : w.cell? ⟨4, 0, none⟩ = some (.iface te pe))
    (hz : DecRoad s) (r : Tk) (hr : numD 10 digB s.data.toList s.data.toList = r) :
    Calls Tryz.prog 187 #[.string s] w (TkPost r s.data.toList w) := by
  have hsz := Lib.hid (Lib.size_eq s)
  by_cases h0 : s.size = 0
  · have HR : Hid (r = .bad 1) := by
      show _ = _; rw [← hr]; exact if_pos (Or.inl ((nil_iff s).2 h0))
    have hemp := emp_true h0
    clear hr
    rcases hz with h1 | ⟨h1, _⟩
    · go_enter Tryz.func187, Tryz.ntmps187
      go_wp2
      exact bodyPost_ret (v := .tuple #[.agg #[.int .i64 0, .string ⟨#[]⟩, .int .i64 0, .int .i64 0], .int .i64 1]) (by simp [results, Tryz.results187, go_sem]) rfl (post_bad HR ((Below.refl _ _).alloc (Nat.le_refl _) _))
    · omega
  · have hemp := emp_false h0
    by_cases hp : preN digB s.data.toList < s.data.toList.length
    · have HR : Hid (r = .bad 1) := by
        show _ = _; rw [← hr]; exact if_pos (Or.inr hp)
      have hp' : (preN digB s.data.toList : Int) < s.size := by have := hsz.out; omega
      clear hr hp
      rcases hz with h1 | ⟨h1, h2⟩
      all_goals
        go_enter Tryz.func187, Tryz.ntmps187
        go_wp2_with (go_at_call 188; refine (pre_dig _ _ (by unfold maxLen; omega)).mono ?_; rintro e w' ⟨rfl, rfl⟩)
        exact bodyPost_ret (v := .tuple #[.agg #[.int .i64 0, .string ⟨#[]⟩, .int .i64 0, .int .i64 0], .int .i64 1]) (by simp [results, Tryz.results187, go_sem]) rfl (post_bad HR ((Below.refl _ _).alloc (Nat.le_refl _) _))
    · have hall := preN_all hp
      have hp' : ¬ (preN digB s.data.toList : Int) < s.size := by have := hsz.out; omega
      have hN : ¬ (s.data.toList = [] ∨ preN digB s.data.toList < s.data.toList.length) := fun h => h.elim (fun h => h0 ((nil_iff s).1 h)) hp
      have hPI := fun w2 hv2 => pI_10 s h0 (by omega) hall w2 te pe hv2
      clear hp hall
      by_cases hlt : numN 10 0 s.data.toList < 9223372036854775808
      · have HR : Hid (r = .tok 2 s.data.toList.length (numN 10 0 s.data.toList)) := by
          show _ = _; rw [← hr]; unfold numD; rw [if_neg hN, if_pos hlt]
        clear hr hN
        generalize numN 10 0 s.data.toList = n at *
        have Hlt := Lib.hid hlt
        clear hlt
        rcases hz with h1 | ⟨h1, h2⟩
        all_goals
          go_enter Tryz.func187, Tryz.ntmps187
          go_wp2_with (first | (go_at_call 188; refine (pre_dig _ _ (by unfold maxLen; omega)).mono ?_; rintro e w' ⟨rfl, rfl⟩) | (go_at_call 221; refine (hPI _ (hv_alloc hv _)).mono ?_))
          rintro e W2 ⟨ha, _, hb⟩
          obtain rfl := ha Hlt.out
          obtain ⟨hc, hf⟩ := bcell hb
          have hsz2 := hb.size
          simp at hsz2
          clear ha
          go_wp2
          refine bodyPost_ret (v := .tuple #[.agg #[.int .i64 2, .string s, .int .i64 n, .int .i64 0], .int .i64 0]) (by simp [results, Tryz.results187, go_sem, hc]) rfl (post_tok HR (bstr_all s) (below_set4 (below_call hb) _ _ _ _))
      · have HR : Hid (r = .bad 3) := by
          show _ = _; rw [← hr]; unfold numD; rw [if_neg hN, if_neg hlt]
        clear hr hN
        generalize numN 10 0 s.data.toList = n at *
        have Hlt := Lib.hid hlt
        clear hlt
        rcases hz with h1 | ⟨h1, h2⟩
        all_goals
          go_enter Tryz.func187, Tryz.ntmps187
          go_wp2_with (first | (go_at_call 188; refine (pre_dig _ _ (by unfold maxLen; omega)).mono ?_; rintro e w' ⟨rfl, rfl⟩) | (go_at_call 221; refine (hPI _ (hv_alloc hv _)).mono ?_))
          rintro e W2 ⟨_, ha, hb⟩
          obtain ⟨x, te2, pe2, rfl⟩ := ha Hlt.out
          obtain ⟨hc, hf⟩ := bcell hb
          have hsz2 := hb.size
          simp at hsz2
          clear ha
          go_wp2
          exact bodyPost_ret (v := .tuple #[.agg #[.int .i64 0, .string ⟨#[]⟩, .int .i64 0, .int .i64 0], .int .i64 3]) (by simp [results, Tryz.results187, go_sem, hc]) rfl (post_bad HR (below_set4 (below_call hb) _ _ _ _))

set_option maxHeartbeats 4000000 in
set_option maxRecDepth 100000 in
theorem num_hex (s : ByteArray) (w : World) (hs : s.size ≤ 140737488355328) (te : TypeId) (pe : Value) (hv : w.cell? ⟨4, 0, none⟩ = some (.iface te pe))
    (h1 : 1 < s.size) (h2 : ((s[0].toNat : Int) == 48) = true) (hx : ((s[1].toNat : Int) == 120) = true ∨ ((s[1].toNat : Int) == 120) = false ∧ ((s[1].toNat : Int) == 88) = true) (r : Tk) (hr : numD 16 hexB (s.data.toList.drop 2) s.data.toList = r) :
    Calls Tryz.prog 187 #[.string s] w (TkPost r s.data.toList w) := by
  have hd : (s.extract 2 s.size).data.toList = s.data.toList.drop 2 := by
    rw [Lib.extract_data, List.take_of_length_le (by rw [List.length_drop, Lib.size_eq]; omega)]
  have hds : (s.extract 2 s.size).size = s.size - 2 := by rw [Lib.size_eq, hd, List.length_drop, ← Lib.size_eq]
  have hsl : ∀ W, (Instr.slice 9 (.string s) (some (.int .i64 2)) none none).run Tryz.prog W = .ok (.string (s.extract 2 s.size)) W := fun W => by
    rw [run_slice_string_from_if W 9 s .i64 _ Tryz.underlying9, if_pos ⟨by omega, by omega⟩]
    rfl
  rw [← hd] at hr
  have Hds := Lib.hid hds
  clear hd hds
  generalize s.extract 2 s.size = d at *
  have hsz := Lib.hid (Lib.size_eq d)
  have hn1 : ((s[1].toNat : Int) != 120) = !((s[1].toNat : Int) == 120) := rfl
  have hn2 : ((s[1].toNat : Int) != 88) = !((s[1].toNat : Int) == 88) := rfl
  by_cases h0 : d.size = 0
  · have HR : Hid (r = .bad 1) := by
      show _ = _; rw [← hr]; exact if_pos (Or.inl ((nil_iff d).2 h0))
    have hemp := emp_true h0
    clear hr h0
    rcases hx with hx | ⟨hy, hx⟩
    all_goals
      (try rw [hx] at hn1) <;> (try rw [hy] at hn1) <;> (try rw [hx] at hn2)
      go_enter Tryz.func187, Tryz.ntmps187
      go_wp2
      exact bodyPost_ret (v := .tuple #[.agg #[.int .i64 0, .string ⟨#[]⟩, .int .i64 0, .int .i64 0], .int .i64 1]) (by simp [results, Tryz.results187, go_sem]) rfl (post_bad HR ((Below.refl _ _).alloc (Nat.le_refl _) _))
  · have hemp := emp_false h0
    by_cases hp : preN hexB d.data.toList < d.data.toList.length
    · have HR : Hid (r = .bad 1) := by
        show _ = _; rw [← hr]; exact if_pos (Or.inr hp)
      have hp' : (preN hexB d.data.toList : Int) < d.size := by have := hsz.out; omega
      clear hr hp h0
      rcases hx with hx | ⟨hy, hx⟩
      all_goals
        (try rw [hx] at hn1) <;> (try rw [hy] at hn1) <;> (try rw [hx] at hn2)
        go_enter Tryz.func187, Tryz.ntmps187
        go_wp2_with (go_at_call 188; refine (pre_hex _ _ (by have := Hds.out; unfold maxLen; omega)).mono ?_; rintro e w' ⟨rfl, rfl⟩)
        exact bodyPost_ret (v := .tuple #[.agg #[.int .i64 0, .string ⟨#[]⟩, .int .i64 0, .int .i64 0], .int .i64 1]) (by simp [results, Tryz.results187, go_sem]) rfl (post_bad HR ((Below.refl _ _).alloc (Nat.le_refl _) _))
    · have hall := preN_all hp
      have hp' : ¬ (preN hexB d.data.toList : Int) < d.size := by have := hsz.out; omega
      have hN : ¬ (d.data.toList = [] ∨ preN hexB d.data.toList < d.data.toList.length) := fun h => h.elim (fun h => h0 ((nil_iff d).1 h)) hp
      have hPI := fun w2 hv2 => pI_16 d h0 (by have := Hds.out; omega) hall w2 te pe hv2
      clear hp hall h0
      by_cases hlt : numN 16 0 d.data.toList < 9223372036854775808
      · have HR : Hid (r = .tok 2 s.data.toList.length (numN 16 0 d.data.toList)) := by
          show _ = _; rw [← hr]; unfold numD; rw [if_neg hN, if_pos hlt]
        clear hr hN
        generalize numN 16 0 d.data.toList = n at *
        have Hlt := Lib.hid hlt
        clear hlt
        rcases hx with hx | ⟨hy, hx⟩
        all_goals
          (try rw [hx] at hn1) <;> (try rw [hy] at hn1) <;> (try rw [hx] at hn2)
          go_enter Tryz.func187, Tryz.ntmps187
          go_wp2_with (first | (go_at_call 188; refine (pre_hex _ _ (by have := Hds.out; unfold maxLen; omega)).mono ?_; rintro e w' ⟨rfl, rfl⟩) | (go_at_call 221; refine (hPI _ (hv_alloc hv _)).mono ?_))
          rintro e W2 ⟨ha, _, hb⟩
          obtain rfl := ha Hlt.out
          obtain ⟨hc, hf⟩ := bcell hb
          have hsz2 := hb.size
          simp at hsz2
          clear ha
          go_wp2
          exact bodyPost_ret (v := .tuple #[.agg #[.int .i64 2, .string s, .int .i64 n, .int .i64 0], .int .i64 0]) (by simp [results, Tryz.results187, go_sem, hc]) rfl (post_tok HR (bstr_all s) (below_set4 (below_call hb) _ _ _ _))
      · have HR : Hid (r = .bad 3) := by
          show _ = _; rw [← hr]; unfold numD; rw [if_neg hN, if_neg hlt]
        clear hr hN
        generalize numN 16 0 d.data.toList = n at *
        have Hlt := Lib.hid hlt
        clear hlt
        rcases hx with hx | ⟨hy, hx⟩
        all_goals
          (try rw [hx] at hn1) <;> (try rw [hy] at hn1) <;> (try rw [hx] at hn2)
          go_enter Tryz.func187, Tryz.ntmps187
          go_wp2_with (first | (go_at_call 188; refine (pre_hex _ _ (by have := Hds.out; unfold maxLen; omega)).mono ?_; rintro e w' ⟨rfl, rfl⟩) | (go_at_call 221; refine (hPI _ (hv_alloc hv _)).mono ?_))
          rintro e W2 ⟨_, ha, hb⟩
          obtain ⟨x, te2, pe2, rfl⟩ := ha Hlt.out
          obtain ⟨hc, hf⟩ := bcell hb
          have hsz2 := hb.size
          simp at hsz2
          clear ha
          go_wp2
          exact bodyPost_ret (v := .tuple #[.agg #[.int .i64 0, .string ⟨#[]⟩, .int .i64 0, .int .i64 0], .int .i64 3]) (by simp [results, Tryz.results187, go_sem, hc]) rfl (post_bad HR (below_set4 (below_call hb) _ _ _ _))

set_option maxHeartbeats 4000000 in
theorem num_no (s : ByteArray) (w : World) (hs : s.size ≤ 140737488355328)
    (h1 : 1 < s.size) (h2 : ((s[0].toNat : Int) == 48) = true) (hx : ((s[1].toNat : Int) == 120) = false) (hy : ((s[1].toNat : Int) == 88) = false) (r : Tk) (hr : r = .bad 1) :
    Calls Tryz.prog 187 #[.string s] w (TkPost r s.data.toList w) := by
  have HR := Lib.hid hr
  clear hr
  have hn1 : ((s[1].toNat : Int) != 120) = true := by show (!((s[1].toNat : Int) == 120)) = true; rw [hx]; rfl
  have hn2 : ((s[1].toNat : Int) != 88) = true := by show (!((s[1].toNat : Int) == 88)) = true; rw [hy]; rfl
  go_enter Tryz.func187, Tryz.ntmps187
  go_wp2
  exact bodyPost_ret (v := .tuple #[.agg #[.int .i64 0, .string ⟨#[]⟩, .int .i64 0, .int .i64 0], .int .i64 1]) (by simp [results, Tryz.results187, go_sem]) rfl (post_bad HR ((Below.refl _ _).alloc (Nat.le_refl _) _))
theorem getD_idx (s : ByteArray) (k : Nat) (h : k < s.size) : s.data.toList.getD k 0 = s[k] := by
  have h2 : k < s.data.toList.length := by have := Lib.size_eq s; omega
  simp [List.getD, h]
  rfl
theorem beq_of {a b : Int} (h : a = b) : (a == b) = true := by simpa using h
theorem beq_of_ne {a b : Int} (h : a ≠ b) : (a == b) = false := by simpa using h
/-- number: what the digits spell -/
theorem num_any (s : ByteArray) (w : World) (hs : s.size ≤ 140737488355328) (te : TypeId) (pe : Value) (hv : w.cell? ⟨4, 0, none⟩ = some (.iface te pe)) :
    Calls Tryz.prog 187 #[.string s] w (TkPost (numT s.data.toList) s.data.toList w) := by
  have hsz := Lib.size_eq s
  by_cases h1 : 1 < s.size
  · have g0 := getD_idx s 0 (by omega)
    have g1 := getD_idx s 1 h1
    by_cases h2 : s[0] = 48
    · have hp : 1 < s.data.toList.length ∧ s.data.toList.getD 0 0 = 48 := ⟨by omega, by rw [g0, h2]⟩
      have e0 : ((s[0].toNat : Int) == 48) = true := beq_of (by rw [h2]; rfl)
      by_cases hx : s[1] = 120
      · have hT : numT s.data.toList = numD 16 hexB (s.data.toList.drop 2) s.data.toList := by
          unfold numT; rw [if_pos hp, if_neg (by rw [g1, hx]; decide)]
        exact num_hex s w hs te pe hv h1 e0 (Or.inl (beq_of (by rw [hx]; rfl))) _ hT.symm
      · have ex : ((s[1].toNat : Int) == 120) = false := beq_of_ne fun h => hx (UInt8.toNat_inj.1 (by show s[1].toNat = 120; omega))
        by_cases hy : s[1] = 88
        · have hT : numT s.data.toList = numD 16 hexB (s.data.toList.drop 2) s.data.toList := by
            unfold numT; rw [if_pos hp, if_neg (by rw [g1, hy]; decide)]
          exact num_hex s w hs te pe hv h1 e0 (Or.inr ⟨ex, beq_of (by rw [hy]; rfl)⟩) _ hT.symm
        · have ey : ((s[1].toNat : Int) == 88) = false := beq_of_ne fun h => hy (UInt8.toNat_inj.1 (by show s[1].toNat = 88; omega))
          exact num_no s w hs h1 e0 ex ey _ (by unfold numT; rw [if_pos hp, if_pos (by rw [g1]; exact ⟨hx, hy⟩)])
    · have hT : numT s.data.toList = numD 10 digB s.data.toList s.data.toList := by
        unfold numT; rw [if_neg (by rw [g0]; exact fun h => h2 h.2)]
      exact num_dec s w hs te pe hv (Or.inr ⟨h1, beq_of_ne fun h => h2 (UInt8.toNat_inj.1 (by show s[0].toNat = 48; omega))⟩) _ hT.symm
  · have hT : numT s.data.toList = numD 10 digB s.data.toList s.data.toList := by
      unfold numT; rw [if_neg (by omega)]
    exact num_dec s w hs te pe hv (Or.inl h1) _ hT.symm
end Go.Proofs.YtbjacclfhgnffaaGreatDoor.Tk
/-
  Contracts of character, sign and first: the word with which a text begins.
-/
namespace Go.Proofs.YtbjacclfhgnffaaGreatDoor.Tk
open Go.RowKit

def chrT (l : List UInt8) : Tk :=
  if l.length < 3 then .bad 1
  else if l.getD 1 0 = 92 then (if escV (l.getD 2 0) < 0 ∨ l.length < 4 ∨ l.getD 3 0 ≠ 39 then .bad 1 else .tok 2 4 (escV (l.getD 2 0)).toNat)
  else if plainB (l.getD 1 0) = true then (if l.getD 2 0 ≠ 39 then .bad 1 else .tok 2 3 (l.getD 1 0).toNat)
  else .bad 1
theorem ext0 (s : ByteArray) (n : Nat) : bstr (s.data.toList.take n) = s.extract 0 n := by
  rw [Lib.extract_eq]; rfl
theorem u8_ne {c d : UInt8} (h : c ≠ d) : ((c.toNat : Int) == (d.toNat : Int)) = false := beq_of_ne fun e => h (UInt8.toNat_inj.1 (by omega))
theorem u8_nb {c : UInt8} {n : Int} {b : Bool} (h : ((c.toNat : Int) == n) = b) : ((c.toNat : Int) != n) = !b := by rw [← h]; rfl

set_option maxHeartbeats 4000000 in
theorem chr_any (s : ByteArray) (w : World) (hs : s.size ≤ 140737488355328) :
    Calls Tryz.prog 191 #[.string s] w (TkPost (chrT s.data.toList) s.data.toList w) := by
  obtain ⟨r, hr⟩ : ∃ r, r = chrT s.data.toList := ⟨_, rfl⟩
  rw [← hr]
  unfold chrT at hr
  by_cases h3 : s.size < 3
  · rw [if_pos (by have := Lib.size_eq s; omega)] at hr
    have HR := Lib.hid hr
    clear hr
    go_enter Tryz.func191, Tryz.ntmps191
    go_wp2
    exact bodyPost_ret (v := .tuple #[.agg #[.int .i64 0, .string ⟨#[]⟩, .int .i64 0, .int .i64 0], .int .i64 1]) (by simp [results, Tryz.results191, go_sem]) rfl (post_bad HR ((Below.refl _ _).alloc (Nat.le_refl _) _))
  · rw [if_neg (by have := Lib.size_eq s; omega), getD_idx s 1 (by omega), getD_idx s 2 (by omega)] at hr
    by_cases h92 : s[1] = 92
    · rw [if_pos h92] at hr
      have e1 : ((s[1].toNat : Int) == 92) = true := beq_of (by rw [h92]; rfl)
      have hE := fun w => esc_any s[2] w
      clear h92
      generalize escV s[2] = x at hE hr
      by_cases hx : x < 0
      · rw [if_pos (Or.inl hx)] at hr
        have HR := Lib.hid hr
        clear hr
        go_enter Tryz.func191, Tryz.ntmps191
        go_wp2_with (go_at_call 223; refine (hE _).mono ?_; rintro e w' ⟨rfl, rfl⟩)
        exact bodyPost_ret (v := .tuple #[.agg #[.int .i64 0, .string ⟨#[]⟩, .int .i64 0, .int .i64 0], .int .i64 1]) (by simp [results, Tryz.results191, go_sem]) rfl (post_bad HR ((Below.refl _ _).alloc (Nat.le_refl _) _))
      · by_cases h4 : s.size < 4
        · rw [if_pos (Or.inr (Or.inl (by have := Lib.size_eq s; omega)))] at hr
          have HR := Lib.hid hr
          clear hr
          go_enter Tryz.func191, Tryz.ntmps191
          go_wp2_with (go_at_call 223; refine (hE _).mono ?_; rintro e w' ⟨rfl, rfl⟩)
          exact bodyPost_ret (v := .tuple #[.agg #[.int .i64 0, .string ⟨#[]⟩, .int .i64 0, .int .i64 0], .int .i64 1]) (by simp [results, Tryz.results191, go_sem]) rfl (post_bad HR ((Below.refl _ _).alloc (Nat.le_refl _) _))
        · rw [getD_idx s 3 (by omega)] at hr
          by_cases h39 : s[3] = 39
          · rw [if_neg (by intro h; rcases h with h | h | h; exact hx h; exact h4 (by have := Lib.size_eq s; omega); exact h h39)] at hr
            have e3 : ((s[3].toNat : Int) == 39) = true := beq_of (by rw [h39]; rfl)
            have n3 := u8_nb e3
            clear h39
            obtain ⟨n, rfl⟩ : ∃ n : Nat, x = n := ⟨x.toNat, by omega⟩
            rw [Int.toNat_natCast] at hr
            have HR := Lib.hid hr
            clear hr
            go_enter Tryz.func191, Tryz.ntmps191
            go_wp2_with (go_at_call 223; refine (hE _).mono ?_; rintro e w' ⟨rfl, rfl⟩)
            exact bodyPost_ret (v := .tuple #[.agg #[.int .i64 2, .string (s.extract 0 4), .int .i64 n, .int .i64 0], .int .i64 0]) (by simp [results, Tryz.results191, go_sem]) rfl (post_tok HR (ext0 s 4) ((Below.refl _ _).alloc (Nat.le_refl _) _))
          · rw [if_pos (Or.inr (Or.inr h39))] at hr
            have e3 : ((s[3].toNat : Int) == 39) = false := u8_ne h39
            have n3 := u8_nb e3
            clear h39
            have HR := Lib.hid hr
            clear hr
            go_enter Tryz.func191, Tryz.ntmps191
            go_wp2_with (go_at_call 223; refine (hE _).mono ?_; rintro e w' ⟨rfl, rfl⟩)
            exact bodyPost_ret (v := .tuple #[.agg #[.int .i64 0, .string ⟨#[]⟩, .int .i64 0, .int .i64 0], .int .i64 1]) (by simp [results, Tryz.results191, go_sem]) rfl (post_bad HR ((Below.refl _ _).alloc (Nat.le_refl _) _))
    · rw [if_neg h92] at hr
      have e1 : ((s[1].toNat : Int) == 92) = false := u8_ne h92
      clear h92
      have hP := fun w => plain_any s[1] w
      have hb1 : s[1].toNat < 256 := s[1].toNat_lt
      cases hp : plainB s[1] with
      | false =>
        rw [hp] at hr hP
        rw [if_neg (by decide)] at hr
        have HR := Lib.hid hr
        clear hr hp
        go_enter Tryz.func191, Tryz.ntmps191
        go_wp2_with (go_at_call 224; refine (hP _).mono ?_; rintro e w' ⟨rfl, rfl⟩)
        exact bodyPost_ret (v := .tuple #[.agg #[.int .i64 0, .string ⟨#[]⟩, .int .i64 0, .int .i64 0], .int .i64 1]) (by simp [results, Tryz.results191, go_sem]) rfl (post_bad HR ((Below.refl _ _).alloc (Nat.le_refl _) _))
      | true =>
        rw [hp] at hr hP
        rw [if_pos rfl] at hr
        clear hp
        by_cases h39 : s[2] = 39
        · rw [if_neg (by simp [h39])] at hr
          have e3 : ((s[2].toNat : Int) == 39) = true := beq_of (by rw [h39]; rfl)
          have n3 := u8_nb e3
          clear h39
          have HR := Lib.hid hr
          clear hr
          go_enter Tryz.func191, Tryz.ntmps191
          go_wp2_with (go_at_call 224; refine (hP _).mono ?_; rintro e w' ⟨rfl, rfl⟩)
          exact bodyPost_ret (v := .tuple #[.agg #[.int .i64 2, .string (s.extract 0 3), .int .i64 s[1].toNat, .int .i64 0], .int .i64 0]) (by simp [results, Tryz.results191, go_sem]) rfl (post_tok HR (ext0 s 3) ((Below.refl _ _).alloc (Nat.le_refl _) _))
        · rw [if_pos h39] at hr
          have e3 : ((s[2].toNat : Int) == 39) = false := u8_ne h39
          have n3 := u8_nb e3
          clear h39
          have HR := Lib.hid hr
          clear hr
          go_enter Tryz.func191, Tryz.ntmps191
          go_wp2_with (go_at_call 224; refine (hP _).mono ?_; rintro e w' ⟨rfl, rfl⟩)
          exact bodyPost_ret (v := .tuple #[.agg #[.int .i64 0, .string ⟨#[]⟩, .int .i64 0, .int .i64 0], .int .i64 1]) (by simp [results, Tryz.results191, go_sem]) rfl (post_bad HR ((Below.refl _ _).alloc (Nat.le_refl _) _))

def sgnF (l : List UInt8) : Nat → Tk
  | 0 => .bad 1
  | n + 1 => if signB (l.take (n + 1)) = true then .tok 4 (n + 1) 0 else sgnF l n
def sgnT (l : List UInt8) : Tk := sgnF l (min 3 l.length)

theorem ext0_data (s : ByteArray) (n : Nat) : (s.extract 0 n).data.toList = s.data.toList.take n := by
  rw [Lib.extract_data, List.drop_zero, Nat.sub_zero]

set_option maxHeartbeats 4000000 in
theorem sgn_any (s : ByteArray) (w : World) (hs : s.size ≤ 140737488355328) :
    Calls Tryz.prog 192 #[.string s] w (TkPost (sgnT s.data.toList) s.data.toList w) := by
  obtain ⟨r, hr⟩ : ∃ r, r = sgnT s.data.toList := ⟨_, rfl⟩
  rw [← hr]
  have H0 : Hid (r = sgnF s.data.toList (min 3 s.size)) := by show _ = _; rw [hr, sgnT, Lib.size_eq]
  clear hr
  have hm : (min 3 s.size : Nat) ≤ 3 ∧ min 3 s.size ≤ s.size := ⟨by omega, by omega⟩
  go_enter Tryz.func192, Tryz.ntmps192
  go_wp2
  go_loop [4] (fun v => ∃ k : Nat, k ≤ 3 ∧ k ≤ s.size ∧ v = .int .i64 k ∧ Hid (r = sgnF s.data.toList k)) (fun v => (intOf v).toNat)
  case atStart => exact ⟨min 3 s.size, hm.1, hm.2, by congr 1; omega, H0⟩
  case round =>
    obtain ⟨k, hk3, hks, rfl, HK⟩ := hrel
    cases k with
    | zero =>
      go_wp2
      exact bodyPost_ret (v := .tuple #[.agg #[.int .i64 0, .string ⟨#[]⟩, .int .i64 0, .int .i64 0], .int .i64 1]) (by simp [results, Tryz.results192, go_sem]) rfl (post_bad HK ((Below.refl _ _).alloc (Nat.le_refl _) _))
    | succ n =>
      have hS := fun w => isSign_any (s.extract 0 (n + 1)) w
      rw [ext0_data] at hS
      cases hb : signB (s.data.toList.take (n + 1)) with
      | true =>
        have HR : Hid (r = .tok 4 (n + 1) 0) := HK.out.trans (if_pos hb)
        rw [hb] at hS
        clear HK hb
        go_wp2_with (go_at_call 225; refine (hS _).mono ?_; rintro e w' ⟨rfl, rfl⟩)
        exact bodyPost_ret (v := .tuple #[.agg #[.int .i64 4, .string (s.extract 0 (n + 1)), .int .i64 0, .int .i64 0], .int .i64 0]) (by simp [results, Tryz.results192, go_sem]) rfl (post_tok HR (ext0 s (n + 1)) ((Below.refl _ _).alloc (Nat.le_refl _) _))
      | false =>
        have HR : Hid (r = sgnF s.data.toList n) := HK.out.trans (if_neg (by simp [hb]))
        rw [hb] at hS
        clear HK hb
        go_wp2_with (go_at_call 225; refine (hS _).mono ?_; rintro e w' ⟨rfl, rfl⟩)
        go_round
        case rel => exact ⟨n, by omega, by omega, by go_num, HR⟩
        case measure => simp [intOf]
end Go.Proofs.YtbjacclfhgnffaaGreatDoor.Tk
/-
  Contract of first: the word with which a text begins, or what is wrong with it.
-/
namespace Go.Proofs.YtbjacclfhgnffaaGreatDoor.Tk
open Go.RowKit

def fstT : List UInt8 → Tk
  | [] => .bad 1
  | c :: l => if digB c = true then numT ((c :: l).take (preN wordB (c :: l))) else if wordB c = true then wrdT ((c :: l).take (preN wordB (c :: l))) else if c = 39 then chrT (c :: l) else sgnT (c :: l)

theorem tk_open {r : Tk} {l : List UInt8} {w w' : World} {e : Ending} (h : TkPost r l w e w') :
    ∃ (k v c : Int) (t : ByteArray), e = .returned (.tuple #[.agg #[.int .i64 k, .string t, .int .i64 v, .int .i64 0], .int .i64 c]) ∧ Hid (tkV l r = .agg #[.int .i64 k, .string t, .int .i64 v, .int .i64 0] ∧ tkCode r = c) ∧ Below w.heap.size w w' := by
  obtain ⟨rfl, hb⟩ := h
  cases r with
  | bad c => exact ⟨_, _, _, _, rfl, ⟨rfl, rfl⟩, hb⟩
  | tok k n v => exact ⟨_, _, _, _, rfl, ⟨rfl, rfl⟩, hb⟩
theorem post_open {r : Tk} {l : List UInt8} {w w' : World} {k v c : Int} {t : ByteArray}
    (h : Hid (tkV l r = .agg #[.int .i64 k, .string t, .int .i64 v, .int .i64 0] ∧ tkCode r = c)) (hb : Below w.heap.size w w') :
    TkPost r l w (.returned (.tuple #[.agg #[.int .i64 k, .string t, .int .i64 v, .int .i64 0], .int .i64 c])) w' := by
  obtain ⟨h1, h2⟩ := h.out
  exact ⟨by rw [h1, h2], hb⟩
/-- a word that is the whole of its own text -/
def Full (r : Tk) (n : Nat) : Prop := ∀ k m v, r = .tok k m v → m = n
theorem wrdT_full (t : List UInt8) : Full (wrdT t) t.length := by
  intro k m v h
  unfold wrdT at h
  split at h
  · cases h; rfl
  · split at h
    · cases h
    · cases h; rfl
theorem numD_full (b : Nat) (p : UInt8 → Bool) (ds t : List UInt8) : Full (numD b p ds t) t.length := by
  intro k m v h
  unfold numD at h
  split at h
  · cases h
  · split at h
    · cases h; rfl
    · cases h
theorem numT_full (t : List UInt8) : Full (numT t) t.length := by
  intro k m v h
  unfold numT at h
  split at h
  · split at h
    · cases h
    · exact numD_full _ _ _ _ k m v h
  · exact numD_full _ _ _ _ k m v h
theorem full_tkV {r : Tk} {l : List UInt8} {n : Nat} (hn : n ≤ l.length) (h : Full r (l.take n).length) : tkV (l.take n) r = tkV l r := by
  cases r with
  | bad c => rfl
  | tok k m v =>
    have := h k m v rfl
    rw [List.length_take, Nat.min_eq_left hn] at this
    subst this
    simp only [tkV, List.take_take, Nat.min_self]
set_option maxHeartbeats 4000000 in
theorem fst_any (s : ByteArray) (w : World) (hs : s.size ≤ 140737488355328) (te : TypeId) (pe : Value) (hv : w.cell? ⟨4, 0, none⟩ = some (.iface te pe)) :
    Calls Tryz.prog 149 #[.string s] w (TkPost (fstT s.data.toList) s.data.toList w) := by
  by_cases h0 : s.size = 0
  · have hemp := emp_true h0
    have HR : Hid (fstT s.data.toList = .bad 1) := by show _ = _; rw [(nil_iff s).2 h0]; rfl
    go_enter Tryz.func149, Tryz.ntmps149
    go_wp2
    exact bodyPost_ret (v := .tuple #[.agg #[.int .i64 0, .string ⟨#[]⟩, .int .i64 0, .int .i64 0], .int .i64 1]) (by simp [results, Tryz.results149, go_sem]) rfl (post_bad HR ((Below.refl _ _).alloc (Nat.le_refl _) _))
  · have hemp := emp_false h0
    have hpos : 0 < s.size := by omega
    obtain ⟨c, l, hL⟩ : ∃ c l, s.data.toList = c :: l := by
      cases e : s.data.toList with
      | nil => exact absurd ((nil_iff s).1 e) h0
      | cons c l => exact ⟨c, l, rfl⟩
    have hc0 : s[0] = c := by have := getD_idx s 0 hpos; rw [hL] at this; exact this.symm
    obtain ⟨n, hn⟩ : ∃ n, n = preN wordB s.data.toList := ⟨_, rfl⟩
    have hnle : n ≤ s.data.toList.length := by rw [hn]; exact preN_le _ _
    have hnsz : n ≤ s.size := by rw [Lib.size_eq]; exact hnle
    have hpre := fun w => pre_word s w (by unfold maxLen; omega)
    rw [← hn] at hpre
    have hd : (s.extract 0 n).data.toList = s.data.toList.take n := ext0_data s n
    have hds : (s.extract 0 n).size ≤ 140737488355328 := by rw [Lib.size_eq, hd, List.length_take]; omega
    have hW : fstT s.data.toList = if digB c = true then numT (s.data.toList.take n) else if wordB c = true then wrdT (s.data.toList.take n) else if c = 39 then chrT s.data.toList else sgnT s.data.toList := by
      rw [hn, hL]; rfl
    have hdg := fun w => dig_any s[0] w
    have hwd := fun w => word_any s[0] w
    rw [hc0] at hdg hwd
    rw [hW]
    clear hW hn hL h0
    cases h1 : digB c with
    | true =>
      rw [h1] at hdg
      rw [if_pos rfl]
      have hN := fun w hv => num_any (s.extract 0 n) w hds te pe hv
      rw [hd] at hN
      have hT := Lib.hid (full_tkV hnle (numT_full (s.data.toList.take n)))
      clear hd h1 hwd hnle
      generalize s.data.toList.take n = t at *
      generalize numT t = r at *
      go_enter Tryz.func149, Tryz.ntmps149
      go_wp2_with (first | (go_at_call 186; refine (hdg _).mono ?_; rintro e w' ⟨rfl, rfl⟩) | (go_at_call 188; refine (hpre _).mono ?_; rintro e w' ⟨rfl, rfl⟩) | (go_at_call 187; refine (hN _ (hv_alloc hv _)).mono ?_))
      intro e W2 hp
      obtain ⟨k, v, cd, x, rfl, HH, hb⟩ := tk_open hp
      obtain ⟨hc, hf⟩ := bcell hb
      have hsz2 := hb.size
      simp at hsz2
      clear hp
      go_wp2
      have HH2 : Hid (tkV s.data.toList r = .agg #[.int .i64 k, .string x, .int .i64 v, .int .i64 0] ∧ tkCode r = cd) := ⟨hT.out ▸ HH.out.1, HH.out.2⟩
      exact bodyPost_ret (v := .tuple #[.agg #[.int .i64 k, .string x, .int .i64 v, .int .i64 0], .int .i64 cd]) (by simp [results, Tryz.results149, go_sem, hc]) rfl (post_open HH2 (below_set4 (below_call hb) _ _ _ _))
    | false =>
      rw [h1] at hdg
      rw [if_neg (by decide)]
      cases h2 : wordB c with
      | true =>
        rw [h2] at hwd
        rw [if_pos rfl]
        have hN := fun w => wrd_any (s.extract 0 n) w (by unfold maxLen; omega)
        rw [hd] at hN
        have hT := Lib.hid (full_tkV hnle (wrdT_full (s.data.toList.take n)))
        clear hd h1 h2 hnle
        generalize s.data.toList.take n = t at *
        generalize wrdT t = r at *
        go_enter Tryz.func149, Tryz.ntmps149
        go_wp2_with (first | (go_at_call 186; refine (hdg _).mono ?_; rintro e w' ⟨rfl, rfl⟩) | (go_at_call 189; refine (hwd _).mono ?_; rintro e w' ⟨rfl, rfl⟩) | (go_at_call 188; refine (hpre _).mono ?_; rintro e w' ⟨rfl, rfl⟩) | (go_at_call 190; refine (hN _).mono ?_))
        intro e W2 hp
        obtain ⟨k, v, cd, x, rfl, HH, hb⟩ := tk_open hp
        obtain ⟨hc, hf⟩ := bcell hb
        have hsz2 := hb.size
        simp at hsz2
        clear hp
        go_wp2
        have HH2 : Hid (tkV s.data.toList r = .agg #[.int .i64 k, .string x, .int .i64 v, .int .i64 0] ∧ tkCode r = cd) := ⟨hT.out ▸ HH.out.1, HH.out.2⟩
        exact bodyPost_ret (v := .tuple #[.agg #[.int .i64 k, .string x, .int .i64 v, .int .i64 0], .int .i64 cd]) (by simp [results, Tryz.results149, go_sem, hc]) rfl (post_open HH2 (below_set4 (below_call hb) _ _ _ _))
      | false =>
        rw [h2] at hwd
        rw [if_neg (by decide)]
        by_cases h39 : c = 39
        · rw [if_pos h39]
          have e3 : ((s[0].toNat : Int) == 39) = true := beq_of (by rw [hc0, h39]; rfl)
          have hN := fun w => chr_any s w hs
          rw [← hc0] at hdg hwd
          clear h39 hd h1 h2 hnle hc0 hpre
          generalize chrT s.data.toList = r at *
          go_enter Tryz.func149, Tryz.ntmps149
          go_wp2_with (first | (go_at_call 186; refine (hdg _).mono ?_; rintro e w' ⟨rfl, rfl⟩) | (go_at_call 189; refine (hwd _).mono ?_; rintro e w' ⟨rfl, rfl⟩) | (go_at_call 191; refine (hN _).mono ?_))
          intro e W2 hp
          obtain ⟨k, v, cd, x, rfl, HH, hb⟩ := tk_open hp
          obtain ⟨hc, hf⟩ := bcell hb
          have hsz2 := hb.size
          simp at hsz2
          clear hp
          go_wp2
          exact bodyPost_ret (v := .tuple #[.agg #[.int .i64 k, .string x, .int .i64 v, .int .i64 0], .int .i64 cd]) (by simp [results, Tryz.results149, go_sem, hc]) rfl (post_open HH (below_set4 (below_call hb) _ _ _ _))
        · rw [if_neg h39]
          have e3 : ((s[0].toNat : Int) == 39) = false := by rw [hc0]; exact u8_ne h39
          have hN := fun w => sgn_any s w hs
          rw [← hc0] at hdg hwd
          clear h39 hd h1 h2 hnle hc0 hpre
          generalize sgnT s.data.toList = r at *
          go_enter Tryz.func149, Tryz.ntmps149
          go_wp2_with (first | (go_at_call 186; refine (hdg _).mono ?_; rintro e w' ⟨rfl, rfl⟩) | (go_at_call 189; refine (hwd _).mono ?_; rintro e w' ⟨rfl, rfl⟩) | (go_at_call 192; refine (hN _).mono ?_))
          intro e W2 hp
          obtain ⟨k, v, cd, x, rfl, HH, hb⟩ := tk_open hp
          obtain ⟨hc, hf⟩ := bcell hb
          have hsz2 := hb.size
          simp at hsz2
          clear hp
          go_wp2
          exact bodyPost_ret (v := .tuple #[.agg #[.int .i64 k, .string x, .int .i64 v, .int .i64 0], .int .i64 cd]) (by simp [results, Tryz.results149, go_sem, hc]) rfl (post_open HH (below_set4 (below_call hb) _ _ _ _))
end Go.Proofs.YtbjacclfhgnffaaGreatDoor.Tk
