/-
  Contracts of the two functions that cutter gives: skip and take.
-/
import Derived.Test.YtaipdmaiffjeeaaDoorH
import Derived.OneCell
import Derived.RegionTactic
import Derived.ChangeAlike
import Derived.ChangeAgain
namespace Go.Proofs.YtaipdmaiffjeeaaDoor
open Go.RowKit

theorem sh_below {w w' : World} (h : w.ShapedOpen Tryd.prog) (hb : Below w.heap.size w w') : w'.ShapedOpen Tryd.prog :=
  h.keptBut (may := fun _ => False) (hb.frame _) (fun _ f => f.elim)
theorem sh_alloc {w : World} (h : w.ShapedOpen Tryd.prog) (o : Obj) : (w.alloc o).ShapedOpen Tryd.prog := sh_below h ((Below.refl _ _).alloc (Nat.le_refl _) _)

/-- below block B, but for block x, the world is as it was -/
structure GB (x B : Nat) (w w' : World) : Prop where
  os : w'.os = w.os
  tape : w'.tape = w.tape
  output : w'.output = w.output
  size : w.heap.size ≤ w'.heap.size
  block : ∀ k, k < B → k ≠ x → w'.heap[k]? = w.heap[k]?
theorem GB.refl (x B : Nat) (w : World) : GB x B w w := ⟨rfl, rfl, rfl, Nat.le_refl _, fun _ _ _ => rfl⟩
theorem GB.trans {x B : Nat} {a b c : World} (h : GB x B a b) (k : GB x B b c) : GB x B a c :=
  ⟨k.os.trans h.os, k.tape.trans h.tape, k.output.trans h.output, Nat.le_trans h.size k.size, fun i hi hx => (k.block i hi hx).trans (h.block i hi hx)⟩
theorem GB.below {x B C : Nat} {a b c : World} (h : GB x B a b) (k : Below C b c) (hC : B ≤ C) : GB x B a c :=
  h.trans ⟨k.os, k.tape, k.output, k.size, fun i hi _ => k.block i (by omega)⟩
theorem GB.drew {x B : Nat} {a w : World} (h : GB x B a w) : GB x B a w.drew := ⟨h.os, h.tape, h.output, h.size, h.block⟩
theorem GB.alloc {x B : Nat} {a w : World} (h : GB x B a w) (hB : B ≤ w.heap.size) (o : Obj) : GB x B a (w.alloc o) :=
  h.below ((Below.refl w.heap.size w).alloc (Nat.le_refl _) o) hB
theorem GB.setCell {x B : Nat} {a w : World} (h : GB x B a w) {p : Addr} (hp : p.block = x ∨ B ≤ p.block) (u : Value) : GB x B a (w.setCell p u) :=
  h.trans ⟨rfl, rfl, rfl, by simp [World.setCell], fun k hk hx => Below.heap_setCell _ _ _ _ (by rcases hp with h | h <;> omega)⟩
theorem gb_set_alloc (w : World) (x : Nat) (u : Value) (o : Obj) : GB x w.heap.size w ((w.setCell ⟨x, 0, none⟩ u).alloc o) := by
  refine GB.alloc (GB.setCell (p := ⟨x, 0, none⟩) (GB.refl _ _ _) (Or.inl rfl) _) ?_ _
  simp [World.setCell]
theorem one_set_alloc {w : World} {b : Nat} {v u : Value} {t : TypeId} (h : w.heap[b]? = some (.cells #[v] t (0, 0))) (o : Obj) : ((w.setCell ⟨b, 0, none⟩ u).alloc o).heap[b]? = some (.cells #[u] t (0, 0)) := by
  rw [Below.heap_alloc _ _ _ (by simpa [World.setCell] using lt_of_block h)]; exact one_setCell h
theorem GB.grown {x : Nat} {w w' : World} (h : GB x w.heap.size w w') : w.grownBy w' (some x) :=
  ⟨h.os, h.tape, h.output, h.size, fun k hk hx => h.block k hk (fun e => hx (by rw [e]))⟩

/-- what skip leaves: the place has gone on by n bytes -/
def SkipPost (s : ByteArray) (k ba : Nat) (w : World) (e : Ending) (w' : World) : Prop :=
  ∃ n o, e = .returned (.tuple #[.int .i64 (if o = true then 0 else ((k + n : Nat) : Int)), .agg #[.int .i64 (if o = true then 1 else 0), .int .i64 (if o = true then ((k + n : Nat) : Int) else 0)]]) ∧ Gap (s.data.toList.drop k) n o ∧ w.grownBy w' (some ba) ∧ w'.heap[ba]? = some (.cells #[.int .i64 ((k + n : Nat) : Int)] 3 (0, 0))

set_option maxHeartbeats 4000000 in
theorem skip_any (s : ByteArray) (k bt ba : Nat) (w : World) (hs : s.size ≤ 2000) (hk : k ≤ s.size) (hsh : w.ShapedOpen Tryd.prog)
    (hT : w.heap[bt]? = some (.cells #[.string s] 9 (0, 0))) (hA : w.heap[ba]? = some (.cells #[.int .i64 k] 3 (0, 0))) :
    Calls Tryd.prog 23 #[.pointer (some ⟨bt, 0, none⟩), .pointer (some ⟨ba, 0, none⟩)] w (SkipPost s k ba w) := by
  have hbt := lt_of_block hT
  have hba := lt_of_block hA
  have cT := cell_of_one hT
  have cA := cell_of_one hA
  have fA := free_of_one hA
  have hG := fun w h => gap_any (s.extract k s.size) w (by rw [extE_size]; omega) h
  have hgl := Lib.hid (extE_data s k)
  have hsz := Lib.hid (Lib.size_eq s)
  have HA := Lib.hid hA
  clear hT hA
  go_enter Tryd.func23, Tryd.ntmps23
  go_wp2_with (go_at_call 24; refine (hG _ (sh_alloc hsh _)).mono ?_)
  rintro e w2 ⟨n, o, rfl, hg, rfl⟩
  rw [hgl.out] at hg
  have hn : k + n ≤ s.size := by have := hg.1; rw [List.length_drop] at this; have := hsz.out; omega
  have Hg := Lib.hid hg
  clear hg
  cases o with
  | false =>
    go_wp2
    refine bodyPost_ret (v := .tuple #[.int .i64 (k + n), .agg #[.int .i64 0, .int .i64 0]]) (by simp [results, Tryd.results23, go_sem]) rfl ?_
    exact ⟨n, false, rfl, Hg.out, GB.grown (gb_set_alloc _ _ _ _), one_set_alloc HA.out _⟩
  | true =>
    go_wp2
    go_region
    all_goals go_wp2
    refine bodyPost_ret (v := .tuple #[.int .i64 0, .agg #[.int .i64 1, .int .i64 (k + n)]]) (by simp [results, Tryd.results23, go_sem]) rfl ?_
    exact ⟨n, true, rfl, Hg.out, GB.grown (gb_set_alloc _ _ _ _).drew, one_set_alloc HA.out _⟩

set_option maxHeartbeats 400000 in
theorem clone_any (s : ByteArray) (w : World) (hlim : s.size ≤ 281474976710656) :
    Calls Tryd.prog 27 #[.string s] w fun e w' => e = .returned (.string s) ∧ Below w.heap.size w w' := by
  go_enter Tryd.func27, Tryd.ntmps27
  go_wp2_with (go_at_call 48; refine (Tryd.stringslite_Clone _ _ hlim).mono ?_; rintro e w' ⟨rfl, hb⟩)
  go_ret
  exact ⟨rfl, hb⟩

theorem preN_pos {p : UInt8 → Bool} {c : UInt8} {l : List UInt8} (h : p c = true) : 1 ≤ preN p (c :: l) := by
  unfold preN; rw [List.takeWhile_cons, if_pos h]; simp
theorem dig_word {c : UInt8} (h : digB c = true) : wordB c = true := by simp [digB, wordB] at *; omega
theorem sgnF_bad {l : List UInt8} {m c : Nat} (h : sgnF l m = .bad c) : c ≠ 0 := by
  induction m with
  | zero => cases h; decide
  | succ n ih =>
    unfold sgnF at h
    split at h
    · cases h
    · exact ih h
theorem sgnF_tok {l : List UInt8} {m k n v : Nat} (h : sgnF l m = .tok k n v) : 1 ≤ n ∧ n ≤ m := by
  induction m with
  | zero => cases h
  | succ j ih =>
    unfold sgnF at h
    split at h
    · cases h; omega
    · have := ih h; omega
theorem numD_bad {b : Nat} {p : UInt8 → Bool} {ds t : List UInt8} {c : Nat} (h : numD b p ds t = .bad c) : c ≠ 0 := by
  unfold numD at h
  split at h
  · cases h; decide
  · split at h
    · cases h
    · cases h; decide
theorem numT_bad {t : List UInt8} {c : Nat} (h : numT t = .bad c) : c ≠ 0 := by
  unfold numT at h
  split at h
  · split at h
    · cases h; decide
    · exact numD_bad h
  · exact numD_bad h
theorem chrT_cases (l : List UInt8) : chrT l = .bad 1 ∨ (4 ≤ l.length ∧ ∃ v, chrT l = .tok 2 4 v) ∨ (3 ≤ l.length ∧ ∃ v, chrT l = .tok 2 3 v) := by
  unfold chrT
  split
  · exact Or.inl rfl
  · split
    · split
      · exact Or.inl rfl
      · exact Or.inr (Or.inl ⟨by omega, _, rfl⟩)
    · split
      · split
        · exact Or.inl rfl
        · exact Or.inr (Or.inr ⟨by omega, _, rfl⟩)
      · exact Or.inl rfl
theorem fstT_bad {l : List UInt8} {c : Nat} (h : fstT l = .bad c) : c ≠ 0 := by
  cases l with
  | nil => cases h; decide
  | cons x l =>
    simp only [fstT] at h
    split at h
    · exact numT_bad h
    · split at h
      · unfold wrdT at h
        split at h
        · cases h
        · split at h
          · cases h; decide
          · cases h
      · split at h
        · rcases chrT_cases (x :: l) with e | ⟨_, v, e⟩ | ⟨_, v, e⟩ <;> rw [e] at h <;> cases h
          decide
        · exact sgnF_bad h
theorem fstT_tok {l : List UInt8} {k n v : Nat} (h : fstT l = .tok k n v) : 1 ≤ n ∧ n ≤ l.length := by
  cases l with
  | nil => cases h
  | cons x l =>
    have hle := preN_le wordB (x :: l)
    simp only [fstT] at h
    split at h
    · rename_i hd
      have := numT_full _ _ _ _ h
      have hp := preN_pos (l := l) (dig_word hd)
      rw [List.length_take] at this; omega
    · split at h
      · rename_i hd
        have := wrdT_full _ _ _ _ h
        have hp := preN_pos (l := l) hd
        rw [List.length_take] at this; omega
      · split at h
        · rcases chrT_cases (x :: l) with e | ⟨_, v, e⟩ | ⟨_, v, e⟩ <;> rw [e] at h <;> cases h <;> omega
        · have := sgnF_tok h; omega

/-- what take leaves: the word that stands there, and the place behind it -/
def TakePost (l : List UInt8) (k ba : Nat) (w : World) (e : Ending) (w' : World) : Prop :=
  w.grownBy w' (some ba) ∧
  ((∃ c, fstT l = .bad c ∧ e = .returned (.tuple #[.agg #[.int .i64 0, .string ⟨#[]⟩, .int .i64 0, .int .i64 0], .agg #[.int .i64 (c : Nat), .int .i64 k]]) ∧ w'.heap[ba]? = some (.cells #[.int .i64 (k : Int)] 3 (0, 0))) ∨
   (∃ kd n v, fstT l = .tok kd n v ∧ e = .returned (.tuple #[.agg #[.int .i64 (kd : Nat), .string (bstr (l.take n)), .int .i64 (v : Nat), .int .i64 k], .agg #[.int .i64 0, .int .i64 0]]) ∧ w'.heap[ba]? = some (.cells #[.int .i64 ((k + n : Nat) : Int)] 3 (0, 0))))

end Go.Proofs.YtaipdmaiffjeeaaDoor
