/-
  Contract of the document's answer: next, whatever the text begins with.
-/
import Derived.Test.YtaipdmaiffjeeaaDoorW
import Derived.LoopTactic
namespace Go.Proofs.YtaipdmaiffjeeaaDoor
open Go.RowKit

set_option maxHeartbeats 4000000 in
set_option maxRecDepth 100000 in
theorem next_quo (s : ByteArray) (w : World) (hs : s.size ≤ 140737488355328) (h0 : 0 < s.size) (hd : digB s[0] = false) (hl0 : letB s[0] = false) (h39 : s[0] = 39) (r : Tk) (hr : r = chrT s.data.toList) :
    Calls Tryd.prog 19 #[.string s] w (NxPost r s.data.toList w) := by
  have hL := fun w => rlet_any s[0] w
  have hD := fun w => rdig_any s[0] w
  rw [hl0] at hL
  rw [hd] at hD
  have e39 : ((s[0].toNat : Int) == 39) = true := beq_of (by rw [h39]; rfl)
  have hQ := fun w => quo_any s w hs
  rw [← hr] at hQ
  have hcs := chrT_cases s.data.toList
  rw [← hr] at hcs
  have hsz := Lib.hid (Lib.size_eq s)
  clear hr hd hl0 h39
  rcases hcs with hq | ⟨hl, v, hq⟩ | ⟨hl, v, hq⟩
  · have HR := Lib.hid hq
    rw [hq] at hQ
    clear hq
    go_enter Tryd.func19, Tryd.ntmps19
    go_wp2_with (first | (go_at_call 28; refine (hL _).mono ?_; rintro e w' ⟨rfl, rfl⟩) | (go_at_call 29; refine (hD _).mono ?_; rintro e w' ⟨rfl, rfl⟩) | (go_at_call 33; refine (hQ _).mono ?_; rintro e w' ⟨rfl, rfl⟩; simp only [tkN, tkL]))
    exact bodyPost_ret (v := .tuple #[.agg #[.int .i64 0, .string ⟨#[]⟩, .int .i64 0, .int .i64 0], .int .i64 0, .int .i64 1]) (by simp [results, Tryd.results19, go_sem]) rfl (nx_bad HR (by decide) (Or.inr ⟨by decide, rfl⟩) ((Below.refl _ _).alloc (Nat.le_refl _) _))
  · have HR := Lib.hid hq
    rw [hq] at hQ
    have hl4 : 4 ≤ s.size := by have := hsz.out; omega
    clear hq
    go_enter Tryd.func19, Tryd.ntmps19
    go_wp2_with (first | (go_at_call 28; refine (hL _).mono ?_; rintro e w' ⟨rfl, rfl⟩) | (go_at_call 29; refine (hD _).mono ?_; rintro e w' ⟨rfl, rfl⟩) | (go_at_call 33; refine (hQ _).mono ?_; rintro e w' ⟨rfl, rfl⟩; simp only [tkN, tkL]))
    exact bodyPost_ret (v := .tuple #[.agg #[.int .i64 2, .string (s.extract 0 4), .int .i64 v, .int .i64 0], .int .i64 4, .int .i64 0]) (by simp [results, Tryd.results19, go_sem]) rfl (nx_tok HR (ext0 s 4) ((Below.refl _ _).alloc (Nat.le_refl _) _))
  · have HR := Lib.hid hq
    rw [hq] at hQ
    have hl4 : 3 ≤ s.size := by have := hsz.out; omega
    clear hq
    go_enter Tryd.func19, Tryd.ntmps19
    go_wp2_with (first | (go_at_call 28; refine (hL _).mono ?_; rintro e w' ⟨rfl, rfl⟩) | (go_at_call 29; refine (hD _).mono ?_; rintro e w' ⟨rfl, rfl⟩) | (go_at_call 33; refine (hQ _).mono ?_; rintro e w' ⟨rfl, rfl⟩; simp only [tkN, tkL]))
    exact bodyPost_ret (v := .tuple #[.agg #[.int .i64 2, .string (s.extract 0 3), .int .i64 v, .int .i64 0], .int .i64 3, .int .i64 0]) (by simp [results, Tryd.results19, go_sem]) rfl (nx_tok HR (ext0 s 3) ((Below.refl _ _).alloc (Nat.le_refl _) _))

theorem tok_block {w w2 : World} (hb : Below (w.alloc (.cells #[.int .i64 0, .string ⟨#[]⟩, .int .i64 0, .int .i64 0] 36)).heap.size (w.alloc (.cells #[.int .i64 0, .string ⟨#[]⟩, .int .i64 0, .int .i64 0] 36)) w2) :
    w2.frozen? ⟨w.heap.size, 0, none⟩ = false ∧ w2.frozen? ⟨w.heap.size, 1, none⟩ = false ∧ w2.frozen? ⟨w.heap.size, 2, none⟩ = false ∧ w2.frozen? ⟨w.heap.size, 3, none⟩ = false ∧
    w2.cell? ⟨w.heap.size, 0, none⟩ = some (.int .i64 0) ∧ w2.cell? ⟨w.heap.size, 1, none⟩ = some (.string ⟨#[]⟩) ∧ w2.cell? ⟨w.heap.size, 2, none⟩ = some (.int .i64 0) ∧ w2.cell? ⟨w.heap.size, 3, none⟩ = some (.int .i64 0) := by
  have h : w2.heap[w.heap.size]? = some (.cells #[.int .i64 0, .string ⟨#[]⟩, .int .i64 0, .int .i64 0] 36 (0, 0)) := by
    rw [hb.block w.heap.size (by simp)]; exact heap_alloc_new w _
  refine ⟨?_, ?_, ?_, ?_, ?_, ?_, ?_, ?_⟩ <;> simp [World.cell?, World.frozen?, h]
theorem sgnF_cap (l : List UInt8) (k : Nat) : k ≤ l.length → sgnF l (min (k + 1) l.length) = if k + 1 ≤ l.length ∧ signB (l.take (k + 1)) = true then .tok 4 (k + 1) 0 else sgnF l (min k l.length) := by
  intro hk
  by_cases h : k + 1 ≤ l.length
  · rw [Nat.min_eq_left h, Nat.min_eq_left hk]
    show (if _ then _ else _) = _
    by_cases hs : signB (l.take (k + 1)) = true
    · rw [if_pos hs, if_pos ⟨h, hs⟩]
    · rw [if_neg hs, if_neg fun h => hs h.2]
  · rw [if_neg fun h2 => h h2.1, Nat.min_eq_right (by omega), Nat.min_eq_right (by omega)]
theorem sgnF_step (l : List UInt8) (k : Nat) : sgnF l (min (k + 1) l.length) = if k + 1 ≤ l.length ∧ signB (l.take (k + 1)) = true then .tok 4 (k + 1) 0 else sgnF l (min k l.length) := by
  by_cases hk : k ≤ l.length
  · exact sgnF_cap l k hk
  · rw [if_neg fun h2 => hk (by omega), Nat.min_eq_right (by omega), Nat.min_eq_right (by omega)]

set_option maxHeartbeats 4000000 in
set_option maxRecDepth 100000 in
theorem next_sgn (s : ByteArray) (w : World) (_hs : s.size ≤ 140737488355328) (h0 : 0 < s.size) (hd : digB s[0] = false) (hl0 : letB s[0] = false) (h39 : s[0] ≠ 39) (r : Tk) (hr : r = sgnT s.data.toList) :
    Calls Tryd.prog 19 #[.string s] w (NxPost r s.data.toList w) := by
  have hL := fun w => rlet_any s[0] w
  have hD := fun w => rdig_any s[0] w
  rw [hl0] at hL
  rw [hd] at hD
  have e39 : ((s[0].toNat : Int) == 39) = false := u8_ne h39
  have hsz := Lib.hid (Lib.size_eq s)
  have HR := Lib.hid hr
  clear hr hd hl0 h39
  go_enter Tryd.func19, Tryd.ntmps19
  go_wp2_with (first | (go_at_call 28; refine (hL _).mono ?_; rintro e w' ⟨rfl, rfl⟩) | (go_at_call 29; refine (hD _).mono ?_; rintro e w' ⟨rfl, rfl⟩))
  go_loopw [11] (fun v wr => ∃ k : Nat, k ≤ 3 ∧ v = .int .i64 k ∧ Hid (r = sgnF s.data.toList (min k s.data.toList.length)) ∧ Below (w.alloc (.cells #[.int .i64 0, .string ⟨#[]⟩, .int .i64 0, .int .i64 0] 36)).heap.size (w.alloc (.cells #[.int .i64 0, .string ⟨#[]⟩, .int .i64 0, .int .i64 0] 36)) wr) (fun v _ => (intOf v).toNat)
  case atStart => exact ⟨3, by omega, rfl, HR.out, Below.refl _ _⟩
  case round =>
    obtain ⟨k, hk3, rfl, HK, hb⟩ := hrel
    obtain ⟨hc, hf⟩ := bcell hb
    have hz := hb.size
    simp at hz
    have HB := Lib.hid hb
    clear hb
    cases k with
    | zero =>
      have HB2 : Hid (r = .bad 1) := HK.out.trans (by rw [Nat.zero_min]; rfl)
      go_wp2
      exact bodyPost_ret (v := .tuple #[.agg #[.int .i64 0, .string ⟨#[]⟩, .int .i64 0, .int .i64 0], .int .i64 0, .int .i64 1]) (by simp [results, Tryd.results19, go_sem, hc]) rfl (nx_bad HB2 (by decide) (Or.inr ⟨by decide, rfl⟩) (below_set4 (below_call HB.out) _ _ _ _))
    | succ n =>
      have hstep := HK.out.trans (sgnF_step s.data.toList n)
      by_cases hl : n + 1 ≤ s.size
      · have hl2 : n + 1 ≤ s.data.toList.length := by have := hsz.out; omega
        have hS := fun w => rSign_any (s.extract 0 (n + 1)) w
        rw [ext0_data] at hS
        cases hq : signB (s.data.toList.take (n + 1)) with
        | true =>
          rw [if_pos ⟨hl2, hq⟩] at hstep
          have HR2 := Lib.hid hstep
          rw [hq] at hS
          clear hstep HK hq hl2
          go_wp2_with (go_at_call 34; refine (hS _).mono ?_)
          rintro e w3 ⟨rfl, hb3⟩
          have hb4 := HB.out.trans (hb3.mono (by have := HB.out.size; exact this))
          obtain ⟨f0, f1, f2, f3, c0, c1, c2, c3⟩ := tok_block hb4
          have hz3 := hb4.size
          simp at hz3
          clear hc hf hb3
          go_wp2
          exact bodyPost_ret (v := .tuple #[.agg #[.int .i64 4, .string (s.extract 0 (n + 1)), .int .i64 0, .int .i64 0], .int .i64 ((n : Int) + 1), .int .i64 0]) (by simp [results, Tryd.results19, go_sem, c0, c1, c2, c3]) rfl (nx_tok HR2 (ext0 s (n + 1)) (below_set4 (below_call hb4) _ _ _ _))
        | false =>
          rw [if_neg (by rw [hq]; exact fun h => by cases h.2)] at hstep
          have HR2 := Lib.hid hstep
          rw [hq] at hS
          clear hstep HK hq hl2
          go_wp2_with (go_at_call 34; refine (hS _).mono ?_)
          rintro e w3 ⟨rfl, hb3⟩
          have hb4 := HB.out.trans (hb3.mono (by have := HB.out.size; exact this))
          clear hc hf hb3
          go_wp2
          go_roundw
          case rel => exact ⟨n, by omega, by go_num, HR2, hb4⟩
          case measure => simp [intOf]
      · rw [if_neg (by have := hsz.out; omega)] at hstep
        have HR2 := Lib.hid hstep
        clear hstep HK
        go_wp2
        go_roundw
        case rel => exact ⟨n, by omega, by go_num, HR2, HB.out⟩
        case measure => simp [intOf]

/-- next: the word with which a text that is not empty begins -/
theorem next_any (s : ByteArray) (w : World) (hs : s.size ≤ 140737488355328) (h0 : 0 < s.size) :
    Calls Tryd.prog 19 #[.string s] w (NxPost (fstT s.data.toList) s.data.toList w) := by
  obtain ⟨c, l, hL⟩ : ∃ c l, s.data.toList = c :: l := by
    cases e : s.data.toList with
    | nil => have := (nil_iff s).1 e; omega
    | cons c l => exact ⟨c, l, rfl⟩
  have hc0 : s[0] = c := by have := getD_idx s 0 h0; rw [hL] at this; exact this.symm
  have hW : fstT s.data.toList = if digB c = true then numT (s.data.toList.take (preN wordB s.data.toList)) else if wordB c = true then wrdT (s.data.toList.take (preN wordB s.data.toList)) else if c = 39 then chrT s.data.toList else sgnT s.data.toList := by
    rw [hL]; rfl
  rw [← hc0] at hW
  cases h1 : digB s[0] with
  | true => rw [h1, if_pos rfl] at hW; exact next_dig s w hs h0 h1 _ hW
  | false =>
    rw [h1, if_neg (by decide)] at hW
    cases h2 : wordB s[0] with
    | true =>
      rw [h2, if_pos rfl] at hW
      exact next_let s w hs h0 h1 ((let_word.2 h2).resolve_right (by simp [h1])) _ hW
    | false =>
      rw [h2, if_neg (by decide)] at hW
      have h3 := (not_word h2).1
      by_cases h39 : s[0] = 39
      · rw [if_pos h39] at hW; exact next_quo s w hs h0 h1 h3 h39 _ hW
      · rw [if_neg h39] at hW; exact next_sgn s w hs h0 h1 h3 h39 _ hW
end Go.Proofs.YtaipdmaiffjeeaaDoor
