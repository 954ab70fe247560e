/-
  Plain facts: the steps from word to word, and a remark put in where a word begins.
-/
import Derived.Test.YtaipdmaiffjeeaaDoorPd
namespace Go.Proofs.YtaipdmaiffjeeaaDoor
open Go.RowKit

theorem skp_app_block {l X : List UInt8} {n j : Nat} (h : skp l = .skip n) (hno : Lib.hasPrefix l [47, 47] = false) (hn : n ≤ j) (hj : j ≤ l.length) : skp (l.take j ++ X) = .skip n := by
  rcases skp_ways h with ⟨c, l0, rfl, hb, rfl⟩ | ⟨c, l0, rfl, hb, h2l, hp, rfl, h2⟩ | ⟨c, l0, rfl, hb, hp, hq, h0, hi, h4, h5⟩
  · obtain ⟨i, rfl⟩ : ∃ i, j = i + 1 := ⟨j - 1, by omega⟩
    rw [List.take_succ_cons, List.cons_append]
    exact skp_blank hb
  · rw [hp] at hno; cases hno
  · have h2l : 2 ≤ (c :: l0).length := by omega
    have hp2 : Lib.hasPrefix ((c :: l0).take j ++ X) [47, 47] = false := by rw [pre_take (by omega) h2l]; exact hp
    have hq2 : Lib.hasPrefix ((c :: l0).take j ++ X) [47, 42] = true := by rw [pre_take (by omega) h2l]; exact hq
    obtain ⟨q, hq0⟩ : ∃ q : Nat, Lib.index ((c :: l0).drop 2) [42, 47] = q := ⟨(Lib.index ((c :: l0).drop 2) [42, 47]).toNat, by omega⟩
    have hin : Lib.index (((c :: l0).take j ++ X).drop 2) [42, 47] = q := by
      have e1 : ((c :: l0).take j ++ X).drop 2 = ((c :: l0).drop 2).take (j - 2) ++ X := by
        rw [List.drop_append_of_le_length (by rw [List.length_take]; omega), List.drop_take]
      have hlen : (((c :: l0).drop 2).take (j - 2)).length = j - 2 := by rw [List.length_take, List.length_drop]; omega
      have hocc : Lib.occAt ((c :: l0).drop 2) [42, 47] q = true ∧ ∀ i, i < q → Lib.occAt ((c :: l0).drop 2) [42, 47] i = false := by
        rcases Lib.index_spec ((c :: l0).drop 2) [42, 47] with ⟨e, _⟩ | ⟨i, e, _, o, hno⟩
        · omega
        · have : i = q := by omega
          subst this
          exact ⟨o, hno⟩
      rw [e1]
      refine noEnd_hit (fun i hi2 => ?_) ?_ ?_
      · cases ho : Lib.occAt (((c :: l0).drop 2).take (j - 2) ++ X) [42, 47] i with
        | false => rfl
        | true =>
          obtain ⟨o1, o2⟩ := occ2.1 ho
          rw [List.getElem?_append_left (by omega), List.getElem?_take_of_lt (by omega)] at o1 o2
          have := hocc.2 i hi2
          rw [occ2.2 ⟨o1, o2⟩] at this
          cases this
      · rw [List.getElem?_append_left (by omega), List.getElem?_take_of_lt (by omega)]
        exact (occ2.1 hocc.1).1
      · rw [List.getElem?_append_left (by omega), List.getElem?_take_of_lt (by omega)]
        exact (occ2.1 hocc.1).2
    have hc : cmtT ((c :: l0).take j ++ X) = ((q : Int) + 4, false) := by
      unfold cmtT; rw [if_neg (by simp [hp2]), if_neg (by simp [hq2]), if_neg (by omega), hin]
    obtain ⟨i, rfl⟩ : ∃ i, j = i + 1 := ⟨j - 1, by omega⟩
    rw [List.take_succ_cons, List.cons_append] at hc ⊢
    rw [skp_more hb (by rw [hc]) (by rw [hc]; show (q : Int) + 4 ≠ 0; omega), hc]
    congr 1
    show ((q : Int) + 4).toNat = n
    omega
/-- behind a line's remark no word begins -/
theorem line_end {l : List UInt8} (hw : skp (l.drop (preN nlB l)) = .word) : l.drop (preN nlB l) = [] := by
  induction l with
  | nil => rfl
  | cons c l ih =>
    unfold preN at hw ⊢
    by_cases hc : nlB c = true
    · rw [List.takeWhile_cons, if_pos hc] at hw ⊢
      rw [List.length_cons, List.drop_succ_cons] at hw ⊢
      exact ih hw
    · rw [List.takeWhile_cons, if_neg hc] at hw
      have h10 : c = 10 := by
        simp [nlB] at hc
        exact UInt8.toNat_inj.1 hc
      rw [h10] at hw
      exact absurd (hw.symm.trans (skp_lf l)) (by intro h; cases h)
theorem Scans.pre {p : Nat} {L : List UInt8} {acc : List T4} {r : SR} (h : Scans p L acc r) : ∀ l, r = .ok l → ∃ m, l = acc ++ m := by
  induction h with
  | done => intro l e; cases e; exact ⟨[], by simp⟩
  | skip _ _ ih => exact ih
  | opens => intro l e; cases e
  | much => intro l e; cases e
  | bad => intro l e; cases e
  | tok _ _ _ _ _ ih =>
    intro l e
    obtain ⟨m, hm⟩ := ih l e
    exact ⟨_ :: m, by rw [hm, List.append_assoc]; rfl⟩
/-- FROM WORD TO WORD -/
theorem Scans.step {e : Nat} {L : List UInt8} {acc : List T4} {r : SR} (h : Scans e L acc r) : ∀ l t m, r = .ok l → l = acc ++ t :: m →
    ∃ j n, j + n ≤ L.length ∧ 1 ≤ n ∧ acc.length ≠ 800 ∧ skp (L.drop j) = .word ∧ fstT (L.drop j) = .tok t.k n t.v ∧ t.t = (L.drop j).take n ∧ t.a = e + j ∧ Scans (e + j) (L.drop j) acc (.ok l) ∧
      Scans (e + j + n) (L.drop (j + n)) (acc ++ [t]) (.ok l) ∧ ∀ X r', Scans (e + j) X acc r' → Scans e (L.take j ++ X) acc r' := by
  induction h with
  | done p acc =>
    intro l t m er el
    cases er
    have := congrArg List.length el
    rw [List.length_append, List.length_cons] at this
    omega
  | @skip p L acc r n h k ih =>
    intro l t m er el
    obtain ⟨j, q, h1, h2, h8, h3, h4, h5, h6, h7, h9, h10⟩ := ih l t m er el
    obtain ⟨hn1, hn2⟩ := skp_len h
    rw [List.length_drop] at h1
    rw [List.drop_drop] at h3 h4 h5 h7 h9
    refine ⟨n + j, q, by omega, h2, h8, h3, h4, h5, by omega, by rw [← Nat.add_assoc]; exact h7, by rw [← Nat.add_assoc, Nat.add_assoc n j q]; exact h9, fun X r' hX => ?_⟩
    have hs : skp (L.take (n + j) ++ X) = .skip n := by
      by_cases hj : 0 < j
      · exact skp_app h (by omega) (by omega) (Or.inl (by omega))
      · obtain rfl : j = 0 := by omega
        have hno : Lib.hasPrefix L [47, 47] = false := by
          cases hp : Lib.hasPrefix L [47, 47] with
          | false => rfl
          | true =>
            rcases skp_ways h with ⟨c, l0, rfl, hb, rfl⟩ | ⟨c, l0, rfl, hb, _, _, rfl, _⟩ | ⟨c, l0, rfl, hb, hp2, _⟩
            · cases l0 with
              | nil => rw [pre_one] at hp; cases hp
              | cons d l1 =>
                have := ((pre_two _ _ _ _).1 hp).1
                rw [this] at hb; exact absurd hb (by decide)
            · have := line_end h3
              rw [Nat.add_zero] at h4
              rw [this] at h4; cases h4
            · rw [hp] at hp2; cases hp2
        exact skp_app_block h hno (by omega) (by omega)
    refine .skip hs ?_
    have e1 : (L.take (n + j) ++ X).drop n = (L.drop n).take j ++ X := by
      rw [List.drop_append_of_le_length (by rw [List.length_take]; omega), List.drop_take, Nat.add_sub_cancel_left]
    rw [e1]
    exact h10 X r' (by rw [Nat.add_assoc]; exact hX)
  | opens => intro l t m er; cases er
  | much => intro l t m er; cases er
  | bad => intro l t m er; cases er
  | @tok p L acc r k n v h hn hm hf k' ih =>
    intro l t m er el
    obtain ⟨m', hm'⟩ := k'.pre l er
    obtain ⟨hn1, hn2⟩ := fstT_tok hf
    rw [hm', List.append_assoc] at el
    have el2 := List.append_cancel_left el
    have ht : (⟨k, L.take n, v, p⟩ : T4) = t := by
      have := congrArg List.head? el2
      simpa using this
    subst ht
    refine ⟨0, n, by omega, hn1, hm, h, hf, rfl, rfl, by rw [← er]; exact .tok h hn hm hf k', by rw [← er, Nat.zero_add]; exact k', fun X r' hX => hX⟩
theorem step_room {j n : Nat} {L : List UInt8} (h : j + n ≤ L.length) (hn : 1 ≤ n) : L.drop j ≠ [] := fun e => by
  have := congrArg List.length e
  rw [List.length_drop, List.length_nil] at this
  omega
/-- a text cut where its k-th word begins: what is read there goes on behind the words before it -/
theorem Scans.cut : ∀ (m : List T4) {e : Nat} {L : List UInt8} {acc l : List T4}, Scans e L acc (.ok l) → l = acc ++ m → ∀ k, (hk : k < m.length) →
    ∃ j, j ≤ L.length ∧ m[k].a = e + j ∧ Scans (e + j) (L.drop j) (acc ++ m.take k) (.ok l) ∧ ∀ X r', Tail X → Scans (e + j) X (acc ++ m.take k) r' → Scans e (L.take j ++ X) acc r' := by
  intro m
  induction m with
  | nil => intro e L acc l _ _ k hk; simp at hk
  | cons t m ih =>
    intro e L acc l h hl k hk
    obtain ⟨j, n, h1, h2, h8, h3, h4, h5, h6, h7, h9, h10⟩ := h.step l t m rfl hl
    cases k with
    | zero => exact ⟨j, by omega, h6, by rw [List.take_zero, List.append_nil]; exact h7, fun X r' _ hX => h10 X r' (by rw [List.take_zero, List.append_nil] at hX; exact hX)⟩
    | succ k =>
      obtain ⟨j2, i1, i2, i3, i4⟩ := ih h9 (by rw [hl, List.append_assoc]; rfl) k (by simpa using hk)
      rw [List.length_drop] at i1
      have ea : acc ++ [t] ++ m.take k = acc ++ (t :: m).take (k + 1) := by rw [List.take_succ_cons, List.append_assoc]; rfl
      rw [ea] at i3 i4
      rw [List.drop_drop] at i3
      refine ⟨j + n + j2, by omega, by rw [List.getElem_cons_succ, i2]; omega, by rw [show e + (j + n + j2) = e + j + n + j2 by omega]; exact i3, fun X r' hT hX => ?_⟩
      have hd : L.take (j + n + j2) ++ X = L.take j ++ ((L.drop j).take (n + j2) ++ X) := by
        rw [Nat.add_assoc, List.take_add, List.append_assoc]
      rw [hd]
      refine h10 _ _ ?_
      have hw := word_app (r := X) (j := n + j2) hT h3 (by omega) (by rw [List.length_drop]; omega)
      have hf := fstT_app (r := X) (j := n + j2) hT h4 (by omega) (by rw [List.length_drop]; omega)
      refine .tok hw (by intro e2; have := congrArg List.length e2; rw [List.length_append, List.length_take, List.length_drop, List.length_nil] at this; omega) h8 hf ?_
      have e1 : ((L.drop j).take (n + j2) ++ X).drop n = (L.drop (j + n)).take j2 ++ X := by
        rw [List.drop_append_of_le_length (by rw [List.length_take, List.length_drop]; omega), List.drop_take, List.drop_drop, Nat.add_sub_cancel_left]
      have e2 : ((L.drop j).take (n + j2) ++ X).take n = t.t := by
        rw [take_app (by omega) (by rw [List.length_drop]; omega)]; exact h5.symm
      have e3 : (⟨t.k, t.t, t.v, e + j⟩ : T4) = t := by rw [← h6]
      rw [e1, e2, e3]
      exact i4 X r' hT (by rw [show e + (j + n + j2) = e + j + n + j2 by omega] at hX; exact hX)
theorem remark_skp {R S : List UInt8} (hR : ∀ c ∈ R, c ≠ 42 ∧ c ≠ 47) : skp (47 :: 42 :: (R ++ 42 :: 47 :: S)) = .skip (R.length + 4) := by
  have hi : Lib.index (R ++ 42 :: 47 :: S) [42, 47] = R.length := by
    refine noEnd_hit (fun i hi => ?_) (by rw [List.getElem?_append_right (Nat.le_refl _)]; simp) (by rw [List.getElem?_append_right (by omega)]; simp)
    cases ho : Lib.occAt (R ++ 42 :: 47 :: S) [42, 47] i with
    | false => rfl
    | true =>
      have := (occ2.1 ho).1
      rw [List.getElem?_append_left hi, List.getElem?_eq_getElem hi] at this
      exact absurd (Option.some.inj this) (hR _ (List.getElem_mem hi)).1
  have hc : cmtT (47 :: 42 :: (R ++ 42 :: 47 :: S)) = ((R.length : Int) + 4, false) := by
    unfold cmtT
    rw [if_neg (by simp [Lib.hasPrefix]), if_neg (by simp [Lib.hasPrefix])]
    show (if Lib.index (R ++ 42 :: 47 :: S) [42, 47] < 0 then ((0 : Int), true) else (Lib.index (R ++ 42 :: 47 :: S) [42, 47] + 4, false)) = _
    rw [hi, if_neg (by omega)]
  rw [skp_more (by decide) (by rw [hc]) (by rw [hc]; show (R.length : Int) + 4 ≠ 0; omega), hc]
  congr 1
theorem bare_sh (d : Nat) (m : List T4) : ((m.map (sh d)).map toI).map bareI = (m.map toI).map bareI := by
  induction m with
  | nil => rfl
  | cons t m ih => rw [List.map_cons, List.map_cons, List.map_cons, List.map_cons, List.map_cons, ih]; rfl
/-- A REMARK PUT IN WHERE A WORD BEGINS says nothing -/
theorem blank_scan {L R : List UInt8} {l : List T4} (h : Scans 0 L [] (.ok l)) (hR : ∀ c ∈ R, c ≠ 42 ∧ c ≠ 47) (k : Nat) (hk : k < l.length) :
    l[k].a ≤ L.length ∧ ∃ l', Scans 0 (L.take l[k].a ++ 32 :: 47 :: 42 :: (R ++ 42 :: 47 :: 32 :: L.drop l[k].a)) [] (.ok l') ∧ (l'.map toI).map bareI = (l.map toI).map bareI := by
  obtain ⟨j, h1, h2, h3, h4⟩ := Scans.cut l h rfl k hk
  rw [Nat.zero_add] at h2 h3 h4
  rw [List.nil_append] at h3 h4
  have hl8 := h.few (by simp) l rfl
  have htk : (l.take k).length ≤ 800 := by rw [List.length_take]; omega
  obtain ⟨r', hr, hp, _⟩ := h3.shift (R.length + 6) (l.take k) (Nat.le_refl _) htk
  obtain ⟨m, hm, h5, _⟩ := hp l rfl
  have hlen : (l.take k).length + m.length = l.length := by have := congrArg List.length hm; rw [List.length_append] at this; omega
  rw [h5 (by omega)] at hr
  refine ⟨by omega, l.take k ++ m.map (sh (R.length + 6)), ?_, ?_⟩
  · rw [h2]
    refine h4 _ _ (Or.inr ⟨32, _, rfl, Or.inl rfl⟩) ?_
    refine .skip (n := 1) (skp_blank (by decide)) ?_
    rw [List.drop_succ_cons, List.drop_zero]
    refine .skip (remark_skp hR) ?_
    have e1 : (47 :: 42 :: (R ++ 42 :: 47 :: 32 :: L.drop j)).drop (R.length + 4) = 32 :: L.drop j := by
      rw [show R.length + 4 = (R.length + 2) + 1 + 1 by omega, List.drop_succ_cons, List.drop_succ_cons, List.drop_append, List.drop_eq_nil_of_le (by omega), Nat.add_sub_cancel_left]
      rfl
    rw [e1]
    refine .skip (n := 1) (skp_blank (by decide)) ?_
    rw [List.drop_succ_cons, List.drop_zero, show j + 1 + (R.length + 4) + 1 = j + (R.length + 6) by omega]
    exact hr
  · rw [List.map_append, List.map_append, bare_sh, ← List.map_append, ← List.map_append, ← hm]
end Go.Proofs.YtaipdmaiffjeeaaDoor
