/-
  The walk of the law TokenJoin: it returns true, and nothing that was there has turned.
-/
import Derived.Test.YtaipdmaiffjeeaaDoorPd
import Derived.Test.YtaipdmaiffjeeaaDoorOp
import Derived.Laws.AppendOwnNone
namespace Go.Proofs.YtaipdmaiffjeeaaDoor
open Go.RowKit

theorem sc_use3 {L : List UInt8} {w w' : World} {e : Ending} (h : ScPost L w e w') :
    ∃ v c a l, e = .returned (.tuple #[v, .agg #[.int .i64 c, .int .i64 a]]) ∧ ScR L c a l ∧ ReadsK w.heap.size w' v (l.map toI) ∧ l.length ≤ 800 ∧ Below w.heap.size w w' ∧ ((∃ g cap, v = .slice (some g) l.length cap) ∨ (v = .slice none 0 0 ∧ l = [])) := by
  have hnil : ∀ w : World, ReadsK w.heap.size w' (.slice none 0 0) [] := fun w _ _ _ => ⟨none, 0, rfl, fun h => by simp at h⟩
  obtain ⟨hb, v, c, a, rfl, h⟩ := h
  refine ⟨v, c, a, ?_⟩
  rcases h with ⟨h1, rfl, rfl, rfl⟩ | ⟨h1, R, hS, hO⟩
  · exact ⟨[], rfl, Or.inl ⟨h1, rfl, rfl, rfl⟩, hnil _, by simp, hb, Or.inr ⟨rfl, rfl⟩⟩
  · cases R with
    | ok l =>
      refine ⟨l, rfl, Or.inr ⟨h1, Or.inl ⟨hS, hO.1, hO.2.1⟩⟩, readsK_own hO.2.2, hS.few (by simp) l rfl, hb, ?_⟩
      rcases hO.2.2.2 with ⟨hv, h0⟩ | ⟨g, cap, cur, hv, _⟩
      · exact Or.inr ⟨hv, List.eq_nil_of_length_eq_zero h0⟩
      · exact Or.inl ⟨_, _, hv⟩
    | bad c' a' =>
      obtain ⟨rfl, rfl, rfl⟩ := hO
      exact ⟨[], rfl, Or.inr ⟨h1, Or.inr ⟨c', a', hS, rfl, rfl, rfl⟩⟩, hnil _, by simp, hb, Or.inr ⟨rfl, rfl⟩⟩
theorem Scans.place {p : Nat} {L : List UInt8} {acc : List T4} {r : SR} (h : Scans p L acc r) : ∀ n, (∀ t ∈ acc, t.a ≤ n) → p + L.length ≤ n → ∀ l, r = .ok l → ∀ t ∈ l, t.a ≤ n := by
  induction h with
  | done p acc => intro n h _ l e; cases e; exact h
  | skip hs _ ih => intro n h hl; have := skp_len hs; exact ih n h (by rw [List.length_drop]; omega)
  | opens => intro n _ _ l e; cases e
  | much => intro n _ _ l e; cases e
  | bad => intro n _ _ l e; cases e
  | tok _ _ _ hf _ ih =>
    intro n h hl
    have := fstT_tok hf
    refine ih n (fun t ht => ?_) (by rw [List.length_drop]; omega)
    rcases List.mem_append.1 ht with ht | ht
    · exact h t ht
    · rw [List.mem_singleton.1 ht]; dsimp only; omega
def shI (d : Int) (t : I4) : I4 := { t with a := t.a + d }
theorem toI_sh (d : Nat) (l : List T4) : (l.map (sh d)).map toI = (l.map toI).map (shI d) := by
  induction l with
  | nil => rfl
  | cons t l ih => rw [List.map_cons, List.map_cons, List.map_cons, List.map_cons, ih]; rfl
theorem rowI_one (l : List I4) : ∀ u ∈ rowI l, u.oneCell' = true := by
  induction l with
  | nil => intro u h; simp [rowI] at h
  | cons t l ih =>
    intro u h
    rcases List.mem_append.1 (show u ∈ cellsI t ++ rowI l from h) with h | h
    · simp [cellsI] at h; rcases h with rfl | rfl | rfl | rfl <;> rfl
    · exact ih u h
theorem joined_next (L : List I4) {M : List I4} {k : Nat} (d : Int) (h : k < M.length) : rowI (L ++ (M.map (shI d)).take (k + 1)) = rowI (L ++ (M.map (shI d)).take k) ++ [.int .i64 M[k].k, .string (bstr M[k].t), .int .i64 M[k].v, .int .i64 (M[k].a + d)] := by
  rw [take_succ_I (l := M.map (shI d)) (by rw [List.length_map]; exact h), ← List.append_assoc, rowI_snoc, List.getElem_map]; rfl
theorem reads_at {W : World} {g : Addr} {n c : Nat} {L : List I4} (h : ReadsI W (.slice (some g) n c) L) : ∀ j u, (rowI L)[j]? = some u → W.cell? (g.add j) = some u := by
  obtain ⟨p, cap, e, hc⟩ := h
  cases e
  intro j u hu
  have hj : j < L.length * 4 := by
    have := (List.getElem?_eq_some_iff.1 hu).1
    rw [rowI_length] at this; exact this
  obtain ⟨b, o, e, _, hcell⟩ := hc (by omega)
  cases e
  rw [addr_plain]
  exact hcell j u hu
theorem join_text (s1 s2 : ByteArray) : (s1 ++ (⟨#[10]⟩ : ByteArray) ++ s2).data.toList = s1.data.toList ++ 10 :: s2.data.toList := by
  rw [ByteArray.data_append, ByteArray.data_append]; simp

set_option maxHeartbeats 8000000 in
set_option maxRecDepth 100000 in
theorem join_walk (s1 s2 : ByteArray) (w : World) (hs1 : s1.size ≤ 140737488355328) (hs2 : s2.size ≤ 140737488355328) (hsh : w.ShapedOpen Tryd.prog) (te : TypeId) (pe : Value) (hv : w.cell? ⟨2, 0, none⟩ = some (.iface te pe)) :
    Calls Tryd.prog 6 #[.string s1, .string s2] w fun e w' => e = .returned (.bool true) ∧ Below w.heap.size w w' := by
  have keep : ∀ w' : World, Below w.heap.size w w' → w'.ShapedOpen Tryd.prog ∧ w'.cell? ⟨2, 0, none⟩ = some (.iface te pe) := fun w' hb => ⟨sh_below hsh hb, (hb.cell (p := ⟨2, 0, none⟩) (Lib.lt_of_cell hv)).trans hv⟩
  have KE := Lib.hid keep
  have HT := Lib.hid (join_text s1 s2)
  have HZ1 := Lib.hid (Lib.size_eq s1)
  have HZ2 := Lib.hid (Lib.size_eq s2)
  have hs3 : (s1 ++ (⟨#[10]⟩ : ByteArray) ++ s2).size ≤ 281474976710657 := by
    rw [ByteArray.size_append, ByteArray.size_append]
    show s1.size + 1 + s2.size ≤ _
    omega
  clear keep
  go_enter Tryd.func6, Tryd.ntmps6
  go_wp2_with (go_at_call 14; refine (fact_any _ hsh te pe hv).mono ?_)
  rintro e w1 ⟨rfl, hb1⟩
  by_cases hbig : 1900 < s1.size + s2.size
  · go_wp2
    go_ret
    exact ⟨rfl, hb1⟩
  · have sh1 := (KE.out _ hb1).1
    have hv1 := (KE.out _ hb1).2
    have HB1 := Lib.hid hb1
    clear hb1
    go_wp2_with (go_at_call 9; refine (scan_any s1 _ hs1 sh1 te pe hv1).mono ?_)
    intro e w2 hp
    obtain ⟨vA, cA, aA, l, rfl, hrA, hkA, hlA, hbA, hvA⟩ := sc_use3 hp
    clear hp sh1 hv1
    have hB2 := HB1.out.trans (hbA.mono HB1.out.size)
    have lw2 := hB2.size
    have hB2a : Below w.heap.size w (w2.alloc (.cells #[.int .i64 cA, .int .i64 aA] 24)) := hB2.alloc lw2 _
    have sh2 := (KE.out _ hB2a).1
    have hv2 := (KE.out _ hB2a).2
    have hkA2 := hkA.below (w' := w2.alloc (.cells #[.int .i64 cA, .int .i64 aA] 24)) ((Below.refl _ _).alloc (Nat.le_refl _) _)
    have HKA := Lib.hid hkA2
    have HRA := Lib.hid hrA
    have HB2 := Lib.hid hB2a
    have HF2 := Lib.hid (heap_alloc_new w2 (.cells #[.int .i64 cA, .int .i64 aA] 24))
    have HVA := Lib.hid hvA
    clear hrA hkA hbA hB2 hB2a hkA2 hvA HB1
    go_wp2_with (go_at_call 9; refine (scan_any s2 _ hs2 sh2 te pe hv2).mono ?_)
    intro e w3 hp
    obtain ⟨vB, cB, aB, m, rfl, hrB, hkB, hlB, hbB, hvB⟩ := sc_use3 hp
    clear hp sh2 hv2
    have hB3 := HB2.out.trans (hbB.mono HB2.out.size)
    have lw3 := hB3.size
    have hF3 := (hbB.block w2.heap.size (lt_of_block HF2.out)).trans HF2.out
    have hx3 : Below w3.heap.size w3 (w3.alloc (.cells #[.int .i64 cB, .int .i64 aB] 24)) := (Below.refl _ _).alloc (Nat.le_refl _) _
    have hF3a := (hx3.block w2.heap.size (lt_of_block hF3)).trans hF3
    have hB3a : Below w.heap.size w (w3.alloc (.cells #[.int .i64 cB, .int .i64 aB] 24)) := hB3.alloc lw3 _
    have sh3 := (KE.out _ hB3a).1
    have hv3 := (KE.out _ hB3a).2
    have hkA3 := (HKA.out.below hbB).below hx3
    have hkB3 := hkB.below hx3
    have HKA3 := Lib.hid hkA3
    have HKB3 := Lib.hid hkB3
    have HRB := Lib.hid hrB
    have HB3 := Lib.hid hB3a
    have HF3 := Lib.hid hF3a
    have HG3 := Lib.hid (heap_alloc_new w3 (.cells #[.int .i64 cB, .int .i64 aB] 24))
    have HVB := Lib.hid hvB
    clear hrB hkB hbB hB3 hB3a hkA3 hkB3 hvB HB2 HKA HF2 hx3 hF3 hF3a
    have hs3' : (s1 ++ (⟨#[10]⟩ : ByteArray) ++ s2).size ≤ 140737488355328 := by
      rw [ByteArray.size_append, ByteArray.size_append]
      show s1.size + 1 + s2.size ≤ _
      omega
    go_wp2_with (go_at_call 9; refine (scan_any (s1 ++ (⟨#[10]⟩ : ByteArray) ++ s2) _ hs3' sh3 te pe hv3).mono ?_)
    intro e w4 hp
    rw [HT.out] at hp
    obtain ⟨vC, cC, aC, q, rfl, hrC, hkC, hlC, hbC⟩ := sc_use2 hp
    clear hp sh3 hv3 hs3 hs3'
    have hB4 := HB3.out.trans (hbC.mono HB3.out.size)
    have lw4 := hB4.size
    have hF4 := (hbC.block w2.heap.size (lt_of_block HF3.out)).trans HF3.out
    have hG4 := (hbC.block w3.heap.size (lt_of_block HG3.out)).trans HG3.out
    obtain ⟨f0, f1, _, _, f2⟩ := fault_at hF4
    obtain ⟨g0, g1, _, _, g2⟩ := fault_at hG4
    have hx4 : Below w4.heap.size w4 (w4.alloc (.cells #[.int .i64 cC, .int .i64 aC] 24)) := (Below.refl _ _).alloc (Nat.le_refl _) _
    have hB4a : Below w.heap.size w (w4.alloc (.cells #[.int .i64 cC, .int .i64 aC] 24)) := hB4.alloc lw4 _
    have hways := join_ways (by have := HZ1.out; have := HZ2.out; omega) HRA.out HRB.out hrC
    have hkA4 := ((HKA3.out.below hbC).below hx4).here
    have hkB4 := ((HKB3.out.below hbC).below hx4).here
    have hkC4 := (hkC.below hx4).here
    have HKA4 := Lib.hid hkA4
    have HKB4 := Lib.hid hkB4
    have HKC4 := Lib.hid hkC4
    have HB4 := Lib.hid hB4a
    clear hkA4 hkB4 hkC4 hrC hkC hbC hB4 hB4a HB3 HKA3 HKB3 HF3 HG3 hF4 hG4 hx4
    rcases hways with ⟨hc, hc1⟩ | ⟨rfl, hor, hc2⟩ | ⟨rfl, rfl, hlm, rfl, rfl⟩
    · have n1 : (cA != 0) = true := by simpa using hc
      rcases hc1 with rfl | ⟨rfl, rfl⟩
      · clear hc n1
        go_wp2
        go_ret
        exact ⟨rfl, HB4.out⟩
      · by_cases h1 : cC = 1
        · subst h1
          clear hc n1
          go_wp2
          go_ret
          exact ⟨rfl, HB4.out⟩
        · have n2 : (cC == 1) = false := beq_of_ne h1
          clear hc h1
          go_wp2
          go_ret
          exact ⟨rfl, HB4.out⟩
    · have n2 : (cC != 0) = true := by simpa using hc2
      by_cases hc1 : cB = 0
      · subst hc1
        have h8 : 800 < l.length + m.length := hor.resolve_left (fun h => h rfl)
        obtain ⟨pA, qA, rfl⟩ : ∃ p c, vA = .slice p l.length c := by obtain ⟨p, c, h, _⟩ := HKA4.out; exact ⟨p, c, by rw [h, List.length_map]⟩
        obtain ⟨pB, qB, rfl⟩ : ∃ p c, vB = .slice p m.length c := by obtain ⟨p, c, h, _⟩ := HKB4.out; exact ⟨p, c, by rw [h, List.length_map]⟩
        clear hor hc2
        go_wp2
        go_ret
        exact ⟨rfl, HB4.out⟩
      · have n1 : (cB != 0) = true := by simpa using hc1
        clear hor hc1 hc2
        go_wp2
        go_ret
        exact ⟨rfl, HB4.out⟩
    · obtain ⟨pB, qB, rfl⟩ : ∃ p c, vB = .slice p m.length c := by obtain ⟨p, c, h, _⟩ := HKB4.out; exact ⟨p, c, by rw [h, List.length_map]⟩
      have hpl : ∀ t ∈ m.map toI, 0 ≤ t.a ∧ t.a ≤ 2000 := by
        intro t ht
        obtain ⟨x, hx, rfl⟩ := List.mem_map.1 ht
        rcases HRB.out.ways with ⟨h, _⟩ | ⟨_, _, hL, hS⟩
        · exact absurd rfl h
        · have := hS.place 2000 (fun _ h => by simp at h) (by omega) m rfl x hx
          show (0 : Int) ≤ (x.a : Int) ∧ (x.a : Int) ≤ 2000
          omega
      have hkc : ReadsI (w4.alloc (.cells #[.int .i64 0, .int .i64 aC] 24)) vC (l.map toI ++ (m.map toI).map (shI ((s1.size : Int) + 1))) := by
        have h := HKC4.out
        rw [List.map_append, toI_sh, ← HZ1.out, show ((s1.size + 1 : Nat) : Int) = (s1.size : Int) + 1 from rfl] at h
        exact h
      obtain ⟨n, hn⟩ : ∃ n, n = l.length := ⟨_, rfl⟩
      obtain ⟨n2, hn2⟩ : ∃ n, n = m.length := ⟨_, rfl⟩
      obtain ⟨LI, hLI⟩ : ∃ LI, LI = l.map toI := ⟨_, rfl⟩
      obtain ⟨M, hM⟩ : ∃ M, M = m.map toI := ⟨_, rfl⟩
      obtain ⟨RW, hRW⟩ : ∃ RW : Nat → List Value, RW = fun k => rowI (LI ++ (M.map (shI ((s1.size : Int) + 1))).take k) := ⟨_, rfl⟩
      have hML : M.length = n2 := by rw [hM, List.length_map, hn2]
      have hLL : LI.length = n := by rw [hLI, List.length_map, hn]
      have hnext : ∀ k, (h : k < M.length) → RW (k + 1) = RW k ++ [.int .i64 M[k].k, .string (bstr M[k].t), .int .i64 M[k].v, .int .i64 (M[k].a + (s1.size : Int) + 1)] := fun k h => by
        rw [hRW, Int.add_assoc]; exact joined_next LI _ h
      have h0 : RW 0 = rowI LI := by rw [hRW]; simp
      have hend : RW n2 = rowI (LI ++ M.map (shI ((s1.size : Int) + 1))) := by rw [hRW]; dsimp only; rw [List.take_of_length_le (by rw [List.length_map]; omega)]
      rw [← hLI, ← hM] at hkc
      rw [← hM] at hpl
      have hkb := HKB4.out
      have hka := HKA4.out
      rw [← hM, ← hn2] at hkb
      rw [← hLI] at hka
      rw [← hn, ← hn2] at hlm
      have hva : (∃ g cap, vA = .slice (some g) n cap) ∨ (vA = .slice none 0 0 ∧ n = 0) := by
        rcases HVA.out with ⟨g, c, h⟩ | ⟨h, h'⟩
        · exact Or.inl ⟨g, c, by rw [hn]; exact h⟩
        · exact Or.inr ⟨h, by rw [hn, h']; rfl⟩
      rw [← hn2]
      have HN := Lib.hid hnext
      have H0 := Lib.hid h0
      have HE := Lib.hid hend
      have HML := Lib.hid hML
      have HLL := Lib.hid hLL
      have HPL := Lib.hid hpl
      have HKB := Lib.hid hkb
      have HKA := Lib.hid hka
      have HKC := Lib.hid hkc
      clear hn hn2 hLI hM hRW hML hLL hnext h0 hend hpl hkc hkb hka HKA4 HKB4 HKC4 HVA HVB HRA HRB hlA hlB hlC
      obtain ⟨i0, hi, hz0, hz1, hz2⟩ := info_parts info36
      rcases hva with ⟨gA, qA, rfl⟩ | ⟨rfl, rfl⟩
      · go_wp2_with (at_builtin; refine wpList_append_own _ rfl _ _ 22 rfl (w4.heap.size + 1) 36 i0 (.agg #[.int .i64 0, .string ⟨#[]⟩, .int .i64 0, .int .i64 0]) 4 40 Tryd.underlying22 hi hz0 hz1 hz2 rfl (by decide) _ 0 [] rfl (World.ownsRow_nil _ _ _ _) gA n qA (rowI LI) rfl ?c0 ?c1 ?c2 ?c3 ?c4 ?c5 ?_)
        case c0 => rw [rowI_length, HLL.out]
        case c1 => exact reads_at HKA.out
        case c2 => exact rowI_one LI
        case c3 => unfold maxLen; omega
        case c4 => omega
        case c5 => simp
        intro vO w5 hown hgrow _
        have hbel : Below (w4.heap.size + 1) (w4.alloc (.cells #[.int .i64 0, .int .i64 aC] 24)) w5 := Below.grown (Below.refl _ _) hgrow (by simp) (fun g h => by cases h)
        rw [← H0.out] at hown
        have HOW := Lib.hid hown
        have HBL := Lib.hid hbel
        clear hown hgrow hbel
        go_wp2
        go_loopw [12, 13] (fun vo vi wr => ∃ k : Nat, k ≤ n2 ∧ vi = .int .i64 k ∧ Below (w4.heap.size + 1) (w4.alloc (.cells #[.int .i64 0, .int .i64 aC] 24)) wr ∧ wr.ownsRow (w4.heap.size + 1) 36 4 vo (n + k) (RW k)) (fun _ vi _ => n2 - (intOf vi).toNat)
        case atStart => exact ⟨0, Nat.zero_le _, rfl, HBL.out, HOW.out⟩
        case round =>
          obtain ⟨k, hk, rfl, hb, ho⟩ := hrel
          obtain ⟨q, qc, rfl⟩ := own_shape ho
          have HB := Lib.hid hb
          have HO := Lib.hid ho
          have lw := hb.size
          have lw4r : w4.heap.size + 1 ≤ wr.heap.size := by simpa using lw
          clear hb ho lw
          by_cases hlt : k < n2
          · have hl : k < M.length := by have := HML.out; omega
            have hnx := HN.out k hl
            have hpk := HPL.out M[k] (List.getElem_mem hl)
            obtain ⟨p', cap', e', hc'⟩ := HKB.out
            cases e'
            obtain ⟨b, o, rfl, hbl, hcell⟩ := hc' (by omega)
            obtain ⟨q0, q1, q2, q3⟩ := rowI_get M k hl
            have hbl2 : b < w4.heap.size + 1 := by simpa using hbl
            have c0 := (HB.out.cell (p := ⟨b, o + k * 4, none⟩) hbl2).trans (hcell _ _ q0)
            have c1 := (HB.out.cell (p := ⟨b, o + (k * 4 + 1), none⟩) hbl2).trans (hcell _ _ q1)
            have c2 := (HB.out.cell (p := ⟨b, o + (k * 4 + 2), none⟩) hbl2).trans (hcell _ _ q2)
            have c3 := (HB.out.cell (p := ⟨b, o + (k * 4 + 3), none⟩) hbl2).trans (hcell _ _ q3)
            rw [← Nat.add_assoc] at c1 c2 c3
            clear q0 q1 q2 q3 hcell hc' hbl
            generalize M[k] = t at *
            obtain ⟨pa0, pa1⟩ := hpk
            generalize bstr t.t = x at *
            have Hnext := Lib.hid hnx
            have HO5 := Lib.hid ((HO.out.alloc (.cells #[.int .i64 t.k, .string x, .int .i64 t.v, .int .i64 (t.a + (s1.size : Int) + 1)] 36)).alloc (.cells #[.int .i64 t.k, .string x, .int .i64 t.v, .int .i64 (t.a + (s1.size : Int) + 1)] 36))
            clear hnx
            go_wp2_with (at_builtin; refine wpList_append_own _ rfl _ _ 22 rfl (w4.heap.size + 1) 36 i0 (.agg #[.int .i64 0, .string ⟨#[]⟩, .int .i64 0, .int .i64 0]) 4 40 Tryd.underlying22 hi hz0 hz1 hz2 rfl (by decide) _ (n + k) (RW k) rfl HO5.out ⟨wr.heap.size + 1, 0, none⟩ 1 1 [.int .i64 t.k, .string x, .int .i64 t.v, .int .i64 (t.a + (s1.size : Int) + 1)] rfl rfl ?d1 ?d2 ?d3 ?d4 ?d5 ?_)
            try case d1 => exact news_cells _ [.int .i64 t.k, .string x, .int .i64 t.v, .int .i64 (t.a + (s1.size : Int) + 1)] 36 _ (by simp)
            case d2 => exact ⟨rfl, rfl, rfl, rfl⟩
            case d3 => unfold maxLen; omega
            case d4 => omega
            case d5 => first | omega | (simp; omega)
            intro v' w6 hown' hgrow _
            have hbel : Below (w4.heap.size + 1) (w4.alloc (.cells #[.int .i64 0, .int .i64 aC] 24)) w6 := by
              refine Below.grown ((HB.out.alloc lw4r _).alloc ?_ _) hgrow ?_ (fun g h => by have := (HO5.out.lt g h).1; omega)
              · simp; omega
              · simp; omega
            rw [← Hnext.out] at hown'
            have HOw := Lib.hid hown'
            have HBel := Lib.hid hbel
            clear hown' hgrow hbel
            go_wp2
            go_roundw
            case rel => exact ⟨k + 1, by omega, by go_num, HBel.out, HOw.out⟩
            case measure => simp [intOf]; omega
          · obtain rfl : k = n2 := by omega
            have hr := HO.out
            rw [HE.out] at hr
            have hR := readsI_own hr (by simp only [List.length_append, List.length_map]; have := HML.out; have := HLL.out; omega)
            have hC := HKC.out.below (w' := wr) (by simpa using HB.out)
            have hH : wr.heap[w4.heap.size]? = some (.cells #[.int .i64 0, .int .i64 aC] 24 (0, 0)) := (HB.out.block w4.heap.size (Nat.lt_succ_self _)).trans (heap_alloc_new w4 _)
            obtain ⟨k0, k1, _, _, k2⟩ := fault_at hH
            have hQ := same_any (LI ++ M.map (shI ((s1.size : Int) + 1))) vC _ wr (by rw [List.length_append, List.length_map, HML.out, HLL.out]; omega) hC hR
            have hBw : Below w.heap.size w wr := HB4.out.trans (HB.out.mono (Nat.le_succ_of_le lw4))
            have HBw := Lib.hid hBw
            clear hr hR hC hH hBw HO HB
            go_wp2_with (go_at_call 11; refine hQ.mono ?_)
            rintro e w7 ⟨rfl, hb7⟩
            have HF := Lib.hid (HBw.out.trans (hb7.mono HBw.out.size))
            clear hb7 hQ
            go_wp2
            go_ret
            exact ⟨rfl, HF.out⟩
      · have HOW : Hid ((w4.alloc (.cells #[.int .i64 0, .int .i64 aC] 24)).ownsRow (w4.heap.size + 1) 36 4 (.slice none 0 0) 0 (RW 0)) := by
          have e : RW 0 = [] := by rw [H0.out, List.eq_nil_of_length_eq_zero HLL.out]; rfl
          rw [e]; exact World.ownsRow_nil _ _ _ _
        have HBL : Hid (Below (w4.heap.size + 1) (w4.alloc (.cells #[.int .i64 0, .int .i64 aC] 24)) (w4.alloc (.cells #[.int .i64 0, .int .i64 aC] 24))) := Below.refl _ _
        go_wp2_with (at_builtin; refine wpList_append_own_none _ rfl _ _ 22 rfl (w4.heap.size + 1) 36 i0 4 Tryd.underlying22 hi _ 0 [] rfl (World.ownsRow_nil _ _ _ _) rfl ?_)
        go_wp2
        go_loopw [12, 13] (fun vo vi wr => ∃ k : Nat, k ≤ n2 ∧ vi = .int .i64 k ∧ Below (w4.heap.size + 1) (w4.alloc (.cells #[.int .i64 0, .int .i64 aC] 24)) wr ∧ wr.ownsRow (w4.heap.size + 1) 36 4 vo k (RW k)) (fun _ vi _ => n2 - (intOf vi).toNat)
        case atStart => exact ⟨0, Nat.zero_le _, rfl, HBL.out, HOW.out⟩
        case round =>
          obtain ⟨k, hk, rfl, hb, ho⟩ := hrel
          obtain ⟨q, qc, rfl⟩ := own_shape ho
          have HB := Lib.hid hb
          have HO := Lib.hid ho
          have lw := hb.size
          have lw4r : w4.heap.size + 1 ≤ wr.heap.size := by simpa using lw
          clear hb ho lw
          by_cases hlt : k < n2
          · have hl : k < M.length := by have := HML.out; omega
            have hnx := HN.out k hl
            have hpk := HPL.out M[k] (List.getElem_mem hl)
            obtain ⟨p', cap', e', hc'⟩ := HKB.out
            cases e'
            obtain ⟨b, o, rfl, hbl, hcell⟩ := hc' (by omega)
            obtain ⟨q0, q1, q2, q3⟩ := rowI_get M k hl
            have hbl2 : b < w4.heap.size + 1 := by simpa using hbl
            have c0 := (HB.out.cell (p := ⟨b, o + k * 4, none⟩) hbl2).trans (hcell _ _ q0)
            have c1 := (HB.out.cell (p := ⟨b, o + (k * 4 + 1), none⟩) hbl2).trans (hcell _ _ q1)
            have c2 := (HB.out.cell (p := ⟨b, o + (k * 4 + 2), none⟩) hbl2).trans (hcell _ _ q2)
            have c3 := (HB.out.cell (p := ⟨b, o + (k * 4 + 3), none⟩) hbl2).trans (hcell _ _ q3)
            rw [← Nat.add_assoc] at c1 c2 c3
            clear q0 q1 q2 q3 hcell hc' hbl
            generalize M[k] = t at *
            obtain ⟨pa0, pa1⟩ := hpk
            generalize bstr t.t = x at *
            have Hnext := Lib.hid hnx
            have HO5 := Lib.hid ((HO.out.alloc (.cells #[.int .i64 t.k, .string x, .int .i64 t.v, .int .i64 (t.a + (s1.size : Int) + 1)] 36)).alloc (.cells #[.int .i64 t.k, .string x, .int .i64 t.v, .int .i64 (t.a + (s1.size : Int) + 1)] 36))
            clear hnx
            go_wp2_with (at_builtin; refine wpList_append_own _ rfl _ _ 22 rfl (w4.heap.size + 1) 36 i0 (.agg #[.int .i64 0, .string ⟨#[]⟩, .int .i64 0, .int .i64 0]) 4 40 Tryd.underlying22 hi hz0 hz1 hz2 rfl (by decide) _ k (RW k) rfl HO5.out ⟨wr.heap.size + 1, 0, none⟩ 1 1 [.int .i64 t.k, .string x, .int .i64 t.v, .int .i64 (t.a + (s1.size : Int) + 1)] rfl rfl ?e1 ?e2 ?e3 ?e4 ?e5 ?_)
            try case e1 => exact news_cells _ [.int .i64 t.k, .string x, .int .i64 t.v, .int .i64 (t.a + (s1.size : Int) + 1)] 36 _ (by simp)
            case e2 => exact ⟨rfl, rfl, rfl, rfl⟩
            case e3 => unfold maxLen; omega
            case e4 => omega
            case e5 => first | omega | (simp; omega)
            intro v' w6 hown' hgrow _
            have hbel : Below (w4.heap.size + 1) (w4.alloc (.cells #[.int .i64 0, .int .i64 aC] 24)) w6 := by
              refine Below.grown ((HB.out.alloc lw4r _).alloc ?_ _) hgrow ?_ (fun g h => by have := (HO5.out.lt g h).1; omega)
              · simp; omega
              · simp; omega
            rw [← Hnext.out] at hown'
            have HOw := Lib.hid hown'
            have HBel := Lib.hid hbel
            clear hown' hgrow hbel
            go_wp2
            go_roundw
            case rel => exact ⟨k + 1, by omega, by go_num, HBel.out, HOw.out⟩
            case measure => simp [intOf]; omega
          · obtain rfl : k = n2 := by omega
            have hr := HO.out
            rw [HE.out] at hr
            have hR := readsI_own hr (by simp only [List.length_append, List.length_map]; have := HML.out; have := HLL.out; omega)
            have hC := HKC.out.below (w' := wr) (by simpa using HB.out)
            have hH : wr.heap[w4.heap.size]? = some (.cells #[.int .i64 0, .int .i64 aC] 24 (0, 0)) := (HB.out.block w4.heap.size (Nat.lt_succ_self _)).trans (heap_alloc_new w4 _)
            obtain ⟨k0, k1, _, _, k2⟩ := fault_at hH
            have hQ := same_any (LI ++ M.map (shI ((s1.size : Int) + 1))) vC _ wr (by rw [List.length_append, List.length_map, HML.out, HLL.out]; omega) hC hR
            have hBw : Below w.heap.size w wr := HB4.out.trans (HB.out.mono (Nat.le_succ_of_le lw4))
            have HBw := Lib.hid hBw
            clear hr hR hC hH hBw HO HB
            go_wp2_with (go_at_call 11; refine hQ.mono ?_)
            rintro e w7 ⟨rfl, hb7⟩
            have HF := Lib.hid (HBw.out.trans (hb7.mono HBw.out.size))
            clear hb7 hQ
            go_wp2
            go_ret
            exact ⟨rfl, HF.out⟩
end Go.Proofs.YtaipdmaiffjeeaaDoor
