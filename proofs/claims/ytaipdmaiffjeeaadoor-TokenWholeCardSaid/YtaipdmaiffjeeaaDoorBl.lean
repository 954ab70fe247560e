/-
  The walk of the law TokenBlank: it returns true, and nothing that was there has turned.
-/
import Derived.Test.YtaipdmaiffjeeaaDoorPe
import Derived.Test.YtaipdmaiffjeeaaDoorJw
namespace Go.Proofs.YtaipdmaiffjeeaaDoor
open Go.RowKit

set_option maxHeartbeats 1000000 in
theorem in_any (n a b : Int) (w : World) :
    Calls Tryd.prog 16 #[.int .i64 n, .int .i64 a, .int .i64 b] w fun e w' => e = .returned (.bool (decide (a ≤ n ∧ n ≤ b))) ∧ w = w' := by
  by_cases h1 : a ≤ n
  · by_cases h2 : n ≤ b
    · go_enter Tryd.func16, Tryd.ntmps16
      go_wp2
      go_ret
      exact ⟨ret_bool (by first | (simp; done) | (simp; omega)), rfl⟩
    · go_enter Tryd.func16, Tryd.ntmps16
      go_wp2
      go_ret
      exact ⟨ret_bool (by first | (simp; done) | (simp; omega)), rfl⟩
  · go_enter Tryd.func16, Tryd.ntmps16
    go_wp2
    go_ret
    exact ⟨ret_bool (by first | (simp; done) | (simp; omega)), rfl⟩
theorem blank_text (s r : ByteArray) (a : Nat) : ((((s.extract 0 a ++ (⟨#[32, 47, 42]⟩ : ByteArray)) ++ r) ++ (⟨#[42, 47, 32]⟩ : ByteArray)) ++ s.extract a s.size).data.toList = s.data.toList.take a ++ 32 :: 47 :: 42 :: (r.data.toList ++ 42 :: 47 :: 32 :: s.data.toList.drop a) := by
  rw [ByteArray.data_append, ByteArray.data_append, ByteArray.data_append, ByteArray.data_append]
  simp only [Array.toList_append, ext0_data, extE_data]
  simp

set_option maxHeartbeats 8000000 in
set_option maxRecDepth 100000 in
theorem blank_walk (s r : ByteArray) (kz : Int) (w : World) (hs : s.size ≤ 140737488355328) (hr : r.size ≤ 140737488355328) (hsh : w.ShapedOpen Tryd.prog) (te : TypeId) (pe : Value) (hv : w.cell? ⟨2, 0, none⟩ = some (.iface te pe)) :
    Calls Tryd.prog 7 #[.string s, .int .i64 kz, .string r] w fun e w' => e = .returned (.bool true) ∧ Below w.heap.size w w' := by
  have keep : ∀ w' : World, Below w.heap.size w w' → w'.ShapedOpen Tryd.prog ∧ w'.cell? ⟨2, 0, none⟩ = some (.iface te pe) := fun w' hb => ⟨sh_below hsh hb, (hb.cell (p := ⟨2, 0, none⟩) (Lib.lt_of_cell hv)).trans hv⟩
  have KE := Lib.hid keep
  have HZ1 := Lib.hid (Lib.size_eq s)
  have HZ2 := Lib.hid (Lib.size_eq r)
  clear keep
  go_enter Tryd.func7, Tryd.ntmps7
  go_wp2_with (go_at_call 14; refine (fact_any _ hsh te pe hv).mono ?_)
  rintro e w1 ⟨rfl, hb1⟩
  have sh1 := (KE.out _ hb1).1
  have hv1 := (KE.out _ hb1).2
  have HB1 := Lib.hid hb1
  clear hb1
  go_wp2_with (go_at_call 9; refine (scan_any s _ hs sh1 te pe hv1).mono ?_)
  intro e w2 hp
  obtain ⟨vA, cA, aA, l, rfl, hrA, hkA, hlA, hbA⟩ := sc_use2 hp
  clear hp sh1 hv1
  have hB2 := HB1.out.trans (hbA.mono HB1.out.size)
  have lw2 := hB2.size
  have hB2a : Below w.heap.size w (w2.alloc (.cells #[.int .i64 cA, .int .i64 aA] 24)) := hB2.alloc lw2 _
  have hkA2 := hkA.below (w' := w2.alloc (.cells #[.int .i64 cA, .int .i64 aA] 24)) ((Below.refl _ _).alloc (Nat.le_refl _) _)
  obtain ⟨pA, qA, rfl⟩ : ∃ p c, vA = .slice p l.length c := by obtain ⟨p, c, h, _⟩ := hkA.here; exact ⟨p, c, by rw [h, List.length_map]⟩
  have HKA := Lib.hid hkA2
  have HK2 := Lib.hid hkA
  have HW2 := Lib.hid hB2
  have HB2 := Lib.hid hB2a
  clear hkA hbA hB2 hB2a hkA2 HB1
  rcases hrA.ways with ⟨hc, rfl⟩ | ⟨rfl, rfl, hL, hS⟩
  · have n1 : (cA != 0) = true := by simpa using hc
    have n2 : (cA == 0) = false := beq_of_ne hc
    clear hrA hc HKA HK2
    rw [List.length_nil]
    go_wp2
    go_ret
    exact ⟨rfl, HB2.out⟩
  · have HS := Lib.hid hS
    clear hrA hS hL
    obtain ⟨n, hn⟩ : ∃ n, n = l.length := ⟨_, rfl⟩
    rw [← hn] at hlA ⊢
    have Hn := Lib.hid hn
    clear hn
    by_cases hin : 0 ≤ kz ∧ kz ≤ (n : Int) - 1
    · obtain ⟨k, rfl⟩ : ∃ k : Nat, kz = k := ⟨kz.toNat, by omega⟩
      have hd : decide (0 ≤ (k : Int) ∧ (k : Int) ≤ (n : Int) - 1) = true := by simpa using hin
      by_cases hbig : 1900 < s.size + r.size
      · go_wp2_with (go_at_call 16; refine (in_any _ _ _ _).mono ?_; rintro e w3 ⟨rfl, rfl⟩; try rw [hd])
        go_ret
        exact ⟨rfl, HB2.out⟩
      · go_wp2_with (go_at_call 16; refine (in_any _ _ _ _).mono ?_; rintro e w3 ⟨rfl, rfl⟩; try rw [hd])
        go_loopw [10] (fun v wr => ∃ j : Nat, j ≤ r.size ∧ v = .int .i64 j ∧ wr = w2.alloc (.cells #[.int .i64 0, .int .i64 0] 24) ∧ Hid (∀ i, (h : i < r.data.toList.length) → i < j → r.data.toList[i] ≠ 42 ∧ r.data.toList[i] ≠ 47)) (fun v _ => r.size - (intOf v).toNat)
        case atStart => exact ⟨0, Nat.zero_le _, rfl, rfl, fun i _ h => by omega⟩
        case round =>
          obtain ⟨j, hj, rfl, rfl, HJ⟩ := hrel
          by_cases hlt : j < r.size
          · by_cases h42 : r[j] = 42
            · have m0 : ((r[j].toNat : Int) == 42) = true := beq_of (by rw [h42]; rfl)
              clear HJ h42
              go_wp2
              go_ret
              exact ⟨rfl, HB2.out⟩
            · by_cases h47 : r[j] = 47
              · have m0 : ((r[j].toNat : Int) == 42) = false := u8_ne h42
                have m1 : ((r[j].toNat : Int) == 47) = true := beq_of (by rw [h47]; rfl)
                clear HJ h42 h47
                go_wp2
                go_ret
                exact ⟨rfl, HB2.out⟩
              · have m0 : ((r[j].toNat : Int) == 42) = false := u8_ne h42
                have m1 : ((r[j].toNat : Int) == 47) = false := u8_ne h47
                have HN : Hid (∀ i, (h : i < r.data.toList.length) → i < j + 1 → r.data.toList[i] ≠ 42 ∧ r.data.toList[i] ≠ 47) := fun i h hi => by
                  by_cases e : i = j
                  · subst e; exact ⟨h42, h47⟩
                  · exact HJ.out i h (by omega)
                clear HJ h42 h47
                go_wp2
                go_roundw
                case rel => exact ⟨j + 1, by omega, by go_num, by first | rfl | trivial, HN⟩
                case measure => simp [intOf]; omega
          · have hR : ∀ c ∈ r.data.toList, c ≠ 42 ∧ c ≠ 47 := fun c hc => by
              obtain ⟨i, hi, rfl⟩ := List.getElem_of_mem hc
              exact HJ.out i hi (by have := HZ2.out; omega)
            have hkl : k < l.length := by have := Hn.out; omega
            obtain ⟨hat, l', hS', hE'⟩ := blank_scan HS.out hR k hkl
            obtain ⟨p', cap', e', hc'⟩ := HKA.out.here
            have hkm : k < (l.map toI).length := by rw [List.length_map]; exact hkl
            obtain ⟨q0, q1, q2, q3⟩ := rowI_get (l.map toI) k hkm
            rw [List.length_map] at e'
            cases e'
            obtain ⟨b, o, rfl, hbl, hcell⟩ := hc' (by omega)
            have c3a := hcell _ _ q3
            rw [← Nat.add_assoc, List.getElem_map] at c3a
            have c3 : (w2.alloc (.cells #[.int .i64 0, .int .i64 0] 24)).cell? ⟨b, o + k * 4 + 3, none⟩ = some (.int .i64 (l[k].a : Nat)) := c3a
            clear c3a
            obtain ⟨a, ha⟩ : ∃ a, a = l[k].a := ⟨_, rfl⟩
            rw [← ha] at c3 hat hS'
            have hsa : a ≤ s.size := by have := HZ1.out; omega
            have hdat : decide (0 ≤ (a : Int) ∧ (a : Int) ≤ (s.size : Int)) = true := by simp; omega
            have HS' := Lib.hid hS'
            have HE' := Lib.hid hE'
            clear q0 q1 q2 q3 hcell hc' hR ha hS' hE' hat HJ hkm hd
            have hBd : Below w.heap.size w (w2.alloc (.cells #[.int .i64 0, .int .i64 0] 24)).drew := HB2.out.drew
            have sh5 := (KE.out _ hBd).1
            have hv5 := (KE.out _ hBd).2
            have hT := blank_text s r a
            have hTz : ((((s.extract 0 a ++ (⟨#[32, 47, 42]⟩ : ByteArray)) ++ r) ++ (⟨#[42, 47, 32]⟩ : ByteArray)) ++ s.extract a s.size).size ≤ 2000 := by
              rw [Lib.size_eq, hT, List.length_append, List.length_take, List.length_cons, List.length_cons, List.length_cons, List.length_append, List.length_cons, List.length_cons, List.length_cons, List.length_drop, ← HZ1.out, ← HZ2.out]
              omega
            have hScan := scan_any ((((s.extract 0 a ++ (⟨#[32, 47, 42]⟩ : ByteArray)) ++ r) ++ (⟨#[42, 47, 32]⟩ : ByteArray)) ++ s.extract a s.size) _ (by omega) sh5 te pe hv5
            rw [hT] at hScan
            have hSc : ScR (s.data.toList.take a ++ 32 :: 47 :: 42 :: (r.data.toList ++ 42 :: 47 :: 32 :: s.data.toList.drop a)) 0 0 l' := Or.inr ⟨by rw [← hT, ← Lib.size_eq]; exact hTz, Or.inl ⟨HS'.out, rfl, rfl⟩⟩
            have hBox : (w2.alloc (.cells #[.int .i64 0, .int .i64 0] 24)).drew.heap[w2.heap.size]? = some (.cells #[.int .i64 0, .int .i64 0] 24 (0, 0)) := heap_alloc_new w2 _
            have hBd2 : Below w2.heap.size w2 (w2.alloc (.cells #[.int .i64 0, .int .i64 0] 24)).drew := ((Below.refl _ _).alloc (Nat.le_refl _) _).drew
            have lb : w2.heap.size < (w2.alloc (.cells #[.int .i64 0, .int .i64 0] 24)).drew.heap.size := lt_of_block hBox
            have hP : ∀ e w5, ScPost (s.data.toList.take a ++ 32 :: 47 :: 42 :: (r.data.toList ++ 42 :: 47 :: 32 :: s.data.toList.drop a)) (w2.alloc (.cells #[.int .i64 0, .int .i64 0] 24)).drew e w5 →
                ∃ v5, e = .returned (.tuple #[v5, .agg #[.int .i64 0, .int .i64 0]]) ∧ Below w2.heap.size w2 w5 ∧ w5.cell? ⟨w2.heap.size, 0, none⟩ = some (.int .i64 0) ∧ w5.cell? ⟨w2.heap.size, 1, none⟩ = some (.int .i64 0) ∧ w5.frozen? ⟨w2.heap.size, 0, none⟩ = false ∧ w5.frozen? ⟨w2.heap.size, 1, none⟩ = false ∧ w2.heap.size < w5.heap.size ∧
                Hid (w5.heap[w2.heap.size]? = some (.cells #[.int .i64 0, .int .i64 0] 24 (0, 0)) ∧ ReadsK (w2.alloc (.cells #[.int .i64 0, .int .i64 0] 24)).drew.heap.size w5 v5 (l'.map toI) ∧ l'.length ≤ 800) := by
              intro e w5 hp
              obtain ⟨v5, c5, a5, l5, rfl, hr5, hk5, hl5, hb5⟩ := sc_use2 hp
              obtain ⟨rfl, rfl, rfl⟩ := ScR.det hSc hr5
              have hX := (hb5.block w2.heap.size lb).trans hBox
              obtain ⟨x0, x1, x2, x3, x4⟩ := fault_at hX
              exact ⟨v5, rfl, hBd2.trans (hb5.mono hBd2.size), x0, x1, x2, x3, x4, hX, hk5, hl5⟩
            have HP := Lib.hid hP
            have hlb : b < w2.heap.size + 1 := by simpa using hbl
            clear hT hTz sh5 hv5 hSc hBox hP hBd2
            go_wp2_with (go_at_call 16; refine (in_any _ _ _ _).mono ?_; rintro e w3 ⟨rfl, rfl⟩; try rw [hdat])
            go_region_with (go_at_call 9; refine hScan.mono ?_; intro e w5 hp; obtain ⟨v5, rfl, hb5, x0, x1, x2, x3, x4, H5⟩ := HP.out e w5 hp; clear hp)
            obtain ⟨hX5, hk5, hl5⟩ := H5.out
            have hB6 := (hb5.setCell (p := ⟨w2.heap.size, 0, none⟩) (Nat.le_refl _) (.int .i64 0)).setCell (p := ⟨w2.heap.size, 1, none⟩) (Nat.le_refl _) (.int .i64 0)
            have hk6 := (hk5.set (p := ⟨w2.heap.size, 0, none⟩) lb (.int .i64 0)).set (p := ⟨w2.heap.size, 1, none⟩) lb (.int .i64 0)
            have hX6 := fault_set (c' := 0) (a' := 0) hX5
            obtain ⟨y0, y1, y2, y3, y4⟩ := fault_at hX6
            have hA := bare_any (l'.map toI) v5 _ hk6.here (by rw [List.length_map]; omega)
            rw [HE'.out] at hA
            have HB6 := Lib.hid hB6
            clear hb5 hX5 hk5 hk6 hX6 hB6 H5 HP hScan
            go_wp2_with (go_at_call 15; refine hA.mono ?_)
            rintro e w7 ⟨v7, rfl, hr7, hb7⟩
            have hB7 := HB6.out.trans (hb7.mono HB6.out.size)
            have hk2 := HK2.out.below hB7
            rw [← Hn.out] at hk2
            have hA2 := bare_any (l.map toI) _ w7 hk2.here (by rw [List.length_map]; have := Hn.out; omega)
            have HR7 := Lib.hid hr7
            have HB7 := Lib.hid hB7
            clear hr7 hb7 hB7 hA HB6 hk2 x0 x1 x2 x3 x4 y0 y1 y2 y3 y4
            go_wp2_with (go_at_call 15; refine hA2.mono ?_)
            rintro e w8 ⟨v8, rfl, hr8, hb8⟩
            have hB8 := HB7.out.trans (hb8.mono HB7.out.size)
            have hQ := same_any ((l.map toI).map bareI) v7 v8 w8 (by rw [List.length_map, List.length_map]; have := Hn.out; omega) (HR7.out.below hb8) hr8
            have HB8 := Lib.hid hB8
            clear hr8 hb8 hB8 hA2 HR7 HB7
            go_wp2_with (go_at_call 11; refine hQ.mono ?_)
            rintro e w9 ⟨rfl, hb9⟩
            have HF := Lib.hid (HW2.out.trans ((HB8.out.trans (hb9.mono HB8.out.size)).mono lw2))
            clear hb9 hQ
            go_wp2
            go_ret
            exact ⟨rfl, HF.out⟩
    · have hd : decide (0 ≤ kz ∧ kz ≤ (n : Int) - 1) = false := by simpa using hin
      go_wp2_with (go_at_call 16; refine (in_any _ _ _ _).mono ?_; rintro e w3 ⟨rfl, rfl⟩; try rw [hd])
      go_ret
      exact ⟨rfl, HB2.out⟩
end Go.Proofs.YtaipdmaiffjeeaaDoor
