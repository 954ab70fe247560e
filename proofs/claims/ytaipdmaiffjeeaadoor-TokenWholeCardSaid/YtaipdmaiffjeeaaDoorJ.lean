/-
  Contract of take: the word that stands at the place, and the place behind it.
-/
import Derived.Test.YtaipdmaiffjeeaaDoorI
namespace Go.Proofs.YtaipdmaiffjeeaaDoor
open Go.RowKit

theorem gb_set6 {x B : Nat} {a w : World} (h : GB x B a w) (a0 a1 a2 a3 a4 a5 : Value) : GB x B a ((((((w.setCell ⟨B, 0, none⟩ a0).setCell ⟨B, 1, none⟩ a1).setCell ⟨B, 2, none⟩ a2).setCell ⟨B, 3, none⟩ a3).setCell ⟨B + 1, 0, none⟩ a4).setCell ⟨B + 1, 1, none⟩ a5) :=
  (((((h.setCell (p := ⟨B, 0, none⟩) (Or.inr (Nat.le_refl _)) a0).setCell (p := ⟨B, 1, none⟩) (Or.inr (Nat.le_refl _)) a1).setCell (p := ⟨B, 2, none⟩) (Or.inr (Nat.le_refl _)) a2).setCell (p := ⟨B, 3, none⟩) (Or.inr (Nat.le_refl _)) a3).setCell (p := ⟨B + 1, 0, none⟩) (Or.inr (Nat.le_succ _)) a4).setCell (p := ⟨B + 1, 1, none⟩) (Or.inr (Nat.le_succ _)) a5
theorem heap_set6 {B k : Nat} (w : World) (h0 : k ≠ B) (h1 : k ≠ B + 1) (a0 a1 a2 a3 a4 a5 : Value) : ((((((w.setCell ⟨B, 0, none⟩ a0).setCell ⟨B, 1, none⟩ a1).setCell ⟨B, 2, none⟩ a2).setCell ⟨B, 3, none⟩ a3).setCell ⟨B + 1, 0, none⟩ a4).setCell ⟨B + 1, 1, none⟩ a5).heap[k]? = w.heap[k]? := by
  rw [Below.heap_setCell _ _ _ _ (by simpa using h1), Below.heap_setCell _ _ _ _ (by simpa using h1), Below.heap_setCell _ _ _ _ (by simpa using h0), Below.heap_setCell _ _ _ _ (by simpa using h0), Below.heap_setCell _ _ _ _ (by simpa using h0), Below.heap_setCell _ _ _ _ (by simpa using h0)]
theorem size_set6 {B : Nat} (w : World) (a0 a1 a2 a3 a4 a5 : Value) : ((((((w.setCell ⟨B, 0, none⟩ a0).setCell ⟨B, 1, none⟩ a1).setCell ⟨B, 2, none⟩ a2).setCell ⟨B, 3, none⟩ a3).setCell ⟨B + 1, 0, none⟩ a4).setCell ⟨B + 1, 1, none⟩ a5).heap.size = w.heap.size := by simp [World.setCell]

set_option maxHeartbeats 4000000 in
theorem take_any (s : ByteArray) (k bt ba : Nat) (w : World) (hs : s.size ≤ 2000) (hk : k ≤ s.size) (te : TypeId) (pe : Value) (hv : w.cell? ⟨2, 0, none⟩ = some (.iface te pe))
    (hT : w.heap[bt]? = some (.cells #[.string s] 9 (0, 0))) (hA : w.heap[ba]? = some (.cells #[.int .i64 k] 3 (0, 0))) :
    Calls Tryd.prog 25 #[.pointer (some ⟨bt, 0, none⟩), .pointer (some ⟨ba, 0, none⟩)] w (TakePost (s.data.toList.drop k) k ba w) := by
  have hbt := lt_of_block hT
  have hba := lt_of_block hA
  have cT := cell_of_one hT
  have cA := cell_of_one hA
  have fA := free_of_one hA
  have hF := fun w hv => fst_any (s.extract k s.size) w (by rw [extE_size]; omega) te pe hv
  rw [extE_data] at hF
  have hsz := Lib.hid (Lib.size_eq s)
  have HA := Lib.hid hA
  clear hT hA
  go_enter Tryd.func25, Tryd.ntmps25
  go_wp2_with (go_at_call 26; refine (hF _ (hv_alloc (hv_alloc hv _) _)).mono ?_)
  rintro e w2 ⟨rfl, hb⟩
  have hA2 : w2.heap[ba]? = some (.cells #[.int .i64 (k : Int)] 3 (0, 0)) := by
    rw [hb.block ba (by simp; omega), Below.heap_alloc _ _ _ (by simp; omega), Below.heap_alloc _ _ _ (by omega)]; exact HA.out
  have cA2 := cell_of_one hA2
  have fA2 := free_of_one hA2
  have HA2 := Lib.hid hA2
  clear hA2
  have hz := hb.size
  simp at hz
  have h2 : w2.heap[w.heap.size]? = some (.cells #[.int .i64 0, .string ⟨#[]⟩, .int .i64 0, .int .i64 0] 36 (0, 0)) := by
    rw [hb.block w.heap.size (by simp; omega), Below.heap_alloc _ _ _ (by simp)]; exact heap_alloc_new w _
  have h3 : w2.heap[w.heap.size + 1]? = some (.cells #[.int .i64 0, .int .i64 0] 24 (0, 0)) := by
    rw [hb.block (w.heap.size + 1) (by simp)]
    have := heap_alloc_new (w.alloc (.cells #[.int .i64 0, .string ⟨#[]⟩, .int .i64 0, .int .i64 0] 36)) (.cells #[.int .i64 0, .int .i64 0] 24)
    simpa using this
  have c20 : w2.cell? ⟨w.heap.size, 0, none⟩ = some (.int .i64 0) := by simp [World.cell?, h2]
  have c21 : w2.cell? ⟨w.heap.size, 1, none⟩ = some (.string ⟨#[]⟩) := by simp [World.cell?, h2]
  have c22 : w2.cell? ⟨w.heap.size, 2, none⟩ = some (.int .i64 0) := by simp [World.cell?, h2]
  have c23 : w2.cell? ⟨w.heap.size, 3, none⟩ = some (.int .i64 0) := by simp [World.cell?, h2]
  have f20 : w2.frozen? ⟨w.heap.size, 0, none⟩ = false := by simp [World.frozen?, h2]
  have f21 : w2.frozen? ⟨w.heap.size, 1, none⟩ = false := by simp [World.frozen?, h2]
  have f22 : w2.frozen? ⟨w.heap.size, 2, none⟩ = false := by simp [World.frozen?, h2]
  have f23 : w2.frozen? ⟨w.heap.size, 3, none⟩ = false := by simp [World.frozen?, h2]
  have c30 : w2.cell? ⟨w.heap.size + 1, 0, none⟩ = some (.int .i64 0) := by simp [World.cell?, h3]
  have c31 : w2.cell? ⟨w.heap.size + 1, 1, none⟩ = some (.int .i64 0) := by simp [World.cell?, h3]
  have f30 : w2.frozen? ⟨w.heap.size + 1, 0, none⟩ = false := by simp [World.frozen?, h3]
  have f31 : w2.frozen? ⟨w.heap.size + 1, 1, none⟩ = false := by simp [World.frozen?, h3]
  have l1 : w.heap.size < w2.heap.size := by omega
  have l2 : w.heap.size + 1 < w2.heap.size := by omega
  have l3 : ba < w2.heap.size := by omega
  have l4 : bt < w2.heap.size := by omega
  have l5 : w.heap.size ≠ ba := by omega
  have l6 : w.heap.size + 1 ≠ ba := by omega
  have H2 := Lib.hid h2
  have H3 := Lib.hid h3
  clear h2 h3
  have hG2 : GB ba w.heap.size w w2 := (((GB.refl _ _ _).alloc (Nat.le_refl _) _).alloc (by simp) _).below hb (by simp; omega)
  cases hr : fstT (s.data.toList.drop k) with
  | bad c =>
    have hc0 : (c : Int) ≠ 0 := by have := fstT_bad hr; omega
    have hc1 : ((c : Int) != 0) = true := by simpa using hc0
    have Hr := Lib.hid hr
    clear hr
    simp only [tkV, tkCode]
    go_wp2
    go_region
    all_goals go_wp2
    refine bodyPost_ret (v := .tuple #[.agg #[.int .i64 0, .string ⟨#[]⟩, .int .i64 0, .int .i64 0], .agg #[.int .i64 c, .int .i64 k]]) (by simp [results, Tryd.results25, go_sem, c20, c21, c22, c23, c30, c31, l1, l2]) rfl ?_
    refine ⟨GB.grown (GB.drew (GB.alloc (gb_set6 hG2 _ _ _ _ _ _) (by rw [size_set6]; omega) _)), Or.inl ⟨c, Hr.out, rfl, ?_⟩⟩
    exact (Below.heap_alloc _ _ _ (by rw [size_set6]; omega)).trans ((heap_set6 w2 (Ne.symm l5) (Ne.symm l6) _ _ _ _ _ _).trans HA2.out)
  | tok kd n v =>
    obtain ⟨hn1, hn2⟩ := fstT_tok hr
    have Hr := Lib.hid hr
    clear hr
    simp only [tkV, tkCode]
    obtain ⟨x, hx⟩ : ∃ x, x = bstr ((s.data.toList.drop k).take n) := ⟨_, rfl⟩
    rw [← hx]
    have hxn : x.size = n := by rw [hx, Lib.size_eq]; show (List.take n _).length = n; rw [List.length_take, Nat.min_eq_left hn2]
    have hks : k + n ≤ s.size := by rw [List.length_drop] at hn2; have := hsz.out; omega
    have hkx : k + x.size ≤ 2000 := by omega
    have Hx := Lib.hid hx
    have Hxn := Lib.hid hxn
    clear hx hxn hn1 hn2
    go_wp2_with (go_at_call 27; refine (clone_any _ _ (by omega)).mono ?_)
    rintro e w4 ⟨rfl, hb4⟩
    have h2' : w4.heap[w.heap.size]? = some (.cells #[.int .i64 0, .string ⟨#[]⟩, .int .i64 0, .int .i64 0] 36 (0, 0)) := by
      rw [hb4.block _ (by simp [World.setCell]; omega), Below.heap_alloc _ _ _ (by simp [World.setCell]; omega), Below.heap_setCell _ _ _ _ (by simp; omega)]; exact H2.out
    have h3' : w4.heap[w.heap.size + 1]? = some (.cells #[.int .i64 0, .int .i64 0] 24 (0, 0)) := by
      rw [hb4.block _ (by simp [World.setCell]; omega), Below.heap_alloc _ _ _ (by simp [World.setCell]; omega), Below.heap_setCell _ _ _ _ (by simp; omega)]; exact H3.out
    have h4' : w4.heap[w2.heap.size]? = some (.cells #[.int .i64 kd, .string x, .int .i64 v, .int .i64 k] 36 (0, 0)) := by
      rw [hb4.block _ (by simp [World.setCell])]
      have := heap_alloc_new (w2.setCell ⟨ba, 0, none⟩ (.int .i64 (k + x.size))) (.cells #[.int .i64 kd, .string x, .int .i64 v, .int .i64 k] 36)
      simpa [World.setCell] using this
    have hA4 : w4.heap[ba]? = some (.cells #[.int .i64 ((k + n : Nat) : Int)] 3 (0, 0)) := by
      rw [hb4.block _ (by simp [World.setCell]; omega), Below.heap_alloc _ _ _ (by simp [World.setCell]; omega), one_setCell HA2.out, Hxn.out]
      rfl
    have hz4 := hb4.size
    simp [World.setCell] at hz4
    have hG4 : GB ba w.heap.size w w4 := ((hG2.setCell (p := ⟨ba, 0, none⟩) (Or.inl rfl) _).alloc (by simp [World.setCell]; omega) _).below hb4 (by simp [World.setCell]; omega)
    have d20 : w4.cell? ⟨w.heap.size, 0, none⟩ = some (.int .i64 0) := by simp [World.cell?, h2']
    have d21 : w4.cell? ⟨w.heap.size, 1, none⟩ = some (.string ⟨#[]⟩) := by simp [World.cell?, h2']
    have d22 : w4.cell? ⟨w.heap.size, 2, none⟩ = some (.int .i64 0) := by simp [World.cell?, h2']
    have d23 : w4.cell? ⟨w.heap.size, 3, none⟩ = some (.int .i64 0) := by simp [World.cell?, h2']
    have e20 : w4.frozen? ⟨w.heap.size, 0, none⟩ = false := by simp [World.frozen?, h2']
    have e21 : w4.frozen? ⟨w.heap.size, 1, none⟩ = false := by simp [World.frozen?, h2']
    have e22 : w4.frozen? ⟨w.heap.size, 2, none⟩ = false := by simp [World.frozen?, h2']
    have e23 : w4.frozen? ⟨w.heap.size, 3, none⟩ = false := by simp [World.frozen?, h2']
    have d30 : w4.cell? ⟨w.heap.size + 1, 0, none⟩ = some (.int .i64 0) := by simp [World.cell?, h3']
    have d31 : w4.cell? ⟨w.heap.size + 1, 1, none⟩ = some (.int .i64 0) := by simp [World.cell?, h3']
    have e30 : w4.frozen? ⟨w.heap.size + 1, 0, none⟩ = false := by simp [World.frozen?, h3']
    have e31 : w4.frozen? ⟨w.heap.size + 1, 1, none⟩ = false := by simp [World.frozen?, h3']
    have d40 : w4.cell? ⟨w2.heap.size, 0, none⟩ = some (.int .i64 kd) := by simp [World.cell?, h4']
    have d41 : w4.cell? ⟨w2.heap.size, 1, none⟩ = some (.string x) := by simp [World.cell?, h4']
    have d42 : w4.cell? ⟨w2.heap.size, 2, none⟩ = some (.int .i64 v) := by simp [World.cell?, h4']
    have d43 : w4.cell? ⟨w2.heap.size, 3, none⟩ = some (.int .i64 k) := by simp [World.cell?, h4']
    have e41 : w4.frozen? ⟨w2.heap.size, 1, none⟩ = false := by simp [World.frozen?, h4']
    have HA4 := Lib.hid hA4
    have l9 : ba ≠ (⟨w2.heap.size, 1, none⟩ : Addr).block := Nat.ne_of_lt l3
    clear h2' h3' h4' hA4 c20 c21 c22 c23 f20 f21 f22 f23 c30 c31 f30 f31 hb hb4
    go_wp2
    refine bodyPost_ret (v := .tuple #[.agg #[.int .i64 kd, .string x, .int .i64 v, .int .i64 k], .agg #[.int .i64 0, .int .i64 0]]) (by simp [results, Tryd.results25, go_sem, d20, d21, d22, d23, d30, d31]) rfl ?_
    refine ⟨GB.grown (gb_set6 (hG4.setCell (p := ⟨w2.heap.size, 1, none⟩) (Or.inr (Nat.le_of_lt l1)) _) _ _ _ _ _ _), Or.inr ⟨kd, n, v, Hr.out, by rw [Hx.out], ?_⟩⟩
    exact (heap_set6 _ (Ne.symm l5) (Ne.symm l6) _ _ _ _ _ _).trans ((Below.heap_setCell _ _ _ _ l9).trans HA4.out)
end Go.Proofs.YtaipdmaiffjeeaaDoor
