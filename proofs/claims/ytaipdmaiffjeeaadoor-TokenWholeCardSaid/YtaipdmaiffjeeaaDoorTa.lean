/-
  Lists of words of whatever make: how they read, what Text tells of them; the contract of check.
-/
import Derived.Test.YtaipdmaiffjeeaaDoorM
import Derived.Test.YtaipdmaiffjeeaaDoorQ
namespace Go.Proofs.YtaipdmaiffjeeaaDoor
open Go.RowKit

structure I4 where
  k : Int
  t : List UInt8
  v : Int
  a : Int
def cellsI (t : I4) : List Value := [.int .i64 t.k, .string (bstr t.t), .int .i64 t.v, .int .i64 t.a]
def rowI (l : List I4) : List Value := l.flatMap cellsI
def toI (t : T4) : I4 := ⟨t.k, t.t, t.v, t.a⟩
theorem rowOf_eq (l : List T4) : rowOf l = rowI (l.map toI) := by
  induction l with
  | nil => rfl
  | cons t l ih => simp [rowOf, rowI, cells4, cellsI, toI] at *; exact ih
def ReadsI (w : World) (v : Value) (l : List I4) : Prop :=
  ∃ p cap, v = .slice p l.length cap ∧ (0 < l.length → ∃ b o, p = some ⟨b, o, none⟩ ∧ b < w.heap.size ∧ ∀ j u, (rowI l)[j]? = some u → w.cell? ⟨b, o + j, none⟩ = some u)
theorem Reads4.toI {w : World} {v : Value} {l : List T4} (h : Reads4 w v l) : ReadsI w v (l.map toI) := by
  obtain ⟨p, cap, rfl, hc⟩ := h
  refine ⟨p, cap, by rw [List.length_map], fun h0 => ?_⟩
  rw [List.length_map] at h0
  rw [← rowOf_eq]
  exact hc h0
theorem ReadsI.below {w w' : World} {v : Value} {l : List I4} (h : ReadsI w v l) (hb : Below w.heap.size w w') : ReadsI w' v l := by
  obtain ⟨p, cap, rfl, hc⟩ := h
  refine ⟨p, cap, rfl, fun h0 => ?_⟩
  obtain ⟨b, o, rfl, hbl, hcell⟩ := hc h0
  exact ⟨b, o, rfl, Nat.lt_of_lt_of_le hbl hb.size, fun j u hu => (hb.cell (p := ⟨b, o + j, none⟩) hbl).trans (hcell j u hu)⟩
theorem rowI_get (l : List I4) (i : Nat) (h : i < l.length) : (rowI l)[i * 4]? = some (.int .i64 l[i].k) ∧ (rowI l)[i * 4 + 1]? = some (.string (bstr l[i].t)) ∧ (rowI l)[i * 4 + 2]? = some (.int .i64 l[i].v) ∧ (rowI l)[i * 4 + 3]? = some (.int .i64 l[i].a) := by
  induction l generalizing i with
  | nil => simp at h
  | cons t l ih =>
    cases i with
    | zero => simp [rowI, cellsI]
    | succ i =>
      have := ih i (by simpa using h)
      have e : ∀ j, (rowI (t :: l))[(i + 1) * 4 + j]? = (rowI l)[i * 4 + j]? := fun j => by
        show (cellsI t ++ rowI l)[_]? = _
        rw [List.getElem?_append_right (by simp [cellsI]; omega)]
        congr 1
        simp [cellsI]; omega
      have e0 := e 0
      simp only [Nat.add_zero] at e0
      rw [e0, e 1, e 2, e 3]
      simpa using this

/-- what check tells of a word -/
def checkC (t : I4) : Int :=
  if t.k < 1 ∨ 4 < t.k then 4
  else match fstT t.t with
    | .bad _ => 5
    | .tok k n v => if (k : Int) ≠ t.k ∨ t.t.take n ≠ t.t ∨ (v : Int) ≠ t.v ∨ t.a < 0 then 5 else 0
/-- the texts, a blank between each two -/
def pieces (l : List I4) : List UInt8 := l.flatMap fun t => 32 :: t.t
def joinB (l : List I4) : List UInt8 := (pieces l).drop 1
theorem pieces_snoc (l : List I4) (t : I4) : pieces (l ++ [t]) = pieces l ++ 32 :: t.t := by simp [pieces]
theorem pieces_pos {l : List I4} (h : l ≠ []) : 1 ≤ (pieces l).length := by
  cases l with
  | nil => exact absurd rfl h
  | cons t l => simp [pieces]
theorem joinB_first (t : I4) : joinB [t] = t.t := by simp [joinB, pieces]
theorem joinB_snoc {l : List I4} (h : l ≠ []) (t : I4) : joinB (l ++ [t]) = joinB l ++ 32 :: t.t := by
  unfold joinB
  rw [pieces_snoc, List.drop_append_of_le_length (pieces_pos h)]
theorem take_succ_I {l : List I4} {k : Nat} (h : k < l.length) : l.take (k + 1) = l.take k ++ [l[k]] := by
  rw [List.take_succ_eq_append_getElem h]
theorem joinB_take_zero {l : List I4} (h : 0 < l.length) : joinB (l.take (0 + 1)) = l[0].t := by
  rw [take_succ_I h]; exact joinB_first _
theorem joinB_take_succ {l : List I4} {k : Nat} (h : k < l.length) (hk : 0 < k) : joinB (l.take (k + 1)) = joinB (l.take k) ++ 32 :: l[k].t := by
  rw [take_succ_I h]
  exact joinB_snoc (fun e => by have := congrArg List.length e; rw [List.length_take, List.length_nil] at this; omega) _

/-- what Text tells of a list of words -/
def TxR (l : List I4) (out : List UInt8) (c a : Int) : Prop :=
  (800 < l.length ∧ out = [] ∧ c = 2 ∧ a = 0) ∨
  (l.length ≤ 800 ∧ ∃ i, ∃ h : i < l.length, (∀ j, (h : j < l.length) → j < i → checkC l[j] = 0) ∧ checkC l[i] ≠ 0 ∧ c = checkC l[i] ∧ a = i ∧ out = []) ∨
  (l.length ≤ 800 ∧ (∀ j, (h : j < l.length) → checkC l[j] = 0) ∧ ((2000 < (joinB l).length ∧ out = [] ∧ c = 10 ∧ a = 0) ∨ ((joinB l).length ≤ 2000 ∧ out = joinB l ∧ c = 0 ∧ a = 0)))
def TxPost (l : List I4) (w : World) (e : Ending) (w' : World) : Prop :=
  Below w.heap.size w w' ∧ ∃ out c a, e = .returned (.tuple #[.string (bstr out), .agg #[.int .i64 c, .int .i64 a]]) ∧ TxR l out c a
theorem TxR.det {l : List I4} {out out' : List UInt8} {c a c' a' : Int} (h : TxR l out c a) (h' : TxR l out' c' a') : out = out' ∧ c = c' ∧ a = a' := by
  rcases h with ⟨h1, rfl, rfl, rfl⟩ | ⟨h1, i, hi, hj, hne, rfl, rfl, rfl⟩ | ⟨h1, hall, h⟩
  · rcases h' with ⟨_, rfl, rfl, rfl⟩ | ⟨h2, _⟩ | ⟨h2, _⟩
    · exact ⟨rfl, rfl, rfl⟩
    · omega
    · omega
  · rcases h' with ⟨h2, _⟩ | ⟨_, i', hi', hj', hne', rfl, rfl, rfl⟩ | ⟨_, hall', _⟩
    · omega
    · rcases Nat.lt_trichotomy i i' with hlt | rfl | hlt
      · exact absurd (hj' i hi hlt) hne
      · exact ⟨rfl, rfl, rfl⟩
      · exact absurd (hj i' hi' hlt) hne'
    · exact absurd (hall' i hi) hne
  · rcases h' with ⟨h2, _⟩ | ⟨_, i', hi', hj', hne', rfl, rfl, rfl⟩ | ⟨_, _, h'⟩
    · omega
    · exact absurd (hall i' hi') hne'
    · rcases h with ⟨h3, rfl, rfl, rfl⟩ | ⟨h3, rfl, rfl, rfl⟩ <;> rcases h' with ⟨h4, rfl, rfl, rfl⟩ | ⟨h4, rfl, rfl, rfl⟩
      · exact ⟨rfl, rfl, rfl⟩
      · omega
      · omega
      · exact ⟨rfl, rfl, rfl⟩
theorem bstr_data (l : List UInt8) : (bstr l).data.toList = l := rfl

/-- the cells of a word that came in as a value, behind a call -/
theorem box_cells {w w' : World} {t : I4} {x : ByteArray} (hb : Below (w.alloc (.cells #[.int .i64 t.k, .string x, .int .i64 t.v, .int .i64 t.a] 36)).heap.size (w.alloc (.cells #[.int .i64 t.k, .string x, .int .i64 t.v, .int .i64 t.a] 36)) w') :
    w'.cell? ⟨w.heap.size, 0, none⟩ = some (.int .i64 t.k) ∧ w'.cell? ⟨w.heap.size, 1, none⟩ = some (.string x) ∧ w'.cell? ⟨w.heap.size, 2, none⟩ = some (.int .i64 t.v) ∧ w'.cell? ⟨w.heap.size, 3, none⟩ = some (.int .i64 t.a) ∧ w.heap.size < w'.heap.size := by
  have h : w'.heap[w.heap.size]? = some (.cells #[.int .i64 t.k, .string x, .int .i64 t.v, .int .i64 t.a] 36 (0, 0)) := by
    rw [hb.block w.heap.size (by simp)]; exact heap_alloc_new w _
  exact ⟨by simp [World.cell?, h], by simp [World.cell?, h], by simp [World.cell?, h], by simp [World.cell?, h], lt_of_block h⟩

set_option maxHeartbeats 4000000 in
set_option maxRecDepth 100000 in
theorem check_any (t : I4) (w : World) (hs : t.t.length ≤ 140737488355328) (te : TypeId) (pe : Value) (hv : w.cell? ⟨2, 0, none⟩ = some (.iface te pe)) :
    Calls Tryd.prog 20 #[.agg #[.int .i64 t.k, .string (bstr t.t), .int .i64 t.v, .int .i64 t.a]] w fun e w' => e = .returned (.int .i64 (checkC t)) ∧ Below w.heap.size w w' := by
  obtain ⟨r, hr⟩ : ∃ r, r = checkC t := ⟨_, rfl⟩
  rw [← hr]
  unfold checkC at hr
  have hF := fun w hv => fst_any (bstr t.t) w (by rw [Lib.size_eq, bstr_data]; exact hs) te pe hv
  rw [bstr_data] at hF
  by_cases h1 : t.k < 1
  · rw [if_pos (Or.inl h1)] at hr
    have HR := Lib.hid hr
    clear hr
    go_enter Tryd.func20, Tryd.ntmps20
    go_wp2
    go_ret
    exact ⟨ret_int HR.out.symm, (Below.refl _ _).alloc (Nat.le_refl _) _⟩
  · by_cases h4 : 4 < t.k
    · rw [if_pos (Or.inr h4)] at hr
      have HR := Lib.hid hr
      clear hr
      go_enter Tryd.func20, Tryd.ntmps20
      go_wp2
      go_ret
      exact ⟨ret_int HR.out.symm, (Below.refl _ _).alloc (Nat.le_refl _) _⟩
    · rw [if_neg (by omega)] at hr
      obtain ⟨x, hx⟩ : ∃ x, x = bstr t.t := ⟨_, rfl⟩
      rw [← hx] at hF ⊢
      have Hx := Lib.hid hx
      clear hx
      go_enter Tryd.func20, Tryd.ntmps20
      go_wp2_with (go_at_call 26; refine (hF _ (hv_alloc hv _)).mono ?_)
      rintro e w2 ⟨rfl, hb⟩
      obtain ⟨c0, c1, c2, c3, l1⟩ := box_cells (t := t) hb
      have hbw : Below w.heap.size w w2 := ((Below.refl _ _).alloc (Nat.le_refl _) _).trans (hb.mono (by simp))
      have HB := Lib.hid hbw
      clear hb hbw hF
      cases hf : fstT t.t with
      | bad c =>
        rw [hf] at hr
        have hc0 : ((c : Int) != 0) = true := by have := fstT_bad hf; simpa using this
        have HR := Lib.hid hr
        clear hr hf
        simp only [tkV, tkCode]
        go_wp2
        go_ret
        exact ⟨ret_int HR.out.symm, HB.out.alloc (Nat.le_of_lt l1) _⟩
      | tok kd n v =>
        rw [hf] at hr
        simp only [tkV, tkCode]
        obtain ⟨y, hy⟩ : ∃ y, y = bstr (t.t.take n) := ⟨_, rfl⟩
        rw [← hy]
        have hxy : y = x ↔ t.t.take n = t.t := by
          rw [hy, Hx.out]
          exact ⟨fun h => congrArg (fun s : ByteArray => s.data.toList) h, fun h => by rw [h]⟩
        clear hf hy
        replace hr : r = if (kd : Int) ≠ t.k ∨ t.t.take n ≠ t.t ∨ (v : Int) ≠ t.v ∨ t.a < 0 then 5 else 0 := hr
        by_cases q1 : (kd : Int) = t.k
        · have e1 : ((kd : Int) == t.k) = true := beq_of q1
          have n1 : ((kd : Int) != t.k) = false := by simpa using q1
          by_cases q2 : t.t.take n = t.t
          · have e2 : (y.toList == x.toList) = true := by rw [hxy.2 q2]; simp
            have n2 : (y.toList != x.toList) = false := by rw [hxy.2 q2]; simp
            by_cases q3 : (v : Int) = t.v
            · have e3 : ((v : Int) == t.v) = true := beq_of q3
              have n3 : ((v : Int) != t.v) = false := by simpa using q3
              by_cases q4 : t.a < 0
              · rw [if_pos (Or.inr (Or.inr (Or.inr q4)))] at hr
                have HR := Lib.hid hr
                clear hr hxy q1 q2 q3
                go_wp2
                go_ret
                exact ⟨ret_int HR.out.symm, HB.out.alloc (Nat.le_of_lt l1) _⟩
              · rw [if_neg (by rintro (h | h | h | h); exact h q1; exact h q2; exact h q3; exact q4 h)] at hr
                have HR := Lib.hid hr
                clear hr hxy q1 q2 q3
                go_wp2
                go_ret
                exact ⟨ret_int HR.out.symm, HB.out.alloc (Nat.le_of_lt l1) _⟩
            · rw [if_pos (Or.inr (Or.inr (Or.inl q3)))] at hr
              have e3 : ((v : Int) == t.v) = false := beq_of_ne q3
              have n3 : ((v : Int) != t.v) = true := by simpa using q3
              have HR := Lib.hid hr
              clear hr hxy q1 q2 q3
              go_wp2
              go_ret
              exact ⟨ret_int HR.out.symm, HB.out.alloc (Nat.le_of_lt l1) _⟩
          · rw [if_pos (Or.inr (Or.inl q2))] at hr
            have e0 : y.toList ≠ x.toList := by
              rw [Lib.toList_data, Lib.toList_data]
              intro h
              exact q2 (hxy.1 (by rw [← Lib.mk_data y, ← Lib.mk_data x, h]))
            have e2 : (y.toList == x.toList) = false := by simpa using e0
            have n2 : (y.toList != x.toList) = true := by simpa using e0
            have HR := Lib.hid hr
            clear hr hxy q1 q2 e0
            go_wp2
            go_ret
            exact ⟨ret_int HR.out.symm, HB.out.alloc (Nat.le_of_lt l1) _⟩
        · rw [if_pos (Or.inl q1)] at hr
          have e1 : ((kd : Int) == t.k) = false := beq_of_ne q1
          have n1 : ((kd : Int) != t.k) = true := by simpa using q1
          have HR := Lib.hid hr
          clear hr hxy q1
          go_wp2
          go_ret
          exact ⟨ret_int HR.out.symm, HB.out.alloc (Nat.le_of_lt l1) _⟩
end Go.Proofs.YtaipdmaiffjeeaaDoor
