/-
  The walk of the law TokenSays: it returns true, and nothing that was there has turned.
-/
import Derived.Test.YtaipdmaiffjeeaaDoorLb
import Derived.Test.YtaipdmaiffjeeaaDoorM
namespace Go.Proofs.YtaipdmaiffjeeaaDoor
open Go.RowKit

/-- what Scan tells of a text: a fault and no words, or words -/
def ScR (L : List UInt8) (c a : Int) (l : List T4) : Prop :=
  (2000 < L.length ∧ c = 2 ∧ a = 0 ∧ l = []) ∨ (L.length ≤ 2000 ∧ ((Scans 0 L [] (.ok l) ∧ c = 0 ∧ a = 0) ∨ (∃ c' a' : Nat, Scans 0 L [] (.bad c' a') ∧ c = c' ∧ a = a' ∧ l = [])))
theorem ScR.det {L : List UInt8} {c a c' a' : Int} {l l' : List T4} (h : ScR L c a l) (h' : ScR L c' a' l') : c = c' ∧ a = a' ∧ l = l' := by
  rcases h with ⟨h1, rfl, rfl, rfl⟩ | ⟨h1, h⟩
  · rcases h' with ⟨_, rfl, rfl, rfl⟩ | ⟨h2, _⟩
    · exact ⟨rfl, rfl, rfl⟩
    · omega
  · rcases h' with ⟨h2, _⟩ | ⟨_, h'⟩
    · omega
    · rcases h with ⟨h, rfl, rfl⟩ | ⟨x, y, h, rfl, rfl, rfl⟩ <;> rcases h' with ⟨h', rfl, rfl⟩ | ⟨x', y', h', rfl, rfl, rfl⟩
      · cases h.det h'; exact ⟨rfl, rfl, rfl⟩
      · cases h.det h'
      · cases h.det h'
      · cases h.det h'; exact ⟨rfl, rfl, rfl⟩
theorem Scans.few {p : Nat} {L : List UInt8} {acc : List T4} {r : SR} (h : Scans p L acc r) : acc.length ≤ 800 → ∀ l, r = .ok l → l.length ≤ 800 := by
  induction h with
  | done p acc => intro h l e; cases e; exact h
  | skip _ _ ih => exact ih
  | opens => intro _ l e; cases e
  | much => intro _ l e; cases e
  | bad => intro _ l e; cases e
  | tok _ _ hm _ _ ih => intro h; exact ih (by rw [List.length_append]; simp; omega)
theorem sc_use {L : List UInt8} {w w' : World} {e : Ending} (h : ScPost L w e w') :
    ∃ v c a l, e = .returned (.tuple #[v, .agg #[.int .i64 c, .int .i64 a]]) ∧ ScR L c a l ∧ Reads4 w' v l ∧ l.length ≤ 800 ∧ Below w.heap.size w w' := by
  have hnil : ∀ w : World, Reads4 w (.slice none 0 0) [] := fun w => ⟨none, 0, rfl, fun h => by simp at h⟩
  obtain ⟨hb, v, c, a, rfl, h⟩ := h
  refine ⟨v, c, a, ?_⟩
  rcases h with ⟨h1, rfl, rfl, rfl⟩ | ⟨h1, R, hS, hO⟩
  · exact ⟨[], rfl, Or.inl ⟨h1, rfl, rfl, rfl⟩, hnil _, by simp, hb⟩
  · cases R with
    | ok l => exact ⟨l, rfl, Or.inr ⟨h1, Or.inl ⟨hS, hO.1, hO.2.1⟩⟩, reads_own hO.2.2, hS.few (by simp) l rfl, hb⟩
    | bad c' a' =>
      obtain ⟨rfl, rfl, rfl⟩ := hO
      exact ⟨[], rfl, Or.inr ⟨h1, Or.inr ⟨c', a', hS, rfl, rfl, rfl⟩⟩, hnil _, by simp, hb⟩
/-- the cells of a fault that lies in a new block -/
theorem fault_cells {w w' : World} {c a : Int} (hb : Below (w.alloc (.cells #[.int .i64 c, .int .i64 a] 24)).heap.size (w.alloc (.cells #[.int .i64 c, .int .i64 a] 24)) w') :
    w'.cell? ⟨w.heap.size, 0, none⟩ = some (.int .i64 c) ∧ w'.cell? ⟨w.heap.size, 1, none⟩ = some (.int .i64 a) ∧ w'.frozen? ⟨w.heap.size, 0, none⟩ = false ∧ w'.frozen? ⟨w.heap.size, 1, none⟩ = false ∧ w.heap.size < w'.heap.size := by
  have h : w'.heap[w.heap.size]? = some (.cells #[.int .i64 c, .int .i64 a] 24 (0, 0)) := by
    rw [hb.block w.heap.size (by simp)]; exact heap_alloc_new w _
  exact ⟨by simp [World.cell?, h], by simp [World.cell?, h], by simp [World.frozen?, h], by simp [World.frozen?, h], lt_of_block h⟩

set_option maxHeartbeats 4000000 in
set_option maxRecDepth 100000 in
theorem says_walk (s : ByteArray) (w : World) (hs : s.size ≤ 140737488355328) (hsh : w.ShapedOpen Tryd.prog) (te : TypeId) (pe : Value) (hv : w.cell? ⟨2, 0, none⟩ = some (.iface te pe)) :
    Calls Tryd.prog 3 #[.string s] w fun e w' => e = .returned (.bool true) ∧ Below w.heap.size w w' := by
  by_cases hbig : 3000 < s.size
  · go_enter Tryd.func3, Tryd.ntmps3
    go_wp2
    go_ret
    exact ⟨rfl, Below.refl _ _⟩
  · go_enter Tryd.func3, Tryd.ntmps3
    go_wp2_with (go_at_call 9; refine (scan_any s _ hs hsh te pe hv).mono ?_)
    intro e w1 hp
    obtain ⟨v, c, a, l, rfl, hr, hread, hlen, hb⟩ := sc_use hp
    clear hp
    have HR := Lib.hid hr
    have HD := Lib.hid hread
    have HB := Lib.hid hb
    clear hr hread hb
    go_wp2_with (go_at_call 10; refine (rscan_any s _ hs).mono ?_)
    intro e w2 hp
    obtain ⟨v', c', a', l', rfl, hr', hread', _, hb'⟩ := sc_use hp
    clear hp
    obtain ⟨rfl, rfl, rfl⟩ := ScR.det HR.out hr'
    obtain ⟨c0, c1, _, _, l1⟩ := fault_cells hb'
    have hb1 : Below w1.heap.size w1 w2 := ((Below.refl _ _).alloc (Nat.le_refl _) _).trans (hb'.mono (by simp))
    have hd1 := HD.out.below hb1
    have hbw : Below w.heap.size w w2 := HB.out.trans (hb1.mono HB.out.size)
    have hT := tokens_eq l v v' (w2.alloc (.cells #[.int .i64 c, .int .i64 a] 24)) (by omega) (hd1.below ((Below.refl _ _).alloc (Nat.le_refl _) _)) (hread'.below ((Below.refl _ _).alloc (Nat.le_refl _) _))
    have HBW := Lib.hid hbw
    clear hr' hread' hb' hb1 hd1 hbw
    go_wp2_with (go_at_call 11; refine hT.mono ?_; rintro e w3 ⟨rfl, hb3⟩)
    go_ret
    exact ⟨rfl, (HBW.out.alloc HBW.out.size _).trans (hb3.mono (by have := HBW.out.size; simp; omega))⟩
end Go.Proofs.YtaipdmaiffjeeaaDoor
