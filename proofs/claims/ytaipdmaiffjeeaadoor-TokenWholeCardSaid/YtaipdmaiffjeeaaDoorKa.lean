/-
  What Scan gives, told so that it stands whatever boxes of before are turned.
-/
import Derived.Test.YtaipdmaiffjeeaaDoorFa
import Derived.Test.YtaipdmaiffjeeaaDoorBa
namespace Go.Proofs.YtaipdmaiffjeeaaDoor
open Go.RowKit

theorem cell_of_heap {w w' : World} {p : Addr} (h : w'.heap[p.block]? = w.heap[p.block]?) : w'.cell? p = w.cell? p := by
  simp only [World.cell?, h]
/-- a slice value that reads as a list in every world that keeps the blocks from A on -/
def ReadsK (A : Nat) (w : World) (v : Value) (l : List I4) : Prop :=
  ∀ w', w.heap.size ≤ w'.heap.size → (∀ b, A ≤ b → b < w.heap.size → w'.heap[b]? = w.heap[b]?) → ReadsI w' v l
theorem ReadsK.here {A : Nat} {w : World} {v : Value} {l : List I4} (h : ReadsK A w v l) : ReadsI w v l := h w (Nat.le_refl _) fun _ _ _ => rfl
theorem ReadsK.below {A : Nat} {w w' : World} {v : Value} {l : List I4} (h : ReadsK A w v l) (hb : Below w.heap.size w w') : ReadsK A w' v l :=
  fun w2 hs hk => h w2 (Nat.le_trans hb.size hs) fun b h1 h2 => (hk b h1 (Nat.lt_of_lt_of_le h2 hb.size)).trans (hb.block b h2)
theorem ReadsK.set {A : Nat} {w : World} {v : Value} {l : List I4} (h : ReadsK A w v l) {p : Addr} (hp : p.block < A) (u : Value) : ReadsK A (w.setCell p u) v l :=
  fun w2 hs hk => h w2 (by simpa [World.setCell] using hs) fun b h1 h2 => (hk b h1 (by simpa [World.setCell] using h2)).trans (Below.heap_setCell _ _ _ _ (by omega))
theorem readsK_own {w : World} {B : Nat} {v : Value} {l : List T4} (h : w.ownsRow B 36 4 v l.length (rowOf l)) : ReadsK B w v (l.map toI) := by
  intro w' hs hk
  refine Reads4.toI ?_
  have hlt := h.lt
  have hcs := fun g hg => h.cells (g := g) hg
  obtain ⟨_, h2⟩ := h
  rcases h2 with ⟨rfl, h0⟩ | ⟨g, cap, cur, rfl, hg, r⟩
  · exact ⟨none, 0, by rw [h0], fun h => by omega⟩
  · refine ⟨_, cap, rfl, fun _ => ⟨g, 0, rfl, Nat.lt_of_lt_of_le (hlt g rfl).2 hs, fun j u hu => ?_⟩⟩
    have := hcs g rfl j u hu
    have e : ((⟨g, 0, none⟩ : Addr).add j) = ⟨g, 0 + j, none⟩ := by unfold Addr.add; split <;> simp_all
    rw [e] at this
    exact (cell_of_heap (hk g hg (hlt g rfl).2)).trans this
theorem Scans.code {p : Nat} {L : List UInt8} {acc : List T4} {r : SR} (h : Scans p L acc r) : ∀ c a, r = .bad c a → c ≠ 0 := by
  induction h with
  | done p acc => intro c a e; cases e
  | skip _ _ ih => exact ih
  | opens => intro c a e; cases e; decide
  | much => intro c a e; cases e; decide
  | bad _ _ _ hf => intro c a e; cases e; exact fstT_bad hf
  | tok _ _ _ _ _ ih => exact ih
/-- Scan's answer: words, or a fault and none -/
theorem sc_use2 {L : List UInt8} {w w' : World} {e : Ending} (h : ScPost L w e w') :
    ∃ v c a l, e = .returned (.tuple #[v, .agg #[.int .i64 c, .int .i64 a]]) ∧ ScR L c a l ∧ ReadsK w.heap.size w' v (l.map toI) ∧ l.length ≤ 800 ∧ Below w.heap.size w w' := by
  have hnil : ∀ w : World, ReadsK w.heap.size w' (.slice none 0 0) [] := fun w _ _ _ => ⟨none, 0, rfl, fun h => by simp at h⟩
  obtain ⟨hb, v, c, a, rfl, h⟩ := h
  refine ⟨v, c, a, ?_⟩
  rcases h with ⟨h1, rfl, rfl, rfl⟩ | ⟨h1, R, hS, hO⟩
  · exact ⟨[], rfl, Or.inl ⟨h1, rfl, rfl, rfl⟩, hnil _, by simp, hb⟩
  · cases R with
    | ok l => exact ⟨l, rfl, Or.inr ⟨h1, Or.inl ⟨hS, hO.1, hO.2.1⟩⟩, readsK_own hO.2.2, hS.few (by simp) l rfl, hb⟩
    | bad c' a' =>
      obtain ⟨rfl, rfl, rfl⟩ := hO
      exact ⟨[], rfl, Or.inr ⟨h1, Or.inr ⟨c', a', hS, rfl, rfl, rfl⟩⟩, hnil _, by simp, hb⟩
theorem ScR.ways {L : List UInt8} {c a : Int} {l : List T4} (h : ScR L c a l) : (c ≠ 0 ∧ l = []) ∨ (c = 0 ∧ a = 0 ∧ L.length ≤ 2000 ∧ Scans 0 L [] (.ok l)) := by
  rcases h with ⟨_, rfl, rfl, rfl⟩ | ⟨h1, ⟨hS, rfl, rfl⟩ | ⟨c', a', hS, rfl, rfl, rfl⟩⟩
  · exact Or.inl ⟨by decide, rfl⟩
  · exact Or.inr ⟨rfl, rfl, h1, hS⟩
  · exact Or.inl ⟨by have := hS.code _ _ rfl; omega, rfl⟩
theorem TxR.ways {l : List I4} {out : List UInt8} {c a : Int} (h : TxR l out c a) : (c ≠ 0 ∧ out = []) ∨ (c = 0 ∧ a = 0 ∧ l.length ≤ 800 ∧ (∀ t ∈ l, checkC t = 0) ∧ (joinB l).length ≤ 2000 ∧ out = joinB l) := by
  rcases h with ⟨_, rfl, rfl, rfl⟩ | ⟨_, i, hi, _, hne, rfl, rfl, rfl⟩ | ⟨h1, hall, ⟨_, rfl, rfl, rfl⟩ | ⟨h2, rfl, rfl, rfl⟩⟩
  · exact Or.inl ⟨by decide, rfl⟩
  · exact Or.inl ⟨hne, rfl⟩
  · exact Or.inl ⟨by decide, rfl⟩
  · refine Or.inr ⟨rfl, rfl, h1, fun t ht => ?_, h2, rfl⟩
    obtain ⟨j, hj, rfl⟩ := List.getElem_of_mem ht
    exact hall j hj
/-- of words that were read Text tells: too much, or the text -/
theorem TxR.good {l : List I4} {out : List UInt8} {c a : Int} (h : TxR l out c a) (hl : l.length ≤ 800) (hg : ∀ t ∈ l, checkC t = 0) : (c = 10 ∧ a = 0 ∧ out = []) ∨ (c = 0 ∧ a = 0 ∧ (joinB l).length ≤ 2000 ∧ out = joinB l) := by
  rcases h with ⟨h, _⟩ | ⟨_, i, hi, _, hne, _⟩ | ⟨h1, hall, ⟨_, rfl, rfl, rfl⟩ | ⟨h2, rfl, rfl, rfl⟩⟩
  · omega
  · exact absurd (hg _ (List.getElem_mem hi)) hne
  · exact Or.inl ⟨rfl, rfl, rfl⟩
  · exact Or.inr ⟨rfl, rfl, h2, rfl⟩
theorem read_good {L : List UInt8} {l : List T4} (h : Scans 0 L [] (.ok l)) : ∀ t ∈ l.map toI, checkC t = 0 := fun t ht => by
  obtain ⟨x, hx, rfl⟩ := List.mem_map.1 ht
  exact scans_good h (fun _ h => by simp at h) l rfl x hx
theorem join_sc {l : List I4} (hl : l.length ≤ 800) (hg : ∀ t ∈ l, checkC t = 0) (h : (joinB l).length ≤ 2000) : ∃ ts, ScR (bstr (joinB l)).data.toList 0 0 ts ∧ (ts.map toI).map bareI = l.map bareI := by
  obtain ⟨ts, hS, hE⟩ := join_scan hl hg
  exact ⟨ts, Or.inr ⟨h, Or.inl ⟨hS, rfl, rfl⟩⟩, hE⟩
/-- the words of a text are no longer than it -/
theorem Scans.small {p : Nat} {L : List UInt8} {acc : List T4} {r : SR} (h : Scans p L acc r) : ∀ n, (∀ t ∈ acc, t.t.length ≤ n) → L.length ≤ n → ∀ l, r = .ok l → ∀ t ∈ l, t.t.length ≤ n := by
  induction h with
  | done p acc => intro n h _ l e; cases e; exact h
  | skip _ _ ih => intro n h hl; exact ih n h (by rw [List.length_drop]; omega)
  | opens => intro n _ _ l e; cases e
  | much => intro n _ _ l e; cases e
  | bad => intro n _ _ l e; cases e
  | tok _ _ _ _ _ ih =>
    intro n h hl
    refine ih n (fun t ht => ?_) (by rw [List.length_drop]; omega)
    rcases List.mem_append.1 ht with ht | ht
    · exact h t ht
    · rw [List.mem_singleton.1 ht]; simp; omega
/-- the cells of a box that a call leaves -/
theorem fault_at {w : World} {B : Nat} {c a : Int} (h : w.heap[B]? = some (.cells #[.int .i64 c, .int .i64 a] 24 (0, 0))) :
    w.cell? ⟨B, 0, none⟩ = some (.int .i64 c) ∧ w.cell? ⟨B, 1, none⟩ = some (.int .i64 a) ∧ w.frozen? ⟨B, 0, none⟩ = false ∧ w.frozen? ⟨B, 1, none⟩ = false ∧ B < w.heap.size :=
  ⟨by simp [World.cell?, h], by simp [World.cell?, h], by simp [World.frozen?, h], by simp [World.frozen?, h], lt_of_block h⟩
theorem fault_set {w : World} {B : Nat} {c a c' a' : Int} (h : w.heap[B]? = some (.cells #[.int .i64 c, .int .i64 a] 24 (0, 0))) :
    ((w.setCell ⟨B, 0, none⟩ (.int .i64 c')).setCell ⟨B, 1, none⟩ (.int .i64 a')).heap[B]? = some (.cells #[.int .i64 c', .int .i64 a'] 24 (0, 0)) := by
  unfold World.setCell
  dsimp only
  rw [Array.getElem?_modify, if_pos rfl, Array.getElem?_modify, if_pos rfl, h]
  rfl
end Go.Proofs.YtaipdmaiffjeeaaDoor
