/-
  The contract of begin at every node; plain facts on the kids of a good node; a block that is known whole.
-/
import Derived.Test.YtmghjfphlneblaaTrI
import Derived.Laws.OwnMore
import Derived.Laws.MakeOwn
import Derived.Laws.Rows
import Derived.Deep.Draws
namespace Go.Proofs.Ytmghjfphlneblaa.Tr
open Go.RowKit

theorem begin_any (l : List Nd) (i : Nat) (hi : i < l.length) (b o cap B cnt : Nat) (w : World) (hl : l.length ≤ 600) (hb : b < w.heap.size) (hN : ∀ j, (h : j < l.length) → NodeAt w b (o + j * 6) l[j]) (hK : KidsAt w l[i].p l[i].c) (hB : B < w.heap.size) (hcnt : i ≤ cnt)
    (hF : ∀ j, j < i → w.cell? ⟨B, j, none⟩ = some (.int .i64 (St l j))) (hm : l[i].c.length ≤ 1000000000000000000) :
    Calls Try.prog 27 #[.slice (some ⟨b, o, none⟩) (i + 1) cap, .slice (some ⟨B, 0, none⟩) cnt cnt] w (BgPost l i w) := by
  have hc : codeAt l i = nodeC l i l[i] := codeAt_get hi
  cases hk : kindB l[i].k with
  | false =>
    refine (begin_kind l[i] i b o cap B cnt w (by omega) (hN i hi) hk).mono fun e w' ⟨he, hbel⟩ => ?_
    have h4 : codeAt l i = 4 := by rw [hc]; unfold nodeC; rw [if_pos hk]
    exact ⟨hbel, Or.inr ⟨by rw [h4]; decide, by rw [h4]; exact he⟩⟩
  | true =>
    by_cases hs : (l[i].c.length : Int) < lowV l[i].k ∨ highV 9223372036854775807 l[i].k < l[i].c.length
    · refine (begin_size l[i] i b o cap B cnt w (by omega) (hN i hi) hk hs).mono fun e w' ⟨he, hbel⟩ => ?_
      have h4 : codeAt l i = 9 := by rw [hc]; unfold nodeC; rw [if_neg (by rw [hk]; simp), if_pos hs]
      exact ⟨hbel, Or.inr ⟨by rw [h4]; decide, by rw [h4]; exact he⟩⟩
    · refine (begin_main l i hi l[i] rfl b o cap B cnt w hl hb hN hK hB hcnt hF hm hk (fun h => hs (Or.inl h)) (fun h => hs (Or.inr h))).mono fun e w' ⟨hbel, he⟩ => ?_
      have hn : codeAt l i = if wayOf l i = none then 5 else fieldC l[i] := by rw [hc]; unfold nodeC; rw [if_neg (by rw [hk]; simp), if_neg hs]
      rcases he with ⟨hw, he⟩ | ⟨hw, ⟨hf, he⟩ | ⟨hf, he⟩⟩
      · rw [if_pos hw] at hn
        exact ⟨hbel, Or.inr ⟨by rw [hn]; decide, by rw [hn]; exact he⟩⟩
      · rw [if_neg hw] at hn
        exact ⟨hbel, Or.inr ⟨by rw [hn]; exact hf, by rw [hn]; exact he⟩⟩
      · rw [if_neg hw] at hn
        exact ⟨hbel, Or.inl ⟨by rw [hn]; exact hf, he⟩⟩

/-- the kids of a node whose way is fine come one behind the other, ahead of it -/
theorem walkK_kids {S : Nat → Nat} {kd : Nat → Int} {k : Int} {c : List Int} (hS : ∀ j, S j ≤ j) : ∀ (i at_ r : Nat), walkK S kd k c i at_ = some r → i ≤ at_ ∧ ∀ j, j < i → ∃ q : Nat, q < at_ ∧ c.getD j 0 = (q : Int) := by
  intro i
  induction i with
  | zero => intro at_ r _; exact ⟨Nat.zero_le _, fun j h => by omega⟩
  | succ i ih =>
    intro at_ r h
    rw [walkK] at h
    split at h
    · cases h
    · rename_i hn
      have h0 : at_ ≠ 0 := fun e => hn (Or.inl e)
      have h1 : c.getD i 0 = (at_ : Int) - 1 := Decidable.byContradiction fun e => hn (Or.inr (Or.inl e))
      have hs := hS (at_ - 1)
      obtain ⟨h2, h3⟩ := ih _ _ h
      refine ⟨by omega, fun j hj => ?_⟩
      by_cases e : j = i
      · subst e; exact ⟨at_ - 1, by omega, by omega⟩
      · obtain ⟨q, hq, hc⟩ := h3 j (by omega)
        exact ⟨q, by omega, hc⟩
theorem code_way {l : List Nd} {j : Nat} (hj : j < l.length) (h : codeAt l j = 0) : wayOf l j ≠ none := by
  intro hw
  rw [codeAt_get hj] at h
  unfold nodeC at h
  split at h
  · cases h
  · split at h
    · cases h
    · first | (rw [if_pos hw] at h; cases h; done) | cases h
theorem code_kids {l : List Nd} {j : Nat} (hj : j < l.length) (h : codeAt l j = 0) : l[j].c.length ≤ j ∧ ∀ i, (hi : i < l[j].c.length) → ∃ q : Nat, q < j ∧ l[j].c[i] = (q : Int) := by
  have hw := code_way hj h
  cases hr : wayOf l j with
  | none => exact absurd hr hw
  | some r =>
    unfold wayOf at hr
    rw [kidsAt_get hj] at hr
    obtain ⟨h1, h2⟩ := walkK_kids (St_le l) _ _ _ hr
    exact ⟨h1, fun i hi => by
      obtain ⟨q, hq, e⟩ := h2 i hi
      exact ⟨q, hq, by rw [← e]; simp [hi]⟩⟩
theorem maxI_snoc (d : Nat → Nat) (c : List Int) (x : Int) : maxI d (c ++ [x]) = max (maxI d c) (d x.toNat) := by
  induction c with
  | nil => simp [maxI]
  | cons y c ih => simp only [List.cons_append, maxI, ih]; omega

def Blk (w : World) (g : Nat) (t : TypeId) (cs : Array Value) : Prop := w.heap[g]? = some (.cells cs t (0, 0))
section
variable {w w' : World} {g : Nat} {t : TypeId} {cs : Array Value}
theorem Blk.lt (h : Blk w g t cs) : g < w.heap.size := lt_of_block h
theorem Blk.cell (h : Blk w g t cs) (i : Nat) : w.cell? ⟨g, i, none⟩ = cs[i]? := cell_of_row w g i cs t (0, 0) h
theorem Blk.frozen (h : Blk w g t cs) (i : Nat) : w.frozen? ⟨g, i, none⟩ = false := by
  unfold Blk at h
  simp [World.frozen?, h]
theorem Blk.new (w : World) (t : TypeId) (cs : Array Value) : Blk (w.alloc (.cells cs t)) w.heap.size t cs := heap_alloc_new w _
theorem Blk.alloc (h : Blk w g t cs) (o : Obj) : Blk (w.alloc o) g t cs := (Below.heap_alloc w o g h.lt).trans h
theorem Blk.set_ (h : Blk w g t cs) (i : Nat) (u : Value) : Blk (w.setCell ⟨g, i, none⟩ u) g t (cs.setIfInBounds i u) := by
  unfold Blk at h ⊢
  simp [World.setCell, Array.getElem?_modify, h]
theorem Blk.far (h : Blk w g t cs) {p : Addr} (hp : g ≠ p.block) (u : Value) : Blk (w.setCell p u) g t cs := (Below.heap_setCell w p u g hp).trans h
theorem Blk.below {B : Nat} (h : Blk w g t cs) (hb : Below B w w') (hg : g < B) : Blk w' g t cs := (hb.block g hg).trans h
theorem Blk.grown {row : Option Nat} (h : Blk w g t cs) (hb : w.grownBy w' row) (hg : some g ≠ row) : Blk w' g t cs := (hb.block g h.lt hg).trans h
theorem Blk.drew (h : Blk w g t cs) : Blk w.drew g t cs := h
end
/-- a list of numbers that fills a block, zeros behind it -/
def numC (n : Nat) (xs : List Nat) : Array Value := (xs.map (fun x : Nat => Value.int .i64 (x : Int)) ++ List.replicate (n - xs.length) (Value.int .i64 0)).toArray
theorem numC_get {n j : Nat} {xs : List Nat} (h : j < xs.length) : (numC n xs)[j]? = some (.int .i64 ((xs.getD j 0 : Nat) : Int)) := by
  unfold numC
  rw [List.getElem?_toArray, List.getElem?_append_left (by rw [List.length_map]; exact h)]
  simp [h]
theorem numC_zero {n j : Nat} {xs : List Nat} (h : xs.length ≤ j) (hn : j < n) : (numC n xs)[j]? = some (.int .i64 0) := by
  unfold numC
  rw [List.getElem?_toArray, List.getElem?_append_right (by rw [List.length_map]; exact h)]
  rw [List.getElem?_replicate, if_pos (by rw [List.length_map]; omega)]
theorem numC_snoc {n : Nat} {xs : List Nat} (v : Nat) (h : xs.length < n) : (numC n xs).setIfInBounds xs.length (.int .i64 (v : Int)) = numC n (xs ++ [v]) := by
  apply Array.ext'
  unfold numC
  rw [Array.toList_setIfInBounds]
  simp only [List.map_append, List.map_cons, List.map_nil, List.length_append, List.length_cons, List.length_nil]
  rw [List.set_append, if_neg (by rw [List.length_map]; omega), List.length_map, Nat.sub_self]
  obtain ⟨r, hr⟩ : ∃ r, n - xs.length = r + 1 := ⟨n - xs.length - 1, by omega⟩
  rw [hr, show n - (xs.length + (0 + 1)) = r by omega, List.replicate_succ, List.set_cons_zero, List.append_assoc]
  rfl
theorem numC_last {n : Nat} {xs : List Nat} (u v : Nat) : (numC n (xs ++ [u])).setIfInBounds xs.length (.int .i64 (v : Int)) = numC n (xs ++ [v]) := by
  apply Array.ext'
  unfold numC
  rw [Array.toList_setIfInBounds]
  simp only [List.map_append, List.map_cons, List.map_nil, List.length_append, List.length_cons, List.length_nil]
  rw [List.append_assoc, List.set_append, if_neg (by rw [List.length_map]; omega), List.length_map, Nat.sub_self, List.append_assoc]
  rfl
theorem numC_made (n : Nat) : madeCells #[Value.int .i64 0] n = numC n [] := by
  apply Array.ext'
  rw [toList_madeCells_one]
  simp [numC]
end Go.Proofs.Ytmghjfphlneblaa.Tr
