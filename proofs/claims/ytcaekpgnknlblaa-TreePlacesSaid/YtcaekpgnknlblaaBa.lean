/-
  Lists of numbers and of nodes that a call has made; the contracts of shift and of Clone.
-/
import Derived.Test.YtcaekpgnknlblaaM
import Derived.Test.YtcaekpgnknlblaaShelf
import Derived.Deep.AppendLies
namespace Go.Proofs.Ytcaekpgnknlblaa
open Go.RowKit

theorem own_block {w w' : World} {base e size n : Nat} {v : Value} {xs : List Value} (h : w.ownsRow base e size v n xs) (hk : ∀ g, v.ownBlock = some g → w'.heap[g]? = w.heap[g]?) : w'.ownsRow base e size v n xs := by
  obtain ⟨h1, h2⟩ := h
  refine ⟨h1, ?_⟩
  rcases h2 with h0 | ⟨g, cap, cur, rfl, hb, hg, r⟩
  · exact Or.inl h0
  · exact Or.inr ⟨g, cap, cur, rfl, hb, (hk g rfl).trans hg, r⟩
theorem own_below {w w' : World} {base e size n : Nat} {v : Value} {xs : List Value} (h : w.ownsRow base e size v n xs) (hb : Below w.heap.size w w') : w'.ownsRow base e size v n xs :=
  own_block h fun g hg => hb.block g (h.lt g hg).2
theorem own_far {w : World} {base e size n : Nat} {v : Value} {xs : List Value} (h : w.ownsRow base e size v n xs) {p : Addr} (hp : ∀ g, v.ownBlock = some g → g ≠ p.block) (u : Value) : (w.setCell p u).ownsRow base e size v n xs :=
  own_block h fun g hg => Below.heap_setCell w p u g (hp g hg)
theorem own_shape {w : World} {B e size n : Nat} {v : Value} {xs : List Value} (h : w.ownsRow B e size v n xs) : ∃ p cap, v = .slice p n cap ∧ n ≤ cap := by
  rcases h.2 with ⟨rfl, h0⟩ | ⟨g, cap, cur, hv, _, _, hc, _⟩
  · rw [h0]; exact ⟨none, 0, rfl, Nat.le_refl _⟩
  · exact ⟨_, _, hv, hc⟩
theorem own_type {w : World} {base e size n base' e' size' n' : Nat} {v v' : Value} {xs xs' : List Value} (h : w.ownsRow base e size v n xs) (h' : w.ownsRow base' e' size' v' n' xs') (hne : e ≠ e') (g : Nat) (hg : v.ownBlock = some g) : some g ≠ v'.ownBlock := by
  intro he
  rcases h.2 with ⟨rfl, _⟩ | ⟨a, cap, cur, rfl, _, hh, _⟩
  · simp [Value.ownBlock] at hg
  · rcases h'.2 with ⟨rfl, _⟩ | ⟨a', cap', cur', rfl, _, hh', _⟩
    · simp [Value.ownBlock] at he
    · simp [Value.ownBlock] at hg he
      subst hg
      subst he
      rw [hh] at hh'
      injection hh' with hh'
      injection hh' with _ ht
      exact hne ht
/-- the kids of a node that the call has made -/
def KidsO (B : Nat) (w : World) (p : Option Addr) (cap : Nat) (c : List Int) : Prop := w.ownsRow B 3 1 (.slice p c.length cap) c.length (c.map (Value.int .i64))
theorem KidsO.at_ {B : Nat} {w : World} {p : Option Addr} {cap : Nat} {c : List Int} (h : KidsO B w p cap c) : KidsAt w p c := fun h0 => by
  have hlt := h.lt
  have hcs := fun g hg => World.ownsRow.cells h (g := g) hg
  rcases h.2 with ⟨hv, h1⟩ | ⟨g, cap', cur, hv, _⟩
  · omega
  · injection hv with hv
    subst hv
    refine ⟨g, 0, rfl, (hlt g rfl).2, fun j hj => ?_⟩
    have := hcs g rfl j (.int .i64 c[j]) (by simp [hj])
    have e : ((⟨g, 0, none⟩ : Addr).add j) = ⟨g, 0 + j, none⟩ := by unfold Addr.add; split <;> simp_all
    rw [e] at this
    exact this
theorem KidsO.below {B : Nat} {w w' : World} {p : Option Addr} {cap : Nat} {c : List Int} (h : KidsO B w p cap c) (hb : Below w.heap.size w w') : KidsO B w' p cap c := own_below h hb
theorem KidsO.alloc_ {B : Nat} {w : World} {p : Option Addr} {cap : Nat} {c : List Int} (h : KidsO B w p cap c) (o : Obj) : KidsO B (w.alloc o) p cap c := World.ownsRow.alloc h o
theorem KidsO.grown {B : Nat} {w w' : World} {p : Option Addr} {cap : Nat} {c : List Int} {base n : Nat} {v : Value} {xs : List Value} (h : KidsO B w p cap c) (ho : w.ownsRow base 42 6 v n xs) (hg : w.grownBy w' v.ownBlock) : KidsO B w' p cap c :=
  own_block h fun g hh => hg.block g (h.lt g hh).2 (own_type h ho (by decide) g hh)
theorem KidsO.blk {B : Nat} {w : World} {p : Option Addr} {cap : Nat} {c : List Int} {a : Addr} {t : TypeId} {cs : Array Value} (h : KidsO B w p cap c) (hBk : Blk w a.block t cs) (ht : t ≠ 3) (u : Value) : KidsO B (w.setCell a u) p cap c :=
  own_far h (fun g hg e => by
    rcases h.2 with ⟨hv, _⟩ | ⟨g', cap', cur, hv, _, hh, _⟩
    · injection hv with hv; subst hv; simp [Value.ownBlock] at hg
    · injection hv with hv; subst hv
      simp [Value.ownBlock] at hg
      subst hg
      unfold Blk at hBk
      rw [← e, hh] at hBk
      injection hBk with hBk
      injection hBk with _ h2
      exact ht h2.symm) u

theorem KidsO.mono {B B' : Nat} {w : World} {p : Option Addr} {cap : Nat} {c : List Int} (h : KidsO B w p cap c) (hB : B' ≤ B) : KidsO B' w p cap c := by
  obtain ⟨h1, h2⟩ := h
  refine ⟨h1, ?_⟩
  rcases h2 with h0 | ⟨g, cap, cur, hv, hb, r⟩
  · exact Or.inl h0
  · exact Or.inr ⟨g, cap, cur, hv, Nat.le_trans hB hb, r⟩
theorem KidsO.keep {B : Nat} {w w' : World} {p : Option Addr} {cap : Nat} {c : List Int} (h : KidsO B w p cap c) (hk : ∀ g, B ≤ g → g < w.heap.size → w'.heap[g]? = w.heap[g]?) : KidsO B w' p cap c := own_block h fun g hg => hk g (h.lt g hg).1 (h.lt g hg).2
def subs (by_ : Nat) (c : List Int) : List Int := c.map fun x => x - (by_ : Int)
theorem subs_length (b : Nat) (c : List Int) : (subs b c).length = c.length := by simp [subs]
/-- the first numbers, as values -/
def subsV (b : Nat) (c : List Int) (k : Nat) : List Value := ((subs b c).take k).map (Value.int .i64)
theorem subs_next {b : Nat} {c : List Int} {k : Nat} (h : k < c.length) : subsV b c (k + 1) = subsV b c k ++ [.int .i64 (c[k] - (b : Int))] := by
  unfold subsV
  rw [List.take_succ_eq_append_getElem (by rw [subs_length]; exact h), List.map_append]
  simp [subs]
theorem subs_whole {b : Nat} {c : List Int} {k : Nat} (h : c.length ≤ k) : subsV b c k = (subs b c).map (Value.int .i64) := by
  unfold subsV
  rw [List.take_of_length_le (by rw [subs_length]; exact h)]
theorem kids_made {w : World} {B b k qc : Nat} {q : Option Addr} {c : List Int} (h : w.ownsRow B 3 1 (.slice q k qc) k (subsV b c k)) (hk : k = c.length) : KidsO B w q qc (subs b c) := by
  subst hk
  rw [subs_whole (Nat.le_refl _)] at h
  obtain ⟨h1, h2⟩ := h
  unfold KidsO
  rw [subs_length]
  refine ⟨h1, ?_⟩
  exact h2

theorem news_one (w : World) (u : Value) (t : TypeId) : ∀ j x, [u][j]? = some x → (w.alloc (.cells #[u] t)).cell? ((⟨w.heap.size, 0, none⟩ : Addr).add j) = some x := by
  intro j x hx
  match j, hx with
  | 0, hx =>
    simp at hx; subst hx
    have h := (Blk.new w t #[u]).cell 0
    simp [Addr.add] at h ⊢
    try exact h

set_option maxHeartbeats 4000000 in
set_option maxRecDepth 100000 in
theorem shift_any (c : List Int) (p : Option Addr) (cap b : Nat) (w : World) (hK : KidsAt w p c) (hm : c.length ≤ 1000) (hb : b ≤ 1000) (hc : ∀ j, (h : j < c.length) → 0 ≤ c[j] ∧ c[j] ≤ 1000) :
    Calls Try.prog 38 #[.slice p c.length cap, .int .i64 b] w fun e w' => ∃ p' cap', e = .returned (.slice p' c.length cap') ∧ KidsO w.heap.size w' p' cap' (subs b c) ∧ Below w.heap.size w w' := by
  have HK := Lib.hid hK
  have HC := Lib.hid hc
  clear hK hc
  obtain ⟨Q, hQ⟩ : ∃ Q : Ending → World → Prop, Q = fun e w' => ∃ p' cap', e = .returned (.slice p' c.length cap') ∧ KidsO w.heap.size w' p' cap' (subs b c) ∧ Below w.heap.size w w' := ⟨_, rfl⟩
  have HQ := Lib.hid hQ
  rw [← hQ]
  clear hQ
  obtain ⟨m, hmm⟩ : ∃ m, m = c.length := ⟨_, rfl⟩
  rw [← hmm] at hm ⊢
  have Hm := Lib.hid hmm
  clear hmm
  go_enter Try.func38, Try.ntmps38
  go_wp2
  go_loopw [5, 10] (fun vo vi wr => ∃ k : Nat, k ≤ m ∧ vi = .int .i64 k ∧ Below w.heap.size w wr ∧ wr.ownsRow w.heap.size 3 1 vo k (subsV b c k)) (fun _ vi _ => m - (intOf vi).toNat)
  case atStart => exact ⟨0, Nat.zero_le _, rfl, Below.refl _ _, World.ownsRow_nil _ _ _ _⟩
  case round =>
    obtain ⟨k, hk, rfl, hbe, ho⟩ := hrel
    obtain ⟨q, qc, rfl, _⟩ := own_shape ho
    have HB := Lib.hid hbe
    have HO := Lib.hid ho
    clear hbe ho
    by_cases hlt : k < m
    · have hl : k < c.length := by have := Hm.out; omega
      obtain ⟨kb, ko, rfl, hbl, hcell⟩ := HK.out (by omega)
      have c0 := (HB.out.cell (p := ⟨kb, ko + k, none⟩) hbl).trans (hcell k hl)
      have hki : (k : Int) < (m : Int) := by omega
      have Hnext := Lib.hid (subs_next (b := b) hl)
      have hck := HC.out k hl
      clear hcell
      generalize c[k] = x at *
      obtain ⟨hx0, hx1⟩ := hck
      have HO5 := Lib.hid (HO.out.alloc (.cells #[.int .i64 (x - (b : Int))] 3))
      have lw := HB.out.size
      obtain ⟨i0, hi, hz0, hz1, hz2⟩ := info_parts info3
      go_wp2_with (at_builtin; refine wpList_append_own _ rfl _ _ 40 rfl w.heap.size 3 i0 (.int .i64 0) 1 8 Try.underlying40 hi hz0 hz1 hz2 rfl (by decide) _ k (subsV b c k) rfl HO5.out ⟨wr.heap.size, 0, none⟩ 1 1 [.int .i64 (x - (b : Int))] rfl rfl ?c1 ?c2 ?c3 ?c4 ?c5 ?_)
      case c1 => exact news_one _ _ _
      case c2 => intro u hu; simp at hu; subst hu; rfl
      case c3 => unfold maxLen; omega
      case c4 => omega
      case c5 => simp; omega
      intro v' w1 hown' hgrow _
      have hbel : Below w.heap.size w w1 := Below.grown (HB.out.alloc lw _) hgrow (by simp; omega) (fun g h => by have := (HO5.out.lt g h).1; omega)
      rw [← Hnext.out] at hown'
      have HOw := Lib.hid hown'
      have HBel := Lib.hid hbel
      clear hown' hgrow hbel
      go_wp2
      go_roundw
      case rel => exact ⟨k + 1, by omega, by go_num, HBel.out, HOw.out⟩
      case measure => simp [intOf]; try omega
    · have hkm : k = c.length := by have := Hm.out; omega
      have HR := Lib.hid (kids_made HO.out hkm)
      have Hk := Lib.hid hkm
      clear hkm
      go_wp2
      rw [HQ.out]
      exact ⟨q, qc, by rw [← Hk.out]; rfl, HR.out, HB.out⟩

set_option maxHeartbeats 1000000 in
theorem clone_any (s : ByteArray) (w : World) (hs : s.size ≤ 281474976710656) :
    Calls Try.prog 37 #[.string s] w fun e w' => e = .returned (.string s) ∧ Below w.heap.size w w' := by
  go_enter Try.func37, Try.ntmps37
  go_wp2_with (go_at_call 49; refine (Try.stringslite_Clone _ _ hs).mono ?_; rintro e w' ⟨rfl, hb⟩)
  go_ret
  exact ⟨rfl, hb⟩
end Go.Proofs.Ytcaekpgnknlblaa
