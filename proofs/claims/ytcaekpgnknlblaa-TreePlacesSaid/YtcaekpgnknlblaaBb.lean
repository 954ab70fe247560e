/-
  The contract of cut: the nodes of a part, their kids numbered anew.
-/
import Derived.Test.YtcaekpgnknlblaaBa
namespace Go.Proofs.Ytcaekpgnknlblaa
open Go.RowKit

theorem info42 : (Try.prog.info? 42).map (fun i => (i.zero, i.size, i.bytes)) = some (some (.agg #[.int .i64 0, .string ⟨#[]⟩, .int .i64 0, .int .i64 0, .slice none 0 0, .int .i64 0]), 6, 72) := by kernel_rfl
def cellsN (x : Nd) : List Value := [.int .i64 x.k, .string x.t, .int .i64 x.n, .int .i64 x.z, .slice x.p x.c.length x.cap, .int .i64 x.a]
def rowN (l : List Nd) : List Value := l.flatMap cellsN
theorem rowN_snoc (l : List Nd) (x : Nd) : rowN (l ++ [x]) = rowN l ++ cellsN x := by simp [rowN]
theorem rowN_get (l : List Nd) (i : Nat) (h : i < l.length) : (rowN l)[i * 6]? = some (.int .i64 l[i].k) ∧ (rowN l)[i * 6 + 1]? = some (.string l[i].t) ∧ (rowN l)[i * 6 + 2]? = some (.int .i64 l[i].n) ∧ (rowN l)[i * 6 + 3]? = some (.int .i64 l[i].z) ∧ (rowN l)[i * 6 + 4]? = some (.slice l[i].p l[i].c.length l[i].cap) ∧ (rowN l)[i * 6 + 5]? = some (.int .i64 l[i].a) := by
  induction l generalizing i with
  | nil => simp at h
  | cons t l ih =>
    cases i with
    | zero => simp [rowN, cellsN]
    | succ i =>
      have := ih i (by simpa using h)
      have e : ∀ j, (rowN (t :: l))[(i + 1) * 6 + j]? = (rowN l)[i * 6 + j]? := fun j => by
        show (cellsN t ++ rowN l)[_]? = _
        rw [List.getElem?_append_right (by simp [cellsN]; omega)]
        congr 1
        simp [cellsN]; omega
      have e0 := e 0
      simp only [Nat.add_zero] at e0
      rw [e0, e 1, e 2, e 3, e 4, e 5]
      simpa using this
theorem tr_own {w : World} {B n cap : Nat} {p : Option Addr} {l : List Nd} (h : w.ownsRow B 42 6 (.slice p n cap) n (rowN l)) (hn : n = l.length) {B' : Nat} (hK : ∀ i, (h : i < l.length) → KidsO B' w l[i].p l[i].cap l[i].c) : Tr w p l := by
  subst hn
  refine ⟨fun h0 => ?_, fun i hi => (hK i hi).at_⟩
  have hlt := h.lt
  have hcs := fun g hg => World.ownsRow.cells h (g := g) hg
  rcases h.2 with ⟨hv, h1⟩ | ⟨g, cap', cur, hv, _⟩
  · omega
  · injection hv with hv
    subst hv
    refine ⟨g, 0, rfl, (hlt g rfl).2, fun i hi => ?_⟩
    obtain ⟨r0, r1, r2, r3, r4, r5⟩ := rowN_get l i hi
    have e : ∀ j, ((⟨g, 0, none⟩ : Addr).add j) = ⟨g, 0 + j, none⟩ := fun j => by unfold Addr.add; split <;> simp_all
    have a0 := hcs g rfl _ _ r0
    have a1 := hcs g rfl _ _ r1
    have a2 := hcs g rfl _ _ r2
    have a3 := hcs g rfl _ _ r3
    have a4 := hcs g rfl _ _ r4
    have a5 := hcs g rfl _ _ r5
    rw [e] at a0 a1 a2 a3 a4 a5
    rw [← Nat.add_assoc] at a1 a2 a3 a4 a5
    exact ⟨a0, a1, a2, a3, a4, a5⟩
theorem tr_keep {w w' : World} {B B' n cap : Nat} {p : Option Addr} {l : List Nd} (h : w.ownsRow B 42 6 (.slice p n cap) n (rowN l)) (hn : n = l.length) (hK : ∀ i, (h : i < l.length) → KidsO B' w l[i].p l[i].cap l[i].c) (hB : B' ≤ B) (hk : ∀ g, B' ≤ g → g < w.heap.size → w'.heap[g]? = w.heap[g]?) : Tr w' p l :=
  tr_own (own_block h fun g hg => hk g (Nat.le_trans hB (h.lt g hg).1) (h.lt g hg).2) hn fun i hi => (hK i hi).keep hk
/-- a node as it is in a part that begins at a node -/
def CutOf (f : Nat) (x y : Nd) : Prop := y.k = x.k ∧ y.t = x.t ∧ y.n = x.n ∧ y.z = x.z ∧ y.c = subs f x.c ∧ y.a = x.a
/-- what is asked of a node that is cut -/
def Tame (x : Nd) : Prop := x.c.length ≤ 1000 ∧ x.t.size ≤ 281474976710656 ∧ ∀ j, (h : j < x.c.length) → 0 ≤ x.c[j] ∧ x.c[j] ≤ 1000
def CtPost (l : List Nd) (f m : Nat) (w : World) (e : Ending) (w' : World) : Prop :=
  ∃ (L : List Nd) (p : Option Addr) (cap : Nat), e = .returned (.agg #[.slice p L.length cap]) ∧ L.length = m ∧ L.length ≤ cap ∧ (∀ W' : World, (∀ g, w.heap.size ≤ g → g < w'.heap.size → W'.heap[g]? = w'.heap[g]?) → Tr W' p L) ∧ (∀ j, (h : j < L.length) → (h' : f + j < l.length) → CutOf f l[f + j] L[j]) ∧ Below w.heap.size w w'
theorem news_node (w : World) (x0 x1 x2 x3 x4 x5 : Value) : ∀ j u, [x0, x1, x2, x3, x4, x5][j]? = some u → (w.alloc (.cells #[x0, x1, x2, x3, x4, x5] 42)).cell? ((⟨w.heap.size, 0, none⟩ : Addr).add j) = some u := by
  intro j u hu
  have e : ((⟨w.heap.size, 0, none⟩ : Addr).add j) = ⟨w.heap.size, 0 + j, none⟩ := by unfold Addr.add; split <;> simp_all
  rw [e, (Blk.new w 42 #[x0, x1, x2, x3, x4, x5]).cell]
  rw [Nat.zero_add, ← hu]
  simp

set_option maxHeartbeats 16000000 in
set_option maxRecDepth 100000 in
theorem cut_any (l : List Nd) (b o cap f m : Nat) (w : World) (hfm : f + m ≤ l.length) (hm0 : 0 < m) (hl : l.length ≤ 600) (hcap : l.length ≤ cap) (hb : b < w.heap.size) (hN : ∀ j, (h : j < l.length) → NodeAt w b (o + j * 6) l[j]) (hK : ∀ j, (h : j < l.length) → KidsAt w l[j].p l[j].c) (ht : ∀ j, (h : j < l.length) → Tame l[j]) :
    Calls Try.prog 24 #[.agg #[.slice (some ⟨b, o, none⟩) l.length cap], .int .i64 f, .int .i64 ((f + m - 1 : Nat) : Int)] w (CtPost l f m w) := by
  have HN := Lib.hid hN
  have HK := Lib.hid hK
  have HT := Lib.hid ht
  clear hN hK ht
  obtain ⟨Q, hQ⟩ : ∃ Q : Ending → World → Prop, Q = CtPost l f m w := ⟨_, rfl⟩
  have HQ := Lib.hid hQ
  rw [← hQ]
  clear hQ
  obtain ⟨n, hn⟩ : ∃ n, n = l.length := ⟨_, rfl⟩
  rw [← hn] at hfm hl hcap ⊢
  have Hn := Lib.hid hn
  clear hn
  obtain ⟨k, hk⟩ : ∃ k, k = f + m - 1 := ⟨_, rfl⟩
  rw [← hk]
  obtain ⟨T, hT⟩ : ∃ T, T = f + m := ⟨_, rfl⟩
  have hk1 : (k : Int) + 1 = (T : Int) := by omega
  have hfT : f ≤ T := by omega
  have hTn : T ≤ n := by omega
  have hfc : ¬ cap = f := by omega
  have e5 : T - f = m := by omega
  have E5 := Lib.hid e5
  clear hk e5 hT
  go_enter Try.func24, Try.ntmps24
  go_wp2
  have hW : Below w.heap.size w (((w.alloc (.cells #[.slice (some ⟨b, o, none⟩) n cap] 24)).alloc (.cells #[.slice none 0 0] 24)).alloc (.cells #[.slice none 0 0] 24)) := (((Below.refl _ _).alloc (Nat.le_refl _) _).alloc (by simp) _).alloc (by simp; omega) _
  have hR0 : Blk (((w.alloc (.cells #[.slice (some ⟨b, o, none⟩) n cap] 24)).alloc (.cells #[.slice none 0 0] 24)).alloc (.cells #[.slice none 0 0] 24)) (w.heap.size + 1) 24 #[.slice none 0 0] := by
    have h := Blk.new (w.alloc (.cells #[.slice (some ⟨b, o, none⟩) n cap] 24)) 24 #[.slice none 0 0]
    rw [World.size_alloc] at h
    exact h.alloc _
  have hP0 : Blk (((w.alloc (.cells #[.slice (some ⟨b, o, none⟩) n cap] 24)).alloc (.cells #[.slice none 0 0] 24)).alloc (.cells #[.slice none 0 0] 24)) (w.heap.size + 1 + 1) 24 #[.slice none 0 0] := by
    have h := Blk.new ((w.alloc (.cells #[.slice (some ⟨b, o, none⟩) n cap] 24)).alloc (.cells #[.slice none 0 0] 24)) 24 #[.slice none 0 0]
    rw [World.size_alloc, World.size_alloc] at h
    exact h
  have HW := Lib.hid hW
  have HR0 := Lib.hid hR0
  have HP0 := Lib.hid hP0
  clear hW hR0 hP0
  go_loopw [17] (fun v wr => ∃ (j : Nat) (L : List Nd) (q : Option Addr) (qc : Nat), j ≤ m ∧ v = .int .i64 j ∧ L.length = j ∧ Blk wr (w.heap.size + 1) 24 #[.slice none 0 0] ∧ Blk wr (w.heap.size + 1 + 1) 24 #[.slice q j qc] ∧
      wr.ownsRow (w.heap.size + 1 + 1 + 1) 42 6 (.slice q j qc) j (rowN L) ∧ Hid (∀ i, (h : i < L.length) → KidsO w.heap.size wr L[i].p L[i].cap L[i].c) ∧ Hid (∀ j, (h : j < L.length) → (h' : f + j < l.length) → CutOf f l[f + j] L[j]) ∧ Below w.heap.size w wr) (fun v _ => m - (intOf v).toNat)
  case atStart => exact ⟨0, [], none, 0, Nat.zero_le _, rfl, rfl, HR0.out, HP0.out, World.ownsRow_nil _ _ _ _, fun i h => by simp at h, fun i h => by simp at h, HW.out⟩
  case round =>
    obtain ⟨j, L, q, qc, hj, rfl, hLj, hRB, hPB, hO, HKL, HCL, hbe⟩ := hrel
    have HB := Lib.hid hbe
    have HRB := Lib.hid hRB
    have HPB := Lib.hid hPB
    have HO := Lib.hid hO
    have HLj := Lib.hid hLj
    have lP := hPB.lt
    have z0 : wr.cell? ⟨w.heap.size + 1 + 1, 0, none⟩ = some (.slice q j qc) := by rw [hPB.cell]; rfl
    clear hbe hRB hPB hO hLj HW HR0 HP0
    by_cases hlt : j < m
    · have hfl : f + j < l.length := by have := Hn.out; omega
      obtain ⟨c0, c1, c2, c3, c4, c5⟩ := (HN.out (f + j) hfl).below HB.out hb
      have hKj := (HK.out (f + j) hfl).below HB.out
      have hTj := HT.out (f + j) hfl
      have eo : o + (f + j) * 6 = o + f * 6 + j * 6 := by omega
      rw [eo] at c0 c1 c2 c3 c4 c5
      have HCn : Hid (∀ y, CutOf f l[f + j] y → ∀ i, (h : i < (L ++ [y]).length) → (h' : f + i < l.length) → CutOf f l[f + i] (L ++ [y])[i]) := fun y hy i hi hi' => by
        have hLl := HLj.out
        by_cases e : i < L.length
        · rw [List.getElem_append_left e]; exact HCL.out i e hi'
        · obtain rfl : i = j := by simp at hi; omega
          rw [List.getElem_append_right (by omega)]
          simp only [hLl, Nat.sub_self, List.getElem_cons_zero]
          exact hy
      clear eo
      generalize l[f + j] = x at *
      obtain ⟨xk, xt, xn, xz, xp, xcap, xc, xa⟩ := x
      obtain ⟨t1, t2, t3⟩ := hTj
      simp only at c0 c1 c2 c3 c4 c5 hKj t1 t2 t3
      have HKj := Lib.hid hKj
      have HT3 := Lib.hid t3
      have hji : (j : Int) < ((T - f : Nat) : Int) := by have := E5.out; omega
      have hji2 : (j : Int) < (m : Int) := by omega
      clear hKj t3
      obtain ⟨S, hS⟩ : ∃ S, S = wr.heap.size := ⟨_, rfl⟩
      have hcl := clone_any xt (wr.alloc (.cells #[.int .i64 xk, .string xt, .int .i64 xn, .int .i64 xz, .slice xp xc.length xcap, .int .i64 xa] 42)) t2
      have hB1 := HB.out.alloc HB.out.size (.cells #[.int .i64 xk, .string xt, .int .i64 xn, .int .i64 xz, .slice xp xc.length xcap, .int .i64 xa] 42)
      have hX1 := Blk.new wr 42 #[.int .i64 xk, .string xt, .int .i64 xn, .int .i64 xz, .slice xp xc.length xcap, .int .i64 xa]
      have hw1 : Below wr.heap.size wr (wr.alloc (.cells #[.int .i64 xk, .string xt, .int .i64 xn, .int .i64 xz, .slice xp xc.length xcap, .int .i64 xa] 42)) := (Below.refl _ _).alloc (Nat.le_refl _) _
      have HB1 := Lib.hid hB1
      have HX1 := Lib.hid hX1
      have HW1 := Lib.hid hw1
      have HS := Lib.hid hS
      clear hB1 hX1 hw1 hS
      go_wp2_with (go_at_call 37; refine hcl.mono ?_)
      first | rintro e w2 rfl hb2 | rintro e w2 ⟨rfl, hb2⟩
      have hX2 := HX1.out.below hb2 (by simp)
      have hw2 : Below wr.heap.size wr w2 := HW1.out.trans (hb2.mono (by simp))
      have lS2 := hX2.lt
      rw [← HS.out] at hX2 lS2 ⊢
      have v0 := hX2.frozen 1
      have v1 : w2.cell? ⟨S, 1, none⟩ = some (.string xt) := by rw [hX2.cell]; rfl
      have v4 : w2.cell? ⟨S, 4, none⟩ = some (.slice xp xc.length xcap) := by rw [hX2.cell]; rfl
      have hX3 : Blk (w2.setCell ⟨S, 1, none⟩ (.string xt)) S 42 #[.int .i64 xk, .string xt, .int .i64 xn, .int .i64 xz, .slice xp xc.length xcap, .int .i64 xa] := by have h := hX2.set_ 1 (.string xt); simpa using h
      have hw3 : Below wr.heap.size wr (w2.setCell ⟨S, 1, none⟩ (.string xt)) := hw2.setCell (p := ⟨S, 1, none⟩) (by rw [HS.out]; exact Nat.le_refl _) _
      have hsh := shift_any xc xp xcap f _ (HKj.out.below hw3) t1 (by omega) HT3.out
      have HX3 := Lib.hid hX3
      have HW3 := Lib.hid hw3
      have lS3 : S < (w2.setCell ⟨S, 1, none⟩ (.string xt)).heap.size := hX3.lt
      have LS3 := Lib.hid lS3
      clear hcl hb2 hX2 hw2 hX3 hw3 lS3
      go_wp2_with (go_at_call 38; refine hsh.mono ?_)
      intro e w4 hp
      obtain ⟨p', cap', rfl, hKO, hb4⟩ := hp
      have hX4 := HX3.out.below hb4 LS3.out
      have hw4 : Below wr.heap.size wr w4 := HW3.out.trans (hb4.mono (by have := HW3.out.size; exact this))
      have lS4 := hX4.lt
      have u0 : w4.cell? ⟨S, 0, none⟩ = some (.int .i64 xk) := by rw [hX4.cell]; rfl
      have u1 : w4.cell? ⟨S, 1, none⟩ = some (.string xt) := by rw [hX4.cell]; rfl
      have u2 : w4.cell? ⟨S, 2, none⟩ = some (.int .i64 xn) := by rw [hX4.cell]; rfl
      have u3 : w4.cell? ⟨S, 3, none⟩ = some (.int .i64 xz) := by rw [hX4.cell]; rfl
      have u4 : w4.cell? ⟨S, 4, none⟩ = some (.slice xp xc.length xcap) := by rw [hX4.cell]; rfl
      have u5 : w4.cell? ⟨S, 5, none⟩ = some (.int .i64 xa) := by rw [hX4.cell]; rfl
      have v4' := hX4.frozen 4
      have hP4 := HPB.out.below hw4 lP
      have z4 : w4.cell? ⟨w.heap.size + 1 + 1, 0, none⟩ = some (.slice q j qc) := by rw [hP4.cell]; rfl
      have hw5 : Below wr.heap.size wr (w4.setCell ⟨S, 4, none⟩ (.slice p' xc.length cap')) := hw4.setCell (p := ⟨S, 4, none⟩) (by rw [HS.out]; exact Nat.le_refl _) _
      have hKO5 : KidsO w.heap.size (w4.setCell ⟨S, 4, none⟩ (.slice p' xc.length cap')) p' cap' (subs f xc) := (hKO.mono (Nat.le_trans HB.out.size HW3.out.size)).blk (a := ⟨S, 4, none⟩) hX4 (by decide) _
      have HO6 := Lib.hid ((own_below HO.out hw5).alloc (.cells #[.int .i64 xk, .string xt, .int .i64 xn, .int .i64 xz, .slice p' xc.length cap', .int .i64 xa] 42))
      have HW6 := Lib.hid (hw5.alloc (by simpa using hw4.size) (.cells #[.int .i64 xk, .string xt, .int .i64 xn, .int .i64 xz, .slice p' xc.length cap', .int .i64 xa] 42))
      have HKO6 := Lib.hid (hKO5.alloc_ (.cells #[.int .i64 xk, .string xt, .int .i64 xn, .int .i64 xz, .slice p' xc.length cap', .int .i64 xa] 42))
      have hnews : ∀ j u, ([.int .i64 xk, .string xt, .int .i64 xn, .int .i64 xz, .slice p' xc.length cap', .int .i64 xa] : List Value)[j]? = some u → ((w4.setCell ⟨S, 4, none⟩ (.slice p' xc.length cap')).alloc (.cells #[.int .i64 xk, .string xt, .int .i64 xn, .int .i64 xz, .slice p' xc.length cap', .int .i64 xa] 42)).cell? ((⟨w4.heap.size, 0, none⟩ : Addr).add j) = some u := by
        have h := news_node (w4.setCell ⟨S, 4, none⟩ (.slice p' xc.length cap')) (.int .i64 xk) (.string xt) (.int .i64 xn) (.int .i64 xz) (.slice p' xc.length cap') (.int .i64 xa)
        rw [show (w4.setCell ⟨S, 4, none⟩ (.slice p' xc.length cap')).heap.size = w4.heap.size by simp] at h
        exact h
      have HNews := Lib.hid hnews
      have lPS : w.heap.size + 1 + 1 ≠ S := by have := HS.out; omega
      have lP4 := hP4.lt
      clear hsh hb4 hX4 hw4 hP4 hKO hKO5 hw5 hnews v0 v1 v4 c0 c1 c2 c3 c4 c5 z0
      obtain ⟨i0, hi, hz0, hz1, hz2⟩ := info_parts info42
      go_wp2_with (at_builtin; refine wpList_append_own _ rfl _ _ 22 rfl (w.heap.size + 1 + 1 + 1) 42 i0 (.agg #[.int .i64 0, .string ⟨#[]⟩, .int .i64 0, .int .i64 0, .slice none 0 0, .int .i64 0]) 6 72 Try.underlying22 hi hz0 hz1 hz2 rfl (by decide) _ j (rowN L) rfl HO6.out ⟨w4.heap.size, 0, none⟩ 1 1 [.int .i64 xk, .string xt, .int .i64 xn, .int .i64 xz, .slice p' xc.length cap', .int .i64 xa] rfl rfl ?c1 ?c2 ?c3 ?c4 ?c5 ?_)
      case c1 => exact HNews.out
      case c2 => intro u hu; simp at hu; rcases hu with rfl | rfl | rfl | rfl | rfl | rfl <;> rfl
      case c3 => unfold maxLen; omega
      case c4 => omega
      case c5 => simp; omega
      intro v' w7 hown' hgrow _
      obtain ⟨q', qc', rfl, _⟩ := own_shape hown'
      have hrow : ∀ g, (Value.slice q j qc).ownBlock = some g → w.heap.size + 1 + 1 + 1 ≤ g := fun g h => (HO6.out.lt g h).1
      have hB6 := HB.out.trans (HW6.out.mono HB.out.size)
      have hB7 : Below w.heap.size w w7 := Below.grown hB6 hgrow hB6.size (fun g h => by have := hrow g h; omega)
      have hne2 : some (w.heap.size + 1 + 1) ≠ (Value.slice q j qc).ownBlock := fun h => by have := hrow _ h.symm; omega
      have hne1 : some (w.heap.size + 1) ≠ (Value.slice q j qc).ownBlock := fun h => by have := hrow _ h.symm; omega
      have hP7 := (HPB.out.below HW6.out lP).grown hgrow hne2
      have hR7 := (HRB.out.below HW6.out (by omega)).grown hgrow hne1
      have hK7 : ∀ i, (h : i < L.length) → KidsO w.heap.size w7 L[i].p L[i].cap L[i].c := fun i hi => ((HKL.out i hi).below HW6.out).grown HO6.out hgrow
      have hk7 := HKO6.out.grown HO6.out hgrow
      have hP8 : Blk (w7.setCell ⟨w.heap.size + 1 + 1, 0, none⟩ (.slice q' (j + 1) qc')) (w.heap.size + 1 + 1) 24 #[.slice q' (j + 1) qc'] := by have h := hP7.set_ 0 (.slice q' (j + 1) qc'); simpa using h
      have hR8 : Blk (w7.setCell ⟨w.heap.size + 1 + 1, 0, none⟩ (.slice q' (j + 1) qc')) (w.heap.size + 1) 24 #[.slice none 0 0] := hR7.far (by simp) _
      have hO8 : (w7.setCell ⟨w.heap.size + 1 + 1, 0, none⟩ (.slice q' (j + 1) qc')).ownsRow (w.heap.size + 1 + 1 + 1) 42 6 (.slice q' (j + 1) qc') (j + 1) (rowN (L ++ [⟨xk, xt, xn, xz, p', cap', subs f xc, xa⟩])) := by
        rw [rowN_snoc]
        refine own_far (by simpa [cellsN, subs_length] using hown') (fun g hg => ?_) _
        have := (hown'.lt g hg).1
        simp; omega
      have hK8 : Hid (∀ i, (h : i < (L ++ [(⟨xk, xt, xn, xz, p', cap', subs f xc, xa⟩ : Nd)]).length) → KidsO w.heap.size (w7.setCell ⟨w.heap.size + 1 + 1, 0, none⟩ (.slice q' (j + 1) qc')) (L ++ [(⟨xk, xt, xn, xz, p', cap', subs f xc, xa⟩ : Nd)])[i].p (L ++ [(⟨xk, xt, xn, xz, p', cap', subs f xc, xa⟩ : Nd)])[i].cap (L ++ [(⟨xk, xt, xn, xz, p', cap', subs f xc, xa⟩ : Nd)])[i].c) := fun i hi => by
        by_cases e : i < L.length
        · rw [List.getElem_append_left e]; exact (hK7 i e).blk (a := ⟨w.heap.size + 1 + 1, 0, none⟩) hP7 (by decide) _
        · obtain rfl : i = L.length := by simp at hi; omega
          rw [List.getElem_append_right (Nat.le_refl _)]
          simp only [Nat.sub_self, List.getElem_cons_zero]
          exact hk7.blk (a := ⟨w.heap.size + 1 + 1, 0, none⟩) hP7 (by decide) _
      have hB8 : Below w.heap.size w (w7.setCell ⟨w.heap.size + 1 + 1, 0, none⟩ (.slice q' (j + 1) qc')) := hB7.setCell (p := ⟨w.heap.size + 1 + 1, 0, none⟩) (by simp; omega) _
      have z7 : w7.cell? ⟨w.heap.size + 1 + 1, 0, none⟩ = some (.slice q j qc) := by rw [hP7.cell]; rfl
      have zf := hP7.frozen 0
      have HP8 := Lib.hid hP8
      have HR8 := Lib.hid hR8
      have HO8 := Lib.hid hO8
      have HB8 := Lib.hid hB8
      have HC8 := HCn.out ⟨xk, xt, xn, xz, p', cap', subs f xc, xa⟩ ⟨rfl, rfl, rfl, rfl, rfl, rfl⟩
      have HC8 := Lib.hid HC8
      have HL8 : Hid ((L ++ [(⟨xk, xt, xn, xz, p', cap', subs f xc, xa⟩ : Nd)]).length = j + 1) := by show _ = _; rw [List.length_append, HLj.out]; rfl
      clear hown' hgrow hrow hB6 hB7 hne1 hne2 hP7 hR7 hK7 hk7 hP8 hR8 hO8 hB8 u0 u1 u2 u3 u4 u5 v4' z4
      go_wp2
      go_roundw
      case rel => exact ⟨j + 1, _, q', qc', by omega, by go_num, HL8.out, HR8.out, HP8.out, HO8.out, hK8.out, HC8.out, HB8.out⟩
      case measure => simp [intOf]; try omega
    · have hjm : j = m := by omega
      have hji : ¬ (j : Int) < ((T - f : Nat) : Int) := by have := E5.out; omega
      subst hjm
      have r0 : wr.cell? ⟨w.heap.size + 1, 0, none⟩ = some (.slice none 0 0) := by rw [HRB.out.cell]; rfl
      have rf := HRB.out.frozen 0
      have hR9 : Blk (wr.setCell ⟨w.heap.size + 1, 0, none⟩ (.slice q j qc)) (w.heap.size + 1) 24 #[.slice q j qc] := by have h := HRB.out.set_ 0 (.slice q j qc); simpa using h
      have r9 := hR9.cell 0
      have hO9 := own_far HO.out (p := ⟨w.heap.size + 1, 0, none⟩) (fun g hg => by have := (HO.out.lt g hg).1; simp; omega) (.slice q j qc)
      have hK9 : ∀ i, (h : i < L.length) → KidsO w.heap.size (wr.setCell ⟨w.heap.size + 1, 0, none⟩ (.slice q j qc)) L[i].p L[i].cap L[i].c := fun i hi => (HKL.out i hi).blk (a := ⟨w.heap.size + 1, 0, none⟩) HRB.out (by decide) _
      have hT9 := fun (W' : World) (hk : ∀ g, w.heap.size ≤ g → g < (wr.setCell ⟨w.heap.size + 1, 0, none⟩ (.slice q j qc)).heap.size → W'.heap[g]? = (wr.setCell ⟨w.heap.size + 1, 0, none⟩ (.slice q j qc)).heap[g]?) => tr_keep hO9 HLj.out.symm hK9 (by omega) hk
      have hB9 := HB.out.setCell (p := ⟨w.heap.size + 1, 0, none⟩) (by simp) (.slice q j qc)
      obtain ⟨_, _, hsh, hcq⟩ := own_shape HO.out
      injection hsh with hs1 hs2 hs3
      have HT9 := Lib.hid hT9
      have HB9 := Lib.hid hB9
      have R9 := Lib.hid r9
      have hcq2 : j ≤ qc := by omega
      clear hR9 r9 hO9 hK9 hT9 hB9 hs1 hs2 hs3 hcq
      go_wp2
      have r9 := R9.out
      refine bodyPost_ret (v := .agg #[.slice q j qc]) (by simp [results, Try.results24, go_sem, r9]) rfl ?_
      rw [HQ.out]
      exact ⟨L, q, qc, by rw [HLj.out], HLj.out, by rw [HLj.out]; exact hcq2, HT9.out, HCL.out, HB9.out⟩
end Go.Proofs.Ytcaekpgnknlblaa
