/-
  Contract of inTurn at two steps of the search.
-/
import Derived.Test.YtmghjfphlneblaaSg
import Derived.Test.YtmghjfphlneblaaSh
namespace Go.Proofs.Ytmghjfphlneblaa.Sc
open Go.RowKit
open Tr

theorem ov_get {l : List Nd} {W : Wr} (hW : ∀ x ∈ W, WOk l x) {k : Nat} (hk : kindAt l k = 33) (hl : libB (tx l k) = true) : ∀ {fs : List Int}, fs[k]? = some (-1) → (ov W fs)[k]? = some (-1) := by
  induction W with
  | nil => intro fs h; exact h
  | cons x W ih =>
    intro fs h
    show (ov W (fs.set x.1 x.2))[k]? = _
    refine ih (fun y hy => hW y (List.mem_cons_of_mem _ hy)) ?_
    rw [List.getElem?_set]
    split
    · rename_i e
      have := (hW x (List.mem_cons_self ..)).2.1
      rw [e] at this
      have hlt : k < fs.length := (List.getElem?_eq_some_iff.1 h).1
      rw [e] at *
      rw [if_pos hlt, this hk hl]
    · exact h
theorem NoLib.ov {l : List Nd} {W : Wr} {fs : List Int} (h : NoLib l fs) (hW : ∀ x ∈ W, WOk l x) : NoLib l (ov W fs) := fun k h1 h2 h3 => ov_get hW h1 h2 (h k h1 h2 h3)
theorem entOwn (args : Array Value) (w : World) : (callFunc 21 args).run Try.prog w = .ok (.enter 21 args) w := by kernel_rfl
theorem entKids (args : Array Value) (w : World) : (callFunc 20 args).run Try.prog w = .ok (.enter 20 args) w := by kernel_rfl
/-- a step of the search, as a function value's function -/
def StepF (w0 : World) (l : List Nd) (p : Option Addr) (cap R F : Nat) (ch : Ch) (m g k : Nat) (id b : Nat) (h : Env → Rs) : Prop :=
  ∀ (w : World) (E : Env) (fs : List Int), Sm w0 w l p cap R F ch E fs → E.length ≤ b → NoLib l fs → Calls Try.prog id #[.pointer (some ⟨R, 0, none⟩), .int .i64 k, .pointer (some ⟨g, 0, none⟩)] w (Dn w0 w l p cap R F ch m fs (h E))
/-- how far two steps have come -/
def Rel2 (w0 w : World) (l : List Nd) (p : Option Addr) (cap R F : Nat) (ch : Ch) (m : Nat) (fs : List Int) (tot : Rs) (h1 h2 : Env → Rs) (b1 b2 : Nat) (j : Nat) (wr : World) : Prop :=
  ∃ E' W fs', Chg F m w wr ∧ Sm w0 wr l p cap R F ch E' fs' ∧ fs' = ov W fs ∧ NoLib l fs' ∧ ((j = 0 ∧ E'.length ≤ b1 ∧ tot = ((h1 E').bind h2).pre W) ∨ (j = 1 ∧ E'.length ≤ b2 ∧ tot = (h2 E').pre W) ∨ (j = 2 ∧ tot = .ok E' W))
section
variable {w0 w w2 : World} {l : List Nd} {p : Option Addr} {cap R F : Nat} {ch : Ch} {E : Env} {fs : List Int}
theorem Sm.rowNe (h : Sm w0 w l p cap R F ch E fs) {G : Nat} {t : TypeId} {cs : Array Value} (hG : Blk w G t cs) (ht : t ≠ 3) : G ≠ F := fun e => by
  have := h.fnd; rw [← e] at this; exact ht (Blk.type hG this)
theorem Sm.rowNm (h : Sm w0 w l p cap R F ch E fs) {now g m G : Nat} (hg : ch[now]? = some (g, m)) {t : TypeId} {cs : Array Value} (hG : Blk w G t cs) : G ≠ m := fun e => by
  have hlt : now < ch.length := (List.getElem?_eq_some_iff.1 hg).1
  have hgm : ch[now] = (g, m) := by rw [List.getElem?_eq_getElem hlt] at hg; exact Option.some.inj hg
  obtain ⟨n, _, hM⟩ := h.map now hlt
  rw [hgm] at hM
  rw [e] at hG
  exact hM.not_blk hG
set_option maxHeartbeats 8000000 in
set_option maxRecDepth 100000 in
theorem inTurn_two (h : Sm w0 w l p cap R F ch E fs) {now k g m G b1 b2 id1 id2 : Nat} {h1 h2 : Env → Rs} (hg : ch[now]? = some (g, m)) (hE : E.length ≤ b1) (hq : NoLib l fs)
    (hG : Blk w G 41 #[.func (.func id1) #[.pointer (some ⟨R, 0, none⟩)] #[], .func (.func id2) #[.pointer (some ⟨R, 0, none⟩)] #[]])
    (he1 : ∀ args w, (callFunc id1 args).run Try.prog w = .ok (.enter id1 args) w) (he2 : ∀ args w, (callFunc id2 args).run Try.prog w = .ok (.enter id2 args) w)
    (hs1 : StepF w0 l p cap R F ch m g k id1 b1 h1) (hs2 : StepF w0 l p cap R F ch m g k id2 b2 h2)
    (hf1 : ∀ E, E.length ≤ b1 → Fine l b2 (h1 E)) (hf2 : ∀ E, E.length ≤ b2 → Fine l 100000000 (h2 E)) :
    Calls Try.prog 19 #[.int .i64 k, .pointer (some ⟨g, 0, none⟩), .slice (some ⟨G, 0, none⟩) 2 2] w (Dn w0 w l p cap R F ch m fs ((h1 E).bind h2)) := by
  obtain ⟨tot, htot⟩ : ∃ tot, tot = (h1 E).bind h2 := ⟨_, rfl⟩
  rw [← htot]
  obtain ⟨Q, hQ⟩ : ∃ Q : Ending → World → Prop, Q = Dn w0 w l p cap R F ch m fs tot := ⟨_, rfl⟩
  rw [← hQ]
  have HQ := Lib.hid hQ
  have hY := Blk.new w 27 #[.int .i64 0, .int .i64 0]
  have hG1 := hG.alloc (.cells #[.int .i64 0, .int .i64 0] 27)
  have hGF := h.rowNe hG (by decide)
  have hGm := h.rowNm hg hG
  obtain ⟨hm1, hm2, hg1⟩ := h.m_lt hg
  have hF := h.fnd.lt
  have hGl := hG.lt
  have HL := Lib.hid h.bel.size
  have R0 : Hid (Rel2 w0 w l p cap R F ch m fs tot h1 h2 b1 b2 0 (w.alloc (.cells #[.int .i64 0, .int .i64 0] 27))) :=
    ⟨E, [], fs, (Chg.refl _ _ _).alloc _, h.alloc _, rfl, hq, Or.inl ⟨rfl, hE, by rw [pre_nil]; exact htot⟩⟩
  have HY : Hid (∀ wr, Chg F m w wr → ∀ w1, w1 = wr → True) := fun _ _ _ _ => trivial
  have HS1 := Lib.hid hs1
  have HS2 := Lib.hid hs2
  have HF1 := Lib.hid hf1
  have HF2 := Lib.hid hf2
  have HG := Lib.hid hG
  clear h hG hG1 hq htot hQ hs1 hs2 hf1 hf2 HY hE
  go_enter Try.func19, Try.ntmps19
  go_wp2
  go_loopw [12] (fun v wr => ∃ j : Nat, v = .int .i64 j ∧ Hid (Rel2 w0 w l p cap R F ch m fs tot h1 h2 b1 b2 j wr) ∧ Blk wr w.heap.size 27 #[.int .i64 0, .int .i64 0]) (fun v _ => 2 - (intOf v).toNat)
  case atStart => exact ⟨0, rfl, R0.out, hY⟩
  clear R0 hY
  obtain ⟨j, rfl, HR, hY⟩ := hrel
  obtain ⟨E', W, fs', hc, hs, hfs, hn, hcase⟩ := HR.out
  have hGw := hc.blk HG.out hGF hGm
  have x0 : wr.cell? ⟨G, 0, none⟩ = some (.func (.func id1) #[.pointer (some ⟨R, 0, none⟩)] #[]) := by rw [hGw.cell]; rfl
  have x1 : wr.cell? ⟨G, 1, none⟩ = some (.func (.func id2) #[.pointer (some ⟨R, 0, none⟩)] #[]) := by rw [hGw.cell]; rfl
  have lG := hGw.lt
  have HC := Lib.hid hc
  have HH := Lib.hid hs
  have HFS := Lib.hid hfs
  have HN := Lib.hid hn
  have HY := Lib.hid hY
  clear hc hs hfs hn hGw HR hY
  have HEND : Hid (∀ (c a : Int) (w3 : World), tot = .bad c a → Chg F m wr w3 → Blk w3 w.heap.size 27 #[.int .i64 0, .int .i64 0] ∧ ∀ o, Q (.returned (.agg #[.int .i64 c, .int .i64 a])) (((w3.setCell ⟨w.heap.size, 0, none⟩ (.int .i64 c)).setCell ⟨w.heap.size, 1, none⟩ (.int .i64 a)).alloc o)) := by
    intro c a w3 ht hc3
    refine ⟨hc3.blk HY.out (by omega) (by omega), fun o => ?_⟩
    rw [HQ.out, ht]
    exact ⟨rfl, ((HC.out.trans hc3).box2 (Nat.le_refl _) _ _).alloc _⟩
  rcases hcase with ⟨rfl, hb, ht⟩ | ⟨rfl, hb, ht⟩ | ⟨rfl, ht⟩
  · have hcall := HS1.out wr E' fs' HH.out hb HN.out
    have hfine := HF1.out E' hb
    have HT := Lib.hid ht
    clear ht hb x1
    go_wp2_with (refine hcall.mono ?_)
    intro e w3 hd
    cases hr : h1 E' with
    | out => rw [hr] at hfine; exact hfine.elim
    | bad c a =>
      rw [hr] at hd hfine
      obtain ⟨rfl, hc3⟩ := hd
      obtain ⟨hB, hq3⟩ := HEND.out c a w3 (by rw [HT.out, hr]; rfl) hc3
      have y0 : w3.cell? ⟨w.heap.size, 0, none⟩ = some (.int .i64 0) := by rw [hB.cell]; rfl
      have y1 : w3.cell? ⟨w.heap.size, 1, none⟩ = some (.int .i64 0) := by rw [hB.cell]; rfl
      have g0 := hB.frozen 0
      have g1 := hB.frozen 1
      have lY := hB.lt
      have hz := (set2 hB (.int .i64 c) (.int .i64 a)).alloc (.cells #[.int .i64 c, .int .i64 a] 27)
      have Z0 := Lib.hid (hz.cell 0)
      have Z1 := Lib.hid (hz.cell 1)
      have HF := Lib.hid (hq3 (.cells #[.int .i64 c, .int .i64 a] 27))
      clear hB hq3 hz hcall hc3 hr HEND
      rcases hfine with rfl | rfl
      all_goals
        go_wp2
        have z0 := Z0.out
        have z1 := Z1.out
        refine bodyPost_ret (v := .agg #[_, _]) (by simp [results, Try.results19, go_sem, z0, z1]; exact ⟨rfl, rfl⟩) rfl ?_
        exact HF.out
    | ok E2 W2 =>
      rw [hr] at hd hfine
      obtain ⟨rfl, hc3, hs3⟩ := hd
      have HY3 := Lib.hid (hc3.blk HY.out (by omega) (by omega))
      have HREL : Hid (Rel2 w0 w l p cap R F ch m fs tot h1 h2 b1 b2 1 (w3.alloc (.cells #[.int .i64 0, .int .i64 0] 27))) :=
        ⟨E2, W ++ W2, _, (HC.out.trans hc3).alloc _, hs3.alloc _, by rw [HFS.out, ov_app], HN.out.ov hfine.2, Or.inr (Or.inl ⟨rfl, hfine.1, by rw [HT.out, hr]; show ((h2 E2).pre W2).pre W = _; rw [pre_pre]⟩)⟩
      clear hcall hc3 hs3 hr hfine HEND x0
      go_wp2
      go_roundw
      case rel => exact ⟨1, by go_num, HREL.out, HY3.out.alloc _⟩
      case measure => simp [intOf]
  · have hcall := HS2.out wr E' fs' HH.out hb HN.out
    have hfine := HF2.out E' hb
    have HT := Lib.hid ht
    clear ht hb x0
    go_wp2_with (refine hcall.mono ?_)
    intro e w3 hd
    cases hr : h2 E' with
    | out => rw [hr] at hfine; exact hfine.elim
    | bad c a =>
      rw [hr] at hd hfine
      obtain ⟨rfl, hc3⟩ := hd
      obtain ⟨hB, hq3⟩ := HEND.out c a w3 (by rw [HT.out, hr]; rfl) hc3
      have y0 : w3.cell? ⟨w.heap.size, 0, none⟩ = some (.int .i64 0) := by rw [hB.cell]; rfl
      have y1 : w3.cell? ⟨w.heap.size, 1, none⟩ = some (.int .i64 0) := by rw [hB.cell]; rfl
      have g0 := hB.frozen 0
      have g1 := hB.frozen 1
      have lY := hB.lt
      have hz := (set2 hB (.int .i64 c) (.int .i64 a)).alloc (.cells #[.int .i64 c, .int .i64 a] 27)
      have Z0 := Lib.hid (hz.cell 0)
      have Z1 := Lib.hid (hz.cell 1)
      have HF := Lib.hid (hq3 (.cells #[.int .i64 c, .int .i64 a] 27))
      clear hB hq3 hz hcall hc3 hr HEND
      rcases hfine with rfl | rfl
      all_goals
        go_wp2
        have z0 := Z0.out
        have z1 := Z1.out
        refine bodyPost_ret (v := .agg #[_, _]) (by simp [results, Try.results19, go_sem, z0, z1]; exact ⟨rfl, rfl⟩) rfl ?_
        exact HF.out
    | ok E2 W2 =>
      rw [hr] at hd hfine
      obtain ⟨rfl, hc3, hs3⟩ := hd
      have HY3 := Lib.hid (hc3.blk HY.out (by omega) (by omega))
      have HREL : Hid (Rel2 w0 w l p cap R F ch m fs tot h1 h2 b1 b2 2 (w3.alloc (.cells #[.int .i64 0, .int .i64 0] 27))) :=
        ⟨E2, W ++ W2, _, (HC.out.trans hc3).alloc _, hs3.alloc _, by rw [HFS.out, ov_app], HN.out.ov hfine.2, Or.inr (Or.inr ⟨rfl, by rw [HT.out, hr]; rfl⟩)⟩
      clear hcall hc3 hs3 hr hfine HEND x1
      go_wp2
      go_roundw
      case rel => exact ⟨2, by go_num, HREL.out, HY3.out.alloc _⟩
      case measure => simp [intOf]
  · have HT := Lib.hid ht
    have hB := HY.out
    have y0 : wr.cell? ⟨w.heap.size, 0, none⟩ = some (.int .i64 0) := by rw [hB.cell]; rfl
    have y1 : wr.cell? ⟨w.heap.size, 1, none⟩ = some (.int .i64 0) := by rw [hB.cell]; rfl
    have g0 := hB.frozen 0
    have g1 := hB.frozen 1
    have lY := hB.lt
    have hz := set2 hB (.int .i64 0) (.int .i64 0)
    have Z0 := Lib.hid (hz.cell 0)
    have Z1 := Lib.hid (hz.cell 1)
    clear ht hB hz HEND x0 x1
    go_wp2
    have z0 := Z0.out
    have z1 := Z1.out
    refine bodyPost_ret (v := .agg #[.int .i64 0, .int .i64 0]) (by simp [results, Try.results19, go_sem, z0, z1]) rfl ?_
    rw [HQ.out, HT.out]
    exact Dn.fine HC.out HH.out HL.out HY.out (Nat.le_refl _) HFS.out
end
end Go.Proofs.Ytmghjfphlneblaa.Sc
