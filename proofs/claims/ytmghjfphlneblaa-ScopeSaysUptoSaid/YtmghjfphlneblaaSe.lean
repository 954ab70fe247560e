/-
  Contracts of local, name, call, own: a node by itself.
-/
import Derived.Test.YtmghjfphlneblaaSd
namespace Go.Proofs.Ytmghjfphlneblaa.Sc
open Go.RowKit
open Tr

theorem tx_get {l : List Nd} {k : Nat} (hk : k < l.length) : tx l k = l[k].t.data.toList := by simp [tx, hk]
theorem nameB_size {s : ByteArray} (h : nameB s = true) : s.size ≤ 12 := by
  have := of_decide_eq_true h
  exact this.2.1
theorem text_size {l : List Nd} {k : Nat} (hk : k < l.length) (hc : codeAt l k = 0) (hn : namedB (kindAt l k) = true) : l[k].t.size ≤ maxLen := by
  rw [codeAt_get hk] at hc
  rw [kindAt_get hk] at hn
  unfold nodeC at hc
  split at hc
  · cases hc
  · split at hc
    · cases hc
    · split at hc
      · cases hc
      · unfold fieldC fieldV at hc
        have : nameB l[k].t = true := by
          cases hb : nameB l[k].t with
          | true => rfl
          | false => rw [if_pos ⟨hn, hb⟩] at hc; cases hc
        have := nameB_size this
        unfold maxLen; omega
section
variable {w0 w w2 : World} {l : List Nd} {p : Option Addr} {cap R F : Nat} {ch : Ch} {E : Env} {fs : List Int}
/-- where a node lies -/
theorem Sm.node (h : Sm w0 w l p cap R F ch E fs) {k : Nat} (hk : k < l.length) : ∃ b o, p = some ⟨b, o, none⟩ ∧ b < w0.heap.size ∧ NodeAt w0 b (o + k * 6) l[k] ∧ ∀ w', Below w0.heap.size w0 w' → NodeAt w' b (o + k * 6) l[k] := by
  obtain ⟨b, o, hp, hb, hN⟩ := h.tr0.1 (by omega)
  exact ⟨b, o, hp, hb, hN k hk, fun w' hb' => (hN k hk).below hb' hb⟩
theorem set2 {B : Nat} {x y : Value} (hB : Blk w B 27 #[x, y]) (c a : Value) : Blk ((w.setCell ⟨B, 0, none⟩ c).setCell ⟨B, 1, none⟩ a) B 27 #[c, a] := by
  have h1 := (hB.set_ 0 c).set_ 1 a
  simpa using h1
theorem Sm.box2 (h : Sm w0 w l p cap R F ch E fs) {B : Nat} {x y : Value} (hB : Blk w B 27 #[x, y]) (h0 : w0.heap.size ≤ B) (c a : Value) : Sm w0 ((w.setCell ⟨B, 0, none⟩ c).setCell ⟨B, 1, none⟩ a) l p cap R F ch E fs :=
  (h.box hB h0 (by decide) (by decide) (by decide) 0 c).box (hB.set_ 0 c) h0 (by decide) (by decide) (by decide) 1 a
theorem Chg.box2 {m B : Nat} (h : Chg F m w w2) (hB : w.heap.size ≤ B) (c a : Value) : Chg F m w ((w2.setCell ⟨B, 0, none⟩ c).setCell ⟨B, 1, none⟩ a) := (h.box hB 0 c).box hB 1 a
theorem Sm.m_lt (h : Sm w0 w l p cap R F ch E fs) {now g m : Nat} (hg : ch[now]? = some (g, m)) : m < w.heap.size ∧ w0.heap.size ≤ m ∧ g < w.heap.size := by
  have hlt : now < ch.length := (List.getElem?_eq_some_iff.1 hg).1
  have hgm : ch[now] = (g, m) := by rw [List.getElem?_eq_getElem hlt] at hg; exact Option.some.inj hg
  obtain ⟨n, _, hM⟩ := h.map now hlt
  have h2 := h.old.2 now hlt
  have h3 := (h.one now hlt).lt
  rw [hgm] at hM h2 h3
  exact ⟨hM.lt, h2, h3⟩

/-- what a store of what a node stands for wants -/
theorem Sm.wants (h : Sm w0 w l p cap R F ch E fs) {k : Nat} (hk : k < l.length) : w.cell? ⟨R, 2, none⟩ = some (.slice (some ⟨F, 0, none⟩) l.length l.length) ∧ w.cell? ⟨R, 0, none⟩ = some (.slice p l.length cap) ∧ w.frozen? ⟨F, k, none⟩ = false ∧ (∃ v : Int, w.cell? ⟨F, k, none⟩ = some (.int .i64 v)) ∧ F < w.heap.size ∧ R < w.heap.size := by
  refine ⟨by rw [h.res.cell]; rfl, by rw [h.res.cell]; rfl, h.fnd.frozen k, ?_, h.fnd.lt, h.res.lt⟩
  have hk2 : k < fs.length := by rw [h.len]; exact hk
  exact ⟨fs[k], by rw [h.fnd.cell]; unfold intA; simp [hk2]⟩
/-- the end of a step where all is well -/
theorem Dn.fine {m : Nat} {W : Wr} {E' : Env} {fs' : List Int} (hc : Chg F m w w2) (h : Sm w0 w2 l p cap R F ch E' fs') (hw : w0.heap.size ≤ w.heap.size) {B : Nat} {x y : Value} (hB : Blk w2 B 27 #[x, y]) (hBw : w.heap.size ≤ B) (hfs : fs' = ov W fs) :
    Dn w0 w l p cap R F ch m fs (.ok E' W) (.returned (.agg #[.int .i64 0, .int .i64 0])) ((w2.setCell ⟨B, 0, none⟩ (.int .i64 0)).setCell ⟨B, 1, none⟩ (.int .i64 0)) :=
  ⟨rfl, hc.box2 hBw _ _, by rw [← hfs]; exact h.box2 hB (Nat.le_trans hw hBw) _ _⟩

set_option maxHeartbeats 4000000 in
set_option maxRecDepth 100000 in
theorem local_any (h : Sm w0 w l p cap R F ch E fs) {now k g m : Nat} (hch : ch.length = now + 1) (hg : ch[now]? = some (g, m)) (hk : k < l.length) (hl : l.length ≤ 600) (hE : E.length ≤ 1000000) (hs : l[k].t.size ≤ maxLen) :
    Calls Try.prog 30 #[.pointer (some ⟨R, 0, none⟩), .int .i64 k, .pointer (some ⟨g, 0, none⟩)] w (Dn w0 w l p cap R F ch m fs (declF l now k E)) := by
  obtain ⟨hm1, hm2, hg1⟩ := h.m_lt hg
  have hF := h.fnd.lt
  have ha := h.alloc (.cells #[.int .i64 0, .int .i64 0] 27)
  have hY := Blk.new w 27 #[.int .i64 0, .int .i64 0]
  obtain ⟨b, o, rfl, hb, hN, hN2⟩ := h.node hk
  have hlt := (tx_get hk).symm
  obtain ⟨c0, c1, c2, c3, c4, c5⟩ := hN2 w h.bel
  have r0 : w.cell? ⟨R, 0, none⟩ = some (.slice (some ⟨b, o, none⟩) l.length cap) := by rw [h.res.cell]; rfl
  obtain ⟨Q, hQ⟩ : ∃ Q : Ending → World → Prop, Q = Dn w0 w l (some ⟨b, o, none⟩) cap R F ch m fs (declF l now k E) := ⟨_, rfl⟩
  rw [← hQ]
  have HQ := Lib.hid hQ
  have HL := Lib.hid h.bel.size
  have hbR : R < w.heap.size := h.res.lt
  have hbb : b < w.heap.size := Nat.lt_of_lt_of_le hb h.bel.size
  have HY := Lib.hid hY
  clear c0 c2 c3 c4 c5 hQ hY hN hN2
  obtain ⟨t, ht⟩ : ∃ t, t = l[k].t := ⟨_, rfl⟩
  obtain ⟨n, hn⟩ : ∃ n, n = l.length := ⟨_, rfl⟩
  rw [← ht] at c1 hlt hs
  rw [← hn] at r0
  have hl' : n ≤ 600 := by omega
  have hkn : k < n := by omega
  have HN := Lib.hid hn
  have HK := Lib.hid hk
  have HH := Lib.hid h
  cases hd : (roomF l E now (tx l k)).isSome with
  | true =>
    have hdec := declare_no ha hg t hs hlt hd
    have HR : Hid (declF l now k E = .bad 7 k) := by unfold declF; rw [hd]; rfl
    clear h ha hlt hd hn hk ht hg hch hl
    go_enter Try.func30, Try.ntmps30
    go_wp2_with (go_at_call 18; refine hdec.mono ?_; rintro e w' ⟨rfl, rfl⟩)
    refine bodyPost_ret (v := .agg #[.int .i64 7, .int .i64 k]) (by simp [results, Try.results30, go_sem]) rfl ?_
    rw [HQ.out, HR.out]
    exact ⟨rfl, (Chg.refl _ _ _).alloc _⟩
  | false =>
    have hdec := declare_yes ha hch hg hk (by omega) hE t hs hlt hd
    have HR : Hid (declF l now k E = .ok (E ++ [(k, now)]) [(k, k)]) := by unfold declF; rw [hd]; rfl
    clear h ha hlt hd hn hk ht hg hch hl
    go_enter Try.func30, Try.ntmps30
    go_wp2_with (go_at_call 18; refine hdec.mono ?_)
    rintro e w2 ⟨rfl, hc2, h2⟩
    have hY2 := hc2.blk HY.out (by omega) (by omega)
    obtain ⟨q2, q0, qf, ⟨v, qv⟩, qF, qR⟩ := h2.wants HK.out
    rw [← HN.out] at q2 q0
    have y0 : w2.cell? ⟨w.heap.size, 0, none⟩ = some (.int .i64 0) := by rw [hY2.cell]; rfl
    have y1 : w2.cell? ⟨w.heap.size, 1, none⟩ = some (.int .i64 0) := by rw [hY2.cell]; rfl
    have g0 := hY2.frozen 0
    have g1 := hY2.frozen 1
    have lY := hY2.lt
    have nF : w.heap.size ≠ F := by omega
    have HC2 := Lib.hid hc2
    have H2 := Lib.hid h2
    have HY2 := Lib.hid hY2
    have HZ := Lib.hid ((hY2.far (p := ⟨F, k, none⟩) nF (.int .i64 k)))
    clear hc2 h2 hY2 hdec
    go_wp2
    have hz := set2 HZ.out (.int .i64 0) (.int .i64 0)
    have z0 := hz.cell 0
    have z1 := hz.cell 1
    refine bodyPost_ret (v := .agg #[.int .i64 0, .int .i64 0]) (by simp [results, Try.results30, go_sem, z0, z1]) rfl ?_
    rw [HQ.out, HR.out]
    exact Dn.fine ((((Chg.refl _ _ _).alloc _).trans HC2.out).set k _) (H2.out.put k k) HL.out HZ.out (Nat.le_refl _) rfl
end
end Go.Proofs.Ytmghjfphlneblaa.Sc
