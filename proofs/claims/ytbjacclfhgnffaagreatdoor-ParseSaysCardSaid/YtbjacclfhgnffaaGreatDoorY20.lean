/-
  Joined texts of this claim: Qs, Qt.
-/
import Derived.Test.YtbjacclfhgnffaaGreatDoorY18
set_option linter.unusedVariables false
set_option linter.unusedSimpArgs false
/-
  The contract of primary, by those at fewer steps.
-/
namespace Go.Proofs.YtbjacclfhgnffaaGreatDoor
open Go.RowKit
open Tk (T4 bstr)
open Tr (Nd Blk KidsAt)

theorem blk_at {w : World} {g : Nat} {t : TypeId} {cs : Array Value} (h : g = w.heap.size) : Blk (w.alloc (.cells cs t)) g t cs := by subst h; exact Blk.new _ _ _
theorem not_own_ge {B T E : Nat} {w : World} {s : S3} (h : Ps B T E w s) {g : Nat} (hg : w.heap.size ≤ g) : ¬ Own B w g := fun ho => by
  obtain ⟨vT, vN, vL, ns, hp⟩ := h
  rcases (hp.own_cases _).1 ho with h2 | h2 | h2
  · have := hp.lt; omega
  · have := (hp.nod.lt _ h2).2; omega
  · have := (hp.loo.lt _ h2).2; omega
/-- what list gives -/
theorem list_now {B T E n : Nat} {s : S3} {W0 W : World} (h : Now B T E s W0 W) (xo xe : ByteArray) {o en : List UInt8} (ho : xo.data.toList = o) (he : xe.data.toList = en) (item : Job) (id : FuncId) (b c : Array Value)
    (hen : ∀ args w, (callFunc id args).run Tryz.prog w = .ok (.enter id args) w) (hit : ∀ m, m < n → ∀ W1 s1, Ext B W W1 → Ps B T E W1 s1 → runJ E m item s1 ≠ .out → Calls Tryz.prog id (b ++ c) W1 (Did B T E W1 (runJ E m item s1))) :
    Calls Tryz.prog 204 #[.pointer (some ⟨B, 0, none⟩), .string xo, .func (.func id) b c, .string xe] W fun e w' => ∃ g1 g2 g3 g4, e = .returned (.func (.func 231) #[] #[.pointer (some ⟨g1, 0, none⟩), .pointer (some ⟨g2, 0, none⟩), .pointer (some ⟨g3, 0, none⟩), .pointer (some ⟨g4, 0, none⟩)]) ∧
      Now B T E s W0 w' ∧ Ext B W w' ∧ StepV B T E w' (.func (.func 231) #[] #[.pointer (some ⟨g1, 0, none⟩), .pointer (some ⟨g2, 0, none⟩), .pointer (some ⟨g3, 0, none⟩), .pointer (some ⟨g4, 0, none⟩)]) (runJ E (n + 1) (.list o en item)) := by
  refine (list_lay xo xe (.func id) b c W).mono fun e w' ⟨hee, hw⟩ => ⟨_, _, _, _, hee, ?_⟩
  have hB := h.2.lt
  have hb : Below W.heap.size W w' := by
    rw [hw]; exact ((((Below.refl _ _).alloc (Nat.le_refl _) _).alloc (by simp) _).alloc (by simp; omega) _).alloc (by simp; omega) _
  have hE : Ext B W w' := Ext.below hb hB
  have hP : Ps B T E w' s := h.2.below hb
  have k1 : Blk w' W.heap.size 87 #[.pointer (some ⟨B, 0, none⟩)] := by rw [hw]; exact (((blk_at rfl).alloc _).alloc _).alloc _
  have k2 : Blk w' (W.heap.size + 1) 9 #[.string xo] := by rw [hw]; exact ((blk_at (by simp)).alloc _).alloc _
  have k3 : Blk w' (W.heap.size + 1 + 1) 57 #[.func (.func id) b c] := by rw [hw]; exact (blk_at (by simp)).alloc _
  have k4 : Blk w' (W.heap.size + 1 + 1 + 1) 9 #[.string xe] := by rw [hw]; exact blk_at (by simp)
  have hn : ∀ g, W.heap.size ≤ g → ¬ Own B w' g := fun g hg ho => not_own_ge h.2 hg ((own_same (hb.block B hB) g).1 ho)
  refine ⟨⟨h.1.trans hE, hP⟩, hE, 231, _, _, rfl, enters163, fun w s1 hx hp hr => ?_⟩
  exact listc_any ho he (fun W1 h1 => ⟨((hx.trans h1).blk k1 (hn _ (Nat.le_refl _))).cell 0, ((hx.trans h1).blk k2 (hn _ (by omega))).cell 0, ((hx.trans h1).blk k4 (hn _ (by omega))).cell 0, ((hx.trans h1).blk k3 (hn _ (by omega))).cell 0⟩) hen
    (fun m hm W1 s2 h1 h2 h3 => hit m hm W1 s2 (hE.trans (hx.trans h1)) h2 h3) hp hr

theorem steps_nil {B T E : Nat} {w : World} : Steps B T E w none [] [] := ⟨rfl, by simp, fun h => absurd h (by simp), fun j h => absurd h (by simp)⟩
theorem build_nil {B T E : Nat} {w : World} {s : S3} (h : Ps B T E w s) (x : Mn) (hx : x.c = []) (hr : buildF x [] s ≠ .out) :
    Calls Tryz.prog 76 #[.pointer (some ⟨B, 2, none⟩), nodeV x, .slice none 0 0] w (Ends B T E w (buildF x [] s)) :=
  (build_any (cap := 0) h steps_nil x hx hr).mono fun e w' hd => ends_of hd hr (Ext.refl _ _)

/-- by smaller numbers -/
def LtJ (B T E n : Nat) : Prop := ∀ m, m ≤ n → CallJ B T E m
theorem primary_eq (E n : Nat) (s : S3) : runJ E (n + 1) .primary s =
      (if (pk E s.L).k = 2 then buildF (mk 31 [] (pk E s.L).v (pk E s.L).a) [] { s with L := s.L.tail }
      else if (pk E s.L).k = 1 then
        if (pk E s.L.tail).t = [40] then buildF (mk 33 (pk E s.L).t 0 (pk E s.L).a) [runJ E n (.list [40] [41] .expr)] { s with L := s.L.tail }
        else buildF (mk 32 (pk E s.L).t 0 (pk E s.L).a) [] { s with L := s.L.tail }
      else seqF [wordF E [40], runJ E n .expr, wordF E [41]] s) := rfl



set_option maxHeartbeats 8000000 in
set_option maxRecDepth 100000 in
theorem primary_num {B T E n : Nat} (w : World) (s : S3) (h : Ps B T E w s) (hk : (pk E s.L).k = 2) (hr : runJ E (n + 1) .primary s ≠ .out) :
    Calls Tryz.prog 198 #[.pointer (some ⟨B, 0, none⟩)] w (Did B T E w (runJ E (n + 1) .primary s)) := by
  rw [primary_eq, if_pos hk] at hr ⊢
  have hpk := peek_any h
  unfold tokV at hpk
  obtain ⟨t, ht⟩ : ∃ t, t = pk E s.L := ⟨_, rfl⟩
  rw [← ht] at hpk hk hr ⊢
  obtain ⟨r, hrr⟩ : ∃ r, r = buildF (Go.Proofs.YtbjacclfhgnffaaGreatDoor.mk 31 [] t.v t.a) [] { s with L := s.L.tail } := ⟨_, rfl⟩
  rw [← hrr] at hr ⊢
  obtain ⟨Q, hQ⟩ : ∃ Q : Ending → World → Prop, Q = Did B T E w r := ⟨_, rfl⟩
  rw [← hQ]
  have HQ := Lib.hid hQ
  have Hrr := Lib.hid hrr
  have HR := Lib.hid hr
  obtain ⟨x, hx⟩ : ∃ x, x = bstr t.t := ⟨_, rfl⟩
  rw [← hx, hk] at hpk
  have Hx := Lib.hid hx
  have Hh := Lib.hid h
  have hB := h.lt
  clear hk
  clear hQ hr ht hx h hrr
  go_enter Tryz.func198, Tryz.ntmps198
  go_wp2_with (go_at_call 59; refine hpk.mono ?_; rintro e w1 ⟨rfl, hb⟩)
  have hp1 := Hh.out.below hb
  have HE1 := Lib.hid ((Ext.below hb hB).alloc hB (.cells #[.int .i64 2, .string x, .int .i64 t.v, .int .i64 t.a] 82))
  have HBox := Lib.hid (box_far (t := 82) (x0 := .int .i64 2) (x1 := .string x) (x2 := .int .i64 t.v) (x3 := .int .i64 t.a) hp1 (Ext.refl _ _))
  have HP1 := Lib.hid (hp1.alloc (.cells #[.int .i64 2, .string x, .int .i64 t.v, .int .i64 t.a] 82))
  clear hp1 hb hpk
  have htk := take_any HP1.out
  refine htk.mono ?_
  rintro e w3 ⟨rfl, hx3, hp3⟩
  have HX3 := Lib.hid hx3.drew
  have hbn : Calls Tryz.prog 76 #[.pointer (some ⟨B, 2, none⟩), .agg #[.int .i64 31, .string ⟨#[]⟩, .int .i64 t.v, .int .i64 0, .slice none 0 0, .int .i64 t.a], .slice none 0 0] w3.drew (Ends B T E w3.drew r) := by
    have h := build_nil hp3.drew (mk 31 [] t.v t.a) rfl (by rw [← Hrr.out]; exact HR.out)
    rw [← Hrr.out] at h
    exact h
  have S1 : Hid (∀ W, Ext B w3.drew W → W.cell? ⟨w1.heap.size, 2, none⟩ = some (.int .i64 t.v) ∧ W.cell? ⟨w1.heap.size, 3, none⟩ = some (.int .i64 t.a)) := fun W hW => ⟨(tok_box (HBox.out W (HX3.out.trans hW))).2.2.1, (tok_box (HBox.out W (HX3.out.trans hW))).2.2.2⟩
  have S0 : Hid (w3.drew.cell? ⟨w1.heap.size, 2, none⟩ = some (.int .i64 t.v) ∧ w3.drew.cell? ⟨w1.heap.size, 3, none⟩ = some (.int .i64 t.a)) := S1.out _ (Ext.refl _ _)
  clear htk hx3 hp3 HBox
  go_wp2
  go_region_held3 (fun W => W.cell? ⟨w1.heap.size, 2, none⟩ = some (.int .i64 t.v) ∧ W.cell? ⟨w1.heap.size, 3, none⟩ = some (.int .i64 t.a))
    (first | exact S0.out | exact S1.out _ hx9)
    (first | (go_at_call 76; refine hbn.mono ?_; rintro e w9 ⟨v, rfl, hd, hx9⟩))
  have HD := Lib.hid (did_ext hd (HE1.out.trans HX3.out))
  clear hd hx9
  go_wp2
  (try go_ret)
  rw [HQ.out]
  exact HD.out

set_option maxHeartbeats 8000000 in
set_option maxRecDepth 100000 in
theorem primary_name {B T E n : Nat} (w : World) (s : S3) (h : Ps B T E w s) (hk : (pk E s.L).k = 1) (hno : (pk E s.L.tail).t ≠ [40]) (hr : runJ E (n + 1) .primary s ≠ .out) :
    Calls Tryz.prog 198 #[.pointer (some ⟨B, 0, none⟩)] w (Did B T E w (runJ E (n + 1) .primary s)) := by
  rw [primary_eq, if_neg (by rw [hk]; decide), if_pos hk, if_neg hno] at hr ⊢
  have hpk := peek_any h
  unfold tokV at hpk
  obtain ⟨t, ht⟩ : ∃ t, t = pk E s.L := ⟨_, rfl⟩
  rw [← ht] at hpk hk hr ⊢
  obtain ⟨r, hrr⟩ : ∃ r, r = buildF (Go.Proofs.YtbjacclfhgnffaaGreatDoor.mk 32 t.t 0 t.a) [] { s with L := s.L.tail } := ⟨_, rfl⟩
  rw [← hrr] at hr ⊢
  obtain ⟨Q, hQ⟩ : ∃ Q : Ending → World → Prop, Q = Did B T E w r := ⟨_, rfl⟩
  rw [← hQ]
  have HQ := Lib.hid hQ
  have Hrr := Lib.hid hrr
  have HR := Lib.hid hr
  obtain ⟨x, hx⟩ : ∃ x, x = bstr t.t := ⟨_, rfl⟩
  rw [← hx, hk] at hpk
  have Hx := Lib.hid hx
  have Hh := Lib.hid h
  have hB := h.lt
  have HNo := Lib.hid hno
  clear hk hno
  clear hQ hr ht hx h hrr
  go_enter Tryz.func198, Tryz.ntmps198
  go_wp2_with (go_at_call 59; refine hpk.mono ?_; rintro e w1 ⟨rfl, hb⟩)
  have hp1 := Hh.out.below hb
  have HE1 := Lib.hid ((Ext.below hb hB).alloc hB (.cells #[.int .i64 1, .string x, .int .i64 t.v, .int .i64 t.a] 82))
  have HBox := Lib.hid (box_far (t := 82) (x0 := .int .i64 1) (x1 := .string x) (x2 := .int .i64 t.v) (x3 := .int .i64 t.a) hp1 (Ext.refl _ _))
  have HP1 := Lib.hid (hp1.alloc (.cells #[.int .i64 1, .string x, .int .i64 t.v, .int .i64 t.a] 82))
  clear hp1 hb hpk
  have htk := take_any HP1.out
  go_wp2_with (go_at_call 106; refine htk.mono ?_; rintro e w3 ⟨rfl, hx3, hp3⟩)
  have hse := sees_any hp3 ⟨#[40]⟩
  have hsd : decide ((pk E s.L.tail).t = (⟨#[40]⟩ : ByteArray).data.toList) = false := decide_eq_false HNo.out
  rw [hsd] at hse
  clear hsd
  go_wp2_with (go_at_call 161; refine hse.mono ?_; rintro e w4 ⟨rfl, hb4⟩)
  have HX4 := Lib.hid (hx3.trans (Ext.below hb4 hp3.lt)).drew
  have HP4 := Lib.hid (hp3.below hb4).drew
  have S1 : Hid (∀ W, Ext B w4.drew W → W.cell? ⟨w1.heap.size, 1, none⟩ = some (.string x) ∧ W.cell? ⟨w1.heap.size, 3, none⟩ = some (.int .i64 t.a)) := fun W hW => ⟨(tok_box (HBox.out W (HX4.out.trans hW))).2.1, (tok_box (HBox.out W (HX4.out.trans hW))).2.2.2⟩
  have S0 : Hid (w4.drew.cell? ⟨w1.heap.size, 1, none⟩ = some (.string x) ∧ w4.drew.cell? ⟨w1.heap.size, 3, none⟩ = some (.int .i64 t.a)) := S1.out _ (Ext.refl _ _)
  have hbn : Calls Tryz.prog 76 #[.pointer (some ⟨B, 2, none⟩), .agg #[.int .i64 32, .string x, .int .i64 0, .int .i64 0, .slice none 0 0, .int .i64 t.a], .slice none 0 0] w4.drew (Ends B T E w4.drew r) := by
    have h := build_nil HP4.out (mk 32 t.t 0 t.a) rfl (by rw [← Hrr.out]; exact HR.out)
    rw [← Hrr.out] at h
    rw [Hx.out]
    exact h
  clear htk hx3 hp3 HBox hb4 hse
  go_wp2
  go_region_held3 (fun W => W.cell? ⟨w1.heap.size, 1, none⟩ = some (.string x) ∧ W.cell? ⟨w1.heap.size, 3, none⟩ = some (.int .i64 t.a))
    (first | exact S0.out | exact S1.out _ hx9)
    (first | (go_at_call 76; refine hbn.mono ?_; rintro e w9 ⟨v, rfl, hd, hx9⟩))
  have HD := Lib.hid (did_ext hd (HE1.out.trans HX4.out))
  clear hd hx9
  go_wp2
  (try go_ret)
  rw [HQ.out]
  exact HD.out

set_option maxHeartbeats 8000000 in
set_option maxRecDepth 100000 in
theorem primary_call {B T E n : Nat} (J : LtJ B T E n) (w : World) (s : S3) (h : Ps B T E w s) (hk : (pk E s.L).k = 1) (hyes : (pk E s.L.tail).t = [40]) (hr : runJ E (n + 1 + 1) .primary s ≠ .out) :
    Calls Tryz.prog 198 #[.pointer (some ⟨B, 0, none⟩)] w (Did B T E w (runJ E (n + 1 + 1) .primary s)) := by
  rw [primary_eq, if_neg (by rw [hk]; decide), if_pos hk, if_pos hyes] at hr ⊢
  have hpk := peek_any h
  unfold tokV at hpk
  obtain ⟨t, ht⟩ : ∃ t, t = pk E s.L := ⟨_, rfl⟩
  rw [← ht] at hpk hk hr ⊢
  obtain ⟨r, hrr⟩ : ∃ r, r = buildF (mk 33 t.t 0 t.a) [runJ E (n + 1) (.list [40] [41] .expr)] { s with L := s.L.tail } := ⟨_, rfl⟩
  rw [← hrr] at hr ⊢
  obtain ⟨Q, hQ⟩ : ∃ Q : Ending → World → Prop, Q = Did B T E w r := ⟨_, rfl⟩
  rw [← hQ]
  have HQ := Lib.hid hQ
  have Hrr := Lib.hid hrr
  have HR := Lib.hid hr
  obtain ⟨x, hx⟩ : ∃ x, x = bstr t.t := ⟨_, rfl⟩
  rw [← hx, hk] at hpk
  have Hx := Lib.hid hx
  have Hh := Lib.hid h
  have hB := h.lt
  have HYes := Lib.hid hyes
  have HJ := Lib.hid J
  clear hk hyes J
  clear hQ hr ht hx h hrr
  go_enter Tryz.func198, Tryz.ntmps198
  go_wp2_with (go_at_call 59; refine hpk.mono ?_; rintro e w1 ⟨rfl, hb⟩)
  have hp1 := Hh.out.below hb
  have HE1 := Lib.hid ((Ext.below hb hB).alloc hB (.cells #[.int .i64 1, .string x, .int .i64 t.v, .int .i64 t.a] 82))
  have HBox := Lib.hid (box_far (t := 82) (x0 := .int .i64 1) (x1 := .string x) (x2 := .int .i64 t.v) (x3 := .int .i64 t.a) hp1 (Ext.refl _ _))
  have HP1 := Lib.hid (hp1.alloc (.cells #[.int .i64 1, .string x, .int .i64 t.v, .int .i64 t.a] 82))
  clear hp1 hb hpk
  have htk := take_any HP1.out
  go_wp2_with (go_at_call 106; refine htk.mono ?_; rintro e w3 ⟨rfl, hx3, hp3⟩)
  have hse := sees_any hp3 ⟨#[40]⟩
  have hsd : decide ((pk E s.L.tail).t = (⟨#[40]⟩ : ByteArray).data.toList) = true := decide_eq_true HYes.out
  rw [hsd] at hse
  clear hsd
  go_wp2_with (go_at_call 161; refine hse.mono ?_; rintro e w4 ⟨rfl, hb4⟩)
  have HX4 := Lib.hid (hx3.trans (Ext.below hb4 hp3.lt)).drew
  have HP4 := Lib.hid (hp3.below hb4).drew
  have S1 : Hid (∀ W, Ext B w4.drew W → W.cell? ⟨w1.heap.size, 1, none⟩ = some (.string x) ∧ W.cell? ⟨w1.heap.size, 3, none⟩ = some (.int .i64 t.a)) := fun W hW => ⟨(tok_box (HBox.out W (HX4.out.trans hW))).2.1, (tok_box (HBox.out W (HX4.out.trans hW))).2.2.2⟩
  have S0 : Hid (w4.drew.cell? ⟨w1.heap.size, 1, none⟩ = some (.string x) ∧ w4.drew.cell? ⟨w1.heap.size, 3, none⟩ = some (.int .i64 t.a)) := S1.out _ (Ext.refl _ _)
  have N0 : Hid (Now B T E { s with L := s.L.tail } w4.drew w4.drew) := Now.refl HP4.out
  have HLs := Lib.hid (list_now (n := n) N0.out ⟨#[40]⟩ ⟨#[41]⟩ (o := [40]) (en := [41]) rfl rfl .expr 29 #[.pointer (some ⟨B, 0, none⟩)] #[] enters21 (fun m hm W1 s1 _ h2 h3 => (HJ.out m (by omega)).expr W1 s1 h2 h3))
  have HN : Hid (∀ W v, Now B T E { s with L := s.L.tail } w4.drew W → StepV B T E W v (runJ E (n + 1) (.list [40] [41] .expr)) → Calls Tryz.prog 76 #[.pointer (some ⟨B, 2, none⟩), .agg #[.int .i64 33, .string x, .int .i64 0, .int .i64 0, .slice none 0 0, .int .i64 t.a], .slice (some ⟨W.heap.size, 0, none⟩) 1 1] (W.alloc (.cells #[v] 57)) (Ends B T E w4.drew r)) := fun W v hW hv => by
    have h := build_now hW [v] [runJ E (n + 1) (.list [40] [41] .expr)] rfl (by simp) (step1 hv) (mk 33 t.t 0 t.a) rfl (by rw [← Hrr.out]; exact HR.out) 57
    rw [← Hrr.out] at h
    rw [Hx.out]
    exact h
  clear htk hx3 hp3 HBox hb4 hse
  go_wp2
  go_region_held3 (fun W => W.cell? ⟨w1.heap.size, 1, none⟩ = some (.string x) ∧ W.cell? ⟨w1.heap.size, 3, none⟩ = some (.int .i64 t.a))
    (first | exact S0.out | exact S1.out _ hn5.1 | exact S1.out _ (hn5.alloc _).1 | exact S1.out _ hx9)
    (first | (go_at_call 204; refine HLs.out.mono ?_; rintro e w5 ⟨g1, g2, g3, g4, rfl, hn5, -, hs5⟩) | (go_at_call 76; refine (HN.out _ _ hn5 hs5).mono ?_; rintro e w9 ⟨v, rfl, hd, hx9⟩))
  all_goals
    have HD := Lib.hid (did_ext hd (HE1.out.trans HX4.out))
    clear hd hx9 hs5 hn5
    go_wp2
    (try go_ret)
    rw [HQ.out]
    exact HD.out

set_option maxHeartbeats 8000000 in
set_option maxRecDepth 100000 in
theorem primary_paren {B T E n : Nat} (J : CallJ B T E n) (w : World) (s : S3) (h : Ps B T E w s) (hk : (pk E s.L).k ≠ 2) (hk1 : (pk E s.L).k ≠ 1) (hr : runJ E (n + 1) .primary s ≠ .out) :
    Calls Tryz.prog 198 #[.pointer (some ⟨B, 0, none⟩)] w (Did B T E w (runJ E (n + 1) .primary s)) := by
  rw [primary_eq, if_neg hk, if_neg hk1] at hr ⊢
  have hpk := peek_any h
  unfold tokV at hpk
  obtain ⟨t, ht⟩ : ∃ t, t = pk E s.L := ⟨_, rfl⟩
  rw [← ht] at hpk hk hk1
  obtain ⟨r, hrr⟩ : ∃ r, r = seqF [wordF E [40], runJ E n .expr, wordF E [41]] s := ⟨_, rfl⟩
  rw [← hrr] at hr ⊢
  obtain ⟨Q, hQ⟩ : ∃ Q : Ending → World → Prop, Q = Did B T E w r := ⟨_, rfl⟩
  rw [← hQ]
  have HQ := Lib.hid hQ
  have Hrr := Lib.hid hrr
  have HR := Lib.hid hr
  obtain ⟨x, hx⟩ : ∃ x, x = bstr t.t := ⟨_, rfl⟩
  rw [← hx] at hpk
  have Hx := Lib.hid hx
  have Hh := Lib.hid h
  have hB := h.lt
  have HJ := Lib.hid J
  have e2 : ((t.k : Int) == 2) = false := by simpa using (show ¬ ((t.k : Int) = 2) by omega)
  have e1 : ((t.k : Int) == 1) = false := by simpa using (show ¬ ((t.k : Int) = 1) by omega)
  clear hk hk1 J
  clear hQ hr ht hx h hrr
  go_enter Tryz.func198, Tryz.ntmps198
  go_wp2_with (go_at_call 59; refine hpk.mono ?_; rintro e w1 ⟨rfl, hb⟩)
  have hp1 := Hh.out.below hb
  have HE1 := Lib.hid ((Ext.below hb hB).alloc hB (.cells #[.int .i64 t.k, .string x, .int .i64 t.v, .int .i64 t.a] 82))
  have HBox := Lib.hid (box_far (t := 82) (x0 := .int .i64 t.k) (x1 := .string x) (x2 := .int .i64 t.v) (x3 := .int .i64 t.a) hp1 (Ext.refl _ _))
  have HP1 := Lib.hid (hp1.alloc (.cells #[.int .i64 t.k, .string x, .int .i64 t.v, .int .i64 t.a] 82))
  clear hp1 hb hpk
  have HE1d := Lib.hid HE1.out.drew
  have HP1d := Lib.hid HP1.out.drew
  clear HBox HP1
  generalize w1.alloc (.cells #[.int .i64 t.k, .string x, .int .i64 t.v, .int .i64 t.a] 82) = W1 at *
  have HWa : Hid (∀ W, Now B T E s W1.drew W → Calls Tryz.prog 61 #[.pointer (some ⟨B, 0, none⟩), .string ⟨#[40]⟩] W fun e w' => ∃ g1 g2, e = .returned (.func (.func 110) #[] #[.pointer (some ⟨g1, 0, none⟩), .pointer (some ⟨g2, 0, none⟩)]) ∧
      Now B T E s W1.drew w' ∧ Ext B W w' ∧ StepV B T E w' (.func (.func 110) #[] #[.pointer (some ⟨g1, 0, none⟩), .pointer (some ⟨g2, 0, none⟩)]) (wordF E [40])) := fun W hW => word_now hW ⟨#[40]⟩
  have HWb : Hid (∀ W, Now B T E s W1.drew W → Calls Tryz.prog 61 #[.pointer (some ⟨B, 0, none⟩), .string ⟨#[41]⟩] W fun e w' => ∃ g1 g2, e = .returned (.func (.func 110) #[] #[.pointer (some ⟨g1, 0, none⟩), .pointer (some ⟨g2, 0, none⟩)]) ∧
      Now B T E s W1.drew w' ∧ Ext B W w' ∧ StepV B T E w' (.func (.func 110) #[] #[.pointer (some ⟨g1, 0, none⟩), .pointer (some ⟨g2, 0, none⟩)]) (wordF E [41])) := fun W hW => word_now hW ⟨#[41]⟩
  have HN : Hid (∀ W v1 v2, Now B T E s W1.drew W → StepV B T E W v1 (wordF E [40]) → StepV B T E W v2 (wordF E [41]) → Calls Tryz.prog 27 #[.slice (some ⟨W.heap.size, 0, none⟩) 3 3] (W.alloc (.cells #[v1, .func (.func 29) #[.pointer (some ⟨B, 0, none⟩)] #[], v2] 57)) (Ends B T E W1.drew r)) := fun W v1 v2 hW h1 h2 => by
    have h := turn_now hW [v1, .func (.func 29) #[.pointer (some ⟨B, 0, none⟩)] #[], v2] [wordF E [40], runJ E n .expr, wordF E [41]] rfl (by simp) (step3 h1 (stepExpr HJ.out W) h2) (by rw [← Hrr.out]; exact HR.out) 57
    rw [← Hrr.out] at h
    exact h
  have N0 : Hid (Now B T E s W1.drew W1.drew) := Now.refl HP1d.out
  go_wp2
  go_region_held3 (fun W => True)
    (first | exact trivial)
    (first | (go_at_call 61; first | ((with_reducible refine (HWa.out _ N0.out).mono ?_); rintro e w5 ⟨g1, g2, rfl, hn5, -, hs5⟩) | ((with_reducible refine (HWb.out _ hn5).mono ?_); rintro e w6 ⟨g3, g4, rfl, hn6, hx56, hs6⟩)) | (go_at_call 27; refine (HN.out _ _ _ hn6 (hs5.ext hx56) hs6).mono ?_; rintro e w9 ⟨v, rfl, hd, hx9⟩))
  all_goals
    have HD := Lib.hid (did_ext hd (HE1d.out))
    clear hd hx9 hs5 hn5 hs6 hn6 hx56
    go_wp2
    (try go_ret)
    rw [HQ.out]
    exact HD.out

theorem primary_step {B T E n : Nat} (J : LtJ B T E n) (w : World) (s : S3) (h : Ps B T E w s) (hr : runJ E (n + 1) .primary s ≠ .out) :
    Calls Tryz.prog 198 #[.pointer (some ⟨B, 0, none⟩)] w (Did B T E w (runJ E (n + 1) .primary s)) := by
  by_cases h2 : (pk E s.L).k = 2
  · exact primary_num w s h h2 hr
  · by_cases h1 : (pk E s.L).k = 1
    · by_cases hp : (pk E s.L.tail).t = [40]
      · cases n with
        | zero => exact absurd (by rw [primary_eq, if_neg h2, if_pos h1, if_pos hp]; rfl) hr
        | succ n => exact primary_call (fun m hm => J m (by omega)) w s h h1 hp hr
      · exact primary_name w s h h1 hp hr
    · exact primary_paren (J n (Nat.le_refl _)) w s h h2 h1 hr
end Go.Proofs.YtbjacclfhgnffaaGreatDoor
/-
  The contract of pairs, by those at fewer steps.
-/
namespace Go.Proofs.YtbjacclfhgnffaaGreatDoor
open Go.RowKit
open Tk (T4 bstr)
open Tr (Nd Blk KidsAt)

theorem levelT_le (t : List UInt8) : levelT t ≤ 11 := by unfold levelT; repeat' split <;> try omega
set_option maxHeartbeats 2000000 in
set_option maxRecDepth 100000 in
theorem pairc_any {B T E n : Nat} (J : CallJ B T E n) {w : World} {s : S3} (h : Ps B T E w s) (gp gl lv : Nat) (hl : lv ≤ 11) (h1 : w.cell? ⟨gp, 0, none⟩ = some (.pointer (some ⟨B, 0, none⟩))) (h2 : w.cell? ⟨gl, 0, none⟩ = some (.int .i64 lv)) (hr : runJ E n (.pairs (lv + 1)) s ≠ .out) :
    Calls Tryz.prog 108 #[.pointer (some ⟨gp, 0, none⟩), .pointer (some ⟨gl, 0, none⟩)] w (Did B T E w (runJ E n (.pairs (lv + 1)) s)) := by
  have hc := J.pairs (lv + 1) w s h hr
  rw [Int.natCast_add] at hc
  obtain ⟨Q, hQ⟩ : ∃ Q : Ending → World → Prop, Q = Did B T E w (runJ E n (.pairs (lv + 1)) s) := ⟨_, rfl⟩
  rw [← hQ]
  have HQ := Lib.hid hQ
  have HR := Lib.hid hr
  rw [← hQ] at hc
  clear hQ h J hr
  go_enter Tryz.func108, Tryz.ntmps108
  go_wp2_with (go_at_call 58; refine hc.mono ?_)
  intro e w1 hd
  rw [HQ.out] at hd
  obtain ⟨v, rfl, hd⟩ := did_ret hd HR.out
  have HD := Lib.hid hd
  clear hd hc
  go_wp2
  (try go_ret)
  rw [HQ.out]
  exact HD.out
theorem stepPair {B T E n : Nat} (J : CallJ B T E n) {W : World} {gp gl lv : Nat} (hl : lv ≤ 11) (hb : ∀ W1, Ext B W W1 → W1.cell? ⟨gp, 0, none⟩ = some (.pointer (some ⟨B, 0, none⟩)) ∧ W1.cell? ⟨gl, 0, none⟩ = some (.int .i64 lv)) :
    StepV B T E W (.func (.func 108) #[] #[.pointer (some ⟨gp, 0, none⟩), .pointer (some ⟨gl, 0, none⟩)]) (runJ E n (.pairs (lv + 1))) :=
  ⟨108, _, _, rfl, enters75, fun w' s hx hp hr => pairc_any J hp gp gl lv hl (hb w' hx).1 (hb w' hx).2 hr⟩
theorem pairsL_eq (E m low mark : Nat) (s : S3) : runJ E (m + 1) (.pairsL low mark) s = (if low ≤ levelT (pk E s.L).t then
      (extF mark (mk (pairK (levelT (pk E s.L).t)) (pk E s.L).t 0 (pk E s.L).a) [runJ E m (.pairs (levelT (pk E s.L).t + 1))] { s with L := s.L.tail }).bind (runJ E m (.pairsL low mark)) else .ok s) := rfl

set_option maxHeartbeats 16000000 in
set_option maxRecDepth 100000 in
theorem pairs_step {B T E n : Nat} (J : LtJ B T E n) (low : Nat) (w : World) (s : S3) (h : Ps B T E w s) (hr : runJ E (n + 1) (.pairs low) s ≠ .out) :
    Calls Tryz.prog 58 #[.pointer (some ⟨B, 0, none⟩), .int .i64 low] w (Did B T E w (runJ E (n + 1) (.pairs low) s)) := by
  obtain ⟨r, hrr⟩ : ∃ r, r = runJ E (n + 1) (.pairs low) s := ⟨_, rfl⟩
  rw [← hrr] at hr ⊢
  obtain ⟨Q, hQ⟩ : ∃ Q : Ending → World → Prop, Q = Did B T E w r := ⟨_, rfl⟩
  rw [← hQ]
  have HQ := Lib.hid hQ
  have HR := Lib.hid hr
  change r = (if 1000 < low then .out else (runJ E n .prefixed s).bind (runJ E n (.pairsL low s.O.length))) at hrr
  have hlow : low ≤ 1000 := by
    by_cases hl : 1000 < low
    · rw [if_pos hl] at hrr; exact absurd hrr hr
    · omega
  rw [if_neg (by omega)] at hrr
  have Hrr := Lib.hid hrr
  have hB := h.lt
  have hp1 := h.alloc (.cells #[.pointer (some ⟨B, 0, none⟩)] 87)
  have hE1 : Ext B w (w.alloc (.cells #[.pointer (some ⟨B, 0, none⟩)] 87)) := (Ext.refl _ _).alloc hB _
  have HGp : Hid (∀ W, Ext B (w.alloc (.cells #[.pointer (some ⟨B, 0, none⟩)] 87)) W → W.cell? ⟨w.heap.size, 0, none⟩ = some (.pointer (some ⟨B, 0, none⟩))) := fun W hW => by
    have hn : ¬ Own B (w.alloc (.cells #[.pointer (some ⟨B, 0, none⟩)] 87)) w.heap.size := fun ho => not_own_new ⟨T, E, s, h⟩ ((own_alloc hB _ _).1 ho)
    exact (hW.blk (Blk.new _ _ _) hn).cell 0
  have hmk := mark_any hp1
  have hne : runJ E n .prefixed s ≠ .out := fun e => hr (by rw [hrr, e]; rfl)
  have hpre := (J n (Nat.le_refl _)).prefixed _ _ hp1 hne
  have HE1 := Lib.hid hE1
  have HJ := Lib.hid J
  have HmO : s.O.length ≤ 5000000 := by obtain ⟨_, _, _, _, hh⟩ := h; have := hh.lenO; have := hh.lenN; omega
  clear hQ hr hrr h hp1 hE1 hne J
  obtain ⟨mark, hmark⟩ : ∃ mark, mark = s.O.length := ⟨_, rfl⟩
  rw [← hmark] at hmk HmO
  have Hmark := Lib.hid hmark
  clear hmark
  go_enter Tryz.func58, Tryz.ntmps58
  go_wp2_with (first | (go_at_call 57; refine hmk.mono ?_; rintro e w' ⟨rfl, rfl⟩) | (go_at_call 104; refine hpre.mono ?_))
  intro e w2 hd
  cases hf : runJ E n .prefixed s with
  | out => exact absurd (by rw [Hrr.out, hf]; rfl) HR.out
  | bad c1 a1 =>
    rw [hf] at hd
    obtain ⟨rfl, hx2⟩ := hd
    have HX2 := Lib.hid (HE1.out.trans hx2)
    have HRb : Hid (r = .bad c1 a1) := by have h := Hrr.out; rw [hf] at h; exact h
    clear hpre hmk hf hx2
    unfold errV
    go_wp2
    (try go_ret)
    rw [HQ.out, HRb.out]
    exact ⟨rfl, HX2.out⟩
  | ok s1 =>
    rw [hf] at hd
    obtain ⟨rfl, hx2, hp2⟩ := hd
    have HX2 := Lib.hid hx2
    have HP2 := Lib.hid hp2
    have HR1 : Hid (r = runJ E n (.pairsL low mark) s1) := by have h := Hrr.out; rw [hf, ← Hmark.out] at h; exact h
    clear hpre hmk hf hx2 hp2 Hrr
    go_wp2
    go_loopg [] n (fun k wr => ∃ s2, k ≤ n ∧ Hid (r = runJ E k (.pairsL low mark) s2) ∧ Ext B (w.alloc (.cells #[.pointer (some ⟨B, 0, none⟩)] 87)) wr ∧ Ps B T E wr s2)
    case atStart => exact ⟨s1, Nat.le_refl _, HR1, HX2.out, HP2.out⟩
    case round =>
      obtain ⟨s2, hk, HK, hx, hp⟩ := hrel
      have HXr := Lib.hid hx
      have HPr := Lib.hid hp
      have cg := HGp.out wr hx
      have hpk := peek_any hp
      unfold tokV at hpk
      obtain ⟨t, ht⟩ : ∃ t, t = pk E s2.L := ⟨_, rfl⟩
      have hlv := fun w => level_any t.t w
      obtain ⟨x, hxx⟩ : ∃ x, x = bstr t.t := ⟨_, rfl⟩
      rw [← ht, ← hxx] at hpk
      rw [← hxx] at hlv
      have Ht := Lib.hid ht
      have Hxx := Lib.hid hxx
      have hl11 := levelT_le t.t
      have hBr := hp.lt
      have hft := fldT1
      clear hx hp HR1 HX2 HP2 ht hxx
      cases gk with
      | zero => exact absurd HK.out HR.out
      | succ m =>
        have HK2 : Hid (r = _) := Lib.hid (HK.out.trans (pairsL_eq E m low mark s2))
        rw [← Ht.out] at HK2
        clear HK
        by_cases hlt : low ≤ levelT t.t
        · have HK3 : Hid (r = (extF mark (mk (pairK (levelT t.t)) t.t 0 t.a) [runJ E m (.pairs (levelT t.t + 1))] { s2 with L := s2.L.tail }).bind (runJ E m (.pairsL low mark))) := by have h := HK2.out; rw [if_pos hlt] at h; exact h
          have hpK := fun w => pairK_any (levelT t.t) w (by omega)
          clear HK2
          obtain ⟨lv, hlvv⟩ : ∃ lv, lv = levelT t.t := ⟨_, rfl⟩
          rw [← hlvv] at hlt hlv hl11 hpK HK3
          obtain ⟨pk', hpk'⟩ : ∃ q, q = pairK lv := ⟨_, rfl⟩
          rw [← hpk'] at hpK HK3
          clear hlvv hpk'
          go_wp2_with (first | (go_at_call 59; refine hpk.mono ?_; rintro e w3 ⟨rfl, hb3⟩; have cg3 := HGp.out w3 (HXr.out.trans (Ext.below hb3 hBr))) | (go_at_call 105; refine (hlv _).mono ?_; rintro e w' ⟨rfl, rfl⟩))
          have HX3 := Lib.hid (HXr.out.trans (Ext.below hb3 hBr))
          have htk := take_any (HPr.out.below hb3)
          rw [← Ht.out] at htk
          unfold tokV at htk
          rw [← Hxx.out] at htk
          clear hb3 hpk cg
          go_wp2_with (go_at_call 106; refine htk.mono ?_; rintro e w4 ⟨rfl, hx4, hp4⟩)
          have HX4 := Lib.hid (HX3.out.trans hx4)
          have HP4 := Lib.hid hp4
          have hB4 := hp4.lt
          have hbx4 := box_far (t := 82) (x0 := .int .i64 t.k) (x1 := .string x) (x2 := .int .i64 t.v) (x3 := .int .i64 t.a) hp4 (Ext.refl _ _)
          have HBx4 := Lib.hid hbx4
          clear htk cg3 hx4 hp4 hbx4
          go_wp2_with (go_at_call 105; refine (hlv _).mono ?_; rintro e w' ⟨rfl, rfl⟩)
          have hp5 := (HP4.out.alloc (.cells #[.int .i64 t.k, .string x, .int .i64 t.v, .int .i64 t.a] 82)).alloc (.cells #[.int .i64 lv] 3)
          have hE5 : Ext B w4 ((w4.alloc (.cells #[.int .i64 t.k, .string x, .int .i64 t.v, .int .i64 t.a] 82)).alloc (.cells #[.int .i64 lv] 3)) := ((Ext.refl _ _).alloc hB4 _).alloc hB4 _
          have HLv5 : Hid (∀ W, Ext B ((w4.alloc (.cells #[.int .i64 t.k, .string x, .int .i64 t.v, .int .i64 t.a] 82)).alloc (.cells #[.int .i64 lv] 3)) W → W.cell? ⟨w4.heap.size + 1, 0, none⟩ = some (.int .i64 lv)) := fun W hW => by
            have hk : Blk ((w4.alloc (.cells #[.int .i64 t.k, .string x, .int .i64 t.v, .int .i64 t.a] 82)).alloc (.cells #[.int .i64 lv] 3)) (w4.heap.size + 1) 3 #[.int .i64 lv] := blk_at (by simp)
            exact (hW.blk hk (fun ho => not_own_ge HP4.out (by omega) ((own_alloc hB4 _ _).1 ((own_alloc (by simp; omega) _ _).1 ho)))).cell 0
          have HBx5 : Hid (∀ W, Ext B ((w4.alloc (.cells #[.int .i64 t.k, .string x, .int .i64 t.v, .int .i64 t.a] 82)).alloc (.cells #[.int .i64 lv] 3)) W → Blk W w4.heap.size 82 #[.int .i64 t.k, .string x, .int .i64 t.v, .int .i64 t.a]) := fun W hW => HBx4.out W (((Ext.refl _ _).alloc (by simp; omega) _).trans hW)
          have HX5 := Lib.hid (HX4.out.trans hE5)
          have HP5 := Lib.hid hp5
          have hB5 := hp5.lt
          clear hE5 hp5 HBx4 HX4
          generalize (w4.alloc (.cells #[.int .i64 t.k, .string x, .int .i64 t.v, .int .i64 t.a] 82)).alloc (.cells #[.int .i64 lv] 3) = W5 at *
          have S1 : Hid (∀ W, Ext B W5.drew W → W.cell? ⟨w4.heap.size + 1, 0, none⟩ = some (.int .i64 lv) ∧ W.cell? ⟨w4.heap.size, 1, none⟩ = some (.string x) ∧ W.cell? ⟨w4.heap.size, 3, none⟩ = some (.int .i64 t.a)) := fun W hW =>
            have h5 := (Ext.refl B W5).drew.trans hW
            ⟨HLv5.out W h5, (tok_box (HBx5.out W h5)).2.1, (tok_box (HBx5.out W h5)).2.2.2⟩
          have S0 := Lib.hid (S1.out _ (Ext.refl _ _))
          have lB5 : B < W5.drew.heap.size := hB5
          go_region_held3 (fun W => W.cell? ⟨w4.heap.size + 1, 0, none⟩ = some (.int .i64 lv) ∧ W.cell? ⟨w4.heap.size, 1, none⟩ = some (.string x) ∧ W.cell? ⟨w4.heap.size, 3, none⟩ = some (.int .i64 t.a))
            (first | exact S0.out | exact S1.out _ ((Ext.refl _ _).alloc lB5 _))
            (first | (go_at_call 107; refine (hpK _).mono ?_; rintro e w' ⟨rfl, rfl⟩))
          all_goals
            have hp6 := (HP5.out.alloc (.cells #[.int .i64 pk', .string x, .int .i64 0, .int .i64 0, .slice none 0 0, .int .i64 t.a] 36)).drew
            have hE6 : Ext B W5 (W5.alloc (.cells #[.int .i64 pk', .string x, .int .i64 0, .int .i64 0, .slice none 0 0, .int .i64 t.a] 36)).drew := ((Ext.refl _ _).alloc hB5 _).drew
            have HNd : Hid (∀ W, Ext B (W5.alloc (.cells #[.int .i64 pk', .string x, .int .i64 0, .int .i64 0, .slice none 0 0, .int .i64 t.a] 36)).drew W → Blk W W5.heap.size 36 #[.int .i64 pk', .string x, .int .i64 0, .int .i64 0, .slice none 0 0, .int .i64 t.a]) := fun W hW => by
              have hk : Blk (W5.alloc (.cells #[.int .i64 pk', .string x, .int .i64 0, .int .i64 0, .slice none 0 0, .int .i64 t.a] 36)).drew W5.heap.size 36 #[.int .i64 pk', .string x, .int .i64 0, .int .i64 0, .slice none 0 0, .int .i64 t.a] := heap_alloc_new W5 _
              exact hW.blk hk (fun ho => not_own_ge HP5.out (Nat.le_refl _) ((own_alloc hB5 _ _).1 ho))
            have HX6 := Lib.hid (HX5.out.trans hE6)
            have HP6 := Lib.hid hp6
            have HLv6 : Hid (∀ W, Ext B (W5.alloc (.cells #[.int .i64 pk', .string x, .int .i64 0, .int .i64 0, .slice none 0 0, .int .i64 t.a] 36)).drew W → W.cell? ⟨w4.heap.size + 1, 0, none⟩ = some (.int .i64 lv)) := fun W hW => HLv5.out W (hE6.trans hW)
            clear hp6 hE6 S0 S1 HLv5 HBx5 HX5 HP5
            generalize hg5 : W5.heap.size = g5 at *
            go_wp2
            generalize (W5.alloc (.cells #[.int .i64 pk', .string x, .int .i64 0, .int .i64 0, .slice none 0 0, .int .i64 t.a] 36)).drew = W6 at *
            clear hg5 lB5 hB5 W5
            have hne : extF mark (mk pk' t.t 0 t.a) [runJ E m (.pairs (lv + 1))] { s2 with L := s2.L.tail } ≠ .out := fun e => HR.out (by rw [HK3.out, e]; rfl)
            obtain ⟨r1, hr1⟩ : ∃ r1, r1 = extF mark (mk pk' t.t 0 t.a) [runJ E m (.pairs (lv + 1))] { s2 with L := s2.L.tail } := ⟨_, rfl⟩
            have N0 : Hid (Now B T E { s2 with L := s2.L.tail } W6.drew W6.drew) := Now.refl HP6.out.drew
            have HN : Hid (∀ W, Now B T E { s2 with L := s2.L.tail } W6.drew W → Calls Tryz.prog 60 #[.pointer (some ⟨B, 2, none⟩), .int .i64 mark, .agg #[.int .i64 pk', .string x, .int .i64 0, .int .i64 0, .slice none 0 0, .int .i64 t.a], .slice (some ⟨W.heap.size, 0, none⟩) 1 1] (W.alloc (.cells #[.func (.func 108) #[] #[.pointer (some ⟨w.heap.size, 0, none⟩), .pointer (some ⟨w4.heap.size + 1, 0, none⟩)]] 57)) (Ends B T E W6.drew r1)) := fun W hW => by
              have hst : StepV B T E W (.func (.func 108) #[] #[.pointer (some ⟨w.heap.size, 0, none⟩), .pointer (some ⟨w4.heap.size + 1, 0, none⟩)]) (runJ E m (.pairs (lv + 1))) := stepPair (HJ.out m (by omega)) hl11 fun W1 h1 =>
                have h6 := ((Ext.refl B W6).drew.trans hW.1).trans h1
                ⟨HGp.out W1 (HX6.out.trans h6), HLv6.out W1 h6⟩
              have h := extend_now hW [.func (.func 108) #[] #[.pointer (some ⟨w.heap.size, 0, none⟩), .pointer (some ⟨w4.heap.size + 1, 0, none⟩)]] [runJ E m (.pairs (lv + 1))] rfl (by simp) (step1 hst) (mk pk' t.t 0 t.a) rfl mark hne 57
              rw [← hr1] at h
              rw [Hxx.out]
              exact h
            have HK4 : Hid (r = r1.bind (runJ E m (.pairsL low mark))) := by have h := HK3.out; rw [← hr1] at h; exact h
            have HR1n : Hid (r1 ≠ .out) := by show r1 ≠ .out; rw [hr1]; exact hne
            clear hr1 hne HK3
            have S1 : Hid (∀ W, Ext B W6.drew W → W.cell? ⟨w.heap.size, 0, none⟩ = some (.pointer (some ⟨B, 0, none⟩)) ∧ W.cell? ⟨g5, 0, none⟩ = some (.int .i64 pk') ∧ W.cell? ⟨g5, 1, none⟩ = some (.string x) ∧ W.cell? ⟨g5, 2, none⟩ = some (.int .i64 0) ∧ W.cell? ⟨g5, 3, none⟩ = some (.int .i64 0) ∧ W.cell? ⟨g5, 4, none⟩ = some (.slice none 0 0) ∧ W.cell? ⟨g5, 5, none⟩ = some (.int .i64 t.a)) := fun W hW =>
              have h6 := (Ext.refl B W6).drew.trans hW
              ⟨HGp.out W (HX6.out.trans h6), (box6 (HNd.out W h6)).1⟩
            have S0 := Lib.hid (S1.out _ (Ext.refl _ _))
            clear HNd
            go_region_held3 (fun W => W.cell? ⟨w.heap.size, 0, none⟩ = some (.pointer (some ⟨B, 0, none⟩)) ∧ W.cell? ⟨g5, 0, none⟩ = some (.int .i64 pk') ∧ W.cell? ⟨g5, 1, none⟩ = some (.string x) ∧ W.cell? ⟨g5, 2, none⟩ = some (.int .i64 0) ∧ W.cell? ⟨g5, 3, none⟩ = some (.int .i64 0) ∧ W.cell? ⟨g5, 4, none⟩ = some (.slice none 0 0) ∧ W.cell? ⟨g5, 5, none⟩ = some (.int .i64 t.a))
              (first | exact S0.out | exact S1.out _ (N0.out.alloc _).1 | exact S1.out _ hx9)
              (first | (go_at_call 60; refine (HN.out _ N0.out).mono ?_; rintro e w9 ⟨v, rfl, hd, hx9⟩))
            all_goals
              have HX9 := Lib.hid (HX6.out.drew.trans hx9)
              have HD := Lib.hid hd
              clear hd hx9 S0 S1 HN N0
              cases r1 with
              | out => exact absurd rfl HR1n.out
              | bad c1 a1 =>
                obtain ⟨hv, _⟩ := HD.out
                obtain rfl : v = errV c1 a1 := Ending.returned.inj hv
                have HRb : Hid (r = .bad c1 a1) := HK4.out
                clear hv HD
                unfold errV
                go_wp2
                (try go_ret)
                rw [HQ.out, HRb.out]
                exact ⟨rfl, HE1.out.trans HX9.out⟩
              | ok s3 =>
                obtain ⟨hv, _, hp9⟩ := HD.out
                obtain rfl : v = .nilIface := Ending.returned.inj hv
                have HP9 := Lib.hid hp9
                have HK5 : Hid (r = runJ E m (.pairsL low mark) s3) := HK4.out
                clear hv HD hp9
                go_wp2
                go_roundg m
                case rel => exact ⟨_, by omega, HK5, HX9.out, HP9.out⟩
                case measure => omega
        · have HRo : Hid (r = .ok s2) := by have h := HK2.out; rw [if_neg hlt] at h; exact h
          have hll : levelT t.t < low := by omega
          clear hlt HK2
          generalize levelT t.t = lv at *
          go_wp2_with (first | (go_at_call 59; refine hpk.mono ?_; rintro e w3 ⟨rfl, hb3⟩) | (go_at_call 105; refine (hlv _).mono ?_; rintro e w' ⟨rfl, rfl⟩))
          have HX3 := Lib.hid (HXr.out.trans (Ext.below hb3 hBr))
          have HP3 := Lib.hid (HPr.out.below hb3)
          (try go_ret)
          rw [HQ.out, HRo.out]
          exact ⟨rfl, HE1.out.trans HX3.out, HP3.out⟩
end Go.Proofs.YtbjacclfhgnffaaGreatDoor
