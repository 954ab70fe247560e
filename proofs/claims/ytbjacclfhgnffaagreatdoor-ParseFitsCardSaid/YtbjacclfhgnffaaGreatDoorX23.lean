/-
  Joined texts of this claim: Ug, Uh, Uj.
-/
import Derived.Test.YtbjacclfhgnffaaGreatDoorX22
set_option linter.unusedVariables false
set_option linter.unusedSimpArgs false
/-
  Contracts of kind, named, declared.
-/
namespace Go.Proofs.YtbjacclfhgnffaaGreatDoor
open Go.RowKit
open Tk (T4 bstr)
open Tr (Nd Blk KidsAt)

/-- a new block that is none of the parser's own stays as it is -/
theorem new_blk {B T E : Nat} {w w' : World} {s : S3} (h : Ps B T E w s) (t : TypeId) (cs : Array Value) (hx : Ext B (w.alloc (.cells cs t)) w') : Blk w' w.heap.size t cs ∧ ¬ Own B w' w.heap.size := by
  have hno : ¬ Own B (w.alloc (.cells cs t)) w.heap.size := fun ho => not_own_new ⟨T, E, s, h⟩ ((own_alloc h.lt _ _).1 ho)
  exact ⟨hx.blk (heap_alloc_new w _) hno, hx.notOwn (by simp) hno⟩
theorem own_setCell {B : Nat} {W : World} {g o : Nat} (hn : ¬ Own B W g) (v : Value) (b : Nat) : Own B (W.setCell ⟨g, o, none⟩ v) b ↔ Own B W b := own_same (Below.heap_setCell _ _ _ _ (fun e : B = g => hn (Or.inl e.symm))) b
theorem Mv.set4 {B T E : Nat} {w W : World} {s s' : S3} (h : Mv B T E w s W s') (hp : Ps B T E w s) {g : Nat} (hg : w.heap.size ≤ g) (hn : ¬ Own B W g) (y0 y1 y2 y3 : Value) :
    Mv B T E w s ((((W.setCell ⟨g, 0, none⟩ y0).setCell ⟨g, 1, none⟩ y1).setCell ⟨g, 2, none⟩ y2).setCell ⟨g, 3, none⟩ y3) s' := by
  have h1 := h.set (o := 0) hp hg hn y0
  have n1 : ¬ Own B (W.setCell ⟨g, 0, none⟩ y0) g := fun ho => hn ((own_setCell hn _ _).1 ho)
  have h2 := h1.set (o := 1) hp hg n1 y1
  have n2 : ¬ Own B ((W.setCell ⟨g, 0, none⟩ y0).setCell ⟨g, 1, none⟩ y1) g := fun ho => n1 ((own_setCell n1 _ _).1 ho)
  have h3 := h2.set (o := 2) hp hg n2 y2
  have n3 : ¬ Own B (((W.setCell ⟨g, 0, none⟩ y0).setCell ⟨g, 1, none⟩ y1).setCell ⟨g, 2, none⟩ y2) g := fun ho => n2 ((own_setCell n2 _ _).1 ho)
  exact h3.set (o := 3) hp hg n3 y3
theorem Mv.set6 {B T E : Nat} {w W : World} {s s' : S3} (h : Mv B T E w s W s') (hp : Ps B T E w s) {g : Nat} (hg : w.heap.size ≤ g) (hn : ¬ Own B W g) (y0 y1 y2 y3 y4 y5 : Value) :
    Mv B T E w s ((((((W.setCell ⟨g, 0, none⟩ y0).setCell ⟨g, 1, none⟩ y1).setCell ⟨g, 2, none⟩ y2).setCell ⟨g, 3, none⟩ y3).setCell ⟨g, 4, none⟩ y4).setCell ⟨g, 5, none⟩ y5) s' := by
  have h4 := h.set4 hp hg hn y0 y1 y2 y3
  have n1 : ¬ Own B (W.setCell ⟨g, 0, none⟩ y0) g := fun ho => hn ((own_setCell hn _ _).1 ho)
  have n2 : ¬ Own B ((W.setCell ⟨g, 0, none⟩ y0).setCell ⟨g, 1, none⟩ y1) g := fun ho => n1 ((own_setCell n1 _ _).1 ho)
  have n3 : ¬ Own B (((W.setCell ⟨g, 0, none⟩ y0).setCell ⟨g, 1, none⟩ y1).setCell ⟨g, 2, none⟩ y2) g := fun ho => n2 ((own_setCell n2 _ _).1 ho)
  have n4 : ¬ Own B ((((W.setCell ⟨g, 0, none⟩ y0).setCell ⟨g, 1, none⟩ y1).setCell ⟨g, 2, none⟩ y2).setCell ⟨g, 3, none⟩ y3) g := fun ho => n3 ((own_setCell n3 _ _).1 ho)
  have h5 := h4.set (o := 4) hp hg n4 y4
  have n5 : ¬ Own B (((((W.setCell ⟨g, 0, none⟩ y0).setCell ⟨g, 1, none⟩ y1).setCell ⟨g, 2, none⟩ y2).setCell ⟨g, 3, none⟩ y3).setCell ⟨g, 4, none⟩ y4) g := fun ho => n4 ((own_setCell n4 _ _).1 ho)
  exact h5.set (o := 5) hp hg n5 y5

def noTok : Value := .agg #[.int .i64 0, .string ⟨#[]⟩, .int .i64 0, .int .i64 0]
set_option maxHeartbeats 4000000 in
set_option maxRecDepth 100000 in
theorem kind_no {B T E : Nat} {w : World} {s : S3} (h : Ps B T E w s) (k : Int) (hk : ((pk E s.L).k : Int) ≠ k) :
    Calls Tryz.prog 203 #[.pointer (some ⟨B, 0, none⟩), .int .i64 k] w fun e w' =>
      e = .returned (.tuple #[noTok, errV 1 (pk E s.L).a]) ∧ Mv B T E w s w' s := by
  have hM0 := Mv.alloc h (.cells #[.int .i64 0, .string ⟨#[]⟩, .int .i64 0, .int .i64 0] 82)
  have hp0 := h.alloc (.cells #[.int .i64 0, .string ⟨#[]⟩, .int .i64 0, .int .i64 0] 82)
  have hpk := peek_any hp0
  have HP0 := Lib.hid hp0
  have HM0 := Lib.hid hM0
  have H := Lib.hid h
  unfold tokV at hpk
  obtain ⟨t, ht⟩ : ∃ t, t = pk E s.L := ⟨_, rfl⟩
  have HT := Lib.hid ht
  rw [← ht] at hpk hk ⊢
  obtain ⟨x, hx⟩ : ∃ x, x = bstr t.t := ⟨_, rfl⟩
  rw [← hx] at hpk
  have hd : ((t.k : Int) == k) = false := by simpa using hk
  have hf := fldT0
  clear hx h hp0 hM0 ht
  go_enter Tryz.func203, Tryz.ntmps203
  go_wp2_with (go_at_call 59; refine hpk.mono ?_; rintro e w1 ⟨rfl, hb⟩)
  have hw := wrong_any (HP0.out.below hb)
  rw [← HT.out] at hw
  have HB := Lib.hid hb
  clear hpk hb
  go_wp2_with (go_at_call 64; refine hw.mono ?_)
  rintro e w2 ⟨rfl, hb2⟩
  have hM2 := HM0.out.trans ((Mv.below HP0.out HB.out).trans (Mv.below (HP0.out.below HB.out) hb2))
  obtain ⟨hk2, hn2⟩ := new_blk H.out 82 _ ((Mv.below HP0.out HB.out).trans (Mv.below (HP0.out.below HB.out) hb2)).ext
  obtain ⟨⟨d0, d1, d2, d3⟩, ⟨f0, f1, f2, f3⟩, l0⟩ := box4 hk2
  have HM2 := Lib.hid hM2
  have HN2 := Lib.hid hn2
  clear hw hb2 hM2 hn2 hk2
  unfold errV
  go_wp2
  refine bodyPost_ret (v := .tuple #[noTok, errV 1 t.a]) (by simp [results, Tryz.results203, go_sem, d0, d1, d2, d3, l0, errV, noTok]) rfl ?_
  exact ⟨rfl, HM2.out.set4 H.out (Nat.le_refl _) HN2.out _ _ _ _⟩
set_option maxHeartbeats 4000000 in
set_option maxRecDepth 100000 in
theorem kind_yes {B T E : Nat} {w : World} {s : S3} (h : Ps B T E w s) (k : Int) (hk : ((pk E s.L).k : Int) = k) :
    Calls Tryz.prog 203 #[.pointer (some ⟨B, 0, none⟩), .int .i64 k] w fun e w' =>
      e = .returned (.tuple #[tokV (pk E s.L), .nilIface]) ∧ Mv B T E w s w' { s with L := s.L.tail } := by
  have hM0 := Mv.alloc h (.cells #[.int .i64 0, .string ⟨#[]⟩, .int .i64 0, .int .i64 0] 82)
  have hp0 := h.alloc (.cells #[.int .i64 0, .string ⟨#[]⟩, .int .i64 0, .int .i64 0] 82)
  have hpk := peek_any hp0
  have HP0 := Lib.hid hp0
  have HM0 := Lib.hid hM0
  have H := Lib.hid h
  subst hk
  unfold tokV at hpk ⊢
  obtain ⟨t, ht⟩ : ∃ t, t = pk E s.L := ⟨_, rfl⟩
  have HT := Lib.hid ht
  rw [← ht] at hpk ⊢
  obtain ⟨x, hx⟩ : ∃ x, x = bstr t.t := ⟨_, rfl⟩
  have Hx := Lib.hid hx
  rw [← hx] at hpk ⊢
  have hf := fldT0
  clear hx h hp0 hM0 ht
  go_enter Tryz.func203, Tryz.ntmps203
  go_wp2_with (go_at_call 59; refine hpk.mono ?_; rintro e w1 ⟨rfl, hb⟩)
  have hw := take_any2 (HP0.out.below hb)
  unfold tokV at hw
  rw [← HT.out, ← Hx.out] at hw
  have HB := Lib.hid hb
  clear hpk hb
  go_wp2_with (go_at_call 106; refine hw.mono ?_)
  rintro e w2 ⟨rfl, hm2⟩
  have hM2 := HM0.out.trans ((Mv.below HP0.out HB.out).trans hm2)
  obtain ⟨hk2, hn2⟩ := new_blk H.out 82 _ ((Mv.below HP0.out HB.out).trans hm2).ext
  obtain ⟨⟨d0, d1, d2, d3⟩, ⟨f0, f1, f2, f3⟩, l0⟩ := box4 hk2
  have HM2 := Lib.hid hM2
  have HN2 := Lib.hid hn2
  clear hw hm2 hM2 hn2 hk2
  go_wp2
  refine bodyPost_ret (v := .tuple #[.agg #[.int .i64 t.k, .string x, .int .i64 t.v, .int .i64 t.a], .nilIface]) (by simp [results, Tryz.results203, go_sem, d0, d1, d2, d3, l0]) rfl ?_
  exact ⟨rfl, HM2.out.set4 H.out (Nat.le_refl _) HN2.out _ _ _ _⟩
end Go.Proofs.YtbjacclfhgnffaaGreatDoor
/-
  Contracts of took, word with what moves alone; named, declared.
-/
namespace Go.Proofs.YtbjacclfhgnffaaGreatDoor
open Go.RowKit
open Tk (T4 bstr)
open Tr (Nd Blk KidsAt)

set_option maxHeartbeats 2000000 in
set_option maxRecDepth 100000 in
theorem took_yes2 {B T E : Nat} {w : World} {s : S3} (h : Ps B T E w s) (x : ByteArray) {l : List UInt8} (hl : x.data.toList = l) (ht : (pk E s.L).t = l) :
    Calls Tryz.prog 111 #[.pointer (some ⟨B, 0, none⟩), .string x] w fun e w' => e = .returned (.bool true) ∧ Mv B T E w s w' { s with L := s.L.tail } := by
  have hs := sees_any h x
  have H := Lib.hid h
  clear h
  have hd : decide ((pk E s.L).t = x.data.toList) = true := decide_eq_true (by rw [hl]; exact ht)
  rw [hd] at hs
  clear ht hd hl
  go_enter Tryz.func111, Tryz.ntmps111
  go_wp2_with (go_at_call 161; refine hs.mono ?_; rintro e w1 ⟨rfl, hb⟩)
  have hk := take_any2 (H.out.below hb)
  have HB := Lib.hid hb
  clear hb hs
  go_wp2_with (go_at_call 106; refine hk.mono ?_)
  rintro e w2 ⟨rfl, hm⟩
  have HM := Lib.hid hm
  clear hm hk
  go_wp2
  go_ret
  exact ⟨rfl, (Mv.below H.out HB.out).trans HM.out⟩
theorem took_no2 {B T E : Nat} {w : World} {s : S3} (h : Ps B T E w s) (x : ByteArray) {l : List UInt8} (hl : x.data.toList = l) (ht : (pk E s.L).t ≠ l) :
    Calls Tryz.prog 111 #[.pointer (some ⟨B, 0, none⟩), .string x] w fun e w' => e = .returned (.bool false) ∧ Mv B T E w s w' s := by
  have hs := sees_any h x
  have H := Lib.hid h
  clear h
  have hd : decide ((pk E s.L).t = x.data.toList) = false := decide_eq_false (by rw [hl]; exact ht)
  rw [hd] at hs
  clear ht hd hl
  go_enter Tryz.func111, Tryz.ntmps111
  go_wp2_with (go_at_call 161; refine hs.mono ?_; rintro e w1 ⟨rfl, hb⟩)
  go_ret
  exact ⟨rfl, Mv.below H.out hb⟩
set_option maxHeartbeats 2000000 in
set_option maxRecDepth 100000 in
theorem word_yes2 {B T E : Nat} {w : World} {s : S3} (h : Ps B T E w s) (x : ByteArray) {l : List UInt8} (hl : x.data.toList = l) (ht : (pk E s.L).t = l) :
    Calls Tryz.prog 61 #[.pointer (some ⟨B, 0, none⟩), .string x] w fun e w' => ∃ g1 g2, e = .returned (.func (.func 110) #[] #[.pointer (some ⟨g1, 0, none⟩), .pointer (some ⟨g2, 0, none⟩)]) ∧
      Calls Tryz.prog 110 #[.pointer (some ⟨g1, 0, none⟩), .pointer (some ⟨g2, 0, none⟩)] w' fun e w2 => e = .returned .nilIface ∧ Mv B T E w s w2 { s with L := s.L.tail } := by
  refine (word_any x w).mono ?_
  intro e w' hh
  obtain ⟨he, hw⟩ := hh
  refine ⟨_, _, he, ?_⟩
  have hb : Below w.heap.size w w' := by rw [hw]; exact ((Below.refl _ _).alloc (Nat.le_refl _) _).alloc (by simp) _
  have h1 : w'.cell? ⟨w.heap.size, 0, none⟩ = some (.pointer (some ⟨B, 0, none⟩)) := by rw [hw]; exact ((Blk.new _ _ _).alloc _).cell 0
  have h2 : w'.cell? ⟨w.heap.size + 1, 0, none⟩ = some (.string x) := by
    rw [hw]
    have := (Blk.new (w.alloc (.cells #[.pointer (some ⟨B, 0, none⟩)] 84)) 9 #[.string x]).cell 0
    rwa [World.size_alloc] at this
  have hk := took_yes2 (h.below hb) x hl ht
  have HM := Lib.hid (Mv.below h hb)
  clear he hw hb h hl ht
  go_enter Tryz.func110, Tryz.ntmps110
  go_wp2_with (go_at_call 111; refine hk.mono ?_)
  rintro e w2 ⟨rfl, hm⟩
  have HM2 := Lib.hid (HM.out.trans hm)
  clear hm hk
  go_wp2
  (try go_ret)
  exact ⟨rfl, HM2.out⟩
set_option maxHeartbeats 2000000 in
set_option maxRecDepth 100000 in
theorem word_no2 {B T E : Nat} {w : World} {s : S3} (h : Ps B T E w s) (x : ByteArray) {l : List UInt8} (hl : x.data.toList = l) (ht : (pk E s.L).t ≠ l) :
    Calls Tryz.prog 61 #[.pointer (some ⟨B, 0, none⟩), .string x] w fun e w' => ∃ g1 g2, e = .returned (.func (.func 110) #[] #[.pointer (some ⟨g1, 0, none⟩), .pointer (some ⟨g2, 0, none⟩)]) ∧
      Calls Tryz.prog 110 #[.pointer (some ⟨g1, 0, none⟩), .pointer (some ⟨g2, 0, none⟩)] w' fun e w2 => e = .returned (errV 1 (pk E s.L).a) ∧ Mv B T E w s w2 s := by
  refine (word_any x w).mono ?_
  intro e w' hh
  obtain ⟨he, hw⟩ := hh
  refine ⟨_, _, he, ?_⟩
  have hb : Below w.heap.size w w' := by rw [hw]; exact ((Below.refl _ _).alloc (Nat.le_refl _) _).alloc (by simp) _
  have h1 : Blk w' w.heap.size 84 #[.pointer (some ⟨B, 0, none⟩)] := by rw [hw]; exact (Blk.new _ _ _).alloc _
  have h2 : w'.cell? ⟨w.heap.size + 1, 0, none⟩ = some (.string x) := by
    rw [hw]
    have := (Blk.new (w.alloc (.cells #[.pointer (some ⟨B, 0, none⟩)] 84)) 9 #[.string x]).cell 0
    rwa [World.size_alloc] at this
  have hn1 : ¬ Own B w' w.heap.size := fun ho => not_own_new ⟨T, E, s, h⟩ ((own_same (hb.block B h.lt) _).1 ho)
  have hk := took_no2 (h.below hb) x hl ht
  have HM := Lib.hid (Mv.below h hb)
  have HP := Lib.hid (h.below hb)
  have c1 := h1.cell 0
  have HN := Lib.hid hn1
  have H1 := Lib.hid h1
  clear he hw hb h hl ht hn1 h1
  go_enter Tryz.func110, Tryz.ntmps110
  go_wp2_with (go_at_call 111; refine hk.mono ?_)
  rintro e w2 ⟨rfl, hm⟩
  have HM2 := Lib.hid hm
  have c2 : w2.cell? ⟨w.heap.size, 0, none⟩ = some (.pointer (some ⟨B, 0, none⟩)) := (hm.ext.blk H1.out HN.out).cell 0
  have hw := wrong_any (hm.of HP.out)
  clear hm hk
  go_wp2_with (go_at_call 64; refine hw.mono ?_)
  rintro e w3 ⟨rfl, hb3⟩
  have HM3 := Lib.hid (HM.out.trans (HM2.out.trans (Mv.below (HM2.out.of HP.out) hb3)))
  clear hw hb3
  go_wp2
  (try go_ret)
  exact ⟨rfl, HM3.out⟩
theorem Mv.more {B T E : Nat} {w W : World} {s s' : S3} (h : Mv B T E w s W s') (hp : Ps B T E w s) (o : Obj) : Mv B T E w s (W.alloc o) s' := h.trans (Mv.alloc (h.of hp) o)
/-- what named and declared give -/
def DD (d : D3) (v v2 : Value) (s' : S3) : Prop := match d with
  | .ok s1 x => v = nodeV x ∧ v2 = .nilIface ∧ s' = s1 ∧ x.c = []
  | .bad c a => v2 = errV c a
  | .out => False
def DPost (B T E : Nat) (w : World) (s : S3) (d : D3) (e : Ending) (w' : World) : Prop :=
  ∃ (a0 : Int) (a1 : ByteArray) (a2 a3 a5 : Int) (v2 : Value) (s' : S3), e = .returned (.tuple #[.agg #[.int .i64 a0, .string a1, .int .i64 a2, .int .i64 a3, .slice none 0 0, .int .i64 a5], v2]) ∧
    Mv B T E w s w' s' ∧ DD d (.agg #[.int .i64 a0, .string a1, .int .i64 a2, .int .i64 a3, .slice none 0 0, .int .i64 a5]) v2 s'
def z36 : Obj := .cells #[.int .i64 0, .string ⟨#[]⟩, .int .i64 0, .int .i64 0, .slice none 0 0, .int .i64 0] 36
set_option maxHeartbeats 4000000 in
set_option maxRecDepth 100000 in
theorem named_any {B T E : Nat} {w : World} {s : S3} (h : Ps B T E w s) (typ : Int) :
    Calls Tryz.prog 168 #[.pointer (some ⟨B, 0, none⟩), .int .i64 typ] w (DPost B T E w s (namedF E typ s)) := by
  have hp0 := h.alloc z36
  have HM0 : Hid (Mv B T E w s (w.alloc z36) s) := Mv.alloc h _
  have H := Lib.hid h
  have HP0 := Lib.hid hp0
  obtain ⟨Q, hQ⟩ : ∃ Q : Ending → World → Prop, Q = DPost B T E w s (namedF E typ s) := ⟨_, rfl⟩
  rw [← hQ]
  have HQ := Lib.hid hQ
  clear hQ
  by_cases hk : (pk E s.L).k = 1
  · have hc := kind_yes hp0 1 (by rw [hk]; rfl)
    unfold tokV at hc
    obtain ⟨t, ht⟩ : ∃ t, t = pk E s.L := ⟨_, rfl⟩
    have HT := Lib.hid ht
    rw [← ht] at hc
    obtain ⟨x, hx⟩ : ∃ x, x = bstr t.t := ⟨_, rfl⟩
    have Hx := Lib.hid hx
    rw [← hx] at hc
    have Hk := Lib.hid hk
    clear hx ht h hp0 hk
    unfold z36 at hc
    go_enter Tryz.func168, Tryz.ntmps168
    go_wp2_with (go_at_call 203; refine hc.mono ?_)
    rintro e w2 ⟨rfl, hm2⟩
    obtain ⟨hk2, hn2⟩ := new_blk H.out 36 _ hm2.ext
    obtain ⟨d0, d1, d2, d3, d4, d5, f0, f1, f2, f3, f4, f5, l0⟩ := box6f hk2
    have HM2 := Lib.hid (HM0.out.trans hm2)
    have HN2 := Lib.hid hn2
    clear hc hm2 hn2 hk2
    go_wp2
    refine bodyPost_ret (v := .tuple #[.agg #[.int .i64 0, .string x, .int .i64 typ, .int .i64 0, .slice none 0 0, .int .i64 t.a], .nilIface]) (by simp [results, Tryz.results168, go_sem, d0, d1, d2, d3, d4, d5, l0]) rfl ?_
    rw [HQ.out]
    refine ⟨0, x, typ, 0, t.a, .nilIface, _, rfl, (HM2.out.set6 H.out (Nat.le_refl _) HN2.out _ _ _ _ _ _).more H.out _, ?_⟩
    unfold namedF
    rw [if_pos Hk.out, ← HT.out, Hx.out]
    exact ⟨rfl, rfl, rfl, rfl⟩
  · have hc := kind_no hp0 1 (by intro e; exact hk (by exact_mod_cast e))
    have Hk := Lib.hid hk
    unfold noTok errV at hc
    clear h hp0 hk
    unfold z36 at hc
    generalize hpa : (pk E s.L).a = pa at *
    have Hpa := Lib.hid hpa
    clear hpa
    go_enter Tryz.func168, Tryz.ntmps168
    go_wp2_with (go_at_call 203; refine hc.mono ?_)
    rintro e w2 ⟨rfl, hm2⟩
    obtain ⟨hk2, hn2⟩ := new_blk H.out 36 _ hm2.ext
    obtain ⟨d0, d1, d2, d3, d4, d5, f0, f1, f2, f3, f4, f5, l0⟩ := box6f hk2
    have HM2 := Lib.hid (HM0.out.trans hm2)
    have HN2 := Lib.hid hn2
    clear hc hm2 hn2 hk2
    go_wp2
    refine bodyPost_ret (v := .tuple #[.agg #[.int .i64 0, .string ⟨#[]⟩, .int .i64 0, .int .i64 0, .slice none 0 0, .int .i64 0], .iface 86 (.agg #[.int .i64 1, .int .i64 pa])]) (by simp [results, Tryz.results168, go_sem, d0, d1, d2, d3, d4, d5, l0]) rfl ?_
    rw [HQ.out]
    refine ⟨0, ⟨#[]⟩, 0, 0, 0, _, _, rfl, (HM2.out.set6 H.out (Nat.le_refl _) HN2.out _ _ _ _ _ _).more H.out _, ?_⟩
    unfold namedF
    rw [if_neg Hk.out, Hpa.out]
    rfl

theorem DPost.pre {B T E : Nat} {w w1 : World} {s s1 : S3} {d : D3} {e : Ending} {w' : World} (h : DPost B T E w1 s1 d e w') (hm : Mv B T E w s w1 s1) : DPost B T E w s d e w' := by
  obtain ⟨a0, a1, a2, a3, a5, v2, s', he, hM, hd⟩ := h
  exact ⟨a0, a1, a2, a3, a5, v2, s', he, hm.trans hM, hd⟩
set_option maxHeartbeats 8000000 in
set_option maxRecDepth 100000 in
theorem declared_any {B T E : Nat} {w : World} {s : S3} (h : Ps B T E w s) :
    Calls Tryz.prog 170 #[.pointer (some ⟨B, 0, none⟩)] w (DPost B T E w s (declF E s)) := by
  have hp0 := h.alloc z36
  have HM0 : Hid (Mv B T E w s (w.alloc z36) s) := Mv.alloc h _
  have H := Lib.hid h
  have HP0 := Lib.hid hp0
  obtain ⟨Q, hQ⟩ : ∃ Q : Ending → World → Prop, Q = DPost B T E w s (declF E s) := ⟨_, rfl⟩
  rw [← hQ]
  have HQ := Lib.hid hQ
  clear hQ
  by_cases ht : (pk E s.L).t = [105, 110, 116]
  · have hw := word_yes2 hp0 ⟨#[105, 110, 116]⟩ rfl ht
    have Ht := Lib.hid ht
    clear h hp0 ht
    unfold z36 at hw
    go_enter Tryz.func170, Tryz.ntmps170
    go_wp2_with (go_at_call 61; refine hw.mono ?_; rintro e w2 ⟨g1, g2, rfl, h77⟩)
    refine h77.mono ?_
    rintro e w3 ⟨rfl, hm3⟩
    have HM3 := Lib.hid (HM0.out.trans hm3)
    have HX3 := Lib.hid hm3.ext
    have HP3 := Lib.hid (hm3.of HP0.out)
    clear hm3 h77 hw
    by_cases hs : (pk E s.L.tail).t = [42]
    · have hk := took_yes2 HP3.out ⟨#[42]⟩ rfl hs
      have HD : Hid (declF E s = namedF E 2 { s with L := s.L.tail.tail }) := by
        show _ = _; unfold declF wordF; rw [if_pos Ht.out]; show (if _ then _ else _) = _; rw [if_pos hs]
      clear hs
      go_wp2_with (go_at_call 111; refine hk.mono ?_; rintro e w4 ⟨rfl, hm4⟩)
      have hnm := named_any (hm4.of HP3.out) 2
      have HM4 := Lib.hid (HM3.out.trans hm4)
      have HX4 := Lib.hid (HX3.out.trans hm4.ext)
      clear hk hm4
      go_wp2_with (go_at_call 168; refine hnm.mono ?_)
      rintro e w5 ⟨a0, a1, a2, a3, a5, v2, s', rfl, hM, hd⟩
      obtain ⟨hk2, hn2⟩ := new_blk H.out 36 _ (HX4.out.trans hM.ext)
      obtain ⟨d0, d1, d2, d3, d4, d5, f0, f1, f2, f3, f4, f5, l0⟩ := box6f hk2
      have HM5 := Lib.hid (HM4.out.trans hM)
      have HN2 := Lib.hid hn2
      have HDD := Lib.hid hd
      clear hnm hM hn2 hk2 hd
      go_wp2
      refine bodyPost_ret (v := .tuple #[.agg #[.int .i64 a0, .string a1, .int .i64 a2, .int .i64 a3, .slice none 0 0, .int .i64 a5], v2]) (by simp [results, Tryz.results170, go_sem, d0, d1, d2, d3, d4, d5, l0]) rfl ?_
      rw [HQ.out, HD.out]
      exact ⟨a0, a1, a2, a3, a5, v2, s', rfl, HM5.out.set6 H.out (Nat.le_refl _) HN2.out _ _ _ _ _ _, HDD.out⟩
    · have hk := took_no2 HP3.out ⟨#[42]⟩ rfl hs
      have HD : Hid (declF E s = namedF E 1 { s with L := s.L.tail }) := by
        show _ = _; unfold declF wordF; rw [if_pos Ht.out]; show (if _ then _ else _) = _; rw [if_neg hs]
      clear hs
      go_wp2_with (go_at_call 111; refine hk.mono ?_; rintro e w4 ⟨rfl, hm4⟩)
      have hnm := named_any (hm4.of HP3.out) 1
      have HM4 := Lib.hid (HM3.out.trans hm4)
      have HX4 := Lib.hid (HX3.out.trans hm4.ext)
      clear hk hm4
      go_wp2_with (go_at_call 168; refine hnm.mono ?_)
      rintro e w5 ⟨a0, a1, a2, a3, a5, v2, s', rfl, hM, hd⟩
      obtain ⟨hk2, hn2⟩ := new_blk H.out 36 _ (HX4.out.trans hM.ext)
      obtain ⟨d0, d1, d2, d3, d4, d5, f0, f1, f2, f3, f4, f5, l0⟩ := box6f hk2
      have HM5 := Lib.hid (HM4.out.trans hM)
      have HN2 := Lib.hid hn2
      have HDD := Lib.hid hd
      clear hnm hM hn2 hk2 hd
      go_wp2
      refine bodyPost_ret (v := .tuple #[.agg #[.int .i64 a0, .string a1, .int .i64 a2, .int .i64 a3, .slice none 0 0, .int .i64 a5], v2]) (by simp [results, Tryz.results170, go_sem, d0, d1, d2, d3, d4, d5, l0]) rfl ?_
      rw [HQ.out, HD.out]
      exact ⟨a0, a1, a2, a3, a5, v2, s', rfl, HM5.out.set6 H.out (Nat.le_refl _) HN2.out _ _ _ _ _ _, HDD.out⟩
  · have hw := word_no2 hp0 ⟨#[105, 110, 116]⟩ rfl ht
    have HD : Hid (declF E s = .bad 1 (pk E s.L).a) := by
      show _ = _; unfold declF wordF; rw [if_neg ht]; rfl
    generalize hpa : (pk E s.L).a = pa at *
    clear hpa h hp0 ht
    unfold z36 at hw
    unfold errV at hw
    go_enter Tryz.func170, Tryz.ntmps170
    go_wp2_with (go_at_call 61; refine hw.mono ?_; rintro e w2 ⟨g1, g2, rfl, h77⟩)
    refine h77.mono ?_
    rintro e w3 ⟨rfl, hm3⟩
    obtain ⟨hk2, hn2⟩ := new_blk H.out 36 _ hm3.ext
    obtain ⟨d0, d1, d2, d3, d4, d5, f0, f1, f2, f3, f4, f5, l0⟩ := box6f hk2
    have HM5 := Lib.hid (HM0.out.trans hm3)
    have HN2 := Lib.hid hn2
    clear hm3 h77 hw hn2 hk2
    go_wp2
    refine bodyPost_ret (v := .tuple #[.agg #[.int .i64 0, .string ⟨#[]⟩, .int .i64 0, .int .i64 0, .slice none 0 0, .int .i64 0], .iface 86 (.agg #[.int .i64 1, .int .i64 pa])]) (by simp [results, Tryz.results170, go_sem, d0, d1, d2, d3, d4, d5, l0]) rfl ?_
    rw [HQ.out, HD.out]
    exact ⟨0, ⟨#[]⟩, 0, 0, 0, _, _, rfl, HM5.out.set6 H.out (Nat.le_refl _) HN2.out _ _ _ _ _ _, rfl⟩
end Go.Proofs.YtbjacclfhgnffaaGreatDoor
/-
  Contracts of block, body, start.
-/
namespace Go.Proofs.YtbjacclfhgnffaaGreatDoor
open Go.RowKit
open Tk (T4 bstr)
open Tr (Nd Blk KidsAt)

/-- block, body, as the program has them -/
def blockF (E : Nat) (fam : Nat → F3) (n : Nat) : F3 := fun s => buildF (mk 11 [] 0 (pk E s.L).a) [bracedF E fam n] s
def bodyF (E : Nat) (bl ac : F3) : F3 := fun s => if (pk E s.L).t = [123] then bl s else buildF (mk 11 [] 0 (pk E s.L).a) [ac] s
theorem unless_call {B T E : Nat} {s : S3} {W0 W : World} (h : Now B T E s W0 W) (x : ByteArray) {en : List UInt8} (he : x.data.toList = en) (f : F3) (id : FuncId) (hen : Ent id) (hit : FnC B T E id f) (hno : FnC B T E 246 (nothingF E)) (hr : unlessF E en f s ≠ .out) :
    Calls Tryz.prog 265 #[.pointer (some ⟨B, 0, none⟩), .string x, .func (.func id) #[.pointer (some ⟨B, 0, none⟩)] #[]] W fun e w' => ∃ g1 g2 g3, e = .returned (.func (.func 277) #[] #[.pointer (some ⟨g1, 0, none⟩), .pointer (some ⟨g2, 0, none⟩), .pointer (some ⟨g3, 0, none⟩)]) ∧
      Ext B W0 w' ∧ Calls Tryz.prog 277 #[.pointer (some ⟨g1, 0, none⟩), .pointer (some ⟨g2, 0, none⟩), .pointer (some ⟨g3, 0, none⟩)] w' (Ends B T E W0 (unlessF E en f s)) := by
  refine (unless_now h x he f id hen hit hno).mono fun e w' ⟨g1, g2, g3, he, hn, hx, id, b, c, hv, _, hs⟩ => ⟨g1, g2, g3, he, hn.1, ?_⟩
  cases hv
  have := hs w' s (Ext.refl _ _) hn.2 hr
  have e1 : (#[] ++ #[Value.pointer (some ⟨g1, 0, none⟩), Value.pointer (some ⟨g2, 0, none⟩), Value.pointer (some ⟨g3, 0, none⟩)] : Array Value) = #[Value.pointer (some ⟨g1, 0, none⟩), Value.pointer (some ⟨g2, 0, none⟩), Value.pointer (some ⟨g3, 0, none⟩)] := rfl
  rw [e1] at this
  exact this.mono fun e w' hd => ends_of hd hr hn.1

set_option maxHeartbeats 16000000 in
set_option maxRecDepth 100000 in
theorem block_fn {B T E : Nat} {n : Nat} {fam : Nat → F3} (hit : ∀ m, m < n → FnC B T E 233 (fam m)) : FnC B T E 206 (blockF E fam n) := fun w s h hr => by
  obtain ⟨r, hrr⟩ : ∃ r, r = blockF E fam n s := ⟨_, rfl⟩
  rw [← hrr] at hr ⊢
  obtain ⟨Q, hQ⟩ : ∃ Q : Ending → World → Prop, Q = Did B T E w r := ⟨_, rfl⟩
  rw [← hQ]
  have HQ := Lib.hid hQ
  have HR := Lib.hid hr
  have hB := h.lt
  clear hQ hr
  obtain ⟨t, ht⟩ : ∃ t, t = pk E s.L := ⟨_, rfl⟩
  obtain ⟨x, hx⟩ : ∃ x, x = bstr t.t := ⟨_, rfl⟩
  have hpk : ∀ W, Now B T E s w.drew W → Calls Tryz.prog 59 #[.pointer (some ⟨B, 0, none⟩)] W fun e w' => e = .returned (.agg #[.int .i64 t.k, .string x, .int .i64 t.v, .int .i64 t.a]) ∧ Now B T E s w.drew w' ∧ Ext B W w' := fun W hW => by
    have h := peek_now hW
    rw [← ht, ← hx] at h
    exact h
  change r = buildF (mk 11 [] 0 (pk E s.L).a) [bracedF E fam n] s at hrr
  rw [← ht] at hrr
  have Hrr := Lib.hid hrr
  have HX0 : Hid (Ext B w w.drew) := (Ext.refl _ _).drew
  have N0 : Hid (Now B T E s w.drew w.drew) := Now.refl h.drew
  have hf := fldT3
  clear hrr ht hx h
  go_enter Tryz.func206, Tryz.ntmps206
  go_wp2
  have HW0 : Hid (∀ W, Now B T E s w.drew W → Calls Tryz.prog 59 #[.pointer (some ⟨B, 0, none⟩)] W fun e w' => e = .returned (.agg #[.int .i64 t.k, .string x, .int .i64 t.v, .int .i64 t.a]) ∧ Now B T E s w.drew w' ∧ Ext B W w') := hpk
  have HW1 : Hid (∀ W, Now B T E s w.drew W → Calls Tryz.prog 232 #[.pointer (some ⟨B, 0, none⟩), .func (.func 233) #[.pointer (some ⟨B, 0, none⟩)] #[]] W fun e w' => ∃ g1 g2, e = .returned (.func (.func 242) #[] #[.pointer (some ⟨g1, 0, none⟩), .pointer (some ⟨g2, 0, none⟩)]) ∧ Now B T E s w.drew w' ∧ Ext B W w' ∧ StepV B T E w' (.func (.func 242) #[] #[.pointer (some ⟨g1, 0, none⟩), .pointer (some ⟨g2, 0, none⟩)]) (bracedF E fam n)) := fun W hW => braced_now hW fam 233 ent165 hit
  have HN : Hid (∀ W v0, Now B T E s w.drew W → StepV B T E W v0 (bracedF E fam n) → Calls Tryz.prog 76 #[.pointer (some ⟨B, 2, none⟩), .agg #[.int .i64 11, .string ⟨#[]⟩, .int .i64 0, .int .i64 0, .slice none 0 0, .int .i64 t.a], .slice (some ⟨W.heap.size, 0, none⟩) 1 1] (W.alloc (.cells #[v0] 57)) (Ends B T E w.drew r)) := fun W v0 hW h0 => by
      have h := build_now hW [v0] [bracedF E fam n] rfl (by simp) (step1 (h0)) (mk 11 [] 0 t.a) rfl (by rw [← Hrr.out]; exact HR.out) 57
      rw [← Hrr.out] at h
      exact h
  go_region_held3 (fun W => True)
    (first | exact trivial)
    (first | (go_at_call 59; first | ((with_reducible refine (HW0.out _ N0.out).mono ?_); rintro e w0_ ⟨rfl, hn0, hx0⟩)) | (go_at_call 232; first | ((with_reducible refine (HW1.out _ hn0).mono ?_); rintro e w1_ ⟨q10, q11, rfl, hn1, hx1, hs1⟩)) | (go_at_call 76; refine (HN.out _ _ hn1 hs1).mono ?_; rintro e w9 ⟨v, rfl, hd, hx9⟩))
  all_goals
    have HD := Lib.hid (did_ext hd HX0.out)
    clear hd hx9
    go_wp2
    (try go_ret)
    rw [HQ.out]
    exact HD.out

set_option maxHeartbeats 16000000 in
set_option maxRecDepth 100000 in
theorem body_fn {B T E : Nat} {bl ac : F3} (hbl : FnC B T E 206 bl) (hac : FnC B T E 233 ac) : FnC B T E 262 (bodyF E bl ac) := fun w s h hr => by
  obtain ⟨r, hrr⟩ : ∃ r, r = bodyF E bl ac s := ⟨_, rfl⟩
  rw [← hrr] at hr ⊢
  obtain ⟨Q, hQ⟩ : ∃ Q : Ending → World → Prop, Q = Did B T E w r := ⟨_, rfl⟩
  rw [← hQ]
  have HQ := Lib.hid hQ
  have HR := Lib.hid hr
  have hB := h.lt
  clear hQ hr
  have Hrr : Hid (r = if (pk E s.L).t = [123] then bl s else buildF (mk 11 [] 0 (pk E s.L).a) [ac] s) := hrr
  have Hh := Lib.hid h
  clear hrr
  by_cases ht : (pk E s.L).t = [123]
  · have htk := sees_yes Hh.out ⟨#[123]⟩ rfl ht
    have HR2 : Hid (r = bl s) := by have h := Hrr.out; rw [if_pos ht] at h; exact h
    clear ht h
    go_enter Tryz.func262, Tryz.ntmps262
    go_wp2_with (go_at_call 161; refine htk.mono ?_; rintro e w1 ⟨rfl, hx1, hp1⟩)
    have hcall := hbl w1 _ hp1 (by rw [← HR2.out]; exact HR.out)
    rw [← HR2.out] at hcall
    have HX1 := Lib.hid hx1
    clear hx1 hp1 htk
    refine hcall.mono ?_
    intro e w2 hd
    obtain ⟨v, rfl, hd⟩ := did_ret hd HR.out
    have HD := Lib.hid (did_ext hd HX1.out)
    clear hd hcall
    go_wp2
    (try go_ret)
    rw [HQ.out]
    exact HD.out
  · have htk := sees_no Hh.out ⟨#[123]⟩ rfl ht
    have hr2 : r = buildF (mk 11 [] 0 (pk E s.L).a) [ac] s := by have h := Hrr.out; rw [if_neg ht] at h; exact h
    clear ht h Hrr
    go_enter Tryz.func262, Tryz.ntmps262
    go_wp2_with (go_at_call 161; refine htk.mono ?_; rintro e w1 ⟨rfl, hx1, hp1⟩)
    obtain ⟨t, ht⟩ : ∃ t, t = pk E s.L := ⟨_, rfl⟩
    obtain ⟨x, hx⟩ : ∃ x, x = bstr t.t := ⟨_, rfl⟩
    have hpk : ∀ W, Now B T E s w1.drew W → Calls Tryz.prog 59 #[.pointer (some ⟨B, 0, none⟩)] W fun e w' => e = .returned (.agg #[.int .i64 t.k, .string x, .int .i64 t.v, .int .i64 t.a]) ∧ Now B T E s w1.drew w' ∧ Ext B W w' := fun W hW => by
      have h := peek_now hW
      rw [← ht, ← hx] at h
      exact h
    rw [← ht] at hr2
    have Hrr := Lib.hid hr2
    have HX0 : Hid (Ext B w w1.drew) := hx1.drew
    have N0 : Hid (Now B T E s w1.drew w1.drew) := Now.refl hp1.drew
    have hf := fldT3
    clear hr2 ht hx htk hx1 hp1
    go_wp2
    have HW0 : Hid (∀ W, Now B T E s w1.drew W → Calls Tryz.prog 59 #[.pointer (some ⟨B, 0, none⟩)] W fun e w' => e = .returned (.agg #[.int .i64 t.k, .string x, .int .i64 t.v, .int .i64 t.a]) ∧ Now B T E s w1.drew w' ∧ Ext B W w') := hpk
    have HN : Hid (∀ W, Now B T E s w1.drew W → Calls Tryz.prog 76 #[.pointer (some ⟨B, 2, none⟩), .agg #[.int .i64 11, .string ⟨#[]⟩, .int .i64 0, .int .i64 0, .slice none 0 0, .int .i64 t.a], .slice (some ⟨W.heap.size, 0, none⟩) 1 1] (W.alloc (.cells #[.func (.func 233) #[.pointer (some ⟨B, 0, none⟩)] #[]] 57)) (Ends B T E w1.drew r)) := fun W hW => by
        have h := build_now hW [.func (.func 233) #[.pointer (some ⟨B, 0, none⟩)] #[]] [ac] rfl (by simp) (step1 (stepFn hac ent165 W)) (mk 11 [] 0 t.a) rfl (by rw [← Hrr.out]; exact HR.out) 57
        rw [← Hrr.out] at h
        exact h
    have HE : Hid (∀ W W1, Now B T E s w1.drew W → Now B T E s w1.drew W1 → Ext B (W.alloc (.cells #[.func (.func 233) #[.pointer (some ⟨B, 0, none⟩)] #[]] 57)) W1 → Calls Tryz.prog 76 #[.pointer (some ⟨B, 2, none⟩), .agg #[.int .i64 11, .string ⟨#[]⟩, .int .i64 0, .int .i64 0, .slice none 0 0, .int .i64 t.a], .slice (some ⟨W.heap.size, 0, none⟩) 1 1] W1 (Ends B T E w1.drew r)) := fun W W1 hW hW1 hx => by
        have h := (build_any (cap := 1) hW1.2 ((steps_new hW [.func (.func 233) #[.pointer (some ⟨B, 0, none⟩)] #[]] [ac] rfl (by simp) (step1 (stepFn hac ent165 W)) 57).ext hx) (mk 11 [] 0 t.a) rfl (by rw [← Hrr.out]; exact HR.out)).mono fun e w9 hd => ends_of hd (by rw [← Hrr.out]; exact HR.out) hW1.1
        rw [← Hrr.out] at h
        exact h
    go_region_held3 (fun W => True)
      (first | exact trivial)
      (first | (go_at_call 59; first | ((with_reducible refine (HW0.out _ N0.out).mono ?_); rintro e w0_ ⟨rfl, hn0, hx0⟩) | (refine (HW0.out _ (N0.out.alloc _)).mono ?_; rintro e w0_ ⟨rfl, hn0, hx0⟩)) | (go_at_call 76; first | ((with_reducible refine (HN.out _ hn0).mono ?_); rintro e w9 ⟨v, rfl, hd, hx9⟩) | (refine (HE.out _ _ N0.out hn0 hx0).mono ?_; rintro e w9 ⟨v, rfl, hd, hx9⟩)))
    all_goals
      have HD := Lib.hid (did_ext hd HX0.out)
      clear hd hx9
      go_wp2
      (try go_ret)
      rw [HQ.out]
      exact HD.out

set_option maxHeartbeats 16000000 in
set_option maxRecDepth 100000 in
theorem start_fn {B T E : Nat} {ex : F3} (hlo : FnC B T E 243 (localF E ex)) (hef : FnC B T E 247 (effectF E ex)) (hno : FnC B T E 246 (nothingF E)) : FnC B T E 264 (startF E ex) := fun w s h hr => by
  obtain ⟨r, hrr⟩ : ∃ r, r = startF E ex s := ⟨_, rfl⟩
  rw [← hrr] at hr ⊢
  obtain ⟨Q, hQ⟩ : ∃ Q : Ending → World → Prop, Q = Did B T E w r := ⟨_, rfl⟩
  rw [← hQ]
  have HQ := Lib.hid hQ
  have HR := Lib.hid hr
  have hB := h.lt
  clear hQ hr
  have Hrr : Hid (r = if (pk E s.L).t = [105, 110, 116] then localF E ex s else unlessF E [59] (effectF E ex) s) := hrr
  have Hh := Lib.hid h
  clear hrr
  by_cases ht : (pk E s.L).t = [105, 110, 116]
  · have htk := sees_yes Hh.out ⟨#[105, 110, 116]⟩ rfl ht
    have HR2 : Hid (r = localF E ex s) := by have h := Hrr.out; rw [if_pos ht] at h; exact h
    clear ht h
    go_enter Tryz.func264, Tryz.ntmps264
    go_wp2_with (go_at_call 161; refine htk.mono ?_; rintro e w1 ⟨rfl, hx1, hp1⟩)
    have hcall := hlo w1 _ hp1 (by rw [← HR2.out]; exact HR.out)
    rw [← HR2.out] at hcall
    have HX1 := Lib.hid hx1
    clear hx1 hp1 htk
    refine hcall.mono ?_
    intro e w2 hd
    obtain ⟨v, rfl, hd⟩ := did_ret hd HR.out
    have HD := Lib.hid (did_ext hd HX1.out)
    clear hd hcall
    go_wp2
    (try go_ret)
    rw [HQ.out]
    exact HD.out
  · have htk := sees_no Hh.out ⟨#[105, 110, 116]⟩ rfl ht
    have HR2 : Hid (r = unlessF E [59] (effectF E ex) s) := by have h := Hrr.out; rw [if_neg ht] at h; exact h
    clear ht h Hrr
    have HEf := Lib.hid hef
    have HNo := Lib.hid hno
    clear hef hno
    go_enter Tryz.func264, Tryz.ntmps264
    go_wp2_with (go_at_call 161; refine htk.mono ?_; rintro e w1 ⟨rfl, hx1, hp1⟩)
    have hun := unless_call (Now.refl hp1) ⟨#[59]⟩ rfl (effectF E ex) 247 ent178 HEf.out HNo.out (by rw [← HR2.out]; exact HR.out)
    rw [← HR2.out] at hun
    have HX1 := Lib.hid hx1
    clear hx1 hp1 htk
    go_wp2_with (go_at_call 265; refine hun.mono ?_; rintro e w5 ⟨g1, g2, g3, rfl, hx5, h200⟩)
    refine h200.mono ?_
    rintro e w6 ⟨v, rfl, hd, hx6⟩
    have HD := Lib.hid (did_ext hd HX1.out)
    clear hx6 hd h200 hx5 hun
    go_wp2
    (try go_ret)
    rw [HQ.out]
    exact HD.out

end Go.Proofs.YtbjacclfhgnffaaGreatDoor
