/-
  Joined texts of this claim: Uh, Uj, Un, Ui, Uo.
-/
import Derived.Test.YtmghjfphlneblaaGreatDoorW00
import Derived.Test.YtmghjfphlneblaaGreatDoorW18
set_option maxHeartbeats 40000000
set_option maxRecDepth 100000
set_option linter.unusedVariables false
set_option linter.unusedSimpArgs false
namespace Go.Proofs.YtmghjfphlneblaaGreatDoor
section
open Go.RowKit
open Tk (T4 bstr)
open Tr (Nd Blk KidsAt)

set_option maxHeartbeats 2000000 in
set_option maxRecDepth 100000 in
theorem took_yes2 {B T E : Nat} {w : World} {s : S3} (h : Ps B T E w s) (x : ByteArray) {l : List UInt8} (hl : x.data.toList = l) (ht : (pk E s.L).t = l) :
    Calls Tryz.prog 133 #[.pointer (some ⟨B, 0, none⟩), .string x] w fun e w' => e = .returned (.bool true) ∧ Mv B T E w s w' { s with L := s.L.tail } := by
  have hs := sees_any h x
  have H := Lib.hid h
  clear h
  have hd : decide ((pk E s.L).t = x.data.toList) = true := decide_eq_true (by rw [hl]; exact ht)
  rw [hd] at hs
  clear ht hd hl
  go_enter Tryz.func133, Tryz.ntmps133
  go_wp2_with (go_at_call 164; refine hs.mono ?_; rintro e w1 ⟨rfl, hb⟩)
  have hk := take_any2 (H.out.below hb)
  have HB := Lib.hid hb
  clear hb hs
  go_wp2_with (go_at_call 128; refine hk.mono ?_)
  rintro e w2 ⟨rfl, hm⟩
  have HM := Lib.hid hm
  clear hm hk
  go_wp2
  go_ret
  exact ⟨rfl, (Mv.below H.out HB.out).trans HM.out⟩
theorem took_no2 {B T E : Nat} {w : World} {s : S3} (h : Ps B T E w s) (x : ByteArray) {l : List UInt8} (hl : x.data.toList = l) (ht : (pk E s.L).t ≠ l) :
    Calls Tryz.prog 133 #[.pointer (some ⟨B, 0, none⟩), .string x] w fun e w' => e = .returned (.bool false) ∧ Mv B T E w s w' s := by
  have hs := sees_any h x
  have H := Lib.hid h
  clear h
  have hd : decide ((pk E s.L).t = x.data.toList) = false := decide_eq_false (by rw [hl]; exact ht)
  rw [hd] at hs
  clear ht hd hl
  go_enter Tryz.func133, Tryz.ntmps133
  go_wp2_with (go_at_call 164; refine hs.mono ?_; rintro e w1 ⟨rfl, hb⟩)
  go_ret
  exact ⟨rfl, Mv.below H.out hb⟩
set_option maxHeartbeats 2000000 in
set_option maxRecDepth 100000 in
theorem word_yes2 {B T E : Nat} {w : World} {s : S3} (h : Ps B T E w s) (x : ByteArray) {l : List UInt8} (hl : x.data.toList = l) (ht : (pk E s.L).t = l) :
    Calls Tryz.prog 76 #[.pointer (some ⟨B, 0, none⟩), .string x] w fun e w' => ∃ g1 g2, e = .returned (.func (.func 132) #[] #[.pointer (some ⟨g1, 0, none⟩), .pointer (some ⟨g2, 0, none⟩)]) ∧
      Calls Tryz.prog 132 #[.pointer (some ⟨g1, 0, none⟩), .pointer (some ⟨g2, 0, none⟩)] w' fun e w2 => e = .returned .nilIface ∧ Mv B T E w s w2 { s with L := s.L.tail } := by
  refine (word_any x w).mono ?_
  intro e w' hh
  obtain ⟨he, hw⟩ := hh
  refine ⟨_, _, he, ?_⟩
  have hb : Below w.heap.size w w' := by rw [hw]; exact ((Below.refl _ _).alloc (Nat.le_refl _) _).alloc (by simp) _
  have h1 : w'.cell? ⟨w.heap.size, 0, none⟩ = some (.pointer (some ⟨B, 0, none⟩)) := by rw [hw]; exact ((Blk.new _ _ _).alloc _).cell 0
  have h2 : w'.cell? ⟨w.heap.size + 1, 0, none⟩ = some (.string x) := by
    rw [hw]
    have := (Blk.new (w.alloc (.cells #[.pointer (some ⟨B, 0, none⟩)] 98)) 9 #[.string x]).cell 0
    rwa [World.size_alloc] at this
  have hk := took_yes2 (h.below hb) x hl ht
  have HM := Lib.hid (Mv.below h hb)
  clear he hw hb h hl ht
  go_enter Tryz.func132, Tryz.ntmps132
  go_wp2_with (go_at_call 133; refine hk.mono ?_)
  rintro e w2 ⟨rfl, hm⟩
  have HM2 := Lib.hid (HM.out.trans hm)
  clear hm hk
  go_wp2
  (try go_ret)
  exact ⟨rfl, HM2.out⟩
set_option maxHeartbeats 2000000 in
set_option maxRecDepth 100000 in
theorem word_no2 {B T E : Nat} {w : World} {s : S3} (h : Ps B T E w s) (x : ByteArray) {l : List UInt8} (hl : x.data.toList = l) (ht : (pk E s.L).t ≠ l) :
    Calls Tryz.prog 76 #[.pointer (some ⟨B, 0, none⟩), .string x] w fun e w' => ∃ g1 g2, e = .returned (.func (.func 132) #[] #[.pointer (some ⟨g1, 0, none⟩), .pointer (some ⟨g2, 0, none⟩)]) ∧
      Calls Tryz.prog 132 #[.pointer (some ⟨g1, 0, none⟩), .pointer (some ⟨g2, 0, none⟩)] w' fun e w2 => e = .returned (errV 1 (pk E s.L).a) ∧ Mv B T E w s w2 s := by
  refine (word_any x w).mono ?_
  intro e w' hh
  obtain ⟨he, hw⟩ := hh
  refine ⟨_, _, he, ?_⟩
  have hb : Below w.heap.size w w' := by rw [hw]; exact ((Below.refl _ _).alloc (Nat.le_refl _) _).alloc (by simp) _
  have h1 : Blk w' w.heap.size 98 #[.pointer (some ⟨B, 0, none⟩)] := by rw [hw]; exact (Blk.new _ _ _).alloc _
  have h2 : w'.cell? ⟨w.heap.size + 1, 0, none⟩ = some (.string x) := by
    rw [hw]
    have := (Blk.new (w.alloc (.cells #[.pointer (some ⟨B, 0, none⟩)] 98)) 9 #[.string x]).cell 0
    rwa [World.size_alloc] at this
  have hn1 : ¬ Own B w' w.heap.size := fun ho => not_own_new ⟨T, E, s, h⟩ ((own_same (hb.block B h.lt) _).1 ho)
  have hk := took_no2 (h.below hb) x hl ht
  have HM := Lib.hid (Mv.below h hb)
  have HP := Lib.hid (h.below hb)
  have c1 := h1.cell 0
  have HN := Lib.hid hn1
  have H1 := Lib.hid h1
  clear he hw hb h hl ht hn1 h1
  go_enter Tryz.func132, Tryz.ntmps132
  go_wp2_with (go_at_call 133; refine hk.mono ?_)
  rintro e w2 ⟨rfl, hm⟩
  have HM2 := Lib.hid hm
  have c2 : w2.cell? ⟨w.heap.size, 0, none⟩ = some (.pointer (some ⟨B, 0, none⟩)) := (hm.ext.blk H1.out HN.out).cell 0
  have hw := wrong_any (hm.of HP.out)
  clear hm hk
  go_wp2_with (go_at_call 79; refine hw.mono ?_)
  rintro e w3 ⟨rfl, hb3⟩
  have HM3 := Lib.hid (HM.out.trans (HM2.out.trans (Mv.below (HM2.out.of HP.out) hb3)))
  clear hw hb3
  go_wp2
  (try go_ret)
  exact ⟨rfl, HM3.out⟩
theorem Mv.more {B T E : Nat} {w W : World} {s s' : S3} (h : Mv B T E w s W s') (hp : Ps B T E w s) (o : Obj) : Mv B T E w s (W.alloc o) s' := h.trans (Mv.alloc (h.of hp) o)
/-- what named and declared give -/
def DD (d : D3) (v v2 : Value) (s' : S3) : Prop := match d with
  | .ok s1 x => v = nodeV x ∧ v2 = .nilIface ∧ s' = s1 ∧ x.c = []
  | .bad c a => v2 = errV c a
  | .out => False
def DPost (B T E : Nat) (w : World) (s : S3) (d : D3) (e : Ending) (w' : World) : Prop :=
  ∃ (a0 : Int) (a1 : ByteArray) (a2 a3 a5 : Int) (v2 : Value) (s' : S3), e = .returned (.tuple #[.agg #[.int .i64 a0, .string a1, .int .i64 a2, .int .i64 a3, .slice none 0 0, .int .i64 a5], v2]) ∧
    Mv B T E w s w' s' ∧ DD d (.agg #[.int .i64 a0, .string a1, .int .i64 a2, .int .i64 a3, .slice none 0 0, .int .i64 a5]) v2 s'
def z36 : Obj := .cells #[.int .i64 0, .string ⟨#[]⟩, .int .i64 0, .int .i64 0, .slice none 0 0, .int .i64 0] 34
set_option maxHeartbeats 4000000 in
set_option maxRecDepth 100000 in
theorem named_any {B T E : Nat} {w : World} {s : S3} (h : Ps B T E w s) (typ : Int) :
    Calls Tryz.prog 161 #[.pointer (some ⟨B, 0, none⟩), .int .i64 typ] w (DPost B T E w s (namedF E typ s)) := by
  have hp0 := h.alloc z36
  have HM0 : Hid (Mv B T E w s (w.alloc z36) s) := Mv.alloc h _
  have H := Lib.hid h
  have HP0 := Lib.hid hp0
  obtain ⟨Q, hQ⟩ : ∃ Q : Ending → World → Prop, Q = DPost B T E w s (namedF E typ s) := ⟨_, rfl⟩
  rw [← hQ]
  have HQ := Lib.hid hQ
  clear hQ
  by_cases hk : (pk E s.L).k = 1
  · have hc := kind_yes hp0 1 (by rw [hk]; rfl)
    unfold tokV at hc
    obtain ⟨t, ht⟩ : ∃ t, t = pk E s.L := ⟨_, rfl⟩
    have HT := Lib.hid ht
    rw [← ht] at hc
    obtain ⟨x, hx⟩ : ∃ x, x = bstr t.t := ⟨_, rfl⟩
    have Hx := Lib.hid hx
    rw [← hx] at hc
    have Hk := Lib.hid hk
    clear hx ht h hp0 hk
    unfold z36 at hc
    go_enter Tryz.func161, Tryz.ntmps161
    go_wp2_with (go_at_call 194; refine hc.mono ?_)
    rintro e w2 ⟨rfl, hm2⟩
    obtain ⟨hk2, hn2⟩ := new_blk H.out 34 _ hm2.ext
    obtain ⟨d0, d1, d2, d3, d4, d5, f0, f1, f2, f3, f4, f5, l0⟩ := box6f hk2
    have HM2 := Lib.hid (HM0.out.trans hm2)
    have HN2 := Lib.hid hn2
    clear hc hm2 hn2 hk2
    go_wp2
    refine bodyPost_ret (v := .tuple #[.agg #[.int .i64 0, .string x, .int .i64 typ, .int .i64 0, .slice none 0 0, .int .i64 t.a], .nilIface]) (by simp [results, Tryz.results161, go_sem, d0, d1, d2, d3, d4, d5, l0]) rfl ?_
    rw [HQ.out]
    refine ⟨0, x, typ, 0, t.a, .nilIface, _, rfl, (HM2.out.set6 H.out (Nat.le_refl _) HN2.out _ _ _ _ _ _).more H.out _, ?_⟩
    unfold namedF
    rw [if_pos Hk.out, ← HT.out, Hx.out]
    exact ⟨rfl, rfl, rfl, rfl⟩
  · have hc := kind_no hp0 1 (by intro e; exact hk (by exact_mod_cast e))
    have Hk := Lib.hid hk
    unfold noTok errV at hc
    clear h hp0 hk
    unfold z36 at hc
    generalize hpa : (pk E s.L).a = pa at *
    have Hpa := Lib.hid hpa
    clear hpa
    go_enter Tryz.func161, Tryz.ntmps161
    go_wp2_with (go_at_call 194; refine hc.mono ?_)
    rintro e w2 ⟨rfl, hm2⟩
    obtain ⟨hk2, hn2⟩ := new_blk H.out 34 _ hm2.ext
    obtain ⟨d0, d1, d2, d3, d4, d5, f0, f1, f2, f3, f4, f5, l0⟩ := box6f hk2
    have HM2 := Lib.hid (HM0.out.trans hm2)
    have HN2 := Lib.hid hn2
    clear hc hm2 hn2 hk2
    go_wp2
    refine bodyPost_ret (v := .tuple #[.agg #[.int .i64 0, .string ⟨#[]⟩, .int .i64 0, .int .i64 0, .slice none 0 0, .int .i64 0], .iface 100 (.agg #[.int .i64 1, .int .i64 pa])]) (by simp [results, Tryz.results161, go_sem, d0, d1, d2, d3, d4, d5, l0]) rfl ?_
    rw [HQ.out]
    refine ⟨0, ⟨#[]⟩, 0, 0, 0, _, _, rfl, (HM2.out.set6 H.out (Nat.le_refl _) HN2.out _ _ _ _ _ _).more H.out _, ?_⟩
    unfold namedF
    rw [if_neg Hk.out, Hpa.out]
    rfl

theorem DPost.pre {B T E : Nat} {w w1 : World} {s s1 : S3} {d : D3} {e : Ending} {w' : World} (h : DPost B T E w1 s1 d e w') (hm : Mv B T E w s w1 s1) : DPost B T E w s d e w' := by
  obtain ⟨a0, a1, a2, a3, a5, v2, s', he, hM, hd⟩ := h
  exact ⟨a0, a1, a2, a3, a5, v2, s', he, hm.trans hM, hd⟩
set_option maxHeartbeats 8000000 in
set_option maxRecDepth 100000 in
theorem declared_any {B T E : Nat} {w : World} {s : S3} (h : Ps B T E w s) :
    Calls Tryz.prog 163 #[.pointer (some ⟨B, 0, none⟩)] w (DPost B T E w s (declF E s)) := by
  have hp0 := h.alloc z36
  have HM0 : Hid (Mv B T E w s (w.alloc z36) s) := Mv.alloc h _
  have H := Lib.hid h
  have HP0 := Lib.hid hp0
  obtain ⟨Q, hQ⟩ : ∃ Q : Ending → World → Prop, Q = DPost B T E w s (declF E s) := ⟨_, rfl⟩
  rw [← hQ]
  have HQ := Lib.hid hQ
  clear hQ
  by_cases ht : (pk E s.L).t = [105, 110, 116]
  · have hw := word_yes2 hp0 ⟨#[105, 110, 116]⟩ rfl ht
    have Ht := Lib.hid ht
    clear h hp0 ht
    unfold z36 at hw
    go_enter Tryz.func163, Tryz.ntmps163
    go_wp2_with (go_at_call 76; refine hw.mono ?_; rintro e w2 ⟨g1, g2, rfl, h77⟩)
    refine h77.mono ?_
    rintro e w3 ⟨rfl, hm3⟩
    have HM3 := Lib.hid (HM0.out.trans hm3)
    have HX3 := Lib.hid hm3.ext
    have HP3 := Lib.hid (hm3.of HP0.out)
    clear hm3 h77 hw
    by_cases hs : (pk E s.L.tail).t = [42]
    · have hk := took_yes2 HP3.out ⟨#[42]⟩ rfl hs
      have HD : Hid (declF E s = namedF E 2 { s with L := s.L.tail.tail }) := by
        show _ = _; unfold declF wordF; rw [if_pos Ht.out]; show (if _ then _ else _) = _; rw [if_pos hs]
      clear hs
      go_wp2_with (go_at_call 133; refine hk.mono ?_; rintro e w4 ⟨rfl, hm4⟩)
      have hnm := named_any (hm4.of HP3.out) 2
      have HM4 := Lib.hid (HM3.out.trans hm4)
      have HX4 := Lib.hid (HX3.out.trans hm4.ext)
      clear hk hm4
      go_wp2_with (go_at_call 161; refine hnm.mono ?_)
      rintro e w5 ⟨a0, a1, a2, a3, a5, v2, s', rfl, hM, hd⟩
      obtain ⟨hk2, hn2⟩ := new_blk H.out 34 _ (HX4.out.trans hM.ext)
      obtain ⟨d0, d1, d2, d3, d4, d5, f0, f1, f2, f3, f4, f5, l0⟩ := box6f hk2
      have HM5 := Lib.hid (HM4.out.trans hM)
      have HN2 := Lib.hid hn2
      have HDD := Lib.hid hd
      clear hnm hM hn2 hk2 hd
      go_wp2
      refine bodyPost_ret (v := .tuple #[.agg #[.int .i64 a0, .string a1, .int .i64 a2, .int .i64 a3, .slice none 0 0, .int .i64 a5], v2]) (by simp [results, Tryz.results163, go_sem, d0, d1, d2, d3, d4, d5, l0]) rfl ?_
      rw [HQ.out, HD.out]
      exact ⟨a0, a1, a2, a3, a5, v2, s', rfl, HM5.out.set6 H.out (Nat.le_refl _) HN2.out _ _ _ _ _ _, HDD.out⟩
    · have hk := took_no2 HP3.out ⟨#[42]⟩ rfl hs
      have HD : Hid (declF E s = namedF E 1 { s with L := s.L.tail }) := by
        show _ = _; unfold declF wordF; rw [if_pos Ht.out]; show (if _ then _ else _) = _; rw [if_neg hs]
      clear hs
      go_wp2_with (go_at_call 133; refine hk.mono ?_; rintro e w4 ⟨rfl, hm4⟩)
      have hnm := named_any (hm4.of HP3.out) 1
      have HM4 := Lib.hid (HM3.out.trans hm4)
      have HX4 := Lib.hid (HX3.out.trans hm4.ext)
      clear hk hm4
      go_wp2_with (go_at_call 161; refine hnm.mono ?_)
      rintro e w5 ⟨a0, a1, a2, a3, a5, v2, s', rfl, hM, hd⟩
      obtain ⟨hk2, hn2⟩ := new_blk H.out 34 _ (HX4.out.trans hM.ext)
      obtain ⟨d0, d1, d2, d3, d4, d5, f0, f1, f2, f3, f4, f5, l0⟩ := box6f hk2
      have HM5 := Lib.hid (HM4.out.trans hM)
      have HN2 := Lib.hid hn2
      have HDD := Lib.hid hd
      clear hnm hM hn2 hk2 hd
      go_wp2
      refine bodyPost_ret (v := .tuple #[.agg #[.int .i64 a0, .string a1, .int .i64 a2, .int .i64 a3, .slice none 0 0, .int .i64 a5], v2]) (by simp [results, Tryz.results163, go_sem, d0, d1, d2, d3, d4, d5, l0]) rfl ?_
      rw [HQ.out, HD.out]
      exact ⟨a0, a1, a2, a3, a5, v2, s', rfl, HM5.out.set6 H.out (Nat.le_refl _) HN2.out _ _ _ _ _ _, HDD.out⟩
  · have hw := word_no2 hp0 ⟨#[105, 110, 116]⟩ rfl ht
    have HD : Hid (declF E s = .bad 1 (pk E s.L).a) := by
      show _ = _; unfold declF wordF; rw [if_neg ht]; rfl
    generalize hpa : (pk E s.L).a = pa at *
    clear hpa h hp0 ht
    unfold z36 at hw
    unfold errV at hw
    go_enter Tryz.func163, Tryz.ntmps163
    go_wp2_with (go_at_call 76; refine hw.mono ?_; rintro e w2 ⟨g1, g2, rfl, h77⟩)
    refine h77.mono ?_
    rintro e w3 ⟨rfl, hm3⟩
    obtain ⟨hk2, hn2⟩ := new_blk H.out 34 _ hm3.ext
    obtain ⟨d0, d1, d2, d3, d4, d5, f0, f1, f2, f3, f4, f5, l0⟩ := box6f hk2
    have HM5 := Lib.hid (HM0.out.trans hm3)
    have HN2 := Lib.hid hn2
    clear hm3 h77 hw hn2 hk2
    go_wp2
    refine bodyPost_ret (v := .tuple #[.agg #[.int .i64 0, .string ⟨#[]⟩, .int .i64 0, .int .i64 0, .slice none 0 0, .int .i64 0], .iface 100 (.agg #[.int .i64 1, .int .i64 pa])]) (by simp [results, Tryz.results163, go_sem, d0, d1, d2, d3, d4, d5, l0]) rfl ?_
    rw [HQ.out, HD.out]
    exact ⟨0, ⟨#[]⟩, 0, 0, 0, _, _, rfl, HM5.out.set6 H.out (Nat.le_refl _) HN2.out _ _ _ _ _ _, rfl⟩
end
section
open Go.RowKit
open Tk (T4 bstr)
open Tr (Nd Blk KidsAt)

/-- block, body, as the program has them -/
def blockF (E : Nat) (fam : Nat → F3) (n : Nat) : F3 := fun s => buildF (mk 11 [] 0 (pk E s.L).a) [bracedF E fam n] s
def bodyF (E : Nat) (bl ac : F3) : F3 := fun s => if (pk E s.L).t = [123] then bl s else buildF (mk 11 [] 0 (pk E s.L).a) [ac] s
theorem unless_call {B T E : Nat} {s : S3} {W0 W : World} (h : Now B T E s W0 W) (x : ByteArray) {en : List UInt8} (he : x.data.toList = en) (f : F3) (id : FuncId) (hen : Ent id) (hit : FnC B T E id f) (hno : FnC B T E 234 (nothingF E)) (hr : unlessF E en f s ≠ .out) :
    Calls Tryz.prog 252 #[.pointer (some ⟨B, 0, none⟩), .string x, .func (.func id) #[.pointer (some ⟨B, 0, none⟩)] #[]] W fun e w' => ∃ g1 g2 g3, e = .returned (.func (.func 258) #[] #[.pointer (some ⟨g1, 0, none⟩), .pointer (some ⟨g2, 0, none⟩), .pointer (some ⟨g3, 0, none⟩)]) ∧
      Ext B W0 w' ∧ Calls Tryz.prog 258 #[.pointer (some ⟨g1, 0, none⟩), .pointer (some ⟨g2, 0, none⟩), .pointer (some ⟨g3, 0, none⟩)] w' (Ends B T E W0 (unlessF E en f s)) := by
  refine (unless_now h x he f id hen hit hno).mono fun e w' ⟨g1, g2, g3, he, hn, hx, id, b, c, hv, _, hs⟩ => ⟨g1, g2, g3, he, hn.1, ?_⟩
  cases hv
  have := hs w' s (Ext.refl _ _) hn.2 hr
  have e1 : (#[] ++ #[Value.pointer (some ⟨g1, 0, none⟩), Value.pointer (some ⟨g2, 0, none⟩), Value.pointer (some ⟨g3, 0, none⟩)] : Array Value) = #[Value.pointer (some ⟨g1, 0, none⟩), Value.pointer (some ⟨g2, 0, none⟩), Value.pointer (some ⟨g3, 0, none⟩)] := rfl
  rw [e1] at this
  exact this.mono fun e w' hd => ends_of hd hr hn.1

set_option maxHeartbeats 16000000 in
set_option maxRecDepth 100000 in
theorem block_fn {B T E : Nat} {n : Nat} {fam : Nat → F3} (hit : ∀ m, m < n → FnC B T E 217 (fam m)) : FnC B T E 197 (blockF E fam n) := fun w s h hr => by
  obtain ⟨r, hrr⟩ : ∃ r, r = blockF E fam n s := ⟨_, rfl⟩
  rw [← hrr] at hr ⊢
  obtain ⟨Q, hQ⟩ : ∃ Q : Ending → World → Prop, Q = Did B T E w r := ⟨_, rfl⟩
  rw [← hQ]
  have HQ := Lib.hid hQ
  have HR := Lib.hid hr
  have hB := h.lt
  clear hQ hr
  obtain ⟨t, ht⟩ : ∃ t, t = pk E s.L := ⟨_, rfl⟩
  obtain ⟨x, hx⟩ : ∃ x, x = bstr t.t := ⟨_, rfl⟩
  have hpk : ∀ W, Now B T E s w.drew W → Calls Tryz.prog 74 #[.pointer (some ⟨B, 0, none⟩)] W fun e w' => e = .returned (.agg #[.int .i64 t.k, .string x, .int .i64 t.v, .int .i64 t.a]) ∧ Now B T E s w.drew w' ∧ Ext B W w' := fun W hW => by
    have h := peek_now hW
    rw [← ht, ← hx] at h
    exact h
  change r = buildF (mk 11 [] 0 (pk E s.L).a) [bracedF E fam n] s at hrr
  rw [← ht] at hrr
  have Hrr := Lib.hid hrr
  have HX0 : Hid (Ext B w w.drew) := (Ext.refl _ _).drew
  have N0 : Hid (Now B T E s w.drew w.drew) := Now.refl h.drew
  have hf := fldT3
  clear hrr ht hx h
  go_enter Tryz.func197, Tryz.ntmps197
  go_wp2
  have HW0 : Hid (∀ W, Now B T E s w.drew W → Calls Tryz.prog 74 #[.pointer (some ⟨B, 0, none⟩)] W fun e w' => e = .returned (.agg #[.int .i64 t.k, .string x, .int .i64 t.v, .int .i64 t.a]) ∧ Now B T E s w.drew w' ∧ Ext B W w') := hpk
  have HW1 : Hid (∀ W, Now B T E s w.drew W → Calls Tryz.prog 216 #[.pointer (some ⟨B, 0, none⟩), .func (.func 217) #[.pointer (some ⟨B, 0, none⟩)] #[]] W fun e w' => ∃ g1 g2, e = .returned (.func (.func 230) #[] #[.pointer (some ⟨g1, 0, none⟩), .pointer (some ⟨g2, 0, none⟩)]) ∧ Now B T E s w.drew w' ∧ Ext B W w' ∧ StepV B T E w' (.func (.func 230) #[] #[.pointer (some ⟨g1, 0, none⟩), .pointer (some ⟨g2, 0, none⟩)]) (bracedF E fam n)) := fun W hW => braced_now hW fam 217 ent165 hit
  have HN : Hid (∀ W v0, Now B T E s w.drew W → StepV B T E W v0 (bracedF E fam n) → Calls Tryz.prog 69 #[.pointer (some ⟨B, 2, none⟩), .agg #[.int .i64 11, .string ⟨#[]⟩, .int .i64 0, .int .i64 0, .slice none 0 0, .int .i64 t.a], .slice (some ⟨W.heap.size, 0, none⟩) 1 1] (W.alloc (.cells #[v0] 71)) (Ends B T E w.drew r)) := fun W v0 hW h0 => by
      have h := build_now hW [v0] [bracedF E fam n] rfl (by simp) (step1 (h0)) (mk 11 [] 0 t.a) rfl (by rw [← Hrr.out]; exact HR.out) 71
      rw [← Hrr.out] at h
      exact h
  go_region_held3 (fun W => True)
    (first | exact trivial)
    (first | (go_at_call 74; first | ((with_reducible refine (HW0.out _ N0.out).mono ?_); rintro e w0_ ⟨rfl, hn0, hx0⟩)) | (go_at_call 216; first | ((with_reducible refine (HW1.out _ hn0).mono ?_); rintro e w1_ ⟨q10, q11, rfl, hn1, hx1, hs1⟩)) | (go_at_call 69; refine (HN.out _ _ hn1 hs1).mono ?_; rintro e w9 ⟨v, rfl, hd, hx9⟩))
  all_goals
    have HD := Lib.hid (did_ext hd HX0.out)
    clear hd hx9
    go_wp2
    (try go_ret)
    rw [HQ.out]
    exact HD.out

set_option maxHeartbeats 16000000 in
set_option maxRecDepth 100000 in
theorem body_fn {B T E : Nat} {bl ac : F3} (hbl : FnC B T E 197 bl) (hac : FnC B T E 217 ac) : FnC B T E 249 (bodyF E bl ac) := fun w s h hr => by
  obtain ⟨r, hrr⟩ : ∃ r, r = bodyF E bl ac s := ⟨_, rfl⟩
  rw [← hrr] at hr ⊢
  obtain ⟨Q, hQ⟩ : ∃ Q : Ending → World → Prop, Q = Did B T E w r := ⟨_, rfl⟩
  rw [← hQ]
  have HQ := Lib.hid hQ
  have HR := Lib.hid hr
  have hB := h.lt
  clear hQ hr
  have Hrr : Hid (r = if (pk E s.L).t = [123] then bl s else buildF (mk 11 [] 0 (pk E s.L).a) [ac] s) := hrr
  have Hh := Lib.hid h
  clear hrr
  by_cases ht : (pk E s.L).t = [123]
  · have htk := sees_yes Hh.out ⟨#[123]⟩ rfl ht
    have HR2 : Hid (r = bl s) := by have h := Hrr.out; rw [if_pos ht] at h; exact h
    clear ht h
    go_enter Tryz.func249, Tryz.ntmps249
    go_wp2_with (go_at_call 164; refine htk.mono ?_; rintro e w1 ⟨rfl, hx1, hp1⟩)
    have hcall := hbl w1 _ hp1 (by rw [← HR2.out]; exact HR.out)
    rw [← HR2.out] at hcall
    have HX1 := Lib.hid hx1
    clear hx1 hp1 htk
    refine hcall.mono ?_
    intro e w2 hd
    obtain ⟨v, rfl, hd⟩ := did_ret hd HR.out
    have HD := Lib.hid (did_ext hd HX1.out)
    clear hd hcall
    go_wp2
    (try go_ret)
    rw [HQ.out]
    exact HD.out
  · have htk := sees_no Hh.out ⟨#[123]⟩ rfl ht
    have hr2 : r = buildF (mk 11 [] 0 (pk E s.L).a) [ac] s := by have h := Hrr.out; rw [if_neg ht] at h; exact h
    clear ht h Hrr
    go_enter Tryz.func249, Tryz.ntmps249
    go_wp2_with (go_at_call 164; refine htk.mono ?_; rintro e w1 ⟨rfl, hx1, hp1⟩)
    obtain ⟨t, ht⟩ : ∃ t, t = pk E s.L := ⟨_, rfl⟩
    obtain ⟨x, hx⟩ : ∃ x, x = bstr t.t := ⟨_, rfl⟩
    have hpk : ∀ W, Now B T E s w1.drew W → Calls Tryz.prog 74 #[.pointer (some ⟨B, 0, none⟩)] W fun e w' => e = .returned (.agg #[.int .i64 t.k, .string x, .int .i64 t.v, .int .i64 t.a]) ∧ Now B T E s w1.drew w' ∧ Ext B W w' := fun W hW => by
      have h := peek_now hW
      rw [← ht, ← hx] at h
      exact h
    rw [← ht] at hr2
    have Hrr := Lib.hid hr2
    have HX0 : Hid (Ext B w w1.drew) := hx1.drew
    have N0 : Hid (Now B T E s w1.drew w1.drew) := Now.refl hp1.drew
    have hf := fldT3
    clear hr2 ht hx htk hx1 hp1
    go_wp2
    have HW0 : Hid (∀ W, Now B T E s w1.drew W → Calls Tryz.prog 74 #[.pointer (some ⟨B, 0, none⟩)] W fun e w' => e = .returned (.agg #[.int .i64 t.k, .string x, .int .i64 t.v, .int .i64 t.a]) ∧ Now B T E s w1.drew w' ∧ Ext B W w') := hpk
    have HN : Hid (∀ W, Now B T E s w1.drew W → Calls Tryz.prog 69 #[.pointer (some ⟨B, 2, none⟩), .agg #[.int .i64 11, .string ⟨#[]⟩, .int .i64 0, .int .i64 0, .slice none 0 0, .int .i64 t.a], .slice (some ⟨W.heap.size, 0, none⟩) 1 1] (W.alloc (.cells #[.func (.func 217) #[.pointer (some ⟨B, 0, none⟩)] #[]] 71)) (Ends B T E w1.drew r)) := fun W hW => by
        have h := build_now hW [.func (.func 217) #[.pointer (some ⟨B, 0, none⟩)] #[]] [ac] rfl (by simp) (step1 (stepFn hac ent165 W)) (mk 11 [] 0 t.a) rfl (by rw [← Hrr.out]; exact HR.out) 71
        rw [← Hrr.out] at h
        exact h
    have HE : Hid (∀ W W1, Now B T E s w1.drew W → Now B T E s w1.drew W1 → Ext B (W.alloc (.cells #[.func (.func 217) #[.pointer (some ⟨B, 0, none⟩)] #[]] 71)) W1 → Calls Tryz.prog 69 #[.pointer (some ⟨B, 2, none⟩), .agg #[.int .i64 11, .string ⟨#[]⟩, .int .i64 0, .int .i64 0, .slice none 0 0, .int .i64 t.a], .slice (some ⟨W.heap.size, 0, none⟩) 1 1] W1 (Ends B T E w1.drew r)) := fun W W1 hW hW1 hx => by
        have h := (build_any (cap := 1) hW1.2 ((steps_new hW [.func (.func 217) #[.pointer (some ⟨B, 0, none⟩)] #[]] [ac] rfl (by simp) (step1 (stepFn hac ent165 W)) 71).ext hx) (mk 11 [] 0 t.a) rfl (by rw [← Hrr.out]; exact HR.out)).mono fun e w9 hd => ends_of hd (by rw [← Hrr.out]; exact HR.out) hW1.1
        rw [← Hrr.out] at h
        exact h
    go_region_held3 (fun W => True)
      (first | exact trivial)
      (first | (go_at_call 74; first | ((with_reducible refine (HW0.out _ N0.out).mono ?_); rintro e w0_ ⟨rfl, hn0, hx0⟩) | (refine (HW0.out _ (N0.out.alloc _)).mono ?_; rintro e w0_ ⟨rfl, hn0, hx0⟩)) | (go_at_call 69; first | ((with_reducible refine (HN.out _ hn0).mono ?_); rintro e w9 ⟨v, rfl, hd, hx9⟩) | (refine (HE.out _ _ N0.out hn0 hx0).mono ?_; rintro e w9 ⟨v, rfl, hd, hx9⟩)))
    all_goals
      have HD := Lib.hid (did_ext hd HX0.out)
      clear hd hx9
      go_wp2
      (try go_ret)
      rw [HQ.out]
      exact HD.out

set_option maxHeartbeats 16000000 in
set_option maxRecDepth 100000 in
theorem start_fn {B T E : Nat} {ex : F3} (hlo : FnC B T E 231 (localF E ex)) (hef : FnC B T E 235 (effectF E ex)) (hno : FnC B T E 234 (nothingF E)) : FnC B T E 251 (startF E ex) := fun w s h hr => by
  obtain ⟨r, hrr⟩ : ∃ r, r = startF E ex s := ⟨_, rfl⟩
  rw [← hrr] at hr ⊢
  obtain ⟨Q, hQ⟩ : ∃ Q : Ending → World → Prop, Q = Did B T E w r := ⟨_, rfl⟩
  rw [← hQ]
  have HQ := Lib.hid hQ
  have HR := Lib.hid hr
  have hB := h.lt
  clear hQ hr
  have Hrr : Hid (r = if (pk E s.L).t = [105, 110, 116] then localF E ex s else unlessF E [59] (effectF E ex) s) := hrr
  have Hh := Lib.hid h
  clear hrr
  by_cases ht : (pk E s.L).t = [105, 110, 116]
  · have htk := sees_yes Hh.out ⟨#[105, 110, 116]⟩ rfl ht
    have HR2 : Hid (r = localF E ex s) := by have h := Hrr.out; rw [if_pos ht] at h; exact h
    clear ht h
    go_enter Tryz.func251, Tryz.ntmps251
    go_wp2_with (go_at_call 164; refine htk.mono ?_; rintro e w1 ⟨rfl, hx1, hp1⟩)
    have hcall := hlo w1 _ hp1 (by rw [← HR2.out]; exact HR.out)
    rw [← HR2.out] at hcall
    have HX1 := Lib.hid hx1
    clear hx1 hp1 htk
    refine hcall.mono ?_
    intro e w2 hd
    obtain ⟨v, rfl, hd⟩ := did_ret hd HR.out
    have HD := Lib.hid (did_ext hd HX1.out)
    clear hd hcall
    go_wp2
    (try go_ret)
    rw [HQ.out]
    exact HD.out
  · have htk := sees_no Hh.out ⟨#[105, 110, 116]⟩ rfl ht
    have HR2 : Hid (r = unlessF E [59] (effectF E ex) s) := by have h := Hrr.out; rw [if_neg ht] at h; exact h
    clear ht h Hrr
    have HEf := Lib.hid hef
    have HNo := Lib.hid hno
    clear hef hno
    go_enter Tryz.func251, Tryz.ntmps251
    go_wp2_with (go_at_call 164; refine htk.mono ?_; rintro e w1 ⟨rfl, hx1, hp1⟩)
    have hun := unless_call (Now.refl hp1) ⟨#[59]⟩ rfl (effectF E ex) 235 ent178 HEf.out HNo.out (by rw [← HR2.out]; exact HR.out)
    rw [← HR2.out] at hun
    have HX1 := Lib.hid hx1
    clear hx1 hp1 htk
    go_wp2_with (go_at_call 252; refine hun.mono ?_; rintro e w5 ⟨g1, g2, g3, rfl, hx5, h200⟩)
    refine h200.mono ?_
    rintro e w6 ⟨v, rfl, hd, hx6⟩
    have HD := Lib.hid (did_ext hd HX1.out)
    clear hx6 hd h200 hx5 hun
    go_wp2
    (try go_ret)
    rw [HQ.out]
    exact HD.out
end
section
open Go.RowKit
open Tk (T4 bstr)
open Tr (Nd Blk KidsAt)

theorem wrap_i64 {x : Int} (h1 : -9000000000000000000 ≤ x) (h2 : x ≤ 9000000000000000000) : IntKind.i64.wrap x = x := by
  rw [IntKind.wrap_i64]; omega
theorem list_call {B T E n : Nat} {s : S3} {W0 W : World} (h : Now B T E s W0 W) (xo xe : ByteArray) {o en : List UInt8} (ho : xo.data.toList = o) (he : xe.data.toList = en) (fam : Nat → F3) (id : FuncId) (hen : Ent id) (hit : ∀ m, m < n → FnC B T E id (fam m)) (hr : listF E o en fam n s ≠ .out) :
    Calls Tryz.prog 195 #[.pointer (some ⟨B, 0, none⟩), .string xo, .func (.func id) #[.pointer (some ⟨B, 0, none⟩)] #[], .string xe] W fun e w' => ∃ g1 g2 g3 g4, e = .returned (.func (.func 215) #[] #[.pointer (some ⟨g1, 0, none⟩), .pointer (some ⟨g2, 0, none⟩), .pointer (some ⟨g3, 0, none⟩), .pointer (some ⟨g4, 0, none⟩)]) ∧
      Ext B W0 w' ∧ Calls Tryz.prog 215 #[.pointer (some ⟨g1, 0, none⟩), .pointer (some ⟨g2, 0, none⟩), .pointer (some ⟨g3, 0, none⟩), .pointer (some ⟨g4, 0, none⟩)] w' (Ends B T E W0 (listF E o en fam n s)) := by
  refine (listg_now h xo xe ho he fam id #[.pointer (some ⟨B, 0, none⟩)] #[] hen (fun m hm W1 s1 _ hp hr => hit m hm W1 s1 hp hr)).mono fun e w' ⟨g1, g2, g3, g4, he, hn, hx, id, b, c, hv, _, hs⟩ => ⟨g1, g2, g3, g4, he, hn.1, ?_⟩
  cases hv
  have := hs w' s (Ext.refl _ _) hn.2 hr
  have e1 : (#[] ++ #[Value.pointer (some ⟨g1, 0, none⟩), Value.pointer (some ⟨g2, 0, none⟩), Value.pointer (some ⟨g3, 0, none⟩), Value.pointer (some ⟨g4, 0, none⟩)] : Array Value) = #[Value.pointer (some ⟨g1, 0, none⟩), Value.pointer (some ⟨g2, 0, none⟩), Value.pointer (some ⟨g3, 0, none⟩), Value.pointer (some ⟨g4, 0, none⟩)] := rfl
  rw [e1] at this
  exact this.mono fun e w' hd => ends_of hd hr hn.1
theorem len_ps {B T E : Nat} {w : World} {s : S3} (h : Ps B T E w s) : s.O.length ≤ 5000000 := by obtain ⟨_, _, _, _, hh⟩ := h; have := hh.lenO; have := hh.lenN; omega
theorem ent163 : Ent 215 := enters163

set_option maxHeartbeats 16000000 in
set_option maxRecDepth 100000 in
theorem valuesc_any {B T E n : Nat} {fam : Nat → F3} (hit : ∀ m, m < n → FnC B T E 40 (fam m)) {w : World} {s : S3} {gp gm : Nat} {m : Int} (hm0 : 0 ≤ m) (hm1 : m ≤ 1000)
    (hbx : ∀ W, Ext B w W → W.cell? ⟨gp, 0, none⟩ = some (.pointer (some ⟨B, 0, none⟩)) ∧ W.cell? ⟨gm, 0, none⟩ = some (.int .i64 m)) (h : Ps B T E w s) (hr : valuesF E m fam n s ≠ .out) :
    Calls Tryz.prog 218 #[.pointer (some ⟨gp, 0, none⟩), .pointer (some ⟨gm, 0, none⟩)] w (Did B T E w (valuesF E m fam n s)) := by
  obtain ⟨r, hrr⟩ : ∃ r, r = valuesF E m fam n s := ⟨_, rfl⟩
  rw [← hrr] at hr ⊢
  obtain ⟨Q, hQ⟩ : ∃ Q : Ending → World → Prop, Q = Did B T E w r := ⟨_, rfl⟩
  rw [← hQ]
  have HQ := Lib.hid hQ
  have HR := Lib.hid hr
  have hB := h.lt
  clear hQ hr
  have Hrr : Hid (r = if (pk E s.L).t = [61] then (listF E [123] [125] fam n { s with L := s.L.tail }).bind fun s2 => if m < (s2.O.length : Int) - s.O.length then .bad 9 (pk E s.L.tail).a else .ok s2 else .ok s) := hrr
  have HBx := Lib.hid hbx
  have HIt := Lib.hid hit
  have HP0 := Lib.hid h
  have HmL := Lib.hid (len_ps h)
  have cp := (hbx w (Ext.refl _ _)).1
  clear hrr hbx hit
  by_cases ht : (pk E s.L).t = [61]
  · have htk := took_yes HP0.out ⟨#[61]⟩ rfl ht
    have HR2 : Hid (r = (listF E [123] [125] fam n { s with L := s.L.tail }).bind fun s2 => if m < (s2.O.length : Int) - s.O.length then .bad 9 (pk E s.L.tail).a else .ok s2) := by have h := Hrr.out; rw [if_pos ht] at h; exact h
    clear ht h Hrr
    go_enter Tryz.func218, Tryz.ntmps218
    go_wp2_with (go_at_call 133; refine htk.mono ?_; rintro e w1 ⟨rfl, hx1, hp1⟩)
    have hmk := fun W (hW : Now B T E { s with L := s.L.tail } w1.drew W) => mark_any hW.2
    obtain ⟨s1, hs1⟩ : ∃ s1 : S3, s1 = { s with L := s.L.tail } := ⟨_, rfl⟩
    have hO1 : s1.O = s.O := by rw [hs1]
    have hL1 : s1.L = s.L.tail := by rw [hs1]
    obtain ⟨mark, hmark⟩ : ∃ mark, mark = s.O.length := ⟨_, rfl⟩
    obtain ⟨t, htt⟩ : ∃ t, t = pk E s.L.tail := ⟨_, rfl⟩
    obtain ⟨x, hx⟩ : ∃ x, x = bstr t.t := ⟨_, rfl⟩
    rw [← hs1] at hp1
    have HR3 : Hid (r = (listF E [123] [125] fam n s1).bind fun s2 => if m < (s2.O.length : Int) - mark then .bad 9 t.a else .ok s2) := by have h := HR2.out; rw [← hs1, ← hmark, ← htt] at h; exact h
    have HM0 : Hid (mark ≤ 5000000) := by show _ ≤ _; rw [hmark]; exact HmL.out
    have HPk : Hid (∀ W, Now B T E s1 w1.drew W → Calls Tryz.prog 74 #[.pointer (some ⟨B, 0, none⟩)] W fun e w' => e = .returned (.agg #[.int .i64 t.k, .string x, .int .i64 t.v, .int .i64 t.a]) ∧ Now B T E s1 w1.drew w' ∧ Ext B W w') := fun W hW => by
      have h := peek_now hW
      rw [hL1, ← htt, ← hx] at h
      exact h
    have HMk : Hid (∀ W, Now B T E s1 w1.drew W → Calls Tryz.prog 72 #[.pointer (some ⟨B, 2, none⟩)] W fun e w' => e = .returned (.int .i64 mark) ∧ W = w') := fun W hW => by
      have h := mark_any hW.2
      rw [hO1, ← hmark] at h
      exact h
    have HX1 := Lib.hid hx1.drew
    have N0 : Hid (Now B T E s1 w1.drew w1.drew) := Now.refl hp1.drew
    have S1 : Hid (∀ W, Ext B w1.drew W → W.cell? ⟨gp, 0, none⟩ = some (.pointer (some ⟨B, 0, none⟩))) := fun W hW => (HBx.out W (HX1.out.trans hW)).1
    have S0 := Lib.hid (S1.out _ (Ext.refl _ _))
    have hf := fldT3
    clear hs1 hO1 hL1 hmark htt hx hmk hx1 hp1 htk HR2 HmL cp HP0
    go_wp2
    go_region_held3 (fun W => W.cell? ⟨gp, 0, none⟩ = some (.pointer (some ⟨B, 0, none⟩)))
      (first | exact S0.out | exact S1.out _ hn0.1)
      (first | (go_at_call 74; first | ((with_reducible refine (HPk.out _ N0.out).mono ?_); rintro e w2 ⟨rfl, hn0, hx0⟩)) | (go_at_call 72; first | ((with_reducible refine (HMk.out _ hn0).mono ?_); rintro e w3 ⟨rfl, rfl⟩) | ((with_reducible refine (HMk.out _ N0.out).mono ?_); rintro e w3 ⟨rfl, rfl⟩)))
    all_goals
      have HX2 := Lib.hid (HX1.out.trans hn0.1).drew
      have HP2 := Lib.hid hn0.2.drew
      clear hn0 hx0 S0 S1 N0 HPk HMk
      have hne : listF E [123] [125] fam n s1 ≠ .out := fun e => HR.out (by rw [HR3.out, e]; rfl)
      have hls := list_call (Now.refl HP2.out) ⟨#[123]⟩ ⟨#[125]⟩ rfl rfl fam 40 ent21 HIt.out hne
      obtain ⟨r1, hr1⟩ : ∃ r1, r1 = listF E [123] [125] fam n s1 := ⟨_, rfl⟩
      rw [← hr1] at hls
      have HR4 : Hid (r = r1.bind fun s2 => if m < (s2.O.length : Int) - mark then .bad 9 t.a else .ok s2) := by have h := HR3.out; rw [← hr1] at h; exact h
      have HN1 : Hid (r1 ≠ .out) := by show r1 ≠ .out; rw [hr1]; exact hne
      clear hr1 hne
      have S1 : Hid (∀ W, Ext B w2.drew W → W.cell? ⟨gp, 0, none⟩ = some (.pointer (some ⟨B, 0, none⟩))) := fun W hW => (HBx.out W (HX2.out.trans hW)).1
      have S0 := Lib.hid (S1.out _ (Ext.refl _ _))
      go_wp2
      go_region_held3 (fun W => W.cell? ⟨gp, 0, none⟩ = some (.pointer (some ⟨B, 0, none⟩)))
        (first | exact S0.out | exact S1.out _ hx5 | exact S1.out _ hx6)
        (first | (go_at_call 195; refine hls.mono ?_; rintro e w5 ⟨g1, g2, g3, g4, rfl, hx5, h163⟩) | (go_at_call 215; refine h163.mono ?_; rintro e w6 ⟨v, rfl, hd, hx6⟩))
      have HX6 := Lib.hid (HX2.out.trans hx6)
      have HD := Lib.hid hd
      clear hx6 hd h163 hx5 hls S0 S1
      cases r1 with
      | out => exact absurd rfl HN1.out
      | bad c1 b1 =>
        obtain ⟨hv, _⟩ := HD.out
        obtain rfl : v = errV c1 b1 := Ending.returned.inj hv
        have HRb : Hid (r = .bad c1 b1) := HR4.out
        clear hv HD
        unfold errV
        go_wp2
        (try go_ret)
        rw [HQ.out, HRb.out]
        exact ⟨rfl, HX6.out⟩
      | ok s2 =>
        obtain ⟨hv, _, hp6⟩ := HD.out
        obtain rfl : v = .nilIface := Ending.returned.inj hv
        have HR5 : Hid (r = if m < (s2.O.length : Int) - mark then .bad 9 t.a else .ok s2) := HR4.out
        have HP6 := Lib.hid hp6.drew
        have HmL2 := len_ps hp6
        have hM0 := HM0.out
        have hmk2 := mark_any hp6.drew
        obtain ⟨m2, hm2⟩ : ∃ m2, m2 = s2.O.length := ⟨_, rfl⟩
        rw [← hm2] at hmk2 HmL2
        have HR6 : Hid (r = if m < (m2 : Int) - mark then .bad 9 t.a else .ok s2) := by have h := HR5.out; rw [← hm2] at h; exact h
        have S1 : Hid (w6.drew.cell? ⟨gp, 0, none⟩ = some (.pointer (some ⟨B, 0, none⟩)) ∧ w6.drew.cell? ⟨gm, 0, none⟩ = some (.int .i64 m)) := HBx.out _ HX6.out.drew
        clear hv HD hp6 hm2 HR5 HR4 HR3
        have hwr : IntKind.i64.wrap ((m2 : Int) - mark) = (m2 : Int) - mark := wrap_i64 (by omega) (by omega)
        by_cases hc : m < (m2 : Int) - mark
        · have HR7 : Hid (r = .bad 9 t.a) := by have h := HR6.out; rw [if_pos hc] at h; exact h
          have HX7 := Lib.hid HX6.out.drew
          clear HR6
          go_wp2
          go_region_held3 (fun W => W.cell? ⟨gp, 0, none⟩ = some (.pointer (some ⟨B, 0, none⟩)) ∧ W.cell? ⟨gm, 0, none⟩ = some (.int .i64 m))
            (first | exact S1.out)
            (first | (go_at_call 72; refine hmk2.mono ?_; rintro e w' ⟨rfl, rfl⟩))
          all_goals
            go_wp2
            (try go_ret)
            rw [HQ.out, HR7.out]
            exact ⟨rfl, HX7.out⟩
        · have HR7 : Hid (r = .ok s2) := by have h := HR6.out; rw [if_neg hc] at h; exact h
          have HX7 := Lib.hid HX6.out.drew
          clear HR6
          go_wp2
          go_region_held3 (fun W => W.cell? ⟨gp, 0, none⟩ = some (.pointer (some ⟨B, 0, none⟩)) ∧ W.cell? ⟨gm, 0, none⟩ = some (.int .i64 m))
            (first | exact S1.out)
            (first | (go_at_call 72; refine hmk2.mono ?_; rintro e w' ⟨rfl, rfl⟩))
          all_goals
            go_wp2
            (try go_ret)
            rw [HQ.out, HR7.out]
            exact ⟨rfl, HX7.out, HP6.out⟩
  · have htk := took_no HP0.out ⟨#[61]⟩ rfl ht
    have HR2 : Hid (r = .ok s) := by have h := Hrr.out; rw [if_neg ht] at h; exact h
    clear ht h Hrr
    go_enter Tryz.func218, Tryz.ntmps218
    go_wp2_with (go_at_call 133; refine htk.mono ?_; rintro e w1 ⟨rfl, hx1, hp1⟩)
    have HX1 := Lib.hid hx1
    have HP1 := Lib.hid hp1
    clear hx1 hp1 htk
    (try go_wp2)
    (try go_ret)
    rw [HQ.out, HR2.out]
    exact ⟨rfl, HX1.out, HP1.out⟩

theorem values_now {B T E n : Nat} {s : S3} {W0 W : World} (h : Now B T E s W0 W) (fam : Nat → F3) (hit : ∀ m, m < n → FnC B T E 40 (fam m)) {m : Int} (hm0 : 0 ≤ m) (hm1 : m ≤ 1000) :
    Calls Tryz.prog 198 #[.pointer (some ⟨B, 0, none⟩), .int .i64 m] W fun e w' => ∃ g1 g2, e = .returned (.func (.func 218) #[] #[.pointer (some ⟨g1, 0, none⟩), .pointer (some ⟨g2, 0, none⟩)]) ∧
      Now B T E s W0 w' ∧ Ext B W w' ∧ StepV B T E w' (.func (.func 218) #[] #[.pointer (some ⟨g1, 0, none⟩), .pointer (some ⟨g2, 0, none⟩)]) (valuesF E m fam n) := by
  refine (values_lay m W).mono fun e w' ⟨hee, hw⟩ => ⟨_, _, hee, ?_⟩
  have hB := h.2.lt
  have hb : Below W.heap.size W w' := by
    rw [hw]; exact ((Below.refl _ _).alloc (Nat.le_refl _) _).alloc (by simp) _
  have hE : Ext B W w' := Ext.below hb hB
  have hP : Ps B T E w' s := h.2.below hb
  have k1 : Blk w' W.heap.size 101 #[.pointer (some ⟨B, 0, none⟩)] := by rw [hw]; exact (blk_at rfl).alloc _
  have k2 : Blk w' (W.heap.size + 1) 3 #[.int .i64 m] := by rw [hw]; exact blk_at (by simp)
  have hn : ∀ g, W.heap.size ≤ g → ¬ Own B w' g := fun g hg ho => not_own_ge h.2 hg ((own_same (hb.block B hB) g).1 ho)
  refine ⟨⟨h.1.trans hE, hP⟩, hE, 218, _, _, rfl, ent166, fun w s1 hx hp hr => ?_⟩
  exact valuesc_any hit hm0 hm1 (fun W1 h1 => ⟨((hx.trans h1).blk k1 (hn _ (Nat.le_refl _))).cell 0, ((hx.trans h1).blk k2 (hn _ (by omega))).cell 0⟩) hp hr
end
section
open Go.RowKit
open Tk (T4 bstr)
open Tr (Nd Blk KidsAt)

theorem node_k {a0 a2 a3 a5 : Int} {a1 : ByteArray} {x : Mn} (h : (.agg #[.int .i64 a0, .string a1, .int .i64 a2, .int .i64 a3, .slice none 0 0, .int .i64 a5] : Value) = nodeV x) (hc : x.c = []) (k : Int) :
    nodeV { x with k := k } = .agg #[.int .i64 k, .string a1, .int .i64 a2, .int .i64 a3, .slice none 0 0, .int .i64 a5] := by
  obtain ⟨xk, xt, xn, xz, xc, xa⟩ := x
  subst hc
  unfold nodeV at h ⊢
  simp only [Value.agg.injEq, Array.mk.injEq, List.cons.injEq, Value.int.injEq, Value.string.injEq, true_and, and_true] at h
  obtain ⟨_, h1, h2, h3, h4⟩ := h
  rw [h1, h2, h3, h4]

set_option maxHeartbeats 16000000 in
set_option maxRecDepth 100000 in
theorem local_fn {B T E : Nat} {ex : F3} (hin : FnC B T E 166 (initialF E ex)) : FnC B T E 231 (localF E ex) := fun w s h hr => by
  obtain ⟨r, hrr⟩ : ∃ r, r = localF E ex s := ⟨_, rfl⟩
  rw [← hrr] at hr ⊢
  obtain ⟨Q, hQ⟩ : ∃ Q : Ending → World → Prop, Q = Did B T E w r := ⟨_, rfl⟩
  rw [← hQ]
  have HQ := Lib.hid hQ
  have HR := Lib.hid hr
  have hB := h.lt
  clear hQ hr
  have Hrr0 : Hid (r = (declF E s).bind fun s1 x => buildF { x with k := 12 } [initialF E ex] s1) := hrr
  have hP0 := h
  have hdc := declared_any h
  clear hrr h
  go_enter Tryz.func231, Tryz.ntmps231
  go_wp2_with (go_at_call 163; refine hdc.mono ?_)
  rintro e w1 ⟨a0, a1, a2, a3, a5, v2, s1, rfl, hM, hd⟩
  have HM := Lib.hid hM
  have HX1 := Lib.hid hM.ext
  have HP0 := Lib.hid hP0
  clear hM hdc hP0
  cases hf : declF E s with
  | out => rw [hf] at hd; exact hd.elim
  | bad c1 b1 =>
    rw [hf] at hd
    obtain rfl : v2 = errV c1 b1 := hd
    have HRb : Hid (r = .bad c1 b1) := by have h := Hrr0.out; rw [hf] at h; exact h
    clear hf
    unfold errV
    go_wp2
    (try go_ret)
    rw [HQ.out, HRb.out]
    exact ⟨rfl, HX1.out.alloc hB _⟩
  | ok s2 x =>
    rw [hf] at hd
    obtain ⟨hv, rfl, rfl, hc⟩ := hd
    have HA := Lib.hid (node_k hv hc 12)
    have HC := Lib.hid hc
    have Hrr : Hid (r = buildF { x with k := 12 } [initialF E ex] s1) := by have h := Hrr0.out; rw [hf] at h; exact h
    have hp1 := HM.out.of HP0.out
    have HNd := Lib.hid (node_far (t := 34) (cs := #[.int .i64 12, .string a1, .int .i64 a2, .int .i64 a3, .slice none 0 0, .int .i64 a5]) hp1)
    have HX6 := Lib.hid (HX1.out.alloc hB (.cells #[.int .i64 12, .string a1, .int .i64 a2, .int .i64 a3, .slice none 0 0, .int .i64 a5] 34))
    have HP6 := Lib.hid (hp1.alloc (.cells #[.int .i64 12, .string a1, .int .i64 a2, .int .i64 a3, .slice none 0 0, .int .i64 a5] 34))
    clear hv hc hf hp1 HM HX1 HP0 Hrr0
    go_wp2
    generalize w1.alloc (.cells #[.int .i64 12, .string a1, .int .i64 a2, .int .i64 a3, .slice none 0 0, .int .i64 a5] 34) = W6 at *
    generalize w1.heap.size = g at *
    have HX0 : Hid (Ext B w W6.drew) := HX6.out.drew
    have N0 : Hid (Now B T E s1 W6.drew W6.drew) := Now.refl HP6.out.drew
    have S1 : Hid (∀ W, Ext B W6.drew W → W.cell? ⟨g, 0, none⟩ = some (.int .i64 12) ∧ W.cell? ⟨g, 1, none⟩ = some (.string a1) ∧ W.cell? ⟨g, 2, none⟩ = some (.int .i64 a2) ∧ W.cell? ⟨g, 3, none⟩ = some (.int .i64 a3) ∧ W.cell? ⟨g, 4, none⟩ = some (.slice none 0 0) ∧ W.cell? ⟨g, 5, none⟩ = some (.int .i64 a5)) := fun W hW => (box6 (HNd.out W ((Ext.refl B W6).drew.trans hW))).1
    have S0 := Lib.hid (S1.out _ (Ext.refl _ _))
    clear HNd HX6 HP6
    have HN : Hid (∀ W, Now B T E s1 W6.drew W → Calls Tryz.prog 69 #[.pointer (some ⟨B, 2, none⟩), .agg #[.int .i64 12, .string a1, .int .i64 a2, .int .i64 a3, .slice none 0 0, .int .i64 a5], .slice (some ⟨W.heap.size, 0, none⟩) 1 1] (W.alloc (.cells #[.func (.func 166) #[.pointer (some ⟨B, 0, none⟩)] #[]] 71)) (Ends B T E W6.drew r)) := fun W hW => by
        have h := build_now hW [.func (.func 166) #[.pointer (some ⟨B, 0, none⟩)] #[]] [initialF E ex] rfl (by simp) (step1 (stepFn hin ent115 W)) ({ x with k := 12 }) HC.out (by rw [← Hrr.out]; exact HR.out) 71
        rw [← Hrr.out] at h
        rw [HA.out] at h
        exact h
    go_region_held3 (fun W => W.cell? ⟨g, 0, none⟩ = some (.int .i64 12) ∧ W.cell? ⟨g, 1, none⟩ = some (.string a1) ∧ W.cell? ⟨g, 2, none⟩ = some (.int .i64 a2) ∧ W.cell? ⟨g, 3, none⟩ = some (.int .i64 a3) ∧ W.cell? ⟨g, 4, none⟩ = some (.slice none 0 0) ∧ W.cell? ⟨g, 5, none⟩ = some (.int .i64 a5))
      (first | exact S0.out | exact S1.out _ (N0.out.alloc _).1 | exact S1.out _ hx9)
      (first | (go_at_call 69; refine (HN.out _  N0.out).mono ?_; rintro e w9 ⟨v, rfl, hd, hx9⟩))
    all_goals
      have HD := Lib.hid (did_ext hd HX0.out)
      clear hd hx9
      go_wp2
      (try go_ret)
      rw [HQ.out]
      exact HD.out

set_option maxHeartbeats 16000000 in
set_option maxRecDepth 100000 in
theorem param_fn {B T E : Nat} : FnC B T E 196 (paramF E) := fun w s h hr => by
  obtain ⟨r, hrr⟩ : ∃ r, r = paramF E s := ⟨_, rfl⟩
  rw [← hrr] at hr ⊢
  obtain ⟨Q, hQ⟩ : ∃ Q : Ending → World → Prop, Q = Did B T E w r := ⟨_, rfl⟩
  rw [← hQ]
  have HQ := Lib.hid hQ
  have HR := Lib.hid hr
  have hB := h.lt
  clear hQ hr
  have Hrr0 : Hid (r = (declF E s).bind fun s1 x => buildF { x with k := 4 } [] s1) := hrr
  have hP0 := h
  have hdc := declared_any h
  clear hrr h
  go_enter Tryz.func196, Tryz.ntmps196
  go_wp2_with (go_at_call 163; refine hdc.mono ?_)
  rintro e w1 ⟨a0, a1, a2, a3, a5, v2, s1, rfl, hM, hd⟩
  have HM := Lib.hid hM
  have HX1 := Lib.hid hM.ext
  have HP0 := Lib.hid hP0
  clear hM hdc hP0
  cases hf : declF E s with
  | out => rw [hf] at hd; exact hd.elim
  | bad c1 b1 =>
    rw [hf] at hd
    obtain rfl : v2 = errV c1 b1 := hd
    have HRb : Hid (r = .bad c1 b1) := by have h := Hrr0.out; rw [hf] at h; exact h
    clear hf
    unfold errV
    go_wp2
    (try go_ret)
    rw [HQ.out, HRb.out]
    exact ⟨rfl, HX1.out.alloc hB _⟩
  | ok s2 x =>
    rw [hf] at hd
    obtain ⟨hv, rfl, rfl, hc⟩ := hd
    have HA := Lib.hid (node_k hv hc 4)
    have HC := Lib.hid hc
    have Hrr : Hid (r = buildF { x with k := 4 } [] s1) := by have h := Hrr0.out; rw [hf] at h; exact h
    have hp1 := HM.out.of HP0.out
    have HNd := Lib.hid (node_far (t := 34) (cs := #[.int .i64 4, .string a1, .int .i64 a2, .int .i64 a3, .slice none 0 0, .int .i64 a5]) hp1)
    have HX6 := Lib.hid (HX1.out.alloc hB (.cells #[.int .i64 4, .string a1, .int .i64 a2, .int .i64 a3, .slice none 0 0, .int .i64 a5] 34))
    have HP6 := Lib.hid (hp1.alloc (.cells #[.int .i64 4, .string a1, .int .i64 a2, .int .i64 a3, .slice none 0 0, .int .i64 a5] 34))
    clear hv hc hf hp1 HM HX1 HP0 Hrr0
    go_wp2
    generalize w1.alloc (.cells #[.int .i64 4, .string a1, .int .i64 a2, .int .i64 a3, .slice none 0 0, .int .i64 a5] 34) = W6 at *
    generalize w1.heap.size = g at *
    have HX0 : Hid (Ext B w W6.drew) := HX6.out.drew
    have N0 : Hid (Now B T E s1 W6.drew W6.drew) := Now.refl HP6.out.drew
    have S1 : Hid (∀ W, Ext B W6.drew W → W.cell? ⟨g, 0, none⟩ = some (.int .i64 4) ∧ W.cell? ⟨g, 1, none⟩ = some (.string a1) ∧ W.cell? ⟨g, 2, none⟩ = some (.int .i64 a2) ∧ W.cell? ⟨g, 3, none⟩ = some (.int .i64 a3) ∧ W.cell? ⟨g, 4, none⟩ = some (.slice none 0 0) ∧ W.cell? ⟨g, 5, none⟩ = some (.int .i64 a5)) := fun W hW => (box6 (HNd.out W ((Ext.refl B W6).drew.trans hW))).1
    have S0 := Lib.hid (S1.out _ (Ext.refl _ _))
    clear HNd HX6 HP6
    have HN : Hid (∀ W, Now B T E s1 W6.drew W → Calls Tryz.prog 69 #[.pointer (some ⟨B, 2, none⟩), .agg #[.int .i64 4, .string a1, .int .i64 a2, .int .i64 a3, .slice none 0 0, .int .i64 a5], .slice none 0 0] W (Ends B T E W6.drew r)) := fun W hW => by
        have h := (build_nil hW.2 ({ x with k := 4 }) HC.out (by rw [← Hrr.out]; exact HR.out)).mono fun e w1 he => (show Ends B T E W6.drew _ e w1 from by obtain ⟨v, rfl, hd, hx⟩ := he; exact ⟨v, rfl, did_ext hd hW.1, hW.1.trans hx⟩)
        rw [← Hrr.out] at h
        rw [HA.out] at h
        exact h
    go_region_held3 (fun W => W.cell? ⟨g, 0, none⟩ = some (.int .i64 4) ∧ W.cell? ⟨g, 1, none⟩ = some (.string a1) ∧ W.cell? ⟨g, 2, none⟩ = some (.int .i64 a2) ∧ W.cell? ⟨g, 3, none⟩ = some (.int .i64 a3) ∧ W.cell? ⟨g, 4, none⟩ = some (.slice none 0 0) ∧ W.cell? ⟨g, 5, none⟩ = some (.int .i64 a5))
      (first | exact S0.out | exact S1.out _ (N0.out.alloc _).1 | exact S1.out _ hx9)
      (first | (go_at_call 69; refine (HN.out _  N0.out).mono ?_; rintro e w9 ⟨v, rfl, hd, hx9⟩))
    all_goals
      have HD := Lib.hid (did_ext hd HX0.out)
      clear hd hx9
      go_wp2
      (try go_ret)
      rw [HQ.out]
      exact HD.out
end
section
open Go.RowKit
open Tk (T4 bstr)
open Tr (Nd Blk KidsAt)

theorem sees_yesb {B T E : Nat} {w : World} {s : S3} (h : Ps B T E w s) (x : ByteArray) {l : List UInt8} (hl : x.data.toList = l) (ht : (pk E s.L).t = l) :
    Calls Tryz.prog 164 #[.pointer (some ⟨B, 0, none⟩), .string x] w fun e w' => e = .returned (.bool true) ∧ Below w.heap.size w w' := by
  refine (sees_any h x).mono fun e w' ⟨he, hb⟩ => ⟨?_, hb⟩
  rw [he, hl, decide_eq_true ht]
theorem sees_nob {B T E : Nat} {w : World} {s : S3} (h : Ps B T E w s) (x : ByteArray) {l : List UInt8} (hl : x.data.toList = l) (ht : (pk E s.L).t ≠ l) :
    Calls Tryz.prog 164 #[.pointer (some ⟨B, 0, none⟩), .string x] w fun e w' => e = .returned (.bool false) ∧ Below w.heap.size w w' := by
  refine (sees_any h x).mono fun e w' ⟨he, hb⟩ => ⟨?_, hb⟩
  rw [he, hl, decide_eq_false ht]
theorem node_n {a0 a2 a3 a5 : Int} {a1 : ByteArray} {x : Mn} (h : (.agg #[.int .i64 a0, .string a1, .int .i64 a2, .int .i64 a3, .slice none 0 0, .int .i64 a5] : Value) = nodeV x) : x.n = a2 := by
  obtain ⟨xk, xt, xn, xz, xc, xa⟩ := x
  unfold nodeV at h
  simp only [Value.agg.injEq, Array.mk.injEq, List.cons.injEq, Value.int.injEq, Value.string.injEq, true_and, and_true] at h
  exact h.2.2.1.symm
/-- what function and array do -/
def NdC (B T E : Nat) (id : FuncId) (f : Mn → F3) : Prop := ∀ (a0 : Int) (a1 : ByteArray) (a2 a3 a5 : Int) (x : Mn), (.agg #[.int .i64 a0, .string a1, .int .i64 a2, .int .i64 a3, .slice none 0 0, .int .i64 a5] : Value) = nodeV x → x.c = [] → ∀ w s, Ps B T E w s → f x s ≠ .out →
  Calls Tryz.prog id #[.pointer (some ⟨B, 0, none⟩), .agg #[.int .i64 a0, .string a1, .int .i64 a2, .int .i64 a3, .slice none 0 0, .int .i64 a5]] w (Did B T E w (f x s))
/-- the functions and globals of a unit, up to its end -/
def globsF (fam : Nat → F3) : Nat → F3
  | 0 => fun _ => .out
  | m + 1 => fun s => if s.L = [] then .ok s else (fam m s).bind (globsF fam m)

set_option maxHeartbeats 16000000 in
set_option maxRecDepth 100000 in
theorem globals_fn {B T E n : Nat} {fam : Nat → F3} (hit : ∀ m, m < n → FnC B T E 124 (fam m)) : FnC B T E 70 (globsF fam n) := fun w s h hr => by
  obtain ⟨r, hrr⟩ : ∃ r, r = globsF fam n s := ⟨_, rfl⟩
  rw [← hrr] at hr ⊢
  obtain ⟨Q, hQ⟩ : ∃ Q : Ending → World → Prop, Q = Did B T E w r := ⟨_, rfl⟩
  rw [← hQ]
  have HQ := Lib.hid hQ
  have HR := Lib.hid hr
  have hB := h.lt
  clear hQ hr
  have Hrr := Lib.hid hrr
  have HIt := Lib.hid hit
  have HP0 := Lib.hid h
  clear hrr hit h
  go_enter Tryz.func70, Tryz.ntmps70
  go_wp2
  go_loopg [] n (fun k wr => ∃ s2, k ≤ n ∧ Hid (r = globsF fam k s2) ∧ Ext B w wr ∧ Ps B T E wr s2)
  case atStart => exact ⟨s, Nat.le_refl _, Hrr, Ext.refl _ _, HP0.out⟩
  case round =>
    obtain ⟨s2, hk, HK, hx, hp⟩ := hrel
    have HXr := Lib.hid hx
    have HPr := Lib.hid hp
    clear hx hp HP0 Hrr
    cases gk with
    | zero => exact absurd HK.out HR.out
    | succ m =>
      have HK2 : Hid (r = if s2.L = [] then .ok s2 else (fam m s2).bind (globsF fam m)) := HK.out
      clear HK
      have hen := ended_any HPr.out
      by_cases hl : s2.L = []
      · have hd : decide (s2.L.length = 0) = true := by rw [hl]; rfl
        rw [hd] at hen
        have HR2 : Hid (r = .ok s2) := by have h := HK2.out; rw [if_pos hl] at h; exact h
        clear hd hl HK2
        go_wp2_with (go_at_call 78; refine hen.mono ?_; rintro e w' ⟨rfl, rfl⟩)
        (try go_wp2)
        (try go_ret)
        rw [HQ.out, HR2.out]
        exact ⟨rfl, HXr.out, HPr.out⟩
      · have hd : decide (s2.L.length = 0) = false := by
          cases h2 : s2.L with
          | nil => exact absurd h2 hl
          | cons a b => rfl
        rw [hd] at hen
        have HK3 : Hid (r = (fam m s2).bind (globsF fam m)) := by have h := HK2.out; rw [if_neg hl] at h; exact h
        have hne : fam m s2 ≠ .out := fun e => HR.out (by rw [HK3.out, e]; rfl)
        have hcall := HIt.out m (by omega) wr s2 HPr.out hne
        clear hd hl HK2 hne
        go_wp2_with (first | (go_at_call 78; refine hen.mono ?_; rintro e w' ⟨rfl, rfl⟩) | (go_at_call 124; refine hcall.mono ?_))
        intro e w8 hd
        cases hf : fam m s2 with
        | out => exact absurd (by rw [HK3.out, hf]; rfl) HR.out
        | bad c1 b1 =>
          rw [hf] at hd
          obtain ⟨rfl, hx8⟩ := hd
          have HX8 := Lib.hid (HXr.out.trans hx8)
          have HRb : Hid (r = .bad c1 b1) := by have h := HK3.out; rw [hf] at h; exact h
          clear hcall hf hx8 hen
          unfold errV
          go_wp2
          (try go_ret)
          rw [HQ.out, HRb.out]
          exact ⟨rfl, HX8.out⟩
        | ok s3 =>
          rw [hf] at hd
          obtain ⟨rfl, hx8, hp8⟩ := hd
          have HX8 := Lib.hid (HXr.out.trans hx8)
          have HP8 := Lib.hid hp8
          have HK5 : Hid (r = globsF fam m s3) := by have h := HK3.out; rw [hf] at h; exact h
          clear hcall hf hx8 hp8 hen HK3
          go_wp2
          go_roundg m
          case rel => exact ⟨s3, by omega, HK5, HX8.out, HP8.out⟩
          case measure => omega

set_option maxHeartbeats 16000000 in
set_option maxRecDepth 100000 in
theorem unit_fn {B T E : Nat} {gl : F3} (hgl : FnC B T E 70 gl) : FnC B T E 37 (buildF (mk 1 [] 0 0) [gl]) := fun w s h hr => by
  obtain ⟨r, hrr⟩ : ∃ r, r = buildF (mk 1 [] 0 0) [gl] s := ⟨_, rfl⟩
  rw [← hrr] at hr ⊢
  obtain ⟨Q, hQ⟩ : ∃ Q : Ending → World → Prop, Q = Did B T E w r := ⟨_, rfl⟩
  rw [← hQ]
  have HQ := Lib.hid hQ
  have HR := Lib.hid hr
  have hB := h.lt
  clear hQ hr
  have hcall := build_now (Now.refl h) [.func (.func 70) #[.pointer (some ⟨B, 0, none⟩)] #[]] [gl] rfl (by simp) (step1 (stepFn hgl ent61 w)) (mk 1 [] 0 0) rfl (by rw [← hrr]; exact HR.out) 71
  rw [← hrr] at hcall
  have hc2 : Calls Tryz.prog 69 #[.pointer (some ⟨B, 2, none⟩), .agg #[.int .i64 1, .string ⟨#[]⟩, .int .i64 0, .int .i64 0, .slice none 0 0, .int .i64 0], .slice (some ⟨w.heap.size, 0, none⟩) 1 1] (w.alloc (.cells #[.func (.func 70) #[.pointer (some ⟨B, 0, none⟩)] #[]] 71)) (Ends B T E w r) := hcall
  clear hcall hrr h
  go_enter Tryz.func37, Tryz.ntmps37
  go_wp2_with (go_at_call 69; refine hc2.mono ?_)
  rintro e w2 ⟨v, rfl, hd, hx⟩
  have HD := Lib.hid hd
  clear hd hx hc2
  go_wp2
  (try go_ret)
  rw [HQ.out]
  exact HD.out

def globF (E n : Nat) (fnf : Mn → F3) (ex : F3) (fam : Nat → F3) : F3 := fun s =>
  if (pk E s.L).t = [118, 111, 105, 100] then (namedF E 0 { s with L := s.L.tail }).bind fun s1 x => fnf x s1
  else (declF E s).bind fun s1 x => if (pk E s1.L).t = [40] then fnf x s1 else if (pk E s1.L).t = [91] ∧ x.n = 1 then arrayF E x fam n s1 else buildF { x with k := 2 } [initialF E ex, wordF E [59]] s1

set_option maxHeartbeats 16000000 in
set_option maxRecDepth 100000 in
theorem glob_void {B T E n : Nat} {fnf : Mn → F3} {ex : F3} {fam : Nat → F3} (hfn : NdC B T E 162 fnf) {w : World} {s : S3} (h : Ps B T E w s) (ht : (pk E s.L).t = [118, 111, 105, 100]) (hr : globF E n fnf ex fam s ≠ .out) :
    Calls Tryz.prog 124 #[.pointer (some ⟨B, 0, none⟩)] w (Did B T E w (globF E n fnf ex fam s)) := by
  obtain ⟨r, hrr⟩ : ∃ r, r = globF E n fnf ex fam s := ⟨_, rfl⟩
  rw [← hrr] at hr ⊢
  obtain ⟨Q, hQ⟩ : ∃ Q : Ending → World → Prop, Q = Did B T E w r := ⟨_, rfl⟩
  rw [← hQ]
  have HQ := Lib.hid hQ
  have HR := Lib.hid hr
  have hB := h.lt
  clear hQ hr
  have htk := took_yes h ⟨#[118, 111, 105, 100]⟩ rfl ht
  have Hrr0 : Hid (r = (namedF E 0 { s with L := s.L.tail }).bind fun s1 x => fnf x s1) := by
    show r = _
    rw [hrr]; unfold globF; rw [if_pos ht]
  have HFn := Lib.hid hfn
  clear hrr h ht hfn
  go_enter Tryz.func124, Tryz.ntmps124
  go_wp2_with (go_at_call 133; refine htk.mono ?_; rintro e w1 ⟨rfl, hx1, hp1⟩)
  have hnm := named_any hp1 0
  have HX1 := Lib.hid hx1
  have HP1 := Lib.hid hp1
  clear hx1 hp1 htk
  go_wp2_with (go_at_call 161; refine hnm.mono ?_)
  rintro e w2 ⟨a0, a1, a2, a3, a5, v2, s1, rfl, hM, hd⟩
  have HM := Lib.hid hM
  have hB2 : B < w2.heap.size := (hM.of HP1.out).lt
  have HX2 := Lib.hid (HX1.out.trans hM.ext)
  clear hM hnm
  cases hf : namedF E 0 { s with L := s.L.tail } with
  | out => rw [hf] at hd; exact hd.elim
  | bad c1 b1 =>
    rw [hf] at hd
    obtain rfl : v2 = errV c1 b1 := hd
    have HRb : Hid (r = .bad c1 b1) := by have h := Hrr0.out; rw [hf] at h; exact h
    clear hf
    unfold errV
    go_wp2
    (try go_ret)
    rw [HQ.out, HRb.out]
    exact ⟨rfl, HX2.out.alloc hB _⟩
  | ok s2 x =>
    rw [hf] at hd
    obtain ⟨hv, rfl, rfl, hc⟩ := hd
    have Hrr : Hid (r = fnf x s1) := by have h := Hrr0.out; rw [hf] at h; exact h
    have hp2 := HM.out.of HP1.out
    have hcall := HFn.out a0 a1 a2 a3 a5 x hv hc (w2.alloc (.cells #[.int .i64 a0, .string a1, .int .i64 a2, .int .i64 a3, .slice none 0 0, .int .i64 a5] 34)) s1 (hp2.alloc _) (by rw [← Hrr.out]; exact HR.out)
    rw [← Hrr.out] at hcall
    have HX6 := Lib.hid (HX2.out.alloc hB (.cells #[.int .i64 a0, .string a1, .int .i64 a2, .int .i64 a3, .slice none 0 0, .int .i64 a5] 34))
    clear hv hc hf HM HX1 HP1 Hrr0 hp2
    go_wp2_with (go_at_call 162; refine hcall.mono ?_)
    intro e w3 hd
    obtain ⟨v, rfl, hd⟩ := did_ret hd HR.out
    have HD := Lib.hid (did_ext hd HX6.out)
    clear hd hcall
    go_wp2
    (try go_ret)
    rw [HQ.out]
    exact HD.out
end
end Go.Proofs.YtmghjfphlneblaaGreatDoor
