/-
  Joined texts of this claim: Qd, Gc, Qe, Gd.
-/
import Derived.Test.YtbjacclfhgnffaaGreatDoorY12
set_option linter.unusedVariables false
set_option linter.unusedSimpArgs false
/-
  Contracts of the cursor's functions that go past a word.
-/
namespace Go.Proofs.YtbjacclfhgnffaaGreatDoor
open Go.RowKit
open Tk (T4 bstr)
open Tr (Nd Blk KidsAt)

theorem box4 {w : World} {g : Nat} {t : TypeId} {x0 x1 x2 x3 : Value} (h : Blk w g t #[x0, x1, x2, x3]) :
    (w.cell? ⟨g, 0, none⟩ = some x0 ∧ w.cell? ⟨g, 1, none⟩ = some x1 ∧ w.cell? ⟨g, 2, none⟩ = some x2 ∧ w.cell? ⟨g, 3, none⟩ = some x3) ∧
    (w.frozen? ⟨g, 0, none⟩ = false ∧ w.frozen? ⟨g, 1, none⟩ = false ∧ w.frozen? ⟨g, 2, none⟩ = false ∧ w.frozen? ⟨g, 3, none⟩ = false) ∧ g < w.heap.size :=
  ⟨⟨by rw [h.cell]; rfl, by rw [h.cell]; rfl, by rw [h.cell]; rfl, by rw [h.cell]; rfl⟩, ⟨h.frozen 0, h.frozen 1, h.frozen 2, h.frozen 3⟩, h.lt⟩
/-- a token stored into a box of its kind -/
def set4 (w : World) (g : Nat) (y0 y1 y2 y3 : Value) : World := (((w.setCell ⟨g, 0, none⟩ y0).setCell ⟨g, 1, none⟩ y1).setCell ⟨g, 2, none⟩ y2).setCell ⟨g, 3, none⟩ y3

set_option maxHeartbeats 4000000 in
set_option maxRecDepth 100000 in
theorem take_nil {B T E : Nat} {w : World} {s : S3} (h : Ps B T E w s) (hl : s.L = []) :
    Calls Tryz.prog 106 #[.pointer (some ⟨B, 0, none⟩)] w fun e w' => e = .returned (tokV (pk E [])) ∧ Below w.heap.size w w' := by
  obtain ⟨x0, hx0⟩ : ∃ x0, x0 = bstr (pk E []).t := ⟨_, rfl⟩
  have hp := peek_any (h.alloc (.cells #[.int .i64 0, .string ⟨#[]⟩, .int .i64 0, .int .i64 0] 82))
  have hB := h.lt
  unfold tokV at hp ⊢
  rw [hl] at hp
  rw [← hx0] at hp ⊢
  generalize pk E [] = t at *
  have H := Lib.hid h
  have Hl := Lib.hid hl
  clear h hl hx0
  go_enter Tryz.func106, Tryz.ntmps106
  go_wp2_with (go_at_call 59; refine hp.mono ?_; rintro e w1 ⟨rfl, hb⟩)
  have hb1 : Below w.heap.size w w1 := ((Below.refl _ _).alloc (Nat.le_refl _) _).trans (hb.mono (by simp))
  have HB := Lib.hid hb1
  have hs1 := H.out.below hb1
  have k0 : w1.heap[w.heap.size]? = some (.cells #[.int .i64 0, .string ⟨#[]⟩, .int .i64 0, .int .i64 0] 82 (0, 0)) := (hb.block _ (by simp)).trans (heap_alloc_new w _)
  have K0 : Hid (Blk w1 w.heap.size 82 #[.int .i64 0, .string ⟨#[]⟩, .int .i64 0, .int .i64 0]) := k0
  obtain ⟨⟨c0, c1, c2, c3⟩, ⟨f0, f1, f2, f3⟩, lK⟩ := box4 K0.out
  have he := ended_any (hs1.alloc (.cells #[.int .i64 t.k, .string x0, .int .i64 t.v, .int .i64 t.a] 82))
  have hd : decide (s.L.length = 0) = true := by rw [Hl.out]; rfl
  rw [hd] at he
  clear hb hb1 hs1 k0 hd
  go_wp2_with (go_at_call 63; refine he.mono ?_; rintro e w' ⟨rfl, rfl⟩)
  refine bodyPost_ret (v := .agg #[.int .i64 t.k, .string x0, .int .i64 t.v, .int .i64 t.a]) (by simp [results, Tryz.results106, go_sem, c0, c1, c2, c3, lK]) rfl ?_
  exact ⟨rfl, ((((HB.out.setCell (p := ⟨w.heap.size, 0, none⟩) (Nat.le_refl _) _).setCell (p := ⟨w.heap.size, 1, none⟩) (Nat.le_refl _) _).setCell (p := ⟨w.heap.size, 2, none⟩) (Nat.le_refl _) _).setCell (p := ⟨w.heap.size, 3, none⟩) (Nat.le_refl _) _).alloc (by simp [World.setCell]; omega) _⟩

theorem below_set {n : Nat} {w w1 : World} (h : Below n w w1) (p : Addr) (v : Value) : Below n (w.setCell p v) (w1.setCell p v) :=
  ⟨h.os, h.tape, h.output, by simpa [World.setCell] using h.size, fun k hk => by simp only [World.setCell, Array.getElem?_modify]; rw [h.block k hk]⟩
theorem take_close {B T E : Nat} {w w1 : World} {s : S3} {vT vN vL v : Value} {ns : List Nd} {L : List T4} (h : PS B T E w s vT vN vL ns) (ht : Toks B w v L) (hL : L.length ≤ 5000000) (hb : Below w.heap.size w w1)
    {y0 y1 y2 y3 : Value} {o : Obj} : Ext B w ((((((w1.setCell ⟨B, 0, none⟩ v).setCell ⟨w.heap.size, 0, none⟩ y0).setCell ⟨w.heap.size, 1, none⟩ y1).setCell ⟨w.heap.size, 2, none⟩ y2).setCell ⟨w.heap.size, 3, none⟩ y3).alloc o) ∧
      Ps B T E ((((((w1.setCell ⟨B, 0, none⟩ v).setCell ⟨w.heap.size, 0, none⟩ y0).setCell ⟨w.heap.size, 1, none⟩ y1).setCell ⟨w.heap.size, 2, none⟩ y2).setCell ⟨w.heap.size, 3, none⟩ y3).alloc o) { s with L := L } := by
  have hW : Below (w.setCell ⟨B, 0, none⟩ v).heap.size (w.setCell ⟨B, 0, none⟩ v) ((((((w1.setCell ⟨B, 0, none⟩ v).setCell ⟨w.heap.size, 0, none⟩ y0).setCell ⟨w.heap.size, 1, none⟩ y1).setCell ⟨w.heap.size, 2, none⟩ y2).setCell ⟨w.heap.size, 3, none⟩ y3).alloc o) := by
    have e : (w.setCell ⟨B, 0, none⟩ v).heap.size = w.heap.size := by simp [World.setCell]
    have hs := hb.size
    rw [e]
    exact (((((below_set hb _ _).setCell (p := ⟨w.heap.size, 0, none⟩) (Nat.le_refl _) _).setCell (p := ⟨w.heap.size, 1, none⟩) (Nat.le_refl _) _).setCell (p := ⟨w.heap.size, 2, none⟩) (Nat.le_refl _) _).setCell (p := ⟨w.heap.size, 3, none⟩) (Nat.le_refl _) _).alloc (by simpa [World.setCell] using hs) _
  have hp := h.set0 ht hL
  exact ⟨(ext_set0 h.box v).trans (Ext.below hW hp.lt), ⟨_, _, _, _, hp.below hW⟩⟩

set_option maxHeartbeats 4000000 in
set_option maxRecDepth 100000 in
theorem take_cons {B T E : Nat} {w : World} {s : S3} (h : Ps B T E w s) {t : T4} {L : List T4} (hl : s.L = t :: L) :
    Calls Tryz.prog 106 #[.pointer (some ⟨B, 0, none⟩)] w fun e w' => e = .returned (tokV t) ∧ Ext B w w' ∧ Ps B T E w' { s with L := L } := by
  obtain ⟨x0, hx0⟩ : ∃ x0, x0 = bstr t.t := ⟨_, rfl⟩
  have hp := peek_any (h.alloc (.cells #[.int .i64 0, .string ⟨#[]⟩, .int .i64 0, .int .i64 0] 82))
  have hB := h.lt
  unfold tokV at hp ⊢
  rw [hl] at hp
  change Calls _ _ _ _ (fun e w' => e = .returned (.agg #[.int .i64 t.k, .string (bstr t.t), .int .i64 t.v, .int .i64 t.a]) ∧ _) at hp
  rw [← hx0] at hp ⊢
  have H := Lib.hid h
  have Hl := Lib.hid hl
  clear h hl hx0
  obtain ⟨Q, hQ⟩ : ∃ Q : Ending → World → Prop, Q = fun e w' => e = .returned (.agg #[.int .i64 t.k, .string x0, .int .i64 t.v, .int .i64 t.a]) ∧ Ext B w w' ∧ Ps B T E w' { s with L := L } := ⟨_, rfl⟩
  have HQ := Lib.hid hQ
  rw [← hQ]
  clear hQ
  go_enter Tryz.func106, Tryz.ntmps106
  go_wp2_with (go_at_call 59; refine hp.mono ?_; rintro e w1 ⟨rfl, hb⟩)
  have hb1 : Below w.heap.size w w1 := ((Below.refl _ _).alloc (Nat.le_refl _) _).trans (hb.mono (by simp))
  have HB := Lib.hid hb1
  have hs1 := H.out.below hb1
  have HS := Lib.hid hs1
  have k0 : w1.heap[w.heap.size]? = some (.cells #[.int .i64 0, .string ⟨#[]⟩, .int .i64 0, .int .i64 0] 82 (0, 0)) := (hb.block _ (by simp)).trans (heap_alloc_new w _)
  have K0 : Hid (Blk w1 w.heap.size 82 #[.int .i64 0, .string ⟨#[]⟩, .int .i64 0, .int .i64 0]) := k0
  obtain ⟨⟨c0, c1, c2, c3⟩, ⟨f0, f1, f2, f3⟩, lK⟩ := box4 K0.out
  have he := ended_any (hs1.alloc (.cells #[.int .i64 t.k, .string x0, .int .i64 t.v, .int .i64 t.a] 82))
  have hd : decide (s.L.length = 0) = false := by rw [Hl.out]; simp
  rw [hd] at he
  obtain ⟨vT, vN, vL, ns, h1⟩ := H.out
  obtain ⟨p, cap, rfl, q1, q2, q3⟩ := h1.tok
  have hlen : s.L.length = L.length + 1 := by rw [Hl.out]; rfl
  obtain ⟨b, o, rfl, hlb, hnb, ht⟩ := q3 (by omega)
  have lB : B < w1.heap.size := Nat.lt_of_lt_of_le hB HB.out.size
  have hm := h1.lenL
  have g0 : w1.cell? ⟨B, 0, none⟩ = some (.slice (some ⟨b, o, none⟩) (L.length + 1) cap) := by rw [HB.out.cell (p := ⟨B, 0, none⟩) hB, h1.box.cell, ← hlen]; rfl
  have gf : w1.frozen? ⟨B, 0, none⟩ = false := (HB.out.frozen (p := ⟨B, 0, none⟩) hB).trans (h1.box.frozen 0)
  have hne : B ≠ w.heap.size := by omega
  have HP := Lib.hid h1
  rw [hlen] at q1 hm
  have HTt : Hid (1 < cap → Toks B w (.slice (some ⟨b, o + 4, none⟩) L.length (cap - 1)) L) := fun _ => toks_tail (t := t) rfl q1 q2 hlb hnb (by rw [← Hl.out]; exact ht)
  have Hm : Hid (L.length ≤ 5000000) := Lib.hid (by omega)
  clear hb hb1 k0 hd h1 q3 ht hlen hnb hlb HS
  by_cases hcap : cap = 1
  · subst hcap
    have hL0 : L.length = 0 := by omega
    have HL0 : Hid (L = []) := List.eq_nil_of_length_eq_zero hL0
    rw [hL0] at g0 q1 hm
    clear hL0 HTt
    go_wp2_with (go_at_call 63; refine he.mono ?_; rintro e w' ⟨rfl, rfl⟩)
    refine bodyPost_ret (v := .agg #[.int .i64 t.k, .string x0, .int .i64 t.v, .int .i64 t.a]) (by simp [results, Tryz.results106, go_sem, c0, c1, c2, c3, lK, hne]) rfl ?_
    rw [HQ.out]
    exact ⟨rfl, take_close HP.out (by rw [HL0.out]; exact toks_none) Hm.out HB.out⟩
  · have hc1 : 1 < cap := by omega
    have HT2 := Lib.hid (HTt.out hc1)
    clear HTt
    go_wp2_with (go_at_call 63; refine he.mono ?_; rintro e w' ⟨rfl, rfl⟩)
    refine bodyPost_ret (v := .agg #[.int .i64 t.k, .string x0, .int .i64 t.v, .int .i64 t.a]) (by simp [results, Tryz.results106, go_sem, c0, c1, c2, c3, lK, hne]) rfl ?_
    rw [HQ.out]
    exact ⟨rfl, take_close HP.out HT2.out Hm.out HB.out⟩
theorem take_any {B T E : Nat} {w : World} {s : S3} (h : Ps B T E w s) :
    Calls Tryz.prog 106 #[.pointer (some ⟨B, 0, none⟩)] w fun e w' => e = .returned (tokV (pk E s.L)) ∧ Ext B w w' ∧ Ps B T E w' { s with L := s.L.tail } := by
  cases hl : s.L with
  | nil => exact (take_nil h hl).mono fun e w' ⟨he, hb⟩ => ⟨he, Ext.below hb h.lt, by have := h.below hb; obtain ⟨L, N, O⟩ := s; cases hl; exact this⟩
  | cons t L => exact take_cons h hl
end Go.Proofs.YtbjacclfhgnffaaGreatDoor
/-
  Plain: the parser of expressions leaves one expression more, in its form.
-/
namespace Go.Proofs.YtbjacclfhgnffaaGreatDoor
open Go.RowKit
open Tk (T4 bstr)
open Tr

def EE (ks : List Int) : Prop := ∀ k, k ∈ ks → exprB k = true
def OneE (ks : List Int) : Prop := ∃ k, ks = [k] ∧ exprB k = true
theorem exprB_iff {k : Int} : exprB k = true ↔ 31 ≤ k ∧ k ≤ 40 := by unfold exprB; rw [decide_eq_true_eq]
theorem bstr_back (t : List UInt8) : (bstr t).toList = t := by
  rw [Lib.toList_data]; rfl
theorem goE {k i m kid : Int} (hk : exprB k = true) : goB k i m kid = exprB kid := by
  rw [exprB_iff] at hk
  unfold goB
  rw [if_neg (by omega), if_neg (by omega), if_neg (by omega), if_neg (by omega), if_neg (by omega), if_neg (by omega), if_neg (by omega)]
theorem field_of {k : Int} {t : ByteArray} {n z : Int} {m : Nat} {a : Int} (h1 : namedB k = true → nameB t = true) (h2 : namedB k = false → signB k t = true) (h3 : numB k n z m = true) (h4 : 0 ≤ a) : fieldV k t n z m a = 0 := by
  unfold fieldV
  rw [if_neg (by intro h; rw [h1 h.1] at h; exact absurd h.2 (by decide)), if_neg (by intro h; rw [h2 h.1] at h; exact absurd h.2 (by decide)), if_neg (by rw [h3]; intro h; rcases h with h | h; exact absurd h (by decide); omega)]
theorem okE {k : Int} {t : ByteArray} {n a : Int} {ks : List Int} (hk : exprB k = true) (lo : lowV k ≤ ks.length) (hi : (ks.length : Int) ≤ highV 9223372036854775807 k) (he : EE ks)
    (h1 : namedB k = true → nameB t = true) (h2 : namedB k = false → signB k t = true) (h3 : numB k n 0 ks.length = true) (h4 : 0 ≤ a) : OkN k t n 0 a ks where
  kind := by rw [exprB_iff] at hk; unfold kindB; rw [decide_eq_true_eq]; omega
  low := lo
  high := hi
  go := fun i h => by rw [goE hk]; exact he _ (List.getElem_mem h)
  field := field_of h1 h2 h3 h4
theorem level_both {t : List UInt8} (h : levelT t = 2 ∨ levelT t = 3) : t ∈ bothS := by
  unfold levelT at h
  split at h
  · next h1 => subst h1; decide
  · split at h
    · next h1 => subst h1; decide
    · exfalso; revert h; (repeat' split) <;> omega
theorem level_two {t : List UInt8} (h : 4 ≤ levelT t) : t ∈ twoA ++ twoC := by
  unfold levelT at h
  repeat' split at h
  all_goals first
    | omega
    | (next h1 => subst h1; decide)
    | (next h1 => rcases h1 with h1 | h1 <;> subst h1 <;> decide)
    | (next h1 => rcases h1 with h1 | h1 | h1 <;> subst h1 <;> decide)
    | (next h1 => rcases h1 with h1 | h1 | h1 | h1 <;> subst h1 <;> decide)
theorem levelG_le (t : List UInt8) : levelT t ≤ 11 := by
  unfold levelT
  repeat' split
  all_goals omega
theorem okPair {t : List UInt8} {a k1 k2 : Int} (ht : 2 ≤ levelT t) (ha : 0 ≤ a) (h1 : exprB k1 = true) (h2 : exprB k2 = true) : OkN (pairK (levelT t)) (bstr t) 0 0 a [k1, k2] := by
  have he : EE [k1, k2] := by intro k hk; rcases List.mem_cons.1 hk with rfl | hk; exact h1; rw [List.mem_singleton] at hk; subst hk; exact h2
  by_cases hb : levelT t = 2 ∨ levelT t = 3
  · have : pairK (levelT t) = 37 := by unfold pairK; rw [if_pos hb]
    rw [this]
    refine okE (by decide) (show lowV _ ≤ ((2 : Nat) : Int) by decide) (show ((2 : Nat) : Int) ≤ highV _ _ by decide) he (fun h => absurd h (by decide)) (fun _ => ?_) rfl ha
    show bothB (bstr t) = true
    unfold bothB; rw [bstr_back, decide_eq_true_eq]; exact level_both hb
  · have : pairK (levelT t) = 36 := by unfold pairK; rw [if_neg hb]
    rw [this]
    refine okE (by decide) (show lowV _ ≤ ((2 : Nat) : Int) by decide) (show ((2 : Nat) : Int) ≤ highV _ _ by decide) he (fun h => absurd h (by decide)) (fun _ => ?_) rfl ha
    show twoB (bstr t) = true
    unfold twoB; rw [bstr_back, decide_eq_true_eq]; exact level_two (by omega)
theorem pairK_expr (l : Nat) : exprB (pairK l) = true := by unfold pairK; split <;> rfl

/-- the last loose node is an expression, from a mark on: it stays so -/
def TopR (s : S3) (os : List Nat) (r : R3) : Prop := match r with
  | .ok s' => ∃ o', Grew s s' os [o'] ∧ exprB (kindAt (nds s') o') = true
  | _ => True
def GivesTop (mark : Nat) (s : S3) (r : R3) : Prop := ∀ os o, InvF s (os ++ [o]) → os.length = mark → exprB (kindAt (nds s) o) = true → TopR s os r
theorem GivesTop.stay (mark : Nat) (s : S3) : GivesTop mark s (.ok s) := fun _ o h _ he => ⟨o, ⟨h, [], by rw [List.append_nil]⟩, he⟩
theorem GivesTop.moved {mark : Nat} {s s1 : S3} {r : R3} (m : Moved s s1) (h : GivesTop mark s1 r) : GivesTop mark s r := by
  intro os o hi hl he
  have := h os o (hi.moved m) hl (by unfold nds; rw [m.N]; exact he)
  cases r with
  | bad c a => trivial
  | out => trivial
  | ok s' =>
    obtain ⟨o', hg, hp⟩ := this
    obtain ⟨M, hM⟩ := hg.more
    exact ⟨o', ⟨hg.inv, M, by rw [hM, m.N]⟩, hp⟩
theorem GivesTop.bind {mark : Nat} {s : S3} {r : R3} {f : F3} (h : GivesTop mark s r) (hf : ∀ s', r = .ok s' → GivesTop mark s' (f s')) : GivesTop mark s (r.bind f) := by
  intro os o hi hl he
  have h1 := h os o hi hl he
  cases r with
  | bad c a => trivial
  | out => trivial
  | ok s1 =>
    obtain ⟨o1, hg, hp⟩ := h1
    have h2 := hf s1 rfl os o1 hg.inv hl hp
    show TopR s os (f s1)
    cases hr : f s1 with
    | bad c a => trivial
    | out => trivial
    | ok s2 =>
      rw [hr] at h2
      obtain ⟨o2, hg2, hq⟩ := h2
      obtain ⟨M1, hM1⟩ := hg.more
      obtain ⟨M2, hM2⟩ := hg2.more
      exact ⟨o2, ⟨hg2.inv, M1 ++ M2, by rw [hM2, hM1, List.append_assoc]⟩, hq⟩
theorem GivesAt.top {s : S3} {r : R3} {f : F3} (h : GivesAt s r OneE) (hf : ∀ s', r = .ok s' → GivesTop s.O.length s' (f s')) : GivesAt s (r.bind f) OneE := by
  intro os hi
  have h1 := h os hi
  cases r with
  | bad c a => trivial
  | out => trivial
  | ok s1 =>
    obtain ⟨new, hg, k, hk, he⟩ := h1
    have hn : ∃ o, new = [o] ∧ kindAt (nds s1) o = k := by
      unfold kindsOf at hk
      rcases new with _ | ⟨o, _ | ⟨o2, l⟩⟩
      · cases hk
      · injection hk with hk; exact ⟨o, rfl, hk⟩
      · injection hk with _ hk; cases hk
    obtain ⟨o, rfl, ho⟩ := hn
    have h2 := hf s1 rfl os o hg.inv (by rw [hi.loose, castL_length]) (by rw [ho]; exact he)
    show match f s1 with
      | .ok s' => ∃ new, Grew s s' os new ∧ OneE (kindsOf s' new)
      | _ => True
    cases hr : f s1 with
    | bad c a => trivial
    | out => trivial
    | ok s2 =>
      rw [hr] at h2
      obtain ⟨o2, hg2, hq⟩ := h2
      obtain ⟨M1, hM1⟩ := hg.more
      obtain ⟨M2, hM2⟩ := hg2.more
      exact ⟨[o2], ⟨hg2.inv, M1 ++ M2, by rw [hM2, hM1, List.append_assoc]⟩, _, rfl, hq⟩
/-- a node over the last expression and what its steps leave -/
theorem ext_top {x : Mn} {fs : List F3} {P : List Int → Prop} (mark : Nat) (s : S3) (h : GivesAt s (seqF fs s) P) (hx : ∀ k ks, exprB k = true → P ks → OkN x.k (bstr x.t) x.n x.z x.a (k :: ks)) (hk : exprB x.k = true) : GivesTop mark s (extF mark x fs s) := by
  intro os o hi hl he
  unfold extF
  have h1 := h (os ++ [o]) hi
  cases hs : seqF fs s with
  | bad c a => trivial
  | out => trivial
  | ok s1 =>
    rw [hs] at h1
    obtain ⟨new, hg, hp⟩ := h1
    show TopR s os (addF x mark s1)
    subst hl
    cases ha : addF x os.length s1 with
    | bad c a => trivial
    | out => trivial
    | ok s2 =>
      have hi1 : InvF s1 (os ++ (o :: new)) := by have := hg.inv; rwa [List.append_assoc] at this
      have hko : kindAt (nds s1) o = kindAt (nds s) o := by
        have := kindsOf_grew (os := [o]) hg.more fun j hj => hi.lt j (by simp at hj; simp [hj])
        injection this
      obtain ⟨hg2, hk2⟩ := add_gives hi1 ha fun _ => by
        show OkN x.k (bstr x.t) x.n x.z x.a (kindAt (nds s1) o :: kindsOf s1 new)
        exact hx _ _ (by rw [hko]; exact he) hp
      obtain ⟨M1, hM1⟩ := hg.more
      obtain ⟨M2, hM2⟩ := hg2.more
      refine ⟨s1.N.length, ⟨hg2.inv, M1 ++ M2, by rw [hM2, hM1, List.append_assoc]⟩, ?_⟩
      injection hk2 with hk2
      rw [hk2]; exact hk
end Go.Proofs.YtbjacclfhgnffaaGreatDoor
/-
  Contracts of took, wrong, word and what word gives.
-/
namespace Go.Proofs.YtbjacclfhgnffaaGreatDoor
open Go.RowKit
open Tk (T4 bstr)
open Tr (Nd Blk KidsAt)

def TookPost (B T E : Nat) (w : World) (s : S3) (l : List UInt8) (e : Ending) (w' : World) : Prop :=
  Ext B w w' ∧ (((pk E s.L).t = l ∧ e = .returned (.bool true) ∧ Ps B T E w' { s with L := s.L.tail }) ∨ ((pk E s.L).t ≠ l ∧ e = .returned (.bool false) ∧ Ps B T E w' s))
set_option maxHeartbeats 2000000 in
set_option maxRecDepth 100000 in
theorem took_any {B T E : Nat} {w : World} {s : S3} (h : Ps B T E w s) (x : ByteArray) :
    Calls Tryz.prog 111 #[.pointer (some ⟨B, 0, none⟩), .string x] w (TookPost B T E w s x.data.toList) := by
  have hs := sees_any h x
  have H := Lib.hid h
  have hB := h.lt
  clear h
  by_cases ht : (pk E s.L).t = x.data.toList
  · have hd : decide ((pk E s.L).t = x.data.toList) = true := decide_eq_true ht
    rw [hd] at hs
    have Ht := Lib.hid ht
    clear ht hd
    go_enter Tryz.func111, Tryz.ntmps111
    go_wp2_with (go_at_call 161; refine hs.mono ?_; rintro e w1 ⟨rfl, hb⟩)
    have hk := take_any (H.out.below hb)
    have HB := Lib.hid hb
    clear hb hs
    go_wp2_with (go_at_call 106; refine hk.mono ?_)
    rintro e w2 ⟨rfl, hx, hp⟩
    have HX := Lib.hid hx
    have HP := Lib.hid hp
    clear hx hp hk
    go_wp2
    go_ret
    exact ⟨(Ext.below HB.out hB).trans HX.out, Or.inl ⟨Ht.out, rfl, HP.out⟩⟩
  · have hd : decide ((pk E s.L).t = x.data.toList) = false := decide_eq_false ht
    rw [hd] at hs
    have Ht := Lib.hid ht
    clear ht hd
    go_enter Tryz.func111, Tryz.ntmps111
    go_wp2_with (go_at_call 161; refine hs.mono ?_; rintro e w1 ⟨rfl, hb⟩)
    go_ret
    exact ⟨Ext.below hb hB, Or.inr ⟨Ht.out, rfl, H.out.below hb⟩⟩

set_option maxHeartbeats 2000000 in
set_option maxRecDepth 100000 in
theorem wrong_any {B T E : Nat} {w : World} {s : S3} (h : Ps B T E w s) :
    Calls Tryz.prog 64 #[.pointer (some ⟨B, 0, none⟩)] w fun e w' => e = .returned (errV 1 (pk E s.L).a) ∧ Below w.heap.size w w' := by
  have hp := peek_any h
  unfold tokV at hp
  have hf := fldT3
  generalize pk E s.L = t at *
  go_enter Tryz.func64, Tryz.ntmps64
  go_wp2_with (go_at_call 59; refine hp.mono ?_; rintro e w1 ⟨rfl, hb⟩)
  go_ret
  exact ⟨rfl, hb⟩

set_option maxHeartbeats 2000000 in
set_option maxRecDepth 100000 in
theorem word_any {B : Nat} (x : ByteArray) (w : World) :
    Calls Tryz.prog 61 #[.pointer (some ⟨B, 0, none⟩), .string x] w fun e w' => e = .returned (.func (.func 110) #[] #[.pointer (some ⟨w.heap.size, 0, none⟩), .pointer (some ⟨w.heap.size + 1, 0, none⟩)]) ∧
      w' = (w.alloc (.cells #[.pointer (some ⟨B, 0, none⟩)] 84)).alloc (.cells #[.string x] 9) := by
  go_enter Tryz.func61, Tryz.ntmps61
  go_wp2
  go_ret
  exact ⟨rfl, rfl⟩

set_option maxHeartbeats 2000000 in
set_option maxRecDepth 100000 in
theorem wordc_any {B T E : Nat} {w : World} {s : S3} (h : Ps B T E w s) (g1 g2 : Nat) (x : ByteArray) (h1 : w.cell? ⟨g1, 0, none⟩ = some (.pointer (some ⟨B, 0, none⟩))) (h2 : w.cell? ⟨g2, 0, none⟩ = some (.string x)) (hn1 : g1 < w.heap.size) (hn2 : ¬ Own B w g1) :
    Calls Tryz.prog 110 #[.pointer (some ⟨g1, 0, none⟩), .pointer (some ⟨g2, 0, none⟩)] w (Did B T E w (wordF E x.data.toList s)) := by
  have ht := took_any h x
  have HN1 := Lib.hid hn1
  have HN2 := Lib.hid hn2
  have H1 := Lib.hid h1
  obtain ⟨Q, hQ⟩ : ∃ Q : Ending → World → Prop, Q = Did B T E w (wordF E x.data.toList s) := ⟨_, rfl⟩
  rw [← hQ]
  have HQ := Lib.hid hQ
  clear hQ h hn1 hn2
  go_enter Tryz.func110, Tryz.ntmps110
  go_wp2_with (go_at_call 111; refine ht.mono ?_)
  rintro e w1 ⟨hx, ⟨hd, rfl, hp⟩ | ⟨hd, rfl, hp⟩⟩
  · have HX := Lib.hid hx
    have HP := Lib.hid hp
    have HD := Lib.hid hd
    clear hx hp hd
    go_wp2
    rw [HQ.out]
    unfold wordF
    rw [if_pos HD.out]
    exact ⟨rfl, HX.out, HP.out⟩
  · have HX := Lib.hid hx
    have HD := Lib.hid hd
    have hw := wrong_any hp
    have h1' : w1.cell? ⟨g1, 0, none⟩ = some (.pointer (some ⟨B, 0, none⟩)) := (hx.cell (p := ⟨g1, 0, none⟩) HN1.out HN2.out).trans H1.out
    have hB := hp.lt
    clear hx hd hp ht
    go_wp2_with (go_at_call 64; refine hw.mono ?_)
    rintro e w2 ⟨rfl, hb⟩
    go_wp2
    rw [HQ.out]
    unfold wordF
    rw [if_neg HD.out]
    exact ⟨rfl, HX.out.trans (Ext.below hb hB)⟩

set_option maxHeartbeats 2000000 in
set_option maxRecDepth 100000 in
theorem mark_any {B T E : Nat} {w : World} {s : S3} (h : Ps B T E w s) :
    Calls Tryz.prog 57 #[.pointer (some ⟨B, 2, none⟩)] w fun e w' => e = .returned (.int .i64 s.O.length) ∧ w = w' := by
  obtain ⟨vT, vN, vL, ns, h⟩ := h
  have hl := h.loo.2
  have g0 : w.cell? ⟨B, 3, none⟩ = some vL := by rw [h.box.cell]; rfl
  have h1 := h.lenO
  have h2 := h.lenN
  obtain ⟨p, cap, rfl⟩ : ∃ p cap, vL = .slice p s.O.length cap := by
    rcases hl with ⟨rfl, h0⟩ | ⟨g, cap, cur, hv, _⟩
    · exact ⟨none, 0, by rw [h0]⟩
    · exact ⟨_, _, hv⟩
  generalize s.O.length = n at *
  clear hl h
  go_enter Tryz.func57, Tryz.ntmps57
  go_wp2
  go_ret
  exact ⟨rfl, rfl⟩

set_option maxHeartbeats 2000000 in
set_option maxRecDepth 100000 in
theorem done_any {B T E : Nat} {w : World} {s : S3} (h : Ps B T E w s) :
    Calls Tryz.prog 30 #[.pointer (some ⟨B, 0, none⟩)] w (Did B T E w (if s.L = [] then .ok s else wrongF E s)) := by
  have he := ended_any h
  have hw := wrong_any h
  have hB := h.lt
  cases hl : s.L with
  | nil =>
    have hd : decide (s.L.length = 0) = true := by rw [hl]; rfl
    rw [hd] at he
    rw [if_pos rfl]
    have H := Lib.hid h
    clear h hd hl hw
    go_enter Tryz.func30, Tryz.ntmps30
    go_wp2_with (go_at_call 63; refine he.mono ?_; rintro e w' ⟨rfl, rfl⟩)
    go_ret
    exact ⟨rfl, Ext.refl _ _, H.out⟩
  | cons t L =>
    have hd : decide (s.L.length = 0) = false := by rw [hl]; simp
    rw [hd] at he
    rw [if_neg (by simp)]
    clear h hd hl
    go_enter Tryz.func30, Tryz.ntmps30
    go_wp2_with (first | (go_at_call 63; refine he.mono ?_; rintro e w' ⟨rfl, rfl⟩) | (go_at_call 64; refine hw.mono ?_; rintro e w' ⟨rfl, hb⟩))
    go_ret
    exact ⟨rfl, Ext.below hb hB⟩
end Go.Proofs.YtbjacclfhgnffaaGreatDoor
/-
  Plain: the parser of expressions, its jobs one by one: what each leaves is an expression (or a list of them) in its form.
-/
namespace Go.Proofs.YtbjacclfhgnffaaGreatDoor
open Go.RowKit
open Tk (T4 bstr)
open Tr

theorem GivesAt.toks {s : S3} {r : R3} {P : List Int → Prop} (h : (∀ x, x ∈ s.L → TokOk x) → GivesAt s r P) : GivesAt s r P := fun os hi => h hi.toks os hi
theorem pk_ok {E : Nat} {L : List T4} (h : ∀ x, x ∈ L → TokOk x) (hk : (pk E L).k = 1) : nameB (bstr (pk E L).t) = true := by
  cases L with
  | nil => exact absurd (show (0 : Nat) = 1 from hk) (by decide)
  | cons x l => exact h x (by simp) hk
theorem pk_a (E : Nat) (L : List T4) : (0 : Int) ≤ (pk E L).a := Int.natCast_nonneg _
theorem ee2 {k1 k2 : Int} (h1 : exprB k1 = true) (h2 : exprB k2 = true) : EE [k1, k2] := by
  intro k hk; rcases List.mem_cons.1 hk with rfl | hk; exact h1; rw [List.mem_singleton] at hk; subst hk; exact h2
theorem ee1 {k1 : Int} (h1 : exprB k1 = true) : EE [k1] := by
  intro k hk; rw [List.mem_singleton] at hk; subst hk; exact h1
theorem ee3 {k1 k2 k3 : Int} (h1 : exprB k1 = true) (h2 : exprB k2 = true) (h3 : exprB k3 = true) : EE [k1, k2, k3] := by
  intro k hk; rcases List.mem_cons.1 hk with rfl | hk; exact h1; exact ee2 h2 h3 k hk
theorem sign_none (k : Int) (h : signB k (bstr []) = (bstr []).toList.isEmpty) : signB k (bstr []) = true := by rw [h, bstr_back]; rfl
theorem ok38 {a k1 k2 k3 : Int} (ha : 0 ≤ a) (h1 : exprB k1 = true) (h2 : exprB k2 = true) (h3 : exprB k3 = true) : OkN 38 (bstr []) 0 0 a [k1, k2, k3] :=
  okE rfl (show lowV 38 ≤ ((3 : Nat) : Int) by decide) (show ((3 : Nat) : Int) ≤ highV _ 38 by decide) (ee3 h1 h2 h3) (fun h => absurd h (by decide)) (fun _ => sign_none _ rfl) rfl ha
theorem ok39 {t : List UInt8} {a k1 k2 : Int} (ht : setT t = true) (ha : 0 ≤ a) (h1 : exprB k1 = true) (h2 : exprB k2 = true) : OkN 39 (bstr t) 0 0 a [k1, k2] :=
  okE rfl (show lowV 39 ≤ ((2 : Nat) : Int) by decide) (show ((2 : Nat) : Int) ≤ highV _ 39 by decide) (ee2 h1 h2) (fun h => absurd h (by decide))
    (fun _ => by show setB (bstr t) = true; unfold setB; rw [bstr_back]; exact ht) rfl ha
theorem ok34 {a k1 k2 : Int} (ha : 0 ≤ a) (h1 : exprB k1 = true) (h2 : exprB k2 = true) : OkN 34 (bstr []) 0 0 a [k1, k2] :=
  okE rfl (show lowV 34 ≤ ((2 : Nat) : Int) by decide) (show ((2 : Nat) : Int) ≤ highV _ 34 by decide) (ee2 h1 h2) (fun h => absurd h (by decide)) (fun _ => sign_none _ rfl) rfl ha
theorem ok40 {t : List UInt8} {n a k1 : Int} (ht : t = [43, 43] ∨ t = [45, 45]) (hn : n = 0 ∨ n = 1) (ha : 0 ≤ a) (h1 : exprB k1 = true) : OkN 40 (bstr t) n 0 a [k1] :=
  okE rfl (show lowV 40 ≤ ((1 : Nat) : Int) by decide) (show ((1 : Nat) : Int) ≤ highV _ 40 by decide) (ee1 h1) (fun h => absurd h (by decide))
    (fun _ => by show stepB (bstr t) = true; unfold stepB; rw [bstr_back, decide_eq_true_eq]; rcases ht with rfl | rfl <;> decide) (by rcases hn with rfl | rfl <;> rfl) ha
theorem prefT_cases (t : List UInt8) : prefT t = 0 ∨ prefT t = 35 ∧ t ∈ oneS ∨ prefT t = 40 ∧ (t = [43, 43] ∨ t = [45, 45]) := by
  unfold prefT
  split
  · next h => refine Or.inr (Or.inl ⟨rfl, ?_⟩); rcases h with h | h | h | h | h <;> subst h <;> decide
  · split
    · next h => exact Or.inr (Or.inr ⟨rfl, h⟩)
    · exact Or.inl rfl
theorem okPref {t : List UInt8} {a k1 : Int} (ht : ¬ prefT t = 0) (ha : 0 ≤ a) (h1 : exprB k1 = true) : OkN (prefT t) (bstr t) 0 0 a [k1] := by
  rcases prefT_cases t with h | ⟨h, hm⟩ | ⟨h, hm⟩
  · exact absurd h ht
  · rw [h]
    exact okE rfl (show lowV 35 ≤ ((1 : Nat) : Int) by decide) (show ((1 : Nat) : Int) ≤ highV _ 35 by decide) (ee1 h1) (fun h => absurd h (by decide))
      (fun _ => by show oneB (bstr t) = true; unfold oneB; rw [bstr_back, decide_eq_true_eq]; exact hm) rfl ha
  · rw [h]; exact ok40 hm (Or.inl rfl) ha h1
theorem pref_expr {t : List UInt8} (ht : ¬ prefT t = 0) : exprB (prefT t) = true := by
  rcases prefT_cases t with h | ⟨h, _⟩ | ⟨h, _⟩
  · exact absurd h ht
  · rw [h]; rfl
  · rw [h]; rfl
theorem ok31 {n a : Int} (hn : 0 ≤ n) (ha : 0 ≤ a) : OkN 31 (bstr []) n 0 a [] :=
  okE rfl (show lowV 31 ≤ ((0 : Nat) : Int) by decide) (show ((0 : Nat) : Int) ≤ highV _ 31 by decide) (fun k h => by cases h) (fun h => absurd h (by decide)) (fun _ => sign_none _ rfl)
    (by show decide (0 ≤ n) = true; rw [decide_eq_true_eq]; exact hn) ha
theorem ok32 {t : List UInt8} {a : Int} (ht : nameB (bstr t) = true) (ha : 0 ≤ a) : OkN 32 (bstr t) 0 0 a [] :=
  okE rfl (show lowV 32 ≤ ((0 : Nat) : Int) by decide) (show ((0 : Nat) : Int) ≤ highV _ 32 by decide) (fun k h => by cases h) (fun _ => ht) (fun h => absurd h (by decide)) rfl ha
theorem ok33 {t : List UInt8} {a : Int} {ks : List Int} (ht : nameB (bstr t) = true) (ha : 0 ≤ a) (hk : EE ks) (hl : ks.length < 5000000) : OkN 33 (bstr t) 0 0 a ks :=
  okE rfl (by show (0 : Int) ≤ _; omega) (by show _ ≤ (9223372036854775807 : Int); omega) hk (fun _ => ht) (fun h => absurd h (by decide)) rfl ha

theorem oneE_thn {ks : List Int} (h : Thn Nil (Thn OneE (Thn Nil Nil)) ks) : OneE ks := by
  obtain ⟨a, b, rfl, ha, c, d, rfl, hc, e, f, rfl, he, hf⟩ := h
  unfold Nil at ha he hf
  subst ha; subst he; subst hf
  simpa using hc
theorem thn_nil {P : List Int → Prop} {ks : List Int} (h : Thn P Nil ks) : P ks := by
  obtain ⟨a, b, rfl, ha, hb⟩ := h
  unfold Nil at hb; subst hb; rwa [List.append_nil]
theorem nil_thn {P : List Int → Prop} {ks : List Int} (h : Thn Nil P ks) : P ks := by
  obtain ⟨a, b, rfl, ha, hb⟩ := h
  unfold Nil at ha; subst ha; exact hb
theorem EE.app {a b : List Int} (h : EE a) (h2 : EE b) : EE (a ++ b) := fun k hk => by
  rcases List.mem_append.1 hk with hk | hk
  · exact h k hk
  · exact h2 k hk
theorem OneE.ee {ks : List Int} (h : OneE ks) : EE ks := by obtain ⟨k, rfl, hk⟩ := h; exact ee1 hk
/-- what each job leaves -/
def JobS (j : Job) (s : S3) (r : R3) : Prop := match j with
  | .pairs low => 2 ≤ low → GivesAt s r OneE
  | .pairsL low mark => 2 ≤ low → GivesTop mark s r
  | .postL mark => GivesTop mark s r
  | .list _ _ item => item = .expr → GivesAt s r EE
  | .items _ item => item = .expr → GivesAt s r EE
  | _ => GivesAt s r OneE
theorem run_good (E : Nat) : ∀ n j s, JobS j s (runJ E n j s) := by
  intro n
  induction n with
  | zero =>
    intro j s
    cases j with
    | pairs low => exact fun _ => givesAt_out s OneE
    | pairsL low mark => exact fun _ _ _ _ _ _ => trivial
    | postL mark => exact fun _ _ _ _ _ => trivial
    | list o e item => exact fun _ => givesAt_out s EE
    | items e item => exact fun _ => givesAt_out s EE
    | expr => exact givesAt_out s OneE
    | prefixed => exact givesAt_out s OneE
    | postfixed => exact givesAt_out s OneE
    | primary => exact givesAt_out s OneE
  | succ n ih =>
    have hE : Gives (runJ E n .expr) OneE := fun s => ih .expr s
    intro j s
    cases j with
    | expr =>
      show GivesAt s ((runJ E n (.pairs 2) s).bind _) OneE
      refine GivesAt.top (ih (.pairs 2) s (Nat.le_refl _)) fun s1 _ => ?_
      split
      · refine ext_top _ s1 (gives_seq (gives_word E _) (gives_seq hE (gives_seq (gives_word E _) (gives_seq hE gives_seq_nil))) s1) (fun k ks hk hp => ?_) rfl
        obtain ⟨a, b, rfl, ⟨k1, rfl, h1⟩, hb⟩ := nil_thn hp
        obtain ⟨k2, rfl, h2⟩ := thn_nil (nil_thn hb)
        exact ok38 (pk_a _ _) hk h1 h2
      · split
        · next hs =>
          refine ext_top _ s1 (gives_seq (gives_word E _) (gives_seq hE gives_seq_nil) s1) (fun k ks hk hp => ?_) rfl
          obtain ⟨k1, rfl, h1⟩ := thn_nil (nil_thn hp)
          exact ok39 hs (pk_a _ _) hk h1
        · exact .stay _ _
    | pairs low =>
      intro hlow
      show GivesAt s (if 1000 < low then .out else (runJ E n .prefixed s).bind (runJ E n (.pairsL low s.O.length))) OneE
      split
      · exact givesAt_out _ _
      · exact GivesAt.top (ih .prefixed s) fun s1 _ => ih (.pairsL low _) s1 hlow
    | pairsL low mark =>
      intro hlow
      show GivesTop mark s (if low ≤ levelT (pk E s.L).t then _ else _)
      split
      · next hl =>
        refine GivesTop.bind (GivesTop.moved (moved_tail s) (ext_top mark _ (gives_seq (fun s => ih (.pairs _) s (by omega)) gives_seq_nil _) (fun k ks hk hp => ?_) (pairK_expr _))) fun s1 _ => ih (.pairsL low mark) s1 hlow
        obtain ⟨k1, rfl, h1⟩ := thn_nil hp
        exact okPair (by omega) (pk_a _ _) hk h1
      · exact .stay _ _
    | prefixed =>
      show GivesAt s (if prefT (pk E s.L).t = 0 then _ else _) OneE
      split
      · exact ih .postfixed s
      · next hp =>
        refine (gives_build (gives_seq (gives_word E _) (gives_seq (fun s => ih .prefixed s) gives_seq_nil)) (fun ks hk _ => ?_) s).mono fun ks hk => ⟨_, hk, pref_expr hp⟩
        obtain ⟨k1, rfl, h1⟩ := thn_nil (nil_thn hk)
        exact okPref hp (pk_a _ _) h1
    | postfixed => exact GivesAt.top (ih .primary s) fun s1 _ => ih (.postL _) s1
    | postL mark =>
      show GivesTop mark s (if (pk E s.L).t = [91] then _ else if (pk E s.L).t = [43, 43] ∨ (pk E s.L).t = [45, 45] then _ else _)
      split
      · refine GivesTop.bind (ext_top mark s (gives_seq (gives_word E _) (gives_seq hE (gives_seq (gives_word E _) gives_seq_nil)) s) (fun k ks hk hp => ?_) rfl) fun s1 _ => ih (.postL mark) s1
        obtain ⟨k1, rfl, h1⟩ := oneE_thn hp
        exact ok34 (pk_a _ _) hk h1
      · split
        · next ht =>
          refine GivesTop.bind (GivesTop.moved (moved_tail s) (ext_top (fs := []) mark _ (gives_seq_nil _) (fun k ks hk hp => ?_) rfl)) fun s1 _ => ih (.postL mark) s1
          unfold Nil at hp
          subst hp
          exact ok40 ht (Or.inr rfl) (pk_a _ _) hk
        · exact .stay _ _
    | primary =>
      show GivesAt s (if (pk E s.L).k = 2 then _ else if (pk E s.L).k = 1 then (if (pk E s.L.tail).t = [40] then _ else _) else _) OneE
      split
      · refine GivesAt.moved (moved_tail s) ((gives_build gives_seq_nil (fun ks hk _ => ?_) _).mono fun ks hk => ⟨_, hk, rfl⟩)
        unfold Nil at hk; subst hk
        exact ok31 (Int.natCast_nonneg _) (pk_a _ _)
      · split
        · next h1 =>
          refine GivesAt.toks fun htk => ?_
          have hn := pk_ok htk h1
          split
          · refine GivesAt.moved (moved_tail s) ((gives_build (gives_seq (P := EE) (fun s => ih (.list [40] [41] .expr) s rfl) gives_seq_nil) (fun ks hk hl => ?_) _).mono fun ks hk => ⟨_, hk, rfl⟩)
            exact ok33 hn (pk_a _ _) (thn_nil hk) hl
          · refine GivesAt.moved (moved_tail s) ((gives_build gives_seq_nil (fun ks hk _ => ?_) _).mono fun ks hk => ⟨_, hk, rfl⟩)
            unfold Nil at hk; subst hk
            exact ok32 hn (pk_a _ _)
        · exact (gives_seq (gives_word E _) (gives_seq hE (gives_seq (gives_word E _) gives_seq_nil)) s).mono fun ks hk => oneE_thn hk
    | list o e item =>
      intro hi
      subst hi
      show GivesAt s ((wordF E o s).bind _) EE
      refine (GivesAt.bind (gives_word E o s) (Q := EE) fun s1 _ => ?_).mono fun ks hk => nil_thn hk
      split
      · exact (GivesAt.stay (moved_tail s1)).mono fun ks hk => by unfold Nil at hk; subst hk; intro k h; cases h
      · exact ih (.items e .expr) s1 rfl
    | items e item =>
      intro hi
      subst hi
      show GivesAt s ((runJ E n .expr s).bind _) EE
      refine (GivesAt.bind (hE s) (Q := EE) fun s1 _ => ?_).mono fun ks hk => by obtain ⟨a, b, rfl, ha, hb⟩ := hk; exact ha.ee.app hb
      split
      · exact GivesAt.moved (moved_tail s1) (ih (.items e .expr) _ rfl)
      · exact (gives_word E e s1).mono fun ks hk => by unfold Nil at hk; subst hk; intro k h; cases h
end Go.Proofs.YtbjacclfhgnffaaGreatDoor
