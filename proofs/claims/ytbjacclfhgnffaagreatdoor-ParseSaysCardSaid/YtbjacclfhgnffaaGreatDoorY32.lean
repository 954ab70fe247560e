/-
  Joined texts of this claim: Rdb, Rdc, Rdd, Rdg, Rde, Rdf, Rdh.
-/
import Derived.Test.YtbjacclfhgnffaaGreatDoorY24
import Derived.Test.YtbjacclfhgnffaaGreatDoorY31
import Derived.Test.YtbjacclfhgnffaaGreatDoorY08
set_option linter.unusedVariables false
set_option linter.unusedSimpArgs false
/-
  Contracts of the document's reader's own functions: stop, is, want.
-/
namespace Go.Proofs.YtbjacclfhgnffaaGreatDoor
open Go.RowKit
open Tk (T4 bstr)
open Tr (Nd Blk KidsAt ret_bool)

set_option maxHeartbeats 2000000 in
set_option maxRecDepth 4000 in
theorem rstop_bad (pn : Option Addr) (ln cn : Nat) (pl : Option Addr) (ll cl E : Nat) (c a top code : Int) (w : World) (hc : c ≠ 0) :
    Calls Tryz.prog 74 #[rdV pn ln cn pl ll cl E c a top, .int .i64 code] w fun e w' => e = .returned (rdV pn ln cn pl ll cl E c a top) ∧ Below w.heap.size w w' := by
  have hk := rok_any pn ln cn pl ll cl E c a top
  rw [decide_eq_false hc] at hk
  unfold rdV at hk ⊢
  go_enter Tryz.func74, Tryz.ntmps74
  go_wp2_with (go_at_call 38; refine (hk _).mono ?_; rintro e w' ⟨rfl, hb⟩; obtain ⟨b1, b2, hb3⟩ := keepTwo hb; obtain ⟨p0, p1, p2, p3, p4, p5, pl1⟩ := six b1; obtain ⟨q0, q1, q2, q3, q4, q5, ql1⟩ := six b2; have f0 := b2.frozen 0; have f1 := b2.frozen 1; have f2 := b2.frozen 2; have f3 := b2.frozen 3; have f4 := b2.frozen 4; have f5 := b2.frozen 5)
  refine bodyPost_ret (v := .agg #[.slice pn ln cn, .slice pl ll cl, .int .i64 E, .int .i64 c, .int .i64 a, .int .i64 top]) (by simp [results, Tryz.results74, go_sem, p0, q0, q1, q2, q3, q4, q5, ql1]) rfl ?_
  exact ⟨rfl, below6 hb3⟩
set_option maxHeartbeats 2000000 in
set_option maxRecDepth 4000 in
theorem rstop_ok (pn : Option Addr) (ln cn : Nat) (pl : Option Addr) (ll cl E : Nat) (a top : Int) (w : World) (x : ByteArray) (k v at' code : Int)
    (hp : ∀ w2, Below w.heap.size w w2 → Calls Tryz.prog 68 #[rdV pn ln cn pl ll cl E 0 a top] w2 fun e w' => e = .returned (.agg #[.int .i64 k, .string x, .int .i64 v, .int .i64 at']) ∧ Below w2.heap.size w2 w') :
    Calls Tryz.prog 74 #[rdV pn ln cn pl ll cl E 0 a top, .int .i64 code] w fun e w' => e = .returned (rdV pn ln cn pl ll cl E code at' top) ∧ Below w.heap.size w w' := by
  have hk := rok_any pn ln cn pl ll cl E 0 a top
  rw [decide_eq_true rfl] at hk
  have hf := fldT3
  unfold rdV at hk hp ⊢
  go_enter Tryz.func74, Tryz.ntmps74
  go_wp2_with (first | (go_at_call 38; refine (hk _).mono ?_; rintro e w' ⟨rfl, hb⟩; obtain ⟨b1, b2, hb3⟩ := keepTwo hb; obtain ⟨p0, p1, p2, p3, p4, p5, pl1⟩ := six b1) | (go_at_call 68; refine (hp _ (by assumption)).mono ?_; rintro e w1 ⟨rfl, hb1⟩; clear p0 p1 p2 p3 p4 p5; have B1 := b1.below hb1 pl1; have B2 := b2.below hb1 b2.lt; have hb4 := hb3.trans (hb1.mono hb3.size)) | (go_at_call 47; refine (Tk.fault_any _ _ _).mono ?_; rintro e w2 ⟨rfl, rfl⟩; obtain ⟨p0, p1, p2, p3, p4, p5, pl2⟩ := six (B1.alloc (.cells #[.int .i64 code, .int .i64 at'] 26)); obtain ⟨q0, q1, q2, q3, q4, q5, ql2⟩ := six (B2.alloc (.cells #[.int .i64 code, .int .i64 at'] 26)); have e3 := (B1.alloc (.cells #[.int .i64 code, .int .i64 at'] 26)).frozen 3; have e4 := (B1.alloc (.cells #[.int .i64 code, .int .i64 at'] 26)).frozen 4; have f0 := (B2.alloc (.cells #[.int .i64 code, .int .i64 at'] 26)).frozen 0; have f1 := (B2.alloc (.cells #[.int .i64 code, .int .i64 at'] 26)).frozen 1; have f2 := (B2.alloc (.cells #[.int .i64 code, .int .i64 at'] 26)).frozen 2; have f3 := (B2.alloc (.cells #[.int .i64 code, .int .i64 at'] 26)).frozen 3; have f4 := (B2.alloc (.cells #[.int .i64 code, .int .i64 at'] 26)).frozen 4; have f5 := (B2.alloc (.cells #[.int .i64 code, .int .i64 at'] 26)).frozen 5; have hb5 := hb4.alloc hb4.size (.cells #[.int .i64 code, .int .i64 at'] 26); generalize hW : w1.alloc (.cells #[.int .i64 code, .int .i64 at'] 26) = W at *))
  refine bodyPost_ret (v := .agg #[.slice pn ln cn, .slice pl ll cl, .int .i64 E, .int .i64 code, .int .i64 at', .int .i64 top]) (by simp [results, Tryz.results74, go_sem, p0, q0, q1, q2, q3, q4, q5, ql2]) rfl ?_
  exact ⟨rfl, below6 ((hb5.setCell (Nat.le_refl _) _).setCell (Nat.le_refl _) _)⟩
theorem chain2 {w w1 w' : World} {o1 o2 : Obj} (h1 : Below (w.alloc o1).heap.size (w.alloc o1) w1) (h2 : Below (w1.alloc o2).heap.size (w1.alloc o2) w') : Below w.heap.size w w' := by
  have s1 : (w.alloc o1).heap.size = w.heap.size + 1 := World.size_alloc ..
  have s2 : (w1.alloc o2).heap.size = w1.heap.size + 1 := World.size_alloc ..
  have hs := h1.size
  have a1 : Below w.heap.size w w1 := ((Below.refl _ _).alloc (Nat.le_refl _) _).trans (h1.mono (by omega))
  exact (a1.alloc a1.size _).trans (h2.mono (by omega))
theorem four {w : World} {g : Nat} {t : TypeId} {v0 v1 v2 v3 : Value} (h : Blk w g t #[v0, v1, v2, v3]) :
    w.cell? ⟨g, 0, none⟩ = some v0 ∧ w.cell? ⟨g, 1, none⟩ = some v1 ∧ w.cell? ⟨g, 2, none⟩ = some v2 ∧ w.cell? ⟨g, 3, none⟩ = some v3 ∧ g < w.heap.size :=
  ⟨h.cell 0, h.cell 1, h.cell 2, h.cell 3, h.lt⟩
/-- does that sign, or key, come next? -/
def isT (t : T4) (s : List UInt8) : Bool := decide ((t.k = 4 ∨ t.k = 3) ∧ t.t = s)
set_option maxHeartbeats 2000000 in
set_option maxRecDepth 4000 in
theorem ris_bad (pn : Option Addr) (ln cn : Nat) (pl : Option Addr) (ll cl E : Nat) (c a top : Int) (w : World) (s x : ByteArray) (k v at' : Int) (hc : c ≠ 0)
    (hp : ∀ w2, Below w.heap.size w w2 → Calls Tryz.prog 68 #[rdV pn ln cn pl ll cl E c a top] w2 fun e w' => e = .returned (.agg #[.int .i64 k, .string x, .int .i64 v, .int .i64 at']) ∧ Below w2.heap.size w2 w') :
    Calls Tryz.prog 69 #[rdV pn ln cn pl ll cl E c a top, .string s] w fun e w' => e = .returned (.bool false) ∧ Below w.heap.size w w' := by
  have hk := rok_any pn ln cn pl ll cl E c a top
  rw [decide_eq_false hc] at hk
  have h0 := hp w (Below.refl _ _)
  unfold rdV at hk hp h0 ⊢
  go_enter Tryz.func69, Tryz.ntmps69
  go_wp2_with (first | (go_at_call 38; refine (hk _).mono ?_; rintro e w' ⟨rfl, hb⟩) | (go_at_call 68; refine (hp _ ((Below.refl _ _).alloc (Nat.le_refl _) _)).mono ?_; rintro e w1 ⟨rfl, hb1⟩; obtain ⟨p0, p1, p2, p3, p4, p5, pl1⟩ := six (keep1 hb1)))
  go_ret
  exact ⟨rfl, chain2 hb1 hb⟩
set_option maxHeartbeats 4000000 in
set_option maxRecDepth 4000 in
theorem ris_ok (pn : Option Addr) (ln cn : Nat) (pl : Option Addr) (ll cl E : Nat) (a top : Int) (w : World) (s x : ByteArray) (k v at' : Int)
    (hp : ∀ w2, Below w.heap.size w w2 → Calls Tryz.prog 68 #[rdV pn ln cn pl ll cl E 0 a top] w2 fun e w' => e = .returned (.agg #[.int .i64 k, .string x, .int .i64 v, .int .i64 at']) ∧ Below w2.heap.size w2 w') :
    Calls Tryz.prog 69 #[rdV pn ln cn pl ll cl E 0 a top, .string s] w fun e w' => e = .returned (.bool (decide (k = 4 ∨ k = 3) && (x.toList == s.toList))) ∧ Below w.heap.size w w' := by
  have hk := rok_any pn ln cn pl ll cl E 0 a top
  rw [decide_eq_true rfl] at hk
  unfold rdV at hk hp ⊢
  by_cases h4 : k = 4
  · subst h4
    go_enter Tryz.func69, Tryz.ntmps69
    go_wp2_with (first | (go_at_call 38; refine (hk _).mono ?_; rintro e w' ⟨rfl, hb⟩; obtain ⟨t0, t1, t2, t3, tl1⟩ := four (keep1 hb)) | (go_at_call 68; refine (hp _ ((Below.refl _ _).alloc (Nat.le_refl _) _)).mono ?_; rintro e w1 ⟨rfl, hb1⟩; obtain ⟨p0, p1, p2, p3, p4, p5, pl1⟩ := six (keep1 hb1)))
    go_ret
    exact ⟨rfl, chain2 hb1 hb⟩
  · by_cases h3 : k = 3
    · subst h3
      go_enter Tryz.func69, Tryz.ntmps69
      go_wp2_with (first | (go_at_call 38; refine (hk _).mono ?_; rintro e w' ⟨rfl, hb⟩; obtain ⟨t0, t1, t2, t3, tl1⟩ := four (keep1 hb)) | (go_at_call 68; refine (hp _ ((Below.refl _ _).alloc (Nat.le_refl _) _)).mono ?_; rintro e w1 ⟨rfl, hb1⟩; obtain ⟨p0, p1, p2, p3, p4, p5, pl1⟩ := six (keep1 hb1)))
      go_ret
      exact ⟨rfl, chain2 hb1 hb⟩
    · have e4 : (k == 4) = false := beq_eq_false_iff_ne.2 h4
      have e3 : (k == 3) = false := beq_eq_false_iff_ne.2 h3
      have hr : Hid (decide (k = 4 ∨ k = 3) = false) := by show _ = _; simp [h4, h3]
      go_enter Tryz.func69, Tryz.ntmps69
      go_wp2_with (first | (go_at_call 38; refine (hk _).mono ?_; rintro e w' ⟨rfl, hb⟩; obtain ⟨t0, t1, t2, t3, tl1⟩ := four (keep1 hb)) | (go_at_call 68; refine (hp _ ((Below.refl _ _).alloc (Nat.le_refl _) _)).mono ?_; rintro e w1 ⟨rfl, hb1⟩; obtain ⟨p0, p1, p2, p3, p4, p5, pl1⟩ := six (keep1 hb1)))
      go_ret
      exact ⟨by rw [hr.out]; rfl, chain2 hb1 hb⟩
end Go.Proofs.YtbjacclfhgnffaaGreatDoor
/-
  The document's reader, told by its words: one with nothing wrong, one with something wrong; its own functions on both.
-/
namespace Go.Proofs.YtbjacclfhgnffaaGreatDoor
open Go.RowKit
open Tk (T4 bstr)
open Tr (Nd Blk KidsAt ret_bool)

/-- nothing is wrong, these words are left; they lie where they lay in a first world -/
def RdL (w0 : World) (E : Nat) (pn : Option Addr) (ln cn : Nat) (top : Int) (L : List T4) (v : Value) : Prop :=
  ∃ pl cl a, v = rdV pn ln cn pl L.length cl E 0 a top ∧ TkRow w0 pl L ∧ L.length ≤ cl ∧ cl ≤ 9223372036854775807 ∧ L.length ≤ 5000000
/-- this is wrong -/
def RdB (w0 : World) (E : Nat) (pn : Option Addr) (ln cn : Nat) (top : Int) (c a : Int) (v : Value) : Prop :=
  c ≠ 0 ∧ ∃ pl cl L, v = rdV pn ln cn pl L.length cl E c a top ∧ TkRow w0 pl L ∧ L.length ≤ 5000000
section
variable {w0 w : World} {E : Nat} {pn : Option Addr} {ln cn : Nat} {top : Int} {L : List T4} {c a : Int} {v : Value}
theorem RdL.peek (h : RdL w0 E pn ln cn top L v) (h0 : Below w0.heap.size w0 w) : Calls Tryz.prog 68 #[v] w fun e w' => e = .returned (tokV (pk E L)) ∧ Below w.heap.size w w' := by
  obtain ⟨pl, cl, a, rfl, h1, h2, h3, h4⟩ := h
  exact rpeek_any pn ln cn pl cl E 0 a top w L (h1.below h0) h4
theorem RdB.peek (h : RdB w0 E pn ln cn top c a v) (h0 : Below w0.heap.size w0 w) : Calls Tryz.prog 68 #[v] w fun e w' => (∃ t, e = .returned (tokV t)) ∧ Below w.heap.size w w' := by
  obtain ⟨hc, pl, cl, L, rfl, h1, h4⟩ := h
  exact (rpeek_any pn ln cn pl cl E c a top w L (h1.below h0) h4).mono fun e w' ⟨he, hb⟩ => ⟨⟨_, he⟩, hb⟩
theorem RdL.ok (h : RdL w0 E pn ln cn top L v) (w : World) : Calls Tryz.prog 38 #[v] w fun e w' => e = .returned (.bool true) ∧ Below w.heap.size w w' := by
  obtain ⟨pl, cl, a, rfl, _⟩ := h
  exact rok_any pn ln cn pl L.length cl E 0 a top w
theorem RdB.ok (h : RdB w0 E pn ln cn top c a v) (w : World) : Calls Tryz.prog 38 #[v] w fun e w' => e = .returned (.bool false) ∧ Below w.heap.size w w' := by
  obtain ⟨hc, pl, cl, L, rfl, _⟩ := h
  have := rok_any pn ln cn pl L.length cl E c a top w
  rwa [decide_eq_false hc] at this
theorem RdL.skip (h : RdL w0 E pn ln cn top L v) (w : World) : Calls Tryz.prog 70 #[v] w fun e w' => (∃ v', e = .returned v' ∧ RdL w0 E pn ln cn top L.tail v') ∧ Below w.heap.size w w' := by
  obtain ⟨pl, cl, a, rfl, h1, h2, h3, h4⟩ := h
  refine (rskip_any pn ln cn pl cl E a top w L h1 h4 h2 h3).mono fun e w' ⟨pl', cl', he, g1, g2, g3, hb⟩ => ⟨⟨_, he, pl', cl', a, rfl, g1, g2, g3, ?_⟩, hb⟩
  rw [List.length_tail]; omega
theorem RdB.skip (h : RdB w0 E pn ln cn top c a v) (w : World) : Calls Tryz.prog 70 #[v] w fun e w' => e = .returned v ∧ Below w.heap.size w w' := by
  obtain ⟨hc, pl, cl, L, rfl, _⟩ := h
  exact rskip_bad pn ln cn pl L.length cl E c a top w hc
theorem RdL.stop (h : RdL w0 E pn ln cn top L v) (h0 : Below w0.heap.size w0 w) (code : Int) (hc : code ≠ 0) : Calls Tryz.prog 74 #[v, .int .i64 code] w fun e w' => (∃ v', e = .returned v' ∧ RdB w0 E pn ln cn top code (pk E L).a v') ∧ Below w.heap.size w w' := by
  obtain ⟨pl, cl, a, rfl, h1, h2, h3, h4⟩ := h
  exact (rstop_ok pn ln cn pl L.length cl E a top w (bstr (pk E L).t) (pk E L).k (pk E L).v (pk E L).a code (fun w2 hb2 => rpeek_any pn ln cn pl cl E 0 a top w2 L (h1.below (h0.trans (hb2.mono h0.size))) h4)).mono
    fun e w' ⟨he, hb⟩ => ⟨⟨_, he, hc, pl, cl, L, rfl, h1, h4⟩, hb⟩
theorem RdB.stop (h : RdB w0 E pn ln cn top c a v) (w : World) (code : Int) : Calls Tryz.prog 74 #[v, .int .i64 code] w fun e w' => e = .returned v ∧ Below w.heap.size w w' := by
  obtain ⟨hc, pl, cl, L, rfl, _⟩ := h
  exact rstop_bad pn ln cn pl L.length cl E c a top code w hc
/-- the next word's kind is asked for, too: for words of a text that says nothing more -/
def SgnKey (s : ByteArray) : Prop := Tk.signB s.toList = true ∨ Tk.keyB s.toList = true
theorem is_text {L : List T4} (hL : ∀ x, x ∈ L → TokK x) {s : ByteArray} (hs : SgnKey s) : (decide (((pk E L).k : Int) = 4 ∨ ((pk E L).k : Int) = 3) && ((bstr (pk E L).t).toList == s.toList)) = decide ((pk E L).t = s.toList) := by
  rw [bstr_back, Bool.eq_iff_iff, Bool.and_eq_true, decide_eq_true_eq, decide_eq_true_eq, beq_iff_eq]
  refine ⟨fun h => h.2, fun h => ⟨?_, h⟩⟩
  cases L with
  | nil =>
    have h : ([] : List UInt8) = s.toList := h
    unfold SgnKey at hs
    rw [← h] at hs
    exact absurd hs (by decide)
  | cons x L =>
    have hx := hL x (by simp)
    have h : x.t = s.toList := h
    show (x.k : Int) = 4 ∨ (x.k : Int) = 3
    unfold SgnKey at hs
    rw [← h] at hs
    rcases hs with hs | hs
    · have := hx.sign.1 hs; omega
    · have := hx.key.1 hs; omega
theorem RdL.is (h : RdL w0 E pn ln cn top L v) (h0 : Below w0.heap.size w0 w) (hL : ∀ x, x ∈ L → TokK x) {s : ByteArray} (hs : SgnKey s) : Calls Tryz.prog 69 #[v, .string s] w fun e w' => e = .returned (.bool (decide ((pk E L).t = s.toList))) ∧ Below w.heap.size w w' := by
  obtain ⟨pl, cl, a, rfl, h1, h2, h3, h4⟩ := h
  have := ris_ok pn ln cn pl L.length cl E a top w s (bstr (pk E L).t) (pk E L).k (pk E L).v (pk E L).a (fun w2 hb2 => rpeek_any pn ln cn pl cl E 0 a top w2 L (h1.below (h0.trans (hb2.mono h0.size))) h4)
  rwa [is_text hL hs] at this
theorem RdB.is (h : RdB w0 E pn ln cn top c a v) (h0 : Below w0.heap.size w0 w) (s : ByteArray) : Calls Tryz.prog 69 #[v, .string s] w fun e w' => e = .returned (.bool false) ∧ Below w.heap.size w w' := by
  obtain ⟨hc, pl, cl, L, rfl, h1, h4⟩ := h
  exact ris_bad pn ln cn pl L.length cl E c a top w s (bstr (pk E L).t) (pk E L).k (pk E L).v (pk E L).a hc (fun w2 hb2 => rpeek_any pn ln cn pl cl E c a top w2 L (h1.below (h0.trans (hb2.mono h0.size))) h4)
end
end Go.Proofs.YtbjacclfhgnffaaGreatDoor
/-
  The document's reader: want.
-/
namespace Go.Proofs.YtbjacclfhgnffaaGreatDoor
open Go.RowKit
open Tk (T4 bstr)
open Tr (Nd Blk KidsAt ret_bool)

theorem two (w : World) (o1 o2 : Obj) : Below w.heap.size w ((w.alloc o1).alloc o2) := by
  have hs : (w.alloc o1).heap.size = w.heap.size + 1 := World.size_alloc ..
  exact ((Below.refl _ _).alloc (Nat.le_refl _) _).alloc (by rw [hs]; exact Nat.le_succ _) _
/-- a reader's value -/
def IsRd (v : Value) : Prop := ∃ pn ln cn pl ll cl E c a top, v = rdV pn ln cn pl ll cl E c a top
set_option maxHeartbeats 2000000 in
set_option maxRecDepth 4000 in
theorem want_not {Q : Value → Prop} (hQ : ∀ v, Q v → IsRd v) {v : Value} (hv : IsRd v) (w : World) (s : ByteArray)
    (hi : ∀ w2, Below w.heap.size w w2 → Calls Tryz.prog 69 #[v, .string s] w2 fun e w' => e = .returned (.bool false) ∧ Below w2.heap.size w2 w')
    (hs : ∀ w2, Below w.heap.size w w2 → Calls Tryz.prog 74 #[v, .int .i64 1] w2 fun e w' => (∃ v', e = .returned v' ∧ Q v') ∧ Below w2.heap.size w2 w') :
    Calls Tryz.prog 71 #[v, .string s] w fun e w' => (∃ v', e = .returned v' ∧ Q v') ∧ Below w.heap.size w w' := by
  obtain ⟨pn, ln, cn, pl, ll, cl, E, c, a, top, rfl⟩ := hv
  have hs' : ∀ w2, Below w.heap.size w w2 → Calls Tryz.prog 74 #[rdV pn ln cn pl ll cl E c a top, .int .i64 1] w2 fun e w' => ∃ pn ln cn pl ll cl E c a top, e = .returned (.agg #[.slice pn ln cn, .slice pl ll cl, .int .i64 (E : Nat), .int .i64 c, .int .i64 a, .int .i64 top]) ∧ Hid (Q (.agg #[.slice pn ln cn, .slice pl ll cl, .int .i64 (E : Nat), .int .i64 c, .int .i64 a, .int .i64 top])) ∧ Below w2.heap.size w2 w' :=
    fun w2 hb => (hs w2 hb).mono fun e w' ⟨⟨v', he, hq⟩, hb'⟩ => by
      obtain ⟨pn, ln, cn, pl, ll, cl, E, c, a, top, rfl⟩ := hQ v' hq
      exact ⟨pn, ln, cn, pl, ll, cl, E, c, a, top, he, hq, hb'⟩
  clear hs hQ
  unfold rdV at hi hs' ⊢
  go_enter Tryz.func71, Tryz.ntmps71
  go_wp2_with (first | (go_at_call 69; refine (hi _ (two w _ _)).mono ?_; rintro e w1 ⟨rfl, hb1⟩; obtain ⟨b1, b2, hb3⟩ := keepTwo hb1; obtain ⟨p0, p1, p2, p3, p4, p5, pl1⟩ := six b1) | (go_at_call 74; refine (hs' _ hb3).mono ?_; rintro e w2 ⟨pn2, ln2, cn2, pl2, ll2, cl2, E2, c2, a2, top2, rfl, hq, hb2⟩; clear p0 p1 p2 p3 p4 p5; have B2 := b2.below hb2 b2.lt; obtain ⟨q0, q1, q2, q3, q4, q5, ql1⟩ := six B2; have f0 := B2.frozen 0; have f1 := B2.frozen 1; have f2 := B2.frozen 2; have f3 := B2.frozen 3; have f4 := B2.frozen 4; have f5 := B2.frozen 5))
  refine bodyPost_ret (v := .agg #[.slice pn2 ln2 cn2, .slice pl2 ll2 cl2, .int .i64 (E2 : Nat), .int .i64 c2, .int .i64 a2, .int .i64 top2]) (by simp [results, Tryz.results71, go_sem, q0, q1, q2, q3, q4, q5, ql1]) rfl ?_
  exact ⟨⟨_, rfl, hq.out⟩, below6 (hb3.trans (hb2.mono hb3.size))⟩
set_option maxHeartbeats 2000000 in
set_option maxRecDepth 4000 in
theorem want_is {Q : Value → Prop} (hQ : ∀ v, Q v → IsRd v) {v : Value} (hv : IsRd v) (w : World) (s : ByteArray)
    (hi : ∀ w2, Below w.heap.size w w2 → Calls Tryz.prog 69 #[v, .string s] w2 fun e w' => e = .returned (.bool true) ∧ Below w2.heap.size w2 w')
    (hs : ∀ w2, Below w.heap.size w w2 → Calls Tryz.prog 70 #[v] w2 fun e w' => (∃ v', e = .returned v' ∧ Q v') ∧ Below w2.heap.size w2 w') :
    Calls Tryz.prog 71 #[v, .string s] w fun e w' => (∃ v', e = .returned v' ∧ Q v') ∧ Below w.heap.size w w' := by
  obtain ⟨pn, ln, cn, pl, ll, cl, E, c, a, top, rfl⟩ := hv
  have hs' : ∀ w2, Below w.heap.size w w2 → Calls Tryz.prog 70 #[rdV pn ln cn pl ll cl E c a top] w2 fun e w' => ∃ pn ln cn pl ll cl E c a top, e = .returned (.agg #[.slice pn ln cn, .slice pl ll cl, .int .i64 (E : Nat), .int .i64 c, .int .i64 a, .int .i64 top]) ∧ Hid (Q (.agg #[.slice pn ln cn, .slice pl ll cl, .int .i64 (E : Nat), .int .i64 c, .int .i64 a, .int .i64 top])) ∧ Below w2.heap.size w2 w' :=
    fun w2 hb => (hs w2 hb).mono fun e w' ⟨⟨v', he, hq⟩, hb'⟩ => by
      obtain ⟨pn, ln, cn, pl, ll, cl, E, c, a, top, rfl⟩ := hQ v' hq
      exact ⟨pn, ln, cn, pl, ll, cl, E, c, a, top, he, hq, hb'⟩
  clear hs hQ
  unfold rdV at hi hs' ⊢
  go_enter Tryz.func71, Tryz.ntmps71
  go_wp2_with (first | (go_at_call 69; refine (hi _ (two w _ _)).mono ?_; rintro e w1 ⟨rfl, hb1⟩; obtain ⟨b1, b2, hb3⟩ := keepTwo hb1; obtain ⟨p0, p1, p2, p3, p4, p5, pl1⟩ := six b1) | (go_at_call 70; refine (hs' _ hb3).mono ?_; rintro e w2 ⟨pn2, ln2, cn2, pl2, ll2, cl2, E2, c2, a2, top2, rfl, hq, hb2⟩; clear p0 p1 p2 p3 p4 p5; have B2 := b2.below hb2 b2.lt; obtain ⟨q0, q1, q2, q3, q4, q5, ql1⟩ := six B2; have f0 := B2.frozen 0; have f1 := B2.frozen 1; have f2 := B2.frozen 2; have f3 := B2.frozen 3; have f4 := B2.frozen 4; have f5 := B2.frozen 5))
  refine bodyPost_ret (v := .agg #[.slice pn2 ln2 cn2, .slice pl2 ll2 cl2, .int .i64 (E2 : Nat), .int .i64 c2, .int .i64 a2, .int .i64 top2]) (by simp [results, Tryz.results71, go_sem, q0, q1, q2, q3, q4, q5, ql1]) rfl ?_
  exact ⟨⟨_, rfl, hq.out⟩, below6 (hb3.trans (hb2.mono hb3.size))⟩
section
variable {w0 w : World} {E : Nat} {pn : Option Addr} {ln cn : Nat} {top : Int} {L : List T4} {c a : Int} {v : Value}
theorem RdL.isRd (h : RdL w0 E pn ln cn top L v) : IsRd v := by obtain ⟨pl, cl, a, rfl, _⟩ := h; exact ⟨_, _, _, _, _, _, _, _, _, _, rfl⟩
theorem RdB.isRd (h : RdB w0 E pn ln cn top c a v) : IsRd v := by obtain ⟨_, pl, cl, L, rfl, _⟩ := h; exact ⟨_, _, _, _, _, _, _, _, _, _, rfl⟩
/-- what a reader has to be, by what the program's step of words gives -/
def RdW (w0 : World) (E : Nat) (pn : Option Addr) (ln cn : Nat) (top : Int) (r : R3) (v : Value) : Prop := match r with
  | .ok s => RdL w0 E pn ln cn top s.L v
  | .bad c a => RdB w0 E pn ln cn top c a v
  | .out => False
theorem RdL.want {st : S3} (h : RdL w0 E pn ln cn top st.L v) (h0 : Below w0.heap.size w0 w) (hL : ∀ x, x ∈ st.L → TokK x) {s : ByteArray} (hs : SgnKey s) :
    Calls Tryz.prog 71 #[v, .string s] w fun e w' => (∃ v', e = .returned v' ∧ RdW w0 E pn ln cn top (wordF E s.toList st) v') ∧ Below w.heap.size w w' := by
  have hi : ∀ w2, Below w.heap.size w w2 → _ := fun w2 hb => h.is (h0.trans (hb.mono h0.size)) hL hs
  unfold wordF
  by_cases ht : (pk E st.L).t = s.toList
  · rw [if_pos ht]
    rw [decide_eq_true ht] at hi
    exact want_is (Q := RdW w0 E pn ln cn top (.ok { st with L := st.L.tail })) (fun v h => RdL.isRd h) h.isRd w s hi fun w2 hb => h.skip w2
  · rw [if_neg ht]
    rw [decide_eq_false ht] at hi
    exact want_not (Q := RdW w0 E pn ln cn top (wrongF E st)) (fun v h => RdB.isRd h) h.isRd w s hi fun w2 hb => h.stop (h0.trans (hb.mono h0.size)) 1 (by decide)
theorem RdB.want (h : RdB w0 E pn ln cn top c a v) (h0 : Below w0.heap.size w0 w) (s : ByteArray) :
    Calls Tryz.prog 71 #[v, .string s] w fun e w' => (∃ v', e = .returned v' ∧ RdB w0 E pn ln cn top c a v') ∧ Below w.heap.size w w' :=
  want_not (fun v h => RdB.isRd h) h.isRd w s (fun w2 hb => h.is (h0.trans (hb.mono h0.size)) s) fun w2 hb => (h.stop w2 1).mono fun e w' ⟨he, hb'⟩ => ⟨⟨v, he, h⟩, hb'⟩
end
end Go.Proofs.YtbjacclfhgnffaaGreatDoor
/-
  The document's reader: add, where something is wrong: nothing is added.
-/
namespace Go.Proofs.YtbjacclfhgnffaaGreatDoor
open Go.RowKit
open Tk (T4 bstr)
open Tr (Nd Blk KidsAt ret_bool)

theorem keep3 {w w' : World} {t1 t2 t3 : TypeId} {c1 c2 c3 : Array Value} (hb : Below (((w.alloc (.cells c1 t1)).alloc (.cells c2 t2)).alloc (.cells c3 t3)).heap.size (((w.alloc (.cells c1 t1)).alloc (.cells c2 t2)).alloc (.cells c3 t3)) w') :
    Blk w' w.heap.size t1 c1 ∧ Blk w' (w.heap.size + 1) t2 c2 ∧ Blk w' (w.heap.size + 1 + 1) t3 c3 ∧ Below w.heap.size w w' := by
  obtain ⟨h2, h3, h4⟩ := keepTwo hb
  have hs : (w.alloc (.cells c1 t1)).heap.size = w.heap.size + 1 := World.size_alloc ..
  rw [hs] at h2 h3
  have h1 := ((Blk.new w t1 c1).below h4 (Blk.new w t1 c1).lt)
  exact ⟨h1, h2, h3, ((Below.refl _ _).alloc (Nat.le_refl _) _).trans (h4.mono (by rw [hs]; exact Nat.le_succ _))⟩
theorem set6 {B g : Nat} {w w' : World} {v0 v1 v2 v3 v4 v5 : Value} (h : Below B w w') (hg : B ≤ g) : Below B w ((((((w'.setCell ⟨g, 0, none⟩ v0).setCell ⟨g, 1, none⟩ v1).setCell ⟨g, 2, none⟩ v2).setCell ⟨g, 3, none⟩ v3).setCell ⟨g, 4, none⟩ v4).setCell ⟨g, 5, none⟩ v5) :=
  (((((h.setCell hg _).setCell hg _).setCell hg _).setCell hg _).setCell hg _).setCell hg _
set_option maxHeartbeats 2000000 in
set_option maxRecDepth 4000 in
theorem RdB.add {w0 : World} {E : Nat} {pn : Option Addr} {ln cn : Nat} {top : Int} {c a : Int} {v : Value} (h : RdB w0 E pn ln cn top c a v) (w : World) (k n z at' : Int) (x : ByteArray) (pk' pk2 : Option Addr) (lk ck lk2 ck2 : Nat) :
    Calls Tryz.prog 40 #[v, .agg #[.int .i64 k, .string x, .int .i64 n, .int .i64 z, .slice pk' lk ck, .int .i64 at'], .slice pk2 lk2 ck2] w fun e w' => e = .returned v ∧ Below w.heap.size w w' := by
  have hk := h.ok
  obtain ⟨hc, pl, cl, L, rfl, _⟩ := h
  generalize L.length = ll at *
  unfold rdV at hk ⊢
  go_enter Tryz.func40, Tryz.ntmps40
  go_wp2_with (go_at_call 38; refine (hk _).mono ?_; rintro e w' ⟨rfl, hb⟩; obtain ⟨b1, b2, b3, hb3⟩ := keep3 hb; obtain ⟨p0, p1, p2, p3, p4, p5, pl1⟩ := six b1; obtain ⟨q0, q1, q2, q3, q4, q5, ql1⟩ := six b3; have f0 := b3.frozen 0; have f1 := b3.frozen 1; have f2 := b3.frozen 2; have f3 := b3.frozen 3; have f4 := b3.frozen 4; have f5 := b3.frozen 5)
  refine bodyPost_ret (v := .agg #[.slice pn ln cn, .slice pl ll cl, .int .i64 E, .int .i64 c, .int .i64 a, .int .i64 top]) (by simp [results, Tryz.results40, go_sem, q0, q1, q2, q3, q4, q5, ql1]) rfl ?_
  exact ⟨rfl, set6 hb3 (by omega)⟩
end Go.Proofs.YtbjacclfhgnffaaGreatDoor
/-
  Contracts of one, two: a new row of one or two places.
-/
namespace Go.Proofs.YtbjacclfhgnffaaGreatDoor
open Go.RowKit
open Tk (T4 bstr)
open Tr (Nd Blk KidsAt ret_bool)

set_option maxHeartbeats 2000000 in
set_option maxRecDepth 4000 in
theorem one_any (k : Int) (w : World) :
    Calls Tryz.prog 82 #[.int .i64 k] w fun e w' => e = .returned (.slice (some ⟨w.heap.size, 0, none⟩) 1 1) ∧ KidsAt w' (some ⟨w.heap.size, 0, none⟩) [k] ∧ Below w.heap.size w w' := by
  go_enter Tryz.func82, Tryz.ntmps82
  go_wp2
  go_ret
  have hB := Blk.new w 3 #[.int .i64 k]
  exact ⟨rfl, fun _ => ⟨_, _, rfl, hB.lt, fun j hj => by
    have hj : j < 1 := hj
    obtain rfl : j = 0 := by omega
    exact hB.cell 0⟩, (Below.refl _ _).alloc (Nat.le_refl _) _⟩
set_option maxHeartbeats 2000000 in
set_option maxRecDepth 4000 in
theorem two_any (k m : Int) (w : World) :
    Calls Tryz.prog 73 #[.int .i64 k, .int .i64 m] w fun e w' => e = .returned (.slice (some ⟨w.heap.size, 0, none⟩) 2 2) ∧ KidsAt w' (some ⟨w.heap.size, 0, none⟩) [k, m] ∧ Below w.heap.size w w' := by
  go_enter Tryz.func73, Tryz.ntmps73
  go_wp2
  go_ret
  have hB := Blk.new w 3 #[.int .i64 k, .int .i64 m]
  exact ⟨rfl, fun _ => ⟨_, _, rfl, hB.lt, fun j hj => by
    have hj : j < 2 := hj
    rcases j with _ | _ | j
    · exact hB.cell 0
    · exact hB.cell 1
    · omega⟩, (Below.refl _ _).alloc (Nat.le_refl _) _⟩
end Go.Proofs.YtbjacclfhgnffaaGreatDoor
/-
  Contract of Rank: a sign's level, less one.
-/
namespace Go.Proofs.YtbjacclfhgnffaaGreatDoor
open Go.RowKit
open Tk (T4 bstr)
open Tr (Nd Blk KidsAt ret_int)

def allocs (t : TypeId) : World → List (Array Value) → World
  | w, [] => w
  | w, c :: l => allocs t (w.alloc (.cells c t)) l
theorem allocs_keep {t t' : TypeId} {g : Nat} {cs : Array Value} : ∀ (l : List (Array Value)) {w : World}, Blk w g t' cs → Blk (allocs t w l) g t' cs
  | [], _, h => h
  | _ :: l, _, h => allocs_keep l (h.alloc _)
theorem allocs_blk (t : TypeId) : ∀ (l : List (Array Value)) (w : World) (k : Nat) (h : k < l.length), Blk (allocs t w l) (w.heap.size + k) t l[k]
  | c :: l, w, 0, _ => allocs_keep l (Blk.new w t c)
  | c :: l, w, k + 1, h => by
    have := allocs_blk t l (w.alloc (.cells c t)) k (Nat.lt_of_succ_lt_succ h)
    rw [World.size_alloc] at this
    have e : w.heap.size + 1 + k = w.heap.size + (k + 1) := by omega
    rw [e] at this
    exact this
theorem allocs_below (t : TypeId) : ∀ (l : List (Array Value)) (w : World), Below w.heap.size w (allocs t w l) ∧ (allocs t w l).heap.size = w.heap.size + l.length
  | [], w => ⟨Below.refl _ _, rfl⟩
  | c :: l, w => by
    obtain ⟨h1, h2⟩ := allocs_below t l (w.alloc (.cells c t))
    have hs : (w.alloc (.cells c t)).heap.size = w.heap.size + 1 := World.size_alloc ..
    refine ⟨((Below.refl _ _).alloc (Nat.le_refl _) _).trans (h1.mono (by omega)), ?_⟩
    show (allocs t (w.alloc (.cells c t)) l).heap.size = _
    rw [h2, hs, List.length_cons]; omega
def rkRows : List (List (List UInt8)) := [[[124, 124]], [[38, 38]], [[124]], [[94]], [[38]], [[61, 61], [33, 61]], [[60], [60, 61], [62], [62, 61]], [[60, 60], [62, 62]], [[43], [45]], [[42], [47], [37]]]
def rowV (r : List (List UInt8)) : Array Value := (r.map fun x => Value.string (bstr x)).toArray
/-- the rank, from a row on -/
def rkF (l : List UInt8) : Nat → List (List (List UInt8)) → Nat
  | _, [] => 0
  | k, r :: rs => if Tk.cont r l = true then k + 1 else rkF l (k + 1) rs
def rankT (l : List UInt8) : Nat := rkF l 0 rkRows
theorem rkF_drop {l : List UInt8} {k : Nat} (hk : k < rkRows.length) (e : rankT l = rkF l k (rkRows.drop k)) :
    (Tk.cont rkRows[k] l = true → rankT l = k + 1) ∧ (Tk.cont rkRows[k] l = false → rankT l = rkF l (k + 1) (rkRows.drop (k + 1))) := by
  rw [List.drop_eq_getElem_cons hk] at e
  unfold rkF at e
  refine ⟨fun h => by rwa [if_pos h] at e, fun h => ?_⟩
  rw [if_neg (by rw [h]; decide)] at e
  exact e
theorem outer_blk {w W : World} (hW : W = (allocs 9 w (rkRows.map rowV)).alloc (.cells ((rkRows.zipIdx.map fun x => Value.slice (some ⟨w.heap.size + x.2, 0, none⟩) x.1.length x.1.length).toArray) 41)) :
    (∀ k, (h : k < rkRows.length) → W.cell? ⟨w.heap.size + 10, k, none⟩ = some (.slice (some ⟨w.heap.size + k, 0, none⟩) rkRows[k].length rkRows[k].length)) ∧
    (∀ k, (h : k < rkRows.length) → ∀ i, (hi : i < rkRows[k].length) → W.cell? ⟨w.heap.size + k, 0 + i, none⟩ = some (.string (bstr rkRows[k][i]))) ∧ Below w.heap.size w W := by
  subst hW
  obtain ⟨h1, h2⟩ := allocs_below 9 (rkRows.map rowV) w
  refine ⟨fun k h => ?_, fun k h i hi => ?_, h1.alloc h1.size _⟩
  · have hB := Blk.new (allocs 9 w (rkRows.map rowV)) 41 ((rkRows.zipIdx.map fun x => Value.slice (some ⟨w.heap.size + x.2, 0, none⟩) x.1.length x.1.length).toArray)
    rw [h2] at hB
    have := hB.cell k
    refine this.trans ?_
    simp [h]
  · have hB := (allocs_blk 9 (rkRows.map rowV) w k (by simpa using h)).alloc (.cells ((rkRows.zipIdx.map fun x => Value.slice (some ⟨w.heap.size + x.2, 0, none⟩) x.1.length x.1.length).toArray) 41)
    have := hB.cell (0 + i)
    refine this.trans ?_
    simp [rowV, hi]
theorem rk_few (k : Nat) (h : k < rkRows.length) : rkRows[k].length ≤ 100 := by
  have : ∀ r, r ∈ rkRows → r.length ≤ 100 := by decide
  exact this _ (List.getElem_mem h)
set_option maxHeartbeats 4000000 in
set_option maxRecDepth 100000 in
theorem rank_any (s : ByteArray) (w : World) :
    Calls Tryz.prog 120 #[.string s] w fun e w' => e = .returned (.int .i64 (rankT s.data.toList)) ∧ Below w.heap.size w w' := by
  go_enter Tryz.func120, Tryz.ntmps120
  go_wp2
  generalize hW : World.alloc _ _ = W
  obtain ⟨hc, hr, hb⟩ := outer_blk hW.symm
  clear hW
  have HC := Lib.hid hc
  have HR := Lib.hid hr
  clear hc hr
  go_loop [4] (fun i => ∃ k : Nat, k ≤ 10 ∧ i = .int .i64 k ∧ Hid (rankT s.data.toList = rkF s.data.toList k (rkRows.drop k))) (fun i => 10 - (intOf i).toNat)
  case atStart => exact ⟨0, Nat.zero_le _, rfl, rfl⟩
  case round =>
    obtain ⟨k, hk, rfl, HK⟩ := hrel
    by_cases hlt : k < 10
    · have hl : k < rkRows.length := hlt
      have hcell : W.cell? ⟨w.heap.size + 1 + 1 + 1 + 1 + 1 + 1 + 1 + 1 + 1 + 1, k, none⟩ = _ := HC.out k hl
      have hA := Tk.among_any rkRows[k] (w.heap.size + k) 0 rkRows[k].length rkRows[k].length s W rfl (rk_few k hl) (HR.out k hl)
      obtain ⟨hy, hn⟩ := rkF_drop hl HK.out
      clear HK HC HR
      cases hq : Tk.cont rkRows[k] s.data.toList with
      | true =>
        have HY : Hid (rankT s.data.toList = k + 1) := hy hq
        rw [hq] at hA
        clear hy hn hq
        generalize rkRows[k].length = n at *
        go_wp2_with (go_at_call 121; refine hA.mono ?_; rintro e w' ⟨rfl, rfl⟩)
        go_ret
        exact ⟨ret_int (by rw [HY.out]; rfl), hb⟩
      | false =>
        have HN : Hid (rankT s.data.toList = rkF s.data.toList (k + 1) (rkRows.drop (k + 1))) := hn hq
        rw [hq] at hA
        clear hy hn hq
        generalize rkRows[k].length = n at *
        go_wp2_with (go_at_call 121; refine hA.mono ?_; rintro e w' ⟨rfl, rfl⟩)
        go_round
        case rel => exact ⟨k + 1, by omega, by go_num, HN⟩
        case measure => simp [intOf]; omega
    · have HZ : Hid (rankT s.data.toList = 0) := by
        have e0 : rkRows.drop k = [] := List.drop_eq_nil_of_le (by show 10 ≤ k; omega)
        exact HK.out.trans (by rw [e0]; rfl)
      clear HK HC HR
      go_wp2
      go_ret
      exact ⟨ret_int (by rw [HZ.out]; rfl), hb⟩
/-- the document's ranks are the program's levels, less one -/
theorem rank_level (t : List UInt8) : rankT t + 1 = levelT t ∨ rankT t = 0 ∧ levelT t = 0 := by
  unfold levelT rankT rkRows
  simp only [rkF, Tk.cont, List.contains_cons, List.contains_nil, Bool.or_false, Bool.or_eq_true, beq_iff_eq]
  repeat' split
  all_goals first
    | (left; rfl)
    | (right; exact ⟨rfl, rfl⟩)
    | (exfalso; simp_all)
end Go.Proofs.YtbjacclfhgnffaaGreatDoor
/-
  Contract of the document's texts, for signs that set.
-/
namespace Go.Proofs.YtbjacclfhgnffaaGreatDoor
open Go.RowKit
open Tk (T4 bstr)
open Tr (Nd Blk KidsAt ret_bool setS setB twoA twoC oneS)

def amB (L : List (List UInt8)) (s : ByteArray) : Bool := decide (s.toList ∈ L)
def TxtAt (w : World) (b : Nat) (L : List (List UInt8)) : Prop := ∀ i, (h : i < L.length) → ∃ x : ByteArray, x.toList = L[i] ∧ w.cell? ⟨b, i, none⟩ = some (.string x)
theorem among_in (L : List (List UInt8)) (b cap : Nat) (s : ByteArray) (w : World) (hL : TxtAt w b L) (hl : L.length ≤ 100) (n : Nat) (hn : n = L.length) :
    Calls Tryz.prog 121 #[.slice (some ⟨b, 0, none⟩) n cap, .string s] w fun e w' => e = .returned (.bool (amB L s)) ∧ w = w' := by
  refine (Tk.among_any L b 0 n cap s w hn.symm (by omega) (fun i h => ?_)).mono fun e w' ⟨he, hw⟩ => ⟨?_, hw⟩
  · obtain ⟨x, hx, hc⟩ := hL i h
    rw [Nat.zero_add, hc]
    have : bstr L[i] = x := by rw [← hx, Lib.toList_data]; exact Lib.mk_data x
    rw [this]
  · rw [he]
    have : Tk.cont L s.data.toList = amB L s := by unfold Tk.cont amB; rw [Lib.toList_data, Bool.eq_iff_iff, decide_eq_true_eq]; simp
    rw [this]
def strs (L : List (List UInt8)) : Array Value := (L.map fun l => Value.string ⟨l.toArray⟩).toArray
theorem txt_new (w : World) (L : List (List UInt8)) (T : TypeId) : TxtAt (w.alloc (.cells (strs L) T)) w.heap.size L := fun i h => by
  refine ⟨⟨L[i].toArray⟩, by rw [Lib.toList_data], ?_⟩
  rw [(Blk.new w T (strs L)).cell i]
  simp [strs, h]
theorem set_split {L : List UInt8} : L ∈ setS ↔ L = [61] ∨ (1 < L.length ∧ L.getLast? = some 61 ∧ L.dropLast ∈ twoA) := by
  constructor
  · intro h
    simp only [setS, List.mem_cons, List.not_mem_nil, or_false] at h
    rcases h with rfl | rfl | rfl | rfl | rfl | rfl | rfl | rfl | rfl | rfl | rfl <;> decide
  · rintro (rfl | ⟨h1, h2, h3⟩)
    · decide
    · have h4 : L ≠ [] := by intro e; rw [e] at h1; simp at h1
      have h5 : L = L.dropLast ++ [61] := by
        have h := List.dropLast_concat_getLast h4
        have h6 : L.getLast h4 = 61 := by rw [List.getLast?_eq_some_getLast h4] at h2; exact Option.some.inj h2
        rw [h6] at h
        exact h.symm
      generalize L.dropLast = X at *
      subst h5
      simp only [twoA, List.mem_cons, List.not_mem_nil, or_false] at h3
      rcases h3 with rfl | rfl | rfl | rfl | rfl | rfl | rfl | rfl | rfl | rfl <;> decide

set_option maxHeartbeats 2000000 in
set_option maxRecDepth 10000 in
theorem texts_set (s : ByteArray) (w : World) (hs : s.size ≤ 1000000000000000000) :
    Calls Tryz.prog 72 #[.int .i64 39, .string s] w fun e w' => e = .returned (.bool (setB s)) ∧ Below w.heap.size w w' := by
  have T1 : Hid (TxtAt (w.alloc (Obj.cells #[Value.string { data := #[43] }, Value.string { data := #[45] }, Value.string { data := #[42] }, Value.string { data := #[47] }, Value.string { data := #[37] }, Value.string { data := #[38] }, Value.string { data := #[124] }, Value.string { data := #[94] }, Value.string { data := #[60, 60] }, Value.string { data := #[62, 62] }] 9)) w.heap.size twoA) := txt_new w twoA 9
  have hlen : s.toList.length = s.size := by rw [Lib.toList_data, ← Lib.size_eq]
  by_cases h1 : s.toList = [61]
  · have hR : Hid (setB s = true) := decide_eq_true (by rw [h1]; decide)
    clear hlen
    go_enter Tryz.func72, Tryz.ntmps72
    go_wp2
    go_ret
    exact ⟨ret_bool hR.out.symm, (Below.refl _ _).alloc (Nat.le_refl _) _⟩
  · have e1 : (s.toList == [61]) = false := by simpa using h1
    have hR : Hid (setB s = true ↔ (1 < s.size ∧ s.toList.getLast? = some 61 ∧ s.toList.dropLast ∈ twoA)) := by
      show _ ↔ _
      unfold setB
      rw [decide_eq_true_eq, set_split, hlen]
      exact ⟨fun h => h.resolve_left h1, Or.inr⟩
    clear h1
    by_cases h2 : 1 < s.size
    · obtain ⟨q, hq⟩ : ∃ q, q = s.size - 1 := ⟨_, rfl⟩
      have hql : q < s.size := by omega
      have hgl : s.toList.getLast? = some s[q] := by
        rw [List.getLast?_eq_getElem?, hlen, ← hq, List.getElem?_eq_getElem (by rw [hlen]; omega)]
        simp only [Lib.toList_data]
        rfl
      have hdl : s.toList.dropLast = (s.extract 0 q).toList := by
        rw [Lib.toList_data, Lib.toList_data, List.dropLast_eq_take, ← Lib.size_eq, hq]
        simp
        rw [List.dropLast_eq_take, ← Lib.size_eq]
      have e3 : (s.size : Int) - 1 = (q : Int) := by omega
      have e4 : (1 : Int) < (s.size : Int) := by omega
      have e5 : decide ((1 : Int) < (s.size : Int)) = true := by simpa using e4
      by_cases h3 : s[q].toNat = 61
      · have h61 : s[q] = 61 := by apply UInt8.toNat.inj; exact h3
        have hR2 : Hid (setB s = amB twoA (s.extract 0 q)) := by
          show _ = _
          rw [Bool.eq_iff_iff, hR.out, hgl, h61, hdl]
          unfold amB
          simp [h2]
        have e6 : ((s[q].toNat : Int) == 61) = true := by rw [h3]; rfl
        have C1 := among_in twoA w.heap.size 10 (s.extract 0 q) _ T1.out (by decide) 10 rfl
        clear hgl hdl h61 h3 hlen hq hR
        go_enter Tryz.func72, Tryz.ntmps72
        go_wp2_with (go_at_call 121; refine C1.mono ?_)
        first | rintro e w' rfl rfl | rintro e w' ⟨rfl, rfl⟩
        go_wp2
        go_ret
        exact ⟨ret_bool hR2.out.symm, (Below.refl _ _).alloc (Nat.le_refl _) _⟩
      · have hF : Hid (setB s = false) := by
          show _ = _
          cases hb : setB s with
          | false => rfl
          | true =>
            have h := (hR.out.1 hb).2.1
            rw [hgl] at h
            have h := Option.some.inj h
            exact absurd (by rw [h]; rfl) h3
        have e6 : ((s[q].toNat : Int) == 61) = false := by rw [beq_eq_false_iff_ne]; intro h; exact h3 (by omega)
        clear hgl hdl h3 hlen hq hR
        go_enter Tryz.func72, Tryz.ntmps72
        go_wp2
        go_ret
        exact ⟨ret_bool hF.out.symm, (Below.refl _ _).alloc (Nat.le_refl _) _⟩
    · have hF : Hid (setB s = false) := by
        show _ = _
        cases hb : setB s with
        | false => rfl
        | true => exact absurd (hR.out.1 hb).1 h2
      clear hlen
      go_enter Tryz.func72, Tryz.ntmps72
      go_wp2
      go_ret
      exact ⟨ret_bool hF.out.symm, (Below.refl _ _).alloc (Nat.le_refl _) _⟩

end Go.Proofs.YtbjacclfhgnffaaGreatDoor
