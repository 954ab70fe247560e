/-
  Joined texts of this claim: Vc, Uo, Un.
-/
import Derived.Test.YtbjacclfhgnffaaGreatDoorX18
import Derived.Test.YtbjacclfhgnffaaGreatDoorX26
import Derived.RegionTactic
import Derived.ChangeAlike
import Derived.Test.YtbjacclfhgnffaaGreatDoorX24
import Derived.Test.YtbjacclfhgnffaaGreatDoorX23
set_option linter.unusedVariables false
set_option linter.unusedSimpArgs false
/-
  The contract of read, as a step that lays the words.
-/
namespace Go.Proofs.YtbjacclfhgnffaaGreatDoor
open Go.RowKit
open Tk (T4 SR Scans bstr rowOf)
open Tr (Nd Blk KidsAt)

/-- the step that lays the words -/
def readF (R : SR) : F3 := fun s => match R with | .ok L => .ok { s with L := L } | .bad c a => .bad c a
theorem ps_init {B T E : Nat} {w : World} {v : Value} {L : List T4} (hb : Blk w B T #[v, .int .i64 E, .slice none 0 0, .slice none 0 0]) (ht : Toks B w v L) (hL : L.length ≤ 5000000) : Ps B T E w ⟨L, [], []⟩ :=
  ⟨v, .slice none 0 0, .slice none 0 0, [], { box := hb, tok := ht, nod := World.ownsRow_nil _ _ _ _, kid := fun i h => absurd h (by simp), loo := World.ownsRow_nil _ _ _ _, sep := fun g h => by simp [Value.ownBlock] at h, eqN := rfl, lenO := Nat.le_refl _, lenN := by simp, lenL := hL, kl := fun x h => absurd h (by simp) }⟩
theorem own_init {B T : Nat} {w : World} {v0 v1 : Value} (hb : Blk w B T #[v0, v1, .slice none 0 0, .slice none 0 0]) (g : Nat) : Own B w g ↔ g = B := by
  have e2 : w.cell? ⟨B, 2, none⟩ = some (.slice none 0 0) := by rw [hb.cell]; rfl
  have e3 : w.cell? ⟨B, 3, none⟩ = some (.slice none 0 0) := by rw [hb.cell]; rfl
  unfold Own; rw [e2, e3]; simp [Value.ownBlock]
/-- both stores into the parser's box, behind new blocks -/
theorem read_close {B T E : Nat} {w w1 w2 : World} {v v1 : Value} {L : List T4} (h0 : Blk w B T #[v1, .int .i64 0, .slice none 0 0, .slice none 0 0]) (hb : Below w.heap.size w w1) (ho : w1.ownsRow w.heap.size 82 4 v L.length (rowOf L)) (hL : L.length ≤ 5000000)
    (hblk : Blk w2 B T #[v, .int .i64 E, .slice none 0 0, .slice none 0 0]) (hos : w2.os = w1.os) (htp : w2.tape = w1.tape) (hou : w2.output = w1.output) (hsz : w2.heap.size = w1.heap.size) (hk : ∀ g, g ≠ B → w2.heap[g]? = w1.heap[g]?) :
    Ext B w w2 ∧ Ps B T E w2 ⟨L, [], []⟩ := by
  have hO := own_init h0
  have hO2 := own_init hblk
  have hB := h0.lt
  refine ⟨⟨hos.trans hb.os, htp.trans hb.tape, hou.trans hb.output, by rw [hsz]; exact hb.size, fun g hg hn => ?_, fun g h => Or.inl ((hO g).2 ((hO2 g).1 h))⟩, ps_init hblk ?_ hL⟩
  · exact (hk g (fun e => hn ((hO g).2 e))).trans (hb.block g hg)
  · refine toks_row (b := w.heap.size) ?_ (fun g hg h => by have := (hO2 g).1 h; omega)
    obtain ⟨k1, k2⟩ := ho
    refine ⟨k1, ?_⟩
    rcases k2 with k2 | ⟨g, cap, cur, hv, hg, hh, r⟩
    · exact Or.inl k2
    · exact Or.inr ⟨g, cap, cur, hv, hg, (hk g (by omega)).trans hh, r⟩
theorem set2_a {B T : Nat} {w : World} {a0 a1 x0 x1 x2 x3 : Value} (h : Blk w B T #[x0, x1, x2, x3]) : Blk ((w.setCell ⟨B, 0, none⟩ a0).setCell ⟨B, 1, none⟩ a1) B T #[a0, a1, x2, x3] := by
  have h1 := (h.set_ 0 a0).set_ 1 a1; simpa using h1
theorem set2_b {B T : Nat} {w : World} {a0 a1 x0 x1 x2 x3 : Value} (h : Blk w B T #[x0, x1, x2, x3]) : Blk ((w.setCell ⟨B, 1, none⟩ a1).setCell ⟨B, 0, none⟩ a0) B T #[a0, a1, x2, x3] := by
  have h1 := (h.set_ 1 a1).set_ 0 a0; simpa using h1
theorem keep2 {B : Nat} (w : World) (i j : Nat) (a0 a1 : Value) (g : Nat) (hg : g ≠ B) : ((w.setCell ⟨B, i, none⟩ a0).setCell ⟨B, j, none⟩ a1).heap[g]? = w.heap[g]? :=
  (Below.heap_setCell _ _ _ _ hg).trans (Below.heap_setCell _ _ _ _ hg)

theorem read_lay {B : Nat} (x : ByteArray) (w : World) :
    Calls Tryz.prog 28 #[.pointer (some ⟨B, 0, none⟩), .string x] w fun e w' => e = .returned (.func (.func 55) #[] #[.pointer (some ⟨w.heap.size + 1, 0, none⟩), .pointer (some ⟨w.heap.size, 0, none⟩)]) ∧
      w' = (w.alloc (.cells #[.pointer (some ⟨B, 0, none⟩)] 84)).alloc (.cells #[.string x] 9) := by
  go_enter Tryz.func28, Tryz.ntmps28
  go_wp2
  go_ret
  exact ⟨rfl, rfl⟩

set_option maxHeartbeats 4000000 in
set_option maxRecDepth 100000 in
theorem readc_any {B T : Nat} {s : ByteArray} {R : SR} (hR : TokR s.data.toList R) {w : World} {gp gs : Nat} (hp : w.cell? ⟨gp, 0, none⟩ = some (.pointer (some ⟨B, 0, none⟩))) (hs : w.cell? ⟨gs, 0, none⟩ = some (.string s)) (hgp : gp < w.heap.size) (hgs : gs < w.heap.size) (np : B ≠ gp) (ng : B ≠ gs)
    (h0 : Blk w B T #[.slice none 0 0, .int .i64 0, .slice none 0 0, .slice none 0 0]) (hs47 : s.size ≤ 140737488355328) (hsh : w.ShapedOpen Tryz.prog) {te : TypeId} {pe : Value} (hv : w.cell? ⟨4, 0, none⟩ = some (.iface te pe)) :
    Calls Tryz.prog 55 #[.pointer (some ⟨gs, 0, none⟩), .pointer (some ⟨gp, 0, none⟩)] w (DidI B (fun s1 w' => Ps B T s.size w' s1) w (readF R ⟨[], [], []⟩)) := by
  obtain ⟨Q, hQ⟩ : ∃ Q : Ending → World → Prop, Q = DidI B (fun s1 w' => Ps B T s.size w' s1) w (readF R ⟨[], [], []⟩) := ⟨_, rfl⟩
  rw [← hQ]
  have HQ := Lib.hid hQ
  have hsc := scan_R hR hs47 hsh hv
  have HR := Lib.hid hR.few
  have H0 := Lib.hid h0
  have Hp := Lib.hid hp
  have Hs := Lib.hid hs
  have Hgp := Lib.hid hgp
  have Hgs := Lib.hid hgs
  have hB := h0.lt
  have np' : gp ≠ B := fun e => np e.symm
  have ng' : gs ≠ B := fun e => ng e.symm
  clear hQ hR h0 hsh hv hp hgp hgs
  go_enter Tryz.func55, Tryz.ntmps55
  go_wp2_with (go_at_call 56; refine hsc.mono ?_)
  rintro e w1 ⟨hb, v, h⟩
  have HB := Lib.hid hb
  cases R with
  | bad c a =>
    obtain ⟨rfl, rfl⟩ := h
    have hc0 : ((c : Int) != 0) = true := by have h : c ≠ 0 := HR.out; simpa using h
    clear hb hsc
    go_wp2
    (try go_ret)
    rw [HQ.out]
    exact ⟨rfl, (Ext.below HB.out hB).alloc hB _⟩
  | ok L =>
    obtain ⟨rfl, ho⟩ := h
    have hL8 := HR.out
    obtain ⟨hL8, -⟩ := hL8
    obtain ⟨p, cap, rfl⟩ : ∃ p cap, v = .slice p L.length cap := by
      rcases ho.2 with ⟨rfl, h0⟩ | ⟨g, cap, cur, rfl, _⟩
      · exact ⟨none, 0, by rw [h0]⟩
      · exact ⟨_, _, rfl⟩
    have HO := Lib.hid ho
    have hb2 : Below w.heap.size w (w1.alloc (.cells #[.int .i64 0, .int .i64 0] 26)) := hb.alloc hb.size _
    have HB2 := Lib.hid hb2
    have HO2 := Lib.hid (ho.alloc (.cells #[.int .i64 0, .int .i64 0] 26))
    have hk : Blk (w1.alloc (.cells #[.int .i64 0, .int .i64 0] 26)) B T #[.slice none 0 0, .int .i64 0, .slice none 0 0, .slice none 0 0] := (hb2.block B hB).trans H0.out
    have HK := Lib.hid hk
    have c1 : (w1.alloc (.cells #[.int .i64 0, .int .i64 0] 26)).cell? ⟨gp, 0, none⟩ = some (.pointer (some ⟨B, 0, none⟩)) := (hb2.cell (p := ⟨gp, 0, none⟩) Hgp.out).trans Hp.out
    have c2 : (w1.alloc (.cells #[.int .i64 0, .int .i64 0] 26)).cell? ⟨gs, 0, none⟩ = some (.string s) := (hb2.cell (p := ⟨gs, 0, none⟩) Hgs.out).trans Hs.out
    have c3 : (w1.alloc (.cells #[.int .i64 0, .int .i64 0] 26)).cell? ⟨B, 0, none⟩ = some (.slice none 0 0) := by rw [hk.cell]; rfl
    have c4 : (w1.alloc (.cells #[.int .i64 0, .int .i64 0] 26)).cell? ⟨B, 1, none⟩ = some (.int .i64 0) := by rw [hk.cell]; rfl
    have f3 := hk.frozen 0
    have f4 := hk.frozen 1
    clear hb hsc ho hb2 hk hs
    go_wp2
    generalize w1.alloc (.cells #[.int .i64 0, .int .i64 0] 26) = W6 at *
    go_region
    go_wp2
    rw [HQ.out]
    have hc := read_close (T := T) (E := s.size) (v := .slice p L.length cap) H0.out HB2.out HO2.out (by omega) (set2_a HK.out) rfl rfl rfl (by simp [World.setCell]) (fun g hg => keep2 _ _ _ _ _ g hg)
    exact ⟨rfl, hc.1.drew, hc.2.drew⟩
end Go.Proofs.YtbjacclfhgnffaaGreatDoor
/-
  Contracts of globals, unit, global at void.
-/
namespace Go.Proofs.YtbjacclfhgnffaaGreatDoor
open Go.RowKit
open Tk (T4 bstr)
open Tr (Nd Blk KidsAt)

theorem sees_yesb {B T E : Nat} {w : World} {s : S3} (h : Ps B T E w s) (x : ByteArray) {l : List UInt8} (hl : x.data.toList = l) (ht : (pk E s.L).t = l) :
    Calls Tryz.prog 161 #[.pointer (some ⟨B, 0, none⟩), .string x] w fun e w' => e = .returned (.bool true) ∧ Below w.heap.size w w' := by
  refine (sees_any h x).mono fun e w' ⟨he, hb⟩ => ⟨?_, hb⟩
  rw [he, hl, decide_eq_true ht]
theorem sees_nob {B T E : Nat} {w : World} {s : S3} (h : Ps B T E w s) (x : ByteArray) {l : List UInt8} (hl : x.data.toList = l) (ht : (pk E s.L).t ≠ l) :
    Calls Tryz.prog 161 #[.pointer (some ⟨B, 0, none⟩), .string x] w fun e w' => e = .returned (.bool false) ∧ Below w.heap.size w w' := by
  refine (sees_any h x).mono fun e w' ⟨he, hb⟩ => ⟨?_, hb⟩
  rw [he, hl, decide_eq_false ht]
theorem node_n {a0 a2 a3 a5 : Int} {a1 : ByteArray} {x : Mn} (h : (.agg #[.int .i64 a0, .string a1, .int .i64 a2, .int .i64 a3, .slice none 0 0, .int .i64 a5] : Value) = nodeV x) : x.n = a2 := by
  obtain ⟨xk, xt, xn, xz, xc, xa⟩ := x
  unfold nodeV at h
  simp only [Value.agg.injEq, Array.mk.injEq, List.cons.injEq, Value.int.injEq, Value.string.injEq, true_and, and_true] at h
  exact h.2.2.1.symm
/-- what function and array do -/
def NdC (B T E : Nat) (id : FuncId) (f : Mn → F3) : Prop := ∀ (a0 : Int) (a1 : ByteArray) (a2 a3 a5 : Int) (x : Mn), (.agg #[.int .i64 a0, .string a1, .int .i64 a2, .int .i64 a3, .slice none 0 0, .int .i64 a5] : Value) = nodeV x → x.c = [] → ∀ w s, Ps B T E w s → f x s ≠ .out →
  Calls Tryz.prog id #[.pointer (some ⟨B, 0, none⟩), .agg #[.int .i64 a0, .string a1, .int .i64 a2, .int .i64 a3, .slice none 0 0, .int .i64 a5]] w (Did B T E w (f x s))
/-- the functions and globals of a unit, up to its end -/
def globsF (fam : Nat → F3) : Nat → F3
  | 0 => fun _ => .out
  | m + 1 => fun s => if s.L = [] then .ok s else (fam m s).bind (globsF fam m)

set_option maxHeartbeats 16000000 in
set_option maxRecDepth 100000 in
theorem globals_fn {B T E n : Nat} {fam : Nat → F3} (hit : ∀ m, m < n → FnC B T E 122 (fam m)) : FnC B T E 77 (globsF fam n) := fun w s h hr => by
  obtain ⟨r, hrr⟩ : ∃ r, r = globsF fam n s := ⟨_, rfl⟩
  rw [← hrr] at hr ⊢
  obtain ⟨Q, hQ⟩ : ∃ Q : Ending → World → Prop, Q = Did B T E w r := ⟨_, rfl⟩
  rw [← hQ]
  have HQ := Lib.hid hQ
  have HR := Lib.hid hr
  have hB := h.lt
  clear hQ hr
  have Hrr := Lib.hid hrr
  have HIt := Lib.hid hit
  have HP0 := Lib.hid h
  clear hrr hit h
  go_enter Tryz.func77, Tryz.ntmps77
  go_wp2
  go_loopg [] n (fun k wr => ∃ s2, k ≤ n ∧ Hid (r = globsF fam k s2) ∧ Ext B w wr ∧ Ps B T E wr s2)
  case atStart => exact ⟨s, Nat.le_refl _, Hrr, Ext.refl _ _, HP0.out⟩
  case round =>
    obtain ⟨s2, hk, HK, hx, hp⟩ := hrel
    have HXr := Lib.hid hx
    have HPr := Lib.hid hp
    clear hx hp HP0 Hrr
    cases gk with
    | zero => exact absurd HK.out HR.out
    | succ m =>
      have HK2 : Hid (r = if s2.L = [] then .ok s2 else (fam m s2).bind (globsF fam m)) := HK.out
      clear HK
      have hen := ended_any HPr.out
      by_cases hl : s2.L = []
      · have hd : decide (s2.L.length = 0) = true := by rw [hl]; rfl
        rw [hd] at hen
        have HR2 : Hid (r = .ok s2) := by have h := HK2.out; rw [if_pos hl] at h; exact h
        clear hd hl HK2
        go_wp2_with (go_at_call 63; refine hen.mono ?_; rintro e w' ⟨rfl, rfl⟩)
        (try go_wp2)
        (try go_ret)
        rw [HQ.out, HR2.out]
        exact ⟨rfl, HXr.out, HPr.out⟩
      · have hd : decide (s2.L.length = 0) = false := by
          cases h2 : s2.L with
          | nil => exact absurd h2 hl
          | cons a b => rfl
        rw [hd] at hen
        have HK3 : Hid (r = (fam m s2).bind (globsF fam m)) := by have h := HK2.out; rw [if_neg hl] at h; exact h
        have hne : fam m s2 ≠ .out := fun e => HR.out (by rw [HK3.out, e]; rfl)
        have hcall := HIt.out m (by omega) wr s2 HPr.out hne
        clear hd hl HK2 hne
        go_wp2_with (first | (go_at_call 63; refine hen.mono ?_; rintro e w' ⟨rfl, rfl⟩) | (go_at_call 122; refine hcall.mono ?_))
        intro e w8 hd
        cases hf : fam m s2 with
        | out => exact absurd (by rw [HK3.out, hf]; rfl) HR.out
        | bad c1 b1 =>
          rw [hf] at hd
          obtain ⟨rfl, hx8⟩ := hd
          have HX8 := Lib.hid (HXr.out.trans hx8)
          have HRb : Hid (r = .bad c1 b1) := by have h := HK3.out; rw [hf] at h; exact h
          clear hcall hf hx8 hen
          unfold errV
          go_wp2
          (try go_ret)
          rw [HQ.out, HRb.out]
          exact ⟨rfl, HX8.out⟩
        | ok s3 =>
          rw [hf] at hd
          obtain ⟨rfl, hx8, hp8⟩ := hd
          have HX8 := Lib.hid (HXr.out.trans hx8)
          have HP8 := Lib.hid hp8
          have HK5 : Hid (r = globsF fam m s3) := by have h := HK3.out; rw [hf] at h; exact h
          clear hcall hf hx8 hp8 hen HK3
          go_wp2
          go_roundg m
          case rel => exact ⟨s3, by omega, HK5, HX8.out, HP8.out⟩
          case measure => omega

set_option maxHeartbeats 16000000 in
set_option maxRecDepth 100000 in
theorem unit_fn {B T E : Nat} {gl : F3} (hgl : FnC B T E 77 gl) : FnC B T E 37 (buildF (mk 1 [] 0 0) [gl]) := fun w s h hr => by
  obtain ⟨r, hrr⟩ : ∃ r, r = buildF (mk 1 [] 0 0) [gl] s := ⟨_, rfl⟩
  rw [← hrr] at hr ⊢
  obtain ⟨Q, hQ⟩ : ∃ Q : Ending → World → Prop, Q = Did B T E w r := ⟨_, rfl⟩
  rw [← hQ]
  have HQ := Lib.hid hQ
  have HR := Lib.hid hr
  have hB := h.lt
  clear hQ hr
  have hcall := build_now (Now.refl h) [.func (.func 77) #[.pointer (some ⟨B, 0, none⟩)] #[]] [gl] rfl (by simp) (step1 (stepFn hgl ent61 w)) (mk 1 [] 0 0) rfl (by rw [← hrr]; exact HR.out) 57
  rw [← hrr] at hcall
  have hc2 : Calls Tryz.prog 76 #[.pointer (some ⟨B, 2, none⟩), .agg #[.int .i64 1, .string ⟨#[]⟩, .int .i64 0, .int .i64 0, .slice none 0 0, .int .i64 0], .slice (some ⟨w.heap.size, 0, none⟩) 1 1] (w.alloc (.cells #[.func (.func 77) #[.pointer (some ⟨B, 0, none⟩)] #[]] 57)) (Ends B T E w r) := hcall
  clear hcall hrr h
  go_enter Tryz.func37, Tryz.ntmps37
  go_wp2_with (go_at_call 76; refine hc2.mono ?_)
  rintro e w2 ⟨v, rfl, hd, hx⟩
  have HD := Lib.hid hd
  clear hd hx hc2
  go_wp2
  (try go_ret)
  rw [HQ.out]
  exact HD.out

def globF (E n : Nat) (fnf : Mn → F3) (ex : F3) (fam : Nat → F3) : F3 := fun s =>
  if (pk E s.L).t = [118, 111, 105, 100] then (namedF E 0 { s with L := s.L.tail }).bind fun s1 x => fnf x s1
  else (declF E s).bind fun s1 x => if (pk E s1.L).t = [40] then fnf x s1 else if (pk E s1.L).t = [91] ∧ x.n = 1 then arrayF E x fam n s1 else buildF { x with k := 2 } [initialF E ex, wordF E [59]] s1

set_option maxHeartbeats 16000000 in
set_option maxRecDepth 100000 in
theorem glob_void {B T E n : Nat} {fnf : Mn → F3} {ex : F3} {fam : Nat → F3} (hfn : NdC B T E 169 fnf) {w : World} {s : S3} (h : Ps B T E w s) (ht : (pk E s.L).t = [118, 111, 105, 100]) (hr : globF E n fnf ex fam s ≠ .out) :
    Calls Tryz.prog 122 #[.pointer (some ⟨B, 0, none⟩)] w (Did B T E w (globF E n fnf ex fam s)) := by
  obtain ⟨r, hrr⟩ : ∃ r, r = globF E n fnf ex fam s := ⟨_, rfl⟩
  rw [← hrr] at hr ⊢
  obtain ⟨Q, hQ⟩ : ∃ Q : Ending → World → Prop, Q = Did B T E w r := ⟨_, rfl⟩
  rw [← hQ]
  have HQ := Lib.hid hQ
  have HR := Lib.hid hr
  have hB := h.lt
  clear hQ hr
  have htk := took_yes h ⟨#[118, 111, 105, 100]⟩ rfl ht
  have Hrr0 : Hid (r = (namedF E 0 { s with L := s.L.tail }).bind fun s1 x => fnf x s1) := by
    show r = _
    rw [hrr]; unfold globF; rw [if_pos ht]
  have HFn := Lib.hid hfn
  clear hrr h ht hfn
  go_enter Tryz.func122, Tryz.ntmps122
  go_wp2_with (go_at_call 111; refine htk.mono ?_; rintro e w1 ⟨rfl, hx1, hp1⟩)
  have hnm := named_any hp1 0
  have HX1 := Lib.hid hx1
  have HP1 := Lib.hid hp1
  clear hx1 hp1 htk
  go_wp2_with (go_at_call 168; refine hnm.mono ?_)
  rintro e w2 ⟨a0, a1, a2, a3, a5, v2, s1, rfl, hM, hd⟩
  have HM := Lib.hid hM
  have hB2 : B < w2.heap.size := (hM.of HP1.out).lt
  have HX2 := Lib.hid (HX1.out.trans hM.ext)
  clear hM hnm
  cases hf : namedF E 0 { s with L := s.L.tail } with
  | out => rw [hf] at hd; exact hd.elim
  | bad c1 b1 =>
    rw [hf] at hd
    obtain rfl : v2 = errV c1 b1 := hd
    have HRb : Hid (r = .bad c1 b1) := by have h := Hrr0.out; rw [hf] at h; exact h
    clear hf
    unfold errV
    go_wp2
    (try go_ret)
    rw [HQ.out, HRb.out]
    exact ⟨rfl, HX2.out.alloc hB _⟩
  | ok s2 x =>
    rw [hf] at hd
    obtain ⟨hv, rfl, rfl, hc⟩ := hd
    have Hrr : Hid (r = fnf x s1) := by have h := Hrr0.out; rw [hf] at h; exact h
    have hp2 := HM.out.of HP1.out
    have hcall := HFn.out a0 a1 a2 a3 a5 x hv hc (w2.alloc (.cells #[.int .i64 a0, .string a1, .int .i64 a2, .int .i64 a3, .slice none 0 0, .int .i64 a5] 36)) s1 (hp2.alloc _) (by rw [← Hrr.out]; exact HR.out)
    rw [← Hrr.out] at hcall
    have HX6 := Lib.hid (HX2.out.alloc hB (.cells #[.int .i64 a0, .string a1, .int .i64 a2, .int .i64 a3, .slice none 0 0, .int .i64 a5] 36))
    clear hv hc hf HM HX1 HP1 Hrr0 hp2
    go_wp2_with (go_at_call 169; refine hcall.mono ?_)
    intro e w3 hd
    obtain ⟨v, rfl, hd⟩ := did_ret hd HR.out
    have HD := Lib.hid (did_ext hd HX6.out)
    clear hd hcall
    go_wp2
    (try go_ret)
    rw [HQ.out]
    exact HD.out

end Go.Proofs.YtbjacclfhgnffaaGreatDoor
/-
  Contract of values.
-/
namespace Go.Proofs.YtbjacclfhgnffaaGreatDoor
open Go.RowKit
open Tk (T4 bstr)
open Tr (Nd Blk KidsAt)

theorem wrap_i64 {x : Int} (h1 : -9000000000000000000 ≤ x) (h2 : x ≤ 9000000000000000000) : IntKind.i64.wrap x = x := by
  rw [IntKind.wrap_i64]; omega
theorem list_call {B T E n : Nat} {s : S3} {W0 W : World} (h : Now B T E s W0 W) (xo xe : ByteArray) {o en : List UInt8} (ho : xo.data.toList = o) (he : xe.data.toList = en) (fam : Nat → F3) (id : FuncId) (hen : Ent id) (hit : ∀ m, m < n → FnC B T E id (fam m)) (hr : listF E o en fam n s ≠ .out) :
    Calls Tryz.prog 204 #[.pointer (some ⟨B, 0, none⟩), .string xo, .func (.func id) #[.pointer (some ⟨B, 0, none⟩)] #[], .string xe] W fun e w' => ∃ g1 g2 g3 g4, e = .returned (.func (.func 231) #[] #[.pointer (some ⟨g1, 0, none⟩), .pointer (some ⟨g2, 0, none⟩), .pointer (some ⟨g3, 0, none⟩), .pointer (some ⟨g4, 0, none⟩)]) ∧
      Ext B W0 w' ∧ Calls Tryz.prog 231 #[.pointer (some ⟨g1, 0, none⟩), .pointer (some ⟨g2, 0, none⟩), .pointer (some ⟨g3, 0, none⟩), .pointer (some ⟨g4, 0, none⟩)] w' (Ends B T E W0 (listF E o en fam n s)) := by
  refine (listg_now h xo xe ho he fam id #[.pointer (some ⟨B, 0, none⟩)] #[] hen (fun m hm W1 s1 _ hp hr => hit m hm W1 s1 hp hr)).mono fun e w' ⟨g1, g2, g3, g4, he, hn, hx, id, b, c, hv, _, hs⟩ => ⟨g1, g2, g3, g4, he, hn.1, ?_⟩
  cases hv
  have := hs w' s (Ext.refl _ _) hn.2 hr
  have e1 : (#[] ++ #[Value.pointer (some ⟨g1, 0, none⟩), Value.pointer (some ⟨g2, 0, none⟩), Value.pointer (some ⟨g3, 0, none⟩), Value.pointer (some ⟨g4, 0, none⟩)] : Array Value) = #[Value.pointer (some ⟨g1, 0, none⟩), Value.pointer (some ⟨g2, 0, none⟩), Value.pointer (some ⟨g3, 0, none⟩), Value.pointer (some ⟨g4, 0, none⟩)] := rfl
  rw [e1] at this
  exact this.mono fun e w' hd => ends_of hd hr hn.1
theorem len_ps {B T E : Nat} {w : World} {s : S3} (h : Ps B T E w s) : s.O.length ≤ 5000000 := by obtain ⟨_, _, _, _, hh⟩ := h; have := hh.lenO; have := hh.lenN; omega
theorem ent163 : Ent 231 := enters163

set_option maxHeartbeats 16000000 in
set_option maxRecDepth 100000 in
theorem valuesc_any {B T E n : Nat} {fam : Nat → F3} (hit : ∀ m, m < n → FnC B T E 29 (fam m)) {w : World} {s : S3} {gp gm : Nat} {m : Int} (hm0 : 0 ≤ m) (hm1 : m ≤ 1000)
    (hbx : ∀ W, Ext B w W → W.cell? ⟨gp, 0, none⟩ = some (.pointer (some ⟨B, 0, none⟩)) ∧ W.cell? ⟨gm, 0, none⟩ = some (.int .i64 m)) (h : Ps B T E w s) (hr : valuesF E m fam n s ≠ .out) :
    Calls Tryz.prog 234 #[.pointer (some ⟨gp, 0, none⟩), .pointer (some ⟨gm, 0, none⟩)] w (Did B T E w (valuesF E m fam n s)) := by
  obtain ⟨r, hrr⟩ : ∃ r, r = valuesF E m fam n s := ⟨_, rfl⟩
  rw [← hrr] at hr ⊢
  obtain ⟨Q, hQ⟩ : ∃ Q : Ending → World → Prop, Q = Did B T E w r := ⟨_, rfl⟩
  rw [← hQ]
  have HQ := Lib.hid hQ
  have HR := Lib.hid hr
  have hB := h.lt
  clear hQ hr
  have Hrr : Hid (r = if (pk E s.L).t = [61] then (listF E [123] [125] fam n { s with L := s.L.tail }).bind fun s2 => if m < (s2.O.length : Int) - s.O.length then .bad 9 (pk E s.L.tail).a else .ok s2 else .ok s) := hrr
  have HBx := Lib.hid hbx
  have HIt := Lib.hid hit
  have HP0 := Lib.hid h
  have HmL := Lib.hid (len_ps h)
  have cp := (hbx w (Ext.refl _ _)).1
  clear hrr hbx hit
  by_cases ht : (pk E s.L).t = [61]
  · have htk := took_yes HP0.out ⟨#[61]⟩ rfl ht
    have HR2 : Hid (r = (listF E [123] [125] fam n { s with L := s.L.tail }).bind fun s2 => if m < (s2.O.length : Int) - s.O.length then .bad 9 (pk E s.L.tail).a else .ok s2) := by have h := Hrr.out; rw [if_pos ht] at h; exact h
    clear ht h Hrr
    go_enter Tryz.func234, Tryz.ntmps234
    go_wp2_with (go_at_call 111; refine htk.mono ?_; rintro e w1 ⟨rfl, hx1, hp1⟩)
    have hmk := fun W (hW : Now B T E { s with L := s.L.tail } w1.drew W) => mark_any hW.2
    obtain ⟨s1, hs1⟩ : ∃ s1 : S3, s1 = { s with L := s.L.tail } := ⟨_, rfl⟩
    have hO1 : s1.O = s.O := by rw [hs1]
    have hL1 : s1.L = s.L.tail := by rw [hs1]
    obtain ⟨mark, hmark⟩ : ∃ mark, mark = s.O.length := ⟨_, rfl⟩
    obtain ⟨t, htt⟩ : ∃ t, t = pk E s.L.tail := ⟨_, rfl⟩
    obtain ⟨x, hx⟩ : ∃ x, x = bstr t.t := ⟨_, rfl⟩
    rw [← hs1] at hp1
    have HR3 : Hid (r = (listF E [123] [125] fam n s1).bind fun s2 => if m < (s2.O.length : Int) - mark then .bad 9 t.a else .ok s2) := by have h := HR2.out; rw [← hs1, ← hmark, ← htt] at h; exact h
    have HM0 : Hid (mark ≤ 5000000) := by show _ ≤ _; rw [hmark]; exact HmL.out
    have HPk : Hid (∀ W, Now B T E s1 w1.drew W → Calls Tryz.prog 59 #[.pointer (some ⟨B, 0, none⟩)] W fun e w' => e = .returned (.agg #[.int .i64 t.k, .string x, .int .i64 t.v, .int .i64 t.a]) ∧ Now B T E s1 w1.drew w' ∧ Ext B W w') := fun W hW => by
      have h := peek_now hW
      rw [hL1, ← htt, ← hx] at h
      exact h
    have HMk : Hid (∀ W, Now B T E s1 w1.drew W → Calls Tryz.prog 57 #[.pointer (some ⟨B, 2, none⟩)] W fun e w' => e = .returned (.int .i64 mark) ∧ W = w') := fun W hW => by
      have h := mark_any hW.2
      rw [hO1, ← hmark] at h
      exact h
    have HX1 := Lib.hid hx1.drew
    have N0 : Hid (Now B T E s1 w1.drew w1.drew) := Now.refl hp1.drew
    have S1 : Hid (∀ W, Ext B w1.drew W → W.cell? ⟨gp, 0, none⟩ = some (.pointer (some ⟨B, 0, none⟩))) := fun W hW => (HBx.out W (HX1.out.trans hW)).1
    have S0 := Lib.hid (S1.out _ (Ext.refl _ _))
    have hf := fldT3
    clear hs1 hO1 hL1 hmark htt hx hmk hx1 hp1 htk HR2 HmL cp HP0
    go_wp2
    go_region_held3 (fun W => W.cell? ⟨gp, 0, none⟩ = some (.pointer (some ⟨B, 0, none⟩)))
      (first | exact S0.out | exact S1.out _ hn0.1)
      (first | (go_at_call 59; first | ((with_reducible refine (HPk.out _ N0.out).mono ?_); rintro e w2 ⟨rfl, hn0, hx0⟩)) | (go_at_call 57; first | ((with_reducible refine (HMk.out _ hn0).mono ?_); rintro e w3 ⟨rfl, rfl⟩) | ((with_reducible refine (HMk.out _ N0.out).mono ?_); rintro e w3 ⟨rfl, rfl⟩)))
    all_goals
      have HX2 := Lib.hid (HX1.out.trans hn0.1).drew
      have HP2 := Lib.hid hn0.2.drew
      clear hn0 hx0 S0 S1 N0 HPk HMk
      have hne : listF E [123] [125] fam n s1 ≠ .out := fun e => HR.out (by rw [HR3.out, e]; rfl)
      have hls := list_call (Now.refl HP2.out) ⟨#[123]⟩ ⟨#[125]⟩ rfl rfl fam 29 ent21 HIt.out hne
      obtain ⟨r1, hr1⟩ : ∃ r1, r1 = listF E [123] [125] fam n s1 := ⟨_, rfl⟩
      rw [← hr1] at hls
      have HR4 : Hid (r = r1.bind fun s2 => if m < (s2.O.length : Int) - mark then .bad 9 t.a else .ok s2) := by have h := HR3.out; rw [← hr1] at h; exact h
      have HN1 : Hid (r1 ≠ .out) := by show r1 ≠ .out; rw [hr1]; exact hne
      clear hr1 hne
      have S1 : Hid (∀ W, Ext B w2.drew W → W.cell? ⟨gp, 0, none⟩ = some (.pointer (some ⟨B, 0, none⟩))) := fun W hW => (HBx.out W (HX2.out.trans hW)).1
      have S0 := Lib.hid (S1.out _ (Ext.refl _ _))
      go_wp2
      go_region_held3 (fun W => W.cell? ⟨gp, 0, none⟩ = some (.pointer (some ⟨B, 0, none⟩)))
        (first | exact S0.out | exact S1.out _ hx5 | exact S1.out _ hx6)
        (first | (go_at_call 204; refine hls.mono ?_; rintro e w5 ⟨g1, g2, g3, g4, rfl, hx5, h163⟩) | (go_at_call 231; refine h163.mono ?_; rintro e w6 ⟨v, rfl, hd, hx6⟩))
      have HX6 := Lib.hid (HX2.out.trans hx6)
      have HD := Lib.hid hd
      clear hx6 hd h163 hx5 hls S0 S1
      cases r1 with
      | out => exact absurd rfl HN1.out
      | bad c1 b1 =>
        obtain ⟨hv, _⟩ := HD.out
        obtain rfl : v = errV c1 b1 := Ending.returned.inj hv
        have HRb : Hid (r = .bad c1 b1) := HR4.out
        clear hv HD
        unfold errV
        go_wp2
        (try go_ret)
        rw [HQ.out, HRb.out]
        exact ⟨rfl, HX6.out⟩
      | ok s2 =>
        obtain ⟨hv, _, hp6⟩ := HD.out
        obtain rfl : v = .nilIface := Ending.returned.inj hv
        have HR5 : Hid (r = if m < (s2.O.length : Int) - mark then .bad 9 t.a else .ok s2) := HR4.out
        have HP6 := Lib.hid hp6.drew
        have HmL2 := len_ps hp6
        have hM0 := HM0.out
        have hmk2 := mark_any hp6.drew
        obtain ⟨m2, hm2⟩ : ∃ m2, m2 = s2.O.length := ⟨_, rfl⟩
        rw [← hm2] at hmk2 HmL2
        have HR6 : Hid (r = if m < (m2 : Int) - mark then .bad 9 t.a else .ok s2) := by have h := HR5.out; rw [← hm2] at h; exact h
        have S1 : Hid (w6.drew.cell? ⟨gp, 0, none⟩ = some (.pointer (some ⟨B, 0, none⟩)) ∧ w6.drew.cell? ⟨gm, 0, none⟩ = some (.int .i64 m)) := HBx.out _ HX6.out.drew
        clear hv HD hp6 hm2 HR5 HR4 HR3
        have hwr : IntKind.i64.wrap ((m2 : Int) - mark) = (m2 : Int) - mark := wrap_i64 (by omega) (by omega)
        by_cases hc : m < (m2 : Int) - mark
        · have HR7 : Hid (r = .bad 9 t.a) := by have h := HR6.out; rw [if_pos hc] at h; exact h
          have HX7 := Lib.hid HX6.out.drew
          clear HR6
          go_wp2
          go_region_held3 (fun W => W.cell? ⟨gp, 0, none⟩ = some (.pointer (some ⟨B, 0, none⟩)) ∧ W.cell? ⟨gm, 0, none⟩ = some (.int .i64 m))
            (first | exact S1.out)
            (first | (go_at_call 57; refine hmk2.mono ?_; rintro e w' ⟨rfl, rfl⟩))
          all_goals
            go_wp2
            (try go_ret)
            rw [HQ.out, HR7.out]
            exact ⟨rfl, HX7.out⟩
        · have HR7 : Hid (r = .ok s2) := by have h := HR6.out; rw [if_neg hc] at h; exact h
          have HX7 := Lib.hid HX6.out.drew
          clear HR6
          go_wp2
          go_region_held3 (fun W => W.cell? ⟨gp, 0, none⟩ = some (.pointer (some ⟨B, 0, none⟩)) ∧ W.cell? ⟨gm, 0, none⟩ = some (.int .i64 m))
            (first | exact S1.out)
            (first | (go_at_call 57; refine hmk2.mono ?_; rintro e w' ⟨rfl, rfl⟩))
          all_goals
            go_wp2
            (try go_ret)
            rw [HQ.out, HR7.out]
            exact ⟨rfl, HX7.out, HP6.out⟩
  · have htk := took_no HP0.out ⟨#[61]⟩ rfl ht
    have HR2 : Hid (r = .ok s) := by have h := Hrr.out; rw [if_neg ht] at h; exact h
    clear ht h Hrr
    go_enter Tryz.func234, Tryz.ntmps234
    go_wp2_with (go_at_call 111; refine htk.mono ?_; rintro e w1 ⟨rfl, hx1, hp1⟩)
    have HX1 := Lib.hid hx1
    have HP1 := Lib.hid hp1
    clear hx1 hp1 htk
    (try go_wp2)
    (try go_ret)
    rw [HQ.out, HR2.out]
    exact ⟨rfl, HX1.out, HP1.out⟩

theorem values_now {B T E n : Nat} {s : S3} {W0 W : World} (h : Now B T E s W0 W) (fam : Nat → F3) (hit : ∀ m, m < n → FnC B T E 29 (fam m)) {m : Int} (hm0 : 0 ≤ m) (hm1 : m ≤ 1000) :
    Calls Tryz.prog 207 #[.pointer (some ⟨B, 0, none⟩), .int .i64 m] W fun e w' => ∃ g1 g2, e = .returned (.func (.func 234) #[] #[.pointer (some ⟨g1, 0, none⟩), .pointer (some ⟨g2, 0, none⟩)]) ∧
      Now B T E s W0 w' ∧ Ext B W w' ∧ StepV B T E w' (.func (.func 234) #[] #[.pointer (some ⟨g1, 0, none⟩), .pointer (some ⟨g2, 0, none⟩)]) (valuesF E m fam n) := by
  refine (values_lay m W).mono fun e w' ⟨hee, hw⟩ => ⟨_, _, hee, ?_⟩
  have hB := h.2.lt
  have hb : Below W.heap.size W w' := by
    rw [hw]; exact ((Below.refl _ _).alloc (Nat.le_refl _) _).alloc (by simp) _
  have hE : Ext B W w' := Ext.below hb hB
  have hP : Ps B T E w' s := h.2.below hb
  have k1 : Blk w' W.heap.size 101 #[.pointer (some ⟨B, 0, none⟩)] := by rw [hw]; exact (blk_at rfl).alloc _
  have k2 : Blk w' (W.heap.size + 1) 3 #[.int .i64 m] := by rw [hw]; exact blk_at (by simp)
  have hn : ∀ g, W.heap.size ≤ g → ¬ Own B w' g := fun g hg ho => not_own_ge h.2 hg ((own_same (hb.block B hB) g).1 ho)
  refine ⟨⟨h.1.trans hE, hP⟩, hE, 234, _, _, rfl, ent166, fun w s1 hx hp hr => ?_⟩
  exact valuesc_any hit hm0 hm1 (fun W1 h1 => ⟨((hx.trans h1).blk k1 (hn _ (Nat.le_refl _))).cell 0, ((hx.trans h1).blk k2 (hn _ (by omega))).cell 0⟩) hp hr
end Go.Proofs.YtbjacclfhgnffaaGreatDoor
