/-
  Joined texts of this claim: Vc.
-/
import Derived.Test.YtbjacclfhgnffaaGreatDoorY18
import Derived.Test.YtbjacclfhgnffaaGreatDoorY24
import Derived.RegionTactic
import Derived.ChangeAlike
set_option linter.unusedVariables false
set_option linter.unusedSimpArgs false
/-
  The contract of read, as a step that lays the words.
-/
namespace Go.Proofs.YtbjacclfhgnffaaGreatDoor
open Go.RowKit
open Tk (T4 SR Scans bstr rowOf)
open Tr (Nd Blk KidsAt)

/-- the step that lays the words -/
def readF (R : SR) : F3 := fun s => match R with | .ok L => .ok { s with L := L } | .bad c a => .bad c a
theorem ps_init {B T E : Nat} {w : World} {v : Value} {L : List T4} (hb : Blk w B T #[v, .int .i64 E, .slice none 0 0, .slice none 0 0]) (ht : Toks B w v L) (hL : L.length ≤ 5000000) : Ps B T E w ⟨L, [], []⟩ :=
  ⟨v, .slice none 0 0, .slice none 0 0, [], { box := hb, tok := ht, nod := World.ownsRow_nil _ _ _ _, kid := fun i h => absurd h (by simp), loo := World.ownsRow_nil _ _ _ _, sep := fun g h => by simp [Value.ownBlock] at h, eqN := rfl, lenO := Nat.le_refl _, lenN := by simp, lenL := hL, kl := fun x h => absurd h (by simp) }⟩
theorem own_init {B T : Nat} {w : World} {v0 v1 : Value} (hb : Blk w B T #[v0, v1, .slice none 0 0, .slice none 0 0]) (g : Nat) : Own B w g ↔ g = B := by
  have e2 : w.cell? ⟨B, 2, none⟩ = some (.slice none 0 0) := by rw [hb.cell]; rfl
  have e3 : w.cell? ⟨B, 3, none⟩ = some (.slice none 0 0) := by rw [hb.cell]; rfl
  unfold Own; rw [e2, e3]; simp [Value.ownBlock]
/-- both stores into the parser's box, behind new blocks -/
theorem read_close {B T E : Nat} {w w1 w2 : World} {v v1 : Value} {L : List T4} (h0 : Blk w B T #[v1, .int .i64 0, .slice none 0 0, .slice none 0 0]) (hb : Below w.heap.size w w1) (ho : w1.ownsRow w.heap.size 82 4 v L.length (rowOf L)) (hL : L.length ≤ 5000000)
    (hblk : Blk w2 B T #[v, .int .i64 E, .slice none 0 0, .slice none 0 0]) (hos : w2.os = w1.os) (htp : w2.tape = w1.tape) (hou : w2.output = w1.output) (hsz : w2.heap.size = w1.heap.size) (hk : ∀ g, g ≠ B → w2.heap[g]? = w1.heap[g]?) :
    Ext B w w2 ∧ Ps B T E w2 ⟨L, [], []⟩ := by
  have hO := own_init h0
  have hO2 := own_init hblk
  have hB := h0.lt
  refine ⟨⟨hos.trans hb.os, htp.trans hb.tape, hou.trans hb.output, by rw [hsz]; exact hb.size, fun g hg hn => ?_, fun g h => Or.inl ((hO g).2 ((hO2 g).1 h))⟩, ps_init hblk ?_ hL⟩
  · exact (hk g (fun e => hn ((hO g).2 e))).trans (hb.block g hg)
  · refine toks_row (b := w.heap.size) ?_ (fun g hg h => by have := (hO2 g).1 h; omega)
    obtain ⟨k1, k2⟩ := ho
    refine ⟨k1, ?_⟩
    rcases k2 with k2 | ⟨g, cap, cur, hv, hg, hh, r⟩
    · exact Or.inl k2
    · exact Or.inr ⟨g, cap, cur, hv, hg, (hk g (by omega)).trans hh, r⟩
theorem set2_a {B T : Nat} {w : World} {a0 a1 x0 x1 x2 x3 : Value} (h : Blk w B T #[x0, x1, x2, x3]) : Blk ((w.setCell ⟨B, 0, none⟩ a0).setCell ⟨B, 1, none⟩ a1) B T #[a0, a1, x2, x3] := by
  have h1 := (h.set_ 0 a0).set_ 1 a1; simpa using h1
theorem set2_b {B T : Nat} {w : World} {a0 a1 x0 x1 x2 x3 : Value} (h : Blk w B T #[x0, x1, x2, x3]) : Blk ((w.setCell ⟨B, 1, none⟩ a1).setCell ⟨B, 0, none⟩ a0) B T #[a0, a1, x2, x3] := by
  have h1 := (h.set_ 1 a1).set_ 0 a0; simpa using h1
theorem keep2 {B : Nat} (w : World) (i j : Nat) (a0 a1 : Value) (g : Nat) (hg : g ≠ B) : ((w.setCell ⟨B, i, none⟩ a0).setCell ⟨B, j, none⟩ a1).heap[g]? = w.heap[g]? :=
  (Below.heap_setCell _ _ _ _ hg).trans (Below.heap_setCell _ _ _ _ hg)

theorem read_lay {B : Nat} (x : ByteArray) (w : World) :
    Calls Tryz.prog 28 #[.pointer (some ⟨B, 0, none⟩), .string x] w fun e w' => e = .returned (.func (.func 55) #[] #[.pointer (some ⟨w.heap.size + 1, 0, none⟩), .pointer (some ⟨w.heap.size, 0, none⟩)]) ∧
      w' = (w.alloc (.cells #[.pointer (some ⟨B, 0, none⟩)] 84)).alloc (.cells #[.string x] 9) := by
  go_enter Tryz.func28, Tryz.ntmps28
  go_wp2
  go_ret
  exact ⟨rfl, rfl⟩

set_option maxHeartbeats 4000000 in
set_option maxRecDepth 100000 in
theorem readc_any {B T : Nat} {s : ByteArray} {R : SR} (hR : TokR s.data.toList R) {w : World} {gp gs : Nat} (hp : w.cell? ⟨gp, 0, none⟩ = some (.pointer (some ⟨B, 0, none⟩))) (hs : w.cell? ⟨gs, 0, none⟩ = some (.string s)) (hgp : gp < w.heap.size) (hgs : gs < w.heap.size) (np : B ≠ gp) (ng : B ≠ gs)
    (h0 : Blk w B T #[.slice none 0 0, .int .i64 0, .slice none 0 0, .slice none 0 0]) (hs47 : s.size ≤ 140737488355328) (hsh : w.ShapedOpen Tryz.prog) {te : TypeId} {pe : Value} (hv : w.cell? ⟨4, 0, none⟩ = some (.iface te pe)) :
    Calls Tryz.prog 55 #[.pointer (some ⟨gs, 0, none⟩), .pointer (some ⟨gp, 0, none⟩)] w (DidI B (fun s1 w' => Ps B T s.size w' s1) w (readF R ⟨[], [], []⟩)) := by
  obtain ⟨Q, hQ⟩ : ∃ Q : Ending → World → Prop, Q = DidI B (fun s1 w' => Ps B T s.size w' s1) w (readF R ⟨[], [], []⟩) := ⟨_, rfl⟩
  rw [← hQ]
  have HQ := Lib.hid hQ
  have hsc := scan_R hR hs47 hsh hv
  have HR := Lib.hid hR.few
  have H0 := Lib.hid h0
  have Hp := Lib.hid hp
  have Hs := Lib.hid hs
  have Hgp := Lib.hid hgp
  have Hgs := Lib.hid hgs
  have hB := h0.lt
  have np' : gp ≠ B := fun e => np e.symm
  have ng' : gs ≠ B := fun e => ng e.symm
  clear hQ hR h0 hsh hv hp hgp hgs
  go_enter Tryz.func55, Tryz.ntmps55
  go_wp2_with (go_at_call 56; refine hsc.mono ?_)
  rintro e w1 ⟨hb, v, h⟩
  have HB := Lib.hid hb
  cases R with
  | bad c a =>
    obtain ⟨rfl, rfl⟩ := h
    have hc0 : ((c : Int) != 0) = true := by have h : c ≠ 0 := HR.out; simpa using h
    clear hb hsc
    go_wp2
    (try go_ret)
    rw [HQ.out]
    exact ⟨rfl, (Ext.below HB.out hB).alloc hB _⟩
  | ok L =>
    obtain ⟨rfl, ho⟩ := h
    have hL8 := HR.out
    obtain ⟨hL8, -⟩ := hL8
    obtain ⟨p, cap, rfl⟩ : ∃ p cap, v = .slice p L.length cap := by
      rcases ho.2 with ⟨rfl, h0⟩ | ⟨g, cap, cur, rfl, _⟩
      · exact ⟨none, 0, by rw [h0]⟩
      · exact ⟨_, _, rfl⟩
    have HO := Lib.hid ho
    have hb2 : Below w.heap.size w (w1.alloc (.cells #[.int .i64 0, .int .i64 0] 26)) := hb.alloc hb.size _
    have HB2 := Lib.hid hb2
    have HO2 := Lib.hid (ho.alloc (.cells #[.int .i64 0, .int .i64 0] 26))
    have hk : Blk (w1.alloc (.cells #[.int .i64 0, .int .i64 0] 26)) B T #[.slice none 0 0, .int .i64 0, .slice none 0 0, .slice none 0 0] := (hb2.block B hB).trans H0.out
    have HK := Lib.hid hk
    have c1 : (w1.alloc (.cells #[.int .i64 0, .int .i64 0] 26)).cell? ⟨gp, 0, none⟩ = some (.pointer (some ⟨B, 0, none⟩)) := (hb2.cell (p := ⟨gp, 0, none⟩) Hgp.out).trans Hp.out
    have c2 : (w1.alloc (.cells #[.int .i64 0, .int .i64 0] 26)).cell? ⟨gs, 0, none⟩ = some (.string s) := (hb2.cell (p := ⟨gs, 0, none⟩) Hgs.out).trans Hs.out
    have c3 : (w1.alloc (.cells #[.int .i64 0, .int .i64 0] 26)).cell? ⟨B, 0, none⟩ = some (.slice none 0 0) := by rw [hk.cell]; rfl
    have c4 : (w1.alloc (.cells #[.int .i64 0, .int .i64 0] 26)).cell? ⟨B, 1, none⟩ = some (.int .i64 0) := by rw [hk.cell]; rfl
    have f3 := hk.frozen 0
    have f4 := hk.frozen 1
    clear hb hsc ho hb2 hk hs
    go_wp2
    generalize w1.alloc (.cells #[.int .i64 0, .int .i64 0] 26) = W6 at *
    go_region
    go_wp2
    rw [HQ.out]
    have hc := read_close (T := T) (E := s.size) (v := .slice p L.length cap) H0.out HB2.out HO2.out (by omega) (set2_a HK.out) rfl rfl rfl (by simp [World.setCell]) (fun g hg => keep2 _ _ _ _ _ g hg)
    exact ⟨rfl, hc.1.drew, hc.2.drew⟩
end Go.Proofs.YtbjacclfhgnffaaGreatDoor
