/-
  What the walks of the document's look share.
-/
import Derived.Test.YtmghjfphlneblaaSv
import Derived.Test.YtmghjfphlneblaaSt
namespace Go.Proofs.Ytmghjfphlneblaa.Sc
open Go.RowKit
open Tr

section
variable {w0 w w4 : World} {l : List Nd} {p : Option Addr} {of : List Int} {now O oc : Nat} {r : Rs} {e : Ending} {w' : World}
theorem RfPost.pre {W0 : Wr} (h : RfPost w0 w l p (ov W0 of) now O oc r e w') : RfPost w0 w l p of now O oc (r.pre W0) e w' := by
  cases r with
  | ok E W =>
    obtain ⟨ph, pr, kh, kr, h1, h2, h3⟩ := h
    exact ⟨ph, pr, kh, kr, h1, h2, by rw [ov_app]; exact h3⟩
  | bad c a => exact h
  | out => trivial
theorem RfPost.from_ (hb : w.grownBy w4 (some O)) (h : RfPost w0 w4 l p of now O oc r e w') : RfPost w0 w l p of now O oc r e w' := by
  cases r with
  | ok E W =>
    obtain ⟨ph, pr, kh, kr, h1, h2, h3⟩ := h
    exact ⟨ph, pr, kh, kr, h1, grown_trans hb h2, h3⟩
  | bad c a =>
    obtain ⟨ph, pr, n, m, kh, kr, h1, h2⟩ := h
    exact ⟨ph, pr, n, m, kh, kr, h1, grown_trans hb h2⟩
  | out => trivial
theorem RfPost.grown_ (h : RfPost w0 w l p of now O oc r e w') (hr : r ≠ .out) : w.grownBy w' (some O) := by
  cases r with
  | ok E W => obtain ⟨ph, pr, kh, kr, h1, h2, h3⟩ := h; exact h2
  | bad c a => obtain ⟨ph, pr, n, m, kh, kr, h1, h2⟩ := h; exact h2
  | out => exact absurd rfl hr
/-- what is returned, and what may be done with it -/
theorem RfPost.open_ (h : RfPost w0 w l p of now O oc r e w') (hr : r ≠ .out) :
    ∃ ph pr n m kh kr, ∃ c a : Int, e = .returned (.agg #[.slice ph n kh, .slice pr m kr, .int .i64 now, .int .i64 c, .int .i64 a, .slice (some ⟨O, 0, none⟩) l.length oc]) ∧ w.grownBy w' (some O) ∧
      Hid (∀ (g : Nat) (t : TypeId) (x0 x1 x2 x3 x4 x5 : Value), Blk w' g t #[x0, x1, x2, x3, x4, x5] → t ≠ 3 → w0.heap.size ≤ g → w.heap.size ≤ g → RfPost w0 w l p of now O oc r (.returned (.agg #[.slice ph n kh, .slice pr m kr, .int .i64 now, .int .i64 c, .int .i64 a, .slice (some ⟨O, 0, none⟩) l.length oc])) (st6 w' g (.slice ph n kh) (.slice pr m kr) (.int .i64 now) (.int .i64 c) (.int .i64 a) (.slice (some ⟨O, 0, none⟩) l.length oc))) := by
  cases r with
  | ok E W =>
    obtain ⟨ph, pr, kh, kr, h1, h2, h3⟩ := h
    exact ⟨ph, pr, E.length, E.length, kh, kr, 0, 0, h1, h2, fun g t x0 x1 x2 x3 x4 x5 hB ht h0 hg => ⟨ph, pr, kh, kr, rfl, grown_st6 h2 hg _ _ _ _ _ _, h3.st6 hB ht h0 _ _ _ _ _ _⟩⟩
  | bad c a =>
    obtain ⟨ph, pr, n, m, kh, kr, h1, h2⟩ := h
    exact ⟨ph, pr, n, m, kh, kr, c, a, h1, h2, fun g t x0 x1 x2 x3 x4 x5 hB ht h0 hg => ⟨ph, pr, n, m, kh, kr, rfl, grown_st6 h2 hg _ _ _ _ _ _⟩⟩
  | out => exact absurd rfl hr
theorem RfPost.box6 (h : RfPost w0 w l p of now O oc r e w') {g : Nat} {t : TypeId} {x0 x1 x2 x3 x4 x5 : Value} (hB : Blk w' g t #[x0, x1, x2, x3, x4, x5]) (ht : t ≠ 3) (h0 : w0.heap.size ≤ g) (hg : w.heap.size ≤ g) (a0 a1 a2 a3 a4 a5 : Value) : RfPost w0 w l p of now O oc r e (st6 w' g a0 a1 a2 a3 a4 a5) := by
  cases r with
  | ok E W =>
    obtain ⟨ph, pr, kh, kr, h1, h2, h3⟩ := h
    exact ⟨ph, pr, kh, kr, h1, grown_st6 h2 hg _ _ _ _ _ _, h3.st6 hB ht h0 _ _ _ _ _ _⟩
  | bad c a =>
    obtain ⟨ph, pr, n, m, kh, kr, h1, h2⟩ := h
    exact ⟨ph, pr, n, m, kh, kr, h1, grown_st6 h2 hg _ _ _ _ _ _⟩
  | out => trivial
/-- behind a room within: what was declared there is gone -/
theorem RfPost.back_ {E : Env} {ph pr : Option Addr} {kh kr now1 : Nat} (h : Rf w0 w l p E of (.slice ph E.length kh) (.slice pr E.length kr) O oc) (hO : w0.heap.size ≤ O) (hp : RfPost w0 w l p of now1 O oc r e w') (hr : r ≠ .out) :
    ∃ ph5 pr5 n5 m5 kh5 kr5, ∃ c a : Int, e = .returned (.agg #[.slice ph5 n5 kh5, .slice pr5 m5 kr5, .int .i64 now1, .int .i64 c, .int .i64 a, .slice (some ⟨O, 0, none⟩) l.length oc]) ∧ w.grownBy w' (some O) ∧
      Hid (∀ Wf, w.grownBy Wf (some O) → (∀ v n xs, w'.ownsRow w0.heap.size 3 1 v n xs → Wf.ownsRow w0.heap.size 3 1 v n xs) → RfPost w0 w l p of now O oc (r.back E) (.returned (.agg #[.slice ph E.length kh, .slice pr E.length kr, .int .i64 now, .int .i64 c, .int .i64 a, .slice (some ⟨O, 0, none⟩) l.length oc])) Wf) := by
  cases r with
  | ok E2 W =>
    obtain ⟨ph5, pr5, kh5, kr5, h1, h2, h3⟩ := hp
    refine ⟨ph5, pr5, E2.length, E2.length, kh5, kr5, 0, 0, h1, h2, fun Wf hg hrow => ⟨ph, pr, kh, kr, rfl, hg, ?_⟩⟩
    exact ⟨h.tr0, below_grown h.bel hg (fun g e => by cases e; exact hO) h.bel.size, hrow _ _ _ (h.has.kept h2 (Or.inr h.sepH)), hrow _ _ _ (h.rom.kept h2 (Or.inr h.sepR)), hrow _ _ _ h3.ofr, h.sepH, h.sepR, h.shpH, h.shpR, h.env, h.uni⟩
  | bad c a =>
    obtain ⟨ph5, pr5, n5, m5, kh5, kr5, h1, h2⟩ := hp
    exact ⟨ph5, pr5, n5, m5, kh5, kr5, c, a, h1, h2, fun Wf hg _ => ⟨ph, pr, _, _, kh, kr, rfl, hg⟩⟩
  | out => exact absurd rfl hr
end
theorem rdecl_any {w0 w : World} {l : List Nd} {p : Option Addr} {E : Env} {of : List Int} {ph pr : Option Addr} {kh kr O oc cap now k : Nat} (h : Rf w0 w l p E of (.slice ph E.length kh) (.slice pr E.length kr) O oc) (hk : k < l.length) (hl : l.length ≤ 600) (hE : E.length ≤ 100000) :
    Calls Try.prog 13 #[.agg #[.slice ph E.length kh, .slice pr E.length kr, .int .i64 now, .int .i64 0, .int .i64 0, .slice (some ⟨O, 0, none⟩) l.length oc], .agg #[.slice p l.length cap], .int .i64 k] w (RfPost w0 w l p of now O oc (declF l now k E)) := by
  unfold declF
  cases hd : (roomF l E now (tx l k)).isSome with
  | true => exact (rdecl_no h hk hl (by omega) hd).mono fun e w' he => ⟨_, _, _, _, _, _, he.1, grown_below he.2⟩
  | false => exact rdecl_yes h hk hl hE hd
/-- four new boxes -/
theorem four_new (w : World) (A3 A4 A6 A7 : Array Value) (t7 : TypeId) : ∀ w4, w4 = ((((w.alloc (.cells A3 44)).alloc (.cells A4 24)).alloc (.cells A6 44)).alloc (.cells A7 t7)) →
    Bx3 w w4 A3 A4 A6 ∧ Blk w4 (w.heap.size + 1 + 1 + 1) t7 A7 ∧ Below w.heap.size w w4 := by
  intro w4 hw
  have hB := Box3.new w A3 A4 A6
  have hb := (Below.refl _ (((w.alloc (.cells A3 44)).alloc (.cells A4 24)).alloc (.cells A6 44))).alloc (Nat.le_refl _) (.cells A7 t7)
  have h4 := hB.below hb
  rw [← hw] at h4
  refine ⟨⟨h4.b3, h4.b4, h4.b6⟩, ?_, h4.bel⟩
  rw [hw]
  have := Blk.new (((w.alloc (.cells A3 44)).alloc (.cells A4 24)).alloc (.cells A6 44)) t7 A7
  rwa [World.size_alloc, World.size_alloc, World.size_alloc] at this
/-- a node, without where it lies -/
theorem Rf.node {w0 w : World} {l : List Nd} {p : Option Addr} {E : Env} {of : List Int} {vh vr : Value} {O oc : Nat} (h : Rf w0 w l p E of vh vr O oc) {k : Nat} (hk : k < l.length) :
    ∃ b o, p = some ⟨b, o, none⟩ ∧ b < w.heap.size ∧ ∃ (t : ByteArray) (nn zz aa : Int) (cp : Option Addr) (kc : Nat), t.toList = tx l k ∧ w.cell? ⟨b, o + k * 6, none⟩ = some (.int .i64 (kindAt l k)) ∧ w.cell? ⟨b, o + k * 6 + 1, none⟩ = some (.string t) ∧ w.cell? ⟨b, o + k * 6 + 2, none⟩ = some (.int .i64 nn) ∧ w.cell? ⟨b, o + k * 6 + 3, none⟩ = some (.int .i64 zz) ∧ w.cell? ⟨b, o + k * 6 + 4, none⟩ = some (.slice cp (kidsAt l k).length kc) ∧ w.cell? ⟨b, o + k * 6 + 5, none⟩ = some (.int .i64 aa) := by
  obtain ⟨b, o, hp, hb, hN⟩ := h.nodeAt hk
  obtain ⟨c0, c1, c2, c3, c4, c5⟩ := hN k hk w h.bel
  refine ⟨b, o, hp, Nat.lt_of_lt_of_le hb h.bel.size, l[k].t, l[k].n, l[k].z, l[k].a, l[k].p, l[k].cap, tx_text hk rfl, by rw [kindAt_get hk]; exact c0, c1, c2, c3, ?_, c5⟩
  rw [kidsAt_get hk]
  exact c4
end Go.Proofs.Ytmghjfphlneblaa.Sc
