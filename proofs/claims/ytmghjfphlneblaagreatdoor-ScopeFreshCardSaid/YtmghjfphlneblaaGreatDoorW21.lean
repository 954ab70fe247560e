/-
  Joined texts of this claim: Sn, Sob, Sog.
-/
import Derived.Test.YtmghjfphlneblaaGreatDoorW00
import Derived.Test.YtmghjfphlneblaaGreatDoorW20
import Derived.RegionTactic
import Derived.Deep.RegionHeld3
import Derived.Test.YtmghjfphlneblaaGreatDoorW16
set_option maxHeartbeats 40000000
set_option maxRecDepth 100000
set_option linter.unusedVariables false
set_option linter.unusedSimpArgs false
namespace Go.Proofs.YtmghjfphlneblaaGreatDoor
section
namespace Sc
open Go.RowKit
open Tr

/-- what names stand for, of a tree that is in its form -/
inductive Nm where
  | bad (c a : Int)
  | ok (fs : List Int)
def finF (l : List Nd) : Rs → Nm
  | .ok _ W => .ok (ov W (List.replicate l.length (-1)))
  | .bad c a => .bad c a
  | .out => .bad 0 0
def namesF (l : List Nd) : Nm :=
  if kindAt l (l.length - 1) ≠ 1 then .bad 11 0 else match tops l (kidsAt l (l.length - 1)) [] with
    | .ok E _ => finF l (look l l.length 0 (l.length - 1) E)
    | .bad c a => .bad c a
    | .out => .bad 0 0
def NmIs (l : List Nd) (w : World) : Nm → Ending → World → Prop
  | .bad c a, e, w' => e = .returned (.tuple #[.slice none 0 0, .agg #[.int .i64 c, .int .i64 a]]) ∧ Below w.heap.size w w'
  | .ok fs, e, w' => ∃ F, w.heap.size ≤ F ∧ e = .returned (.tuple #[.slice (some ⟨F, 0, none⟩) l.length l.length, .agg #[.int .i64 0, .int .i64 0]]) ∧ Below w.heap.size w w' ∧ Blk w' F 3 (intA fs) ∧ fs.length = l.length
def NmPost (l : List Nd) (w : World) (e : Ending) (w' : World) : Prop :=
  ∃ c a : Int, CkR l c a ∧ ((c ≠ 0 ∧ NmIs l w (.bad c a) e w') ∨ (c = 0 ∧ NmIs l w (namesF l) e w'))
theorem ckr_zero {l : List Nd} {a : Int} (h : CkR l 0 a) : 1 ≤ l.length ∧ l.length ≤ 600 ∧ (∀ j, j < l.length → codeAt l j = 0) ∧ St l (l.length - 1) = 0 ∧ Dp l (l.length - 1) ≤ 40 := by
  rcases h with ⟨_, h, _⟩ | ⟨h1, h2, h⟩
  · cases h
  · rcases h with ⟨i, _, _, hne, h, _⟩ | ⟨hall, h⟩
    · exact absurd h.symm hne
    · rcases h with ⟨_, h, _⟩ | ⟨h3, ⟨_, h, _⟩ | ⟨h4, _, _⟩⟩
      · cases h
      · cases h
      · exact ⟨h1, h2, hall, h3, h4⟩
/-- what is declared at the top, in memory -/
structure UOk (l : List Nd) (N : Nat) (w : World) (E : Env) (U m : Nat) : Prop where
  lo : N ≤ m
  blk : Blk w U 152 #[.pointer none, .map (some m)]
  map : ∃ n, n ≤ E.length ∧ MapIs w m n (roomF l E 0)
  env : ∀ x ∈ E, x.1 < l.length ∧ x.2 < 1
theorem UOk.below {l : List Nd} {N U m : Nat} {w w' : World} {E : Env} (h : UOk l N w E U m) (hb : Below w.heap.size w w') : UOk l N w' E U m := by
  obtain ⟨n, h1, h2⟩ := h.map
  exact ⟨h.lo, h.blk.below hb h.blk.lt, ⟨n, h1, h2.same (hb.block _ h2.lt)⟩, h.env⟩
theorem UOk.set {l : List Nd} {N U m B : Nat} {w : World} {E : Env} {cs : Array Value} {t : TypeId} (h : UOk l N w E U m) (hB : Blk w B t cs) (ht : 152 ≠ t) (k : Nat) (v : Value) : UOk l N (w.setCell ⟨B, k, none⟩ v) E U m := by
  obtain ⟨n, h1, h2⟩ := h.map
  exact ⟨h.lo, h.blk.far (p := ⟨B, k, none⟩) (fun e => ht (by have := h.blk; rw [e] at this; exact Blk.type this hB)) v, ⟨n, h1, h2.same (Below.heap_setCell w ⟨B, k, none⟩ v _ (fun e => by have e2 : m = B := e; subst e2; exact h2.not_blk hB))⟩, h.env⟩
theorem us_ok {l : List Nd} {w : World} {E : Env} {W : Wr} {e : Ending} {w' : World} (h : UsPost l w (.ok E W) e w') : ∃ U m, e = .returned (.tuple #[.pointer (some ⟨U, 0, none⟩), .agg #[.int .i64 0, .int .i64 0]]) ∧ Below w.heap.size w w' ∧ UOk l w.heap.size w' E U m := by
  obtain ⟨U, m, n, h1, h2, h3, h4, h5, h6, h7⟩ := h
  exact ⟨U, m, h1, h2, h3, h4, ⟨n, h5, h6⟩, h7⟩
theorem UOk.mono {l : List Nd} {N N' U m : Nat} {w : World} {E : Env} (h : UOk l N w E U m) (hN : N' ≤ N) : UOk l N' w E U m := ⟨Nat.le_trans hN h.lo, h.blk, h.map, h.env⟩
/-- the search begins -/
theorem sm_start {l : List Nd} {w w8 : World} {p : Option Addr} {cap R F U m : Nat} {E : Env} (hT : Tr w p l) (hb : Below w.heap.size w w8) (hF : w.heap.size ≤ F) (hu : UOk l w.heap.size w8 E U m)
    (hR : Blk w8 R 81 #[.slice p l.length cap, .pointer (some ⟨U, 0, none⟩), .slice (some ⟨F, 0, none⟩) l.length l.length]) (hFB : Blk w8 F 3 (intA (List.replicate l.length (-1)))) :
    Sm w w8 l p cap R F [(U, m)] E (List.replicate l.length (-1)) where
  tr0 := hT
  bel := hb
  old := ⟨hF, fun r hr => by have e : r = 0 := by simpa using hr
                             subst e; exact hu.lo⟩
  res := hR
  fnd := hFB
  len := by simp
  one := fun r hr => by have e : r = 0 := by simpa using hr
                        subst e; exact hu.blk
  map := fun r hr => by have e : r = 0 := by simpa using hr
                        subst e; exact hu.map
  sep := fun r r' h h' => by simp at h'; omega
  env := fun x hx => by have := hu.env x hx; exact this
theorem nolib_start (l : List Nd) : NoLib l (List.replicate l.length (-1)) := fun k _ _ hk => by simp [hk]
theorem undrew {B : Nat} {w w' : World} (h : Below B w.drew w') : Below B w w' := ⟨h.os, h.tape, h.output, h.size, h.block⟩
theorem past_new {w w' : World} {o : Obj} (h : Below (w.alloc o).drew.heap.size (w.alloc o).drew w') : Below (w.alloc o).heap.size (w.alloc o) w' := undrew h
theorem past_old {w w' : World} {o : Obj} (h : Below (w.alloc o).drew.heap.size (w.alloc o).drew w') : Below w.heap.size w w' :=
  ((Below.refl w.heap.size w).alloc (Nat.le_refl _) o).trans ((past_new h).mono (by simp))
theorem tops_code (l : List Nd) : ∀ (c : List Int) (E : Env) (a b : Int), tops l c E = .bad a b → a = 12 ∨ a = 7 := by
  intro c
  induction c with
  | nil => intro E a b h; cases h
  | cons x c ih =>
    intro E a b h
    simp only [tops] at h
    split at h
    · cases h; exact Or.inl rfl
    · unfold declF at h
      split at h
      · cases h; exact Or.inr rfl
      · change (tops l c _).pre _ = _ at h
        cases h2 : tops l c (E ++ [(x.toNat, 0)]) with
        | out => rw [h2] at h; cases h
        | ok a b => rw [h2] at h; cases h
        | bad a b => rw [h2] at h; cases h; exact ih _ _ _ h2
theorem tops_len (l : List Nd) : ∀ (c : List Int) (E E' : Env) (W : Wr), tops l c E = .ok E' W → E'.length = E.length + c.length := by
  intro c
  induction c with
  | nil => intro E E' W h; cases h; rfl
  | cons x c ih =>
    intro E E' W h
    simp only [tops] at h
    split at h
    · cases h
    · unfold declF at h
      split at h
      · cases h
      · change (tops l c _).pre _ = _ at h
        obtain ⟨W2, h2, _⟩ := pre_ok h
        have := ih _ _ _ h2
        simp at this ⊢
        omega
theorem tops_out (l : List Nd) : ∀ (c : List Int) (E : Env), tops l c E ≠ .out := by
  intro c
  induction c with
  | nil => intro E h; cases h
  | cons x c ih =>
    intro E
    simp only [tops]
    split
    · intro h; cases h
    · unfold declF
      split
      · intro h; cases h
      · show (tops l c _).pre _ ≠ _
        have := ih (E ++ [(x.toNat, 0)])
        cases h2 : tops l c (E ++ [(x.toNat, 0)]) with
        | out => exact absurd h2 this
        | ok a b => intro h; cases h
        | bad a b => intro h; cases h
set_option maxHeartbeats 8000000 in
set_option maxRecDepth 100000 in
theorem names_any (l : List Nd) (p : Option Addr) (cap : Nat) (w : World) (hT : Tr w p l) (hf : Fit l cap) : Calls Tryz.prog 19 #[.agg #[.slice p l.length cap]] w (NmPost l w) := by
  have h1 : Below w.heap.size w ((w.alloc (.cells #[.slice p l.length cap] 24)).alloc (.cells #[.int .i64 0, .int .i64 0] 26)) := ((Below.refl _ _).alloc (Nat.le_refl _) _).alloc (by simp) _
  have hck := check_any l p cap ((w.alloc (.cells #[.slice p l.length cap] 24)).alloc (.cells #[.int .i64 0, .int .i64 0] 26)) (hT.below h1) hf
  have H1 := Lib.hid h1
  have HT := Lib.hid hT
  obtain ⟨Q, hQ⟩ : ∃ Q : Ending → World → Prop, Q = NmPost l w := ⟨_, rfl⟩
  have HQ := Lib.hid hQ
  rw [← hQ]
  have hlb := hf.2.1
  obtain ⟨n, hn⟩ : ∃ n, n = l.length := ⟨_, rfl⟩
  rw [← hn] at hck hlb ⊢
  have HN := Lib.hid hn
  have HB1 := Lib.hid ((Blk.new w 24 #[.slice p n cap]).alloc (.cells #[.int .i64 0, .int .i64 0] 26))
  have HB3 := Lib.hid (show Blk ((w.alloc (.cells #[.slice p n cap] 24)).alloc (.cells #[.int .i64 0, .int .i64 0] 26)) (w.heap.size + 1) 26 #[.int .i64 0, .int .i64 0] by have := Blk.new (w.alloc (.cells #[.slice p n cap] 24)) 26 #[.int .i64 0, .int .i64 0]; rw [World.size_alloc] at this; exact this)
  rw [← hn] at H1
  clear hQ h1 hT hf hn
  go_enter Tryz.func19, Tryz.ntmps19
  go_wp2_with (go_at_call 22; refine hck.mono ?_)
  intro e w3 hp
  obtain ⟨hb3, c, a, rfl, hr⟩ := hp
  have HR := Lib.hid hr
  have HBel := Lib.hid (H1.out.trans (hb3.mono (by simp; omega)))
  have hX1 := HB1.out.below hb3 (by simp; omega)
  have hX3 := HB3.out.below hb3 (by simp)
  have x1 : w3.cell? ⟨w.heap.size, 0, none⟩ = some (.slice p n cap) := by rw [hX1.cell]; rfl
  have y0 : w3.cell? ⟨w.heap.size + 1, 0, none⟩ = some (.int .i64 0) := by rw [hX3.cell]; rfl
  have y1 : w3.cell? ⟨w.heap.size + 1, 1, none⟩ = some (.int .i64 0) := by rw [hX3.cell]; rfl
  have g0 := hX3.frozen 0
  have g1 := hX3.frozen 1
  have lX := hX3.lt
  have lX0 : w.heap.size < w3.heap.size := Nat.lt_of_succ_lt lX
  have HX1 := Lib.hid hX1
  have HX3 := Lib.hid hX3
  clear hb3 hr hck hX1 hX3
  by_cases hc : c = 0
  · subst hc
    obtain ⟨hl1, hl6, hC, hS, _⟩ := ckr_zero HR.out
    obtain ⟨root, hroot⟩ : ∃ root, n = root + 1 := ⟨n - 1, by have := HN.out; omega⟩
    have hrn : root < n := by omega
    have hn6 : n ≤ 600 := by have := HN.out; omega
    have n4 : (n : Int) - 1 = (root : Int) := by omega
    have n5 : (0 : Int) ≤ (root : Int) := by omega
    have n6 : (root : Int) < (n : Int) := by omega
    have hrl : root < l.length := by have := HN.out; omega
    have hlast : l.length - 1 = root := by have := HN.out; omega
    clear hroot
    have HQ2 : Hid (∀ e w', NmIs l w (namesF l) e w' → Q e w') := fun e w' h => by rw [HQ.out]; exact ⟨0, a, HR.out, Or.inr ⟨rfl, h⟩⟩
    obtain ⟨b, o, rfl, hb, hN⟩ := HT.out.1 (by omega)
    obtain ⟨c0, c1, c2, c3, c4, c5⟩ := (hN root hrl).below HBel.out hb
    have hkk := kindAt_get hrl
    have hcc := kidsAt_get hrl
    rw [← hkk] at c0
    rw [← hcc] at c4
    obtain ⟨kd, hkd⟩ : ∃ kd, kd = kindAt l root := ⟨_, rfl⟩
    rw [← hkd] at c0
    have hbb : b < w3.heap.size := Nat.lt_of_lt_of_le hb HBel.out.size
    have HNF : Hid (namesF l = if kd ≠ 1 then .bad 11 0 else match tops l (kidsAt l root) [] with
      | .ok E _ => finF l (look l l.length 0 root E)
      | .bad c a => .bad c a
      | .out => .bad 0 0) := by unfold namesF; rw [hlast, ← hkd]; rfl
    obtain ⟨kp, hkp⟩ : ∃ kp, kp = l[root].p := ⟨_, rfl⟩
    obtain ⟨kc, hkc⟩ : ∃ kc, kc = l[root].cap := ⟨_, rfl⟩
    obtain ⟨kn, hkn⟩ : ∃ kn, kn = (kidsAt l root).length := ⟨_, rfl⟩
    rw [← hkp, ← hkc, ← hkn] at c4
    have HU := Lib.hid fun (hk1 : kindAt l root = 1) (W : World) (hW : Tr W (some ⟨b, o, none⟩) l) => unitScope_any (cap := cap) hW hC hl6 hrl hk1
    rw [← hkp, ← hkc, ← hkn, ← HN.out] at HU
    clear c1 c2 c3 c5 hkk hcc hkp hkc hkn
    obtain ⟨w4, hw4⟩ : ∃ w4, w4 = w3.alloc (.cells #[.int .i64 0, .int .i64 a] 26) := ⟨_, rfl⟩
    have hb34 : Below w3.heap.size w3 w4 := by rw [hw4]; exact (Below.refl _ _).alloc (Nat.le_refl _) _
    have hb4 : Below w.heap.size w w4 := HBel.out.trans (hb34.mono HBel.out.size)
    by_cases hk1 : kd = 1
    · have HK1 := Lib.hid (show kindAt l root = 1 by rw [← hkd]; exact hk1)
      have lX4 : w.heap.size + 1 < w4.heap.size := Nat.lt_of_lt_of_le lX hb34.size
      have hbb4 : b < w4.heap.size := Nat.lt_of_lt_of_le hbb hb34.size
      have S0 : Hid (w4.cell? ⟨w.heap.size, 0, none⟩ = some (.slice (some ⟨b, o, none⟩) n cap) ∧ w4.cell? ⟨b, o + root * 6 + 4, none⟩ = some (.slice kp kn kc)) :=
        ⟨(hb34.cell (p := ⟨w.heap.size, 0, none⟩) (Nat.lt_of_succ_lt lX)).trans x1, (hb34.cell (p := ⟨b, o + root * 6 + 4, none⟩) hbb).trans c4⟩
      have S1 : Hid (∀ W, Below w4.heap.size w4 W → W.cell? ⟨w.heap.size, 0, none⟩ = some (.slice (some ⟨b, o, none⟩) n cap) ∧ W.cell? ⟨b, o + root * 6 + 4, none⟩ = some (.slice kp kn kc)) := fun W hW =>
        ⟨(hW.cell (p := ⟨w.heap.size, 0, none⟩) (Nat.lt_of_succ_lt lX4)).trans S0.out.1, (hW.cell (p := ⟨b, o + root * 6 + 4, none⟩) hbb4).trans S0.out.2⟩
      have HT4 := Lib.hid (HT.out.below hb4)
      have HX34 := Lib.hid (HX3.out.below hb34 lX)
      have HTA : Hid (Tr (w4.alloc (.cells #[.int .i64 0, .int .i64 0] 26)).drew (some ⟨b, o, none⟩) l) := HT4.out.below ((Below.refl w4.heap.size w4).alloc (Nat.le_refl _) _).drew
      have HBA := Lib.hid (Blk.new w4 26 #[.int .i64 0, .int .i64 0])
      subst hk1
      have HW4 := Lib.hid hw4
      have nX : w.heap.size + 1 ≠ w4.heap.size := by omega
      cases htot : tops l (kidsAt l root) [] with
      | out => exact absurd htot (tops_out l _ _)
      | bad c1 a1 =>
        have HUB := HU.out HK1.out w4.drew HT4.out
        have HUA := HU.out HK1.out _ HTA.out
        rw [htot] at HUB HUA
        have HB : Hid (Calls Tryz.prog 44 #[.slice (some ⟨b, o, none⟩) n cap, .slice kp kn kc] w4.drew fun e w5 => e = .returned (.tuple #[.pointer none, .agg #[.int .i64 c1, .int .i64 a1]]) ∧ Below w4.heap.size w4 w5) :=
          HUB.mono fun e w5 h => ⟨h.1, undrew h.2.1⟩
        have HA : Hid (Calls Tryz.prog 44 #[.slice (some ⟨b, o, none⟩) n cap, .slice kp kn kc] (w4.alloc (.cells #[.int .i64 0, .int .i64 0] 26)).drew fun e w5 => e = .returned (.tuple #[.pointer none, .agg #[.int .i64 c1, .int .i64 a1]]) ∧ Below w4.heap.size w4 w5 ∧ Blk w5 w4.heap.size 26 #[.int .i64 0, .int .i64 0]) :=
          HUA.mono fun e w5 h => ⟨h.1, past_old h.2.1, HBA.out.below (past_new h.2.1) (by simp)⟩
        have hc1 : c1 = 7 ∨ c1 = 12 := (tops_code l _ _ _ _ htot).symm
        have HNF2 := Lib.hid (show namesF l = .bad c1 a1 by rw [HNF.out, if_neg (by simp), htot])
        have HB4 := Lib.hid hb4
        clear hb34 hw4 hb4 HU htot hN hb hC hkd hrl hlast hl1 hl6 hS HR HUA HUB
        go_wp2
        rw [← HW4.out]
        clear c4 c0 y0 y1 x1 hbb HW4
        go_region_held3 (fun W => W.cell? ⟨w.heap.size, 0, none⟩ = some (.slice (some ⟨b, o, none⟩) n cap) ∧ W.cell? ⟨b, o + root * 6 + 4, none⟩ = some (.slice kp kn kc))
          (first | exact S0.out | exact S1.out _ ((Below.refl w4.heap.size w4).alloc (Nat.le_refl _) _).drew | exact S1.out _ hb5 | exact S1.out _ (hb5.alloc hb5.size _) | exact S1.out _ ((hb5.setCell (p := ⟨w4.heap.size, 0, none⟩) (Nat.le_refl _) _).setCell (p := ⟨w4.heap.size, 1, none⟩) (Nat.le_refl _) _))
          (first | (go_at_call 44; (with_reducible refine HB.out.mono ?_); rintro e w5 ⟨rfl, hb5⟩) | (go_at_call 44; (with_reducible refine HA.out.mono ?_); rintro e w5 ⟨rfl, hb5, hk5⟩; have k0 : w5.cell? ⟨w4.heap.size, 0, none⟩ = some (.int .i64 0) := (by rw [hk5.cell]; rfl); have k1 : w5.cell? ⟨w4.heap.size, 1, none⟩ = some (.int .i64 0) := (by rw [hk5.cell]; rfl); have f0 := hk5.frozen 0; have f1 := hk5.frozen 1; have lk := hk5.lt))
        all_goals
          first
            | (obtain ⟨w6, hw6⟩ : ∃ w6, w6 = w5.alloc (.cells #[.int .i64 c1, .int .i64 a1] 26) := ⟨_, rfl⟩
               rw [← hw6]
               have hK : Blk w6 w5.heap.size 26 #[.int .i64 c1, .int .i64 a1] := by rw [hw6]; exact Blk.new _ _ _
               have hb6 : Below w4.heap.size w4 w6 := by rw [hw6]; exact hb5.alloc hb5.size _
               have hfb : w4.heap.size ≤ w5.heap.size := hb5.size
               clear hw6 hb5
               generalize w5.heap.size = fb at *)
            | (obtain ⟨w6, hw6⟩ : ∃ w6, w6 = (w5.setCell ⟨w4.heap.size, 0, none⟩ (.int .i64 c1)).setCell ⟨w4.heap.size, 1, none⟩ (.int .i64 a1) := ⟨_, rfl⟩
               rw [← hw6]
               have hK : Blk w6 w4.heap.size 26 #[.int .i64 c1, .int .i64 a1] := by rw [hw6]; exact set2 hk5 _ _
               have hb6 : Below w4.heap.size w4 w6 := by rw [hw6]; exact (hb5.setCell (p := ⟨w4.heap.size, 0, none⟩) (Nat.le_refl _) _).setCell (p := ⟨w4.heap.size, 1, none⟩) (Nat.le_refl _) _
               have hfb : w4.heap.size ≤ w4.heap.size := Nat.le_refl _
               clear hw6 hb5 hk5
               obtain ⟨fb, hfb2⟩ : ∃ fb, fb = w4.heap.size := ⟨_, rfl⟩
               rw [← hfb2] at hK hfb ⊢
               clear hfb2)
          have hX6 := HX34.out.below hb6 lX4
          have kf0 : w6.cell? ⟨fb, 0, none⟩ = some (.int .i64 c1) := by rw [hK.cell]; rfl
          have kf1 : w6.cell? ⟨fb, 1, none⟩ = some (.int .i64 a1) := by rw [hK.cell]; rfl
          have y0 : w6.cell? ⟨w.heap.size + 1, 0, none⟩ = some (.int .i64 0) := by rw [hX6.cell]; rfl
          have y1 : w6.cell? ⟨w.heap.size + 1, 1, none⟩ = some (.int .i64 0) := by rw [hX6.cell]; rfl
          have q0 := hX6.frozen 0
          have q1 := hX6.frozen 1
          have lX6 := hX6.lt
          have lfb := hK.lt
          have hz := set2 hX6 (.int .i64 c1) (.int .i64 a1)
          have Z0 := Lib.hid (hz.cell 0)
          have Z1 := Lib.hid (hz.cell 1)
          have HB6 := Lib.hid hb6
          clear hz hX6 hK hb6 g0 g1 HA HB S0 S1
          rcases hc1 with rfl | rfl
          all_goals
            go_wp2
            go_region
            all_goals
              go_wp2
              have z0 := Z0.out
              have z1 := Z1.out
              refine bodyPost_ret (v := .tuple #[.slice none 0 0, .agg #[_, .int .i64 a1]]) (by simp [results, Tryz.results19, go_sem, z0, z1]; rfl) rfl ?_
              refine HQ2.out _ _ ?_
              rw [HNF2.out]
              exact ⟨rfl, (((HB4.out.trans (HB6.out.mono HB4.out.size)).setCell (p := ⟨w.heap.size + 1, 0, none⟩) (by simp) _).setCell (p := ⟨w.heap.size + 1, 1, none⟩) (by simp) _).drew⟩
      | ok E W =>
        have HUB := HU.out HK1.out w4.drew HT4.out
        have HUA := HU.out HK1.out _ HTA.out
        rw [htot] at HUB HUA
        have HB : Hid (Calls Tryz.prog 44 #[.slice (some ⟨b, o, none⟩) n cap, .slice kp kn kc] w4.drew fun e w5 => ∃ U m, e = .returned (.tuple #[.pointer (some ⟨U, 0, none⟩), .agg #[.int .i64 0, .int .i64 0]]) ∧ Below w4.heap.size w4 w5 ∧ Hid (UOk l w.heap.size w5 E U m)) :=
          HUB.mono fun e w5 h => by
            obtain ⟨U, m, h1, h2, h3⟩ := us_ok h
            exact ⟨U, m, h1, undrew h2, h3.mono hb4.size⟩
        have HA : Hid (Calls Tryz.prog 44 #[.slice (some ⟨b, o, none⟩) n cap, .slice kp kn kc] (w4.alloc (.cells #[.int .i64 0, .int .i64 0] 26)).drew fun e w5 => ∃ U m, e = .returned (.tuple #[.pointer (some ⟨U, 0, none⟩), .agg #[.int .i64 0, .int .i64 0]]) ∧ Below w4.heap.size w4 w5 ∧ Blk w5 w4.heap.size 26 #[.int .i64 0, .int .i64 0] ∧ Hid (UOk l w.heap.size w5 E U m)) :=
          HUA.mono fun e w5 h => by
            obtain ⟨U, m, h1, h2, h3⟩ := us_ok h
            exact ⟨U, m, h1, past_old h2, HBA.out.below (past_new h2) (by simp), h3.mono (by have := hb4.size; show w.heap.size ≤ (w4.alloc _).heap.size; simp; omega)⟩
        have HNF2 := Lib.hid (show namesF l = finF l (look l l.length 0 root E) by rw [HNF.out, if_neg (by simp), htot])
        have HB4 := Lib.hid hb4
        have HC := Lib.hid hC
        have HHL := Lib.hid hl6
        have HRL := Lib.hid hrl
        have HEl : Hid (E.length ≤ 1000) := by
          have := tops_len l (kidsAt l root) [] E W htot
          have h2 := (code_kids hrl (hC root hrl)).1
          rw [kidsAt_get hrl] at this
          simp at this
          show E.length ≤ 1000
          omega
        clear hb34 hw4 hb4 HU htot hN hb hC hkd hrl hlast hl1 hl6 hS HR HUA HUB
        go_wp2
        rw [← HW4.out]
        clear c4 c0 y0 y1 x1 hbb HW4
        go_region_held3 (fun W => W.cell? ⟨w.heap.size, 0, none⟩ = some (.slice (some ⟨b, o, none⟩) n cap) ∧ W.cell? ⟨b, o + root * 6 + 4, none⟩ = some (.slice kp kn kc))
          (first | exact S0.out | exact S1.out _ ((Below.refl w4.heap.size w4).alloc (Nat.le_refl _) _).drew | exact S1.out _ hb5 | exact S1.out _ (hb5.alloc hb5.size _) | exact S1.out _ ((hb5.setCell (p := ⟨w4.heap.size, 0, none⟩) (Nat.le_refl _) _).setCell (p := ⟨w4.heap.size, 1, none⟩) (Nat.le_refl _) _))
          (first | (go_at_call 44; (with_reducible refine HB.out.mono ?_); rintro e w5 ⟨U, m, rfl, hb5, hu5⟩) | (go_at_call 44; (with_reducible refine HA.out.mono ?_); rintro e w5 ⟨U, m, rfl, hb5, hk5, hu5⟩; have k0 : w5.cell? ⟨w4.heap.size, 0, none⟩ = some (.int .i64 0) := (by rw [hk5.cell]; rfl); have k1 : w5.cell? ⟨w4.heap.size, 1, none⟩ = some (.int .i64 0) := (by rw [hk5.cell]; rfl); have f0 := hk5.frozen 0; have f1 := hk5.frozen 1; have lk := hk5.lt))
        all_goals
          first
            | (obtain ⟨w6, hw6⟩ : ∃ w6, w6 = w5.alloc (.cells #[.int .i64 0, .int .i64 0] 26) := ⟨_, rfl⟩
               rw [← hw6]
               have hK : Blk w6 w5.heap.size 26 #[.int .i64 0, .int .i64 0] := by rw [hw6]; exact Blk.new _ _ _
               have hb6 : Below w4.heap.size w4 w6 := by rw [hw6]; exact hb5.alloc hb5.size _
               have hu6 : UOk l w.heap.size w6 E U m := by rw [hw6]; exact hu5.out.below ((Below.refl _ _).alloc (Nat.le_refl _) _)
               clear hw6 hb5 hu5
               generalize w5.heap.size = fb at *)
            | (obtain ⟨w6, hw6⟩ : ∃ w6, w6 = (w5.setCell ⟨w4.heap.size, 0, none⟩ (.int .i64 0)).setCell ⟨w4.heap.size, 1, none⟩ (.int .i64 0) := ⟨_, rfl⟩
               rw [← hw6]
               have hK : Blk w6 w4.heap.size 26 #[.int .i64 0, .int .i64 0] := by rw [hw6]; exact set2 hk5 _ _
               have hb6 : Below w4.heap.size w4 w6 := by rw [hw6]; exact (hb5.setCell (p := ⟨w4.heap.size, 0, none⟩) (Nat.le_refl _) _).setCell (p := ⟨w4.heap.size, 1, none⟩) (Nat.le_refl _) _
               have hu6 : UOk l w.heap.size w6 E U m := by rw [hw6]; exact (hu5.out.set hk5 (by decide) 0 _).set (hk5.set_ 0 _) (by decide) 1 _
               clear hw6 hb5 hk5 hu5 k0 k1 f0 f1 lk
               obtain ⟨fb, hfb2⟩ : ∃ fb, fb = w4.heap.size := ⟨_, rfl⟩
               rw [← hfb2] at hK ⊢
               clear hfb2)
          have hX6 := HX34.out.below hb6 lX4
          have kf0 : w6.cell? ⟨fb, 0, none⟩ = some (.int .i64 0) := by rw [hK.cell]; rfl
          have kf1 : w6.cell? ⟨fb, 1, none⟩ = some (.int .i64 0) := by rw [hK.cell]; rfl
          have S6 : Hid (w6.cell? ⟨w.heap.size, 0, none⟩ = some (.slice (some ⟨b, o, none⟩) n cap)) := (S1.out _ hb6).1
          have lX6 := hX6.lt
          have lfb := hK.lt
          have HX6 := Lib.hid hX6
          have HU6 := Lib.hid hu6
          have HB46 := Lib.hid (HB4.out.trans (hb6.mono HB4.out.size))
          have S7 : Hid (∀ W, Below w6.heap.size w6 W → W.cell? ⟨w.heap.size, 0, none⟩ = some (.slice (some ⟨b, o, none⟩) n cap)) := fun W hW => (hW.cell (p := ⟨w.heap.size, 0, none⟩) (Nat.lt_of_succ_lt lX6)).trans S6.out
          have hno := nothing_any n hn6
          have HNB : Hid (Calls Tryz.prog 45 #[.int .i64 n] w6.drew fun e w7 => ∃ F, e = .returned (.slice (some ⟨F, 0, none⟩) n n) ∧ Below w6.heap.size w6 w7 ∧ Hid (w6.heap.size ≤ F ∧ Blk w7 F 3 (intA (List.replicate n (-1))))) :=
            (hno w6.drew).mono fun e w7 h => ⟨w6.heap.size, h.1, undrew h.2.1, Nat.le_refl _, h.2.2⟩
          have HNA : Hid (Calls Tryz.prog 45 #[.int .i64 n] (w6.alloc (.cells #[.slice none 0 0, .pointer none, .slice none 0 0] 81)).drew fun e w7 => ∃ F, e = .returned (.slice (some ⟨F, 0, none⟩) n n) ∧ Below w6.heap.size w6 w7 ∧ Blk w7 w6.heap.size 81 #[.slice none 0 0, .pointer none, .slice none 0 0] ∧ Hid (w6.heap.size ≤ F ∧ Blk w7 F 3 (intA (List.replicate n (-1))))) :=
            (hno _).mono fun e w7 h => ⟨_, h.1, past_old h.2.1, (Blk.new w6 _ _).below (past_new h.2.1) (by simp), by show w6.heap.size ≤ (w6.alloc _).heap.size; simp, h.2.2⟩
          clear hX6 hK hb6 hu6 g0 g1 HA HB S0 S1 hno nX
          go_wp2
          go_region_held3 (fun W => W.cell? ⟨w.heap.size, 0, none⟩ = some (.slice (some ⟨b, o, none⟩) n cap))
            (first | exact S6.out | exact S7.out _ ((Below.refl w6.heap.size w6).alloc (Nat.le_refl _) _).drew | exact S7.out _ hb7 | exact S7.out _ (hb7.alloc hb7.size _) | exact S7.out _ (((hb7.setCell (p := ⟨w6.heap.size, 0, none⟩) (Nat.le_refl _) _).setCell (p := ⟨w6.heap.size, 1, none⟩) (Nat.le_refl _) _).setCell (p := ⟨w6.heap.size, 2, none⟩) (Nat.le_refl _) _))
            (first | (go_at_call 45; (with_reducible refine HNB.out.mono ?_); rintro e w7 ⟨F, rfl, hb7, hF7⟩) | (go_at_call 45; (with_reducible refine HNA.out.mono ?_); rintro e w7 ⟨F, rfl, hb7, hk7, hF7⟩; have k0 : w7.cell? ⟨w6.heap.size, 0, none⟩ = some (.slice none 0 0) := (by rw [hk7.cell]; rfl); have k1 : w7.cell? ⟨w6.heap.size, 1, none⟩ = some (.pointer none) := (by rw [hk7.cell]; rfl); have k2 : w7.cell? ⟨w6.heap.size, 2, none⟩ = some (.slice none 0 0) := (by rw [hk7.cell]; rfl); have f0 := hk7.frozen 0; have f1 := hk7.frozen 1; have f2 := hk7.frozen 2; have lk := hk7.lt))
          all_goals
            first
              | (obtain ⟨w8, hw8⟩ : ∃ w8, w8 = w7.alloc (.cells #[.slice (some ⟨b, o, none⟩) n cap, .pointer (some ⟨U, 0, none⟩), .slice (some ⟨F, 0, none⟩) n n] 81) := ⟨_, rfl⟩
                 rw [← hw8]
                 have hR8 : Blk w8 w7.heap.size 81 #[.slice (some ⟨b, o, none⟩) n cap, .pointer (some ⟨U, 0, none⟩), .slice (some ⟨F, 0, none⟩) n n] := by rw [hw8]; exact Blk.new _ _ _
                 have hb8 : Below w6.heap.size w6 w8 := by rw [hw8]; exact hb7.alloc hb7.size _
                 have hF8 : Blk w8 F 3 (intA (List.replicate n (-1))) := by rw [hw8]; exact hF7.out.2.alloc _
                 have hF9 := hF7.out.1
                 clear hw8 hb7 hF7
                 generalize w7.heap.size = R at *)
              | (obtain ⟨w8, hw8⟩ : ∃ w8, w8 = ((w7.setCell ⟨w6.heap.size, 0, none⟩ (.slice (some ⟨b, o, none⟩) n cap)).setCell ⟨w6.heap.size, 1, none⟩ (.pointer (some ⟨U, 0, none⟩))).setCell ⟨w6.heap.size, 2, none⟩ (.slice (some ⟨F, 0, none⟩) n n) := ⟨_, rfl⟩
                 rw [← hw8]
                 have hR8 : Blk w8 w6.heap.size 81 #[.slice (some ⟨b, o, none⟩) n cap, .pointer (some ⟨U, 0, none⟩), .slice (some ⟨F, 0, none⟩) n n] := by
                   rw [hw8]
                   have := ((hk7.set_ 0 (.slice (some ⟨b, o, none⟩) n cap)).set_ 1 (.pointer (some ⟨U, 0, none⟩))).set_ 2 (.slice (some ⟨F, 0, none⟩) n n)
                   simpa using this
                 have hb8 : Below w6.heap.size w6 w8 := by rw [hw8]; exact ((hb7.setCell (p := ⟨w6.heap.size, 0, none⟩) (Nat.le_refl _) _).setCell (p := ⟨w6.heap.size, 1, none⟩) (Nat.le_refl _) _).setCell (p := ⟨w6.heap.size, 2, none⟩) (Nat.le_refl _) _
                 have hF8 : Blk w8 F 3 (intA (List.replicate n (-1))) := by
                   have nn : F ≠ w6.heap.size := fun e => by have h1 := hF7.out.2; rw [e] at h1; exact absurd (Blk.type h1 hk7) (by decide)
                   rw [hw8]; exact ((hF7.out.2.far (p := ⟨w6.heap.size, 0, none⟩) nn _).far (p := ⟨w6.heap.size, 1, none⟩) nn _).far (p := ⟨w6.heap.size, 2, none⟩) nn _
                 have hF9 := hF7.out.1
                 clear hw8 hb7 hF7 hk7 k0 k1 k2 f0 f1 f2 lk
                 obtain ⟨R, hR2⟩ : ∃ R, R = w6.heap.size := ⟨_, rfl⟩
                 rw [← hR2] at hR8 ⊢
                 clear hR2)
            have hbw8 : Below w.heap.size w w8 := HB46.out.trans (hb8.mono HB46.out.size)
            have hFw : w.heap.size ≤ F := Nat.le_trans HB46.out.size hF9
            have hsm : Sm w w8 l (some ⟨b, o, none⟩) cap R F [(U, m)] E (List.replicate l.length (-1)) :=
              sm_start HT.out hbw8 hFw (HU6.out.below hb8) (by rw [← HN.out]; exact hR8) (by rw [← HN.out]; exact hF8)
            have hv := visit_all (w0 := w) (p := some ⟨b, o, none⟩) (cap := cap) (R := R) (F := F) HC.out HHL.out l.length w8 [(U, m)] E _ 0 root U m E.length hsm rfl rfl HRL.out HRL.out (by have := HHL.out; omega) (by omega) (by have h1 := HEl.out; have h2 := HRL.out; have h3 := HHL.out; omega) (nolib_start l)
            have hfine := fine_look HC.out l.length 0 root E.length E HRL.out HRL.out (by omega)
            have hX8 := HX6.out.below hb8 lX6
            have hm1 : w.heap.size + 1 ≠ m := fun e => by
              obtain ⟨nn, _, hM⟩ := HU6.out.map
              rw [← e] at hM; exact hM.not_blk HX6.out
            have hF1 : w.heap.size + 1 ≠ F := fun e => by have h1 := hF8; rw [← e] at h1; exact absurd (Blk.type h1 hX8) (by decide)
            have HX8 := Lib.hid hX8
            have HBW8 := Lib.hid hbw8
            have lX8 := hX8.lt
            have hmw : w.heap.size ≤ m := HU6.out.lo
            have lR8 := hR8.lt
            clear hX8 hbw8 hsm hR8 hF8 hF9 hb8 HX6 HU6 HB46 S6 S7 HNA HNB HX34 kf0 kf1 lfb lX6
            have hlRF : R < w8.heap.size := lR8
            go_wp2_with (go_at_call 46; refine hv.mono ?_)
            intro e w9 hd
            cases hr : look l l.length 0 root E with
            | out => rw [hr] at hfine; exact hfine.elim
            | bad c1 a1 =>
              rw [hr] at hd hfine
              obtain ⟨rfl, hc9⟩ := hd
              have HNF3 := Lib.hid (show namesF l = .bad c1 a1 by rw [HNF2.out, hr]; rfl)
              have hB9 := hc9.blk HX8.out hF1 hm1
              have y0 : w9.cell? ⟨w.heap.size + 1, 0, none⟩ = some (.int .i64 0) := by rw [hB9.cell]; rfl
              have y1 : w9.cell? ⟨w.heap.size + 1, 1, none⟩ = some (.int .i64 0) := by rw [hB9.cell]; rfl
              have q0 := hB9.frozen 0
              have q1 := hB9.frozen 1
              have lX9 := hB9.lt
              have hz := (set2 hB9 (.int .i64 c1) (.int .i64 a1)).alloc (.cells #[.int .i64 c1, .int .i64 a1] 26)
              have Z0 := Lib.hid (hz.cell 0)
              have Z1 := Lib.hid (hz.cell 1)
              have HB9 := Lib.hid (HBW8.out.trans (hc9.to_below HBW8.out.size hFw hmw))
              clear hz hB9 hc9 hr hv HC
              rcases hfine with rfl | rfl
              all_goals
                go_wp2
                go_region
                all_goals
                  go_wp2
                  have z0 := Z0.out
                  have z1 := Z1.out
                  refine bodyPost_ret (v := .tuple #[.slice none 0 0, .agg #[_, .int .i64 a1]]) (by simp [results, Tryz.results19, go_sem, z0, z1]; rfl) rfl ?_
                  refine HQ2.out _ _ ?_
                  rw [HNF3.out]
                  exact ⟨rfl, (((HB9.out.setCell (p := ⟨w.heap.size + 1, 0, none⟩) (by simp) _).setCell (p := ⟨w.heap.size + 1, 1, none⟩) (by simp) _).alloc (by have := HB9.out.size; simp; omega) _).drew⟩
            | ok E2 W2 =>
              rw [hr] at hd
              obtain ⟨rfl, hc9, hs9⟩ := hd
              have HNF3 := Lib.hid (show namesF l = .ok (ov W2 (List.replicate l.length (-1))) by rw [HNF2.out, hr]; rfl)
              have hB9 := hc9.blk HX8.out hF1 hm1
              have y0 : w9.cell? ⟨w.heap.size + 1, 0, none⟩ = some (.int .i64 0) := by rw [hB9.cell]; rfl
              have y1 : w9.cell? ⟨w.heap.size + 1, 1, none⟩ = some (.int .i64 0) := by rw [hB9.cell]; rfl
              have q0 := hB9.frozen 0
              have q1 := hB9.frozen 1
              have lX9 := hB9.lt
              have r2 : w9.cell? ⟨R, 2, none⟩ = some (.slice (some ⟨F, 0, none⟩) n n) := by rw [hs9.res.cell, HN.out]; rfl
              have lR9 := hs9.res.lt
              have hz := (set2 hB9 (.int .i64 0) (.int .i64 0)).alloc (.cells #[.int .i64 0, .int .i64 0] 26)
              have Z0 := Lib.hid (hz.cell 0)
              have Z1 := Lib.hid (hz.cell 1)
              have HB9 := Lib.hid (HBW8.out.trans (hc9.to_below HBW8.out.size hFw hmw))
              have HF9 := Lib.hid (((hs9.fnd.far (p := ⟨w.heap.size + 1, 0, none⟩) (fun e => hF1 e.symm) (.int .i64 0)).far (p := ⟨w.heap.size + 1, 1, none⟩) (fun e => hF1 e.symm) (.int .i64 0)).alloc (.cells #[.int .i64 0, .int .i64 0] 26))
              have HL9 := Lib.hid hs9.len
              clear hz hB9 hc9 hs9 hr hv HC hfine
              go_wp2
              have z0 := Z0.out
              have z1 := Z1.out
              refine bodyPost_ret (v := .tuple #[.slice (some ⟨F, 0, none⟩) n n, .agg #[.int .i64 0, .int .i64 0]]) (by simp [results, Tryz.results19, go_sem, z0, z1]) rfl ?_
              refine HQ2.out _ _ ?_
              rw [HNF3.out]
              exact ⟨F, hFw, by rw [HN.out], ((HB9.out.setCell (p := ⟨w.heap.size + 1, 0, none⟩) (by simp) _).setCell (p := ⟨w.heap.size + 1, 1, none⟩) (by simp) _).alloc (by have := HB9.out.size; simp; omega) _, HF9.out, HL9.out⟩
    · have hk1' : (kd != 1) = true := by simpa using hk1
      have HNF2 := Lib.hid (HNF.out.trans (if_pos hk1))
      have hz := (set2 HX3.out (.int .i64 11) (.int .i64 0)).alloc (.cells #[.int .i64 0, .int .i64 a] 26)
      have Z0 := Lib.hid (hz.cell 0)
      have Z1 := Lib.hid (hz.cell 1)
      clear hz hk1 hN hkd hC hS hl1 hl6 HR hrl hlast hb hw4 hb34 hb4 HU
      go_wp2
      have z0 := Z0.out
      have z1 := Z1.out
      refine bodyPost_ret (v := .tuple #[.slice none 0 0, .agg #[.int .i64 11, .int .i64 0]]) (by simp [results, Tryz.results19, go_sem, z0, z1]) rfl ?_
      refine HQ2.out _ _ ?_
      rw [HNF2.out]
      exact ⟨rfl, ((HBel.out.setCell (p := ⟨w.heap.size + 1, 0, none⟩) (by simp) _).setCell (p := ⟨w.heap.size + 1, 1, none⟩) (by simp) _).alloc (by simp; have := HBel.out.size; omega) _⟩
  · have hc' : (c != 0) = true := by simpa using hc
    have HC := Lib.hid hc
    have hz := (set2 HX3.out (.int .i64 c) (.int .i64 a)).alloc (.cells #[.int .i64 c, .int .i64 a] 26)
    have Z0 := Lib.hid (hz.cell 0)
    have Z1 := Lib.hid (hz.cell 1)
    clear hc hz
    go_wp2
    go_region
    all_goals
      go_wp2
      have z0 := Z0.out
      have z1 := Z1.out
      refine bodyPost_ret (v := .tuple #[.slice none 0 0, .agg #[.int .i64 c, .int .i64 a]]) (by simp [results, Tryz.results19, go_sem, z0, z1]) rfl ?_
      rw [HQ.out]
      exact ⟨c, a, HR.out, Or.inl ⟨HC.out, rfl, (((HBel.out.setCell (p := ⟨w.heap.size + 1, 0, none⟩) (by simp) _).setCell (p := ⟨w.heap.size + 1, 1, none⟩) (by simp) _).alloc (by simp; have := HBel.out.size; omega) _).drew⟩⟩
end Sc
end
section
namespace Sc
open Go.RowKit
open Tr

/-- what is told of a node -/
def OwnP (l : List Nd) (fs : List Int) (k : Nat) : Prop := ∃ v, fs[k]? = some v ∧ (decK (kindAt l k) → v = (k : Int)) ∧ (kindAt l k = 32 → 0 ≤ v) ∧
  (v = -1 ∨ ∃ j : Nat, v = (j : Int) ∧ j < l.length ∧ tx l j = tx l k ∧ fs[j]? = some (j : Int) ∧ (kindAt l j = 12 → j ≤ k))
theorem tops_env {l : List Nd} {b : Nat} : ∀ (c : List Int) (E E' : Env) (W : Wr), tops l c E = .ok E' W → (∀ x ∈ c, x.toNat < l.length ∧ decK (kindAt l x.toNat) ∧ kindAt l x.toNat ≠ 12) → EnvOk l b E → EnvOk l b E' := by
  intro c
  induction c with
  | nil => intro E E' W h _ hE; cases h; exact hE
  | cons y c ih =>
    intro E E' W h hc hE
    simp only [tops] at h
    split at h
    · cases h
    · unfold declF at h
      split at h
      · cases h
      · change (tops l c _).pre _ = _ at h
        obtain ⟨W2, h2, rfl⟩ := pre_ok h
        refine ih _ _ _ h2 (fun x hx => hc x (List.mem_cons_of_mem _ hx)) (fun x hx => ?_)
        rcases List.mem_append.1 hx with hx | hx
        · exact hE x hx
        · simp only [List.mem_cons, List.not_mem_nil, or_false] at hx; subst hx
          obtain ⟨h3, h4, h5⟩ := hc y (List.mem_cons_self ..)
          exact ⟨h3, h4, fun e => absurd e h5⟩
theorem unit_tops {l : List Nd} {k : Nat} (hk : k < l.length) (hC : codeAt l k = 0) (h1 : kindAt l k = 1) : ∀ x ∈ kidsAt l k, x.toNat < l.length ∧ decK (kindAt l x.toNat) ∧ kindAt l x.toNat ≠ 12 := by
  obtain ⟨q, hK⟩ := kin_of hk hC
  intro x hx
  obtain ⟨j, hj, rfl⟩ := List.getElem_of_mem hx
  obtain ⟨a, b, c, d⟩ := hK.kid j hj
  obtain ⟨z, h2, h3, _⟩ := hK.lt j hj
  have hz : (kidsAt l k)[j].toNat = z := by rw [h2]; rfl
  have hz2 : q (j + 1) - 1 = z := by have := b.symm.trans h2; omega
  rw [h1, hz2] at d
  have hk2 : kindAt l z = 2 ∨ kindAt l z = 3 := by simpa [goB] using d
  rw [hz]
  exact ⟨by omega, hk2.elim Or.inl (fun h => Or.inr (Or.inl h)), by omega⟩
/-- the parts of a good answer -/
theorem names_open {l : List Nd} {fs : List Int} (h : namesF l = .ok fs) : kindAt l (l.length - 1) = 1 ∧ ∃ E Wt E' W, tops l (kidsAt l (l.length - 1)) [] = .ok E Wt ∧ look l l.length 0 (l.length - 1) E = .ok E' W ∧ fs = ov W (List.replicate l.length (-1)) := by
  unfold namesF at h
  split at h
  · cases h
  · rename_i h1
    split at h
    · rename_i E Wt ht
      cases hl : look l l.length 0 (l.length - 1) E with
      | ok E' W => rw [hl] at h; cases h; exact ⟨by simpa using h1, E, Wt, E', W, ht, hl, rfl⟩
      | bad c a => rw [hl] at h; cases h
      | out => rw [hl] at h; cases h
    · cases h
    · cases h
theorem own_facts {l : List Nd} {fs : List Int} (h0 : 1 ≤ l.length) (hC : ∀ j, j < l.length → codeAt l j = 0) (hS : St l (l.length - 1) = 0) (h : namesF l = .ok fs) : fs.length = l.length ∧ ∀ k, k < l.length → OwnP l fs k := by
  obtain ⟨h1, E, Wt, E', W, ht, hl, rfl⟩ := names_open h
  have hr : l.length - 1 < l.length := by omega
  have hE : EnvOk l 0 E := tops_env _ _ _ _ ht (unit_tops hr (hC _ hr) h1) (fun x hx => by cases hx)
  obtain ⟨_, hW⟩ := look_snd hC _ _ _ _ _ _ hl hr (by rw [hS]; exact hE)
  have hall := look_has hC _ _ _ _ _ _ hl hr
  rw [hS] at hall
  have hown : ∀ j, j < l.length → decK (kindAt l j) → (ov W (List.replicate l.length (-1)))[j]? = some (j : Int) := fun j hj hd => by
    obtain ⟨y, hy, rfl, he⟩ := ov_get_mem (W := W) (X := List.replicate l.length (-1)) (by simpa using hj) (hall j (Nat.zero_le _) (by omega) (Or.inl hd))
    rw [he, (hW y hy).2.1 hd]
  refine ⟨by rw [ov_len]; simp, fun k hk => ?_⟩
  by_cases hm : k ∈ W.map (·.1)
  · obtain ⟨y, hy, rfl, he⟩ := ov_get_mem (W := W) (X := List.replicate l.length (-1)) (by simpa using hk) hm
    obtain ⟨_, a1, a2, a3⟩ := hW y hy
    refine ⟨y.2, he, a1, a2, ?_⟩
    rcases a3 with a3 | ⟨j, b1, b2, b3, b4, b5⟩
    · exact Or.inl a3
    · exact Or.inr ⟨j, b1, b2, b3, hown j b2 b4, b5⟩
  · have he : (ov W (List.replicate l.length (-1)))[k]? = some (-1) := by rw [ov_get_not hm]; simp [hk]
    have hno : ¬ (decK (kindAt l k) ∨ kindAt l k = 32) := fun hd => hm (hall k (Nat.zero_le _) (by omega) hd)
    exact ⟨-1, he, fun hd => absurd (Or.inl hd) hno, fun e => absurd (Or.inr e) hno, Or.inl rfl⟩
end Sc
end
section
namespace Sc
open Go.RowKit
open Tr

def anewS : List UInt8 := [97, 110, 101, 119]
/-- the same tree, but the nodes that stand for k are named anew -/
structure Ren (l l' : List Nd) (fs : List Int) (k : Nat) : Prop where
  len : l'.length = l.length
  kind : kindAt l' = kindAt l
  kids : kidsAt l' = kidsAt l
  same : ∀ i, i < l.length → fs[i]? ≠ some (k : Int) → tx l' i = tx l i
  new : ∀ i, i < l.length → fs[i]? = some (k : Int) → tx l' i = anewS
  no : ∀ i, i < l.length → tx l i ≠ anewS
  lt : k < l.length
  loc : kindAt l k = 4 ∨ kindAt l k = 12
  self : fs[k]? = some (k : Int)
/-- what is declared stands for itself; k is not ahead of b -/
def EnvR (l : List Nd) (fs : List Int) (k b : Nat) (E : Env) : Prop := ∀ x ∈ E, x.1 < l.length ∧ fs[x.1]? = some (x.1 : Int) ∧ (x.1 = k → k < b)
theorem EnvR.mono {l : List Nd} {fs : List Int} {k b b' : Nat} {E : Env} (h : EnvR l fs k b E) (hb : b ≤ b') : EnvR l fs k b' E := fun x hx => ⟨(h x hx).1, (h x hx).2.1, fun e => Nat.lt_of_lt_of_le ((h x hx).2.2 e) hb⟩
section
variable {l l' : List Nd} {fs : List Int} {k : Nat}
theorem Ren.at_ (R : Ren l l' fs k) {x : Nat} (hx : x < l.length) (hs : fs[x]? = some (x : Int)) : tx l' x = if x = k then anewS else tx l x := by
  by_cases e : x = k
  · rw [if_pos e]; exact R.new x hx (by rw [hs, e])
  · rw [if_neg e]; exact R.same x hx (by rw [hs]; intro h; injection h with h; exact e (by omega))
theorem room_cons (x : Nat × Nat) (E : Env) (r : Nat) (s : List UInt8) : roomF l (x :: E) r s = if (x.2 == r && tx l x.1 == s) = true then some x.1 else roomF l E r s := by
  unfold roomF
  rw [List.find?_cons]
  cases (x.2 == r && tx l x.1 == s) <;> rfl
theorem room_other (R : Ren l l' fs k) {b r : Nat} {s : List UInt8} (hs : s ≠ anewS) : ∀ {E : Env}, EnvR l fs k b E → (roomF l E r s = none → roomF l' E r s = none) ∧ ∀ j, j ≠ k → roomF l E r s = some j → roomF l' E r s = some j := by
  intro E
  induction E with
  | nil => intro _; exact ⟨fun h => h, fun j _ h => h⟩
  | cons x E ih =>
    intro hE
    obtain ⟨i1, i2⟩ := ih (fun y hy => hE y (List.mem_cons_of_mem _ hy))
    obtain ⟨h1, h2, _⟩ := hE x (List.mem_cons_self ..)
    rw [room_cons, room_cons, R.at_ h1 h2]
    by_cases e : x.1 = k
    · rw [if_pos e]
      have hf : (x.2 == r && anewS == s) = false := by
        have : (anewS == s) = false := by simpa using fun h => hs h.symm
        rw [this, Bool.and_false]
      rw [hf]
      simp only [Bool.false_eq_true, if_false]
      split
      · refine ⟨fun h => (by cases h), fun j hj h => ?_⟩
        injection h with h
        exact absurd (h.symm.trans e) hj
      · exact ⟨i1, i2⟩
    · rw [if_neg e]
      split
      · exact ⟨fun h => (by cases h), fun j _ h => h⟩
      · exact ⟨i1, i2⟩
theorem room_none (R : Ren l l' fs k) {b r : Nat} {E : Env} (hE : EnvR l fs k b E) (hk : ∀ x ∈ E, x.1 ≠ k) : roomF l' E r anewS = none := by
  cases h : roomF l' E r anewS with
  | none => rfl
  | some j =>
    obtain ⟨x, hx, rfl, ht⟩ := envMem_room h
    obtain ⟨h1, h2, _⟩ := hE x hx
    rw [R.at_ h1 h2, if_neg (hk x hx)] at ht
    exact absurd ht (R.no _ h1)
theorem room_new (R : Ren l l' fs k) {b r j : Nat} {E : Env} (hE : EnvR l fs k b E) (h : roomF l' E r anewS = some j) : j = k := by
  obtain ⟨x, hx, rfl, ht⟩ := envMem_room h
  obtain ⟨h1, h2, _⟩ := hE x hx
  rw [R.at_ h1 h2] at ht
  by_cases e : x.1 = k
  · exact e
  · rw [if_neg e] at ht; exact absurd ht (R.no _ h1)
theorem room_found (R : Ren l l' fs k) {b r : Nat} {s : List UInt8} {E : Env} (hE : EnvR l fs k b E) (h : roomF l E r s = some k) : roomF l' E r anewS = some k := by
  unfold roomF at h
  cases h2 : E.find? fun p => p.2 == r && tx l p.1 == s with
  | none => rw [h2] at h; cases h
  | some x =>
    rw [h2] at h
    have h3 := List.find?_some h2
    have h4 := List.mem_of_find?_eq_some h2
    simp at h3 h
    cases hn : roomF l' E r anewS with
    | some j => rw [room_new R hE hn]
    | none =>
      unfold roomF at hn
      rw [Option.map_eq_none_iff, List.find?_eq_none] at hn
      have := hn x h4
      rw [R.at_ (hE x h4).1 (hE x h4).2.1, if_pos h, h3.1] at this
      simp at this
theorem find_other (R : Ren l l' fs k) {b j : Nat} {s : List UInt8} (hs : s ≠ anewS) (hj : j ≠ k) {E : Env} (hE : EnvR l fs k b E) : ∀ {n : Nat}, findF l E s n = some j → findF l' E s n = some j := by
  intro n
  induction n with
  | zero => intro h; cases h
  | succ n ih =>
    intro h
    simp only [findF] at h ⊢
    obtain ⟨i1, i2⟩ := room_other R hs (r := n) hE
    cases hr : roomF l E n s with
    | some i =>
      rw [hr] at h
      injection h with h
      subst h
      rw [i2 i hj hr]
    | none => rw [hr] at h; rw [i1 hr]; exact ih h
theorem find_new (R : Ren l l' fs k) {b : Nat} {s : List UInt8} {E : Env} (hE : EnvR l fs k b E) : ∀ {n : Nat}, findF l E s n = some k → findF l' E anewS n = some k := by
  intro n
  induction n with
  | zero => intro h; cases h
  | succ n ih =>
    intro h
    simp only [findF] at h ⊢
    cases hr : roomF l' E n anewS with
    | some j => rw [room_new R hE hr]
    | none =>
      cases hr2 : roomF l E n s with
      | some i =>
        rw [hr2] at h
        injection h with h
        subst h
        rw [room_found R hE hr2] at hr
        cases hr
      | none => rw [hr2] at h; exact ih h
theorem own_ren (R : Ren l l' fs k) {now i b : Nat} {E E' : Env} {W : Wr} (h : own l now i E = .ok E' W) (hi : i < l.length) (hW : ∀ y ∈ W, fs[y.1]? = some y.2) (hE : EnvR l fs k b E) (hb : b ≤ i) : own l' now i E = .ok E' W ∧ EnvR l fs k (i + 1) E' ∧ (kindAt l i ≠ 12 → kindAt l i ≠ 4 → EnvR l fs k b E') := by
  have hne : ∀ v, v ≠ (k : Int) → W = [(i, v)] → tx l' i = tx l i := fun v hv hw => R.same i hi (by
    have := hW (i, v) (by rw [hw]; exact List.mem_cons_self ..)
    rw [this]; intro h; injection h with h; exact hv h)
  unfold own at h ⊢
  rw [R.kind]
  split at h
  · cases h; rename_i h2; rw [if_pos h2]; exact ⟨rfl, hE.mono (by omega), fun _ _ => hE⟩
  · rename_i h2
    rw [if_neg h2]
    split at h
    · rename_i h4
      rw [if_pos h4]
      unfold declF at h ⊢
      split at h
      · cases h
      · rename_i hno
        cases h
        have hself := hW (i, (i : Int)) (List.mem_cons_self ..)
        have hno2 : roomF l E now (tx l i) = none := by simpa using hno
        have hnew : roomF l' E now (tx l' i) = none := by
          rw [R.at_ hi hself]
          by_cases e : i = k
          · rw [if_pos e]
            exact room_none R hE fun x hx e2 => by have := (hE x hx).2.2 e2; omega
          · rw [if_neg e]
            exact (room_other R (R.no i hi) hE).1 hno2
        rw [hnew]
        refine ⟨rfl, fun x hx => ?_, fun h12 h44 => ?_⟩
        · rcases List.mem_append.1 hx with hx | hx
          · exact (hE.mono (by omega)) x hx
          · simp only [List.mem_cons, List.not_mem_nil, or_false] at hx; subst hx
            exact ⟨hi, hself, fun e => by have e2 : i = k := e; show k < i + 1; omega⟩
        · rcases h4 with h4 | h4
          · exact absurd h4 h44
          · exact absurd h4 h12
    · rename_i h4
      rw [if_neg h4]
      split at h
      · rename_i h32
        rw [if_pos h32]
        unfold nameF at h ⊢
        split at h
        · rename_i j hj
          split at h
          · cases h
          · rename_i h3
            cases h
            have hfi := hW (i, (j : Int)) (List.mem_cons_self ..)
            have hnew : findF l' E (tx l' i) (now + 1) = some j := by
              by_cases e : j = k
              · subst e
                rw [R.new i hi hfi]
                exact find_new R hE hj
              · rw [hne (j : Int) (by omega) rfl]
                exact find_other R (R.no i hi) e hE hj
            rw [hnew]
            simp only [R.kind]
            rw [if_neg h3]
            exact ⟨rfl, hE.mono (by omega), fun _ _ => hE⟩
        · cases h
      · rename_i h32
        rw [if_neg h32]
        split at h
        · rename_i h33
          rw [if_pos h33]
          unfold callF at h ⊢
          split at h
          · rename_i hl
            cases h
            rw [hne (-1) (by omega) rfl, if_pos hl]
            exact ⟨rfl, hE.mono (by omega), fun _ _ => hE⟩
          · rename_i hl
            split at h
            · rename_i j hj
              split at h
              · rename_i h3
                cases h
                have hjk : j ≠ k := fun e => by subst e; have := R.loc; omega
                rw [hne (j : Int) (by omega) rfl, if_neg hl, (room_other R (R.no i hi) hE).2 j hjk hj]
                simp only [R.kind]
                rw [if_pos h3]
                exact ⟨rfl, hE.mono (by omega), fun _ _ => hE⟩
              · cases h
            · cases h
        · rename_i h33
          rw [if_neg h33]
          cases h
          exact ⟨rfl, hE.mono (by omega), fun _ _ => hE⟩
theorem each_ren {x : Nat} {q : Nat → Nat} (hK : Kin l x q) {g g' : Nat → Env → Rs} (hg : ∀ y, y < x → ∀ E E' W, g y E = .ok E' W → (∀ z ∈ W, fs[z.1]? = some z.2) → EnvR l fs k (St l y) E → g' y E = .ok E' W ∧ EnvR l fs k (y + 1) E') :
    ∀ n i E E' W, (kidsAt l x).length - i = n → i ≤ (kidsAt l x).length → each g ((kidsAt l x).drop i) E = .ok E' W → (∀ z ∈ W, fs[z.1]? = some z.2) → EnvR l fs k (q i) E → each g' ((kidsAt l x).drop i) E = .ok E' W ∧ EnvR l fs k x E' := by
  intro n
  induction n with
  | zero =>
    intro i E E' W hn hi h _ hE
    rw [each_end (by omega)] at h
    cases h
    have : i = (kidsAt l x).length := by omega
    subst this
    rw [hK.to_] at hE
    exact ⟨each_end (Nat.le_refl _), hE⟩
  | succ n ih =>
    intro i E E' W hn hi h hW hE
    have hil : i < (kidsAt l x).length := by omega
    obtain ⟨y, h1, h2, h3, h4⟩ := hK.lt i hil
    rw [each_drop hil, h1, Int.toNat_natCast] at h
    obtain ⟨E1, W1, W2, g1, g2, rfl⟩ := bind_ok h
    obtain ⟨e1, e2⟩ := hg y h2 _ _ _ g1 (fun z hz => hW z (List.mem_append_left _ hz)) (by rw [h4]; exact hE)
    rw [h3] at e2
    obtain ⟨e3, e4⟩ := ih (i + 1) _ _ _ (by omega) (by omega) g2 (fun z hz => hW z (List.mem_append_right _ hz)) e2
    refine ⟨?_, e4⟩
    rw [each_drop hil, h1, Int.toNat_natCast, e1]
    show (each g' _ E1).pre W1 = _
    rw [e3]; rfl
theorem look_ren (R : Ren l l' fs k) (hC : ∀ j, j < l.length → codeAt l j = 0) : ∀ (f now x : Nat) (E E' : Env) (W : Wr), look l f now x E = .ok E' W → x < l.length → (∀ z ∈ W, fs[z.1]? = some z.2) → EnvR l fs k (St l x) E → look l' f now x E = .ok E' W ∧ EnvR l fs k (x + 1) E' := by
  intro f
  induction f with
  | zero => intro now x E E' W h; cases h
  | succ f ih =>
    intro now x E E' W h hx hW hE
    obtain ⟨q, hK⟩ := kin_of hx (hC x hx)
    have hle := St_le l x
    have hkid : ∀ E E' W, kidsF l (look l f) now x E = .ok E' W → (∀ z ∈ W, fs[z.1]? = some z.2) → EnvR l fs k (St l x) E → kidsF l' (look l' f) now x E = .ok E' W ∧ EnvR l fs k x E' := by
      intro E E' W h hW hE
      unfold kidsF at h ⊢
      rw [R.kind, R.kids]
      split at h
      · rename_i hop
        rw [if_pos hop]
        obtain ⟨rfl, E2, h2⟩ := back_ok h
        have := each_ren hK (g := look l f (now + 1)) (g' := look l' f (now + 1)) (fun y hy E E' W h => ih _ _ _ _ _ h (by omega)) _ 0 E' E2 W rfl (Nat.zero_le _) h2 hW (by rw [hK.from_]; exact hE)
        refine ⟨?_, hE.mono hle⟩
        have h3 : each (look l' f (now + 1)) (kidsAt l x) E' = .ok E2 W := this.1
        rw [h3]; rfl
      · rename_i hop
        rw [if_neg hop]
        exact each_ren hK (g := look l f now) (g' := look l' f now) (fun y hy E E' W h => ih _ _ _ _ _ h (by omega)) _ 0 E E' W rfl (Nat.zero_le _) h hW (by rw [hK.from_]; exact hE)
    simp only [look] at h ⊢
    rw [R.kind]
    split at h
    · rename_i h12
      rw [if_pos h12]
      obtain ⟨E1, W1, W2, h1, h2, rfl⟩ := bind_ok h
      obtain ⟨e1, e2⟩ := hkid _ _ _ h1 (fun z hz => hW z (List.mem_append_left _ hz)) hE
      obtain ⟨e3, e4, _⟩ := own_ren R h2 hx (fun z hz => hW z (List.mem_append_right _ hz)) e2 (Nat.le_refl _)
      refine ⟨?_, e4⟩
      rw [e1]
      show (own l' now x E1).pre W1 = _
      rw [e3]; rfl
    · rename_i h12
      rw [if_neg h12]
      obtain ⟨E1, W1, W2, h1, h2, rfl⟩ := bind_ok h
      obtain ⟨e1, e2, e3⟩ := own_ren R h1 hx (fun z hz => hW z (List.mem_append_left _ hz)) hE hle
      have hk2 : kidsF l' (look l' f) now x E1 = .ok E' W2 ∧ EnvR l fs k (x + 1) E' := by
        by_cases h44 : kindAt l x = 4
        · have hn := kids_none hx (hC x hx) (Or.inl h44)
          have hop : opB (kindAt l x) ≠ true := by rw [h44]; decide
          unfold kidsF at h2 ⊢
          rw [R.kind, R.kids]
          rw [if_neg hop, hn] at h2 ⊢
          cases h2
          exact ⟨rfl, e2⟩
        · obtain ⟨a1, a2⟩ := hkid _ _ _ h2 (fun z hz => hW z (List.mem_append_right _ hz)) (e3 h12 h44)
          exact ⟨a1, a2.mono (by omega)⟩
      refine ⟨?_, hk2.2⟩
      rw [e1]
      show (kidsF l' (look l' f) now x E1).pre W1 = _
      rw [hk2.1]; rfl
end
/-- each node is written once -/
theorem own_in {l : List Nd} {now i : Nat} {E E' : Env} {W : Wr} (h : own l now i E = .ok E' W) : W = [] ∨ ∃ v, W = [(i, v)] := by
  unfold own declF nameF callF at h
  repeat' split at h
  all_goals first | (cases h; done) | (cases h; exact Or.inr ⟨_, rfl⟩) | (cases h; exact Or.inl rfl)
def InW (a b : Nat) (W : Wr) : Prop := (W.map (·.1)).Nodup ∧ ∀ y ∈ W, a ≤ y.1 ∧ y.1 < b
theorem InW.nil (a b : Nat) : InW a b [] := ⟨List.nodup_nil, fun y hy => by cases hy⟩
theorem InW.mono {a b a' b' : Nat} {W : Wr} (h : InW a b W) (ha : a' ≤ a) (hb : b ≤ b') : InW a' b' W := ⟨h.1, fun y hy => ⟨by have := (h.2 y hy).1; omega, by have := (h.2 y hy).2; omega⟩⟩
theorem InW.app {a b c d : Nat} {W W' : Wr} (h : InW a b W) (h' : InW c d W') (hd : b ≤ c ∨ d ≤ a) : InW (min a c) (max b d) (W ++ W') := by
  refine ⟨?_, fun y hy => ?_⟩
  · rw [List.map_append, List.nodup_append]
    refine ⟨h.1, h'.1, fun x hx y hy e => ?_⟩
    obtain ⟨u, hu, rfl⟩ := List.mem_map.1 hx
    obtain ⟨v, hv, rfl⟩ := List.mem_map.1 hy
    have h1 := h.2 u hu
    have h2 := h'.2 v hv
    omega
  · rcases List.mem_append.1 hy with hy | hy
    · have := h.2 y hy; omega
    · have := h'.2 y hy; omega
theorem own_inW {l : List Nd} {now i : Nat} {E E' : Env} {W : Wr} (h : own l now i E = .ok E' W) : InW i (i + 1) W := by
  rcases own_in h with rfl | ⟨v, rfl⟩
  · exact InW.nil _ _
  · exact ⟨by simp, fun y hy => by rw [one_mem hy]; exact ⟨Nat.le_refl _, Nat.lt_succ_self _⟩⟩
theorem each_inW {l : List Nd} {x : Nat} {q : Nat → Nat} (hK : Kin l x q) {g : Nat → Env → Rs} (hg : ∀ y, y < x → ∀ E E' W, g y E = .ok E' W → InW (St l y) (y + 1) W) :
    ∀ n i E E' W, (kidsAt l x).length - i = n → i ≤ (kidsAt l x).length → each g ((kidsAt l x).drop i) E = .ok E' W → InW (q i) x W := by
  intro n
  induction n with
  | zero =>
    intro i E E' W hn hi h
    rw [each_end (by omega)] at h
    cases h
    exact InW.nil _ _
  | succ n ih =>
    intro i E E' W hn hi h
    have hil : i < (kidsAt l x).length := by omega
    obtain ⟨y, h1, h2, h3, h4⟩ := hK.lt i hil
    rw [each_drop hil, h1, Int.toNat_natCast] at h
    obtain ⟨E1, W1, W2, g1, g2, rfl⟩ := bind_ok h
    have a1 := hg y h2 _ _ _ g1
    have a2 := ih (i + 1) _ _ _ (by omega) (by omega) g2
    rw [h4] at a1
    rw [← h3] at a2
    have hm := St_le l y
    rw [h4] at hm
    exact (a1.app a2 (Or.inl (Nat.le_refl _))).mono (by omega) (by omega)
theorem look_inW {l : List Nd} (hC : ∀ j, j < l.length → codeAt l j = 0) : ∀ (f now x : Nat) (E E' : Env) (W : Wr), look l f now x E = .ok E' W → x < l.length → InW (St l x) (x + 1) W := by
  intro f
  induction f with
  | zero => intro now x E E' W h; cases h
  | succ f ih =>
    intro now x E E' W h hx
    obtain ⟨q, hK⟩ := kin_of hx (hC x hx)
    have hle := St_le l x
    have hkid : ∀ E E' W, kidsF l (look l f) now x E = .ok E' W → InW (St l x) x W := by
      intro E E' W h
      unfold kidsF at h
      split at h
      · obtain ⟨rfl, E2, h2⟩ := back_ok h
        have := each_inW hK (g := look l f (now + 1)) (fun y hy E E' W h => ih _ _ _ _ _ h (by omega)) _ 0 E' E2 W rfl (Nat.zero_le _) h2
        rwa [hK.from_] at this
      · have := each_inW hK (g := look l f now) (fun y hy E E' W h => ih _ _ _ _ _ h (by omega)) _ 0 E E' W rfl (Nat.zero_le _) h
        rwa [hK.from_] at this
    simp only [look] at h
    split at h
    · obtain ⟨E1, W1, W2, h1, h2, rfl⟩ := bind_ok h
      exact ((hkid _ _ _ h1).app (own_inW h2) (Or.inl (Nat.le_refl _))).mono (by omega) (by omega)
    · obtain ⟨E1, W1, W2, h1, h2, rfl⟩ := bind_ok h
      exact ((own_inW h1).app (hkid _ _ _ h2) (Or.inr (Nat.le_refl _))).mono (by omega) (by omega)
theorem ov_mem {W : Wr} : ∀ {X : List Int}, (W.map (·.1)).Nodup → ∀ y ∈ W, y.1 < X.length → (ov W X)[y.1]? = some y.2 := by
  induction W with
  | nil => intro X _ y hy; cases hy
  | cons x W ih =>
    intro X hn y hy hl
    rw [List.map_cons, List.nodup_cons] at hn
    rcases List.mem_cons.1 hy with rfl | hy
    · show (ov W (X.set y.1 y.2))[y.1]? = _
      rw [ov_get_not hn.1, List.getElem?_set, if_pos rfl, if_pos hl]
    · exact ih hn.2 y hy (by simpa using hl)
theorem tops_ren {l l' : List Nd} {fs : List Int} {k : Nat} (R : Ren l l' fs k) : ∀ (c : List Int) (E E' : Env) (W : Wr), tops l c E = .ok E' W → (∀ x ∈ c, x.toNat < l.length ∧ fs[x.toNat]? = some (x.toNat : Int) ∧ x.toNat ≠ k) → EnvR l fs k 0 E → tops l' c E = .ok E' W ∧ EnvR l fs k 0 E' := by
  intro c
  induction c with
  | nil => intro E E' W h _ hE; cases h; exact ⟨rfl, hE⟩
  | cons y c ih =>
    intro E E' W h hc hE
    obtain ⟨h1, h2, h3⟩ := hc y (List.mem_cons_self ..)
    have ht : tx l' y.toNat = tx l y.toNat := by rw [R.at_ h1 h2, if_neg h3]
    simp only [tops] at h ⊢
    rw [ht]
    split at h
    · cases h
    · rename_i hl
      rw [if_neg hl]
      unfold declF at h ⊢
      split at h
      · cases h
      · rename_i hno
        change (tops l c _).pre _ = _ at h
        obtain ⟨W2, g2, rfl⟩ := pre_ok h
        have hno2 : roomF l E 0 (tx l y.toNat) = none := by simpa using hno
        rw [ht, (room_other R (R.no _ h1) hE).1 hno2]
        obtain ⟨e1, e2⟩ := ih _ _ _ g2 (fun x hx => hc x (List.mem_cons_of_mem _ hx)) (fun x hx => by
          rcases List.mem_append.1 hx with hx | hx
          · exact hE x hx
          · simp only [List.mem_cons, List.not_mem_nil, or_false] at hx; subst hx
            exact ⟨h1, h2, fun e => absurd e h3⟩)
        refine ⟨?_, e2⟩
        show (tops l' c _).pre _ = _
        rw [e1]; rfl
/-- the names of the tree that is named anew -/
theorem names_ren {l l' : List Nd} {fs : List Int} {k : Nat} (R : Ren l l' fs k) (h0 : 1 ≤ l.length) (hC : ∀ j, j < l.length → codeAt l j = 0) (hS : St l (l.length - 1) = 0) (h : namesF l = .ok fs) : namesF l' = .ok fs := by
  obtain ⟨hlen, hown⟩ := own_facts h0 hC hS h
  obtain ⟨h1, E, Wt, E', W, ht, hl, hfs⟩ := names_open h
  have hr : l.length - 1 < l.length := by omega
  have hutop := unit_tops hr (hC _ hr) h1
  have htop : ∀ x ∈ kidsAt l (l.length - 1), x.toNat < l.length ∧ fs[x.toNat]? = some (x.toNat : Int) ∧ x.toNat ≠ k := fun x hx => by
    obtain ⟨a1, a2, a3⟩ := hutop x hx
    obtain ⟨v, b1, b2, _⟩ := hown _ a1
    refine ⟨a1, by rw [b1, b2 a2], fun e => ?_⟩
    rw [e] at a2 a3
    have hloc := R.loc
    clear a1 a2 b1 b2
    obtain ⟨q, hK⟩ := kin_of hr (hC _ hr)
    obtain ⟨j, hj, hx2⟩ := List.getElem_of_mem hx
    obtain ⟨c1, c2, c3, c4⟩ := hK.kid j hj
    rw [h1] at c4
    have hz : q (j + 1) - 1 = k := by have := hx2.symm.trans c2; omega
    rw [hz] at c4
    have h23 : kindAt l k = 2 ∨ kindAt l k = 3 := by simpa [goB] using c4
    generalize kindAt l k = kk at hloc h23
    omega
  obtain ⟨t1, t2⟩ := tops_ren R _ _ _ _ ht htop (fun x hx => by cases hx)
  have hin := look_inW hC _ _ _ _ _ _ hl hr
  have hW : ∀ z ∈ W, fs[z.1]? = some z.2 := fun z hz => by
    rw [hfs]
    exact ov_mem hin.1 z hz (by have := (hin.2 z hz).2; simp; omega)
  obtain ⟨r1, _⟩ := look_ren R hC _ _ _ _ _ _ hl hr hW (by rw [hS]; exact t2)
  unfold namesF
  rw [R.len, R.kind, R.kids, h1]
  simp only [ne_eq, not_true_eq_false, if_false]
  rw [t1]
  simp only [finF]
  rw [r1]
  simp only
  rw [R.len, ← hfs]
end Sc
end
end Go.Proofs.YtmghjfphlneblaaGreatDoor
