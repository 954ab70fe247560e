/-
  What Names of package scope gives of a tree, and its contract.
-/
import Derived.Test.YtmghjfphlneblaaSm
import Derived.RegionTactic
import Derived.Deep.RegionHeld3
namespace Go.Proofs.Ytmghjfphlneblaa.Sc
open Go.RowKit
open Tr

/-- what names stand for, of a tree that is in its form -/
inductive Nm where
  | bad (c a : Int)
  | ok (fs : List Int)
def finF (l : List Nd) : Rs → Nm
  | .ok _ W => .ok (ov W (List.replicate l.length (-1)))
  | .bad c a => .bad c a
  | .out => .bad 0 0
def namesF (l : List Nd) : Nm :=
  if kindAt l (l.length - 1) ≠ 1 then .bad 11 0 else match tops l (kidsAt l (l.length - 1)) [] with
    | .ok E _ => finF l (look l l.length 0 (l.length - 1) E)
    | .bad c a => .bad c a
    | .out => .bad 0 0
def NmIs (l : List Nd) (w : World) : Nm → Ending → World → Prop
  | .bad c a, e, w' => e = .returned (.tuple #[.slice none 0 0, .agg #[.int .i64 c, .int .i64 a]]) ∧ Below w.heap.size w w'
  | .ok fs, e, w' => ∃ F, w.heap.size ≤ F ∧ e = .returned (.tuple #[.slice (some ⟨F, 0, none⟩) l.length l.length, .agg #[.int .i64 0, .int .i64 0]]) ∧ Below w.heap.size w w' ∧ Blk w' F 3 (intA fs) ∧ fs.length = l.length
def NmPost (l : List Nd) (w : World) (e : Ending) (w' : World) : Prop :=
  ∃ c a : Int, CkR l c a ∧ ((c ≠ 0 ∧ NmIs l w (.bad c a) e w') ∨ (c = 0 ∧ NmIs l w (namesF l) e w'))
theorem ckr_zero {l : List Nd} {a : Int} (h : CkR l 0 a) : 1 ≤ l.length ∧ l.length ≤ 600 ∧ (∀ j, j < l.length → codeAt l j = 0) ∧ St l (l.length - 1) = 0 ∧ Dp l (l.length - 1) ≤ 40 := by
  rcases h with ⟨_, h, _⟩ | ⟨h1, h2, h⟩
  · cases h
  · rcases h with ⟨i, _, _, hne, h, _⟩ | ⟨hall, h⟩
    · exact absurd h.symm hne
    · rcases h with ⟨_, h, _⟩ | ⟨h3, ⟨_, h, _⟩ | ⟨h4, _, _⟩⟩
      · cases h
      · cases h
      · exact ⟨h1, h2, hall, h3, h4⟩
/-- what is declared at the top, in memory -/
structure UOk (l : List Nd) (N : Nat) (w : World) (E : Env) (U m : Nat) : Prop where
  lo : N ≤ m
  blk : Blk w U 58 #[.pointer none, .map (some m)]
  map : ∃ n, n ≤ E.length ∧ MapIs w m n (roomF l E 0)
  env : ∀ x ∈ E, x.1 < l.length ∧ x.2 < 1
theorem UOk.below {l : List Nd} {N U m : Nat} {w w' : World} {E : Env} (h : UOk l N w E U m) (hb : Below w.heap.size w w') : UOk l N w' E U m := by
  obtain ⟨n, h1, h2⟩ := h.map
  exact ⟨h.lo, h.blk.below hb h.blk.lt, ⟨n, h1, h2.same (hb.block _ h2.lt)⟩, h.env⟩
theorem UOk.set {l : List Nd} {N U m B : Nat} {w : World} {E : Env} {cs : Array Value} {t : TypeId} (h : UOk l N w E U m) (hB : Blk w B t cs) (ht : 58 ≠ t) (k : Nat) (v : Value) : UOk l N (w.setCell ⟨B, k, none⟩ v) E U m := by
  obtain ⟨n, h1, h2⟩ := h.map
  exact ⟨h.lo, h.blk.far (p := ⟨B, k, none⟩) (fun e => ht (by have := h.blk; rw [e] at this; exact Blk.type this hB)) v, ⟨n, h1, h2.same (Below.heap_setCell w ⟨B, k, none⟩ v _ (fun e => by have e2 : m = B := e; subst e2; exact h2.not_blk hB))⟩, h.env⟩
theorem us_ok {l : List Nd} {w : World} {E : Env} {W : Wr} {e : Ending} {w' : World} (h : UsPost l w (.ok E W) e w') : ∃ U m, e = .returned (.tuple #[.pointer (some ⟨U, 0, none⟩), .agg #[.int .i64 0, .int .i64 0]]) ∧ Below w.heap.size w w' ∧ UOk l w.heap.size w' E U m := by
  obtain ⟨U, m, n, h1, h2, h3, h4, h5, h6, h7⟩ := h
  exact ⟨U, m, h1, h2, h3, h4, ⟨n, h5, h6⟩, h7⟩
theorem UOk.mono {l : List Nd} {N N' U m : Nat} {w : World} {E : Env} (h : UOk l N w E U m) (hN : N' ≤ N) : UOk l N' w E U m := ⟨Nat.le_trans hN h.lo, h.blk, h.map, h.env⟩
/-- the search begins -/
theorem sm_start {l : List Nd} {w w8 : World} {p : Option Addr} {cap R F U m : Nat} {E : Env} (hT : Tr w p l) (hb : Below w.heap.size w w8) (hF : w.heap.size ≤ F) (hu : UOk l w.heap.size w8 E U m)
    (hR : Blk w8 R 40 #[.slice p l.length cap, .pointer (some ⟨U, 0, none⟩), .slice (some ⟨F, 0, none⟩) l.length l.length]) (hFB : Blk w8 F 3 (intA (List.replicate l.length (-1)))) :
    Sm w w8 l p cap R F [(U, m)] E (List.replicate l.length (-1)) where
  tr0 := hT
  bel := hb
  old := ⟨hF, fun r hr => by have e : r = 0 := by simpa using hr
                             subst e; exact hu.lo⟩
  res := hR
  fnd := hFB
  len := by simp
  one := fun r hr => by have e : r = 0 := by simpa using hr
                        subst e; exact hu.blk
  map := fun r hr => by have e : r = 0 := by simpa using hr
                        subst e; exact hu.map
  sep := fun r r' h h' => by simp at h'; omega
  env := fun x hx => by have := hu.env x hx; exact this
theorem nolib_start (l : List Nd) : NoLib l (List.replicate l.length (-1)) := fun k _ _ hk => by simp [hk]
theorem undrew {B : Nat} {w w' : World} (h : Below B w.drew w') : Below B w w' := ⟨h.os, h.tape, h.output, h.size, h.block⟩
theorem past_new {w w' : World} {o : Obj} (h : Below (w.alloc o).drew.heap.size (w.alloc o).drew w') : Below (w.alloc o).heap.size (w.alloc o) w' := undrew h
theorem past_old {w w' : World} {o : Obj} (h : Below (w.alloc o).drew.heap.size (w.alloc o).drew w') : Below w.heap.size w w' :=
  ((Below.refl w.heap.size w).alloc (Nat.le_refl _) o).trans ((past_new h).mono (by simp))
theorem tops_code (l : List Nd) : ∀ (c : List Int) (E : Env) (a b : Int), tops l c E = .bad a b → a = 12 ∨ a = 7 := by
  intro c
  induction c with
  | nil => intro E a b h; cases h
  | cons x c ih =>
    intro E a b h
    simp only [tops] at h
    split at h
    · cases h; exact Or.inl rfl
    · unfold declF at h
      split at h
      · cases h; exact Or.inr rfl
      · change (tops l c _).pre _ = _ at h
        cases h2 : tops l c (E ++ [(x.toNat, 0)]) with
        | out => rw [h2] at h; cases h
        | ok a b => rw [h2] at h; cases h
        | bad a b => rw [h2] at h; cases h; exact ih _ _ _ h2
theorem tops_len (l : List Nd) : ∀ (c : List Int) (E E' : Env) (W : Wr), tops l c E = .ok E' W → E'.length = E.length + c.length := by
  intro c
  induction c with
  | nil => intro E E' W h; cases h; rfl
  | cons x c ih =>
    intro E E' W h
    simp only [tops] at h
    split at h
    · cases h
    · unfold declF at h
      split at h
      · cases h
      · change (tops l c _).pre _ = _ at h
        obtain ⟨W2, h2, _⟩ := pre_ok h
        have := ih _ _ _ h2
        simp at this ⊢
        omega
theorem tops_out (l : List Nd) : ∀ (c : List Int) (E : Env), tops l c E ≠ .out := by
  intro c
  induction c with
  | nil => intro E h; cases h
  | cons x c ih =>
    intro E
    simp only [tops]
    split
    · intro h; cases h
    · unfold declF
      split
      · intro h; cases h
      · show (tops l c _).pre _ ≠ _
        have := ih (E ++ [(x.toNat, 0)])
        cases h2 : tops l c (E ++ [(x.toNat, 0)]) with
        | out => exact absurd h2 this
        | ok a b => intro h; cases h
        | bad a b => intro h; cases h
set_option maxHeartbeats 8000000 in
set_option maxRecDepth 100000 in
theorem names_any (l : List Nd) (p : Option Addr) (cap : Nat) (w : World) (hT : Tr w p l) (hf : Fit l cap) : Calls Try.prog 4 #[.agg #[.slice p l.length cap]] w (NmPost l w) := by
  have h1 : Below w.heap.size w ((w.alloc (.cells #[.slice p l.length cap] 24)).alloc (.cells #[.int .i64 0, .int .i64 0] 27)) := ((Below.refl _ _).alloc (Nat.le_refl _) _).alloc (by simp) _
  have hck := check_any l p cap ((w.alloc (.cells #[.slice p l.length cap] 24)).alloc (.cells #[.int .i64 0, .int .i64 0] 27)) (hT.below h1) hf
  have H1 := Lib.hid h1
  have HT := Lib.hid hT
  obtain ⟨Q, hQ⟩ : ∃ Q : Ending → World → Prop, Q = NmPost l w := ⟨_, rfl⟩
  have HQ := Lib.hid hQ
  rw [← hQ]
  have hlb := hf.2.1
  obtain ⟨n, hn⟩ : ∃ n, n = l.length := ⟨_, rfl⟩
  rw [← hn] at hck hlb ⊢
  have HN := Lib.hid hn
  have HB1 := Lib.hid ((Blk.new w 24 #[.slice p n cap]).alloc (.cells #[.int .i64 0, .int .i64 0] 27))
  have HB3 := Lib.hid (show Blk ((w.alloc (.cells #[.slice p n cap] 24)).alloc (.cells #[.int .i64 0, .int .i64 0] 27)) (w.heap.size + 1) 27 #[.int .i64 0, .int .i64 0] by have := Blk.new (w.alloc (.cells #[.slice p n cap] 24)) 27 #[.int .i64 0, .int .i64 0]; rw [World.size_alloc] at this; exact this)
  rw [← hn] at H1
  clear hQ h1 hT hf hn
  go_enter Try.func4, Try.ntmps4
  go_wp2_with (go_at_call 7; refine hck.mono ?_)
  intro e w3 hp
  obtain ⟨hb3, c, a, rfl, hr⟩ := hp
  have HR := Lib.hid hr
  have HBel := Lib.hid (H1.out.trans (hb3.mono (by simp; omega)))
  have hX1 := HB1.out.below hb3 (by simp; omega)
  have hX3 := HB3.out.below hb3 (by simp)
  have x1 : w3.cell? ⟨w.heap.size, 0, none⟩ = some (.slice p n cap) := by rw [hX1.cell]; rfl
  have y0 : w3.cell? ⟨w.heap.size + 1, 0, none⟩ = some (.int .i64 0) := by rw [hX3.cell]; rfl
  have y1 : w3.cell? ⟨w.heap.size + 1, 1, none⟩ = some (.int .i64 0) := by rw [hX3.cell]; rfl
  have g0 := hX3.frozen 0
  have g1 := hX3.frozen 1
  have lX := hX3.lt
  have lX0 : w.heap.size < w3.heap.size := Nat.lt_of_succ_lt lX
  have HX1 := Lib.hid hX1
  have HX3 := Lib.hid hX3
  clear hb3 hr hck hX1 hX3
  by_cases hc : c = 0
  · subst hc
    obtain ⟨hl1, hl6, hC, hS, _⟩ := ckr_zero HR.out
    obtain ⟨root, hroot⟩ : ∃ root, n = root + 1 := ⟨n - 1, by have := HN.out; omega⟩
    have hrn : root < n := by omega
    have hn6 : n ≤ 600 := by have := HN.out; omega
    have n4 : (n : Int) - 1 = (root : Int) := by omega
    have n5 : (0 : Int) ≤ (root : Int) := by omega
    have n6 : (root : Int) < (n : Int) := by omega
    have hrl : root < l.length := by have := HN.out; omega
    have hlast : l.length - 1 = root := by have := HN.out; omega
    clear hroot
    have HQ2 : Hid (∀ e w', NmIs l w (namesF l) e w' → Q e w') := fun e w' h => by rw [HQ.out]; exact ⟨0, a, HR.out, Or.inr ⟨rfl, h⟩⟩
    obtain ⟨b, o, rfl, hb, hN⟩ := HT.out.1 (by omega)
    obtain ⟨c0, c1, c2, c3, c4, c5⟩ := (hN root hrl).below HBel.out hb
    have hkk := kindAt_get hrl
    have hcc := kidsAt_get hrl
    rw [← hkk] at c0
    rw [← hcc] at c4
    obtain ⟨kd, hkd⟩ : ∃ kd, kd = kindAt l root := ⟨_, rfl⟩
    rw [← hkd] at c0
    have hbb : b < w3.heap.size := Nat.lt_of_lt_of_le hb HBel.out.size
    have HNF : Hid (namesF l = if kd ≠ 1 then .bad 11 0 else match tops l (kidsAt l root) [] with
      | .ok E _ => finF l (look l l.length 0 root E)
      | .bad c a => .bad c a
      | .out => .bad 0 0) := by unfold namesF; rw [hlast, ← hkd]; rfl
    obtain ⟨kp, hkp⟩ : ∃ kp, kp = l[root].p := ⟨_, rfl⟩
    obtain ⟨kc, hkc⟩ : ∃ kc, kc = l[root].cap := ⟨_, rfl⟩
    obtain ⟨kn, hkn⟩ : ∃ kn, kn = (kidsAt l root).length := ⟨_, rfl⟩
    rw [← hkp, ← hkc, ← hkn] at c4
    have HU := Lib.hid fun (hk1 : kindAt l root = 1) (W : World) (hW : Tr W (some ⟨b, o, none⟩) l) => unitScope_any (cap := cap) hW hC hl6 hrl hk1
    rw [← hkp, ← hkc, ← hkn, ← HN.out] at HU
    clear c1 c2 c3 c5 hkk hcc hkp hkc hkn
    obtain ⟨w4, hw4⟩ : ∃ w4, w4 = w3.alloc (.cells #[.int .i64 0, .int .i64 a] 27) := ⟨_, rfl⟩
    have hb34 : Below w3.heap.size w3 w4 := by rw [hw4]; exact (Below.refl _ _).alloc (Nat.le_refl _) _
    have hb4 : Below w.heap.size w w4 := HBel.out.trans (hb34.mono HBel.out.size)
    by_cases hk1 : kd = 1
    · have HK1 := Lib.hid (show kindAt l root = 1 by rw [← hkd]; exact hk1)
      have lX4 : w.heap.size + 1 < w4.heap.size := Nat.lt_of_lt_of_le lX hb34.size
      have hbb4 : b < w4.heap.size := Nat.lt_of_lt_of_le hbb hb34.size
      have S0 : Hid (w4.cell? ⟨w.heap.size, 0, none⟩ = some (.slice (some ⟨b, o, none⟩) n cap) ∧ w4.cell? ⟨b, o + root * 6 + 4, none⟩ = some (.slice kp kn kc)) :=
        ⟨(hb34.cell (p := ⟨w.heap.size, 0, none⟩) (Nat.lt_of_succ_lt lX)).trans x1, (hb34.cell (p := ⟨b, o + root * 6 + 4, none⟩) hbb).trans c4⟩
      have S1 : Hid (∀ W, Below w4.heap.size w4 W → W.cell? ⟨w.heap.size, 0, none⟩ = some (.slice (some ⟨b, o, none⟩) n cap) ∧ W.cell? ⟨b, o + root * 6 + 4, none⟩ = some (.slice kp kn kc)) := fun W hW =>
        ⟨(hW.cell (p := ⟨w.heap.size, 0, none⟩) (Nat.lt_of_succ_lt lX4)).trans S0.out.1, (hW.cell (p := ⟨b, o + root * 6 + 4, none⟩) hbb4).trans S0.out.2⟩
      have HT4 := Lib.hid (HT.out.below hb4)
      have HX34 := Lib.hid (HX3.out.below hb34 lX)
      have HTA : Hid (Tr (w4.alloc (.cells #[.int .i64 0, .int .i64 0] 27)).drew (some ⟨b, o, none⟩) l) := HT4.out.below ((Below.refl w4.heap.size w4).alloc (Nat.le_refl _) _).drew
      have HBA := Lib.hid (Blk.new w4 27 #[.int .i64 0, .int .i64 0])
      subst hk1
      have HW4 := Lib.hid hw4
      have nX : w.heap.size + 1 ≠ w4.heap.size := by omega
      cases htot : tops l (kidsAt l root) [] with
      | out => exact absurd htot (tops_out l _ _)
      | bad c1 a1 =>
        have HUB := HU.out HK1.out w4.drew HT4.out
        have HUA := HU.out HK1.out _ HTA.out
        rw [htot] at HUB HUA
        have HB : Hid (Calls Try.prog 8 #[.slice (some ⟨b, o, none⟩) n cap, .slice kp kn kc] w4.drew fun e w5 => e = .returned (.tuple #[.pointer none, .agg #[.int .i64 c1, .int .i64 a1]]) ∧ Below w4.heap.size w4 w5) :=
          HUB.mono fun e w5 h => ⟨h.1, undrew h.2.1⟩
        have HA : Hid (Calls Try.prog 8 #[.slice (some ⟨b, o, none⟩) n cap, .slice kp kn kc] (w4.alloc (.cells #[.int .i64 0, .int .i64 0] 27)).drew fun e w5 => e = .returned (.tuple #[.pointer none, .agg #[.int .i64 c1, .int .i64 a1]]) ∧ Below w4.heap.size w4 w5 ∧ Blk w5 w4.heap.size 27 #[.int .i64 0, .int .i64 0]) :=
          HUA.mono fun e w5 h => ⟨h.1, past_old h.2.1, HBA.out.below (past_new h.2.1) (by simp)⟩
        have hc1 : c1 = 7 ∨ c1 = 12 := (tops_code l _ _ _ _ htot).symm
        have HNF2 := Lib.hid (show namesF l = .bad c1 a1 by rw [HNF.out, if_neg (by simp), htot])
        have HB4 := Lib.hid hb4
        clear hb34 hw4 hb4 HU htot hN hb hC hkd hrl hlast hl1 hl6 hS HR HUA HUB
        go_wp2
        rw [← HW4.out]
        clear c4 c0 y0 y1 x1 hbb HW4
        go_region_held3 (fun W => W.cell? ⟨w.heap.size, 0, none⟩ = some (.slice (some ⟨b, o, none⟩) n cap) ∧ W.cell? ⟨b, o + root * 6 + 4, none⟩ = some (.slice kp kn kc))
          (first | exact S0.out | exact S1.out _ ((Below.refl w4.heap.size w4).alloc (Nat.le_refl _) _).drew | exact S1.out _ hb5 | exact S1.out _ (hb5.alloc hb5.size _) | exact S1.out _ ((hb5.setCell (p := ⟨w4.heap.size, 0, none⟩) (Nat.le_refl _) _).setCell (p := ⟨w4.heap.size, 1, none⟩) (Nat.le_refl _) _))
          (first | (go_at_call 8; (with_reducible refine HB.out.mono ?_); rintro e w5 ⟨rfl, hb5⟩) | (go_at_call 8; (with_reducible refine HA.out.mono ?_); rintro e w5 ⟨rfl, hb5, hk5⟩; have k0 : w5.cell? ⟨w4.heap.size, 0, none⟩ = some (.int .i64 0) := (by rw [hk5.cell]; rfl); have k1 : w5.cell? ⟨w4.heap.size, 1, none⟩ = some (.int .i64 0) := (by rw [hk5.cell]; rfl); have f0 := hk5.frozen 0; have f1 := hk5.frozen 1; have lk := hk5.lt))
        all_goals
          first
            | (obtain ⟨w6, hw6⟩ : ∃ w6, w6 = w5.alloc (.cells #[.int .i64 c1, .int .i64 a1] 27) := ⟨_, rfl⟩
               rw [← hw6]
               have hK : Blk w6 w5.heap.size 27 #[.int .i64 c1, .int .i64 a1] := by rw [hw6]; exact Blk.new _ _ _
               have hb6 : Below w4.heap.size w4 w6 := by rw [hw6]; exact hb5.alloc hb5.size _
               have hfb : w4.heap.size ≤ w5.heap.size := hb5.size
               clear hw6 hb5
               generalize w5.heap.size = fb at *)
            | (obtain ⟨w6, hw6⟩ : ∃ w6, w6 = (w5.setCell ⟨w4.heap.size, 0, none⟩ (.int .i64 c1)).setCell ⟨w4.heap.size, 1, none⟩ (.int .i64 a1) := ⟨_, rfl⟩
               rw [← hw6]
               have hK : Blk w6 w4.heap.size 27 #[.int .i64 c1, .int .i64 a1] := by rw [hw6]; exact set2 hk5 _ _
               have hb6 : Below w4.heap.size w4 w6 := by rw [hw6]; exact (hb5.setCell (p := ⟨w4.heap.size, 0, none⟩) (Nat.le_refl _) _).setCell (p := ⟨w4.heap.size, 1, none⟩) (Nat.le_refl _) _
               have hfb : w4.heap.size ≤ w4.heap.size := Nat.le_refl _
               clear hw6 hb5 hk5
               obtain ⟨fb, hfb2⟩ : ∃ fb, fb = w4.heap.size := ⟨_, rfl⟩
               rw [← hfb2] at hK hfb ⊢
               clear hfb2)
          have hX6 := HX34.out.below hb6 lX4
          have kf0 : w6.cell? ⟨fb, 0, none⟩ = some (.int .i64 c1) := by rw [hK.cell]; rfl
          have kf1 : w6.cell? ⟨fb, 1, none⟩ = some (.int .i64 a1) := by rw [hK.cell]; rfl
          have y0 : w6.cell? ⟨w.heap.size + 1, 0, none⟩ = some (.int .i64 0) := by rw [hX6.cell]; rfl
          have y1 : w6.cell? ⟨w.heap.size + 1, 1, none⟩ = some (.int .i64 0) := by rw [hX6.cell]; rfl
          have q0 := hX6.frozen 0
          have q1 := hX6.frozen 1
          have lX6 := hX6.lt
          have lfb := hK.lt
          have hz := set2 hX6 (.int .i64 c1) (.int .i64 a1)
          have Z0 := Lib.hid (hz.cell 0)
          have Z1 := Lib.hid (hz.cell 1)
          have HB6 := Lib.hid hb6
          clear hz hX6 hK hb6 g0 g1 HA HB S0 S1
          rcases hc1 with rfl | rfl
          all_goals
            go_wp2
            go_region
            all_goals
              go_wp2
              have z0 := Z0.out
              have z1 := Z1.out
              refine bodyPost_ret (v := .tuple #[.slice none 0 0, .agg #[_, .int .i64 a1]]) (by simp [results, Try.results4, go_sem, z0, z1]; rfl) rfl ?_
              refine HQ2.out _ _ ?_
              rw [HNF2.out]
              exact ⟨rfl, (((HB4.out.trans (HB6.out.mono HB4.out.size)).setCell (p := ⟨w.heap.size + 1, 0, none⟩) (by simp) _).setCell (p := ⟨w.heap.size + 1, 1, none⟩) (by simp) _).drew⟩
      | ok E W =>
        have HUB := HU.out HK1.out w4.drew HT4.out
        have HUA := HU.out HK1.out _ HTA.out
        rw [htot] at HUB HUA
        have HB : Hid (Calls Try.prog 8 #[.slice (some ⟨b, o, none⟩) n cap, .slice kp kn kc] w4.drew fun e w5 => ∃ U m, e = .returned (.tuple #[.pointer (some ⟨U, 0, none⟩), .agg #[.int .i64 0, .int .i64 0]]) ∧ Below w4.heap.size w4 w5 ∧ Hid (UOk l w.heap.size w5 E U m)) :=
          HUB.mono fun e w5 h => by
            obtain ⟨U, m, h1, h2, h3⟩ := us_ok h
            exact ⟨U, m, h1, undrew h2, h3.mono hb4.size⟩
        have HA : Hid (Calls Try.prog 8 #[.slice (some ⟨b, o, none⟩) n cap, .slice kp kn kc] (w4.alloc (.cells #[.int .i64 0, .int .i64 0] 27)).drew fun e w5 => ∃ U m, e = .returned (.tuple #[.pointer (some ⟨U, 0, none⟩), .agg #[.int .i64 0, .int .i64 0]]) ∧ Below w4.heap.size w4 w5 ∧ Blk w5 w4.heap.size 27 #[.int .i64 0, .int .i64 0] ∧ Hid (UOk l w.heap.size w5 E U m)) :=
          HUA.mono fun e w5 h => by
            obtain ⟨U, m, h1, h2, h3⟩ := us_ok h
            exact ⟨U, m, h1, past_old h2, HBA.out.below (past_new h2) (by simp), h3.mono (by have := hb4.size; show w.heap.size ≤ (w4.alloc _).heap.size; simp; omega)⟩
        have HNF2 := Lib.hid (show namesF l = finF l (look l l.length 0 root E) by rw [HNF.out, if_neg (by simp), htot])
        have HB4 := Lib.hid hb4
        have HC := Lib.hid hC
        have HHL := Lib.hid hl6
        have HRL := Lib.hid hrl
        have HEl : Hid (E.length ≤ 1000) := by
          have := tops_len l (kidsAt l root) [] E W htot
          have h2 := (code_kids hrl (hC root hrl)).1
          rw [kidsAt_get hrl] at this
          simp at this
          show E.length ≤ 1000
          omega
        clear hb34 hw4 hb4 HU htot hN hb hC hkd hrl hlast hl1 hl6 hS HR HUA HUB
        go_wp2
        rw [← HW4.out]
        clear c4 c0 y0 y1 x1 hbb HW4
        go_region_held3 (fun W => W.cell? ⟨w.heap.size, 0, none⟩ = some (.slice (some ⟨b, o, none⟩) n cap) ∧ W.cell? ⟨b, o + root * 6 + 4, none⟩ = some (.slice kp kn kc))
          (first | exact S0.out | exact S1.out _ ((Below.refl w4.heap.size w4).alloc (Nat.le_refl _) _).drew | exact S1.out _ hb5 | exact S1.out _ (hb5.alloc hb5.size _) | exact S1.out _ ((hb5.setCell (p := ⟨w4.heap.size, 0, none⟩) (Nat.le_refl _) _).setCell (p := ⟨w4.heap.size, 1, none⟩) (Nat.le_refl _) _))
          (first | (go_at_call 8; (with_reducible refine HB.out.mono ?_); rintro e w5 ⟨U, m, rfl, hb5, hu5⟩) | (go_at_call 8; (with_reducible refine HA.out.mono ?_); rintro e w5 ⟨U, m, rfl, hb5, hk5, hu5⟩; have k0 : w5.cell? ⟨w4.heap.size, 0, none⟩ = some (.int .i64 0) := (by rw [hk5.cell]; rfl); have k1 : w5.cell? ⟨w4.heap.size, 1, none⟩ = some (.int .i64 0) := (by rw [hk5.cell]; rfl); have f0 := hk5.frozen 0; have f1 := hk5.frozen 1; have lk := hk5.lt))
        all_goals
          first
            | (obtain ⟨w6, hw6⟩ : ∃ w6, w6 = w5.alloc (.cells #[.int .i64 0, .int .i64 0] 27) := ⟨_, rfl⟩
               rw [← hw6]
               have hK : Blk w6 w5.heap.size 27 #[.int .i64 0, .int .i64 0] := by rw [hw6]; exact Blk.new _ _ _
               have hb6 : Below w4.heap.size w4 w6 := by rw [hw6]; exact hb5.alloc hb5.size _
               have hu6 : UOk l w.heap.size w6 E U m := by rw [hw6]; exact hu5.out.below ((Below.refl _ _).alloc (Nat.le_refl _) _)
               clear hw6 hb5 hu5
               generalize w5.heap.size = fb at *)
            | (obtain ⟨w6, hw6⟩ : ∃ w6, w6 = (w5.setCell ⟨w4.heap.size, 0, none⟩ (.int .i64 0)).setCell ⟨w4.heap.size, 1, none⟩ (.int .i64 0) := ⟨_, rfl⟩
               rw [← hw6]
               have hK : Blk w6 w4.heap.size 27 #[.int .i64 0, .int .i64 0] := by rw [hw6]; exact set2 hk5 _ _
               have hb6 : Below w4.heap.size w4 w6 := by rw [hw6]; exact (hb5.setCell (p := ⟨w4.heap.size, 0, none⟩) (Nat.le_refl _) _).setCell (p := ⟨w4.heap.size, 1, none⟩) (Nat.le_refl _) _
               have hu6 : UOk l w.heap.size w6 E U m := by rw [hw6]; exact (hu5.out.set hk5 (by decide) 0 _).set (hk5.set_ 0 _) (by decide) 1 _
               clear hw6 hb5 hk5 hu5 k0 k1 f0 f1 lk
               obtain ⟨fb, hfb2⟩ : ∃ fb, fb = w4.heap.size := ⟨_, rfl⟩
               rw [← hfb2] at hK ⊢
               clear hfb2)
          have hX6 := HX34.out.below hb6 lX4
          have kf0 : w6.cell? ⟨fb, 0, none⟩ = some (.int .i64 0) := by rw [hK.cell]; rfl
          have kf1 : w6.cell? ⟨fb, 1, none⟩ = some (.int .i64 0) := by rw [hK.cell]; rfl
          have S6 : Hid (w6.cell? ⟨w.heap.size, 0, none⟩ = some (.slice (some ⟨b, o, none⟩) n cap)) := (S1.out _ hb6).1
          have lX6 := hX6.lt
          have lfb := hK.lt
          have HX6 := Lib.hid hX6
          have HU6 := Lib.hid hu6
          have HB46 := Lib.hid (HB4.out.trans (hb6.mono HB4.out.size))
          have S7 : Hid (∀ W, Below w6.heap.size w6 W → W.cell? ⟨w.heap.size, 0, none⟩ = some (.slice (some ⟨b, o, none⟩) n cap)) := fun W hW => (hW.cell (p := ⟨w.heap.size, 0, none⟩) (Nat.lt_of_succ_lt lX6)).trans S6.out
          have hno := nothing_any n hn6
          have HNB : Hid (Calls Try.prog 9 #[.int .i64 n] w6.drew fun e w7 => ∃ F, e = .returned (.slice (some ⟨F, 0, none⟩) n n) ∧ Below w6.heap.size w6 w7 ∧ Hid (w6.heap.size ≤ F ∧ Blk w7 F 3 (intA (List.replicate n (-1))))) :=
            (hno w6.drew).mono fun e w7 h => ⟨w6.heap.size, h.1, undrew h.2.1, Nat.le_refl _, h.2.2⟩
          have HNA : Hid (Calls Try.prog 9 #[.int .i64 n] (w6.alloc (.cells #[.slice none 0 0, .pointer none, .slice none 0 0] 40)).drew fun e w7 => ∃ F, e = .returned (.slice (some ⟨F, 0, none⟩) n n) ∧ Below w6.heap.size w6 w7 ∧ Blk w7 w6.heap.size 40 #[.slice none 0 0, .pointer none, .slice none 0 0] ∧ Hid (w6.heap.size ≤ F ∧ Blk w7 F 3 (intA (List.replicate n (-1))))) :=
            (hno _).mono fun e w7 h => ⟨_, h.1, past_old h.2.1, (Blk.new w6 _ _).below (past_new h.2.1) (by simp), by show w6.heap.size ≤ (w6.alloc _).heap.size; simp, h.2.2⟩
          clear hX6 hK hb6 hu6 g0 g1 HA HB S0 S1 hno nX
          go_wp2
          go_region_held3 (fun W => W.cell? ⟨w.heap.size, 0, none⟩ = some (.slice (some ⟨b, o, none⟩) n cap))
            (first | exact S6.out | exact S7.out _ ((Below.refl w6.heap.size w6).alloc (Nat.le_refl _) _).drew | exact S7.out _ hb7 | exact S7.out _ (hb7.alloc hb7.size _) | exact S7.out _ (((hb7.setCell (p := ⟨w6.heap.size, 0, none⟩) (Nat.le_refl _) _).setCell (p := ⟨w6.heap.size, 1, none⟩) (Nat.le_refl _) _).setCell (p := ⟨w6.heap.size, 2, none⟩) (Nat.le_refl _) _))
            (first | (go_at_call 9; (with_reducible refine HNB.out.mono ?_); rintro e w7 ⟨F, rfl, hb7, hF7⟩) | (go_at_call 9; (with_reducible refine HNA.out.mono ?_); rintro e w7 ⟨F, rfl, hb7, hk7, hF7⟩; have k0 : w7.cell? ⟨w6.heap.size, 0, none⟩ = some (.slice none 0 0) := (by rw [hk7.cell]; rfl); have k1 : w7.cell? ⟨w6.heap.size, 1, none⟩ = some (.pointer none) := (by rw [hk7.cell]; rfl); have k2 : w7.cell? ⟨w6.heap.size, 2, none⟩ = some (.slice none 0 0) := (by rw [hk7.cell]; rfl); have f0 := hk7.frozen 0; have f1 := hk7.frozen 1; have f2 := hk7.frozen 2; have lk := hk7.lt))
          all_goals
            first
              | (obtain ⟨w8, hw8⟩ : ∃ w8, w8 = w7.alloc (.cells #[.slice (some ⟨b, o, none⟩) n cap, .pointer (some ⟨U, 0, none⟩), .slice (some ⟨F, 0, none⟩) n n] 40) := ⟨_, rfl⟩
                 rw [← hw8]
                 have hR8 : Blk w8 w7.heap.size 40 #[.slice (some ⟨b, o, none⟩) n cap, .pointer (some ⟨U, 0, none⟩), .slice (some ⟨F, 0, none⟩) n n] := by rw [hw8]; exact Blk.new _ _ _
                 have hb8 : Below w6.heap.size w6 w8 := by rw [hw8]; exact hb7.alloc hb7.size _
                 have hF8 : Blk w8 F 3 (intA (List.replicate n (-1))) := by rw [hw8]; exact hF7.out.2.alloc _
                 have hF9 := hF7.out.1
                 clear hw8 hb7 hF7
                 generalize w7.heap.size = R at *)
              | (obtain ⟨w8, hw8⟩ : ∃ w8, w8 = ((w7.setCell ⟨w6.heap.size, 0, none⟩ (.slice (some ⟨b, o, none⟩) n cap)).setCell ⟨w6.heap.size, 1, none⟩ (.pointer (some ⟨U, 0, none⟩))).setCell ⟨w6.heap.size, 2, none⟩ (.slice (some ⟨F, 0, none⟩) n n) := ⟨_, rfl⟩
                 rw [← hw8]
                 have hR8 : Blk w8 w6.heap.size 40 #[.slice (some ⟨b, o, none⟩) n cap, .pointer (some ⟨U, 0, none⟩), .slice (some ⟨F, 0, none⟩) n n] := by
                   rw [hw8]
                   have := ((hk7.set_ 0 (.slice (some ⟨b, o, none⟩) n cap)).set_ 1 (.pointer (some ⟨U, 0, none⟩))).set_ 2 (.slice (some ⟨F, 0, none⟩) n n)
                   simpa using this
                 have hb8 : Below w6.heap.size w6 w8 := by rw [hw8]; exact ((hb7.setCell (p := ⟨w6.heap.size, 0, none⟩) (Nat.le_refl _) _).setCell (p := ⟨w6.heap.size, 1, none⟩) (Nat.le_refl _) _).setCell (p := ⟨w6.heap.size, 2, none⟩) (Nat.le_refl _) _
                 have hF8 : Blk w8 F 3 (intA (List.replicate n (-1))) := by
                   have nn : F ≠ w6.heap.size := fun e => by have h1 := hF7.out.2; rw [e] at h1; exact absurd (Blk.type h1 hk7) (by decide)
                   rw [hw8]; exact ((hF7.out.2.far (p := ⟨w6.heap.size, 0, none⟩) nn _).far (p := ⟨w6.heap.size, 1, none⟩) nn _).far (p := ⟨w6.heap.size, 2, none⟩) nn _
                 have hF9 := hF7.out.1
                 clear hw8 hb7 hF7 hk7 k0 k1 k2 f0 f1 f2 lk
                 obtain ⟨R, hR2⟩ : ∃ R, R = w6.heap.size := ⟨_, rfl⟩
                 rw [← hR2] at hR8 ⊢
                 clear hR2)
            have hbw8 : Below w.heap.size w w8 := HB46.out.trans (hb8.mono HB46.out.size)
            have hFw : w.heap.size ≤ F := Nat.le_trans HB46.out.size hF9
            have hsm : Sm w w8 l (some ⟨b, o, none⟩) cap R F [(U, m)] E (List.replicate l.length (-1)) :=
              sm_start HT.out hbw8 hFw (HU6.out.below hb8) (by rw [← HN.out]; exact hR8) (by rw [← HN.out]; exact hF8)
            have hv := visit_all (w0 := w) (p := some ⟨b, o, none⟩) (cap := cap) (R := R) (F := F) HC.out HHL.out l.length w8 [(U, m)] E _ 0 root U m E.length hsm rfl rfl HRL.out HRL.out (by have := HHL.out; omega) (by omega) (by have h1 := HEl.out; have h2 := HRL.out; have h3 := HHL.out; omega) (nolib_start l)
            have hfine := fine_look HC.out l.length 0 root E.length E HRL.out HRL.out (by omega)
            have hX8 := HX6.out.below hb8 lX6
            have hm1 : w.heap.size + 1 ≠ m := fun e => by
              obtain ⟨nn, _, hM⟩ := HU6.out.map
              rw [← e] at hM; exact hM.not_blk HX6.out
            have hF1 : w.heap.size + 1 ≠ F := fun e => by have h1 := hF8; rw [← e] at h1; exact absurd (Blk.type h1 hX8) (by decide)
            have HX8 := Lib.hid hX8
            have HBW8 := Lib.hid hbw8
            have lX8 := hX8.lt
            have hmw : w.heap.size ≤ m := HU6.out.lo
            have lR8 := hR8.lt
            clear hX8 hbw8 hsm hR8 hF8 hF9 hb8 HX6 HU6 HB46 S6 S7 HNA HNB HX34 kf0 kf1 lfb lX6
            have hlRF : R < w8.heap.size := lR8
            go_wp2_with (go_at_call 10; refine hv.mono ?_)
            intro e w9 hd
            cases hr : look l l.length 0 root E with
            | out => rw [hr] at hfine; exact hfine.elim
            | bad c1 a1 =>
              rw [hr] at hd hfine
              obtain ⟨rfl, hc9⟩ := hd
              have HNF3 := Lib.hid (show namesF l = .bad c1 a1 by rw [HNF2.out, hr]; rfl)
              have hB9 := hc9.blk HX8.out hF1 hm1
              have y0 : w9.cell? ⟨w.heap.size + 1, 0, none⟩ = some (.int .i64 0) := by rw [hB9.cell]; rfl
              have y1 : w9.cell? ⟨w.heap.size + 1, 1, none⟩ = some (.int .i64 0) := by rw [hB9.cell]; rfl
              have q0 := hB9.frozen 0
              have q1 := hB9.frozen 1
              have lX9 := hB9.lt
              have hz := (set2 hB9 (.int .i64 c1) (.int .i64 a1)).alloc (.cells #[.int .i64 c1, .int .i64 a1] 27)
              have Z0 := Lib.hid (hz.cell 0)
              have Z1 := Lib.hid (hz.cell 1)
              have HB9 := Lib.hid (HBW8.out.trans (hc9.to_below HBW8.out.size hFw hmw))
              clear hz hB9 hc9 hr hv HC
              rcases hfine with rfl | rfl
              all_goals
                go_wp2
                go_region
                all_goals
                  go_wp2
                  have z0 := Z0.out
                  have z1 := Z1.out
                  refine bodyPost_ret (v := .tuple #[.slice none 0 0, .agg #[_, .int .i64 a1]]) (by simp [results, Try.results4, go_sem, z0, z1]; rfl) rfl ?_
                  refine HQ2.out _ _ ?_
                  rw [HNF3.out]
                  exact ⟨rfl, (((HB9.out.setCell (p := ⟨w.heap.size + 1, 0, none⟩) (by simp) _).setCell (p := ⟨w.heap.size + 1, 1, none⟩) (by simp) _).alloc (by have := HB9.out.size; simp; omega) _).drew⟩
            | ok E2 W2 =>
              rw [hr] at hd
              obtain ⟨rfl, hc9, hs9⟩ := hd
              have HNF3 := Lib.hid (show namesF l = .ok (ov W2 (List.replicate l.length (-1))) by rw [HNF2.out, hr]; rfl)
              have hB9 := hc9.blk HX8.out hF1 hm1
              have y0 : w9.cell? ⟨w.heap.size + 1, 0, none⟩ = some (.int .i64 0) := by rw [hB9.cell]; rfl
              have y1 : w9.cell? ⟨w.heap.size + 1, 1, none⟩ = some (.int .i64 0) := by rw [hB9.cell]; rfl
              have q0 := hB9.frozen 0
              have q1 := hB9.frozen 1
              have lX9 := hB9.lt
              have r2 : w9.cell? ⟨R, 2, none⟩ = some (.slice (some ⟨F, 0, none⟩) n n) := by rw [hs9.res.cell, HN.out]; rfl
              have lR9 := hs9.res.lt
              have hz := (set2 hB9 (.int .i64 0) (.int .i64 0)).alloc (.cells #[.int .i64 0, .int .i64 0] 27)
              have Z0 := Lib.hid (hz.cell 0)
              have Z1 := Lib.hid (hz.cell 1)
              have HB9 := Lib.hid (HBW8.out.trans (hc9.to_below HBW8.out.size hFw hmw))
              have HF9 := Lib.hid (((hs9.fnd.far (p := ⟨w.heap.size + 1, 0, none⟩) (fun e => hF1 e.symm) (.int .i64 0)).far (p := ⟨w.heap.size + 1, 1, none⟩) (fun e => hF1 e.symm) (.int .i64 0)).alloc (.cells #[.int .i64 0, .int .i64 0] 27))
              have HL9 := Lib.hid hs9.len
              clear hz hB9 hc9 hs9 hr hv HC hfine
              go_wp2
              have z0 := Z0.out
              have z1 := Z1.out
              refine bodyPost_ret (v := .tuple #[.slice (some ⟨F, 0, none⟩) n n, .agg #[.int .i64 0, .int .i64 0]]) (by simp [results, Try.results4, go_sem, z0, z1]) rfl ?_
              refine HQ2.out _ _ ?_
              rw [HNF3.out]
              exact ⟨F, hFw, by rw [HN.out], ((HB9.out.setCell (p := ⟨w.heap.size + 1, 0, none⟩) (by simp) _).setCell (p := ⟨w.heap.size + 1, 1, none⟩) (by simp) _).alloc (by have := HB9.out.size; simp; omega) _, HF9.out, HL9.out⟩
    · have hk1' : (kd != 1) = true := by simpa using hk1
      have HNF2 := Lib.hid (HNF.out.trans (if_pos hk1))
      have hz := (set2 HX3.out (.int .i64 11) (.int .i64 0)).alloc (.cells #[.int .i64 0, .int .i64 a] 27)
      have Z0 := Lib.hid (hz.cell 0)
      have Z1 := Lib.hid (hz.cell 1)
      clear hz hk1 hN hkd hC hS hl1 hl6 HR hrl hlast hb hw4 hb34 hb4 HU
      go_wp2
      have z0 := Z0.out
      have z1 := Z1.out
      refine bodyPost_ret (v := .tuple #[.slice none 0 0, .agg #[.int .i64 11, .int .i64 0]]) (by simp [results, Try.results4, go_sem, z0, z1]) rfl ?_
      refine HQ2.out _ _ ?_
      rw [HNF2.out]
      exact ⟨rfl, ((HBel.out.setCell (p := ⟨w.heap.size + 1, 0, none⟩) (by simp) _).setCell (p := ⟨w.heap.size + 1, 1, none⟩) (by simp) _).alloc (by simp; have := HBel.out.size; omega) _⟩
  · have hc' : (c != 0) = true := by simpa using hc
    have HC := Lib.hid hc
    have hz := (set2 HX3.out (.int .i64 c) (.int .i64 a)).alloc (.cells #[.int .i64 c, .int .i64 a] 27)
    have Z0 := Lib.hid (hz.cell 0)
    have Z1 := Lib.hid (hz.cell 1)
    clear hc hz
    go_wp2
    go_region
    all_goals
      go_wp2
      have z0 := Z0.out
      have z1 := Z1.out
      refine bodyPost_ret (v := .tuple #[.slice none 0 0, .agg #[.int .i64 c, .int .i64 a]]) (by simp [results, Try.results4, go_sem, z0, z1]) rfl ?_
      rw [HQ.out]
      exact ⟨c, a, HR.out, Or.inl ⟨HC.out, rfl, (((HBel.out.setCell (p := ⟨w.heap.size + 1, 0, none⟩) (by simp) _).setCell (p := ⟨w.heap.size + 1, 1, none⟩) (by simp) _).alloc (by simp; have := HBel.out.size; omega) _).drew⟩⟩
end Go.Proofs.Ytmghjfphlneblaa.Sc
