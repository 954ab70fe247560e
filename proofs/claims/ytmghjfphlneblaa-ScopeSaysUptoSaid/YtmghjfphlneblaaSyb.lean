/-
  Contract of the document's Names.
-/
import Derived.Test.YtmghjfphlneblaaSya
import Derived.Test.YtmghjfphlneblaaSxf
import Derived.Test.YtmghjfphlneblaaTrT
namespace Go.Proofs.Ytmghjfphlneblaa.Sc
open Go.RowKit
open Tr

def RnIs (l : List Nd) (w : World) : Nm → Ending → World → Prop
  | .bad c a, e, w' => e = .returned (.tuple #[.slice none 0 0, .agg #[.int .i64 c, .int .i64 a]]) ∧ Below w.heap.size w w'
  | .ok fs, e, w' => ∃ O oc, e = .returned (.tuple #[.slice (some ⟨O, 0, none⟩) l.length oc, .agg #[.int .i64 0, .int .i64 0]]) ∧ Below w.heap.size w w' ∧ w'.ownsRow w.heap.size 3 1 (.slice (some ⟨O, 0, none⟩) l.length oc) l.length (intV fs)
def RnPost (l : List Nd) (w : World) (e : Ending) (w' : World) : Prop :=
  ∃ c a : Int, CkR l c a ∧ ((c ≠ 0 ∧ RnIs l w (.bad c a) e w') ∨ (c = 0 ∧ RnIs l w (namesF l) e w'))
/-- no box is a row of numbers -/
theorem own_no {w : World} {b0 n B : Nat} {v : Value} {xs : List Value} {t : TypeId} {cs : Array Value} (h : w.ownsRow b0 3 1 v n xs) (hB : Blk w B t cs) (ht : t ≠ 3) : v.ownBlock ≠ some B := by
  intro e
  rcases h.2 with ⟨rfl, _⟩ | ⟨g, cap, cur, rfl, h1, h2, _⟩
  · cases e
  · have e2 : g = B := by injection e
    subst e2
    exact ht (Blk.type hB h2)
theorem row_some {w : World} {b0 n : Nat} {v : Value} {xs : List Value} (h : w.ownsRow b0 3 1 v n xs) (h0 : 0 < n) : ∃ g cap, v = .slice (some ⟨g, 0, none⟩) n cap := by
  rcases h.2 with ⟨_, h⟩ | ⟨g, cap, cur, rfl, _⟩
  · omega
  · exact ⟨g, cap, rfl⟩
/-- how far the row of -1 has come -/
def RelN (w4 wr : World) (i : Nat) : Prop := ∃ sv, Blk wr w4.heap.size 44 #[.slice none 0 0, .slice none 0 0, .int .i64 0, .int .i64 0, .int .i64 0, sv] ∧ wr.ownsRow (w4.heap.size + 1) 3 1 sv i (intV (List.replicate i (-1))) ∧ Below w4.heap.size w4 wr
/-- how far the top has come -/
def RelT (l : List Nd) (w w4 wr : World) (p : Option Addr) (O oc : Nat) (kids : List Int) (tot : Rs) (j : Nat) : Prop :=
  ∃ E W ph pr kh kr, Blk wr w4.heap.size 44 #[.slice ph E.length kh, .slice pr E.length kr, .int .i64 0, .int .i64 0, .int .i64 0, .slice (some ⟨O, 0, none⟩) l.length oc] ∧
    Rf w wr l p E (ov W (List.replicate l.length (-1))) (.slice ph E.length kh) (.slice pr E.length kr) O oc ∧ tot = (tops l (kids.drop j) E).pre W ∧ E.length ≤ j ∧ (∀ x ∈ E, x.2 = 0 ∧ libB (tx l x.1) = false) ∧ Below w4.heap.size w4 wr
theorem ov_diag {W : Wr} {i : Nat} (hW : ∀ x ∈ W, x.2 = (x.1 : Int)) : ∀ {X : List Int}, i < X.length → i ∈ W.map (·.1) ∨ X[i]? = some (i : Int) → (ov W X)[i]? = some (i : Int) := by
  induction W with
  | nil => intro X _ h; rcases h with h | h
           · cases h
           · exact h
  | cons x W ih =>
    intro X hl h
    show (ov W (X.set x.1 x.2))[i]? = _
    refine ih (fun y hy => hW y (List.mem_cons_of_mem _ hy)) (by simpa using hl) ?_
    by_cases e : x.1 = i
    · right; rw [List.getElem?_set, if_pos e, hW x (List.mem_cons_self ..), e, if_pos hl]
    · rcases h with h | h
      · simp only [List.map_cons, List.mem_cons] at h
        rcases h with h | h
        · exact absurd h.symm e
        · exact Or.inl h
      · right; rw [List.getElem?_set, if_neg e]; exact h
theorem z44 (w : World) : Blk (w.alloc (.cells #[.slice none 0 0, .slice none 0 0, .int .i64 0, .int .i64 0, .int .i64 0, .slice none 0 0] 44)) w.heap.size 44 #[.slice none 0 0, .slice none 0 0, .int .i64 0, .int .i64 0, .int .i64 0, .slice none 0 0] := Blk.new w _ _
set_option maxHeartbeats 16000000 in
set_option maxRecDepth 100000 in
theorem rnames_any (l : List Nd) (p : Option Addr) (cap : Nat) (w : World) (hT : Tr w p l) (hf : Fit l cap) (hf2 : Fit2 l) : Calls Try.prog 5 #[.agg #[.slice p l.length cap]] w (RnPost l w) := by
  have h1 : Below w.heap.size w ((w.alloc (.cells #[.slice p l.length cap] 24)).alloc (.cells #[.int .i64 0, .int .i64 0] 27)) := ((Below.refl _ _).alloc (Nat.le_refl _) _).alloc (by simp) _
  have hck := rtree_any l p cap ((w.alloc (.cells #[.slice p l.length cap] 24)).alloc (.cells #[.int .i64 0, .int .i64 0] 27)) (hT.below h1) hf hf2
  have H1 := Lib.hid h1
  have HT := Lib.hid hT
  obtain ⟨Q, hQ⟩ : ∃ Q : Ending → World → Prop, Q = RnPost l w := ⟨_, rfl⟩
  have HQ := Lib.hid hQ
  rw [← hQ]
  have hlb := hf.2.1
  obtain ⟨n, hn⟩ : ∃ n, n = l.length := ⟨_, rfl⟩
  rw [← hn] at hck hlb ⊢
  have HN := Lib.hid hn
  have HB1 := Lib.hid ((Blk.new w 24 #[.slice p n cap]).alloc (.cells #[.int .i64 0, .int .i64 0] 27))
  have HB3 := Lib.hid (show Blk ((w.alloc (.cells #[.slice p n cap] 24)).alloc (.cells #[.int .i64 0, .int .i64 0] 27)) (w.heap.size + 1) 27 #[.int .i64 0, .int .i64 0] by have := Blk.new (w.alloc (.cells #[.slice p n cap] 24)) 27 #[.int .i64 0, .int .i64 0]; rw [World.size_alloc] at this; exact this)
  rw [← hn] at H1
  clear hQ h1 hT hf hf2 hn
  go_enter Try.func5, Try.ntmps5
  go_wp2_with (go_at_call 11; refine hck.mono ?_)
  intro e w3 hp
  obtain ⟨hb3, c, a, rfl, hr⟩ := hp
  have HR := Lib.hid hr
  have HBel := Lib.hid (H1.out.trans (hb3.mono (by simp; omega)))
  have hX1 := HB1.out.below hb3 (by simp; omega)
  have hX3 := HB3.out.below hb3 (by simp)
  have x1 : w3.cell? ⟨w.heap.size, 0, none⟩ = some (.slice p n cap) := by rw [hX1.cell]; rfl
  have y0 : w3.cell? ⟨w.heap.size + 1, 0, none⟩ = some (.int .i64 0) := by rw [hX3.cell]; rfl
  have y1 : w3.cell? ⟨w.heap.size + 1, 1, none⟩ = some (.int .i64 0) := by rw [hX3.cell]; rfl
  have g0 := hX3.frozen 0
  have g1 := hX3.frozen 1
  have lX := hX3.lt
  have lX0 : w.heap.size < w3.heap.size := Nat.lt_of_succ_lt lX
  have HX1 := Lib.hid hX1
  have HX3 := Lib.hid hX3
  clear hb3 hr hck hX1 hX3
  by_cases hc : c = 0
  · subst hc
    obtain ⟨hl1, hl6, hC, hS, _⟩ := ckr_zero HR.out
    obtain ⟨root, hroot⟩ : ∃ root, n = root + 1 := ⟨n - 1, by have := HN.out; omega⟩
    have hrn : root < n := by omega
    have hn6 : n ≤ 600 := by have := HN.out; omega
    have n4 : (n : Int) - 1 = (root : Int) := by omega
    have n5 : (0 : Int) ≤ (root : Int) := by omega
    have n6 : (root : Int) < (n : Int) := by omega
    have hrl : root < l.length := by have := HN.out; omega
    have HLR := Lib.hid (show l.length = root + 1 by have := HN.out; omega)
    have HQ2 : Hid (∀ e w', RnIs l w (namesF l) e w' → Q e w') := fun e w' h => by rw [HQ.out]; exact ⟨0, a, HR.out, Or.inr ⟨rfl, h⟩⟩
    obtain ⟨b, o, rfl, hb, hN⟩ := HT.out.1 (by omega)
    obtain ⟨c0, c1, c2, c3, c4, c5⟩ := (hN root hrl).below HBel.out hb
    have hkk := kindAt_get hrl
    have hcc := kidsAt_get hrl
    rw [← hkk] at c0
    rw [← hcc] at c4
    obtain ⟨kd, hkd⟩ : ∃ kd, kd = kindAt l root := ⟨_, rfl⟩
    rw [← hkd] at c0
    have hbb : b < w3.heap.size := Nat.lt_of_lt_of_le hb HBel.out.size
    obtain ⟨kp, hkp⟩ : ∃ kp, kp = l[root].p := ⟨_, rfl⟩
    obtain ⟨kc, hkc⟩ : ∃ kc, kc = l[root].cap := ⟨_, rfl⟩
    obtain ⟨kn, hkn⟩ : ∃ kn, kn = (kidsAt l root).length := ⟨_, rfl⟩
    rw [← hkp, ← hkc, ← hkn] at c4
    have HKA := Lib.hid (show KidsAt w kp (kidsAt l root) by rw [hkp, hcc]; exact HT.out.2 root hrl)
    clear c1 c2 c3 c5 hkk hcc hkp hkc hroot
    have HKN := Lib.hid hkn
    obtain ⟨w4, hw4⟩ : ∃ w4, w4 = w3.alloc (.cells #[.int .i64 0, .int .i64 a] 27) := ⟨_, rfl⟩
    have hb34 : Below w3.heap.size w3 w4 := by rw [hw4]; exact (Below.refl _ _).alloc (Nat.le_refl _) _
    have hb4 : Below w.heap.size w w4 := HBel.out.trans (hb34.mono HBel.out.size)
    have HW4 := Lib.hid hw4
    have HX34 := Lib.hid (HX3.out.below hb34 lX)
    have HX14 := Lib.hid (HX1.out.below hb34 (Nat.lt_of_succ_lt lX))
    have HB4 := Lib.hid hb4
    have HC := Lib.hid hC
    have HNN := Lib.hid hN
    have lX4 : w.heap.size + 1 < w4.heap.size := Nat.lt_of_lt_of_le lX hb34.size
    have hbb4 : b < w4.heap.size := Nat.lt_of_lt_of_le hbb hb34.size
    have HC4 := Lib.hid ((hb34.cell (p := ⟨b, o + root * 6 + 4, none⟩) hbb).trans c4)
    by_cases hk1 : kd = 1
    · have HK1 := Lib.hid (show kindAt l root = 1 by rw [← hkd]; exact hk1)
      subst hk1
      have HHL := Lib.hid hl6
      have HRL := Lib.hid hrl
      have HHB := Lib.hid hb
      have HST := Lib.hid (show St l root = 0 by rw [show root = l.length - 1 by have := HLR.out; omega]; exact hS)
      clear hkd hw4 hb34 hb4 hC hN hl1 hl6 hS hrl hkn hb c4
      go_wp2
      rw [← HW4.out]
      obtain ⟨w5, hw5⟩ : ∃ w5, w5 = w4.alloc (.cells #[.slice none 0 0, .slice none 0 0, .int .i64 0, .int .i64 0, .int .i64 0, .slice none 0 0] 44) := ⟨_, rfl⟩
      have R0 : Hid (RelN w4 w5 0) := by rw [hw5]; exact ⟨.slice none 0 0, z44 w4, World.ownsRow_nil _ _ _ _, (Below.refl _ _).alloc (Nat.le_refl _) _⟩
      have s34 : w3.heap.size + 1 = w4.heap.size := by rw [HW4.out]; simp
      rw [s34, ← hw5]
      clear hw5 x1 y0 y1 g0 g1 c0 lX lX0 hbb HW4 s34
      go_loopw [7] (fun v wr => ∃ i : Nat, i ≤ n ∧ v = .int .i64 i ∧ Hid (RelN w4 wr i)) (fun v _ => n - (intOf v).toNat)
      case atStart => exact ⟨0, Nat.zero_le _, rfl, R0.out⟩
      clear R0
      obtain ⟨i, hi, rfl, HR1⟩ := hrel
      obtain ⟨sv, hK, hO, hbe⟩ := HR1.out
      have hX1 := HX14.out.below hbe (Nat.lt_of_succ_lt lX4)
      have x1 : wr.cell? ⟨w.heap.size, 0, none⟩ = some (.slice (some ⟨b, o, none⟩) n cap) := by rw [hX1.cell]; rfl
      have k5 : wr.cell? ⟨w4.heap.size, 5, none⟩ = some sv := by rw [hK.cell]; rfl
      have lx := hX1.lt
      have lk := hK.lt
      clear HR1 hX1
      by_cases hlt : i < n
      · obtain ⟨g, cp, W1, r1, o1, y1, l1⟩ := ap1_run hO (by omega) (by omega) (-1)
        have hne : sv.ownBlock ≠ some w4.heap.size := own_no hO hK (by decide)
        have hK1 := (hK.alloc (.cells #[.int .i64 (-1)] 3)).grown y1 (fun e => hne e.symm)
        have hb1 : Below w4.heap.size w4 W1 := below_grown (hbe.alloc hbe.size (.cells #[.int .i64 (-1)] 3)) y1 (fun q hq => by have := own_ge hO hq; omega) (by rw [World.size_alloc]; have := hbe.size; omega)
        have k1 : W1.cell? ⟨w4.heap.size, 5, none⟩ = some sv := by rw [hK1.cell]; rfl
        have f1 := hK1.frozen 5
        have lk1 := hK1.lt
        obtain ⟨w6, hw6⟩ : ∃ w6, w6 = W1.setCell ⟨w4.heap.size, 5, none⟩ (.slice (some ⟨g, 0, none⟩) (i + 1) cp) := ⟨_, rfl⟩
        have HREL : Hid (RelN w4 w6 (i + 1)) := by
          rw [hw6]
          have hz := hK1.set_ 5 (.slice (some ⟨g, 0, none⟩) (i + 1) cp)
          exact ⟨_, by simpa using hz, by rw [List.replicate_succ']; exact row_far o1 hK1 (by decide) 5 _, hb1.setCell (p := ⟨w4.heap.size, 5, none⟩) (Nat.le_refl _) _⟩
        have R1 := Lib.hid r1
        have HW6 := Lib.hid hw6
        clear hw6 hb1 hK1 hne r1 o1 y1 l1 hK hO hbe
        go_upto_region 10 with (at_builtin; refine apW rfl _ _ rfl rfl rfl rfl R1.out ?_; clear R1)
        rw [← HW6.out]
        clear HW6
        go_wp2
        go_roundw
        case rel => exact ⟨i + 1, by omega, by go_num, HREL.out⟩
        case measure => simp [intOf]; omega
      · have hin : i = n := by omega
        obtain ⟨O, oc, rfl⟩ := row_some hO (by omega)
        have lO := own_ge hO (g := O) rfl
        have lO1 := lO.1
        have hbl : b < wr.heap.size := Nat.lt_of_lt_of_le hbb4 hbe.size
        have c4 := (hbe.cell (p := ⟨b, o + root * 6 + 4, none⟩) hbb4).trans HC4.out
        obtain ⟨kids, hkids⟩ : ∃ kids, kids = kidsAt l root := ⟨_, rfl⟩
        rw [← hkids] at HKN HKA
        obtain ⟨tot, htot⟩ : ∃ tot, tot = tops l kids [] := ⟨_, rfl⟩
        have R2 : Hid (RelT l w w4 wr (some ⟨b, o, none⟩) O oc kids tot 0) := by
          subst hin
          refine ⟨[], [], none, none, 0, 0, by rw [← HN.out]; exact hK, ⟨HT.out, HB4.out.trans (hbe.mono HB4.out.size), World.ownsRow_nil _ _ _ _, World.ownsRow_nil _ _ _ _, by rw [← HN.out]; exact row_mono hO (by have := HB4.out.size; omega), by simp [Value.ownBlock], by simp [Value.ownBlock], ⟨_, _, rfl⟩, ⟨_, _, rfl⟩, (fun x hx => by cases hx), Uni.nil l⟩, by rw [pre_nil]; exact htot, Nat.le_refl _, (fun x hx => by cases hx), hbe⟩
        have HTOT := Lib.hid htot
        have HKD := Lib.hid hkids
        have hkn6 : kn ≤ 600 := by
          have := (code_kids HRL.out (HC.out root HRL.out)).1
          rw [← kidsAt_get HRL.out, ← HKD.out, ← HKN.out] at this
          omega
        clear hK hO hbe lO htot hkids k5
        go_wp2
        clear x1 c4 lx lk hbl hlt hin
        go_loopw [9] (fun v wr => ∃ j : Nat, j ≤ kn ∧ v = .int .i64 j ∧ Hid (RelT l w w4 wr (some ⟨b, o, none⟩) O oc kids tot j)) (fun v _ => kn - (intOf v).toNat)
        case atStart => exact ⟨0, Nat.zero_le _, rfl, R2.out⟩
        clear R2
        obtain ⟨j, hj, rfl, HR2⟩ := hrel
        obtain ⟨E, W, ph, pr, kh, kr, hK, hRf, htt, hEj, hEl, hbe⟩ := HR2.out
        have hX1 := HX14.out.below hbe (Nat.lt_of_succ_lt lX4)
        have hX3 := HX34.out.below hbe lX4
        have x1 : wr.cell? ⟨w.heap.size, 0, none⟩ = some (.slice (some ⟨b, o, none⟩) n cap) := by rw [hX1.cell]; rfl
        have y0 : wr.cell? ⟨w.heap.size + 1, 0, none⟩ = some (.int .i64 0) := by rw [hX3.cell]; rfl
        have y1 : wr.cell? ⟨w.heap.size + 1, 1, none⟩ = some (.int .i64 0) := by rw [hX3.cell]; rfl
        have g0 := hX3.frozen 0
        have g1 := hX3.frozen 1
        obtain ⟨e0, e1, e2, e3, e4, e5⟩ := six hK
        have lx := hX1.lt
        have l3 := hX3.lt
        have lk := hK.lt
        have hbl : b < wr.heap.size := Nat.lt_of_lt_of_le hbb4 hbe.size
        have HK := Lib.hid hK
        have HRF := Lib.hid hRf
        have HTT := Lib.hid htt
        have HEJ := Lib.hid hEj
        have HEL := Lib.hid hEl
        have HBE := Lib.hid hbe
        have HX1r := Lib.hid hX1
        have HX3r := Lib.hid hX3
        rw [← HN.out] at e5
        obtain ⟨n', hn'⟩ : ∃ n', n' = E.length := ⟨_, rfl⟩
        rw [← hn'] at e0 e1
        have HN' := Lib.hid hn'
        by_cases hlt : j < kn
        · have hjl : j < kids.length := by have := HKN.out; omega
          obtain ⟨x, hx1, hx2⟩ : ∃ x : Nat, kids[j] = (x : Int) ∧ x < root := by
            obtain ⟨pos, hKin⟩ := kin_of HRL.out (HC.out root HRL.out)
            have hkd := HKD.out
            subst hkd
            obtain ⟨x, h1, h2, _⟩ := hKin.lt j hjl
            exact ⟨x, h1, h2⟩
          have hxl : x < l.length := by have := HRL.out; omega
          have hxn : x < n := by omega
          obtain ⟨kb, ko, rfl, hkb, hkc⟩ := HKA.out (by omega)
          have d0 : wr.cell? ⟨kb, ko + j, none⟩ = some (.int .i64 x) := by
            have := hkc j hjl
            rw [hx1] at this
            exact (hRf.bel.cell (p := ⟨kb, ko + j, none⟩) hkb).trans this
          have hkb2 : kb < wr.heap.size := Nat.lt_of_lt_of_le hkb hRf.bel.size
          obtain ⟨t, ht⟩ : ∃ t, t = l[x].t := ⟨_, rfl⟩
          obtain ⟨c0, c1, cz⟩ := (HNN.out x hxl).below hRf.bel HHB.out
          rw [← ht] at c1
          have HTX := Lib.hid (tx_text hxl ht)
          have HD := Lib.hid (show tops l (kids.drop j) E = if libB (tx l x) = true then .bad 12 x else (declF l 0 x E).bind (tops l (kids.drop (j + 1))) by rw [tops_drop hjl, hx1, Int.toNat_natCast])
          have HXL := Lib.hid hxl
          clear cz hK hRf htt hEj hEl hbe hX1 hX3 hn' hjl hx1 hx2 hxl hkc ht c0 HR2
          cases hlib : libB (tx l x) with
          | true =>
            have HTB := Lib.hid (show tot = .bad 12 x by rw [HTT.out, HD.out, if_pos hlib]; rfl)
            have HNF := Lib.hid (names_bad_top HLR.out HK1.out (by rw [← HKD.out, ← HTOT.out]; exact HTB.out))
            unfold libB at hlib
            rw [← HTX.out] at hlib
            have hlib2 : (t.toList == [114, 101, 97, 100]) = true ∨ ((t.toList == [114, 101, 97, 100]) = false ∧ (t.toList == [112, 114, 105, 110, 116]) = true) := by
              cases h : (t.toList == [114, 101, 97, 100]) with
              | true => exact Or.inl rfl
              | false => rw [h] at hlib; exact Or.inr ⟨rfl, by simpa using hlib⟩
            clear hlib HTB e0 e1 e2 e3 e4 e5 lk
            have hl2 : Hid True := Lib.hid trivial
            rcases hlib2 with s1 | ⟨s1, s2⟩
            all_goals
              go_wp2
              go_quiet (fail)
              go_wp2_with (go_at_call 12; refine (rfault_any _ _ _).mono ?_)
              rintro e w6 ⟨rfl, hb6⟩
              have hb7 := (below_drewN HBE.out _).trans (hb6.mono (below_drewN HBE.out _).size)
              have hX6 := HX34.out.below hb7 lX4
              have v0 : w6.cell? ⟨w.heap.size + 1, 0, none⟩ = some (.int .i64 0) := by rw [hX6.cell]; rfl
              have v1 : w6.cell? ⟨w.heap.size + 1, 1, none⟩ = some (.int .i64 0) := by rw [hX6.cell]; rfl
              have q0 := hX6.frozen 0
              have q1 := hX6.frozen 1
              have lq := hX6.lt
              have hz := set2 hX6 (.int .i64 12) (.int .i64 x)
              have Z0 := Lib.hid (hz.cell 0)
              have Z1 := Lib.hid (hz.cell 1)
              have HB7 := Lib.hid hb7
              clear hb6 hb7 hX6 hz x1 y0 y1 g0 g1 c1 d0
              go_wp2
              have z0 := Z0.out
              have z1 := Z1.out
              refine bodyPost_ret (v := .tuple #[.slice none 0 0, .agg #[.int .i64 12, .int .i64 x]]) (by simp [results, Try.results5, go_sem, z0, z1]) rfl ?_
              refine HQ2.out _ _ ?_
              rw [HNF.out]
              exact ⟨rfl, ((HB4.out.trans (HB7.out.mono HB4.out.size)).setCell (p := ⟨w.heap.size + 1, 0, none⟩) (by simp) _).setCell (p := ⟨w.heap.size + 1, 1, none⟩) (by simp) _⟩
          | false =>
            have HL := Lib.hid hlib
            unfold libB at hlib
            rw [← HTX.out] at hlib
            obtain ⟨s1, s2⟩ := Bool.or_eq_false_iff.1 hlib
            clear hlib
            go_wp2
            go_quiet (fail)
            go_wp2
            clear c1 s1 s2
            generalize hwq : wr.drewN _ = wq
            have hbd : Below wr.heap.size wr wq := by rw [← hwq]; exact below_drewN (Below.refl _ wr) _
            have hbe2 := HBE.out.trans (hbd.mono HBE.out.size)
            have HBE2 := Lib.hid hbe2
            have hrd := HRF.out.below hbd
            have hKd := HK.out.below hbd HK.out.lt
            have HRD := Lib.hid hrd
            have HKd := Lib.hid hKd
            have hX1 := HX14.out.below hbe2 (Nat.lt_of_succ_lt lX4)
            clear x1 y0 y1 g0 g1 e0 e1 e2 e3 e4 e5 lx l3 lk hwq hrd
            have x1 : wq.cell? ⟨w.heap.size, 0, none⟩ = some (.slice (some ⟨b, o, none⟩) n cap) := by rw [hX1.cell]; rfl
            obtain ⟨e0, e1, e2, e3, e4, e5⟩ := six hKd
            rw [← HN.out] at e5
            rw [← HN'.out] at e0 e1
            have d0' : wq.cell? ⟨kb, ko + j, none⟩ = some (.int .i64 x) := (hbd.cell (p := ⟨kb, ko + j, none⟩) hkb2).trans d0
            have hkb3 : kb < wq.heap.size := Nat.lt_of_lt_of_le hkb2 hbd.size
            have lx := hX1.lt
            have lk := hKd.lt
            clear d0 hkb2 hbd hbe2 hKd hX1 hbl
            go_still_tail 6, (by kernel_rfl)
            change wpList _ _ _ _ _ wq.drew
            obtain ⟨wd, hwd⟩ : ∃ wd, wd = wq.drew := ⟨_, rfl⟩
            rw [← hwd]
            have hbd : Below wq.heap.size wq wd := by rw [hwd]; exact (Below.refl _ wq).drew
            have hbe2 := HBE2.out.trans (hbd.mono HBE2.out.size)
            have HBE3 := Lib.hid hbe2
            have hrd := HRD.out.below hbd
            have hKd := HKd.out.below hbd HKd.out.lt
            have hcall := rdecl_any (now := 0) (cap := cap) hrd HXL.out HHL.out (by have := HEJ.out; omega)
            have e00 : ((0 : Nat) : Int) = 0 := rfl
            rw [← HN'.out, ← HN.out, e00] at hcall
            have HKe := Lib.hid hKd
            clear x1 e0 e1 e2 e3 e4 e5 lx lk hwd hrd e00 d0' hkb3 hbd hbe2 hKd HBE2 HKd
            have HND := Lib.hid (show declF l 0 x E ≠ .out by unfold declF; split <;> simp)
            go_wp2_with (go_at_call 13; refine hcall.mono ?_)
            intro e w6 hd
            have hg6 := RfPost.grown_ hd HND.out
            have hb6 := below_grown HBE3.out hg6 (fun q hq => by cases hq; omega) HBE3.out.size
            have hK6 := HKe.out.grown hg6 (fun e => by have e2 : w4.heap.size = O := by injection e
                                                       omega)
            clear hcall
            obtain ⟨e0, e1, e2, e3, e4, e5⟩ := six hK6
            have f0 := hK6.frozen 0
            have f1 := hK6.frozen 1
            have f2 := hK6.frozen 2
            have f3 := hK6.frozen 3
            have f4 := hK6.frozen 4
            have f5 := hK6.frozen 5
            have lk := hK6.lt
            cases hro : (roomF l E 0 (tx l x)).isSome with
            | true =>
              have hdc : declF l 0 x E = .bad 7 x := by unfold declF; rw [hro]; rfl
              have HNF := Lib.hid (names_bad_top HLR.out HK1.out (by rw [← HKD.out, ← HTOT.out, HTT.out, HD.out, if_neg (by rw [HL.out]; simp), hdc]; rfl) : namesF l = .bad 7 x)
              rw [hdc] at hd
              obtain ⟨ph5, pr5, n5, m5, kh5, kr5, rfl, _⟩ := hd
              rw [← HN.out]
              obtain ⟨w7, hw7⟩ : ∃ w7, w7 = st6 w6 w4.heap.size (.slice ph5 n5 kh5) (.slice pr5 m5 kr5) (.int .i64 0) (.int .i64 7) (.int .i64 x) (.slice (some ⟨O, 0, none⟩) n oc) := ⟨_, rfl⟩
              have hK7 : Blk w7 w4.heap.size 44 #[.slice ph5 n5 kh5, .slice pr5 m5 kr5, .int .i64 0, .int .i64 7, .int .i64 x, .slice (some ⟨O, 0, none⟩) n oc] := by rw [hw7]; exact st6_blk hK6 _ _ _ _ _ _
              have hb7 : Below w4.heap.size w4 w7 := by rw [hw7]; exact st6_below hb6 (Nat.le_refl _) _ _ _ _ _ _
              have HK7 := Lib.hid hK7
              have HB7 := Lib.hid hb7
              unfold st6 at hw7
              have HW7 := Lib.hid hw7
              clear hK7 hb7 hw7 hg6 hb6 hK6 hro hdc
              go_upto_region 20 with (fail)
              rw [← HW7.out]
              clear HW7 e0 e1 e2 e3 e4 e5 f0 f1 f2 f3 f4 f5 lk
              have hX6 := HX34.out.below HB7.out lX4
              have e3 : w7.cell? ⟨w4.heap.size, 3, none⟩ = some (.int .i64 7) := by rw [HK7.out.cell]; rfl
              have e4 : w7.cell? ⟨w4.heap.size, 4, none⟩ = some (.int .i64 x) := by rw [HK7.out.cell]; rfl
              have lk := HK7.out.lt
              have v0 : w7.cell? ⟨w.heap.size + 1, 0, none⟩ = some (.int .i64 0) := by rw [hX6.cell]; rfl
              have v1 : w7.cell? ⟨w.heap.size + 1, 1, none⟩ = some (.int .i64 0) := by rw [hX6.cell]; rfl
              have q0 := hX6.frozen 0
              have q1 := hX6.frozen 1
              have lq := hX6.lt
              have hz := set2 hX6 (.int .i64 7) (.int .i64 x)
              have Z0 := Lib.hid (hz.cell 0)
              have Z1 := Lib.hid (hz.cell 1)
              clear hX6 hz
              go_wp2
              go_region
              all_goals
                go_wp2
                have z0 := Z0.out
                have z1 := Z1.out
                refine bodyPost_ret (v := .tuple #[.slice none 0 0, .agg #[.int .i64 7, .int .i64 x]]) (by simp [results, Try.results5, go_sem, z0, z1]) rfl ?_
                refine HQ2.out _ _ ?_
                rw [HNF.out]
                exact ⟨rfl, (((HB4.out.trans (HB7.out.mono HB4.out.size)).setCell (p := ⟨w.heap.size + 1, 0, none⟩) (by simp) _).setCell (p := ⟨w.heap.size + 1, 1, none⟩) (by simp) _).drew⟩
            | false =>
              have hdc : declF l 0 x E = .ok (E ++ [(x, 0)]) [(x, (x : Int))] := by unfold declF; rw [hro]; rfl
              have HTT2 := Lib.hid (show tot = (tops l (kids.drop (j + 1)) (E ++ [(x, 0)])).pre (W ++ [(x, (x : Int))]) by rw [HTT.out, HD.out, if_neg (by rw [HL.out]; simp), hdc]; show ((tops _ _ _).pre _).pre W = _; rw [pre_pre])
              rw [hdc] at hd
              obtain ⟨ph5, pr5, kh5, kr5, rfl, _, hr5⟩ := hd
              have HEL2 : Hid (∀ y ∈ E ++ [(x, 0)], y.2 = 0 ∧ libB (tx l y.1) = false) := fun y hy => by
                rcases List.mem_append.1 hy with hy | hy
                · exact HEL.out y hy
                · simp only [List.mem_cons, List.not_mem_nil, or_false] at hy; subst hy; exact ⟨rfl, HL.out⟩
              obtain ⟨E2, hE2⟩ : ∃ E2, E2 = E ++ [(x, 0)] := ⟨_, rfl⟩
              rw [HN.out] at hr5
              rw [← hE2] at HTT2 HEL2 hr5 ⊢
              have HE2 := Lib.hid (show E2.length = E.length + 1 by rw [hE2]; simp)
              obtain ⟨w7, hw7⟩ : ∃ w7, w7 = st6 w6 w4.heap.size (.slice ph5 E2.length kh5) (.slice pr5 E2.length kr5) (.int .i64 0) (.int .i64 0) (.int .i64 0) (.slice (some ⟨O, 0, none⟩) l.length oc) := ⟨_, rfl⟩
              have hK7 : Blk w7 w4.heap.size 44 #[.slice ph5 E2.length kh5, .slice pr5 E2.length kr5, .int .i64 0, .int .i64 0, .int .i64 0, .slice (some ⟨O, 0, none⟩) l.length oc] := by rw [hw7]; exact st6_blk hK6 _ _ _ _ _ _
              have hb7 : Below w4.heap.size w4 w7 := by rw [hw7]; exact st6_below hb6 (Nat.le_refl _) _ _ _ _ _ _
              have hr7 := hr5.st6 hK6 (by decide) HB4.out.size (.slice ph5 E2.length kh5) (.slice pr5 E2.length kr5) (.int .i64 0) (.int .i64 0) (.int .i64 0) (.slice (some ⟨O, 0, none⟩) l.length oc)
              rw [← hw7, ← ov_app] at hr7
              have HREL : Hid (RelT l w w4 w7 (some ⟨b, o, none⟩) O oc kids tot (j + 1)) := ⟨E2, _, ph5, pr5, kh5, kr5, hK7, hr7, HTT2.out, by have h1 := HE2.out; have h2 := HEJ.out; omega, HEL2.out, hb7⟩
              have HK7 := Lib.hid hK7
              unfold st6 at hw7
              have HW7 := Lib.hid hw7
              clear hK7 hb7 hw7 hg6 hb6 hK6 hro hdc hr7 hr5 hE2
              go_upto_region 20 with (fail)
              rw [← HW7.out]
              clear HW7 e0 e1 e2 e3 e4 e5 f0 f1 f2 f3 f4 f5 lk
              have e3 : w7.cell? ⟨w4.heap.size, 3, none⟩ = some (.int .i64 0) := by rw [HK7.out.cell]; rfl
              have lk := HK7.out.lt
              go_wp2
              go_roundw
              case rel => exact ⟨j + 1, by omega, by go_num, HREL.out⟩
              case measure => simp [intOf]; omega
        · have HTOP := Lib.hid (show tops l (kidsAt l root) [] = .ok E W by
            rw [← HKD.out, ← HTOT.out, HTT.out, tops_end (by have := HKN.out; omega)]; exact congrArg (Rs.ok E) (by simp))
          have e00 : ((0 : Nat) : Int) = 0 := rfl
          have hEl6 : E.length ≤ 600 := Nat.le_trans HEJ.out (Nat.le_trans hj hkn6)
          obtain ⟨pos, hKin⟩ := kin_of HRL.out (HC.out root HRL.out)
          have hSt := HST.out
          have huk := unit_kids HRL.out (HC.out root HRL.out) HK1.out
          have htw := tops_wr l _ _ _ _ HTOP.out
          have hcall := all_any (cap := cap) (q := E.length) (f := root) (now := 0) (look_any HC.out HHL.out root) HC.out HHL.out hRf HRL.out (by omega) (by omega) (by omega) (by omega) ⟨fun y hy => Nat.le_of_eq (HEL.out y hy).1, fun y hy _ => (HEL.out y hy).2⟩
            (fun _ y hy => (huk y hy).elim (fun h => Or.inl (by simpa using h)) (fun h => Or.inr (Or.inl (by simpa using h))))
            (fun y hy _ => ov_diag htw.2 (by
              obtain ⟨q, hq, hqy⟩ := hKin.mem hy
              obtain ⟨z, h1, h2, _⟩ := hKin.lt q hq
              have : (y : Int) = (z : Int) := hqy.symm.trans h1
              rw [List.length_replicate]
              have := HRL.out
              omega) (Or.inl (by rw [htw.1]; exact List.mem_map.2 ⟨(y : Int), hy, Int.toNat_natCast y⟩)))
          have hfi := fine_each (q := E.length) hKin HRL.out (fun x E' h1 h2 h3 => fine_look HC.out root 0 x E.length E' (by omega) h2 h3) (kidsAt l root).length 0 E (by omega) (by rw [hKin.from_]; omega)
          rw [List.drop_zero] at hfi
          have HFI := Lib.hid hfi
          have HNE := Lib.hid (show each (look l root 0) (kidsAt l root) E ≠ .out from hfi.out)
          have HRT := Lib.hid (show 1 ≤ root ∨ kidsAt l root = [] by
            rcases Nat.eq_zero_or_pos root with h | h
            · right
              cases hkk : kidsAt l root with
              | nil => rfl
              | cons z zs =>
                obtain ⟨_, _, h2, _⟩ := hKin.lt 0 (by rw [hkk]; simp)
                omega
            · exact Or.inl h)
          rw [← HN'.out, ← HN.out, e00] at hcall
          clear e00 hKin hSt huk htw hfi hK hRf htt hEj hEl hX1 hX3 hn' HR2 hEl6
          have hb6' := hbe
          clear hbe
          go_wp2_with (go_at_call 14; refine hcall.mono ?_)
          intro e w6 hd
          have hg6 := RfPost.grown_ hd HNE.out
          have hb6 := below_grown HBE.out hg6 (fun q hq => by cases hq; omega) HBE.out.size
          have hK6 := HK.out.grown hg6 (fun e => by have e2 : w4.heap.size = O := by injection e
                                                    omega)
          clear hcall x1 y0 y1 g0 g1 e0 e1 e2 e3 e4 e5 lx l3 lk hb6'
          obtain ⟨e0, e1, e2, e3, e4, e5⟩ := six hK6
          have f0 := hK6.frozen 0
          have f1 := hK6.frozen 1
          have f2 := hK6.frozen 2
          have f3 := hK6.frozen 3
          have f4 := hK6.frozen 4
          have f5 := hK6.frozen 5
          have lk := hK6.lt
          cases hr2 : each (look l root 0) (kidsAt l root) E with
          | out => exact absurd hr2 HNE.out
          | bad c1 a1 =>
            have HNF := Lib.hid (names_bad_look HLR.out HK1.out HTOP.out hr2)
            have hfi := HFI.out
            rw [hr2] at hd hfi
            obtain ⟨ph5, pr5, n5, m5, kh5, kr5, rfl, _⟩ := hd
            rw [← HN.out]
            obtain ⟨w7, hw7⟩ : ∃ w7, w7 = st6 w6 w4.heap.size (.slice ph5 n5 kh5) (.slice pr5 m5 kr5) (.int .i64 0) (.int .i64 c1) (.int .i64 a1) (.slice (some ⟨O, 0, none⟩) n oc) := ⟨_, rfl⟩
            have hK7 : Blk w7 w4.heap.size 44 #[.slice ph5 n5 kh5, .slice pr5 m5 kr5, .int .i64 0, .int .i64 c1, .int .i64 a1, .slice (some ⟨O, 0, none⟩) n oc] := by rw [hw7]; exact st6_blk hK6 _ _ _ _ _ _
            have hb7 : Below w4.heap.size w4 w7 := by rw [hw7]; exact st6_below hb6 (Nat.le_refl _) _ _ _ _ _ _
            have HK7 := Lib.hid hK7
            have HB7 := Lib.hid hb7
            have hc1 : (c1 != 0) = true := by rcases hfi with rfl | rfl <;> rfl
            unfold st6 at hw7
            have HW7 := Lib.hid hw7
            clear hK7 hb7 hw7 hg6 hb6 hK6 hr2 hfi
            go_upto_region 23 with (fail)
            rw [← HW7.out]
            clear HW7 e0 e1 e2 e3 e4 e5 f0 f1 f2 f3 f4 f5 lk
            have hX6 := HX34.out.below HB7.out lX4
            have e3 : w7.cell? ⟨w4.heap.size, 3, none⟩ = some (.int .i64 c1) := by rw [HK7.out.cell]; rfl
            have e4 : w7.cell? ⟨w4.heap.size, 4, none⟩ = some (.int .i64 a1) := by rw [HK7.out.cell]; rfl
            have lk := HK7.out.lt
            have v0 : w7.cell? ⟨w.heap.size + 1, 0, none⟩ = some (.int .i64 0) := by rw [hX6.cell]; rfl
            have v1 : w7.cell? ⟨w.heap.size + 1, 1, none⟩ = some (.int .i64 0) := by rw [hX6.cell]; rfl
            have q0 := hX6.frozen 0
            have q1 := hX6.frozen 1
            have lq := hX6.lt
            have hz := set2 hX6 (.int .i64 c1) (.int .i64 a1)
            have Z0 := Lib.hid (hz.cell 0)
            have Z1 := Lib.hid (hz.cell 1)
            clear hX6 hz
            go_wp2
            go_region
            all_goals
              go_wp2
              have z0 := Z0.out
              have z1 := Z1.out
              refine bodyPost_ret (v := .tuple #[.slice none 0 0, .agg #[.int .i64 c1, .int .i64 a1]]) (by simp [results, Try.results5, go_sem, z0, z1]) rfl ?_
              refine HQ2.out _ _ ?_
              rw [HNF.out]
              exact ⟨rfl, (((HB4.out.trans (HB7.out.mono HB4.out.size)).setCell (p := ⟨w.heap.size + 1, 0, none⟩) (by simp) _).setCell (p := ⟨w.heap.size + 1, 1, none⟩) (by simp) _).drew⟩
          | ok E2 W2 =>
            have HNF := Lib.hid (names_same HLR.out HRT.out (HC.out root HRL.out) HK1.out HTOP.out hr2)
            rw [hr2] at hd
            obtain ⟨ph5, pr5, kh5, kr5, rfl, _, hr5⟩ := hd
            rw [HN.out] at hr5
            rw [← HN.out]
            have HOF := Lib.hid hr5.ofr
            obtain ⟨n2, hn2⟩ : ∃ n2, n2 = E2.length := ⟨_, rfl⟩
            rw [← hn2]
            obtain ⟨w7, hw7⟩ : ∃ w7, w7 = st6 w6 w4.heap.size (.slice ph5 n2 kh5) (.slice pr5 n2 kr5) (.int .i64 0) (.int .i64 0) (.int .i64 0) (.slice (some ⟨O, 0, none⟩) n oc) := ⟨_, rfl⟩
            have hK7 : Blk w7 w4.heap.size 44 #[.slice ph5 n2 kh5, .slice pr5 n2 kr5, .int .i64 0, .int .i64 0, .int .i64 0, .slice (some ⟨O, 0, none⟩) n oc] := by rw [hw7]; exact st6_blk hK6 _ _ _ _ _ _
            have hb7 : Below w4.heap.size w4 w7 := by rw [hw7]; exact st6_below hb6 (Nat.le_refl _) _ _ _ _ _ _
            have ho7 : w7.ownsRow w.heap.size 3 1 (.slice (some ⟨O, 0, none⟩) l.length oc) l.length (intV (ov W2 (ov W (List.replicate l.length (-1))))) := by rw [hw7]; exact row_st6 HOF.out hK6 (by decide) _ _ _ _ _ _
            have HK7 := Lib.hid hK7
            have HB7 := Lib.hid hb7
            have HO7 := Lib.hid ho7
            unfold st6 at hw7
            have HW7 := Lib.hid hw7
            clear hK7 hb7 hw7 hg6 hb6 hK6 hr2 ho7 hr5 hn2
            go_upto_region 23 with (fail)
            rw [← HW7.out]
            clear HW7 e0 e1 e2 e3 e4 e5 f0 f1 f2 f3 f4 f5 lk
            have hX6 := HX34.out.below HB7.out lX4
            have e3 : w7.cell? ⟨w4.heap.size, 3, none⟩ = some (.int .i64 0) := by rw [HK7.out.cell]; rfl
            have e5 : w7.cell? ⟨w4.heap.size, 5, none⟩ = some (.slice (some ⟨O, 0, none⟩) n oc) := by rw [HK7.out.cell]; rfl
            have lk := HK7.out.lt
            have v0 : w7.cell? ⟨w.heap.size + 1, 0, none⟩ = some (.int .i64 0) := by rw [hX6.cell]; rfl
            have v1 : w7.cell? ⟨w.heap.size + 1, 1, none⟩ = some (.int .i64 0) := by rw [hX6.cell]; rfl
            have q0 := hX6.frozen 0
            have q1 := hX6.frozen 1
            have lq := hX6.lt
            have hz := set2 hX6 (.int .i64 0) (.int .i64 0)
            have Z0 := Lib.hid (hz.cell 0)
            have Z1 := Lib.hid (hz.cell 1)
            have HX6 := Lib.hid hX6
            clear hX6 hz
            go_wp2
            have z0 := Z0.out
            have z1 := Z1.out
            refine bodyPost_ret (v := .tuple #[.slice (some ⟨O, 0, none⟩) n oc, .agg #[.int .i64 0, .int .i64 0]]) (by simp [results, Try.results5, go_sem, z0, z1]) rfl ?_
            refine HQ2.out _ _ ?_
            rw [HNF.out]
            exact ⟨O, oc, by rw [HN.out], ((HB4.out.trans (HB7.out.mono HB4.out.size)).setCell (p := ⟨w.heap.size + 1, 0, none⟩) (by simp) _).setCell (p := ⟨w.heap.size + 1, 1, none⟩) (by simp) _, row_far (row_far HO7.out HX6.out (by decide) 0 _) (HX6.out.set_ 0 _) (by decide) 1 _⟩
    · have hk1' : (kd != 1) = true := by simpa using hk1
      have HNF2 := Lib.hid (names_no_unit HLR.out (by rw [← hkd]; exact hk1))
      have hz := set2 (HX3.out.alloc (.cells #[.int .i64 0, .int .i64 a] 27)) (.int .i64 11) (.int .i64 0)
      have Z0 := Lib.hid (hz.cell 0)
      have Z1 := Lib.hid (hz.cell 1)
      clear hz hk1 hN hkd hC hS hl1 hl6 HR hrl hw4 hb34 hb4 hkn hb c4
      have HA5 := Lib.hid (HBel.out.alloc HBel.out.size (.cells #[.int .i64 0, .int .i64 a] 27))
      have HX5 := Lib.hid (HX3.out.alloc (.cells #[.int .i64 0, .int .i64 a] 27))
      clear Z0 Z1
      go_wp2_with (go_at_call 12; refine (rfault_any _ _ _).mono ?_)
      rintro e w5 ⟨rfl, hb5⟩
      have hX5 := HX5.out.below hb5 (by simp; omega)
      have hz := set2 hX5 (.int .i64 11) (.int .i64 0)
      have v0 : w5.cell? ⟨w.heap.size + 1, 0, none⟩ = some (.int .i64 0) := by rw [hX5.cell]; rfl
      have v1 : w5.cell? ⟨w.heap.size + 1, 1, none⟩ = some (.int .i64 0) := by rw [hX5.cell]; rfl
      have q0 := hX5.frozen 0
      have q1 := hX5.frozen 1
      have lq := hX5.lt
      have Z0 := Lib.hid (hz.cell 0)
      have Z1 := Lib.hid (hz.cell 1)
      have HB5 := Lib.hid (HA5.out.trans (hb5.mono HA5.out.size))
      clear hz hX5 hb5 x1 y0 y1 g0 g1 c0
      go_wp2
      have z0 := Z0.out
      have z1 := Z1.out
      refine bodyPost_ret (v := .tuple #[.slice none 0 0, .agg #[.int .i64 11, .int .i64 0]]) (by simp [results, Try.results5, go_sem, z0, z1]) rfl ?_
      refine HQ2.out _ _ ?_
      rw [HNF2.out]
      exact ⟨rfl, (HB5.out.setCell (p := ⟨w.heap.size + 1, 0, none⟩) (by simp) _).setCell (p := ⟨w.heap.size + 1, 1, none⟩) (by simp) _⟩
  · have hc' : (c != 0) = true := by simpa using hc
    have HC := Lib.hid hc
    have hz := (set2 HX3.out (.int .i64 c) (.int .i64 a)).alloc (.cells #[.int .i64 c, .int .i64 a] 27)
    have Z0 := Lib.hid (hz.cell 0)
    have Z1 := Lib.hid (hz.cell 1)
    clear hc hz
    go_wp2
    go_region
    all_goals
      go_wp2
      have z0 := Z0.out
      have z1 := Z1.out
      refine bodyPost_ret (v := .tuple #[.slice none 0 0, .agg #[.int .i64 c, .int .i64 a]]) (by simp [results, Try.results5, go_sem, z0, z1]) rfl ?_
      rw [HQ.out]
      exact ⟨c, a, HR.out, Or.inl ⟨HC.out, rfl, (((HBel.out.setCell (p := ⟨w.heap.size + 1, 0, none⟩) (by simp) _).setCell (p := ⟨w.heap.size + 1, 1, none⟩) (by simp) _).alloc (by simp; have := HBel.out.size; omega) _).drew⟩⟩
end Go.Proofs.Ytmghjfphlneblaa.Sc
