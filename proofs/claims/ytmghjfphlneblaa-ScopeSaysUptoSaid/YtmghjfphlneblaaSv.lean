/-
  Contract of the document's all: the kids of a node, one behind the other.
-/
import Derived.Test.YtmghjfphlneblaaSs
import Derived.Test.YtmghjfphlneblaaSu
import Derived.StillTailTactics
namespace Go.Proofs.Ytmghjfphlneblaa.Sc
open Go.RowKit
open Tr

def LookOK (w0 : World) (l : List Nd) (p : Option Addr) (cap O oc f : Nat) : Prop :=
  ∀ (w : World) (E : Env) (of : List Int) (ph pr : Option Addr) (kh kr now k q : Nat), Rf w0 w l p E of (.slice ph E.length kh) (.slice pr E.length kr) O oc → k < l.length → k < f → now + f ≤ 1000000 → E.length ≤ q + St l k → q + (k + 1) ≤ 100000 → Low l now E → (now = 0 → Zk (kindAt l k)) → (kindAt l k = 2 ∨ kindAt l k = 3 → of[k]? = some (k : Int)) → kindAt l k ≠ 1 →
    Calls Try.prog 26 #[.agg #[.slice ph E.length kh, .slice pr E.length kr, .int .i64 now, .int .i64 0, .int .i64 0, .slice (some ⟨O, 0, none⟩) l.length oc], .agg #[.slice p l.length cap], .int .i64 k] w (RfPost w0 w l p of now O oc (look l f now k E))
/-- three boxes -/
structure Bx3 (w wr : World) (A3 A4 A6 : Array Value) : Prop where
  b3 : Blk wr w.heap.size 44 A3
  b4 : Blk wr (w.heap.size + 1) 24 A4
  b6 : Blk wr (w.heap.size + 1 + 1) 44 A6
theorem Bx3.grown {w wr w2 : World} {A3 A4 A6 : Array Value} {row : Option Nat} (h : Bx3 w wr A3 A4 A6) (hg : wr.grownBy w2 row) (hr : ∀ g, row = some g → g < w.heap.size) : Bx3 w w2 A3 A4 A6 :=
  ⟨h.b3.grown hg (fun e => by have := hr _ e.symm; omega), h.b4.grown hg (fun e => by have := hr _ e.symm; omega), h.b6.grown hg (fun e => by have := hr _ e.symm; omega)⟩
theorem grown_trans {a b c : World} {row : Option Nat} (h : a.grownBy b row) (k : b.grownBy c row) : a.grownBy c row :=
  ⟨k.os.trans h.os, k.tape.trans h.tape, k.output.trans h.output, Nat.le_trans h.size k.size, fun g hg hn => (k.block g (Nat.lt_of_lt_of_le hg h.size) hn).trans (h.block g hg hn)⟩
theorem undrewG {a b : World} {row : Option Nat} (h : a.drew.grownBy b row) : a.grownBy b row := ⟨h.os, h.tape, h.output, h.size, h.block⟩
theorem Rf.st6 {w0 w : World} {l : List Nd} {p : Option Addr} {E : Env} {of : List Int} {vh vr : Value} {O oc g : Nat} {t : TypeId} {x0 x1 x2 x3 x4 x5 : Value} (h : Rf w0 w l p E of vh vr O oc) (hB : Blk w g t #[x0, x1, x2, x3, x4, x5]) (ht : t ≠ 3) (h0 : w0.heap.size ≤ g) (a b c d e f : Value) : Rf w0 (st6 w g a b c d e f) l p E of vh vr O oc :=
  ⟨h.tr0, st6_below h.bel h0 a b c d e f, row_st6 h.has hB ht a b c d e f, row_st6 h.rom hB ht a b c d e f, row_st6 h.ofr hB ht a b c d e f, h.sepH, h.sepR, h.shpH, h.shpR, h.env, h.uni⟩
/-- how far all has come -/
def RelA (w0 w : World) (l : List Nd) (p : Option Addr) (cap O oc f now k q : Nat) (E : Env) (of : List Int) (pos : Nat → Nat) (tot : Rs) (i : Nat) (wr : World) : Prop :=
  w.grownBy wr (some O) ∧
  ((∃ E' W ph pr kh kr, Bx3 w wr #[.slice ph E'.length kh, .slice pr E'.length kr, .int .i64 now, .int .i64 0, .int .i64 0, .slice (some ⟨O, 0, none⟩) l.length oc] #[.slice p l.length cap] #[.slice none 0 0, .slice none 0 0, .int .i64 0, .int .i64 0, .int .i64 0, .slice none 0 0] ∧
      Rf w0 wr l p E' (ov W of) (.slice ph E'.length kh) (.slice pr E'.length kr) O oc ∧ tot = (each (look l f now) ((kidsAt l k).drop i) E').pre W ∧ E'.length ≤ q + pos i ∧ Gr now E E' ∧ ∀ x ∈ W, WOk l x) ∨
   (∃ c a ph pr n m kh kr, tot = .bad c a ∧ (c = 6 ∨ c = 7) ∧ Bx3 w wr #[.slice ph n kh, .slice pr m kr, .int .i64 now, .int .i64 c, .int .i64 a, .slice (some ⟨O, 0, none⟩) l.length oc] #[.slice p l.length cap] #[.slice none 0 0, .slice none 0 0, .int .i64 0, .int .i64 0, .int .i64 0, .slice none 0 0]))
set_option maxHeartbeats 16000000 in
set_option maxRecDepth 100000 in
theorem all_any {w0 w : World} {l : List Nd} {p : Option Addr} {E : Env} {of : List Int} {ph pr : Option Addr} {kh kr O oc cap now k q f : Nat} (hV : LookOK w0 l p cap O oc f) (hC : ∀ j, j < l.length → codeAt l j = 0) (hl : l.length ≤ 600) (h : Rf w0 w l p E of (.slice ph E.length kh) (.slice pr E.length kr) O oc) (hk : k < l.length) (hkf : k < f + 1) (hnow : now + f ≤ 1000000) (hE : E.length ≤ q + St l k) (hq : q + k ≤ 100000) (hlow : Low l now E)
    (hz : now = 0 → ∀ x : Nat, (x : Int) ∈ kidsAt l k → Zk (kindAt l x)) (ht : ∀ x : Nat, (x : Int) ∈ kidsAt l k → kindAt l x = 2 ∨ kindAt l x = 3 → of[x]? = some (x : Int)) :
    Calls Try.prog 14 #[.agg #[.slice ph E.length kh, .slice pr E.length kr, .int .i64 now, .int .i64 0, .int .i64 0, .slice (some ⟨O, 0, none⟩) l.length oc], .agg #[.slice p l.length cap], .int .i64 k] w (RfPost w0 w l p of now O oc (each (look l f now) (kidsAt l k) E)) := by
  obtain ⟨pos, hK⟩ := kin_of hk (hC k hk)
  obtain ⟨b, o, rfl, hb, hN⟩ := h.nodeAt hk
  have hN0 := hN k hk
  have hkk := kindAt_get hk
  have hcc := kidsAt_get hk
  have hKA := h.tr0.2 k hk
  rw [← hcc] at hKA
  have hcl : (kidsAt l k).length ≤ 600 := by have := (code_kids hk (hC k hk)).1; rw [← hcc] at this; omega
  obtain ⟨cp, hcp⟩ : ∃ cp, cp = l[k].p := ⟨_, rfl⟩
  obtain ⟨kc, hkc⟩ : ∃ kc, kc = l[k].cap := ⟨_, rfl⟩
  obtain ⟨cn, hcn⟩ : ∃ cn, cn = (kidsAt l k).length := ⟨_, rfl⟩
  have HC4 : Hid (∀ w', Below w0.heap.size w0 w' → w'.cell? ⟨b, o + k * 6 + 4, none⟩ = some (.slice cp cn kc)) := fun w' hb' => by
    have := (hN0 w' hb').2.2.2.2.1
    rw [← hcc, ← hcp, ← hkc, ← hcn] at this
    exact this
  rw [← hcp] at hKA
  rw [← hcn] at hcl
  obtain ⟨tot, htot⟩ : ∃ tot, tot = each (look l f now) (kidsAt l k) E := ⟨_, rfl⟩
  rw [← htot]
  obtain ⟨Q, hQ⟩ : ∃ Q : Ending → World → Prop, Q = RfPost w0 w l (some ⟨b, o, none⟩) of now O oc tot := ⟨_, rfl⟩
  rw [← hQ]
  have HQ := Lib.hid hQ
  have lO := own_ge h.ofr (g := O) rfl
  have hbb : b < w.heap.size := Nat.lt_of_lt_of_le hb h.bel.size
  have hww := h.bel.size
  have HW0 := Lib.hid h.bel
  have B0 := Box3.new w #[.slice ph E.length kh, .slice pr E.length kr, .int .i64 now, .int .i64 0, .int .i64 0, .slice (some ⟨O, 0, none⟩) l.length oc] #[.slice (some ⟨b, o, none⟩) l.length cap] #[.slice none 0 0, .slice none 0 0, .int .i64 0, .int .i64 0, .int .i64 0, .slice none 0 0]
  obtain ⟨n, hn⟩ : ∃ n, n = E.length := ⟨_, rfl⟩
  obtain ⟨ln, hln⟩ : ∃ ln, ln = l.length := ⟨_, rfl⟩
  obtain ⟨nw, hnw⟩ : ∃ nw : Int, nw = (now : Int) := ⟨_, rfl⟩
  obtain ⟨w3, hw3⟩ : ∃ w3, w3 = ((w.alloc (.cells #[.slice ph n kh, .slice pr n kr, .int .i64 nw, .int .i64 0, .int .i64 0, .slice (some ⟨O, 0, none⟩) ln oc] 44)).alloc (.cells #[.slice (some ⟨b, o, none⟩) ln cap] 24)).alloc (.cells #[.slice none 0 0, .slice none 0 0, .int .i64 0, .int .i64 0, .int .i64 0, .slice none 0 0] 44) := ⟨_, rfl⟩
  have R0 : Hid (RelA w0 w l (some ⟨b, o, none⟩) cap O oc f now k q E of pos tot 0 w3) := by
    have hB : Bx3 w w3 #[.slice ph E.length kh, .slice pr E.length kr, .int .i64 now, .int .i64 0, .int .i64 0, .slice (some ⟨O, 0, none⟩) l.length oc] #[.slice (some ⟨b, o, none⟩) l.length cap] #[.slice none 0 0, .slice none 0 0, .int .i64 0, .int .i64 0, .int .i64 0, .slice none 0 0] := by
      rw [hw3, hn, hln, hnw]; exact ⟨B0.b3, B0.b4, B0.b6⟩
    have hbel : Below w.heap.size w w3 := by rw [hw3, hn, hln, hnw]; exact B0.bel
    exact ⟨grown_below hbel, Or.inl ⟨E, [], ph, pr, kh, kr, hB, h.below hbel, by rw [pre_nil]; exact htot, by rw [hK.from_]; exact hE, Gr.refl _ _, fun x hx => by cases hx⟩⟩
  rw [← hn, ← hln, ← hnw]
  have HV := Lib.hid hV
  have HKA := Lib.hid hKA
  have HCN := Lib.hid hcn
  have HLN := Lib.hid hln
  have HNW := Lib.hid hnw
  have HK := Lib.hid hK
  have HCC := Lib.hid hC
  have HLOW := Lib.hid hlow
  have HZ := Lib.hid hz
  have HTP := Lib.hid ht
  have HW3 := Lib.hid hw3
  have hln6 : ln ≤ 600 := by omega
  have hkl : k < ln := by omega
  have HKL := Lib.hid hk
  have lO2 := lO.2
  have lO1 := lO.1
  clear B0 hV hKA hcn hln hnw hK hC hlow hz ht hw3 h hN hN0 hkk hcc hcp hkc htot hQ hn hE lO hk hl
  go_enter Try.func14, Try.ntmps14
  go_wp2
  rw [← HW3.out]
  clear HW3
  go_loopw [7] (fun v wr => ∃ i : Nat, i ≤ cn ∧ v = .int .i64 i ∧ Hid (RelA w0 w l (some ⟨b, o, none⟩) cap O oc f now k q E of pos tot i wr)) (fun v _ => cn - (intOf v).toNat)
  case atStart => exact ⟨0, Nat.zero_le _, rfl, R0.out⟩
  clear R0
  obtain ⟨i, hi, rfl, HR⟩ := hrel
  obtain ⟨hg, hcase⟩ := HR.out
  have HG := Lib.hid hg
  have hbw : b < wr.heap.size := Nat.lt_of_lt_of_le hbb hg.size
  have HBW := Lib.hid (below_grown HW0.out hg (fun g e => by cases e; exact lO1) hww)
  have c4 := HC4.out wr HBW.out
  rcases hcase with ⟨E', W, ph', pr', kh', kr', hB, hr, htt, hE', hGr, hW⟩ | ⟨c1, a1, ph', pr', n', m', kh', kr', htt, hc1, hB⟩
  · obtain ⟨y0, y1, y2, y3, y4, y5⟩ := six hB.b3
    obtain ⟨z0, z1, z2, z3, z4, z5⟩ := six hB.b6
    have x4 : wr.cell? ⟨w.heap.size + 1, 0, none⟩ = some (.slice (some ⟨b, o, none⟩) ln cap) := by rw [hB.b4.cell, HLN.out]; rfl
    rw [← HLN.out] at y5
    rw [← HNW.out] at y2
    have l6 := hB.b6.lt
    have l4 := hB.b4.lt
    have l3 := hB.b3.lt
    obtain ⟨n', hn'⟩ : ∃ n', n' = E'.length := ⟨_, rfl⟩
    rw [← hn'] at y0 y1
    have HB := Lib.hid hB
    have HRf := Lib.hid hr
    have HTT := Lib.hid htt
    have HE := Lib.hid hE'
    have HGr := Lib.hid hGr
    have HWk := Lib.hid hW
    have HN' := Lib.hid hn'
    by_cases hlt : i < cn
    · have hjl : i < (kidsAt l k).length := by have := HCN.out; omega
      obtain ⟨kb, ko, rfl, hkb, hkc⟩ := HKA.out (by omega)
      obtain ⟨x, hx1, hx2, hx3, hx4⟩ := HK.out.lt i hjl
      have d0 : wr.cell? ⟨kb, ko + i, none⟩ = some (.int .i64 x) := by
        have := hkc i hjl
        rw [hx1] at this
        exact (hr.bel.cell (p := ⟨kb, ko + i, none⟩) hkb).trans this
      have hkb2 : kb < wr.heap.size := Nat.lt_of_lt_of_le hkb hr.bel.size
      clear hB hr htt hE' hGr hW hn' HR hg hkc
      go_wp2
      go_still_tail 11, (by kernel_rfl)
      change wpList _ _ _ _ _ wr.drew
      obtain ⟨wd, hwd⟩ : ∃ wd, wd = wr.drew := ⟨_, rfl⟩
      rw [← hwd]
      have hrd : Rf w0 wd l (some ⟨b, o, none⟩) E' (ov W of) (.slice ph' E'.length kh') (.slice pr' E'.length kr') O oc := by rw [hwd]; exact HRf.out.drew
      have HBd : Hid (Bx3 w wd #[.slice ph' E'.length kh', .slice pr' E'.length kr', .int .i64 now, .int .i64 0, .int .i64 0, .slice (some ⟨O, 0, none⟩) l.length oc] #[.slice (some ⟨b, o, none⟩) l.length cap] #[.slice none 0 0, .slice none 0 0, .int .i64 0, .int .i64 0, .int .i64 0, .slice none 0 0]) := by rw [hwd]; exact ⟨HB.out.b3, HB.out.b4, HB.out.b6⟩
      have HGd : Hid (w.grownBy wd (some O)) := by rw [hwd]; exact ⟨HG.out.os, HG.out.tape, HG.out.output, HG.out.size, HG.out.block⟩
      clear hwd y0 y1 y2 y3 y4 y5 z0 z1 z2 z3 z4 z5 x4 c4 d0 l6 l4 l3 hbw hkb2
      have hxk : (x : Int) ∈ kidsAt l k := by rw [← hx1]; exact List.getElem_mem hjl
      have hxl : x < l.length := by have := HKL.out; omega
      have hcall := HV.out wd E' (ov W of) ph' pr' kh' kr' now x q hrd hxl (by omega) hnow (by have := HE.out; omega) (by omega) (HLOW.out.grow HGr.out) (fun e => HZ.out e x hxk) (fun e => ov_top HWk.out e (HTP.out x hxk e)) (HK.out.kidUnit i hjl hx1)
      rw [← HN'.out, ← HNW.out, ← HLN.out] at hcall
      have hfine := fine_look HCC.out f now x q E' (by omega) hxl (by have := HE.out; omega)
      have hgrow := fun E2 W2 hr => look_grow HCC.out f now x E' E2 W2 hr hxl (fun e => HZ.out e x hxk)
      have HD := Lib.hid (show each (look l f now) ((kidsAt l k).drop i) E' = (look l f now x E').bind (each (look l f now) ((kidsAt l k).drop (i + 1))) by rw [each_drop hjl, hx1, Int.toNat_natCast])
      clear hrd hxk hxl hx1
      go_wp2_with (go_at_call 26; refine hcall.mono ?_)
      intro e w5 hd
      cases hr : look l f now x E' with
      | out => rw [hr] at hfine; exact hfine.elim
      | bad c1 a1 =>
        rw [hr] at hd hfine
        obtain ⟨ph2, pr2, n2, m2, kh2, kr2, rfl, hg5⟩ := hd
        have hB5 := HBd.out.grown hg5 (fun g e => by cases e; exact lO2)
        obtain ⟨y0, y1, y2, y3, y4, y5⟩ := six hB5.b3
        have f0 := hB5.b3.frozen 0
        have f1 := hB5.b3.frozen 1
        have f2 := hB5.b3.frozen 2
        have f3 := hB5.b3.frozen 3
        have f4 := hB5.b3.frozen 4
        have f5 := hB5.b3.frozen 5
        have l5 := hB5.b3.lt
        have hne6 : w.heap.size + 1 + 1 ≠ w.heap.size := by omega
        have HREL : Hid (RelA w0 w l (some ⟨b, o, none⟩) cap O oc f now k q E of pos tot (i + 1) (st6 w5 w.heap.size (.slice ph2 n2 kh2) (.slice pr2 m2 kr2) (.int .i64 now) (.int .i64 c1) (.int .i64 a1) (.slice (some ⟨O, 0, none⟩) l.length oc))) :=
          ⟨grown_st6 (grown_trans HGd.out hg5) (Nat.le_refl _) _ _ _ _ _ _, Or.inr ⟨c1, a1, ph2, pr2, n2, m2, kh2, kr2, by rw [HTT.out, HD.out, hr]; rfl, hfine, st6_blk hB5.b3 _ _ _ _ _ _, st6_far hB5.b4 (by omega) _ _ _ _ _ _, st6_far hB5.b6 hne6 _ _ _ _ _ _⟩⟩
        unfold st6 at HREL
        clear hB5 hg5 hcall hr hfine hgrow
        go_wp2
        go_roundw
        case rel => exact ⟨i + 1, by omega, by go_num, HREL.out⟩
        case measure => simp [intOf]; omega
      | ok E2 W2 =>
        rw [hr] at hd hfine
        obtain ⟨ph2, pr2, kh2, kr2, rfl, hg5, hr5⟩ := hd
        have hB5 := HBd.out.grown hg5 (fun g e => by cases e; exact lO2)
        obtain ⟨y0, y1, y2, y3, y4, y5⟩ := six hB5.b3
        have f0 := hB5.b3.frozen 0
        have f1 := hB5.b3.frozen 1
        have f2 := hB5.b3.frozen 2
        have f3 := hB5.b3.frozen 3
        have f4 := hB5.b3.frozen 4
        have f5 := hB5.b3.frozen 5
        have l5 := hB5.b3.lt
        have hne6 : w.heap.size + 1 + 1 ≠ w.heap.size := by omega
        obtain ⟨n2, hn2⟩ : ∃ n2, n2 = E2.length := ⟨_, rfl⟩
        have HREL : Hid (RelA w0 w l (some ⟨b, o, none⟩) cap O oc f now k q E of pos tot (i + 1) (st6 w5 w.heap.size (.slice ph2 n2 kh2) (.slice pr2 n2 kr2) (.int .i64 now) (.int .i64 0) (.int .i64 0) (.slice (some ⟨O, 0, none⟩) l.length oc))) :=
          ⟨grown_st6 (grown_trans HGd.out hg5) (Nat.le_refl _) _ _ _ _ _ _, Or.inl ⟨E2, W ++ W2, ph2, pr2, kh2, kr2, ⟨by rw [hn2]; exact st6_blk hB5.b3 _ _ _ _ _ _, st6_far hB5.b4 (by omega) _ _ _ _ _ _, st6_far hB5.b6 hne6 _ _ _ _ _ _⟩, by rw [ov_app]; exact hr5.st6 hB5.b3 (by decide) hww _ _ _ _ _ _, by rw [HTT.out, HD.out, hr]; show ((each _ _ E2).pre W2).pre W = _; rw [pre_pre], by have := hfine.1; omega, HGr.out.trans (hgrow _ _ hr), fun y hy => (List.mem_append.1 hy).elim (HWk.out y) (hfine.2 y)⟩⟩
        rw [← hn2]
        unfold st6 at HREL
        clear hB5 hg5 hr5 hcall hr hfine hgrow hn2
        go_wp2
        go_roundw
        case rel => exact ⟨i + 1, by omega, by go_num, HREL.out⟩
        case measure => simp [intOf]; omega
    · have hd : decide (i < cn) = false := decide_eq_false hlt
      have q0 := hB.b6.frozen 0
      have q1 := hB.b6.frozen 1
      have q2 := hB.b6.frozen 2
      have q3 := hB.b6.frozen 3
      have q4 := hB.b6.frozen 4
      have q5 := hB.b6.frozen 5
      have HTF := Lib.hid (show tot = .ok E' W by rw [htt, each_end (by have := HCN.out; omega)]; show Rs.ok E' (W ++ []) = _; rw [List.append_nil])
      clear hB hr htt hE' hGr hW hn' HR hg
      go_wp2
      have hz := st6_blk HB.out.b6 (.slice ph' n' kh') (.slice pr' n' kr') (.int .i64 nw) (.int .i64 0) (.int .i64 0) (.slice (some ⟨O, 0, none⟩) ln oc)
      obtain ⟨v0, v1, v2, v3, v4, v5⟩ := six hz
      unfold st6 at v0 v1 v2 v3 v4 v5
      refine bodyPost_ret (v := .agg #[.slice ph' n' kh', .slice pr' n' kr', .int .i64 nw, .int .i64 0, .int .i64 0, .slice (some ⟨O, 0, none⟩) ln oc]) (by simp [results, Try.results14, go_sem, v0, v1, v2, v3, v4, v5]) rfl ?_
      rw [HQ.out, HTF.out]
      exact ⟨ph', pr', kh', kr', by rw [HN'.out, HNW.out, HLN.out], grown_st6 HG.out (by omega) _ _ _ _ _ _, HRf.out.st6 HB.out.b6 (by decide) (by omega) _ _ _ _ _ _⟩
  · obtain ⟨y0, y1, y2, y3, y4, y5⟩ := six hB.b3
    obtain ⟨z0, z1, z2, z3, z4, z5⟩ := six hB.b6
    have x4 : wr.cell? ⟨w.heap.size + 1, 0, none⟩ = some (.slice (some ⟨b, o, none⟩) ln cap) := by rw [hB.b4.cell, HLN.out]; rfl
    rw [← HLN.out] at y5
    rw [← HNW.out] at y2
    have l6 := hB.b6.lt
    have l4 := hB.b4.lt
    have l3 := hB.b3.lt
    have q0 := hB.b6.frozen 0
    have q1 := hB.b6.frozen 1
    have q2 := hB.b6.frozen 2
    have q3 := hB.b6.frozen 3
    have q4 := hB.b6.frozen 4
    have q5 := hB.b6.frozen 5
    have HB := Lib.hid hB
    have HTT := Lib.hid htt
    have hlt : decide (i < cn) = true ∨ decide (i < cn) = false := by cases decide (i < cn) <;> simp
    have hlt' : i < cn ∨ ¬ i < cn := Decidable.em _
    clear hB htt HR hg hlt
    have hc0 : (c1 == 0) = false := by rcases hc1 with rfl | rfl <;> rfl
    clear hc1
    rcases hlt' with hlt | hlt
    all_goals
      go_wp2
      have hz := st6_blk HB.out.b6 (.slice ph' n' kh') (.slice pr' m' kr') (.int .i64 nw) (.int .i64 c1) (.int .i64 a1) (.slice (some ⟨O, 0, none⟩) ln oc)
      obtain ⟨v0, v1, v2, v3, v4, v5⟩ := six hz
      unfold st6 at v0 v1 v2 v3 v4 v5
      refine bodyPost_ret (v := .agg #[.slice ph' n' kh', .slice pr' m' kr', .int .i64 nw, .int .i64 c1, .int .i64 a1, .slice (some ⟨O, 0, none⟩) ln oc]) (by simp [results, Try.results14, go_sem, v0, v1, v2, v3, v4, v5]) rfl ?_
      rw [HQ.out, HTT.out]
      exact ⟨ph', pr', n', m', kh', kr', by rw [HNW.out, HLN.out], grown_st6 HG.out (by omega) _ _ _ _ _ _⟩
end Go.Proofs.Ytmghjfphlneblaa.Sc
