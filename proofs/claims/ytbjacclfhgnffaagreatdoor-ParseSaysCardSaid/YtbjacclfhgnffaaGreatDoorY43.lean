/-
  Joined texts of this claim: Lg, Jv, Lh.
-/
import Derived.Test.YtbjacclfhgnffaaGreatDoorY42
import Derived.Test.YtbjacclfhgnffaaGreatDoorY39
import Derived.Test.YtbjacclfhgnffaaGreatDoorY41
import Derived.Test.YtbjacclfhgnffaaGreatDoorY40
set_option linter.unusedVariables false
set_option linter.unusedSimpArgs false
/-
  The document's reader: list.
-/
namespace Go.Proofs.YtbjacclfhgnffaaGreatDoor
open Go.RowKit
open Tk (T4 bstr)

set_option maxHeartbeats 8000000 in
set_option maxRecDepth 10000 in
theorem list_step {E n : Nat} (s : ByteArray) (hex : ∀ m, m < n → FnB E 34 #[] (runR E m .expr)) : FnL E 81 #[.string s] (runR E (n + 1) (.list s.data.toList)) := by
  intro A w r q v hA h hf
  have H : Hid (runR E n (.listL s.data.toList true []) r = some q) := Lib.hid hf
  clear hf
  have HA := Lib.hid hA
  obtain ⟨p0, l0, m0, n0, o0, s0, z0, a0, rfl⟩ := h.parts
  have F := frN hA h; have R0 := rdN h
  clear hA h
  go_enter Tryz.func81, Tryz.ntmps81
  go_wp2
  go_loopg [6, 7] n (fun k vo vf wr => k ≤ n ∧ ∃ fb, vf = .bool fb ∧ Lw_ E A w (fun rho out => Hid (runR E k (.listL s.data.toList fb out) rho = some q)) vo wr)
  case atStart => exact ⟨Nat.le_refl _, true, rfl, _, _, _, _, _, _, _, _, _, [], none, 0, 0, rfl, H, frO F, rdO R0, owN _ _⟩
  clear F R0 H
  obtain ⟨hk, fb, rfl, rho, p1, l1, m1, n1, o1, s1, z1, a1, out, kp, kl, kc, rfl, H, F, R1, O⟩ := hrel
  cases gk with
  | zero => cases H.out
  | succ m =>
    have c := F.all
    by_cases i3 : okR rho = true
    · skip
      go_wp2_with (go_at_call 38; refine (okC R1 i3).mono ?_)
      rintro e u ⟨rfl, b⟩; replace F := frC F b; replace R1 := rdC R1 b; replace O := owC O b; clear b
      clear c; have c := F.all
      by_cases i6 : isR E s.data.toList rho = true
      · skip
        replace H := ifF H (by rw [i3, i6]; rfl)
        go_wp2_with (go_at_call 69; refine (isC R1 s i6).mono ?_)
        rintro e u ⟨rfl, b⟩; replace F := frC F b; replace R1 := rdC R1 b; replace O := owC O b; clear b
        clear c; have c := F.all
        go_wp2_with (go_at_call 71; refine (waC R1 s (l := s.data.toList) rfl).mono ?_)
        rintro e u ⟨p8, l8, m8, n8, o8, s8, z8, a8, rfl, R8, b⟩; replace F := frC F b; clear R1; replace O := owC O b; clear b
        clear c; have c := F.all
        replace O := owS O R8; replace F := frS F R8; replace R8 := rdS R8
        obtain rfl := sm H
        go_wp2
        refine finL (p := ((wantR E s.data.toList rho), _)) R8 F O HA ?_ rfl
        simp [results, Tryz.results81, go_sem, st6, c]
      · skip
        replace i6 := bfalse i6
        replace H := ifT H (by rw [i3, i6]; rfl)
        go_wp2_with (go_at_call 69; refine (isC R1 s i6).mono ?_)
        rintro e u ⟨rfl, b⟩; replace F := frC F b; replace R1 := rdC R1 b; replace O := owC O b; clear b
        clear c; have c := F.all
        cases fb
        · skip
          go_wp2_with (go_at_call 71; refine (waC R1 ⟨#[44]⟩ (l := [44]) rfl).mono ?_)
          rintro e u ⟨p8, l8, m8, n8, o8, s8, z8, a8, rfl, R8, b⟩; replace F := frC F b; replace R1 := rdC R1 b; replace O := owC O b; clear b
          clear c; have c := F.all
          clear R1; replace O := owR O R8; replace F := frR F R8; replace R8 := rdR R8
          replace H := bnd H; obtain ⟨q9, h9, H⟩ := H
          go_wp2_with (go_at_call 34; refine (fbC (hex m (by omega)) F R8 h9).mono ?_)
          rintro e u ⟨p9, l9, m9, n9, o9, s9, z9, a9, rfl, R9, b⟩; replace F := frC F b; replace R8 := rdC R8 b; replace O := owC O b; clear b
          clear c; have c := F.all
          clear R8; replace O := owR O R9; replace F := frR F R9; replace R9 := rdR R9
          replace H := ifN H; obtain ⟨hl, H⟩ := H; replace hl := Nat.lt_of_not_le hl
          go_wp2_with (at_builtin; refine apE F R9 O hl (h := u.heap.size) (by simp [st6, World.setCell]) rfl _ _ rfl rfl rfl fun g cap u2 F2 R2 O2 => ?_)
          clear F R9 O; have F := F2; have R9 := R2; have O := O2; clear F2 R2 O2
          go_wp2
          go_roundg m
          case rel => exact ⟨by omega, _, rfl, _, _, _, _, _, _, _, _, _, _, _, _, _, rfl, H, F, R9, O⟩
          case measure => omega
        · skip
          replace H := bnd H; obtain ⟨q8, h8, H⟩ := H
          go_wp2_with (go_at_call 34; refine (fbC (hex m (by omega)) F R1 h8).mono ?_)
          rintro e u ⟨p8, l8, m8, n8, o8, s8, z8, a8, rfl, R8, b⟩; replace F := frC F b; replace R1 := rdC R1 b; replace O := owC O b; clear b
          clear c; have c := F.all
          clear R1; replace O := owR O R8; replace F := frR F R8; replace R8 := rdR R8
          replace H := ifN H; obtain ⟨hl, H⟩ := H; replace hl := Nat.lt_of_not_le hl
          go_wp2_with (at_builtin; refine apE F R8 O hl (h := u.heap.size) (by simp [st6, World.setCell]) rfl _ _ rfl rfl rfl fun g cap u2 F2 R2 O2 => ?_)
          clear F R8 O; have F := F2; have R8 := R2; have O := O2; clear F2 R2 O2
          go_wp2
          go_roundg m
          case rel => exact ⟨by omega, _, rfl, _, _, _, _, _, _, _, _, _, _, _, _, _, rfl, H, F, R8, O⟩
          case measure => omega
    · skip
      replace i3 := bfalse i3
      replace H := ifF H (by rw [i3]; rfl)
      go_wp2_with (go_at_call 38; refine (okC R1 i3).mono ?_)
      rintro e u ⟨rfl, b⟩; replace F := frC F b; replace R1 := rdC R1 b; replace O := owC O b; clear b
      clear c; have c := F.all
      go_wp2_with (go_at_call 71; refine (waC R1 s (l := s.data.toList) rfl).mono ?_)
      rintro e u ⟨p5, l5, m5, n5, o5, s5, z5, a5, rfl, R5, b⟩; replace F := frC F b; clear R1; replace O := owC O b; clear b
      clear c; have c := F.all
      replace O := owS O R5; replace F := frS F R5; replace R5 := rdS R5
      obtain rfl := sm H
      go_wp2
      refine finL (p := ((wantR E s.data.toList rho), _)) R5 F O HA ?_ rfl
      simp [results, Tryz.results81, go_sem, st6, c]
end Go.Proofs.YtbjacclfhgnffaaGreatDoor
/-
  The document's reader: done, where it is a tree.
-/
namespace Go.Proofs.YtbjacclfhgnffaaGreatDoor
open Go.RowKit
open Tk (T4 bstr)
open Tr (Nd Blk KidsAt NodeAt ret_bool)

theorem code_bare (l : List Nd) : Tr.codeAt ((l.map bare).map ndOf) = Tr.codeAt l := by
  rw [List.map_map]
  refine codeAt_map (f := ndOf ∘ bare) (fun x => ?_) (fun x => ?_) (fun x => ?_) l
  · show (ndOf (bare x)).k = _; rw [nd_bare]
  · show (ndOf (bare x)).c = _; rw [nd_bare]
  · show Tr.fieldC (ndOf (bare x)) = _; rw [nd_bare]; rfl
theorem Dp_bare (l : List Nd) : Tr.Dp ((l.map bare).map ndOf) = Tr.Dp l := by
  rw [List.map_map]
  refine Dp_map (f := ndOf ∘ bare) (fun x => ?_) l
  show (ndOf (bare x)).c = _; rw [nd_bare]
set_option maxHeartbeats 8000000 in
set_option maxRecDepth 10000 in
theorem done_ok {E j : Nat} {A : Nat → Prop} {w : World} {r : Rs} {v : Value} (h : RdAt E A w r v) (hc : r.c = 0) (hL : r.L = []) (hn : r.N.length = j + 1) (hj : j + 1 ≤ 600) (hcode : ∀ i, i ≤ j → Tr.codeAt (r.N.map ndOf) i = 0) (hd : Tr.Dp (r.N.map ndOf) j ≤ 40) :
    Calls Tryz.prog 35 #[v] w fun e w' => ∃ p cap ns, e = .returned (.tuple #[.agg #[.slice p (j + 1) cap], .agg #[.int .i64 0, .int .i64 0]]) ∧ NdA A w' p ns ∧ ns.length = j + 1 ∧ ns.map bare = r.N ∧ j + 1 ≤ cap ∧ (∀ x, x ∈ r.N → x.c.length ≤ 5000000) ∧ Below w.heap.size w w' := by
  obtain ⟨pn, cn, pl, cl, ns, rfl, h1, h2, h3, h4, h5⟩ := h
  have h : RdAt E A w r (rdV pn r.N.length cn pl r.L.length cl E r.c r.a r.top) := ⟨pn, cn, pl, cl, ns, rfl, h1, h2, h3, h4, h5⟩
  have hok : okR r = true := decide_eq_true hc
  have hokc := fun w2 => RdAt.okb h hok w2
  have hlen : ns.length = j + 1 := by rw [← hn, ← h5.2.1, List.length_map]
  have hmap := h5.2.1
  obtain ⟨b, o, rfl, hb, hnA, hnd⟩ := h5.1.1 (by omega)
  have hkid := h5.1.tr.2
  have hg : ∀ i, i ≤ j → Tr.codeAt ns i = 0 := fun i hi => by rw [← code_bare ns, hmap]; exact hcode i hi
  have hDp : Tr.Dp (r.N.map ndOf) j = Tr.Dp ns j := by rw [← hmap, Dp_bare]
  have HD : Hid (∀ W, Below w.heap.size w W → Calls Tryz.prog 50 #[.agg #[.slice (some ⟨b, o, none⟩) (j + 1) cn], .int .i64 j] W fun e w' => e = .returned (.int .i64 (Tr.Dp ns j)) ∧ Below W.heap.size W w') := fun W hW => by
    have := Tr.deep_any ns b o cn (by omega) j W (by omega) hg (Nat.lt_of_lt_of_le hb hW.size) (fun i hi => (hnd i hi).below hW hb) (fun i hi => (hkid i hi).below hW)
    rw [hlen] at this
    exact this
  rw [hn, hL, hc] at hokc
  rw [hn, hL, hc]
  rw [hDp] at hd
  obtain ⟨d, hdd⟩ : ∃ d, d = Tr.Dp ns j := ⟨_, rfl⟩
  rw [← hdd] at HD hd
  obtain ⟨ra, hra⟩ : ∃ a, a = r.a := ⟨_, rfl⟩
  obtain ⟨top, htop⟩ : ∃ a, a = r.top := ⟨_, rfl⟩
  rw [← hra, ← htop] at hokc ⊢
  unfold rdV at hokc ⊢
  have HOK := Lib.hid hokc
  have hd2 : decide ((40 : Int) < (d : Int)) = false := by simp; omega
  have HT : Hid (∀ W, Below w.heap.size w W → NdA A W (some ⟨b, o, none⟩) ns) := fun W hW => h5.1.agr (.below hW)
  have HF : Hid (ns.length = j + 1 ∧ ns.map bare = r.N ∧ j + 1 ≤ cn ∧ ∀ x, x ∈ r.N → x.c.length ≤ 5000000) := ⟨hlen, hmap, by rw [← hn]; exact h5.2.2.1, h5.2.2.2.2.1⟩
  clear h h1 h2 h3 h4 h5 hlen hmap hb hnA hnd hkid hg hDp hdd hra htop hcode hok hokc hn hL hc
  have hj6 : (j : Int) + 1 ≤ 600 := by omega
  go_enter Tryz.func35, Tryz.ntmps35
  go_wp2_with (go_at_call 38; refine (HOK.out _).mono ?_)
  first | rintro e w1 rfl hb1 | rintro e w1 ⟨rfl, hb1⟩
  obtain ⟨B1_1, B2_1, B3_1, HB1⟩ := keep3 hb1
  obtain ⟨r_0, r_1, r_2, r_3, r_4, r_5, r_6⟩ := six B1_1
  obtain ⟨q_0, q_1, q_2⟩ := one1 B2_1
  obtain ⟨s_0, s_1, s_2, s_3, s_4⟩ := two2 B3_1
  go_wp2_with (go_at_call 38; refine (HOK.out _).mono ?_)
  first | rintro e w2 rfl hb2 | rintro e w2 ⟨rfl, hb2⟩
  have B1_2 := B1_1.below hb2 B1_1.lt
  have B2_2 := B2_1.below hb2 B2_1.lt
  have B3_2 := B3_1.below hb2 B3_1.lt
  have HB2 := HB1.trans (hb2.mono HB1.size)
  clear r_0 r_1 r_2 r_3 r_4 r_5 r_6 q_0 q_1 q_2 s_0 s_1 s_2 s_3 s_4
  obtain ⟨r_0, r_1, r_2, r_3, r_4, r_5, r_6⟩ := six B1_2
  obtain ⟨q_0, q_1, q_2⟩ := one1 B2_2
  obtain ⟨s_0, s_1, s_2, s_3, s_4⟩ := two2 B3_2
  have T3 := Blk.new w2 24 #[.slice (some ⟨b, o, none⟩) (j + 1) cn]
  have HX2 := HB2.alloc HB2.size (.cells #[.slice (some ⟨b, o, none⟩) (j + 1) cn] 24)
  go_wp2_with (go_at_call 50; refine (HD.out _ HX2).mono ?_)
  first | rintro e w3 rfl hb3 | rintro e w3 ⟨rfl, hb3⟩
  have B1_3 := (B1_2.alloc (.cells #[.slice (some ⟨b, o, none⟩) (j + 1) cn] 24)).below hb3 (B1_2.alloc _).lt
  have B2_3 := (B2_2.alloc (.cells #[.slice (some ⟨b, o, none⟩) (j + 1) cn] 24)).below hb3 (B2_2.alloc _).lt
  have B3_3 := (B3_2.alloc (.cells #[.slice (some ⟨b, o, none⟩) (j + 1) cn] 24)).below hb3 (B3_2.alloc _).lt
  have B4_3 := T3.below hb3 T3.lt
  have HB3 := HX2.trans (hb3.mono HX2.size)
  clear r_0 r_1 r_2 r_3 r_4 r_5 r_6 q_0 q_1 q_2 s_0 s_1 s_2 s_3 s_4 hb1 hb2 hb3
  obtain ⟨q_0, q_1, q_2⟩ := one1 B2_3
  obtain ⟨s_0, s_1, s_2, s_3, s_4⟩ := two2 B3_3
  obtain ⟨t_0, t_1, t_2⟩ := one1 B4_3
  go_wp2
  have HBE : Hid (Below w.heap.size w (((w3.setCell ⟨w.heap.size + 1, 0, none⟩ (.slice (some ⟨b, o, none⟩) (j + 1) cn)).setCell ⟨w.heap.size + 1 + 1, 0, none⟩ (.int .i64 0)).setCell ⟨w.heap.size + 1 + 1, 1, none⟩ (.int .i64 0))) :=
    ((HB3.setCell (p := ⟨w.heap.size + 1, 0, none⟩) (Nat.le_succ _) _).setCell (p := ⟨w.heap.size + 1 + 1, 0, none⟩) (by simp; omega) _).setCell (p := ⟨w.heap.size + 1 + 1, 1, none⟩) (by simp; omega) _
  refine bodyPost_ret (v := .tuple #[.agg #[.slice (some ⟨b, o, none⟩) (j + 1) cn], .agg #[.int .i64 0, .int .i64 0]]) (by simp [results, Tryz.results35, go_sem, q_0, q_1, q_2, s_0, s_1, s_2, s_3, s_4]) rfl ?_
  exact ⟨some ⟨b, o, none⟩, cn, ns, rfl, HT.out _ HBE.out, HF.out.1, HF.out.2.1, HF.out.2.2.1, HF.out.2.2.2, HBE.out⟩
set_option maxHeartbeats 8000000 in
set_option maxRecDepth 10000 in
theorem done_deep {E j : Nat} {A : Nat → Prop} {w : World} {r : Rs} {v : Value} (h : RdAt E A w r v) (hc : r.c = 0) (hL : r.L = []) (hn : r.N.length = j + 1) (hj : j + 1 ≤ 600) (hcode : ∀ i, i ≤ j → Tr.codeAt (r.N.map ndOf) i = 0) (hd : 40 < Tr.Dp (r.N.map ndOf) j) :
    Calls Tryz.prog 35 #[v] w (DnP none 0 0 10 0 w) := by
  obtain ⟨pn, cn, pl, cl, ns, rfl, h1, h2, h3, h4, h5⟩ := h
  have h : RdAt E A w r (rdV pn r.N.length cn pl r.L.length cl E r.c r.a r.top) := ⟨pn, cn, pl, cl, ns, rfl, h1, h2, h3, h4, h5⟩
  have hok : okR r = true := decide_eq_true hc
  have hokc := fun w2 => RdAt.okb h hok w2
  have hlen : ns.length = j + 1 := by rw [← hn, ← h5.2.1, List.length_map]
  have hmap := h5.2.1
  obtain ⟨b, o, rfl, hb, hnA, hnd⟩ := h5.1.1 (by omega)
  have hkid := h5.1.tr.2
  have hg : ∀ i, i ≤ j → Tr.codeAt ns i = 0 := fun i hi => by rw [← code_bare ns, hmap]; exact hcode i hi
  have hDp : Tr.Dp (r.N.map ndOf) j = Tr.Dp ns j := by rw [← hmap, Dp_bare]
  have HD : Hid (∀ W, Below w.heap.size w W → Calls Tryz.prog 50 #[.agg #[.slice (some ⟨b, o, none⟩) (j + 1) cn], .int .i64 j] W fun e w' => e = .returned (.int .i64 (Tr.Dp ns j)) ∧ Below W.heap.size W w') := fun W hW => by
    have := Tr.deep_any ns b o cn (by omega) j W (by omega) hg (Nat.lt_of_lt_of_le hb hW.size) (fun i hi => (hnd i hi).below hW hb) (fun i hi => (hkid i hi).below hW)
    rw [hlen] at this
    exact this
  rw [hn, hL, hc] at hokc
  rw [hn, hL, hc]
  rw [hDp] at hd
  obtain ⟨d, hdd⟩ : ∃ d, d = Tr.Dp ns j := ⟨_, rfl⟩
  rw [← hdd] at HD hd
  obtain ⟨ra, hra⟩ : ∃ a, a = r.a := ⟨_, rfl⟩
  obtain ⟨top, htop⟩ : ∃ a, a = r.top := ⟨_, rfl⟩
  rw [← hra, ← htop] at hokc ⊢
  unfold rdV at hokc ⊢
  have HOK := Lib.hid hokc
  have hd2 : decide ((40 : Int) < (d : Int)) = true := by simp; omega
  clear h h1 h2 h3 h4 h5 hlen hmap hb hnA hnd hkid hg hDp hdd hra htop hcode hok hokc hn hL hc
  have hj6 : (j : Int) + 1 ≤ 600 := by omega
  go_enter Tryz.func35, Tryz.ntmps35
  go_wp2_with (go_at_call 38; refine (HOK.out _).mono ?_)
  first | rintro e w1 rfl hb1 | rintro e w1 ⟨rfl, hb1⟩
  obtain ⟨B1_1, B2_1, B3_1, HB1⟩ := keep3 hb1
  obtain ⟨r_0, r_1, r_2, r_3, r_4, r_5, r_6⟩ := six B1_1
  obtain ⟨q_0, q_1, q_2⟩ := one1 B2_1
  obtain ⟨s_0, s_1, s_2, s_3, s_4⟩ := two2 B3_1
  go_wp2_with (go_at_call 38; refine (HOK.out _).mono ?_)
  first | rintro e w2 rfl hb2 | rintro e w2 ⟨rfl, hb2⟩
  have B1_2 := B1_1.below hb2 B1_1.lt
  have B2_2 := B2_1.below hb2 B2_1.lt
  have B3_2 := B3_1.below hb2 B3_1.lt
  have HB2 := HB1.trans (hb2.mono HB1.size)
  clear r_0 r_1 r_2 r_3 r_4 r_5 r_6 q_0 q_1 q_2 s_0 s_1 s_2 s_3 s_4
  obtain ⟨r_0, r_1, r_2, r_3, r_4, r_5, r_6⟩ := six B1_2
  obtain ⟨q_0, q_1, q_2⟩ := one1 B2_2
  obtain ⟨s_0, s_1, s_2, s_3, s_4⟩ := two2 B3_2
  have T3 := Blk.new w2 24 #[.slice (some ⟨b, o, none⟩) (j + 1) cn]
  have HX2 := HB2.alloc HB2.size (.cells #[.slice (some ⟨b, o, none⟩) (j + 1) cn] 24)
  go_wp2_with (go_at_call 50; refine (HD.out _ HX2).mono ?_)
  first | rintro e w3 rfl hb3 | rintro e w3 ⟨rfl, hb3⟩
  have B1_3 := (B1_2.alloc (.cells #[.slice (some ⟨b, o, none⟩) (j + 1) cn] 24)).below hb3 (B1_2.alloc _).lt
  have B2_3 := (B2_2.alloc (.cells #[.slice (some ⟨b, o, none⟩) (j + 1) cn] 24)).below hb3 (B2_2.alloc _).lt
  have B3_3 := (B3_2.alloc (.cells #[.slice (some ⟨b, o, none⟩) (j + 1) cn] 24)).below hb3 (B3_2.alloc _).lt
  have B4_3 := T3.below hb3 T3.lt
  have HB3 := HX2.trans (hb3.mono HX2.size)
  clear r_0 r_1 r_2 r_3 r_4 r_5 r_6 q_0 q_1 q_2 s_0 s_1 s_2 s_3 s_4 hb1 hb2 hb3
  obtain ⟨q_0, q_1, q_2⟩ := one1 B2_3
  obtain ⟨s_0, s_1, s_2, s_3, s_4⟩ := two2 B3_3
  obtain ⟨t_0, t_1, t_2⟩ := one1 B4_3
  go_wp2_with (go_at_call 47; refine (Tk.fault_any _ _ _).mono ?_)
  first | rintro e w4 rfl rfl | rintro e w4 ⟨rfl, rfl⟩
  have D2 := Lib.hid (B2_3.alloc (.cells #[.int .i64 10, .int .i64 0] 26))
  have D3 := Lib.hid (B3_3.alloc (.cells #[.int .i64 10, .int .i64 0] 26))
  have DX := Lib.hid (HB3.alloc HB3.size (.cells #[.int .i64 10, .int .i64 0] 26))
  clear q_0 q_1 q_2 s_0 s_1 s_2 s_3 s_4 t_0 t_1 t_2 B1_1 B2_1 B3_1 B1_2 B2_2 B3_2 B1_3 B2_3 B3_3 B4_3 HB1 HB2 HB3 T3 HX2
  generalize w3.alloc (.cells #[.int .i64 10, .int .i64 0] 26) = W at *
  obtain ⟨q_0, q_1, q_2⟩ := one1 D2.out
  obtain ⟨s_0, s_1, s_2, s_3, s_4⟩ := two2 D3.out
  go_wp2
  refine bodyPost_ret (v := .tuple #[.agg #[.slice none 0 0], .agg #[.int .i64 10, .int .i64 0]]) (by simp [results, Tryz.results35, go_sem, q_0, q_1, q_2, s_0, s_1, s_2, s_3, s_4]) rfl ?_
  refine ⟨rfl, ?_⟩
  exact ((DX.out.setCell (p := ⟨w.heap.size + 1, 0, none⟩) (Nat.le_succ _) _).setCell (p := ⟨w.heap.size + 1 + 1, 0, none⟩) (by simp; omega) _).setCell (p := ⟨w.heap.size + 1 + 1, 1, none⟩) (by simp; omega) _
end Go.Proofs.YtbjacclfhgnffaaGreatDoor
/-
  The document's reader: expressions, by induction on the number of steps.
-/
namespace Go.Proofs.YtbjacclfhgnffaaGreatDoor
open Go.RowKit

structure FJ (E n : Nat) : Prop where
  expr : FnB E 34 #[] (runR E n .expr)
  level : ∀ low : Int, 0 ≤ low → FnB E 67 #[.int .i64 low] (runR E n (.level low.toNat))
  ahead : FnB E 119 #[] (runR E n .ahead)
  behind : FnB E 167 #[] (runR E n .behind)
  first : FnB E 202 #[] (runR E n .first)
  list : ∀ s : ByteArray, FnL E 81 #[.string s] (runR E n (.list s.data.toList))
theorem fj_all (E : Nat) : ∀ n, FJ E n := by
  intro n
  induction n using Nat.strongRecOn with
  | _ n ih =>
    cases n with
    | zero => exact ⟨fun _ _ _ _ _ _ _ hf => by (cases hf), fun _ _ _ _ _ _ _ _ _ hf => by (cases hf), fun _ _ _ _ _ _ _ hf => by (cases hf), fun _ _ _ _ _ _ _ hf => by (cases hf), fun _ _ _ _ _ _ _ hf => by (cases hf), fun _ _ _ _ _ _ _ _ hf => by (cases hf)⟩
    | succ n =>
      have h := ih n (Nat.lt_succ_self n)
      exact ⟨rexpr_step h.level h.expr, fun low hlo => level_step h.ahead (fun m hm => (ih m (by omega)).level) low hlo, ahead_step h.ahead h.behind,
        behind_step h.first fun m hm => (ih m (by omega)).expr, first_step (h.list ⟨#[41]⟩) h.expr, fun s => list_step s fun m hm => (ih m (by omega)).expr⟩
def fnJ (E n : Nat) (j : RJ) (r : Rs) : Option Rs := (runR E n j r).map (·.1)
theorem fnJ_some {E n : Nat} {j : RJ} {r r' : Rs} : fnJ E n j r = some r' ↔ ∃ l, runR E n j r = some (r', l) := by
  unfold fnJ
  constructor
  · intro h
    cases hr : runR E n j r with
    | none => rw [hr] at h; cases h
    | some q => rw [hr] at h; injection h with h; exact ⟨q.2, by rw [← h]⟩
  · rintro ⟨l, h⟩; rw [h]; rfl
theorem fjA (E n : Nat) : FnA E 34 #[] (fnJ E n .expr) := fun A w r r' v hA h hf => by
  obtain ⟨l, hl⟩ := fnJ_some.1 hf
  exact (fj_all E n).expr A w r (r', l) v hA h hl
end Go.Proofs.YtbjacclfhgnffaaGreatDoor
