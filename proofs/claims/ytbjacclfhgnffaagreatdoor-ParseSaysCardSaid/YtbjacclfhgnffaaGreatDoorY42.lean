/-
  Joined texts of this claim: Lb, Le, Lk.
-/
import Derived.Test.YtbjacclfhgnffaaGreatDoorY40
import Derived.Deep.AppendLies
set_option linter.unusedVariables false
set_option linter.unusedSimpArgs false
/-
  The document's reader: behind.
-/
namespace Go.Proofs.YtbjacclfhgnffaaGreatDoor
open Go.RowKit
open Tk (T4 bstr)

set_option maxHeartbeats 8000000 in
set_option maxRecDepth 10000 in
theorem behind_step {E n : Nat} (hfi : FnB E 202 #[] (runR E n .first)) (hex : ∀ m, m < n → FnB E 34 #[] (runR E m .expr)) : FnB E 167 #[] (runR E (n + 1) .behind) := by
  intro A w r q v hA h hf
  have H : Hid (stepR E (runR E n) .behind r = some q) := Lib.hid hf
  clear hf
  obtain ⟨p0, l0, m0, n0, o0, s0, z0, a0, rfl⟩ := h.parts
  have F := frN hA h; have R0 := rdN h
  clear hA h
  go_enter Tryz.func167, Tryz.ntmps167
  replace H := bnd H; obtain ⟨q1, h1, H⟩ := H
  go_wp2_with (go_at_call 202; refine (fbC hfi F R0 h1).mono ?_)
  rintro e u ⟨p1, l1, m1, n1, o1, s1, z1, a1, rfl, R1, b⟩; replace F := frC F b; replace R0 := rdC R0 b; clear b
  have c := F.all
  clear R0; replace F := frR F R1; replace R1 := rdR R1
  go_wp2
  clear c
  go_loopg [] n (fun k wr => k ≤ n ∧ Lp E A w (fun rho => Hid (runR E k .behindL rho = some q)) wr)
  case atStart => exact ⟨Nat.le_refl _, _, _, _, _, _, _, _, _, _, H, F, R1⟩
  clear F R1 H
  obtain ⟨hk, rho, p2, l2, m2, n2, o2, s2, z2, a2, H, F, R2⟩ := hrel
  cases gk with
  | zero => cases H.out
  | succ m =>
    have c := F.all
    by_cases i4 : isR E [91] rho = true
    · skip
      replace H := ifT H (by simp [i4])
      replace H := ifT H i4
      go_wp2_with (go_at_call 69; refine (isC R2 ⟨#[91]⟩ i4).mono ?_)
      rintro e u ⟨rfl, b⟩; replace F := frC F b; replace R2 := rdC R2 b; clear b
      clear c; have c := F.all
      go_wp2_with (go_at_call 68; refine (pkC R2).mono ?_)
      rintro e u ⟨k6, x6, y6, t6, rfl, T6, b⟩; replace F := frC F b; replace R2 := rdC R2 b; clear b
      clear c; have c := F.all
      have B7 := tbN F k6 y6 t6 x6; have N7 := B7.n
      replace F := frA F (.cells #[.int .i64 k6, .string x6, .int .i64 y6, .int .i64 t6] 82); replace R2 := rdA R2 (.cells #[.int .i64 k6, .string x6, .int .i64 y6, .int .i64 t6] 82)
      go_wp2_with (go_at_call 69; refine (isC R2 ⟨#[91]⟩ i4).mono ?_)
      rintro e u ⟨rfl, b⟩; replace F := frC F b; replace B7 := tbC B7 b; replace R2 := rdC R2 b; clear b
      clear c; have c := F.all; have cB7 := B7.all
      go_wp2_with (go_at_call 70; refine (skC R2).mono ?_)
      rintro e u ⟨p9, l9, m9, n9, o9, s9, z9, a9, rfl, R9, b⟩; replace F := frC F b; replace B7 := tbC B7 b; replace R2 := rdC R2 b; clear b
      clear c; have c := F.all; clear cB7; have cB7 := B7.all
      replace H := bnd H; obtain ⟨q10, h10, H⟩ := H
      go_wp2_with (go_at_call 34; refine (fbC (hex m (by omega)) F R9 h10).mono ?_)
      rintro e u ⟨p10, l10, m10, n10, o10, s10, z10, a10, rfl, R10, b⟩; replace F := frC F b; clear R9; replace B7 := tbC B7 b; replace R2 := rdC R2 b; clear b
      clear c; have c := F.all; clear cB7; have cB7 := B7.all
      replace B7 := tbR B7 R10; clear R2; replace F := frR F R10; replace R10 := rdR R10
      go_wp2
      replace F := frD F; replace B7 := tbD B7; replace R10 := rdD R10
      refine rg 9 (S := fun W => Q6 _ _ _ _ _ _ _ W ∧ Q4 _ _ _ _ _ W) ⟨F.held, B7.held⟩ fun hW => ?_
      refine tks hW [0, 2, 3, 4, 5, 6] (n := 4) (by kernel_rfl) ?_
      iterate 6 (refine ⟨?_, _, rfl, rfl, fun W hW => ?_, ?_⟩; rotate_left; · (simp only [Q6, Q4] at hW; go_simp; (try with_reducible rfl)))
      (try simp only [Tks, marks, Act.put, List.setIfInBounds_toArray, List.set_cons_zero, List.set_cons_succ])
      refine rdy 1 (by kernel_rfl) rfl fun K hK => ?_
      go_simp
      refine (waC R10 ⟨#[93]⟩ (l := [93]) rfl).mono ?_
      rintro e u ⟨p11, l11, m11, n11, o11, s11, z11, a11, rfl, R11, b⟩; replace F := frC F b; replace B7 := tbC B7 b; replace R10 := rdC R10 b; clear b
      clear c; have c := F.all; clear cB7; have cB7 := B7.all
      (try go_wp2_with fail)
      refine hK.out _ _ ⟨F.held, B7.held⟩ fun hW => ?_
      clear hK K
      (try simp only [Tks, marks, Act.put, List.setIfInBounds_toArray, List.set_cons_zero, List.set_cons_succ])
      refine rdy 7 (by kernel_rfl) rfl fun K hK => ?_
      go_simp
      refine (twoC F _ _).mono ?_
      rintro e u ⟨p12, rfl, L12, b⟩; replace F := frC F b; replace B7 := tbC B7 b; replace R10 := rdC R10 b; replace R11 := rdC R11 b; clear b
      clear c; have c := F.all; clear cB7; have cB7 := B7.all
      (try go_wp2_with fail)
      refine hK.out _ _ ⟨F.held, B7.held⟩ fun hW => ?_
      clear hK K
      (try simp only [Tks, marks, Act.put, List.setIfInBounds_toArray, List.set_cons_zero, List.set_cons_succ])
      replace H := bnd H; obtain ⟨q13, h13, H⟩ := H
      refine rdy 8 (by kernel_rfl) rfl fun K hK => ?_
      go_simp
      refine (adC F R11 L12 34 0 0 _ ⟨#[]⟩ rfl rfl (ta_ T6) h13).mono ?_
      rintro e u ⟨p13, l13, m13, n13, o13, s13, z13, a13, rfl, R13, b⟩; replace F := frC F b; clear R11; clear L12; replace B7 := tbC B7 b; replace R10 := rdC R10 b; clear b
      clear c; have c := F.all; clear cB7; have cB7 := B7.all
      (try go_wp2_with fail)
      refine hK.out _ _ ⟨F.held, B7.held⟩ fun hW => ?_
      clear hK K
      (try simp only [Tks, marks, Act.put, List.setIfInBounds_toArray, List.set_cons_zero, List.set_cons_succ])
      refine rdl (by kernel_rfl) (by kernel_rfl) rfl fun K hK => ?_
      go_simp
      replace B7 := tbR B7 R13; clear R10; replace F := frR F R13; replace R13 := rdR R13
      refine hK.out _ _ ?_
      clear hK K
      go_wp2
      go_roundg m
      case rel => exact ⟨by omega, _, _, _, _, _, _, _, _, _, H, F, R13⟩
      case measure => omega
    · skip
      replace i4 := bfalse i4
      go_wp2_with (go_at_call 69; refine (isC R2 ⟨#[91]⟩ i4).mono ?_)
      rintro e u ⟨rfl, b⟩; replace F := frC F b; replace R2 := rdC R2 b; clear b
      clear c; have c := F.all
      by_cases i7 : isR E [43, 43] rho = true
      · skip
        replace H := ifT H (by simp [i4, i7])
        replace H := ifF H i4
        go_wp2_with (go_at_call 69; refine (isC R2 ⟨#[43, 43]⟩ i7).mono ?_)
        rintro e u ⟨rfl, b⟩; replace F := frC F b; replace R2 := rdC R2 b; clear b
        clear c; have c := F.all
        go_wp2_with (go_at_call 68; refine (pkC R2).mono ?_)
        rintro e u ⟨k9, x9, y9, t9, rfl, T9, b⟩; replace F := frC F b; replace R2 := rdC R2 b; clear b
        clear c; have c := F.all
        have B10 := tbN F k9 y9 t9 x9; have N10 := B10.n
        replace F := frA F (.cells #[.int .i64 k9, .string x9, .int .i64 y9, .int .i64 t9] 82); replace R2 := rdA R2 (.cells #[.int .i64 k9, .string x9, .int .i64 y9, .int .i64 t9] 82)
        go_wp2_with (go_at_call 69; refine (isC R2 ⟨#[91]⟩ i4).mono ?_)
        rintro e u ⟨rfl, b⟩; replace F := frC F b; replace B10 := tbC B10 b; replace R2 := rdC R2 b; clear b
        clear c; have c := F.all; have cB10 := B10.all
        go_wp2
        replace F := frD F; replace B10 := tbD B10; replace R2 := rdD R2
        refine rg 10 (S := fun W => Q6 _ _ _ _ _ _ _ W ∧ Q4 _ _ _ _ _ W) ⟨F.held, B10.held⟩ fun hW => ?_
        refine tks hW [0, 2, 3, 4, 5, 6, 7] (n := 4) (by kernel_rfl) ?_
        iterate 7 (refine ⟨?_, _, rfl, rfl, fun W hW => ?_, ?_⟩; rotate_left; · (simp only [Q6, Q4] at hW; go_simp; (try with_reducible rfl)))
        (try simp only [Tks, marks, Act.put, List.setIfInBounds_toArray, List.set_cons_zero, List.set_cons_succ])
        refine rdy 1 (by kernel_rfl) rfl fun K hK => ?_
        go_simp
        refine (skC R2).mono ?_
        rintro e u ⟨p12, l12, m12, n12, o12, s12, z12, a12, rfl, R12, b⟩; replace F := frC F b; replace B10 := tbC B10 b; replace R2 := rdC R2 b; clear b
        clear c; have c := F.all; clear cB10; have cB10 := B10.all
        (try go_wp2_with fail)
        refine hK.out _ _ ⟨F.held, B10.held⟩ fun hW => ?_
        clear hK K
        (try simp only [Tks, marks, Act.put, List.setIfInBounds_toArray, List.set_cons_zero, List.set_cons_succ])
        refine rdy 8 (by kernel_rfl) rfl fun K hK => ?_
        go_simp
        refine (oneC F _).mono ?_
        rintro e u ⟨p13, rfl, L13, b⟩; replace F := frC F b; replace B10 := tbC B10 b; replace R2 := rdC R2 b; replace R12 := rdC R12 b; clear b
        clear c; have c := F.all; clear cB10; have cB10 := B10.all
        (try go_wp2_with fail)
        refine hK.out _ _ ⟨F.held, B10.held⟩ fun hW => ?_
        clear hK K
        (try simp only [Tks, marks, Act.put, List.setIfInBounds_toArray, List.set_cons_zero, List.set_cons_succ])
        replace H := bnd H; obtain ⟨q14, h14, H⟩ := H
        refine rdy 9 (by kernel_rfl) rfl fun K hK => ?_
        go_simp
        refine (adC F R12 L13 40 1 0 _ x9 (tx_ T9) rfl (ta_ T9) h14).mono ?_
        rintro e u ⟨p14, l14, m14, n14, o14, s14, z14, a14, rfl, R14, b⟩; replace F := frC F b; clear R12; clear L13; replace B10 := tbC B10 b; replace R2 := rdC R2 b; clear b
        clear c; have c := F.all; clear cB10; have cB10 := B10.all
        (try go_wp2_with fail)
        refine hK.out _ _ ⟨F.held, B10.held⟩ fun hW => ?_
        clear hK K
        (try simp only [Tks, marks, Act.put, List.setIfInBounds_toArray, List.set_cons_zero, List.set_cons_succ])
        refine rdl (by kernel_rfl) (by kernel_rfl) rfl fun K hK => ?_
        go_simp
        replace B10 := tbR B10 R14; clear R2; replace F := frR F R14; replace R14 := rdR R14
        refine hK.out _ _ ?_
        clear hK K
        go_wp2
        go_roundg m
        case rel => exact ⟨by omega, _, _, _, _, _, _, _, _, _, H, F, R14⟩
        case measure => omega
      · skip
        replace i7 := bfalse i7
        go_wp2_with (go_at_call 69; refine (isC R2 ⟨#[43, 43]⟩ i7).mono ?_)
        rintro e u ⟨rfl, b⟩; replace F := frC F b; replace R2 := rdC R2 b; clear b
        clear c; have c := F.all
        by_cases i10 : isR E [45, 45] rho = true
        · skip
          replace H := ifT H (by simp [i4, i7, i10])
          replace H := ifF H i4
          go_wp2_with (go_at_call 69; refine (isC R2 ⟨#[45, 45]⟩ i10).mono ?_)
          rintro e u ⟨rfl, b⟩; replace F := frC F b; replace R2 := rdC R2 b; clear b
          clear c; have c := F.all
          go_wp2_with (go_at_call 68; refine (pkC R2).mono ?_)
          rintro e u ⟨k12, x12, y12, t12, rfl, T12, b⟩; replace F := frC F b; replace R2 := rdC R2 b; clear b
          clear c; have c := F.all
          have B13 := tbN F k12 y12 t12 x12; have N13 := B13.n
          replace F := frA F (.cells #[.int .i64 k12, .string x12, .int .i64 y12, .int .i64 t12] 82); replace R2 := rdA R2 (.cells #[.int .i64 k12, .string x12, .int .i64 y12, .int .i64 t12] 82)
          go_wp2_with (go_at_call 69; refine (isC R2 ⟨#[91]⟩ i4).mono ?_)
          rintro e u ⟨rfl, b⟩; replace F := frC F b; replace B13 := tbC B13 b; replace R2 := rdC R2 b; clear b
          clear c; have c := F.all; have cB13 := B13.all
          go_wp2
          replace F := frD F; replace B13 := tbD B13; replace R2 := rdD R2
          refine rg 10 (S := fun W => Q6 _ _ _ _ _ _ _ W ∧ Q4 _ _ _ _ _ W) ⟨F.held, B13.held⟩ fun hW => ?_
          refine tks hW [0, 2, 3, 4, 5, 6, 7] (n := 4) (by kernel_rfl) ?_
          iterate 7 (refine ⟨?_, _, rfl, rfl, fun W hW => ?_, ?_⟩; rotate_left; · (simp only [Q6, Q4] at hW; go_simp; (try with_reducible rfl)))
          (try simp only [Tks, marks, Act.put, List.setIfInBounds_toArray, List.set_cons_zero, List.set_cons_succ])
          refine rdy 1 (by kernel_rfl) rfl fun K hK => ?_
          go_simp
          refine (skC R2).mono ?_
          rintro e u ⟨p15, l15, m15, n15, o15, s15, z15, a15, rfl, R15, b⟩; replace F := frC F b; replace B13 := tbC B13 b; replace R2 := rdC R2 b; clear b
          clear c; have c := F.all; clear cB13; have cB13 := B13.all
          (try go_wp2_with fail)
          refine hK.out _ _ ⟨F.held, B13.held⟩ fun hW => ?_
          clear hK K
          (try simp only [Tks, marks, Act.put, List.setIfInBounds_toArray, List.set_cons_zero, List.set_cons_succ])
          refine rdy 8 (by kernel_rfl) rfl fun K hK => ?_
          go_simp
          refine (oneC F _).mono ?_
          rintro e u ⟨p16, rfl, L16, b⟩; replace F := frC F b; replace B13 := tbC B13 b; replace R2 := rdC R2 b; replace R15 := rdC R15 b; clear b
          clear c; have c := F.all; clear cB13; have cB13 := B13.all
          (try go_wp2_with fail)
          refine hK.out _ _ ⟨F.held, B13.held⟩ fun hW => ?_
          clear hK K
          (try simp only [Tks, marks, Act.put, List.setIfInBounds_toArray, List.set_cons_zero, List.set_cons_succ])
          replace H := bnd H; obtain ⟨q17, h17, H⟩ := H
          refine rdy 9 (by kernel_rfl) rfl fun K hK => ?_
          go_simp
          refine (adC F R15 L16 40 1 0 _ x12 (tx_ T12) rfl (ta_ T12) h17).mono ?_
          rintro e u ⟨p17, l17, m17, n17, o17, s17, z17, a17, rfl, R17, b⟩; replace F := frC F b; clear R15; clear L16; replace B13 := tbC B13 b; replace R2 := rdC R2 b; clear b
          clear c; have c := F.all; clear cB13; have cB13 := B13.all
          (try go_wp2_with fail)
          refine hK.out _ _ ⟨F.held, B13.held⟩ fun hW => ?_
          clear hK K
          (try simp only [Tks, marks, Act.put, List.setIfInBounds_toArray, List.set_cons_zero, List.set_cons_succ])
          refine rdl (by kernel_rfl) (by kernel_rfl) rfl fun K hK => ?_
          go_simp
          replace B13 := tbR B13 R17; clear R2; replace F := frR F R17; replace R17 := rdR R17
          refine hK.out _ _ ?_
          clear hK K
          go_wp2
          go_roundg m
          case rel => exact ⟨by omega, _, _, _, _, _, _, _, _, _, H, F, R17⟩
          case measure => omega
        · skip
          replace i10 := bfalse i10
          replace H := ifF H (by simp [i4, i7, i10])
          go_wp2_with (go_at_call 69; refine (isC R2 ⟨#[45, 45]⟩ i10).mono ?_)
          rintro e u ⟨rfl, b⟩; replace F := frC F b; replace R2 := rdC R2 b; clear b
          clear c; have c := F.all
          replace F := frS F R2; replace R2 := rdS R2
          obtain rfl := sm H
          go_wp2
          refine R2.fin F ?_ rfl
          simp [results, Tryz.results167, go_sem, st6, c]
end Go.Proofs.YtbjacclfhgnffaaGreatDoor
/-
  The document's reader: first.
-/
namespace Go.Proofs.YtbjacclfhgnffaaGreatDoor
open Go.RowKit
open Tk (T4 bstr)

set_option maxHeartbeats 8000000 in
set_option maxRecDepth 10000 in
theorem first_step {E n : Nat} (hli : FnL E 81 #[.string ⟨#[41]⟩] (runR E n (.list [41]))) (hex : FnB E 34 #[] (runR E n .expr)) : FnB E 202 #[] (runR E (n + 1) .first) := by
  intro A w r q v hA h hf
  have H : Hid (stepR E (runR E n) .first r = some q) := Lib.hid hf
  clear hf
  obtain ⟨p0, l0, m0, n0, o0, s0, z0, a0, rfl⟩ := h.parts
  have F := frN hA h; have R0 := rdN h
  clear hA h
  go_enter Tryz.func202, Tryz.ntmps202
  go_wp2_with (go_at_call 68; refine (pkC R0).mono ?_)
  rintro e u ⟨k1, x1, y1, t1, rfl, T1, b⟩; replace F := frC F b; replace R0 := rdC R0 b; clear b
  have c := F.all
  have B2 := tbN F k1 y1 t1 x1; have N2 := B2.n
  replace F := frA F (.cells #[.int .i64 k1, .string x1, .int .i64 y1, .int .i64 t1] 82); replace R0 := rdA R0 (.cells #[.int .i64 k1, .string x1, .int .i64 y1, .int .i64 t1] 82)
  by_cases i4 : okR r = true
  · skip
    go_wp2_with (go_at_call 38; refine (okC R0 i4).mono ?_)
    rintro e u ⟨rfl, b⟩; replace F := frC F b; replace B2 := tbC B2 b; replace R0 := rdC R0 b; clear b
    clear c; have c := F.all; have cB2 := B2.all
    by_cases i6 : (pk E r.L).k = 2
    · skip
      have k6q := kdT T1 (z := 2) rfl i6
      replace H := ifT H (by rw [i4, decide_eq_true i6]; rfl)
      go_wp2
      replace F := frD F; replace B2 := tbD B2; replace R0 := rdD R0
      refine rg 8 (S := fun W => Q6 _ _ _ _ _ _ _ W ∧ Q4 _ _ _ _ _ W) ⟨F.held, B2.held⟩ fun hW => ?_
      refine tks hW [0, 2, 3, 4, 5, 6] (n := 3) (by kernel_rfl) ?_
      iterate 6 (refine ⟨?_, _, rfl, rfl, fun W hW => ?_, ?_⟩; rotate_left; · (simp only [Q6, Q4] at hW; go_simp; (try with_reducible rfl)))
      (try simp only [Tks, marks, Act.put, List.setIfInBounds_toArray, List.set_cons_zero, List.set_cons_succ])
      refine rdy 1 (by kernel_rfl) rfl fun K hK => ?_
      go_simp
      refine (skC R0).mono ?_
      rintro e u ⟨p7, l7, m7, n7, o7, s7, z7, a7, rfl, R7, b⟩; replace F := frC F b; replace B2 := tbC B2 b; replace R0 := rdC R0 b; clear b
      clear c; have c := F.all; clear cB2; have cB2 := B2.all
      (try go_wp2_with fail)
      refine hK.out _ _ ⟨F.held, B2.held⟩ fun hW => ?_
      clear hK K
      (try simp only [Tks, marks, Act.put, List.setIfInBounds_toArray, List.set_cons_zero, List.set_cons_succ])
      replace H := aln H; obtain ⟨q8, h8, rfl⟩ := H
      refine rdy 7 (by kernel_rfl) rfl fun K hK => ?_
      go_simp
      refine (adC F R7 (nilL _ _ _) 31 _ 0 _ ⟨#[]⟩ rfl (tv_ T1) (ta_ T1) h8).mono ?_
      rintro e u ⟨p8, l8, m8, n8, o8, s8, z8, a8, rfl, R8, b⟩; replace F := frC F b; clear R7; replace B2 := tbC B2 b; replace R0 := rdC R0 b; clear b
      clear c; have c := F.all; clear cB2; have cB2 := B2.all
      (try go_wp2_with fail)
      refine hK.out _ _ ⟨F.held, B2.held⟩ fun hW => ?_
      clear hK K
      (try simp only [Tks, marks, Act.put, List.setIfInBounds_toArray, List.set_cons_zero, List.set_cons_succ])
      refine rdl (by kernel_rfl) (by kernel_rfl) rfl fun K hK => ?_
      go_simp
      replace B2 := tbS B2 R8; replace R0 := rdSo R0 R8; replace F := frS F R8; replace R8 := rdS R8
      refine hK.out _ _ ?_
      clear hK K
      go_wp2
      refine R8.fin F ?_ rfl
      simp [results, Tryz.results202, go_sem, st6, c]
    · skip
      have k6q := kdF T1 (z := 2) rfl i6
      replace H := ifF H (by rw [i4, decide_eq_false i6]; rfl)
      go_wp2_with (go_at_call 38; refine (okC R0 i4).mono ?_)
      rintro e u ⟨rfl, b⟩; replace F := frC F b; replace B2 := tbC B2 b; replace R0 := rdC R0 b; clear b
      clear c; have c := F.all; clear cB2; have cB2 := B2.all
      by_cases i8 : (pk E r.L).k = 1
      · skip
        have k8q := kdT T1 (z := 1) rfl i8
        replace H := ifT H (by rw [i4, decide_eq_true i8]; rfl)
        go_wp2_with (go_at_call 70; refine (skC R0).mono ?_)
        rintro e u ⟨p9, l9, m9, n9, o9, s9, z9, a9, rfl, R9, b⟩; replace F := frC F b; replace B2 := tbC B2 b; replace R0 := rdC R0 b; clear b
        clear c; have c := F.all; clear cB2; have cB2 := B2.all
        replace B2 := tbR B2 R9; clear R0; replace F := frR F R9; replace R9 := rdR R9
        by_cases i11 : isR E [40] (skipR r) = true
        · skip
          replace H := ifT H i11
          go_wp2_with (go_at_call 69; refine (isC R9 ⟨#[40]⟩ i11).mono ?_)
          rintro e u ⟨rfl, b⟩; replace F := frC F b; replace B2 := tbC B2 b; replace R9 := rdC R9 b; clear b
          clear c; have c := F.all; clear cB2; have cB2 := B2.all
          go_wp2_with (go_at_call 70; refine (skC R9).mono ?_)
          rintro e u ⟨p13, l13, m13, n13, o13, s13, z13, a13, rfl, R13, b⟩; replace F := frC F b; replace B2 := tbC B2 b; replace R9 := rdC R9 b; clear b
          clear c; have c := F.all; clear cB2; have cB2 := B2.all
          replace H := bnd H; obtain ⟨q14, h14, H⟩ := H
          go_wp2_with (go_at_call 81; refine (flC (hli : FnL E 81 #[.string ⟨#[41]⟩] _) F R13 h14).mono ?_)
          rintro e u ⟨p14, l14, m14, n14, o14, s14, z14, a14, kp14, kl14, kc14, rfl, R14, L14, b⟩; replace F := frC F b; clear R13; replace B2 := tbC B2 b; replace R9 := rdC R9 b; clear b
          clear c; have c := F.all; clear cB2; have cB2 := B2.all
          have B15 := t6N F R14; have N15 := B15.n
          replace F := frB F R14; replace B2 := tbB B2 R14; replace R9 := rdBo R9 R14; replace L14 := lsB L14 R14; replace R14 := rdB R14
          replace H := aln H; obtain ⟨q16, h16, rfl⟩ := H
          go_wp2_with (go_at_call 40; refine (adC F R14 L14 33 0 0 _ x1 (tx_ T1) rfl (ta_ T1) h16).mono ?_)
          rintro e u ⟨p16, l16, m16, n16, o16, s16, z16, a16, rfl, R16, b⟩; replace F := frC F b; clear R14; clear L14; replace B2 := tbC B2 b; replace B15 := tbC B15 b; replace R9 := rdC R9 b; clear b
          clear c; have c := F.all; clear cB2; have cB2 := B2.all; have cB15 := B15.all6
          replace B2 := tbS B2 R16; replace B15 := tbS B15 R16; replace R9 := rdSo R9 R16; replace F := frS F R16; replace R16 := rdS R16
          go_wp2
          refine R16.fin F ?_ rfl
          simp [results, Tryz.results202, go_sem, st6, c]
        · skip
          replace i11 := bfalse i11
          replace H := ifF H i11
          go_wp2_with (go_at_call 69; refine (isC R9 ⟨#[40]⟩ i11).mono ?_)
          rintro e u ⟨rfl, b⟩; replace F := frC F b; replace B2 := tbC B2 b; replace R9 := rdC R9 b; clear b
          clear c; have c := F.all; clear cB2; have cB2 := B2.all
          replace H := aln H; obtain ⟨q13, h13, rfl⟩ := H
          go_wp2_with (go_at_call 40; refine (adC F R9 (nilL _ _ _) 32 0 0 _ x1 (tx_ T1) rfl (ta_ T1) h13).mono ?_)
          rintro e u ⟨p13, l13, m13, n13, o13, s13, z13, a13, rfl, R13, b⟩; replace F := frC F b; replace B2 := tbC B2 b; replace R9 := rdC R9 b; clear b
          clear c; have c := F.all; clear cB2; have cB2 := B2.all
          replace B2 := tbS B2 R13; replace R9 := rdSo R9 R13; replace F := frS F R13; replace R13 := rdS R13
          go_wp2
          refine R13.fin F ?_ rfl
          simp [results, Tryz.results202, go_sem, st6, c]
      · skip
        have k8q := kdF T1 (z := 1) rfl i8
        replace H := ifF H (by rw [i4, decide_eq_false i8]; rfl)
        by_cases i10 : isR E [40] r = true
        · skip
          replace H := ifT H i10
          go_wp2_with (go_at_call 69; refine (isC R0 ⟨#[40]⟩ i10).mono ?_)
          rintro e u ⟨rfl, b⟩; replace F := frC F b; replace B2 := tbC B2 b; replace R0 := rdC R0 b; clear b
          clear c; have c := F.all; clear cB2; have cB2 := B2.all
          go_wp2_with (go_at_call 70; refine (skC R0).mono ?_)
          rintro e u ⟨p12, l12, m12, n12, o12, s12, z12, a12, rfl, R12, b⟩; replace F := frC F b; replace B2 := tbC B2 b; replace R0 := rdC R0 b; clear b
          clear c; have c := F.all; clear cB2; have cB2 := B2.all
          replace H := bnd H; obtain ⟨q13, h13, H⟩ := H
          go_wp2_with (go_at_call 34; refine (fbC hex F R12 h13).mono ?_)
          rintro e u ⟨p13, l13, m13, n13, o13, s13, z13, a13, rfl, R13, b⟩; replace F := frC F b; clear R12; replace B2 := tbC B2 b; replace R0 := rdC R0 b; clear b
          clear c; have c := F.all; clear cB2; have cB2 := B2.all
          go_wp2_with (go_at_call 71; refine (waC R13 ⟨#[41]⟩ (l := [41]) rfl).mono ?_)
          rintro e u ⟨p14, l14, m14, n14, o14, s14, z14, a14, rfl, R14, b⟩; replace F := frC F b; clear R13; replace B2 := tbC B2 b; replace R0 := rdC R0 b; clear b
          clear c; have c := F.all; clear cB2; have cB2 := B2.all
          replace B2 := tbS B2 R14; replace R0 := rdSo R0 R14; replace F := frS F R14; replace R14 := rdS R14
          obtain rfl := sm H
          go_wp2
          refine R14.fin F ?_ rfl
          simp [results, Tryz.results202, go_sem, st6, c]
        · skip
          replace i10 := bfalse i10
          replace H := ifF H i10
          go_wp2_with (go_at_call 69; refine (isC R0 ⟨#[40]⟩ i10).mono ?_)
          rintro e u ⟨rfl, b⟩; replace F := frC F b; replace B2 := tbC B2 b; replace R0 := rdC R0 b; clear b
          clear c; have c := F.all; clear cB2; have cB2 := B2.all
          go_wp2_with (go_at_call 74; refine (stC R0 1).mono ?_)
          rintro e u ⟨p12, l12, m12, n12, o12, s12, z12, a12, rfl, R12, b⟩; replace F := frC F b; clear R0; replace B2 := tbC B2 b; clear b
          clear c; have c := F.all; clear cB2; have cB2 := B2.all
          replace B2 := tbS B2 R12; replace F := frS F R12; replace R12 := rdS R12
          obtain rfl := sm H
          go_wp2
          refine R12.fin F ?_ rfl
          simp [results, Tryz.results202, go_sem, st6, c]
  · skip
    replace i4 := bfalse i4
    replace H := ifF H (by rw [i4]; rfl); replace H := ifF H (by rw [i4]; rfl)
    go_wp2_with (go_at_call 38; refine (okC R0 i4).mono ?_)
    rintro e u ⟨rfl, b⟩; replace F := frC F b; replace B2 := tbC B2 b; replace R0 := rdC R0 b; clear b
    clear c; have c := F.all; have cB2 := B2.all
    go_wp2_with (go_at_call 38; refine (okC R0 i4).mono ?_)
    rintro e u ⟨rfl, b⟩; replace F := frC F b; replace B2 := tbC B2 b; replace R0 := rdC R0 b; clear b
    clear c; have c := F.all; clear cB2; have cB2 := B2.all
    by_cases i8 : isR E [40] r = true
    · skip
      replace H := ifT H i8
      go_wp2_with (go_at_call 69; refine (isC R0 ⟨#[40]⟩ i8).mono ?_)
      rintro e u ⟨rfl, b⟩; replace F := frC F b; replace B2 := tbC B2 b; replace R0 := rdC R0 b; clear b
      clear c; have c := F.all; clear cB2; have cB2 := B2.all
      go_wp2_with (go_at_call 70; refine (skC R0).mono ?_)
      rintro e u ⟨p10, l10, m10, n10, o10, s10, z10, a10, rfl, R10, b⟩; replace F := frC F b; replace B2 := tbC B2 b; replace R0 := rdC R0 b; clear b
      clear c; have c := F.all; clear cB2; have cB2 := B2.all
      replace H := bnd H; obtain ⟨q11, h11, H⟩ := H
      go_wp2_with (go_at_call 34; refine (fbC hex F R10 h11).mono ?_)
      rintro e u ⟨p11, l11, m11, n11, o11, s11, z11, a11, rfl, R11, b⟩; replace F := frC F b; clear R10; replace B2 := tbC B2 b; replace R0 := rdC R0 b; clear b
      clear c; have c := F.all; clear cB2; have cB2 := B2.all
      go_wp2_with (go_at_call 71; refine (waC R11 ⟨#[41]⟩ (l := [41]) rfl).mono ?_)
      rintro e u ⟨p12, l12, m12, n12, o12, s12, z12, a12, rfl, R12, b⟩; replace F := frC F b; clear R11; replace B2 := tbC B2 b; replace R0 := rdC R0 b; clear b
      clear c; have c := F.all; clear cB2; have cB2 := B2.all
      replace B2 := tbS B2 R12; replace R0 := rdSo R0 R12; replace F := frS F R12; replace R12 := rdS R12
      obtain rfl := sm H
      go_wp2
      refine R12.fin F ?_ rfl
      simp [results, Tryz.results202, go_sem, st6, c]
    · skip
      replace i8 := bfalse i8
      replace H := ifF H i8
      go_wp2_with (go_at_call 69; refine (isC R0 ⟨#[40]⟩ i8).mono ?_)
      rintro e u ⟨rfl, b⟩; replace F := frC F b; replace B2 := tbC B2 b; replace R0 := rdC R0 b; clear b
      clear c; have c := F.all; clear cB2; have cB2 := B2.all
      go_wp2_with (go_at_call 74; refine (stC R0 1).mono ?_)
      rintro e u ⟨p10, l10, m10, n10, o10, s10, z10, a10, rfl, R10, b⟩; replace F := frC F b; clear R0; replace B2 := tbC B2 b; clear b
      clear c; have c := F.all; clear cB2; have cB2 := B2.all
      replace B2 := tbS B2 R10; replace F := frS F R10; replace R10 := rdS R10
      obtain rfl := sm H
      go_wp2
      refine R10.fin F ?_ rfl
      simp [results, Tryz.results202, go_sem, st6, c]
end Go.Proofs.YtbjacclfhgnffaaGreatDoor
/-
  The document's reader: a walk that bears a row of its own along, to which it appends.
-/
namespace Go.Proofs.YtbjacclfhgnffaaGreatDoor
open Go.RowKit
open Tk (T4 bstr)
open Tr (Nd Blk KidsAt NodeAt ret_bool)

/-- A, and the block of a row of one's own -/
def OwA (A : Nat → Prop) (v : Value) (b : Nat) : Prop := A b ∨ v.ownBlock = some b
/-- the row -/
structure Ow (w W : World) (v : Value) (l : List Int) : Prop where
  out : W.ownsRow (w.heap.size + 2) 3 1 v l.length (intV l)
section
variable {E g n : Nat} {A : Nat → Prop} {w W W' : World} {cr cs ct : Array Value} {q q' : Rs} {v u x0 x1 x2 x3 x4 x5 : Value} {l : List Int}
theorem own_below {base : Nat} {xs : List Value} (h : W.ownsRow base 3 1 v n xs) (hb : Below W.heap.size W W') : W'.ownsRow base 3 1 v n xs :=
  h.kept (row := none) ⟨hb.os, hb.tape, hb.output, hb.size, fun k hk _ => hb.block k hk⟩ (by cases v.ownBlock <;> simp)
theorem own_st6 {base : Nat} {xs : List Value} (h : W.ownsRow base 3 1 v n xs) (hg : g < base) : (st6 W g x0 x1 x2 x3 x4 x5).ownsRow base 3 1 v n xs := by
  have hgr : W.grownBy (st6 W g x0 x1 x2 x3 x4 x5) (some g) := by
    have hb : Below g W (st6 W g x0 x1 x2 x3 x4 x5) := st6_below (Below.refl _ _) (Nat.le_refl _)
    refine ⟨hb.os, hb.tape, hb.output, hb.size, fun k hk hne => ?_⟩
    have hkg : k ≠ g := fun e => hne (by rw [e])
    unfold st6
    rw [Below.heap_setCell _ _ _ _ hkg, Below.heap_setCell _ _ _ _ hkg, Below.heap_setCell _ _ _ _ hkg, Below.heap_setCell _ _ _ _ hkg, Below.heap_setCell _ _ _ _ hkg, Below.heap_setCell _ _ _ _ hkg]
  refine h.kept hgr ?_
  cases hv : v.ownBlock with
  | none => exact Or.inl rfl
  | some b =>
    refine Or.inr fun e => ?_
    have := (h.lt b hv).1
    cases e
    omega
theorem owC (O : Ow w W v l) (b : Below W.heap.size W W') : Ow w W' v l := ⟨own_below O.out b⟩
theorem owA (O : Ow w W v l) (o : Obj) : Ow w (W.alloc o) v l := ⟨own_below O.out ((Below.refl _ _).alloc (Nat.le_refl _) o)⟩
theorem owD (O : Ow w W v l) : Ow w W.drew v l := ⟨own_below O.out (Below.refl _ _).drew⟩
theorem owR (O : Ow w W v l) (R : Rd E A w W q (.agg #[x0, x1, x2, x3, x4, x5])) : Ow w (st6 W w.heap.size x0 x1 x2 x3 x4 x5) v l := ⟨own_st6 O.out (by omega)⟩
theorem owS (O : Ow w W v l) (R : Rd E A w W q (.agg #[x0, x1, x2, x3, x4, x5])) : Ow w (st6 W (w.heap.size + 1) x0 x1 x2 x3 x4 x5) v l := ⟨own_st6 O.out (by omega)⟩
theorem owB (O : Ow w W v l) (R : Rd E A w W q (.agg #[x0, x1, x2, x3, x4, x5])) : Ow w (W.alloc (.cells #[x0, x1, x2, x3, x4, x5] 63)) v l := owA O _
-- the beginning
theorem owN (w W : World) : Ow w W (.slice none 0 0) [] := ⟨World.ownsRow_nil _ _ _ _⟩
theorem frO (F : Fr A w W cr cs) : Fr (OwA A (.slice none 0 0)) w W cr cs := ⟨F.r, F.s, F.x, fun b h => F.i b (h.resolve_right (by intro e; cases e))⟩
theorem rdO (R : Rd E A w W q u) : Rd E (OwA A (.slice none 0 0)) w W q u := ⟨R.out.more fun b _ h => by
  rcases h with (h | h) | h
  · exact Or.inl h
  · cases h
  · exact Or.inr h⟩
-- the end
theorem frX (F : Fr (OwA A v) w W cr cs) : Fr A w W cr cs := ⟨F.r, F.s, F.x, fun b h => F.i b (Or.inl h)⟩
theorem rdX (R : Rd E (OwA A v) w W q u) : Rd E A w W q u := ⟨R.out.more fun b _ h => h.imp Or.inl id⟩
theorem lsX (hA : Hid (In A w)) {p : Option Addr} {kl kc : Nat} (O : Ow w W (.slice p kl kc) l) : LsAt A W l (.slice p kl kc) := by
  rcases O.out.2 with ⟨hv, h0⟩ | ⟨g, cap, cur, hv, _, _, hc, _⟩
  · cases hv
    have : l = [] := List.eq_nil_of_length_eq_zero h0
    subst this
    exact ⟨none, 0, rfl, fun h => absurd h (Nat.lt_irrefl _), Nat.le_refl _⟩
  · cases hv
    refine ⟨_, _, rfl, fun _ => ⟨g, 0, rfl, (O.out.lt g rfl).2, fun ha => ?_, fun j hj => ?_⟩, hc⟩
    · have := hA.out g ha
      have := (O.out.lt g rfl).1
      omega
    · have h1 := O.out.cells (g := g) rfl j (.int .i64 l[j]) (by unfold intV; simp [hj])
      rw [addr_add] at h1
      exact h1
theorem finL {fn : Func} {a : Act} {p : RL} {kp : Option Addr} {kl kc : Nat} (R : Rd E (OwA A (.slice kp kl kc)) w W p.1 u) (F : Fr (OwA A (.slice kp kl kc)) w W cr cs) (O : Ow w W (.slice kp kl kc) p.2) (hA : Hid (In A w))
    (hr : (results fn a.tmps).run Tryz.prog W = .ok (.tuple #[u, .slice kp kl kc]) W) (hd : a.defers = []) : bodyPost Tryz.prog fn (RlP E A w p) .ret a W := by
  refine bodyPost_ret hr hd ?_
  have h := Two.off (rdX R).out
  obtain ⟨pn, ln, cn, pl, ll, cl, c, a, rfl⟩ := h.parts
  exact ⟨pn, ln, cn, pl, ll, cl, c, a, kp, kl, kc, rfl, h, lsX hA O, F.x⟩
/-- a number is appended -/
theorem apE {ops : Array Oper} {rest : List Oper} {o : Oper} {a : Act} {Q : Exit → Act → World → Prop} {p : Option Addr} {kl kc : Nat} {k : Int} {h : Nat} (F : Fr (OwA A (.slice p kl kc)) w W cr cs) (R : Rd E (OwA A (.slice p kl kc)) w W q u) (O : Ow w W (.slice p kl kc) l) (hl : l.length < 6000000) (e : W.heap.size = h)
    (hgd : o.guard = none) (s x : Operand) (ho : o.op = .call { callee := .builtin .append, args := #[s, x], argTypes := #[34, 34] }) (hs : a.eval s = .slice p kl kc) (hx : a.eval x = .slice (some ⟨h, 0, none⟩) 1 1)
    (K : ∀ g cap w', Fr (OwA A (.slice (some ⟨g, 0, none⟩) (l.length + 1) cap)) w w' cr cs → Rd E (OwA A (.slice (some ⟨g, 0, none⟩) (l.length + 1) cap)) w w' q u → Ow w w' (.slice (some ⟨g, 0, none⟩) (l.length + 1) cap) (l ++ [k]) → wpList Tryz.prog ops Q rest (a.put o.dst (.slice (some ⟨g, 0, none⟩) (l.length + 1) cap)) w') :
    wpList Tryz.prog ops Q (o :: rest) a (W.alloc (.cells #[.int .i64 k] 3)) := by
  subst e
  obtain ⟨i0, hi, hz0, hz1, hz2⟩ := info_parts info3
  have hB := Blk.new W 3 #[.int .i64 k]
  have O1 := own_below O.out ((Below.refl _ _).alloc (Nat.le_refl _) (.cells #[.int .i64 k] 3))
  have hlt := F.s.lt
  refine wpList_append_lies _ hgd s x 34 ho (w.heap.size + 2) 3 i0 (.int .i64 0) 1 8 Tryz.underlying34 hi hz0 hz1 hz2 rfl (by decide) (.slice p kl kc) l.length (intV l) hs O1 ⟨W.heap.size, 0, none⟩ 1 1 [.int .i64 k] hx rfl (World.news_of_block hB) (fun u hu => by rw [List.mem_singleton] at hu; subst hu; rfl) Nat.one_pos (by unfold maxLen; omega) (by omega)
    (by rw [World.size_alloc]; omega) (W.heap.size + 1) (World.size_alloc _ _) fun g cap w' hown hg hwh hlt2 => ?_
  have hne : ∀ b, b < w.heap.size + 2 → some b ≠ (Value.slice p kl kc).ownBlock := fun b hb e => by have := (O.out.lt b e.symm).1; omega
  have hsz : W.heap.size + 1 ≤ w'.heap.size := by have := hg.size; rwa [World.size_alloc] at this
  have hgw : ∀ b, A b → b < w'.heap.size := fun b hb => by have := F.i b (Or.inl hb); omega
  refine K g cap w' ⟨(F.r.alloc _).grown hg (hne _ (by omega)), (F.s.alloc _).grown hg (hne _ (by omega)), (F.x.alloc F.x.size _).grown hg (by rw [World.size_alloc]; have := F.x.size; omega) (fun k hk => by have := (O.out.lt _ hk).1; omega), fun b hb => ?_⟩ ⟨?_⟩ ⟨?_⟩
  · rcases hb with hb | hb
    · exact hgw b hb
    · cases hb; exact hlt2
  · have h1 : RdAt E (fun b => Two (OwA A (.slice p kl kc)) w.heap.size b ∨ b = g) W q u := R.out.more fun b hb ha => by
      rcases ha with ha | rfl
      · exact ha
      · rcases hwh with h2 | h2
        · exact Or.inl (Or.inr h2)
        · omega
    have h2 : RdAt E (fun b => Two (OwA A (.slice p kl kc)) w.heap.size b ∨ b = g) w' q u := h1.agr ⟨by omega, fun b hb hn => by
      rw [hg.block b (by rw [World.size_alloc]; omega) (fun e => hn (Or.inl (Or.inl (Or.inr e.symm))))]
      exact Below.heap_alloc _ _ _ hb⟩
    refine h2.more fun b _ ha => ?_
    rcases ha with (ha | ha) | ha
    · exact Or.inl (Or.inl (Or.inl ha))
    · cases ha; exact Or.inr rfl
    · exact Or.inl (Or.inr ha)
  · rw [List.length_append]
    unfold intV at hown ⊢
    rw [List.map_append]; exact hown
end
/-- a loop's state: a reader in the first box, a row -/
def Lw_ (E : Nat) (A : Nat → Prop) (w : World) (P : Rs → List Int → Prop) (v : Value) (W : World) : Prop := ∃ rho p l m n o s z a out kp kl kc, v = .slice kp kl kc ∧ P rho out ∧
  Fr (OwA A (.slice kp kl kc)) w W #[.slice p l m, .slice n o s, .int .i64 E, .int .i64 z, .int .i64 a, .int .i64 rho.top] #[.slice none 0 0, .slice none 0 0, .int .i64 0, .int .i64 0, .int .i64 0, .int .i64 0] ∧
  Rd E (OwA A (.slice kp kl kc)) w W rho (.agg #[.slice p l m, .slice n o s, .int .i64 E, .int .i64 z, .int .i64 a, .int .i64 rho.top]) ∧ Ow w W (.slice kp kl kc) out
end Go.Proofs.YtbjacclfhgnffaaGreatDoor
