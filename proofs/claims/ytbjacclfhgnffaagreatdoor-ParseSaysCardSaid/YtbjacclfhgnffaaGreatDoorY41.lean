/-
  Joined texts of this claim: La, Ld.
-/
import Derived.Test.YtbjacclfhgnffaaGreatDoorY40
set_option linter.unusedVariables false
set_option linter.unusedSimpArgs false
/-
  The document's reader: ahead.
-/
namespace Go.Proofs.YtbjacclfhgnffaaGreatDoor
open Go.RowKit
open Tk (T4 bstr)

set_option maxHeartbeats 8000000 in
set_option maxRecDepth 10000 in
theorem ahead_step {E n : Nat} (hah : FnB E 119 #[] (runR E n .ahead)) (hbe : FnB E 167 #[] (runR E n .behind)) : FnB E 119 #[] (runR E (n + 1) .ahead) := by
  intro A w r q v hA h hf
  have H : Hid (stepR E (runR E n) .ahead r = some q) := Lib.hid hf
  clear hf
  obtain ⟨p0, l0, m0, n0, o0, s0, z0, a0, rfl⟩ := h.parts
  have F := frN hA h; have R0 := rdN h
  clear hA h
  go_enter Tryz.func119, Tryz.ntmps119
  go_wp2_with (go_at_call 68; refine (pkC R0).mono ?_)
  rintro e u ⟨k1, x1, y1, t1, rfl, T1, b⟩; replace F := frC F b; replace R0 := rdC R0 b; clear b
  have c := F.all
  have B2 := tbN F k1 y1 t1 x1; have N2 := B2.n
  replace F := frA F (.cells #[.int .i64 k1, .string x1, .int .i64 y1, .int .i64 t1] 82); replace R0 := rdA R0 (.cells #[.int .i64 k1, .string x1, .int .i64 y1, .int .i64 t1] 82)
  by_cases i4 : isR E [45] r = true
  · skip
    replace H := ifT H (by simp [i4])
    go_wp2_with (go_at_call 69; refine (isC R0 ⟨#[45]⟩ i4).mono ?_)
    rintro e u ⟨rfl, b⟩; replace F := frC F b; replace B2 := tbC B2 b; replace R0 := rdC R0 b; clear b
    clear c; have c := F.all; have cB2 := B2.all
    go_wp2_with (go_at_call 70; refine (skC R0).mono ?_)
    rintro e u ⟨p6, l6, m6, n6, o6, s6, z6, a6, rfl, R6, b⟩; replace F := frC F b; replace B2 := tbC B2 b; replace R0 := rdC R0 b; clear b
    clear c; have c := F.all; clear cB2; have cB2 := B2.all
    replace H := bnd H; obtain ⟨q7, h7, H⟩ := H
    go_wp2_with (go_at_call 119; refine (fbC hah F R6 h7).mono ?_)
    rintro e u ⟨p7, l7, m7, n7, o7, s7, z7, a7, rfl, R7, b⟩; replace F := frC F b; clear R6; replace B2 := tbC B2 b; replace R0 := rdC R0 b; clear b
    clear c; have c := F.all; clear cB2; have cB2 := B2.all
    replace B2 := tbR B2 R7; clear R0; replace F := frR F R7; replace R7 := rdR R7
    go_wp2
    replace F := frD F; replace B2 := tbD B2; replace R7 := rdD R7
    refine rg 10 (S := fun W => Q6 _ _ _ _ _ _ _ W ∧ Q4 _ _ _ _ _ W) ⟨F.held, B2.held⟩ fun hW => ?_
    refine tks hW [0, 1, 2, 3, 4, 5, 6, 7] (n := 3) (by kernel_rfl) ?_
    iterate 8 (refine ⟨?_, _, rfl, rfl, fun W hW => ?_, ?_⟩; rotate_left; · (simp only [Q6, Q4] at hW; go_simp; (try with_reducible rfl)))
    (try simp only [Tks, marks, Act.put, List.setIfInBounds_toArray, List.set_cons_zero, List.set_cons_succ])
    refine rdy 8 (by kernel_rfl) rfl fun K hK => ?_
    go_simp
    refine (oneC F _).mono ?_
    rintro e u ⟨p8, rfl, L8, b⟩; replace F := frC F b; replace B2 := tbC B2 b; replace R7 := rdC R7 b; clear b
    clear c; have c := F.all; clear cB2; have cB2 := B2.all
    (try go_wp2_with fail)
    refine hK.out _ _ ⟨F.held, B2.held⟩ fun hW => ?_
    clear hK K
    (try simp only [Tks, marks, Act.put, List.setIfInBounds_toArray, List.set_cons_zero, List.set_cons_succ])
    replace H := aln H; obtain ⟨q9, h9, rfl⟩ := H
    refine rdy 9 (by kernel_rfl) rfl fun K hK => ?_
    go_simp
    refine (adC F R7 L8 35 0 0 _ x1 (tx_ T1) rfl (ta_ T1) h9).mono ?_
    rintro e u ⟨p9, l9, m9, n9, o9, s9, z9, a9, rfl, R9, b⟩; replace F := frC F b; clear L8; replace B2 := tbC B2 b; replace R7 := rdC R7 b; clear b
    clear c; have c := F.all; clear cB2; have cB2 := B2.all
    (try go_wp2_with fail)
    refine hK.out _ _ ⟨F.held, B2.held⟩ fun hW => ?_
    clear hK K
    (try simp only [Tks, marks, Act.put, List.setIfInBounds_toArray, List.set_cons_zero, List.set_cons_succ])
    refine rdl (by kernel_rfl) (by kernel_rfl) rfl fun K hK => ?_
    go_simp
    replace B2 := tbS B2 R9; replace R7 := rdSo R7 R9; replace F := frS F R9; replace R9 := rdS R9
    refine hK.out _ _ ?_
    clear hK K
    go_wp2
    refine R9.fin F ?_ rfl
    simp [results, Tryz.results119, go_sem, st6, c]
  · skip
    replace i4 := bfalse i4
    go_wp2_with (go_at_call 69; refine (isC R0 ⟨#[45]⟩ i4).mono ?_)
    rintro e u ⟨rfl, b⟩; replace F := frC F b; replace B2 := tbC B2 b; replace R0 := rdC R0 b; clear b
    clear c; have c := F.all; have cB2 := B2.all
    by_cases i7 : isR E [33] r = true
    · skip
      replace H := ifT H (by simp [i4, i7])
      go_wp2_with (go_at_call 69; refine (isC R0 ⟨#[33]⟩ i7).mono ?_)
      rintro e u ⟨rfl, b⟩; replace F := frC F b; replace B2 := tbC B2 b; replace R0 := rdC R0 b; clear b
      clear c; have c := F.all; clear cB2; have cB2 := B2.all
      go_wp2_with (go_at_call 70; refine (skC R0).mono ?_)
      rintro e u ⟨p9, l9, m9, n9, o9, s9, z9, a9, rfl, R9, b⟩; replace F := frC F b; replace B2 := tbC B2 b; replace R0 := rdC R0 b; clear b
      clear c; have c := F.all; clear cB2; have cB2 := B2.all
      replace H := bnd H; obtain ⟨q10, h10, H⟩ := H
      go_wp2_with (go_at_call 119; refine (fbC hah F R9 h10).mono ?_)
      rintro e u ⟨p10, l10, m10, n10, o10, s10, z10, a10, rfl, R10, b⟩; replace F := frC F b; clear R9; replace B2 := tbC B2 b; replace R0 := rdC R0 b; clear b
      clear c; have c := F.all; clear cB2; have cB2 := B2.all
      replace B2 := tbR B2 R10; clear R0; replace F := frR F R10; replace R10 := rdR R10
      go_wp2
      replace F := frD F; replace B2 := tbD B2; replace R10 := rdD R10
      refine rg 10 (S := fun W => Q6 _ _ _ _ _ _ _ W ∧ Q4 _ _ _ _ _ W) ⟨F.held, B2.held⟩ fun hW => ?_
      refine tks hW [0, 1, 2, 3, 4, 5, 6, 7] (n := 3) (by kernel_rfl) ?_
      iterate 8 (refine ⟨?_, _, rfl, rfl, fun W hW => ?_, ?_⟩; rotate_left; · (simp only [Q6, Q4] at hW; go_simp; (try with_reducible rfl)))
      (try simp only [Tks, marks, Act.put, List.setIfInBounds_toArray, List.set_cons_zero, List.set_cons_succ])
      refine rdy 8 (by kernel_rfl) rfl fun K hK => ?_
      go_simp
      refine (oneC F _).mono ?_
      rintro e u ⟨p11, rfl, L11, b⟩; replace F := frC F b; replace B2 := tbC B2 b; replace R10 := rdC R10 b; clear b
      clear c; have c := F.all; clear cB2; have cB2 := B2.all
      (try go_wp2_with fail)
      refine hK.out _ _ ⟨F.held, B2.held⟩ fun hW => ?_
      clear hK K
      (try simp only [Tks, marks, Act.put, List.setIfInBounds_toArray, List.set_cons_zero, List.set_cons_succ])
      replace H := aln H; obtain ⟨q12, h12, rfl⟩ := H
      refine rdy 9 (by kernel_rfl) rfl fun K hK => ?_
      go_simp
      refine (adC F R10 L11 35 0 0 _ x1 (tx_ T1) rfl (ta_ T1) h12).mono ?_
      rintro e u ⟨p12, l12, m12, n12, o12, s12, z12, a12, rfl, R12, b⟩; replace F := frC F b; clear L11; replace B2 := tbC B2 b; replace R10 := rdC R10 b; clear b
      clear c; have c := F.all; clear cB2; have cB2 := B2.all
      (try go_wp2_with fail)
      refine hK.out _ _ ⟨F.held, B2.held⟩ fun hW => ?_
      clear hK K
      (try simp only [Tks, marks, Act.put, List.setIfInBounds_toArray, List.set_cons_zero, List.set_cons_succ])
      refine rdl (by kernel_rfl) (by kernel_rfl) rfl fun K hK => ?_
      go_simp
      replace B2 := tbS B2 R12; replace R10 := rdSo R10 R12; replace F := frS F R12; replace R12 := rdS R12
      refine hK.out _ _ ?_
      clear hK K
      go_wp2
      refine R12.fin F ?_ rfl
      simp [results, Tryz.results119, go_sem, st6, c]
    · skip
      replace i7 := bfalse i7
      go_wp2_with (go_at_call 69; refine (isC R0 ⟨#[33]⟩ i7).mono ?_)
      rintro e u ⟨rfl, b⟩; replace F := frC F b; replace B2 := tbC B2 b; replace R0 := rdC R0 b; clear b
      clear c; have c := F.all; clear cB2; have cB2 := B2.all
      by_cases i10 : isR E [126] r = true
      · skip
        replace H := ifT H (by simp [i4, i7, i10])
        go_wp2_with (go_at_call 69; refine (isC R0 ⟨#[126]⟩ i10).mono ?_)
        rintro e u ⟨rfl, b⟩; replace F := frC F b; replace B2 := tbC B2 b; replace R0 := rdC R0 b; clear b
        clear c; have c := F.all; clear cB2; have cB2 := B2.all
        go_wp2_with (go_at_call 70; refine (skC R0).mono ?_)
        rintro e u ⟨p12, l12, m12, n12, o12, s12, z12, a12, rfl, R12, b⟩; replace F := frC F b; replace B2 := tbC B2 b; replace R0 := rdC R0 b; clear b
        clear c; have c := F.all; clear cB2; have cB2 := B2.all
        replace H := bnd H; obtain ⟨q13, h13, H⟩ := H
        go_wp2_with (go_at_call 119; refine (fbC hah F R12 h13).mono ?_)
        rintro e u ⟨p13, l13, m13, n13, o13, s13, z13, a13, rfl, R13, b⟩; replace F := frC F b; clear R12; replace B2 := tbC B2 b; replace R0 := rdC R0 b; clear b
        clear c; have c := F.all; clear cB2; have cB2 := B2.all
        replace B2 := tbR B2 R13; clear R0; replace F := frR F R13; replace R13 := rdR R13
        go_wp2
        replace F := frD F; replace B2 := tbD B2; replace R13 := rdD R13
        refine rg 10 (S := fun W => Q6 _ _ _ _ _ _ _ W ∧ Q4 _ _ _ _ _ W) ⟨F.held, B2.held⟩ fun hW => ?_
        refine tks hW [0, 1, 2, 3, 4, 5, 6, 7] (n := 3) (by kernel_rfl) ?_
        iterate 8 (refine ⟨?_, _, rfl, rfl, fun W hW => ?_, ?_⟩; rotate_left; · (simp only [Q6, Q4] at hW; go_simp; (try with_reducible rfl)))
        (try simp only [Tks, marks, Act.put, List.setIfInBounds_toArray, List.set_cons_zero, List.set_cons_succ])
        refine rdy 8 (by kernel_rfl) rfl fun K hK => ?_
        go_simp
        refine (oneC F _).mono ?_
        rintro e u ⟨p14, rfl, L14, b⟩; replace F := frC F b; replace B2 := tbC B2 b; replace R13 := rdC R13 b; clear b
        clear c; have c := F.all; clear cB2; have cB2 := B2.all
        (try go_wp2_with fail)
        refine hK.out _ _ ⟨F.held, B2.held⟩ fun hW => ?_
        clear hK K
        (try simp only [Tks, marks, Act.put, List.setIfInBounds_toArray, List.set_cons_zero, List.set_cons_succ])
        replace H := aln H; obtain ⟨q15, h15, rfl⟩ := H
        refine rdy 9 (by kernel_rfl) rfl fun K hK => ?_
        go_simp
        refine (adC F R13 L14 35 0 0 _ x1 (tx_ T1) rfl (ta_ T1) h15).mono ?_
        rintro e u ⟨p15, l15, m15, n15, o15, s15, z15, a15, rfl, R15, b⟩; replace F := frC F b; clear L14; replace B2 := tbC B2 b; replace R13 := rdC R13 b; clear b
        clear c; have c := F.all; clear cB2; have cB2 := B2.all
        (try go_wp2_with fail)
        refine hK.out _ _ ⟨F.held, B2.held⟩ fun hW => ?_
        clear hK K
        (try simp only [Tks, marks, Act.put, List.setIfInBounds_toArray, List.set_cons_zero, List.set_cons_succ])
        refine rdl (by kernel_rfl) (by kernel_rfl) rfl fun K hK => ?_
        go_simp
        replace B2 := tbS B2 R15; replace R13 := rdSo R13 R15; replace F := frS F R15; replace R15 := rdS R15
        refine hK.out _ _ ?_
        clear hK K
        go_wp2
        refine R15.fin F ?_ rfl
        simp [results, Tryz.results119, go_sem, st6, c]
      · skip
        replace i10 := bfalse i10
        go_wp2_with (go_at_call 69; refine (isC R0 ⟨#[126]⟩ i10).mono ?_)
        rintro e u ⟨rfl, b⟩; replace F := frC F b; replace B2 := tbC B2 b; replace R0 := rdC R0 b; clear b
        clear c; have c := F.all; clear cB2; have cB2 := B2.all
        by_cases i13 : isR E [42] r = true
        · skip
          replace H := ifT H (by simp [i4, i7, i10, i13])
          go_wp2_with (go_at_call 69; refine (isC R0 ⟨#[42]⟩ i13).mono ?_)
          rintro e u ⟨rfl, b⟩; replace F := frC F b; replace B2 := tbC B2 b; replace R0 := rdC R0 b; clear b
          clear c; have c := F.all; clear cB2; have cB2 := B2.all
          go_wp2_with (go_at_call 70; refine (skC R0).mono ?_)
          rintro e u ⟨p15, l15, m15, n15, o15, s15, z15, a15, rfl, R15, b⟩; replace F := frC F b; replace B2 := tbC B2 b; replace R0 := rdC R0 b; clear b
          clear c; have c := F.all; clear cB2; have cB2 := B2.all
          replace H := bnd H; obtain ⟨q16, h16, H⟩ := H
          go_wp2_with (go_at_call 119; refine (fbC hah F R15 h16).mono ?_)
          rintro e u ⟨p16, l16, m16, n16, o16, s16, z16, a16, rfl, R16, b⟩; replace F := frC F b; clear R15; replace B2 := tbC B2 b; replace R0 := rdC R0 b; clear b
          clear c; have c := F.all; clear cB2; have cB2 := B2.all
          replace B2 := tbR B2 R16; clear R0; replace F := frR F R16; replace R16 := rdR R16
          go_wp2
          replace F := frD F; replace B2 := tbD B2; replace R16 := rdD R16
          refine rg 10 (S := fun W => Q6 _ _ _ _ _ _ _ W ∧ Q4 _ _ _ _ _ W) ⟨F.held, B2.held⟩ fun hW => ?_
          refine tks hW [0, 1, 2, 3, 4, 5, 6, 7] (n := 3) (by kernel_rfl) ?_
          iterate 8 (refine ⟨?_, _, rfl, rfl, fun W hW => ?_, ?_⟩; rotate_left; · (simp only [Q6, Q4] at hW; go_simp; (try with_reducible rfl)))
          (try simp only [Tks, marks, Act.put, List.setIfInBounds_toArray, List.set_cons_zero, List.set_cons_succ])
          refine rdy 8 (by kernel_rfl) rfl fun K hK => ?_
          go_simp
          refine (oneC F _).mono ?_
          rintro e u ⟨p17, rfl, L17, b⟩; replace F := frC F b; replace B2 := tbC B2 b; replace R16 := rdC R16 b; clear b
          clear c; have c := F.all; clear cB2; have cB2 := B2.all
          (try go_wp2_with fail)
          refine hK.out _ _ ⟨F.held, B2.held⟩ fun hW => ?_
          clear hK K
          (try simp only [Tks, marks, Act.put, List.setIfInBounds_toArray, List.set_cons_zero, List.set_cons_succ])
          replace H := aln H; obtain ⟨q18, h18, rfl⟩ := H
          refine rdy 9 (by kernel_rfl) rfl fun K hK => ?_
          go_simp
          refine (adC F R16 L17 35 0 0 _ x1 (tx_ T1) rfl (ta_ T1) h18).mono ?_
          rintro e u ⟨p18, l18, m18, n18, o18, s18, z18, a18, rfl, R18, b⟩; replace F := frC F b; clear L17; replace B2 := tbC B2 b; replace R16 := rdC R16 b; clear b
          clear c; have c := F.all; clear cB2; have cB2 := B2.all
          (try go_wp2_with fail)
          refine hK.out _ _ ⟨F.held, B2.held⟩ fun hW => ?_
          clear hK K
          (try simp only [Tks, marks, Act.put, List.setIfInBounds_toArray, List.set_cons_zero, List.set_cons_succ])
          refine rdl (by kernel_rfl) (by kernel_rfl) rfl fun K hK => ?_
          go_simp
          replace B2 := tbS B2 R18; replace R16 := rdSo R16 R18; replace F := frS F R18; replace R18 := rdS R18
          refine hK.out _ _ ?_
          clear hK K
          go_wp2
          refine R18.fin F ?_ rfl
          simp [results, Tryz.results119, go_sem, st6, c]
        · skip
          replace i13 := bfalse i13
          go_wp2_with (go_at_call 69; refine (isC R0 ⟨#[42]⟩ i13).mono ?_)
          rintro e u ⟨rfl, b⟩; replace F := frC F b; replace B2 := tbC B2 b; replace R0 := rdC R0 b; clear b
          clear c; have c := F.all; clear cB2; have cB2 := B2.all
          by_cases i16 : isR E [38] r = true
          · skip
            replace H := ifT H (by simp [i4, i7, i10, i13, i16])
            go_wp2_with (go_at_call 69; refine (isC R0 ⟨#[38]⟩ i16).mono ?_)
            rintro e u ⟨rfl, b⟩; replace F := frC F b; replace B2 := tbC B2 b; replace R0 := rdC R0 b; clear b
            clear c; have c := F.all; clear cB2; have cB2 := B2.all
            go_wp2_with (go_at_call 70; refine (skC R0).mono ?_)
            rintro e u ⟨p18, l18, m18, n18, o18, s18, z18, a18, rfl, R18, b⟩; replace F := frC F b; replace B2 := tbC B2 b; replace R0 := rdC R0 b; clear b
            clear c; have c := F.all; clear cB2; have cB2 := B2.all
            replace H := bnd H; obtain ⟨q19, h19, H⟩ := H
            go_wp2_with (go_at_call 119; refine (fbC hah F R18 h19).mono ?_)
            rintro e u ⟨p19, l19, m19, n19, o19, s19, z19, a19, rfl, R19, b⟩; replace F := frC F b; clear R18; replace B2 := tbC B2 b; replace R0 := rdC R0 b; clear b
            clear c; have c := F.all; clear cB2; have cB2 := B2.all
            replace B2 := tbR B2 R19; clear R0; replace F := frR F R19; replace R19 := rdR R19
            go_wp2
            replace F := frD F; replace B2 := tbD B2; replace R19 := rdD R19
            refine rg 10 (S := fun W => Q6 _ _ _ _ _ _ _ W ∧ Q4 _ _ _ _ _ W) ⟨F.held, B2.held⟩ fun hW => ?_
            refine tks hW [0, 1, 2, 3, 4, 5, 6, 7] (n := 3) (by kernel_rfl) ?_
            iterate 8 (refine ⟨?_, _, rfl, rfl, fun W hW => ?_, ?_⟩; rotate_left; · (simp only [Q6, Q4] at hW; go_simp; (try with_reducible rfl)))
            (try simp only [Tks, marks, Act.put, List.setIfInBounds_toArray, List.set_cons_zero, List.set_cons_succ])
            refine rdy 8 (by kernel_rfl) rfl fun K hK => ?_
            go_simp
            refine (oneC F _).mono ?_
            rintro e u ⟨p20, rfl, L20, b⟩; replace F := frC F b; replace B2 := tbC B2 b; replace R19 := rdC R19 b; clear b
            clear c; have c := F.all; clear cB2; have cB2 := B2.all
            (try go_wp2_with fail)
            refine hK.out _ _ ⟨F.held, B2.held⟩ fun hW => ?_
            clear hK K
            (try simp only [Tks, marks, Act.put, List.setIfInBounds_toArray, List.set_cons_zero, List.set_cons_succ])
            replace H := aln H; obtain ⟨q21, h21, rfl⟩ := H
            refine rdy 9 (by kernel_rfl) rfl fun K hK => ?_
            go_simp
            refine (adC F R19 L20 35 0 0 _ x1 (tx_ T1) rfl (ta_ T1) h21).mono ?_
            rintro e u ⟨p21, l21, m21, n21, o21, s21, z21, a21, rfl, R21, b⟩; replace F := frC F b; clear L20; replace B2 := tbC B2 b; replace R19 := rdC R19 b; clear b
            clear c; have c := F.all; clear cB2; have cB2 := B2.all
            (try go_wp2_with fail)
            refine hK.out _ _ ⟨F.held, B2.held⟩ fun hW => ?_
            clear hK K
            (try simp only [Tks, marks, Act.put, List.setIfInBounds_toArray, List.set_cons_zero, List.set_cons_succ])
            refine rdl (by kernel_rfl) (by kernel_rfl) rfl fun K hK => ?_
            go_simp
            replace B2 := tbS B2 R21; replace R19 := rdSo R19 R21; replace F := frS F R21; replace R21 := rdS R21
            refine hK.out _ _ ?_
            clear hK K
            go_wp2
            refine R21.fin F ?_ rfl
            simp [results, Tryz.results119, go_sem, st6, c]
          · skip
            replace i16 := bfalse i16
            replace H := ifF H (by simp [i4, i7, i10, i13, i16])
            go_wp2_with (go_at_call 69; refine (isC R0 ⟨#[38]⟩ i16).mono ?_)
            rintro e u ⟨rfl, b⟩; replace F := frC F b; replace B2 := tbC B2 b; replace R0 := rdC R0 b; clear b
            clear c; have c := F.all; clear cB2; have cB2 := B2.all
            by_cases i19 : isR E [43, 43] r = true
            · skip
              replace H := ifT H (by simp [i4, i7, i10, i13, i16, i19])
              go_wp2_with (go_at_call 69; refine (isC R0 ⟨#[43, 43]⟩ i19).mono ?_)
              rintro e u ⟨rfl, b⟩; replace F := frC F b; replace B2 := tbC B2 b; replace R0 := rdC R0 b; clear b
              clear c; have c := F.all; clear cB2; have cB2 := B2.all
              go_wp2_with (go_at_call 70; refine (skC R0).mono ?_)
              rintro e u ⟨p21, l21, m21, n21, o21, s21, z21, a21, rfl, R21, b⟩; replace F := frC F b; replace B2 := tbC B2 b; replace R0 := rdC R0 b; clear b
              clear c; have c := F.all; clear cB2; have cB2 := B2.all
              replace H := bnd H; obtain ⟨q22, h22, H⟩ := H
              go_wp2_with (go_at_call 119; refine (fbC hah F R21 h22).mono ?_)
              rintro e u ⟨p22, l22, m22, n22, o22, s22, z22, a22, rfl, R22, b⟩; replace F := frC F b; clear R21; replace B2 := tbC B2 b; replace R0 := rdC R0 b; clear b
              clear c; have c := F.all; clear cB2; have cB2 := B2.all
              replace B2 := tbR B2 R22; clear R0; replace F := frR F R22; replace R22 := rdR R22
              go_wp2
              replace F := frD F; replace B2 := tbD B2; replace R22 := rdD R22
              refine rg 10 (S := fun W => Q6 _ _ _ _ _ _ _ W ∧ Q4 _ _ _ _ _ W) ⟨F.held, B2.held⟩ fun hW => ?_
              refine tks hW [0, 1, 2, 3, 4, 5, 6, 7] (n := 3) (by kernel_rfl) ?_
              iterate 8 (refine ⟨?_, _, rfl, rfl, fun W hW => ?_, ?_⟩; rotate_left; · (simp only [Q6, Q4] at hW; go_simp; (try with_reducible rfl)))
              (try simp only [Tks, marks, Act.put, List.setIfInBounds_toArray, List.set_cons_zero, List.set_cons_succ])
              refine rdy 8 (by kernel_rfl) rfl fun K hK => ?_
              go_simp
              refine (oneC F _).mono ?_
              rintro e u ⟨p23, rfl, L23, b⟩; replace F := frC F b; replace B2 := tbC B2 b; replace R22 := rdC R22 b; clear b
              clear c; have c := F.all; clear cB2; have cB2 := B2.all
              (try go_wp2_with fail)
              refine hK.out _ _ ⟨F.held, B2.held⟩ fun hW => ?_
              clear hK K
              (try simp only [Tks, marks, Act.put, List.setIfInBounds_toArray, List.set_cons_zero, List.set_cons_succ])
              replace H := aln H; obtain ⟨q24, h24, rfl⟩ := H
              refine rdy 9 (by kernel_rfl) rfl fun K hK => ?_
              go_simp
              refine (adC F R22 L23 40 0 0 _ x1 (tx_ T1) rfl (ta_ T1) h24).mono ?_
              rintro e u ⟨p24, l24, m24, n24, o24, s24, z24, a24, rfl, R24, b⟩; replace F := frC F b; clear L23; replace B2 := tbC B2 b; replace R22 := rdC R22 b; clear b
              clear c; have c := F.all; clear cB2; have cB2 := B2.all
              (try go_wp2_with fail)
              refine hK.out _ _ ⟨F.held, B2.held⟩ fun hW => ?_
              clear hK K
              (try simp only [Tks, marks, Act.put, List.setIfInBounds_toArray, List.set_cons_zero, List.set_cons_succ])
              refine rdl (by kernel_rfl) (by kernel_rfl) rfl fun K hK => ?_
              go_simp
              replace B2 := tbS B2 R24; replace R22 := rdSo R22 R24; replace F := frS F R24; replace R24 := rdS R24
              refine hK.out _ _ ?_
              clear hK K
              go_wp2
              refine R24.fin F ?_ rfl
              simp [results, Tryz.results119, go_sem, st6, c]
            · skip
              replace i19 := bfalse i19
              go_wp2_with (go_at_call 69; refine (isC R0 ⟨#[43, 43]⟩ i19).mono ?_)
              rintro e u ⟨rfl, b⟩; replace F := frC F b; replace B2 := tbC B2 b; replace R0 := rdC R0 b; clear b
              clear c; have c := F.all; clear cB2; have cB2 := B2.all
              by_cases i22 : isR E [45, 45] r = true
              · skip
                replace H := ifT H (by simp [i4, i7, i10, i13, i16, i19, i22])
                go_wp2_with (go_at_call 69; refine (isC R0 ⟨#[45, 45]⟩ i22).mono ?_)
                rintro e u ⟨rfl, b⟩; replace F := frC F b; replace B2 := tbC B2 b; replace R0 := rdC R0 b; clear b
                clear c; have c := F.all; clear cB2; have cB2 := B2.all
                go_wp2_with (go_at_call 70; refine (skC R0).mono ?_)
                rintro e u ⟨p24, l24, m24, n24, o24, s24, z24, a24, rfl, R24, b⟩; replace F := frC F b; replace B2 := tbC B2 b; replace R0 := rdC R0 b; clear b
                clear c; have c := F.all; clear cB2; have cB2 := B2.all
                replace H := bnd H; obtain ⟨q25, h25, H⟩ := H
                go_wp2_with (go_at_call 119; refine (fbC hah F R24 h25).mono ?_)
                rintro e u ⟨p25, l25, m25, n25, o25, s25, z25, a25, rfl, R25, b⟩; replace F := frC F b; clear R24; replace B2 := tbC B2 b; replace R0 := rdC R0 b; clear b
                clear c; have c := F.all; clear cB2; have cB2 := B2.all
                replace B2 := tbR B2 R25; clear R0; replace F := frR F R25; replace R25 := rdR R25
                go_wp2
                replace F := frD F; replace B2 := tbD B2; replace R25 := rdD R25
                refine rg 10 (S := fun W => Q6 _ _ _ _ _ _ _ W ∧ Q4 _ _ _ _ _ W) ⟨F.held, B2.held⟩ fun hW => ?_
                refine tks hW [0, 1, 2, 3, 4, 5, 6, 7] (n := 3) (by kernel_rfl) ?_
                iterate 8 (refine ⟨?_, _, rfl, rfl, fun W hW => ?_, ?_⟩; rotate_left; · (simp only [Q6, Q4] at hW; go_simp; (try with_reducible rfl)))
                (try simp only [Tks, marks, Act.put, List.setIfInBounds_toArray, List.set_cons_zero, List.set_cons_succ])
                refine rdy 8 (by kernel_rfl) rfl fun K hK => ?_
                go_simp
                refine (oneC F _).mono ?_
                rintro e u ⟨p26, rfl, L26, b⟩; replace F := frC F b; replace B2 := tbC B2 b; replace R25 := rdC R25 b; clear b
                clear c; have c := F.all; clear cB2; have cB2 := B2.all
                (try go_wp2_with fail)
                refine hK.out _ _ ⟨F.held, B2.held⟩ fun hW => ?_
                clear hK K
                (try simp only [Tks, marks, Act.put, List.setIfInBounds_toArray, List.set_cons_zero, List.set_cons_succ])
                replace H := aln H; obtain ⟨q27, h27, rfl⟩ := H
                refine rdy 9 (by kernel_rfl) rfl fun K hK => ?_
                go_simp
                refine (adC F R25 L26 40 0 0 _ x1 (tx_ T1) rfl (ta_ T1) h27).mono ?_
                rintro e u ⟨p27, l27, m27, n27, o27, s27, z27, a27, rfl, R27, b⟩; replace F := frC F b; clear L26; replace B2 := tbC B2 b; replace R25 := rdC R25 b; clear b
                clear c; have c := F.all; clear cB2; have cB2 := B2.all
                (try go_wp2_with fail)
                refine hK.out _ _ ⟨F.held, B2.held⟩ fun hW => ?_
                clear hK K
                (try simp only [Tks, marks, Act.put, List.setIfInBounds_toArray, List.set_cons_zero, List.set_cons_succ])
                refine rdl (by kernel_rfl) (by kernel_rfl) rfl fun K hK => ?_
                go_simp
                replace B2 := tbS B2 R27; replace R25 := rdSo R25 R27; replace F := frS F R27; replace R27 := rdS R27
                refine hK.out _ _ ?_
                clear hK K
                go_wp2
                refine R27.fin F ?_ rfl
                simp [results, Tryz.results119, go_sem, st6, c]
              · skip
                replace i22 := bfalse i22
                replace H := ifF H (by simp [i4, i7, i10, i13, i16, i19, i22])
                go_wp2_with (go_at_call 69; refine (isC R0 ⟨#[45, 45]⟩ i22).mono ?_)
                rintro e u ⟨rfl, b⟩; replace F := frC F b; replace B2 := tbC B2 b; replace R0 := rdC R0 b; clear b
                clear c; have c := F.all; clear cB2; have cB2 := B2.all
                replace H := bnd H; obtain ⟨q24, h24, H⟩ := H
                go_wp2_with (go_at_call 167; refine (fbC hbe F R0 h24).mono ?_)
                rintro e u ⟨p24, l24, m24, n24, o24, s24, z24, a24, rfl, R24, b⟩; replace F := frC F b; clear R0; replace B2 := tbC B2 b; clear b
                clear c; have c := F.all; clear cB2; have cB2 := B2.all
                replace B2 := tbS B2 R24; replace F := frS F R24; replace R24 := rdS R24
                obtain rfl := sm H
                go_wp2
                refine R24.fin F ?_ rfl
                simp [results, Tryz.results119, go_sem, st6, c]
end Go.Proofs.YtbjacclfhgnffaaGreatDoor
/-
  The document's reader: expr.
-/
namespace Go.Proofs.YtbjacclfhgnffaaGreatDoor
open Go.RowKit
open Tk (T4 bstr)

set_option maxHeartbeats 8000000 in
set_option maxRecDepth 10000 in
theorem rexpr_step {E n : Nat} (hlv : ∀ low : Int, 0 ≤ low → FnB E 67 #[.int .i64 low] (runR E n (.level low.toNat))) (hex : FnB E 34 #[] (runR E n .expr)) : FnB E 34 #[] (runR E (n + 1) .expr) := by
  intro A w r q v hA h hf
  have H : Hid (stepR E (runR E n) .expr r = some q) := Lib.hid hf
  clear hf
  obtain ⟨p0, l0, m0, n0, o0, s0, z0, a0, rfl⟩ := h.parts
  have F := frN hA h; have R0 := rdN h
  clear hA h
  go_enter Tryz.func34, Tryz.ntmps34
  replace H := bnd H; obtain ⟨q1, h1, H⟩ := H
  go_wp2_with (go_at_call 67; refine (fbC (hlv 1 (by decide)) F R0 h1).mono ?_)
  rintro e u ⟨p1, l1, m1, n1, o1, s1, z1, a1, rfl, R1, b⟩; replace F := frC F b; replace R0 := rdC R0 b; clear b
  have c := F.all
  clear R0; replace F := frR F R1; replace R1 := rdR R1
  go_wp2_with (go_at_call 68; refine (pkC R1).mono ?_)
  rintro e u ⟨k2, x2, y2, t2, rfl, T2, b⟩; replace F := frC F b; replace R1 := rdC R1 b; clear b
  clear c; have c := F.all
  have B3 := tbN F k2 y2 t2 x2; have N3 := B3.n
  replace F := frA F (.cells #[.int .i64 k2, .string x2, .int .i64 y2, .int .i64 t2] 82); replace R1 := rdA R1 (.cells #[.int .i64 k2, .string x2, .int .i64 y2, .int .i64 t2] 82)
  by_cases i5 : isR E [63] q1.1 = true
  · skip
    replace H := ifT H i5
    go_wp2_with (go_at_call 69; refine (isC R1 ⟨#[63]⟩ i5).mono ?_)
    rintro e u ⟨rfl, b⟩; replace F := frC F b; replace B3 := tbC B3 b; replace R1 := rdC R1 b; clear b
    clear c; have c := F.all; have cB3 := B3.all
    go_wp2_with (go_at_call 70; refine (skC R1).mono ?_)
    rintro e u ⟨p7, l7, m7, n7, o7, s7, z7, a7, rfl, R7, b⟩; replace F := frC F b; replace B3 := tbC B3 b; replace R1 := rdC R1 b; clear b
    clear c; have c := F.all; clear cB3; have cB3 := B3.all
    replace H := bnd H; obtain ⟨q8, h8, H⟩ := H
    go_wp2_with (go_at_call 34; refine (fbC hex F R7 h8).mono ?_)
    rintro e u ⟨p8, l8, m8, n8, o8, s8, z8, a8, rfl, R8, b⟩; replace F := frC F b; clear R7; replace B3 := tbC B3 b; replace R1 := rdC R1 b; clear b
    clear c; have c := F.all; clear cB3; have cB3 := B3.all
    replace B3 := tbR B3 R8; clear R1; replace F := frR F R8; replace R8 := rdR R8
    go_wp2_with (go_at_call 71; refine (waC R8 ⟨#[58]⟩ (l := [58]) rfl).mono ?_)
    rintro e u ⟨p9, l9, m9, n9, o9, s9, z9, a9, rfl, R9, b⟩; replace F := frC F b; replace B3 := tbC B3 b; replace R8 := rdC R8 b; clear b
    clear c; have c := F.all; clear cB3; have cB3 := B3.all
    replace H := bnd H; obtain ⟨q10, h10, H⟩ := H
    go_wp2_with (go_at_call 34; refine (fbC hex F R9 h10).mono ?_)
    rintro e u ⟨p10, l10, m10, n10, o10, s10, z10, a10, rfl, R10, b⟩; replace F := frC F b; clear R9; replace B3 := tbC B3 b; replace R8 := rdC R8 b; clear b
    clear c; have c := F.all; clear cB3; have cB3 := B3.all
    replace B3 := tbR B3 R10; clear R8; replace F := frR F R10; replace R10 := rdR R10
    have L11 := lsK F [q1.1.top, q8.1.top, q10.1.top] (g := u.heap.size) (by simp [st6, World.setCell]) rfl rfl
    replace F := frA F (.cells #[.int .i64 (q1.1.top), .int .i64 (q8.1.top), .int .i64 (q10.1.top)] 3); replace B3 := tbA B3 (.cells #[.int .i64 (q1.1.top), .int .i64 (q8.1.top), .int .i64 (q10.1.top)] 3); replace R10 := rdA R10 (.cells #[.int .i64 (q1.1.top), .int .i64 (q8.1.top), .int .i64 (q10.1.top)] 3)
    replace H := aln H; obtain ⟨q12, h12, rfl⟩ := H
    go_wp2_with (go_at_call 40; refine (adC F R10 L11 38 0 0 _ ⟨#[]⟩ rfl rfl (ta_ T2) h12).mono ?_)
    rintro e u ⟨p12, l12, m12, n12, o12, s12, z12, a12, rfl, R12, b⟩; replace F := frC F b; clear L11; replace B3 := tbC B3 b; replace R10 := rdC R10 b; clear b
    clear c; have c := F.all; clear cB3; have cB3 := B3.all
    replace B3 := tbS B3 R12; replace R10 := rdSo R10 R12; replace F := frS F R12; replace R12 := rdS R12
    go_wp2
    refine R12.fin F ?_ rfl
    simp [results, Tryz.results34, go_sem, st6, c]
  · skip
    replace i5 := bfalse i5
    replace H := ifF H i5
    go_wp2_with (go_at_call 69; refine (isC R1 ⟨#[63]⟩ i5).mono ?_)
    rintro e u ⟨rfl, b⟩; replace F := frC F b; replace B3 := tbC B3 b; replace R1 := rdC R1 b; clear b
    clear c; have c := F.all; have cB3 := B3.all
    by_cases i8 : okR q1.1 = true
    · skip
      go_wp2_with (go_at_call 38; refine (okC R1 i8).mono ?_)
      rintro e u ⟨rfl, b⟩; replace F := frC F b; replace B3 := tbC B3 b; replace R1 := rdC R1 b; clear b
      clear c; have c := F.all; clear cB3; have cB3 := B3.all
      by_cases i10 : (pk E q1.1.L).k = 4
      · skip
        have k10q := kdT T2 (z := 4) rfl i10
        by_cases i12 : setT (pk E q1.1.L).t = true
        · skip
          replace H := ifT H (by rw [i8, decide_eq_true i10, i12]; rfl)
          go_wp2_with (go_at_call 72; refine (txC R1 T2 i12).mono ?_)
          rintro e u ⟨rfl, b⟩; replace F := frC F b; replace B3 := tbC B3 b; replace R1 := rdC R1 b; clear b
          clear c; have c := F.all; clear cB3; have cB3 := B3.all
          go_wp2_with (go_at_call 70; refine (skC R1).mono ?_)
          rintro e u ⟨p14, l14, m14, n14, o14, s14, z14, a14, rfl, R14, b⟩; replace F := frC F b; replace B3 := tbC B3 b; replace R1 := rdC R1 b; clear b
          clear c; have c := F.all; clear cB3; have cB3 := B3.all
          replace H := bnd H; obtain ⟨q15, h15, H⟩ := H
          go_wp2_with (go_at_call 34; refine (fbC hex F R14 h15).mono ?_)
          rintro e u ⟨p15, l15, m15, n15, o15, s15, z15, a15, rfl, R15, b⟩; replace F := frC F b; clear R14; replace B3 := tbC B3 b; replace R1 := rdC R1 b; clear b
          clear c; have c := F.all; clear cB3; have cB3 := B3.all
          replace B3 := tbR B3 R15; clear R1; replace F := frR F R15; replace R15 := rdR R15
          go_wp2
          replace F := frD F; replace B3 := tbD B3; replace R15 := rdD R15
          refine rg 11 (S := fun W => Q6 _ _ _ _ _ _ _ W ∧ Q4 _ _ _ _ _ W) ⟨F.held, B3.held⟩ fun hW => ?_
          refine tks hW [0, 1, 2, 3, 4, 5, 6, 7, 8] (n := 3) (by kernel_rfl) ?_
          iterate 9 (refine ⟨?_, _, rfl, rfl, fun W hW => ?_, ?_⟩; rotate_left; · (simp only [Q6, Q4] at hW; go_simp; (try with_reducible rfl)))
          (try simp only [Tks, marks, Act.put, List.setIfInBounds_toArray, List.set_cons_zero, List.set_cons_succ])
          refine rdy 9 (by kernel_rfl) rfl fun K hK => ?_
          go_simp
          refine (twoC F _ _).mono ?_
          rintro e u ⟨p16, rfl, L16, b⟩; replace F := frC F b; replace B3 := tbC B3 b; replace R15 := rdC R15 b; clear b
          clear c; have c := F.all; clear cB3; have cB3 := B3.all
          (try go_wp2_with fail)
          refine hK.out _ _ ⟨F.held, B3.held⟩ fun hW => ?_
          clear hK K
          (try simp only [Tks, marks, Act.put, List.setIfInBounds_toArray, List.set_cons_zero, List.set_cons_succ])
          replace H := aln H; obtain ⟨q17, h17, rfl⟩ := H
          refine rdy 10 (by kernel_rfl) rfl fun K hK => ?_
          go_simp
          refine (adC F R15 L16 39 0 0 _ x2 (tx_ T2) rfl (ta_ T2) h17).mono ?_
          rintro e u ⟨p17, l17, m17, n17, o17, s17, z17, a17, rfl, R17, b⟩; replace F := frC F b; clear L16; replace B3 := tbC B3 b; replace R15 := rdC R15 b; clear b
          clear c; have c := F.all; clear cB3; have cB3 := B3.all
          (try go_wp2_with fail)
          refine hK.out _ _ ⟨F.held, B3.held⟩ fun hW => ?_
          clear hK K
          (try simp only [Tks, marks, Act.put, List.setIfInBounds_toArray, List.set_cons_zero, List.set_cons_succ])
          refine rdl (by kernel_rfl) (by kernel_rfl) rfl fun K hK => ?_
          go_simp
          replace B3 := tbS B3 R17; replace R15 := rdSo R15 R17; replace F := frS F R17; replace R17 := rdS R17
          refine hK.out _ _ ?_
          clear hK K
          go_wp2
          refine R17.fin F ?_ rfl
          simp [results, Tryz.results34, go_sem, st6, c]
        · skip
          replace i12 := bfalse i12
          replace H := ifF H (by rw [i8, decide_eq_true i10, i12]; rfl)
          go_wp2_with (go_at_call 72; refine (txC R1 T2 i12).mono ?_)
          rintro e u ⟨rfl, b⟩; replace F := frC F b; replace B3 := tbC B3 b; replace R1 := rdC R1 b; clear b
          clear c; have c := F.all; clear cB3; have cB3 := B3.all
          replace B3 := tbS B3 R1; replace F := frS F R1; replace R1 := rdS R1
          obtain rfl := sm H
          go_wp2
          refine R1.fin F ?_ rfl
          simp [results, Tryz.results34, go_sem, st6, c]
      · skip
        have k10q := kdF T2 (z := 4) rfl i10
        replace H := ifF H (by rw [i8, decide_eq_false i10]; rfl)
        replace B3 := tbS B3 R1; replace F := frS F R1; replace R1 := rdS R1
        obtain rfl := sm H
        go_wp2
        refine R1.fin F ?_ rfl
        simp [results, Tryz.results34, go_sem, st6, c]
    · skip
      replace i8 := bfalse i8
      replace H := ifF H (by rw [i8]; rfl)
      go_wp2_with (go_at_call 38; refine (okC R1 i8).mono ?_)
      rintro e u ⟨rfl, b⟩; replace F := frC F b; replace B3 := tbC B3 b; replace R1 := rdC R1 b; clear b
      clear c; have c := F.all; clear cB3; have cB3 := B3.all
      replace B3 := tbS B3 R1; replace F := frS F R1; replace R1 := rdS R1
      obtain rfl := sm H
      go_wp2
      refine R1.fin F ?_ rfl
      simp [results, Tryz.results34, go_sem, st6, c]
end Go.Proofs.YtbjacclfhgnffaaGreatDoor
