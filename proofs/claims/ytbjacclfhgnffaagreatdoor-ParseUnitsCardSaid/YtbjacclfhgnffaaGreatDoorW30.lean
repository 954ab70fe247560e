/-
  Joined texts of this claim: La, Lb, Lc, Ld, Le, Lm.
-/
import Derived.Test.YtbjacclfhgnffaaGreatDoorW00
import Derived.Test.YtbjacclfhgnffaaGreatDoorW29
set_option maxHeartbeats 40000000
set_option maxRecDepth 100000
set_option linter.unusedVariables false
set_option linter.unusedSimpArgs false
namespace Go.Proofs.YtbjacclfhgnffaaGreatDoor
section
open Go.RowKit
open Tk (T4 bstr)
theorem ahead_step {E n:Nat}(hah:FnB E 119 #[] (runR E n .ahead)) (hbe:FnB E 167 #[] (runR E n .behind)):FnB E 119 #[] (runR E (n+1) .ahead):=by
 intro A w r q v hA h hf
 have H:Hid (stepR E (runR E n) .ahead r=some q):=Lib.hid hf
 clear hf
 obtain ⟨_,_,_,_,_,_,_,_,rfl⟩:=h.parts
 have F:=frN hA h;have R0:=rdN h
 clear hA h
 go_enter Tryz.func119,Tryz.ntmps119
 go_wp2_with (go_at_call 68;refine (pkC R0).mono ?_)
 rintro e u ⟨k1,x1,y1,t1,rfl,T1,b⟩;replace F:=frC F b;replace R0:=rdC R0 b;clear b
 have c:=F.all
 have B2:=tbN F k1 y1 t1 x1;have N2:=B2.n
 replace F:=frA F (.cells #[.int .i64 k1,.string x1,.int .i64 y1,.int .i64 t1] 82);replace R0:=rdA R0 (.cells #[.int .i64 k1,.string x1,.int .i64 y1,.int .i64 t1] 82)
 by_cases i4:isR E [45] r=true
 ·skip
  replace H:=ifT H (by simp [i4])
  go_wp2_with (go_at_call 69;refine (isC R0 ⟨#[45]⟩ i4).mono ?_)
  rintro e u ⟨rfl,b⟩;replace F:=frC F b;replace B2:=tbC B2 b;replace R0:=rdC R0 b;clear b
  replace c:=F.all;have cB2:=B2.all
  go_wp2_with (go_at_call 70;refine (skC R0).mono ?_)
  rintro e u ⟨_,_,_,_,_,_,_,_,rfl,R6,b⟩;replace F:=frC F b;replace B2:=tbC B2 b;replace R0:=rdC R0 b;clear b
  replace c:=F.all;replace cB2:=B2.all
  replace H:=bnd H;obtain ⟨q7,h7,H⟩:=H
  go_wp2_with (go_at_call 119;refine (fbC hah F R6 h7).mono ?_)
  rintro e u ⟨_,_,_,_,_,_,_,_,rfl,R7,b⟩;replace F:=frC F b;clear R6;replace B2:=tbC B2 b;replace R0:=rdC R0 b;clear b
  replace c:=F.all;replace cB2:=B2.all
  replace B2:=tbR B2 R7;clear R0;replace F:=frR F R7;replace R7:=rdR R7
  go_wp2
  replace F:=frD F;replace B2:=tbD B2;replace R7:=rdD R7
  refine rg 10 (S:=fun W=>Q6 _ _ _ _ _ _ _ W∧Q4 _ _ _ _ _ W) ⟨F.held,B2.held⟩ fun hW=>?_
  refine tks hW [0,1,2,3,4,5,6,7] (n:=3) (by kernel_rfl) ?_
  iterate 8 (refine ⟨?_,_,rfl,rfl,fun W hW=>?_,?_⟩;rotate_left;· (simp only [Q6,Q4] at hW;go_simp;(try with_reducible rfl)))
  refine rdy 8 (by kernel_rfl) rfl fun K hK=>?_
  go_simp
  refine (oneC F _).mono ?_
  rintro e u ⟨p8,rfl,L8,b⟩;replace F:=frC F b;replace B2:=tbC B2 b;replace R7:=rdC R7 b;clear b
  replace c:=F.all;replace cB2:=B2.all
  (try go_wp2_with fail)
  refine hK.out _ _ ⟨F.held,B2.held⟩ fun hW=>?_
  clear hK K
  replace H:=aln H;obtain ⟨q9,h9,rfl⟩:=H
  refine rdy 9 (by kernel_rfl) rfl fun K hK=>?_
  go_simp
  refine (adC F R7 L8 35 0 0 _ x1 (tx_ T1) rfl (ta_ T1) h9).mono ?_
  rintro e u ⟨_,_,_,_,_,_,_,_,rfl,R9,b⟩;replace F:=frC F b;clear L8;replace B2:=tbC B2 b;replace R7:=rdC R7 b;clear b
  replace c:=F.all;replace cB2:=B2.all
  (try go_wp2_with fail)
  refine hK.out _ _ ⟨F.held,B2.held⟩ fun hW=>?_
  clear hK K
  refine rdl (by kernel_rfl) (by kernel_rfl) rfl fun K hK=>?_
  go_simp
  replace B2:=tbS B2 R9;replace R7:=rdSo R7 R9;replace F:=frS F R9;replace R9:=rdS R9
  refine hK.out _ _ ?_
  clear hK K
  go_wp2
  refine R9.fin F ?_ rfl
  simp [results,Tryz.results119,go_sem,st6,c]
 ·skip
  replace i4:=bfalse i4
  go_wp2_with (go_at_call 69;refine (isC R0 ⟨#[45]⟩ i4).mono ?_)
  rintro e u ⟨rfl,b⟩;replace F:=frC F b;replace B2:=tbC B2 b;replace R0:=rdC R0 b;clear b
  replace c:=F.all;have cB2:=B2.all
  by_cases i7:isR E [33] r=true
  ·skip
   replace H:=ifT H (by simp [i4,i7])
   go_wp2_with (go_at_call 69;refine (isC R0 ⟨#[33]⟩ i7).mono ?_)
   rintro e u ⟨rfl,b⟩;replace F:=frC F b;replace B2:=tbC B2 b;replace R0:=rdC R0 b;clear b
   replace c:=F.all;replace cB2:=B2.all
   go_wp2_with (go_at_call 70;refine (skC R0).mono ?_)
   rintro e u ⟨_,_,_,_,_,_,_,_,rfl,R9,b⟩;replace F:=frC F b;replace B2:=tbC B2 b;replace R0:=rdC R0 b;clear b
   replace c:=F.all;replace cB2:=B2.all
   replace H:=bnd H;obtain ⟨q10,h10,H⟩:=H
   go_wp2_with (go_at_call 119;refine (fbC hah F R9 h10).mono ?_)
   rintro e u ⟨_,_,_,_,_,_,_,_,rfl,R10,b⟩;replace F:=frC F b;clear R9;replace B2:=tbC B2 b;replace R0:=rdC R0 b;clear b
   replace c:=F.all;replace cB2:=B2.all
   replace B2:=tbR B2 R10;clear R0;replace F:=frR F R10;replace R10:=rdR R10
   go_wp2
   replace F:=frD F;replace B2:=tbD B2;replace R10:=rdD R10
   refine rg 10 (S:=fun W=>Q6 _ _ _ _ _ _ _ W∧Q4 _ _ _ _ _ W) ⟨F.held,B2.held⟩ fun hW=>?_
   refine tks hW [0,1,2,3,4,5,6,7] (n:=3) (by kernel_rfl) ?_
   iterate 8 (refine ⟨?_,_,rfl,rfl,fun W hW=>?_,?_⟩;rotate_left;· (simp only [Q6,Q4] at hW;go_simp;(try with_reducible rfl)))
   refine rdy 8 (by kernel_rfl) rfl fun K hK=>?_
   go_simp
   refine (oneC F _).mono ?_
   rintro e u ⟨p11,rfl,L11,b⟩;replace F:=frC F b;replace B2:=tbC B2 b;replace R10:=rdC R10 b;clear b
   replace c:=F.all;replace cB2:=B2.all
   (try go_wp2_with fail)
   refine hK.out _ _ ⟨F.held,B2.held⟩ fun hW=>?_
   clear hK K
   replace H:=aln H;obtain ⟨q12,h12,rfl⟩:=H
   refine rdy 9 (by kernel_rfl) rfl fun K hK=>?_
   go_simp
   refine (adC F R10 L11 35 0 0 _ x1 (tx_ T1) rfl (ta_ T1) h12).mono ?_
   rintro e u ⟨_,_,_,_,_,_,_,_,rfl,R12,b⟩;replace F:=frC F b;clear L11;replace B2:=tbC B2 b;replace R10:=rdC R10 b;clear b
   replace c:=F.all;replace cB2:=B2.all
   (try go_wp2_with fail)
   refine hK.out _ _ ⟨F.held,B2.held⟩ fun hW=>?_
   clear hK K
   refine rdl (by kernel_rfl) (by kernel_rfl) rfl fun K hK=>?_
   go_simp
   replace B2:=tbS B2 R12;replace R10:=rdSo R10 R12;replace F:=frS F R12;replace R12:=rdS R12
   refine hK.out _ _ ?_
   clear hK K
   go_wp2
   refine R12.fin F ?_ rfl
   simp [results,Tryz.results119,go_sem,st6,c]
  ·skip
   replace i7:=bfalse i7
   go_wp2_with (go_at_call 69;refine (isC R0 ⟨#[33]⟩ i7).mono ?_)
   rintro e u ⟨rfl,b⟩;replace F:=frC F b;replace B2:=tbC B2 b;replace R0:=rdC R0 b;clear b
   replace c:=F.all;replace cB2:=B2.all
   by_cases i10:isR E [126] r=true
   ·skip
    replace H:=ifT H (by simp [i4,i7,i10])
    go_wp2_with (go_at_call 69;refine (isC R0 ⟨#[126]⟩ i10).mono ?_)
    rintro e u ⟨rfl,b⟩;replace F:=frC F b;replace B2:=tbC B2 b;replace R0:=rdC R0 b;clear b
    replace c:=F.all;replace cB2:=B2.all
    go_wp2_with (go_at_call 70;refine (skC R0).mono ?_)
    rintro e u ⟨_,_,_,_,_,_,_,_,rfl,R12,b⟩;replace F:=frC F b;replace B2:=tbC B2 b;replace R0:=rdC R0 b;clear b
    replace c:=F.all;replace cB2:=B2.all
    replace H:=bnd H;obtain ⟨q13,h13,H⟩:=H
    go_wp2_with (go_at_call 119;refine (fbC hah F R12 h13).mono ?_)
    rintro e u ⟨_,_,_,_,_,_,_,_,rfl,R13,b⟩;replace F:=frC F b;clear R12;replace B2:=tbC B2 b;replace R0:=rdC R0 b;clear b
    replace c:=F.all;replace cB2:=B2.all
    replace B2:=tbR B2 R13;clear R0;replace F:=frR F R13;replace R13:=rdR R13
    go_wp2
    replace F:=frD F;replace B2:=tbD B2;replace R13:=rdD R13
    refine rg 10 (S:=fun W=>Q6 _ _ _ _ _ _ _ W∧Q4 _ _ _ _ _ W) ⟨F.held,B2.held⟩ fun hW=>?_
    refine tks hW [0,1,2,3,4,5,6,7] (n:=3) (by kernel_rfl) ?_
    iterate 8 (refine ⟨?_,_,rfl,rfl,fun W hW=>?_,?_⟩;rotate_left;· (simp only [Q6,Q4] at hW;go_simp;(try with_reducible rfl)))
    refine rdy 8 (by kernel_rfl) rfl fun K hK=>?_
    go_simp
    refine (oneC F _).mono ?_
    rintro e u ⟨p14,rfl,L14,b⟩;replace F:=frC F b;replace B2:=tbC B2 b;replace R13:=rdC R13 b;clear b
    replace c:=F.all;replace cB2:=B2.all
    (try go_wp2_with fail)
    refine hK.out _ _ ⟨F.held,B2.held⟩ fun hW=>?_
    clear hK K
    replace H:=aln H;obtain ⟨q15,h15,rfl⟩:=H
    refine rdy 9 (by kernel_rfl) rfl fun K hK=>?_
    go_simp
    refine (adC F R13 L14 35 0 0 _ x1 (tx_ T1) rfl (ta_ T1) h15).mono ?_
    rintro e u ⟨_,_,_,_,_,_,_,_,rfl,R15,b⟩;replace F:=frC F b;clear L14;replace B2:=tbC B2 b;replace R13:=rdC R13 b;clear b
    replace c:=F.all;replace cB2:=B2.all
    (try go_wp2_with fail)
    refine hK.out _ _ ⟨F.held,B2.held⟩ fun hW=>?_
    clear hK K
    refine rdl (by kernel_rfl) (by kernel_rfl) rfl fun K hK=>?_
    go_simp
    replace B2:=tbS B2 R15;replace R13:=rdSo R13 R15;replace F:=frS F R15;replace R15:=rdS R15
    refine hK.out _ _ ?_
    clear hK K
    go_wp2
    refine R15.fin F ?_ rfl
    simp [results,Tryz.results119,go_sem,st6,c]
   ·skip
    replace i10:=bfalse i10
    go_wp2_with (go_at_call 69;refine (isC R0 ⟨#[126]⟩ i10).mono ?_)
    rintro e u ⟨rfl,b⟩;replace F:=frC F b;replace B2:=tbC B2 b;replace R0:=rdC R0 b;clear b
    replace c:=F.all;replace cB2:=B2.all
    by_cases i13:isR E [42] r=true
    ·skip
     replace H:=ifT H (by simp [i4,i7,i10,i13])
     go_wp2_with (go_at_call 69;refine (isC R0 ⟨#[42]⟩ i13).mono ?_)
     rintro e u ⟨rfl,b⟩;replace F:=frC F b;replace B2:=tbC B2 b;replace R0:=rdC R0 b;clear b
     replace c:=F.all;replace cB2:=B2.all
     go_wp2_with (go_at_call 70;refine (skC R0).mono ?_)
     rintro e u ⟨_,_,_,_,_,_,_,_,rfl,R15,b⟩;replace F:=frC F b;replace B2:=tbC B2 b;replace R0:=rdC R0 b;clear b
     replace c:=F.all;replace cB2:=B2.all
     replace H:=bnd H;obtain ⟨q16,h16,H⟩:=H
     go_wp2_with (go_at_call 119;refine (fbC hah F R15 h16).mono ?_)
     rintro e u ⟨_,_,_,_,_,_,_,_,rfl,R16,b⟩;replace F:=frC F b;clear R15;replace B2:=tbC B2 b;replace R0:=rdC R0 b;clear b
     replace c:=F.all;replace cB2:=B2.all
     replace B2:=tbR B2 R16;clear R0;replace F:=frR F R16;replace R16:=rdR R16
     go_wp2
     replace F:=frD F;replace B2:=tbD B2;replace R16:=rdD R16
     refine rg 10 (S:=fun W=>Q6 _ _ _ _ _ _ _ W∧Q4 _ _ _ _ _ W) ⟨F.held,B2.held⟩ fun hW=>?_
     refine tks hW [0,1,2,3,4,5,6,7] (n:=3) (by kernel_rfl) ?_
     iterate 8 (refine ⟨?_,_,rfl,rfl,fun W hW=>?_,?_⟩;rotate_left;· (simp only [Q6,Q4] at hW;go_simp;(try with_reducible rfl)))
     refine rdy 8 (by kernel_rfl) rfl fun K hK=>?_
     go_simp
     refine (oneC F _).mono ?_
     rintro e u ⟨p17,rfl,L17,b⟩;replace F:=frC F b;replace B2:=tbC B2 b;replace R16:=rdC R16 b;clear b
     replace c:=F.all;replace cB2:=B2.all
     (try go_wp2_with fail)
     refine hK.out _ _ ⟨F.held,B2.held⟩ fun hW=>?_
     clear hK K
     replace H:=aln H;obtain ⟨q18,h18,rfl⟩:=H
     refine rdy 9 (by kernel_rfl) rfl fun K hK=>?_
     go_simp
     refine (adC F R16 L17 35 0 0 _ x1 (tx_ T1) rfl (ta_ T1) h18).mono ?_
     rintro e u ⟨_,_,_,_,_,_,_,_,rfl,R18,b⟩;replace F:=frC F b;clear L17;replace B2:=tbC B2 b;replace R16:=rdC R16 b;clear b
     replace c:=F.all;replace cB2:=B2.all
     (try go_wp2_with fail)
     refine hK.out _ _ ⟨F.held,B2.held⟩ fun hW=>?_
     clear hK K
     refine rdl (by kernel_rfl) (by kernel_rfl) rfl fun K hK=>?_
     go_simp
     replace B2:=tbS B2 R18;replace R16:=rdSo R16 R18;replace F:=frS F R18;replace R18:=rdS R18
     refine hK.out _ _ ?_
     clear hK K
     go_wp2
     refine R18.fin F ?_ rfl
     simp [results,Tryz.results119,go_sem,st6,c]
    ·skip
     replace i13:=bfalse i13
     go_wp2_with (go_at_call 69;refine (isC R0 ⟨#[42]⟩ i13).mono ?_)
     rintro e u ⟨rfl,b⟩;replace F:=frC F b;replace B2:=tbC B2 b;replace R0:=rdC R0 b;clear b
     replace c:=F.all;replace cB2:=B2.all
     by_cases i16:isR E [38] r=true
     ·skip
      replace H:=ifT H (by simp [i4,i7,i10,i13,i16])
      go_wp2_with (go_at_call 69;refine (isC R0 ⟨#[38]⟩ i16).mono ?_)
      rintro e u ⟨rfl,b⟩;replace F:=frC F b;replace B2:=tbC B2 b;replace R0:=rdC R0 b;clear b
      replace c:=F.all;replace cB2:=B2.all
      go_wp2_with (go_at_call 70;refine (skC R0).mono ?_)
      rintro e u ⟨_,_,_,_,_,_,_,_,rfl,R18,b⟩;replace F:=frC F b;replace B2:=tbC B2 b;replace R0:=rdC R0 b;clear b
      replace c:=F.all;replace cB2:=B2.all
      replace H:=bnd H;obtain ⟨q19,h19,H⟩:=H
      go_wp2_with (go_at_call 119;refine (fbC hah F R18 h19).mono ?_)
      rintro e u ⟨_,_,_,_,_,_,_,_,rfl,R19,b⟩;replace F:=frC F b;clear R18;replace B2:=tbC B2 b;replace R0:=rdC R0 b;clear b
      replace c:=F.all;replace cB2:=B2.all
      replace B2:=tbR B2 R19;clear R0;replace F:=frR F R19;replace R19:=rdR R19
      go_wp2
      replace F:=frD F;replace B2:=tbD B2;replace R19:=rdD R19
      refine rg 10 (S:=fun W=>Q6 _ _ _ _ _ _ _ W∧Q4 _ _ _ _ _ W) ⟨F.held,B2.held⟩ fun hW=>?_
      refine tks hW [0,1,2,3,4,5,6,7] (n:=3) (by kernel_rfl) ?_
      iterate 8 (refine ⟨?_,_,rfl,rfl,fun W hW=>?_,?_⟩;rotate_left;· (simp only [Q6,Q4] at hW;go_simp;(try with_reducible rfl)))
      refine rdy 8 (by kernel_rfl) rfl fun K hK=>?_
      go_simp
      refine (oneC F _).mono ?_
      rintro e u ⟨p20,rfl,L20,b⟩;replace F:=frC F b;replace B2:=tbC B2 b;replace R19:=rdC R19 b;clear b
      replace c:=F.all;replace cB2:=B2.all
      (try go_wp2_with fail)
      refine hK.out _ _ ⟨F.held,B2.held⟩ fun hW=>?_
      clear hK K
      replace H:=aln H;obtain ⟨q21,h21,rfl⟩:=H
      refine rdy 9 (by kernel_rfl) rfl fun K hK=>?_
      go_simp
      refine (adC F R19 L20 35 0 0 _ x1 (tx_ T1) rfl (ta_ T1) h21).mono ?_
      rintro e u ⟨_,_,_,_,_,_,_,_,rfl,R21,b⟩;replace F:=frC F b;clear L20;replace B2:=tbC B2 b;replace R19:=rdC R19 b;clear b
      replace c:=F.all;replace cB2:=B2.all
      (try go_wp2_with fail)
      refine hK.out _ _ ⟨F.held,B2.held⟩ fun hW=>?_
      clear hK K
      refine rdl (by kernel_rfl) (by kernel_rfl) rfl fun K hK=>?_
      go_simp
      replace B2:=tbS B2 R21;replace R19:=rdSo R19 R21;replace F:=frS F R21;replace R21:=rdS R21
      refine hK.out _ _ ?_
      clear hK K
      go_wp2
      refine R21.fin F ?_ rfl
      simp [results,Tryz.results119,go_sem,st6,c]
     ·skip
      replace i16:=bfalse i16
      replace H:=ifF H (by simp [i4,i7,i10,i13,i16])
      go_wp2_with (go_at_call 69;refine (isC R0 ⟨#[38]⟩ i16).mono ?_)
      rintro e u ⟨rfl,b⟩;replace F:=frC F b;replace B2:=tbC B2 b;replace R0:=rdC R0 b;clear b
      replace c:=F.all;replace cB2:=B2.all
      by_cases i19:isR E [43,43] r=true
      ·skip
       replace H:=ifT H (by simp [i4,i7,i10,i13,i16,i19])
       go_wp2_with (go_at_call 69;refine (isC R0 ⟨#[43,43]⟩ i19).mono ?_)
       rintro e u ⟨rfl,b⟩;replace F:=frC F b;replace B2:=tbC B2 b;replace R0:=rdC R0 b;clear b
       replace c:=F.all;replace cB2:=B2.all
       go_wp2_with (go_at_call 70;refine (skC R0).mono ?_)
       rintro e u ⟨_,_,_,_,_,_,_,_,rfl,R21,b⟩;replace F:=frC F b;replace B2:=tbC B2 b;replace R0:=rdC R0 b;clear b
       replace c:=F.all;replace cB2:=B2.all
       replace H:=bnd H;obtain ⟨q22,h22,H⟩:=H
       go_wp2_with (go_at_call 119;refine (fbC hah F R21 h22).mono ?_)
       rintro e u ⟨_,_,_,_,_,_,_,_,rfl,R22,b⟩;replace F:=frC F b;clear R21;replace B2:=tbC B2 b;replace R0:=rdC R0 b;clear b
       replace c:=F.all;replace cB2:=B2.all
       replace B2:=tbR B2 R22;clear R0;replace F:=frR F R22;replace R22:=rdR R22
       go_wp2
       replace F:=frD F;replace B2:=tbD B2;replace R22:=rdD R22
       refine rg 10 (S:=fun W=>Q6 _ _ _ _ _ _ _ W∧Q4 _ _ _ _ _ W) ⟨F.held,B2.held⟩ fun hW=>?_
       refine tks hW [0,1,2,3,4,5,6,7] (n:=3) (by kernel_rfl) ?_
       iterate 8 (refine ⟨?_,_,rfl,rfl,fun W hW=>?_,?_⟩;rotate_left;· (simp only [Q6,Q4] at hW;go_simp;(try with_reducible rfl)))
       refine rdy 8 (by kernel_rfl) rfl fun K hK=>?_
       go_simp
       refine (oneC F _).mono ?_
       rintro e u ⟨p23,rfl,L23,b⟩;replace F:=frC F b;replace B2:=tbC B2 b;replace R22:=rdC R22 b;clear b
       replace c:=F.all;replace cB2:=B2.all
       (try go_wp2_with fail)
       refine hK.out _ _ ⟨F.held,B2.held⟩ fun hW=>?_
       clear hK K
       replace H:=aln H;obtain ⟨q24,h24,rfl⟩:=H
       refine rdy 9 (by kernel_rfl) rfl fun K hK=>?_
       go_simp
       refine (adC F R22 L23 40 0 0 _ x1 (tx_ T1) rfl (ta_ T1) h24).mono ?_
       rintro e u ⟨_,_,_,_,_,_,_,_,rfl,R24,b⟩;replace F:=frC F b;clear L23;replace B2:=tbC B2 b;replace R22:=rdC R22 b;clear b
       replace c:=F.all;replace cB2:=B2.all
       (try go_wp2_with fail)
       refine hK.out _ _ ⟨F.held,B2.held⟩ fun hW=>?_
       clear hK K
       refine rdl (by kernel_rfl) (by kernel_rfl) rfl fun K hK=>?_
       go_simp
       replace B2:=tbS B2 R24;replace R22:=rdSo R22 R24;replace F:=frS F R24;replace R24:=rdS R24
       refine hK.out _ _ ?_
       clear hK K
       go_wp2
       refine R24.fin F ?_ rfl
       simp [results,Tryz.results119,go_sem,st6,c]
      ·skip
       replace i19:=bfalse i19
       go_wp2_with (go_at_call 69;refine (isC R0 ⟨#[43,43]⟩ i19).mono ?_)
       rintro e u ⟨rfl,b⟩;replace F:=frC F b;replace B2:=tbC B2 b;replace R0:=rdC R0 b;clear b
       replace c:=F.all;replace cB2:=B2.all
       by_cases i22:isR E [45,45] r=true
       ·skip
        replace H:=ifT H (by simp [i4,i7,i10,i13,i16,i19,i22])
        go_wp2_with (go_at_call 69;refine (isC R0 ⟨#[45,45]⟩ i22).mono ?_)
        rintro e u ⟨rfl,b⟩;replace F:=frC F b;replace B2:=tbC B2 b;replace R0:=rdC R0 b;clear b
        replace c:=F.all;replace cB2:=B2.all
        go_wp2_with (go_at_call 70;refine (skC R0).mono ?_)
        rintro e u ⟨_,_,_,_,_,_,_,_,rfl,R24,b⟩;replace F:=frC F b;replace B2:=tbC B2 b;replace R0:=rdC R0 b;clear b
        replace c:=F.all;replace cB2:=B2.all
        replace H:=bnd H;obtain ⟨q25,h25,H⟩:=H
        go_wp2_with (go_at_call 119;refine (fbC hah F R24 h25).mono ?_)
        rintro e u ⟨_,_,_,_,_,_,_,_,rfl,R25,b⟩;replace F:=frC F b;clear R24;replace B2:=tbC B2 b;replace R0:=rdC R0 b;clear b
        replace c:=F.all;replace cB2:=B2.all
        replace B2:=tbR B2 R25;clear R0;replace F:=frR F R25;replace R25:=rdR R25
        go_wp2
        replace F:=frD F;replace B2:=tbD B2;replace R25:=rdD R25
        refine rg 10 (S:=fun W=>Q6 _ _ _ _ _ _ _ W∧Q4 _ _ _ _ _ W) ⟨F.held,B2.held⟩ fun hW=>?_
        refine tks hW [0,1,2,3,4,5,6,7] (n:=3) (by kernel_rfl) ?_
        iterate 8 (refine ⟨?_,_,rfl,rfl,fun W hW=>?_,?_⟩;rotate_left;· (simp only [Q6,Q4] at hW;go_simp;(try with_reducible rfl)))
        refine rdy 8 (by kernel_rfl) rfl fun K hK=>?_
        go_simp
        refine (oneC F _).mono ?_
        rintro e u ⟨p26,rfl,L26,b⟩;replace F:=frC F b;replace B2:=tbC B2 b;replace R25:=rdC R25 b;clear b
        replace c:=F.all;replace cB2:=B2.all
        (try go_wp2_with fail)
        refine hK.out _ _ ⟨F.held,B2.held⟩ fun hW=>?_
        clear hK K
        replace H:=aln H;obtain ⟨q27,h27,rfl⟩:=H
        refine rdy 9 (by kernel_rfl) rfl fun K hK=>?_
        go_simp
        refine (adC F R25 L26 40 0 0 _ x1 (tx_ T1) rfl (ta_ T1) h27).mono ?_
        rintro e u ⟨_,_,_,_,_,_,_,_,rfl,R27,b⟩;replace F:=frC F b;clear L26;replace B2:=tbC B2 b;replace R25:=rdC R25 b;clear b
        replace c:=F.all;replace cB2:=B2.all
        (try go_wp2_with fail)
        refine hK.out _ _ ⟨F.held,B2.held⟩ fun hW=>?_
        clear hK K
        refine rdl (by kernel_rfl) (by kernel_rfl) rfl fun K hK=>?_
        go_simp
        replace B2:=tbS B2 R27;replace R25:=rdSo R25 R27;replace F:=frS F R27;replace R27:=rdS R27
        refine hK.out _ _ ?_
        clear hK K
        go_wp2
        refine R27.fin F ?_ rfl
        simp [results,Tryz.results119,go_sem,st6,c]
       ·skip
        replace i22:=bfalse i22
        replace H:=ifF H (by simp [i4,i7,i10,i13,i16,i19,i22])
        go_wp2_with (go_at_call 69;refine (isC R0 ⟨#[45,45]⟩ i22).mono ?_)
        rintro e u ⟨rfl,b⟩;replace F:=frC F b;replace B2:=tbC B2 b;replace R0:=rdC R0 b;clear b
        replace c:=F.all;replace cB2:=B2.all
        replace H:=bnd H;obtain ⟨q24,h24,H⟩:=H
        go_wp2_with (go_at_call 167;refine (fbC hbe F R0 h24).mono ?_)
        rintro e u ⟨_,_,_,_,_,_,_,_,rfl,R24,b⟩;replace F:=frC F b;clear R0;replace B2:=tbC B2 b;clear b
        replace c:=F.all;replace cB2:=B2.all
        replace B2:=tbS B2 R24;replace F:=frS F R24;replace R24:=rdS R24
        obtain rfl:=sm H
        go_wp2
        refine R24.fin F ?_ rfl
        simp [results,Tryz.results119,go_sem,st6,c]
end
section
open Go.RowKit
open Tk (T4 bstr)
theorem behind_step {E n:Nat}(hfi:FnB E 202 #[] (runR E n .first)) (hex:∀ m,m<n→FnB E 34 #[] (runR E m .expr)):FnB E 167 #[] (runR E (n+1) .behind):=by
 intro A w r q v hA h hf
 have H:Hid (stepR E (runR E n) .behind r=some q):=Lib.hid hf
 clear hf
 obtain ⟨_,_,_,_,_,_,_,_,rfl⟩:=h.parts
 have F:=frN hA h;have R0:=rdN h
 clear hA h
 go_enter Tryz.func167,Tryz.ntmps167
 replace H:=bnd H;obtain ⟨q1,h1,H⟩:=H
 go_wp2_with (go_at_call 202;refine (fbC hfi F R0 h1).mono ?_)
 rintro e u ⟨_,_,_,_,_,_,_,_,rfl,R1,b⟩;replace F:=frC F b;replace R0:=rdC R0 b;clear b
 have c:=F.all
 clear R0;replace F:=frR F R1;replace R1:=rdR R1
 go_wp2
 clear c
 go_loopg [] n (fun k wr=>k≤n∧Lp E A w (fun rho=>Hid (runR E k .behindL rho=some q)) wr)
 case atStart=>exact ⟨Nat.le_refl _,_,_,_,_,_,_,_,_,_,H,F,R1⟩
 clear F R1 H
 obtain ⟨hk,rho,p2,l2,m2,n2,o2,s2,z2,a2,H,F,R2⟩:=hrel
 cases gk with
 | zero=>cases H.out
 | succ m =>
  have c:=F.all
  by_cases i4:isR E [91] rho=true
  ·skip
   replace H:=ifT H (by simp [i4])
   replace H:=ifT H i4
   go_wp2_with (go_at_call 69;refine (isC R2 ⟨#[91]⟩ i4).mono ?_)
   rintro e u ⟨rfl,b⟩;replace F:=frC F b;replace R2:=rdC R2 b;clear b
   replace c:=F.all
   go_wp2_with (go_at_call 68;refine (pkC R2).mono ?_)
   rintro e u ⟨k6,x6,y6,t6,rfl,T6,b⟩;replace F:=frC F b;replace R2:=rdC R2 b;clear b
   replace c:=F.all
   have B7:=tbN F k6 y6 t6 x6;have N7:=B7.n
   replace F:=frA F (.cells #[.int .i64 k6,.string x6,.int .i64 y6,.int .i64 t6] 82);replace R2:=rdA R2 (.cells #[.int .i64 k6,.string x6,.int .i64 y6,.int .i64 t6] 82)
   go_wp2_with (go_at_call 69;refine (isC R2 ⟨#[91]⟩ i4).mono ?_)
   rintro e u ⟨rfl,b⟩;replace F:=frC F b;replace B7:=tbC B7 b;replace R2:=rdC R2 b;clear b
   replace c:=F.all;have cB7:=B7.all
   go_wp2_with (go_at_call 70;refine (skC R2).mono ?_)
   rintro e u ⟨_,_,_,_,_,_,_,_,rfl,R9,b⟩;replace F:=frC F b;replace B7:=tbC B7 b;replace R2:=rdC R2 b;clear b
   replace c:=F.all;replace cB7:=B7.all
   replace H:=bnd H;obtain ⟨q10,h10,H⟩:=H
   go_wp2_with (go_at_call 34;refine (fbC (hex m (by omega)) F R9 h10).mono ?_)
   rintro e u ⟨_,_,_,_,_,_,_,_,rfl,R10,b⟩;replace F:=frC F b;clear R9;replace B7:=tbC B7 b;replace R2:=rdC R2 b;clear b
   replace c:=F.all;replace cB7:=B7.all
   replace B7:=tbR B7 R10;clear R2;replace F:=frR F R10;replace R10:=rdR R10
   go_wp2
   replace F:=frD F;replace B7:=tbD B7;replace R10:=rdD R10
   refine rg 9 (S:=fun W=>Q6 _ _ _ _ _ _ _ W∧Q4 _ _ _ _ _ W) ⟨F.held,B7.held⟩ fun hW=>?_
   refine tks hW [0,2,3,4,5,6] (n:=4) (by kernel_rfl) ?_
   iterate 6 (refine ⟨?_,_,rfl,rfl,fun W hW=>?_,?_⟩;rotate_left;· (simp only [Q6,Q4] at hW;go_simp;(try with_reducible rfl)))
   refine rdy 1 (by kernel_rfl) rfl fun K hK=>?_
   go_simp
   refine (waC R10 ⟨#[93]⟩ (l:=[93]) rfl).mono ?_
   rintro e u ⟨_,_,_,_,_,_,_,_,rfl,R11,b⟩;replace F:=frC F b;replace B7:=tbC B7 b;replace R10:=rdC R10 b;clear b
   replace c:=F.all;replace cB7:=B7.all
   (try go_wp2_with fail)
   refine hK.out _ _ ⟨F.held,B7.held⟩ fun hW=>?_
   clear hK K
   refine rdy 7 (by kernel_rfl) rfl fun K hK=>?_
   go_simp
   refine (twoC F _ _).mono ?_
   rintro e u ⟨p12,rfl,L12,b⟩;replace F:=frC F b;replace B7:=tbC B7 b;replace R10:=rdC R10 b;replace R11:=rdC R11 b;clear b
   replace c:=F.all;replace cB7:=B7.all
   (try go_wp2_with fail)
   refine hK.out _ _ ⟨F.held,B7.held⟩ fun hW=>?_
   clear hK K
   replace H:=bnd H;obtain ⟨q13,h13,H⟩:=H
   refine rdy 8 (by kernel_rfl) rfl fun K hK=>?_
   go_simp
   refine (adC F R11 L12 34 0 0 _ ⟨#[]⟩ rfl rfl (ta_ T6) h13).mono ?_
   rintro e u ⟨p13,_,_,_,_,_,_,_,rfl,R13,b⟩;replace F:=frC F b;clear R11;clear L12;replace B7:=tbC B7 b;replace R10:=rdC R10 b;clear b
   replace c:=F.all;replace cB7:=B7.all
   (try go_wp2_with fail)
   refine hK.out _ _ ⟨F.held,B7.held⟩ fun hW=>?_
   clear hK K
   refine rdl (by kernel_rfl) (by kernel_rfl) rfl fun K hK=>?_
   go_simp
   replace B7:=tbR B7 R13;clear R10;replace F:=frR F R13;replace R13:=rdR R13
   refine hK.out _ _ ?_
   clear hK K
   go_wp2
   go_roundg m
   case rel=>exact ⟨by omega,_,_,_,_,_,_,_,_,_,H,F,R13⟩
   case measure=>omega
  ·skip
   replace i4:=bfalse i4
   go_wp2_with (go_at_call 69;refine (isC R2 ⟨#[91]⟩ i4).mono ?_)
   rintro e u ⟨rfl,b⟩;replace F:=frC F b;replace R2:=rdC R2 b;clear b
   replace c:=F.all
   by_cases i7:isR E [43,43] rho=true
   ·skip
    replace H:=ifT H (by simp [i4,i7])
    replace H:=ifF H i4
    go_wp2_with (go_at_call 69;refine (isC R2 ⟨#[43,43]⟩ i7).mono ?_)
    rintro e u ⟨rfl,b⟩;replace F:=frC F b;replace R2:=rdC R2 b;clear b
    replace c:=F.all
    go_wp2_with (go_at_call 68;refine (pkC R2).mono ?_)
    rintro e u ⟨k9,x9,y9,t9,rfl,T9,b⟩;replace F:=frC F b;replace R2:=rdC R2 b;clear b
    replace c:=F.all
    have B10:=tbN F k9 y9 t9 x9;have N10:=B10.n
    replace F:=frA F (.cells #[.int .i64 k9,.string x9,.int .i64 y9,.int .i64 t9] 82);replace R2:=rdA R2 (.cells #[.int .i64 k9,.string x9,.int .i64 y9,.int .i64 t9] 82)
    go_wp2_with (go_at_call 69;refine (isC R2 ⟨#[91]⟩ i4).mono ?_)
    rintro e u ⟨rfl,b⟩;replace F:=frC F b;replace B10:=tbC B10 b;replace R2:=rdC R2 b;clear b
    replace c:=F.all;have cB10:=B10.all
    go_wp2
    replace F:=frD F;replace B10:=tbD B10;replace R2:=rdD R2
    refine rg 10 (S:=fun W=>Q6 _ _ _ _ _ _ _ W∧Q4 _ _ _ _ _ W) ⟨F.held,B10.held⟩ fun hW=>?_
    refine tks hW [0,2,3,4,5,6,7] (n:=4) (by kernel_rfl) ?_
    iterate 7 (refine ⟨?_,_,rfl,rfl,fun W hW=>?_,?_⟩;rotate_left;· (simp only [Q6,Q4] at hW;go_simp;(try with_reducible rfl)))
    refine rdy 1 (by kernel_rfl) rfl fun K hK=>?_
    go_simp
    refine (skC R2).mono ?_
    rintro e u ⟨p12,_,_,_,_,_,_,_,rfl,R12,b⟩;replace F:=frC F b;replace B10:=tbC B10 b;replace R2:=rdC R2 b;clear b
    replace c:=F.all;replace cB10:=B10.all
    (try go_wp2_with fail)
    refine hK.out _ _ ⟨F.held,B10.held⟩ fun hW=>?_
    clear hK K
    refine rdy 8 (by kernel_rfl) rfl fun K hK=>?_
    go_simp
    refine (oneC F _).mono ?_
    rintro e u ⟨p13,rfl,L13,b⟩;replace F:=frC F b;replace B10:=tbC B10 b;replace R2:=rdC R2 b;replace R12:=rdC R12 b;clear b
    replace c:=F.all;replace cB10:=B10.all
    (try go_wp2_with fail)
    refine hK.out _ _ ⟨F.held,B10.held⟩ fun hW=>?_
    clear hK K
    replace H:=bnd H;obtain ⟨q14,h14,H⟩:=H
    refine rdy 9 (by kernel_rfl) rfl fun K hK=>?_
    go_simp
    refine (adC F R12 L13 40 1 0 _ x9 (tx_ T9) rfl (ta_ T9) h14).mono ?_
    rintro e u ⟨_,_,_,_,_,_,_,_,rfl,R14,b⟩;replace F:=frC F b;clear R12;clear L13;replace B10:=tbC B10 b;replace R2:=rdC R2 b;clear b
    replace c:=F.all;replace cB10:=B10.all
    (try go_wp2_with fail)
    refine hK.out _ _ ⟨F.held,B10.held⟩ fun hW=>?_
    clear hK K
    refine rdl (by kernel_rfl) (by kernel_rfl) rfl fun K hK=>?_
    go_simp
    replace B10:=tbR B10 R14;clear R2;replace F:=frR F R14;replace R14:=rdR R14
    refine hK.out _ _ ?_
    clear hK K
    go_wp2
    go_roundg m
    case rel=>exact ⟨by omega,_,_,_,_,_,_,_,_,_,H,F,R14⟩
    case measure=>omega
   ·skip
    replace i7:=bfalse i7
    go_wp2_with (go_at_call 69;refine (isC R2 ⟨#[43,43]⟩ i7).mono ?_)
    rintro e u ⟨rfl,b⟩;replace F:=frC F b;replace R2:=rdC R2 b;clear b
    replace c:=F.all
    by_cases i10:isR E [45,45] rho=true
    ·skip
     replace H:=ifT H (by simp [i4,i7,i10])
     replace H:=ifF H i4
     go_wp2_with (go_at_call 69;refine (isC R2 ⟨#[45,45]⟩ i10).mono ?_)
     rintro e u ⟨rfl,b⟩;replace F:=frC F b;replace R2:=rdC R2 b;clear b
     replace c:=F.all
     go_wp2_with (go_at_call 68;refine (pkC R2).mono ?_)
     rintro e u ⟨k12,x12,y12,t12,rfl,T12,b⟩;replace F:=frC F b;replace R2:=rdC R2 b;clear b
     replace c:=F.all
     have B13:=tbN F k12 y12 t12 x12;have N13:=B13.n
     replace F:=frA F (.cells #[.int .i64 k12,.string x12,.int .i64 y12,.int .i64 t12] 82);replace R2:=rdA R2 (.cells #[.int .i64 k12,.string x12,.int .i64 y12,.int .i64 t12] 82)
     go_wp2_with (go_at_call 69;refine (isC R2 ⟨#[91]⟩ i4).mono ?_)
     rintro e u ⟨rfl,b⟩;replace F:=frC F b;replace B13:=tbC B13 b;replace R2:=rdC R2 b;clear b
     replace c:=F.all;have cB13:=B13.all
     go_wp2
     replace F:=frD F;replace B13:=tbD B13;replace R2:=rdD R2
     refine rg 10 (S:=fun W=>Q6 _ _ _ _ _ _ _ W∧Q4 _ _ _ _ _ W) ⟨F.held,B13.held⟩ fun hW=>?_
     refine tks hW [0,2,3,4,5,6,7] (n:=4) (by kernel_rfl) ?_
     iterate 7 (refine ⟨?_,_,rfl,rfl,fun W hW=>?_,?_⟩;rotate_left;· (simp only [Q6,Q4] at hW;go_simp;(try with_reducible rfl)))
     refine rdy 1 (by kernel_rfl) rfl fun K hK=>?_
     go_simp
     refine (skC R2).mono ?_
     rintro e u ⟨_,_,_,_,_,_,_,_,rfl,R15,b⟩;replace F:=frC F b;replace B13:=tbC B13 b;replace R2:=rdC R2 b;clear b
     replace c:=F.all;replace cB13:=B13.all
     (try go_wp2_with fail)
     refine hK.out _ _ ⟨F.held,B13.held⟩ fun hW=>?_
     clear hK K
     refine rdy 8 (by kernel_rfl) rfl fun K hK=>?_
     go_simp
     refine (oneC F _).mono ?_
     rintro e u ⟨p16,rfl,L16,b⟩;replace F:=frC F b;replace B13:=tbC B13 b;replace R2:=rdC R2 b;replace R15:=rdC R15 b;clear b
     replace c:=F.all;replace cB13:=B13.all
     (try go_wp2_with fail)
     refine hK.out _ _ ⟨F.held,B13.held⟩ fun hW=>?_
     clear hK K
     replace H:=bnd H;obtain ⟨q17,h17,H⟩:=H
     refine rdy 9 (by kernel_rfl) rfl fun K hK=>?_
     go_simp
     refine (adC F R15 L16 40 1 0 _ x12 (tx_ T12) rfl (ta_ T12) h17).mono ?_
     rintro e u ⟨_,_,_,_,_,_,_,_,rfl,R17,b⟩;replace F:=frC F b;clear R15;clear L16;replace B13:=tbC B13 b;replace R2:=rdC R2 b;clear b
     replace c:=F.all;replace cB13:=B13.all
     (try go_wp2_with fail)
     refine hK.out _ _ ⟨F.held,B13.held⟩ fun hW=>?_
     clear hK K
     refine rdl (by kernel_rfl) (by kernel_rfl) rfl fun K hK=>?_
     go_simp
     replace B13:=tbR B13 R17;clear R2;replace F:=frR F R17;replace R17:=rdR R17
     refine hK.out _ _ ?_
     clear hK K
     go_wp2
     go_roundg m
     case rel=>exact ⟨by omega,_,_,_,_,_,_,_,_,_,H,F,R17⟩
     case measure=>omega
    ·skip
     replace i10:=bfalse i10
     replace H:=ifF H (by simp [i4,i7,i10])
     go_wp2_with (go_at_call 69;refine (isC R2 ⟨#[45,45]⟩ i10).mono ?_)
     rintro e u ⟨rfl,b⟩;replace F:=frC F b;replace R2:=rdC R2 b;clear b
     replace c:=F.all
     replace F:=frS F R2;replace R2:=rdS R2
     obtain rfl:=sm H
     go_wp2
     refine R2.fin F ?_ rfl
     simp [results,Tryz.results167,go_sem,st6,c]
end
section
open Go.RowKit
open Tk (T4 bstr)
theorem rank_le (l:List UInt8):rankT l≤10:=by
 have h:=rank_level l
 have:=levelG_le l
 omega
theorem level_step {E n:Nat}(hah:FnB E 119 #[] (runR E n .ahead)) (hlv:∀ m,m<n→∀ low:Int,0≤low→FnB E 67 #[.int .i64 low] (runR E m (.level low.toNat))) (low:Int) (hlo:0≤low):FnB E 67 #[.int .i64 low] (runR E (n+1) (.level low.toNat)):=by
 intro A w r q v hA h hf
 have H:Hid (stepR E (runR E n) (.level low.toNat) r=some q):=Lib.hid hf
 clear hf
 have hlv':=fun m hm (k:Nat)=>(show FnB E 67 #[.int .i64 ((k:Int)+1)] (runR E m (.level (k+1))) from hlv m hm ((k:Int)+1) (by omega));clear hlv
 have f0:=fldT0;have f1:=fldT1
 obtain ⟨_,_,_,_,_,_,_,_,rfl⟩:=h.parts
 have F:=frN hA h;have R0:=rdN h
 clear hA h
 go_enter Tryz.func67,Tryz.ntmps67
 replace H:=bnd H;obtain ⟨q1,h1,H⟩:=H
 go_wp2_with (go_at_call 119;refine (fbC hah F R0 h1).mono ?_)
 rintro e u ⟨_,_,_,_,_,_,_,_,rfl,R1,b⟩;replace F:=frC F b;replace R0:=rdC R0 b;clear b
 have c:=F.all
 clear R0;replace F:=frR F R1;replace R1:=rdR R1
 go_wp2
 clear c
 go_loopg [] n (fun k wr=>k≤n∧Lp E A w (fun rho=>Hid (runR E k (.levelL low.toNat) rho=some q)) wr)
 case atStart=>exact ⟨Nat.le_refl _,_,_,_,_,_,_,_,_,_,H,F,R1⟩
 clear F R1 H
 obtain ⟨hk,rho,p2,l2,m2,n2,o2,s2,z2,a2,H,F,R2⟩:=hrel
 cases gk with
 | zero=>cases H.out
 | succ m =>
  have c:=F.all
  by_cases i4:okR rho=true
  ·skip
   go_wp2_with (go_at_call 38;refine (okC R2 i4).mono ?_)
   rintro e u ⟨rfl,b⟩;replace F:=frC F b;replace R2:=rdC R2 b;clear b
   replace c:=F.all
   go_wp2_with (go_at_call 68;refine (pkC R2).mono ?_)
   rintro e u ⟨k6,x6,y6,t6,rfl,T6,b⟩;replace F:=frC F b;replace R2:=rdC R2 b;clear b
   replace c:=F.all
   by_cases i7:(pk E rho.L).k=4
   ·skip
    have k7q:=kdT T6 (z:=4) rfl i7
    go_wp2_with (go_at_call 68;refine (pkC R2).mono ?_)
    rintro e u ⟨k8,x8,y8,t8,rfl,T8,b⟩;replace F:=frC F b;replace R2:=rdC R2 b;clear b
    replace c:=F.all
    go_wp2_with (go_at_call 120;refine (rkC T8 rfl _).mono ?_)
    rintro e u ⟨rfl,b⟩;replace F:=frC F b;replace R2:=rdC R2 b;clear b
    replace c:=F.all
    by_cases i10:low≤(rankT (pk E rho.L).t:Int)
    ·skip
     have j10:low.toNat≤rankT (pk E rho.L).t:=by omega
     replace H:=ifT H (by rw [i4,decide_eq_true i7,decide_eq_true j10];rfl)
     have hr10:=rank_le (pk E rho.L).t
     go_wp2_with (go_at_call 68;refine (pkC R2).mono ?_)
     rintro e u ⟨k11,x11,y11,t11,rfl,T11,b⟩;replace F:=frC F b;replace R2:=rdC R2 b;clear b
     replace c:=F.all
     have B12:=tbN F k11 y11 t11 x11;have N12:=B12.n
     replace F:=frA F (.cells #[.int .i64 k11,.string x11,.int .i64 y11,.int .i64 t11] 82);replace R2:=rdA R2 (.cells #[.int .i64 k11,.string x11,.int .i64 y11,.int .i64 t11] 82)
     go_wp2
     replace F:=frD F;replace B12:=tbD B12;replace R2:=rdD R2
     refine rg 7 (S:=fun W=>Q6 _ _ _ _ _ _ _ W∧Q4 _ _ _ _ _ W) ⟨F.held,B12.held⟩ fun hW=>?_
     refine tks hW [0,2,3] (n:=5) (by kernel_rfl) ?_
     iterate 3 (refine ⟨?_,_,rfl,rfl,fun W hW=>?_,?_⟩;rotate_left;· (simp only [Q6,Q4] at hW;go_simp;(try with_reducible rfl)))
     refine rdy 1 (by kernel_rfl) rfl fun K hK=>?_
     go_simp
     refine (skC R2).mono ?_
     rintro e u ⟨_,_,_,_,_,_,_,_,rfl,R13,b⟩;replace F:=frC F b;replace B12:=tbC B12 b;replace R2:=rdC R2 b;clear b
     replace c:=F.all;have cB12:=B12.all
     (try go_wp2_with fail)
     refine hK.out _ _ ⟨F.held,B12.held⟩ fun hW=>?_
     clear hK K
     refine rdy 4 (by kernel_rfl) rfl fun K hK=>?_
     go_simp
     refine (rkC T11 rfl _).mono ?_
     rintro e u ⟨rfl,b⟩;replace F:=frC F b;replace B12:=tbC B12 b;replace R2:=rdC R2 b;replace R13:=rdC R13 b;clear b
     replace c:=F.all;replace cB12:=B12.all
     (try go_wp2_with fail)
     refine hK.out _ _ ⟨F.held,B12.held⟩ fun hW=>?_
     clear hK K
     refine tks hW [5] (n:=2) (by kernel_rfl) ?_
     iterate 1 (refine ⟨?_,_,rfl,rfl,fun W hW=>?_,?_⟩;rotate_left;· (simp only [Q6,Q4] at hW;go_simp;(try with_reducible rfl)))
     replace H:=bnd H;obtain ⟨q15,h15,H⟩:=H
     refine rdy 6 (by kernel_rfl) rfl fun K hK=>?_
     go_simp
     rw [show IntKind.i64.wrap ((rankT (pk E rho.L).t:Int)+1)=(rankT (pk E rho.L).t:Int)+1 from IntWalk.i64_in _ (by omega)]
     refine (fbC (hlv' m (by omega) (rankT (pk E rho.L).t)) F R13 h15).mono ?_
     rintro e u ⟨_,_,_,_,_,_,_,_,rfl,R15,b⟩;replace F:=frC F b;clear R13;replace B12:=tbC B12 b;replace R2:=rdC R2 b;clear b
     replace c:=F.all;replace cB12:=B12.all
     (try go_wp2_with fail)
     refine hK.out _ _ ⟨F.held,B12.held⟩ fun hW=>?_
     clear hK K
     refine rdl (by kernel_rfl) (by kernel_rfl) rfl fun K hK=>?_
     go_simp
     replace B12:=tbR B12 R15;clear R2;replace F:=frR F R15;replace R15:=rdR R15
     refine hK.out _ _ ?_
     clear hK K
     go_wp2_with (go_at_call 120;refine (rkC T11 rfl _).mono ?_)
     rintro e u ⟨rfl,b⟩;replace F:=frC F b;replace B12:=tbC B12 b;replace R15:=rdC R15 b;clear b
     replace c:=F.all;replace cB12:=B12.all
     by_cases i17:rankT (pk E rho.L).t<3
     ·skip
      rw [if_pos i17] at H
      replace i17:decide ((rankT (pk E rho.L).t:Int)<3)=true:=by simp;omega
      go_wp2
      replace F:=frD F;replace B12:=tbD B12;replace R15:=rdD R15
      refine rg 12 (S:=fun W=>Q6 _ _ _ _ _ _ _ W∧Q4 _ _ _ _ _ W) ⟨F.held,B12.held⟩ fun hW=>?_
      refine tks hW [0,1,2,3,4,5,6,7,8,9] (n:=3) (by kernel_rfl) ?_
      iterate 10 (refine ⟨?_,_,rfl,rfl,fun W hW=>?_,?_⟩;rotate_left;· (simp only [Q6,Q4] at hW;go_simp;(try with_reducible rfl)))
      refine rdy 10 (by kernel_rfl) rfl fun K hK=>?_
      go_simp
      refine (twoC F _ _).mono ?_
      rintro e u ⟨p18,rfl,L18,b⟩;replace F:=frC F b;replace B12:=tbC B12 b;replace R15:=rdC R15 b;clear b
      replace c:=F.all;replace cB12:=B12.all
      (try go_wp2_with fail)
      refine hK.out _ _ ⟨F.held,B12.held⟩ fun hW=>?_
      clear hK K
      replace H:=bnd H;obtain ⟨q19,h19,H⟩:=H
      refine rdy 11 (by kernel_rfl) rfl fun K hK=>?_
      go_simp
      refine (adC F R15 L18 37 0 0 _ x11 (tx_ T11) rfl (ta_ T11) h19).mono ?_
      rintro e u ⟨_,_,_,_,_,_,_,_,rfl,R19,b⟩;replace F:=frC F b;clear L18;replace B12:=tbC B12 b;replace R15:=rdC R15 b;clear b
      replace c:=F.all;replace cB12:=B12.all
      (try go_wp2_with fail)
      refine hK.out _ _ ⟨F.held,B12.held⟩ fun hW=>?_
      clear hK K
      refine rdl (by kernel_rfl) (by kernel_rfl) rfl fun K hK=>?_
      go_simp
      replace B12:=tbR B12 R19;clear R15;replace F:=frR F R19;replace R19:=rdR R19
      refine hK.out _ _ ?_
      clear hK K
      go_wp2
      go_roundg m
      case rel=>exact ⟨by omega,_,_,_,_,_,_,_,_,_,H,F,R19⟩
      case measure=>omega
     ·skip
      rw [if_neg i17] at H
      replace i17:decide ((rankT (pk E rho.L).t:Int)<3)=false:=by simp;omega
      go_wp2
      replace F:=frD F;replace B12:=tbD B12;replace R15:=rdD R15
      refine rg 12 (S:=fun W=>Q6 _ _ _ _ _ _ _ W∧Q4 _ _ _ _ _ W) ⟨F.held,B12.held⟩ fun hW=>?_
      refine tks hW [0,1,2,3,4,5,6,7,8,9] (n:=3) (by kernel_rfl) ?_
      iterate 10 (refine ⟨?_,_,rfl,rfl,fun W hW=>?_,?_⟩;rotate_left;· (simp only [Q6,Q4] at hW;go_simp;(try with_reducible rfl)))
      refine rdy 10 (by kernel_rfl) rfl fun K hK=>?_
      go_simp
      refine (twoC F _ _).mono ?_
      rintro e u ⟨p18,rfl,L18,b⟩;replace F:=frC F b;replace B12:=tbC B12 b;replace R15:=rdC R15 b;clear b
      replace c:=F.all;replace cB12:=B12.all
      (try go_wp2_with fail)
      refine hK.out _ _ ⟨F.held,B12.held⟩ fun hW=>?_
      clear hK K
      replace H:=bnd H;obtain ⟨q19,h19,H⟩:=H
      refine rdy 11 (by kernel_rfl) rfl fun K hK=>?_
      go_simp
      refine (adC F R15 L18 36 0 0 _ x11 (tx_ T11) rfl (ta_ T11) h19).mono ?_
      rintro e u ⟨_,_,_,_,_,_,_,_,rfl,R19,b⟩;replace F:=frC F b;clear L18;replace B12:=tbC B12 b;replace R15:=rdC R15 b;clear b
      replace c:=F.all;replace cB12:=B12.all
      (try go_wp2_with fail)
      refine hK.out _ _ ⟨F.held,B12.held⟩ fun hW=>?_
      clear hK K
      refine rdl (by kernel_rfl) (by kernel_rfl) rfl fun K hK=>?_
      go_simp
      replace B12:=tbR B12 R19;clear R15;replace F:=frR F R19;replace R19:=rdR R19
      refine hK.out _ _ ?_
      clear hK K
      go_wp2
      go_roundg m
      case rel=>exact ⟨by omega,_,_,_,_,_,_,_,_,_,H,F,R19⟩
      case measure=>omega
    ·skip
     have j10:¬ low.toNat≤rankT (pk E rho.L).t:=by omega
     replace H:=ifF H (by rw [i4,decide_eq_true i7,decide_eq_false j10];rfl)
     replace i10:decide (low≤(rankT (pk E rho.L).t:Int))=false:=decide_eq_false i10
     replace F:=frS F R2;replace R2:=rdS R2
     obtain rfl:=sm H
     go_wp2
     refine R2.fin F ?_ rfl
     simp [results,Tryz.results67,go_sem,st6,c]
   ·skip
    have k7q:=kdF T6 (z:=4) rfl i7
    replace H:=ifF H (by rw [i4,decide_eq_false i7];rfl)
    replace F:=frS F R2;replace R2:=rdS R2
    obtain rfl:=sm H
    go_wp2
    refine R2.fin F ?_ rfl
    simp [results,Tryz.results67,go_sem,st6,c]
  ·skip
   replace i4:=bfalse i4
   replace H:=ifF H (by rw [i4];rfl)
   go_wp2_with (go_at_call 38;refine (okC R2 i4).mono ?_)
   rintro e u ⟨rfl,b⟩;replace F:=frC F b;replace R2:=rdC R2 b;clear b
   replace c:=F.all
   replace F:=frS F R2;replace R2:=rdS R2
   obtain rfl:=sm H
   go_wp2
   refine R2.fin F ?_ rfl
   simp [results,Tryz.results67,go_sem,st6,c]
end
section
open Go.RowKit
open Tk (T4 bstr)
theorem rexpr_step {E n:Nat}(hlv:∀ low:Int,0≤low→FnB E 67 #[.int .i64 low] (runR E n (.level low.toNat))) (hex:FnB E 34 #[] (runR E n .expr)):FnB E 34 #[] (runR E (n+1) .expr):=by
 intro A w r q v hA h hf
 have H:Hid (stepR E (runR E n) .expr r=some q):=Lib.hid hf
 clear hf
 obtain ⟨_,_,_,_,_,_,_,_,rfl⟩:=h.parts
 have F:=frN hA h;have R0:=rdN h
 clear hA h
 go_enter Tryz.func34,Tryz.ntmps34
 replace H:=bnd H;obtain ⟨q1,h1,H⟩:=H
 go_wp2_with (go_at_call 67;refine (fbC (hlv 1 (by decide)) F R0 h1).mono ?_)
 rintro e u ⟨_,_,_,_,_,_,_,_,rfl,R1,b⟩;replace F:=frC F b;replace R0:=rdC R0 b;clear b
 have c:=F.all
 clear R0;replace F:=frR F R1;replace R1:=rdR R1
 go_wp2_with (go_at_call 68;refine (pkC R1).mono ?_)
 rintro e u ⟨k2,x2,y2,t2,rfl,T2,b⟩;replace F:=frC F b;replace R1:=rdC R1 b;clear b
 replace c:=F.all
 have B3:=tbN F k2 y2 t2 x2;have N3:=B3.n
 replace F:=frA F (.cells #[.int .i64 k2,.string x2,.int .i64 y2,.int .i64 t2] 82);replace R1:=rdA R1 (.cells #[.int .i64 k2,.string x2,.int .i64 y2,.int .i64 t2] 82)
 by_cases i5:isR E [63] q1.1=true
 ·skip
  replace H:=ifT H i5
  go_wp2_with (go_at_call 69;refine (isC R1 ⟨#[63]⟩ i5).mono ?_)
  rintro e u ⟨rfl,b⟩;replace F:=frC F b;replace B3:=tbC B3 b;replace R1:=rdC R1 b;clear b
  replace c:=F.all;have cB3:=B3.all
  go_wp2_with (go_at_call 70;refine (skC R1).mono ?_)
  rintro e u ⟨_,_,_,_,_,_,_,_,rfl,R7,b⟩;replace F:=frC F b;replace B3:=tbC B3 b;replace R1:=rdC R1 b;clear b
  replace c:=F.all;replace cB3:=B3.all
  replace H:=bnd H;obtain ⟨q8,h8,H⟩:=H
  go_wp2_with (go_at_call 34;refine (fbC hex F R7 h8).mono ?_)
  rintro e u ⟨_,_,_,_,_,_,_,_,rfl,R8,b⟩;replace F:=frC F b;clear R7;replace B3:=tbC B3 b;replace R1:=rdC R1 b;clear b
  replace c:=F.all;replace cB3:=B3.all
  replace B3:=tbR B3 R8;clear R1;replace F:=frR F R8;replace R8:=rdR R8
  go_wp2_with (go_at_call 71;refine (waC R8 ⟨#[58]⟩ (l:=[58]) rfl).mono ?_)
  rintro e u ⟨_,_,_,_,_,_,_,_,rfl,R9,b⟩;replace F:=frC F b;replace B3:=tbC B3 b;replace R8:=rdC R8 b;clear b
  replace c:=F.all;replace cB3:=B3.all
  replace H:=bnd H;obtain ⟨q10,h10,H⟩:=H
  go_wp2_with (go_at_call 34;refine (fbC hex F R9 h10).mono ?_)
  rintro e u ⟨_,_,_,_,_,_,_,_,rfl,R10,b⟩;replace F:=frC F b;clear R9;replace B3:=tbC B3 b;replace R8:=rdC R8 b;clear b
  replace c:=F.all;replace cB3:=B3.all
  replace B3:=tbR B3 R10;clear R8;replace F:=frR F R10;replace R10:=rdR R10
  have L11:=lsK F [q1.1.top,q8.1.top,q10.1.top] (g:=u.heap.size) (by simp [st6,World.setCell]) rfl rfl
  replace F:=frA F (.cells #[.int .i64 (q1.1.top),.int .i64 (q8.1.top),.int .i64 (q10.1.top)] 3);replace B3:=tbA B3 (.cells #[.int .i64 (q1.1.top),.int .i64 (q8.1.top),.int .i64 (q10.1.top)] 3);replace R10:=rdA R10 (.cells #[.int .i64 (q1.1.top),.int .i64 (q8.1.top),.int .i64 (q10.1.top)] 3)
  replace H:=aln H;obtain ⟨q12,h12,rfl⟩:=H
  go_wp2_with (go_at_call 40;refine (adC F R10 L11 38 0 0 _ ⟨#[]⟩ rfl rfl (ta_ T2) h12).mono ?_)
  rintro e u ⟨_,_,_,_,_,_,_,_,rfl,R12,b⟩;replace F:=frC F b;clear L11;replace B3:=tbC B3 b;replace R10:=rdC R10 b;clear b
  replace c:=F.all;replace cB3:=B3.all
  replace B3:=tbS B3 R12;replace R10:=rdSo R10 R12;replace F:=frS F R12;replace R12:=rdS R12
  go_wp2
  refine R12.fin F ?_ rfl
  simp [results,Tryz.results34,go_sem,st6,c]
 ·skip
  replace i5:=bfalse i5
  replace H:=ifF H i5
  go_wp2_with (go_at_call 69;refine (isC R1 ⟨#[63]⟩ i5).mono ?_)
  rintro e u ⟨rfl,b⟩;replace F:=frC F b;replace B3:=tbC B3 b;replace R1:=rdC R1 b;clear b
  replace c:=F.all;have cB3:=B3.all
  by_cases i8:okR q1.1=true
  ·skip
   go_wp2_with (go_at_call 38;refine (okC R1 i8).mono ?_)
   rintro e u ⟨rfl,b⟩;replace F:=frC F b;replace B3:=tbC B3 b;replace R1:=rdC R1 b;clear b
   replace c:=F.all;replace cB3:=B3.all
   by_cases i10:(pk E q1.1.L).k=4
   ·skip
    have k10q:=kdT T2 (z:=4) rfl i10
    by_cases i12:setT (pk E q1.1.L).t=true
    ·skip
     replace H:=ifT H (by rw [i8,decide_eq_true i10,i12];rfl)
     go_wp2_with (go_at_call 72;refine (txC R1 T2 i12).mono ?_)
     rintro e u ⟨rfl,b⟩;replace F:=frC F b;replace B3:=tbC B3 b;replace R1:=rdC R1 b;clear b
     replace c:=F.all;replace cB3:=B3.all
     go_wp2_with (go_at_call 70;refine (skC R1).mono ?_)
     rintro e u ⟨_,_,_,_,_,_,_,_,rfl,R14,b⟩;replace F:=frC F b;replace B3:=tbC B3 b;replace R1:=rdC R1 b;clear b
     replace c:=F.all;replace cB3:=B3.all
     replace H:=bnd H;obtain ⟨q15,h15,H⟩:=H
     go_wp2_with (go_at_call 34;refine (fbC hex F R14 h15).mono ?_)
     rintro e u ⟨_,_,_,_,_,_,_,_,rfl,R15,b⟩;replace F:=frC F b;clear R14;replace B3:=tbC B3 b;replace R1:=rdC R1 b;clear b
     replace c:=F.all;replace cB3:=B3.all
     replace B3:=tbR B3 R15;clear R1;replace F:=frR F R15;replace R15:=rdR R15
     go_wp2
     replace F:=frD F;replace B3:=tbD B3;replace R15:=rdD R15
     refine rg 11 (S:=fun W=>Q6 _ _ _ _ _ _ _ W∧Q4 _ _ _ _ _ W) ⟨F.held,B3.held⟩ fun hW=>?_
     refine tks hW [0,1,2,3,4,5,6,7,8] (n:=3) (by kernel_rfl) ?_
     iterate 9 (refine ⟨?_,_,rfl,rfl,fun W hW=>?_,?_⟩;rotate_left;· (simp only [Q6,Q4] at hW;go_simp;(try with_reducible rfl)))
     refine rdy 9 (by kernel_rfl) rfl fun K hK=>?_
     go_simp
     refine (twoC F _ _).mono ?_
     rintro e u ⟨p16,rfl,L16,b⟩;replace F:=frC F b;replace B3:=tbC B3 b;replace R15:=rdC R15 b;clear b
     replace c:=F.all;replace cB3:=B3.all
     (try go_wp2_with fail)
     refine hK.out _ _ ⟨F.held,B3.held⟩ fun hW=>?_
     clear hK K
     replace H:=aln H;obtain ⟨q17,h17,rfl⟩:=H
     refine rdy 10 (by kernel_rfl) rfl fun K hK=>?_
     go_simp
     refine (adC F R15 L16 39 0 0 _ x2 (tx_ T2) rfl (ta_ T2) h17).mono ?_
     rintro e u ⟨_,_,_,_,_,_,_,_,rfl,R17,b⟩;replace F:=frC F b;clear L16;replace B3:=tbC B3 b;replace R15:=rdC R15 b;clear b
     replace c:=F.all;replace cB3:=B3.all
     (try go_wp2_with fail)
     refine hK.out _ _ ⟨F.held,B3.held⟩ fun hW=>?_
     clear hK K
     refine rdl (by kernel_rfl) (by kernel_rfl) rfl fun K hK=>?_
     go_simp
     replace B3:=tbS B3 R17;replace R15:=rdSo R15 R17;replace F:=frS F R17;replace R17:=rdS R17
     refine hK.out _ _ ?_
     clear hK K
     go_wp2
     refine R17.fin F ?_ rfl
     simp [results,Tryz.results34,go_sem,st6,c]
    ·skip
     replace i12:=bfalse i12
     replace H:=ifF H (by rw [i8,decide_eq_true i10,i12];rfl)
     go_wp2_with (go_at_call 72;refine (txC R1 T2 i12).mono ?_)
     rintro e u ⟨rfl,b⟩;replace F:=frC F b;replace B3:=tbC B3 b;replace R1:=rdC R1 b;clear b
     replace c:=F.all;replace cB3:=B3.all
     replace B3:=tbS B3 R1;replace F:=frS F R1;replace R1:=rdS R1
     obtain rfl:=sm H
     go_wp2
     refine R1.fin F ?_ rfl
     simp [results,Tryz.results34,go_sem,st6,c]
   ·skip
    have k10q:=kdF T2 (z:=4) rfl i10
    replace H:=ifF H (by rw [i8,decide_eq_false i10];rfl)
    replace B3:=tbS B3 R1;replace F:=frS F R1;replace R1:=rdS R1
    obtain rfl:=sm H
    go_wp2
    refine R1.fin F ?_ rfl
    simp [results,Tryz.results34,go_sem,st6,c]
  ·skip
   replace i8:=bfalse i8
   replace H:=ifF H (by rw [i8];rfl)
   go_wp2_with (go_at_call 38;refine (okC R1 i8).mono ?_)
   rintro e u ⟨rfl,b⟩;replace F:=frC F b;replace B3:=tbC B3 b;replace R1:=rdC R1 b;clear b
   replace c:=F.all;replace cB3:=B3.all
   replace B3:=tbS B3 R1;replace F:=frS F R1;replace R1:=rdS R1
   obtain rfl:=sm H
   go_wp2
   refine R1.fin F ?_ rfl
   simp [results,Tryz.results34,go_sem,st6,c]
end
section
open Go.RowKit
open Tk (T4 bstr)
theorem first_step {E n:Nat}(hli:FnL E 81 #[.string ⟨#[41]⟩] (runR E n (.list [41]))) (hex:FnB E 34 #[] (runR E n .expr)):FnB E 202 #[] (runR E (n+1) .first):=by
 intro A w r q v hA h hf
 have H:Hid (stepR E (runR E n) .first r=some q):=Lib.hid hf
 clear hf
 obtain ⟨_,_,_,_,_,_,_,_,rfl⟩:=h.parts
 have F:=frN hA h;have R0:=rdN h
 clear hA h
 go_enter Tryz.func202,Tryz.ntmps202
 go_wp2_with (go_at_call 68;refine (pkC R0).mono ?_)
 rintro e u ⟨k1,x1,y1,t1,rfl,T1,b⟩;replace F:=frC F b;replace R0:=rdC R0 b;clear b
 have c:=F.all
 have B2:=tbN F k1 y1 t1 x1;have N2:=B2.n
 replace F:=frA F (.cells #[.int .i64 k1,.string x1,.int .i64 y1,.int .i64 t1] 82);replace R0:=rdA R0 (.cells #[.int .i64 k1,.string x1,.int .i64 y1,.int .i64 t1] 82)
 by_cases i4:okR r=true
 ·skip
  go_wp2_with (go_at_call 38;refine (okC R0 i4).mono ?_)
  rintro e u ⟨rfl,b⟩;replace F:=frC F b;replace B2:=tbC B2 b;replace R0:=rdC R0 b;clear b
  replace c:=F.all;have cB2:=B2.all
  by_cases i6:(pk E r.L).k=2
  ·skip
   have k6q:=kdT T1 (z:=2) rfl i6
   replace H:=ifT H (by rw [i4,decide_eq_true i6];rfl)
   go_wp2
   replace F:=frD F;replace B2:=tbD B2;replace R0:=rdD R0
   refine rg 8 (S:=fun W=>Q6 _ _ _ _ _ _ _ W∧Q4 _ _ _ _ _ W) ⟨F.held,B2.held⟩ fun hW=>?_
   refine tks hW [0,2,3,4,5,6] (n:=3) (by kernel_rfl) ?_
   iterate 6 (refine ⟨?_,_,rfl,rfl,fun W hW=>?_,?_⟩;rotate_left;· (simp only [Q6,Q4] at hW;go_simp;(try with_reducible rfl)))
   refine rdy 1 (by kernel_rfl) rfl fun K hK=>?_
   go_simp
   refine (skC R0).mono ?_
   rintro e u ⟨_,_,_,_,_,_,_,_,rfl,R7,b⟩;replace F:=frC F b;replace B2:=tbC B2 b;replace R0:=rdC R0 b;clear b
   replace c:=F.all;replace cB2:=B2.all
   (try go_wp2_with fail)
   refine hK.out _ _ ⟨F.held,B2.held⟩ fun hW=>?_
   clear hK K
   replace H:=aln H;obtain ⟨q8,h8,rfl⟩:=H
   refine rdy 7 (by kernel_rfl) rfl fun K hK=>?_
   go_simp
   refine (adC F R7 (nilL _ _ _) 31 _ 0 _ ⟨#[]⟩ rfl (tv_ T1) (ta_ T1) h8).mono ?_
   rintro e u ⟨_,_,_,_,_,_,_,_,rfl,R8,b⟩;replace F:=frC F b;clear R7;replace B2:=tbC B2 b;replace R0:=rdC R0 b;clear b
   replace c:=F.all;replace cB2:=B2.all
   (try go_wp2_with fail)
   refine hK.out _ _ ⟨F.held,B2.held⟩ fun hW=>?_
   clear hK K
   refine rdl (by kernel_rfl) (by kernel_rfl) rfl fun K hK=>?_
   go_simp
   replace B2:=tbS B2 R8;replace R0:=rdSo R0 R8;replace F:=frS F R8;replace R8:=rdS R8
   refine hK.out _ _ ?_
   clear hK K
   go_wp2
   refine R8.fin F ?_ rfl
   simp [results,Tryz.results202,go_sem,st6,c]
  ·skip
   have k6q:=kdF T1 (z:=2) rfl i6
   replace H:=ifF H (by rw [i4,decide_eq_false i6];rfl)
   go_wp2_with (go_at_call 38;refine (okC R0 i4).mono ?_)
   rintro e u ⟨rfl,b⟩;replace F:=frC F b;replace B2:=tbC B2 b;replace R0:=rdC R0 b;clear b
   replace c:=F.all;replace cB2:=B2.all
   by_cases i8:(pk E r.L).k=1
   ·skip
    have k8q:=kdT T1 (z:=1) rfl i8
    replace H:=ifT H (by rw [i4,decide_eq_true i8];rfl)
    go_wp2_with (go_at_call 70;refine (skC R0).mono ?_)
    rintro e u ⟨_,_,_,_,_,_,_,_,rfl,R9,b⟩;replace F:=frC F b;replace B2:=tbC B2 b;replace R0:=rdC R0 b;clear b
    replace c:=F.all;replace cB2:=B2.all
    replace B2:=tbR B2 R9;clear R0;replace F:=frR F R9;replace R9:=rdR R9
    by_cases i11:isR E [40] (skipR r)=true
    ·skip
     replace H:=ifT H i11
     go_wp2_with (go_at_call 69;refine (isC R9 ⟨#[40]⟩ i11).mono ?_)
     rintro e u ⟨rfl,b⟩;replace F:=frC F b;replace B2:=tbC B2 b;replace R9:=rdC R9 b;clear b
     replace c:=F.all;replace cB2:=B2.all
     go_wp2_with (go_at_call 70;refine (skC R9).mono ?_)
     rintro e u ⟨_,_,_,_,_,_,_,_,rfl,R13,b⟩;replace F:=frC F b;replace B2:=tbC B2 b;replace R9:=rdC R9 b;clear b
     replace c:=F.all;replace cB2:=B2.all
     replace H:=bnd H;obtain ⟨q14,h14,H⟩:=H
     go_wp2_with (go_at_call 81;refine (flC (hli:FnL E 81 #[.string ⟨#[41]⟩] _) F R13 h14).mono ?_)
     rintro e u ⟨_,_,_,_,_,_,_,_,_,_,_,rfl,R14,L14,b⟩;replace F:=frC F b;clear R13;replace B2:=tbC B2 b;replace R9:=rdC R9 b;clear b
     replace c:=F.all;replace cB2:=B2.all
     have B15:=t6N F R14;have N15:=B15.n
     replace F:=frB F R14;replace B2:=tbB B2 R14;replace R9:=rdBo R9 R14;replace L14:=lsB L14 R14;replace R14:=rdB R14
     replace H:=aln H;obtain ⟨q16,h16,rfl⟩:=H
     go_wp2_with (go_at_call 40;refine (adC F R14 L14 33 0 0 _ x1 (tx_ T1) rfl (ta_ T1) h16).mono ?_)
     rintro e u ⟨_,_,_,_,_,_,_,_,rfl,R16,b⟩;replace F:=frC F b;clear R14;clear L14;replace B2:=tbC B2 b;replace B15:=tbC B15 b;replace R9:=rdC R9 b;clear b
     replace c:=F.all;replace cB2:=B2.all;have cB15:=B15.all6
     replace B2:=tbS B2 R16;replace B15:=tbS B15 R16;replace R9:=rdSo R9 R16;replace F:=frS F R16;replace R16:=rdS R16
     go_wp2
     refine R16.fin F ?_ rfl
     simp [results,Tryz.results202,go_sem,st6,c]
    ·skip
     replace i11:=bfalse i11
     replace H:=ifF H i11
     go_wp2_with (go_at_call 69;refine (isC R9 ⟨#[40]⟩ i11).mono ?_)
     rintro e u ⟨rfl,b⟩;replace F:=frC F b;replace B2:=tbC B2 b;replace R9:=rdC R9 b;clear b
     replace c:=F.all;replace cB2:=B2.all
     replace H:=aln H;obtain ⟨q13,h13,rfl⟩:=H
     go_wp2_with (go_at_call 40;refine (adC F R9 (nilL _ _ _) 32 0 0 _ x1 (tx_ T1) rfl (ta_ T1) h13).mono ?_)
     rintro e u ⟨_,_,_,_,_,_,_,_,rfl,R13,b⟩;replace F:=frC F b;replace B2:=tbC B2 b;replace R9:=rdC R9 b;clear b
     replace c:=F.all;replace cB2:=B2.all
     replace B2:=tbS B2 R13;replace R9:=rdSo R9 R13;replace F:=frS F R13;replace R13:=rdS R13
     go_wp2
     refine R13.fin F ?_ rfl
     simp [results,Tryz.results202,go_sem,st6,c]
   ·skip
    have k8q:=kdF T1 (z:=1) rfl i8
    replace H:=ifF H (by rw [i4,decide_eq_false i8];rfl)
    by_cases i10:isR E [40] r=true
    ·skip
     replace H:=ifT H i10
     go_wp2_with (go_at_call 69;refine (isC R0 ⟨#[40]⟩ i10).mono ?_)
     rintro e u ⟨rfl,b⟩;replace F:=frC F b;replace B2:=tbC B2 b;replace R0:=rdC R0 b;clear b
     replace c:=F.all;replace cB2:=B2.all
     go_wp2_with (go_at_call 70;refine (skC R0).mono ?_)
     rintro e u ⟨_,_,_,_,_,_,_,_,rfl,R12,b⟩;replace F:=frC F b;replace B2:=tbC B2 b;replace R0:=rdC R0 b;clear b
     replace c:=F.all;replace cB2:=B2.all
     replace H:=bnd H;obtain ⟨q13,h13,H⟩:=H
     go_wp2_with (go_at_call 34;refine (fbC hex F R12 h13).mono ?_)
     rintro e u ⟨_,_,_,_,_,_,_,_,rfl,R13,b⟩;replace F:=frC F b;clear R12;replace B2:=tbC B2 b;replace R0:=rdC R0 b;clear b
     replace c:=F.all;replace cB2:=B2.all
     go_wp2_with (go_at_call 71;refine (waC R13 ⟨#[41]⟩ (l:=[41]) rfl).mono ?_)
     rintro e u ⟨_,_,_,_,_,_,_,_,rfl,R14,b⟩;replace F:=frC F b;clear R13;replace B2:=tbC B2 b;replace R0:=rdC R0 b;clear b
     replace c:=F.all;replace cB2:=B2.all
     replace B2:=tbS B2 R14;replace R0:=rdSo R0 R14;replace F:=frS F R14;replace R14:=rdS R14
     obtain rfl:=sm H
     go_wp2
     refine R14.fin F ?_ rfl
     simp [results,Tryz.results202,go_sem,st6,c]
    ·skip
     replace i10:=bfalse i10
     replace H:=ifF H i10
     go_wp2_with (go_at_call 69;refine (isC R0 ⟨#[40]⟩ i10).mono ?_)
     rintro e u ⟨rfl,b⟩;replace F:=frC F b;replace B2:=tbC B2 b;replace R0:=rdC R0 b;clear b
     replace c:=F.all;replace cB2:=B2.all
     go_wp2_with (go_at_call 74;refine (stC R0 1).mono ?_)
     rintro e u ⟨_,_,_,_,_,_,_,_,rfl,R12,b⟩;replace F:=frC F b;clear R0;replace B2:=tbC B2 b;clear b
     replace c:=F.all;replace cB2:=B2.all
     replace B2:=tbS B2 R12;replace F:=frS F R12;replace R12:=rdS R12
     obtain rfl:=sm H
     go_wp2
     refine R12.fin F ?_ rfl
     simp [results,Tryz.results202,go_sem,st6,c]
 ·skip
  replace i4:=bfalse i4
  replace H:=ifF H (by rw [i4];rfl);replace H:=ifF H (by rw [i4];rfl)
  go_wp2_with (go_at_call 38;refine (okC R0 i4).mono ?_)
  rintro e u ⟨rfl,b⟩;replace F:=frC F b;replace B2:=tbC B2 b;replace R0:=rdC R0 b;clear b
  replace c:=F.all;have cB2:=B2.all
  go_wp2_with (go_at_call 38;refine (okC R0 i4).mono ?_)
  rintro e u ⟨rfl,b⟩;replace F:=frC F b;replace B2:=tbC B2 b;replace R0:=rdC R0 b;clear b
  replace c:=F.all;replace cB2:=B2.all
  by_cases i8:isR E [40] r=true
  ·skip
   replace H:=ifT H i8
   go_wp2_with (go_at_call 69;refine (isC R0 ⟨#[40]⟩ i8).mono ?_)
   rintro e u ⟨rfl,b⟩;replace F:=frC F b;replace B2:=tbC B2 b;replace R0:=rdC R0 b;clear b
   replace c:=F.all;replace cB2:=B2.all
   go_wp2_with (go_at_call 70;refine (skC R0).mono ?_)
   rintro e u ⟨_,_,_,_,_,_,_,_,rfl,R10,b⟩;replace F:=frC F b;replace B2:=tbC B2 b;replace R0:=rdC R0 b;clear b
   replace c:=F.all;replace cB2:=B2.all
   replace H:=bnd H;obtain ⟨q11,h11,H⟩:=H
   go_wp2_with (go_at_call 34;refine (fbC hex F R10 h11).mono ?_)
   rintro e u ⟨_,_,_,_,_,_,_,_,rfl,R11,b⟩;replace F:=frC F b;clear R10;replace B2:=tbC B2 b;replace R0:=rdC R0 b;clear b
   replace c:=F.all;replace cB2:=B2.all
   go_wp2_with (go_at_call 71;refine (waC R11 ⟨#[41]⟩ (l:=[41]) rfl).mono ?_)
   rintro e u ⟨_,_,_,_,_,_,_,_,rfl,R12,b⟩;replace F:=frC F b;clear R11;replace B2:=tbC B2 b;replace R0:=rdC R0 b;clear b
   replace c:=F.all;replace cB2:=B2.all
   replace B2:=tbS B2 R12;replace R0:=rdSo R0 R12;replace F:=frS F R12;replace R12:=rdS R12
   obtain rfl:=sm H
   go_wp2
   refine R12.fin F ?_ rfl
   simp [results,Tryz.results202,go_sem,st6,c]
  ·skip
   replace i8:=bfalse i8
   replace H:=ifF H i8
   go_wp2_with (go_at_call 69;refine (isC R0 ⟨#[40]⟩ i8).mono ?_)
   rintro e u ⟨rfl,b⟩;replace F:=frC F b;replace B2:=tbC B2 b;replace R0:=rdC R0 b;clear b
   replace c:=F.all;replace cB2:=B2.all
   go_wp2_with (go_at_call 74;refine (stC R0 1).mono ?_)
   rintro e u ⟨_,_,_,_,_,_,_,_,rfl,R10,b⟩;replace F:=frC F b;clear R0;replace B2:=tbC B2 b;clear b
   replace c:=F.all;replace cB2:=B2.all
   replace B2:=tbS B2 R10;replace F:=frS F R10;replace R10:=rdS R10
   obtain rfl:=sm H
   go_wp2
   refine R10.fin F ?_ rfl
   simp [results,Tryz.results202,go_sem,st6,c]
end
section
open Go.RowKit
open Tk (T4 bstr)
open Tr (Nd Blk KidsAt NodeAt ret_bool)
theorem ap_none (b:Addr) (n c c':Nat) (p:Option Addr) (w:World) (hn:n≤c):(Builtin.append_ #[34,34] 34 #[.slice (some b) n c,.slice p 0 c']).run Tryz.prog w=.ok (.slice (some b) n c) w:=by
 obtain ⟨i0,hi,hz0,hz1,hz2⟩:=info_parts info3
 cases p <;> simp [Builtin.append_,run_underlying Tryz.underlying34,sizeOf,typeInfo,hi,Builtin.lenOf,Builtin.firstCells,hn,storeCells,loadCells,loadCellsFrom]
theorem int_cells {A:Nat→Prop}{w:World}{l:List Int}{p:Option Addr}{n c:Nat}(h:LsAt A w l (.slice p n c)) (h0:l≠[]):n=l.length∧∃ a:Addr,p=some a∧∀ j u,(intV l)[j]? = some u→w.cell? (a.add j)=some u:=by
 obtain ⟨p',cap,e,hk,_⟩:=h
 cases e
 obtain ⟨b,o,rfl,_,_,hc⟩:=hk (List.length_pos_iff.2 h0)
 refine ⟨rfl,_,rfl,fun j u hu=>?_⟩
 have hj:j<l.length:=by
  have:=(List.getElem?_eq_some_iff.1 hu).1
  unfold intV at this;rwa [List.length_map] at this
 rw [addr_add,hc j hj]
 unfold intV at hu
 rw [List.getElem?_map,List.getElem?_eq_getElem hj] at hu
 exact hu
theorem ls_row {A:Nat→Prop}{w:World}{l:List Int}{n c:Nat}(hA:In A w) (xs:Array Value) (hx:∃ z,xs=(intV l).toArray ++ z) (hn:n=l.length) (hc:n≤c):LsAt A (w.alloc (.cells xs 3)) l (.slice (some ⟨w.heap.size,0,none⟩) n c):=by
 subst hn
 obtain ⟨z,rfl⟩:=hx
 have hB:=Blk.new w 3 ((intV l).toArray ++ z)
 refine ⟨_,_,rfl,fun _=>⟨_,_,rfl,hB.lt,fun ha=>Nat.lt_irrefl _ (hA _ ha),fun j hj=>?_⟩,hc⟩
 rw [Nat.zero_add,hB.cell,Array.getElem?_append_left (by unfold intV;simpa using hj)]
 unfold intV;simp [hj]
theorem ap_full {A:Nat→Prop}{w:World}{l m:List Int}{p kp:Option Addr}{n kl kc:Nat}(hA:In A w) (L:LsAt A w l (.slice p n n)) (h0:l≠[]) (M:LsAt A w m (.slice kp kl kc)) (hl:l.length+m.length≤8000000) :
  ∃ p' n' c' w',(Builtin.append_ #[34,34] 34 #[.slice p n n,.slice kp kl kc]).run Tryz.prog w=.ok (.slice p' n' c') w'∧LsAt A w' (l ++ m) (.slice p' n' c')∧Below w.heap.size w w':=by
 obtain ⟨hn,a,rfl,hc⟩:=int_cells L h0
 by_cases hm:m=[]
 ·subst hm
  obtain ⟨p',c1,e,hk,_⟩:=M
  cases e
  exact ⟨_,_,_,w,ap_none a n n _ _ w (Nat.le_refl _),by rw [List.append_nil];exact L,Below.refl _ _⟩
 ·obtain ⟨hkl,b,rfl,hd⟩:=int_cells M hm
  obtain ⟨i0,hi,hz0,hz1,hz2⟩:=info_parts info3
  have hm0:=List.length_pos_iff.2 hm
  have hlen:∀ x:List Int,(intV x).length=x.length:=fun x=>by unfold intV;exact List.length_map _
  have hr:=run_append_grow (P:=Tryz.prog) (w:=w) 34 34 3 i0 (.int .i64 0) Tryz.underlying34 hi hz0 a n n (intV l) (by rw [hlen,hz1,hn,Nat.mul_one]) hc b kl kc (intV m) (by rw [hlen,hz1,hkl,Nat.mul_one]) hd (by omega) (by omega) (growslice_fits (by omega) (by rw [hz2];omega))
  have hg:=grownCap_ge w (n+kl) n 3
  generalize grownCap w (n+kl) n 3=gc at hr hg
  refine ⟨_,_,_,_,hr,ls_row (w:=w.drew) (fun b hb=>hA b hb) _ ⟨Builtin.zeroCells (Value.int .i64 0).cells (gc-(n+kl)),?_⟩ (by rw [List.length_append];omega) hg,((Below.refl _ _).drew).alloc (Nat.le_refl _) _⟩
  unfold intV
  rw [List.map_append];simp
theorem ap1 {A:Nat→Prop}{w W:World}{cr cs:Array Value}{l:List Int}{p:Option Addr}{n h:Nat}(F:Fr A w W cr cs) (L:Ls A w W l (.slice p n n)) (h0:l≠[]) (hl:l.length≤1000) (k:Int) (e:W.heap.size=h) :
  ∃ p' n' c' W',(Builtin.append_ #[34,34] 34 #[.slice p n n,.slice (some ⟨h,0,none⟩) 1 1]).run Tryz.prog (W.alloc (.cells #[.int .i64 k] 3))=.ok (.slice p' n' c') W'∧Ls A w W' (l ++ [k]) (.slice p' n' c')∧Below W.heap.size W W':=by
 subst e
 obtain ⟨p',n',c',W',hr,hL,hb⟩:=ap_full (frA F (.cells #[.int .i64 k] 3)).two (lsA L (.cells #[.int .i64 k] 3)).out h0 (m:=[k]) (ls_row (l:=[k]) (c:=1) F.two #[.int .i64 k] ⟨#[],rfl⟩ rfl (Nat.le_refl _)) (by simp;omega)
 exact ⟨p',n',c',W',hr,⟨hL⟩,((Below.refl _ _).alloc (Nat.le_refl _) _).trans (hb.mono (by rw [World.size_alloc];omega))⟩
theorem apM {A:Nat→Prop}{w W:World}{cr cs:Array Value}{l m:List Int}{p kp:Option Addr}{n kl kc:Nat}(F:Fr A w W cr cs) (L:Ls A w W l (.slice p n n)) (h0:l≠[]) (hl:l.length≤1000) (M:Ls A w W m (.slice kp kl kc)) (hm:m.length≤7000000) :
  ∃ p' n' c' W',(Builtin.append_ #[34,34] 34 #[.slice p n n,.slice kp kl kc]).run Tryz.prog W=.ok (.slice p' n' c') W'∧Ls A w W' (l ++ m) (.slice p' n' c')∧Below W.heap.size W W':=by
 obtain ⟨p',n',c',W',hr,hL,hb⟩:=ap_full F.two L.out h0 M.out (by omega)
 exact ⟨p',n',c',W',hr,⟨hL⟩,hb⟩
section
variable {ops:Array Oper}{rest:List Oper}{o:Oper}{a:Act}{Q:Exit→Act→World→Prop}{w w':World}{v sv xv:Value}
theorem ap_op {K:Act→World→Prop}(s x:Operand) (ho:o.op=.call { callee:=.builtin .append,args:=#[s,x],argTypes:=#[34,34] }) (ht:o.type=34) (hs:a.eval s=sv) (hx:a.eval x=xv) (hr:(Builtin.append_ #[34,34] 34 #[sv,xv]).run Tryz.prog w=.ok v w')
  (h:K (a.put o.dst v) w'):Oper.wp Tryz.prog o a w K Q:=by
 unfold Oper.wp
 simp [execOp,ho,ht,resolve,invoke,builtin,hs,hx,hr,Result.andThen]
 exact h
theorem apW (hgd:o.guard=none) (s x:Operand) (ho:o.op=.call { callee:=.builtin .append,args:=#[s,x],argTypes:=#[34,34] }) (ht:o.type=34) (hs:a.eval s=sv) (hx:a.eval x=xv) (hr:(Builtin.append_ #[34,34] 34 #[sv,xv]).run Tryz.prog w=.ok v w')
  (h:wpList Tryz.prog ops Q rest (a.put o.dst v) w'):wpList Tryz.prog ops Q (o :: rest) a w :=
 wpList_plain hgd fun K hK=>ap_op s x ho ht hs hx hr (hK _ _ h)
theorem apR {K:Act→World→Prop}{E:Prop}(hgd:o.guard=none) (s x:Operand) (ho:o.op=.call { callee:=.builtin .append,args:=#[s,x],argTypes:=#[34,34] }) (ht:o.type=34) (hs:a.eval s=sv) (hx:a.eval x=xv) (hr:(Builtin.append_ #[34,34] 34 #[sv,xv]).run Tryz.prog w=.ok v w')
  (h:K (a.put o.dst v) w'):if Region.wanted o (yielded ops a.tmps)=true then Oper.wp Tryz.prog o a w K Q else E:=by
 rw [if_pos (by simp [Region.wanted,hgd])]
 exact ap_op s x ho ht hs hx hr h
end
end
end Go.Proofs.YtbjacclfhgnffaaGreatDoor
