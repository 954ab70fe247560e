/-
  Joined texts of this claim: Lg, Mb, Mc, Md, Me, Lh.
-/
import Derived.Test.YtbjacclfhgnffaaGreatDoorW00
import Derived.Test.YtbjacclfhgnffaaGreatDoorW31
import Derived.Test.YtbjacclfhgnffaaGreatDoorW30
set_option maxHeartbeats 40000000
set_option maxRecDepth 100000
set_option linter.unusedVariables false
set_option linter.unusedSimpArgs false
namespace Go.Proofs.YtbjacclfhgnffaaGreatDoor
section
open Go.RowKit
open Tk (T4 bstr)
theorem list_step {E n:Nat}(s:ByteArray) (hex:∀ m,m<n→FnB E 34 #[] (runR E m .expr)):FnL E 81 #[.string s] (runR E (n+1) (.list s.data.toList)):=by
 intro A w r q v hA h hf
 have H:Hid (runR E n (.listL s.data.toList true []) r=some q):=Lib.hid hf
 clear hf
 have HA:=Lib.hid hA
 obtain ⟨_,_,_,_,_,_,_,_,rfl⟩:=h.parts
 have F:=frN hA h;have R0:=rdN h
 clear hA h
 go_enter Tryz.func81,Tryz.ntmps81
 go_wp2
 go_loopg [6,7] n (fun k vo vf wr=>k≤n∧∃ fb,vf=.bool fb∧Lw_ E A w (fun rho out=>Hid (runR E k (.listL s.data.toList fb out) rho=some q)) vo wr)
 case atStart=>exact ⟨Nat.le_refl _,true,rfl,_,_,_,_,_,_,_,_,_,[],none,0,0,rfl,H,frO F,rdO R0,owN _ _⟩
 clear F R0 H
 obtain ⟨hk,fb,rfl,rho,p1,l1,m1,n1,o1,s1,z1,a1,out,kp,kl,kc,rfl,H,F,R1,O⟩:=hrel
 cases gk with
 | zero=>cases H.out
 | succ m =>
  have c:=F.all
  by_cases i3:okR rho=true
  ·skip
   go_wp2_with (go_at_call 38;refine (okC R1 i3).mono ?_)
   rintro e u ⟨rfl,b⟩;replace F:=frC F b;replace R1:=rdC R1 b;replace O:=owC O b;clear b
   replace c:=F.all
   by_cases i6:isR E s.data.toList rho=true
   ·skip
    replace H:=ifF H (by rw [i3,i6];rfl)
    go_wp2_with (go_at_call 69;refine (isC R1 s i6).mono ?_)
    rintro e u ⟨rfl,b⟩;replace F:=frC F b;replace R1:=rdC R1 b;replace O:=owC O b;clear b
    replace c:=F.all
    go_wp2_with (go_at_call 71;refine (waC R1 s (l:=s.data.toList) rfl).mono ?_)
    rintro e u ⟨_,_,_,_,_,_,_,_,rfl,R8,b⟩;replace F:=frC F b;clear R1;replace O:=owC O b;clear b
    replace c:=F.all
    replace O:=owS O R8;replace F:=frS F R8;replace R8:=rdS R8
    obtain rfl:=sm H
    go_wp2
    refine finL (p:=((wantR E s.data.toList rho),_)) R8 F O HA ?_ rfl
    simp [results,Tryz.results81,go_sem,st6,c]
   ·skip
    replace i6:=bfalse i6
    replace H:=ifT H (by rw [i3,i6];rfl)
    go_wp2_with (go_at_call 69;refine (isC R1 s i6).mono ?_)
    rintro e u ⟨rfl,b⟩;replace F:=frC F b;replace R1:=rdC R1 b;replace O:=owC O b;clear b
    replace c:=F.all
    cases fb
    ·skip
     go_wp2_with (go_at_call 71;refine (waC R1 ⟨#[44]⟩ (l:=[44]) rfl).mono ?_)
     rintro e u ⟨_,_,_,_,_,_,_,_,rfl,R8,b⟩;replace F:=frC F b;replace R1:=rdC R1 b;replace O:=owC O b;clear b
     replace c:=F.all
     clear R1;replace O:=owR O R8;replace F:=frR F R8;replace R8:=rdR R8
     replace H:=bnd H;obtain ⟨q9,h9,H⟩:=H
     go_wp2_with (go_at_call 34;refine (fbC (hex m (by omega)) F R8 h9).mono ?_)
     rintro e u ⟨_,_,_,_,_,_,_,_,rfl,R9,b⟩;replace F:=frC F b;replace R8:=rdC R8 b;replace O:=owC O b;clear b
     replace c:=F.all
     clear R8;replace O:=owR O R9;replace F:=frR F R9;replace R9:=rdR R9
     replace H:=ifN H;obtain ⟨hl,H⟩:=H;replace hl:=Nat.lt_of_not_le hl
     go_wp2_with (at_builtin;refine apE F R9 O hl (h:=u.heap.size) (by simp [st6,World.setCell]) rfl _ _ rfl rfl rfl fun g cap u2 F2 R2 O2=>?_)
     clear F R9 O;have F:=F2;have R9:=R2;have O:=O2;clear F2 R2 O2
     go_wp2
     go_roundg m
     case rel=>exact ⟨by omega,_,rfl,_,_,_,_,_,_,_,_,_,_,_,_,_,rfl,H,F,R9,O⟩
     case measure=>omega
    ·skip
     replace H:=bnd H;obtain ⟨q8,h8,H⟩:=H
     go_wp2_with (go_at_call 34;refine (fbC (hex m (by omega)) F R1 h8).mono ?_)
     rintro e u ⟨_,_,_,_,_,_,_,_,rfl,R8,b⟩;replace F:=frC F b;replace R1:=rdC R1 b;replace O:=owC O b;clear b
     replace c:=F.all
     clear R1;replace O:=owR O R8;replace F:=frR F R8;replace R8:=rdR R8
     replace H:=ifN H;obtain ⟨hl,H⟩:=H;replace hl:=Nat.lt_of_not_le hl
     go_wp2_with (at_builtin;refine apE F R8 O hl (h:=u.heap.size) (by simp [st6,World.setCell]) rfl _ _ rfl rfl rfl fun g cap u2 F2 R2 O2=>?_)
     clear F R8 O;have F:=F2;have R8:=R2;have O:=O2;clear F2 R2 O2
     go_wp2
     go_roundg m
     case rel=>exact ⟨by omega,_,rfl,_,_,_,_,_,_,_,_,_,_,_,_,_,rfl,H,F,R8,O⟩
     case measure=>omega
  ·skip
   replace i3:=bfalse i3
   replace H:=ifF H (by rw [i3];rfl)
   go_wp2_with (go_at_call 38;refine (okC R1 i3).mono ?_)
   rintro e u ⟨rfl,b⟩;replace F:=frC F b;replace R1:=rdC R1 b;replace O:=owC O b;clear b
   replace c:=F.all
   go_wp2_with (go_at_call 71;refine (waC R1 s (l:=s.data.toList) rfl).mono ?_)
   rintro e u ⟨_,_,_,_,_,_,_,_,rfl,R5,b⟩;replace F:=frC F b;clear R1;replace O:=owC O b;clear b
   replace c:=F.all
   replace O:=owS O R5;replace F:=frS F R5;replace R5:=rdS R5
   obtain rfl:=sm H
   go_wp2
   refine finL (p:=((wantR E s.data.toList rho),_)) R5 F O HA ?_ rfl
   simp [results,Tryz.results81,go_sem,st6,c]
end
section
open Go.RowKit
open Tk (T4 bstr)
theorem allL_len {E:Nat}:∀ {n:Nat}{cs:Bool}{out:List Int}{r:Rs}{q:RL},out.length≤6000000→runV E n (.allL cs out) r=some q→q.2.length≤6000000
 | 0,_,_,_,_,_,h=>by cases h
 | n+1,cs,out,r,q,ho,h=>by
  have H:Hid (stepV E (runR E (n+6) .expr) (fun e=>runR E (n+6) (.list e)) (runV E n) (.allL cs out) r=some q):=Lib.hid h
  cases hc:(okR r && !isR E [125] r) with
  | true =>
   obtain ⟨p,_,H⟩:=bnd (ifT H hc)
   obtain ⟨hl,H⟩:=ifN H
   exact allL_len (by rw [List.length_append];show out.length+1≤_;omega) H.out
  | false =>
   obtain rfl:=sm (ifF H hc)
   exact ho
theorem all_len {E n:Nat}{cs:Bool}{r:Rs}{q:RL}(h:runV E n (.all cs) r=some q):q.2.length≤6000000:=by
 cases n with
 | zero=>cases h
 | succ n=>exact allL_len (Nat.zero_le _) (show runV E n (.allL cs []) r=some q from h)
theorem stmt_step {E n:Nat}(hex:FnB E 34 #[] (runR E (n+6) .expr)) (hal:∀ b:Bool,FnL E 124 #[.bool b] (runV E n (.all b))) (hbo:FnB E 209 #[] (runV E n .body)) (hro:∀ a:Int,FnB E 210 #[.int .i64 a] (runV E n (.round a))) (hsh:∀ a:Int,FnB E 211 #[.int .i64 a] (runV E n (.short a))):FnB E 173 #[] (runV E (n+1) .stmt):=by
 intro A w r q v hA h hf
 have H:Hid (stepV E (runR E (n+6) .expr) (fun e=>runR E (n+6) (.list e)) (runV E n) .stmt r=some q):=Lib.hid hf
 clear hf
 have f3:=fldT3
 obtain ⟨_,_,_,_,_,_,_,_,rfl⟩:=h.parts
 have F:=frN hA h;have R0:=rdN h
 clear hA h
 go_enter Tryz.func173,Tryz.ntmps173
 go_wp2_with (go_at_call 68;refine (pkC R0).mono ?_)
 rintro e u ⟨k1,x1,y1,t1,rfl,T1,b⟩;replace F:=frC F b;replace R0:=rdC R0 b;clear b
 have c:=F.all
 by_cases i3:isR E [123] r=true
 ·skip
  replace H:=ifT H i3
  go_wp2_with (go_at_call 69;refine (isC R0 ⟨#[123]⟩ i3).mono ?_)
  rintro e u ⟨rfl,b⟩;replace F:=frC F b;replace R0:=rdC R0 b;clear b
  replace c:=F.all
  go_wp2_with (go_at_call 70;refine (skC R0).mono ?_)
  rintro e u ⟨_,_,_,_,_,_,_,_,rfl,R5,b⟩;replace F:=frC F b;replace R0:=rdC R0 b;clear b
  replace c:=F.all
  replace H:=bnd H;obtain ⟨q6,h6,H⟩:=H
  go_wp2_with (go_at_call 124;refine (flC (hal false) F R5 h6).mono ?_)
  rintro e u ⟨_,_,_,_,_,_,_,_,_,_,_,rfl,R6,L6,b⟩;replace F:=frC F b;clear R5;replace R0:=rdC R0 b;clear b
  replace c:=F.all
  have B7:=t6Ne (g:=u.heap.size) F R6 (by simp [st6,World.setCell]);have N7:=B7.n
  replace F:=frB F R6;replace R0:=rdBo R0 R6;replace L6:=lsB L6 R6;replace R6:=rdB R6
  replace H:=aln H;obtain ⟨q8,h8,rfl⟩:=H
  go_wp2_with (go_at_call 40;refine (adC F R6 L6 11 0 0 _ ⟨#[]⟩ rfl rfl (ta_ T1) h8).mono ?_)
  rintro e u ⟨_,_,_,_,_,_,_,_,rfl,R8,b⟩;replace F:=frC F b;clear R6;clear L6;replace B7:=tbC B7 b;replace R0:=rdC R0 b;clear b
  replace c:=F.all;have cB7:=B7.all6
  replace B7:=tbS B7 R8;replace R0:=rdSo R0 R8;replace F:=frS F R8;replace R8:=rdS R8
  go_wp2
  refine R8.fin F ?_ rfl
  simp [results,Tryz.results173,go_sem,st6,c]
 ·skip
  replace i3:=bfalse i3
  replace H:=ifF H i3
  go_wp2_with (go_at_call 69;refine (isC R0 ⟨#[123]⟩ i3).mono ?_)
  rintro e u ⟨rfl,b⟩;replace F:=frC F b;replace R0:=rdC R0 b;clear b
  replace c:=F.all
  by_cases i6:isR E [105,102] r=true
  ·skip
   replace H:=ifT H i6
   go_wp2_with (go_at_call 69;refine (isC R0 ⟨#[105,102]⟩ i6).mono ?_)
   rintro e u ⟨rfl,b⟩;replace F:=frC F b;replace R0:=rdC R0 b;clear b
   replace c:=F.all
   go_wp2_with (go_at_call 70;refine (skC R0).mono ?_)
   rintro e u ⟨_,_,_,_,_,_,_,_,rfl,R8,b⟩;replace F:=frC F b;replace R0:=rdC R0 b;clear b
   replace c:=F.all
   replace H:=bnd H;obtain ⟨q9,h9,H⟩:=H
   go_wp2_with (go_at_call 208;refine (faC (bracket_R hex) F R8 h9).mono ?_)
   rintro e u ⟨_,_,_,_,_,_,_,_,rfl,R9,b⟩;replace F:=frC F b;clear R8;replace R0:=rdC R0 b;clear b
   replace c:=F.all
   clear R0;replace F:=frR F R9;replace R9:=rdR R9
   replace H:=bnd H;obtain ⟨q10,h10,H⟩:=H
   go_wp2_with (go_at_call 209;refine (fbC hbo F R9 h10).mono ?_)
   rintro e u ⟨_,_,_,_,_,_,_,_,rfl,R10,b⟩;replace F:=frC F b;replace R9:=rdC R9 b;clear b
   replace c:=F.all
   clear R9;replace F:=frR F R10;replace R10:=rdR R10
   go_wp2_with (go_at_call 73;refine (twoC F _ _).mono ?_)
   rintro e u ⟨p11,rfl,L11,b⟩;replace F:=frC F b;replace R10:=rdC R10 b;clear b
   replace c:=F.all
   by_cases i13:isR E [101,108,115,101] q10.1=true
   ·skip
    replace H:=ifT H i13
    go_wp2_with (go_at_call 69;refine (isC R10 ⟨#[101,108,115,101]⟩ i13).mono ?_)
    rintro e u ⟨rfl,b⟩;replace F:=frC F b;replace R10:=rdC R10 b;replace L11:=lsC L11 b;clear b
    replace c:=F.all
    go_wp2_with (go_at_call 70;refine (skC R10).mono ?_)
    rintro e u ⟨_,_,_,_,_,_,_,_,rfl,R15,b⟩;replace F:=frC F b;replace R10:=rdC R10 b;replace L11:=lsC L11 b;clear b
    replace c:=F.all
    replace H:=bnd H;obtain ⟨q16,h16,H⟩:=H
    go_wp2_with (go_at_call 209;refine (fbC hbo F R15 h16).mono ?_)
    rintro e u ⟨_,_,_,_,_,_,_,_,rfl,R16,b⟩;replace F:=frC F b;clear R15;replace R10:=rdC R10 b;replace L11:=lsC L11 b;clear b
    replace c:=F.all
    clear R10;replace L11:=lsR L11 R16;replace F:=frR F R16;replace R16:=rdR R16
    obtain ⟨pp17,nn17,cc17,u,hx,L17,b⟩:=ap1 F L11 (by simp) (by simp) (q16.1.top) (h:=u.heap.size) (by simp [st6,World.setCell])
    replace F:=frC F b;replace R16:=rdC R16 b;replace L11:=lsC L11 b;clear b;have c2:=F.all
    go_wp2_with (at_builtin;refine apW rfl _ _ rfl rfl rfl rfl hx ?_)
    clear hx c2
    replace c:=F.all
    replace H:=aln H;obtain ⟨q18,h18,rfl⟩:=H
    go_wp2_with (go_at_call 40;refine (adC F R16 L17 14 0 0 _ ⟨#[]⟩ rfl rfl (ta_ T1) h18).mono ?_)
    rintro e u ⟨_,_,_,_,_,_,_,_,rfl,R18,b⟩;replace F:=frC F b;clear L11;clear L17;replace R16:=rdC R16 b;clear b
    replace c:=F.all
    replace R16:=rdSo R16 R18;replace F:=frS F R18;replace R18:=rdS R18
    go_wp2
    refine R18.fin F ?_ rfl
    simp [results,Tryz.results173,go_sem,st6,c]
   ·skip
    replace i13:=bfalse i13
    replace H:=ifF H i13
    go_wp2_with (go_at_call 69;refine (isC R10 ⟨#[101,108,115,101]⟩ i13).mono ?_)
    rintro e u ⟨rfl,b⟩;replace F:=frC F b;replace R10:=rdC R10 b;replace L11:=lsC L11 b;clear b
    replace c:=F.all
    replace H:=aln H;obtain ⟨q15,h15,rfl⟩:=H
    go_wp2_with (go_at_call 40;refine (adC F R10 L11 14 0 0 _ ⟨#[]⟩ rfl rfl (ta_ T1) h15).mono ?_)
    rintro e u ⟨_,_,_,_,_,_,_,_,rfl,R15,b⟩;replace F:=frC F b;clear L11;replace R10:=rdC R10 b;clear b
    replace c:=F.all
    replace R10:=rdSo R10 R15;replace F:=frS F R15;replace R15:=rdS R15
    go_wp2
    refine R15.fin F ?_ rfl
    simp [results,Tryz.results173,go_sem,st6,c]
  ·skip
   replace i6:=bfalse i6
   replace H:=ifF H i6
   go_wp2_with (go_at_call 69;refine (isC R0 ⟨#[105,102]⟩ i6).mono ?_)
   rintro e u ⟨rfl,b⟩;replace F:=frC F b;replace R0:=rdC R0 b;clear b
   replace c:=F.all
   by_cases i9:isR E [119,104,105,108,101] r=true
   ·skip
    replace H:=ifT H i9
    go_wp2_with (go_at_call 69;refine (isC R0 ⟨#[119,104,105,108,101]⟩ i9).mono ?_)
    rintro e u ⟨rfl,b⟩;replace F:=frC F b;replace R0:=rdC R0 b;clear b
    replace c:=F.all
    go_wp2_with (go_at_call 70;refine (skC R0).mono ?_)
    rintro e u ⟨p11,_,_,_,_,_,_,_,rfl,R11,b⟩;replace F:=frC F b;replace R0:=rdC R0 b;clear b
    replace c:=F.all
    replace H:=bnd H;obtain ⟨q12,h12,H⟩:=H
    go_wp2_with (go_at_call 208;refine (faC (bracket_R hex) F R11 h12).mono ?_)
    rintro e u ⟨_,_,_,_,_,_,_,_,rfl,R12,b⟩;replace F:=frC F b;clear R11;replace R0:=rdC R0 b;clear b
    replace c:=F.all
    clear R0;replace F:=frR F R12;replace R12:=rdR R12
    replace H:=bnd H;obtain ⟨q13,h13,H⟩:=H
    go_wp2_with (go_at_call 209;refine (fbC hbo F R12 h13).mono ?_)
    rintro e u ⟨_,_,_,_,_,_,_,_,rfl,R13,b⟩;replace F:=frC F b;replace R12:=rdC R12 b;clear b
    replace c:=F.all
    clear R12;replace F:=frR F R13;replace R13:=rdR R13
    go_wp2
    replace F:=frD F;replace R13:=rdD R13
    refine rg 8 (S:=fun W=>Q6 _ _ _ _ _ _ _ W) F.held fun hW=>?_
    refine tks hW [0,1,2,3,4,5] (n:=3) (by kernel_rfl) ?_
    iterate 6 (refine ⟨?_,_,rfl,rfl,fun W hW=>?_,?_⟩;rotate_left;· (simp only [Q6,Q4] at hW;go_simp;(try with_reducible rfl)))
    refine rdy 6 (by kernel_rfl) rfl fun K hK=>?_
    go_simp
    refine (twoC F _ _).mono ?_
    rintro e u ⟨p14,rfl,L14,b⟩;replace F:=frC F b;replace R13:=rdC R13 b;clear b
    replace c:=F.all
    (try go_wp2_with fail)
    refine hK.out _ _ F.held fun hW=>?_
    clear hK K
    replace H:=aln H;obtain ⟨q15,h15,rfl⟩:=H
    refine rdy 7 (by kernel_rfl) rfl fun K hK=>?_
    go_simp
    refine (adC F R13 L14 15 0 0 _ ⟨#[]⟩ rfl rfl (ta_ T1) h15).mono ?_
    rintro e u ⟨_,_,_,_,_,_,_,_,rfl,R15,b⟩;replace F:=frC F b;clear L14;replace R13:=rdC R13 b;clear b
    replace c:=F.all
    (try go_wp2_with fail)
    refine hK.out _ _ F.held fun hW=>?_
    clear hK K
    refine rdl (by kernel_rfl) (by kernel_rfl) rfl fun K hK=>?_
    go_simp
    replace R13:=rdSo R13 R15;replace F:=frS F R15;replace R15:=rdS R15
    refine hK.out _ _ ?_
    clear hK K
    go_wp2
    refine R15.fin F ?_ rfl
    simp [results,Tryz.results173,go_sem,st6,c]
   ·skip
    replace i9:=bfalse i9
    replace H:=ifF H i9
    go_wp2_with (go_at_call 69;refine (isC R0 ⟨#[119,104,105,108,101]⟩ i9).mono ?_)
    rintro e u ⟨rfl,b⟩;replace F:=frC F b;replace R0:=rdC R0 b;clear b
    replace c:=F.all
    by_cases i12:isR E [102,111,114] r=true
    ·skip
     replace H:=ifT H i12
     go_wp2_with (go_at_call 69;refine (isC R0 ⟨#[102,111,114]⟩ i12).mono ?_)
     rintro e u ⟨rfl,b⟩;replace F:=frC F b;replace R0:=rdC R0 b;clear b
     replace c:=F.all
     go_wp2_with (go_at_call 70;refine (skC R0).mono ?_)
     rintro e u ⟨p14,_,_,_,_,_,_,_,rfl,R14,b⟩;replace F:=frC F b;replace R0:=rdC R0 b;clear b
     replace c:=F.all
     rw [← ta_ T1] at H
     go_wp2_with (go_at_call 210;refine (fbC (hro _) F R14 H).mono ?_)
     rintro e u ⟨_,_,_,_,_,_,_,_,rfl,R15,b⟩;replace F:=frC F b;clear R14;replace R0:=rdC R0 b;clear b
     replace c:=F.all
     replace R0:=rdSo R0 R15;replace F:=frS F R15;replace R15:=rdS R15
     go_wp2
     refine R15.fin F ?_ rfl
     simp [results,Tryz.results173,go_sem,st6,c]
    ·skip
     replace i12:=bfalse i12
     replace H:=ifF H i12
     go_wp2_with (go_at_call 69;refine (isC R0 ⟨#[102,111,114]⟩ i12).mono ?_)
     rintro e u ⟨rfl,b⟩;replace F:=frC F b;replace R0:=rdC R0 b;clear b
     replace c:=F.all
     by_cases i15:isR E [115,119,105,116,99,104] r=true
     ·skip
      replace H:=ifT H i15
      go_wp2_with (go_at_call 69;refine (isC R0 ⟨#[115,119,105,116,99,104]⟩ i15).mono ?_)
      rintro e u ⟨rfl,b⟩;replace F:=frC F b;replace R0:=rdC R0 b;clear b
      replace c:=F.all
      go_wp2_with (go_at_call 70;refine (skC R0).mono ?_)
      rintro e u ⟨_,_,_,_,_,_,_,_,rfl,R17,b⟩;replace F:=frC F b;replace R0:=rdC R0 b;clear b
      replace c:=F.all
      replace H:=bnd H;obtain ⟨q18,h18,H⟩:=H
      go_wp2_with (go_at_call 208;refine (faC (bracket_R hex) F R17 h18).mono ?_)
      rintro e u ⟨_,_,_,_,_,_,_,_,rfl,R18,b⟩;replace F:=frC F b;clear R17;replace R0:=rdC R0 b;clear b
      replace c:=F.all
      clear R0;replace F:=frR F R18;replace R18:=rdR R18
      go_wp2_with (go_at_call 82;refine (oneC F _).mono ?_)
      rintro e u ⟨p19,rfl,L19,b⟩;replace F:=frC F b;replace R18:=rdC R18 b;clear b
      replace c:=F.all
      go_wp2_with (go_at_call 71;refine (waC R18 ⟨#[123]⟩ (l:=[123]) rfl).mono ?_)
      rintro e u ⟨_,_,_,_,_,_,_,_,rfl,R20,b⟩;replace F:=frC F b;replace R18:=rdC R18 b;replace L19:=lsC L19 b;clear b
      replace c:=F.all
      replace H:=bnd H;obtain ⟨q21,h21,H⟩:=H
      go_wp2_with (go_at_call 124;refine (flC (hal true) F R20 h21).mono ?_)
      rintro e u ⟨_,_,_,_,_,_,_,_,_,_,_,rfl,R21,L21,b⟩;replace F:=frC F b;clear R20;replace R18:=rdC R18 b;replace L19:=lsC L19 b;clear b
      replace c:=F.all
      have B22:=t6Ne (g:=u.heap.size) F R21 (by simp [st6,World.setCell]);have N22:=B22.n
      replace F:=frB F R21;replace R18:=rdBo R18 R21;replace L19:=lsB L19 R21;replace L21:=lsB L21 R21;replace R21:=rdB R21
      go_wp2
      replace F:=frD F;replace B22:=tbD B22;replace R18:=rdD R18;replace R21:=rdD R21;replace L19:=lsD L19;replace L21:=lsD L21
      refine rg 7 (S:=fun W=>Q6 _ _ _ _ _ _ _ W) B22.held6 fun hW=>?_
      refine tks hW [0,1,2,3,4] (n:=3) (by kernel_rfl) ?_
      iterate 5 (refine ⟨?_,_,rfl,rfl,fun W hW=>?_,?_⟩;rotate_left;· (simp only [Q6,Q4] at hW;go_simp;(try with_reducible rfl)))
      obtain ⟨pp23,nn23,cc23,u,hx,L23,b⟩:=apM F L19 (by simp) (by simp) L21 (by have:=all_len h21.out;omega)
      refine rdy 5 (by kernel_rfl) rfl fun K hK=>?_
      refine apR rfl _ _ rfl rfl rfl rfl hx ?_
      replace F:=frC F b;clear L19;clear L21;replace B22:=tbC B22 b;replace R18:=rdC R18 b;replace R21:=rdC R21 b;clear b hx
      replace c:=F.all;have cB22:=B22.all6
      refine hK.out _ _ B22.held6 fun hW=>?_
      clear hK K
      replace H:=aln H;obtain ⟨q24,h24,rfl⟩:=H
      refine rdy 6 (by kernel_rfl) rfl fun K hK=>?_
      go_simp
      refine (adC F R21 L23 18 0 0 _ ⟨#[]⟩ rfl rfl (ta_ T1) h24).mono ?_
      rintro e u ⟨_,_,_,_,_,_,_,_,rfl,R24,b⟩;replace F:=frC F b;clear R21;clear L23;replace B22:=tbC B22 b;replace R18:=rdC R18 b;clear b
      replace c:=F.all;replace cB22:=B22.all6
      (try go_wp2_with fail)
      refine hK.out _ _ B22.held6 fun hW=>?_
      clear hK K
      refine rdl (by kernel_rfl) (by kernel_rfl) rfl fun K hK=>?_
      go_simp
      replace B22:=tbS B22 R24;replace R18:=rdSo R18 R24;replace F:=frS F R24;replace R24:=rdS R24
      refine hK.out _ _ ?_
      clear hK K
      go_wp2
      refine R24.fin F ?_ rfl
      simp [results,Tryz.results173,go_sem,st6,c]
     ·skip
      replace i15:=bfalse i15
      replace H:=ifF H i15
      go_wp2_with (go_at_call 69;refine (isC R0 ⟨#[115,119,105,116,99,104]⟩ i15).mono ?_)
      rintro e u ⟨rfl,b⟩;replace F:=frC F b;replace R0:=rdC R0 b;clear b
      replace c:=F.all
      replace H:=bnd H;obtain ⟨q17,h17,H⟩:=H
      rw [← ta_ T1] at h17
      go_wp2_with (go_at_call 211;refine (fbC (hsh _) F R0 h17).mono ?_)
      rintro e u ⟨_,_,_,_,_,_,_,_,rfl,R17,b⟩;replace F:=frC F b;clear R0;clear b
      replace c:=F.all
      go_wp2_with (go_at_call 71;refine (waC R17 ⟨#[59]⟩ (l:=[59]) rfl).mono ?_)
      rintro e u ⟨_,_,_,_,_,_,_,_,rfl,R18,b⟩;replace F:=frC F b;clear R17;clear b
      replace c:=F.all
      replace F:=frS F R18;replace R18:=rdS R18
      obtain rfl:=sm H
      go_wp2
      refine R18.fin F ?_ rfl
      simp [results,Tryz.results173,go_sem,st6,c]
end
section
open Go.RowKit
open Tk (T4 bstr)
theorem round_step {E n:Nat}(hex:FnB E 34 #[] (runR E (n+6) .expr)) (hbo:FnB E 209 #[] (runV E n .body)) (hde:FnA E 123 #[.int .i64 12,.bool true] (declaredR E (runR E (n+6) .expr) 12 true)) (at':Int):FnB E 210 #[.int .i64 at'] (runV E (n+1) (.round at')):=by
 intro A w r q v hA h hf
 have H:Hid (stepV E (runR E (n+6) .expr) (fun e=>runR E (n+6) (.list e)) (runV E n) (.round at') r=some q):=Lib.hid hf
 clear hf
 have f3:=fldT3
 obtain ⟨_,_,_,_,_,_,_,_,rfl⟩:=h.parts
 have F:=frN hA h;have R0:=rdN h
 clear hA h
 go_enter Tryz.func210,Tryz.ntmps210
 go_wp2_with (go_at_call 71;refine (waC R0 ⟨#[40]⟩ (l:=[40]) rfl).mono ?_)
 rintro e u ⟨_,_,_,_,_,_,_,_,rfl,R1,b⟩;replace F:=frC F b;replace R0:=rdC R0 b;clear b
 have c:=F.all
 clear R0;replace F:=frR F R1;replace R1:=rdR R1
 replace H:=bnd H;obtain ⟨q3,hp,H⟩:=H
 by_cases i4:isR E [59] (wantR E [40] r)=true
 ·skip
  replace hp:=ifT hp i4
  go_wp2_with (go_at_call 69;refine (isC R1 ⟨#[59]⟩ i4).mono ?_)
  rintro e u ⟨rfl,b⟩;replace F:=frC F b;replace R1:=rdC R1 b;clear b
  replace c:=F.all
  go_wp2_with (go_at_call 235;refine (faC (nothing_R E) F R1 hp).mono ?_)
  rintro e u ⟨_,_,_,_,_,_,_,_,rfl,R6,b⟩;replace F:=frC F b;replace R1:=rdC R1 b;clear b
  replace c:=F.all
  clear R1;replace F:=frR F R6;replace R6:=rdR R6
  go_wp2_with (go_at_call 71;refine (waC R6 ⟨#[59]⟩ (l:=[59]) rfl).mono ?_)
  rintro e u ⟨_,_,_,_,_,_,_,_,rfl,R7,b⟩;replace F:=frC F b;replace R6:=rdC R6 b;clear b
  replace c:=F.all
  clear R6;replace F:=frR F R7;replace R7:=rdR R7
  replace H:=bnd H;obtain ⟨q9,hp,H⟩:=H
  by_cases i10:isR E [59] (wantR E [59] q3)=true
  ·skip
   replace hp:=ifT hp i10
   go_wp2_with (go_at_call 69;refine (isC R7 ⟨#[59]⟩ i10).mono ?_)
   rintro e u ⟨rfl,b⟩;replace F:=frC F b;replace R7:=rdC R7 b;clear b
   replace c:=F.all
   go_wp2_with (go_at_call 235;refine (faC (nothing_R E) F R7 hp).mono ?_)
   rintro e u ⟨_,_,_,_,_,_,_,_,rfl,R12,b⟩;replace F:=frC F b;replace R7:=rdC R7 b;clear b
   replace c:=F.all
   clear R7;replace F:=frR F R12;replace R12:=rdR R12
   go_wp2_with (go_at_call 71;refine (waC R12 ⟨#[59]⟩ (l:=[59]) rfl).mono ?_)
   rintro e u ⟨_,_,_,_,_,_,_,_,rfl,R13,b⟩;replace F:=frC F b;replace R12:=rdC R12 b;clear b
   replace c:=F.all
   clear R12;replace F:=frR F R13;replace R13:=rdR R13
   replace H:=bnd H;obtain ⟨q15,hp,H⟩:=H
   by_cases i16:isR E [41] (wantR E [59] q9)=true
   ·skip
    replace hp:=ifT hp i16
    go_wp2_with (go_at_call 69;refine (isC R13 ⟨#[41]⟩ i16).mono ?_)
    rintro e u ⟨rfl,b⟩;replace F:=frC F b;replace R13:=rdC R13 b;clear b
    replace c:=F.all
    go_wp2_with (go_at_call 235;refine (faC (nothing_R E) F R13 hp).mono ?_)
    rintro e u ⟨_,_,_,_,_,_,_,_,rfl,R18,b⟩;replace F:=frC F b;replace R13:=rdC R13 b;clear b
    replace c:=F.all
    clear R13;replace F:=frR F R18;replace R18:=rdR R18
    go_wp2_with (go_at_call 71;refine (waC R18 ⟨#[41]⟩ (l:=[41]) rfl).mono ?_)
    rintro e u ⟨_,_,_,_,_,_,_,_,rfl,R19,b⟩;replace F:=frC F b;replace R18:=rdC R18 b;clear b
    replace c:=F.all
    replace H:=bnd H;obtain ⟨q20,h20,H⟩:=H
    go_wp2_with (go_at_call 209;refine (fbC hbo F R19 h20).mono ?_)
    rintro e u ⟨_,_,_,_,_,_,_,_,rfl,R20,b⟩;replace F:=frC F b;clear R19;replace R18:=rdC R18 b;clear b
    replace c:=F.all
    clear R18;replace F:=frR F R20;replace R20:=rdR R20
    have L21:=lsK F [q3.top,q9.top,q15.top,q20.1.top] (g:=u.heap.size) (by simp [st6,World.setCell]) rfl rfl
    replace F:=frA F (.cells #[.int .i64 (q3.top),.int .i64 (q9.top),.int .i64 (q15.top),.int .i64 (q20.1.top)] 3);replace R20:=rdA R20 (.cells #[.int .i64 (q3.top),.int .i64 (q9.top),.int .i64 (q15.top),.int .i64 (q20.1.top)] 3)
    replace H:=aln H;obtain ⟨q22,h22,rfl⟩:=H
    go_wp2_with (go_at_call 40;refine (adC F R20 L21 17 0 0 _ ⟨#[]⟩ rfl rfl rfl h22).mono ?_)
    rintro e u ⟨_,_,_,_,_,_,_,_,rfl,R22,b⟩;replace F:=frC F b;clear R20;clear L21;clear b
    replace c:=F.all
    replace F:=frS F R22;replace R22:=rdS R22
    go_wp2
    refine R22.fin F ?_ rfl
    simp [results,Tryz.results210,go_sem,st6,c]
   ·skip
    replace i16:=bfalse i16
    replace hp:=ifF hp i16
    go_wp2_with (go_at_call 69;refine (isC R13 ⟨#[41]⟩ i16).mono ?_)
    rintro e u ⟨rfl,b⟩;replace F:=frC F b;replace R13:=rdC R13 b;clear b
    replace c:=F.all
    go_wp2_with (go_at_call 236;refine (faC (bare_R hex) F R13 hp).mono ?_)
    rintro e u ⟨_,_,_,_,_,_,_,_,rfl,R18,b⟩;replace F:=frC F b;replace R13:=rdC R13 b;clear b
    replace c:=F.all
    clear R13;replace F:=frR F R18;replace R18:=rdR R18
    go_wp2_with (go_at_call 71;refine (waC R18 ⟨#[41]⟩ (l:=[41]) rfl).mono ?_)
    rintro e u ⟨_,_,_,_,_,_,_,_,rfl,R19,b⟩;replace F:=frC F b;replace R18:=rdC R18 b;clear b
    replace c:=F.all
    replace H:=bnd H;obtain ⟨q20,h20,H⟩:=H
    go_wp2_with (go_at_call 209;refine (fbC hbo F R19 h20).mono ?_)
    rintro e u ⟨_,_,_,_,_,_,_,_,rfl,R20,b⟩;replace F:=frC F b;clear R19;replace R18:=rdC R18 b;clear b
    replace c:=F.all
    clear R18;replace F:=frR F R20;replace R20:=rdR R20
    have L21:=lsK F [q3.top,q9.top,q15.top,q20.1.top] (g:=u.heap.size) (by simp [st6,World.setCell]) rfl rfl
    replace F:=frA F (.cells #[.int .i64 (q3.top),.int .i64 (q9.top),.int .i64 (q15.top),.int .i64 (q20.1.top)] 3);replace R20:=rdA R20 (.cells #[.int .i64 (q3.top),.int .i64 (q9.top),.int .i64 (q15.top),.int .i64 (q20.1.top)] 3)
    replace H:=aln H;obtain ⟨q22,h22,rfl⟩:=H
    go_wp2_with (go_at_call 40;refine (adC F R20 L21 17 0 0 _ ⟨#[]⟩ rfl rfl rfl h22).mono ?_)
    rintro e u ⟨_,_,_,_,_,_,_,_,rfl,R22,b⟩;replace F:=frC F b;clear R20;clear L21;clear b
    replace c:=F.all
    replace F:=frS F R22;replace R22:=rdS R22
    go_wp2
    refine R22.fin F ?_ rfl
    simp [results,Tryz.results210,go_sem,st6,c]
  ·skip
   replace i10:=bfalse i10
   replace hp:=ifF hp i10
   go_wp2_with (go_at_call 69;refine (isC R7 ⟨#[59]⟩ i10).mono ?_)
   rintro e u ⟨rfl,b⟩;replace F:=frC F b;replace R7:=rdC R7 b;clear b
   replace c:=F.all
   replace hp:=bnd hp;obtain ⟨q12,h12,hp⟩:=hp;obtain rfl:=sm hp
   go_wp2_with (go_at_call 34;refine (fbC hex F R7 h12).mono ?_)
   rintro e u ⟨_,_,_,_,_,_,_,_,rfl,R12,b⟩;replace F:=frC F b;replace R7:=rdC R7 b;clear b
   replace c:=F.all
   clear R7;replace F:=frR F R12;replace R12:=rdR R12
   go_wp2_with (go_at_call 71;refine (waC R12 ⟨#[59]⟩ (l:=[59]) rfl).mono ?_)
   rintro e u ⟨_,_,_,_,_,_,_,_,rfl,R13,b⟩;replace F:=frC F b;replace R12:=rdC R12 b;clear b
   replace c:=F.all
   clear R12;replace F:=frR F R13;replace R13:=rdR R13
   replace H:=bnd H;obtain ⟨q15,hp,H⟩:=H
   by_cases i16:isR E [41] (wantR E [59] q12.1)=true
   ·skip
    replace hp:=ifT hp i16
    go_wp2_with (go_at_call 69;refine (isC R13 ⟨#[41]⟩ i16).mono ?_)
    rintro e u ⟨rfl,b⟩;replace F:=frC F b;replace R13:=rdC R13 b;clear b
    replace c:=F.all
    go_wp2_with (go_at_call 235;refine (faC (nothing_R E) F R13 hp).mono ?_)
    rintro e u ⟨_,_,_,_,_,_,_,_,rfl,R18,b⟩;replace F:=frC F b;replace R13:=rdC R13 b;clear b
    replace c:=F.all
    clear R13;replace F:=frR F R18;replace R18:=rdR R18
    go_wp2_with (go_at_call 71;refine (waC R18 ⟨#[41]⟩ (l:=[41]) rfl).mono ?_)
    rintro e u ⟨_,_,_,_,_,_,_,_,rfl,R19,b⟩;replace F:=frC F b;replace R18:=rdC R18 b;clear b
    replace c:=F.all
    replace H:=bnd H;obtain ⟨q20,h20,H⟩:=H
    go_wp2_with (go_at_call 209;refine (fbC hbo F R19 h20).mono ?_)
    rintro e u ⟨_,_,_,_,_,_,_,_,rfl,R20,b⟩;replace F:=frC F b;clear R19;replace R18:=rdC R18 b;clear b
    replace c:=F.all
    clear R18;replace F:=frR F R20;replace R20:=rdR R20
    have L21:=lsK F [q3.top,q12.1.top,q15.top,q20.1.top] (g:=u.heap.size) (by simp [st6,World.setCell]) rfl rfl
    replace F:=frA F (.cells #[.int .i64 (q3.top),.int .i64 (q12.1.top),.int .i64 (q15.top),.int .i64 (q20.1.top)] 3);replace R20:=rdA R20 (.cells #[.int .i64 (q3.top),.int .i64 (q12.1.top),.int .i64 (q15.top),.int .i64 (q20.1.top)] 3)
    replace H:=aln H;obtain ⟨q22,h22,rfl⟩:=H
    go_wp2_with (go_at_call 40;refine (adC F R20 L21 17 0 0 _ ⟨#[]⟩ rfl rfl rfl h22).mono ?_)
    rintro e u ⟨_,_,_,_,_,_,_,_,rfl,R22,b⟩;replace F:=frC F b;clear R20;clear L21;clear b
    replace c:=F.all
    replace F:=frS F R22;replace R22:=rdS R22
    go_wp2
    refine R22.fin F ?_ rfl
    simp [results,Tryz.results210,go_sem,st6,c]
   ·skip
    replace i16:=bfalse i16
    replace hp:=ifF hp i16
    go_wp2_with (go_at_call 69;refine (isC R13 ⟨#[41]⟩ i16).mono ?_)
    rintro e u ⟨rfl,b⟩;replace F:=frC F b;replace R13:=rdC R13 b;clear b
    replace c:=F.all
    go_wp2_with (go_at_call 236;refine (faC (bare_R hex) F R13 hp).mono ?_)
    rintro e u ⟨_,_,_,_,_,_,_,_,rfl,R18,b⟩;replace F:=frC F b;replace R13:=rdC R13 b;clear b
    replace c:=F.all
    clear R13;replace F:=frR F R18;replace R18:=rdR R18
    go_wp2_with (go_at_call 71;refine (waC R18 ⟨#[41]⟩ (l:=[41]) rfl).mono ?_)
    rintro e u ⟨_,_,_,_,_,_,_,_,rfl,R19,b⟩;replace F:=frC F b;replace R18:=rdC R18 b;clear b
    replace c:=F.all
    replace H:=bnd H;obtain ⟨q20,h20,H⟩:=H
    go_wp2_with (go_at_call 209;refine (fbC hbo F R19 h20).mono ?_)
    rintro e u ⟨_,_,_,_,_,_,_,_,rfl,R20,b⟩;replace F:=frC F b;clear R19;replace R18:=rdC R18 b;clear b
    replace c:=F.all
    clear R18;replace F:=frR F R20;replace R20:=rdR R20
    have L21:=lsK F [q3.top,q12.1.top,q15.top,q20.1.top] (g:=u.heap.size) (by simp [st6,World.setCell]) rfl rfl
    replace F:=frA F (.cells #[.int .i64 (q3.top),.int .i64 (q12.1.top),.int .i64 (q15.top),.int .i64 (q20.1.top)] 3);replace R20:=rdA R20 (.cells #[.int .i64 (q3.top),.int .i64 (q12.1.top),.int .i64 (q15.top),.int .i64 (q20.1.top)] 3)
    replace H:=aln H;obtain ⟨q22,h22,rfl⟩:=H
    go_wp2_with (go_at_call 40;refine (adC F R20 L21 17 0 0 _ ⟨#[]⟩ rfl rfl rfl h22).mono ?_)
    rintro e u ⟨_,_,_,_,_,_,_,_,rfl,R22,b⟩;replace F:=frC F b;clear R20;clear L21;clear b
    replace c:=F.all
    replace F:=frS F R22;replace R22:=rdS R22
    go_wp2
    refine R22.fin F ?_ rfl
    simp [results,Tryz.results210,go_sem,st6,c]
 ·skip
  replace i4:=bfalse i4
  replace hp:=ifF hp i4
  go_wp2_with (go_at_call 69;refine (isC R1 ⟨#[59]⟩ i4).mono ?_)
  rintro e u ⟨rfl,b⟩;replace F:=frC F b;replace R1:=rdC R1 b;clear b
  replace c:=F.all
  by_cases i7:isR E [105,110,116] (wantR E [40] r)=true
  ·skip
   replace hp:=ifT hp i7
   go_wp2_with (go_at_call 69;refine (isC R1 ⟨#[105,110,116]⟩ i7).mono ?_)
   rintro e u ⟨rfl,b⟩;replace F:=frC F b;replace R1:=rdC R1 b;clear b
   replace c:=F.all
   go_wp2_with (go_at_call 123;refine (faC hde F R1 hp).mono ?_)
   rintro e u ⟨_,_,_,_,_,_,_,_,rfl,R9,b⟩;replace F:=frC F b;replace R1:=rdC R1 b;clear b
   replace c:=F.all
   clear R1;replace F:=frR F R9;replace R9:=rdR R9
   go_wp2_with (go_at_call 71;refine (waC R9 ⟨#[59]⟩ (l:=[59]) rfl).mono ?_)
   rintro e u ⟨_,_,_,_,_,_,_,_,rfl,R10,b⟩;replace F:=frC F b;replace R9:=rdC R9 b;clear b
   replace c:=F.all
   clear R9;replace F:=frR F R10;replace R10:=rdR R10
   replace H:=bnd H;obtain ⟨q12,hp,H⟩:=H
   by_cases i13:isR E [59] (wantR E [59] q3)=true
   ·skip
    replace hp:=ifT hp i13
    go_wp2_with (go_at_call 69;refine (isC R10 ⟨#[59]⟩ i13).mono ?_)
    rintro e u ⟨rfl,b⟩;replace F:=frC F b;replace R10:=rdC R10 b;clear b
    replace c:=F.all
    go_wp2_with (go_at_call 235;refine (faC (nothing_R E) F R10 hp).mono ?_)
    rintro e u ⟨_,_,_,_,_,_,_,_,rfl,R15,b⟩;replace F:=frC F b;replace R10:=rdC R10 b;clear b
    replace c:=F.all
    clear R10;replace F:=frR F R15;replace R15:=rdR R15
    go_wp2_with (go_at_call 71;refine (waC R15 ⟨#[59]⟩ (l:=[59]) rfl).mono ?_)
    rintro e u ⟨_,_,_,_,_,_,_,_,rfl,R16,b⟩;replace F:=frC F b;replace R15:=rdC R15 b;clear b
    replace c:=F.all
    clear R15;replace F:=frR F R16;replace R16:=rdR R16
    replace H:=bnd H;obtain ⟨q18,hp,H⟩:=H
    by_cases i19:isR E [41] (wantR E [59] q12)=true
    ·skip
     replace hp:=ifT hp i19
     go_wp2_with (go_at_call 69;refine (isC R16 ⟨#[41]⟩ i19).mono ?_)
     rintro e u ⟨rfl,b⟩;replace F:=frC F b;replace R16:=rdC R16 b;clear b
     replace c:=F.all
     go_wp2_with (go_at_call 235;refine (faC (nothing_R E) F R16 hp).mono ?_)
     rintro e u ⟨_,_,_,_,_,_,_,_,rfl,R21,b⟩;replace F:=frC F b;replace R16:=rdC R16 b;clear b
     replace c:=F.all
     clear R16;replace F:=frR F R21;replace R21:=rdR R21
     go_wp2_with (go_at_call 71;refine (waC R21 ⟨#[41]⟩ (l:=[41]) rfl).mono ?_)
     rintro e u ⟨_,_,_,_,_,_,_,_,rfl,R22,b⟩;replace F:=frC F b;replace R21:=rdC R21 b;clear b
     replace c:=F.all
     replace H:=bnd H;obtain ⟨q23,h23,H⟩:=H
     go_wp2_with (go_at_call 209;refine (fbC hbo F R22 h23).mono ?_)
     rintro e u ⟨_,_,_,_,_,_,_,_,rfl,R23,b⟩;replace F:=frC F b;clear R22;replace R21:=rdC R21 b;clear b
     replace c:=F.all
     clear R21;replace F:=frR F R23;replace R23:=rdR R23
     have L24:=lsK F [q3.top,q12.top,q18.top,q23.1.top] (g:=u.heap.size) (by simp [st6,World.setCell]) rfl rfl
     replace F:=frA F (.cells #[.int .i64 (q3.top),.int .i64 (q12.top),.int .i64 (q18.top),.int .i64 (q23.1.top)] 3);replace R23:=rdA R23 (.cells #[.int .i64 (q3.top),.int .i64 (q12.top),.int .i64 (q18.top),.int .i64 (q23.1.top)] 3)
     replace H:=aln H;obtain ⟨q25,h25,rfl⟩:=H
     go_wp2_with (go_at_call 40;refine (adC F R23 L24 17 0 0 _ ⟨#[]⟩ rfl rfl rfl h25).mono ?_)
     rintro e u ⟨_,_,_,_,_,_,_,_,rfl,R25,b⟩;replace F:=frC F b;clear R23;clear L24;clear b
     replace c:=F.all
     replace F:=frS F R25;replace R25:=rdS R25
     go_wp2
     refine R25.fin F ?_ rfl
     simp [results,Tryz.results210,go_sem,st6,c]
    ·skip
     replace i19:=bfalse i19
     replace hp:=ifF hp i19
     go_wp2_with (go_at_call 69;refine (isC R16 ⟨#[41]⟩ i19).mono ?_)
     rintro e u ⟨rfl,b⟩;replace F:=frC F b;replace R16:=rdC R16 b;clear b
     replace c:=F.all
     go_wp2_with (go_at_call 236;refine (faC (bare_R hex) F R16 hp).mono ?_)
     rintro e u ⟨_,_,_,_,_,_,_,_,rfl,R21,b⟩;replace F:=frC F b;replace R16:=rdC R16 b;clear b
     replace c:=F.all
     clear R16;replace F:=frR F R21;replace R21:=rdR R21
     go_wp2_with (go_at_call 71;refine (waC R21 ⟨#[41]⟩ (l:=[41]) rfl).mono ?_)
     rintro e u ⟨_,_,_,_,_,_,_,_,rfl,R22,b⟩;replace F:=frC F b;replace R21:=rdC R21 b;clear b
     replace c:=F.all
     replace H:=bnd H;obtain ⟨q23,h23,H⟩:=H
     go_wp2_with (go_at_call 209;refine (fbC hbo F R22 h23).mono ?_)
     rintro e u ⟨_,_,_,_,_,_,_,_,rfl,R23,b⟩;replace F:=frC F b;clear R22;replace R21:=rdC R21 b;clear b
     replace c:=F.all
     clear R21;replace F:=frR F R23;replace R23:=rdR R23
     have L24:=lsK F [q3.top,q12.top,q18.top,q23.1.top] (g:=u.heap.size) (by simp [st6,World.setCell]) rfl rfl
     replace F:=frA F (.cells #[.int .i64 (q3.top),.int .i64 (q12.top),.int .i64 (q18.top),.int .i64 (q23.1.top)] 3);replace R23:=rdA R23 (.cells #[.int .i64 (q3.top),.int .i64 (q12.top),.int .i64 (q18.top),.int .i64 (q23.1.top)] 3)
     replace H:=aln H;obtain ⟨q25,h25,rfl⟩:=H
     go_wp2_with (go_at_call 40;refine (adC F R23 L24 17 0 0 _ ⟨#[]⟩ rfl rfl rfl h25).mono ?_)
     rintro e u ⟨_,_,_,_,_,_,_,_,rfl,R25,b⟩;replace F:=frC F b;clear R23;clear L24;clear b
     replace c:=F.all
     replace F:=frS F R25;replace R25:=rdS R25
     go_wp2
     refine R25.fin F ?_ rfl
     simp [results,Tryz.results210,go_sem,st6,c]
   ·skip
    replace i13:=bfalse i13
    replace hp:=ifF hp i13
    go_wp2_with (go_at_call 69;refine (isC R10 ⟨#[59]⟩ i13).mono ?_)
    rintro e u ⟨rfl,b⟩;replace F:=frC F b;replace R10:=rdC R10 b;clear b
    replace c:=F.all
    replace hp:=bnd hp;obtain ⟨q15,h15,hp⟩:=hp;obtain rfl:=sm hp
    go_wp2_with (go_at_call 34;refine (fbC hex F R10 h15).mono ?_)
    rintro e u ⟨_,_,_,_,_,_,_,_,rfl,R15,b⟩;replace F:=frC F b;replace R10:=rdC R10 b;clear b
    replace c:=F.all
    clear R10;replace F:=frR F R15;replace R15:=rdR R15
    go_wp2_with (go_at_call 71;refine (waC R15 ⟨#[59]⟩ (l:=[59]) rfl).mono ?_)
    rintro e u ⟨_,_,_,_,_,_,_,_,rfl,R16,b⟩;replace F:=frC F b;replace R15:=rdC R15 b;clear b
    replace c:=F.all
    clear R15;replace F:=frR F R16;replace R16:=rdR R16
    replace H:=bnd H;obtain ⟨q18,hp,H⟩:=H
    by_cases i19:isR E [41] (wantR E [59] q15.1)=true
    ·skip
     replace hp:=ifT hp i19
     go_wp2_with (go_at_call 69;refine (isC R16 ⟨#[41]⟩ i19).mono ?_)
     rintro e u ⟨rfl,b⟩;replace F:=frC F b;replace R16:=rdC R16 b;clear b
     replace c:=F.all
     go_wp2_with (go_at_call 235;refine (faC (nothing_R E) F R16 hp).mono ?_)
     rintro e u ⟨_,_,_,_,_,_,_,_,rfl,R21,b⟩;replace F:=frC F b;replace R16:=rdC R16 b;clear b
     replace c:=F.all
     clear R16;replace F:=frR F R21;replace R21:=rdR R21
     go_wp2_with (go_at_call 71;refine (waC R21 ⟨#[41]⟩ (l:=[41]) rfl).mono ?_)
     rintro e u ⟨_,_,_,_,_,_,_,_,rfl,R22,b⟩;replace F:=frC F b;replace R21:=rdC R21 b;clear b
     replace c:=F.all
     replace H:=bnd H;obtain ⟨q23,h23,H⟩:=H
     go_wp2_with (go_at_call 209;refine (fbC hbo F R22 h23).mono ?_)
     rintro e u ⟨_,_,_,_,_,_,_,_,rfl,R23,b⟩;replace F:=frC F b;clear R22;replace R21:=rdC R21 b;clear b
     replace c:=F.all
     clear R21;replace F:=frR F R23;replace R23:=rdR R23
     have L24:=lsK F [q3.top,q15.1.top,q18.top,q23.1.top] (g:=u.heap.size) (by simp [st6,World.setCell]) rfl rfl
     replace F:=frA F (.cells #[.int .i64 (q3.top),.int .i64 (q15.1.top),.int .i64 (q18.top),.int .i64 (q23.1.top)] 3);replace R23:=rdA R23 (.cells #[.int .i64 (q3.top),.int .i64 (q15.1.top),.int .i64 (q18.top),.int .i64 (q23.1.top)] 3)
     replace H:=aln H;obtain ⟨q25,h25,rfl⟩:=H
     go_wp2_with (go_at_call 40;refine (adC F R23 L24 17 0 0 _ ⟨#[]⟩ rfl rfl rfl h25).mono ?_)
     rintro e u ⟨_,_,_,_,_,_,_,_,rfl,R25,b⟩;replace F:=frC F b;clear R23;clear L24;clear b
     replace c:=F.all
     replace F:=frS F R25;replace R25:=rdS R25
     go_wp2
     refine R25.fin F ?_ rfl
     simp [results,Tryz.results210,go_sem,st6,c]
    ·skip
     replace i19:=bfalse i19
     replace hp:=ifF hp i19
     go_wp2_with (go_at_call 69;refine (isC R16 ⟨#[41]⟩ i19).mono ?_)
     rintro e u ⟨rfl,b⟩;replace F:=frC F b;replace R16:=rdC R16 b;clear b
     replace c:=F.all
     go_wp2_with (go_at_call 236;refine (faC (bare_R hex) F R16 hp).mono ?_)
     rintro e u ⟨_,_,_,_,_,_,_,_,rfl,R21,b⟩;replace F:=frC F b;replace R16:=rdC R16 b;clear b
     replace c:=F.all
     clear R16;replace F:=frR F R21;replace R21:=rdR R21
     go_wp2_with (go_at_call 71;refine (waC R21 ⟨#[41]⟩ (l:=[41]) rfl).mono ?_)
     rintro e u ⟨_,_,_,_,_,_,_,_,rfl,R22,b⟩;replace F:=frC F b;replace R21:=rdC R21 b;clear b
     replace c:=F.all
     replace H:=bnd H;obtain ⟨q23,h23,H⟩:=H
     go_wp2_with (go_at_call 209;refine (fbC hbo F R22 h23).mono ?_)
     rintro e u ⟨_,_,_,_,_,_,_,_,rfl,R23,b⟩;replace F:=frC F b;clear R22;replace R21:=rdC R21 b;clear b
     replace c:=F.all
     clear R21;replace F:=frR F R23;replace R23:=rdR R23
     have L24:=lsK F [q3.top,q15.1.top,q18.top,q23.1.top] (g:=u.heap.size) (by simp [st6,World.setCell]) rfl rfl
     replace F:=frA F (.cells #[.int .i64 (q3.top),.int .i64 (q15.1.top),.int .i64 (q18.top),.int .i64 (q23.1.top)] 3);replace R23:=rdA R23 (.cells #[.int .i64 (q3.top),.int .i64 (q15.1.top),.int .i64 (q18.top),.int .i64 (q23.1.top)] 3)
     replace H:=aln H;obtain ⟨q25,h25,rfl⟩:=H
     go_wp2_with (go_at_call 40;refine (adC F R23 L24 17 0 0 _ ⟨#[]⟩ rfl rfl rfl h25).mono ?_)
     rintro e u ⟨_,_,_,_,_,_,_,_,rfl,R25,b⟩;replace F:=frC F b;clear R23;clear L24;clear b
     replace c:=F.all
     replace F:=frS F R25;replace R25:=rdS R25
     go_wp2
     refine R25.fin F ?_ rfl
     simp [results,Tryz.results210,go_sem,st6,c]
  ·skip
   replace i7:=bfalse i7
   replace hp:=ifF hp i7
   go_wp2_with (go_at_call 69;refine (isC R1 ⟨#[105,110,116]⟩ i7).mono ?_)
   rintro e u ⟨rfl,b⟩;replace F:=frC F b;replace R1:=rdC R1 b;clear b
   replace c:=F.all
   go_wp2_with (go_at_call 236;refine (faC (bare_R hex) F R1 hp).mono ?_)
   rintro e u ⟨_,_,_,_,_,_,_,_,rfl,R9,b⟩;replace F:=frC F b;replace R1:=rdC R1 b;clear b
   replace c:=F.all
   clear R1;replace F:=frR F R9;replace R9:=rdR R9
   go_wp2_with (go_at_call 71;refine (waC R9 ⟨#[59]⟩ (l:=[59]) rfl).mono ?_)
   rintro e u ⟨_,_,_,_,_,_,_,_,rfl,R10,b⟩;replace F:=frC F b;replace R9:=rdC R9 b;clear b
   replace c:=F.all
   clear R9;replace F:=frR F R10;replace R10:=rdR R10
   replace H:=bnd H;obtain ⟨q12,hp,H⟩:=H
   by_cases i13:isR E [59] (wantR E [59] q3)=true
   ·skip
    replace hp:=ifT hp i13
    go_wp2_with (go_at_call 69;refine (isC R10 ⟨#[59]⟩ i13).mono ?_)
    rintro e u ⟨rfl,b⟩;replace F:=frC F b;replace R10:=rdC R10 b;clear b
    replace c:=F.all
    go_wp2_with (go_at_call 235;refine (faC (nothing_R E) F R10 hp).mono ?_)
    rintro e u ⟨_,_,_,_,_,_,_,_,rfl,R15,b⟩;replace F:=frC F b;replace R10:=rdC R10 b;clear b
    replace c:=F.all
    clear R10;replace F:=frR F R15;replace R15:=rdR R15
    go_wp2_with (go_at_call 71;refine (waC R15 ⟨#[59]⟩ (l:=[59]) rfl).mono ?_)
    rintro e u ⟨_,_,_,_,_,_,_,_,rfl,R16,b⟩;replace F:=frC F b;replace R15:=rdC R15 b;clear b
    replace c:=F.all
    clear R15;replace F:=frR F R16;replace R16:=rdR R16
    replace H:=bnd H;obtain ⟨q18,hp,H⟩:=H
    by_cases i19:isR E [41] (wantR E [59] q12)=true
    ·skip
     replace hp:=ifT hp i19
     go_wp2_with (go_at_call 69;refine (isC R16 ⟨#[41]⟩ i19).mono ?_)
     rintro e u ⟨rfl,b⟩;replace F:=frC F b;replace R16:=rdC R16 b;clear b
     replace c:=F.all
     go_wp2_with (go_at_call 235;refine (faC (nothing_R E) F R16 hp).mono ?_)
     rintro e u ⟨_,_,_,_,_,_,_,_,rfl,R21,b⟩;replace F:=frC F b;replace R16:=rdC R16 b;clear b
     replace c:=F.all
     clear R16;replace F:=frR F R21;replace R21:=rdR R21
     go_wp2_with (go_at_call 71;refine (waC R21 ⟨#[41]⟩ (l:=[41]) rfl).mono ?_)
     rintro e u ⟨_,_,_,_,_,_,_,_,rfl,R22,b⟩;replace F:=frC F b;replace R21:=rdC R21 b;clear b
     replace c:=F.all
     replace H:=bnd H;obtain ⟨q23,h23,H⟩:=H
     go_wp2_with (go_at_call 209;refine (fbC hbo F R22 h23).mono ?_)
     rintro e u ⟨_,_,_,_,_,_,_,_,rfl,R23,b⟩;replace F:=frC F b;clear R22;replace R21:=rdC R21 b;clear b
     replace c:=F.all
     clear R21;replace F:=frR F R23;replace R23:=rdR R23
     have L24:=lsK F [q3.top,q12.top,q18.top,q23.1.top] (g:=u.heap.size) (by simp [st6,World.setCell]) rfl rfl
     replace F:=frA F (.cells #[.int .i64 (q3.top),.int .i64 (q12.top),.int .i64 (q18.top),.int .i64 (q23.1.top)] 3);replace R23:=rdA R23 (.cells #[.int .i64 (q3.top),.int .i64 (q12.top),.int .i64 (q18.top),.int .i64 (q23.1.top)] 3)
     replace H:=aln H;obtain ⟨q25,h25,rfl⟩:=H
     go_wp2_with (go_at_call 40;refine (adC F R23 L24 17 0 0 _ ⟨#[]⟩ rfl rfl rfl h25).mono ?_)
     rintro e u ⟨_,_,_,_,_,_,_,_,rfl,R25,b⟩;replace F:=frC F b;clear R23;clear L24;clear b
     replace c:=F.all
     replace F:=frS F R25;replace R25:=rdS R25
     go_wp2
     refine R25.fin F ?_ rfl
     simp [results,Tryz.results210,go_sem,st6,c]
    ·skip
     replace i19:=bfalse i19
     replace hp:=ifF hp i19
     go_wp2_with (go_at_call 69;refine (isC R16 ⟨#[41]⟩ i19).mono ?_)
     rintro e u ⟨rfl,b⟩;replace F:=frC F b;replace R16:=rdC R16 b;clear b
     replace c:=F.all
     go_wp2_with (go_at_call 236;refine (faC (bare_R hex) F R16 hp).mono ?_)
     rintro e u ⟨_,_,_,_,_,_,_,_,rfl,R21,b⟩;replace F:=frC F b;replace R16:=rdC R16 b;clear b
     replace c:=F.all
     clear R16;replace F:=frR F R21;replace R21:=rdR R21
     go_wp2_with (go_at_call 71;refine (waC R21 ⟨#[41]⟩ (l:=[41]) rfl).mono ?_)
     rintro e u ⟨_,_,_,_,_,_,_,_,rfl,R22,b⟩;replace F:=frC F b;replace R21:=rdC R21 b;clear b
     replace c:=F.all
     replace H:=bnd H;obtain ⟨q23,h23,H⟩:=H
     go_wp2_with (go_at_call 209;refine (fbC hbo F R22 h23).mono ?_)
     rintro e u ⟨_,_,_,_,_,_,_,_,rfl,R23,b⟩;replace F:=frC F b;clear R22;replace R21:=rdC R21 b;clear b
     replace c:=F.all
     clear R21;replace F:=frR F R23;replace R23:=rdR R23
     have L24:=lsK F [q3.top,q12.top,q18.top,q23.1.top] (g:=u.heap.size) (by simp [st6,World.setCell]) rfl rfl
     replace F:=frA F (.cells #[.int .i64 (q3.top),.int .i64 (q12.top),.int .i64 (q18.top),.int .i64 (q23.1.top)] 3);replace R23:=rdA R23 (.cells #[.int .i64 (q3.top),.int .i64 (q12.top),.int .i64 (q18.top),.int .i64 (q23.1.top)] 3)
     replace H:=aln H;obtain ⟨q25,h25,rfl⟩:=H
     go_wp2_with (go_at_call 40;refine (adC F R23 L24 17 0 0 _ ⟨#[]⟩ rfl rfl rfl h25).mono ?_)
     rintro e u ⟨_,_,_,_,_,_,_,_,rfl,R25,b⟩;replace F:=frC F b;clear R23;clear L24;clear b
     replace c:=F.all
     replace F:=frS F R25;replace R25:=rdS R25
     go_wp2
     refine R25.fin F ?_ rfl
     simp [results,Tryz.results210,go_sem,st6,c]
   ·skip
    replace i13:=bfalse i13
    replace hp:=ifF hp i13
    go_wp2_with (go_at_call 69;refine (isC R10 ⟨#[59]⟩ i13).mono ?_)
    rintro e u ⟨rfl,b⟩;replace F:=frC F b;replace R10:=rdC R10 b;clear b
    replace c:=F.all
    replace hp:=bnd hp;obtain ⟨q15,h15,hp⟩:=hp;obtain rfl:=sm hp
    go_wp2_with (go_at_call 34;refine (fbC hex F R10 h15).mono ?_)
    rintro e u ⟨_,_,_,_,_,_,_,_,rfl,R15,b⟩;replace F:=frC F b;replace R10:=rdC R10 b;clear b
    replace c:=F.all
    clear R10;replace F:=frR F R15;replace R15:=rdR R15
    go_wp2_with (go_at_call 71;refine (waC R15 ⟨#[59]⟩ (l:=[59]) rfl).mono ?_)
    rintro e u ⟨_,_,_,_,_,_,_,_,rfl,R16,b⟩;replace F:=frC F b;replace R15:=rdC R15 b;clear b
    replace c:=F.all
    clear R15;replace F:=frR F R16;replace R16:=rdR R16
    replace H:=bnd H;obtain ⟨q18,hp,H⟩:=H
    by_cases i19:isR E [41] (wantR E [59] q15.1)=true
    ·skip
     replace hp:=ifT hp i19
     go_wp2_with (go_at_call 69;refine (isC R16 ⟨#[41]⟩ i19).mono ?_)
     rintro e u ⟨rfl,b⟩;replace F:=frC F b;replace R16:=rdC R16 b;clear b
     replace c:=F.all
     go_wp2_with (go_at_call 235;refine (faC (nothing_R E) F R16 hp).mono ?_)
     rintro e u ⟨_,_,_,_,_,_,_,_,rfl,R21,b⟩;replace F:=frC F b;replace R16:=rdC R16 b;clear b
     replace c:=F.all
     clear R16;replace F:=frR F R21;replace R21:=rdR R21
     go_wp2_with (go_at_call 71;refine (waC R21 ⟨#[41]⟩ (l:=[41]) rfl).mono ?_)
     rintro e u ⟨_,_,_,_,_,_,_,_,rfl,R22,b⟩;replace F:=frC F b;replace R21:=rdC R21 b;clear b
     replace c:=F.all
     replace H:=bnd H;obtain ⟨q23,h23,H⟩:=H
     go_wp2_with (go_at_call 209;refine (fbC hbo F R22 h23).mono ?_)
     rintro e u ⟨_,_,_,_,_,_,_,_,rfl,R23,b⟩;replace F:=frC F b;clear R22;replace R21:=rdC R21 b;clear b
     replace c:=F.all
     clear R21;replace F:=frR F R23;replace R23:=rdR R23
     have L24:=lsK F [q3.top,q15.1.top,q18.top,q23.1.top] (g:=u.heap.size) (by simp [st6,World.setCell]) rfl rfl
     replace F:=frA F (.cells #[.int .i64 (q3.top),.int .i64 (q15.1.top),.int .i64 (q18.top),.int .i64 (q23.1.top)] 3);replace R23:=rdA R23 (.cells #[.int .i64 (q3.top),.int .i64 (q15.1.top),.int .i64 (q18.top),.int .i64 (q23.1.top)] 3)
     replace H:=aln H;obtain ⟨q25,h25,rfl⟩:=H
     go_wp2_with (go_at_call 40;refine (adC F R23 L24 17 0 0 _ ⟨#[]⟩ rfl rfl rfl h25).mono ?_)
     rintro e u ⟨_,_,_,_,_,_,_,_,rfl,R25,b⟩;replace F:=frC F b;clear R23;clear L24;clear b
     replace c:=F.all
     replace F:=frS F R25;replace R25:=rdS R25
     go_wp2
     refine R25.fin F ?_ rfl
     simp [results,Tryz.results210,go_sem,st6,c]
    ·skip
     replace i19:=bfalse i19
     replace hp:=ifF hp i19
     go_wp2_with (go_at_call 69;refine (isC R16 ⟨#[41]⟩ i19).mono ?_)
     rintro e u ⟨rfl,b⟩;replace F:=frC F b;replace R16:=rdC R16 b;clear b
     replace c:=F.all
     go_wp2_with (go_at_call 236;refine (faC (bare_R hex) F R16 hp).mono ?_)
     rintro e u ⟨_,_,_,_,_,_,_,_,rfl,R21,b⟩;replace F:=frC F b;replace R16:=rdC R16 b;clear b
     replace c:=F.all
     clear R16;replace F:=frR F R21;replace R21:=rdR R21
     go_wp2_with (go_at_call 71;refine (waC R21 ⟨#[41]⟩ (l:=[41]) rfl).mono ?_)
     rintro e u ⟨_,_,_,_,_,_,_,_,rfl,R22,b⟩;replace F:=frC F b;replace R21:=rdC R21 b;clear b
     replace c:=F.all
     replace H:=bnd H;obtain ⟨q23,h23,H⟩:=H
     go_wp2_with (go_at_call 209;refine (fbC hbo F R22 h23).mono ?_)
     rintro e u ⟨_,_,_,_,_,_,_,_,rfl,R23,b⟩;replace F:=frC F b;clear R22;replace R21:=rdC R21 b;clear b
     replace c:=F.all
     clear R21;replace F:=frR F R23;replace R23:=rdR R23
     have L24:=lsK F [q3.top,q15.1.top,q18.top,q23.1.top] (g:=u.heap.size) (by simp [st6,World.setCell]) rfl rfl
     replace F:=frA F (.cells #[.int .i64 (q3.top),.int .i64 (q15.1.top),.int .i64 (q18.top),.int .i64 (q23.1.top)] 3);replace R23:=rdA R23 (.cells #[.int .i64 (q3.top),.int .i64 (q15.1.top),.int .i64 (q18.top),.int .i64 (q23.1.top)] 3)
     replace H:=aln H;obtain ⟨q25,h25,rfl⟩:=H
     go_wp2_with (go_at_call 40;refine (adC F R23 L24 17 0 0 _ ⟨#[]⟩ rfl rfl rfl h25).mono ?_)
     rintro e u ⟨_,_,_,_,_,_,_,_,rfl,R25,b⟩;replace F:=frC F b;clear R23;clear L24;clear b
     replace c:=F.all
     replace F:=frS F R25;replace R25:=rdS R25
     go_wp2
     refine R25.fin F ?_ rfl
     simp [results,Tryz.results210,go_sem,st6,c]
end
section
open Go.RowKit
open Tk (T4 bstr)
theorem kind_true (E:Nat):FnK E 78 #[.bool true] (kindR E true):=by
 intro A w r v hA h
 obtain ⟨_,_,_,_,_,_,_,_,rfl⟩:=h.parts
 have F:=frN hA h;have R0:=rdN h
 clear hA h
 go_enter Tryz.func78,Tryz.ntmps78
 by_cases i2:isR E [105,110,116] r=true
 ·skip
  go_wp2_with (go_at_call 69;refine (isC R0 ⟨#[105,110,116]⟩ i2).mono ?_)
  rintro e u ⟨rfl,b⟩;replace F:=frC F b;replace R0:=rdC R0 b;clear b
  have c:=F.all
  go_wp2_with (go_at_call 70;refine (skC R0).mono ?_)
  rintro e u ⟨_,_,_,_,_,_,_,_,rfl,R4,b⟩;replace F:=frC F b;replace R0:=rdC R0 b;clear b
  replace c:=F.all
  clear R0;replace F:=frR F R4;replace R4:=rdR R4
  by_cases i6:isR E [42] (skipR r)=true
  ·skip
   go_wp2_with (go_at_call 69;refine (isC R4 ⟨#[42]⟩ i6).mono ?_)
   rintro e u ⟨rfl,b⟩;replace F:=frC F b;replace R4:=rdC R4 b;clear b
   replace c:=F.all
   go_wp2_with (go_at_call 70;refine (skC R4).mono ?_)
   rintro e u ⟨_,_,_,_,_,_,_,_,rfl,R8,b⟩;replace F:=frC F b;replace R4:=rdC R4 b;clear b
   replace c:=F.all
   replace R4:=rdSo R4 R8;replace F:=frS F R8;replace R8:=rdS R8
   go_wp2
   have hk:kindR E true r=((skipR (skipR r)),2):=by simp [kindR,i2,i6]
   rw [hk]
   refine finK R8 F ?_ rfl
   simp [results,Tryz.results78,go_sem,st6,c]
  ·skip
   replace i6:=bfalse i6
   go_wp2_with (go_at_call 69;refine (isC R4 ⟨#[42]⟩ i6).mono ?_)
   rintro e u ⟨rfl,b⟩;replace F:=frC F b;replace R4:=rdC R4 b;clear b
   replace c:=F.all
   replace F:=frS F R4;replace R4:=rdS R4
   go_wp2
   have hk:kindR E true r=((skipR r),1):=by simp [kindR,i2,i6]
   rw [hk]
   refine finK R4 F ?_ rfl
   simp [results,Tryz.results78,go_sem,st6,c]
 ·skip
  replace i2:=bfalse i2
  go_wp2_with (go_at_call 69;refine (isC R0 ⟨#[105,110,116]⟩ i2).mono ?_)
  rintro e u ⟨rfl,b⟩;replace F:=frC F b;replace R0:=rdC R0 b;clear b
  have c:=F.all
  by_cases i5:isR E [118,111,105,100] r=true
  ·skip
   go_wp2_with (go_at_call 69;refine (isC R0 ⟨#[118,111,105,100]⟩ i5).mono ?_)
   rintro e u ⟨rfl,b⟩;replace F:=frC F b;replace R0:=rdC R0 b;clear b
   replace c:=F.all
   go_wp2_with (go_at_call 70;refine (skC R0).mono ?_)
   rintro e u ⟨_,_,_,_,_,_,_,_,rfl,R7,b⟩;replace F:=frC F b;replace R0:=rdC R0 b;clear b
   replace c:=F.all
   replace R0:=rdSo R0 R7;replace F:=frS F R7;replace R7:=rdS R7
   go_wp2
   have hk:kindR E true r=((skipR r),0):=by simp [kindR,i2,i5]
   rw [hk]
   refine finK R7 F ?_ rfl
   simp [results,Tryz.results78,go_sem,st6,c]
  ·skip
   replace i5:=bfalse i5
   go_wp2_with (go_at_call 69;refine (isC R0 ⟨#[118,111,105,100]⟩ i5).mono ?_)
   rintro e u ⟨rfl,b⟩;replace F:=frC F b;replace R0:=rdC R0 b;clear b
   replace c:=F.all
   go_wp2_with (go_at_call 74;refine (stC R0 1).mono ?_)
   rintro e u ⟨_,_,_,_,_,_,_,_,rfl,R7,b⟩;replace F:=frC F b;clear R0;clear b
   replace c:=F.all
   replace F:=frS F R7;replace R7:=rdS R7
   go_wp2
   have hk:kindR E true r=((stopR E 1 r),(-1)):=by simp [kindR,i2,i5]
   rw [hk]
   refine finK R7 F ?_ rfl
   simp [results,Tryz.results78,go_sem,st6,c]
theorem kind_false (E:Nat):FnK E 78 #[.bool false] (kindR E false):=by
 intro A w r v hA h
 obtain ⟨_,_,_,_,_,_,_,_,rfl⟩:=h.parts
 have F:=frN hA h;have R0:=rdN h
 clear hA h
 go_enter Tryz.func78,Tryz.ntmps78
 by_cases i2:isR E [105,110,116] r=true
 ·skip
  go_wp2_with (go_at_call 69;refine (isC R0 ⟨#[105,110,116]⟩ i2).mono ?_)
  rintro e u ⟨rfl,b⟩;replace F:=frC F b;replace R0:=rdC R0 b;clear b
  have c:=F.all
  go_wp2_with (go_at_call 70;refine (skC R0).mono ?_)
  rintro e u ⟨_,_,_,_,_,_,_,_,rfl,R4,b⟩;replace F:=frC F b;replace R0:=rdC R0 b;clear b
  replace c:=F.all
  clear R0;replace F:=frR F R4;replace R4:=rdR R4
  by_cases i6:isR E [42] (skipR r)=true
  ·skip
   go_wp2_with (go_at_call 69;refine (isC R4 ⟨#[42]⟩ i6).mono ?_)
   rintro e u ⟨rfl,b⟩;replace F:=frC F b;replace R4:=rdC R4 b;clear b
   replace c:=F.all
   go_wp2_with (go_at_call 70;refine (skC R4).mono ?_)
   rintro e u ⟨_,_,_,_,_,_,_,_,rfl,R8,b⟩;replace F:=frC F b;replace R4:=rdC R4 b;clear b
   replace c:=F.all
   replace R4:=rdSo R4 R8;replace F:=frS F R8;replace R8:=rdS R8
   go_wp2
   have hk:kindR E false r=((skipR (skipR r)),2):=by simp [kindR,i2,i6]
   rw [hk]
   refine finK R8 F ?_ rfl
   simp [results,Tryz.results78,go_sem,st6,c]
  ·skip
   replace i6:=bfalse i6
   go_wp2_with (go_at_call 69;refine (isC R4 ⟨#[42]⟩ i6).mono ?_)
   rintro e u ⟨rfl,b⟩;replace F:=frC F b;replace R4:=rdC R4 b;clear b
   replace c:=F.all
   replace F:=frS F R4;replace R4:=rdS R4
   go_wp2
   have hk:kindR E false r=((skipR r),1):=by simp [kindR,i2,i6]
   rw [hk]
   refine finK R4 F ?_ rfl
   simp [results,Tryz.results78,go_sem,st6,c]
 ·skip
  replace i2:=bfalse i2
  go_wp2_with (go_at_call 69;refine (isC R0 ⟨#[105,110,116]⟩ i2).mono ?_)
  rintro e u ⟨rfl,b⟩;replace F:=frC F b;replace R0:=rdC R0 b;clear b
  have c:=F.all
  go_wp2_with (go_at_call 74;refine (stC R0 1).mono ?_)
  rintro e u ⟨_,_,_,_,_,_,_,_,rfl,R4,b⟩;replace F:=frC F b;clear R0;clear b
  replace c:=F.all
  replace F:=frS F R4;replace R4:=rdS R4
  go_wp2
  have hk:kindR E false r=((stopR E 1 r),(-1)):=by simp [kindR,i2]
  rw [hk]
  refine finK R4 F ?_ rfl
  simp [results,Tryz.results78,go_sem,st6,c]
end
section
open Go.RowKit
open Tk (T4 bstr)
theorem finN {E g:Nat}{A:Nat→Prop}{w W:World}{cr cs:Array Value}{r q:Rs}{v:Value}{fn:Func}{a:Act}{k y t:Int}{x:ByteArray}(R:Rd E (Ad A g) w W q v) (F:Fr (Ad A g) w W cr cs) (T:Hid (TokIs E r k x y t)) (hr:(results fn a.tmps).run Tryz.prog W=.ok (.tuple #[v,.agg #[.int .i64 k,.string x,.int .i64 y,.int .i64 t]]) W) (hd:a.defers=[]):bodyPost Tryz.prog fn (NaP E A w r q) .ret a W:=by
 refine bodyPost_ret hr hd ?_
 have h:=Two.off (rdOff R).out
 obtain ⟨pn,ln,cn,pl,ll,cl,c,a,rfl⟩:=h.parts
 exact ⟨pn,ln,cn,pl,ll,cl,c,a,k,x,y,t,rfl,h,T,F.x⟩
theorem name_R (E:Nat):FnN E 79:=by
 intro A w r v hA h
 obtain ⟨_,_,_,_,_,_,_,_,rfl⟩:=h.parts
 have F:=frN3 hA h (.cells #[.int .i64 0,.string ⟨#[]⟩,.int .i64 0,.int .i64 0] 82);have R0:=rdN3 h (.cells #[.int .i64 0,.string ⟨#[]⟩,.int .i64 0,.int .i64 0] 82);have B0:=tbN3 h #[.int .i64 0,.string ⟨#[]⟩,.int .i64 0,.int .i64 0] 82
 have NG:w.heap.size+1<w.heap.size+1+1:=Nat.lt_succ_self _
 clear hA h
 go_enter Tryz.func79,Tryz.ntmps79
 go_wp2_with (go_at_call 68;refine (pkC R0).mono ?_)
 rintro e u ⟨k1,x1,y1,t1,rfl,T1,b⟩;replace F:=frC F b;replace B0:=tbC B0 b;replace R0:=rdC R0 b;clear b
 have c:=F.all;have cB0:=B0.all;have fB0:=B0.frz4
 have M2B0:=B0.ltE (h:=u.heap.size) (by simp [st6,World.setCell])
 have B2:=tbNe (g:=u.heap.size) F k1 y1 t1 x1 (by simp [st6,World.setCell]);have N2:=B2.n
 replace F:=frA F (.cells #[.int .i64 k1,.string x1,.int .i64 y1,.int .i64 t1] 82);replace B0:=tbA B0 (.cells #[.int .i64 k1,.string x1,.int .i64 y1,.int .i64 t1] 82);replace R0:=rdA R0 (.cells #[.int .i64 k1,.string x1,.int .i64 y1,.int .i64 t1] 82)
 by_cases i3:(pk E r.L).k=1
 ·skip
  have k3q:=kdT T1 (z:=1) rfl i3
  go_wp2
  replace F:=frD F;replace B0:=tbD B0;replace B2:=tbD B2;replace R0:=rdD R0
  refine rg 4 (S:=fun W=>Q6 _ _ _ _ _ _ _ W∧Q4 _ _ _ _ _ W) ⟨F.held,B2.held⟩ fun hW=>?_
  refine tks hW [0,2] (n:=3) (by kernel_rfl) ?_
  iterate 2 (refine ⟨?_,_,rfl,rfl,fun W hW=>?_,?_⟩;rotate_left;· (simp only [Q6,Q4] at hW;go_simp;(try with_reducible rfl)))
  refine rdy 1 (by kernel_rfl) rfl fun K hK=>?_
  go_simp
  refine (skC R0).mono ?_
  rintro e u ⟨_,_,_,_,_,_,_,_,rfl,R4,b⟩;replace F:=frC F b;clear R0;replace B0:=tbC B0 b;replace B2:=tbC B2 b;clear b
  replace c:=F.all;replace cB0:=B0.all;replace fB0:=B0.frz4;have cB2:=B2.all
  (try go_wp2_with fail)
  refine hK.out _ _ ⟨F.held,B2.held⟩ fun hW=>?_
  clear hK K
  refine rdy 3 (by kernel_rfl) rfl fun K hK=>?_
  go_simp
  replace B0:=tbS B0 R4;replace B2:=tbS B2 R4;replace F:=frS F R4;replace R4:=rdS R4
  refine hK.out _ _ ⟨F.held,B2.held⟩ fun hW=>?_
  clear hK K
  refine rdl (by kernel_rfl) (by kernel_rfl) rfl fun K hK=>?_
  go_simp
  replace B2:=tbMo (g:=w.heap.size+1+1) (tbMo (g:=w.heap.size+1+1) (tbMo (g:=w.heap.size+1+1) (tbMo (g:=w.heap.size+1+1) B2 (by omega) 0 (.int .i64 k1)) (by omega) 1 (.string x1)) (by omega) 2 (.int .i64 y1)) (by omega) 3 (.int .i64 t1);replace B0:=tbM4 B0 (.int .i64 k1) (.string x1) (.int .i64 y1) (.int .i64 t1);replace F:=frM (frM (frM (frM F NG 0 (.int .i64 k1)) NG 1 (.string x1)) NG 2 (.int .i64 y1)) NG 3 (.int .i64 t1);replace R4:=rdM (rdM (rdM (rdM R4 0 (.int .i64 k1)) 1 (.string x1)) 2 (.int .i64 y1)) 3 (.int .i64 t1)
  refine hK.out _ _ ?_
  clear hK K
  go_wp2
  have hn:(nameR E r).1=(skipR r):=by unfold nameR;rw [if_pos i3]
  rw [hn]
  refine finN R4 F T1 ?_ rfl
  simp [results,Tryz.results79,go_sem,st6,c,cB0]
 ·skip
  have k3q:=kdF T1 (z:=1) rfl i3
  go_wp2
  replace F:=frD F;replace B0:=tbD B0;replace B2:=tbD B2;replace R0:=rdD R0
  refine rg 4 (S:=fun W=>Q6 _ _ _ _ _ _ _ W∧Q4 _ _ _ _ _ W) ⟨F.held,B2.held⟩ fun hW=>?_
  refine tks hW [0,2] (n:=3) (by kernel_rfl) ?_
  iterate 2 (refine ⟨?_,_,rfl,rfl,fun W hW=>?_,?_⟩;rotate_left;· (simp only [Q6,Q4] at hW;go_simp;(try with_reducible rfl)))
  refine rdy 1 (by kernel_rfl) rfl fun K hK=>?_
  go_simp
  refine (stC R0 1).mono ?_
  rintro e u ⟨_,_,_,_,_,_,_,_,rfl,R4,b⟩;replace F:=frC F b;replace B0:=tbC B0 b;replace B2:=tbC B2 b;replace R0:=rdC R0 b;clear b
  replace c:=F.all;replace cB0:=B0.all;replace fB0:=B0.frz4;have cB2:=B2.all
  (try go_wp2_with fail)
  refine hK.out _ _ ⟨F.held,B2.held⟩ fun hW=>?_
  clear hK K
  refine rdy 3 (by kernel_rfl) rfl fun K hK=>?_
  go_simp
  replace B0:=tbS B0 R4;replace B2:=tbS B2 R4;replace R0:=rdSo R0 R4;replace F:=frS F R4;replace R4:=rdS R4
  refine hK.out _ _ ⟨F.held,B2.held⟩ fun hW=>?_
  clear hK K
  refine rdl (by kernel_rfl) (by kernel_rfl) rfl fun K hK=>?_
  go_simp
  replace B2:=tbMo (g:=w.heap.size+1+1) (tbMo (g:=w.heap.size+1+1) (tbMo (g:=w.heap.size+1+1) (tbMo (g:=w.heap.size+1+1) B2 (by omega) 0 (.int .i64 k1)) (by omega) 1 (.string x1)) (by omega) 2 (.int .i64 y1)) (by omega) 3 (.int .i64 t1);replace B0:=tbM4 B0 (.int .i64 k1) (.string x1) (.int .i64 y1) (.int .i64 t1);replace F:=frM (frM (frM (frM F NG 0 (.int .i64 k1)) NG 1 (.string x1)) NG 2 (.int .i64 y1)) NG 3 (.int .i64 t1);replace R0:=rdM (rdM (rdM (rdM R0 0 (.int .i64 k1)) 1 (.string x1)) 2 (.int .i64 y1)) 3 (.int .i64 t1);replace R4:=rdM (rdM (rdM (rdM R4 0 (.int .i64 k1)) 1 (.string x1)) 2 (.int .i64 y1)) 3 (.int .i64 t1)
  refine hK.out _ _ ?_
  clear hK K
  go_wp2
  have hn:(nameR E r).1=(stopR E 1 r):=by unfold nameR;rw [if_neg i3]
  rw [hn]
  refine finN R4 F T1 ?_ rfl
  simp [results,Tryz.results79,go_sem,st6,c,cB0]
end
section
open Go.RowKit
structure FJ (E n:Nat):Prop where
 expr:FnB E 34 #[] (runR E n .expr)
 level:∀ low:Int,0≤low→FnB E 67 #[.int .i64 low] (runR E n (.level low.toNat))
 ahead:FnB E 119 #[] (runR E n .ahead)
 behind:FnB E 167 #[] (runR E n .behind)
 first:FnB E 202 #[] (runR E n .first)
 list:∀ s:ByteArray,FnL E 81 #[.string s] (runR E n (.list s.data.toList))
theorem fj_all (E:Nat):∀ n,FJ E n:=by
 intro n
 induction n using Nat.strongRecOn with
 | _ n ih =>
  cases n with
  | zero=>exact ⟨fun _ _ _ _ _ _ _ hf=>by (cases hf),fun _ _ _ _ _ _ _ _ _ hf=>by (cases hf),fun _ _ _ _ _ _ _ hf=>by (cases hf),fun _ _ _ _ _ _ _ hf=>by (cases hf),fun _ _ _ _ _ _ _ hf=>by (cases hf),fun _ _ _ _ _ _ _ _ hf=>by (cases hf)⟩
  | succ n =>
   have h:=ih n (Nat.lt_succ_self n)
   exact ⟨rexpr_step h.level h.expr,fun low hlo=>level_step h.ahead (fun m hm=>(ih m (by omega)).level) low hlo,ahead_step h.ahead h.behind,
    behind_step h.first fun m hm=>(ih m (by omega)).expr,first_step (h.list ⟨#[41]⟩) h.expr,fun s=>list_step s fun m hm=>(ih m (by omega)).expr⟩
end
end Go.Proofs.YtbjacclfhgnffaaGreatDoor
