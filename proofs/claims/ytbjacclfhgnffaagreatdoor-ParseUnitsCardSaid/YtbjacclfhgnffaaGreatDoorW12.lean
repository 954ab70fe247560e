/-
  Joined texts of this claim: TrH, TrI, TrJ, TrK, TrL, TrM, TrU, TrV, TrW.
-/
import Derived.Test.YtbjacclfhgnffaaGreatDoorW00
import Derived.Test.YtbjacclfhgnffaaGreatDoorW11
import Derived.StillTailTactics
import Derived.Outline
import Derived.IntWalk
import Derived.Laws.OwnMore
import Derived.Laws.MakeOwn
import Derived.Laws.Rows
import Derived.Deep.Draws
set_option maxHeartbeats 40000000
set_option maxRecDepth 100000
set_option linter.unusedVariables false
set_option linter.unusedSimpArgs false
namespace Go.Proofs.YtbjacclfhgnffaaGreatDoor
section
namespace Tr
open Go.RowKit
def KidsAt (w:World) (p:Option Addr) (c:List Int):Prop :=
 0<c.length→∃ b o,p=some ⟨b,o,none⟩∧b<w.heap.size∧∀ j,(h:j<c.length)→w.cell? ⟨b,o+j,none⟩=some (.int .i64 c[j])
def NodeAt (w:World) (b o:Nat) (x:Nd):Prop :=
 w.cell? ⟨b,o,none⟩=some (.int .i64 x.k)∧w.cell? ⟨b,o+1,none⟩=some (.string x.t)∧w.cell? ⟨b,o+2,none⟩=some (.int .i64 x.n) ∧
 w.cell? ⟨b,o+3,none⟩=some (.int .i64 x.z)∧w.cell? ⟨b,o+4,none⟩=some (.slice x.p x.c.length x.cap)∧w.cell? ⟨b,o+5,none⟩=some (.int .i64 x.a)
def Tr (w:World) (p:Option Addr) (l:List Nd):Prop :=
 (0<l.length→∃ b o,p=some ⟨b,o,none⟩∧b<w.heap.size∧∀ i,(h:i<l.length)→NodeAt w b (o+i * 6) l[i])∧∀ i,(h:i<l.length)→KidsAt w l[i].p l[i].c
theorem KidsAt.below {w w':World}{p:Option Addr}{c:List Int}(h:KidsAt w p c) (hb:Below w.heap.size w w'):KidsAt w' p c:=fun h0=>by
 obtain ⟨b,o,rfl,hl,hc⟩:=h h0
 exact ⟨b,o,rfl,Nat.lt_of_lt_of_le hl hb.size,fun j hj=>(hb.cell (p:=⟨b,o+j,none⟩) hl).trans (hc j hj)⟩
theorem NodeAt.below {w w':World}{b o:Nat}{x:Nd}(h:NodeAt w b o x) (hb:Below w.heap.size w w') (hl:b<w.heap.size):NodeAt w' b o x:=by
 obtain ⟨h0,h1,h2,h3,h4,h5⟩:=h
 exact ⟨(hb.cell (p:=⟨b,o,none⟩) hl).trans h0,(hb.cell (p:=⟨b,o+1,none⟩) hl).trans h1,(hb.cell (p:=⟨b,o+2,none⟩) hl).trans h2,(hb.cell (p:=⟨b,o+3,none⟩) hl).trans h3,(hb.cell (p:=⟨b,o+4,none⟩) hl).trans h4,(hb.cell (p:=⟨b,o+5,none⟩) hl).trans h5⟩
theorem Tr.below {w w':World}{p:Option Addr}{l:List Nd}(h:Tr w p l) (hb:Below w.heap.size w w'):Tr w' p l :=
 ⟨fun h0=>by
  obtain ⟨b,o,rfl,hl,hc⟩:=h.1 h0
  exact ⟨b,o,rfl,Nat.lt_of_lt_of_le hl hb.size,fun i hi=>(hc i hi).below hb hl⟩,fun i hi=>(h.2 i hi).below hb⟩
theorem lt_of_block {w:World}{g:Nat}{o:Obj}(h:w.heap[g]? = some o):g<w.heap.size:=by
 rcases Nat.lt_or_ge g w.heap.size with hlt | hge
 ·exact hlt
 ·rw [Array.getElem?_eq_none hge] at h;cases h
def BgPost (l:List Nd) (i:Nat) (w:World) (e:Ending) (w':World):Prop :=
 Below w.heap.size w w'∧((codeAt l i=0∧e=.returned (.tuple #[.int .i64 (St l i),.int .i64 0]))∨(codeAt l i≠0∧e=.returned (.tuple #[.int .i64 0,.int .i64 (codeAt l i)])))
theorem begin_kind (x:Nd) (i b o cap B cnt:Nat) (w:World) (hi:i<600) (hN:NodeAt w b (o+i * 6) x) (hk:kindB x.k=false) :
  Calls Tryz.prog 83 #[.slice (some ⟨b,o,none⟩) (i+1) cap,.slice (some ⟨B,0,none⟩) cnt cnt] w fun e w'=>e=.returned (.tuple #[.int .i64 0,.int .i64 4])∧Below w.heap.size w w':=by
 obtain ⟨k,t,n,z,p,kc,c,a⟩:=x
 obtain ⟨c0,c1,c2,c3,c4,c5⟩:=hN
 simp only at c0 c1 c2 c3 c4 c5 hk
 go_enter Tryz.func83,Tryz.ntmps83
 go_wp2_with (first | (go_at_call 125;refine (kind_any _ _).mono ?_;rintro e w' ⟨rfl,rfl⟩))
 go_ret2
 exact ⟨rfl,(Below.refl _ _).alloc (Nat.le_refl _) _⟩
theorem begin_size (x:Nd) (i b o cap B cnt:Nat) (w:World) (hi:i<600) (hN:NodeAt w b (o+i * 6) x) (hk:kindB x.k=true) (hs:(x.c.length:Int)<lowV x.k∨highV 9223372036854775807 x.k<x.c.length) :
  Calls Tryz.prog 83 #[.slice (some ⟨b,o,none⟩) (i+1) cap,.slice (some ⟨B,0,none⟩) cnt cnt] w fun e w'=>e=.returned (.tuple #[.int .i64 0,.int .i64 9])∧Below w.heap.size w w':=by
 obtain ⟨k,t,n,z,p,kc,c,a⟩:=x
 obtain ⟨c0,c1,c2,c3,c4,c5⟩:=hN
 simp only at c0 c1 c2 c3 c4 c5 hk hs
 generalize c.length=m at *
 by_cases h1:(m:Int)<lowV k
 ·clear hs
  go_enter Tryz.func83,Tryz.ntmps83
  go_wp2_with (first | (go_at_call 125;refine (kind_any _ _).mono ?_;rintro e w' ⟨rfl,rfl⟩) | (go_at_call 126;refine (sizes_any _ _).mono ?_;rintro e w' ⟨rfl,rfl⟩))
  go_ret2
  exact ⟨rfl,(Below.refl _ _).alloc (Nat.le_refl _) _⟩
 ·have h2:highV 9223372036854775807 k<m:=by rcases hs with h | h;exact absurd h h1;exact h
  clear hs
  go_enter Tryz.func83,Tryz.ntmps83
  go_wp2_with (first | (go_at_call 125;refine (kind_any _ _).mono ?_;rintro e w' ⟨rfl,rfl⟩) | (go_at_call 126;refine (sizes_any _ _).mono ?_;rintro e w' ⟨rfl,rfl⟩))
  go_ret2
  exact ⟨rfl,(Below.refl _ _).alloc (Nat.le_refl _) _⟩
end Tr
end
section
namespace Tr
open Go.RowKit
def BgMain (l:List Nd) (i:Nat) (x:Nd) (w:World) (e:Ending) (w':World):Prop :=
 Below w.heap.size w w'∧((wayOf l i=none∧e=.returned (.tuple #[.int .i64 0,.int .i64 5]))∨(wayOf l i≠none∧((fieldC x≠0∧e=.returned (.tuple #[.int .i64 0,.int .i64 (fieldC x)]))∨(fieldC x=0∧e=.returned (.tuple #[.int .i64 (St l i),.int .i64 0])))))
theorem walk_zero {S:Nat→Nat}{kd:Nat→Int}{k:Int}{c:List Int}{j:Nat}:walkK S kd k c (j+1) 0=none:=by rw [walkK,if_pos (Or.inl rfl)]
theorem walk_far {S:Nat→Nat}{kd:Nat→Int}{k:Int}{c:List Int}{j q:Nat}(h:c.getD j 0≠(q:Int)):walkK S kd k c (j+1) (q+1)=none:=by rw [walkK,if_pos (Or.inr (Or.inl (by omega)))]
theorem walk_bad {S:Nat→Nat}{kd:Nat→Int}{k:Int}{c:List Int}{j q:Nat}(h:goB k j c.length (kd q)=false):walkK S kd k c (j+1) (q+1)=none:=by
 rw [walkK];exact if_pos (Or.inr (Or.inr h))
theorem walk_on {S:Nat→Nat}{kd:Nat→Int}{k:Int}{c:List Int}{j q:Nat}(h:c.getD j 0=(q:Int)) (h2:goB k j c.length (kd q)=true):walkK S kd k c (j+1) (q+1)=walkK S kd k c j (S q):=by
 rw [walkK,if_neg (by rintro (h' | h' | h');omega;exact h' (by omega);rw [show q+1-1=q from rfl,h2] at h';cases h')];rfl
theorem begin_main (l:List Nd) (i:Nat) (hi:i<l.length) (x:Nd) (hx:x=l[i]) (b o cap B cnt:Nat) (w:World) (hl:l.length≤600) (hb:b<w.heap.size) (hN:∀ j,(h:j<l.length)→NodeAt w b (o+j * 6) l[j]) (hK:KidsAt w x.p x.c) (hB:B<w.heap.size) (hcnt:i≤cnt)
  (hF:∀ j,j<i→w.cell? ⟨B,j,none⟩=some (.int .i64 (St l j))) (hm:x.c.length≤1000000000000000000) (hk:kindB x.k=true)
  (hs1:¬ (x.c.length:Int)<lowV x.k) (hs2:¬ highV 9223372036854775807 x.k<x.c.length) :
  Calls Tryz.prog 83 #[.slice (some ⟨b,o,none⟩) (i+1) cap,.slice (some ⟨B,0,none⟩) cnt cnt] w (BgMain l i x w):=by
 have hWay:wayOf l i=walkK (St l) (kindAt l) x.k x.c x.c.length i:=by unfold wayOf;rw [kindAt_get hi,kidsAt_get hi,hx]
 have hNi:=hN i hi
 rw [← hx] at hNi
 have HWay:=Lib.hid hWay
 have HN:=Lib.hid hN
 have HF:=Lib.hid hF
 have HK:=Lib.hid hK
 clear hWay hN hF hK hx
 obtain ⟨x',hx'⟩:=exE (x)
 have hfc:fieldC x=fieldV x.k x.t x.n x.z x.c.length x.a:=rfl
 unfold BgMain
 rw [hfc]
 clear hfc
 obtain ⟨k,t,n,z,p,kc,c,a⟩:=x
 obtain ⟨c0,c1,c2,c3,c4,c5⟩:=hNi
 simp only at c0 c1 c2 c3 c4 c5 hk hs1 hs2 HWay HK hm ⊢
 clear hx' x'
 obtain ⟨m,hmc⟩:=exE (c.length)
 rw [← hmc] at c4 hs1 hs2 hm HWay ⊢
 have HM:=Lib.hid hmc
 clear hmc
 obtain ⟨Q,hQ⟩ : ∃ Q:Ending→World→Prop,Q=fun e w'=>Below w.heap.size w w'∧((wayOf l i=none∧e=.returned (.tuple #[.int .i64 0,.int .i64 5]))∨(wayOf l i≠none∧((fieldV k t n z m a≠0∧e=.returned (.tuple #[.int .i64 0,.int .i64 (fieldV k t n z m a)]))∨(fieldV k t n z m a=0∧e=.returned (.tuple #[.int .i64 (St l i),.int .i64 0]))))):=⟨_,rfl⟩
 have HQ:=Lib.hid hQ
 rw [← hQ]
 clear hQ
 go_enter Tryz.func83,Tryz.ntmps83
 go_wp2_with (first | (go_at_call 125;refine (kind_any _ _).mono ?_;rintro e w' ⟨rfl,rfl⟩) | (go_at_call 126;refine (sizes_any _ _).mono ?_;rintro e w' ⟨rfl,rfl⟩))
 go_loopw [4,9] (fun vs vi wr=>∃ (j at_:Nat) (q:Int),j≤m∧(j:Int)=q+1∧vi=.int .i64 q∧vs=.int .i64 (at_:Nat)∧at_≤i∧Hid (wayOf l i=walkK (St l) (kindAt l) k c j at_) ∧
   Below (w.alloc (.cells #[.int .i64 k,.string t,.int .i64 n,.int .i64 z,.slice p m kc,.int .i64 a] 36)).heap.size (w.alloc (.cells #[.int .i64 k,.string t,.int .i64 n,.int .i64 z,.slice p m kc,.int .i64 a] 36)) wr)
  (fun _ vi _=>(intOf vi+1).toNat)
 case atStart=>exact ⟨m,i,(m:Int)-1,Nat.le_refl _,by omega,rfl,rfl,Nat.le_refl _,HWay.out,Below.refl _ _⟩
 case round =>
  obtain ⟨j,at_,q,hj,hjq,rfl,rfl,hat,HV,hbr⟩:=hrel
  obtain ⟨d0,d1,d2,d3,d4,d5,lr⟩:=box_node hbr
  have hbw:Below w.heap.size w wr:=((Below.refl _ _).alloc (Nat.le_refl _) _).trans (hbr.mono (by simp))
  have HB:=Lib.hid hbw
  have HBR:=Lib.hid hbr
  clear hbw hbr HWay
  rcases Nat.eq_zero_or_pos j with hj0 | hjp
  ·obtain rfl:q = -1:=by omega
   subst hj0
   have hw:wayOf l i=some at_:=HV.out
   have HS:Hid (St l i=at_):=by show St l i=at_;rw [St_eq,hw];rfl
   have HW:Hid (wayOf l i≠none):=by show wayOf l i≠none;rw [hw];simp
   clear hw HV
   have hfi:=fields_any k t n z p m kc a wr hm
   generalize hfv:fieldV k t n z m a=v at *
   clear hfv
   by_cases hv:v=0
   ·subst hv
    go_wp2_with (go_at_call 128;refine hfi.mono ?_)
    first | rintro e w3 rfl hb3 | rintro e w3 ⟨rfl,hb3⟩
    have HB3:=Lib.hid (HB.out.trans (hb3.mono (Nat.le_of_lt lr)))
    clear hb3
    go_wp2
    rw [HQ.out]
    exact ⟨HB3.out,Or.inr ⟨HW.out,Or.inr ⟨by simp,by rw [HS.out];rfl⟩⟩⟩
   ·have hv1:(v != 0)=true:=by simpa using hv
    have hv2:(v == 0)=false:=by simpa using hv
    have HV0:=Lib.hid hv
    clear hv
    go_wp2_with (go_at_call 128;refine hfi.mono ?_)
    first | rintro e w3 rfl hb3 | rintro e w3 ⟨rfl,hb3⟩
    have HB3:=Lib.hid (HB.out.trans (hb3.mono (Nat.le_of_lt lr)))
    clear hb3
    go_wp2
    rw [HQ.out]
    exact ⟨HB3.out,Or.inr ⟨HW.out,Or.inl ⟨by simpa using HV0.out,rfl⟩⟩⟩
  ·obtain ⟨j',rfl⟩ : ∃ j',j=j' + 1:=⟨j-1,by omega⟩
   obtain rfl:q=(j':Int):=by omega
   clear hjq hjp
   have hjc:j' < c.length:=by have:=HM.out;omega
   obtain ⟨kb,ko,rfl,hkb,hkc⟩:=HK.out (by omega)
   have ck:=(HB.out.cell (p:=⟨kb,ko+j',none⟩) hkb).trans (hkc j' hjc)
   have hgd:c.getD j' 0=c[j']:=by simp [hjc]
   clear hkc
   rcases Nat.eq_zero_or_pos at_ with ha0 | hap
   ·subst ha0
    have HW:Hid (wayOf l i=none):=HV.out.trans walk_zero
    clear HV
    have h0:decide ((0:Int)=0)=true:=by decide
    generalize c[j']=kid at *
    clear hgd
    go_wp2
    go_quiet (fail)
    go_wp2
    rw [HQ.out]
    exact ⟨below_drewN HB.out _,Or.inl ⟨HW.out,rfl⟩⟩
   ·obtain ⟨q,rfl⟩ : ∃ q,at_=q+1:=⟨at_-1,by omega⟩
    obtain ⟨A,hA⟩ : ∃ A:Int,A=((q+1:Nat):Int):=⟨_,rfl⟩
    rw [← hA]
    have e1:(A == 0)=false:=by rw [beq_eq_false_iff_ne];omega
    have e2:IntKind.i64.wrap (q:Int)=(q:Int):=IntWalk.i64_in _ (by omega)
    have e3:A-1=(q:Int):=by omega
    clear hA
    by_cases he:c[j']=(q:Int)
    ·have hql:q<l.length:=by omega
     have hN0:=(HN.out q hql).below HB.out hb
     have n0:=hN0.1
     have hkq:l[q].k=kindAt l q:=(kindAt_get hql).symm
     rw [hkq] at n0
     rw [he] at ck hgd
     have HS:=(HB.out.cell (p:=⟨B,q,none⟩) hB).trans (HF.out q (by omega))
     have hbad:goB k (j':Int) (m:Int) (kindAt l q)=false→Hid (wayOf l i=none):=fun h=>HV.out.trans (walk_bad (by rw [HM.out] at h;exact h))
     have hgood:goB k (j':Int) (m:Int) (kindAt l q)=true→Hid (wayOf l i=walkK (St l) (kindAt l) k c j' (St l q)):=fun h=>HV.out.trans (walk_on hgd (by rw [HM.out] at h;exact h))
     have hsl:=St_le l q
     clear hgd hkq hN0 HV he
     generalize kindAt l q=kd at *
     generalize St l q=sq at *
     have hBw:B<w.heap.size:=hB
     cases hg:goB k (j':Int) (m:Int) kd with
     | false =>
      have HW:=hbad hg
      clear hbad hgood
      go_wp2
      refine wp_region_still_tail 16 (by kernel_rfl) (by kernel_rfl) ?_
      change wpStill Tryz.prog _ wr.drew (fun a'=>wpList Tryz.prog _ _ _ a' wr.drew) _ _
      have g0:wr.drew.cell? ⟨w.heap.size,0,none⟩=some (.int .i64 k):=d0
      have g1:wr.drew.cell? ⟨w.heap.size,1,none⟩=some (.string t):=d1
      have g2:wr.drew.cell? ⟨w.heap.size,2,none⟩=some (.int .i64 n):=d2
      have g3:wr.drew.cell? ⟨w.heap.size,3,none⟩=some (.int .i64 z):=d3
      have g4:wr.drew.cell? ⟨w.heap.size,4,none⟩=some (.slice (some ⟨kb,ko,none⟩) m kc):=d4
      have g5:wr.drew.cell? ⟨w.heap.size,5,none⟩=some (.int .i64 a):=d5
      have g6:wr.drew.cell? ⟨b,o+q * 6,none⟩=some (.int .i64 kd):=n0
      have HBd:Hid (Below w.heap.size w wr.drew):=HB.out.drew
      have HBRd:Hid (Below (w.alloc (.cells #[.int .i64 k,.string t,.int .i64 n,.int .i64 z,.slice (some ⟨kb,ko,none⟩) m kc,.int .i64 a] 36)).heap.size (w.alloc (.cells #[.int .i64 k,.string t,.int .i64 n,.int .i64 z,.slice (some ⟨kb,ko,none⟩) m kc,.int .i64 a] 36)) wr.drew):=HBR.out.drew
      have HSd:wr.drew.cell? ⟨B,q,none⟩=some (.int .i64 sq):=HS
      have lrd:w.heap.size<wr.drew.heap.size:=lr
      clear d0 d1 d2 d3 d4 d5 n0 ck HB HBR HS lr
      generalize wr.drew=wd at *
      simp only [List.take_succ_cons,List.take_zero,List.drop_succ_cons,List.drop_zero]
      have hqi:(q:Int)<(i:Int)+1:=by omega
      repeat still_step
      refine wpStill_nil ?_
      clear hqi
      have htk:=takes_any k t n z (some ⟨kb,ko,none⟩) m kc a (j':Int) kd wd hm
      rw [hg] at htk
      have HG:=Lib.hid hg
      clear hg
      go_wp2_with (go_at_call 127;refine htk.mono ?_)
      first | rintro e w3 rfl hb3 | rintro e w3 ⟨rfl,hb3⟩
      have HB3:=Lib.hid (HBd.out.trans (hb3.mono (Nat.le_of_lt lrd)))
      have HBR3:=Lib.hid (HBRd.out.trans (hb3.mono (by simp;omega)))
      have c3:=(hb3.cell (p:=⟨B,q,none⟩) (Nat.lt_trans hBw lrd)).trans HSd
      clear hb3 htk g0 g1 g2 g3 g4 g5 g6 HSd
      go_wp2
      rw [HQ.out]
      exact ⟨HB3.out,Or.inl ⟨HW.out,rfl⟩⟩
     | true =>
      have HW:=hgood hg
      clear hbad hgood
      go_wp2
      refine wp_region_still_tail 16 (by kernel_rfl) (by kernel_rfl) ?_
      change wpStill Tryz.prog _ wr.drew (fun a'=>wpList Tryz.prog _ _ _ a' wr.drew) _ _
      have g0:wr.drew.cell? ⟨w.heap.size,0,none⟩=some (.int .i64 k):=d0
      have g1:wr.drew.cell? ⟨w.heap.size,1,none⟩=some (.string t):=d1
      have g2:wr.drew.cell? ⟨w.heap.size,2,none⟩=some (.int .i64 n):=d2
      have g3:wr.drew.cell? ⟨w.heap.size,3,none⟩=some (.int .i64 z):=d3
      have g4:wr.drew.cell? ⟨w.heap.size,4,none⟩=some (.slice (some ⟨kb,ko,none⟩) m kc):=d4
      have g5:wr.drew.cell? ⟨w.heap.size,5,none⟩=some (.int .i64 a):=d5
      have g6:wr.drew.cell? ⟨b,o+q * 6,none⟩=some (.int .i64 kd):=n0
      have HBd:Hid (Below w.heap.size w wr.drew):=HB.out.drew
      have HBRd:Hid (Below (w.alloc (.cells #[.int .i64 k,.string t,.int .i64 n,.int .i64 z,.slice (some ⟨kb,ko,none⟩) m kc,.int .i64 a] 36)).heap.size (w.alloc (.cells #[.int .i64 k,.string t,.int .i64 n,.int .i64 z,.slice (some ⟨kb,ko,none⟩) m kc,.int .i64 a] 36)) wr.drew):=HBR.out.drew
      have HSd:wr.drew.cell? ⟨B,q,none⟩=some (.int .i64 sq):=HS
      have lrd:w.heap.size<wr.drew.heap.size:=lr
      clear d0 d1 d2 d3 d4 d5 n0 ck HB HBR HS lr
      generalize wr.drew=wd at *
      simp only [List.take_succ_cons,List.take_zero,List.drop_succ_cons,List.drop_zero]
      have hqi:(q:Int)<(i:Int)+1:=by omega
      repeat still_step
      refine wpStill_nil ?_
      clear hqi
      have htk:=takes_any k t n z (some ⟨kb,ko,none⟩) m kc a (j':Int) kd wd hm
      rw [hg] at htk
      have HG:=Lib.hid hg
      clear hg
      go_wp2_with (go_at_call 127;refine htk.mono ?_)
      first | rintro e w3 rfl hb3 | rintro e w3 ⟨rfl,hb3⟩
      have HB3:=Lib.hid (HBd.out.trans (hb3.mono (Nat.le_of_lt lrd)))
      have HBR3:=Lib.hid (HBRd.out.trans (hb3.mono (by simp;omega)))
      have c3:=(hb3.cell (p:=⟨B,q,none⟩) (Nat.lt_trans hBw lrd)).trans HSd
      clear hb3 htk g0 g1 g2 g3 g4 g5 g6 HSd
      go_wp2
      go_roundw
      case rel=>exact ⟨j',sq,(j':Int)-1,by omega,by omega,by go_num,by go_num,by omega,HW,HBR3.out⟩
      case measure=>simp [intOf];try omega
    ·have HW:Hid (wayOf l i=none):=HV.out.trans (walk_far (by rw [hgd];exact he))
     have h1:(c[j'] == (q:Int))=false:=by simpa using he
     have h2:(c[j'] != (q:Int))=true:=by simpa using he
     clear HV hgd he
     generalize c[j']=kid at *
     go_wp2
     go_quiet (fail)
     go_wp2
     rw [HQ.out]
     exact ⟨below_drewN HB.out _,Or.inl ⟨HW.out,rfl⟩⟩
end Tr
end
section
namespace Tr
open Go.RowKit
theorem begin_any (l:List Nd) (i:Nat) (hi:i<l.length) (b o cap B cnt:Nat) (w:World) (hl:l.length≤600) (hb:b<w.heap.size) (hN:∀ j,(h:j<l.length)→NodeAt w b (o+j * 6) l[j]) (hK:KidsAt w l[i].p l[i].c) (hB:B<w.heap.size) (hcnt:i≤cnt)
  (hF:∀ j,j<i→w.cell? ⟨B,j,none⟩=some (.int .i64 (St l j))) (hm:l[i].c.length≤1000000000000000000) :
  Calls Tryz.prog 83 #[.slice (some ⟨b,o,none⟩) (i+1) cap,.slice (some ⟨B,0,none⟩) cnt cnt] w (BgPost l i w):=by
 have hc:codeAt l i=nodeC l i l[i]:=codeAt_get hi
 cases hk:kindB l[i].k with
 | false =>
  refine (begin_kind l[i] i b o cap B cnt w (by omega) (hN i hi) hk).mono fun e w' ⟨he,hbel⟩=>?_
  have h4:codeAt l i=4:=by rw [hc];unfold nodeC;rw [if_pos hk]
  exact ⟨hbel,Or.inr ⟨by rw [h4];decide,by rw [h4];exact he⟩⟩
 | true =>
  by_cases hs:(l[i].c.length:Int)<lowV l[i].k∨highV 9223372036854775807 l[i].k<l[i].c.length
  ·refine (begin_size l[i] i b o cap B cnt w (by omega) (hN i hi) hk hs).mono fun e w' ⟨he,hbel⟩=>?_
   have h4:codeAt l i=9:=by rw [hc];unfold nodeC;rw [if_neg (by rw [hk];simp),if_pos hs]
   exact ⟨hbel,Or.inr ⟨by rw [h4];decide,by rw [h4];exact he⟩⟩
  ·refine (begin_main l i hi l[i] rfl b o cap B cnt w hl hb hN hK hB hcnt hF hm hk (fun h=>hs (Or.inl h)) (fun h=>hs (Or.inr h))).mono fun e w' ⟨hbel,he⟩=>?_
   have hn:codeAt l i=if wayOf l i=none then 5 else fieldC l[i]:=by rw [hc];unfold nodeC;rw [if_neg (by rw [hk];simp),if_neg hs]
   rcases he with ⟨hw,he⟩ | ⟨hw,⟨hf,he⟩ | ⟨hf,he⟩⟩
   ·rw [if_pos hw] at hn
    exact ⟨hbel,Or.inr ⟨by rw [hn];decide,by rw [hn];exact he⟩⟩
   ·rw [if_neg hw] at hn
    exact ⟨hbel,Or.inr ⟨by rw [hn];exact hf,by rw [hn];exact he⟩⟩
   ·rw [if_neg hw] at hn
    exact ⟨hbel,Or.inl ⟨by rw [hn];exact hf,he⟩⟩
theorem walkK_kids {S:Nat→Nat}{kd:Nat→Int}{k:Int}{c:List Int}(hS:∀ j,S j≤j):∀ (i at_ r:Nat),walkK S kd k c i at_=some r→i≤at_∧∀ j,j<i→∃ q:Nat,q<at_∧c.getD j 0=(q:Int):=by
 intro i
 induction i with
 | zero=>intro at_ r _;exact ⟨Nat.zero_le _,fun j h=>by omega⟩
 | succ i ih =>
  intro at_ r h
  rw [walkK] at h
  split at h
  ·cases h
  ·rename_i hn
   have h0:at_≠0:=fun e=>hn (Or.inl e)
   have h1:c.getD i 0=(at_:Int)-1:=Decidable.byContradiction fun e=>hn (Or.inr (Or.inl e))
   have hs:=hS (at_-1)
   obtain ⟨h2,h3⟩:=ih _ _ h
   refine ⟨by omega,fun j hj=>?_⟩
   by_cases e:j=i
   ·subst e;exact ⟨at_-1,by omega,by omega⟩
   ·obtain ⟨q,hq,hc⟩:=h3 j (by omega)
    exact ⟨q,by omega,hc⟩
theorem code_way {l:List Nd}{j:Nat}(hj:j<l.length) (h:codeAt l j=0):wayOf l j≠none:=by
 intro hw
 rw [codeAt_get hj] at h
 unfold nodeC at h
 split at h
 ·cases h
 ·split at h
  ·cases h
  ·first | (rw [if_pos hw] at h;cases h;done) | cases h
theorem code_kids {l:List Nd}{j:Nat}(hj:j<l.length) (h:codeAt l j=0):l[j].c.length≤j∧∀ i,(hi:i<l[j].c.length)→∃ q:Nat,q<j∧l[j].c[i]=(q:Int):=by
 have hw:=code_way hj h
 cases hr:wayOf l j with
 | none=>exact absurd hr hw
 | some r =>
  unfold wayOf at hr
  rw [kidsAt_get hj] at hr
  obtain ⟨h1,h2⟩:=walkK_kids (St_le l) _ _ _ hr
  exact ⟨h1,fun i hi=>by
   obtain ⟨q,hq,e⟩:=h2 i hi
   exact ⟨q,hq,by rw [← e];simp [hi]⟩⟩
theorem maxI_snoc (d:Nat→Nat) (c:List Int) (x:Int):maxI d (c ++ [x])=max (maxI d c) (d x.toNat):=by
 induction c with
 | nil=>simp [maxI]
 | cons y c ih=>simp only [List.cons_append,maxI,ih];omega
def Blk (w:World) (g:Nat) (t:TypeId) (cs:Array Value):Prop:=w.heap[g]? = some (.cells cs t (0,0))
section
variable {w w':World}{g:Nat}{t:TypeId}{cs:Array Value}
theorem Blk.lt (h:Blk w g t cs):g<w.heap.size:=lt_of_block h
theorem Blk.cell (h:Blk w g t cs) (i:Nat):w.cell? ⟨g,i,none⟩=cs[i]?:=cell_of_row w g i cs t (0,0) h
theorem Blk.frozen (h:Blk w g t cs) (i:Nat):w.frozen? ⟨g,i,none⟩=false:=by
 unfold Blk at h
 simp [World.frozen?,h]
theorem Blk.new (w:World) (t:TypeId) (cs:Array Value):Blk (w.alloc (.cells cs t)) w.heap.size t cs:=heap_alloc_new w _
theorem Blk.alloc (h:Blk w g t cs) (o:Obj):Blk (w.alloc o) g t cs:=(Below.heap_alloc w o g h.lt).trans h
theorem Blk.set_ (h:Blk w g t cs) (i:Nat) (u:Value):Blk (w.setCell ⟨g,i,none⟩ u) g t (cs.setIfInBounds i u):=by
 unfold Blk at h ⊢
 simp [World.setCell,Array.getElem?_modify,h]
theorem Blk.far (h:Blk w g t cs) {p:Addr}(hp:g≠p.block) (u:Value):Blk (w.setCell p u) g t cs:=(Below.heap_setCell w p u g hp).trans h
theorem Blk.below {B:Nat}(h:Blk w g t cs) (hb:Below B w w') (hg:g<B):Blk w' g t cs:=(hb.block g hg).trans h
theorem Blk.grown {row:Option Nat}(h:Blk w g t cs) (hb:w.grownBy w' row) (hg:some g≠row):Blk w' g t cs:=(hb.block g h.lt hg).trans h
theorem Blk.drew (h:Blk w g t cs):Blk w.drew g t cs:=h
end
def numC (n:Nat) (xs:List Nat):Array Value:=(xs.map (fun x:Nat=>Value.int .i64 (x:Int)) ++ List.replicate (n-xs.length) (Value.int .i64 0)).toArray
theorem numC_get {n j:Nat}{xs:List Nat}(h:j<xs.length):(numC n xs)[j]? = some (.int .i64 ((xs.getD j 0:Nat):Int)):=by
 unfold numC
 rw [List.getElem?_toArray,List.getElem?_append_left (by rw [List.length_map];exact h)]
 simp [h]
theorem numC_zero {n j:Nat}{xs:List Nat}(h:xs.length≤j) (hn:j<n):(numC n xs)[j]? = some (.int .i64 0):=by
 unfold numC
 rw [List.getElem?_toArray,List.getElem?_append_right (by rw [List.length_map];exact h)]
 rw [List.getElem?_replicate,if_pos (by rw [List.length_map];omega)]
theorem numC_snoc {n:Nat}{xs:List Nat}(v:Nat) (h:xs.length<n):(numC n xs).setIfInBounds xs.length (.int .i64 (v:Int))=numC n (xs ++ [v]):=by
 apply Array.ext'
 unfold numC
 rw [Array.toList_setIfInBounds]
 simp only [List.map_append,List.map_cons,List.map_nil,List.length_append,List.length_cons,List.length_nil]
 rw [List.set_append,if_neg (by rw [List.length_map];omega),List.length_map,Nat.sub_self]
 obtain ⟨r,hr⟩ : ∃ r,n-xs.length=r+1:=⟨n-xs.length-1,by omega⟩
 rw [hr,show n-(xs.length+(0+1))=r by omega,List.replicate_succ,List.set_cons_zero,List.append_assoc]
 rfl
theorem numC_last {n:Nat}{xs:List Nat}(u v:Nat):(numC n (xs ++ [u])).setIfInBounds xs.length (.int .i64 (v:Int))=numC n (xs ++ [v]):=by
 apply Array.ext'
 unfold numC
 rw [Array.toList_setIfInBounds]
 simp only [List.map_append,List.map_cons,List.map_nil,List.length_append,List.length_cons,List.length_nil]
 rw [List.append_assoc,List.set_append,if_neg (by rw [List.length_map];omega),List.length_map,Nat.sub_self,List.append_assoc]
 rfl
theorem numC_made (n:Nat):madeCells #[Value.int .i64 0] n=numC n []:=by
 apply Array.ext'
 rw [toList_madeCells_one]
 simp [numC]
end Tr
end
section
namespace Tr
open Go.RowKit
theorem info3:(Tryz.prog.info? 3).map (fun i=>(i.zero,i.size,i.bytes))=some (some (.int .i64 0),1,8):=by kernel_rfl
theorem make_ints (n:Nat) (w:World) (h:n≤1000000) :
  (Instr.makeSlice 34 (.int .i64 (n:Int)) (.int .i64 (n:Int))).run Tryz.prog w=.ok (.slice (some ⟨w.heap.size,0,none⟩) n n) (w.alloc (.cells (numC n []) 3)):=by
 obtain ⟨i0,hi,hz0,hz1,hz2⟩:=info_parts info3
 have:=run_make (P:=Tryz.prog) w 34 3 i0 (.int .i64 0) Tryz.underlying34 hi hz0 .i64 .i64 n n (by omega) (Int.le_refl _) (by rw [hz2];omega) (by omega)
 rw [hz1] at this
 simp only [Int.toNat_natCast,Nat.mul_one] at this
 rw [this,← numC_made]
 rfl
theorem numC_pad {n:Nat}{xs:List Nat}(h:xs.length<n):numC n xs=numC n (xs ++ [0]):=by
 rw [← numC_snoc 0 h]
 apply Array.ext'
 rw [Array.toList_setIfInBounds]
 apply List.ext_getElem?
 intro j
 rw [List.getElem?_set]
 split
 ·rename_i e
  subst e
  have h1:=numC_zero (n:=n) (xs:=xs) (j:=xs.length) (Nat.le_refl _) h
  have hsz:xs.length<(numC n xs).toList.length:=by unfold numC;simp;omega
  rw [Array.getElem?_toList,h1,if_pos hsz]
  rfl
 ·rfl
theorem deeps_succ (l:List Nd) (k:Nat):deeps l (k+1)=deeps l k ++ [maxI (fun j=>(deeps l k).getD j 0) (kidsAt l k)+1]:=rfl
theorem maxI_le {d:Nat→Nat}{K:Nat}(h:∀ q,d q≤K) (c:List Int):maxI d c≤K:=by
 induction c with
 | nil=>exact Nat.zero_le _
 | cons x c ih=>have:=h x.toNat;simp only [maxI];omega
theorem deeps_le (l:List Nd) (k:Nat):∀ q,(deeps l k).getD q 0≤k:=by
 induction k with
 | zero=>intro q;simp [deeps]
 | succ k ih =>
  intro q
  have hm:=maxI_le ih (kidsAt l k)
  simp only [List.getD] at ih hm ⊢
  rw [deeps_succ]
  by_cases hq:q<(deeps l k).length
  ·rw [List.getElem?_append_left hq];have:=ih q;omega
  ·rw [List.getElem?_append_right (by omega)]
   by_cases e:q-(deeps l k).length=0
   ·rw [e];simpa using hm
   ·rw [List.getElem?_eq_none (by simp;omega)];simp
theorem if_max (M d:Nat):(if M<d then (d:Int) else (M:Int))=((max M d:Nat):Int):=by split <;> omega
theorem snoc_getD {xs:List Nat}{u:Nat}{j:Nat}(h:j<xs.length):(xs ++ [u]).getD j 0=xs.getD j 0:=by
 simp only [List.getD];rw [List.getElem?_append_left h]
theorem snoc_last {xs:List Nat}{u:Nat}:(xs ++ [u]).getD xs.length 0=u:=by
 simp only [List.getD];rw [List.getElem?_append_right (Nat.le_refl _)];simp
theorem depth_any (l:List Nd) (b o cap:Nat) (w:World) (hl:l.length≤600) (h0:0<l.length) (hb:b<w.heap.size) (hN:∀ j,(h:j<l.length)→NodeAt w b (o+j * 6) l[j]) (hK:∀ j,(h:j<l.length)→KidsAt w l[j].p l[j].c)
  (hg:∀ j,j<l.length→codeAt l j=0) :
  Calls Tryz.prog 84 #[.slice (some ⟨b,o,none⟩) l.length cap] w fun e w'=>e=.returned (.int .i64 (Dp l (l.length-1)))∧Below w.heap.size w w':=by
 have HN:=Lib.hid hN
 have HK:=Lib.hid hK
 have HG:=Lib.hid hg
 clear hN hK hg
 obtain ⟨n,hn⟩:=exE (l.length)
 rw [← hn] at hl h0 ⊢
 have Hn:=Lib.hid hn
 clear hn
 have hmk:=make_ints n w (by omega)
 go_enter Tryz.func84,Tryz.ntmps84
 go_wp2
 have HMK:=Lib.hid hmk
 clear hmk
 go_loopw [13] (fun v wr=>∃ k:Nat,k≤n∧v=.int .i64 k∧Blk wr w.heap.size 3 (numC n (deeps l k))∧Below w.heap.size w wr) (fun v _=>n-(intOf v).toNat)
 case atStart=>exact ⟨0,Nat.zero_le _,rfl,Blk.new _ _ _,(Below.refl _ _).alloc (Nat.le_refl _) _⟩
 case round =>
  obtain ⟨k,hk,rfl,hB,hbel⟩:=hrel
  obtain ⟨wo,rfl⟩:=exE (wr)
  have HBel:=Lib.hid hbel
  have hDlt:=hB.lt
  clear hbel
  by_cases hlt:k<n
  ·have hkl:k<l.length:=by have:=Hn.out;omega
   obtain ⟨c0,c1,c2,c3,c4,c5⟩:=(HN.out k hkl).below HBel.out hb
   obtain ⟨hcl,hck⟩:=code_kids hkl (HG.out k hkl)
   have hKk:=HK.out k hkl
   have hkk:kidsAt l k=l[k].c:=kidsAt_get hkl
   have HS:Hid (deeps l (k+1)=deeps l k ++ [maxI (fun j=>(deeps l k).getD j 0) l[k].c+1]):=by show _=_;rw [deeps_succ,hkk]
   have hdl:(deeps l k).length=k:=deeps_length l k
   clear hkk
   generalize l[k]=x at *
   obtain ⟨xk,t,xn,z,p,kc,c,a⟩:=x
   simp only at c0 c1 c2 c3 c4 c5 hcl hck hKk HS
   obtain ⟨d,hd⟩ : ∃ d:Nat→Nat,d=fun j=>(deeps l k).getD j 0:=⟨_,rfl⟩
   rw [← hd] at HS
   obtain ⟨xs,hxs⟩:=exE (deeps l k)
   rw [← hxs] at hB hd HS hdl
   have Hxs:=Lib.hid hxs
   have Hd:=Lib.hid hd
   have Hdl:=Lib.hid hdl
   have HCK:=Lib.hid hck
   have HKK:=Lib.hid hKk
   clear hxs hd hdl hck hKk
   obtain ⟨m,hm⟩:=exE (c.length)
   rw [← hm] at c4 hcl
   have Hm:=Lib.hid hm
   clear hm
   go_wp2
   go_loopw [21] (fun v wi=>∃ j:Nat,j≤m∧v=.int .i64 j∧Blk wi w.heap.size 3 (numC n (xs ++ [maxI d (c.take j)]))∧Below w.heap.size w wi) (fun v _=>m-(intOf v).toNat)
   case atStart=>exact ⟨0,Nat.zero_le _,rfl,by rw [← show numC n xs=numC n (xs ++ [maxI d (c.take 0)]) from numC_pad (by rw [Hdl.out];exact hlt)];exact hB.alloc _,HBel.out.alloc (Nat.le_of_lt hDlt) _⟩
   case round =>
    obtain ⟨j,hj,rfl,hBi,hbi⟩:=hrel
    have HBi:=Lib.hid hbi
    have hDi:=hBi.lt
    clear hbi hB
    by_cases hjt:j<m
    ·have hjc:j<c.length:=by have:=Hm.out;omega
     obtain ⟨q,hq,hcq⟩:=HCK.out j hjc
     obtain ⟨kb,ko,rfl,hkb,hkc⟩:=HKK.out (by omega)
     have hxl:xs.length=k:=Hdl.out
     have e0:=(HBi.out.cell (p:=⟨kb,ko+j,none⟩) hkb).trans (hkc j hjc)
     rw [hcq] at e0
     have f0:wr.cell? ⟨w.heap.size,k,none⟩=some (.int .i64 ((maxI d (c.take j):Nat):Int)):=by
      have h1:=numC_get (n:=n) (j:=xs.length) (xs:=xs ++ [maxI d (c.take j)]) (by simp)
      rw [snoc_last,hxl] at h1
      rw [hBi.cell];exact h1
     have f1:wr.cell? ⟨w.heap.size,q,none⟩=some (.int .i64 ((d q:Nat):Int)):=by
      have h1:=numC_get (n:=n) (j:=q) (xs:=xs ++ [maxI d (c.take j)]) (by simp;omega)
      rw [snoc_getD (by omega)] at h1
      have hdq:d q=xs.getD q 0:=by rw [Hd.out]
      rw [hBi.cell,hdq];exact h1
     have f2:=hBi.frozen k
     have hmx:maxI d (c.take (j+1))=max (maxI d (c.take j)) (d q):=by
      rw [List.take_succ_eq_append_getElem hjc,maxI_snoc,hcq];rfl
     have hset:Hid (∀ W:World,Blk W w.heap.size 3 (numC n (xs ++ [maxI d (c.take j)]))→Blk (W.setCell ⟨w.heap.size,k,none⟩ (.int .i64 ((maxI d (c.take (j+1)):Nat):Int))) w.heap.size 3 (numC n (xs ++ [maxI d (c.take (j+1))]))):=fun W hW=>by
      rw [← numC_last (maxI d (c.take j)),hxl];exact hW.set_ _ _
     have HB0:=Lib.hid hBi
     have Hmx:=Lib.hid hmx
     clear hBi hkc hcq hmx hxl
     generalize maxI d (c.take j)=M at *
     generalize d q=dq at *
     go_wp2
     go_region
     all_goals go_wp2
     go_roundw
     case rel =>
      refine ⟨j+1,by omega,by go_num,?_,(HBi.out.setCell (p:=⟨w.heap.size,k,none⟩) (Nat.le_refl _) _).drew⟩
      have h:=hset.out _ HB0.out
      rw [Hmx.out] at h ⊢
      rw [if_max M dq]
      exact h
     case measure=>simp [intOf];try omega
    ·have hct:c.take j=c:=List.take_of_length_le (by have:=Hm.out;omega)
     rw [hct] at hBi
     have hxl:xs.length=k:=Hdl.out
     have f0:wr.cell? ⟨w.heap.size,k,none⟩=some (.int .i64 ((maxI d c:Nat):Int)):=by
      have h1:=numC_get (n:=n) (j:=xs.length) (xs:=xs ++ [maxI d c]) (by simp)
      rw [snoc_last,hxl] at h1
      rw [hBi.cell];exact h1
     have f2:=hBi.frozen k
     have hset:Hid (Blk (wr.setCell ⟨w.heap.size,k,none⟩ (.int .i64 ((maxI d c+1:Nat):Int))) w.heap.size 3 (numC n (deeps l (k+1)))):=by
      show Blk _ _ _ _
      rw [HS.out,← numC_last (maxI d c),hxl];exact hBi.set_ _ _
     clear hBi hxl hct
     have hM:maxI d c≤k:=maxI_le (fun q=>by rw [Hd.out];show xs.getD q 0≤k;rw [Hxs.out];exact deeps_le l k q) c
     generalize maxI d c=M at *
     go_wp2
     go_roundw
     case rel=>exact ⟨k+1,by omega,by go_num,by simpa using hset.out,HBi.out.setCell (p:=⟨w.heap.size,k,none⟩) (Nat.le_refl _) _⟩
     case measure=>simp [intOf];try omega
  ·have hkn:k=n:=by omega
   subst hkn
   have f0:wo.cell? ⟨w.heap.size,k-1,none⟩=some (.int .i64 ((Dp l (k-1):Nat):Int)):=by
    have h1:=numC_get (n:=k) (j:=k-1) (xs:=deeps l k) (by rw [deeps_length];omega)
    rw [deeps_get l (by omega)] at h1
    rw [hB.cell];exact h1
   have e1:(k:Int)-1=((k-1:Nat):Int):=by omega
   clear hB
   obtain ⟨dd,hdd⟩:=exE (Dp l (k-1))
   rw [← hdd] at f0
   have HDD:=Lib.hid hdd
   clear hdd
   go_wp2
   go_ret
   exact ⟨by rw [← HDD.out];rfl,HBel.out⟩
end Tr
end
section
namespace Tr
open Go.RowKit
theorem firsts_succ (l:List Nd) (k:Nat):firsts l (k+1)=firsts l k ++ [St l k]:=by
 have h:=firsts_get l (Nat.lt_succ_self k)
 show firsts l k ++ [_]=_
 unfold St
 simp only [List.getD,firsts]
 rw [List.getElem?_append_right (by rw [firsts_length];omega),firsts_length,Nat.sub_self]
 rfl
def BsPost (l:List Nd) (w:World) (e:Ending) (w':World):Prop :=
 Below w.heap.size w w'∧∃ (v:Value) (c a:Int),e=.returned (.tuple #[v,.agg #[.int .i64 c,.int .i64 a]])∧CkR l c a ∧
  (c=0→∃ B,v=.slice (some ⟨B,0,none⟩) l.length l.length∧w.heap.size≤B∧B<w'.heap.size∧∀ j,j<l.length→w'.cell? ⟨B,j,none⟩=some (.int .i64 (St l j)))
theorem begins_count (l:List Nd) (p:Option Addr) (cap:Nat) (w:World) (hlen:l.length≤140737488355328) (hbad:l.length<1∨600<l.length) :
  Calls Tryz.prog 41 #[.agg #[.slice p l.length cap]] w (BsPost l w):=by
 have HR:Hid (CkR l 2 0):=Or.inl ⟨hbad,rfl,rfl⟩
 obtain ⟨Q,hQ⟩:=exE (BsPost l w)
 have HQ:=Lib.hid hQ
 rw [← hQ]
 clear hQ
 generalize l.length=n at *
 by_cases h1:n<1
 ·clear hbad
  go_enter Tryz.func41,Tryz.ntmps41
  go_wp2
  refine bodyPost_ret (v:=.tuple #[.slice none 0 0,.agg #[.int .i64 2,.int .i64 0]]) (by simp [results,Tryz.results41,go_sem]) rfl ?_
  rw [HQ.out]
  exact ⟨((Below.refl _ _).alloc (Nat.le_refl _) _).alloc (by simp) _,_,2,0,rfl,HR.out,fun h=>by cases h⟩
 ·have h2:600<n:=by omega
  clear hbad
  go_enter Tryz.func41,Tryz.ntmps41
  go_wp2
  refine bodyPost_ret (v:=.tuple #[.slice none 0 0,.agg #[.int .i64 2,.int .i64 0]]) (by simp [results,Tryz.results41,go_sem]) rfl ?_
  rw [HQ.out]
  exact ⟨((Below.refl _ _).alloc (Nat.le_refl _) _).alloc (by simp) _,_,2,0,rfl,HR.out,fun h=>by cases h⟩
theorem begins_main (l:List Nd) (b o cap:Nat) (w:World) (h1:1≤l.length) (h600:l.length≤600) (hcap:l.length≤cap) (hb:b<w.heap.size) (hN:∀ j,(h:j<l.length)→NodeAt w b (o+j * 6) l[j]) (hK:∀ j,(h:j<l.length)→KidsAt w l[j].p l[j].c)
  (hm:∀ j,(h:j<l.length)→l[j].c.length≤1000000000000000000) :
  Calls Tryz.prog 41 #[.agg #[.slice (some ⟨b,o,none⟩) l.length cap]] w (BsPost l w):=by
 have HN:=Lib.hid hN
 have HK:=Lib.hid hK
 have HM:=Lib.hid hm
 clear hN hK hm
 obtain ⟨Q,hQ⟩:=exE (BsPost l w)
 have HQ:=Lib.hid hQ
 rw [← hQ]
 clear hQ
 obtain ⟨n,hn⟩:=exE (l.length)
 rw [← hn] at h1 h600 hcap ⊢
 have Hn:=Lib.hid hn
 clear hn
 have hmk:=make_ints n ((w.alloc (.cells #[.slice (some ⟨b,o,none⟩) n cap] 24)).alloc (.cells #[.int .i64 0,.int .i64 0] 26)) (by omega)
 simp only [World.size_alloc] at hmk
 go_enter Tryz.func41,Tryz.ntmps41
 go_wp2
 clear hmk
 go_loopw [24] (fun v wr=>∃ k:Nat,k≤n∧v=.int .i64 k∧Blk wr w.heap.size 24 #[.slice (some ⟨b,o,none⟩) n cap]∧Blk wr (w.heap.size+1) 26 #[.int .i64 0,.int .i64 0]∧Blk wr (w.heap.size+1+1) 3 (numC n (firsts l k))∧Hid (∀ j,j<k→codeAt l j=0)∧Below w.heap.size w wr) (fun v _=>n-(intOf v).toNat)
 case atStart =>
  exact ⟨0,Nat.zero_le _,rfl,((Blk.new _ _ _).alloc _).alloc _,by have:=Blk.new (w.alloc (.cells #[.slice (some ⟨b,o,none⟩) n cap] 24)) 26 #[.int .i64 0,.int .i64 0];rw [World.size_alloc] at this;exact this.alloc _,
   by have:=Blk.new ((w.alloc (.cells #[.slice (some ⟨b,o,none⟩) n cap] 24)).alloc (.cells #[.int .i64 0,.int .i64 0] 26)) 3 (numC n []);rw [World.size_alloc,World.size_alloc] at this;exact this,fun j h=>by omega,
   (((Below.refl _ _).alloc (Nat.le_refl _) _).alloc (by simp) _).alloc (by simp;omega) _⟩
 case round =>
  obtain ⟨k,hk,rfl,hX,hY,hF,HC,hbel⟩:=hrel
  have x0:wr.cell? ⟨w.heap.size,0,none⟩=some (.slice (some ⟨b,o,none⟩) n cap):=by rw [hX.cell];rfl
  have HB:=Lib.hid hbel
  have lF:=hF.lt
  have lY:=hY.lt
  have HX:=Lib.hid hX
  have HY:=Lib.hid hY
  have HF:=Lib.hid hF
  clear hbel hX hY hF
  by_cases hlt:k<n
  ·have hkl:k<l.length:=by have:=Hn.out;omega
   have hbg:=begin_any l k hkl b o cap (w.heap.size+1+1) n wr (by have:=Hn.out;omega) (Nat.lt_of_lt_of_le hb HB.out.size) (fun j hj=>(HN.out j hj).below HB.out hb) ((HK.out k hkl).below HB.out) lF (by omega)
    (fun j hj=>by rw [HF.out.cell];have h:=numC_get (n:=n) (j:=j) (xs:=firsts l k) (by rw [firsts_length];exact hj);rw [firsts_get l hj] at h;exact h) (HM.out k hkl)
   have hkc:k+1≤cap:=by omega
   go_wp2_with (go_at_call 83;refine hbg.mono ?_)
   intro e w3 hp
   obtain ⟨hb3,⟨hc,rfl⟩ | ⟨hc,rfl⟩⟩:=hp
   ·have hF3:=HF.out.below hb3 lF
    have HX3:=Lib.hid (HX.out.below hb3 (by omega))
    have HY3:=Lib.hid (HY.out.below hb3 lY)
    have HB3:=Lib.hid (HB.out.trans (hb3.mono (by omega)))
    have lF3:=hF3.lt
    have f2:=hF3.frozen k
    have f0:w3.cell? ⟨w.heap.size+1+1,k,none⟩=some (.int .i64 0):=by
     rw [hF3.cell];exact numC_zero (by rw [firsts_length];exact Nat.le_refl _) hlt
    have HC2:Hid (∀ j,j<k+1→codeAt l j=0):=fun j hj=>by
     by_cases e:j=k
     ·subst e;exact hc
     ·exact HC.out j (by omega)
    have hset:Hid (Blk (w3.setCell ⟨w.heap.size+1+1,k,none⟩ (.int .i64 ((St l k:Nat):Int))) (w.heap.size+1+1) 3 (numC n (firsts l (k+1)))):=by
     show Blk _ _ _ _
     have h:=hF3.set_ (firsts l k).length (.int .i64 ((St l k:Nat):Int))
     rw [numC_snoc (St l k) (by rw [firsts_length];exact hlt),firsts_length,← firsts_succ] at h
     exact h
    clear hF3 hb3 hbg hc HC
    go_wp2
    go_roundw
    case rel=>exact ⟨k+1,by omega,by go_num,HX3.out.far (by simp;omega) _,HY3.out.far (by simp) _,hset.out,HC2,HB3.out.setCell (p:=⟨w.heap.size+1+1,k,none⟩) (by simp;omega) _⟩
    case measure=>simp [intOf];try omega
   ·have HY3:=HY.out.below hb3 lY
    have HB3:=Lib.hid (HB.out.trans (hb3.mono (by omega)))
    have y0:w3.cell? ⟨w.heap.size+1,0,none⟩=some (.int .i64 0):=by rw [HY3.cell];rfl
    have y1:w3.cell? ⟨w.heap.size+1,1,none⟩=some (.int .i64 0):=by rw [HY3.cell];rfl
    have g0:=HY3.frozen 0
    have g1:=HY3.frozen 1
    have HR:Hid (CkR l (codeAt l k) k):=Or.inr ⟨by have:=Hn.out;omega,by have:=Hn.out;omega,Or.inl ⟨k,hkl,HC.out,hc,rfl,rfl⟩⟩
    have hc0:=Lib.hid hc
    have c1:(codeAt l k != 0)=true:=by simpa using hc
    have lY3:=HY3.lt
    clear hb3 hbg hc HC HY3
    generalize codeAt l k=c at *
    go_wp2
    refine bodyPost_ret (v:=.tuple #[.slice none 0 0,.agg #[.int .i64 c,.int .i64 k]]) (by simp [results,Tryz.results41,go_sem,y0,y1]) rfl ?_
    rw [HQ.out]
    exact ⟨(HB3.out.setCell (p:=⟨w.heap.size+1,0,none⟩) (by simp) _).setCell (p:=⟨w.heap.size+1,1,none⟩) (by simp) _,_,c,k,rfl,HR.out,fun h=>absurd h hc0.out⟩
  ·have hkn:k=n:=by omega
   subst hkn
   have hall:Hid (∀ j,j<l.length→codeAt l j=0):=fun j hj=>HC.out j (by have:=Hn.out;omega)
   have f0:wr.cell? ⟨w.heap.size+1+1,k-1,none⟩=some (.int .i64 ((St l (l.length-1):Nat):Int)):=by
    have h:=numC_get (n:=k) (j:=k-1) (xs:=firsts l k) (by rw [firsts_length];omega)
    rw [firsts_get l (by omega)] at h
    rw [HF.out.cell,← Hn.out];exact h
   have e1:(k:Int)-1=((k-1:Nat):Int):=by omega
   have HF2:Hid (∀ j,j<l.length→wr.cell? ⟨w.heap.size+1+1,j,none⟩=some (.int .i64 (St l j))):=fun j hj=>by
    have h:=numC_get (n:=k) (j:=j) (xs:=firsts l k) (by rw [firsts_length];have:=Hn.out;omega)
    rw [firsts_get l (by have:=Hn.out;omega)] at h
    rw [HF.out.cell];exact h
   have y0:wr.cell? ⟨w.heap.size+1,0,none⟩=some (.int .i64 0):=by rw [HY.out.cell];rfl
   have y1:wr.cell? ⟨w.heap.size+1,1,none⟩=some (.int .i64 0):=by rw [HY.out.cell];rfl
   have g0:=HY.out.frozen 0
   have g1:=HY.out.frozen 1
   by_cases hs:St l (l.length-1)=0
   ·have hdp:=depth_any l b o cap wr (by have:=Hn.out;omega) (by have:=Hn.out;omega) (Nat.lt_of_lt_of_le hb HB.out.size) (fun j hj=>(HN.out j hj).below HB.out hb) (fun j hj=>(HK.out j hj).below HB.out) hall.out
    have Hs:=Lib.hid hs
    rw [hs] at f0
    clear hs HF HC
    obtain ⟨d,hd⟩:=exE (Dp l (l.length-1))
    rw [← hd,← Hn.out] at hdp
    have Hd:=Lib.hid hd
    clear hd
    have lR:=HY.out.lt
    by_cases h40:40<d
    ·have HR:Hid (CkR l 10 0):=Or.inr ⟨by have:=Hn.out;omega,by have:=Hn.out;omega,Or.inr ⟨hall.out,Or.inr ⟨Hs.out,Or.inl ⟨by rw [← Hd.out];exact h40,rfl,rfl⟩⟩⟩⟩
     go_wp2_with (go_at_call 84;refine hdp.mono ?_)
     first | rintro e w3 rfl hb3 | rintro e w3 ⟨rfl,hb3⟩
     have HY3:=HY.out.below hb3 lR
     have HB3:=Lib.hid (HB.out.trans (hb3.mono (by omega)))
     have y0:w3.cell? ⟨w.heap.size+1,0,none⟩=some (.int .i64 0):=by rw [HY3.cell];rfl
     have y1:w3.cell? ⟨w.heap.size+1,1,none⟩=some (.int .i64 0):=by rw [HY3.cell];rfl
     have g0:=HY3.frozen 0
     have g1:=HY3.frozen 1
     have lY3:=HY3.lt
     clear hb3 hdp HY3
     go_wp2
     refine bodyPost_ret (v:=.tuple #[.slice none 0 0,.agg #[.int .i64 10,.int .i64 0]]) (by simp [results,Tryz.results41,go_sem,y0,y1]) rfl ?_
     rw [HQ.out]
     exact ⟨(HB3.out.setCell (p:=⟨w.heap.size+1,0,none⟩) (by simp) _).setCell (p:=⟨w.heap.size+1,1,none⟩) (by simp) _,_,10,0,rfl,HR.out,fun h=>by cases h⟩
    ·have HR:Hid (CkR l 0 0):=Or.inr ⟨by have:=Hn.out;omega,by have:=Hn.out;omega,Or.inr ⟨hall.out,Or.inr ⟨Hs.out,Or.inr ⟨by rw [← Hd.out];omega,rfl,rfl⟩⟩⟩⟩
     go_wp2_with (go_at_call 84;refine hdp.mono ?_)
     first | rintro e w3 rfl hb3 | rintro e w3 ⟨rfl,hb3⟩
     have HY3:=HY.out.below hb3 lR
     have HB3:=Lib.hid (HB.out.trans (hb3.mono (by omega)))
     have y0:w3.cell? ⟨w.heap.size+1,0,none⟩=some (.int .i64 0):=by rw [HY3.cell];rfl
     have y1:w3.cell? ⟨w.heap.size+1,1,none⟩=some (.int .i64 0):=by rw [HY3.cell];rfl
     have g0:=HY3.frozen 0
     have g1:=HY3.frozen 1
     have lY3:=HY3.lt
     have hF3:Hid (∀ j,j<l.length→w3.cell? ⟨w.heap.size+1+1,j,none⟩=some (.int .i64 (St l j))):=fun j hj=>(hb3.cell (p:=⟨w.heap.size+1+1,j,none⟩) lF).trans (HF2.out j hj)
     have lF3:w.heap.size+1+1<w3.heap.size:=Nat.lt_of_lt_of_le lF hb3.size
     clear hb3 hdp HY3
     go_wp2
     refine bodyPost_ret (v:=.tuple #[.slice (some ⟨w.heap.size+1+1,0,none⟩) k k,.agg #[.int .i64 0,.int .i64 0]]) (by simp [results,Tryz.results41,go_sem,y0,y1]) rfl ?_
     rw [HQ.out]
     refine ⟨(HB3.out.setCell (p:=⟨w.heap.size+1,0,none⟩) (by simp) _).setCell (p:=⟨w.heap.size+1,1,none⟩) (by simp) _,_,0,0,rfl,HR.out,fun _=>⟨w.heap.size+1+1,by rw [← Hn.out],by omega,by simpa using lF3,fun j hj=>?_⟩⟩
     rw [World.cell?_setCell_other _ _ _ _ (by simp),World.cell?_setCell_other _ _ _ _ (by simp)]
     exact hF3.out j hj
   ·have HR:Hid (CkR l 5 ((k:Int)-1)):=Or.inr ⟨by have:=Hn.out;omega,by have:=Hn.out;omega,Or.inr ⟨hall.out,Or.inl ⟨hs,rfl,by rw [← Hn.out]⟩⟩⟩
    clear HF HC
    generalize St l (l.length-1)=s at *
    have c1:((s:Int) != 0)=true:=by simpa using hs
    have c2:((s:Int) == 0)=false:=by simpa using hs
    clear hs
    rw [e1] at HR
    go_wp2
    refine bodyPost_ret (v:=.tuple #[.slice none 0 0,.agg #[.int .i64 5,.int .i64 ((k-1:Nat):Int)]]) (by simp [results,Tryz.results41,go_sem,y0,y1]) rfl ?_
    rw [HQ.out]
    exact ⟨(HB.out.setCell (p:=⟨w.heap.size+1,0,none⟩) (by simp) _).setCell (p:=⟨w.heap.size+1,1,none⟩) (by simp) _,_,5,_,rfl,HR.out,fun h=>by cases h⟩
end Tr
end
section
namespace Tr
open Go.RowKit
def Fit (l:List Nd) (cap:Nat):Prop:=l.length≤cap∧l.length≤140737488355328∧∀ j,(h:j<l.length)→l[j].c.length≤1000000000000000000
theorem begins_any (l:List Nd) (p:Option Addr) (cap:Nat) (w:World) (hT:Tr w p l) (hf:Fit l cap):Calls Tryz.prog 41 #[.agg #[.slice p l.length cap]] w (BsPost l w):=by
 by_cases h:l.length<1∨600<l.length
 ·exact begins_count l p cap w hf.2.1 h
 ·obtain ⟨b,o,rfl,hb,hN⟩:=hT.1 (by omega)
  exact begins_main l b o cap w (by omega) (by omega) hf.1 hb hN hT.2 hf.2.2
def CkPost (l:List Nd) (w:World) (e:Ending) (w':World):Prop :=
 Below w.heap.size w w'∧∃ c a:Int,e=.returned (.agg #[.int .i64 c,.int .i64 a])∧CkR l c a
theorem fault_set {w:World}{g:Nat}{x0 x1:Value}(h:Blk w g 26 #[x0,x1]) (c a:Value) (o:Obj):Blk (((w.setCell ⟨g,0,none⟩ c).setCell ⟨g,1,none⟩ a).alloc o) g 26 #[c,a]:=by
 have h1:=((h.set_ 0 c).set_ 1 a).alloc o
 simpa using h1
theorem check_any (l:List Nd) (p:Option Addr) (cap:Nat) (w:World) (hT:Tr w p l) (hf:Fit l cap):Calls Tryz.prog 18 #[.agg #[.slice p l.length cap]] w (CkPost l w):=by
 have h1:Below w.heap.size w ((w.alloc (.cells #[.slice p l.length cap] 24)).alloc (.cells #[.int .i64 0,.int .i64 0] 26)):=((Below.refl _ _).alloc (Nat.le_refl _) _).alloc (by simp) _
 have hbg:=begins_any l p cap ((w.alloc (.cells #[.slice p l.length cap] 24)).alloc (.cells #[.int .i64 0,.int .i64 0] 26)) (hT.below h1) hf
 have H1:=Lib.hid h1
 clear h1
 obtain ⟨Q,hQ⟩:=exE (CkPost l w)
 have HQ:=Lib.hid hQ
 rw [← hQ]
 clear hQ
 generalize l.length=n at *
 go_enter Tryz.func18,Tryz.ntmps18
 go_wp2_with (go_at_call 41;refine hbg.mono ?_)
 intro e w3 hp
 obtain ⟨hb3,v,c,a,rfl,hr,-⟩:=hp
 have HR:=Lib.hid hr
 have hY:Blk w3 (w.heap.size+1) 26 #[.int .i64 0,.int .i64 0]:=by
  have h:=Blk.new (w.alloc (.cells #[.slice p n cap] 24)) 26 #[.int .i64 0,.int .i64 0]
  rw [World.size_alloc] at h
  exact h.below hb3 (by simp)
 have HB3:=Lib.hid (H1.out.trans (hb3.mono (by simp;omega)))
 have y0:w3.cell? ⟨w.heap.size+1,0,none⟩=some (.int .i64 0):=by rw [hY.cell];rfl
 have y1:w3.cell? ⟨w.heap.size+1,1,none⟩=some (.int .i64 0):=by rw [hY.cell];rfl
 have g0:=hY.frozen 0
 have g1:=hY.frozen 1
 have lY:=hY.lt
 have hZ:=fault_set hY (.int .i64 c) (.int .i64 a) (.cells #[.int .i64 c,.int .i64 a] 26)
 have z0:=hZ.cell 0
 have z1:=hZ.cell 1
 have Z0:=Lib.hid z0
 have Z1:=Lib.hid z1
 clear hr hb3 hbg hY hZ z0 z1
 go_wp2
 have z0:=Z0.out
 have z1:=Z1.out
 refine bodyPost_ret (v:=.agg #[.int .i64 c,.int .i64 a]) (by simp [results,Tryz.results18,go_sem,z0,z1]) rfl ?_
 rw [HQ.out]
 exact ⟨((HB3.out.setCell (p:=⟨w.heap.size+1,0,none⟩) (by simp) _).setCell (p:=⟨w.heap.size+1,1,none⟩) (by simp) _).alloc (by simp;omega) _,c,a,rfl,HR.out⟩
end Tr
end
section
namespace Tr
open Go.RowKit
theorem list_ne {c c':List Int}{k:Nat}(h:k<c.length) (h':k<c'.length) (hne:c[k]≠c'[k]):decide (c=c')=false:=decide_eq_false (fun e=>by subst e;exact hne rfl)
theorem list_len {c c':List Int}(h:c.length≠c'.length):decide (c=c')=false:=decide_eq_false (fun e=>h (by rw [e]))
theorem list_all {c c':List Int}(h:c.length=c'.length) (ha:∀ j,(h1:j<c.length)→(h2:j<c'.length)→c[j]=c'[j]):decide (c=c')=true:=decide_eq_true (List.ext_getElem h ha)
theorem rints_any (c c':List Int) (p p':Option Addr) (cap cap':Nat) (w:World) (hK:KidsAt w p c) (hK':KidsAt w p' c') (hm:c.length≤1000000000000000000) (hm':c'.length≤1000000000000000000) :
  Calls Tryz.prog 75 #[.slice p c.length cap,.slice p' c'.length cap'] w fun e w'=>e=.returned (.bool (decide (c=c')))∧Below w.heap.size w w':=by
 have HK:=Lib.hid hK
 have HK':=Lib.hid hK'
 clear hK hK'
 obtain ⟨r,hr⟩:=exE (decide (c=c'))
 rw [← hr]
 have HR:=Lib.hid hr
 clear hr
 obtain ⟨n,hn⟩:=exE (c.length)
 obtain ⟨n',hn'⟩:=exE (c'.length)
 rw [← hn] at hm ⊢
 rw [← hn'] at hm' ⊢
 have Hn:=Lib.hid hn
 have Hn':=Lib.hid hn'
 clear hn hn'
 by_cases hl:n=n'
 ·subst hl
  go_enter Tryz.func75,Tryz.ntmps75
  go_wp2
  go_loopw [5] (fun v wr=>∃ k:Nat,k≤n∧v=.int .i64 k∧Hid (∀ j,(h1:j<c.length)→(h2:j<c'.length)→j<k→c[j]=c'[j])∧Below w.heap.size w wr) (fun v _=>n-(intOf v).toNat)
  case atStart=>exact ⟨0,Nat.zero_le _,rfl,fun j _ _ h=>by omega,Below.refl _ _⟩
  case round =>
   obtain ⟨k,hk,rfl,HE,hb⟩:=hrel
   have HB:=Lib.hid hb
   clear hb
   by_cases hlt:k<n
   ·have h1:k<c.length:=by have:=Hn.out;omega
    have h2:k<c'.length:=by have:=Hn'.out;omega
    obtain ⟨b,o,rfl,hbl,hc⟩:=HK.out (by omega)
    obtain ⟨b',o',rfl,hbl',hc'⟩:=HK'.out (by omega)
    have e0:=(HB.out.cell (p:=⟨b,o+k,none⟩) hbl).trans (hc k h1)
    have e1:=(HB.out.cell (p:=⟨b',o' + k,none⟩) hbl').trans (hc' k h2)
    have hki:(k:Int)<(n:Int):=by omega
    have hF:c[k]≠c'[k]→Hid (r=false):=fun h=>HR.out.trans (list_ne h1 h2 h)
    have hN:c[k]=c'[k]→Hid (∀ j,(h1:j<c.length)→(h2:j<c'.length)→j<k+1→c[j]=c'[j]):=fun h j g1 g2 hj=>by
     by_cases e:j=k
     ·subst e;exact h
     ·exact HE.out j g1 g2 (by omega)
    clear hc hc'
    generalize c[k]=x at *
    generalize c'[k]=y at *
    by_cases hxy:x=y
    ·have HN:=hN hxy
     subst hxy
     clear hF hN
     have q1:(x != x)=false:=by simp
     have q2:(x == x)=true:=by simp
     go_wp2
     go_quiet (fail)
     go_wp2
     go_roundw
     case rel=>exact ⟨k+1,by omega,by go_num,HN,below_drewN HB.out _⟩
     case measure=>simp [intOf];try omega
    ·have HF:=hF hxy
     have q1:(x != y)=true:=by simpa using hxy
     have q2:(x == y)=false:=by simpa using hxy
     clear hF hN hxy
     go_wp2
     go_quiet (fail)
     go_wp2
     go_ret
     exact ⟨by rw [HF.out];rfl,below_drewN HB.out _⟩
   ·have HT:Hid (r=true):=HR.out.trans (list_all (by rw [← Hn.out,← Hn'.out]) fun j g1 g2=>HE.out j g1 g2 (by have:=Hn.out;omega))
    go_wp2
    go_ret
    exact ⟨by rw [HT.out];rfl,HB.out⟩
 ·have HF:Hid (r=false):=HR.out.trans (list_len (by rw [← Hn.out,← Hn'.out];exact hl))
  have q1:((n:Int) != (n':Int))=true:=by rw [bne_iff_ne];omega
  have q2:((n:Int) == (n':Int))=false:=by rw [beq_eq_false_iff_ne];omega
  go_enter Tryz.func75,Tryz.ntmps75
  go_wp2
  go_ret
  exact ⟨by rw [HF.out];rfl,Below.refl _ _⟩
def Like (x y:Nd):Prop:=x.k=y.k∧x.t=y.t∧x.n=y.n∧x.z=y.z∧x.c=y.c∧x.a=y.a
theorem nodes_eq (x y:Nd) (w:World) (hL:Like x y) (hK:KidsAt w x.p x.c) (hK':KidsAt w y.p y.c) (hm:x.c.length≤1000000000000000000) :
  Calls Tryz.prog 36 #[.agg #[.int .i64 x.k,.string x.t,.int .i64 x.n,.int .i64 x.z,.slice x.p x.c.length x.cap,.int .i64 x.a],.agg #[.int .i64 y.k,.string y.t,.int .i64 y.n,.int .i64 y.z,.slice y.p y.c.length y.cap,.int .i64 y.a]] w
   fun e w'=>e=.returned (.bool true)∧Below w.heap.size w w':=by
 obtain ⟨k,t,n,z,p,cap,c,a⟩:=x
 obtain ⟨k',t',n',z',p',cap',c',a'⟩:=y
 obtain ⟨l1,l2,l3,l4,l5,l6⟩:=hL
 simp only at l1 l2 l3 l4 l5 l6 hK hK' hm ⊢
 subst l1;subst l2;subst l3;subst l4;subst l5;subst l6
 have hW:Below w.heap.size w ((w.alloc (.cells #[.int .i64 k,.string t,.int .i64 n,.int .i64 z,.slice p c.length cap,.int .i64 a] 36)).alloc (.cells #[.int .i64 k,.string t,.int .i64 n,.int .i64 z,.slice p' c.length cap',.int .i64 a] 36)):=((Below.refl _ _).alloc (Nat.le_refl _) _).alloc (by simp) _
 have hE:=rints_any c c p p' cap cap' _ (hK.below hW) (hK'.below hW) hm hm
 rw [show decide (c=c)=true from decide_eq_true rfl] at hE
 have HW:=Lib.hid hW
 clear hW hK hK' hm
 have b1:(k == k)=true:=by simp
 have b2:(t.toList == t.toList)=true:=by simp
 go_enter Tryz.func36,Tryz.ntmps36
 go_wp2_with (go_at_call 75;refine hE.mono ?_)
 first | rintro e w3 rfl hb3 | rintro e w3 ⟨rfl,hb3⟩
 have HB3:=Lib.hid (HW.out.trans (hb3.mono (by simp;omega)))
 clear hb3 hE
 go_wp2
 go_ret
 exact ⟨rfl,HB3.out⟩
end Tr
end
section
namespace Tr
open Go.RowKit
end Tr
end
section
namespace Tr
open Go.RowKit
theorem CkR.zero {l:List Nd}{a:Int}(h:CkR l 0 a):a=0:=by
 rcases h with ⟨_,h,_⟩ | ⟨_,_,h⟩
 ·cases h
 ·rcases h with ⟨i,_,_,hne,h,_⟩ | ⟨_,h⟩
  ·exact absurd h.symm hne
  ·rcases h with ⟨_,h,_⟩ | ⟨_,⟨_,h,_⟩ | ⟨_,_,h⟩⟩
   ·cases h
   ·cases h
   ·exact h
end Tr
end
end Go.Proofs.YtbjacclfhgnffaaGreatDoor
