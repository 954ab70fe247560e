/-
  Joined texts of this claim: TrH, TrI, TrJ, TrK, Sa, Sb, Sh.
-/
import Derived.Test.YtdjpopebeenlmaaGreatDoorW00
import Derived.Test.YtdjpopebeenlmaaGreatDoorW09
import Derived.StillTailTactics
import Derived.Outline
import Derived.IntWalk
import Derived.Laws.OwnMore
import Derived.Laws.MakeOwn
import Derived.Laws.Rows
import Derived.Deep.Draws
import Derived.Maps.Own
import Derived.Maps.OwnSet
import Derived.Maps.OwnOps
import Derived.Maps.Views
set_option maxHeartbeats 40000000
set_option maxRecDepth 100000
set_option linter.unusedVariables false
set_option linter.unusedSimpArgs false
namespace Go.Proofs.YtdjpopebeenlmaaGreatDoor
section
namespace Tr
open Go.RowKit

def KidsAt (w:World) (p:Option Addr) (c:List Int):Prop :=
  0<c.length→∃ b o,p=some ⟨b,o,none⟩∧b<w.heap.size∧∀ j,(h:j<c.length)→w.cell? ⟨b,o+j,none⟩=some (.int .i64 c[j])
def NodeAt (w:World) (b o:Nat) (x:Nd):Prop :=
  w.cell? ⟨b,o,none⟩=some (.int .i64 x.k)∧w.cell? ⟨b,o+1,none⟩=some (.string x.t)∧w.cell? ⟨b,o+2,none⟩=some (.int .i64 x.n) ∧
  w.cell? ⟨b,o+3,none⟩=some (.int .i64 x.z)∧w.cell? ⟨b,o+4,none⟩=some (.slice x.p x.c.length x.cap)∧w.cell? ⟨b,o+5,none⟩=some (.int .i64 x.a)
def Tr (w:World) (p:Option Addr) (l:List Nd):Prop :=
  (0<l.length→∃ b o,p=some ⟨b,o,none⟩∧b<w.heap.size∧∀ i,(h:i<l.length)→NodeAt w b (o+i * 6) l[i])∧∀ i,(h:i<l.length)→KidsAt w l[i].p l[i].c
theorem KidsAt.below {w w':World}{p:Option Addr}{c:List Int}(h:KidsAt w p c) (hb:Below w.heap.size w w'):KidsAt w' p c:=fun h0=>by
  obtain ⟨b,o,rfl,hl,hc⟩:=h h0
  exact ⟨b,o,rfl,Nat.lt_of_lt_of_le hl hb.size,fun j hj=>(hb.cell (p:=⟨b,o+j,none⟩) hl).trans (hc j hj)⟩
theorem NodeAt.below {w w':World}{b o:Nat}{x:Nd}(h:NodeAt w b o x) (hb:Below w.heap.size w w') (hl:b<w.heap.size):NodeAt w' b o x:=by
  obtain ⟨h0,h1,h2,h3,h4,h5⟩:=h
  exact ⟨(hb.cell (p:=⟨b,o,none⟩) hl).trans h0,(hb.cell (p:=⟨b,o+1,none⟩) hl).trans h1,(hb.cell (p:=⟨b,o+2,none⟩) hl).trans h2,(hb.cell (p:=⟨b,o+3,none⟩) hl).trans h3,(hb.cell (p:=⟨b,o+4,none⟩) hl).trans h4,(hb.cell (p:=⟨b,o+5,none⟩) hl).trans h5⟩
theorem Tr.below {w w':World}{p:Option Addr}{l:List Nd}(h:Tr w p l) (hb:Below w.heap.size w w'):Tr w' p l :=
  ⟨fun h0=>by
    obtain ⟨b,o,rfl,hl,hc⟩:=h.1 h0
    exact ⟨b,o,rfl,Nat.lt_of_lt_of_le hl hb.size,fun i hi=>(hc i hi).below hb hl⟩,fun i hi=>(h.2 i hi).below hb⟩

theorem lt_of_block {w:World}{g:Nat}{o:Obj}(h:w.heap[g]? = some o):g<w.heap.size:=by
  rcases Nat.lt_or_ge g w.heap.size with hlt | hge
  · exact hlt
  · rw [Array.getElem?_eq_none hge] at h;cases h
/-- what begin tells of a node -/
def BgPost (l:List Nd) (i:Nat) (w:World) (e:Ending) (w':World):Prop :=
  Below w.heap.size w w'∧((codeAt l i=0∧e=.returned (.tuple #[.int .i64 (St l i),.int .i64 0]))∨(codeAt l i≠0∧e=.returned (.tuple #[.int .i64 0,.int .i64 (codeAt l i)])))

set_option maxHeartbeats 4000000 in
set_option maxRecDepth 100000 in
theorem begin_kind (x:Nd) (i b o cap B cnt:Nat) (w:World) (hi:i<600) (hN:NodeAt w b (o+i * 6) x) (hk:kindB x.k=false) :
    Calls Tryz.prog 88 #[.slice (some ⟨b,o,none⟩) (i+1) cap,.slice (some ⟨B,0,none⟩) cnt cnt] w fun e w'=>e=.returned (.tuple #[.int .i64 0,.int .i64 4])∧Below w.heap.size w w':=by
  obtain ⟨k,t,n,z,p,kc,c,a⟩:=x
  obtain ⟨c0,c1,c2,c3,c4,c5⟩:=hN
  simp only at c0 c1 c2 c3 c4 c5 hk
  go_enter Tryz.func88,Tryz.ntmps88
  go_wp2_with (first | (go_at_call 155;refine (kind_any _ _).mono ?_;rintro e w' ⟨rfl,rfl⟩))
  go_ret2
  exact ⟨rfl,(Below.refl _ _).alloc (Nat.le_refl _) _⟩

set_option maxHeartbeats 4000000 in
set_option maxRecDepth 100000 in
theorem begin_size (x:Nd) (i b o cap B cnt:Nat) (w:World) (hi:i<600) (hN:NodeAt w b (o+i * 6) x) (hk:kindB x.k=true) (hs:(x.c.length:Int)<lowV x.k∨highV 9223372036854775807 x.k<x.c.length) :
    Calls Tryz.prog 88 #[.slice (some ⟨b,o,none⟩) (i+1) cap,.slice (some ⟨B,0,none⟩) cnt cnt] w fun e w'=>e=.returned (.tuple #[.int .i64 0,.int .i64 9])∧Below w.heap.size w w':=by
  obtain ⟨k,t,n,z,p,kc,c,a⟩:=x
  obtain ⟨c0,c1,c2,c3,c4,c5⟩:=hN
  simp only at c0 c1 c2 c3 c4 c5 hk hs
  generalize c.length=m at *
  by_cases h1:(m:Int)<lowV k
  · clear hs
    go_enter Tryz.func88,Tryz.ntmps88
    go_wp2_with (first | (go_at_call 155;refine (kind_any _ _).mono ?_;rintro e w' ⟨rfl,rfl⟩) | (go_at_call 156;refine (sizes_any _ _).mono ?_;rintro e w' ⟨rfl,rfl⟩))
    go_ret2
    exact ⟨rfl,(Below.refl _ _).alloc (Nat.le_refl _) _⟩
  · have h2:highV 9223372036854775807 k<m:=by rcases hs with h | h;exact absurd h h1;exact h
    clear hs
    go_enter Tryz.func88,Tryz.ntmps88
    go_wp2_with (first | (go_at_call 155;refine (kind_any _ _).mono ?_;rintro e w' ⟨rfl,rfl⟩) | (go_at_call 156;refine (sizes_any _ _).mono ?_;rintro e w' ⟨rfl,rfl⟩))
    go_ret2
    exact ⟨rfl,(Below.refl _ _).alloc (Nat.le_refl _) _⟩

end Tr
end
section
namespace Tr
open Go.RowKit

def BgMain (l:List Nd) (i:Nat) (x:Nd) (w:World) (e:Ending) (w':World):Prop :=
  Below w.heap.size w w'∧((wayOf l i=none∧e=.returned (.tuple #[.int .i64 0,.int .i64 5]))∨(wayOf l i≠none∧((fieldC x≠0∧e=.returned (.tuple #[.int .i64 0,.int .i64 (fieldC x)]))∨(fieldC x=0∧e=.returned (.tuple #[.int .i64 (St l i),.int .i64 0])))))
theorem walk_zero {S:Nat→Nat}{kd:Nat→Int}{k:Int}{c:List Int}{j:Nat}:walkK S kd k c (j+1) 0=none:=by rw [walkK,if_pos (Or.inl rfl)]
theorem walk_far {S:Nat→Nat}{kd:Nat→Int}{k:Int}{c:List Int}{j q:Nat}(h:c.getD j 0≠(q:Int)):walkK S kd k c (j+1) (q+1)=none:=by rw [walkK,if_pos (Or.inr (Or.inl (by omega)))]
theorem walk_bad {S:Nat→Nat}{kd:Nat→Int}{k:Int}{c:List Int}{j q:Nat}(h:goB k j c.length (kd q)=false):walkK S kd k c (j+1) (q+1)=none:=by
  rw [walkK];exact if_pos (Or.inr (Or.inr h))
theorem walk_on {S:Nat→Nat}{kd:Nat→Int}{k:Int}{c:List Int}{j q:Nat}(h:c.getD j 0=(q:Int)) (h2:goB k j c.length (kd q)=true):walkK S kd k c (j+1) (q+1)=walkK S kd k c j (S q):=by
  rw [walkK,if_neg (by rintro (h' | h' | h');omega;exact h' (by omega);rw [show q+1-1=q from rfl,h2] at h';cases h')];rfl

set_option maxHeartbeats 8000000 in
set_option maxRecDepth 100000 in
theorem begin_main (l:List Nd) (i:Nat) (hi:i<l.length) (x:Nd) (hx:x=l[i]) (b o cap B cnt:Nat) (w:World) (hl:l.length≤600) (hb:b<w.heap.size) (hN:∀ j,(h:j<l.length)→NodeAt w b (o+j * 6) l[j]) (hK:KidsAt w x.p x.c) (hB:B<w.heap.size) (hcnt:i≤cnt)
    (hF:∀ j,j<i→w.cell? ⟨B,j,none⟩=some (.int .i64 (St l j))) (hm:x.c.length≤1000000000000000000) (hk:kindB x.k=true)
    (hs1:¬ (x.c.length:Int)<lowV x.k) (hs2:¬ highV 9223372036854775807 x.k<x.c.length) :
    Calls Tryz.prog 88 #[.slice (some ⟨b,o,none⟩) (i+1) cap,.slice (some ⟨B,0,none⟩) cnt cnt] w (BgMain l i x w):=by
  have hWay:wayOf l i=walkK (St l) (kindAt l) x.k x.c x.c.length i:=by unfold wayOf;rw [kindAt_get hi,kidsAt_get hi,hx]
  have hNi:=hN i hi
  rw [← hx] at hNi
  have HWay:=Lib.hid hWay
  have HN:=Lib.hid hN
  have HF:=Lib.hid hF
  have HK:=Lib.hid hK
  clear hWay hN hF hK hx
  obtain ⟨x',hx'⟩ : ∃ y,y=x:=⟨_,rfl⟩
  have hfc:fieldC x=fieldV x.k x.t x.n x.z x.c.length x.a:=rfl
  unfold BgMain
  rw [hfc]
  clear hfc
  obtain ⟨k,t,n,z,p,kc,c,a⟩:=x
  obtain ⟨c0,c1,c2,c3,c4,c5⟩:=hNi
  simp only at c0 c1 c2 c3 c4 c5 hk hs1 hs2 HWay HK hm ⊢
  clear hx' x'
  obtain ⟨m,hmc⟩ : ∃ m,m=c.length:=⟨_,rfl⟩
  rw [← hmc] at c4 hs1 hs2 hm HWay ⊢
  have HM:=Lib.hid hmc
  clear hmc
  obtain ⟨Q,hQ⟩ : ∃ Q:Ending→World→Prop,Q=fun e w'=>Below w.heap.size w w'∧((wayOf l i=none∧e=.returned (.tuple #[.int .i64 0,.int .i64 5]))∨(wayOf l i≠none∧((fieldV k t n z m a≠0∧e=.returned (.tuple #[.int .i64 0,.int .i64 (fieldV k t n z m a)]))∨(fieldV k t n z m a=0∧e=.returned (.tuple #[.int .i64 (St l i),.int .i64 0]))))):=⟨_,rfl⟩
  have HQ:=Lib.hid hQ
  rw [← hQ]
  clear hQ
  go_enter Tryz.func88,Tryz.ntmps88
  go_wp2_with (first | (go_at_call 155;refine (kind_any _ _).mono ?_;rintro e w' ⟨rfl,rfl⟩) | (go_at_call 156;refine (sizes_any _ _).mono ?_;rintro e w' ⟨rfl,rfl⟩))
  go_loopw [4,9] (fun vs vi wr=>∃ (j at_:Nat) (q:Int),j≤m∧(j:Int)=q+1∧vi=.int .i64 q∧vs=.int .i64 (at_:Nat)∧at_≤i∧Hid (wayOf l i=walkK (St l) (kindAt l) k c j at_) ∧
      Below (w.alloc (.cells #[.int .i64 k,.string t,.int .i64 n,.int .i64 z,.slice p m kc,.int .i64 a] 34)).heap.size (w.alloc (.cells #[.int .i64 k,.string t,.int .i64 n,.int .i64 z,.slice p m kc,.int .i64 a] 34)) wr)
    (fun _ vi _=>(intOf vi+1).toNat)
  case atStart=>exact ⟨m,i,(m:Int)-1,Nat.le_refl _,by omega,rfl,rfl,Nat.le_refl _,HWay.out,Below.refl _ _⟩
  case round =>
    obtain ⟨j,at_,q,hj,hjq,rfl,rfl,hat,HV,hbr⟩:=hrel
    obtain ⟨d0,d1,d2,d3,d4,d5,lr⟩:=box_node hbr
    have hbw:Below w.heap.size w wr:=((Below.refl _ _).alloc (Nat.le_refl _) _).trans (hbr.mono (by simp))
    have HB:=Lib.hid hbw
    have HBR:=Lib.hid hbr
    clear hbw hbr HWay
    rcases Nat.eq_zero_or_pos j with hj0 | hjp
    · obtain rfl:q = -1:=by omega
      subst hj0
      have hw:wayOf l i=some at_:=HV.out
      have HS:Hid (St l i=at_):=by show St l i=at_;rw [St_eq,hw];rfl
      have HW:Hid (wayOf l i≠none):=by show wayOf l i≠none;rw [hw];simp
      clear hw HV
      have hfi:=fields_any k t n z p m kc a wr hm
      generalize hfv:fieldV k t n z m a=v at *
      clear hfv
      by_cases hv:v=0
      · subst hv
        go_wp2_with (go_at_call 158;refine hfi.mono ?_)
        first | rintro e w3 rfl hb3 | rintro e w3 ⟨rfl,hb3⟩
        have HB3:=Lib.hid (HB.out.trans (hb3.mono (Nat.le_of_lt lr)))
        clear hb3
        go_wp2
        rw [HQ.out]
        exact ⟨HB3.out,Or.inr ⟨HW.out,Or.inr ⟨by simp,by rw [HS.out];rfl⟩⟩⟩
      · have hv1:(v != 0)=true:=by simpa using hv
        have hv2:(v == 0)=false:=by simpa using hv
        have HV0:=Lib.hid hv
        clear hv
        go_wp2_with (go_at_call 158;refine hfi.mono ?_)
        first | rintro e w3 rfl hb3 | rintro e w3 ⟨rfl,hb3⟩
        have HB3:=Lib.hid (HB.out.trans (hb3.mono (Nat.le_of_lt lr)))
        clear hb3
        go_wp2
        rw [HQ.out]
        exact ⟨HB3.out,Or.inr ⟨HW.out,Or.inl ⟨by simpa using HV0.out,rfl⟩⟩⟩
    · obtain ⟨j',rfl⟩ : ∃ j',j=j' + 1:=⟨j-1,by omega⟩
      obtain rfl:q=(j':Int):=by omega
      clear hjq hjp
      have hjc:j' < c.length:=by have:=HM.out;omega
      obtain ⟨kb,ko,rfl,hkb,hkc⟩:=HK.out (by omega)
      have ck:=(HB.out.cell (p:=⟨kb,ko+j',none⟩) hkb).trans (hkc j' hjc)
      have hgd:c.getD j' 0=c[j']:=by simp [hjc]
      clear hkc
      rcases Nat.eq_zero_or_pos at_ with ha0 | hap
      · subst ha0
        have HW:Hid (wayOf l i=none):=HV.out.trans walk_zero
        clear HV
        have h0:decide ((0:Int)=0)=true:=by decide
        generalize c[j']=kid at *
        clear hgd
        go_wp2
        go_quiet (fail)
        go_wp2
        rw [HQ.out]
        exact ⟨below_drewN HB.out _,Or.inl ⟨HW.out,rfl⟩⟩
      · obtain ⟨q,rfl⟩ : ∃ q,at_=q+1:=⟨at_-1,by omega⟩
        obtain ⟨A,hA⟩ : ∃ A:Int,A=((q+1:Nat):Int):=⟨_,rfl⟩
        rw [← hA]
        have e1:(A == 0)=false:=by rw [beq_eq_false_iff_ne];omega
        have e2:IntKind.i64.wrap (q:Int)=(q:Int):=IntWalk.i64_in _ (by omega)
        have e3:A-1=(q:Int):=by omega
        clear hA
        by_cases he:c[j']=(q:Int)
        · have hql:q<l.length:=by omega
          have hN0:=(HN.out q hql).below HB.out hb
          have n0:=hN0.1
          have hkq:l[q].k=kindAt l q:=(kindAt_get hql).symm
          rw [hkq] at n0
          rw [he] at ck hgd
          have HS:=(HB.out.cell (p:=⟨B,q,none⟩) hB).trans (HF.out q (by omega))
          have hbad:goB k (j':Int) (m:Int) (kindAt l q)=false→Hid (wayOf l i=none):=fun h=>HV.out.trans (walk_bad (by rw [HM.out] at h;exact h))
          have hgood:goB k (j':Int) (m:Int) (kindAt l q)=true→Hid (wayOf l i=walkK (St l) (kindAt l) k c j' (St l q)):=fun h=>HV.out.trans (walk_on hgd (by rw [HM.out] at h;exact h))
          have hsl:=St_le l q
          clear hgd hkq hN0 HV he
          generalize kindAt l q=kd at *
          generalize St l q=sq at *
          have hBw:B<w.heap.size:=hB
          cases hg:goB k (j':Int) (m:Int) kd with
          | false =>
            have HW:=hbad hg
            clear hbad hgood
            go_wp2
            refine wp_region_still_tail 16 (by kernel_rfl) (by kernel_rfl) ?_
            change wpStill Tryz.prog _ wr.drew (fun a'=>wpList Tryz.prog _ _ _ a' wr.drew) _ _
            have g0:wr.drew.cell? ⟨w.heap.size,0,none⟩=some (.int .i64 k):=d0
            have g1:wr.drew.cell? ⟨w.heap.size,1,none⟩=some (.string t):=d1
            have g2:wr.drew.cell? ⟨w.heap.size,2,none⟩=some (.int .i64 n):=d2
            have g3:wr.drew.cell? ⟨w.heap.size,3,none⟩=some (.int .i64 z):=d3
            have g4:wr.drew.cell? ⟨w.heap.size,4,none⟩=some (.slice (some ⟨kb,ko,none⟩) m kc):=d4
            have g5:wr.drew.cell? ⟨w.heap.size,5,none⟩=some (.int .i64 a):=d5
            have g6:wr.drew.cell? ⟨b,o+q * 6,none⟩=some (.int .i64 kd):=n0
            have HBd:Hid (Below w.heap.size w wr.drew):=HB.out.drew
            have HBRd:Hid (Below (w.alloc (.cells #[.int .i64 k,.string t,.int .i64 n,.int .i64 z,.slice (some ⟨kb,ko,none⟩) m kc,.int .i64 a] 34)).heap.size (w.alloc (.cells #[.int .i64 k,.string t,.int .i64 n,.int .i64 z,.slice (some ⟨kb,ko,none⟩) m kc,.int .i64 a] 34)) wr.drew):=HBR.out.drew
            have HSd:wr.drew.cell? ⟨B,q,none⟩=some (.int .i64 sq):=HS
            have lrd:w.heap.size<wr.drew.heap.size:=lr
            clear d0 d1 d2 d3 d4 d5 n0 ck HB HBR HS lr
            generalize wr.drew=wd at *
            simp only [List.take_succ_cons,List.take_zero,List.drop_succ_cons,List.drop_zero]
            have hqi:(q:Int)<(i:Int)+1:=by omega
            repeat still_step
            refine wpStill_nil ?_
            clear hqi
            have htk:=takes_any k t n z (some ⟨kb,ko,none⟩) m kc a (j':Int) kd wd hm
            rw [hg] at htk
            have HG:=Lib.hid hg
            clear hg
            go_wp2_with (go_at_call 157;refine htk.mono ?_)
            first | rintro e w3 rfl hb3 | rintro e w3 ⟨rfl,hb3⟩
            have HB3:=Lib.hid (HBd.out.trans (hb3.mono (Nat.le_of_lt lrd)))
            have HBR3:=Lib.hid (HBRd.out.trans (hb3.mono (by simp;omega)))
            have c3:=(hb3.cell (p:=⟨B,q,none⟩) (Nat.lt_trans hBw lrd)).trans HSd
            clear hb3 htk g0 g1 g2 g3 g4 g5 g6 HSd
            go_wp2
            rw [HQ.out]
            exact ⟨HB3.out,Or.inl ⟨HW.out,rfl⟩⟩
          | true =>
            have HW:=hgood hg
            clear hbad hgood
            go_wp2
            refine wp_region_still_tail 16 (by kernel_rfl) (by kernel_rfl) ?_
            change wpStill Tryz.prog _ wr.drew (fun a'=>wpList Tryz.prog _ _ _ a' wr.drew) _ _
            have g0:wr.drew.cell? ⟨w.heap.size,0,none⟩=some (.int .i64 k):=d0
            have g1:wr.drew.cell? ⟨w.heap.size,1,none⟩=some (.string t):=d1
            have g2:wr.drew.cell? ⟨w.heap.size,2,none⟩=some (.int .i64 n):=d2
            have g3:wr.drew.cell? ⟨w.heap.size,3,none⟩=some (.int .i64 z):=d3
            have g4:wr.drew.cell? ⟨w.heap.size,4,none⟩=some (.slice (some ⟨kb,ko,none⟩) m kc):=d4
            have g5:wr.drew.cell? ⟨w.heap.size,5,none⟩=some (.int .i64 a):=d5
            have g6:wr.drew.cell? ⟨b,o+q * 6,none⟩=some (.int .i64 kd):=n0
            have HBd:Hid (Below w.heap.size w wr.drew):=HB.out.drew
            have HBRd:Hid (Below (w.alloc (.cells #[.int .i64 k,.string t,.int .i64 n,.int .i64 z,.slice (some ⟨kb,ko,none⟩) m kc,.int .i64 a] 34)).heap.size (w.alloc (.cells #[.int .i64 k,.string t,.int .i64 n,.int .i64 z,.slice (some ⟨kb,ko,none⟩) m kc,.int .i64 a] 34)) wr.drew):=HBR.out.drew
            have HSd:wr.drew.cell? ⟨B,q,none⟩=some (.int .i64 sq):=HS
            have lrd:w.heap.size<wr.drew.heap.size:=lr
            clear d0 d1 d2 d3 d4 d5 n0 ck HB HBR HS lr
            generalize wr.drew=wd at *
            simp only [List.take_succ_cons,List.take_zero,List.drop_succ_cons,List.drop_zero]
            have hqi:(q:Int)<(i:Int)+1:=by omega
            repeat still_step
            refine wpStill_nil ?_
            clear hqi
            have htk:=takes_any k t n z (some ⟨kb,ko,none⟩) m kc a (j':Int) kd wd hm
            rw [hg] at htk
            have HG:=Lib.hid hg
            clear hg
            go_wp2_with (go_at_call 157;refine htk.mono ?_)
            first | rintro e w3 rfl hb3 | rintro e w3 ⟨rfl,hb3⟩
            have HB3:=Lib.hid (HBd.out.trans (hb3.mono (Nat.le_of_lt lrd)))
            have HBR3:=Lib.hid (HBRd.out.trans (hb3.mono (by simp;omega)))
            have c3:=(hb3.cell (p:=⟨B,q,none⟩) (Nat.lt_trans hBw lrd)).trans HSd
            clear hb3 htk g0 g1 g2 g3 g4 g5 g6 HSd
            go_wp2
            go_roundw
            case rel=>exact ⟨j',sq,(j':Int)-1,by omega,by omega,by go_num,by go_num,by omega,HW,HBR3.out⟩
            case measure=>simp [intOf];try omega
        · have HW:Hid (wayOf l i=none):=HV.out.trans (walk_far (by rw [hgd];exact he))
          have h1:(c[j'] == (q:Int))=false:=by simpa using he
          have h2:(c[j'] != (q:Int))=true:=by simpa using he
          clear HV hgd he
          generalize c[j']=kid at *
          go_wp2
          go_quiet (fail)
          go_wp2
          rw [HQ.out]
          exact ⟨below_drewN HB.out _,Or.inl ⟨HW.out,rfl⟩⟩
end Tr
end
section
namespace Tr
open Go.RowKit

theorem begin_any (l:List Nd) (i:Nat) (hi:i<l.length) (b o cap B cnt:Nat) (w:World) (hl:l.length≤600) (hb:b<w.heap.size) (hN:∀ j,(h:j<l.length)→NodeAt w b (o+j * 6) l[j]) (hK:KidsAt w l[i].p l[i].c) (hB:B<w.heap.size) (hcnt:i≤cnt)
    (hF:∀ j,j<i→w.cell? ⟨B,j,none⟩=some (.int .i64 (St l j))) (hm:l[i].c.length≤1000000000000000000) :
    Calls Tryz.prog 88 #[.slice (some ⟨b,o,none⟩) (i+1) cap,.slice (some ⟨B,0,none⟩) cnt cnt] w (BgPost l i w):=by
  have hc:codeAt l i=nodeC l i l[i]:=codeAt_get hi
  cases hk:kindB l[i].k with
  | false =>
    refine (begin_kind l[i] i b o cap B cnt w (by omega) (hN i hi) hk).mono fun e w' ⟨he,hbel⟩=>?_
    have h4:codeAt l i=4:=by rw [hc];unfold nodeC;rw [if_pos hk]
    exact ⟨hbel,Or.inr ⟨by rw [h4];decide,by rw [h4];exact he⟩⟩
  | true =>
    by_cases hs:(l[i].c.length:Int)<lowV l[i].k∨highV 9223372036854775807 l[i].k<l[i].c.length
    · refine (begin_size l[i] i b o cap B cnt w (by omega) (hN i hi) hk hs).mono fun e w' ⟨he,hbel⟩=>?_
      have h4:codeAt l i=9:=by rw [hc];unfold nodeC;rw [if_neg (by rw [hk];simp),if_pos hs]
      exact ⟨hbel,Or.inr ⟨by rw [h4];decide,by rw [h4];exact he⟩⟩
    · refine (begin_main l i hi l[i] rfl b o cap B cnt w hl hb hN hK hB hcnt hF hm hk (fun h=>hs (Or.inl h)) (fun h=>hs (Or.inr h))).mono fun e w' ⟨hbel,he⟩=>?_
      have hn:codeAt l i=if wayOf l i=none then 5 else fieldC l[i]:=by rw [hc];unfold nodeC;rw [if_neg (by rw [hk];simp),if_neg hs]
      rcases he with ⟨hw,he⟩ | ⟨hw,⟨hf,he⟩ | ⟨hf,he⟩⟩
      · rw [if_pos hw] at hn
        exact ⟨hbel,Or.inr ⟨by rw [hn];decide,by rw [hn];exact he⟩⟩
      · rw [if_neg hw] at hn
        exact ⟨hbel,Or.inr ⟨by rw [hn];exact hf,by rw [hn];exact he⟩⟩
      · rw [if_neg hw] at hn
        exact ⟨hbel,Or.inl ⟨by rw [hn];exact hf,he⟩⟩

/-- the kids of a node whose way is fine come one behind the other, ahead of it -/
theorem walkK_kids {S:Nat→Nat}{kd:Nat→Int}{k:Int}{c:List Int}(hS:∀ j,S j≤j):∀ (i at_ r:Nat),walkK S kd k c i at_=some r→i≤at_∧∀ j,j<i→∃ q:Nat,q<at_∧c.getD j 0=(q:Int):=by
  intro i
  induction i with
  | zero=>intro at_ r _;exact ⟨Nat.zero_le _,fun j h=>by omega⟩
  | succ i ih =>
    intro at_ r h
    rw [walkK] at h
    split at h
    · cases h
    · rename_i hn
      have h0:at_≠0:=fun e=>hn (Or.inl e)
      have h1:c.getD i 0=(at_:Int)-1:=Decidable.byContradiction fun e=>hn (Or.inr (Or.inl e))
      have hs:=hS (at_-1)
      obtain ⟨h2,h3⟩:=ih _ _ h
      refine ⟨by omega,fun j hj=>?_⟩
      by_cases e:j=i
      · subst e;exact ⟨at_-1,by omega,by omega⟩
      · obtain ⟨q,hq,hc⟩:=h3 j (by omega)
        exact ⟨q,by omega,hc⟩
theorem code_way {l:List Nd}{j:Nat}(hj:j<l.length) (h:codeAt l j=0):wayOf l j≠none:=by
  intro hw
  rw [codeAt_get hj] at h
  unfold nodeC at h
  split at h
  · cases h
  · split at h
    · cases h
    · first | (rw [if_pos hw] at h;cases h;done) | cases h
theorem code_kids {l:List Nd}{j:Nat}(hj:j<l.length) (h:codeAt l j=0):l[j].c.length≤j∧∀ i,(hi:i<l[j].c.length)→∃ q:Nat,q<j∧l[j].c[i]=(q:Int):=by
  have hw:=code_way hj h
  cases hr:wayOf l j with
  | none=>exact absurd hr hw
  | some r =>
    unfold wayOf at hr
    rw [kidsAt_get hj] at hr
    obtain ⟨h1,h2⟩:=walkK_kids (St_le l) _ _ _ hr
    exact ⟨h1,fun i hi=>by
      obtain ⟨q,hq,e⟩:=h2 i hi
      exact ⟨q,hq,by rw [← e];simp [hi]⟩⟩
theorem maxI_snoc (d:Nat→Nat) (c:List Int) (x:Int):maxI d (c ++ [x])=max (maxI d c) (d x.toNat):=by
  induction c with
  | nil=>simp [maxI]
  | cons y c ih=>simp only [List.cons_append,maxI,ih];omega

def Blk (w:World) (g:Nat) (t:TypeId) (cs:Array Value):Prop:=w.heap[g]? = some (.cells cs t (0,0))
section
variable {w w':World}{g:Nat}{t:TypeId}{cs:Array Value}
theorem Blk.lt (h:Blk w g t cs):g<w.heap.size:=lt_of_block h
theorem Blk.cell (h:Blk w g t cs) (i:Nat):w.cell? ⟨g,i,none⟩=cs[i]?:=cell_of_row w g i cs t (0,0) h
theorem Blk.frozen (h:Blk w g t cs) (i:Nat):w.frozen? ⟨g,i,none⟩=false:=by
  unfold Blk at h
  simp [World.frozen?,h]
theorem Blk.new (w:World) (t:TypeId) (cs:Array Value):Blk (w.alloc (.cells cs t)) w.heap.size t cs:=heap_alloc_new w _
theorem Blk.alloc (h:Blk w g t cs) (o:Obj):Blk (w.alloc o) g t cs:=(Below.heap_alloc w o g h.lt).trans h
theorem Blk.set_ (h:Blk w g t cs) (i:Nat) (u:Value):Blk (w.setCell ⟨g,i,none⟩ u) g t (cs.setIfInBounds i u):=by
  unfold Blk at h ⊢
  simp [World.setCell,Array.getElem?_modify,h]
theorem Blk.far (h:Blk w g t cs) {p:Addr}(hp:g≠p.block) (u:Value):Blk (w.setCell p u) g t cs:=(Below.heap_setCell w p u g hp).trans h
theorem Blk.below {B:Nat}(h:Blk w g t cs) (hb:Below B w w') (hg:g<B):Blk w' g t cs:=(hb.block g hg).trans h
theorem Blk.grown {row:Option Nat}(h:Blk w g t cs) (hb:w.grownBy w' row) (hg:some g≠row):Blk w' g t cs:=(hb.block g h.lt hg).trans h
theorem Blk.drew (h:Blk w g t cs):Blk w.drew g t cs:=h
end
/-- a list of numbers that fills a block, zeros behind it -/
def numC (n:Nat) (xs:List Nat):Array Value:=(xs.map (fun x:Nat=>Value.int .i64 (x:Int)) ++ List.replicate (n-xs.length) (Value.int .i64 0)).toArray
theorem numC_get {n j:Nat}{xs:List Nat}(h:j<xs.length):(numC n xs)[j]? = some (.int .i64 ((xs.getD j 0:Nat):Int)):=by
  unfold numC
  rw [List.getElem?_toArray,List.getElem?_append_left (by rw [List.length_map];exact h)]
  simp [h]
theorem numC_zero {n j:Nat}{xs:List Nat}(h:xs.length≤j) (hn:j<n):(numC n xs)[j]? = some (.int .i64 0):=by
  unfold numC
  rw [List.getElem?_toArray,List.getElem?_append_right (by rw [List.length_map];exact h)]
  rw [List.getElem?_replicate,if_pos (by rw [List.length_map];omega)]
theorem numC_snoc {n:Nat}{xs:List Nat}(v:Nat) (h:xs.length<n):(numC n xs).setIfInBounds xs.length (.int .i64 (v:Int))=numC n (xs ++ [v]):=by
  apply Array.ext'
  unfold numC
  rw [Array.toList_setIfInBounds]
  simp only [List.map_append,List.map_cons,List.map_nil,List.length_append,List.length_cons,List.length_nil]
  rw [List.set_append,if_neg (by rw [List.length_map];omega),List.length_map,Nat.sub_self]
  obtain ⟨r,hr⟩ : ∃ r,n-xs.length=r+1:=⟨n-xs.length-1,by omega⟩
  rw [hr,show n-(xs.length+(0+1))=r by omega,List.replicate_succ,List.set_cons_zero,List.append_assoc]
  rfl
theorem numC_last {n:Nat}{xs:List Nat}(u v:Nat):(numC n (xs ++ [u])).setIfInBounds xs.length (.int .i64 (v:Int))=numC n (xs ++ [v]):=by
  apply Array.ext'
  unfold numC
  rw [Array.toList_setIfInBounds]
  simp only [List.map_append,List.map_cons,List.map_nil,List.length_append,List.length_cons,List.length_nil]
  rw [List.append_assoc,List.set_append,if_neg (by rw [List.length_map];omega),List.length_map,Nat.sub_self,List.append_assoc]
  rfl
theorem numC_made (n:Nat):madeCells #[Value.int .i64 0] n=numC n []:=by
  apply Array.ext'
  rw [toList_madeCells_one]
  simp [numC]
end Tr
end
section
namespace Tr
open Go.RowKit

theorem info3:(Tryz.prog.info? 3).map (fun i=>(i.zero,i.size,i.bytes))=some (some (.int .i64 0),1,8):=by kernel_rfl
theorem make_ints (n:Nat) (w:World) (h:n≤1000000) :
    (Instr.makeSlice 32 (.int .i64 (n:Int)) (.int .i64 (n:Int))).run Tryz.prog w=.ok (.slice (some ⟨w.heap.size,0,none⟩) n n) (w.alloc (.cells (numC n []) 3)):=by
  obtain ⟨i0,hi,hz0,hz1,hz2⟩:=info_parts info3
  have:=run_make (P:=Tryz.prog) w 32 3 i0 (.int .i64 0) Tryz.underlying32 hi hz0 .i64 .i64 n n (by omega) (Int.le_refl _) (by rw [hz2];omega) (by omega)
  rw [hz1] at this
  simp only [Int.toNat_natCast,Nat.mul_one] at this
  rw [this,← numC_made]
  rfl

theorem numC_pad {n:Nat}{xs:List Nat}(h:xs.length<n):numC n xs=numC n (xs ++ [0]):=by
  rw [← numC_snoc 0 h]
  apply Array.ext'
  rw [Array.toList_setIfInBounds]
  apply List.ext_getElem?
  intro j
  rw [List.getElem?_set]
  split
  · rename_i e
    subst e
    have h1:=numC_zero (n:=n) (xs:=xs) (j:=xs.length) (Nat.le_refl _) h
    have hsz:xs.length<(numC n xs).toList.length:=by unfold numC;simp;omega
    rw [Array.getElem?_toList,h1,if_pos hsz]
    rfl
  · rfl
theorem deeps_succ (l:List Nd) (k:Nat):deeps l (k+1)=deeps l k ++ [maxI (fun j=>(deeps l k).getD j 0) (kidsAt l k)+1]:=rfl
theorem maxI_le {d:Nat→Nat}{K:Nat}(h:∀ q,d q≤K) (c:List Int):maxI d c≤K:=by
  induction c with
  | nil=>exact Nat.zero_le _
  | cons x c ih=>have:=h x.toNat;simp only [maxI];omega
theorem deeps_le (l:List Nd) (k:Nat):∀ q,(deeps l k).getD q 0≤k:=by
  induction k with
  | zero=>intro q;simp [deeps]
  | succ k ih =>
    intro q
    have hm:=maxI_le ih (kidsAt l k)
    simp only [List.getD] at ih hm ⊢
    rw [deeps_succ]
    by_cases hq:q<(deeps l k).length
    · rw [List.getElem?_append_left hq];have:=ih q;omega
    · rw [List.getElem?_append_right (by omega)]
      by_cases e:q-(deeps l k).length=0
      · rw [e];simpa using hm
      · rw [List.getElem?_eq_none (by simp;omega)];simp
theorem if_max (M d:Nat):(if M<d then (d:Int) else (M:Int))=((max M d:Nat):Int):=by split <;> omega
theorem snoc_getD {xs:List Nat}{u:Nat}{j:Nat}(h:j<xs.length):(xs ++ [u]).getD j 0=xs.getD j 0:=by
  simp only [List.getD];rw [List.getElem?_append_left h]
theorem snoc_last {xs:List Nat}{u:Nat}:(xs ++ [u]).getD xs.length 0=u:=by
  simp only [List.getD];rw [List.getElem?_append_right (Nat.le_refl _)];simp

set_option maxHeartbeats 8000000 in
set_option maxRecDepth 100000 in
theorem depth_any (l:List Nd) (b o cap:Nat) (w:World) (hl:l.length≤600) (h0:0<l.length) (hb:b<w.heap.size) (hN:∀ j,(h:j<l.length)→NodeAt w b (o+j * 6) l[j]) (hK:∀ j,(h:j<l.length)→KidsAt w l[j].p l[j].c)
    (hg:∀ j,j<l.length→codeAt l j=0) :
    Calls Tryz.prog 89 #[.slice (some ⟨b,o,none⟩) l.length cap] w fun e w'=>e=.returned (.int .i64 (Dp l (l.length-1)))∧Below w.heap.size w w':=by
  have HN:=Lib.hid hN
  have HK:=Lib.hid hK
  have HG:=Lib.hid hg
  clear hN hK hg
  obtain ⟨n,hn⟩ : ∃ n,n=l.length:=⟨_,rfl⟩
  rw [← hn] at hl h0 ⊢
  have Hn:=Lib.hid hn
  clear hn
  have hmk:=make_ints n w (by omega)
  go_enter Tryz.func89,Tryz.ntmps89
  go_wp2
  have HMK:=Lib.hid hmk
  clear hmk
  go_loopw [13] (fun v wr=>∃ k:Nat,k≤n∧v=.int .i64 k∧Blk wr w.heap.size 3 (numC n (deeps l k))∧Below w.heap.size w wr) (fun v _=>n-(intOf v).toNat)
  case atStart=>exact ⟨0,Nat.zero_le _,rfl,Blk.new _ _ _,(Below.refl _ _).alloc (Nat.le_refl _) _⟩
  case round =>
    obtain ⟨k,hk,rfl,hB,hbel⟩:=hrel
    obtain ⟨wo,rfl⟩ : ∃ wo:World,wo=wr:=⟨_,rfl⟩
    have HBel:=Lib.hid hbel
    have hDlt:=hB.lt
    clear hbel
    by_cases hlt:k<n
    · have hkl:k<l.length:=by have:=Hn.out;omega
      obtain ⟨c0,c1,c2,c3,c4,c5⟩:=(HN.out k hkl).below HBel.out hb
      obtain ⟨hcl,hck⟩:=code_kids hkl (HG.out k hkl)
      have hKk:=HK.out k hkl
      have hkk:kidsAt l k=l[k].c:=kidsAt_get hkl
      have HS:Hid (deeps l (k+1)=deeps l k ++ [maxI (fun j=>(deeps l k).getD j 0) l[k].c+1]):=by show _=_;rw [deeps_succ,hkk]
      have hdl:(deeps l k).length=k:=deeps_length l k
      clear hkk
      generalize l[k]=x at *
      obtain ⟨xk,t,xn,z,p,kc,c,a⟩:=x
      simp only at c0 c1 c2 c3 c4 c5 hcl hck hKk HS
      obtain ⟨d,hd⟩ : ∃ d:Nat→Nat,d=fun j=>(deeps l k).getD j 0:=⟨_,rfl⟩
      rw [← hd] at HS
      obtain ⟨xs,hxs⟩ : ∃ xs,xs=deeps l k:=⟨_,rfl⟩
      rw [← hxs] at hB hd HS hdl
      have Hxs:=Lib.hid hxs
      have Hd:=Lib.hid hd
      have Hdl:=Lib.hid hdl
      have HCK:=Lib.hid hck
      have HKK:=Lib.hid hKk
      clear hxs hd hdl hck hKk
      obtain ⟨m,hm⟩ : ∃ m,m=c.length:=⟨_,rfl⟩
      rw [← hm] at c4 hcl
      have Hm:=Lib.hid hm
      clear hm
      go_wp2
      go_loopw [21] (fun v wi=>∃ j:Nat,j≤m∧v=.int .i64 j∧Blk wi w.heap.size 3 (numC n (xs ++ [maxI d (c.take j)]))∧Below w.heap.size w wi) (fun v _=>m-(intOf v).toNat)
      case atStart=>exact ⟨0,Nat.zero_le _,rfl,by rw [← show numC n xs=numC n (xs ++ [maxI d (c.take 0)]) from numC_pad (by rw [Hdl.out];exact hlt)];exact hB.alloc _,HBel.out.alloc (Nat.le_of_lt hDlt) _⟩
      case round =>
        obtain ⟨j,hj,rfl,hBi,hbi⟩:=hrel
        have HBi:=Lib.hid hbi
        have hDi:=hBi.lt
        clear hbi hB
        by_cases hjt:j<m
        · have hjc:j<c.length:=by have:=Hm.out;omega
          obtain ⟨q,hq,hcq⟩:=HCK.out j hjc
          obtain ⟨kb,ko,rfl,hkb,hkc⟩:=HKK.out (by omega)
          have hxl:xs.length=k:=Hdl.out
          have e0:=(HBi.out.cell (p:=⟨kb,ko+j,none⟩) hkb).trans (hkc j hjc)
          rw [hcq] at e0
          have f0:wr.cell? ⟨w.heap.size,k,none⟩=some (.int .i64 ((maxI d (c.take j):Nat):Int)):=by
            have h1:=numC_get (n:=n) (j:=xs.length) (xs:=xs ++ [maxI d (c.take j)]) (by simp)
            rw [snoc_last,hxl] at h1
            rw [hBi.cell];exact h1
          have f1:wr.cell? ⟨w.heap.size,q,none⟩=some (.int .i64 ((d q:Nat):Int)):=by
            have h1:=numC_get (n:=n) (j:=q) (xs:=xs ++ [maxI d (c.take j)]) (by simp;omega)
            rw [snoc_getD (by omega)] at h1
            have hdq:d q=xs.getD q 0:=by rw [Hd.out]
            rw [hBi.cell,hdq];exact h1
          have f2:=hBi.frozen k
          have hmx:maxI d (c.take (j+1))=max (maxI d (c.take j)) (d q):=by
            rw [List.take_succ_eq_append_getElem hjc,maxI_snoc,hcq];rfl
          have hset:Hid (∀ W:World,Blk W w.heap.size 3 (numC n (xs ++ [maxI d (c.take j)]))→Blk (W.setCell ⟨w.heap.size,k,none⟩ (.int .i64 ((maxI d (c.take (j+1)):Nat):Int))) w.heap.size 3 (numC n (xs ++ [maxI d (c.take (j+1))]))):=fun W hW=>by
            rw [← numC_last (maxI d (c.take j)),hxl];exact hW.set_ _ _
          have HB0:=Lib.hid hBi
          have Hmx:=Lib.hid hmx
          clear hBi hkc hcq hmx hxl
          generalize maxI d (c.take j)=M at *
          generalize d q=dq at *
          go_wp2
          go_region
          all_goals go_wp2
          go_roundw
          case rel =>
            refine ⟨j+1,by omega,by go_num,?_,(HBi.out.setCell (p:=⟨w.heap.size,k,none⟩) (Nat.le_refl _) _).drew⟩
            have h:=hset.out _ HB0.out
            rw [Hmx.out] at h ⊢
            rw [if_max M dq]
            exact h
          case measure=>simp [intOf];try omega
        · have hct:c.take j=c:=List.take_of_length_le (by have:=Hm.out;omega)
          rw [hct] at hBi
          have hxl:xs.length=k:=Hdl.out
          have f0:wr.cell? ⟨w.heap.size,k,none⟩=some (.int .i64 ((maxI d c:Nat):Int)):=by
            have h1:=numC_get (n:=n) (j:=xs.length) (xs:=xs ++ [maxI d c]) (by simp)
            rw [snoc_last,hxl] at h1
            rw [hBi.cell];exact h1
          have f2:=hBi.frozen k
          have hset:Hid (Blk (wr.setCell ⟨w.heap.size,k,none⟩ (.int .i64 ((maxI d c+1:Nat):Int))) w.heap.size 3 (numC n (deeps l (k+1)))):=by
            show Blk _ _ _ _
            rw [HS.out,← numC_last (maxI d c),hxl];exact hBi.set_ _ _
          clear hBi hxl hct
          have hM:maxI d c≤k:=maxI_le (fun q=>by rw [Hd.out];show xs.getD q 0≤k;rw [Hxs.out];exact deeps_le l k q) c
          generalize maxI d c=M at *
          go_wp2
          go_roundw
          case rel=>exact ⟨k+1,by omega,by go_num,by simpa using hset.out,HBi.out.setCell (p:=⟨w.heap.size,k,none⟩) (Nat.le_refl _) _⟩
          case measure=>simp [intOf];try omega
    · have hkn:k=n:=by omega
      subst hkn
      have f0:wo.cell? ⟨w.heap.size,k-1,none⟩=some (.int .i64 ((Dp l (k-1):Nat):Int)):=by
        have h1:=numC_get (n:=k) (j:=k-1) (xs:=deeps l k) (by rw [deeps_length];omega)
        rw [deeps_get l (by omega)] at h1
        rw [hB.cell];exact h1
      have e1:(k:Int)-1=((k-1:Nat):Int):=by omega
      clear hB
      obtain ⟨dd,hdd⟩ : ∃ dd,dd=Dp l (k-1):=⟨_,rfl⟩
      rw [← hdd] at f0
      have HDD:=Lib.hid hdd
      clear hdd
      go_wp2
      go_ret
      exact ⟨by rw [← HDD.out];rfl,HBel.out⟩
end Tr
end
section
namespace Sc
open Go.RowKit
open Tr

/-- what is declared: nodes and their rooms, the eldest first -/
abbrev Env:=List (Nat × Nat)
/-- what is written: at which node, and what it stands for -/
abbrev Wr:=List (Nat × Int)
inductive Rs where
  | ok (E:Env) (W:Wr)
  | bad (c a:Int)
  | out
def tx (l:List Nd) (j:Nat):List UInt8:=((l[j]?).map (·.t.data.toList)).getD []
def roomF (l:List Nd) (E:Env) (r:Nat) (s:List UInt8):Option Nat:=(E.find? fun p=>p.2 == r && tx l p.1 == s).map (·.1)
def findF (l:List Nd) (E:Env) (s:List UInt8):Nat→Option Nat
  | 0=>none
  | r+1=>match roomF l E r s with
    | some j=>some j
    | none=>findF l E s r
def libB (s:List UInt8):Bool:=s == [114,101,97,100] || s == [112,114,105,110,116]
def opB (k:Int):Bool:=decide (k=3∨k=11∨k=17∨k=18)
def declF (l:List Nd) (now k:Nat) (E:Env):Rs:=if (roomF l E now (tx l k)).isSome then .bad 7 k else .ok (E ++ [(k,now)]) [(k,k)]
def nameF (l:List Nd) (now k:Nat) (E:Env):Rs:=match findF l E (tx l k) (now+1) with
  | some j=>if kindAt l j=3 then .bad 6 k else .ok E [(k,j)]
  | none=>.bad 6 k
def callF (l:List Nd) (k:Nat) (E:Env):Rs:=if libB (tx l k) then .ok E [(k,-1)] else match roomF l E 0 (tx l k) with
  | some j=>if kindAt l j=3 then .ok E [(k,j)] else .bad 6 k
  | none=>.bad 6 k
/-- a node by itself -/
def own (l:List Nd) (now k:Nat) (E:Env):Rs :=
  if kindAt l k=2∨kindAt l k=3 then .ok E [(k,k)] else if kindAt l k=4∨kindAt l k=12 then declF l now k E
  else if kindAt l k=32 then nameF l now k E else if kindAt l k=33 then callF l k E else .ok E []
def Rs.pre (W:Wr):Rs→Rs
  | .ok E W'=>.ok E (W ++ W')
  | r=>r
def Rs.bind:Rs→(Env→Rs)→Rs
  | .ok E W,f=>(f E).pre W
  | .bad c a,_=>.bad c a
  | .out,_=>.out
def Rs.back (E:Env):Rs→Rs
  | .ok _ W=>.ok E W
  | r=>r
def each (f:Nat→Env→Rs):List Int→Env→Rs
  | [],E=>.ok E []
  | c :: cs,E=>(f c.toNat E).bind (each f cs)
/-- the kids of a node, by what a node does in a room -/
def kidsF (l:List Nd) (g:Nat→Nat→Env→Rs) (now k:Nat) (E:Env):Rs :=
  if opB (kindAt l k)=true then (each (g (now+1)) (kidsAt l k) E).back E else each (g now) (kidsAt l k) E
def look (l:List Nd):Nat→Nat→Nat→Env→Rs
  | 0,_,_,_=>.out
  | f+1,now,k,E=>if kindAt l k=12 then (kidsF l (look l f) now k E).bind (own l now k) else (own l now k E).bind (kidsF l (look l f) now k)
/-- what is declared at the top -/
def tops (l:List Nd):List Int→Env→Rs
  | [],E=>.ok E []
  | c :: cs,E=>if libB (tx l c.toNat)=true then .bad 12 c.toNat else (declF l 0 c.toNat E).bind (tops l cs)
/-- a list with what is written into it -/
def ov (W:Wr) (fs:List Int):List Int:=W.foldl (fun fs p=>fs.set p.1 p.2) fs

theorem pre_nil (r:Rs):r.pre []=r:=by cases r <;> rfl
theorem pre_pre (r:Rs) (W W':Wr):(r.pre W').pre W=r.pre (W ++ W'):=by cases r <;> simp [Rs.pre]
theorem pre_ok {r:Rs}{W W1:Wr}{E:Env}(h:r.pre W=.ok E W1):∃ W2,r=.ok E W2∧W1=W ++ W2:=by
  cases r with
  | ok E2 W2=>simp only [Rs.pre,Rs.ok.injEq] at h;exact ⟨W2,by rw [h.1],h.2.symm⟩
  | bad c a=>cases h
  | out=>cases h
theorem bind_ok {r:Rs}{f:Env→Rs}{E:Env}{W:Wr}(h:r.bind f=.ok E W):∃ E1 W1 W2,r=.ok E1 W1∧f E1=.ok E W2∧W=W1 ++ W2:=by
  cases r with
  | ok E1 W1 =>
    obtain ⟨W2,h1,h2⟩:=pre_ok h
    exact ⟨E1,W1,W2,rfl,h1,h2⟩
  | bad c a=>cases h
  | out=>cases h
theorem back_ok {r:Rs}{E E1:Env}{W:Wr}(h:r.back E=.ok E1 W):E1=E∧∃ E2,r=.ok E2 W:=by
  cases r with
  | ok E2 W2=>simp only [Rs.back,Rs.ok.injEq] at h;exact ⟨h.1.symm,E2,by rw [h.2]⟩
  | bad c a=>cases h
  | out=>cases h
theorem ov_one (k:Nat) (v:Int) (fs:List Int):ov [(k,v)] fs=fs.set k v:=rfl
theorem ov_app (W W':Wr) (fs:List Int):ov (W ++ W') fs=ov W' (ov W fs):=by simp [ov]
theorem ov_len (W:Wr):∀ fs:List Int,(ov W fs).length=fs.length:=by
  induction W with
  | nil=>intro fs;rfl
  | cons p W ih=>intro fs;show (ov W (fs.set p.1 p.2)).length=_;rw [ih];simp
theorem each_drop {f:Nat→Env→Rs}{c:List Int}{j:Nat}{E:Env}(hj:j<c.length):each f (c.drop j) E=(f (c[j]).toNat E).bind (each f (c.drop (j+1))):=by
  rw [List.drop_eq_getElem_cons hj];rfl
theorem each_end {f:Nat→Env→Rs}{c:List Int}{j:Nat}{E:Env}(hj:c.length≤j):each f (c.drop j) E=.ok E []:=by
  rw [List.drop_eq_nil_of_le hj];rfl
theorem tops_drop {l:List Nd}{c:List Int}{j:Nat}{E:Env}(hj:j<c.length):tops l (c.drop j) E=if libB (tx l (c[j]).toNat)=true then .bad 12 (c[j]).toNat else (declF l 0 (c[j]).toNat E).bind (tops l (c.drop (j+1))):=by
  rw [List.drop_eq_getElem_cons hj];rfl
theorem tops_end {l:List Nd}{c:List Int}{j:Nat}{E:Env}(hj:c.length≤j):tops l (c.drop j) E=.ok E []:=by
  rw [List.drop_eq_nil_of_le hj];rfl

/-- what a good tree's kids are: the places at which their parts end -/
theorem walkK_chain {S:Nat→Nat}{kd:Nat→Int}{k:Int}{c:List Int}:∀ (i at_ r:Nat),walkK S kd k c i at_=some r →
    ∃ q:Nat→Nat,q 0=r∧q i=at_∧∀ j,j<i→0<q (j+1)∧c.getD j 0=(q (j+1):Int)-1∧S (q (j+1)-1)=q j∧goB k j c.length (kd (q (j+1)-1))=true:=by
  intro i
  induction i with
  | zero=>intro at_ r h;simp only [walkK,Option.some.injEq] at h;exact ⟨fun _=>r,rfl,h ▸ rfl,fun j hj=>by omega⟩
  | succ i ih =>
    intro at_ r h
    rw [walkK] at h
    split at h
    · cases h
    · rename_i hn
      have h0:at_≠0:=fun e=>hn (Or.inl e)
      have h1:c.getD i 0=(at_:Int)-1:=Decidable.byContradiction fun e=>hn (Or.inr (Or.inl e))
      have h2:goB k i c.length (kd (at_-1))=true:=by
        cases hg:goB k i c.length (kd (at_-1)) with
        | true=>rfl
        | false=>exact absurd (Or.inr (Or.inr hg)) hn
      obtain ⟨q,hq0,hqi,hq⟩:=ih _ _ h
      refine ⟨fun j=>if j=i+1 then at_ else q j,by simp [hq0],by simp,fun j hj=>?_⟩
      by_cases e:j=i
      · subst e
        refine ⟨by simp;omega,by simpa using h1,?_,by simpa using h2⟩
        simp [hqi]
      · have hj2:j<i:=by omega
        have:=hq j hj2
        simpa [show j≠i+1 by omega,show ¬ j+1=i+1 by omega,e] using this
/-- a node of a good tree: its kids come one behind the other -/
structure Kin (l:List Nd) (k:Nat) (q:Nat→Nat):Prop where
  from_:q 0=St l k
  to_:q (kidsAt l k).length=k
  kid:∀ j,(h:j<(kidsAt l k).length)→0<q (j+1)∧(kidsAt l k)[j]=((q (j+1)-1:Nat):Int)∧St l (q (j+1)-1)=q j∧goB (kindAt l k) j (kidsAt l k).length (kindAt l (q (j+1)-1))=true
theorem kin_of {l:List Nd}{k:Nat}(hk:k<l.length) (h:codeAt l k=0):∃ q,Kin l k q:=by
  have hw:=code_way hk h
  have hs:=St_eq l k
  cases hr:wayOf l k with
  | none=>exact absurd hr hw
  | some r =>
    rw [hr] at hs
    obtain ⟨q,h0,h1,h2⟩:=walkK_chain _ _ _ hr
    refine ⟨q,by rw [h0,hs];rfl,h1,fun j hj=>?_⟩
    obtain ⟨a,b,c,d⟩:=h2 j hj
    refine ⟨a,?_,c,d⟩
    have e:(kidsAt l k).getD j 0=(kidsAt l k)[j]:=by simp [hj]
    rw [← e,b];omega
theorem Kin.mono {l:List Nd}{k:Nat}{q:Nat→Nat}(h:Kin l k q):∀ i j,i≤j→j≤(kidsAt l k).length→q i≤q j:=by
  intro i j hij
  induction j with
  | zero=>intro _;rw [show i=0 by omega];exact Nat.le_refl _
  | succ j ih =>
    intro hj
    by_cases e:i=j+1
    · rw [e];exact Nat.le_refl _
    · obtain ⟨a,_,c,_⟩:=h.kid j (by omega)
      have:=St_le l (q (j+1)-1)
      have:=ih (by omega) (by omega)
      omega
theorem Kin.lt {l:List Nd}{k:Nat}{q:Nat→Nat}(h:Kin l k q) (j:Nat) (hj:j<(kidsAt l k).length):∃ x:Nat,(kidsAt l k)[j]=(x:Int)∧x<k∧x+1=q (j+1)∧St l x=q j:=by
  obtain ⟨a,b,c,_⟩:=h.kid j hj
  have:=h.mono (j+1) _ (by omega) (Nat.le_refl _)
  rw [h.to_] at this
  exact ⟨q (j+1)-1,b,by omega,by omega,c⟩
end Sc
end
section
namespace Sc
open Go.RowKit
open Tr

def intA (fs:List Int):Array Value:=(fs.map (Value.int .i64)).toArray
/-- the scopes: where each lies, and where its names; the unit's first -/
abbrev Ch:=List (Nat × Nat)
def upV (ch:Ch):Nat→Value
  | 0=>.pointer none
  | r+1=>.pointer ((ch[r]?).map fun p=>⟨p.1,0,none⟩)
def unitB (ch:Ch):Nat:=((ch[0]?).getD (0,0)).1
/-- a block is a map of names, that tells what f tells -/
def MapIs (w:World) (b m:Nat) (f:List UInt8→Option Nat):Prop :=
  ∃ D:DataW Unit,w.ownsMap Tryz.prog 9 (plainElem Tryz.prog 3) b m D∧∀ s,Maps.has D (.string s)=(f s).isSome∧∀ v,f s=some v→D.atKey (.string s) (.lit (.int .i64 0))=.lit (.int .i64 v)
/-- what may change: two blocks, and what is new -/
structure Chg (F m:Nat) (w w':World):Prop where
  os:w'.os=w.os
  tape:w'.tape=w.tape
  output:w'.output=w.output
  size:w.heap.size≤w'.heap.size
  block:∀ g,g<w.heap.size→g≠F→g≠m→w'.heap[g]? = w.heap[g]?
theorem Chg.refl (F m:Nat) (w:World):Chg F m w w:=⟨rfl,rfl,rfl,Nat.le_refl _,fun _ _ _ _=>rfl⟩
theorem Chg.trans {F m:Nat}{a b c:World}(h:Chg F m a b) (k:Chg F m b c):Chg F m a c :=
  ⟨k.os.trans h.os,k.tape.trans h.tape,k.output.trans h.output,Nat.le_trans h.size k.size,fun g h1 h2 h3=>(k.block g (Nat.lt_of_lt_of_le h1 h.size) h2 h3).trans (h.block g h1 h2 h3)⟩
theorem Chg.below {F m:Nat}{w w':World}(hb:Below w.heap.size w w'):Chg F m w w':=⟨hb.os,hb.tape,hb.output,hb.size,fun g h _ _=>hb.block g h⟩
theorem Chg.grown {F m:Nat}{w w':World}(hb:w.grownBy w' (some m)):Chg F m w w':=⟨hb.os,hb.tape,hb.output,hb.size,fun g h _ h2=>hb.block g h (fun e=>h2 (by cases e;rfl))⟩
theorem Chg.alloc {F m:Nat}{w w':World}(h:Chg F m w w') (o:Obj):Chg F m w (w'.alloc o):=h.trans (Chg.below ((Below.refl _ _).alloc (Nat.le_refl _) _))
theorem Chg.to_below {F m B:Nat}{w w':World}(h:Chg F m w w') (hB:B≤w.heap.size) (hF:B≤F) (hm:B≤m):Below B w w' :=
  ⟨h.os,h.tape,h.output,h.size,fun g hg=>h.block g (by omega) (by omega) (by omega)⟩
theorem Chg.set {F m:Nat}{w w':World}(h:Chg F m w w') (k:Nat) (v:Value):Chg F m w (w'.setCell ⟨F,k,none⟩ v) :=
  ⟨h.os,h.tape,h.output,by simpa [World.setCell] using h.size,fun g h1 h2 h3=>(Below.heap_setCell w' ⟨F,k,none⟩ v g h2).trans (h.block g h1 h2 h3)⟩
theorem Chg.box {F m B:Nat}{w w':World}(h:Chg F m w w') (hB:w.heap.size≤B) (k:Nat) (v:Value):Chg F m w (w'.setCell ⟨B,k,none⟩ v) :=
  ⟨h.os,h.tape,h.output,by simpa [World.setCell] using h.size,fun g h1 h2 h3=>(Below.heap_setCell w' ⟨B,k,none⟩ v g (by show g≠B;omega)).trans (h.block g h1 h2 h3)⟩
theorem Chg.blk {F m:Nat}{w w':World}{g:Nat}{t:TypeId}{cs:Array Value}(h:Chg F m w w') (hb:Blk w g t cs) (h1:g≠F) (h2:g≠m):Blk w' g t cs:=(h.block g hb.lt h1 h2).trans hb
/-- all of the search -/
structure Sm (w0 w:World) (l:List Nd) (p:Option Addr) (cap R F:Nat) (ch:Ch) (E:Env) (fs:List Int):Prop where
  tr0:Tr w0 p l
  bel:Below w0.heap.size w0 w
  old:w0.heap.size≤F∧∀ r,(h:r<ch.length)→w0.heap.size≤(ch[r]).2
  res:Blk w R 112 #[.slice p l.length cap,.pointer (some ⟨unitB ch,0,none⟩),.slice (some ⟨F,0,none⟩) l.length l.length]
  fnd:Blk w F 3 (intA fs)
  len:fs.length=l.length
  one:∀ r,(h:r<ch.length)→Blk w (ch[r]).1 192 #[upV ch r,.map (some (ch[r]).2)]
  map:∀ r,(h:r<ch.length)→∃ m,m≤E.length∧MapIs w (ch[r]).2 m (roomF l E r)
  sep:∀ r r',(h:r<r')→(h':r' < ch.length)→(ch[r]).2≠(ch[r']).2
  env:∀ x ∈ E,x.1<l.length∧x.2<ch.length

theorem Blk.type {w:World}{g:Nat}{t t':TypeId}{cs cs':Array Value}(h:Blk w g t cs) (h':Blk w g t' cs'):t=t':=by
  unfold Blk at h h';rw [h] at h';cases h';rfl
theorem MapIs.not_blk {w:World}{g m:Nat}{f:List UInt8→Option Nat}{t:TypeId}{cs:Array Value}(h:MapIs w g m f) (h':Blk w g t cs):False:=by
  obtain ⟨D,⟨es,cl,hb,_⟩,_⟩:=h
  unfold Blk at h';rw [hb] at h';cases h'
theorem MapIs.lt {w:World}{g m:Nat}{f:List UInt8→Option Nat}(h:MapIs w g m f):g<w.heap.size:=by
  obtain ⟨D,⟨es,cl,hb,_⟩,_⟩:=h
  exact lt_of_block hb
theorem MapIs.same {w w':World}{g m:Nat}{f:List UInt8→Option Nat}(h:MapIs w g m f) (hb:w'.heap[g]? = w.heap[g]?):MapIs w' g m f:=by
  obtain ⟨D,⟨es,cl,h1,h2⟩,h3⟩:=h
  exact ⟨D,⟨es,cl,hb.trans h1,h2⟩,h3⟩
theorem MapIs.mono {w:World}{g m m':Nat}{f f':List UInt8→Option Nat}(h:MapIs w g m f) (hm:m≤m') (hf:∀ s,f' s=f s):MapIs w g m' f':=by
  obtain ⟨D,h1,h3⟩:=h
  exact ⟨D,h1.mono hm,fun s=>by rw [hf];exact h3 s⟩
section
variable {w0 w w':World}{l:List Nd}{p:Option Addr}{cap R F:Nat}{ch:Ch}{E:Env}{fs:List Int}
theorem Sm.FR (h:Sm w0 w l p cap R F ch E fs):F≠R:=fun e=>by
  have:=h.fnd;rw [e] at this;exact absurd (Blk.type this h.res) (by decide)
theorem Sm.F1 (h:Sm w0 w l p cap R F ch E fs) (r:Nat) (hr:r<ch.length):F≠(ch[r]).1:=fun e=>by
  have:=h.fnd;rw [e] at this;exact absurd (Blk.type this (h.one r hr)) (by decide)
theorem Sm.F2 (h:Sm w0 w l p cap R F ch E fs) (r:Nat) (hr:r<ch.length):F≠(ch[r]).2:=fun e=>by
  have:=h.fnd;rw [e] at this;obtain ⟨m,_,hm⟩:=h.map r hr;exact hm.not_blk this
theorem Sm.M1 (h:Sm w0 w l p cap R F ch E fs) (r r':Nat) (hr:r<ch.length) (hr':r' < ch.length):(ch[r]).1≠(ch[r']).2:=fun e=>by
  obtain ⟨m,_,hm⟩:=h.map r' hr';have:=h.one r hr;rw [e] at this;exact hm.not_blk this
theorem Sm.MR (h:Sm w0 w l p cap R F ch E fs) (r:Nat) (hr:r<ch.length):R≠(ch[r]).2:=fun e=>by
  obtain ⟨m,_,hm⟩:=h.map r hr;have:=h.res;rw [e] at this;exact hm.not_blk this
/-- new blocks alone -/
theorem Sm.below (h:Sm w0 w l p cap R F ch E fs) (hb:Below w.heap.size w w'):Sm w0 w' l p cap R F ch E fs :=
  { h with
    bel:=h.bel.trans (hb.mono h.bel.size)
    res:=h.res.below hb h.res.lt
    fnd:=h.fnd.below hb h.fnd.lt
    one:=fun r hr=>(h.one r hr).below hb (h.one r hr).lt
    map:=fun r hr=>by obtain ⟨m,h1,h2⟩:=h.map r hr;exact ⟨m,h1,h2.same (hb.block _ h2.lt)⟩ }
theorem Sm.alloc (h:Sm w0 w l p cap R F ch E fs) (o:Obj):Sm w0 (w.alloc o) l p cap R F ch E fs:=h.below ((Below.refl _ _).alloc (Nat.le_refl _) _)
/-- a store into a box that is not of the search -/
theorem Sm.box (h:Sm w0 w l p cap R F ch E fs) {B:Nat}{t:TypeId}{cs:Array Value}(hB:Blk w B t cs) (h0:w0.heap.size≤B) (h1:t≠3) (h2:t≠112) (h3:t≠192) (k:Nat) (v:Value):Sm w0 (w.setCell ⟨B,k,none⟩ v) l p cap R F ch E fs:=by
  have n1:F≠B:=fun e=>by have:=h.fnd;rw [e] at this;exact h1 (Blk.type hB this)
  have n2:R≠B:=fun e=>by have:=h.res;rw [e] at this;exact h2 (Blk.type hB this)
  have n3:∀ r,(hr:r<ch.length)→(ch[r]).1≠B:=fun r hr e=>by have:=h.one r hr;rw [e] at this;exact h3 (Blk.type hB this)
  exact { h with
    bel:=h.bel.setCell (p:=⟨B,k,none⟩) h0 v
    res:=h.res.far (p:=⟨B,k,none⟩) n2 v
    fnd:=h.fnd.far (p:=⟨B,k,none⟩) n1 v
    one:=fun r hr=>(h.one r hr).far (p:=⟨B,k,none⟩) (n3 r hr) v
    map:=fun r hr=>by
      obtain ⟨m,h1,h2⟩:=h.map r hr
      exact ⟨m,h1,h2.same (Below.heap_setCell w ⟨B,k,none⟩ v _ (fun e=>by subst e;exact h2.not_blk hB))⟩ }
theorem intA_set (fs:List Int) (k:Nat) (v:Int):(intA fs).setIfInBounds k (.int .i64 v)=intA (fs.set k v):=by
  apply Array.ext'
  unfold intA
  rw [Array.toList_setIfInBounds,List.map_set]
/-- what a node stands for -/
theorem Sm.put (h:Sm w0 w l p cap R F ch E fs) (k:Nat) (v:Int):Sm w0 (w.setCell ⟨F,k,none⟩ (.int .i64 v)) l p cap R F ch E (fs.set k v) :=
  { h with
    bel:=h.bel.setCell (p:=⟨F,k,none⟩) h.old.1 _
    res:=h.res.far (p:=⟨F,k,none⟩) (fun e=>h.FR e.symm) _
    fnd:=by have:=h.fnd.set_ k (.int .i64 v);rw [intA_set] at this;exact this
    len:=by rw [List.length_set];exact h.len
    one:=fun r hr=>(h.one r hr).far (p:=⟨F,k,none⟩) (fun e=>h.F1 r hr e.symm) _
    map:=fun r hr=>by
      obtain ⟨m,h1,h2⟩:=h.map r hr
      exact ⟨m,h1,h2.same (Below.heap_setCell w ⟨F,k,none⟩ _ _ (fun e=>h.F2 r hr e.symm))⟩ }
theorem roomF_same {l:List Nd}{E:Env}{k now:Nat}(h:(roomF l E now (tx l k)).isSome=false):roomF l (E ++ [(k,now)]) now (tx l k)=some k:=by
  unfold roomF at h ⊢
  rw [List.find?_append]
  cases h2:E.find? fun p=>p.2 == now && tx l p.1 == tx l k with
  | some p=>rw [h2] at h;cases h
  | none=>simp
theorem roomF_other {l:List Nd}{E:Env}{k now r:Nat}{s:List UInt8}(h:¬ (now=r∧tx l k=s)):roomF l (E ++ [(k,now)]) r s=roomF l E r s:=by
  unfold roomF
  rw [List.find?_append]
  have:(now == r && tx l k == s)=false:=by
    cases hb:(now == r && tx l k == s) with
    | false=>rfl
    | true=>simp at hb;exact absurd hb h
  cases h2:E.find? fun p=>p.2 == r && tx l p.1 == s with
  | some p=>simp
  | none=>simp [List.find?_cons,this]
/-- a name is declared in the last scope -/
theorem Sm.decl (h:Sm w0 w l p cap R F ch E fs) {now k g m n:Nat}(hch:ch.length=now+1) (hg:ch[now]? = some (g,m)) (hk:k<l.length) (hno:(roomF l E now (tx l k)).isSome=false)
    (hgr:w.grownBy w' (some m)) (hm:n≤E.length) {D:DataW Unit} (hD:∀ s,Maps.has D (.string s)=(roomF l E now s).isSome∧∀ v,roomF l E now s=some v→D.atKey (.string s) (.lit (.int .i64 0))=.lit (.int .i64 v)) (hMap:Maps.IsMap D)
    (hw:w'.ownsMap Tryz.prog 9 (plainElem Tryz.prog 3) m (n+1) (D.put (.string (tx l k)) (.lit (.int .i64 k)))):Sm w0 w' l p cap R F ch (E ++ [(k,now)]) fs:=by
  have hlt:now<ch.length:=by omega
  have hgm:ch[now]=(g,m):=by rw [List.getElem?_eq_getElem hlt] at hg;exact Option.some.inj hg
  have hm2:(ch[now]).2=m:=by rw [hgm]
  have nR:R≠m:=by rw [← hm2];exact h.MR now hlt
  have nF:F≠m:=by rw [← hm2];exact h.F2 now hlt
  have n1:∀ r,(hr:r<ch.length)→(ch[r]).1≠m:=fun r hr=>by rw [← hm2];exact h.M1 r now hr hlt
  exact { h with
    bel:=h.bel.trans ⟨hgr.os,hgr.tape,hgr.output,hgr.size,fun b hb=>hgr.block b (Nat.lt_of_lt_of_le hb h.bel.size) (fun e=>by
      have e2:b=m:=by cases e;rfl
      have:=h.old.2 now hlt;rw [hm2] at this;omega)⟩
    res:=h.res.grown hgr (by simpa using nR)
    fnd:=h.fnd.grown hgr (by simpa using nF)
    one:=fun r hr=>(h.one r hr).grown hgr (by simpa using n1 r hr)
    map:=fun r hr=>by
      by_cases e:r=now
      · subst e
        rw [hm2]
        refine ⟨n+1,by simp;omega,_,hw,fun s=>?_⟩
        by_cases hs:s=tx l k
        · subst hs
          rw [roomF_same hno]
          have hk:WideAt.IsKeyLit (.string (tx l k)):=trivial
          exact ⟨Maps.has_put_same hMap hk _,fun v hv=>by cases hv;exact Maps.atKey_put_same hMap hk _ _⟩
        · have hne:Lit.string s≠Lit.string (tx l k):=fun e=>hs (by cases e;rfl)
          rw [Maps.has_put_other hne,Maps.atKey_put_other hne,roomF_other (fun hc=>hs hc.2.symm)]
          exact hD s
      · obtain ⟨m1,h1,h2⟩:=h.map r hr
        refine ⟨m1,by simp;omega,(h2.same (hgr.block _ h2.lt (fun e2=>?_))).mono (Nat.le_refl _) (fun s=>?_)⟩
        · have e3:(ch[r]).2=m:=by injection e2
          rcases Nat.lt_or_ge r now with hl | hl
          · exact h.sep r now hl hlt (by rw [e3,hm2])
          · omega
        · exact roomF_other (fun hc=>e hc.1.symm)
    env:=fun x hx=>by
      rcases List.mem_append.1 hx with hx | hx
      · exact h.env x hx
      · simp only [List.mem_cons,List.not_mem_nil,or_false] at hx;subst hx;exact ⟨hk,hlt⟩ }
theorem upV_snoc (ch:Ch) (x:Nat × Nat) (r:Nat) (hr:r≤ch.length):upV (ch ++ [x]) r=upV ch r:=by
  cases r with
  | zero=>rfl
  | succ r=>simp only [upV];rw [List.getElem?_append_left (by omega)]
theorem roomF_none {l:List Nd}{E:Env}{r:Nat}(h:∀ x ∈ E,x.2<r) (s:List UInt8):roomF l E r s=none:=by
  unfold roomF
  rw [List.find?_eq_none.2 (fun x hx=>?_)]
  · rfl
  · have:=h x hx
    simp;intro e;omega
/-- a scope within the last one -/
theorem Sm.push (h:Sm w0 w l p cap R F ch E fs) {now g m:Nat}(hch:ch.length=now+1) (hg:ch[now]? = some (g,m)) :
    Sm w0 ((w.alloc (.map #[] 0)).alloc (.cells #[.pointer (some ⟨g,0,none⟩),.map (some w.heap.size)] 192)) l p cap R F (ch ++ [(w.heap.size+1,w.heap.size)]) E fs:=by
  have h2:=(h.alloc (.map #[] 0)).alloc (.cells #[.pointer (some ⟨g,0,none⟩),.map (some w.heap.size)] 192)
  have hm:MapIs ((w.alloc (.map #[] 0)).alloc (.cells #[.pointer (some ⟨g,0,none⟩),.map (some w.heap.size)] 192)) w.heap.size 0 (fun _=>none) :=
    ⟨.map [],(World.ownsMap_made _ _ _ _).alloc _,fun s=>⟨rfl,fun v hv=>by cases hv⟩⟩
  refine { h2 with old:=⟨h2.old.1,?_⟩,res:=?_,one:=?_,map:=?_,sep:=?_,env:=?_ }
  · intro r hr
    rw [List.getElem_append]
    split
    · exact h.old.2 r _
    · simpa using h.bel.size
  · have e:unitB (ch ++ [(w.heap.size+1,w.heap.size)])=unitB ch:=by unfold unitB;rw [List.getElem?_append_left (by omega)]
    rw [e];exact h2.res
  · intro r hr
    rw [upV_snoc _ _ _ (by simp at hr;omega)]
    by_cases hl:r<ch.length
    · simp only [List.getElem_append_left hl]
      exact h2.one r hl
    · have e:r=now+1:=by simp at hr;omega
      subst e
      rw [List.getElem_append_right (by omega)]
      have e2:upV ch (now+1)=.pointer (some ⟨g,0,none⟩):=by simp only [upV,hg];rfl
      rw [e2]
      simp only [hch,Nat.sub_self,List.getElem_cons_zero]
      have:=Blk.new (w.alloc (.map #[] 0)) 192 #[.pointer (some ⟨g,0,none⟩),.map (some w.heap.size)]
      rwa [World.size_alloc] at this
  · intro r hr
    by_cases hl:r<ch.length
    · simp only [List.getElem_append_left hl]
      exact h2.map r hl
    · have e:r=now+1:=by simp at hr;omega
      subst e
      rw [List.getElem_append_right (by omega)]
      simp only [hch,Nat.sub_self,List.getElem_cons_zero]
      exact ⟨0,Nat.zero_le _,hm.mono (Nat.le_refl _) (fun s=>roomF_none (fun x hx=>by have:=(h.env x hx).2;omega) s)⟩
  · intro r r' hr hr'
    have hl:r<ch.length:=by simp at hr';omega
    rw [List.getElem_append_left hl]
    by_cases hl':r' < ch.length
    · rw [List.getElem_append_left hl'];exact h.sep r r' hr hl'
    · rw [List.getElem_append_right (by omega)]
      obtain ⟨m1,_,hm1⟩:=h.map r hl
      have:=hm1.lt
      have e3:r' - ch.length=0:=by simp at hr';omega
      simp only [e3,List.getElem_cons_zero]
      omega
  · intro x hx
    have:=h.env x hx
    exact ⟨this.1,by simp;omega⟩
/-- behind the scope within: what was declared there is gone -/
theorem Sm.pop {w1 w2:World}{E2:Env}{fs2:List Int}{x:Nat × Nat}(h:Sm w0 w l p cap R F ch E fs) (hb:Below w.heap.size w w1) (hx:w.heap.size≤x.2) (hc:Chg F x.2 w1 w2) (h2:Sm w0 w2 l p cap R F (ch ++ [x]) E2 fs2):Sm w0 w2 l p cap R F ch E fs2:=by
  have hk:∀ b,b<w.heap.size→b≠F→w2.heap[b]? = w.heap[b]?:=fun b h1 h3=>(hc.block b (Nat.lt_of_lt_of_le h1 hb.size) h3 (by omega)).trans (hb.block b h1)
  exact { h with
    bel:=h2.bel
    res:=(hk R h.res.lt (fun e=>h.FR e.symm)).trans h.res
    fnd:=h2.fnd
    len:=h2.len
    one:=fun r hr=>(hk _ (h.one r hr).lt (fun e=>h.F1 r hr e.symm)).trans (h.one r hr)
    map:=fun r hr=>by
      obtain ⟨m,h1,h3⟩:=h.map r hr
      exact ⟨m,h1,h3.same (hk _ h3.lt (fun e=>h.F2 r hr e.symm))⟩ }
end
/-- what a step does -/
def Dn (w0 w:World) (l:List Nd) (p:Option Addr) (cap R F:Nat) (ch:Ch) (m:Nat) (fs:List Int):Rs→Ending→World→Prop
  | .ok E W,e,w'=>e=.returned (.agg #[.int .i64 0,.int .i64 0])∧Chg F m w w'∧Sm w0 w' l p cap R F ch E (ov W fs)
  | .bad c a,e,w'=>e=.returned (.agg #[.int .i64 c,.int .i64 a])∧Chg F m w w'
  | .out,_,_=>True
end Sc
end
section
namespace Sc
open Go.RowKit
open Tr

/-- what is written of a node -/
def WOk (l:List Nd) (x:Nat × Int):Prop:=x.1<l.length∧(kindAt l x.1=33→libB (tx l x.1)=true→x.2 = -1)∧(kindAt l x.1=2∨kindAt l x.1=3→x.2=x.1)
def Fine (l:List Nd) (b:Nat):Rs→Prop
  | .ok E W=>E.length≤b∧∀ x ∈ W,WOk l x
  | .bad c _=>c=6∨c=7
  | .out=>False
theorem Fine.mono {l:List Nd}{b b':Nat}{r:Rs}(h:Fine l b r) (hb:b≤b'):Fine l b' r:=by
  cases r with
  | ok E W=>exact ⟨Nat.le_trans h.1 hb,h.2⟩
  | bad c a=>exact h
  | out=>exact h
theorem Fine.pre {l:List Nd}{b:Nat}{r:Rs}{W:Wr}(h:Fine l b r) (hW:∀ x ∈ W,WOk l x):Fine l b (r.pre W):=by
  cases r with
  | ok E W'=>exact ⟨h.1,fun x hx=>(List.mem_append.1 hx).elim (hW x) (h.2 x)⟩
  | bad c a=>exact h
  | out=>exact h
theorem Fine.bind {l:List Nd}{b b':Nat}{r:Rs}{f:Env→Rs}(h:Fine l b r) (hf:∀ E W,r=.ok E W→E.length≤b→Fine l b' (f E)):Fine l b' (r.bind f):=by
  cases r with
  | ok E W=>exact (hf E W rfl h.1).pre h.2
  | bad c a=>exact h
  | out=>exact h
theorem Fine.back {l:List Nd}{b b':Nat}{r:Rs}{E:Env}(h:Fine l b r) (hE:E.length≤b'):Fine l b' (r.back E):=by
  cases r with
  | ok E' W=>exact ⟨hE,h.2⟩
  | bad c a=>exact h
  | out=>exact h
theorem Fine.out {l:List Nd}{b:Nat}{r:Rs}(h:Fine l b r):r≠.out:=by
  intro e;subst e;exact h
theorem wok_self {l:List Nd}{k:Nat}(hk:k<l.length) (h:kindAt l k≠33):∀ x ∈ [(k,(k:Int))],WOk l x:=fun x hx=>by
  simp only [List.mem_cons,List.not_mem_nil,or_false] at hx;subst hx
  exact ⟨hk,fun e=>absurd e h,fun _=>rfl⟩
theorem wok_other {l:List Nd}{k:Nat}{v:Int}(hk:k<l.length) (h:kindAt l k≠33∨libB (tx l k)=false) (h2:¬ (kindAt l k=2∨kindAt l k=3)):∀ x ∈ [(k,v)],WOk l x:=fun x hx=>by
  simp only [List.mem_cons,List.not_mem_nil,or_false] at hx;subst hx
  refine ⟨hk,fun e1 e2=>?_,fun e=>absurd e h2⟩
  rcases h with h | h
  · exact absurd e1 h
  · simp only at e2;rw [h] at e2;cases e2
theorem fine_decl {l:List Nd}{now k b:Nat}{E:Env}(hk:k<l.length) (hE:E.length+1≤b) (h:kindAt l k≠33):Fine l b (declF l now k E):=by
  unfold declF
  split
  · exact Or.inr rfl
  · exact ⟨by simp;exact hE,wok_self hk h⟩
theorem fine_own {l:List Nd}{now k b:Nat}{E:Env}(hk:k<l.length) (hE:E.length≤b) (hE2:kindAt l k=4∨kindAt l k=12→E.length+1≤b):Fine l b (own l now k E):=by
  unfold own
  split
  · rename_i h2
    exact ⟨hE,wok_self hk (by omega)⟩
  · rename_i h2
    split
    · rename_i h4;exact fine_decl hk (hE2 h4) (by omega)
    · split
      · unfold nameF
        split
        · split
          · exact Or.inl rfl
          · exact ⟨hE,wok_other hk (Or.inl (by omega)) h2⟩
        · exact Or.inl rfl
      · split
        · unfold callF
          split
          · exact ⟨hE,fun x hx=>by
              simp only [List.mem_cons,List.not_mem_nil,or_false] at hx;subst hx
              exact ⟨hk,fun _ _=>rfl,fun e=>absurd e h2⟩⟩
          · rename_i hl
            split
            · split
              · exact ⟨hE,wok_other hk (Or.inr (by simpa using hl)) h2⟩
              · exact Or.inl rfl
            · exact Or.inl rfl
        · exact ⟨hE,fun x hx=>by cases hx⟩
/-- a node of a kind that has no kids -/
theorem kids_none {l:List Nd}{k:Nat}(hk:k<l.length) (hc:codeAt l k=0) (h:kindAt l k=4∨kindAt l k=32):kidsAt l k=[]:=by
  rw [codeAt_get hk] at hc
  rw [kindAt_get hk] at h
  rw [kidsAt_get hk]
  unfold nodeC at hc
  split at hc
  · cases hc
  · split at hc
    · cases hc
    · rename_i hn
      have h0:((l[k].c.length:Nat):Int)≤0:=by
        have:highV 9223372036854775807 l[k].k=0:=by rcases h with h | h <;> rw [h] <;> rfl
        rw [this] at hn
        omega
      exact List.eq_nil_of_length_eq_zero (by omega)
/-- kids one behind the other -/
theorem fine_each {l:List Nd}{g:Nat→Env→Rs}{k q:Nat}{pos:Nat→Nat}(hK:Kin l k pos) (hk:k<l.length)
    (hg:∀ (x:Nat) (E:Env),x<k→x<l.length→E.length≤q+St l x→Fine l (q+(x+1)) (g x E)) :
    ∀ (d j:Nat) (E:Env),(kidsAt l k).length=j+d→E.length≤q+pos j→Fine l (q+k) (each g ((kidsAt l k).drop j) E):=by
  intro d
  induction d with
  | zero =>
    intro j E hj hE
    rw [each_end (by omega)]
    have:pos j=k:=by rw [← hK.to_,hj];rfl
    exact ⟨by omega,fun x hx=>by cases hx⟩
  | succ d ih =>
    intro j E hj hE
    have hjl:j<(kidsAt l k).length:=by omega
    rw [each_drop hjl]
    obtain ⟨x,h1,h2,h3,h4⟩:=hK.lt j hjl
    rw [h1,Int.toNat_natCast]
    refine (hg x E h2 (by omega) (by omega)).bind fun E' W _ hE'=>?_
    exact ih (j+1) E' (by omega) (by omega)
theorem fine_kids {l:List Nd}{g:Nat→Nat→Env→Rs}{now k q:Nat}(hk:k<l.length) (hc:codeAt l k=0)
    (hg:∀ (now x:Nat) (E:Env),x<k→x<l.length→E.length≤q+St l x→Fine l (q+(x+1)) (g now x E)) {E:Env} (hE:E.length≤q+St l k):Fine l (q+k) (kidsF l g now k E):=by
  obtain ⟨pos,hK⟩:=kin_of hk hc
  have h0:∀ now,Fine l (q+k) (each (g now) (kidsAt l k) E):=fun now=>fine_each hK hk (hg now) (kidsAt l k).length 0 E (by omega) (by rw [hK.from_];exact hE)
  unfold kidsF
  split
  · exact (h0 (now+1)).back (by have:=St_le l k;omega)
  · exact h0 now
theorem fine_look {l:List Nd}(hC:∀ j,j<l.length→codeAt l j=0):∀ (f now k q:Nat) (E:Env),k<f→k<l.length→E.length≤q+St l k→Fine l (q+(k+1)) (look l f now k E):=by
  intro f
  induction f with
  | zero=>intro now k q E h;omega
  | succ f ih =>
    intro now k q E hf hk hE
    have hkid:∀ E',E'.length≤q+St l k→Fine l (q+k) (kidsF l (look l f) now k E'):=fun E' hE'=>fine_kids hk (hC k hk) (fun now x E'' h1 h2 h3=>ih now x q E'' (by omega) h2 h3) hE'
    have hle:=St_le l k
    simp only [look]
    split
    · rename_i h12
      refine (hkid E hE).bind fun E' W _ hE'=>?_
      exact fine_own hk (by omega) (fun _=>by omega)
    · rename_i h12
      by_cases h4:kindAt l k=4
      · have hn:=kids_none hk (hC k hk) (Or.inl h4)
        obtain ⟨pos,hK⟩:=kin_of hk (hC k hk)
        have hS:St l k=k:=by rw [← hK.from_];have:=hK.to_;rw [hn] at this;exact this
        refine (fine_own (b:=q+(k+1)) hk (by omega) (fun _=>by omega)).bind fun E' W _ hE'=>?_
        unfold kidsF
        rw [hn,h4]
        exact ⟨hE',fun x hx=>by cases hx⟩
      · refine (fine_own (b:=q+St l k) hk hE (fun h=>by omega)).bind fun E' W _ hE'=>?_
        exact (hkid E' hE').mono (by omega)
end Sc
end
end Go.Proofs.YtdjpopebeenlmaaGreatDoor
