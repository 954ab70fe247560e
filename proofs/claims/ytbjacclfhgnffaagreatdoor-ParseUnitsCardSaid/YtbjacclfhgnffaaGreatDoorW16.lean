/-
  Joined texts of this claim: Rdd, Rdg, Rde, Rdf, Rdh, Ja, Jc, Jd, Kb.
-/
import Derived.Test.YtbjacclfhgnffaaGreatDoorW00
import Derived.Test.YtbjacclfhgnffaaGreatDoorW15
import Derived.Test.YtbjacclfhgnffaaGreatDoorW07
import Derived.Test.YtbjacclfhgnffaaGreatDoorW08
set_option maxHeartbeats 40000000
set_option maxRecDepth 100000
set_option linter.unusedVariables false
set_option linter.unusedSimpArgs false
namespace Go.Proofs.YtbjacclfhgnffaaGreatDoor
section
open Go.RowKit
open Tk (T4 bstr)
open Tr (Nd Blk KidsAt ret_bool)
theorem two (w:World) (o1 o2:Obj):Below w.heap.size w ((w.alloc o1).alloc o2):=by
 have hs:(w.alloc o1).heap.size=w.heap.size+1:=World.size_alloc ..
 exact ((Below.refl _ _).alloc (Nat.le_refl _) _).alloc (by rw [hs];exact Nat.le_succ _) _
def IsRd (v:Value):Prop:=∃ pn ln cn pl ll cl E c a top,v=rdV pn ln cn pl ll cl E c a top
theorem want_not {Q:Value→Prop}(hQ:∀ v,Q v→IsRd v) {v:Value}(hv:IsRd v) (w:World) (s:ByteArray)
  (hi:∀ w2,Below w.heap.size w w2→Calls Tryz.prog 69 #[v,.string s] w2 fun e w'=>e=.returned (.bool false)∧Below w2.heap.size w2 w')
  (hs:∀ w2,Below w.heap.size w w2→Calls Tryz.prog 74 #[v,.int .i64 1] w2 fun e w'=>(∃ v',e=.returned v'∧Q v')∧Below w2.heap.size w2 w') :
  Calls Tryz.prog 71 #[v,.string s] w fun e w'=>(∃ v',e=.returned v'∧Q v')∧Below w.heap.size w w':=by
 obtain ⟨pn,ln,cn,pl,ll,cl,E,c,a,top,rfl⟩:=hv
 have hs':∀ w2,Below w.heap.size w w2→Calls Tryz.prog 74 #[rdV pn ln cn pl ll cl E c a top,.int .i64 1] w2 fun e w'=>∃ pn ln cn pl ll cl E c a top,e=.returned (.agg #[.slice pn ln cn,.slice pl ll cl,.int .i64 (E:Nat),.int .i64 c,.int .i64 a,.int .i64 top])∧Hid (Q (.agg #[.slice pn ln cn,.slice pl ll cl,.int .i64 (E:Nat),.int .i64 c,.int .i64 a,.int .i64 top]))∧Below w2.heap.size w2 w' :=
  fun w2 hb=>(hs w2 hb).mono fun e w' ⟨⟨v',he,hq⟩,hb'⟩=>by
   obtain ⟨pn,ln,cn,pl,ll,cl,E,c,a,top,rfl⟩:=hQ v' hq
   exact ⟨pn,ln,cn,pl,ll,cl,E,c,a,top,he,hq,hb'⟩
 clear hs hQ
 unfold rdV at hi hs' ⊢
 go_enter Tryz.func71,Tryz.ntmps71
 go_wp2_with (first | (go_at_call 69;refine (hi _ (two w _ _)).mono ?_;rintro e w1 ⟨rfl,hb1⟩;obtain ⟨b1,b2,hb3⟩:=keepTwo hb1;obtain ⟨p0,p1,p2,p3,p4,p5,pl1⟩:=six b1) | (go_at_call 74;refine (hs' _ hb3).mono ?_;rintro e w2 ⟨pn2,ln2,cn2,pl2,ll2,cl2,E2,c2,a2,top2,rfl,hq,hb2⟩;clear p0 p1 p2 p3 p4 p5;have B2:=b2.below hb2 b2.lt;obtain ⟨q0,q1,q2,q3,q4,q5,ql1⟩:=six B2;have f0:=B2.frozen 0;have f1:=B2.frozen 1;have f2:=B2.frozen 2;have f3:=B2.frozen 3;have f4:=B2.frozen 4;have f5:=B2.frozen 5))
 refine bodyPost_ret (v:=.agg #[.slice pn2 ln2 cn2,.slice pl2 ll2 cl2,.int .i64 (E2:Nat),.int .i64 c2,.int .i64 a2,.int .i64 top2]) (by simp [results,Tryz.results71,go_sem,q0,q1,q2,q3,q4,q5,ql1]) rfl ?_
 exact ⟨⟨_,rfl,hq.out⟩,below6 (hb3.trans (hb2.mono hb3.size))⟩
theorem want_is {Q:Value→Prop}(hQ:∀ v,Q v→IsRd v) {v:Value}(hv:IsRd v) (w:World) (s:ByteArray)
  (hi:∀ w2,Below w.heap.size w w2→Calls Tryz.prog 69 #[v,.string s] w2 fun e w'=>e=.returned (.bool true)∧Below w2.heap.size w2 w')
  (hs:∀ w2,Below w.heap.size w w2→Calls Tryz.prog 70 #[v] w2 fun e w'=>(∃ v',e=.returned v'∧Q v')∧Below w2.heap.size w2 w') :
  Calls Tryz.prog 71 #[v,.string s] w fun e w'=>(∃ v',e=.returned v'∧Q v')∧Below w.heap.size w w':=by
 obtain ⟨pn,ln,cn,pl,ll,cl,E,c,a,top,rfl⟩:=hv
 have hs':∀ w2,Below w.heap.size w w2→Calls Tryz.prog 70 #[rdV pn ln cn pl ll cl E c a top] w2 fun e w'=>∃ pn ln cn pl ll cl E c a top,e=.returned (.agg #[.slice pn ln cn,.slice pl ll cl,.int .i64 (E:Nat),.int .i64 c,.int .i64 a,.int .i64 top])∧Hid (Q (.agg #[.slice pn ln cn,.slice pl ll cl,.int .i64 (E:Nat),.int .i64 c,.int .i64 a,.int .i64 top]))∧Below w2.heap.size w2 w' :=
  fun w2 hb=>(hs w2 hb).mono fun e w' ⟨⟨v',he,hq⟩,hb'⟩=>by
   obtain ⟨pn,ln,cn,pl,ll,cl,E,c,a,top,rfl⟩:=hQ v' hq
   exact ⟨pn,ln,cn,pl,ll,cl,E,c,a,top,he,hq,hb'⟩
 clear hs hQ
 unfold rdV at hi hs' ⊢
 go_enter Tryz.func71,Tryz.ntmps71
 go_wp2_with (first | (go_at_call 69;refine (hi _ (two w _ _)).mono ?_;rintro e w1 ⟨rfl,hb1⟩;obtain ⟨b1,b2,hb3⟩:=keepTwo hb1;obtain ⟨p0,p1,p2,p3,p4,p5,pl1⟩:=six b1) | (go_at_call 70;refine (hs' _ hb3).mono ?_;rintro e w2 ⟨pn2,ln2,cn2,pl2,ll2,cl2,E2,c2,a2,top2,rfl,hq,hb2⟩;clear p0 p1 p2 p3 p4 p5;have B2:=b2.below hb2 b2.lt;obtain ⟨q0,q1,q2,q3,q4,q5,ql1⟩:=six B2;have f0:=B2.frozen 0;have f1:=B2.frozen 1;have f2:=B2.frozen 2;have f3:=B2.frozen 3;have f4:=B2.frozen 4;have f5:=B2.frozen 5))
 refine bodyPost_ret (v:=.agg #[.slice pn2 ln2 cn2,.slice pl2 ll2 cl2,.int .i64 (E2:Nat),.int .i64 c2,.int .i64 a2,.int .i64 top2]) (by simp [results,Tryz.results71,go_sem,q0,q1,q2,q3,q4,q5,ql1]) rfl ?_
 exact ⟨⟨_,rfl,hq.out⟩,below6 (hb3.trans (hb2.mono hb3.size))⟩
section
variable {w0 w:World}{E:Nat}{pn:Option Addr}{ln cn:Nat}{top:Int}{L:List T4}{c a:Int}{v:Value}
end
end
section
open Go.RowKit
open Tk (T4 bstr)
open Tr (Nd Blk KidsAt ret_bool)
theorem keep3 {w w':World}{t1 t2 t3:TypeId}{c1 c2 c3:Array Value}(hb:Below (((w.alloc (.cells c1 t1)).alloc (.cells c2 t2)).alloc (.cells c3 t3)).heap.size (((w.alloc (.cells c1 t1)).alloc (.cells c2 t2)).alloc (.cells c3 t3)) w') :
  Blk w' w.heap.size t1 c1∧Blk w' (w.heap.size+1) t2 c2∧Blk w' (w.heap.size+1+1) t3 c3∧Below w.heap.size w w':=by
 obtain ⟨h2,h3,h4⟩:=keepTwo hb
 have hs:(w.alloc (.cells c1 t1)).heap.size=w.heap.size+1:=World.size_alloc ..
 rw [hs] at h2 h3
 have h1:=((Blk.new w t1 c1).below h4 (Blk.new w t1 c1).lt)
 exact ⟨h1,h2,h3,((Below.refl _ _).alloc (Nat.le_refl _) _).trans (h4.mono (by rw [hs];exact Nat.le_succ _))⟩
theorem set6 {B g:Nat}{w w':World}{v0 v1 v2 v3 v4 v5:Value}(h:Below B w w') (hg:B≤g):Below B w ((((((w'.setCell ⟨g,0,none⟩ v0).setCell ⟨g,1,none⟩ v1).setCell ⟨g,2,none⟩ v2).setCell ⟨g,3,none⟩ v3).setCell ⟨g,4,none⟩ v4).setCell ⟨g,5,none⟩ v5) :=
 (((((h.setCell hg _).setCell hg _).setCell hg _).setCell hg _).setCell hg _).setCell hg _
theorem RdB.add {w0:World}{E:Nat}{pn:Option Addr}{ln cn:Nat}{top:Int}{c a:Int}{v:Value}(h:RdB w0 E pn ln cn top c a v) (w:World) (k n z at':Int) (x:ByteArray) (pk' pk2:Option Addr) (lk ck lk2 ck2:Nat) :
  Calls Tryz.prog 40 #[v,.agg #[.int .i64 k,.string x,.int .i64 n,.int .i64 z,.slice pk' lk ck,.int .i64 at'],.slice pk2 lk2 ck2] w fun e w'=>e=.returned v∧Below w.heap.size w w':=by
 have hk:=h.ok
 obtain ⟨hc,pl,cl,L,rfl,_⟩:=h
 generalize L.length=ll at *
 unfold rdV at hk ⊢
 go_enter Tryz.func40,Tryz.ntmps40
 go_wp2_with (go_at_call 38;refine (hk _).mono ?_;rintro e w' ⟨rfl,hb⟩;obtain ⟨b1,b2,b3,hb3⟩:=keep3 hb;obtain ⟨p0,p1,p2,p3,p4,p5,pl1⟩:=six b1;obtain ⟨q0,q1,q2,q3,q4,q5,ql1⟩:=six b3;have f0:=b3.frozen 0;have f1:=b3.frozen 1;have f2:=b3.frozen 2;have f3:=b3.frozen 3;have f4:=b3.frozen 4;have f5:=b3.frozen 5)
 refine bodyPost_ret (v:=.agg #[.slice pn ln cn,.slice pl ll cl,.int .i64 E,.int .i64 c,.int .i64 a,.int .i64 top]) (by simp [results,Tryz.results40,go_sem,q0,q1,q2,q3,q4,q5,ql1]) rfl ?_
 exact ⟨rfl,set6 hb3 (by omega)⟩
end
section
open Go.RowKit
open Tk (T4 bstr)
open Tr (Nd Blk KidsAt ret_bool)
theorem one_any (k:Int) (w:World) :
  Calls Tryz.prog 82 #[.int .i64 k] w fun e w'=>e=.returned (.slice (some ⟨w.heap.size,0,none⟩) 1 1)∧KidsAt w' (some ⟨w.heap.size,0,none⟩) [k]∧Below w.heap.size w w':=by
 go_enter Tryz.func82,Tryz.ntmps82
 go_wp2
 go_ret
 have hB:=Blk.new w 3 #[.int .i64 k]
 exact ⟨rfl,fun _=>⟨_,_,rfl,hB.lt,fun j hj=>by
  have hj:j<1:=hj
  obtain rfl:j=0:=by omega
  exact hB.cell 0⟩,(Below.refl _ _).alloc (Nat.le_refl _) _⟩
theorem two_any (k m:Int) (w:World) :
  Calls Tryz.prog 73 #[.int .i64 k,.int .i64 m] w fun e w'=>e=.returned (.slice (some ⟨w.heap.size,0,none⟩) 2 2)∧KidsAt w' (some ⟨w.heap.size,0,none⟩) [k,m]∧Below w.heap.size w w':=by
 go_enter Tryz.func73,Tryz.ntmps73
 go_wp2
 go_ret
 have hB:=Blk.new w 3 #[.int .i64 k,.int .i64 m]
 exact ⟨rfl,fun _=>⟨_,_,rfl,hB.lt,fun j hj=>by
  have hj:j<2:=hj
  rcases j with _ | _ | j
  ·exact hB.cell 0
  ·exact hB.cell 1
  ·omega⟩,(Below.refl _ _).alloc (Nat.le_refl _) _⟩
end
section
open Go.RowKit
open Tk (T4 bstr)
open Tr (Nd Blk KidsAt ret_int)
def allocs (t:TypeId):World→List (Array Value)→World
 | w,[]=>w
 | w,c :: l=>allocs t (w.alloc (.cells c t)) l
theorem allocs_keep {t t':TypeId}{g:Nat}{cs:Array Value}:∀ (l:List (Array Value)) {w:World},Blk w g t' cs→Blk (allocs t w l) g t' cs
 | [],_,h=>h
 | _ :: l,_,h=>allocs_keep l (h.alloc _)
theorem allocs_blk (t:TypeId):∀ (l:List (Array Value)) (w:World) (k:Nat) (h:k<l.length),Blk (allocs t w l) (w.heap.size+k) t l[k]
 | c :: l,w,0,_=>allocs_keep l (Blk.new w t c)
 | c :: l,w,k+1,h=>by
  have:=allocs_blk t l (w.alloc (.cells c t)) k (Nat.lt_of_succ_lt_succ h)
  rw [World.size_alloc] at this
  have e:w.heap.size+1+k=w.heap.size+(k+1):=by omega
  rw [e] at this
  exact this
theorem allocs_below (t:TypeId):∀ (l:List (Array Value)) (w:World),Below w.heap.size w (allocs t w l)∧(allocs t w l).heap.size=w.heap.size+l.length
 | [],w=>⟨Below.refl _ _,rfl⟩
 | c :: l,w=>by
  obtain ⟨h1,h2⟩:=allocs_below t l (w.alloc (.cells c t))
  have hs:(w.alloc (.cells c t)).heap.size=w.heap.size+1:=World.size_alloc ..
  refine ⟨((Below.refl _ _).alloc (Nat.le_refl _) _).trans (h1.mono (by omega)),?_⟩
  show (allocs t (w.alloc (.cells c t)) l).heap.size=_
  rw [h2,hs,List.length_cons];omega
def rkRows:List (List (List UInt8)):=[[[124,124]],[[38,38]],[[124]],[[94]],[[38]],[[61,61],[33,61]],[[60],[60,61],[62],[62,61]],[[60,60],[62,62]],[[43],[45]],[[42],[47],[37]]]
def rowV (r:List (List UInt8)):Array Value:=(r.map fun x=>Value.string (bstr x)).toArray
def rkF (l:List UInt8):Nat→List (List (List UInt8))→Nat
 | _,[]=>0
 | k,r :: rs=>if Tk.cont r l=true then k+1 else rkF l (k+1) rs
def rankT (l:List UInt8):Nat:=rkF l 0 rkRows
theorem rkF_drop {l:List UInt8}{k:Nat}(hk:k<rkRows.length) (e:rankT l=rkF l k (rkRows.drop k)) :
  (Tk.cont rkRows[k] l=true→rankT l=k+1)∧(Tk.cont rkRows[k] l=false→rankT l=rkF l (k+1) (rkRows.drop (k+1))):=by
 rw [List.drop_eq_getElem_cons hk] at e
 unfold rkF at e
 refine ⟨fun h=>by rwa [if_pos h] at e,fun h=>?_⟩
 rw [if_neg (by rw [h];decide)] at e
 exact e
theorem outer_blk {w W:World}(hW:W=(allocs 9 w (rkRows.map rowV)).alloc (.cells ((rkRows.zipIdx.map fun x=>Value.slice (some ⟨w.heap.size+x.2,0,none⟩) x.1.length x.1.length).toArray) 41)) :
  (∀ k,(h:k<rkRows.length)→W.cell? ⟨w.heap.size+10,k,none⟩=some (.slice (some ⟨w.heap.size+k,0,none⟩) rkRows[k].length rkRows[k].length)) ∧
  (∀ k,(h:k<rkRows.length)→∀ i,(hi:i<rkRows[k].length)→W.cell? ⟨w.heap.size+k,0+i,none⟩=some (.string (bstr rkRows[k][i])))∧Below w.heap.size w W:=by
 subst hW
 obtain ⟨h1,h2⟩:=allocs_below 9 (rkRows.map rowV) w
 refine ⟨fun k h=>?_,fun k h i hi=>?_,h1.alloc h1.size _⟩
 ·have hB:=Blk.new (allocs 9 w (rkRows.map rowV)) 41 ((rkRows.zipIdx.map fun x=>Value.slice (some ⟨w.heap.size+x.2,0,none⟩) x.1.length x.1.length).toArray)
  rw [h2] at hB
  have:=hB.cell k
  refine this.trans ?_
  simp [h]
 ·have hB:=(allocs_blk 9 (rkRows.map rowV) w k (by simpa using h)).alloc (.cells ((rkRows.zipIdx.map fun x=>Value.slice (some ⟨w.heap.size+x.2,0,none⟩) x.1.length x.1.length).toArray) 41)
  have:=hB.cell (0+i)
  refine this.trans ?_
  simp [rowV,hi]
theorem rk_few (k:Nat) (h:k<rkRows.length):rkRows[k].length≤100:=by
 have:∀ r,r ∈ rkRows→r.length≤100:=by decide
 exact this _ (List.getElem_mem h)
theorem rank_any (s:ByteArray) (w:World) :
  Calls Tryz.prog 120 #[.string s] w fun e w'=>e=.returned (.int .i64 (rankT s.data.toList))∧Below w.heap.size w w':=by
 go_enter Tryz.func120,Tryz.ntmps120
 go_wp2
 generalize hW:World.alloc _ _=W
 obtain ⟨hc,hr,hb⟩:=outer_blk hW.symm
 clear hW
 have HC:=Lib.hid hc
 have HR:=Lib.hid hr
 clear hc hr
 go_loop [4] (fun i=>∃ k:Nat,k≤10∧i=.int .i64 k∧Hid (rankT s.data.toList=rkF s.data.toList k (rkRows.drop k))) (fun i=>10-(intOf i).toNat)
 case atStart=>exact ⟨0,Nat.zero_le _,rfl,rfl⟩
 case round =>
  obtain ⟨k,hk,rfl,HK⟩:=hrel
  by_cases hlt:k<10
  ·have hl:k<rkRows.length:=hlt
   have hcell:W.cell? ⟨w.heap.size+1+1+1+1+1+1+1+1+1+1,k,none⟩=_:=HC.out k hl
   have hA:=Tk.among_any rkRows[k] (w.heap.size+k) 0 rkRows[k].length rkRows[k].length s W rfl (rk_few k hl) (HR.out k hl)
   obtain ⟨hy,hn⟩:=rkF_drop hl HK.out
   clear HK HC HR
   cases hq:Tk.cont rkRows[k] s.data.toList with
   | true =>
    have HY:Hid (rankT s.data.toList=k+1):=hy hq
    rw [hq] at hA
    clear hy hn hq
    generalize rkRows[k].length=n at *
    go_wp2_with (go_at_call 121;refine hA.mono ?_;rintro e w' ⟨rfl,rfl⟩)
    go_ret
    exact ⟨ret_int (by rw [HY.out];rfl),hb⟩
   | false =>
    have HN:Hid (rankT s.data.toList=rkF s.data.toList (k+1) (rkRows.drop (k+1))):=hn hq
    rw [hq] at hA
    clear hy hn hq
    generalize rkRows[k].length=n at *
    go_wp2_with (go_at_call 121;refine hA.mono ?_;rintro e w' ⟨rfl,rfl⟩)
    go_round
    case rel=>exact ⟨k+1,by omega,by go_num,HN⟩
    case measure=>simp [intOf];omega
  ·have HZ:Hid (rankT s.data.toList=0):=by
    have e0:rkRows.drop k=[]:=List.drop_eq_nil_of_le (by show 10≤k;omega)
    exact HK.out.trans (by rw [e0];rfl)
   clear HK HC HR
   go_wp2
   go_ret
   exact ⟨ret_int (by rw [HZ.out];rfl),hb⟩
theorem rank_level (t:List UInt8):rankT t+1=levelT t∨rankT t=0∧levelT t=0:=by
 unfold levelT rankT rkRows
 simp only [rkF,Tk.cont,List.contains_cons,List.contains_nil,Bool.or_false,Bool.or_eq_true,beq_iff_eq]
 repeat' split
 all_goals first
  | (left;rfl)
  | (right;exact ⟨rfl,rfl⟩)
  | (exfalso;simp_all)
end
section
open Go.RowKit
open Tk (T4 bstr)
open Tr (Nd Blk KidsAt ret_bool setS setB twoA twoC oneS)
def amB (L:List (List UInt8)) (s:ByteArray):Bool:=decide (s.toList ∈ L)
def TxtAt (w:World) (b:Nat) (L:List (List UInt8)):Prop:=∀ i,(h:i<L.length)→∃ x:ByteArray,x.toList=L[i]∧w.cell? ⟨b,i,none⟩=some (.string x)
theorem among_in (L:List (List UInt8)) (b cap:Nat) (s:ByteArray) (w:World) (hL:TxtAt w b L) (hl:L.length≤100) (n:Nat) (hn:n=L.length) :
  Calls Tryz.prog 121 #[.slice (some ⟨b,0,none⟩) n cap,.string s] w fun e w'=>e=.returned (.bool (amB L s))∧w=w':=by
 refine (Tk.among_any L b 0 n cap s w hn.symm (by omega) (fun i h=>?_)).mono fun e w' ⟨he,hw⟩=>⟨?_,hw⟩
 ·obtain ⟨x,hx,hc⟩:=hL i h
  rw [Nat.zero_add,hc]
  have:bstr L[i]=x:=by rw [← hx,Lib.toList_data];exact Lib.mk_data x
  rw [this]
 ·rw [he]
  have:Tk.cont L s.data.toList=amB L s:=by unfold Tk.cont amB;rw [Lib.toList_data,Bool.eq_iff_iff,decide_eq_true_eq];simp
  rw [this]
def strs (L:List (List UInt8)):Array Value:=(L.map fun l=>Value.string ⟨l.toArray⟩).toArray
theorem txt_new (w:World) (L:List (List UInt8)) (T:TypeId):TxtAt (w.alloc (.cells (strs L) T)) w.heap.size L:=fun i h=>by
 refine ⟨⟨L[i].toArray⟩,by rw [Lib.toList_data],?_⟩
 rw [(Blk.new w T (strs L)).cell i]
 simp [strs,h]
theorem set_split {L:List UInt8}:L ∈ setS ↔ L=[61]∨(1<L.length∧L.getLast? = some 61∧L.dropLast ∈ twoA):=by
 constructor
 ·intro h
  simp only [setS,List.mem_cons,List.not_mem_nil,or_false] at h
  rcases h with rfl | rfl | rfl | rfl | rfl | rfl | rfl | rfl | rfl | rfl | rfl <;> decide
 ·rintro (rfl | ⟨h1,h2,h3⟩)
  ·decide
  ·have h4:L≠[]:=by intro e;rw [e] at h1;simp at h1
   have h5:L=L.dropLast ++ [61]:=by
    have h:=List.dropLast_concat_getLast h4
    have h6:L.getLast h4=61:=by rw [List.getLast?_eq_some_getLast h4] at h2;exact Option.some.inj h2
    rw [h6] at h
    exact h.symm
   generalize L.dropLast=X at *
   subst h5
   simp only [twoA,List.mem_cons,List.not_mem_nil,or_false] at h3
   rcases h3 with rfl | rfl | rfl | rfl | rfl | rfl | rfl | rfl | rfl | rfl <;> decide
theorem texts_set (s:ByteArray) (w:World) (hs:s.size≤1000000000000000000) :
  Calls Tryz.prog 72 #[.int .i64 39,.string s] w fun e w'=>e=.returned (.bool (setB s))∧Below w.heap.size w w':=by
 have T1:Hid (TxtAt (w.alloc (Obj.cells #[Value.string { data:=#[43] },Value.string { data:=#[45] },Value.string { data:=#[42] },Value.string { data:=#[47] },Value.string { data:=#[37] },Value.string { data:=#[38] },Value.string { data:=#[124] },Value.string { data:=#[94] },Value.string { data:=#[60,60] },Value.string { data:=#[62,62] }] 9)) w.heap.size twoA):=txt_new w twoA 9
 have hlen:s.toList.length=s.size:=by rw [Lib.toList_data,← Lib.size_eq]
 by_cases h1:s.toList=[61]
 ·have hR:Hid (setB s=true):=decide_eq_true (by rw [h1];decide)
  clear hlen
  go_enter Tryz.func72,Tryz.ntmps72
  go_wp2
  go_ret
  exact ⟨ret_bool hR.out.symm,(Below.refl _ _).alloc (Nat.le_refl _) _⟩
 ·have e1:(s.toList == [61])=false:=by simpa using h1
  have hR:Hid (setB s=true ↔ (1<s.size∧s.toList.getLast? = some 61∧s.toList.dropLast ∈ twoA)):=by
   show _ ↔ _
   unfold setB
   rw [decide_eq_true_eq,set_split,hlen]
   exact ⟨fun h=>h.resolve_left h1,Or.inr⟩
  clear h1
  by_cases h2:1<s.size
  ·obtain ⟨q,hq⟩:=exE (s.size-1)
   have hql:q<s.size:=by omega
   have hgl:s.toList.getLast? = some s[q]:=by
    rw [List.getLast?_eq_getElem?,hlen,← hq,List.getElem?_eq_getElem (by rw [hlen];omega)]
    simp only [Lib.toList_data]
    rfl
   have hdl:s.toList.dropLast=(s.extract 0 q).toList:=by
    rw [Lib.toList_data,Lib.toList_data,List.dropLast_eq_take,← Lib.size_eq,hq]
    simp
    rw [List.dropLast_eq_take,← Lib.size_eq]
   have e3:(s.size:Int)-1=(q:Int):=by omega
   have e4:(1:Int)<(s.size:Int):=by omega
   have e5:decide ((1:Int)<(s.size:Int))=true:=by simpa using e4
   by_cases h3:s[q].toNat=61
   ·have h61:s[q]=61:=by apply UInt8.toNat.inj;exact h3
    have hR2:Hid (setB s=amB twoA (s.extract 0 q)):=by
     show _=_
     rw [Bool.eq_iff_iff,hR.out,hgl,h61,hdl]
     unfold amB
     simp [h2]
    have e6:((s[q].toNat:Int) == 61)=true:=by rw [h3];rfl
    have C1:=among_in twoA w.heap.size 10 (s.extract 0 q) _ T1.out (by decide) 10 rfl
    clear hgl hdl h61 h3 hlen hq hR
    go_enter Tryz.func72,Tryz.ntmps72
    go_wp2_with (go_at_call 121;refine C1.mono ?_)
    first | rintro e w' rfl rfl | rintro e w' ⟨rfl,rfl⟩
    go_wp2
    go_ret
    exact ⟨ret_bool hR2.out.symm,(Below.refl _ _).alloc (Nat.le_refl _) _⟩
   ·have hF:Hid (setB s=false):=by
     show _=_
     cases hb:setB s with
     | false=>rfl
     | true =>
      have h:=(hR.out.1 hb).2.1
      rw [hgl] at h
      have h:=Option.some.inj h
      exact absurd (by rw [h];rfl) h3
    have e6:((s[q].toNat:Int) == 61)=false:=by rw [beq_eq_false_iff_ne];intro h;exact h3 (by omega)
    clear hgl hdl h3 hlen hq hR
    go_enter Tryz.func72,Tryz.ntmps72
    go_wp2
    go_ret
    exact ⟨ret_bool hF.out.symm,(Below.refl _ _).alloc (Nat.le_refl _) _⟩
  ·have hF:Hid (setB s=false):=by
    show _=_
    cases hb:setB s with
    | false=>rfl
    | true=>exact absurd (hR.out.1 hb).1 h2
   clear hlen
   go_enter Tryz.func72,Tryz.ntmps72
   go_wp2
   go_ret
   exact ⟨ret_bool hF.out.symm,(Below.refl _ _).alloc (Nat.le_refl _) _⟩
end
section
open Tk (T4)
structure Rs where
 N:List Mn
 L:List T4
 c:Int
 a:Int
 top:Int
def okR (r:Rs):Bool:=decide (r.c=0)
def isR (E:Nat) (s:List UInt8) (r:Rs):Bool:=okR r && (decide ((pk E r.L).k=4∨(pk E r.L).k=3) && decide ((pk E r.L).t=s))
def stopR (E:Nat) (code:Int) (r:Rs):Rs:=if okR r=true then { r with c:=code,a:=(pk E r.L).a } else r
def skipR (r:Rs):Rs:=if okR r=true then { r with L:=r.L.tail } else r
def wantR (E:Nat) (s:List UInt8) (r:Rs):Rs:=if isR E s r=true then skipR r else stopR E 1 r
def addR (x:Mn) (kids:List Int) (r:Rs):Option Rs :=
 if okR r=true then (if 5000000≤r.N.length∨5000000<kids.length then none else some { r with N:=r.N ++ [{ x with c:=kids }],top:=r.N.length }) else some r
inductive RJ where
 | expr
 | level (low:Nat)
 | levelL (low:Nat)
 | ahead
 | behind
 | behindL
 | first
 | list (e:List UInt8)
 | listL (e:List UInt8) (first:Bool) (out:List Int)
abbrev RL:=Rs × List Int
def alone (r:Option Rs):Option RL:=r.map fun r=>(r,[])
def stepR (E:Nat) (rec:RJ→Rs→Option RL):RJ→Rs→Option RL
 | .expr=>fun r=>(rec (.level 1) r).bind fun q =>
   if isR E [63] q.1=true then (rec .expr (skipR q.1)).bind fun q2=>(rec .expr (wantR E [58] q2.1)).bind fun q3 =>
    alone (addR (mk 38 [] 0 (pk E q.1.L).a) [q.1.top,q2.1.top,q3.1.top] q3.1)
   else if (okR q.1 && decide ((pk E q.1.L).k=4) && setT (pk E q.1.L).t)=true then (rec .expr (skipR q.1)).bind fun q2 =>
    alone (addR (mk 39 (pk E q.1.L).t 0 (pk E q.1.L).a) [q.1.top,q2.1.top] q2.1)
   else some (q.1,[])
 | .level low=>fun r=>(rec .ahead r).bind fun q=>rec (.levelL low) q.1
 | .levelL low=>fun r=>if (okR r && decide ((pk E r.L).k=4) && decide (low≤rankT (pk E r.L).t))=true then
    (rec (.level (rankT (pk E r.L).t+1)) (skipR r)).bind fun q =>
    (addR (mk (if rankT (pk E r.L).t<3 then 37 else 36) (pk E r.L).t 0 (pk E r.L).a) [r.top,q.1.top] q.1).bind fun r3=>rec (.levelL low) r3
   else some (r,[])
 | .ahead=>fun r =>
   if (isR E [45] r || isR E [33] r || isR E [126] r || isR E [42] r || isR E [38] r)=true then (rec .ahead (skipR r)).bind fun q =>
    alone (addR (mk 35 (pk E r.L).t 0 (pk E r.L).a) [q.1.top] q.1)
   else if (isR E [43,43] r || isR E [45,45] r)=true then (rec .ahead (skipR r)).bind fun q =>
    alone (addR (mk 40 (pk E r.L).t 0 (pk E r.L).a) [q.1.top] q.1)
   else (rec .behind r).bind fun q=>some (q.1,[])
 | .behind=>fun r=>(rec .first r).bind fun q=>rec .behindL q.1
 | .behindL=>fun r=>if (isR E [91] r || isR E [43,43] r || isR E [45,45] r)=true then
    if isR E [91] r=true then (rec .expr (skipR r)).bind fun q =>
     (addR (mk 34 [] 0 (pk E r.L).a) [r.top,q.1.top] (wantR E [93] q.1)).bind fun r3=>rec .behindL r3
    else (addR (mk 40 (pk E r.L).t 1 (pk E r.L).a) [r.top] (skipR r)).bind fun r3=>rec .behindL r3
   else some (r,[])
 | .first=>fun r =>
   if (okR r && decide ((pk E r.L).k=2))=true then alone (addR (mk 31 [] (pk E r.L).v (pk E r.L).a) [] (skipR r))
   else if (okR r && decide ((pk E r.L).k=1))=true then
    if isR E [40] (skipR r)=true then (rec (.list [41]) (skipR (skipR r))).bind fun q=>alone (addR (mk 33 (pk E r.L).t 0 (pk E r.L).a) q.2 q.1)
    else alone (addR (mk 32 (pk E r.L).t 0 (pk E r.L).a) [] (skipR r))
   else if isR E [40] r=true then (rec .expr (skipR r)).bind fun q=>some (wantR E [41] q.1,[])
   else some (stopR E 1 r,[])
 | .list e=>fun r=>rec (.listL e true []) r
 | .listL e first out=>fun r=>if (okR r && !isR E e r)=true then
    (rec .expr (if first=true then r else wantR E [44] r)).bind fun q=>if 6000000≤out.length then none else rec (.listL e false (out ++ [q.1.top])) q.1
   else some (wantR E e r,out)
def runR (E:Nat):Nat→RJ→Rs→Option RL
 | 0=>fun _ _=>none
 | n+1=>stepR E (runR E n)
end
section
open Go.RowKit
open Tk (T4 bstr)
def Le {α:Type}(x y:Option α):Prop:=∀ q,x=some q→y=some q
theorem Le.refl {α:Type}(x:Option α):Le x x:=fun _ h=>h
theorem Le.bind {α β:Type}{x y:Option α}{f g:α→Option β}(h:Le x y) (k:∀ a,Le (f a) (g a)):Le (x.bind f) (y.bind g):=by
 intro q hq
 cases x with
 | none=>cases hq
 | some a=>rw [h a rfl];exact k a q hq
theorem stepR_le {E:Nat}{rec rec':RJ→Rs→Option RL}(h:∀ j r,Le (rec j r) (rec' j r)):∀ j r,Le (stepR E rec j r) (stepR E rec' j r):=by
 intro j r
 cases j <;> simp only [stepR] <;> repeat' (first | exact Le.refl _ | exact h _ _ | refine Le.bind (h _ _) fun q=>?_ | refine Le.bind (Le.refl _) fun q=>?_ | split)
theorem runR_le {E:Nat}:∀ {n m:Nat},n≤m→∀ j r,Le (runR E n j r) (runR E m j r):=by
 intro n
 induction n with
 | zero=>intro m _ j r q h;cases h
 | succ n ih =>
  intro m hm j r
  obtain ⟨k,rfl⟩ : ∃ k,m=k+1:=⟨m-1,by omega⟩
  exact stepR_le (ih (by omega)) j r
section bad
variable {E:Nat}{r:Rs}(hr:r.c≠0)
include hr
theorem okR_bad:okR r=false:=by unfold okR;exact decide_eq_false hr
theorem isR_bad (s:List UInt8):isR E s r=false:=by unfold isR;rw [okR_bad hr];rfl
theorem skipR_bad:skipR r=r:=by unfold skipR;rw [okR_bad hr];rfl
theorem stopR_bad (code:Int):stopR E code r=r:=by unfold stopR;rw [okR_bad hr];rfl
theorem wantR_bad (s:List UInt8):wantR E s r=r:=by unfold wantR;rw [isR_bad hr,stopR_bad hr];rfl
theorem addR_bad (x:Mn) (k:List Int):addR x k r=some r:=by unfold addR;rw [okR_bad hr];rfl
theorem bad_first (n:Nat):runR E (n+1) .first r=some (r,[]):=by
 show stepR E (runR E n) .first r=_
 simp [stepR,okR_bad hr,isR_bad hr,stopR_bad hr]
theorem bad_behindL (n:Nat):runR E (n+1) .behindL r=some (r,[]):=by
 show stepR E (runR E n) .behindL r=_
 simp [stepR,isR_bad hr]
theorem bad_behind (n:Nat):runR E (n+2) .behind r=some (r,[]):=by
 show stepR E (runR E (n+1)) .behind r=_
 simp [stepR,bad_first hr,bad_behindL hr]
theorem bad_ahead (n:Nat):runR E (n+3) .ahead r=some (r,[]):=by
 show stepR E (runR E (n+2)) .ahead r=_
 simp [stepR,isR_bad hr,bad_behind hr]
theorem bad_levelL (n low:Nat):runR E (n+1) (.levelL low) r=some (r,[]):=by
 show stepR E (runR E n) (.levelL low) r=_
 simp [stepR,okR_bad hr]
theorem bad_level (n low:Nat):runR E (n+4) (.level low) r=some (r,[]):=by
 show stepR E (runR E (n+3)) (.level low) r=_
 simp [stepR,bad_ahead hr,bad_levelL hr]
theorem bad_expr (n:Nat):runR E (n+5) .expr r=some (r,[]):=by
 show stepR E (runR E (n+4)) .expr r=_
 simp [stepR,bad_level hr,isR_bad hr,okR_bad hr]
theorem bad_listL (n:Nat) (e:List UInt8) (f:Bool) (out:List Int):runR E (n+1) (.listL e f out) r=some (r,out):=by
 show stepR E (runR E n) (.listL e f out) r=_
 simp [stepR,okR_bad hr,wantR_bad hr]
end bad
def rs (s:S3) (a0 t0:Int):Rs:=⟨s.N,s.L,0,a0,t0⟩
structure HS (s:S3):Prop where
 low:s.O.length≤s.N.length
 few:s.N.length≤5000000
 tok:∀ x,x ∈ s.L→TokK x
theorem HS.tail {s:S3}(h:HS s):HS { s with L:=s.L.tail }:=⟨h.low,h.few,fun x hx=>h.tok x (List.mem_of_mem_tail hx)⟩
theorem ok_rs (s:S3) (a0 t0:Int):okR (rs s a0 t0)=true:=rfl
theorem skip_rs (s:S3) (a0 t0:Int):skipR (rs s a0 t0)=rs { s with L:=s.L.tail } a0 t0:=rfl
theorem stop_rs (E:Nat) (s:S3) (a0 t0 code:Int):stopR E code (rs s a0 t0)=⟨s.N,s.L,code,(pk E s.L).a,t0⟩:=rfl
def SgnKeyL (t:List UInt8):Prop:=Tk.signB t=true∨Tk.keyB t=true
theorem kind_sign {E:Nat}{L:List T4}(hL:∀ x,x ∈ L→TokK x) (h:Tk.signB (pk E L).t=true):(pk E L).k=4:=by
 cases L with
 | nil=>exact absurd (show Tk.signB []=true from h) (by decide)
 | cons x L=>exact (hL x (by simp)).sign.1 h
theorem kind_key {E:Nat}{L:List T4}(hL:∀ x,x ∈ L→TokK x) (h:Tk.keyB (pk E L).t=true):(pk E L).k=3:=by
 cases L with
 | nil=>exact absurd (show Tk.keyB []=true from h) (by decide)
 | cons x L=>exact (hL x (by simp)).key.1 h
theorem is_rs {E:Nat}{s:S3}(h:HS s) (a0 t0:Int) {t:List UInt8}(ht:SgnKeyL t):isR E t (rs s a0 t0)=decide ((pk E s.L).t=t):=by
 unfold isR
 rw [ok_rs,Bool.true_and,Bool.eq_iff_iff,Bool.and_eq_true,decide_eq_true_eq,decide_eq_true_eq,decide_eq_true_eq]
 refine ⟨fun h=>h.2,fun e=>⟨?_,e⟩⟩
 have e:(pk E s.L).t=t:=e
 show (pk E s.L).k=4∨(pk E s.L).k=3
 rcases ht with ht | ht
 ·exact Or.inl (kind_sign h.tok (by rw [e];exact ht))
 ·exact Or.inr (kind_key h.tok (by rw [e];exact ht))
theorem is_yes {E:Nat}{s:S3}(h:HS s) {a0 t0:Int}{t:List UInt8}(ht:SgnKeyL t) (e:(pk E s.L).t=t):isR E t (rs s a0 t0)=true:=by rw [is_rs h a0 t0 ht];exact decide_eq_true e
theorem is_no {E:Nat}{s:S3}(h:HS s) {a0 t0:Int}{t:List UInt8}(ht:SgnKeyL t) (e:(pk E s.L).t≠t):isR E t (rs s a0 t0)=false:=by rw [is_rs h a0 t0 ht];exact decide_eq_false e
theorem want_yes {E:Nat}{s:S3}(h:HS s) {a0 t0:Int}{t:List UInt8}(ht:SgnKeyL t) (e:(pk E s.L).t=t):wantR E t (rs s a0 t0)=rs { s with L:=s.L.tail } a0 t0:=by
 unfold wantR;rw [is_yes h ht e,if_pos rfl,skip_rs]
theorem want_no {E:Nat}{s:S3}(h:HS s) {a0 t0:Int}{t:List UInt8}(ht:SgnKeyL t) (e:(pk E s.L).t≠t):wantR E t (rs s a0 t0)=⟨s.N,s.L,1,(pk E s.L).a,t0⟩:=by
 unfold wantR;rw [is_no h ht e,stop_rs];exact if_neg (by decide)
theorem word_yes {E:Nat}{s:S3}{t:List UInt8}(e:(pk E s.L).t=t):wordF E t s=.ok { s with L:=s.L.tail }:=by unfold wordF;exact if_pos e
theorem word_no {E:Nat}{s:S3}{t:List UInt8}(e:(pk E s.L).t≠t):wordF E t s=.bad 1 (pk E s.L).a:=by unfold wordF;exact if_neg e
def Gv (s:S3) (a0:Int) (O0:List Int) (o:Option RL):R3→Prop
 | .ok s'=>HS s'∧∃ o',s'.O=O0 ++ [o']∧o=some (rs s' a0 o',[])
 | .bad c a=>c≠0∧∃ r',o=some (r',[])∧r'.c=c∧r'.a=a
 | .out=>True
def GvL (s:S3) (a0:Int) (out:List Int) (o:Option RL):R3→Prop
 | .ok s'=>HS s'∧∃ new t',s'.O=s.O ++ new∧o=some (rs s' a0 t',out ++ new)
 | .bad c a=>c≠0∧∃ q,o=some q∧q.1.c=c∧q.1.a=a
 | .out=>True
theorem add_gv {s:S3}(h:HS s) (x:Mn) {O0 ks:List Int}(hO:s.O=O0 ++ ks) (a0 t0:Int) (s0:S3):Gv s0 a0 O0 (alone (addR x ks (rs s a0 t0))) (addF x O0.length s):=by
 unfold addF
 have hl:s.O.length=O0.length+ks.length:=by rw [hO,List.length_append]
 have h1:=h.low
 have h2:=h.few
 split
 ·exact trivial
 ·next hn =>
  have hd:s.O.drop O0.length=ks:=by rw [hO,List.drop_left]
  have ht:s.O.take O0.length=O0:=by rw [hO,List.take_left]
  refine ⟨⟨?_,?_,h.tok⟩,s.N.length,by show s.O.take O0.length ++ _=_;rw [ht],?_⟩
  ·show (s.O.take O0.length ++ [(s.N.length:Int)]).length≤(s.N ++ [_]).length
   rw [ht,List.length_append,List.length_append,List.length_singleton,List.length_singleton];omega
  ·show (s.N ++ [_]).length≤5000000
   rw [List.length_append,List.length_singleton];omega
  ·unfold addR
   rw [ok_rs,if_pos rfl,if_neg (show ¬(5000000≤(rs s a0 t0).N.length∨5000000<ks.length) from by show ¬(5000000≤s.N.length∨_);omega)]
   show some (_,_)=some (_,_)
   unfold rs
   rw [hd]
theorem Gv.bad {s:S3}{a0:Int}{O0:List Int}{o:Option RL}{r':Rs}(hr:r'.c≠0) (h:o=some (r',[])):Gv s a0 O0 o (.bad r'.c r'.a):=⟨hr,r',h,rfl,rfl⟩
end
section
open Go.RowKit
open Tk (T4 bstr)
theorem bind_assoc3 (r:R3) (f g:F3):(r.bind f).bind g=r.bind (fun s=>(f s).bind g):=by cases r <;> rfl
theorem Gv.bind {s s2:S3}{a0:Int}{O1 O0:List Int}{x:Option RL}{r:R3}{f:F3}{g:RL→Option RL}(h:Gv s a0 O1 x r)
  (hok:∀ s' o',HS s'→s'.O=O1 ++ [o']→Gv s2 a0 O0 (g (rs s' a0 o',[])) (f s')) (hbad:∀ r':Rs,r'.c≠0→g (r',[])=some (r',[])):Gv s2 a0 O0 (x.bind g) (r.bind f):=by
 cases r with
 | out=>trivial
 | bad c a =>
  obtain ⟨hc,r',rfl,rfl,rfl⟩:=h
  exact ⟨hc,r',hbad r' hc,rfl,rfl⟩
 | ok s' =>
  obtain ⟨hs,o',hO,rfl⟩:=h
  exact hok s' o' hs hO
theorem Gv.wrong {s s0:S3}{a0:Int}{O0:List Int}{o:Option RL}{E:Nat}{r':Rs}(hr:r' = ⟨s0.N,s0.L,1,(pk E s0.L).a,r'.top⟩) (h:o=some (r',[])):Gv s a0 O0 o (.bad 1 (pk E s0.L).a) :=
 ⟨by decide,r',h,by rw [hr],by rw [hr]⟩
structure Sim (E n:Nat):Prop where
 expr:∀ s a0 t0,HS s→Gv s a0 s.O (runR E (n+6) .expr (rs s a0 t0)) (runJ E n .expr s)
 pairs:∀ low s a0 t0,HS s→Gv s a0 s.O (runR E (n+6) (.level (low+1)) (rs s a0 t0)) (runJ E n (.pairs (low+2)) s)
 pairsL:∀ low s a0 O0 t0,HS s→s.O=O0 ++ [t0]→Gv s a0 O0 (runR E (n+6) (.levelL (low+1)) (rs s a0 t0)) (runJ E n (.pairsL (low+2) O0.length) s)
 prefixed:∀ s a0 t0,HS s→Gv s a0 s.O (runR E (n+6) .ahead (rs s a0 t0)) (runJ E n .prefixed s)
 postfixed:∀ s a0 t0,HS s→Gv s a0 s.O (runR E (n+6) .behind (rs s a0 t0)) (runJ E n .postfixed s)
 postL:∀ s a0 O0 t0,HS s→s.O=O0 ++ [t0]→Gv s a0 O0 (runR E (n+6) .behindL (rs s a0 t0)) (runJ E n (.postL O0.length) s)
 primary:∀ s a0 t0,HS s→Gv s a0 s.O (runR E (n+6) .first (rs s a0 t0)) (runJ E n .primary s)
 items:∀ e s a0 t0 r0 first out,HS s→e≠[44]→SgnKeyL e→okR r0=true→isR E e r0=false→(if first=true then r0 else wantR E [44] r0)=rs s a0 t0→out.length≤s.O.length →
  GvL s a0 out (runR E (n+6) (.listL e first out) r0) (runJ E n (.items e .expr) s)
 list:∀ o e s a0 t0,HS s→e≠[44]→SgnKeyL e→(pk E s.L).t=o→GvL s a0 [] (runR E (n+6) (.list e) (rs { s with L:=s.L.tail } a0 t0)) (runJ E n (.list o e .expr) s)
theorem sgn (t:List UInt8) (h:Tk.signB t=true):SgnKeyL t:=Or.inl h
theorem level_sign {t:List UInt8}(h:2≤levelT t):Tk.signB t=true:=by
 unfold levelT at h
 repeat' split at h
 all_goals first
  | omega
  | (next h1=>subst h1;decide)
  | (next h1=>rcases h1 with h1 | h1 <;> subst h1 <;> decide)
  | (next h1=>rcases h1 with h1 | h1 | h1 <;> subst h1 <;> decide)
  | (next h1=>rcases h1 with h1 | h1 | h1 | h1 <;> subst h1 <;> decide)
theorem set_sign {t:List UInt8}(h:setT t=true):Tk.signB t=true:=by
 unfold setT at h
 rw [decide_eq_true_eq] at h
 simp only [List.mem_cons,List.not_mem_nil,or_false] at h
 rcases h with rfl | rfl | rfl | rfl | rfl | rfl | rfl | rfl | rfl | rfl | rfl <;> decide
theorem bad1 (N:List Mn) (L:List T4) (a t:Int):(Rs.mk N L 1 a t).c≠0:=by show (1:Int)≠0;decide
theorem addR_ok {s:S3}(h:HS s) (x:Mn) {O0 ks:List Int}(hO:s.O=O0 ++ ks) (a0 t0:Int):match addF x O0.length s with
  | .ok s'=>HS s'∧∃ o',s'.O=O0 ++ [o']∧addR x ks (rs s a0 t0)=some (rs s' a0 o')
  | .bad _ _=>False
  | .out=>True:=by
 have hg:=add_gv h x hO a0 t0 s
 cases ha:addF x O0.length s with
 | out=>trivial
 | bad c a=>unfold addF at ha;split at ha <;> cases ha
 | ok s3 =>
  rw [ha] at hg
  obtain ⟨h3,o3,hO3,e3⟩:=hg
  refine ⟨h3,o3,hO3,?_⟩
  unfold alone at e3
  cases hx:addR x ks (rs s a0 t0) with
  | none=>rw [hx] at e3;cases e3
  | some r3=>rw [hx] at e3;injection e3 with e3;injection e3 with e3;rw [e3]
theorem listL_end {E:Nat}{e:List UInt8}{s:S3}(hs:HS s) (he:SgnKeyL e) {m:Nat}{a0 t0:Int}{first:Bool}{out:List Int}(h:(pk E s.L).t=e):runR E (m+1) (.listL e first out) (rs s a0 t0)=some (rs { s with L:=s.L.tail } a0 t0,out):=by
 show (if (okR (rs s a0 t0) && !isR E e (rs s a0 t0))=true then _ else some (wantR E e (rs s a0 t0),out))=_
 rw [is_yes hs he h,want_yes hs he h];rfl
section step
variable {E n:Nat}(ih:Sim E n)
include ih
theorem sim_expr (s:S3) (a0 t0:Int) (hs:HS s):Gv s a0 s.O (runR E (n+1+6) .expr (rs s a0 t0)) (runJ E (n+1) .expr s):=by
 show Gv s a0 s.O ((runR E (n+6) (.level 1) (rs s a0 t0)).bind _) ((runJ E n (.pairs 2) s).bind _)
 refine Gv.bind (ih.pairs 0 s a0 t0 hs) (fun s1 o1 h1 hO1=>?_) (fun r' hr=>by simp [isR_bad hr,okR_bad hr])
 by_cases hq:(pk E s1.L).t=[63]
 ·rw [if_pos hq,if_pos (is_yes h1 (sgn _ (by decide)) hq)]
  show Gv s a0 s.O ((runR E (n+6) .expr (rs { s1 with L:=s1.L.tail } a0 o1)).bind _) (R3.bind (R3.bind (wordF E [63] s1) (seqF [runJ E n .expr,wordF E [58],runJ E n .expr])) (addF _ _))
  rw [word_yes hq]
  show Gv s a0 s.O _ (R3.bind (R3.bind (runJ E n .expr { s1 with L:=s1.L.tail }) (seqF [wordF E [58],runJ E n .expr])) (addF _ _))
  rw [bind_assoc3]
  refine Gv.bind (ih.expr _ a0 o1 h1.tail) (fun s2 o2 h2 hO2=>?_) (fun r' hr=>by simp [wantR_bad hr,bad_expr hr,addR_bad hr,alone])
  show Gv s a0 s.O ((runR E (n+6) .expr (wantR E [58] (rs s2 a0 o2))).bind _) (R3.bind (R3.bind (wordF E [58] s2) (seqF [runJ E n .expr])) (addF _ _))
  by_cases hc:(pk E s2.L).t=[58]
  ·rw [word_yes hc,want_yes h2 (sgn _ (by decide)) hc]
   show Gv s a0 s.O _ (R3.bind (R3.bind (runJ E n .expr { s2 with L:=s2.L.tail }) (seqF [])) (addF _ _))
   rw [bind_assoc3]
   refine Gv.bind (ih.expr _ a0 o2 h2.tail) (fun s3 o3 h3 hO3=>?_) (fun r' hr=>by simp [addR_bad hr,alone])
   refine add_gv h3 _ (ks:=[o1,o2,o3]) ?_ a0 o3 s
   have e2:s2.O=s1.O ++ [o2]:=hO2
   have e3:s3.O=s2.O ++ [o3]:=hO3
   rw [e3,e2,hO1];simp
  ·rw [word_no hc,want_no h2 (sgn _ (by decide)) hc,bad_expr (bad1 _ _ _ _)]
   exact Gv.wrong (s0:=s2) (r':=⟨s2.N,s2.L,1,(pk E s2.L).a,o2⟩) rfl (by simp [addR_bad (r:=⟨s2.N,s2.L,1,(pk E s2.L).a,o2⟩) (bad1 _ _ _ _),alone])
 ·rw [if_neg hq,if_neg (by rw [is_no h1 (sgn _ (by decide)) hq];decide)]
  by_cases ht:setT (pk E s1.L).t=true
  ·have hk:=kind_sign h1.tok (set_sign ht)
   rw [if_pos ht,if_pos (by show (okR (rs s1 a0 o1) && decide ((pk E s1.L).k=4) && setT (pk E s1.L).t)=true;rw [ok_rs,hk,ht];rfl)]
   show Gv s a0 s.O ((runR E (n+6) .expr (rs { s1 with L:=s1.L.tail } a0 o1)).bind _) (R3.bind (R3.bind (wordF E (pk E s1.L).t s1) (seqF [runJ E n .expr])) (addF _ _))
   rw [word_yes rfl]
   show Gv s a0 s.O _ (R3.bind (R3.bind (runJ E n .expr { s1 with L:=s1.L.tail }) (seqF [])) (addF _ _))
   rw [bind_assoc3]
   refine Gv.bind (ih.expr _ a0 o1 h1.tail) (fun s2 o2 h2 hO2=>?_) (fun r' hr=>by simp [addR_bad hr,alone])
   refine add_gv h2 _ (ks:=[o1,o2]) ?_ a0 o2 s
   have e2:s2.O=s1.O ++ [o2]:=hO2
   rw [e2,hO1];simp
  ·rw [if_neg ht,if_neg (by show ¬ (okR (rs s1 a0 o1) && decide ((pk E s1.L).k=4) && setT (pk E s1.L).t)=true;rw [Bool.and_eq_true];exact fun h=>ht h.2)]
   exact ⟨h1,o1,hO1,rfl⟩
theorem sim_pairs (low:Nat) (s:S3) (a0 t0:Int) (hs:HS s):Gv s a0 s.O (runR E (n+1+6) (.level (low+1)) (rs s a0 t0)) (runJ E (n+1) (.pairs (low+2)) s):=by
 show Gv s a0 s.O ((runR E (n+6) .ahead (rs s a0 t0)).bind _) (if 1000<low+2 then .out else (runJ E n .prefixed s).bind _)
 split
 ·trivial
 ·exact Gv.bind (ih.prefixed s a0 t0 hs) (fun s1 o1 h1 hO1=>ih.pairsL low s1 a0 s.O o1 h1 hO1) (fun r' hr=>bad_levelL hr _ _)
theorem sim_pairsL (low:Nat) (s:S3) (a0:Int) (O0:List Int) (t0:Int) (hs:HS s) (hO:s.O=O0 ++ [t0]):Gv s a0 O0 (runR E (n+1+6) (.levelL (low+1)) (rs s a0 t0)) (runJ E (n+1) (.pairsL (low+2) O0.length) s):=by
 show Gv s a0 O0 (if (okR (rs s a0 t0) && decide ((pk E s.L).k=4) && decide (low+1≤rankT (pk E s.L).t))=true then _ else _) (if low+2≤levelT (pk E s.L).t then _ else _)
 have hr:=rank_level (pk E s.L).t
 by_cases hl:low+2≤levelT (pk E s.L).t
 ·have hk:=kind_sign hs.tok (level_sign (by omega:2≤levelT (pk E s.L).t))
  have hrl:rankT (pk E s.L).t+1=levelT (pk E s.L).t:=by omega
  rw [if_pos hl,if_pos (by rw [ok_rs,hk];simp;omega)]
  show Gv s a0 O0 ((runR E (n+6) (.level (rankT (pk E s.L).t+1)) (rs { s with L:=s.L.tail } a0 t0)).bind _) (R3.bind (R3.bind (R3.bind (runJ E n (.pairs (levelT (pk E s.L).t+1)) { s with L:=s.L.tail }) (seqF [])) (addF _ _)) _)
  rw [bind_assoc3,bind_assoc3]
  have hp:=ih.pairs (rankT (pk E s.L).t) { s with L:=s.L.tail } a0 t0 hs.tail
  rw [show rankT (pk E s.L).t+2=levelT (pk E s.L).t+1 by omega] at hp
  refine Gv.bind hp (fun s2 o2 h2 hO2=>?_) (fun r' hr=>by simp [addR_bad hr,bad_levelL hr])
  have hkk:(if rankT (pk E s.L).t<3 then (37:Int) else 36)=pairK (levelT (pk E s.L).t):=by
   unfold pairK
   by_cases h3:rankT (pk E s.L).t<3
   ·rw [if_pos h3,if_pos (by omega)]
   ·rw [if_neg h3,if_neg (by omega)]
  have e2:s2.O=s.O ++ [o2]:=hO2
  have hg:=add_gv h2 (mk (pairK (levelT (pk E s.L).t)) (pk E s.L).t 0 (pk E s.L).a) (O0:=O0) (ks:=[t0,o2]) (by rw [e2,hO];simp) a0 o2 s
  show Gv s a0 O0 ((addR (mk (if rankT (pk E s.L).t<3 then 37 else 36) (pk E s.L).t 0 (pk E s.L).a) [t0,o2] (rs s2 a0 o2)).bind _) (R3.bind (addF _ O0.length s2) (runJ E n (.pairsL (low+2) O0.length)))
  rw [hkk]
  cases ha:addF (mk (pairK (levelT (pk E s.L).t)) (pk E s.L).t 0 (pk E s.L).a) O0.length s2 with
  | out=>trivial
  | bad c a=>unfold addF at ha;split at ha <;> cases ha
  | ok s3 =>
   rw [ha] at hg
   obtain ⟨h3,o3,hO3,e3⟩:=hg
   unfold alone at e3
   cases hx:addR (mk (pairK (levelT (pk E s.L).t)) (pk E s.L).t 0 (pk E s.L).a) [t0,o2] (rs s2 a0 o2) with
   | none=>rw [hx] at e3;cases e3
   | some r3 =>
    rw [hx] at e3
    injection e3 with e3
    injection e3 with e3
    subst e3
    exact ih.pairsL low s3 a0 O0 o3 h3 hO3
 ·rw [if_neg hl,if_neg (by rw [Bool.and_eq_true,decide_eq_true_eq];omega)]
  exact ⟨hs,t0,hO,rfl⟩
theorem sim_prefixed (s:S3) (a0 t0:Int) (hs:HS s):Gv s a0 s.O (runR E (n+1+6) .ahead (rs s a0 t0)) (runJ E (n+1) .prefixed s):=by
 have i1:=is_rs (E:=E) hs a0 t0 (sgn [45] (by decide))
 have i2:=is_rs (E:=E) hs a0 t0 (sgn [33] (by decide))
 have i3:=is_rs (E:=E) hs a0 t0 (sgn [126] (by decide))
 have i4:=is_rs (E:=E) hs a0 t0 (sgn [42] (by decide))
 have i5:=is_rs (E:=E) hs a0 t0 (sgn [38] (by decide))
 have i6:=is_rs (E:=E) hs a0 t0 (sgn [43,43] (by decide))
 have i7:=is_rs (E:=E) hs a0 t0 (sgn [45,45] (by decide))
 show Gv s a0 s.O (if (isR E [45] (rs s a0 t0) || isR E [33] (rs s a0 t0) || isR E [126] (rs s a0 t0) || isR E [42] (rs s a0 t0) || isR E [38] (rs s a0 t0))=true then (runR E (n+6) .ahead (rs { s with L:=s.L.tail } a0 t0)).bind _
  else if (isR E [43,43] (rs s a0 t0) || isR E [45,45] (rs s a0 t0))=true then (runR E (n+6) .ahead (rs { s with L:=s.L.tail } a0 t0)).bind _ else (runR E (n+6) .behind (rs s a0 t0)).bind _) (if prefT (pk E s.L).t=0 then _ else _)
 rw [i1,i2,i3,i4,i5,i6,i7]
 have key:∀ k,prefT (pk E s.L).t=k→k≠0→Gv s a0 s.O ((runR E (n+6) .ahead (rs { s with L:=s.L.tail } a0 t0)).bind fun q=>alone (addR (mk k (pk E s.L).t 0 (pk E s.L).a) [q.1.top] q.1))
   (buildF (mk (prefT (pk E s.L).t) (pk E s.L).t 0 (pk E s.L).a) [wordF E (pk E s.L).t,runJ E n .prefixed] s):=by
  intro k hk _
  rw [hk]
  show Gv s a0 s.O _ (R3.bind (R3.bind (wordF E (pk E s.L).t s) (seqF [runJ E n .prefixed])) (addF _ _))
  rw [word_yes rfl]
  show Gv s a0 s.O _ (R3.bind (R3.bind (runJ E n .prefixed { s with L:=s.L.tail }) (seqF [])) (addF _ _))
  rw [bind_assoc3]
  exact Gv.bind (ih.prefixed _ a0 t0 hs.tail) (fun s2 o2 h2 hO2=>add_gv h2 _ (ks:=[o2]) hO2 a0 o2 s) (fun r' hr=>by simp [addR_bad hr,alone])
 by_cases h1:(pk E s.L).t=[45]∨(pk E s.L).t=[33]∨(pk E s.L).t=[126]∨(pk E s.L).t=[42]∨(pk E s.L).t=[38]
 ·have hp:prefT (pk E s.L).t=35:=by unfold prefT;rw [if_pos h1]
  rw [if_pos (by simpa [or_assoc] using h1),if_neg (by rw [hp];decide)]
  exact key 35 hp (by decide)
 ·by_cases h2:(pk E s.L).t=[43,43]∨(pk E s.L).t=[45,45]
  ·have hp:prefT (pk E s.L).t=40:=by unfold prefT;rw [if_neg h1,if_pos h2]
   rw [if_neg (by simpa [or_assoc] using h1),if_pos (by simpa using h2),if_neg (by rw [hp];decide)]
   exact key 40 hp (by decide)
  ·have hp:prefT (pk E s.L).t=0:=by unfold prefT;rw [if_neg h1,if_neg h2]
   rw [if_neg (by simpa [or_assoc] using h1),if_neg (by simpa using h2),if_pos hp]
   have h:=Gv.bind (s2:=s) (O0:=s.O) (f:=.ok) (g:=fun q=>some (q.1,[])) (ih.postfixed s a0 t0 hs) (fun s2 o2 h2 hO2=>⟨h2,o2,hO2,rfl⟩) (fun r' hr=>rfl)
   have e:(runJ E n .postfixed s).bind .ok=runJ E n .postfixed s:=by cases runJ E n .postfixed s <;> rfl
   rw [e] at h
   exact h
theorem sim_postfixed (s:S3) (a0 t0:Int) (hs:HS s):Gv s a0 s.O (runR E (n+1+6) .behind (rs s a0 t0)) (runJ E (n+1) .postfixed s):=by
 show Gv s a0 s.O ((runR E (n+6) .first (rs s a0 t0)).bind _) ((runJ E n .primary s).bind _)
 exact Gv.bind (ih.primary s a0 t0 hs) (fun s1 o1 h1 hO1=>ih.postL s1 a0 s.O o1 h1 hO1) (fun r' hr=>bad_behindL hr _)
theorem sim_postL (s:S3) (a0:Int) (O0:List Int) (t0:Int) (hs:HS s) (hO:s.O=O0 ++ [t0]):Gv s a0 O0 (runR E (n+1+6) .behindL (rs s a0 t0)) (runJ E (n+1) (.postL O0.length) s):=by
 have i1:=is_rs (E:=E) hs a0 t0 (sgn [91] (by decide))
 have i6:=is_rs (E:=E) hs a0 t0 (sgn [43,43] (by decide))
 have i7:=is_rs (E:=E) hs a0 t0 (sgn [45,45] (by decide))
 show Gv s a0 O0 (if (isR E [91] (rs s a0 t0) || isR E [43,43] (rs s a0 t0) || isR E [45,45] (rs s a0 t0))=true then
   (if isR E [91] (rs s a0 t0)=true then (runR E (n+6) .expr (rs { s with L:=s.L.tail } a0 t0)).bind _ else (addR (mk 40 (pk E s.L).t 1 (pk E s.L).a) [t0] (rs { s with L:=s.L.tail } a0 t0)).bind _) else _)
  (if (pk E s.L).t=[91] then _ else if (pk E s.L).t=[43,43]∨(pk E s.L).t=[45,45] then _ else _)
 rw [i1,i6,i7]
 by_cases h1:(pk E s.L).t=[91]
 ·rw [if_pos (by simp [h1]),if_pos (by simp [h1]),if_pos h1]
  show Gv s a0 O0 _ (R3.bind (R3.bind (R3.bind (wordF E [91] s) (seqF [runJ E n .expr,wordF E [93]])) (addF _ _)) _)
  rw [word_yes h1]
  show Gv s a0 O0 _ (R3.bind (R3.bind (R3.bind (runJ E n .expr { s with L:=s.L.tail }) (seqF [wordF E [93]])) (addF _ _)) _)
  rw [bind_assoc3,bind_assoc3]
  refine Gv.bind (ih.expr _ a0 t0 hs.tail) (fun s2 o2 h2 hO2=>?_) (fun r' hr=>by simp [wantR_bad hr,addR_bad hr,bad_behindL hr])
  show Gv s a0 O0 ((addR _ [t0,o2] (wantR E [93] (rs s2 a0 o2))).bind _) (R3.bind (R3.bind (wordF E [93] s2) (seqF [])) (fun s_1=>(addF (mk 34 [] 0 (pk E s.L).a) O0.length s_1).bind (runJ E n (.postL O0.length))))
  by_cases hc:(pk E s2.L).t=[93]
  ·rw [word_yes hc,want_yes h2 (sgn _ (by decide)) hc]
   have e2:s2.O=s.O ++ [o2]:=hO2
   have hg:=addR_ok (s:={ s2 with L:=s2.L.tail }) h2.tail (mk 34 [] 0 (pk E s.L).a) (O0:=O0) (ks:=[t0,o2]) (by show s2.O=_;rw [e2,hO];simp) a0 o2
   show Gv s a0 O0 _ (R3.bind (addF (mk 34 [] 0 (pk E s.L).a) O0.length { s2 with L:=s2.L.tail }) (runJ E n (.postL O0.length)))
   cases ha:addF (mk 34 [] 0 (pk E s.L).a) O0.length { s2 with L:=s2.L.tail } with
   | out=>trivial
   | bad c a=>rw [ha] at hg;exact hg.elim
   | ok s3 =>
    rw [ha] at hg
    obtain ⟨h3,o3,hO3,e3⟩:=hg
    show Gv s a0 O0 ((addR (mk 34 [] 0 (pk E s.L).a) [t0,o2] (rs { s2 with L:=s2.L.tail } a0 o2)).bind _) _
    rw [e3]
    exact ih.postL s3 a0 O0 o3 h3 hO3
  ·rw [word_no hc,want_no h2 (sgn _ (by decide)) hc,addR_bad (bad1 _ _ _ _)]
   exact Gv.wrong (s0:=s2) (r':=⟨s2.N,s2.L,1,(pk E s2.L).a,o2⟩) rfl (bad_behindL (bad1 _ _ _ _) _)
 ·by_cases h2:(pk E s.L).t=[43,43]∨(pk E s.L).t=[45,45]
  ·rw [if_pos (by simp [h1];exact h2),if_neg (by simp [h1]),if_neg h1,if_pos h2]
   have hg:=addR_ok (s:={ s with L:=s.L.tail }) hs.tail (mk 40 (pk E s.L).t 1 (pk E s.L).a) (O0:=O0) (ks:=[t0]) hO a0 t0
   cases ha:addF (mk 40 (pk E s.L).t 1 (pk E s.L).a) O0.length { s with L:=s.L.tail } with
   | out=>trivial
   | bad c a=>rw [ha] at hg;exact hg.elim
   | ok s3 =>
    rw [ha] at hg
    obtain ⟨h3,o3,hO3,e3⟩:=hg
    rw [e3]
    exact ih.postL s3 a0 O0 o3 h3 hO3
  ·rw [if_neg (by simp [h1];exact not_or.1 h2),if_neg h1,if_neg h2]
   exact ⟨hs,t0,hO,rfl⟩
theorem sim_primary (s:S3) (a0 t0:Int) (hs:HS s):Gv s a0 s.O (runR E (n+1+6) .first (rs s a0 t0)) (runJ E (n+1) .primary s):=by
 show Gv s a0 s.O (if (okR (rs s a0 t0) && decide ((pk E s.L).k=2))=true then alone (addR (mk 31 [] (pk E s.L).v (pk E s.L).a) [] (rs { s with L:=s.L.tail } a0 t0))
   else if (okR (rs s a0 t0) && decide ((pk E s.L).k=1))=true then
    (if isR E [40] (rs { s with L:=s.L.tail } a0 t0)=true then (runR E (n+6) (.list [41]) (rs { s with L:=s.L.tail.tail } a0 t0)).bind _ else alone (addR (mk 32 (pk E s.L).t 0 (pk E s.L).a) [] (rs { s with L:=s.L.tail } a0 t0)))
   else if isR E [40] (rs s a0 t0)=true then (runR E (n+6) .expr (rs { s with L:=s.L.tail } a0 t0)).bind _ else _)
  (if (pk E s.L).k=2 then _ else if (pk E s.L).k=1 then (if (pk E s.L.tail).t=[40] then _ else _) else _)
 rw [ok_rs,Bool.true_and,Bool.true_and]
 have h0:s.O=s.O ++ []:=by simp
 by_cases h2:(pk E s.L).k=2
 ·rw [if_pos (by rw [h2];rfl),if_pos h2]
  exact add_gv (s:={ s with L:=s.L.tail }) hs.tail (mk 31 [] (pk E s.L).v (pk E s.L).a) (O0:=s.O) (ks:=[]) h0 a0 t0 s
 ·rw [if_neg (by simpa using h2),if_neg h2]
  by_cases h1:(pk E s.L).k=1
  ·rw [if_pos (by rw [h1];rfl),if_pos h1]
   by_cases hb:(pk E s.L.tail).t=[40]
   ·rw [if_pos hb,if_pos (is_yes (s:={ s with L:=s.L.tail }) hs.tail (sgn _ (by decide)) hb)]
    show Gv s a0 s.O _ (R3.bind (R3.bind (runJ E n (.list [40] [41] .expr) { s with L:=s.L.tail }) (seqF [])) (addF _ _))
    rw [bind_assoc3]
    have hg:=ih.list [40] [41] { s with L:=s.L.tail } a0 t0 hs.tail (by decide) (sgn _ (by decide)) hb
    cases hr:runJ E n (.list [40] [41] .expr) { s with L:=s.L.tail } with
    | out=>trivial
    | bad c a =>
     rw [hr] at hg
     obtain ⟨hc,⟨r',l⟩,e,rfl,rfl⟩:=hg
     refine ⟨hc,r',?_,rfl,rfl⟩
     show ((runR E (n+6) (.list [41]) _).bind _)=_
     rw [e]
     show alone (addR _ _ r')=_
     rw [addR_bad hc];rfl
    | ok s2 =>
     rw [hr] at hg
     obtain ⟨h2,new,t',hO,e⟩:=hg
     show Gv s a0 s.O ((runR E (n+6) (.list [41]) _).bind _) (addF _ _ s2)
     rw [e]
     exact add_gv h2 _ (O0:=s.O) (ks:=new) hO a0 t' s
   ·rw [if_neg hb,if_neg (by rw [is_no (s:={ s with L:=s.L.tail }) hs.tail (sgn _ (by decide)) hb];decide)]
    exact add_gv (s:={ s with L:=s.L.tail }) hs.tail (mk 32 (pk E s.L).t 0 (pk E s.L).a) (O0:=s.O) (ks:=[]) h0 a0 t0 s
  ·rw [if_neg (by simpa using h1),if_neg h1]
   show Gv s a0 s.O _ (R3.bind (wordF E [40] s) (seqF [runJ E n .expr,wordF E [41]]))
   by_cases hb:(pk E s.L).t=[40]
   ·rw [word_yes hb,if_pos (is_yes hs (sgn _ (by decide)) hb)]
    show Gv s a0 s.O _ (R3.bind (runJ E n .expr { s with L:=s.L.tail }) (seqF [wordF E [41]]))
    refine Gv.bind (ih.expr _ a0 t0 hs.tail) (fun s2 o2 h2 hO2=>?_) (fun r' hr=>by simp [wantR_bad hr])
    show Gv s a0 s.O (some (wantR E [41] (rs s2 a0 o2),[])) (R3.bind (wordF E [41] s2) (seqF []))
    by_cases hc:(pk E s2.L).t=[41]
    ·rw [word_yes hc,want_yes h2 (sgn _ (by decide)) hc]
     exact ⟨h2.tail,o2,hO2,rfl⟩
    ·rw [word_no hc,want_no h2 (sgn _ (by decide)) hc]
     exact Gv.wrong (s0:=s2) (r':=⟨s2.N,s2.L,1,(pk E s2.L).a,o2⟩) rfl rfl
   ·rw [word_no hb,if_neg (by rw [is_no hs (sgn _ (by decide)) hb];decide),stop_rs]
    exact Gv.wrong (s0:=s) (r':=⟨s.N,s.L,1,(pk E s.L).a,t0⟩) rfl rfl
theorem sim_items (e:List UInt8) (s:S3) (a0 t0:Int) (r0:Rs) (first:Bool) (out:List Int) (hs:HS s) (hne:e≠[44]) (he:SgnKeyL e) (hok:okR r0=true) (his:isR E e r0=false)
  (hr0:(if first=true then r0 else wantR E [44] r0)=rs s a0 t0) (hout:out.length≤s.O.length):GvL s a0 out (runR E (n+1+6) (.listL e first out) r0) (runJ E (n+1) (.items e .expr) s):=by
 show GvL s a0 out (if (okR r0 && !isR E e r0)=true then _ else _) ((runJ E n .expr s).bind _)
 rw [if_pos (by rw [hok,his];rfl)]
 show GvL s a0 out ((runR E (n+6) .expr (if first=true then r0 else wantR E [44] r0)).bind _) _
 rw [hr0]
 have h1:=ih.expr s a0 t0 hs
 cases hr:runJ E n .expr s with
 | out=>trivial
 | bad c a =>
  rw [hr] at h1
  obtain ⟨hc,r',e1,rfl,rfl⟩:=h1
  rw [e1]
  refine ⟨hc,(r',out ++ [r'.top]),?_,rfl,rfl⟩
  show (if 6000000≤out.length then none else runR E (n+6) (.listL e false (out ++ [r'.top])) r')=_
  rw [if_neg (by have:=hs.low;have:=hs.few;omega),bad_listL hc]
 | ok s1 =>
  rw [hr] at h1
  obtain ⟨h1,o1,hO1,e1⟩:=h1
  rw [e1]
  show GvL s a0 out (if 6000000≤out.length then none else runR E (n+6) (.listL e false (out ++ [o1])) (rs s1 a0 o1)) (if (pk E s1.L).t=[44] then runJ E n (.items e .expr) { s1 with L:=s1.L.tail } else wordF E e s1)
  have hl1:s1.O.length=s.O.length+1:=by rw [hO1,List.length_append];rfl
  rw [if_neg (by have:=h1.low;have:=h1.few;omega)]
  by_cases hc:(pk E s1.L).t=[44]
  ·rw [if_pos hc]
   have hne':(pk E s1.L).t≠e:=fun h=>hne (by rw [← h,hc])
   have hg:=ih.items e { s1 with L:=s1.L.tail } a0 o1 (rs s1 a0 o1) false (out ++ [o1]) h1.tail hne he rfl (is_no h1 he hne') (by rw [want_yes h1 (sgn _ (by decide)) hc];rfl) (by rw [List.length_append];show _≤s1.O.length;simp;omega)
   cases hr2:runJ E n (.items e .expr) { s1 with L:=s1.L.tail } with
   | out=>trivial
   | bad c a=>rw [hr2] at hg;exact hg
   | ok s2 =>
    rw [hr2] at hg
    obtain ⟨h2,new,t',hO2,e2⟩:=hg
    refine ⟨h2,o1 :: new,t',?_,?_⟩
    ·have hO2:s2.O=s1.O ++ new:=hO2
     rw [hO2,hO1];simp
    ·rw [e2];simp
  ·rw [if_neg hc]
   obtain ⟨k,hk⟩ : ∃ k,n+6=k+6:=⟨n,rfl⟩
   by_cases hq:(pk E s1.L).t=e
   ·rw [word_yes hq,listL_end h1 he hq]
    exact ⟨h1.tail,[o1],o1,hO1,rfl⟩
   ·rw [word_no hq]
    refine ⟨by decide,?_⟩
    show ∃ q,(if (okR (rs s1 a0 o1) && !isR E e (rs s1 a0 o1))=true then (runR E (n+5) .expr (wantR E [44] (rs s1 a0 o1))).bind (fun q=>if 6000000≤(out ++ [o1]).length then none else runR E (n+5) (.listL e false (out ++ [o1] ++ [q.1.top])) q.1) else _)=some q∧_
    rw [is_no h1 he hq,ok_rs,want_no h1 (sgn _ (by decide)) hc,bad_expr (bad1 _ _ _ _)]
    refine ⟨(⟨s1.N,s1.L,1,(pk E s1.L).a,o1⟩,out ++ [o1] ++ [o1]),?_,rfl,rfl⟩
    show (if 6000000≤(out ++ [o1]).length then none else runR E (n+5) (.listL e false (out ++ [o1] ++ [o1])) ⟨s1.N,s1.L,1,(pk E s1.L).a,o1⟩)=_
    rw [if_neg (by rw [List.length_append];show ¬ 6000000≤out.length+1;have:=hs.low;have:=hs.few;omega),bad_listL (bad1 _ _ _ _)]
theorem sim_list (o e:List UInt8) (s:S3) (a0 t0:Int) (hs:HS s) (hne:e≠[44]) (he:SgnKeyL e) (ho:(pk E s.L).t=o):GvL s a0 [] (runR E (n+1+6) (.list e) (rs { s with L:=s.L.tail } a0 t0)) (runJ E (n+1) (.list o e .expr) s):=by
 show GvL s a0 [] (runR E (n+6) (.listL e true []) (rs { s with L:=s.L.tail } a0 t0)) ((wordF E o s).bind _)
 rw [word_yes ho]
 show GvL s a0 [] _ (if (pk E s.L.tail).t=e then _ else _)
 by_cases hq:(pk E s.L.tail).t=e
 ·rw [if_pos hq,listL_end (s:={ s with L:=s.L.tail }) hs.tail he hq]
  exact ⟨hs.tail.tail,[],t0,by simp,rfl⟩
 ·rw [if_neg hq]
  exact ih.items e { s with L:=s.L.tail } a0 t0 (rs { s with L:=s.L.tail } a0 t0) true [] hs.tail hne he rfl (is_no (s:={ s with L:=s.L.tail }) hs.tail he hq) rfl (Nat.zero_le _)
end step
theorem sim (E:Nat):∀ n,Sim E n:=by
 intro n
 induction n with
 | zero=>exact ⟨fun _ _ _ _=>trivial,fun _ _ _ _ _=>trivial,fun _ _ _ _ _ _ _=>trivial,fun _ _ _ _=>trivial,fun _ _ _ _=>trivial,fun _ _ _ _ _ _=>trivial,fun _ _ _ _=>trivial,
   fun _ _ _ _ _ _ _ _ _ _ _ _ _ _=>trivial,fun _ _ _ _ _ _ _ _ _=>trivial⟩
 | succ n ih=>exact ⟨sim_expr ih,sim_pairs ih,sim_pairsL ih,sim_prefixed ih,sim_postfixed ih,sim_postL ih,sim_primary ih,sim_items ih,sim_list ih⟩
end
section
open Tk (T4)
def kindR (E:Nat) (void:Bool) (r:Rs):Rs × Int :=
 if isR E [105,110,116] r=true then (if isR E [42] (skipR r)=true then (skipR (skipR r),2) else (skipR r,1))
 else if (void && isR E [118,111,105,100] r)=true then (skipR r,0) else (stopR E 1 r,-1)
def nameR (E:Nat) (r:Rs):Rs × T4:=if (pk E r.L).k=1 then (skipR r,pk E r.L) else (stopR E 1 r,pk E r.L)
def declaredR (E:Nat) (ex:Rs→Option RL) (kind:Int) (value:Bool) (r:Rs):Option Rs :=
 if (value && isR E [61] (nameR E (kindR E false r).1).1)=true then
  (ex (skipR (nameR E (kindR E false r).1).1)).bind fun q=>addR (mk kind (nameR E (kindR E false r).1).2.t (kindR E false r).2 (nameR E (kindR E false r).1).2.a) [q.1.top] q.1
 else addR (mk kind (nameR E (kindR E false r).1).2.t (kindR E false r).2 (nameR E (kindR E false r).1).2.a) [] (nameR E (kindR E false r).1).1
def bareR (E:Nat) (ex:Rs→Option RL) (r:Rs):Option Rs:=(ex r).bind fun q=>addR (mk 13 [] 0 (pk E r.L).a) [q.1.top] q.1
def nothingR (E:Nat) (r:Rs):Option Rs:=addR (mk 24 [] 0 (pk E r.L).a) [] r
def bracketR (E:Nat) (ex:Rs→Option RL) (r:Rs):Option Rs:=(ex (wantR E [40] r)).bind fun q=>some (wantR E [41] q.1)
def alsoR (ex:Rs→Option RL) (r:Rs):Option Rs:=(ex r).bind fun q=>some q.1
inductive VJ where
 | body
 | stmt
 | all (cases:Bool)
 | allL (cases:Bool) (out:List Int)
 | round (at':Int)
 | short (at':Int)
 | fn (x:Mn)
 | fnL (first:Bool) (out:List Int)
 | top
 | topsL (out:List Int)
def itemV (E:Nat) (ex:Rs→Option RL) (rec:VJ→Rs→Option RL) (cs:Bool) (r:Rs):Option RL :=
 if (cs && isR E [99,97,115,101] r)=true then (ex (skipR r)).bind fun q=>alone (addR (mk 19 [] 0 (pk E r.L).a) [q.1.top] (wantR E [58] q.1))
 else if (cs && isR E [100,101,102,97,117,108,116] r)=true then alone (addR (mk 20 [] 0 (pk E r.L).a) [] (wantR E [58] (skipR r)))
 else rec .stmt r
def valuesV (E:Nat) (li:List UInt8→Rs→Option RL) (size:Int) (r:Rs):Option RL :=
 if isR E [61] r=true then (li [125] (wantR E [123] (skipR r))).bind fun q =>
  if (okR q.1 && decide (size<(q.2.length:Int)))=true then some ({ q.1 with c:=9,a:=(pk E (skipR r).L).a },q.2) else some q
 else some (r,[])
def stepV (E:Nat) (ex:Rs→Option RL) (li:List UInt8→Rs→Option RL) (rec:VJ→Rs→Option RL):VJ→Rs→Option RL
 | .body=>fun r=>if isR E [123] r=true then (rec .stmt r).bind fun q=>some (q.1,[]) else (rec .stmt r).bind fun q=>alone (addR (mk 11 [] 0 (pk E r.L).a) [q.1.top] q.1)
 | .all cs=>fun r=>rec (.allL cs []) r
 | .allL cs out=>fun r=>if (okR r && !isR E [125] r)=true then
    (itemV E ex rec cs r).bind fun q=>if 6000000≤out.length then none else rec (.allL cs (out ++ [q.1.top])) q.1
   else some (wantR E [125] r,out)
 | .round at'=>fun r =>
   (if isR E [59] (wantR E [40] r)=true then nothingR E (wantR E [40] r) else if isR E [105,110,116] (wantR E [40] r)=true then declaredR E ex 12 true (wantR E [40] r) else bareR E ex (wantR E [40] r)).bind fun ra =>
   (if isR E [59] (wantR E [59] ra)=true then nothingR E (wantR E [59] ra) else alsoR ex (wantR E [59] ra)).bind fun rb =>
   (if isR E [41] (wantR E [59] rb)=true then nothingR E (wantR E [59] rb) else bareR E ex (wantR E [59] rb)).bind fun rc =>
   (rec .body (wantR E [41] rc)).bind fun q=>alone (addR (mk 17 [] 0 at') [ra.top,rb.top,rc.top,q.1.top] q.1)
 | .stmt=>fun r =>
   if isR E [123] r=true then (rec (.all false) (skipR r)).bind fun q=>alone (addR (mk 11 [] 0 (pk E r.L).a) q.2 q.1)
   else if isR E [105,102] r=true then (bracketR E ex (skipR r)).bind fun ra=>(rec .body ra).bind fun q =>
    if isR E [101,108,115,101] q.1=true then (rec .body (skipR q.1)).bind fun q2=>alone (addR (mk 14 [] 0 (pk E r.L).a) [ra.top,q.1.top,q2.1.top] q2.1)
    else alone (addR (mk 14 [] 0 (pk E r.L).a) [ra.top,q.1.top] q.1)
   else if isR E [119,104,105,108,101] r=true then (bracketR E ex (skipR r)).bind fun ra=>(rec .body ra).bind fun q=>alone (addR (mk 15 [] 0 (pk E r.L).a) [ra.top,q.1.top] q.1)
   else if isR E [102,111,114] r=true then rec (.round (pk E r.L).a) (skipR r)
   else if isR E [115,119,105,116,99,104] r=true then (bracketR E ex (skipR r)).bind fun ra=>(rec (.all true) (wantR E [123] ra)).bind fun q=>alone (addR (mk 18 [] 0 (pk E r.L).a) (ra.top :: q.2) q.1)
   else (rec (.short (pk E r.L).a) r).bind fun q=>some (wantR E [59] q.1,[])
 | .short at'=>fun r =>
   if isR E [100,111] r=true then (rec .body (skipR r)).bind fun q=>(bracketR E ex (wantR E [119,104,105,108,101] q.1)).bind fun rb=>alone (addR (mk 16 [] 0 at') [q.1.top,rb.top] rb)
   else if isR E [98,114,101,97,107] r=true then alone (addR (mk 21 [] 0 at') [] (skipR r))
   else if isR E [99,111,110,116,105,110,117,101] r=true then alone (addR (mk 22 [] 0 at') [] (skipR r))
   else if isR E [114,101,116,117,114,110] r=true then
    if isR E [59] (skipR r)=true then alone (addR (mk 23 [] 0 at') [] (skipR r))
    else (ex (skipR r)).bind fun q=>alone (addR (mk 23 [] 0 at') [q.1.top] q.1)
   else if isR E [59] r=true then alone (nothingR E r)
   else if isR E [105,110,116] r=true then alone (declaredR E ex 12 true r)
   else alone (bareR E ex r)
 | .fn x=>fun r=>(rec (.fnL true []) (wantR E [40] r)).bind fun p =>
   (rec (.all false) (wantR E [123] p.1)).bind fun q=>(addR (mk 11 [] 0 (pk E p.1.L).a) q.2 q.1).bind fun rb=>alone (addR x (p.2 ++ [rb.top]) rb)
 | .fnL first out=>fun r=>if (okR r && !isR E [41] r)=true then
    (declaredR E ex 4 false (if first=true then r else wantR E [44] r)).bind fun q=>if 6000000≤out.length then none else rec (.fnL false (out ++ [q.top])) q
   else some (wantR E [41] r,out)
 | .top=>fun r =>
   let k:=kindR E true r
   let t:=nameR E k.1
   if isR E [40] t.1=true then rec (.fn (mk 3 t.2.t k.2 t.2.a)) t.1
   else if k.2=0 then some (stopR E 1 t.1,[])
   else if (decide (k.2=1) && isR E [91] t.1)=true then
    if (pk E (skipR t.1).L).k≠2 then some (stopR E 1 (skipR t.1),[])
    else if (pk E (skipR t.1).L).v<1∨200<(pk E (skipR t.1).L).v then some (stopR E 3 (skipR t.1),[])
    else (valuesV E li (pk E (skipR t.1).L).v (wantR E [93] (skipR (skipR t.1)))).bind fun q =>
     alone (addR { mk 2 t.2.t 3 t.2.a with z:=(pk E (skipR t.1).L).v } q.2 (wantR E [59] q.1))
   else if isR E [61] t.1=true then (ex (skipR t.1)).bind fun q=>alone (addR (mk 2 t.2.t k.2 t.2.a) [q.1.top] (wantR E [59] q.1))
   else alone (addR (mk 2 t.2.t k.2 t.2.a) [] (wantR E [59] t.1))
 | .topsL out=>fun r=>if (okR r && decide (0<r.L.length))=true then
    (rec .top r).bind fun q=>if 6000000≤out.length then none else rec (.topsL (out ++ [q.1.top])) q.1
   else some (r,out)
def runV (E:Nat):Nat→VJ→Rs→Option RL
 | 0=>fun _ _=>none
 | n+1=>stepV E (runR E (n+6) .expr) (fun e=>runR E (n+6) (.list e)) (runV E n)
section bad
variable {E:Nat}{r:Rs}(hr:r.c≠0)
include hr
theorem kindR_bad (v:Bool):kindR E v r=(r,-1):=by unfold kindR;simp [isR_bad hr,stopR_bad hr]
theorem nameR_bad:nameR E r=(r,pk E r.L):=by unfold nameR;simp [skipR_bad hr,stopR_bad hr]
theorem declaredR_bad (ex:Rs→Option RL) (k:Int) (v:Bool):declaredR E ex k v r=some r:=by unfold declaredR;simp [kindR_bad hr,nameR_bad hr,isR_bad hr,addR_bad hr]
theorem bareR_bad (n:Nat):bareR E (runR E (n+5) .expr) r=some r:=by unfold bareR;simp [bad_expr hr,addR_bad hr]
theorem bracketR_bad (n:Nat):bracketR E (runR E (n+5) .expr) r=some r:=by unfold bracketR;simp [wantR_bad hr,bad_expr hr]
theorem alsoR_bad (n:Nat):alsoR (runR E (n+5) .expr) r=some r:=by unfold alsoR;simp [bad_expr hr]
theorem bad_short (n:Nat) (at':Int):runV E (n+1) (.short at') r=some (r,[]):=by
 show stepV E _ _ _ (.short at') r=_
 simp [stepV,isR_bad hr,bareR_bad hr (n+1),alone]
theorem bad_stmt (n:Nat):runV E (n+2) .stmt r=some (r,[]):=by
 show stepV E _ _ (runV E (n+1)) .stmt r=_
 simp [stepV,isR_bad hr,bad_short hr,wantR_bad hr]
theorem bad_body (n:Nat):runV E (n+3) .body r=some (r,[]):=by
 show stepV E _ _ (runV E (n+2)) .body r=_
 simp [stepV,isR_bad hr,bad_stmt hr,addR_bad hr,alone]
theorem bad_allL (n:Nat) (cs:Bool) (out:List Int):runV E (n+1) (.allL cs out) r=some (r,out):=by
 show stepV E _ _ (runV E n) (.allL cs out) r=_
 simp [stepV,okR_bad hr,wantR_bad hr]
theorem bad_all (n:Nat) (cs:Bool):runV E (n+2) (.all cs) r=some (r,[]):=by
 show stepV E _ _ (runV E (n+1)) (.all cs) r=_
 simp [stepV,bad_allL hr]
theorem bad_fnL (n:Nat) (f:Bool) (out:List Int):runV E (n+1) (.fnL f out) r=some (r,out):=by
 show stepV E _ _ (runV E n) (.fnL f out) r=_
 simp [stepV,okR_bad hr,wantR_bad hr]
theorem bad_topsL (n:Nat) (out:List Int):runV E (n+1) (.topsL out) r=some (r,out):=by
 show stepV E _ _ (runV E n) (.topsL out) r=_
 simp [stepV,okR_bad hr]
end bad
end
end Go.Proofs.YtbjacclfhgnffaaGreatDoor
