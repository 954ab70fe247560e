/-
  Joined texts of this claim: Je, Jy.
-/
import Derived.Test.YtbjacclfhgnffaaGreatDoorW00
import Derived.Test.YtbjacclfhgnffaaGreatDoorW21
import Derived.Test.YtbjacclfhgnffaaGreatDoorW16
import Derived.Test.YtbjacclfhgnffaaGreatDoorW27
import Derived.Test.YtbjacclfhgnffaaGreatDoorW12
import Derived.Test.YtbjacclfhgnffaaGreatDoorW13
import Derived.Deep.RegionHeld3
set_option maxHeartbeats 40000000
set_option maxRecDepth 100000
set_option linter.unusedVariables false
set_option linter.unusedSimpArgs false
namespace Go.Proofs.YtbjacclfhgnffaaGreatDoor
section
open Go.RowKit
open Tk (T4 bstr)
open Tr (Nd Blk KidsAt NodeAt ret_bool)
theorem RdAt.parts {E:Nat}{A:Nat→Prop}{w:World}{r:Rs}{v:Value}(h:RdAt E A w r v) :
  ∃ pn ln cn pl ll cl c a,v=.agg #[.slice pn ln cn,.slice pl ll cl,.int .i64 E,.int .i64 c,.int .i64 a,.int .i64 r.top]:=by
 obtain ⟨pn,cn,pl,cl,ns,e,_⟩:=h
 exact ⟨pn,_,cn,pl,_,cl,_,_,e⟩
def RdP (E:Nat) (A:Nat→Prop) (w:World) (r':Rs) (e:Ending) (w':World):Prop :=
 ∃ pn ln cn pl ll cl c a,e=.returned (.agg #[.slice pn ln cn,.slice pl ll cl,.int .i64 E,.int .i64 c,.int .i64 a,.int .i64 r'.top]) ∧
  Hid (RdAt E A w' r' (.agg #[.slice pn ln cn,.slice pl ll cl,.int .i64 E,.int .i64 c,.int .i64 a,.int .i64 r'.top]))∧Below w.heap.size w w'
theorem RdRet.p {E:Nat}{A:Nat→Prop}{w w':World}{r':Rs}{e:Ending}(h:RdRet E A w r' e w'):RdP E A w r' e w':=by
 obtain ⟨pn,cn,pl,cl,he,hq,hb⟩:=h
 exact ⟨pn,_,cn,pl,_,cl,_,_,he,hq,hb⟩
theorem RdP.of {E:Nat}{A:Nat→Prop}{w w':World}{r':Rs}{v:Value}(h:RdAt E A w' r' v) (hb:Below w.heap.size w w'):RdP E A w r' (.returned v) w':=(RdRet.of h hb).p
def FnA (E id:Nat) (ex:Array Value) (f:Rs→Option Rs):Prop:=∀ (A:Nat→Prop) (w:World) (r r':Rs) (v:Value),In A w→RdAt E A w r v→f r=some r' →
 Calls Tryz.prog id (#[v] ++ ex) w (RdP E A w r')
def st6 (w:World) (g:Nat) (x0 x1 x2 x3 x4 x5:Value):World :=
 (((((w.setCell ⟨g,0,none⟩ x0).setCell ⟨g,1,none⟩ x1).setCell ⟨g,2,none⟩ x2).setCell ⟨g,3,none⟩ x3).setCell ⟨g,4,none⟩ x4).setCell ⟨g,5,none⟩ x5
section
variable {w w' w0:World}{g g' B:Nat}{t:TypeId}{y0 y1 y2 y3 y4 y5 x0 x1 x2 x3 x4 x5:Value}{cs:Array Value}{A:Nat→Prop}
theorem st6_size:(st6 w g x0 x1 x2 x3 x4 x5).heap.size=w.heap.size:=by simp [st6,World.setCell]
theorem st6_same (h:Blk w g t #[y0,y1,y2,y3,y4,y5]):Blk (st6 w g x0 x1 x2 x3 x4 x5) g t #[x0,x1,x2,x3,x4,x5]:=by
 have:=(((((h.set_ 0 x0).set_ 1 x1).set_ 2 x2).set_ 3 x3).set_ 4 x4).set_ 5 x5
 exact this
theorem st6_far (h:Blk w g' t cs) (hg:g'≠g):Blk (st6 w g x0 x1 x2 x3 x4 x5) g' t cs :=
 (((((h.far (p:=⟨g,0,none⟩) hg x0).far (p:=⟨g,1,none⟩) hg x1).far (p:=⟨g,2,none⟩) hg x2).far (p:=⟨g,3,none⟩) hg x3).far (p:=⟨g,4,none⟩) hg x4).far (p:=⟨g,5,none⟩) hg x5
theorem st6_below (h:Below B w0 w) (hg:B≤g):Below B w0 (st6 w g x0 x1 x2 x3 x4 x5):=set6 h hg
theorem st6_agr (h:Agr A w0 w) (hg:A g):Agr A w0 (st6 w g x0 x1 x2 x3 x4 x5) :=
 (((((h.setCell (p:=⟨g,0,none⟩) hg x0).setCell (p:=⟨g,1,none⟩) hg x1).setCell (p:=⟨g,2,none⟩) hg x2).setCell (p:=⟨g,3,none⟩) hg x3).setCell (p:=⟨g,4,none⟩) hg x4).setCell (p:=⟨g,5,none⟩) hg x5
theorem six_f (h:Blk w g t #[x0,x1,x2,x3,x4,x5]):w.frozen? ⟨g,0,none⟩=false∧w.frozen? ⟨g,1,none⟩=false∧w.frozen? ⟨g,2,none⟩=false∧w.frozen? ⟨g,3,none⟩=false∧w.frozen? ⟨g,4,none⟩=false∧w.frozen? ⟨g,5,none⟩=false :=
 ⟨h.frozen 0,h.frozen 1,h.frozen 2,h.frozen 3,h.frozen 4,h.frozen 5⟩
end
def Two (A:Nat→Prop) (g:Nat) (b:Nat):Prop:=A b∨b=g∨b=g+1
theorem Two.at {A:Nat→Prop}{w:World}{E:Nat}{r:Rs}{v:Value}(h:RdAt E A w r v):RdAt E (Two A w.heap.size) w r v :=
 h.more fun b hb ha=>by rcases ha with ha | rfl | rfl;exact ha;omega;omega
theorem Two.off {A:Nat→Prop}{w:World}{E g:Nat}{r:Rs}{v:Value}(h:RdAt E (Two A g) w r v):RdAt E A w r v:=h.more fun b _ ha=>Or.inl ha
theorem Blk.new1 (w:World) (cs:Array Value) (t t':TypeId) {ds:Array Value}:Blk ((w.alloc (.cells cs t)).alloc (.cells ds t')) (w.heap.size+1) t' ds:=by
 have h:=Blk.new (w.alloc (.cells cs t)) t' ds
 rw [World.size_alloc] at h
 exact h
theorem In.alloc {A:Nat→Prop}{w:World}(h:In A w) (o:Obj):In A (w.alloc o):=fun b hb=>by rw [World.size_alloc];exact Nat.lt_succ_of_lt (h b hb)
theorem In.st6 {A:Nat→Prop}{w:World}{g:Nat}{x0 x1 x2 x3 x4 x5:Value}(h:In A w):In A (st6 w g x0 x1 x2 x3 x4 x5):=fun b hb=>by rw [st6_size];exact h b hb
section
variable {E:Nat}{A:Nat→Prop}{w:World}{r:Rs}{v:Value}
theorem RdAt.isb (h:RdAt E A w r v) (s:ByteArray) {b:Bool}(hb:isR E s.data.toList r=b):Calls Tryz.prog 69 #[v,.string s] w fun e w'=>e=.returned (.bool b)∧Below w.heap.size w w':=by
 rw [← hb,← Lib.toList_data];exact h.is s
theorem RdAt.okb (h:RdAt E A w r v) {b:Bool}(hb:okR r=b) (w2:World):Calls Tryz.prog 38 #[v] w2 fun e w'=>e=.returned (.bool b)∧Below w2.heap.size w2 w':=by
 rw [← hb];exact h.ok w2
def TokIs (E:Nat) (r:Rs) (k:Int) (x:ByteArray) (v a:Int):Prop:=k=(pk E r.L).k∧x=bstr (pk E r.L).t∧v=(pk E r.L).v∧a=(pk E r.L).a
theorem RdAt.peekp (h:RdAt E A w r v):Calls Tryz.prog 68 #[v] w fun e w'=>∃ k x n a,e=.returned (.agg #[.int .i64 k,.string x,.int .i64 n,.int .i64 a])∧Hid (TokIs E r k x n a)∧Below w.heap.size w w' :=
 h.peek.mono fun e w' ⟨he,hb⟩=>⟨_,_,_,_,he,⟨rfl,rfl,rfl,rfl⟩,hb⟩
theorem RdAt.skipp (h:RdAt E A w r v):Calls Tryz.prog 70 #[v] w (RdP E A w (skipR r)):=h.skip.mono fun _ _ h=>h.p
theorem RdAt.stopp (h:RdAt E A w r v) (code:Int):Calls Tryz.prog 74 #[v,.int .i64 code] w (RdP E A w (stopR E code r)):=(h.stop code).mono fun _ _ h=>h.p
theorem RdAt.small (h:RdAt E A w r v) {k n a:Int}{x:ByteArray}(ht:TokIs E r k x n a):x.size≤1000000:=by
 obtain ⟨pn,cn,pl,cl,ns,rfl,h1,h2,h3,h4,_⟩:=h
 obtain ⟨_,rfl,_,_⟩:=ht
 cases hL:r.L with
 | nil=>exact Nat.zero_le _
 | cons y L=>exact h4.2 y (by rw [hL];simp)
theorem TokIs.txt {k n a:Int}{x:ByteArray}(ht:TokIs E r k x n a):x.data.toList=(pk E r.L).t:=by
 obtain ⟨_,rfl,_,_⟩:=ht;rfl
theorem texts_b {s:ByteArray}(hs:s.size≤1000000) {b:Bool}(hb:setT s.data.toList=b) (w:World):Calls Tryz.prog 72 #[.int .i64 39,.string s] w fun e w'=>e=.returned (.bool b)∧Below w.heap.size w w':=by
 have h:=texts_set s w (Nat.le_trans hs (by decide))
 have e:Tr.setB s=b:=by
  rw [← hb];unfold Tr.setB setT;rw [Lib.toList_data];rfl
 rwa [e] at h
theorem RdAt.isRd (h:RdAt E A w r v):IsRd v:=by
 obtain ⟨pn,cn,pl,cl,ns,rfl,_⟩:=h
 exact ⟨_,_,_,_,_,_,_,_,_,_,rfl⟩
theorem RdAt.skip0 (h:RdAt E A w r v) (w2:World):Calls Tryz.prog 70 #[v] w2 fun e w'=>(∃ v',e=.returned v'∧RdAt E A w (skipR r) v')∧Below w2.heap.size w2 w':=by
 by_cases hc:r.c=0
 ·obtain ⟨pn,cn,pl,cl,ns,rfl,h1,h2,h3,h4,h5,h6⟩:=h
  have e:skipR r={ r with L:=r.L.tail }:=by unfold skipR okR;rw [decide_eq_true hc];exact if_pos rfl
  rw [e]
  have:=skip_tk (A:=A) (w0:=w) pn r.N.length cn pl cl E r.a r.top w2 r.L h1 h4.1 h2 h3
  rw [hc]
  refine this.mono fun e w' ⟨pl',cl',he,g1,g2,g3,hb⟩=>⟨⟨_,he,pn,cn,pl',cl',ns,rfl,g1,g2,g3,⟨by rw [List.length_tail];have:=h4.1;omega,fun x hx=>h4.2 x (List.mem_of_mem_tail hx)⟩,h5,h6⟩,hb⟩
 ·have e:skipR r=r:=by unfold skipR okR;rw [decide_eq_false hc];rfl
  rw [e]
  have h':=h
  obtain ⟨pn,cn,pl,cl,ns,rfl,_⟩:=h
  exact (rskip_bad pn r.N.length cn pl r.L.length cl E r.c r.a r.top w2 hc).mono fun e w' ⟨he,hb⟩=>⟨⟨_,he,h'⟩,hb⟩
theorem RdAt.stop0 (h:RdAt E A w r v) (w2:World) (h2:Below w.heap.size w w2) (code:Int):Calls Tryz.prog 74 #[v,.int .i64 code] w2 fun e w'=>(∃ v',e=.returned v'∧RdAt E A w (stopR E code r) v')∧Below w2.heap.size w2 w':=by
 have h':=h
 obtain ⟨pn,cn,pl,cl,ns,rfl,g1,g2,g3,g4,g5⟩:=h
 by_cases hc:r.c=0
 ·have e:stopR E code r={ r with c:=code,a:=(pk E r.L).a }:=by unfold stopR okR;rw [decide_eq_true hc];exact if_pos rfl
  rw [e,hc]
  exact (rstop_ok pn r.N.length cn pl r.L.length cl E r.a r.top w2 (bstr (pk E r.L).t) (pk E r.L).k (pk E r.L).v (pk E r.L).a code (fun w3 hb3=>rpeek_any pn r.N.length cn pl cl E 0 r.a r.top w3 r.L (g1.row.below (h2.trans (hb3.mono h2.size))) g4.1)).mono
   fun e w' ⟨he,hb⟩=>⟨⟨_,he,pn,cn,pl,cl,ns,rfl,g1,g2,g3,g4,g5⟩,hb⟩
 ·have e:stopR E code r=r:=by unfold stopR okR;rw [decide_eq_false hc];rfl
  rw [e]
  exact (rstop_bad pn r.N.length cn pl r.L.length cl E r.c r.a r.top code w2 hc).mono fun e w' ⟨he,hb⟩=>⟨⟨_,he,h'⟩,hb⟩
theorem RdAt.wantp (h:RdAt E A w r v) (s:ByteArray):Calls Tryz.prog 71 #[v,.string s] w (RdP E A w (wantR E s.data.toList r)):=by
 have hi:∀ w2,Below w.heap.size w w2→Calls Tryz.prog 69 #[v,.string s] w2 fun e w'=>e=.returned (.bool (isR E s.data.toList r))∧Below w2.heap.size w2 w':=fun w2 hb=>(h.agr (.below hb)).isb s rfl
 unfold wantR
 cases hq:isR E s.data.toList r with
 | true =>
  rw [hq] at hi
  refine (want_is (Q:=RdAt E A w (skipR r)) (fun v h=>h.isRd) h.isRd w s hi fun w2 hb=>h.skip0 w2).mono fun e w' ⟨⟨v',he,hv⟩,hb⟩=>?_
  rw [he,if_pos rfl]
  exact RdP.of (hv.agr (.below hb)) hb
 | false =>
  rw [hq] at hi
  refine (want_not (Q:=RdAt E A w (stopR E 1 r)) (fun v h=>h.isRd) h.isRd w s hi fun w2 hb=>h.stop0 w2 hb 1).mono fun e w' ⟨⟨v',he,hv⟩,hb⟩=>?_
  rw [he,if_neg (by decide)]
  exact RdP.of (hv.agr (.below hb)) hb
end
end
section
open Go.RowKit
open Tr (Nd Blk KidsAt NodeAt Like)
theorem like_of {x y:Nd}(h:bare x=bare y):Like x y:=by
 obtain ⟨k,t,n,z,p,cap,c,a⟩:=x
 obtain ⟨k',t',n',z',p',cap',c',a'⟩:=y
 simp only [bare,Mn.mk.injEq] at h
 obtain ⟨h1,h2,h3,h4,h5,h6⟩:=h
 refine ⟨h1,?_,h3,h4,h5,h6⟩
 show t=t'
 obtain ⟨⟨d⟩⟩:=t
 obtain ⟨⟨d'⟩⟩:=t'
 simp only at h2
 subst h2;rfl
theorem likes_of {l l':List Nd}(h:l.map bare=l'.map bare):l.length=l'.length∧∀ i,(h1:i<l.length)→(h2:i<l'.length)→Like l[i] l'[i]:=by
 have e:=congrArg List.length h
 rw [List.length_map,List.length_map] at e
 refine ⟨e,fun i h1 h2=>like_of ?_⟩
 have h3:(l.map bare)[i]? = (l'.map bare)[i]?:=by rw [h]
 rw [List.getElem?_map,List.getElem?_map,List.getElem?_eq_getElem h1,List.getElem?_eq_getElem h2] at h3
 exact Option.some.inj h3
theorem trees_any (l l':List Nd) (p p':Option Addr) (cap cap':Nat) (w:World) (hT:Tr.Tr w p l) (hT':Tr.Tr w p' l') (hf:Tr.Fit l cap) (hf':Tr.Fit l' cap') (hm:l.map bare=l'.map bare) :
  Calls Tryz.prog 13 #[.agg #[.slice p l.length cap],.agg #[.slice p' l'.length cap']] w fun e w'=>e=.returned (.bool true)∧Below w.heap.size w w':=by
 obtain ⟨hlen,hlike⟩:=likes_of hm
 rw [← hlen]
 have HT:=Lib.hid hT
 have HT':=Lib.hid hT'
 have HF:=Lib.hid hf
 have HL:=Lib.hid hlike
 have hn47:=hf.2.1
 clear hT hT' hf hf' hm hlike
 obtain ⟨n,hn⟩:=exE (l.length)
 rw [← hn] at hn47 ⊢
 have Hn:=Lib.hid hn
 have Hn':Hid (n=l'.length):=hn.trans hlen
 clear hn hlen
 have q1:((n:Int) != (n:Int))=false:=by simp
 have z1:Below w.heap.size w ((w.alloc (.cells #[.slice p n cap] 24)).alloc (.cells #[.slice p' n cap'] 24)):=((Below.refl _ _).alloc (Nat.le_refl _) _).alloc (by simp) _
 have K1:Blk ((w.alloc (.cells #[.slice p n cap] 24)).alloc (.cells #[.slice p' n cap'] 24)) w.heap.size 24 #[.slice p n cap]:=(Blk.new _ _ _).alloc _
 have K2:Blk ((w.alloc (.cells #[.slice p n cap] 24)).alloc (.cells #[.slice p' n cap'] 24)) (w.heap.size+1) 24 #[.slice p' n cap']:=by
  have h:=Blk.new (w.alloc (.cells #[.slice p n cap] 24)) 24 #[.slice p' n cap']
  rw [World.size_alloc] at h
  exact h
 have Z:=Lib.hid z1
 have HK1:=Lib.hid K1
 have HK2:=Lib.hid K2
 clear z1 K1 K2
 go_enter Tryz.func13,Tryz.ntmps13
 go_wp2
 go_loopw [5] (fun v wr=>∃ k:Nat,k≤n∧v=.int .i64 k∧Blk wr w.heap.size 24 #[.slice p n cap]∧Blk wr (w.heap.size+1) 24 #[.slice p' n cap']∧Below w.heap.size w wr) (fun v _=>n-(intOf v).toNat)
 case atStart=>exact ⟨0,Nat.zero_le _,rfl,HK1.out,HK2.out,Z.out⟩
 case round =>
  obtain ⟨k,hk,rfl,hX,hY,hb⟩:=hrel
  have HB:=Lib.hid hb
  have HX:=Lib.hid hX
  have HY:=Lib.hid hY
  have x0:wr.cell? ⟨w.heap.size,0,none⟩=some (.slice p n cap):=by rw [hX.cell];rfl
  have y0:wr.cell? ⟨w.heap.size+1,0,none⟩=some (.slice p' n cap'):=by rw [hY.cell];rfl
  have lX:=hX.lt
  have lY:=hY.lt
  clear hb hX hY
  by_cases hlt:k<n
  ·have h1:k<l.length:=by have:=Hn.out;omega
   have h2:k<l'.length:=by have:=Hn'.out;omega
   obtain ⟨b,o,rfl,hbl,hc⟩:=HT.out.1 (by omega)
   obtain ⟨b',o',rfl,hbl',hc'⟩:=HT'.out.1 (by omega)
   have hBd:=HB.out.drew
   obtain ⟨n0,n1,n2,n3,n4,n5⟩:=(hc k h1).below hBd hbl
   obtain ⟨m0,m1,m2,m3,m4,m5⟩:=(hc' k h2).below hBd hbl'
   have hS:=Tr.nodes_eq l[k] l'[k] wr.drew (HL.out k h1 h2) ((HT.out.2 k h1).below hBd) ((HT'.out.2 k h2).below hBd) (HF.out.2.2 k h1)
   have hki:(k:Int)<(n:Int):=by omega
   have lb:b<wr.drew.heap.size:=Nat.lt_of_lt_of_le hbl hBd.size
   have lb':b' < wr.drew.heap.size:=Nat.lt_of_lt_of_le hbl' hBd.size
   clear hc hc' hBd
   generalize l[k]=x at *
   generalize l'[k]=y at *
   obtain ⟨xk,xt,xn,xz,xp,xcap,xc,xa⟩:=x
   obtain ⟨yk,yt,yn,yz,yp,ycap,yc,ya⟩:=y
   simp only at n0 n1 n2 n3 n4 n5 m0 m1 m2 m3 m4 m5 hS
   have S0:Hid (wr.drew.cell? ⟨w.heap.size,0,none⟩=some (.slice (some ⟨b,o,none⟩) n cap)∧wr.drew.cell? ⟨w.heap.size+1,0,none⟩=some (.slice (some ⟨b',o',none⟩) n cap') ∧
    (wr.drew.cell? ⟨b,o+k * 6,none⟩=some (.int .i64 xk)∧wr.drew.cell? ⟨b,o+k * 6+1,none⟩=some (.string xt)∧wr.drew.cell? ⟨b,o+k * 6+2,none⟩=some (.int .i64 xn)∧wr.drew.cell? ⟨b,o+k * 6+3,none⟩=some (.int .i64 xz)∧wr.drew.cell? ⟨b,o+k * 6+4,none⟩=some (.slice xp xc.length xcap)∧wr.drew.cell? ⟨b,o+k * 6+5,none⟩=some (.int .i64 xa)) ∧
    (wr.drew.cell? ⟨b',o' + k * 6,none⟩=some (.int .i64 yk)∧wr.drew.cell? ⟨b',o' + k * 6+1,none⟩=some (.string yt)∧wr.drew.cell? ⟨b',o' + k * 6+2,none⟩=some (.int .i64 yn)∧wr.drew.cell? ⟨b',o' + k * 6+3,none⟩=some (.int .i64 yz)∧wr.drew.cell? ⟨b',o' + k * 6+4,none⟩=some (.slice yp yc.length ycap)∧wr.drew.cell? ⟨b',o' + k * 6+5,none⟩=some (.int .i64 ya))):=⟨x0,y0,⟨n0,n1,n2,n3,n4,n5⟩,m0,m1,m2,m3,m4,m5⟩
   have S1:Hid (∀ W,Below wr.drew.heap.size wr.drew W→W.cell? ⟨w.heap.size,0,none⟩=some (.slice (some ⟨b,o,none⟩) n cap)∧W.cell? ⟨w.heap.size+1,0,none⟩=some (.slice (some ⟨b',o',none⟩) n cap') ∧
    (W.cell? ⟨b,o+k * 6,none⟩=some (.int .i64 xk)∧W.cell? ⟨b,o+k * 6+1,none⟩=some (.string xt)∧W.cell? ⟨b,o+k * 6+2,none⟩=some (.int .i64 xn)∧W.cell? ⟨b,o+k * 6+3,none⟩=some (.int .i64 xz)∧W.cell? ⟨b,o+k * 6+4,none⟩=some (.slice xp xc.length xcap)∧W.cell? ⟨b,o+k * 6+5,none⟩=some (.int .i64 xa)) ∧
    (W.cell? ⟨b',o' + k * 6,none⟩=some (.int .i64 yk)∧W.cell? ⟨b',o' + k * 6+1,none⟩=some (.string yt)∧W.cell? ⟨b',o' + k * 6+2,none⟩=some (.int .i64 yn)∧W.cell? ⟨b',o' + k * 6+3,none⟩=some (.int .i64 yz)∧W.cell? ⟨b',o' + k * 6+4,none⟩=some (.slice yp yc.length ycap)∧W.cell? ⟨b',o' + k * 6+5,none⟩=some (.int .i64 ya))):=fun W h =>
    ⟨(h.cell (p:=⟨w.heap.size,0,none⟩) lX).trans x0,(h.cell (p:=⟨w.heap.size+1,0,none⟩) lY).trans y0,
     ⟨(h.cell (p:=⟨b,o+k * 6,none⟩) lb).trans n0,(h.cell (p:=⟨b,o+k * 6+1,none⟩) lb).trans n1,(h.cell (p:=⟨b,o+k * 6+2,none⟩) lb).trans n2,(h.cell (p:=⟨b,o+k * 6+3,none⟩) lb).trans n3,(h.cell (p:=⟨b,o+k * 6+4,none⟩) lb).trans n4,(h.cell (p:=⟨b,o+k * 6+5,none⟩) lb).trans n5⟩,
     (h.cell (p:=⟨b',o' + k * 6,none⟩) lb').trans m0,(h.cell (p:=⟨b',o' + k * 6+1,none⟩) lb').trans m1,(h.cell (p:=⟨b',o' + k * 6+2,none⟩) lb').trans m2,(h.cell (p:=⟨b',o' + k * 6+3,none⟩) lb').trans m3,(h.cell (p:=⟨b',o' + k * 6+4,none⟩) lb').trans m4,(h.cell (p:=⟨b',o' + k * 6+5,none⟩) lb').trans m5⟩
   clear n0 n1 n2 n3 n4 n5 m0 m1 m2 m3 m4 m5 lb lb' hbl hbl'
   go_wp2
   clear x0 y0
   go_region_held3 (fun W=>W.cell? ⟨w.heap.size,0,none⟩=some (.slice (some ⟨b,o,none⟩) n cap)∧W.cell? ⟨w.heap.size+1,0,none⟩=some (.slice (some ⟨b',o',none⟩) n cap') ∧
    (W.cell? ⟨b,o+k * 6,none⟩=some (.int .i64 xk)∧W.cell? ⟨b,o+k * 6+1,none⟩=some (.string xt)∧W.cell? ⟨b,o+k * 6+2,none⟩=some (.int .i64 xn)∧W.cell? ⟨b,o+k * 6+3,none⟩=some (.int .i64 xz)∧W.cell? ⟨b,o+k * 6+4,none⟩=some (.slice xp xc.length xcap)∧W.cell? ⟨b,o+k * 6+5,none⟩=some (.int .i64 xa)) ∧
    (W.cell? ⟨b',o' + k * 6,none⟩=some (.int .i64 yk)∧W.cell? ⟨b',o' + k * 6+1,none⟩=some (.string yt)∧W.cell? ⟨b',o' + k * 6+2,none⟩=some (.int .i64 yn)∧W.cell? ⟨b',o' + k * 6+3,none⟩=some (.int .i64 yz)∧W.cell? ⟨b',o' + k * 6+4,none⟩=some (.slice yp yc.length ycap)∧W.cell? ⟨b',o' + k * 6+5,none⟩=some (.int .i64 ya)))
    (first | with_reducible exact S0.out | exact S1.out _ hb3 | exact S0.out)
    ((go_at_call 36;refine hS.mono ?_;rintro e w3 ⟨rfl,hb3⟩))
   have HH:Hid (Blk w3 w.heap.size 24 #[.slice (some ⟨b,o,none⟩) n cap]∧Blk w3 (w.heap.size+1) 24 #[.slice (some ⟨b',o',none⟩) n cap']∧Below w.heap.size w w3):=⟨HX.out.drew.below hb3 lX,HY.out.drew.below hb3 lY,HB.out.drew.trans (hb3.mono HB.out.drew.size)⟩
   go_wp2
   go_roundw
   case rel=>exact ⟨k+1,by omega,by go_num,HH.out.1,HH.out.2.1,HH.out.2.2⟩
   case measure=>simp [intOf];try omega
  ·have hki:¬ (k:Int)<(n:Int):=by omega
   go_wp2
   go_ret
   exact ⟨rfl,HB.out⟩
end
end Go.Proofs.YtbjacclfhgnffaaGreatDoor
