/-
  Joined texts of this claim: Jw, Jx, Ka.
-/
import Derived.Test.YtbjacclfhgnffaaGreatDoorW00
import Derived.Test.YtbjacclfhgnffaaGreatDoorW32
import Derived.Test.YtbjacclfhgnffaaGreatDoorW16
import Derived.Test.YtbjacclfhgnffaaGreatDoorW31
import Derived.Test.YtbjacclfhgnffaaGreatDoorW34
import Derived.Test.YtbjacclfhgnffaaGreatDoorW23
import Derived.Test.YtbjacclfhgnffaaGreatDoorW28
set_option maxHeartbeats 40000000
set_option maxRecDepth 100000
set_option linter.unusedVariables false
set_option linter.unusedSimpArgs false
namespace Go.Proofs.YtbjacclfhgnffaaGreatDoor
section
open Go.RowKit
open Tk (T4 SR Scans bstr rowOf)
open Tr (Nd Blk KidsAt NodeAt ret_bool)
theorem rscan_R {s:ByteArray}{R:SR}(hR:TokR s.data.toList R) {w:World}(hs:s.size≤140737488355328) :
  Calls Tryz.prog 33 #[.string s] w (ScR R w):=(Tk.rscan_any s w hs).mono fun e w' ⟨hb,v,c,a,he,h⟩=>by
 refine ⟨hb,v,?_⟩
 rcases h with ⟨h,rfl,rfl,rfl⟩ | ⟨h,R',hS,ho⟩
 ·obtain rfl:R=.bad 2 0:=hR.det (Or.inl ⟨h,rfl⟩)
  exact ⟨he,rfl⟩
 ·obtain rfl:R=R':=hR.det (Or.inr ⟨h,hS⟩)
  cases R with
  | ok L=>obtain ⟨rfl,rfl,ho⟩:=ho;exact ⟨he,ho⟩
  | bad c' a'=>obtain ⟨rfl,rfl,ho⟩:=ho;exact ⟨he,ho⟩
theorem scans_short {M:Nat}{p:Nat}{l:List UInt8}{acc:List T4}{R:SR}(h:Scans p l acc R):l.length≤M→(∀ x,x ∈ acc→x.t.length≤M)→∀ L,R=.ok L→∀ x,x ∈ L→x.t.length≤M:=by
 induction h with
 | done p acc=>intro _ ha L hL;injection hL with hL;subst hL;exact ha
 | skip h k ih=>exact fun hl ha=>ih (by rw [List.length_drop];omega) ha
 | opens h=>intro _ _ L hL;cases hL
 | much h hn hm=>intro _ _ L hL;cases hL
 | bad h hn hm hf=>intro _ _ L hL;cases hL
 | tok h hn hm hf k' ih =>
  intro hl ha
  refine ih (by rw [List.length_drop];omega) fun x hx=>?_
  rcases List.mem_append.1 hx with hx | hx
  ·exact ha x hx
  ·rw [List.mem_singleton] at hx
   subst hx
   show (List.take _ _).length≤M
   rw [List.length_take];omega
theorem TokR.short {l:List UInt8}{L:List T4}(h:TokR l (.ok L)):L.length≤5000000∧∀ x,x ∈ L→x.t.length≤1000000:=by
 have hf:=h.few
 rcases h with ⟨_,h⟩ | ⟨h2,h⟩
 ·cases h
 ·exact ⟨by have:=hf.1;omega,fun x hx=>Nat.le_trans (scans_short (M:=2000) h h2 (fun x hx=>by cases hx) L rfl x hx) (by decide)⟩
theorem row_words {A:Nat→Prop}{w:World}{b:Nat}{v:Value}{L:List T4}(h:w.ownsRow b 82 4 v L.length (rowOf L)) (hA:∀ g,b≤g→¬ A g):∃ p cap,v=.slice p L.length cap∧TkA A w p L∧L.length≤cap∧cap≤9223372036854775807:=by
 obtain ⟨h0,h1⟩:=h
 have hc:=fun g hg=>World.ownsRow.cells (w:=w) (base:=b) (e:=82) (size:=4) (v:=v) (n:=L.length) (xs:=rowOf L) ⟨h0,h1⟩ (g:=g) hg
 rcases h1 with ⟨rfl,h2⟩ | ⟨g,cap,cur,rfl,hg,hh,hn,hm,_,_⟩
 ·exact ⟨none,0,by rw [h2],fun h=>absurd h (by omega),by omega,by omega⟩
 ·unfold maxLen at hm
  refine ⟨_,cap,rfl,fun h0=>?_,hn,by omega⟩
  refine ⟨g,0,rfl,Tr.lt_of_block hh,hA g hg,fun j hj=>?_⟩
  have e:∀ i,i<4→∀ u,(Tk.cells4 L[j])[i]? = some u→w.cell? ⟨g,j * 4+i,none⟩=some u:=fun i hi u hu=>by
   have:=hc g rfl (j * 4+i) u ((rowOf_at L j hj i hi).trans hu)
   rwa [addr_add,Nat.zero_add] at this
  simp only [Nat.zero_add]
  exact ⟨e 0 (by omega) _ rfl,e 1 (by omega) _ rfl,e 2 (by omega) _ rfl,e 3 (by omega) _ rfl⟩
def Ae (g:Nat) (b:Nat):Prop:=b=g∨b=g+1
theorem begin_at {E:Nat}{w:World}{b g:Nat}{v:Value}{L:List T4}(h:w.ownsRow b 82 4 v L.length (rowOf L)) (hg:g+1<b) (hL:L.length≤5000000∧∀ x,x ∈ L→x.t.length≤1000000) :
  ∃ p cap,v=.slice p L.length cap∧RdAt E (Ae g) w ⟨[],L,0,0,0⟩ (.agg #[.slice none 0 0,.slice p L.length cap,.int .i64 E,.int .i64 0,.int .i64 0,.int .i64 0]):=by
 obtain ⟨p,cap,hv,hT,hn,hc⟩:=row_words (A:=Ae g) h (fun b' hb' ha=>by rcases ha with rfl | rfl <;> omega)
 exact ⟨p,cap,hv,none,0,p,cap,[],rfl,hT,hn,hc,hL,⟨fun h=>absurd h (by simp),fun i hi=>absurd hi (by simp)⟩,rfl,Nat.zero_le _,Nat.zero_le _,(fun x hx=>by cases hx),fun _=>⟨rfl,rfl⟩⟩
end
section
open Go.RowKit
open Tk (T4 SR Scans bstr rowOf)
open Tr (Nd Blk KidsAt NodeAt ret_bool)
def ParD (r:R3) (w:World) (e:Ending) (w':World):Prop :=
 Below w.heap.size w w'∧match r with
 | .ok s=>∃ p cap ns,e=.returned (.tuple #[.agg #[.slice p ns.length cap],.agg #[.int .i64 0,.int .i64 0]])∧Tr.Tr w' p ns∧Tr.Fit ns cap∧ns.map bare=s.N
 | .bad c a=>e=.returned (.tuple #[.agg #[.slice none 0 0],.agg #[.int .i64 c,.int .i64 a]])
 | .out=>True
def QOk (g:Nat) (s1:S3) (p:Option Addr) (n cap:Nat) (c a:Int) (W:World):Prop :=
 ∃ ns,NdA (Ae g) W p ns∧ns.length=n∧ns.map bare=s1.N∧n≤cap∧n≤600∧(∀ x,x ∈ s1.N→x.c.length≤5000000)∧c=0∧a=0
def QBad (c0 a0:Int) (p:Option Addr) (n cap:Nat) (c a:Int) (_:World):Prop:=p=none∧n=0∧cap=0∧c=c0∧a=a0
theorem done_of {E:Nat}{s1:S3}{o':Int}{g:Nat}(h1:1≤s1.N.length) (hgood:∀ j,j<s1.N.length→Tr.codeAt (s1.N.map ndOf) j=0)
  (hck:FitN s1.N∧CkN s1.N 0 0∨¬ FitN s1.N∧¬ CkN s1.N 0 0) {r:R3} (hr:seqF [doneF E,fitsF] s1=r) :
  (∃ s,r=.ok s∧s=s1∧∀ W v,RdAt E (Ae g) W (rs s1 0 o') v→Calls Tryz.prog 35 #[v] W fun e w'=>∃ p n cap c a,e=.returned (.tuple #[.agg #[.slice p n cap],.agg #[.int .i64 c,.int .i64 a]])∧Hid (QOk g s1 p n cap c a w')∧Below W.heap.size W w') ∨
  (∃ c0 a0,r=.bad c0 a0∧∀ W v,RdAt E (Ae g) W (rs s1 0 o') v→Calls Tryz.prog 35 #[v] W fun e w'=>∃ p n cap c a,e=.returned (.tuple #[.agg #[.slice p n cap],.agg #[.int .i64 c,.int .i64 a]])∧Hid (QBad c0 a0 p n cap c a w')∧Below W.heap.size W w'):=by
 obtain ⟨j,hj⟩ : ∃ j,s1.N.length=j+1:=⟨s1.N.length-1,by omega⟩
 have bad:∀ c0 a0,(∀ W v,RdAt E (Ae g) W (rs s1 0 o') v→Calls Tryz.prog 35 #[v] W (DnP none 0 0 c0 a0 W))→∀ W v,RdAt E (Ae g) W (rs s1 0 o') v→Calls Tryz.prog 35 #[v] W fun e w'=>∃ p n cap c a,e=.returned (.tuple #[.agg #[.slice p n cap],.agg #[.int .i64 c,.int .i64 a]])∧Hid (QBad c0 a0 p n cap c a w')∧Below W.heap.size W w' :=
  fun c0 a0 h W v hv=>(h W v hv).mono fun e w' ⟨he,hb⟩=>⟨none,0,0,c0,a0,he,⟨rfl,rfl,rfl,rfl,rfl⟩,hb⟩
 by_cases hL:s1.L=[]
 ·have e1:seqF [doneF E,fitsF] s1=(fitsF s1).bind (seqF []):=by
   show (doneF E s1).bind _=_
   unfold doneF;rw [if_pos hL];rfl
  rw [e1] at hr
  rcases hck with ⟨hf,hc⟩ | ⟨hf,hc⟩
  ·rw [fits_yes hc] at hr
   refine Or.inl ⟨s1,hr.symm,rfl,fun W v hv=>?_⟩
   have hf1:s1.N.length≤600:=hf.1
   have hf2:Tr.Dp (s1.N.map ndOf) (s1.N.length-1)≤40:=hf.2
   refine (done_ok (j:=j) hv rfl hL hj (by omega) (fun i hi=>hgood i (by omega)) (by rw [hj] at hf2;exact hf2)).mono fun e w' ⟨p,cap,ns,he,hT,hl,hm,hcap,hk,hb⟩=>⟨p,j+1,cap,0,0,he,⟨ns,hT,hl,hm,hcap,by omega,hk,rfl,rfl⟩,hb⟩
  ·rw [fits_no hc] at hr
   refine Or.inr ⟨10,0,hr.symm,bad 10 0 fun W v hv=>?_⟩
   by_cases hbig:600<s1.N.length
   ·exact done_big hv rfl hL hbig
   ·have hdp:40<Tr.Dp (s1.N.map ndOf) (s1.N.length-1):=by
     rcases Nat.lt_or_ge 40 (Tr.Dp (s1.N.map ndOf) (s1.N.length-1)) with h | h
     ·exact h
     ·exact absurd ⟨by omega,h⟩ hf
    exact done_deep (j:=j) hv rfl hL hj (by omega) (fun i hi=>hgood i (by omega)) (by rw [hj] at hdp;exact hdp)
 ·have e1:seqF [doneF E,fitsF] s1=.bad 1 (pk E s1.L).a:=by
   show (doneF E s1).bind _=_
   unfold doneF;rw [if_neg hL];rfl
  rw [e1] at hr
  exact Or.inr ⟨1,(pk E s1.L).a,hr.symm,bad 1 _ fun W v hv=>done_left hv rfl hL⟩
theorem qok_agr {g:Nat}{s1:S3}:∀ p n cap c a W W',Agr (Ae g) W W'→QOk g s1 p n cap c a W→QOk g s1 p n cap c a W':=fun p n cap c a W W' hA ⟨ns,hT,h⟩=>⟨ns,hT.agr hA,h⟩
theorem qok_end {g:Nat}{s1:S3}{p:Option Addr}{n cap:Nat}{c a:Int}{W:World}(h:QOk g s1 p n cap c a W):∃ ns:List Nd,n=ns.length∧c=0∧a=0∧Tr.Tr W p ns∧Tr.Fit ns cap∧ns.map bare=s1.N:=by
 obtain ⟨ns,hT,rfl,hm,hcap,hl,hk,rfl,rfl⟩:=h
 refine ⟨ns,rfl,rfl,rfl,hT.tr,⟨hcap,by omega,fun j hj=>?_⟩,hm⟩
 have:=hk (bare ns[j]) (by rw [← hm];exact List.mem_map.2 ⟨_,List.getElem_mem hj,rfl⟩)
 exact Nat.le_trans this (by omega)
end
section
open Go.RowKit
open Tr (Nd Blk KidsAt NodeAt)
def PQ (N:List Mn) (c a:Int) (w:World) (e:Ending) (w':World):Prop :=
 Below w.heap.size w w'∧∃ (ns:List Nd) (m cap:Nat) (p:Option Addr),ns.length=m∧e=.returned (.tuple #[.agg #[.slice p m cap],.agg #[.int .i64 c,.int .i64 a]])∧Tr.Tr w' p ns∧Tr.Fit ns cap∧ns.map bare=N
theorem tr_none (w:World):Tr.Tr w none []:=⟨fun h=>by simp at h,fun i h=>by simp at h⟩
theorem fit_none:Tr.Fit [] 0:=⟨Nat.le_refl _,by simp,fun j h=>by simp at h⟩
theorem pq_parR {r:R3}(ho:r≠.out):∃ N c a,(∀ w e w',ParR r w e w'→PQ N c a w e w')∧(∀ w e w',ParD r w e w'→PQ N c a w e w'):=by
 cases r with
 | out=>exact absurd rfl ho
 | ok s =>
  refine ⟨s.N,0,0,fun w e w' h=>?_,fun w e w' h=>?_⟩
  ·obtain ⟨hb,p,cap,ns,he,hT,hF,-,hN,-⟩:=h
   exact ⟨hb,ns,_,cap,p,rfl,he,hT,hF,hN⟩
  ·obtain ⟨hb,p,cap,ns,he,hT,hF,hN⟩:=h
   exact ⟨hb,ns,_,cap,p,rfl,he,hT,hF,hN⟩
 | bad c a =>
  refine ⟨[],c,a,fun w e w' h=>?_,fun w e w' h=>?_⟩
  ·obtain ⟨hb,he⟩:=h
   exact ⟨hb,[],0,0,none,rfl,he,tr_none _,fit_none,rfl⟩
  ·obtain ⟨hb,he⟩:=h
   exact ⟨hb,[],0,0,none,rfl,he,tr_none _,fit_none,rfl⟩
theorem trees_pq {ns ns':List Nd}{m m' cap cap':Nat}{p p':Option Addr}{N:List Mn}{w:World}(hm:ns.length=m) (hm':ns'.length=m') (hT:Tr.Tr w p ns) (hT':Tr.Tr w p' ns') (hF:Tr.Fit ns cap) (hF':Tr.Fit ns' cap') (hN:ns.map bare=N) (hN':ns'.map bare=N) :
  Calls Tryz.prog 13 #[.agg #[.slice p m cap],.agg #[.slice p' m' cap']] w fun e w'=>e=.returned (.bool true)∧Below w.heap.size w w':=by
 subst hm hm'
 exact trees_any ns ns' p p' cap cap' w hT hT' hF hF' (hN.trans hN'.symm)
end
end Go.Proofs.YtbjacclfhgnffaaGreatDoor
