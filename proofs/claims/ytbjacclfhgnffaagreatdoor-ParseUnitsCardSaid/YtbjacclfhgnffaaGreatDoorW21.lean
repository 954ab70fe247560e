/-
  Joined texts of this claim: Jb, Kc, Kf, Kg.
-/
import Derived.Test.YtbjacclfhgnffaaGreatDoorW00
import Derived.Test.YtbjacclfhgnffaaGreatDoorW16
import Derived.Test.YtbjacclfhgnffaaGreatDoorW13
import Derived.Test.YtbjacclfhgnffaaGreatDoorW09
set_option maxHeartbeats 40000000
set_option maxRecDepth 100000
set_option linter.unusedVariables false
set_option linter.unusedSimpArgs false
namespace Go.Proofs.YtbjacclfhgnffaaGreatDoor
section
open Go.RowKit
open Tk (T4 bstr)
open Tr (Nd Blk KidsAt NodeAt ret_bool)
structure Agr (A:Nat→Prop) (w w':World):Prop where
 size:w.heap.size≤w'.heap.size
 block:∀ b,b<w.heap.size→¬ A b→w'.heap[b]? = w.heap[b]?
section
variable {A A':Nat→Prop}{w w' w2:World}
theorem Agr.refl (A:Nat→Prop) (w:World):Agr A w w:=⟨Nat.le_refl _,fun _ _ _=>rfl⟩
theorem Agr.trans (h:Agr A w w') (k:Agr A w' w2):Agr A w w2 :=
 ⟨Nat.le_trans h.size k.size,fun b hb hn=>(k.block b (Nat.lt_of_lt_of_le hb h.size) hn).trans (h.block b hb hn)⟩
theorem Agr.below (h:Below w.heap.size w w'):Agr A w w':=⟨h.size,fun b hb _=>h.block b hb⟩
theorem Agr.alloc (h:Agr A w w') (o:Obj):Agr A w (w'.alloc o):=h.trans (.below ((Below.refl _ _).alloc (Nat.le_refl _) _))
theorem Agr.drew (h:Agr A w w'):Agr A w w'.drew:=⟨h.size,h.block⟩
theorem Agr.setCell (h:Agr A w w') {p:Addr}(hp:A p.block) (u:Value):Agr A w (w'.setCell p u):=by
 have hs:(w'.setCell p u).heap.size=w'.heap.size:=by simp [World.setCell]
 refine h.trans ⟨by rw [hs];exact Nat.le_refl _,fun b hb hn=>?_⟩
 exact Below.heap_setCell w' p u b (fun e=>hn (e ▸ hp))
end
def TkA (A:Nat→Prop) (w:World) (p:Option Addr) (L:List T4):Prop:=0<L.length→∃ b o,p=some ⟨b,o,none⟩∧b<w.heap.size∧¬ A b∧TokAt w b o L
def KdA (A:Nat→Prop) (w:World) (p:Option Addr) (c:List Int):Prop:=0<c.length→∃ b o,p=some ⟨b,o,none⟩∧b<w.heap.size∧¬ A b∧∀ j,(h:j<c.length)→w.cell? ⟨b,o+j,none⟩=some (.int .i64 c[j])
def NdA (A:Nat→Prop) (w:World) (p:Option Addr) (l:List Nd):Prop :=
 (0<l.length→∃ b o,p=some ⟨b,o,none⟩∧b<w.heap.size∧¬ A b∧∀ i,(h:i<l.length)→NodeAt w b (o+i * 6) l[i])∧∀ i,(h:i<l.length)→KdA A w l[i].p l[i].c
section
variable {A A':Nat→Prop}{w w':World}{p:Option Addr}
theorem TkA.agr {L:List T4}(h:TkA A w p L) (k:Agr A w w'):TkA A w' p L:=fun h0=>by
 obtain ⟨b,o,e,hb,hn,ht⟩:=h h0
 exact ⟨b,o,e,Nat.lt_of_lt_of_le hb k.size,hn,ht.same (k.block b hb hn)⟩
theorem TkA.row {L:List T4}(h:TkA A w p L):TkRow w p L:=fun h0=>by
 obtain ⟨b,o,e,hb,hn,ht⟩:=h h0
 exact ⟨b,o,e,hb,ht⟩
theorem TkA.more {L:List T4}(h:TkA A w p L) (hA:∀ b,b<w.heap.size→A' b→A b):TkA A' w p L:=fun h0=>by
 obtain ⟨b,o,e,hb,hn,ht⟩:=h h0
 exact ⟨b,o,e,hb,fun ha=>hn (hA b hb ha),ht⟩
theorem KdA.agr {c:List Int}(h:KdA A w p c) (k:Agr A w w'):KdA A w' p c:=fun h0=>by
 obtain ⟨b,o,e,hb,hn,ht⟩:=h h0
 exact ⟨b,o,e,Nat.lt_of_lt_of_le hb k.size,hn,fun j hj=>(World.cell?_of_block (a:=⟨b,o+j,none⟩) (k.block b hb hn)).trans (ht j hj)⟩
theorem KdA.more {c:List Int}(h:KdA A w p c) (hA:∀ b,b<w.heap.size→A' b→A b):KdA A' w p c:=fun h0=>by
 obtain ⟨b,o,e,hb,hn,ht⟩:=h h0
 exact ⟨b,o,e,hb,fun ha=>hn (hA b hb ha),ht⟩
theorem NodeAt.same {b o:Nat}{x:Nd}(h:NodeAt w b o x) (hb:w'.heap[b]? = w.heap[b]?):NodeAt w' b o x:=by
 obtain ⟨h1,h2,h3,h4,h5,h6⟩:=h
 have e:∀ k v,w.cell? ⟨b,k,none⟩=some v→w'.cell? ⟨b,k,none⟩=some v:=fun k v h=>(World.cell?_of_block (a:=⟨b,k,none⟩) hb).trans h
 exact ⟨e _ _ h1,e _ _ h2,e _ _ h3,e _ _ h4,e _ _ h5,e _ _ h6⟩
theorem NdA.agr {l:List Nd}(h:NdA A w p l) (k:Agr A w w'):NdA A w' p l :=
 ⟨fun h0=>by
  obtain ⟨b,o,e,hb,hn,ht⟩:=h.1 h0
  exact ⟨b,o,e,Nat.lt_of_lt_of_le hb k.size,hn,fun j hj=>NodeAt.same (ht j hj) (k.block b hb hn)⟩,fun i hi=>(h.2 i hi).agr k⟩
theorem NdA.more {l:List Nd}(h:NdA A w p l) (hA:∀ b,b<w.heap.size→A' b→A b):NdA A' w p l :=
 ⟨fun h0=>by
  obtain ⟨b,o,e,hb,hn,ht⟩:=h.1 h0
  exact ⟨b,o,e,hb,fun ha=>hn (hA b hb ha),ht⟩,fun i hi=>(h.2 i hi).more hA⟩
theorem NdA.tr {l:List Nd}(h:NdA A w p l):Tr.Tr w p l :=
 ⟨fun h0=>by
  obtain ⟨b,o,e,hb,hn,ht⟩:=h.1 h0
  exact ⟨b,o,e,hb,ht⟩,fun i hi h0=>by
  obtain ⟨b,o,e,hb,hn,ht⟩:=h.2 i hi h0
  exact ⟨b,o,e,hb,ht⟩⟩
end
def RdAt (E:Nat) (A:Nat→Prop) (w:World) (r:Rs) (v:Value):Prop :=
 ∃ pn cn pl cl ns,v=rdV pn r.N.length cn pl r.L.length cl E r.c r.a r.top∧TkA A w pl r.L∧r.L.length≤cl∧cl≤9223372036854775807∧(r.L.length≤5000000∧∀ x,x ∈ r.L→x.t.length≤1000000) ∧
  NdA A w pn ns∧ns.map bare=r.N∧r.N.length≤cn∧r.N.length≤5000000∧(∀ x,x ∈ r.N→x.c.length≤5000000)∧(r.N=[]→pn=none∧cn=0)
def LsAt (A:Nat→Prop) (w:World) (c:List Int) (v:Value):Prop:=∃ p cap,v=.slice p c.length cap∧KdA A w p c∧c.length≤cap
section
variable {E:Nat}{A A':Nat→Prop}{w w':World}{r:Rs}{v:Value}
theorem RdAt.agr (h:RdAt E A w r v) (k:Agr A w w'):RdAt E A w' r v:=by
 obtain ⟨pn,cn,pl,cl,ns,e,h1,h2,h3,h4,h5,h6⟩:=h
 exact ⟨pn,cn,pl,cl,ns,e,h1.agr k,h2,h3,h4,h5.agr k,h6⟩
theorem RdAt.more (h:RdAt E A w r v) (hA:∀ b,b<w.heap.size→A' b→A b):RdAt E A' w r v:=by
 obtain ⟨pn,cn,pl,cl,ns,e,h1,h2,h3,h4,h5,h6⟩:=h
 exact ⟨pn,cn,pl,cl,ns,e,h1.more hA,h2,h3,h4,h5.more hA,h6⟩
theorem LsAt.agr {c:List Int}(h:LsAt A w c v) (k:Agr A w w'):LsAt A w' c v:=by
 obtain ⟨p,cap,e,h1,h2⟩:=h
 exact ⟨p,cap,e,h1.agr k,h2⟩
theorem LsAt.more {c:List Int}(h:LsAt A w c v) (hA:∀ b,b<w.heap.size→A' b→A b):LsAt A' w c v:=by
 obtain ⟨p,cap,e,h1,h2⟩:=h
 exact ⟨p,cap,e,h1.more hA,h2⟩
end
def RdRet (E:Nat) (A:Nat→Prop) (w:World) (r':Rs) (e:Ending) (w':World):Prop :=
 ∃ pn cn pl cl,e=.returned (.agg #[.slice pn r'.N.length cn,.slice pl r'.L.length cl,.int .i64 E,.int .i64 r'.c,.int .i64 r'.a,.int .i64 r'.top]) ∧
  Hid (RdAt E A w' r' (.agg #[.slice pn r'.N.length cn,.slice pl r'.L.length cl,.int .i64 E,.int .i64 r'.c,.int .i64 r'.a,.int .i64 r'.top]))∧Below w.heap.size w w'
theorem RdRet.of {E:Nat}{A:Nat→Prop}{w w':World}{r':Rs}{v:Value}(h:RdAt E A w' r' v) (hb:Below w.heap.size w w'):RdRet E A w r' (.returned v) w':=by
 have h':=h
 obtain ⟨pn,cn,pl,cl,ns,e,_⟩:=h
 subst e
 exact ⟨pn,cn,pl,cl,rfl,h',hb⟩
def In (A:Nat→Prop) (w:World):Prop:=∀ b,A b→b<w.heap.size
theorem skip_tk {A:Nat→Prop}{w0:World}(pn:Option Addr) (ln cn:Nat) (pl:Option Addr) (cl E:Nat) (a top:Int) (w:World) (L:List T4) (hT:TkA A w0 pl L) (hl:L.length≤5000000) (hc:L.length≤cl) (hcl:cl≤9223372036854775807) :
  Calls Tryz.prog 70 #[rdV pn ln cn pl L.length cl E 0 a top] w fun e w'=>∃ pl' cl',e=.returned (rdV pn ln cn pl' L.tail.length cl' E 0 a top)∧TkA A w0 pl' L.tail∧L.tail.length≤cl'∧cl'≤9223372036854775807∧Below w.heap.size w w':=by
 cases L with
 | nil=>exact (rskip_nil pn ln cn pl cl E a top w).mono fun e w' ⟨he,hb⟩=>⟨pl,cl,he,fun h=>absurd h (Nat.lt_irrefl _),hc,hcl,hb⟩
 | cons t L =>
  obtain ⟨b,o,rfl,hb,hA,ht⟩:=hT (Nat.succ_pos _)
  by_cases h1:cl=1
  ·subst h1
   have:L=[]:=List.eq_nil_of_length_eq_zero (Nat.le_zero.1 (Nat.le_of_succ_le_succ hc))
   subst this
   exact (rskip_one pn ln cn b o E a top w).mono fun e w' ⟨he,hb⟩=>⟨_,_,he,fun h=>absurd h (Nat.lt_irrefl _),Nat.le_refl _,Nat.zero_le _,hb⟩
  ·refine (rskip_cons pn ln cn b o L.length cl E a top w hl hc hcl h1).mono fun e w' ⟨he,hbw⟩=>⟨_,_,he,fun _=>⟨b,o+4,rfl,hb,hA,fun j hj=>?_⟩,Nat.le_sub_of_add_le hc,Nat.le_trans (Nat.sub_le _ _) hcl,hbw⟩
   have:=ht (j+1) (Nat.succ_lt_succ hj)
   simp only [List.getElem_cons_succ] at this
   have e:o+(j+1) * 4=o+4+j * 4:=by omega
   rw [e] at this
   exact this
section
variable {E:Nat}{A:Nat→Prop}{w:World}{r:Rs}{v:Value}
theorem RdAt.ok (h:RdAt E A w r v) (w2:World):Calls Tryz.prog 38 #[v] w2 fun e w'=>e=.returned (.bool (okR r))∧Below w2.heap.size w2 w':=by
 obtain ⟨pn,cn,pl,cl,ns,rfl,_⟩:=h
 exact rok_any pn r.N.length cn pl r.L.length cl E r.c r.a r.top w2
theorem RdAt.peek (h:RdAt E A w r v):Calls Tryz.prog 68 #[v] w fun e w'=>e=.returned (tokV (pk E r.L))∧Below w.heap.size w w':=by
 obtain ⟨pn,cn,pl,cl,ns,rfl,h1,h2,h3,h4,_⟩:=h
 exact rpeek_any pn r.N.length cn pl cl E r.c r.a r.top w r.L h1.row h4.1
theorem RdAt.is (h:RdAt E A w r v) (s:ByteArray):Calls Tryz.prog 69 #[v,.string s] w fun e w'=>e=.returned (.bool (isR E s.toList r))∧Below w.heap.size w w':=by
 obtain ⟨pn,cn,pl,cl,ns,rfl,h1,h2,h3,h4,_⟩:=h
 have hp:∀ w2,Below w.heap.size w w2→Calls Tryz.prog 68 #[rdV pn r.N.length cn pl r.L.length cl E r.c r.a r.top] w2 fun e w'=>e=.returned (tokV (pk E r.L))∧Below w2.heap.size w2 w':=fun w2 hb2 =>
  rpeek_any pn r.N.length cn pl cl E r.c r.a r.top w2 r.L (h1.row.below hb2) h4.1
 by_cases hc:r.c=0
 ·have:=ris_ok pn r.N.length cn pl r.L.length cl E r.a r.top w s (bstr (pk E r.L).t) (pk E r.L).k (pk E r.L).v (pk E r.L).a (by rw [hc] at hp;exact hp)
  rw [hc]
  refine this.mono fun e w' ⟨he,hb⟩=>⟨?_,hb⟩
  rw [he]
  refine ret_bool ?_
  unfold isR okR
  rw [decide_eq_true hc,Bool.true_and,bstr_back]
  congr 1
  ·rw [Bool.eq_iff_iff,decide_eq_true_eq,decide_eq_true_eq];omega
  ·rw [Bool.eq_iff_iff,beq_iff_eq,decide_eq_true_eq]
 ·have:=ris_bad pn r.N.length cn pl r.L.length cl E r.c r.a r.top w s (bstr (pk E r.L).t) (pk E r.L).k (pk E r.L).v (pk E r.L).a hc hp
  refine this.mono fun e w' ⟨he,hb⟩=>⟨?_,hb⟩
  rw [he]
  refine ret_bool ?_
  unfold isR okR
  rw [decide_eq_false hc,Bool.false_and]
theorem RdAt.skip (h:RdAt E A w r v):Calls Tryz.prog 70 #[v] w (RdRet E A w (skipR r)):=by
 by_cases hc:r.c=0
 ·obtain ⟨pn,cn,pl,cl,ns,rfl,h1,h2,h3,h4,h5,h6⟩:=h
  have e:skipR r={ r with L:=r.L.tail }:=by unfold skipR okR;rw [decide_eq_true hc];exact if_pos rfl
  rw [e]
  have:=skip_tk (A:=A) pn r.N.length cn pl cl E r.a r.top w r.L h1 h4.1 h2 h3
  rw [hc]
  refine this.mono fun e w' ⟨pl',cl',he,g1,g2,g3,hb⟩=>?_
  rw [he]
  exact RdRet.of (v:=rdV pn r.N.length cn pl' r.L.tail.length cl' E 0 r.a r.top) ⟨pn,cn,pl',cl',ns,rfl,g1.agr (.below hb),g2,g3,⟨by rw [List.length_tail];have:=h4.1;omega,fun x hx=>h4.2 x (List.mem_of_mem_tail hx)⟩,h5.agr (.below hb),h6⟩ hb
 ·have e:skipR r=r:=by unfold skipR okR;rw [decide_eq_false hc];rfl
  rw [e]
  have h':=h
  obtain ⟨pn,cn,pl,cl,ns,rfl,_⟩:=h
  exact (rskip_bad pn r.N.length cn pl r.L.length cl E r.c r.a r.top w hc).mono fun e w' ⟨he,hb⟩=>he ▸ RdRet.of (h'.agr (.below hb)) hb
theorem RdAt.stop (h:RdAt E A w r v) (code:Int):Calls Tryz.prog 74 #[v,.int .i64 code] w (RdRet E A w (stopR E code r)):=by
 have h':=h
 obtain ⟨pn,cn,pl,cl,ns,rfl,h1,h2,h3,h4,h5⟩:=h
 by_cases hc:r.c=0
 ·have e:stopR E code r={ r with c:=code,a:=(pk E r.L).a }:=by unfold stopR okR;rw [decide_eq_true hc];exact if_pos rfl
  rw [e,hc]
  refine (rstop_ok pn r.N.length cn pl r.L.length cl E r.a r.top w (bstr (pk E r.L).t) (pk E r.L).k (pk E r.L).v (pk E r.L).a code (fun w2 hb2=>rpeek_any pn r.N.length cn pl cl E 0 r.a r.top w2 r.L (h1.row.below hb2) h4.1)).mono
   fun e w' ⟨he,hb⟩=>he ▸ RdRet.of ⟨pn,cn,pl,cl,ns,rfl,h1.agr (.below hb),h2,h3,h4,h5.1.agr (.below hb),h5.2⟩ hb
 ·have e:stopR E code r=r:=by unfold stopR okR;rw [decide_eq_false hc];rfl
  rw [e]
  exact (rstop_bad pn r.N.length cn pl r.L.length cl E r.c r.a r.top code w hc).mono fun e w' ⟨he,hb⟩=>he ▸ RdRet.of (h'.agr (.below hb)) hb
end
end
section
open Tk (T4)
theorem key (t:List UInt8) (h:Tk.keyB t=true):SgnKeyL t:=Or.inr h
def NamP (s:S3) (a0 t0:Int) (k:Int) (q:Rs × T4):D3→Prop
 | .ok s1 x=>HS s1∧s1.O=s.O∧q.1=rs s1 a0 t0∧x=mk 0 q.2.t k q.2.a
 | .bad c a=>c≠0∧q.1.c=c∧q.1.a=a
 | .out=>True
theorem name_sim {E:Nat}{s:S3}(hs:HS s) (a0 t0 k:Int):NamP s a0 t0 k (nameR E (rs s a0 t0)) (namedF E k s):=by
 unfold namedF nameR
 by_cases h:(pk E s.L).k=1
 ·rw [if_pos h,if_pos (show (pk E (rs s a0 t0).L).k=1 from h)]
  exact ⟨hs.tail,rfl,rfl,rfl⟩
 ·rw [if_neg h,if_neg (show ¬ (pk E (rs s a0 t0).L).k=1 from h),stop_rs]
  exact ⟨by decide,rfl,rfl⟩
theorem decl_sim {E:Nat}{s:S3}(hs:HS s) (a0 t0:Int):NamP s a0 t0 (kindR E false (rs s a0 t0)).2 (nameR E (kindR E false (rs s a0 t0)).1) (declF E s):=by
 unfold declF kindR
 by_cases h:(pk E s.L).t=[105,110,116]
 ·rw [word_yes h,if_pos (is_yes hs (key _ (by decide)) h),skip_rs]
  show NamP _ _ _ _ _ (if (pk E s.L.tail).t=[42] then namedF E 2 { s with L:=s.L.tail.tail } else namedF E 1 { s with L:=s.L.tail })
  by_cases h2:(pk E s.L.tail).t=[42]
  ·rw [if_pos h2,if_pos (is_yes (s:={ s with L:=s.L.tail }) hs.tail (sgn _ (by decide)) h2),skip_rs]
   exact name_sim (s:={ s with L:=s.L.tail.tail }) hs.tail.tail a0 t0 2
  ·rw [if_neg h2,if_neg (by rw [is_no (s:={ s with L:=s.L.tail }) hs.tail (sgn _ (by decide)) h2];decide)]
   exact name_sim (s:={ s with L:=s.L.tail }) hs.tail a0 t0 1
 ·rw [word_no h,if_neg (by rw [is_no hs (key _ (by decide)) h];decide),if_neg (by simp),stop_rs]
  show NamP _ _ _ _ (nameR E ⟨s.N,s.L,1,(pk E s.L).a,t0⟩) _
  rw [nameR_bad (bad1 _ _ _ _)]
  exact ⟨by decide,rfl,rfl⟩
def Gv1 (s:S3) (a0:Int) (O0:List Int) (o:Option Rs) (r:R3):Prop:=Gv s a0 O0 (alone o) r
theorem param_sim {E:Nat}{s:S3}(hs:HS s) (ex:Rs→Option RL) (a0 t0:Int):Gv1 s a0 s.O (declaredR E ex 4 false (rs s a0 t0)) (paramF E s):=by
 have hd:=decl_sim (E:=E) hs a0 t0
 unfold declaredR paramF Gv1
 rw [if_neg (by simp)]
 generalize (kindR E false (rs s a0 t0)).2=k at *
 generalize nameR E (kindR E false (rs s a0 t0)).1=q at *
 cases hf:declF E s with
 | out=>trivial
 | bad c a =>
  rw [hf] at hd
  obtain ⟨hc,rfl,rfl⟩:=hd
  rw [addR_bad hc]
  exact Gv.bad hc rfl
 | ok s1 x =>
  rw [hf] at hd
  obtain ⟨h1,hO,hq,rfl⟩:=hd
  rw [hq]
  show Gv s a0 s.O _ (R3.bind (R3.ok s1) (addF _ s1.O.length))
  have:=add_gv h1 (mk 4 q.2.t k q.2.a) (O0:=s1.O) (ks:=[]) (by simp) a0 t0 s
  rw [← hO]
  exact this
theorem Gv.le {s:S3}{a0:Int}{O0:List Int}{o o':Option RL}{r:R3}(h:Gv s a0 O0 o r) (hl:Le o o'):Gv s a0 O0 o' r:=by
 cases r with
 | out=>trivial
 | bad c a=>obtain ⟨hc,r',e,e1,e2⟩:=h;exact ⟨hc,r',hl _ e,e1,e2⟩
 | ok s'=>obtain ⟨h1,o1,hO,e⟩:=h;exact ⟨h1,o1,hO,hl _ e⟩
theorem GvL.le {s:S3}{a0:Int}{out:List Int}{o o':Option RL}{r:R3}(h:GvL s a0 out o r) (hl:Le o o'):GvL s a0 out o' r:=by
 cases r with
 | out=>trivial
 | bad c a=>obtain ⟨hc,q,e,e1,e2⟩:=h;exact ⟨hc,q,hl _ e,e1,e2⟩
 | ok s'=>obtain ⟨h1,new,t',hO,e⟩:=h;exact ⟨h1,new,t',hO,hl _ e⟩
theorem ex_sim {E n m:Nat}(h:n≤m) (s:S3) (a0 t0:Int) (hs:HS s):Gv s a0 s.O (runR E (m+6) .expr (rs s a0 t0)) (runJ E n .expr s) :=
 ((sim E n).expr s a0 t0 hs).le (runR_le (by omega) _ _)
theorem list_sim {E n m:Nat}(h:n≤m) (o e:List UInt8) (s:S3) (a0 t0:Int) (hs:HS s) (hne:e≠[44]) (he:SgnKeyL e) (ho:(pk E s.L).t=o):GvL s a0 [] (runR E (m+6) (.list e) (rs { s with L:=s.L.tail } a0 t0)) (runJ E n (.list o e .expr) s) :=
 ((sim E n).list o e s a0 t0 hs hne he ho).le (runR_le (by omega) _ _)
theorem Gv.bind1 {s s2:S3}{a0:Int}{O1 O0:List Int}{x:Option Rs}{r:R3}{f:F3}{g:Rs→Option RL}(h:Gv s a0 O1 (alone x) r)
  (hok:∀ s' o',HS s'→s'.O=O1 ++ [o']→Gv s2 a0 O0 (g (rs s' a0 o')) (f s')) (hbad:∀ r':Rs,r'.c≠0→g r' = some (r',[])):Gv s2 a0 O0 (x.bind g) (r.bind f):=by
 have h2:=Gv.bind (s2:=s2) (O0:=O0) (f:=f) (g:=fun q=>g q.1) h hok hbad
 cases x <;> exact h2
theorem alone_bind (x:Option RL) (g:RL→Option Rs):alone (x.bind g)=x.bind fun q=>alone (g q):=by cases x <;> rfl
theorem also_sim {E n m:Nat}(h:n≤m) (s:S3) (a0 t0:Int) (hs:HS s):Gv s a0 s.O (alone (alsoR (runR E (m+6) .expr) (rs s a0 t0))) (runJ E n .expr s):=by
 have h1:=Gv.bind (s2:=s) (O0:=s.O) (f:=.ok) (g:=fun q=>some (q.1,[])) (ex_sim (E:=E) h s a0 t0 hs) (fun s2 o2 h2 hO2=>⟨h2,o2,hO2,rfl⟩) (fun r' hr=>rfl)
 have e:(runJ E n .expr s).bind .ok=runJ E n .expr s:=by cases runJ E n .expr s <;> rfl
 rw [e] at h1
 unfold alsoR
 rw [alone_bind]
 exact h1
theorem bare_sim {E n m:Nat}(h:n≤m) (s:S3) (a0 t0:Int) (hs:HS s):Gv s a0 s.O (alone (bareR E (runR E (m+6) .expr) (rs s a0 t0))) (effectF E (runJ E n .expr) s):=by
 unfold bareR effectF
 rw [alone_bind]
 show Gv s a0 s.O _ (R3.bind (R3.bind (runJ E n .expr s) (seqF [])) (addF _ _))
 rw [bind_assoc3]
 exact Gv.bind (ex_sim h s a0 t0 hs) (fun s2 o2 h2 hO2=>add_gv h2 _ (ks:=[o2]) hO2 a0 o2 s) (fun r' hr=>by simp [addR_bad hr,alone])
theorem nothing_sim {E:Nat}(s:S3) (a0 t0:Int) (hs:HS s):Gv s a0 s.O (alone (nothingR E (rs s a0 t0))) (nothingF E s) :=
 add_gv hs (mk 24 [] 0 (pk E s.L).a) (O0:=s.O) (ks:=[]) (by simp) a0 t0 s
theorem bracket_sim {E n m:Nat}(h:n≤m) (s:S3) (a0 t0:Int) (hs:HS s):Gv s a0 s.O (alone (bracketR E (runR E (m+6) .expr) (rs s a0 t0))) (conditionF E (runJ E n .expr) s):=by
 unfold bracketR conditionF
 rw [alone_bind]
 show Gv s a0 s.O _ (R3.bind (wordF E [40] s) (seqF [runJ E n .expr,wordF E [41]]))
 by_cases hb:(pk E s.L).t=[40]
 ·rw [word_yes hb,want_yes hs (sgn _ (by decide)) hb]
  show Gv s a0 s.O _ (R3.bind (runJ E n .expr { s with L:=s.L.tail }) (seqF [wordF E [41]]))
  refine Gv.bind (ex_sim h _ a0 t0 hs.tail) (fun s2 o2 h2 hO2=>?_) (fun r' hr=>by simp [wantR_bad hr,alone])
  show Gv s a0 s.O (some (wantR E [41] (rs s2 a0 o2),[])) (R3.bind (wordF E [41] s2) (seqF []))
  by_cases hc:(pk E s2.L).t=[41]
  ·rw [word_yes hc,want_yes h2 (sgn _ (by decide)) hc]
   exact ⟨h2.tail,o2,hO2,rfl⟩
  ·rw [word_no hc,want_no h2 (sgn _ (by decide)) hc]
   exact Gv.wrong (s0:=s2) (r':=⟨s2.N,s2.L,1,(pk E s2.L).a,o2⟩) rfl rfl
 ·rw [word_no hb,want_no hs (sgn _ (by decide)) hb,show m+6=m+1+5 from rfl,bad_expr (bad1 _ _ _ _)]
  exact Gv.wrong (s0:=s) (r':=⟨s.N,s.L,1,(pk E s.L).a,t0⟩) rfl (by simp [wantR_bad (r:=⟨s.N,s.L,1,(pk E s.L).a,t0⟩) (bad1 _ _ _ _),alone])
theorem local_sim {E n m:Nat}(hn:n≤m) {s:S3}(hs:HS s) (a0 t0:Int):Gv s a0 s.O (alone (declaredR E (runR E (m+6) .expr) 12 true (rs s a0 t0))) (localF E (runJ E n .expr) s):=by
 have hd:=decl_sim (E:=E) hs a0 t0
 unfold declaredR localF
 generalize (kindR E false (rs s a0 t0)).2=k at *
 generalize nameR E (kindR E false (rs s a0 t0)).1=q at *
 cases hf:declF E s with
 | out=>trivial
 | bad c a =>
  rw [hf] at hd
  obtain ⟨hc,rfl,rfl⟩:=hd
  rw [if_neg (by rw [isR_bad hc];decide),addR_bad hc]
  exact Gv.bad hc rfl
 | ok s1 x =>
  rw [hf] at hd
  obtain ⟨h1,hO,hq,rfl⟩:=hd
  rw [hq]
  show Gv s a0 s.O _ (R3.bind (R3.bind (if (pk E s1.L).t=[61] then runJ E n .expr { s1 with L:=s1.L.tail } else .ok s1) (seqF [])) (addF _ s1.O.length))
  rw [← hO]
  by_cases he:(pk E s1.L).t=[61]
  ·rw [if_pos he,if_pos (by rw [is_yes h1 (sgn _ (by decide)) he];rfl),alone_bind,bind_assoc3,skip_rs]
   exact Gv.bind (ex_sim hn { s1 with L:=s1.L.tail } a0 t0 h1.tail) (fun s2 o2 h2 hO2=>add_gv h2 _ (O0:=s1.O) (ks:=[o2]) hO2 a0 o2 s) (fun r' hr=>by simp [addR_bad hr,alone])
  ·rw [if_neg he,if_neg (by rw [is_no h1 (sgn _ (by decide)) he];decide)]
   exact add_gv h1 (mk 12 q.2.t k q.2.a) (O0:=s1.O) (ks:=[]) (by simp) a0 t0 s
end
section
open Tk (T4)
theorem bindOk (s:S3) (f:F3):(R3.ok s).bind f=f s:=rfl
section bad
variable {E m:Nat}{r:Rs}(hr:r.c≠0)
include hr
theorem badV_body (hm:3≤m):runV E m .body r=some (r,[]):=by obtain ⟨k,rfl⟩ : ∃ k,m=k+3:=⟨m-3,by omega⟩;exact bad_body hr k
theorem badV_allL (hm:1≤m) (cs:Bool) (out:List Int):runV E m (.allL cs out) r=some (r,out):=by obtain ⟨k,rfl⟩ : ∃ k,m=k+1:=⟨m-1,by omega⟩;exact bad_allL hr k cs out
theorem badV_all (hm:2≤m) (cs:Bool):runV E m (.all cs) r=some (r,[]):=by obtain ⟨k,rfl⟩ : ∃ k,m=k+2:=⟨m-2,by omega⟩;exact bad_all hr k cs
theorem badV_fnL (hm:1≤m) (f:Bool) (out:List Int):runV E m (.fnL f out) r=some (r,out):=by obtain ⟨k,rfl⟩ : ∃ k,m=k+1:=⟨m-1,by omega⟩;exact bad_fnL hr k f out
theorem badV_topsL (hm:1≤m) (out:List Int):runV E m (.topsL out) r=some (r,out):=by obtain ⟨k,rfl⟩ : ∃ k,m=k+1:=⟨m-1,by omega⟩;exact bad_topsL hr k out
theorem badE_bare (hm:5≤m):bareR E (runR E m .expr) r=some r:=by obtain ⟨k,rfl⟩ : ∃ k,m=k+5:=⟨m-5,by omega⟩;exact bareR_bad hr k
theorem badE_bracket (hm:5≤m):bracketR E (runR E m .expr) r=some r:=by obtain ⟨k,rfl⟩ : ∃ k,m=k+5:=⟨m-5,by omega⟩;exact bracketR_bad hr k
theorem badE_also (hm:5≤m):alsoR (runR E m .expr) r=some r:=by obtain ⟨k,rfl⟩ : ∃ k,m=k+5:=⟨m-5,by omega⟩;exact alsoR_bad hr k
end bad
theorem Gv.bindP {s s2:S3}{a0 k:Int}{O1 O0:List Int}{x:Option RL}{r:R3}{f:F3}{g:RL→Option RL}(h:Gv s a0 O1 x r) (hp:Rt r k)
  (hok:∀ s' o',HS s'→s'.O=O1 ++ [o']→pot s'≤k→Gv s2 a0 O0 (g (rs s' a0 o',[])) (f s')) (hbad:∀ r':Rs,r'.c≠0→g (r',[])=some (r',[])):Gv s2 a0 O0 (x.bind g) (r.bind f):=by
 cases r with
 | out=>trivial
 | bad c a =>
  obtain ⟨hc,r',rfl,rfl,rfl⟩:=h
  exact ⟨hc,r',hbad r' hc,rfl,rfl⟩
 | ok s' =>
  obtain ⟨hs,o',hO,rfl⟩:=h
  exact hok s' o' hs hO (hp s' rfl)
theorem Gv.bind1P {s s2:S3}{a0 k:Int}{O1 O0:List Int}{x:Option Rs}{r:R3}{f:F3}{g:Rs→Option RL}(h:Gv s a0 O1 (alone x) r) (hp:Rt r k)
  (hok:∀ s' o',HS s'→s'.O=O1 ++ [o']→pot s'≤k→Gv s2 a0 O0 (g (rs s' a0 o')) (f s')) (hbad:∀ r':Rs,r'.c≠0→g r' = some (r',[])):Gv s2 a0 O0 (x.bind g) (r.bind f):=by
 have h2:=Gv.bindP (s2:=s2) (O0:=O0) (f:=f) (g:=fun q=>g q.1) h hp hok hbad
 cases x <;> exact h2
theorem GvL.bindP {s s2:S3}{a0 k:Int}{O0:List Int}{x:Option RL}{r:R3}{f:F3}{g:RL→Option RL}(h:GvL s a0 [] x r) (hp:Rt r k)
  (hok:∀ s' new t',HS s'→s'.O=s.O ++ new→pot s'≤k→Gv s2 a0 O0 (g (rs s' a0 t',new)) (f s')) (hbad:∀ q:RL,q.1.c≠0→g q=some (q.1,[])):Gv s2 a0 O0 (x.bind g) (r.bind f):=by
 cases r with
 | out=>trivial
 | bad c a =>
  obtain ⟨hc,q,rfl,rfl,rfl⟩:=h
  exact ⟨hc,q.1,hbad q hc,rfl,rfl⟩
 | ok s' =>
  obtain ⟨hs,new,t',hO,rfl⟩:=h
  exact hok s' new t' hs hO (hp s' rfl)
theorem Gv.word {E:Nat}{s s2:S3}{a0 t0 k:Int}{O0:List Int}{t:List UInt8}{f:F3}(g:Rs→Option RL) (hs:HS s) (hp:pot s≤k) (ht:SgnKeyL t)
  (hok:(pk E s.L).t=t→HS { s with L:=s.L.tail }→pot { s with L:=s.L.tail }≤k→Gv s2 a0 O0 (g (rs { s with L:=s.L.tail } a0 t0)) (f { s with L:=s.L.tail }))
  (hbad:∀ r':Rs,r'.c≠0→g r' = some (r',[])):Gv s2 a0 O0 (g (wantR E t (rs s a0 t0))) ((wordF E t s).bind f):=by
 by_cases h:(pk E s.L).t=t
 ·rw [word_yes h,want_yes hs ht h]
  exact hok h hs.tail (Int.le_trans (pot_tail_le s s.O) hp)
 ·rw [word_no h,want_no hs ht h,hbad _ (bad1 _ _ _ _)]
  exact Gv.wrong (s0:=s) (r':=⟨s.N,s.L,1,(pk E s.L).a,t0⟩) rfl rfl
theorem add_word {E:Nat}{s:S3}(h:HS s) (hp:pot s≤4000000) (x:Mn) {O0 ks:List Int}(hO:s.O=O0 ++ ks) (a0 t0:Int) {t:List UInt8}(ht:SgnKeyL t) (s0:S3) :
  Gv s0 a0 O0 ((alone (addR x ks (rs s a0 t0))).bind fun q=>some (wantR E t q.1,[])) ((wordF E t s).bind (addF x O0.length)):=by
 have hl:s.O.length=O0.length+ks.length:=by rw [hO,List.length_append]
 have hN:s.N.length≤4000000:=by unfold pot at hp;omega
 have h1:=h.low
 have e:addR x ks (rs s a0 t0)=some ⟨s.N ++ [{ x with c:=ks }],s.L,0,a0,s.N.length⟩:=by
  unfold addR
  rw [ok_rs,if_pos rfl,if_neg (show ¬(5000000≤(rs s a0 t0).N.length∨5000000<ks.length) from by show ¬(5000000≤s.N.length∨_);omega)]
  rfl
 rw [e]
 show Gv s0 a0 O0 (some (wantR E t ⟨s.N ++ [{ x with c:=ks }],s.L,0,a0,s.N.length⟩,[])) _
 have h3:HS ⟨s.L,s.N ++ [{ x with c:=ks }],O0 ++ [(s.N.length:Int)]⟩:=⟨by
  show (O0 ++ [(s.N.length:Int)]).length≤(s.N ++ [_]).length
  rw [List.length_append,List.length_append,List.length_singleton,List.length_singleton];omega,by
  show (s.N ++ [_]).length≤5000000
  rw [List.length_append,List.length_singleton];omega,h.tok⟩
 by_cases hw:(pk E s.L).t=t
 ·rw [word_yes hw]
  have e2:=want_yes (E:=E) h3 (a0:=a0) (t0:=(s.N.length:Int)) ht hw
  rw [show (⟨s.N ++ [{ x with c:=ks }],s.L,0,a0,s.N.length⟩ : Rs)=rs ⟨s.L,s.N ++ [{ x with c:=ks }],O0 ++ [(s.N.length:Int)]⟩ a0 s.N.length from rfl,e2]
  show Gv s0 a0 O0 _ (addF x O0.length { s with L:=s.L.tail })
  unfold addF
  rw [if_neg (show ¬(s.O.length<O0.length∨5000000≤s.N.length) by omega)]
  have hd:s.O.drop O0.length=ks:=by rw [hO,List.drop_left]
  have htk:s.O.take O0.length=O0:=by rw [hO,List.take_left]
  refine ⟨⟨?_,?_,h3.tail.tok⟩,s.N.length,by show s.O.take O0.length ++ _=_;rw [htk],?_⟩
  ·show (s.O.take O0.length ++ [(s.N.length:Int)]).length≤(s.N ++ [_]).length
   rw [htk,List.length_append,List.length_append,List.length_singleton,List.length_singleton];omega
  ·show (s.N ++ [_]).length≤5000000
   rw [List.length_append,List.length_singleton];omega
  ·unfold rs
   rw [hd]
 ·rw [word_no hw]
  have e2:=want_no (E:=E) h3 (a0:=a0) (t0:=(s.N.length:Int)) ht hw
  rw [show (⟨s.N ++ [{ x with c:=ks }],s.L,0,a0,s.N.length⟩ : Rs)=rs ⟨s.L,s.N ++ [{ x with c:=ks }],O0 ++ [(s.N.length:Int)]⟩ a0 s.N.length from rfl,e2]
  exact ⟨by decide,_,rfl,rfl,rfl⟩
abbrev Five (t:List UInt8):Prop:=t=[105,102]∨t=[119,104,105,108,101]∨t=[100,111]∨t=[102,111,114]∨t=[115,119,105,116,99,104]
structure SimU (E n:Nat):Prop where
 block:∀ m s a0 t0,4 * n+6≤m→HS s→pot s≤4000000→(pk E s.L).t=[123]→Gv s a0 s.O (runV E m .stmt (rs s a0 t0)) (runU E n .block s)
 action:∀ m s a0 t0,4 * n+6≤m→HS s→pot s≤4000000→Gv s a0 s.O (runV E m .stmt (rs s a0 t0)) (runU E n .action s)
 compound:∀ m s a0 t0,4 * n+6≤m→HS s→pot s≤4000000→Five (pk E s.L).t→Gv s a0 s.O (runV E m .stmt (rs s a0 t0)) (runU E n .compound s)
 body:∀ m s a0 t0,4 * n+6≤m→HS s→pot s≤4000000→Gv s a0 s.O (runV E m .body (rs s a0 t0)) (runU E n .body s)
 braces:∀ m s a0 t0 sw out,4 * n+6≤m→HS s→pot s≤4000000→out.length≤s.O.length→GvL s a0 out (runV E m (.allL sw out) (rs s a0 t0)) (runU E n (.braces sw) s)
 inSwitch:∀ m s a0 t0,4 * n+6≤m→HS s→pot s≤4000000→Gv s a0 s.O (itemV E (runR E (m+6) .expr) (runV E m) true (rs s a0 t0)) (runU E n .inSwitch s)
section step
variable {E n:Nat}(ih:SimU E n)
include ih
theorem all_sim (m:Nat) (s:S3) (a0 t0:Int) (sw:Bool) (hm:4 * n+7≤m) (hs:HS s) (hp:pot s≤4000000):GvL s a0 [] (runV E m (.all sw) (rs s a0 t0)) (runU E n (.braces sw) s):=by
 obtain ⟨k,rfl⟩ : ∃ k,m=k+1:=⟨m-1,by omega⟩
 exact ih.braces k s a0 t0 sw [] (by omega) hs hp (Nat.zero_le _)
theorem simU_braces (m:Nat) (s:S3) (a0 t0:Int) (sw:Bool) (out:List Int) (hm:4 * (n+1)+6≤m) (hs:HS s) (hp:pot s≤4000000) (hout:out.length≤s.O.length) :
  GvL s a0 out (runV E m (.allL sw out) (rs s a0 t0)) (runU E (n+1) (.braces sw) s):=by
 obtain ⟨k,rfl⟩ : ∃ k,m=k+1:=⟨m-1,by omega⟩
 have hi:Gv s a0 s.O (itemV E (runR E (k+6) .expr) (runV E k) sw (rs s a0 t0)) (runU E n (itemU sw) s):=by
  cases sw with
  | true=>exact ih.inSwitch k s a0 t0 (by omega) hs hp
  | false =>
   have e:itemV E (runR E (k+6) .expr) (runV E k) false (rs s a0 t0)=runV E k .stmt (rs s a0 t0):=by simp [itemV]
   rw [e]
   exact ih.action k s a0 t0 (by omega) hs hp
 have hq:Rt (runU E n (itemU sw) s) 4000000:=runU_pot E n _ s _ (by cases sw <;> simp only [itemU,potU,if_true,if_false,Bool.false_eq_true] <;> omega)
 show GvL s a0 out (if (okR (rs s a0 t0) && !isR E [125] (rs s a0 t0))=true then (itemV E (runR E (k+6) .expr) (runV E k) sw (rs s a0 t0)).bind (fun q=>if 6000000≤out.length then none else runV E k (.allL sw (out ++ [q.1.top])) q.1) else some (wantR E [125] (rs s a0 t0),out))
  (if (pk E s.L).t=[125] then .ok { s with L:=s.L.tail } else (runU E n (itemU sw) s).bind (runU E n (.braces sw)))
 have hlen:¬ 6000000≤out.length:=by have:=hs.low;have:=hs.few;omega
 by_cases h:(pk E s.L).t=[125]
 ·rw [if_pos h,is_yes hs (sgn _ (by decide)) h,want_yes hs (sgn _ (by decide)) h,if_neg (by simp)]
  exact ⟨hs.tail,[],t0,by simp,by simp⟩
 ·rw [if_neg h,is_no hs (sgn _ (by decide)) h,if_pos (by rw [ok_rs];rfl)]
  cases hr:runU E n (itemU sw) s with
  | out=>trivial
  | bad c a =>
   rw [hr] at hi
   obtain ⟨hc,r',e,rfl,rfl⟩:=hi
   rw [e]
   refine ⟨hc,(r',out ++ [r'.top]),?_,rfl,rfl⟩
   show (if 6000000≤out.length then none else runV E k (.allL sw (out ++ [r'.top])) r')=_
   rw [if_neg hlen,badV_allL hc (by omega)]
  | ok s1 =>
   rw [hr] at hi hq
   obtain ⟨h1,o1,hO1,e⟩:=hi
   rw [e]
   show GvL s a0 out (if 6000000≤out.length then none else runV E k (.allL sw (out ++ [o1])) (rs s1 a0 o1)) (runU E n (.braces sw) s1)
   rw [if_neg hlen]
   have hg:=ih.braces k s1 a0 o1 sw (out ++ [o1]) (by omega) h1 (hq s1 rfl) (by rw [hO1,List.length_append,List.length_append];simp;exact hout)
   cases hr2:runU E n (.braces sw) s1 with
   | out=>trivial
   | bad c a=>rw [hr2] at hg;exact hg
   | ok s2 =>
    rw [hr2] at hg
    obtain ⟨h2,new,t',hO2,e2⟩:=hg
    refine ⟨h2,o1 :: new,t',?_,?_⟩
    ·rw [hO2,hO1];simp
    ·rw [e2];simp
theorem simU_block (m:Nat) (s:S3) (a0 t0:Int) (hm:4 * (n+1)+6≤m) (hs:HS s) (hp:pot s≤4000000) (ht:(pk E s.L).t=[123]):Gv s a0 s.O (runV E m .stmt (rs s a0 t0)) (runU E (n+1) .block s):=by
 obtain ⟨k,rfl⟩ : ∃ k,m=k+1:=⟨m-1,by omega⟩
 show Gv s a0 s.O (if isR E [123] (rs s a0 t0)=true then (runV E k (.all false) (skipR (rs s a0 t0))).bind (fun q=>alone (addR (mk 11 [] 0 (pk E s.L).a) q.2 q.1)) else _)
  (((wordF E [123] s).bind (runU E n (.braces false))).bind .ok |>.bind (addF (mk 11 [] 0 (pk E s.L).a) s.O.length))
 rw [if_pos (is_yes hs (sgn _ (by decide)) ht),word_yes ht,bindOk,skip_rs,bind_assoc3]
 refine GvL.bindP (all_sim ih k { s with L:=s.L.tail } a0 t0 false (by omega) hs.tail (Int.le_trans (pot_tail_le s s.O) hp)) (k:=4000000) ?_ (fun s1 new t1 h1 hO1 p1=>?_) (fun q hq=>by simp [addR_bad hq,alone])
 ·exact runU_pot E n (.braces false) _ _ (by simp only [potU];exact Int.le_trans (pot_tail_le s s.O) (by omega))
 ·exact add_gv h1 _ (O0:=s.O) (ks:=new) hO1 a0 t1 s
theorem simU_body (m:Nat) (s:S3) (a0 t0:Int) (hm:4 * (n+1)+6≤m) (hs:HS s) (hp:pot s≤4000000):Gv s a0 s.O (runV E m .body (rs s a0 t0)) (runU E (n+1) .body s):=by
 obtain ⟨k,rfl⟩ : ∃ k,m=k+1:=⟨m-1,by omega⟩
 show Gv s a0 s.O (if isR E [123] (rs s a0 t0)=true then (runV E k .stmt (rs s a0 t0)).bind (fun q=>some (q.1,[])) else (runV E k .stmt (rs s a0 t0)).bind (fun q=>alone (addR (mk 11 [] 0 (pk E s.L).a) [q.1.top] q.1)))
  (if (pk E s.L).t=[123] then runU E n .block s else ((runU E n .action s).bind .ok).bind (addF (mk 11 [] 0 (pk E s.L).a) s.O.length))
 by_cases ht:(pk E s.L).t=[123]
 ·rw [if_pos (is_yes hs (sgn _ (by decide)) ht),if_pos ht]
  have h1:=Gv.bind (s2:=s) (O0:=s.O) (f:=.ok) (g:=fun q=>some (q.1,[])) (ih.block k s a0 t0 (by omega) hs hp ht) (fun s2 o2 h2 hO2=>⟨h2,o2,hO2,rfl⟩) (fun r' hr=>rfl)
  have e:(runU E n .block s).bind .ok=runU E n .block s:=by cases runU E n .block s <;> rfl
  rw [e] at h1
  exact h1
 ·rw [if_neg (by rw [is_no hs (sgn _ (by decide)) ht];decide),if_neg ht,bind_assoc3]
  exact Gv.bind (ih.action k s a0 t0 (by omega) hs hp) (fun s2 o2 h2 hO2=>add_gv h2 _ (O0:=s.O) (ks:=[o2]) hO2 a0 o2 s) (fun r' hr=>by simp [addR_bad hr,alone])
theorem simU_inSwitch (m:Nat) (s:S3) (a0 t0:Int) (hm:4 * (n+1)+6≤m) (hs:HS s) (hp:pot s≤4000000):Gv s a0 s.O (itemV E (runR E (m+6) .expr) (runV E m) true (rs s a0 t0)) (runU E (n+1) .inSwitch s):=by
 have hpt:=Int.le_trans (pot_tail_le s s.O) hp
 show Gv s a0 s.O (itemV E (runR E (m+6) .expr) (runV E m) true (rs s a0 t0)) (if (pk E s.L).t=[99,97,115,101] then buildF (mk 19 [] 0 (pk E s.L).a) [wordF E [99,97,115,101],runJ E n .expr,wordF E [58]] s
   else if (pk E s.L).t=[100,101,102,97,117,108,116] then buildF (mk 20 [] 0 (pk E s.L).a) [wordF E [100,101,102,97,117,108,116],wordF E [58]] s else runU E n .action s)
 unfold itemV
 rw [Bool.true_and,Bool.true_and]
 by_cases h1:(pk E s.L).t=[99,97,115,101]
 ·rw [if_pos h1,if_pos (is_yes hs (key _ (by decide)) h1)]
  simp only [buildF,extF,seqF,bind_assoc3,word_yes h1,bindOk,skip_rs]
  refine Gv.bindP (ex_sim (m:=m) (by omega) { s with L:=s.L.tail } a0 t0 hs.tail) (k:=4000000) (rt_expr (by omega)) (fun s2 o2 h2 hO2 p2=>?_) (fun r' hr=>by simp [wantR_bad hr,addR_bad hr,alone])
  exact Gv.word (fun r=>alone (addR (mk 19 [] 0 (pk E s.L).a) [o2] r)) h2 p2 (sgn _ (by decide)) (fun _ h3 _=>add_gv h3 _ (O0:=s.O) (ks:=[o2]) hO2 a0 o2 s) (fun r' hr=>by simp [addR_bad hr,alone])
 ·rw [if_neg h1,if_neg (by rw [is_no hs (key _ (by decide)) h1];decide)]
  by_cases h2:(pk E s.L).t=[100,101,102,97,117,108,116]
  ·rw [if_pos h2,if_pos (is_yes hs (key _ (by decide)) h2)]
   simp only [buildF,extF,seqF,bind_assoc3,word_yes h2,bindOk,skip_rs]
   exact Gv.word (s:={ s with L:=s.L.tail }) (fun r=>alone (addR (mk 20 [] 0 (pk E s.L).a) [] r)) hs.tail hpt (sgn _ (by decide)) (fun _ h3 _=>add_gv h3 _ (O0:=s.O) (ks:=[]) (by simp) a0 t0 s) (fun r' hr=>by simp [addR_bad hr,alone])
  ·rw [if_neg h2,if_neg (by rw [is_no hs (key _ (by decide)) h2];decide)]
   exact ih.action m s a0 t0 (by omega) hs hp
end step
end
section
open Tk (T4)
def startR (E:Nat) (ex:Rs→Option RL) (r:Rs):Option Rs:=if isR E [59] r=true then nothingR E r else if isR E [105,110,116] r=true then declaredR E ex 12 true r else bareR E ex r
def middleR (E:Nat) (ex:Rs→Option RL) (r:Rs):Option Rs:=if isR E [59] r=true then nothingR E r else alsoR ex r
def lastR (E:Nat) (ex:Rs→Option RL) (r:Rs):Option Rs:=if isR E [41] r=true then nothingR E r else bareR E ex r
theorem startR_bad {E m:Nat}{r:Rs}(hr:r.c≠0) (hm:5≤m):startR E (runR E m .expr) r=some r:=by unfold startR;simp [isR_bad hr,badE_bare hr hm]
theorem middleR_bad {E m:Nat}{r:Rs}(hr:r.c≠0) (hm:5≤m):middleR E (runR E m .expr) r=some r:=by unfold middleR;simp [isR_bad hr,badE_also hr hm]
theorem lastR_bad {E m:Nat}{r:Rs}(hr:r.c≠0) (hm:5≤m):lastR E (runR E m .expr) r=some r:=by unfold lastR;simp [isR_bad hr,badE_bare hr hm]
theorem start_sim {E n m:Nat}(h:n≤m) (s:S3) (a0 t0:Int) (hs:HS s):Gv s a0 s.O (alone (startR E (runR E (m+6) .expr) (rs s a0 t0))) (startF E (runJ E n .expr) s):=by
 unfold startR startF unlessF
 by_cases h1:(pk E s.L).t=[59]
 ·rw [if_pos (is_yes hs (sgn _ (by decide)) h1),if_neg (by rw [h1];decide),if_pos h1]
  exact nothing_sim s a0 t0 hs
 ·rw [if_neg (by rw [is_no hs (sgn _ (by decide)) h1];decide),if_neg h1]
  by_cases h2:(pk E s.L).t=[105,110,116]
  ·rw [if_pos (is_yes hs (key _ (by decide)) h2),if_pos h2]
   exact local_sim h hs a0 t0
  ·rw [if_neg (by rw [is_no hs (key _ (by decide)) h2];decide),if_neg h2]
   exact bare_sim h s a0 t0 hs
theorem middle_sim {E n m:Nat}(h:n≤m) (s:S3) (a0 t0:Int) (hs:HS s):Gv s a0 s.O (alone (middleR E (runR E (m+6) .expr) (rs s a0 t0))) (unlessF E [59] (runJ E n .expr) s):=by
 unfold middleR unlessF
 by_cases h1:(pk E s.L).t=[59]
 ·rw [if_pos (is_yes hs (sgn _ (by decide)) h1),if_pos h1]
  exact nothing_sim s a0 t0 hs
 ·rw [if_neg (by rw [is_no hs (sgn _ (by decide)) h1];decide),if_neg h1]
  exact also_sim h s a0 t0 hs
theorem last_sim {E n m:Nat}(h:n≤m) (s:S3) (a0 t0:Int) (hs:HS s):Gv s a0 s.O (alone (lastR E (runR E (m+6) .expr) (rs s a0 t0))) (unlessF E [41] (effectF E (runJ E n .expr)) s):=by
 unfold lastR unlessF
 by_cases h1:(pk E s.L).t=[41]
 ·rw [if_pos (is_yes hs (sgn _ (by decide)) h1),if_pos h1]
  exact nothing_sim s a0 t0 hs
 ·rw [if_neg (by rw [is_no hs (sgn _ (by decide)) h1];decide),if_neg h1]
  exact bare_sim h s a0 t0 hs
theorem rt_start {E n:Nat}{s:S3}{k:Int}(h:pot s≤k-1):Rt (startF E (runJ E n .expr) s) k:=by
 unfold startF
 split
 ·exact rt_local (by omega)
 ·unfold unlessF
  split
  ·exact rt_nothing h
  ·exact rt_effect (by omega)
theorem rt_middle {E n:Nat}{s:S3}{k:Int}(h:pot s≤k-1):Rt (unlessF E [59] (runJ E n .expr) s) k:=by
 unfold unlessF
 split
 ·exact rt_nothing h
 ·exact rt_expr (by omega)
theorem rt_last {E n:Nat}{s:S3}{k:Int}(h:pot s≤k-1):Rt (unlessF E [41] (effectF E (runJ E n .expr)) s) k:=by
 unfold unlessF
 split
 ·exact rt_nothing h
 ·exact rt_effect (by omega)
theorem part_word {E:Nat}{s s2:S3}{a0 k:Int}{O1 O0:List Int}{x:Option Rs}{r:R3}{t:List UInt8}{f:F3}(g:Int→Rs→Option RL) (h:Gv s a0 O1 (alone x) r) (hp:Rt r (k+1)) (ht:SgnKeyL t) (hne:t≠[])
  (hok:∀ s' o',HS s'→s'.O=O1 ++ [o']→pot s'≤k→Gv s2 a0 O0 (g o' (rs s' a0 o')) (f s')) (hbad:∀ o (r':Rs),r'.c≠0→g o r' = some (r',[])) :
  Gv s2 a0 O0 (x.bind fun ra=>g ra.top (wantR E t ra)) (r.bind fun s'=>(wordF E t s').bind f):=by
 refine Gv.bind1P h hp (fun s1 o1 h1 hO1 p1=>?_) (fun r' hr=>by rw [wantR_bad hr,hbad _ _ hr])
 by_cases hw:(pk E s1.L).t=t
 ·rw [word_yes hw,want_yes h1 ht hw]
  have hp2:=pot_tail (E:=E) (s:=s1) (O:=s1.O) (Or.inl (by rw [hw];exact hne))
  have hp3:pot { s1 with L:=s1.L.tail }≤k:=by omega
  exact hok { s1 with L:=s1.L.tail } o1 h1.tail hO1 hp3
 ·rw [word_no hw,want_no h1 ht hw]
  show Gv s2 a0 O0 (g o1 _) _
  rw [hbad _ _ (bad1 _ _ _ _)]
  exact Gv.wrong (s0:=s1) (r':=⟨s1.N,s1.L,1,(pk E s1.L).a,o1⟩) rfl rfl
theorem is_t {E:Nat}{s:S3}(hs:HS s) (a0 t0:Int) {T t:List UInt8}(hT:(pk E s.L).t=T) (ht:SgnKeyL t):isR E t (rs s a0 t0)=decide (T=t):=by rw [is_rs hs a0 t0 ht,hT]
section step
variable {E n:Nat}(ih:SimU E n)
include ih
theorem round_sim (m:Nat) (s:S3) (a0 t0 at':Int) (hm:4 * n+7≤m) (hs:HS s) (hp:pot s≤4000000) :
  Gv s a0 s.O (runV E m (.round at') (rs s a0 t0)) (buildF (mk 17 [] 0 at') [wordF E [40],startF E (runJ E n .expr),wordF E [59],unlessF E [59] (runJ E n .expr),wordF E [59],unlessF E [41] (effectF E (runJ E n .expr)),wordF E [41],runU E n .body] s):=by
 obtain ⟨k,rfl⟩ : ∃ k,m=k+1:=⟨m-1,by omega⟩
 show Gv s a0 s.O ((startR E (runR E (k+6) .expr) (wantR E [40] (rs s a0 t0))).bind fun ra=>(middleR E (runR E (k+6) .expr) (wantR E [59] ra)).bind fun rb=>(lastR E (runR E (k+6) .expr) (wantR E [59] rb)).bind fun rc =>
   (runV E k .body (wantR E [41] rc)).bind fun q=>alone (addR (mk 17 [] 0 at') [ra.top,rb.top,rc.top,q.1.top] q.1)) _
 simp only [buildF,extF,seqF,bind_assoc3,bindOk]
 refine Gv.word (fun r=>(startR E (runR E (k+6) .expr) r).bind fun ra=>(middleR E (runR E (k+6) .expr) (wantR E [59] ra)).bind fun rb=>(lastR E (runR E (k+6) .expr) (wantR E [59] rb)).bind fun rc =>
   (runV E k .body (wantR E [41] rc)).bind fun q=>alone (addR (mk 17 [] 0 at') [ra.top,rb.top,rc.top,q.1.top] q.1)) hs hp (sgn _ (by decide)) (fun hw h1 p1=>?_)
  (fun r' hr=>by simp [startR_bad hr (show 5≤k+6 by omega),middleR_bad hr (show 5≤k+6 by omega),lastR_bad hr (show 5≤k+6 by omega),wantR_bad hr,badV_body hr (show 3≤k by omega),addR_bad hr,alone])
 have hp1:=pot_tail (E:=E) (s:=s) (O:=s.O) (Or.inl (by rw [hw];decide))
 refine part_word (k:=4000000) (fun o r=>(middleR E (runR E (k+6) .expr) r).bind fun rb=>(lastR E (runR E (k+6) .expr) (wantR E [59] rb)).bind fun rc =>
   (runV E k .body (wantR E [41] rc)).bind fun q=>alone (addR (mk 17 [] 0 at') [o,rb.top,rc.top,q.1.top] q.1)) (start_sim (by omega) _ a0 t0 h1) (rt_start (by omega)) (sgn _ (by decide)) (by decide) (fun s2 o2 h2 hO2 p2=>?_)
  (fun o r' hr=>by simp [middleR_bad hr (show 5≤k+6 by omega),lastR_bad hr (show 5≤k+6 by omega),wantR_bad hr,badV_body hr (show 3≤k by omega),addR_bad hr,alone])
 refine part_word (k:=4000000) (fun o r=>(lastR E (runR E (k+6) .expr) r).bind fun rc =>
   (runV E k .body (wantR E [41] rc)).bind fun q=>alone (addR (mk 17 [] 0 at') [o2,o,rc.top,q.1.top] q.1)) (middle_sim (by omega) _ a0 o2 h2) (rt_middle (by omega)) (sgn _ (by decide)) (by decide) (fun s3 o3 h3 hO3 p3=>?_)
  (fun o r' hr=>by simp [lastR_bad hr (show 5≤k+6 by omega),wantR_bad hr,badV_body hr (show 3≤k by omega),addR_bad hr,alone])
 refine part_word (k:=4000000) (fun o r=>(runV E k .body r).bind fun q=>alone (addR (mk 17 [] 0 at') [o2,o3,o,q.1.top] q.1)) (last_sim (by omega) _ a0 o3 h3) (rt_last (by omega)) (sgn _ (by decide)) (by decide) (fun s4 o4 h4 hO4 p4=>?_)
  (fun o r' hr=>by simp [badV_body hr (show 3≤k by omega),addR_bad hr,alone])
 refine Gv.bind (ih.body k s4 a0 o4 (by omega) h4 p4) (fun s5 o5 h5 hO5=>?_) (fun r' hr=>by simp [addR_bad hr,alone])
 have hO2:s2.O=s.O ++ [o2]:=hO2
 exact add_gv h5 _ (O0:=s.O) (ks:=[o2,o3,o4,o5]) (by rw [hO5,hO4,hO3,hO2];simp) a0 o5 s
theorem simU_compound (m:Nat) (s:S3) (a0 t0:Int) (hm:4 * (n+1)+6≤m) (hs:HS s) (hp:pot s≤4000000) (ht:Five (pk E s.L).t):Gv s a0 s.O (runV E m .stmt (rs s a0 t0)) (runU E (n+1) .compound s):=by
 obtain ⟨k,rfl⟩ : ∃ k,m=k+2:=⟨m-2,by omega⟩
 have hpt:=Int.le_trans (pot_tail_le s s.O) hp
 show Gv s a0 s.O (stepV E (runR E (k+1+6) .expr) (fun e=>runR E (k+1+6) (.list e)) (runV E (k+1)) .stmt (rs s a0 t0)) (stepU E n (runU E n) .compound s)
 have i:=fun {T t:List UInt8} (hT:(pk E s.L).t=T) (ht:SgnKeyL t)=>is_t (E:=E) hs a0 t0 hT ht
 rcases ht with ht | ht | ht | ht | ht
 ·-- if
  simp only [stepV,stepU,i ht (sgn [123] (by decide)),i ht (key [105,102] (by decide))]
  rw [if_neg (by decide),if_pos (by decide),if_pos ht]
  simp only [buildF,extF,seqF,bind_assoc3,bindOk,skip_rs]
  refine Gv.bind1P (bracket_sim (by omega) _ a0 t0 hs.tail) (k:=4000000) (rt_cond (by omega)) (fun s2 o2 h2 hO2 p2=>?_) (fun r' hr=>by simp [badV_body hr (show 3≤k+1 by omega),isR_bad hr,addR_bad hr,alone])
  refine Gv.bindP (ih.body _ s2 a0 o2 (by omega) h2 p2) (k:=4000000) (runU_pot E n .body s2 _ (by simp only [potU];omega)) (fun s3 o3 h3 hO3 p3=>?_) (fun r' hr=>by simp [isR_bad hr,addR_bad hr,alone])
  have hO2:s2.O=s.O ++ [o2]:=hO2
  by_cases he:(pk E s3.L).t=[101,108,115,101]
  ·rw [if_pos he,if_pos (is_yes h3 (key _ (by decide)) he),skip_rs]
   refine Gv.bind (ih.body _ _ a0 o3 (by omega) h3.tail (Int.le_trans (pot_tail_le s3 s3.O) p3)) (fun s4 o4 h4 hO4=>?_) (fun r' hr=>by simp [addR_bad hr,alone])
   have hO4:s4.O=s3.O ++ [o4]:=hO4
   exact add_gv h4 _ (O0:=s.O) (ks:=[o2,o3,o4]) (by rw [hO4,hO3,hO2];simp) a0 o4 s
  ·rw [if_neg he,if_neg (by rw [is_no h3 (key _ (by decide)) he];decide),bindOk]
   exact add_gv h3 _ (O0:=s.O) (ks:=[o2,o3]) (by rw [hO3,hO2];simp) a0 o3 s
 ·-- while
  simp only [stepV,stepU,i ht (sgn [123] (by decide)),i ht (key [105,102] (by decide)),i ht (key [119,104,105,108,101] (by decide))]
  rw [if_neg (by decide),if_neg (by decide),if_pos (by decide),if_neg (by rw [ht];decide),if_pos ht]
  simp only [buildF,extF,seqF,bind_assoc3,bindOk,skip_rs]
  refine Gv.bind1P (bracket_sim (by omega) _ a0 t0 hs.tail) (k:=4000000) (rt_cond (by omega)) (fun s2 o2 h2 hO2 p2=>?_) (fun r' hr=>by simp [badV_body hr (show 3≤k+1 by omega),addR_bad hr,alone])
  refine Gv.bind (ih.body _ s2 a0 o2 (by omega) h2 p2) (fun s3 o3 h3 hO3=>?_) (fun r' hr=>by simp [addR_bad hr,alone])
  have hO2:s2.O=s.O ++ [o2]:=hO2
  exact add_gv h3 _ (O0:=s.O) (ks:=[o2,o3]) (by rw [hO3,hO2];simp) a0 o3 s
 ·-- do
  simp only [stepV,stepU,i ht (sgn [123] (by decide)),i ht (key [105,102] (by decide)),i ht (key [119,104,105,108,101] (by decide)),i ht (key [102,111,114] (by decide)),i ht (key [115,119,105,116,99,104] (by decide))]
  rw [if_neg (by decide),if_neg (by decide),if_neg (by decide),if_neg (by decide),if_neg (by decide),if_neg (by rw [ht];decide),if_neg (by rw [ht];decide),if_pos ht]
  show Gv s a0 s.O ((stepV E (runR E (k+6) .expr) (fun e=>runR E (k+6) (.list e)) (runV E k) (.short (pk E s.L).a) (rs s a0 t0)).bind fun q=>some (wantR E [59] q.1,[])) _
  simp only [stepV,i ht (key [100,111] (by decide))]
  rw [if_pos (by decide)]
  simp only [buildF,extF,seqF,bind_assoc3,bindOk,skip_rs,Option.bind_assoc]
  refine Gv.bindP (ih.body _ _ a0 t0 (by omega) hs.tail hpt) (k:=4000000) (runU_pot E n .body _ _ (by simp only [potU];omega)) (fun s2 o2 h2 hO2 p2=>?_) (fun r' hr=>by simp [wantR_bad hr,badE_bracket hr (show 5≤k+6 by omega),addR_bad hr,alone])
  refine Gv.word (fun r=>(bracketR E (runR E (k+6) .expr) r).bind fun rb=>(alone (addR (mk 16 [] 0 (pk E s.L).a) [o2,rb.top] rb)).bind fun q=>some (wantR E [59] q.1,[])) h2 p2 (key _ (by decide)) (fun hw h3 p3=>?_)
   (fun r' hr=>by simp [wantR_bad hr,badE_bracket hr (show 5≤k+6 by omega),addR_bad hr,alone])
  refine Gv.bind1P (bracket_sim (by omega) _ a0 o2 h3) (k:=4000000) (rt_cond (by omega)) (fun s4 o4 h4 hO4 p4=>?_) (fun r' hr=>by simp [wantR_bad hr,addR_bad hr,alone])
  have hO2:s2.O=s.O ++ [o2]:=hO2
  have hO4:s4.O=s2.O ++ [o4]:=hO4
  exact add_word h4 p4 _ (O0:=s.O) (ks:=[o2,o4]) (by rw [hO4,hO2];simp) a0 o4 (sgn _ (by decide)) s
 ·-- for
  simp only [stepV,stepU,i ht (sgn [123] (by decide)),i ht (key [105,102] (by decide)),i ht (key [119,104,105,108,101] (by decide)),i ht (key [102,111,114] (by decide))]
  rw [if_neg (by decide),if_neg (by decide),if_neg (by decide),if_pos (by decide),if_neg (by rw [ht];decide),if_neg (by rw [ht];decide),if_neg (by rw [ht];decide),if_pos ht,skip_rs]
  exact round_sim ih (k+1) { s with L:=s.L.tail } a0 t0 (pk E s.L).a (by omega) hs.tail hpt
 ·-- switch
  simp only [stepV,stepU,i ht (sgn [123] (by decide)),i ht (key [105,102] (by decide)),i ht (key [119,104,105,108,101] (by decide)),i ht (key [102,111,114] (by decide)),i ht (key [115,119,105,116,99,104] (by decide))]
  rw [if_neg (by decide),if_neg (by decide),if_neg (by decide),if_neg (by decide),if_pos (by decide),if_neg (by rw [ht];decide),if_neg (by rw [ht];decide),if_neg (by rw [ht];decide),if_neg (by rw [ht];decide)]
  simp only [buildF,extF,seqF,bind_assoc3,bindOk,skip_rs]
  refine Gv.bind1P (bracket_sim (by omega) _ a0 t0 hs.tail) (k:=4000000) (rt_cond (by omega)) (fun s2 o2 h2 hO2 p2=>?_) (fun r' hr=>by simp [wantR_bad hr,badV_all hr (show 2≤k+1 by omega),addR_bad hr,alone])
  refine Gv.word (fun r=>(runV E (k+1) (.all true) r).bind fun q=>alone (addR (mk 18 [] 0 (pk E s.L).a) (o2 :: q.2) q.1)) h2 p2 (sgn _ (by decide)) (fun hw h3 p3=>?_)
   (fun r' hr=>by simp [badV_all hr (show 2≤k+1 by omega),addR_bad hr,alone])
  refine GvL.bindP (all_sim ih _ _ a0 o2 true (by omega) h3 p3) (k:=4000000) (runU_pot E n (.braces true) _ _ (by simp only [potU];omega)) (fun s4 new t4 h4 hO4 p4=>?_) (fun q hq=>by simp [addR_bad hq,alone])
  have hO2:s2.O=s.O ++ [o2]:=hO2
  have hO4:s4.O=s2.O ++ new:=hO4
  exact add_gv h4 _ (O0:=s.O) (ks:=o2 :: new) (by rw [hO4,hO2];simp) a0 t4 s
theorem simU_action (m:Nat) (s:S3) (a0 t0:Int) (hm:4 * (n+1)+6≤m) (hs:HS s) (hp:pot s≤4000000):Gv s a0 s.O (runV E m .stmt (rs s a0 t0)) (runU E (n+1) .action s):=by
 have hpt:=Int.le_trans (pot_tail_le s s.O) hp
 show Gv s a0 s.O _ (stepU E n (runU E n) .action s)
 simp only [stepU]
 by_cases hb:(pk E s.L).t=[123]
 ·rw [if_pos hb]
  exact ih.block m s a0 t0 (by omega) hs hp hb
 by_cases h5:Five (pk E s.L).t
 ·have hint:¬ (pk E s.L).t=[105,110,116]:=by rcases h5 with h | h | h | h | h <;> rw [h] <;> decide
  rw [if_neg hb,if_neg hint,if_pos h5]
  exact ih.compound m s a0 t0 (by omega) hs hp h5
 obtain ⟨k,rfl⟩ : ∃ k,m=k+2:=⟨m-2,by omega⟩
 obtain ⟨n1,n2,n3,n4,n5⟩ : (pk E s.L).t≠[105,102]∧(pk E s.L).t≠[119,104,105,108,101]∧(pk E s.L).t≠[100,111]∧(pk E s.L).t≠[102,111,114]∧(pk E s.L).t≠[115,119,105,116,99,104] :=
  ⟨fun h=>h5 (Or.inl h),fun h=>h5 (Or.inr (Or.inl h)),fun h=>h5 (Or.inr (Or.inr (Or.inl h))),fun h=>h5 (Or.inr (Or.inr (Or.inr (Or.inl h)))),fun h=>h5 (Or.inr (Or.inr (Or.inr (Or.inr h))))⟩
 rw [if_neg hb,if_neg (c:=Five (pk E s.L).t) h5]
 have e1:runV E (k+2) .stmt (rs s a0 t0)=(stepV E (runR E (k+6) .expr) (fun e=>runR E (k+6) (.list e)) (runV E k) (.short (pk E s.L).a) (rs s a0 t0)).bind fun q=>some (wantR E [59] q.1,[]):=by
  show stepV E (runR E (k+1+6) .expr) (fun e=>runR E (k+1+6) (.list e)) (runV E (k+1)) .stmt (rs s a0 t0)=_
  simp only [stepV,is_no hs (sgn [123] (by decide)) hb,is_no hs (key [105,102] (by decide)) n1,is_no hs (key [119,104,105,108,101] (by decide)) n2,is_no hs (key [102,111,114] (by decide)) n4,is_no hs (key [115,119,105,116,99,104] (by decide)) n5]
  rfl
 rw [e1]
 simp only [stepV,is_no hs (key [100,111] (by decide)) n3]
 rw [if_neg (by decide)]
 by_cases hi:(pk E s.L).t=[105,110,116]
 ·rw [if_pos hi,if_neg (by rw [is_t hs a0 t0 hi (key _ (by decide))];decide),if_neg (by rw [is_t hs a0 t0 hi (key _ (by decide))];decide),if_neg (by rw [is_t hs a0 t0 hi (key _ (by decide))];decide),if_neg (by rw [is_t hs a0 t0 hi (sgn _ (by decide))];decide),if_pos (by rw [is_t hs a0 t0 hi (key _ (by decide))];decide)]
  simp only [seqF]
  refine Gv.bindP (local_sim (by omega) hs a0 t0) (k:=4000000) (rt_local (by omega)) (fun s2 o2 h2 hO2 p2=>?_) (fun r' hr=>by simp [wantR_bad hr])
  exact Gv.word (fun r=>some (r,[])) h2 p2 (sgn _ (by decide)) (fun _ h3 _=>⟨h3,o2,hO2,rfl⟩) (fun r' hr=>rfl)
 rw [if_neg hi]
 by_cases hk:(pk E s.L).t=[98,114,101,97,107]
 ·rw [if_pos hk,if_pos (by rw [is_t hs a0 t0 hk (key _ (by decide))];decide)]
  simp only [buildF,extF,seqF,bind_assoc3,bindOk,skip_rs,word_yes hk]
  exact add_word (s:={ s with L:=s.L.tail }) hs.tail hpt _ (O0:=s.O) (ks:=[]) (by simp) a0 t0 (sgn _ (by decide)) s
 rw [if_neg hk,if_neg (by rw [is_no hs (key _ (by decide)) hk];decide)]
 by_cases hc:(pk E s.L).t=[99,111,110,116,105,110,117,101]
 ·rw [if_pos hc,if_pos (by rw [is_t hs a0 t0 hc (key _ (by decide))];decide)]
  simp only [buildF,extF,seqF,bind_assoc3,bindOk,skip_rs,word_yes hc]
  exact add_word (s:={ s with L:=s.L.tail }) hs.tail hpt _ (O0:=s.O) (ks:=[]) (by simp) a0 t0 (sgn _ (by decide)) s
 rw [if_neg hc,if_neg (by rw [is_no hs (key _ (by decide)) hc];decide)]
 by_cases hr:(pk E s.L).t=[114,101,116,117,114,110]
 ·rw [if_pos hr,if_pos (by rw [is_t hs a0 t0 hr (key _ (by decide))];decide)]
  by_cases hs2:(pk E s.L.tail).t=[59]
  ·rw [if_pos (show isR E [59] (skipR (rs s a0 t0))=true from is_yes (s:={ s with L:=s.L.tail }) hs.tail (sgn _ (by decide)) hs2)]
   have e3:toldF E (runJ E n .expr) { s with L:=s.L.tail }=.ok { s with L:=s.L.tail }:=if_pos hs2
   simp only [buildF,extF,seqF,bind_assoc3,bindOk,skip_rs,word_yes hr,e3]
   exact add_word (s:={ s with L:=s.L.tail }) hs.tail hpt _ (O0:=s.O) (ks:=[]) (by simp) a0 t0 (sgn _ (by decide)) s
  ·rw [if_neg (show ¬ isR E [59] (skipR (rs s a0 t0))=true from by rw [skip_rs,is_no (s:={ s with L:=s.L.tail }) hs.tail (sgn _ (by decide)) hs2];decide),Option.bind_assoc]
   have e3:toldF E (runJ E n .expr) { s with L:=s.L.tail }=runJ E n .expr { s with L:=s.L.tail }:=if_neg hs2
   simp only [buildF,extF,seqF,bind_assoc3,bindOk,skip_rs,word_yes hr,e3]
   refine Gv.bindP (ex_sim (m:=k) (by omega) { s with L:=s.L.tail } a0 t0 hs.tail) (k:=4000000) (rt_expr (by omega)) (fun s2 o2 h2 hO2 p2=>?_) (fun r' hr=>by simp [addR_bad hr,alone,wantR_bad hr])
   exact add_word h2 p2 _ (O0:=s.O) (ks:=[o2]) hO2 a0 o2 (sgn _ (by decide)) s
 rw [if_neg hr,if_neg (by rw [is_no hs (key _ (by decide)) hr];decide)]
 by_cases hsm:(pk E s.L).t=[59]
 ·rw [if_pos hsm,if_pos (by rw [is_t hs a0 t0 hsm (sgn _ (by decide))];decide)]
  simp only [seqF]
  have e2:nothingF E s=addF (mk 24 [] 0 (pk E s.L).a) s.O.length s:=rfl
  rw [e2]
  unfold nothingR
  have hg:=addR_ok hs (mk 24 [] 0 (pk E s.L).a) (O0:=s.O) (ks:=[]) (by simp) a0 t0
  cases ha:addF (mk 24 [] 0 (pk E s.L).a) s.O.length s with
  | out=>trivial
  | bad c a=>rw [ha] at hg;exact hg.elim
  | ok s3 =>
   rw [ha] at hg
   obtain ⟨h3,o3,hO3,e3⟩:=hg
   show Gv s a0 s.O ((alone (addR (mk 24 [] 0 (pk E s.L).a) [] (rs s a0 t0))).bind _) _
   rw [e3]
   exact Gv.word (fun r=>some (r,[])) h3 (Int.le_refl _) (sgn _ (by decide)) (fun _ h4 _=>⟨h4,o3,hO3,rfl⟩) (fun r' hr=>rfl)
 rw [if_neg hsm,if_neg (by rw [is_no hs (sgn _ (by decide)) hsm];decide),if_neg (by rw [is_no hs (key _ (by decide)) hi];decide)]
 simp only [seqF]
 refine Gv.bindP (bare_sim (by omega) s a0 t0 hs) (k:=4000000) (rt_effect (by omega)) (fun s2 o2 h2 hO2 p2=>?_) (fun r' hr=>by simp [wantR_bad hr])
 exact Gv.word (fun r=>some (r,[])) h2 p2 (sgn _ (by decide)) (fun _ h3 _=>⟨h3,o2,hO2,rfl⟩) (fun r' hr=>rfl)
end step
theorem simU (E:Nat):∀ n,SimU E n:=by
 intro n
 induction n with
 | zero=>exact ⟨fun _ _ _ _ _ _ _ _=>trivial,fun _ _ _ _ _ _ _=>trivial,fun _ _ _ _ _ _ _ _=>trivial,fun _ _ _ _ _ _ _=>trivial,fun _ _ _ _ _ _ _ _ _ _=>trivial,fun _ _ _ _ _ _ _=>trivial⟩
 | succ n ih=>exact ⟨simU_block ih,simU_action ih,simU_compound ih,simU_body ih,simU_braces ih,simU_inSwitch ih⟩
end
end Go.Proofs.YtbjacclfhgnffaaGreatDoor
