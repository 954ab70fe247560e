/-
  Joined texts of this claim: Lk, Jv, Ma, Ln, Mg, Lo.
-/
import Derived.Test.YtbjacclfhgnffaaGreatDoorW00
import Derived.Test.YtbjacclfhgnffaaGreatDoorW29
import Derived.Deep.AppendLies
import Derived.Test.YtbjacclfhgnffaaGreatDoorW30
set_option maxHeartbeats 40000000
set_option maxRecDepth 100000
set_option linter.unusedVariables false
set_option linter.unusedSimpArgs false
namespace Go.Proofs.YtbjacclfhgnffaaGreatDoor
section
open Go.RowKit
open Tk (T4 bstr)
open Tr (Nd Blk KidsAt NodeAt ret_bool)
def OwA (A:Nat→Prop) (v:Value) (b:Nat):Prop:=A b∨v.ownBlock=some b
structure Ow (w W:World) (v:Value) (l:List Int):Prop where
 out:W.ownsRow (w.heap.size+2) 3 1 v l.length (intV l)
section
variable {E g n:Nat}{A:Nat→Prop}{w W W':World}{cr cs ct:Array Value}{q q':Rs}{v u x0 x1 x2 x3 x4 x5:Value}{l:List Int}
theorem own_below {base:Nat}{xs:List Value}(h:W.ownsRow base 3 1 v n xs) (hb:Below W.heap.size W W'):W'.ownsRow base 3 1 v n xs :=
 h.kept (row:=none) ⟨hb.os,hb.tape,hb.output,hb.size,fun k hk _=>hb.block k hk⟩ (by cases v.ownBlock <;> simp)
theorem own_st6 {base:Nat}{xs:List Value}(h:W.ownsRow base 3 1 v n xs) (hg:g<base):(st6 W g x0 x1 x2 x3 x4 x5).ownsRow base 3 1 v n xs:=by
 have hgr:W.grownBy (st6 W g x0 x1 x2 x3 x4 x5) (some g):=by
  have hb:Below g W (st6 W g x0 x1 x2 x3 x4 x5):=st6_below (Below.refl _ _) (Nat.le_refl _)
  refine ⟨hb.os,hb.tape,hb.output,hb.size,fun k hk hne=>?_⟩
  have hkg:k≠g:=fun e=>hne (by rw [e])
  unfold st6
  rw [Below.heap_setCell _ _ _ _ hkg,Below.heap_setCell _ _ _ _ hkg,Below.heap_setCell _ _ _ _ hkg,Below.heap_setCell _ _ _ _ hkg,Below.heap_setCell _ _ _ _ hkg,Below.heap_setCell _ _ _ _ hkg]
 refine h.kept hgr ?_
 cases hv:v.ownBlock with
 | none=>exact Or.inl rfl
 | some b =>
  refine Or.inr fun e=>?_
  have:=(h.lt b hv).1
  cases e
  omega
theorem owC (O:Ow w W v l) (b:Below W.heap.size W W'):Ow w W' v l:=⟨own_below O.out b⟩
theorem owA (O:Ow w W v l) (o:Obj):Ow w (W.alloc o) v l:=⟨own_below O.out ((Below.refl _ _).alloc (Nat.le_refl _) o)⟩
theorem owD (O:Ow w W v l):Ow w W.drew v l:=⟨own_below O.out (Below.refl _ _).drew⟩
theorem owR (O:Ow w W v l) (R:Rd E A w W q (.agg #[x0,x1,x2,x3,x4,x5])):Ow w (st6 W w.heap.size x0 x1 x2 x3 x4 x5) v l:=⟨own_st6 O.out (by omega)⟩
theorem owS (O:Ow w W v l) (R:Rd E A w W q (.agg #[x0,x1,x2,x3,x4,x5])):Ow w (st6 W (w.heap.size+1) x0 x1 x2 x3 x4 x5) v l:=⟨own_st6 O.out (by omega)⟩
theorem owB (O:Ow w W v l) (R:Rd E A w W q (.agg #[x0,x1,x2,x3,x4,x5])):Ow w (W.alloc (.cells #[x0,x1,x2,x3,x4,x5] 63)) v l:=owA O _
theorem owN (w W:World):Ow w W (.slice none 0 0) []:=⟨World.ownsRow_nil _ _ _ _⟩
theorem frO (F:Fr A w W cr cs):Fr (OwA A (.slice none 0 0)) w W cr cs:=⟨F.r,F.s,F.x,fun b h=>F.i b (h.resolve_right (by intro e;cases e))⟩
theorem rdO (R:Rd E A w W q u):Rd E (OwA A (.slice none 0 0)) w W q u:=⟨R.out.more fun b _ h=>by
 rcases h with (h | h) | h
 ·exact Or.inl h
 ·cases h
 ·exact Or.inr h⟩
theorem frX (F:Fr (OwA A v) w W cr cs):Fr A w W cr cs:=⟨F.r,F.s,F.x,fun b h=>F.i b (Or.inl h)⟩
theorem rdX (R:Rd E (OwA A v) w W q u):Rd E A w W q u:=⟨R.out.more fun b _ h=>h.imp Or.inl id⟩
theorem lsX (hA:Hid (In A w)) {p:Option Addr}{kl kc:Nat}(O:Ow w W (.slice p kl kc) l):LsAt A W l (.slice p kl kc):=by
 rcases O.out.2 with ⟨hv,h0⟩ | ⟨g,cap,cur,hv,_,_,hc,_⟩
 ·cases hv
  have:l=[]:=List.eq_nil_of_length_eq_zero h0
  subst this
  exact ⟨none,0,rfl,fun h=>absurd h (Nat.lt_irrefl _),Nat.le_refl _⟩
 ·cases hv
  refine ⟨_,_,rfl,fun _=>⟨g,0,rfl,(O.out.lt g rfl).2,fun ha=>?_,fun j hj=>?_⟩,hc⟩
  ·have:=hA.out g ha
   have:=(O.out.lt g rfl).1
   omega
  ·have h1:=O.out.cells (g:=g) rfl j (.int .i64 l[j]) (by unfold intV;simp [hj])
   rw [addr_add] at h1
   exact h1
theorem finL {fn:Func}{a:Act}{p:RL}{kp:Option Addr}{kl kc:Nat}(R:Rd E (OwA A (.slice kp kl kc)) w W p.1 u) (F:Fr (OwA A (.slice kp kl kc)) w W cr cs) (O:Ow w W (.slice kp kl kc) p.2) (hA:Hid (In A w))
  (hr:(results fn a.tmps).run Tryz.prog W=.ok (.tuple #[u,.slice kp kl kc]) W) (hd:a.defers=[]):bodyPost Tryz.prog fn (RlP E A w p) .ret a W:=by
 refine bodyPost_ret hr hd ?_
 have h:=Two.off (rdX R).out
 obtain ⟨pn,ln,cn,pl,ll,cl,c,a,rfl⟩:=h.parts
 exact ⟨pn,ln,cn,pl,ll,cl,c,a,kp,kl,kc,rfl,h,lsX hA O,F.x⟩
theorem apE {ops:Array Oper}{rest:List Oper}{o:Oper}{a:Act}{Q:Exit→Act→World→Prop}{p:Option Addr}{kl kc:Nat}{k:Int}{h:Nat}(F:Fr (OwA A (.slice p kl kc)) w W cr cs) (R:Rd E (OwA A (.slice p kl kc)) w W q u) (O:Ow w W (.slice p kl kc) l) (hl:l.length<6000000) (e:W.heap.size=h)
  (hgd:o.guard=none) (s x:Operand) (ho:o.op=.call { callee:=.builtin .append,args:=#[s,x],argTypes:=#[34,34] }) (hs:a.eval s=.slice p kl kc) (hx:a.eval x=.slice (some ⟨h,0,none⟩) 1 1)
  (K:∀ g cap w',Fr (OwA A (.slice (some ⟨g,0,none⟩) (l.length+1) cap)) w w' cr cs→Rd E (OwA A (.slice (some ⟨g,0,none⟩) (l.length+1) cap)) w w' q u→Ow w w' (.slice (some ⟨g,0,none⟩) (l.length+1) cap) (l ++ [k])→wpList Tryz.prog ops Q rest (a.put o.dst (.slice (some ⟨g,0,none⟩) (l.length+1) cap)) w') :
  wpList Tryz.prog ops Q (o :: rest) a (W.alloc (.cells #[.int .i64 k] 3)):=by
 subst e
 obtain ⟨i0,hi,hz0,hz1,hz2⟩:=info_parts info3
 have hB:=Blk.new W 3 #[.int .i64 k]
 have O1:=own_below O.out ((Below.refl _ _).alloc (Nat.le_refl _) (.cells #[.int .i64 k] 3))
 have hlt:=F.lt
 refine wpList_append_lies _ hgd s x 34 ho (w.heap.size+2) 3 i0 (.int .i64 0) 1 8 Tryz.underlying34 hi hz0 hz1 hz2 rfl (by decide) (.slice p kl kc) l.length (intV l) hs O1 ⟨W.heap.size,0,none⟩ 1 1 [.int .i64 k] hx rfl (World.news_of_block hB) (fun u hu=>by rw [List.mem_singleton] at hu;subst hu;rfl) Nat.one_pos (by unfold maxLen;omega) (by omega)
  (by rw [World.size_alloc];omega) (W.heap.size+1) (World.size_alloc _ _) fun g cap w' hown hg hwh hlt2=>?_
 have hne:∀ b,b<w.heap.size+2→some b≠(Value.slice p kl kc).ownBlock:=fun b hb e=>by have:=(O.out.lt b e.symm).1;omega
 have hsz:W.heap.size+1≤w'.heap.size:=by have:=hg.size;rwa [World.size_alloc] at this
 have hgw:∀ b,A b→b<w'.heap.size:=fun b hb=>by have:=F.i b (Or.inl hb);omega
 refine K g cap w' ⟨(F.r.alloc _).grown hg (hne _ (by omega)),F.s.imp fun _ h=>(h.alloc _).grown hg (hne _ (by omega)),(F.x.alloc F.x.size _).grown hg (by rw [World.size_alloc];have:=F.x.size;omega) (fun k hk=>by have:=(O.out.lt _ hk).1;omega),fun b hb=>?_⟩ ⟨?_⟩ ⟨?_⟩
 ·rcases hb with hb | hb
  ·exact hgw b hb
  ·cases hb;exact hlt2
 ·have h1:RdAt E (fun b=>Two (OwA A (.slice p kl kc)) w.heap.size b∨b=g) W q u:=R.out.more fun b hb ha=>by
   rcases ha with ha | rfl
   ·exact ha
   ·rcases hwh with h2 | h2
    ·exact Or.inl (Or.inr h2)
    ·omega
  have h2:RdAt E (fun b=>Two (OwA A (.slice p kl kc)) w.heap.size b∨b=g) w' q u:=h1.agr ⟨by omega,fun b hb hn=>by
   rw [hg.block b (by rw [World.size_alloc];omega) (fun e=>hn (Or.inl (Or.inl (Or.inr e.symm))))]
   exact Below.heap_alloc _ _ _ hb⟩
  refine h2.more fun b _ ha=>?_
  rcases ha with (ha | ha) | ha
  ·exact Or.inl (Or.inl (Or.inl ha))
  ·cases ha;exact Or.inr rfl
  ·exact Or.inl (Or.inr ha)
 ·rw [List.length_append]
  unfold intV at hown ⊢
  rw [List.map_append];exact hown
end
def Lw_ (E:Nat) (A:Nat→Prop) (w:World) (P:Rs→List Int→Prop) (v:Value) (W:World):Prop:=∃ rho p l m n o s z a out kp kl kc,v=.slice kp kl kc∧P rho out ∧
 Fr (OwA A (.slice kp kl kc)) w W #[.slice p l m,.slice n o s,.int .i64 E,.int .i64 z,.int .i64 a,.int .i64 rho.top] #[.slice none 0 0,.slice none 0 0,.int .i64 0,.int .i64 0,.int .i64 0,.int .i64 0] ∧
 Rd E (OwA A (.slice kp kl kc)) w W rho (.agg #[.slice p l m,.slice n o s,.int .i64 E,.int .i64 z,.int .i64 a,.int .i64 rho.top])∧Ow w W (.slice kp kl kc) out
end
section
open Go.RowKit
open Tk (T4 bstr)
open Tr (Nd Blk KidsAt NodeAt ret_bool)
theorem code_bare (l:List Nd):Tr.codeAt ((l.map bare).map ndOf)=Tr.codeAt l:=by
 rw [List.map_map]
 refine codeAt_map (f:=ndOf ∘ bare) (fun x=>?_) (fun x=>?_) (fun x=>?_) l
 ·show (ndOf (bare x)).k=_;rw [nd_bare]
 ·show (ndOf (bare x)).c=_;rw [nd_bare]
 ·show Tr.fieldC (ndOf (bare x))=_;rw [nd_bare];rfl
theorem Dp_bare (l:List Nd):Tr.Dp ((l.map bare).map ndOf)=Tr.Dp l:=by
 rw [List.map_map]
 refine Dp_map (f:=ndOf ∘ bare) (fun x=>?_) l
 show (ndOf (bare x)).c=_;rw [nd_bare]
theorem done_ok {E j:Nat}{A:Nat→Prop}{w:World}{r:Rs}{v:Value}(h:RdAt E A w r v) (hc:r.c=0) (hL:r.L=[]) (hn:r.N.length=j+1) (hj:j+1≤600) (hcode:∀ i,i≤j→Tr.codeAt (r.N.map ndOf) i=0) (hd:Tr.Dp (r.N.map ndOf) j≤40) :
  Calls Tryz.prog 35 #[v] w fun e w'=>∃ p cap ns,e=.returned (.tuple #[.agg #[.slice p (j+1) cap],.agg #[.int .i64 0,.int .i64 0]])∧NdA A w' p ns∧ns.length=j+1∧ns.map bare=r.N∧j+1≤cap∧(∀ x,x ∈ r.N→x.c.length≤5000000)∧Below w.heap.size w w':=by
 obtain ⟨pn,cn,pl,cl,ns,rfl,h1,h2,h3,h4,h5⟩:=h
 have h:RdAt E A w r (rdV pn r.N.length cn pl r.L.length cl E r.c r.a r.top):=⟨pn,cn,pl,cl,ns,rfl,h1,h2,h3,h4,h5⟩
 have hok:okR r=true:=decide_eq_true hc
 have hokc:=fun w2=>RdAt.okb h hok w2
 have hlen:ns.length=j+1:=by rw [← hn,← h5.2.1,List.length_map]
 have hmap:=h5.2.1
 obtain ⟨b,o,rfl,hb,hnA,hnd⟩:=h5.1.1 (by omega)
 have hkid:=h5.1.tr.2
 have hg:∀ i,i≤j→Tr.codeAt ns i=0:=fun i hi=>by rw [← code_bare ns,hmap];exact hcode i hi
 have hDp:Tr.Dp (r.N.map ndOf) j=Tr.Dp ns j:=by rw [← hmap,Dp_bare]
 have HD:Hid (∀ W,Below w.heap.size w W→Calls Tryz.prog 50 #[.agg #[.slice (some ⟨b,o,none⟩) (j+1) cn],.int .i64 j] W fun e w'=>e=.returned (.int .i64 (Tr.Dp ns j))∧Below W.heap.size W w'):=fun W hW=>by
  have:=Tr.deep_any ns b o cn (by omega) j W (by omega) hg (Nat.lt_of_lt_of_le hb hW.size) (fun i hi=>(hnd i hi).below hW hb) (fun i hi=>(hkid i hi).below hW)
  rw [hlen] at this
  exact this
 rw [hn,hL,hc] at hokc
 rw [hn,hL,hc]
 rw [hDp] at hd
 obtain ⟨d,hdd⟩:=exE (Tr.Dp ns j)
 rw [← hdd] at HD hd
 obtain ⟨ra,hra⟩:=exE (r.a)
 obtain ⟨top,htop⟩:=exE (r.top)
 rw [← hra,← htop] at hokc ⊢
 unfold rdV at hokc ⊢
 have HOK:=Lib.hid hokc
 have hd2:decide ((40:Int)<(d:Int))=false:=by simp;omega
 have HT:Hid (∀ W,Below w.heap.size w W→NdA A W (some ⟨b,o,none⟩) ns):=fun W hW=>h5.1.agr (.below hW)
 have HF:Hid (ns.length=j+1∧ns.map bare=r.N∧j+1≤cn∧∀ x,x ∈ r.N→x.c.length≤5000000):=⟨hlen,hmap,by rw [← hn];exact h5.2.2.1,h5.2.2.2.2.1⟩
 clear h h1 h2 h3 h4 h5 hlen hmap hb hnA hnd hkid hg hDp hdd hra htop hcode hok hokc hn hL hc
 have hj6:(j:Int)+1≤600:=by omega
 go_enter Tryz.func35,Tryz.ntmps35
 go_wp2_with (go_at_call 38;refine (HOK.out _).mono ?_)
 first | rintro e w1 rfl hb1 | rintro e w1 ⟨rfl,hb1⟩
 obtain ⟨B1_1,B2_1,B3_1,HB1⟩:=keep3 hb1
 obtain ⟨r_0,r_1,r_2,r_3,r_4,r_5,r_6⟩:=six B1_1
 obtain ⟨q_0,q_1,q_2⟩:=one1 B2_1
 obtain ⟨s_0,s_1,s_2,s_3,s_4⟩:=two2 B3_1
 go_wp2_with (go_at_call 38;refine (HOK.out _).mono ?_)
 first | rintro e w2 rfl hb2 | rintro e w2 ⟨rfl,hb2⟩
 have B1_2:=B1_1.below hb2 B1_1.lt
 have B2_2:=B2_1.below hb2 B2_1.lt
 have B3_2:=B3_1.below hb2 B3_1.lt
 have HB2:=HB1.trans (hb2.mono HB1.size)
 clear r_0 r_1 r_2 r_3 r_4 r_5 r_6 q_0 q_1 q_2 s_0 s_1 s_2 s_3 s_4
 obtain ⟨r_0,r_1,r_2,r_3,r_4,r_5,r_6⟩:=six B1_2
 obtain ⟨q_0,q_1,q_2⟩:=one1 B2_2
 obtain ⟨s_0,s_1,s_2,s_3,s_4⟩:=two2 B3_2
 have T3:=Blk.new w2 24 #[.slice (some ⟨b,o,none⟩) (j+1) cn]
 have HX2:=HB2.alloc HB2.size (.cells #[.slice (some ⟨b,o,none⟩) (j+1) cn] 24)
 go_wp2_with (go_at_call 50;refine (HD.out _ HX2).mono ?_)
 first | rintro e w3 rfl hb3 | rintro e w3 ⟨rfl,hb3⟩
 have B1_3:=(B1_2.alloc (.cells #[.slice (some ⟨b,o,none⟩) (j+1) cn] 24)).below hb3 (B1_2.alloc _).lt
 have B2_3:=(B2_2.alloc (.cells #[.slice (some ⟨b,o,none⟩) (j+1) cn] 24)).below hb3 (B2_2.alloc _).lt
 have B3_3:=(B3_2.alloc (.cells #[.slice (some ⟨b,o,none⟩) (j+1) cn] 24)).below hb3 (B3_2.alloc _).lt
 have B4_3:=T3.below hb3 T3.lt
 have HB3:=HX2.trans (hb3.mono HX2.size)
 clear r_0 r_1 r_2 r_3 r_4 r_5 r_6 q_0 q_1 q_2 s_0 s_1 s_2 s_3 s_4 hb1 hb2 hb3
 obtain ⟨q_0,q_1,q_2⟩:=one1 B2_3
 obtain ⟨s_0,s_1,s_2,s_3,s_4⟩:=two2 B3_3
 obtain ⟨t_0,t_1,t_2⟩:=one1 B4_3
 go_wp2
 have HBE:Hid (Below w.heap.size w (((w3.setCell ⟨w.heap.size+1,0,none⟩ (.slice (some ⟨b,o,none⟩) (j+1) cn)).setCell ⟨w.heap.size+1+1,0,none⟩ (.int .i64 0)).setCell ⟨w.heap.size+1+1,1,none⟩ (.int .i64 0))) :=
  ((HB3.setCell (p:=⟨w.heap.size+1,0,none⟩) (Nat.le_succ _) _).setCell (p:=⟨w.heap.size+1+1,0,none⟩) (by simp;omega) _).setCell (p:=⟨w.heap.size+1+1,1,none⟩) (by simp;omega) _
 refine bodyPost_ret (v:=.tuple #[.agg #[.slice (some ⟨b,o,none⟩) (j+1) cn],.agg #[.int .i64 0,.int .i64 0]]) (by simp [results,Tryz.results35,go_sem,q_0,q_1,q_2,s_0,s_1,s_2,s_3,s_4]) rfl ?_
 exact ⟨some ⟨b,o,none⟩,cn,ns,rfl,HT.out _ HBE.out,HF.out.1,HF.out.2.1,HF.out.2.2.1,HF.out.2.2.2,HBE.out⟩
theorem done_deep {E j:Nat}{A:Nat→Prop}{w:World}{r:Rs}{v:Value}(h:RdAt E A w r v) (hc:r.c=0) (hL:r.L=[]) (hn:r.N.length=j+1) (hj:j+1≤600) (hcode:∀ i,i≤j→Tr.codeAt (r.N.map ndOf) i=0) (hd:40<Tr.Dp (r.N.map ndOf) j) :
  Calls Tryz.prog 35 #[v] w (DnP none 0 0 10 0 w):=by
 obtain ⟨pn,cn,pl,cl,ns,rfl,h1,h2,h3,h4,h5⟩:=h
 have h:RdAt E A w r (rdV pn r.N.length cn pl r.L.length cl E r.c r.a r.top):=⟨pn,cn,pl,cl,ns,rfl,h1,h2,h3,h4,h5⟩
 have hok:okR r=true:=decide_eq_true hc
 have hokc:=fun w2=>RdAt.okb h hok w2
 have hlen:ns.length=j+1:=by rw [← hn,← h5.2.1,List.length_map]
 have hmap:=h5.2.1
 obtain ⟨b,o,rfl,hb,hnA,hnd⟩:=h5.1.1 (by omega)
 have hkid:=h5.1.tr.2
 have hg:∀ i,i≤j→Tr.codeAt ns i=0:=fun i hi=>by rw [← code_bare ns,hmap];exact hcode i hi
 have hDp:Tr.Dp (r.N.map ndOf) j=Tr.Dp ns j:=by rw [← hmap,Dp_bare]
 have HD:Hid (∀ W,Below w.heap.size w W→Calls Tryz.prog 50 #[.agg #[.slice (some ⟨b,o,none⟩) (j+1) cn],.int .i64 j] W fun e w'=>e=.returned (.int .i64 (Tr.Dp ns j))∧Below W.heap.size W w'):=fun W hW=>by
  have:=Tr.deep_any ns b o cn (by omega) j W (by omega) hg (Nat.lt_of_lt_of_le hb hW.size) (fun i hi=>(hnd i hi).below hW hb) (fun i hi=>(hkid i hi).below hW)
  rw [hlen] at this
  exact this
 rw [hn,hL,hc] at hokc
 rw [hn,hL,hc]
 rw [hDp] at hd
 obtain ⟨d,hdd⟩:=exE (Tr.Dp ns j)
 rw [← hdd] at HD hd
 obtain ⟨ra,hra⟩:=exE (r.a)
 obtain ⟨top,htop⟩:=exE (r.top)
 rw [← hra,← htop] at hokc ⊢
 unfold rdV at hokc ⊢
 have HOK:=Lib.hid hokc
 have hd2:decide ((40:Int)<(d:Int))=true:=by simp;omega
 clear h h1 h2 h3 h4 h5 hlen hmap hb hnA hnd hkid hg hDp hdd hra htop hcode hok hokc hn hL hc
 have hj6:(j:Int)+1≤600:=by omega
 go_enter Tryz.func35,Tryz.ntmps35
 go_wp2_with (go_at_call 38;refine (HOK.out _).mono ?_)
 first | rintro e w1 rfl hb1 | rintro e w1 ⟨rfl,hb1⟩
 obtain ⟨B1_1,B2_1,B3_1,HB1⟩:=keep3 hb1
 obtain ⟨r_0,r_1,r_2,r_3,r_4,r_5,r_6⟩:=six B1_1
 obtain ⟨q_0,q_1,q_2⟩:=one1 B2_1
 obtain ⟨s_0,s_1,s_2,s_3,s_4⟩:=two2 B3_1
 go_wp2_with (go_at_call 38;refine (HOK.out _).mono ?_)
 first | rintro e w2 rfl hb2 | rintro e w2 ⟨rfl,hb2⟩
 have B1_2:=B1_1.below hb2 B1_1.lt
 have B2_2:=B2_1.below hb2 B2_1.lt
 have B3_2:=B3_1.below hb2 B3_1.lt
 have HB2:=HB1.trans (hb2.mono HB1.size)
 clear r_0 r_1 r_2 r_3 r_4 r_5 r_6 q_0 q_1 q_2 s_0 s_1 s_2 s_3 s_4
 obtain ⟨r_0,r_1,r_2,r_3,r_4,r_5,r_6⟩:=six B1_2
 obtain ⟨q_0,q_1,q_2⟩:=one1 B2_2
 obtain ⟨s_0,s_1,s_2,s_3,s_4⟩:=two2 B3_2
 have T3:=Blk.new w2 24 #[.slice (some ⟨b,o,none⟩) (j+1) cn]
 have HX2:=HB2.alloc HB2.size (.cells #[.slice (some ⟨b,o,none⟩) (j+1) cn] 24)
 go_wp2_with (go_at_call 50;refine (HD.out _ HX2).mono ?_)
 first | rintro e w3 rfl hb3 | rintro e w3 ⟨rfl,hb3⟩
 have B1_3:=(B1_2.alloc (.cells #[.slice (some ⟨b,o,none⟩) (j+1) cn] 24)).below hb3 (B1_2.alloc _).lt
 have B2_3:=(B2_2.alloc (.cells #[.slice (some ⟨b,o,none⟩) (j+1) cn] 24)).below hb3 (B2_2.alloc _).lt
 have B3_3:=(B3_2.alloc (.cells #[.slice (some ⟨b,o,none⟩) (j+1) cn] 24)).below hb3 (B3_2.alloc _).lt
 have B4_3:=T3.below hb3 T3.lt
 have HB3:=HX2.trans (hb3.mono HX2.size)
 clear r_0 r_1 r_2 r_3 r_4 r_5 r_6 q_0 q_1 q_2 s_0 s_1 s_2 s_3 s_4 hb1 hb2 hb3
 obtain ⟨q_0,q_1,q_2⟩:=one1 B2_3
 obtain ⟨s_0,s_1,s_2,s_3,s_4⟩:=two2 B3_3
 obtain ⟨t_0,t_1,t_2⟩:=one1 B4_3
 go_wp2_with (go_at_call 47;refine (Tk.fault_any _ _ _).mono ?_)
 first | rintro e w4 rfl rfl | rintro e w4 ⟨rfl,rfl⟩
 have D2:=Lib.hid (B2_3.alloc (.cells #[.int .i64 10,.int .i64 0] 26))
 have D3:=Lib.hid (B3_3.alloc (.cells #[.int .i64 10,.int .i64 0] 26))
 have DX:=Lib.hid (HB3.alloc HB3.size (.cells #[.int .i64 10,.int .i64 0] 26))
 clear q_0 q_1 q_2 s_0 s_1 s_2 s_3 s_4 t_0 t_1 t_2 B1_1 B2_1 B3_1 B1_2 B2_2 B3_2 B1_3 B2_3 B3_3 B4_3 HB1 HB2 HB3 T3 HX2
 generalize w3.alloc (.cells #[.int .i64 10,.int .i64 0] 26)=W at *
 obtain ⟨q_0,q_1,q_2⟩:=one1 D2.out
 obtain ⟨s_0,s_1,s_2,s_3,s_4⟩:=two2 D3.out
 go_wp2
 refine bodyPost_ret (v:=.tuple #[.agg #[.slice none 0 0],.agg #[.int .i64 10,.int .i64 0]]) (by simp [results,Tryz.results35,go_sem,q_0,q_1,q_2,s_0,s_1,s_2,s_3,s_4]) rfl ?_
 refine ⟨rfl,?_⟩
 exact ((DX.out.setCell (p:=⟨w.heap.size+1,0,none⟩) (Nat.le_succ _) _).setCell (p:=⟨w.heap.size+1+1,0,none⟩) (by simp;omega) _).setCell (p:=⟨w.heap.size+1+1,1,none⟩) (by simp;omega) _
end
section
open Go.RowKit
open Tk (T4 bstr)
theorem body_step {E n:Nat}(hst:FnB E 173 #[] (runV E n .stmt)):FnB E 209 #[] (runV E (n+1) .body):=by
 intro A w r q v hA h hf
 have H:Hid (stepV E (runR E (n+6) .expr) (fun e=>runR E (n+6) (.list e)) (runV E n) .body r=some q):=Lib.hid hf
 clear hf
 have f3:=fldT3
 obtain ⟨_,_,_,_,_,_,_,_,rfl⟩:=h.parts
 have F:=frN hA h;have R0:=rdN h
 clear hA h
 go_enter Tryz.func209,Tryz.ntmps209
 by_cases i2:isR E [123] r=true
 ·skip
  replace H:=ifT H i2
  go_wp2_with (go_at_call 69;refine (isC R0 ⟨#[123]⟩ i2).mono ?_)
  rintro e u ⟨rfl,b⟩;replace F:=frC F b;replace R0:=rdC R0 b;clear b
  have c:=F.all
  replace H:=bnd H;obtain ⟨q4,h4,H⟩:=H
  go_wp2_with (go_at_call 173;refine (fbC hst F R0 h4).mono ?_)
  rintro e u ⟨_,_,_,_,_,_,_,_,rfl,R4,b⟩;replace F:=frC F b;replace R0:=rdC R0 b;clear b
  replace c:=F.all
  replace R0:=rdSo R0 R4;replace F:=frS F R4;replace R4:=rdS R4
  obtain rfl:=sm H
  go_wp2
  refine R4.fin F ?_ rfl
  simp [results,Tryz.results209,go_sem,st6,c]
 ·skip
  replace i2:=bfalse i2
  replace H:=ifF H i2
  go_wp2_with (go_at_call 69;refine (isC R0 ⟨#[123]⟩ i2).mono ?_)
  rintro e u ⟨rfl,b⟩;replace F:=frC F b;replace R0:=rdC R0 b;clear b
  have c:=F.all
  go_wp2_with (go_at_call 68;refine (pkC R0).mono ?_)
  rintro e u ⟨k4,x4,y4,t4,rfl,T4,b⟩;replace F:=frC F b;replace R0:=rdC R0 b;clear b
  replace c:=F.all
  replace H:=bnd H;obtain ⟨q5,h5,H⟩:=H
  go_wp2_with (go_at_call 173;refine (fbC hst F R0 h5).mono ?_)
  rintro e u ⟨_,_,_,_,_,_,_,_,rfl,R5,b⟩;replace F:=frC F b;replace R0:=rdC R0 b;clear b
  replace c:=F.all
  clear R0;replace F:=frR F R5;replace R5:=rdR R5
  go_wp2
  replace F:=frD F;replace R5:=rdD R5
  refine rg 7 (S:=fun W=>Q6 _ _ _ _ _ _ _ W) F.held fun hW=>?_
  refine tks hW [0,1,2,3,4] (n:=3) (by kernel_rfl) ?_
  iterate 5 (refine ⟨?_,_,rfl,rfl,fun W hW=>?_,?_⟩;rotate_left;· (simp only [Q6,Q4] at hW;go_simp;(try with_reducible rfl)))
  refine rdy 5 (by kernel_rfl) rfl fun K hK=>?_
  go_simp
  refine (oneC F _).mono ?_
  rintro e u ⟨p6,rfl,L6,b⟩;replace F:=frC F b;replace R5:=rdC R5 b;clear b
  replace c:=F.all
  (try go_wp2_with fail)
  refine hK.out _ _ F.held fun hW=>?_
  clear hK K
  replace H:=aln H;obtain ⟨q7,h7,rfl⟩:=H
  refine rdy 6 (by kernel_rfl) rfl fun K hK=>?_
  go_simp
  refine (adC F R5 L6 11 0 0 _ ⟨#[]⟩ rfl rfl (ta_ T4) h7).mono ?_
  rintro e u ⟨_,_,_,_,_,_,_,_,rfl,R7,b⟩;replace F:=frC F b;clear R5;clear L6;clear b
  replace c:=F.all
  (try go_wp2_with fail)
  refine hK.out _ _ F.held fun hW=>?_
  clear hK K
  refine rdl (by kernel_rfl) (by kernel_rfl) rfl fun K hK=>?_
  go_simp
  replace F:=frS F R7;replace R7:=rdS R7
  refine hK.out _ _ ?_
  clear hK K
  go_wp2
  refine R7.fin F ?_ rfl
  simp [results,Tryz.results209,go_sem,st6,c]
theorem short_step {E n:Nat}(hex:FnB E 34 #[] (runR E (n+6) .expr)) (hbo:FnB E 209 #[] (runV E n .body)) (hde:FnA E 123 #[.int .i64 12,.bool true] (declaredR E (runR E (n+6) .expr) 12 true)) (at':Int):FnB E 211 #[.int .i64 at'] (runV E (n+1) (.short at')):=by
 intro A w r q v hA h hf
 have H:Hid (stepV E (runR E (n+6) .expr) (fun e=>runR E (n+6) (.list e)) (runV E n) (.short at') r=some q):=Lib.hid hf
 clear hf
 have f3:=fldT3
 obtain ⟨_,_,_,_,_,_,_,_,rfl⟩:=h.parts
 have F:=frN hA h;have R0:=rdN h
 clear hA h
 go_enter Tryz.func211,Tryz.ntmps211
 by_cases i2:isR E [100,111] r=true
 ·skip
  replace H:=ifT H i2
  go_wp2_with (go_at_call 69;refine (isC R0 ⟨#[100,111]⟩ i2).mono ?_)
  rintro e u ⟨rfl,b⟩;replace F:=frC F b;replace R0:=rdC R0 b;clear b
  have c:=F.all
  go_wp2_with (go_at_call 70;refine (skC R0).mono ?_)
  rintro e u ⟨_,_,_,_,_,_,_,_,rfl,R4,b⟩;replace F:=frC F b;replace R0:=rdC R0 b;clear b
  replace c:=F.all
  replace H:=bnd H;obtain ⟨q5,h5,H⟩:=H
  go_wp2_with (go_at_call 209;refine (fbC hbo F R4 h5).mono ?_)
  rintro e u ⟨_,_,_,_,_,_,_,_,rfl,R5,b⟩;replace F:=frC F b;clear R4;replace R0:=rdC R0 b;clear b
  replace c:=F.all
  clear R0;replace F:=frR F R5;replace R5:=rdR R5
  go_wp2_with (go_at_call 71;refine (waC R5 ⟨#[119,104,105,108,101]⟩ (l:=[119,104,105,108,101]) rfl).mono ?_)
  rintro e u ⟨_,_,_,_,_,_,_,_,rfl,R6,b⟩;replace F:=frC F b;replace R5:=rdC R5 b;clear b
  replace c:=F.all
  replace H:=bnd H;obtain ⟨q7,h7,H⟩:=H
  go_wp2_with (go_at_call 208;refine (faC (bracket_R hex) F R6 h7).mono ?_)
  rintro e u ⟨_,_,_,_,_,_,_,_,rfl,R7,b⟩;replace F:=frC F b;clear R6;replace R5:=rdC R5 b;clear b
  replace c:=F.all
  clear R5;replace F:=frR F R7;replace R7:=rdR R7
  go_wp2
  replace F:=frD F;replace R7:=rdD R7
  refine rg 8 (S:=fun W=>Q6 _ _ _ _ _ _ _ W) F.held fun hW=>?_
  refine tks hW [0,1,2,3,4,5] (n:=3) (by kernel_rfl) ?_
  iterate 6 (refine ⟨?_,_,rfl,rfl,fun W hW=>?_,?_⟩;rotate_left;· (simp only [Q6,Q4] at hW;go_simp;(try with_reducible rfl)))
  refine rdy 6 (by kernel_rfl) rfl fun K hK=>?_
  go_simp
  refine (twoC F _ _).mono ?_
  rintro e u ⟨p8,rfl,L8,b⟩;replace F:=frC F b;replace R7:=rdC R7 b;clear b
  replace c:=F.all
  (try go_wp2_with fail)
  refine hK.out _ _ F.held fun hW=>?_
  clear hK K
  replace H:=aln H;obtain ⟨q9,h9,rfl⟩:=H
  refine rdy 7 (by kernel_rfl) rfl fun K hK=>?_
  go_simp
  refine (adC F R7 L8 16 0 0 _ ⟨#[]⟩ rfl rfl rfl h9).mono ?_
  rintro e u ⟨_,_,_,_,_,_,_,_,rfl,R9,b⟩;replace F:=frC F b;clear L8;replace R7:=rdC R7 b;clear b
  replace c:=F.all
  (try go_wp2_with fail)
  refine hK.out _ _ F.held fun hW=>?_
  clear hK K
  refine rdl (by kernel_rfl) (by kernel_rfl) rfl fun K hK=>?_
  go_simp
  replace R7:=rdSo R7 R9;replace F:=frS F R9;replace R9:=rdS R9
  refine hK.out _ _ ?_
  clear hK K
  go_wp2
  refine R9.fin F ?_ rfl
  simp [results,Tryz.results211,go_sem,st6,c]
 ·skip
  replace i2:=bfalse i2
  replace H:=ifF H i2
  go_wp2_with (go_at_call 69;refine (isC R0 ⟨#[100,111]⟩ i2).mono ?_)
  rintro e u ⟨rfl,b⟩;replace F:=frC F b;replace R0:=rdC R0 b;clear b
  have c:=F.all
  by_cases i5:isR E [98,114,101,97,107] r=true
  ·skip
   replace H:=ifT H i5
   go_wp2_with (go_at_call 69;refine (isC R0 ⟨#[98,114,101,97,107]⟩ i5).mono ?_)
   rintro e u ⟨rfl,b⟩;replace F:=frC F b;replace R0:=rdC R0 b;clear b
   replace c:=F.all
   go_wp2_with (go_at_call 70;refine (skC R0).mono ?_)
   rintro e u ⟨_,_,_,_,_,_,_,_,rfl,R7,b⟩;replace F:=frC F b;replace R0:=rdC R0 b;clear b
   replace c:=F.all
   replace H:=aln H;obtain ⟨q8,h8,rfl⟩:=H
   go_wp2_with (go_at_call 40;refine (adC F R7 (nilL _ _ _) 21 0 0 _ ⟨#[]⟩ rfl rfl rfl h8).mono ?_)
   rintro e u ⟨p8,_,_,_,_,_,_,_,rfl,R8,b⟩;replace F:=frC F b;clear R7;replace R0:=rdC R0 b;clear b
   replace c:=F.all
   replace R0:=rdSo R0 R8;replace F:=frS F R8;replace R8:=rdS R8
   go_wp2
   refine R8.fin F ?_ rfl
   simp [results,Tryz.results211,go_sem,st6,c]
  ·skip
   replace i5:=bfalse i5
   replace H:=ifF H i5
   go_wp2_with (go_at_call 69;refine (isC R0 ⟨#[98,114,101,97,107]⟩ i5).mono ?_)
   rintro e u ⟨rfl,b⟩;replace F:=frC F b;replace R0:=rdC R0 b;clear b
   replace c:=F.all
   by_cases i8:isR E [99,111,110,116,105,110,117,101] r=true
   ·skip
    replace H:=ifT H i8
    go_wp2_with (go_at_call 69;refine (isC R0 ⟨#[99,111,110,116,105,110,117,101]⟩ i8).mono ?_)
    rintro e u ⟨rfl,b⟩;replace F:=frC F b;replace R0:=rdC R0 b;clear b
    replace c:=F.all
    go_wp2_with (go_at_call 70;refine (skC R0).mono ?_)
    rintro e u ⟨_,_,_,_,_,_,_,_,rfl,R10,b⟩;replace F:=frC F b;replace R0:=rdC R0 b;clear b
    replace c:=F.all
    replace H:=aln H;obtain ⟨q11,h11,rfl⟩:=H
    go_wp2_with (go_at_call 40;refine (adC F R10 (nilL _ _ _) 22 0 0 _ ⟨#[]⟩ rfl rfl rfl h11).mono ?_)
    rintro e u ⟨_,_,_,_,_,_,_,_,rfl,R11,b⟩;replace F:=frC F b;clear R10;replace R0:=rdC R0 b;clear b
    replace c:=F.all
    replace R0:=rdSo R0 R11;replace F:=frS F R11;replace R11:=rdS R11
    go_wp2
    refine R11.fin F ?_ rfl
    simp [results,Tryz.results211,go_sem,st6,c]
   ·skip
    replace i8:=bfalse i8
    replace H:=ifF H i8
    go_wp2_with (go_at_call 69;refine (isC R0 ⟨#[99,111,110,116,105,110,117,101]⟩ i8).mono ?_)
    rintro e u ⟨rfl,b⟩;replace F:=frC F b;replace R0:=rdC R0 b;clear b
    replace c:=F.all
    by_cases i11:isR E [114,101,116,117,114,110] r=true
    ·skip
     replace H:=ifT H i11
     go_wp2_with (go_at_call 69;refine (isC R0 ⟨#[114,101,116,117,114,110]⟩ i11).mono ?_)
     rintro e u ⟨rfl,b⟩;replace F:=frC F b;replace R0:=rdC R0 b;clear b
     replace c:=F.all
     go_wp2_with (go_at_call 70;refine (skC R0).mono ?_)
     rintro e u ⟨_,_,_,_,_,_,_,_,rfl,R13,b⟩;replace F:=frC F b;replace R0:=rdC R0 b;clear b
     replace c:=F.all
     clear R0;replace F:=frR F R13;replace R13:=rdR R13
     by_cases i15:isR E [59] (skipR r)=true
     ·skip
      replace H:=ifT H i15
      go_wp2_with (go_at_call 69;refine (isC R13 ⟨#[59]⟩ i15).mono ?_)
      rintro e u ⟨rfl,b⟩;replace F:=frC F b;replace R13:=rdC R13 b;clear b
      replace c:=F.all
      replace H:=aln H;obtain ⟨q17,h17,rfl⟩:=H
      go_wp2_with (go_at_call 40;refine (adC F R13 (nilL _ _ _) 23 0 0 _ ⟨#[]⟩ rfl rfl rfl h17).mono ?_)
      rintro e u ⟨_,_,_,_,_,_,_,_,rfl,R17,b⟩;replace F:=frC F b;replace R13:=rdC R13 b;clear b
      replace c:=F.all
      replace R13:=rdSo R13 R17;replace F:=frS F R17;replace R17:=rdS R17
      go_wp2
      refine R17.fin F ?_ rfl
      simp [results,Tryz.results211,go_sem,st6,c]
     ·skip
      replace i15:=bfalse i15
      replace H:=ifF H i15
      go_wp2_with (go_at_call 69;refine (isC R13 ⟨#[59]⟩ i15).mono ?_)
      rintro e u ⟨rfl,b⟩;replace F:=frC F b;replace R13:=rdC R13 b;clear b
      replace c:=F.all
      replace H:=bnd H;obtain ⟨q17,h17,H⟩:=H
      go_wp2_with (go_at_call 34;refine (fbC hex F R13 h17).mono ?_)
      rintro e u ⟨_,_,_,_,_,_,_,_,rfl,R17,b⟩;replace F:=frC F b;replace R13:=rdC R13 b;clear b
      replace c:=F.all
      clear R13;replace F:=frR F R17;replace R17:=rdR R17
      go_wp2
      replace F:=frD F;replace R17:=rdD R17
      refine rg 7 (S:=fun W=>Q6 _ _ _ _ _ _ _ W) F.held fun hW=>?_
      refine tks hW [0,1,2,3,4] (n:=3) (by kernel_rfl) ?_
      iterate 5 (refine ⟨?_,_,rfl,rfl,fun W hW=>?_,?_⟩;rotate_left;· (simp only [Q6,Q4] at hW;go_simp;(try with_reducible rfl)))
      refine rdy 5 (by kernel_rfl) rfl fun K hK=>?_
      go_simp
      refine (oneC F _).mono ?_
      rintro e u ⟨p18,rfl,L18,b⟩;replace F:=frC F b;replace R17:=rdC R17 b;clear b
      replace c:=F.all
      (try go_wp2_with fail)
      refine hK.out _ _ F.held fun hW=>?_
      clear hK K
      replace H:=aln H;obtain ⟨q19,h19,rfl⟩:=H
      refine rdy 6 (by kernel_rfl) rfl fun K hK=>?_
      go_simp
      refine (adC F R17 L18 23 0 0 _ ⟨#[]⟩ rfl rfl rfl h19).mono ?_
      rintro e u ⟨_,_,_,_,_,_,_,_,rfl,R19,b⟩;replace F:=frC F b;clear L18;replace R17:=rdC R17 b;clear b
      replace c:=F.all
      (try go_wp2_with fail)
      refine hK.out _ _ F.held fun hW=>?_
      clear hK K
      refine rdl (by kernel_rfl) (by kernel_rfl) rfl fun K hK=>?_
      go_simp
      replace R17:=rdSo R17 R19;replace F:=frS F R19;replace R19:=rdS R19
      refine hK.out _ _ ?_
      clear hK K
      go_wp2
      refine R19.fin F ?_ rfl
      simp [results,Tryz.results211,go_sem,st6,c]
    ·skip
     replace i11:=bfalse i11
     replace H:=ifF H i11
     go_wp2_with (go_at_call 69;refine (isC R0 ⟨#[114,101,116,117,114,110]⟩ i11).mono ?_)
     rintro e u ⟨rfl,b⟩;replace F:=frC F b;replace R0:=rdC R0 b;clear b
     replace c:=F.all
     by_cases i14:isR E [59] r=true
     ·skip
      replace H:=ifT H i14
      go_wp2_with (go_at_call 69;refine (isC R0 ⟨#[59]⟩ i14).mono ?_)
      rintro e u ⟨rfl,b⟩;replace F:=frC F b;replace R0:=rdC R0 b;clear b
      replace c:=F.all
      replace H:=aln H;obtain ⟨q16,h16,rfl⟩:=H
      go_wp2_with (go_at_call 235;refine (faC (nothing_R E) F R0 h16).mono ?_)
      rintro e u ⟨_,_,_,_,_,_,_,_,rfl,R16,b⟩;replace F:=frC F b;replace R0:=rdC R0 b;clear b
      replace c:=F.all
      replace R0:=rdSo R0 R16;replace F:=frS F R16;replace R16:=rdS R16
      go_wp2
      refine R16.fin F ?_ rfl
      simp [results,Tryz.results211,go_sem,st6,c]
     ·skip
      replace i14:=bfalse i14
      replace H:=ifF H i14
      go_wp2_with (go_at_call 69;refine (isC R0 ⟨#[59]⟩ i14).mono ?_)
      rintro e u ⟨rfl,b⟩;replace F:=frC F b;replace R0:=rdC R0 b;clear b
      replace c:=F.all
      by_cases i17:isR E [105,110,116] r=true
      ·skip
       replace H:=ifT H i17
       go_wp2_with (go_at_call 69;refine (isC R0 ⟨#[105,110,116]⟩ i17).mono ?_)
       rintro e u ⟨rfl,b⟩;replace F:=frC F b;replace R0:=rdC R0 b;clear b
       replace c:=F.all
       replace H:=aln H;obtain ⟨q19,h19,rfl⟩:=H
       go_wp2_with (go_at_call 123;refine (faC hde F R0 h19).mono ?_)
       rintro e u ⟨_,_,_,_,_,_,_,_,rfl,R19,b⟩;replace F:=frC F b;replace R0:=rdC R0 b;clear b
       replace c:=F.all
       replace R0:=rdSo R0 R19;replace F:=frS F R19;replace R19:=rdS R19
       go_wp2
       refine R19.fin F ?_ rfl
       simp [results,Tryz.results211,go_sem,st6,c]
      ·skip
       replace i17:=bfalse i17
       replace H:=ifF H i17
       go_wp2_with (go_at_call 69;refine (isC R0 ⟨#[105,110,116]⟩ i17).mono ?_)
       rintro e u ⟨rfl,b⟩;replace F:=frC F b;replace R0:=rdC R0 b;clear b
       replace c:=F.all
       replace H:=aln H;obtain ⟨q19,h19,rfl⟩:=H
       go_wp2_with (go_at_call 236;refine (faC (bare_R hex) F R0 h19).mono ?_)
       rintro e u ⟨_,_,_,_,_,_,_,_,rfl,R19,b⟩;replace F:=frC F b;clear R0;clear b
       replace c:=F.all
       replace F:=frS F R19;replace R19:=rdS R19
       go_wp2
       refine R19.fin F ?_ rfl
       simp [results,Tryz.results211,go_sem,st6,c]
end
section
open Go.RowKit
open Tk (T4 bstr)
open Tr (Nd Blk KidsAt NodeAt ret_bool)
def Ad (A:Nat→Prop) (g:Nat) (b:Nat):Prop:=A b∨b=g
section
variable {E g g' h:Nat}{A:Nat→Prop}{w W W':World}{cr cs ct cb:Array Value}{q q':Rs}{v u x0 x1 x2 x3 x4 x5 y0 y1 y2 y3 y4 y5:Value}{c:List Int}{o:Obj}
theorem Tb.ltE (T:Tb w W g ct) (e:W.heap.size=h):g<h:=by obtain ⟨_,hb⟩:=T.t;exact e ▸ hb.lt
theorem Tb.frz4 (T:Tb w W g #[y0,y1,y2,y3]):W.frozen? ⟨g,0,none⟩=false∧W.frozen? ⟨g,1,none⟩=false∧W.frozen? ⟨g,2,none⟩=false∧W.frozen? ⟨g,3,none⟩=false:=T.t.elim fun _ h=>⟨h.frozen 0,h.frozen 1,h.frozen 2,h.frozen 3⟩
theorem Tb.frz6 (T:Tb w W g #[y0,y1,y2,y3,y4,y5]):W.frozen? ⟨g,0,none⟩=false∧W.frozen? ⟨g,1,none⟩=false∧W.frozen? ⟨g,2,none⟩=false∧W.frozen? ⟨g,3,none⟩=false∧W.frozen? ⟨g,4,none⟩=false∧W.frozen? ⟨g,5,none⟩=false:=T.t.elim fun _ h=>six_f h
theorem lsAdB (L:Ls A w W c v) (R:Rd E A w W q (.agg #[x0,x1,x2,x3,x4,x5])) (e:W.heap.size=g):Ls (Ad A g) w (W.alloc (.cells #[x0,x1,x2,x3,x4,x5] 63)) c v:=lsA ⟨L.out.more fun b hb ha=>by
 rcases ha with (ha | ha) | ha
 ·exact Or.inl ha
 ·omega
 ·exact Or.inr ha⟩ _
theorem frN3 (hA:In A w) (h:RdAt E A w q (.agg #[x0,x1,x2,x3,x4,x5])) (o:Obj):Fr (Ad A (w.heap.size+1+1)) w (((w.alloc (.cells #[x0,x1,x2,x3,x4,x5] 63)).alloc (.cells #[.slice none 0 0,.slice none 0 0,.int .i64 0,.int .i64 0,.int .i64 0,.int .i64 0] 63)).alloc o) #[x0,x1,x2,x3,x4,x5] #[.slice none 0 0,.slice none 0 0,.int .i64 0,.int .i64 0,.int .i64 0,.int .i64 0] :=
 ⟨(frN hA h).r.alloc o,(frN hA h).s.imp fun _ h=>h.alloc o,(frN hA h).x.alloc (frN hA h).x.size o,fun b hb=>by
  simp only [World.size_alloc]
  rcases hb with hb | rfl
  ·have:=hA b hb;omega
  ·omega⟩
theorem frF (hA:In A w) (h:RdAt E A w q (.agg #[x0,x1,x2,x3,x4,x5])) (cn:Array Value) (t:TypeId) (o:Obj):Fr (Ad A (w.heap.size+1+1)) w (((w.alloc (.cells #[x0,x1,x2,x3,x4,x5] 63)).alloc (.cells cn t)).alloc o) #[x0,x1,x2,x3,x4,x5] cn :=
 ⟨((Blk.new _ _ _).alloc _).alloc _,⟨_,(Blk.new1 _ _ _ _).alloc _⟩,(((Below.refl _ _).alloc (Nat.le_refl _) _).alloc (by simp) _).alloc (by simp;omega) _,fun b hb=>by
  simp only [World.size_alloc]
  rcases hb with hb | rfl
  ·have:=hA b hb;omega
  ·omega⟩
theorem rdF (h:RdAt E A w q (.agg #[x0,x1,x2,x3,x4,x5])) (o o':Obj):Rd E (Ad A (w.heap.size+1+1)) w (((w.alloc (.cells #[x0,x1,x2,x3,x4,x5] 63)).alloc o).alloc o') q (.agg #[x0,x1,x2,x3,x4,x5]) :=
 ⟨(Two.at (h.more fun b hb ha=>by rcases ha with ha | rfl;exact ha;omega)).agr ((((Agr.refl _ _).alloc _).alloc _).alloc _)⟩
theorem tbF (w:World) (o o':Obj) (cb:Array Value) (t:TypeId):Tb w (((w.alloc o).alloc o').alloc (.cells cb t)) (w.heap.size+1+1) cb:=by
 have h1:=Blk.new ((w.alloc o).alloc o') t cb
 simp only [World.size_alloc] at h1
 exact ⟨⟨_,h1⟩,Nat.lt_succ_self _⟩
theorem Fr.heldS (F:Fr A w W cr #[x0,x1,x2,x3,x4,x5]):Q6 (w.heap.size+1) x0 x1 x2 x3 x4 x5 W:=F.s.elim fun _ h=>six h
theorem rdN3 (h:RdAt E A w q (.agg #[x0,x1,x2,x3,x4,x5])) (o:Obj):Rd E (Ad A (w.heap.size+1+1)) w (((w.alloc (.cells #[x0,x1,x2,x3,x4,x5] 63)).alloc (.cells #[.slice none 0 0,.slice none 0 0,.int .i64 0,.int .i64 0,.int .i64 0,.int .i64 0] 63)).alloc o) q (.agg #[x0,x1,x2,x3,x4,x5]) :=
 ⟨(Two.at (h.more fun b hb ha=>by rcases ha with ha | rfl;exact ha;omega)).agr ((((Agr.refl _ _).alloc _).alloc _).alloc _)⟩
theorem tbN3 (h:RdAt E A w q (.agg #[x0,x1,x2,x3,x4,x5])) (cb:Array Value) (t:TypeId):Tb w (((w.alloc (.cells #[x0,x1,x2,x3,x4,x5] 63)).alloc (.cells #[.slice none 0 0,.slice none 0 0,.int .i64 0,.int .i64 0,.int .i64 0,.int .i64 0] 63)).alloc (.cells cb t)) (w.heap.size+1+1) cb:=by
 have h1:=Blk.new ((w.alloc (.cells #[x0,x1,x2,x3,x4,x5] 63)).alloc (.cells #[.slice none 0 0,.slice none 0 0,.int .i64 0,.int .i64 0,.int .i64 0,.int .i64 0] 63)) t cb
 simp only [World.size_alloc] at h1
 exact ⟨⟨_,h1⟩,Nat.lt_succ_self _⟩
theorem tbNe (F:Fr A w W cr cs) (k n a:Int) (x:ByteArray) (e:W.heap.size=g):Tb w (W.alloc (.cells #[.int .i64 k,.string x,.int .i64 n,.int .i64 a] 82)) g #[.int .i64 k,.string x,.int .i64 n,.int .i64 a]:=e ▸ tbN F k n a x
theorem t6Ne (F:Fr A w W cr cs) (R:Rd E A w W q (.agg #[x0,x1,x2,x3,x4,x5])) (e:W.heap.size=g):Tb w (W.alloc (.cells #[x0,x1,x2,x3,x4,x5] 63)) g #[x0,x1,x2,x3,x4,x5]:=e ▸ t6N F R
theorem frM (F:Fr (Ad A g) w W cr cs) (n:w.heap.size+1<g) (i:Nat) (y:Value):Fr (Ad A g) w (W.setCell ⟨g,i,none⟩ y) cr cs :=
 ⟨F.r.far (p:=⟨g,i,none⟩) (by show w.heap.size≠g;omega) y,F.s.imp fun _ h=>h.far (p:=⟨g,i,none⟩) (by show w.heap.size+1≠g;omega) y,F.x.trans ((Below.refl _ _).setCell (p:=⟨g,i,none⟩) (by show w.heap.size≤g;omega) y),fun b hb=>by rw [show (W.setCell ⟨g,i,none⟩ y).heap.size=W.heap.size by simp [World.setCell]];exact F.i b hb⟩
theorem rdM (R:Rd E (Ad A g) w W q v) (i:Nat) (y:Value):Rd E (Ad A g) w (W.setCell ⟨g,i,none⟩ y) q v:=⟨R.out.agr ((Agr.refl _ _).setCell (p:=⟨g,i,none⟩) (Or.inl (Or.inr rfl)) y)⟩
theorem tbMo (T:Tb w W g' ct) (n:g'≠g) (i:Nat) (y:Value):Tb w (W.setCell ⟨g,i,none⟩ y) g' ct:=⟨T.t.imp fun _ h=>h.far (p:=⟨g,i,none⟩) n y,T.n⟩
theorem tbM (T:Tb w W g ct) (i:Nat) (y:Value):Tb w (W.setCell ⟨g,i,none⟩ y) g (ct.setIfInBounds i y):=⟨T.t.imp fun _ h=>h.set_ i y,T.n⟩
theorem tbM4 (T:Tb w W g #[y0,y1,y2,y3]) (x0 x1 x2 x3:Value):Tb w ((((W.setCell ⟨g,0,none⟩ x0).setCell ⟨g,1,none⟩ x1).setCell ⟨g,2,none⟩ x2).setCell ⟨g,3,none⟩ x3) g #[x0,x1,x2,x3]:=tbM (tbM (tbM (tbM T 0 x0) 1 x1) 2 x2) 3 x3
theorem frAdB (F:Fr A w W cr cs) (R:Rd E A w W q (.agg #[x0,x1,x2,x3,x4,x5])) (e:W.heap.size=g):Fr (Ad A g) w (W.alloc (.cells #[x0,x1,x2,x3,x4,x5] 63)) cr cs :=
 ⟨F.r.alloc _,F.s.imp fun _ h=>h.alloc _,F.x.alloc F.x.size _,fun b hb=>by
  rw [World.size_alloc]
  rcases hb with hb | rfl
  ·exact Nat.lt_succ_of_lt (F.i b hb)
  ·omega⟩
theorem rd_ad (R:Rd E A w W q v) (e:W.heap.size=g):Rd E (Ad A g) w W q v:=⟨R.out.more fun b hb ha=>by
 rcases ha with (ha | ha) | ha
 ·exact Or.inl ha
 ·omega
 ·exact Or.inr ha⟩
theorem rdAdB (R:Rd E A w W q (.agg #[x0,x1,x2,x3,x4,x5])) (e:W.heap.size=g):Rd E (Ad A g) w (W.alloc (.cells #[x0,x1,x2,x3,x4,x5] 63)) q (.agg #[x0,x1,x2,x3,x4,x5]):=rdB (rd_ad R e)
theorem agQ (W:World) (u g:Nat):Agr (Two (Ad A g) u) W (st6 W g x0 x1 x2 x3 x4 x5):=st6_agr (Agr.refl _ _) (Or.inl (Or.inr rfl))
theorem frQ (F:Fr A w W cr cs) (n:w.heap.size+1<g) (R:Rd E A w W q (.agg #[x0,x1,x2,x3,x4,x5])):Fr A w (st6 W g x0 x1 x2 x3 x4 x5) cr cs:=⟨st6_far F.r (by omega),F.s.imp fun _ h=>st6_far h (by omega),st6_below F.x (by omega),F.i.st6⟩
theorem rdQ (R:Rd E (Ad A g) w W q (.agg #[x0,x1,x2,x3,x4,x5])):Rd E (Ad A g) w (st6 W g x0 x1 x2 x3 x4 x5) q (.agg #[x0,x1,x2,x3,x4,x5]):=⟨R.out.agr (agQ _ _ _)⟩
theorem tbQ (T:Tb w W g #[y0,y1,y2,y3,y4,y5]) (R:Rd E A w W q (.agg #[x0,x1,x2,x3,x4,x5])):Tb w (st6 W g x0 x1 x2 x3 x4 x5) g #[x0,x1,x2,x3,x4,x5]:=⟨T.t.imp fun _ h=>st6_same h,T.n⟩
theorem tbQo (T:Tb w W g' ct) (B:Tb w W g cb) (n:g'≠g) (R:Rd E A w W q (.agg #[x0,x1,x2,x3,x4,x5])):Tb w (st6 W g x0 x1 x2 x3 x4 x5) g' ct:=⟨T.t.imp fun _ h=>st6_far h n,T.n⟩
theorem frOff (F:Fr (Ad A g) w W cr cs):Fr A w W cr cs:=⟨F.r,F.s,F.x,fun b h=>F.i b (Or.inl h)⟩
theorem rdOff (R:Rd E (Ad A g) w W q v):Rd E A w W q v:=⟨R.out.more fun _ _ h=>h.imp Or.inl id⟩
end
def KiP (E:Nat) (A:Nat→Prop) (w:World) (p:Rs × Int) (e:Ending) (w':World):Prop :=
 ∃ pn ln cn pl ll cl c a,e=.returned (.tuple #[.agg #[.slice pn ln cn,.slice pl ll cl,.int .i64 E,.int .i64 c,.int .i64 a,.int .i64 p.1.top],.int .i64 p.2]) ∧
  Hid (RdAt E A w' p.1 (.agg #[.slice pn ln cn,.slice pl ll cl,.int .i64 E,.int .i64 c,.int .i64 a,.int .i64 p.1.top]))∧Below w.heap.size w w'
def FnK (E id:Nat) (ex:Array Value) (f:Rs→Rs × Int):Prop:=∀ (A:Nat→Prop) (w:World) (r:Rs) (v:Value),In A w→RdAt E A w r v→Calls Tryz.prog id (#[v] ++ ex) w (KiP E A w (f r))
def NaP (E:Nat) (A:Nat→Prop) (w:World) (r q:Rs) (e:Ending) (w':World):Prop :=
 ∃ pn ln cn pl ll cl c a k x y t,e=.returned (.tuple #[.agg #[.slice pn ln cn,.slice pl ll cl,.int .i64 E,.int .i64 c,.int .i64 a,.int .i64 q.top],.agg #[.int .i64 k,.string x,.int .i64 y,.int .i64 t]]) ∧
  Hid (RdAt E A w' q (.agg #[.slice pn ln cn,.slice pl ll cl,.int .i64 E,.int .i64 c,.int .i64 a,.int .i64 q.top]))∧Hid (TokIs E r k x y t)∧Below w.heap.size w w'
def FnN (E id:Nat):Prop:=∀ (A:Nat→Prop) (w:World) (r:Rs) (v:Value),In A w→RdAt E A w r v→Calls Tryz.prog id #[v] w (NaP E A w r (nameR E r).1)
def KmP (E:Nat) (A:Nat→Prop) (w w0:World) (p:Rs × Int) (e:Ending) (w':World):Prop :=
 ∃ pn ln cn pl ll cl c a,e=.returned (.tuple #[.agg #[.slice pn ln cn,.slice pl ll cl,.int .i64 E,.int .i64 c,.int .i64 a,.int .i64 p.1.top],.int .i64 p.2]) ∧
  Rd E A w w' p.1 (.agg #[.slice pn ln cn,.slice pl ll cl,.int .i64 E,.int .i64 c,.int .i64 a,.int .i64 p.1.top])∧Below w0.heap.size w0 w'
def NmQ (E:Nat) (A:Nat→Prop) (w w0:World) (r q:Rs) (e:Ending) (w':World):Prop :=
 ∃ pn ln cn pl ll cl c a k x y t,e=.returned (.tuple #[.agg #[.slice pn ln cn,.slice pl ll cl,.int .i64 E,.int .i64 c,.int .i64 a,.int .i64 q.top],.agg #[.int .i64 k,.string x,.int .i64 y,.int .i64 t]]) ∧
  Rd E A w w' q (.agg #[.slice pn ln cn,.slice pl ll cl,.int .i64 E,.int .i64 c,.int .i64 a,.int .i64 q.top])∧Hid (TokIs E r k x y t)∧Below w0.heap.size w0 w'
section
variable {E g:Nat}{A:Nat→Prop}{w W:World}{cr cs:Array Value}{q:Rs}{v:Value}
theorem finK {fn:Func}{a:Act}{k:Int}(R:Rd E A w W q v) (F:Fr A w W cr cs) (hr:(results fn a.tmps).run Tryz.prog W=.ok (.tuple #[v,.int .i64 k]) W) (hd:a.defers=[]):bodyPost Tryz.prog fn (KiP E A w (q,k)) .ret a W:=by
 refine bodyPost_ret hr hd ?_
 have h:=Two.off R.out
 obtain ⟨pn,ln,cn,pl,ll,cl,c,a,rfl⟩:=h.parts
 exact ⟨pn,ln,cn,pl,ll,cl,c,a,rfl,h,F.x⟩
theorem kiC {id:Nat}{ex:Array Value}{f:Rs→Rs × Int}(hf:FnK E id ex f) (F:Fr A w W cr cs) (R:Rd E A w W q v):Calls Tryz.prog id (#[v] ++ ex) W (KmP E A w W (f q)) :=
 (hf _ _ _ _ F.two R.out).mono fun _ _ ⟨pn,ln,cn,pl,ll,cl,c,a,he,hr,hb⟩=>⟨pn,ln,cn,pl,ll,cl,c,a,he,⟨hr.out⟩,hb⟩
theorem naC {id:Nat}(hf:FnN E id) (F:Fr A w W cr cs) (R:Rd E A w W q v):Calls Tryz.prog id #[v] W (NmQ E A w W q (nameR E q).1) :=
 (hf _ _ _ _ F.two R.out).mono fun _ _ ⟨pn,ln,cn,pl,ll,cl,c,a,k,x,y,t,he,hr,ht,hb⟩=>⟨pn,ln,cn,pl,ll,cl,c,a,k,x,y,t,he,⟨hr.out⟩,ht,hb⟩
end
theorem name_tok (E:Nat) (r:Rs):(nameR E r).2=pk E r.L:=by unfold nameR;split <;> rfl
theorem declared_eq (E:Nat) (ex:Rs→Option RL) (kind:Int) (value:Bool) (r:Rs):declaredR E ex kind value r =
  if (value && isR E [61] (nameR E (kindR E false r).1).1)=true then
   (ex (skipR (nameR E (kindR E false r).1).1)).bind fun q=>addR ⟨kind,(pk E (kindR E false r).1.L).t,(kindR E false r).2,0,[],(pk E (kindR E false r).1.L).a⟩ [q.1.top] q.1
  else addR ⟨kind,(pk E (kindR E false r).1.L).t,(kindR E false r).2,0,[],(pk E (kindR E false r).1.L).a⟩ [] (nameR E (kindR E false r).1).1:=by
 unfold declaredR
 rw [name_tok];rfl
end
section
open Go.RowKit
open Tk (T4 bstr)
theorem all_true {E n:Nat}(hex:∀ m,m<n→FnB E 34 #[] (runR E (m+6) .expr)) (hst:∀ m,m<n→FnB E 173 #[] (runV E m .stmt)):FnL E 124 #[.bool true] (runV E (n+1) (.all true)):=by
 intro A w r q v hA h hf
 have H:Hid (runV E n (.allL true []) r=some q):=Lib.hid hf
 clear hf
 have f3:=fldT3
 have HA:=Lib.hid hA
 obtain ⟨_,_,_,_,_,_,_,_,rfl⟩:=h.parts
 have F:=frN hA h;have R0:=rdN h
 clear hA h
 go_enter Tryz.func124,Tryz.ntmps124
 go_wp2
 go_loopg [6] n (fun k vo wr=>k≤n∧Lw_ E A w (fun rho out=>Hid (runV E k (.allL true out) rho=some q)) vo wr)
 case atStart=>exact ⟨Nat.le_refl _,_,_,_,_,_,_,_,_,_,[],none,0,0,rfl,H,frO F,rdO R0,owN _ _⟩
 clear F R0 H
 obtain ⟨hk,rho,p1,l1,m1,n1,o1,s1,z1,a1,out,kp,kl,kc,rfl,H,F,R1,O⟩:=hrel
 cases gk with
 | zero=>cases H.out
 | succ m =>
  have c:=F.all
  by_cases i3:okR rho=true
  ·skip
   go_wp2_with (go_at_call 38;refine (okC R1 i3).mono ?_)
   rintro e u ⟨rfl,b⟩;replace F:=frC F b;replace R1:=rdC R1 b;replace O:=owC O b;clear b
   replace c:=F.all
   by_cases i6:isR E [125] rho=true
   ·skip
    replace H:=ifF H (by rw [i3,i6];rfl)
    go_wp2_with (go_at_call 69;refine (isC R1 ⟨#[125]⟩ i6).mono ?_)
    rintro e u ⟨rfl,b⟩;replace F:=frC F b;replace R1:=rdC R1 b;replace O:=owC O b;clear b
    replace c:=F.all
    go_wp2_with (go_at_call 71;refine (waC R1 ⟨#[125]⟩ (l:=[125]) rfl).mono ?_)
    rintro e u ⟨_,_,_,_,_,_,_,_,rfl,R8,b⟩;replace F:=frC F b;clear R1;replace O:=owC O b;clear b
    replace c:=F.all
    replace O:=owS O R8;replace F:=frS F R8;replace R8:=rdS R8
    obtain rfl:=sm H
    go_wp2
    refine finL (p:=((wantR E [125] rho),_)) R8 F O HA ?_ rfl
    simp [results,Tryz.results124,go_sem,st6,c]
   ·skip
    replace i6:=bfalse i6
    replace H:=ifT H (by rw [i3,i6];rfl)
    go_wp2_with (go_at_call 69;refine (isC R1 ⟨#[125]⟩ i6).mono ?_)
    rintro e u ⟨rfl,b⟩;replace F:=frC F b;replace R1:=rdC R1 b;replace O:=owC O b;clear b
    replace c:=F.all
    go_wp2_with (go_at_call 68;refine (pkC R1).mono ?_)
    rintro e u ⟨k8,x8,y8,t8,rfl,T8,b⟩;replace F:=frC F b;replace R1:=rdC R1 b;replace O:=owC O b;clear b
    replace c:=F.all
    by_cases i10:isR E [99,97,115,101] rho=true
    ·skip
     replace H:=bnd H;obtain ⟨q11,hp,H⟩:=H
     replace hp:=ifT hp (by rw [i10];rfl)
     go_wp2_with (go_at_call 69;refine (isC R1 ⟨#[99,97,115,101]⟩ i10).mono ?_)
     rintro e u ⟨rfl,b⟩;replace F:=frC F b;replace R1:=rdC R1 b;replace O:=owC O b;clear b
     replace c:=F.all
     go_wp2_with (go_at_call 70;refine (skC R1).mono ?_)
     rintro e u ⟨_,_,_,_,_,_,_,_,rfl,R13,b⟩;replace F:=frC F b;replace R1:=rdC R1 b;replace O:=owC O b;clear b
     replace c:=F.all
     replace hp:=bnd hp;obtain ⟨q14,h14,hp⟩:=hp
     go_wp2_with (go_at_call 34;refine (fbC (hex m (by omega)) F R13 h14).mono ?_)
     rintro e u ⟨_,_,_,_,_,_,_,_,rfl,R14,b⟩;replace F:=frC F b;clear R13;replace R1:=rdC R1 b;replace O:=owC O b;clear b
     replace c:=F.all
     clear R1;replace O:=owR O R14;replace F:=frR F R14;replace R14:=rdR R14
     go_wp2_with (go_at_call 71;refine (waC R14 ⟨#[58]⟩ (l:=[58]) rfl).mono ?_)
     rintro e u ⟨_,_,_,_,_,_,_,_,rfl,R15,b⟩;replace F:=frC F b;replace R14:=rdC R14 b;replace O:=owC O b;clear b
     replace c:=F.all
     go_wp2_with (go_at_call 82;refine (oneC F _).mono ?_)
     rintro e u ⟨p16,rfl,L16,b⟩;replace F:=frC F b;replace R14:=rdC R14 b;replace R15:=rdC R15 b;replace O:=owC O b;clear b
     replace c:=F.all
     replace hp:=aln hp;obtain ⟨q17,h17,rfl⟩:=hp;dsimp only at H
     go_wp2_with (go_at_call 40;refine (adC F R15 L16 19 0 0 _ ⟨#[]⟩ rfl rfl (ta_ T8) h17).mono ?_)
     rintro e u ⟨_,_,_,_,_,_,_,_,rfl,R17,b⟩;replace F:=frC F b;clear R15;clear L16;replace R14:=rdC R14 b;replace O:=owC O b;clear b
     replace c:=F.all
     clear R14;replace O:=owR O R17;replace F:=frR F R17;replace R17:=rdR R17
     replace H:=ifN H;obtain ⟨hl,H⟩:=H;replace hl:=Nat.lt_of_not_le hl
     go_wp2_with (at_builtin;refine apE F R17 O hl (h:=u.heap.size) (by simp [st6,World.setCell]) rfl _ _ rfl rfl rfl fun g cap u2 F2 R2 O2=>?_)
     clear F R17 O;have F:=F2;have R17:=R2;have O:=O2;clear F2 R2 O2
     go_wp2
     go_roundg m
     case rel=>exact ⟨by omega,_,_,_,_,_,_,_,_,_,_,_,_,_,rfl,H,F,R17,O⟩
     case measure=>omega
    ·skip
     replace i10:=bfalse i10
     replace H:=bnd H;obtain ⟨q11,hp,H⟩:=H
     replace hp:=ifF hp (by rw [i10];rfl)
     go_wp2_with (go_at_call 69;refine (isC R1 ⟨#[99,97,115,101]⟩ i10).mono ?_)
     rintro e u ⟨rfl,b⟩;replace F:=frC F b;replace R1:=rdC R1 b;replace O:=owC O b;clear b
     replace c:=F.all
     by_cases i14:isR E [100,101,102,97,117,108,116] rho=true
     ·skip
      replace hp:=ifT hp (by rw [i14];rfl)
      go_wp2_with (go_at_call 69;refine (isC R1 ⟨#[100,101,102,97,117,108,116]⟩ i14).mono ?_)
      rintro e u ⟨rfl,b⟩;replace F:=frC F b;replace R1:=rdC R1 b;replace O:=owC O b;clear b
      replace c:=F.all
      go_wp2_with (go_at_call 70;refine (skC R1).mono ?_)
      rintro e u ⟨p16,_,_,_,_,_,_,_,rfl,R16,b⟩;replace F:=frC F b;replace R1:=rdC R1 b;replace O:=owC O b;clear b
      replace c:=F.all
      go_wp2_with (go_at_call 71;refine (waC R16 ⟨#[58]⟩ (l:=[58]) rfl).mono ?_)
      rintro e u ⟨_,_,_,_,_,_,_,_,rfl,R17,b⟩;replace F:=frC F b;clear R16;replace R1:=rdC R1 b;replace O:=owC O b;clear b
      replace c:=F.all
      replace hp:=aln hp;obtain ⟨q18,h18,rfl⟩:=hp;dsimp only at H
      go_wp2_with (go_at_call 40;refine (adC F R17 (nilL _ _ _) 20 0 0 _ ⟨#[]⟩ rfl rfl (ta_ T8) h18).mono ?_)
      rintro e u ⟨_,_,_,_,_,_,_,_,rfl,R18,b⟩;replace F:=frC F b;clear R17;replace R1:=rdC R1 b;replace O:=owC O b;clear b
      replace c:=F.all
      clear R1;replace O:=owR O R18;replace F:=frR F R18;replace R18:=rdR R18
      replace H:=ifN H;obtain ⟨hl,H⟩:=H;replace hl:=Nat.lt_of_not_le hl
      go_wp2_with (at_builtin;refine apE F R18 O hl (h:=u.heap.size) (by simp [st6,World.setCell]) rfl _ _ rfl rfl rfl fun g cap u2 F2 R2 O2=>?_)
      clear F R18 O;have F:=F2;have R18:=R2;have O:=O2;clear F2 R2 O2
      go_wp2
      go_roundg m
      case rel=>exact ⟨by omega,_,_,_,_,_,_,_,_,_,_,_,_,_,rfl,H,F,R18,O⟩
      case measure=>omega
     ·skip
      replace i14:=bfalse i14
      replace hp:=ifF hp (by rw [i14];rfl)
      go_wp2_with (go_at_call 69;refine (isC R1 ⟨#[100,101,102,97,117,108,116]⟩ i14).mono ?_)
      rintro e u ⟨rfl,b⟩;replace F:=frC F b;replace R1:=rdC R1 b;replace O:=owC O b;clear b
      replace c:=F.all
      go_wp2_with (go_at_call 173;refine (fbC (hst m (by omega)) F R1 hp).mono ?_)
      rintro e u ⟨p16,_,_,_,_,_,_,_,rfl,R16,b⟩;replace F:=frC F b;replace R1:=rdC R1 b;replace O:=owC O b;clear b
      replace c:=F.all
      clear R1;replace O:=owR O R16;replace F:=frR F R16;replace R16:=rdR R16
      replace H:=ifN H;obtain ⟨hl,H⟩:=H;replace hl:=Nat.lt_of_not_le hl
      go_wp2_with (at_builtin;refine apE F R16 O hl (h:=u.heap.size) (by simp [st6,World.setCell]) rfl _ _ rfl rfl rfl fun g cap u2 F2 R2 O2=>?_)
      clear F R16 O;have F:=F2;have R16:=R2;have O:=O2;clear F2 R2 O2
      go_wp2
      go_roundg m
      case rel=>exact ⟨by omega,_,_,_,_,_,_,_,_,_,_,_,_,_,rfl,H,F,R16,O⟩
      case measure=>omega
  ·skip
   replace i3:=bfalse i3
   replace H:=ifF H (by rw [i3];rfl)
   go_wp2_with (go_at_call 38;refine (okC R1 i3).mono ?_)
   rintro e u ⟨rfl,b⟩;replace F:=frC F b;replace R1:=rdC R1 b;replace O:=owC O b;clear b
   replace c:=F.all
   go_wp2_with (go_at_call 71;refine (waC R1 ⟨#[125]⟩ (l:=[125]) rfl).mono ?_)
   rintro e u ⟨_,_,_,_,_,_,_,_,rfl,R5,b⟩;replace F:=frC F b;clear R1;replace O:=owC O b;clear b
   replace c:=F.all
   replace O:=owS O R5;replace F:=frS F R5;replace R5:=rdS R5
   obtain rfl:=sm H
   go_wp2
   refine finL (p:=((wantR E [125] rho),_)) R5 F O HA ?_ rfl
   simp [results,Tryz.results124,go_sem,st6,c]
theorem all_false {E n:Nat}(hex:∀ m,m<n→FnB E 34 #[] (runR E (m+6) .expr)) (hst:∀ m,m<n→FnB E 173 #[] (runV E m .stmt)):FnL E 124 #[.bool false] (runV E (n+1) (.all false)):=by
 intro A w r q v hA h hf
 have H:Hid (runV E n (.allL false []) r=some q):=Lib.hid hf
 clear hf
 have f3:=fldT3
 have HA:=Lib.hid hA
 obtain ⟨_,_,_,_,_,_,_,_,rfl⟩:=h.parts
 have F:=frN hA h;have R0:=rdN h
 clear hA h
 go_enter Tryz.func124,Tryz.ntmps124
 go_wp2
 go_loopg [6] n (fun k vo wr=>k≤n∧Lw_ E A w (fun rho out=>Hid (runV E k (.allL false out) rho=some q)) vo wr)
 case atStart=>exact ⟨Nat.le_refl _,_,_,_,_,_,_,_,_,_,[],none,0,0,rfl,H,frO F,rdO R0,owN _ _⟩
 clear F R0 H
 obtain ⟨hk,rho,p1,l1,m1,n1,o1,s1,z1,a1,out,kp,kl,kc,rfl,H,F,R1,O⟩:=hrel
 cases gk with
 | zero=>cases H.out
 | succ m =>
  have c:=F.all
  by_cases i3:okR rho=true
  ·skip
   go_wp2_with (go_at_call 38;refine (okC R1 i3).mono ?_)
   rintro e u ⟨rfl,b⟩;replace F:=frC F b;replace R1:=rdC R1 b;replace O:=owC O b;clear b
   replace c:=F.all
   by_cases i6:isR E [125] rho=true
   ·skip
    replace H:=ifF H (by rw [i3,i6];rfl)
    go_wp2_with (go_at_call 69;refine (isC R1 ⟨#[125]⟩ i6).mono ?_)
    rintro e u ⟨rfl,b⟩;replace F:=frC F b;replace R1:=rdC R1 b;replace O:=owC O b;clear b
    replace c:=F.all
    go_wp2_with (go_at_call 71;refine (waC R1 ⟨#[125]⟩ (l:=[125]) rfl).mono ?_)
    rintro e u ⟨_,_,_,_,_,_,_,_,rfl,R8,b⟩;replace F:=frC F b;clear R1;replace O:=owC O b;clear b
    replace c:=F.all
    replace O:=owS O R8;replace F:=frS F R8;replace R8:=rdS R8
    obtain rfl:=sm H
    go_wp2
    refine finL (p:=((wantR E [125] rho),_)) R8 F O HA ?_ rfl
    simp [results,Tryz.results124,go_sem,st6,c]
   ·skip
    replace i6:=bfalse i6
    replace H:=ifT H (by rw [i3,i6];rfl)
    go_wp2_with (go_at_call 69;refine (isC R1 ⟨#[125]⟩ i6).mono ?_)
    rintro e u ⟨rfl,b⟩;replace F:=frC F b;replace R1:=rdC R1 b;replace O:=owC O b;clear b
    replace c:=F.all
    go_wp2_with (go_at_call 68;refine (pkC R1).mono ?_)
    rintro e u ⟨k8,x8,y8,t8,rfl,T8,b⟩;replace F:=frC F b;replace R1:=rdC R1 b;replace O:=owC O b;clear b
    replace c:=F.all
    replace H:=bnd H;obtain ⟨q10,hp,H⟩:=H
    replace hp:=ifF hp rfl;replace hp:=ifF hp rfl
    go_wp2_with (go_at_call 173;refine (fbC (hst m (by omega)) F R1 hp).mono ?_)
    rintro e u ⟨_,_,_,_,_,_,_,_,rfl,R9,b⟩;replace F:=frC F b;replace R1:=rdC R1 b;replace O:=owC O b;clear b
    replace c:=F.all
    clear R1;replace O:=owR O R9;replace F:=frR F R9;replace R9:=rdR R9
    replace H:=ifN H;obtain ⟨hl,H⟩:=H;replace hl:=Nat.lt_of_not_le hl
    go_wp2_with (at_builtin;refine apE F R9 O hl (h:=u.heap.size) (by simp [st6,World.setCell]) rfl _ _ rfl rfl rfl fun g cap u2 F2 R2 O2=>?_)
    clear F R9 O;have F:=F2;have R9:=R2;have O:=O2;clear F2 R2 O2
    go_wp2
    go_roundg m
    case rel=>exact ⟨by omega,_,_,_,_,_,_,_,_,_,_,_,_,_,rfl,H,F,R9,O⟩
    case measure=>omega
  ·skip
   replace i3:=bfalse i3
   replace H:=ifF H (by rw [i3];rfl)
   go_wp2_with (go_at_call 38;refine (okC R1 i3).mono ?_)
   rintro e u ⟨rfl,b⟩;replace F:=frC F b;replace R1:=rdC R1 b;replace O:=owC O b;clear b
   replace c:=F.all
   go_wp2_with (go_at_call 71;refine (waC R1 ⟨#[125]⟩ (l:=[125]) rfl).mono ?_)
   rintro e u ⟨_,_,_,_,_,_,_,_,rfl,R5,b⟩;replace F:=frC F b;clear R1;replace O:=owC O b;clear b
   replace c:=F.all
   replace O:=owS O R5;replace F:=frS F R5;replace R5:=rdS R5
   obtain rfl:=sm H
   go_wp2
   refine finL (p:=((wantR E [125] rho),_)) R5 F O HA ?_ rfl
   simp [results,Tryz.results124,go_sem,st6,c]
end
section
open Go.RowKit
open Tk (T4 bstr)
open Tr (Nd Blk KidsAt NodeAt ret_bool)
structure Lt0 (v:Value) (g:Nat):Prop where
 out:∀ b,v.ownBlock=some b→g<b
structure Gw (W W':World) (v:Value):Prop where
 out:W.grownBy W' v.ownBlock
section
variable {E g g' n h:Nat}{A:Nat→Prop}{w W W':World}{cr cs ct:Array Value}{q q':Rs}{v u x0 x1 x2 x3 x4 x5:Value}{l:List Int}
theorem lt0N (g:Nat):Lt0 (.slice none 0 0) g:=⟨fun b h=>by cases h⟩
theorem Lt0.ne (D:Lt0 v g):v.ownBlock≠some g:=fun e=>Nat.lt_irrefl _ (D.out g e)
theorem Ow.ne (O:Ow w W v l) (e:W.heap.size=g):v.ownBlock≠some g:=fun k=>by have:=(O.out.lt g k).2;omega
theorem tbG (T:Tb w W g ct) (G:Gw W W' v) (k:v.ownBlock≠some g):Tb w W' g ct:=⟨T.t.imp fun _ j=>j.grown G.out (fun e=>k e.symm),T.n⟩
theorem owM (O:Ow w W v l) (e:v.ownBlock≠some g) (R:Rd E A w W q (.agg #[x0,x1,x2,x3,x4,x5])):Ow w (st6 W g x0 x1 x2 x3 x4 x5) v l:=⟨by
 have hgr:W.grownBy (st6 W g x0 x1 x2 x3 x4 x5) (some g):=by
  have hb:Below g W (st6 W g x0 x1 x2 x3 x4 x5):=st6_below (Below.refl _ _) (Nat.le_refl _)
  refine ⟨hb.os,hb.tape,hb.output,hb.size,fun k hk hne=>?_⟩
  have hkg:k≠g:=fun e=>hne (by rw [e])
  unfold st6
  rw [Below.heap_setCell _ _ _ _ hkg,Below.heap_setCell _ _ _ _ hkg,Below.heap_setCell _ _ _ _ hkg,Below.heap_setCell _ _ _ _ hkg,Below.heap_setCell _ _ _ _ hkg,Below.heap_setCell _ _ _ _ hkg]
 refine O.out.kept hgr ?_
 cases hv:v.ownBlock with
 | none=>exact Or.inl rfl
 | some b=>exact Or.inr (fun k=>e (hv.trans k))⟩
theorem apN {p:Option Addr}{kl kc:Nat}(F:Fr (OwA A (.slice p kl kc)) w W cr cs) (R:Rd E (OwA A (.slice p kl kc)) w W q u) (O:Ow w W (.slice p kl kc) l) (hl:l.length≤7000000) (k:Int) (e:W.heap.size=h) :
  ∃ g cap w',(Builtin.append_ #[34,34] 34 #[.slice p kl kc,.slice (some ⟨h,0,none⟩) 1 1]).run Tryz.prog (W.alloc (.cells #[.int .i64 k] 3))=.ok (.slice (some ⟨g,0,none⟩) (l.length+1) cap) w' ∧
   Fr (OwA A (.slice (some ⟨g,0,none⟩) (l.length+1) cap)) w w' cr cs∧Rd E (OwA A (.slice (some ⟨g,0,none⟩) (l.length+1) cap)) w w' q u∧Ow w w' (.slice (some ⟨g,0,none⟩) (l.length+1) cap) (l ++ [k]) ∧
   Gw (W.alloc (.cells #[.int .i64 k] 3)) w' (.slice p kl kc)∧(∀ g0,g0<W.heap.size→Lt0 (.slice p kl kc) g0→Lt0 (.slice (some ⟨g,0,none⟩) (l.length+1) cap) g0):=by
 subst e
 obtain ⟨i0,hi,hz0,hz1,hz2⟩:=info_parts info3
 have hB:=Blk.new W 3 #[.int .i64 k]
 have O1:=own_below O.out ((Below.refl _ _).alloc (Nat.le_refl _) (.cells #[.int .i64 k] 3))
 have hlt:=F.lt
 obtain ⟨g,cap,w',hr,hown,hg,hwh,hlt2⟩:=run_append_lies (P:=Tryz.prog) _ 34 34 (w.heap.size+2) 3 i0 (.int .i64 0) 1 8 Tryz.underlying34 hi hz0 hz1 hz2 rfl (by decide) (.slice p kl kc) l.length (intV l) O1 ⟨W.heap.size,0,none⟩ 1 1 [.int .i64 k] rfl (World.news_of_block hB) (fun u hu=>by rw [List.mem_singleton] at hu;subst hu;rfl) Nat.one_pos (by unfold maxLen;omega) (by omega)
  (by rw [World.size_alloc];omega) (W.heap.size+1) (World.size_alloc _ _)
 have hne:∀ b,b<w.heap.size+2→some b≠(Value.slice p kl kc).ownBlock:=fun b hb e=>by have:=(O.out.lt b e.symm).1;omega
 have hsz:W.heap.size+1≤w'.heap.size:=by have:=hg.size;rwa [World.size_alloc] at this
 have hgw:∀ b,A b→b<w'.heap.size:=fun b hb=>by have:=F.i b (Or.inl hb);omega
 refine ⟨g,cap,w',hr,⟨(F.r.alloc _).grown hg (hne _ (by omega)),F.s.imp fun _ h=>(h.alloc _).grown hg (hne _ (by omega)),(F.x.alloc F.x.size _).grown hg (by rw [World.size_alloc];have:=F.x.size;omega) (fun k hk=>by have:=(O.out.lt _ hk).1;omega),fun b hb=>?_⟩,⟨?_⟩,⟨?_⟩,⟨hg⟩,fun g0 h0 D=>⟨fun b hb=>?_⟩⟩
 ·rcases hb with hb | hb
  ·exact hgw b hb
  ·cases hb;exact hlt2
 ·have h1:RdAt E (fun b=>Two (OwA A (.slice p kl kc)) w.heap.size b∨b=g) W q u:=R.out.more fun b hb ha=>by
   rcases ha with ha | rfl
   ·exact ha
   ·rcases hwh with h2 | h2
    ·exact Or.inl (Or.inr h2)
    ·omega
  have h2:RdAt E (fun b=>Two (OwA A (.slice p kl kc)) w.heap.size b∨b=g) w' q u:=h1.agr ⟨by omega,fun b hb hn=>by
   rw [hg.block b (by rw [World.size_alloc];omega) (fun e=>hn (Or.inl (Or.inl (Or.inr e.symm))))]
   exact Below.heap_alloc _ _ _ hb⟩
  refine h2.more fun b _ ha=>?_
  rcases ha with (ha | ha) | ha
  ·exact Or.inl (Or.inl (Or.inl ha))
  ·cases ha;exact Or.inr rfl
  ·exact Or.inl (Or.inr ha)
 ·rw [List.length_append]
  unfold intV at hown ⊢
  rw [List.map_append];exact hown
 ·obtain rfl:g=b:=Option.some.inj hb
  rcases hwh with h2 | h2
  ·exact D.out _ h2
  ·omega
theorem lsXd (hA:Hid (In A w)) {p:Option Addr}{kl kc:Nat}(O:Ow w W (.slice p kl kc) l) (D:Lt0 (.slice p kl kc) g):Ls (Ad A g) w W l (.slice p kl kc):=⟨by
 rcases O.out.2 with ⟨hv,h0⟩ | ⟨b,cap,cur,hv,_,_,hc,_⟩
 ·cases hv
  have:l=[]:=List.eq_nil_of_length_eq_zero h0
  subst this
  exact ⟨none,0,rfl,fun h=>absurd h (Nat.lt_irrefl _),Nat.le_refl _⟩
 ·cases hv
  refine ⟨_,_,rfl,fun _=>⟨b,0,rfl,(O.out.lt b rfl).2,fun ha=>?_,fun j hj=>?_⟩,hc⟩
  ·have h1:=(O.out.lt b rfl).1
   have h2:=D.out b rfl
   rcases ha with (ha | ha) | ha | ha
   ·have:=hA.out b ha
    omega
   ·omega
   ·omega
   ·omega
  ·have h1:=O.out.cells (g:=b) rfl j (.int .i64 l[j]) (by unfold intV;simp [hj])
   rw [addr_add] at h1
   exact h1⟩
theorem swFr (F:Fr (Ad (OwA A v) g) w W cr cs):Fr (OwA (Ad A g) v) w W cr cs:=⟨F.r,F.s,F.x,fun b k=>F.i b (k.elim (fun k=>k.elim (fun k=>Or.inl (Or.inl k)) Or.inr) (fun k=>Or.inl (Or.inr k)))⟩
theorem swL (L:Ls (Ad (OwA A v) g) w W l u):Ls (OwA (Ad A g) v) w W l u:=⟨L.out.more fun b _ k=>by
 exact k.elim (fun k=>k.elim (fun k=>k.elim (fun k=>Or.inl (Or.inl (Or.inl k))) (fun k=>Or.inl (Or.inr k))) (fun k=>Or.inl (Or.inl (Or.inr k)))) Or.inr⟩
theorem rdQw (R:Rd E (OwA (Ad A g) v) w W q (.agg #[x0,x1,x2,x3,x4,x5])):Rd E (OwA (Ad A g) v) w (st6 W g x0 x1 x2 x3 x4 x5) q (.agg #[x0,x1,x2,x3,x4,x5]):=⟨R.out.agr (st6_agr (Agr.refl _ _) (Or.inl (Or.inl (Or.inr rfl))))⟩
theorem swR (R:Rd E (Ad (OwA A v) g) w W q u):Rd E (OwA (Ad A g) v) w W q u:=⟨R.out.more fun b _ k=>by
 exact k.elim (fun k=>k.elim (fun k=>k.elim (fun k=>Or.inl (Or.inl (Or.inl k))) (fun k=>Or.inl (Or.inr k))) (fun k=>Or.inl (Or.inl (Or.inr k)))) Or.inr⟩
end
def LwF (E:Nat) (A:Nat→Prop) (w:World) (g:Nat) (cs ct:Array Value) (P:Rs→List Int→Prop) (v:Value) (W:World):Prop:=∃ rho p l m n o s z a out kp kl kc,v=.slice kp kl kc∧P rho out ∧
 Fr (OwA (Ad A g) (.slice kp kl kc)) w W #[.slice p l m,.slice n o s,.int .i64 E,.int .i64 z,.int .i64 a,.int .i64 rho.top] cs ∧
 Rd E (OwA (Ad A g) (.slice kp kl kc)) w W rho (.agg #[.slice p l m,.slice n o s,.int .i64 E,.int .i64 z,.int .i64 a,.int .i64 rho.top])∧Ow w W (.slice kp kl kc) out∧Tb w W g ct∧Lt0 (.slice kp kl kc) g
end
end Go.Proofs.YtbjacclfhgnffaaGreatDoor
