/-
  Joined texts of this claim: Mk.
-/
import Derived.Test.YtbjacclfhgnffaaGreatDoorW00
import Derived.Test.YtbjacclfhgnffaaGreatDoorW31
import Derived.Test.YtbjacclfhgnffaaGreatDoorW36
import Derived.Test.YtbjacclfhgnffaaGreatDoorW35
set_option maxHeartbeats 40000000
set_option maxRecDepth 100000
set_option linter.unusedVariables false
set_option linter.unusedSimpArgs false
namespace Go.Proofs.YtbjacclfhgnffaaGreatDoor
section
open Go.RowKit
open Tk (T4 SR bstr)
open Tr (Nd Blk KidsAt NodeAt ret_bool)
def Aa (u g:Nat) (b:Nat):Prop:=Ae u b∨b=g
structure Un (E:Nat) (w W:World) (g:Nat) (rho:Rs) (x0 x1 x2 x3 x4 x5 v:Value) (l:List Int):Prop where
 b1:Blk W w.heap.size 24 #[.slice none 0 0]
 b2:Blk W (w.heap.size+1) 26 #[.int .i64 0,.int .i64 0]
 b3:Blk W g 63 #[x0,x1,x2,x3,x4,x5]
 x:Below w.heap.size w W
 lt:w.heap.size+1<g
 r:RdAt E (OwA (Aa w.heap.size g) v) W rho (.agg #[x0,x1,x2,x3,x4,x5])
 o:W.ownsRow (g+1) 3 1 v l.length (intV l)
section
variable {E g h:Nat}{w W W':World}{rho rho':Rs}{x0 x1 x2 x3 x4 x5 y0 y1 y2 y3 y4 y5 v u:Value}{l:List Int}
theorem unC (U:Un E w W g rho x0 x1 x2 x3 x4 x5 v l) (b:Below W.heap.size W W'):Un E w W' g rho x0 x1 x2 x3 x4 x5 v l :=
 ⟨U.b1.below b U.b1.lt,U.b2.below b U.b2.lt,U.b3.below b U.b3.lt,U.x.trans (b.mono U.x.size),U.lt,U.r.agr (.below b),own_below U.o b⟩
theorem unS (U:Un E w W g rho x0 x1 x2 x3 x4 x5 v l) (R:RdAt E (OwA (Aa w.heap.size g) v) W rho' (.agg #[y0,y1,y2,y3,y4,y5])):Un E w (st6 W g y0 y1 y2 y3 y4 y5) g rho' y0 y1 y2 y3 y4 y5 v l :=
 ⟨st6_far U.b1 (by have:=U.lt;omega),st6_far U.b2 (by have:=U.lt;omega),st6_same U.b3,st6_below U.x (by have:=U.lt;omega),U.lt,R.agr (st6_agr (Agr.refl _ _) (Or.inl (Or.inr rfl))),own_st6 U.o (Nat.lt_succ_self g)⟩
theorem unI (U:Un E w W g rho x0 x1 x2 x3 x4 x5 v l):In (OwA (Aa w.heap.size g) v) W:=fun b hb=>by
 have h1:=U.b1.lt
 have h2:=U.b2.lt
 have h3:=U.b3.lt
 rcases hb with (hb | hb) | hb
 ·rcases hb with rfl | rfl <;> omega
 ·omega
 ·exact (U.o.lt b hb).2
theorem unA (U:Un E w W g rho x0 x1 x2 x3 x4 x5 v l):(W.cell? ⟨g,0,none⟩=some x0∧W.cell? ⟨g,1,none⟩=some x1∧W.cell? ⟨g,2,none⟩=some x2∧W.cell? ⟨g,3,none⟩=some x3∧W.cell? ⟨g,4,none⟩=some x4∧W.cell? ⟨g,5,none⟩=some x5∧g<W.heap.size) ∧
  W.frozen? ⟨g,0,none⟩=false∧W.frozen? ⟨g,1,none⟩=false∧W.frozen? ⟨g,2,none⟩=false∧W.frozen? ⟨g,3,none⟩=false∧W.frozen? ⟨g,4,none⟩=false∧W.frozen? ⟨g,5,none⟩=false:=⟨six U.b3,six_f U.b3⟩
theorem unN {p:Option Addr}{kl kc:Nat}(U:Un E w W g rho x0 x1 x2 x3 x4 x5 (.slice p kl kc) l) (hl:l.length<6000000) (k:Int) (e:W.heap.size=h) :
  ∃ b cap W',(Builtin.append_ #[34,34] 34 #[.slice p kl kc,.slice (some ⟨h,0,none⟩) 1 1]).run Tryz.prog (W.alloc (.cells #[.int .i64 k] 3))=.ok (.slice (some ⟨b,0,none⟩) (l.length+1) cap) W' ∧
   Un E w W' g rho x0 x1 x2 x3 x4 x5 (.slice (some ⟨b,0,none⟩) (l.length+1) cap) (l ++ [k]):=by
 subst e
 obtain ⟨i0,hi,hz0,hz1,hz2⟩:=info_parts info3
 have hB:=Blk.new W 3 #[.int .i64 k]
 have O1:=own_below U.o ((Below.refl _ _).alloc (Nat.le_refl _) (.cells #[.int .i64 k] 3))
 have hlt:=U.b3.lt
 have hlg:=U.lt
 obtain ⟨b,cap,w',hr,hown,hg,hwh,hlt2⟩:=run_append_lies (P:=Tryz.prog) _ 34 34 (g+1) 3 i0 (.int .i64 0) 1 8 Tryz.underlying34 hi hz0 hz1 hz2 rfl (by decide) (.slice p kl kc) l.length (intV l) O1 ⟨W.heap.size,0,none⟩ 1 1 [.int .i64 k] rfl (World.news_of_block hB) (fun u hu=>by rw [List.mem_singleton] at hu;subst hu;rfl) Nat.one_pos (by unfold maxLen;omega) (by omega)
  (by rw [World.size_alloc];omega) (W.heap.size+1) (World.size_alloc _ _)
 have hne:∀ b,b<g+1→some b≠(Value.slice p kl kc).ownBlock:=fun b hb e=>by have:=(U.o.lt b e.symm).1;omega
 refine ⟨b,cap,w',hr,(U.b1.alloc _).grown hg (hne _ (by omega)),(U.b2.alloc _).grown hg (hne _ (by omega)),(U.b3.alloc _).grown hg (hne _ (by omega)),(U.x.alloc U.x.size _).grown hg (by rw [World.size_alloc];have:=U.x.size;omega) (fun k hk=>by have:=(U.o.lt _ hk).1;omega),U.lt,?_,?_⟩
 ·have h1:RdAt E (fun c=>OwA (Aa w.heap.size g) (.slice p kl kc) c∨c=b) W rho (.agg #[x0,x1,x2,x3,x4,x5]):=U.r.more fun c hb ha=>by
   rcases ha with ha | rfl
   ·exact ha
   ·rcases hwh with h2 | h2
    ·exact Or.inr h2
    ·omega
  have h2:RdAt E (fun c=>OwA (Aa w.heap.size g) (.slice p kl kc) c∨c=b) w' rho (.agg #[x0,x1,x2,x3,x4,x5]):=h1.agr ⟨by have:=hg.size;rw [World.size_alloc] at this;omega,fun c hb hn=>by
   rw [hg.block c (by rw [World.size_alloc];omega) (fun e=>hn (Or.inl (Or.inr e.symm)))]
   exact Below.heap_alloc _ _ _ hb⟩
  refine h2.more fun c _ ha=>?_
  rcases ha with ha | ha
  ·exact Or.inl (Or.inl ha)
  ·cases ha;exact Or.inr rfl
 ·rw [List.length_append]
  unfold intV at hown ⊢
  rw [List.map_append];exact hown
theorem unR (U:Un E w W g rho x0 x1 x2 x3 x4 x5 v l):RdAt E (Aa w.heap.size g) W rho (.agg #[x0,x1,x2,x3,x4,x5]):=U.r.more fun _ _ h=>Or.inl h
theorem unJ (U:Un E w W g rho x0 x1 x2 x3 x4 x5 v l):In (Aa w.heap.size g) W:=fun b hb=>unI U b (Or.inl hb)
theorem unL {p:Option Addr}{kl kc:Nat}(U:Un E w W g rho x0 x1 x2 x3 x4 x5 (.slice p kl kc) l):LsAt (Aa w.heap.size g) W l (.slice p kl kc):=by
 have hl:=U.lt
 rcases U.o.2 with ⟨hv,h0⟩ | ⟨b,cap,cur,hv,_,_,hc,_⟩
 ·cases hv
  have:l=[]:=List.eq_nil_of_length_eq_zero h0
  subst this
  exact ⟨none,0,rfl,fun h=>absurd h (Nat.lt_irrefl _),Nat.le_refl _⟩
 ·cases hv
  refine ⟨_,_,rfl,fun _=>⟨b,0,rfl,(U.o.lt b rfl).2,fun ha=>?_,fun j hj=>?_⟩,hc⟩
  ·have h1:=(U.o.lt b rfl).1
   rcases ha with (ha | ha) | ha <;> omega
  ·have h1:=U.o.cells (g:=b) rfl j (.int .i64 l[j]) (by unfold intV;simp [hj])
   rw [addr_add] at h1
   exact h1
end
def UnL (E:Nat) (w:World) (g:Nat) (P:Rs→List Int→Prop) (v:Value) (W:World):Prop:=∃ rho p l m n o s z a out kp kl kc,v=.slice kp kl kc∧P rho out∧Hid (o=rho.L.length) ∧
 Hid (Un E w W g rho (.slice p l m) (.slice n o s) (.int .i64 E) (.int .i64 z) (.int .i64 a) (.int .i64 rho.top) (.slice kp kl kc) out)
def RuP (E:Nat) (A:Nat→Prop) (w:World) (r':Rs) (e:Ending) (w':World):Prop :=
 ∃ pn ln cn pl ll cl c a,e=.returned (.agg #[.slice pn ln cn,.slice pl ll cl,.int .i64 E,.int .i64 c,.int .i64 a,.int .i64 r'.top]) ∧
  Hid (RdAt E A w' r' (.agg #[.slice pn ln cn,.slice pl ll cl,.int .i64 E,.int .i64 c,.int .i64 a,.int .i64 r'.top]))∧Hid (ll=r'.L.length)∧Below w.heap.size w w'
theorem ruC {E id:Nat}{ex:Array Value}{f:Rs→Option RL}(hf:FnB E id ex f) {A:Nat→Prop}{W:World}{q:Rs}{v:Value}{p:RL}(hA:In A W) (R:RdAt E A W q v) (h:f q=some p):Calls Tryz.prog id (#[v] ++ ex) W (RuP E A W p.1) :=
 (hf _ _ _ _ _ hA R h).mono fun _ _ ⟨pn,ln,cn,pl,ll,cl,c,a,he,hr,hb⟩=>⟨pn,ln,cn,pl,ll,cl,c,a,he,hr,by
  obtain ⟨pn',cn',pl',cl',ns,e,_⟩:=hr.out
  unfold rdV at e
  cases e;rfl,hb⟩
theorem runit_walk {s:ByteArray}{L:List T4}{m:Nat}{q:RL}{w:World}(hs:s.size≤140737488355328) (hscan:∀ w,Calls Tryz.prog 33 #[.string s] w (ScR (.ok L) w)) (hL:L.length≤5000000∧∀ x,x ∈ L→x.t.length≤1000000)
  (hE:∀ k,FnB s.size 39 #[] (runV s.size k .top)) (hf:unitV s.size m ⟨[],L,0,0,0⟩=some q) (Q:Option Addr→Nat→Nat→Int→Int→World→Prop) (hQ:∀ p n cap c a W W',Agr (Ae w.heap.size) W W'→Q p n cap c a W→Q p n cap c a W')
  (hD:∀ W v,RdAt s.size (Ae w.heap.size) W q.1 v→Calls Tryz.prog 35 #[v] W fun e w'=>∃ p n cap c a,e=.returned (.tuple #[.agg #[.slice p n cap],.agg #[.int .i64 c,.int .i64 a]])∧Hid (Q p n cap c a w')∧Below W.heap.size W w') :
  Calls Tryz.prog 15 #[.string s] w fun e w'=>∃ p n cap c a,e=.returned (.tuple #[.agg #[.slice p n cap],.agg #[.int .i64 c,.int .i64 a]])∧Q p n cap c a w'∧Below w.heap.size w w':=by
 have HS:=Lib.hid hscan
 have HD:=Lib.hid hD
 have HQ:=Lib.hid hQ
 have HL:=Lib.hid hL
 have H:Hid ((runV s.size m (.topsL []) ⟨[],L,0,0,0⟩).bind (fun q=>alone (addR ⟨1,[],0,0,[],0⟩ q.2 q.1))=some q):=Lib.hid hf
 obtain ⟨p0,hp,H⟩:=bnd H
 obtain ⟨ln,hln⟩:=exE (L.length)
 have Hln:=Lib.hid hln
 clear hscan hD hf hQ hL hln
 go_enter Tryz.func15,Tryz.ntmps15
 go_wp2_with (go_at_call 33;refine (HS.out _).mono ?_)
 rintro e w1 ⟨hb1,v,rfl,hown⟩
 obtain ⟨b1,b2,hbw⟩:=keepTwo hb1
 have hsz:((w.alloc (.cells #[.slice none 0 0] 24)).alloc (.cells #[.int .i64 0,.int .i64 0] 26)).heap.size=w.heap.size+2:=by simp
 rw [hsz] at hown
 obtain ⟨p,cap,rfl,hR⟩:=begin_at (E:=s.size) (g:=w.heap.size) hown (by omega) HL.out
 rw [← Hln.out] at hR ⊢
 have l1:=b1.lt
 have l2:=b2.lt
 have U:Hid (Un s.size w ((w1.alloc (.cells #[.int .i64 0,.int .i64 0] 26)).alloc (.cells #[.slice none 0 0,.slice p ln cap,.int .i64 s.size,.int .i64 0,.int .i64 0,.int .i64 0] 63)) (w1.heap.size+1) ⟨[],L,0,0,0⟩ (.slice none 0 0) (.slice p ln cap) (.int .i64 s.size) (.int .i64 0) (.int .i64 0) (.int .i64 0) (.slice none 0 0) []) :=
  Lib.hid ⟨(b1.alloc _).alloc _,(b2.alloc _).alloc _,Blk.new1 _ _ _ _,(hbw.alloc hbw.size _).alloc (by rw [World.size_alloc];have:=hbw.size;omega) _,by omega,((hR.more fun b hb ha=>by
   rcases ha with (ha | ha) | ha
   ·exact ha
   ·omega
   ·cases ha).agr (((Agr.refl _ _).alloc _).alloc _)),World.ownsRow_nil _ _ _ _⟩
 clear hR hown hsz b1 b2 hbw hb1 l1 l2
 go_wp2
 go_loopg [7] m (fun k vo wr=>k≤m∧UnL s.size w (w1.heap.size+1) (fun rho out=>Hid (runV s.size k (.topsL out) rho=some p0)) vo wr)
 case atStart=>exact ⟨Nat.le_refl _,_,_,_,_,_,_,_,_,_,[],none,0,0,rfl,hp,Hln,U⟩
 clear U hp Hln HL HS
 obtain ⟨hk,rho,p,l,m',n,o,s',z,a,out,kp,kl,kc,rfl,hp,ho,U⟩:=hrel
 generalize w1.heap.size+1=g at *
 cases gk with
 | zero=>cases hp.out
 | succ k =>
  have c:=unA U.out
  by_cases i1:okR rho=true
  ·go_wp2_with (go_at_call 38;refine (U.out.r.okb (b:=true) i1 _).mono ?_)
   first | rintro e u rfl b | rintro e u ⟨rfl,b⟩
   replace U:=Lib.hid (unC U.out b)
   clear c b;have c:=unA U.out
   by_cases i2:0<rho.L.length
   ·have i3:decide (0<o)=true:=decide_eq_true (by have:=ho.out;omega)
    have H1:=bnd (ifT (show Hid ((if (okR rho && decide (0<rho.L.length))=true then (runV s.size k .top rho).bind (fun q=>if 6000000≤out.length then none else runV s.size k (.topsL (out ++ [q.1.top])) q.1) else some (rho,out))=some p0) from hp) (by rw [i1,decide_eq_true i2];rfl))
    clear hp
    obtain ⟨q1,h1,hp⟩:=H1
    go_wp2_with (go_at_call 39;refine (ruC (hE k) (unI U.out) U.out.r h1.out).mono ?_)
    rintro e u ⟨p2,l2,m2,n2,o2,s2,z2,a2,rfl,R2,ho2,b⟩
    replace U:=Lib.hid (unC U.out b)
    clear c b;have c:=unA U.out
    replace U:=Lib.hid (unS U.out R2.out)
    obtain ⟨hl,hp⟩:=ifN hp
    obtain ⟨g1,c1,u,hx,U2⟩:=unN U.out (by omega) q1.1.top (h:=u.heap.size) (by simp [st6,World.setCell])
    replace U:=Lib.hid U2
    clear U2 R2;have c2:=unA U.out
    go_wp2_with (at_builtin;refine apW rfl _ _ rfl rfl rfl rfl hx ?_)
    clear hx c2 c
    go_wp2
    go_roundg k
    case rel=>exact ⟨by omega,_,_,_,_,_,_,_,_,_,_,_,_,_,rfl,hp,ho2,U⟩
    case measure=>omega
   ·have i3:decide (0<o)=false:=decide_eq_false (by have:=ho.out;omega)
    obtain rfl:=sm (ifF (show Hid ((if (okR rho && decide (0<rho.L.length))=true then (runV s.size k .top rho).bind (fun q=>if 6000000≤out.length then none else runV s.size k (.topsL (out ++ [q.1.top])) q.1) else some (rho,out))=some p0) from hp) (by rw [decide_eq_false i2,Bool.and_false]))
    obtain ⟨q2,h2,rfl⟩:=aln H
    clear hp H
    go_wp2_with (go_at_call 40;refine (radd_any (unJ U.out) (unR U.out) 1 0 0 0 ⟨#[]⟩ (unL U.out) h2.out).mono ?_)
    rintro e u ⟨p3,l3,m3,n3,o3,s3,z3,a3,rfl,R3,b⟩
    replace U:=Lib.hid (unC U.out b)
    clear c b
    go_wp2_with (go_at_call 35;refine (HD.out u _ (R3.out.more fun b _ h=>Or.inl h)).mono ?_)
    rintro e u ⟨p4,n4,cap4,c4,a4,rfl,HQ4,b⟩
    replace U:=Lib.hid (unC U.out b)
    clear b R3
    obtain ⟨q_0,q_1,q_2⟩:=one1 U.out.b1
    obtain ⟨s_0,s_1,s_2,s_3,s_4⟩:=two2 U.out.b2
    go_wp2
    refine bodyPost_ret (v:=.tuple #[.agg #[.slice p4 n4 cap4],.agg #[.int .i64 c4,.int .i64 a4]]) (by simp [results,Tryz.results15,go_sem,q_0,q_1,q_2,s_0,s_1,s_2,s_3,s_4]) rfl ?_
    refine ⟨p4,n4,cap4,c4,a4,rfl,HQ.out _ _ _ _ _ _ _ (((Agr.refl _ _).setCell (p:=⟨w.heap.size,0,none⟩) (Or.inl rfl) _).setCell (p:=⟨w.heap.size+1,0,none⟩) (Or.inr rfl) _ |>.setCell (p:=⟨w.heap.size+1,1,none⟩) (Or.inr rfl) _) HQ4.out,?_⟩
    exact ((U.out.x.setCell (p:=⟨w.heap.size,0,none⟩) (Nat.le_refl _) _).setCell (p:=⟨w.heap.size+1,0,none⟩) (Nat.le_succ _) _).setCell (p:=⟨w.heap.size+1,1,none⟩) (Nat.le_succ _) _
  ·replace i1:=bfalse i1
   obtain rfl:=sm (ifF (show Hid ((if (okR rho && decide (0<rho.L.length))=true then (runV s.size k .top rho).bind (fun q=>if 6000000≤out.length then none else runV s.size k (.topsL (out ++ [q.1.top])) q.1) else some (rho,out))=some p0) from hp) (by rw [i1];rfl))
   go_wp2_with (go_at_call 38;refine (U.out.r.okb (b:=false) i1 _).mono ?_)
   first | rintro e u rfl b | rintro e u ⟨rfl,b⟩
   replace U:=Lib.hid (unC U.out b)
   clear c b;have c:=unA U.out
   obtain ⟨q2,h2,rfl⟩:=aln H
   clear hp H
   go_wp2_with (go_at_call 40;refine (radd_any (unJ U.out) (unR U.out) 1 0 0 0 ⟨#[]⟩ (unL U.out) h2.out).mono ?_)
   rintro e u ⟨p3,l3,m3,n3,o3,s3,z3,a3,rfl,R3,b⟩
   replace U:=Lib.hid (unC U.out b)
   clear c b
   go_wp2_with (go_at_call 35;refine (HD.out u _ (R3.out.more fun b _ h=>Or.inl h)).mono ?_)
   rintro e u ⟨p4,n4,cap4,c4,a4,rfl,HQ4,b⟩
   replace U:=Lib.hid (unC U.out b)
   clear b R3
   obtain ⟨q_0,q_1,q_2⟩:=one1 U.out.b1
   obtain ⟨s_0,s_1,s_2,s_3,s_4⟩:=two2 U.out.b2
   go_wp2
   refine bodyPost_ret (v:=.tuple #[.agg #[.slice p4 n4 cap4],.agg #[.int .i64 c4,.int .i64 a4]]) (by simp [results,Tryz.results15,go_sem,q_0,q_1,q_2,s_0,s_1,s_2,s_3,s_4]) rfl ?_
   refine ⟨p4,n4,cap4,c4,a4,rfl,HQ.out _ _ _ _ _ _ _ (((Agr.refl _ _).setCell (p:=⟨w.heap.size,0,none⟩) (Or.inl rfl) _).setCell (p:=⟨w.heap.size+1,0,none⟩) (Or.inr rfl) _ |>.setCell (p:=⟨w.heap.size+1,1,none⟩) (Or.inr rfl) _) HQ4.out,?_⟩
   exact ((U.out.x.setCell (p:=⟨w.heap.size,0,none⟩) (Nat.le_refl _) _).setCell (p:=⟨w.heap.size+1,0,none⟩) (Nat.le_succ _) _).setCell (p:=⟨w.heap.size+1,1,none⟩) (Nat.le_succ _) _
theorem runit_bad {s:ByteArray}{c a:Nat}(hc:c≠0) (hscan:∀ w,Calls Tryz.prog 33 #[.string s] w (ScR (.bad c a) w)) (w:World) :
  Calls Tryz.prog 15 #[.string s] w fun e w'=>e=.returned (.tuple #[.agg #[.slice none 0 0],.agg #[.int .i64 c,.int .i64 a]])∧Below w.heap.size w w':=by
 have HS:=Lib.hid hscan
 have q0:((c:Int) != 0)=true:=by simpa using hc
 clear hscan hc
 go_enter Tryz.func15,Tryz.ntmps15
 go_wp2_with (go_at_call 33;refine (HS.out _).mono ?_)
 rintro e w1 ⟨hb1,v,rfl,rfl⟩
 obtain ⟨b1,b2,hbw⟩:=keepTwo hb1
 have B1:=b1.alloc (.cells #[.int .i64 c,.int .i64 a] 26)
 have B2:=b2.alloc (.cells #[.int .i64 c,.int .i64 a] 26)
 have B3:=Blk.new w1 26 #[.int .i64 c,.int .i64 a]
 have HX:=hbw.alloc hbw.size (.cells #[.int .i64 c,.int .i64 a] 26)
 have hl:=b2.lt
 clear b1 b2 hbw hb1
 go_wp2
 generalize w1.alloc (.cells #[.int .i64 c,.int .i64 a] 26)=W at *
 generalize w1.heap.size=g at *
 obtain ⟨q_0,q_1,q_2⟩:=one1 B1
 obtain ⟨s_0,s_1,s_2,s_3,s_4⟩:=two2 B2
 obtain ⟨t_0,t_1,t_2,t_3,t_4⟩:=two2 B3
 have hbe:Below w.heap.size w ((((W.setCell ⟨w.heap.size,0,none⟩ (.slice none 0 0)).setCell ⟨w.heap.size+1,0,none⟩ (.int .i64 c)).setCell ⟨w.heap.size+1,1,none⟩ (.int .i64 a)).drew) :=
  (((HX.setCell (p:=⟨w.heap.size,0,none⟩) (Nat.le_refl _) _).setCell (p:=⟨w.heap.size+1,0,none⟩) (Nat.le_succ _) _).setCell (p:=⟨w.heap.size+1,1,none⟩) (Nat.le_succ _) _).drew
 have HBE:=Lib.hid hbe
 clear hbe
 go_region
 go_wp2
 refine bodyPost_ret (v:=.tuple #[.agg #[.slice none 0 0],.agg #[.int .i64 c,.int .i64 a]]) (by simp [results,Tryz.results15,go_sem,q_0,q_1,q_2,s_0,s_1,s_2,s_3,s_4]) rfl ?_
 exact ⟨rfl,HBE.out⟩
end
end Go.Proofs.YtbjacclfhgnffaaGreatDoor
