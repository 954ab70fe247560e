/-
  Joined texts of this claim: Jg, Jh, Ji, Lx, Ju, Kk, Kl.
-/
import Derived.Test.YtbjacclfhgnffaaGreatDoorW00
import Derived.Test.YtbjacclfhgnffaaGreatDoorW28
import Derived.Test.YtbjacclfhgnffaaGreatDoorW14
import Derived.Test.YtbjacclfhgnffaaGreatDoorW23
import Derived.Laws.AppendOwnNone
import Derived.Deep.RegionHeld3
import Derived.Test.YtbjacclfhgnffaaGreatDoorW16
set_option maxHeartbeats 40000000
set_option maxRecDepth 100000
set_option linter.unusedVariables false
set_option linter.unusedSimpArgs false
namespace Go.Proofs.YtbjacclfhgnffaaGreatDoor
section
open Go.RowKit
open Tk (T4 bstr)
open Tr (Nd Blk KidsAt NodeAt ret_bool)
theorem addr_add (b o j:Nat):(⟨b,o,none⟩ : Addr).add j=⟨b,o+j,none⟩:=by unfold Addr.add;split <;> simp_all
theorem rowN_len (l:List Nd):(rowN l).length=l.length * 6:=by
 induction l with
 | nil=>rfl
 | cons x l ih =>
  have e:rowN (x :: l)=cells6 x ++ rowN l:=by simp [rowN]
  rw [e,List.length_append,ih];simp [cells6];omega
theorem row_cells {w:World}{b o:Nat}{l:List Nd}(h:∀ i,(hi:i<l.length)→NodeAt w b (o+i * 6) l[i]):∀ j u,(rowN l)[j]? = some u→w.cell? ((⟨b,o,none⟩ : Addr).add j)=some u:=by
 intro j u hu
 have hj:j<l.length * 6:=by
  rw [← rowN_len]
  rcases Nat.lt_or_ge j (rowN l).length with h | h
  ·exact h
  ·rw [List.getElem?_eq_none h] at hu;cases hu
 obtain ⟨q,i,hi,rfl⟩ : ∃ q i,i<6∧j=q * 6+i:=⟨j / 6,j % 6,Nat.mod_lt _ (by decide),by omega⟩
 have hq:q<l.length:=by omega
 rw [rowN_at l q hq i hi] at hu
 rw [addr_add,← Nat.add_assoc]
 obtain ⟨h0,h1,h2,h3,h4,h5⟩:=h q hq
 rcases i with _ | _ | _ | _ | _ | _ | i
 ·exact (show some _=some u from hu) ▸ h0
 ·exact (show some _=some u from hu) ▸ h1
 ·exact (show some _=some u from hu) ▸ h2
 ·exact (show some _=some u from hu) ▸ h3
 ·exact (show some _=some u from hu) ▸ h4
 ·exact (show some _=some u from hu) ▸ h5
 ·omega
theorem rowN_one:∀ (l:List Nd),∀ u ∈ rowN l,u.oneCell' = true:=by
 intro l u hu
 unfold rowN at hu
 obtain ⟨x,_,hx⟩:=List.mem_flatMap.1 hu
 simp only [cells6,List.mem_cons,List.not_mem_nil,or_false] at hx
 rcases hx with rfl | rfl | rfl | rfl | rfl | rfl <;> rfl
theorem nodes_row {w:World}{base g n cap:Nat}{l:List Nd}(h:w.ownsRow base 36 6 (.slice (some ⟨g,0,none⟩) n cap) n (rowN l)):base≤g∧g<w.heap.size∧∀ i,(hi:i<l.length)→NodeAt w g (0+i * 6) l[i]:=by
 refine ⟨(h.lt g rfl).1,(h.lt g rfl).2,fun i hi=>?_⟩
 have e:∀ k,k<6→∀ u,(cells6 l[i])[k]? = some u→w.cell? ⟨g,i * 6+k,none⟩=some u:=fun k hk u hu=>by
  have:=h.cells (g:=g) rfl (i * 6+k) u ((rowN_at l i hi k hk).trans hu)
  rwa [addr_add,Nat.zero_add] at this
 simp only [Nat.zero_add]
 exact ⟨e 0 (by omega) _ rfl,e 1 (by omega) _ rfl,e 2 (by omega) _ rfl,e 3 (by omega) _ rfl,e 4 (by omega) _ rfl,e 5 (by omega) _ rfl⟩
theorem row_slice {w:World}{base n:Nat}{v:Value}{xs:List Value}(h:w.ownsRow base 36 6 v n xs) (hn:0<n):∃ g cap,v=.slice (some ⟨g,0,none⟩) n cap∧n≤cap:=by
 rcases h.2 with ⟨_,h0⟩ | ⟨g,cap,cur,rfl,_,_,hc,_⟩
 ·omega
 ·exact ⟨g,cap,rfl,hc⟩
theorem oneA {A:Nat→Prop}(k:Int) (w:World) (hA:In A w) :
  Calls Tryz.prog 82 #[.int .i64 k] w fun e w'=>∃ p,e=.returned (.slice p 1 1)∧Hid (LsAt A w' [k] (.slice p 1 1))∧Below w.heap.size w w' :=
 (one_any k w).mono fun e w' ⟨he,hk,hb⟩=>⟨_,he,⟨_,1,rfl,fun h0=>by
  obtain ⟨b,o,e,hb,hc⟩:=hk h0
  cases e
  exact ⟨_,_,rfl,hb,fun ha=>Nat.lt_irrefl _ (hA _ ha),hc⟩,Nat.le_refl _⟩,hb⟩
theorem twoA_ {A:Nat→Prop}(k m:Int) (w:World) (hA:In A w) :
  Calls Tryz.prog 73 #[.int .i64 k,.int .i64 m] w fun e w'=>∃ p,e=.returned (.slice p 2 2)∧Hid (LsAt A w' [k,m] (.slice p 2 2))∧Below w.heap.size w w' :=
 (two_any k m w).mono fun e w' ⟨he,hk,hb⟩=>⟨_,he,⟨_,2,rfl,fun h0=>by
  obtain ⟨b,o,e,hb,hc⟩:=hk h0
  cases e
  exact ⟨_,_,rfl,hb,fun ha=>Nat.lt_irrefl _ (hA _ ha),hc⟩,Nat.le_refl _⟩,hb⟩
theorem add_close {E:Nat}{pn:Option Addr}{A:Nat→Prop}{w w5 W:World}{r:Rs}{pl:Option Addr}{cl:Nat}{ns:List Nd}{x:Nd}{g cap base:Nat}(hbase:w.heap.size≤base) (hA:In A w) (hc:r.c=0)
  (hT:TkA A w pl r.L) (h2:r.L.length≤cl) (h3:cl≤9223372036854775807) (h4:r.L.length≤5000000∧∀ x,x ∈ r.L→x.t.length≤1000000) (h5:NdA A w pn ns) (h6:ns.map bare=r.N) (h7:r.N.length<5000000) (h8:∀ x,x ∈ r.N→x.c.length≤5000000)
  (hk:KdA A w x.p x.c) (hx:x.c.length≤5000000) (hb:Below w.heap.size w w5) (hrow:w5.ownsRow base 36 6 (.slice (some ⟨g,0,none⟩) (ns.length+1) cap) (ns.length+1) (rowN (ns ++ [x]))) (hcap:ns.length+1≤cap)
  (hW:Agr (fun b=>w.heap.size≤b∧b≠g) w5 W) :
  RdAt E A W { r with N:=r.N ++ [bare x],top:=r.N.length } (.agg #[.slice (some ⟨g,0,none⟩) (ns.length+1) cap,.slice pl r.L.length cl,.int .i64 E,.int .i64 0,.int .i64 r.a,.int .i64 ns.length]):=by
 have hl:ns.length=r.N.length:=by rw [← h6,List.length_map]
 obtain ⟨hg0,hg2,hnd⟩:=nodes_row hrow
 have hg1:=Nat.le_trans hbase hg0
 have hag:Agr A w5 W→True:=fun _=>trivial
 have low:∀ b,b<w.heap.size→W.heap[b]? = w.heap[b]?:=fun b hb'=>(hW.block b (Nat.lt_of_lt_of_le hb' hb.size) (fun h=>absurd h.1 (Nat.not_le.2 hb'))).trans (hb.block b hb')
 have hAg:Agr A w W:=⟨Nat.le_trans hb.size hW.size,fun b hb' _=>low b hb'⟩
 have hgW:W.heap[g]? = w5.heap[g]?:=hW.block g hg2 (fun h=>h.2 rfl)
 have hnA:¬ A g:=fun ha=>absurd (hA g ha) (Nat.not_lt.2 hg1)
 refine ⟨some ⟨g,0,none⟩,cap,pl,cl,ns ++ [x],?_,hT.agr hAg,h2,h3,h4,⟨fun _=>⟨g,0,rfl,Nat.lt_of_lt_of_le hg2 hW.size,hnA,fun i hi=>NodeAt.same (hnd i hi) hgW⟩,fun i hi=>?_⟩,?_,?_,?_,?_,?_⟩
 ·unfold rdV
  show _=Value.agg #[.slice _ (r.N ++ [bare x]).length _,_,_,.int .i64 r.c,_,.int .i64 (r.N.length:Nat)]
  rw [List.length_append,hc,hl];rfl
 ·rcases Nat.lt_or_ge i ns.length with h | h
  ·have e:(ns ++ [x])[i]=ns[i]:=List.getElem_append_left h
   rw [e];exact (h5.2 i h).agr hAg
  ·have hi':i=ns.length:=by rw [List.length_append] at hi;simp at hi;omega
   subst hi'
   have e:(ns ++ [x])[ns.length]=x:=by simp
   rw [e];exact hk.agr hAg
 ·rw [List.map_append,h6];rfl
 ·show (r.N ++ [bare x]).length≤cap;rw [List.length_append,← hl];exact hcap
 ·show (r.N ++ [bare x]).length≤5000000;rw [List.length_append];exact h7
 ·intro y hy
  rcases List.mem_append.1 hy with hy | hy
  ·exact h8 y hy
  ·rw [List.mem_singleton] at hy;subst hy;exact hx
 ·intro h;exact absurd (congrArg List.length h) (by show (r.N ++ [bare x]).length≠0;rw [List.length_append];simp)
end
section
open Go.RowKit
open Tk (T4 bstr)
open Tr (Nd Blk KidsAt NodeAt ret_bool)
theorem grown_alloc (w:World) (o:Obj):w.grownBy (w.alloc o) none:=by
 have hb:Below w.heap.size w (w.alloc o):=(Below.refl _ _).alloc (Nat.le_refl _) _
 exact ⟨hb.os,hb.tape,hb.output,hb.size,fun k hk _=>hb.block k hk⟩
def AddP (w:World) (m:Nat) (pl:Option Addr) (ll cl E:Nat) (ra:Int) (row:List Value) (e:Ending) (W:World):Prop :=
 ∃ g cap base w5,e=.returned (.agg #[.slice (some ⟨g,0,none⟩) (m+1) cap,.slice pl ll cl,.int .i64 E,.int .i64 0,.int .i64 ra,.int .i64 m])∧Below w.heap.size w w5∧w.heap.size≤base ∧
  w5.ownsRow base 36 6 (.slice (some ⟨g,0,none⟩) (m+1) cap) (m+1) row∧m+1≤cap∧Agr (fun b=>w.heap.size≤b∧b≠g) w5 W∧Below w.heap.size w W
theorem add_some_ {b o m cn ll cl E:Nat}{pl kp:Option Addr}{ra rtop k n z a:Int}{x:ByteArray}{kl kc:Nat}(w:World) (ns:List Nd) (hm:m=ns.length) (hm0:0<m) (hm5:m<5000000) (hb:b<w.heap.size)
  (hnd:∀ i,(hi:i<ns.length)→NodeAt w b (o+i * 6) ns[i])
  (hok:∀ w2,Calls Tryz.prog 38 #[.agg #[.slice (some ⟨b,o,none⟩) m cn,.slice pl ll cl,.int .i64 E,.int .i64 0,.int .i64 ra,.int .i64 rtop]] w2 fun e w'=>e=.returned (.bool true)∧Below w2.heap.size w2 w') :
  Calls Tryz.prog 40 #[.agg #[.slice (some ⟨b,o,none⟩) m cn,.slice pl ll cl,.int .i64 E,.int .i64 0,.int .i64 ra,.int .i64 rtop],.agg #[.int .i64 k,.string x,.int .i64 n,.int .i64 z,.slice none 0 0,.int .i64 a],.slice kp kl kc] w
   (AddP w m pl ll cl E ra (rowN ns ++ [.int .i64 k,.string x,.int .i64 n,.int .i64 z,.slice kp kl kc,.int .i64 a])):=by
 obtain ⟨Q,hQ⟩:=exE (AddP w m pl ll cl E ra (rowN ns ++ [.int .i64 k,.string x,.int .i64 n,.int .i64 z,.slice kp kl kc,.int .i64 a]))
 rw [← hQ]
 have HQ:=Lib.hid hQ
 obtain ⟨j0,hj,hy0,hy1,hy2⟩:=info_parts info36
 have HNews:=Lib.hid (row_cells hnd)
 have HLen:Hid ((rowN ns).length=m * 6):=by show _=_;rw [rowN_len,hm]
 have HOne:=Lib.hid (rowN_one ns)
 obtain ⟨row,hrow⟩:=exE (rowN ns)
 rw [← hrow] at HNews HLen HOne
 have Hrow:=Lib.hid hrow
 clear hQ hnd hm hrow
 go_enter Tryz.func40,Tryz.ntmps40
 go_wp2_with (go_at_call 38;refine (hok _).mono ?_)
 rintro e w1 ⟨rfl,hb1⟩
 obtain ⟨b1,b2,b3,hb3⟩:=keep3 hb1
 have B1:=Lib.hid b1
 have B2:=Lib.hid b2
 have B3:=Lib.hid b3
 have HB:=Lib.hid hb3
 obtain ⟨n_0,n_1,n_2,n_3,n_4,n_5,n_6⟩:=six b2
 obtain ⟨nf0,nf1,nf2,nf3,nf4,nf5⟩:=six_f b2
 have r_0:=b1.cell 0
 have r_1:=b1.lt
 have Hlt:=Lib.hid b3.lt
 clear b1 b2 b3 hb1 hb3 hok
 have hbn:b≠w.heap.size+1:=by omega
 have hNews:Hid (∀ j u,row[j]? = some u→(w1.setCell ⟨w.heap.size+1,4,none⟩ (.slice kp kl kc)).cell? ((⟨b,o,none⟩ : Addr).add j)=some u):=by
  intro j u hu
  have:=HNews.out j u hu
  rw [addr_add] at this ⊢
  exact (World.cell?_of_block (a:=⟨b,o+j,none⟩) (Below.heap_setCell w1 ⟨w.heap.size+1,4,none⟩ _ b hbn)).trans ((HB.out.cell (p:=⟨b,o+j,none⟩) hb).trans this)
 have hsz:Hid (w1.heap.size≤(w1.setCell ⟨w.heap.size+1,4,none⟩ (.slice kp kl kc)).heap.size):=by show _≤_;simp [World.setCell]
 clear HNews
 go_wp2_with (at_builtin;refine wpList_append_own _ rfl _ _ 22 rfl w1.heap.size 36 j0 (.agg #[.int .i64 0,.string ⟨#[]⟩,.int .i64 0,.int .i64 0,.slice none 0 0,.int .i64 0]) 6 72 Tryz.underlying22 hj hy0 hy1 hy2 rfl (by decide) (.slice none 0 0) 0 [] rfl (World.ownsRow_nil _ _ _ _) ⟨b,o,none⟩ m cn row rfl HLen.out ?c1 ?c2 ?c3 ?c4 ?c5 ?_)
 case c1=>exact hNews.out
 case c2=>exact HOne.out
 case c3=>unfold maxLen;omega
 case c4=>omega
 case c5=>exact hsz.out
 intro v' w3 hown hgrow _
 obtain ⟨g3,cap3,rfl,hc3⟩:=row_slice hown hm0
 have HOwn3:=Lib.hid hown
 have k1:=Lib.hid (((B1.out.far (p:=⟨w.heap.size+1,4,none⟩) (show w.heap.size≠w.heap.size+1 by omega) (.slice kp kl kc))).grown hgrow (by simp [Value.ownBlock]))
 have k2:=Lib.hid ((B2.out.set_ 4 (.slice kp kl kc)).grown hgrow (by simp [Value.ownBlock]))
 have k3:=Lib.hid (((B3.out.far (p:=⟨w.heap.size+1,4,none⟩) (show w.heap.size+1+1≠w.heap.size+1 by omega) (.slice kp kl kc))).grown hgrow (by simp [Value.ownBlock]))
 have HB3:Hid (Below w.heap.size w w3):=(HB.out.setCell (p:=⟨w.heap.size+1,4,none⟩) (Nat.le_succ _) _).grown hgrow (by have:=HB.out.size;simpa [World.setCell] using this) (fun k h=>by cases h)
 have hg3:w1.heap.size≤g3:=(hown.lt g3 rfl).1
 clear n_0 n_1 n_2 n_3 n_4 n_5 n_6 nf0 nf1 nf2 nf3 nf4 nf5 r_0 r_1 hown hgrow hNews hsz B1 B2 B3
 obtain ⟨n_0,n_1,n_2,n_3,n_4,n_5,n_6⟩:=six k2.out
 obtain ⟨r_0,r_1,r_2,r_3,r_4,r_5,r_6⟩:=six k1.out
 obtain ⟨rf0,rf1,rf2,rf3,rf4,rf5⟩:=six_f k1.out
 have hown4:=Lib.hid (HOwn3.out.kept (grown_alloc w3 (.cells #[.int .i64 k,.string x,.int .i64 n,.int .i64 z,.slice kp kl kc,.int .i64 a] 36)) (by simp [Value.ownBlock]))
 have hnews4:=Lib.hid (World.news_of_block (w:=w3.alloc (.cells #[.int .i64 k,.string x,.int .i64 n,.int .i64 z,.slice kp kl kc,.int .i64 a] 36)) (Blk.new w3 36 #[.int .i64 k,.string x,.int .i64 n,.int .i64 z,.slice kp kl kc,.int .i64 a]))
 have hsz4:Hid (w1.heap.size≤(w3.alloc (.cells #[.int .i64 k,.string x,.int .i64 n,.int .i64 z,.slice kp kl kc,.int .i64 a] 36)).heap.size):=by
  show _≤_
  have:=(HOwn3.out.lt g3 rfl).2
  rw [World.size_alloc];omega
 go_wp2_with (at_builtin;refine wpList_append_own _ rfl _ _ 22 rfl w1.heap.size 36 j0 (.agg #[.int .i64 0,.string ⟨#[]⟩,.int .i64 0,.int .i64 0,.slice none 0 0,.int .i64 0]) 6 72 Tryz.underlying22 hj hy0 hy1 hy2 rfl (by decide) (.slice (some ⟨g3,0,none⟩) m cap3) m row rfl hown4.out ⟨w3.heap.size,0,none⟩ 1 1 [.int .i64 k,.string x,.int .i64 n,.int .i64 z,.slice kp kl kc,.int .i64 a] rfl rfl ?d1 ?d2 ?d3 ?d4 ?d5 ?_)
 case d2=>exact ⟨rfl,rfl,rfl,rfl,rfl,rfl⟩
 case d3=>unfold maxLen;omega
 case d4=>omega
 case d5=>have h:=hsz4.out;rw [World.size_alloc] at h;exact h
 intro v5 w5 hown5 hgrow5 _
 obtain ⟨g5,cap5,rfl,hc5⟩:=row_slice hown5 (Nat.succ_pos _)
 have l1:=k1.out.lt
 have l3:=k3.out.lt
 have hs1:=HB.out.size
 have hlt1:w.heap.size+1+1<w1.heap.size:=Hlt.out
 have B1:=Lib.hid ((k1.out.alloc (.cells #[.int .i64 k,.string x,.int .i64 n,.int .i64 z,.slice kp kl kc,.int .i64 a] 36)).grown hgrow5 (by simp only [Value.ownBlock];intro h;have:=Option.some.inj h;omega))
 have B3:=Lib.hid ((k3.out.alloc (.cells #[.int .i64 k,.string x,.int .i64 n,.int .i64 z,.slice kp kl kc,.int .i64 a] 36)).grown hgrow5 (by simp only [Value.ownBlock];intro h;have:=Option.some.inj h;omega))
 have HB5:Hid (Below w.heap.size w w5):=(HB3.out.alloc HB3.out.size _).grown hgrow5 (by rw [World.size_alloc];exact Nat.le_succ_of_le HB3.out.size) (fun k h=>by simp only [Value.ownBlock] at h;have:=Option.some.inj h;omega)
 have HOwn5:=Lib.hid hown5
 have Hbase:Hid (w.heap.size≤w1.heap.size):=hs1
 clear n_0 n_1 n_2 n_3 n_4 n_5 n_6 r_0 r_1 r_2 r_3 r_4 r_5 r_6 rf0 rf1 rf2 rf3 rf4 rf5 hown5 hgrow5 hown4 hnews4 hsz4 k1 k2 k3 l1 l3 hs1
 obtain ⟨r_0,r_1,r_2,r_3,r_4,r_5,r_6⟩:=six B1.out
 obtain ⟨rf0,rf1,rf2,rf3,rf4,rf5⟩:=six_f B1.out
 obtain ⟨q_0,q_1,q_2,q_3,q_4,q_5,q_6⟩:=six B3.out
 obtain ⟨qf0,qf1,qf2,qf3,qf4,qf5⟩:=six_f B3.out
 go_wp2
 refine bodyPost_ret (v:=.agg #[.slice (some ⟨g5,0,none⟩) (m+1) cap5,.slice pl ll cl,.int .i64 E,.int .i64 0,.int .i64 ra,.int .i64 m]) (by simp [results,Tryz.results40,go_sem,q_0,q_1,q_2,q_3,q_4,q_5,q_6]) rfl ?_
 rw [HQ.out,← Hrow.out]
 refine ⟨g5,cap5,w1.heap.size,w5,rfl,HB5.out,Hbase.out,HOwn5.out,hc5,?_,set6 ((HB5.out.setCell (p:=⟨w.heap.size,0,none⟩) (Nat.le_refl _) _).setCell (p:=⟨w.heap.size,5,none⟩) (Nat.le_refl _) _) (by omega)⟩
 have hg5:w1.heap.size≤g5:=(HOwn5.out.lt g5 rfl).1
 have hA1:w.heap.size≤w.heap.size∧w.heap.size≠g5:=⟨Nat.le_refl _,by omega⟩
 have hA3:w.heap.size≤w.heap.size+1+1∧w.heap.size+1+1≠g5:=⟨by omega,by omega⟩
 exact st6_agr (A:=fun b=>w.heap.size≤b∧b≠g5) (((Agr.refl _ _).setCell (p:=⟨w.heap.size,0,none⟩) hA1 _).setCell (p:=⟨w.heap.size,5,none⟩) hA1 _) hA3
end
section
open Go.RowKit
open Tk (T4 bstr)
open Tr (Nd Blk KidsAt NodeAt ret_bool)
theorem add_none_ {ll cl E:Nat}{pl kp:Option Addr}{ra rtop k n z a:Int}{x:ByteArray}{kl kc:Nat}(w:World)
  (hok:∀ w2,Calls Tryz.prog 38 #[.agg #[.slice none 0 0,.slice pl ll cl,.int .i64 E,.int .i64 0,.int .i64 ra,.int .i64 rtop]] w2 fun e w'=>e=.returned (.bool true)∧Below w2.heap.size w2 w') :
  Calls Tryz.prog 40 #[.agg #[.slice none 0 0,.slice pl ll cl,.int .i64 E,.int .i64 0,.int .i64 ra,.int .i64 rtop],.agg #[.int .i64 k,.string x,.int .i64 n,.int .i64 z,.slice none 0 0,.int .i64 a],.slice kp kl kc] w
   (AddP w 0 pl ll cl E ra ([.int .i64 k,.string x,.int .i64 n,.int .i64 z,.slice kp kl kc,.int .i64 a])):=by
 obtain ⟨Q,hQ⟩:=exE (AddP w 0 pl ll cl E ra ([.int .i64 k,.string x,.int .i64 n,.int .i64 z,.slice kp kl kc,.int .i64 a]))
 rw [← hQ]
 have HQ:=Lib.hid hQ
 obtain ⟨j0,hj,hy0,hy1,hy2⟩:=info_parts info36
 clear hQ
 go_enter Tryz.func40,Tryz.ntmps40
 go_wp2_with (go_at_call 38;refine (hok _).mono ?_)
 rintro e w1 ⟨rfl,hb1⟩
 obtain ⟨b1,b2,b3,hb3⟩:=keep3 hb1
 have B1:=Lib.hid b1
 have B2:=Lib.hid b2
 have B3:=Lib.hid b3
 have HB:=Lib.hid hb3
 obtain ⟨n_0,n_1,n_2,n_3,n_4,n_5,n_6⟩:=six b2
 obtain ⟨nf0,nf1,nf2,nf3,nf4,nf5⟩:=six_f b2
 have r_0:=b1.cell 0
 have r_1:=b1.lt
 have Hlt:=Lib.hid b3.lt
 clear b1 b2 b3 hb1 hb3 hok
 have B1w:=Lib.hid ((B1.out.far (p:=⟨w.heap.size+1,4,none⟩) (show w.heap.size≠w.heap.size+1 by omega) (.slice kp kl kc)))
 have B2w:=Lib.hid (B2.out.set_ 4 (.slice kp kl kc))
 have B3w:=Lib.hid ((B3.out.far (p:=⟨w.heap.size+1,4,none⟩) (show w.heap.size+1+1≠w.heap.size+1 by omega) (.slice kp kl kc)))
 have HBw:Hid (Below w.heap.size w (w1.setCell ⟨w.heap.size+1,4,none⟩ (.slice kp kl kc))):=HB.out.setCell (p:=⟨w.heap.size+1,4,none⟩) (Nat.le_succ _) _
 go_wp2_with (at_builtin;first | (refine wpList_append_own_none rfl _ _ 22 rfl w1.heap.size 36 j0 6 Tryz.underlying22 hj (.slice none 0 0) 0 [] rfl (World.ownsRow_nil _ _ _ _) rfl ?_) | (refine wpList_append_own _ rfl _ _ 22 rfl w1.heap.size 36 j0 (.agg #[.int .i64 0,.string ⟨#[]⟩,.int .i64 0,.int .i64 0,.slice none 0 0,.int .i64 0]) 6 72 Tryz.underlying22 hj hy0 hy1 hy2 rfl (by decide) (.slice none 0 0) 0 [] rfl (World.ownsRow_nil _ _ _ _) ⟨w1.heap.size,0,none⟩ 1 1 [.int .i64 k,.string x,.int .i64 n,.int .i64 z,.slice kp kl kc,.int .i64 a] rfl rfl ?d1 ?d2 ?d3 ?d4 ?d5 ?_))
 case d1 =>
  have h:=World.news_of_block (Blk.new (w1.setCell ⟨w.heap.size+1,4,none⟩ (.slice kp kl kc)) 36 #[.int .i64 k,.string x,.int .i64 n,.int .i64 z,.slice kp kl kc,.int .i64 a])
  have hs:(w1.setCell ⟨w.heap.size+1,4,none⟩ (.slice kp kl kc)).heap.size=w1.heap.size:=by simp [World.setCell]
  rw [hs] at h
  exact h
 case d2=>intro u hu;simp only [List.mem_cons,List.not_mem_nil,or_false] at hu;rcases hu with rfl | rfl | rfl | rfl | rfl | rfl <;> rfl
 case d3=>unfold maxLen;omega
 case d4=>omega
 case d5=>rw [World.size_alloc];simp [World.setCell]
 intro v5 w5 hown5 hgrow5 _
 obtain ⟨g5,cap5,rfl,hc5⟩:=row_slice hown5 Nat.one_pos
 have hs1:=HB.out.size
 have hlt1:w.heap.size+1+1<w1.heap.size:=Hlt.out
 have C1:=Lib.hid ((B1w.out.alloc (.cells #[.int .i64 k,.string x,.int .i64 n,.int .i64 z,.slice kp kl kc,.int .i64 a] 36)).grown hgrow5 (by simp [Value.ownBlock]))
 have C3:=Lib.hid ((B3w.out.alloc (.cells #[.int .i64 k,.string x,.int .i64 n,.int .i64 z,.slice kp kl kc,.int .i64 a] 36)).grown hgrow5 (by simp [Value.ownBlock]))
 have HB5:Hid (Below w.heap.size w w5):=(HBw.out.alloc HBw.out.size _).grown hgrow5 (by rw [World.size_alloc];exact Nat.le_succ_of_le HBw.out.size) (fun k h=>by cases h)
 have HOwn5:=Lib.hid hown5
 have Hbase:Hid (w.heap.size≤w1.heap.size):=hs1
 clear n_0 n_1 n_2 n_3 n_4 n_5 n_6 nf0 nf1 nf2 nf3 nf4 nf5 r_0 r_1 hown5 hgrow5 hs1 B1 B2 B3 B1w B2w B3w
 obtain ⟨r_0,r_1,r_2,r_3,r_4,r_5,r_6⟩:=six C1.out
 obtain ⟨rf0,rf1,rf2,rf3,rf4,rf5⟩:=six_f C1.out
 obtain ⟨q_0,q_1,q_2,q_3,q_4,q_5,q_6⟩:=six C3.out
 obtain ⟨qf0,qf1,qf2,qf3,qf4,qf5⟩:=six_f C3.out
 go_wp2
 refine bodyPost_ret (v:=.agg #[.slice (some ⟨g5,0,none⟩) 1 cap5,.slice pl ll cl,.int .i64 E,.int .i64 0,.int .i64 ra,.int .i64 0]) (by simp [results,Tryz.results40,go_sem,q_0,q_1,q_2,q_3,q_4,q_5,q_6]) rfl ?_
 rw [HQ.out]
 refine ⟨g5,cap5,w1.heap.size,w5,rfl,HB5.out,Hbase.out,HOwn5.out,hc5,?_,set6 ((HB5.out.setCell (p:=⟨w.heap.size,0,none⟩) (Nat.le_refl _) _).setCell (p:=⟨w.heap.size,5,none⟩) (Nat.le_refl _) _) (by omega)⟩
 have hg5:w1.heap.size≤g5:=(HOwn5.out.lt g5 rfl).1
 have hA1:w.heap.size≤w.heap.size∧w.heap.size≠g5:=⟨Nat.le_refl _,by omega⟩
 have hA3:w.heap.size≤w.heap.size+1+1∧w.heap.size+1+1≠g5:=⟨by omega,by omega⟩
 exact st6_agr (A:=fun b=>w.heap.size≤b∧b≠g5) (((Agr.refl _ _).setCell (p:=⟨w.heap.size,0,none⟩) hA1 _).setCell (p:=⟨w.heap.size,5,none⟩) hA1 _) hA3
theorem radd_any {E:Nat}{A:Nat→Prop}{w:World}{r r':Rs}{v:Value}(hA:In A w) (h:RdAt E A w r v) (k n z a:Int) (x:ByteArray) {ks:List Int}{kp:Option Addr}{kl kc:Nat}(hk:LsAt A w ks (.slice kp kl kc))
  (hf:addR ⟨k,x.data.toList,n,z,[],a⟩ ks r=some r') :
  Calls Tryz.prog 40 #[v,.agg #[.int .i64 k,.string x,.int .i64 n,.int .i64 z,.slice none 0 0,.int .i64 a],.slice kp kl kc] w (RdP E A w r'):=by
 by_cases hc:r.c=0
 ·have hok:=h.okb (b:=true) (by unfold okR;exact decide_eq_true hc)
  obtain ⟨N,L,c,ra,rtop⟩:=r
  obtain rfl:c=0:=hc
  obtain ⟨pn,cn,pl,cl,ns,rfl,hT,h2,h3,h4,h5,h6,h7,h8,h9,h10⟩:=h
  obtain ⟨kp',kcap,hkv,hK,hKc⟩:=hk
  cases hkv
  have hf':¬(5000000≤N.length∨5000000<ks.length)∧r' = ⟨N ++ [⟨k,x.data.toList,n,z,ks,a⟩],L,0,ra,N.length⟩:=by
   unfold addR okR at hf
   rw [decide_eq_true rfl,if_pos rfl] at hf
   split at hf
   ·cases hf
   ·next hn=>exact ⟨hn,(Option.some.inj hf).symm⟩
  obtain ⟨hn,rfl⟩:=hf'
  have h6:ns.map bare=N:=h6
  have h9:∀ x,x ∈ N→x.c.length≤5000000:=h9
  have hlen:ns.length=N.length:=by rw [← h6,List.length_map]
  have hN5:N.length<5000000:=by omega
  have hks:ks.length≤5000000:=by omega
  unfold rdV at hok ⊢
  by_cases h0:N=[]
  ·subst h0
   obtain ⟨rfl,rfl⟩:=h10 rfl
   obtain rfl:ns=[]:=List.eq_nil_of_length_eq_zero hlen
   refine (add_none_ w hok).mono fun e W ⟨g,cap,base,w5,he,hb,hbs,hr,hcp,hw,hbW⟩=>?_
   rw [he]
   exact RdP.of (add_close (E:=E) (pn:=none) (ns:=[]) (r:=⟨[],L,0,ra,rtop⟩) (x:=⟨k,x,n,z,kp,kc,ks,a⟩) hbs hA rfl hT h2 h3 h4 h5 h6 hN5 h9 hK hks hb hr hcp hw) hbW
  ·have hpos:0<ns.length:=by rw [hlen];exact List.length_pos_iff.2 h0
   obtain ⟨b,o,rfl,hb,hnA,hnd⟩:=h5.1 hpos
   refine (add_some_ (m:=N.length) w ns hlen.symm (by omega) hN5 hb hnd hok).mono fun e W ⟨g,cap,base,w5,he,hb,hbs,hr,hcp,hw,hbW⟩=>?_
   rw [he]
   have hcl:=add_close (E:=E) (pn:=_) (ns:=ns) (r:=⟨N,L,0,ra,rtop⟩) (g:=g) (cap:=cap) (W:=W) (x:=⟨k,x,n,z,kp,kc,ks,a⟩) hbs hA rfl hT h2 h3 h4 h5 h6 hN5 h9 hK hks hb (by rw [hlen,rowN_snoc];exact hr) (by rw [hlen];exact hcp) hw
   rw [hlen] at hcl
   exact RdP.of hcl hbW
 ·have e:addR ⟨k,x.data.toList,n,z,[],a⟩ ks r=some r:=addR_bad hc _ _
  rw [e] at hf
  injection hf with hf
  subst hf
  have h':=h
  obtain ⟨pn,cn,pl,cl,ns,rfl,hT,h2,h3,h4,h5⟩:=h
  exact (RdB.add (w0:=w) ⟨hc,pl,cl,r.L,rfl,hT.row,h4.1⟩ w k n z a x none kp 0 0 kl kc).mono fun e w' ⟨he,hb⟩=>he ▸ RdP.of (h'.agr (.below hb)) hb
end
section
open Go.RowKit
open Tk (T4 bstr)
open Tr (Nd Blk KidsAt NodeAt ret_bool)
theorem bind_some {α β:Type}{x:Option α}{f:α→Option β}{b:β}(h:x.bind f=some b):∃ a,x=some a∧f a=some b:=by
 cases x with
 | none=>cases h
 | some a=>exact ⟨a,rfl,h⟩
theorem bfalse {b:Bool}(h:¬ b=true):b=false:=by cases b <;> simp_all
def RlP (E:Nat) (A:Nat→Prop) (w:World) (q:RL) (e:Ending) (w':World):Prop :=
 ∃ pn ln cn pl ll cl c a kp kl kc,e=.returned (.tuple #[.agg #[.slice pn ln cn,.slice pl ll cl,.int .i64 E,.int .i64 c,.int .i64 a,.int .i64 q.1.top],.slice kp kl kc]) ∧
  Hid (RdAt E A w' q.1 (.agg #[.slice pn ln cn,.slice pl ll cl,.int .i64 E,.int .i64 c,.int .i64 a,.int .i64 q.1.top]))∧Hid (LsAt A w' q.2 (.slice kp kl kc))∧Below w.heap.size w w'
def FnL (E id:Nat) (ex:Array Value) (f:Rs→Option RL):Prop:=∀ (A:Nat→Prop) (w:World) (r:Rs) (q:RL) (v:Value),In A w→RdAt E A w r v→f r=some q →
 Calls Tryz.prog id (#[v] ++ ex) w (RlP E A w q)
end
section
open Go.RowKit
open Tk (T4 bstr)
open Tr (Nd Blk KidsAt NodeAt ret_bool)
theorem one1 {w:World}{g:Nat}{t:TypeId}{v0:Value}(h:Blk w g t #[v0]):w.cell? ⟨g,0,none⟩=some v0∧w.frozen? ⟨g,0,none⟩=false∧g<w.heap.size:=⟨h.cell 0,h.frozen 0,h.lt⟩
theorem two2 {w:World}{g:Nat}{t:TypeId}{v0 v1:Value}(h:Blk w g t #[v0,v1]):w.cell? ⟨g,0,none⟩=some v0∧w.cell? ⟨g,1,none⟩=some v1∧w.frozen? ⟨g,0,none⟩=false∧w.frozen? ⟨g,1,none⟩=false∧g<w.heap.size:=⟨h.cell 0,h.cell 1,h.frozen 0,h.frozen 1,h.lt⟩
def DnP (p:Option Addr) (n cap:Nat) (c a:Int) (w:World) (e:Ending) (w':World):Prop :=
 e=.returned (.tuple #[.agg #[.slice p n cap],.agg #[.int .i64 c,.int .i64 a]])∧Below w.heap.size w w'
theorem done_bad {E:Nat}{A:Nat→Prop}{w:World}{r:Rs}{v:Value}(h:RdAt E A w r v) (hc:r.c≠0):Calls Tryz.prog 35 #[v] w (DnP none 0 0 r.c r.a w):=by
 obtain ⟨pn,cn,pl,cl,ns,rfl,h1,h2,h3,h4,h5⟩:=h
 have h:RdAt E A w r (rdV pn r.N.length cn pl r.L.length cl E r.c r.a r.top):=⟨pn,cn,pl,cl,ns,rfl,h1,h2,h3,h4,h5⟩
 have H:=Lib.hid h
 obtain ⟨ln,hln⟩:=exE (r.N.length)
 obtain ⟨ll,hll⟩:=exE (r.L.length)
 obtain ⟨c,hc'⟩:=exE (r.c)
 obtain ⟨a,ha'⟩:=exE (r.a)
 obtain ⟨top,ht'⟩:=exE (r.top)
 rw [← hc',← ha']
 rw [← hc',← ha',← ht',← hln,← hll] at H
 rw [← ht',← hln,← hll]
 have hok:okR r=false:=decide_eq_false hc
 unfold rdV at H ⊢
 clear h h1 h2 h3 h4 h5 hln hll hc' ha' ht' hc
 go_enter Tryz.func35,Tryz.ntmps35
 go_wp2_with (go_at_call 38;refine (RdAt.okb (w:=w) H.out hok _).mono ?_)
 first | rintro e w1 rfl hb1 | rintro e w1 ⟨rfl,hb1⟩
 obtain ⟨B1_1,B2_1,B3_1,HB1⟩:=keep3 hb1
 obtain ⟨r_0,r_1,r_2,r_3,r_4,r_5,r_6⟩:=six B1_1
 obtain ⟨q_0,q_1,q_2⟩:=one1 B2_1
 obtain ⟨s_0,s_1,s_2,s_3,s_4⟩:=two2 B3_1
 go_wp2_with (go_at_call 38;refine (RdAt.okb (w:=w) H.out hok _).mono ?_)
 first | rintro e w2 rfl hb2 | rintro e w2 ⟨rfl,hb2⟩
 have B1_2:=B1_1.below hb2 B1_1.lt
 have B2_2:=B2_1.below hb2 B2_1.lt
 have B3_2:=B3_1.below hb2 B3_1.lt
 have HB2:=HB1.trans (hb2.mono HB1.size)
 clear r_0 r_1 r_2 r_3 r_4 r_5 r_6 q_0 q_1 q_2 s_0 s_1 s_2 s_3 s_4
 obtain ⟨r_0,r_1,r_2,r_3,r_4,r_5,r_6⟩:=six B1_2
 obtain ⟨q_0,q_1,q_2⟩:=one1 B2_2
 obtain ⟨s_0,s_1,s_2,s_3,s_4⟩:=two2 B3_2
 go_wp2
 have hbe:Below w.heap.size w ((((w2.setCell ⟨w.heap.size+1,0,none⟩ (.slice none 0 0)).setCell ⟨w.heap.size+1+1,0,none⟩ (.int .i64 c)).setCell ⟨w.heap.size+1+1,1,none⟩ (.int .i64 a)).drew) :=
  (((HB2.setCell (p:=⟨w.heap.size+1,0,none⟩) (Nat.le_succ _) _).setCell (p:=⟨w.heap.size+1+1,0,none⟩) (by simp;omega) _).setCell (p:=⟨w.heap.size+1+1,1,none⟩) (by simp;omega) _).drew
 have HBE:=Lib.hid hbe
 clear hbe hb1 hb2
 go_region
 go_wp2
 refine bodyPost_ret (v:=.tuple #[.agg #[.slice none 0 0],.agg #[.int .i64 c,.int .i64 a]]) (by simp [results,Tryz.results35,go_sem,q_0,q_1,q_2,s_0,s_1,s_2,s_3,s_4]) rfl ?_
 refine ⟨rfl,?_⟩
 exact HBE.out
theorem RdAt.ca {E:Nat}{A:Nat→Prop}{w:World}{r:Rs}{pn:Option Addr}{ln cn:Nat}{pl:Option Addr}{ll cl:Nat}{c a top:Int}(h:RdAt E A w r (.agg #[.slice pn ln cn,.slice pl ll cl,.int .i64 E,.int .i64 c,.int .i64 a,.int .i64 top])):c=r.c∧a=r.a:=by
 obtain ⟨pn',cn',pl',cl',ns,e,_⟩:=h
 unfold rdV at e
 injection e with e
 injection e with e
 simp only [List.cons.injEq,Value.int.injEq,true_and] at e
 exact ⟨e.2.2.1,e.2.2.2.1⟩
theorem done_left {E:Nat}{A:Nat→Prop}{w:World}{r:Rs}{v:Value}(h:RdAt E A w r v) (hc:r.c=0) (hL:r.L≠[]):Calls Tryz.prog 35 #[v] w (DnP none 0 0 1 (pk E r.L).a w):=by
 obtain ⟨pn,cn,pl,cl,ns,rfl,h1,h2,h3,h4,h5⟩:=h
 have h:RdAt E A w r (rdV pn r.N.length cn pl r.L.length cl E r.c r.a r.top):=⟨pn,cn,pl,cl,ns,rfl,h1,h2,h3,h4,h5⟩
 have H:=Lib.hid h
 obtain ⟨ln,hln⟩:=exE (r.N.length)
 obtain ⟨ll,hll⟩:=exE (r.L.length)
 obtain ⟨c,hc'⟩:=exE (r.c)
 obtain ⟨a,ha'⟩:=exE (r.a)
 obtain ⟨top,ht'⟩:=exE (r.top)
 rw [← hc',← ha',← ht',← hln,← hll] at H
 rw [← hc',← ha',← ht',← hln,← hll]
 have hok:okR r=true:=decide_eq_true hc
 have hlp0:0<ll:=by rw [hll];exact List.length_pos_iff.2 hL
 have hlp:decide (0<ll)=true:=decide_eq_true hlp0
 have hst:stopR E 1 r={ r with c:=1,a:=(pk E r.L).a }:=by unfold stopR;rw [hok];exact if_pos rfl
 have hoks:okR (stopR E 1 r)=false:=by rw [hst];rfl
 have hll5:ll≤5000000:=by rw [hll];exact h4.1
 obtain ⟨pa,hpa⟩ : ∃ x:Int,x=(pk E r.L).a:=⟨_,rfl⟩
 rw [← hpa]
 have Hst:Hid ((stopR E 1 r).c=1∧(stopR E 1 r).a=pa):=by show _∧_;rw [hst,hpa];exact ⟨rfl,rfl⟩
 unfold rdV at H ⊢
 clear h h1 h2 h3 h4 h5 hln hll hc' ha' ht' hst hL hpa
 go_enter Tryz.func35,Tryz.ntmps35
 go_wp2_with (go_at_call 38;refine (RdAt.okb (w:=w) H.out hok _).mono ?_)
 first | rintro e w1 rfl hb1 | rintro e w1 ⟨rfl,hb1⟩
 obtain ⟨B1_1,B2_1,B3_1,HB1⟩:=keep3 hb1
 obtain ⟨r_0,r_1,r_2,r_3,r_4,r_5,r_6⟩:=six B1_1
 obtain ⟨q_0,q_1,q_2⟩:=one1 B2_1
 obtain ⟨s_0,s_1,s_2,s_3,s_4⟩:=two2 B3_1
 have HR1:=Lib.hid (H.out.agr (.below HB1))
 go_wp2_with (go_at_call 74;refine (RdAt.stopp (w:=w1) HR1.out 1).mono ?_)
 rintro e w2 ⟨pn2,ln2,cn2,pl2,ll2,cl2,c2,a2,rfl,HQ2,hb2⟩
 have B1_2:=B1_1.below hb2 B1_1.lt
 have B2_2:=B2_1.below hb2 B2_1.lt
 have B3_2:=B3_1.below hb2 B3_1.lt
 have HB2:=HB1.trans (hb2.mono HB1.size)
 clear r_0 r_1 r_2 r_3 r_4 r_5 r_6 q_0 q_1 q_2 s_0 s_1 s_2 s_3 s_4
 obtain ⟨r_0,r_1,r_2,r_3,r_4,r_5,r_6⟩:=six B1_2
 obtain ⟨q_0,q_1,q_2⟩:=one1 B2_2
 obtain ⟨s_0,s_1,s_2,s_3,s_4⟩:=two2 B3_2
 have e1:c2=1:=HQ2.out.ca.1.trans Hst.out.1
 have e2:a2=pa:=HQ2.out.ca.2.trans Hst.out.2
 subst e1
 subst e2
 clear Hst
 obtain ⟨t2,ht2⟩ : ∃ t,t=(stopR E 1 r).top:=⟨_,rfl⟩
 rw [← ht2] at HQ2 ⊢
 clear ht2
 obtain ⟨rf0,rf1,rf2,rf3,rf4,rf5⟩:=six_f B1_2
 have C1:Hid (Blk ((((((w2.setCell ⟨w.heap.size,0,none⟩ (.slice pn2 ln2 cn2)).setCell ⟨w.heap.size,1,none⟩ (.slice pl2 ll2 cl2)).setCell ⟨w.heap.size,2,none⟩ (.int .i64 E)).setCell ⟨w.heap.size,3,none⟩ (.int .i64 1)).setCell ⟨w.heap.size,4,none⟩ (.int .i64 a2)).setCell ⟨w.heap.size,5,none⟩ (.int .i64 t2)) w.heap.size 63 #[.slice pn2 ln2 cn2,.slice pl2 ll2 cl2,.int .i64 E,.int .i64 1,.int .i64 a2,.int .i64 t2]):=st6_same B1_2
 have C2:Hid (Blk ((((((w2.setCell ⟨w.heap.size,0,none⟩ (.slice pn2 ln2 cn2)).setCell ⟨w.heap.size,1,none⟩ (.slice pl2 ll2 cl2)).setCell ⟨w.heap.size,2,none⟩ (.int .i64 E)).setCell ⟨w.heap.size,3,none⟩ (.int .i64 1)).setCell ⟨w.heap.size,4,none⟩ (.int .i64 a2)).setCell ⟨w.heap.size,5,none⟩ (.int .i64 t2)) (w.heap.size+1) 24 #[.slice none 0 0]):=st6_far B2_2 (by omega)
 have C3:Hid (Blk ((((((w2.setCell ⟨w.heap.size,0,none⟩ (.slice pn2 ln2 cn2)).setCell ⟨w.heap.size,1,none⟩ (.slice pl2 ll2 cl2)).setCell ⟨w.heap.size,2,none⟩ (.int .i64 E)).setCell ⟨w.heap.size,3,none⟩ (.int .i64 1)).setCell ⟨w.heap.size,4,none⟩ (.int .i64 a2)).setCell ⟨w.heap.size,5,none⟩ (.int .i64 t2)) (w.heap.size+1+1) 26 #[.int .i64 0,.int .i64 0]):=st6_far B3_2 (by omega)
 have CX:Hid (Below w.heap.size w ((((((w2.setCell ⟨w.heap.size,0,none⟩ (.slice pn2 ln2 cn2)).setCell ⟨w.heap.size,1,none⟩ (.slice pl2 ll2 cl2)).setCell ⟨w.heap.size,2,none⟩ (.int .i64 E)).setCell ⟨w.heap.size,3,none⟩ (.int .i64 1)).setCell ⟨w.heap.size,4,none⟩ (.int .i64 a2)).setCell ⟨w.heap.size,5,none⟩ (.int .i64 t2))):=st6_below HB2 (Nat.le_refl _)
 go_wp2_with (go_at_call 38;refine (RdAt.okb (w:=w2) HQ2.out hoks _).mono ?_)
 first | rintro e w3 rfl hb3 | rintro e w3 ⟨rfl,hb3⟩
 have B1_3:=C1.out.below hb3 C1.out.lt
 have B2_3:=C2.out.below hb3 C2.out.lt
 have B3_3:=C3.out.below hb3 C3.out.lt
 have HB3:=CX.out.trans (hb3.mono CX.out.size)
 clear r_0 r_1 r_2 r_3 r_4 r_5 r_6 q_0 q_1 q_2 s_0 s_1 s_2 s_3 s_4 rf0 rf1 rf2 rf3 rf4 rf5
 obtain ⟨r_0,r_1,r_2,r_3,r_4,r_5,r_6⟩:=six B1_3
 obtain ⟨q_0,q_1,q_2⟩:=one1 B2_3
 obtain ⟨s_0,s_1,s_2,s_3,s_4⟩:=two2 B3_3
 go_wp2
 have HBE:Hid (Below w.heap.size w ((((w3.setCell ⟨w.heap.size+1,0,none⟩ (.slice none 0 0)).setCell ⟨w.heap.size+1+1,0,none⟩ (.int .i64 1)).setCell ⟨w.heap.size+1+1,1,none⟩ (.int .i64 a2)).drew)) :=
  (((HB3.setCell (p:=⟨w.heap.size+1,0,none⟩) (Nat.le_succ _) _).setCell (p:=⟨w.heap.size+1+1,0,none⟩) (by simp;omega) _).setCell (p:=⟨w.heap.size+1+1,1,none⟩) (by simp;omega) _).drew
 clear hb1 hb2 hb3
 go_region
 go_wp2
 refine bodyPost_ret (v:=.tuple #[.agg #[.slice none 0 0],.agg #[.int .i64 1,.int .i64 a2]]) (by simp [results,Tryz.results35,go_sem,q_0,q_1,q_2,s_0,s_1,s_2,s_3,s_4]) rfl ?_
 refine ⟨rfl,?_⟩
 exact HBE.out
theorem done_big {E:Nat}{A:Nat→Prop}{w:World}{r:Rs}{v:Value}(h:RdAt E A w r v) (hc:r.c=0) (hL:r.L=[]) (hn:600<r.N.length):Calls Tryz.prog 35 #[v] w (DnP none 0 0 10 0 w):=by
 obtain ⟨pn,cn,pl,cl,ns,rfl,h1,h2,h3,h4,h5⟩:=h
 have h:RdAt E A w r (rdV pn r.N.length cn pl r.L.length cl E r.c r.a r.top):=⟨pn,cn,pl,cl,ns,rfl,h1,h2,h3,h4,h5⟩
 have H:=Lib.hid h
 obtain ⟨ln,hln⟩:=exE (r.N.length)
 obtain ⟨ll,hll⟩:=exE (r.L.length)
 obtain ⟨c,hc'⟩:=exE (r.c)
 obtain ⟨a,ha'⟩:=exE (r.a)
 obtain ⟨top,ht'⟩:=exE (r.top)
 rw [← hc',← ha',← ht',← hln,← hll] at H
 rw [← hc',← ha',← ht',← hln,← hll]
 have hok:okR r=true:=decide_eq_true hc
 have hl0:ll=0:=by rw [hll,hL];rfl
 subst hl0
 have hbig:(600:Int)<(ln:Int):=by omega
 have hbig3:600<ln:=by omega
 have hbig2:decide ((600:Int)<(ln:Int))=true:=by simp;omega
 have hln5:ln≤5000000:=by rw [hln];exact h5.2.2.2.1
 unfold rdV at H ⊢
 clear h h1 h2 h3 h4 h5 hln hll hc' ha' ht' hL hn
 go_enter Tryz.func35,Tryz.ntmps35
 go_wp2_with (go_at_call 38;refine (RdAt.okb (w:=w) H.out hok _).mono ?_)
 first | rintro e w1 rfl hb1 | rintro e w1 ⟨rfl,hb1⟩
 obtain ⟨B1_1,B2_1,B3_1,HB1⟩:=keep3 hb1
 obtain ⟨r_0,r_1,r_2,r_3,r_4,r_5,r_6⟩:=six B1_1
 obtain ⟨q_0,q_1,q_2⟩:=one1 B2_1
 obtain ⟨s_0,s_1,s_2,s_3,s_4⟩:=two2 B3_1
 go_wp2_with (go_at_call 38;refine (RdAt.okb (w:=w) H.out hok _).mono ?_)
 first | rintro e w2 rfl hb2 | rintro e w2 ⟨rfl,hb2⟩
 have B1_2:=B1_1.below hb2 B1_1.lt
 have B2_2:=B2_1.below hb2 B2_1.lt
 have B3_2:=B3_1.below hb2 B3_1.lt
 have HB2:=HB1.trans (hb2.mono HB1.size)
 clear r_0 r_1 r_2 r_3 r_4 r_5 r_6 q_0 q_1 q_2 s_0 s_1 s_2 s_3 s_4
 obtain ⟨r_0,r_1,r_2,r_3,r_4,r_5,r_6⟩:=six B1_2
 obtain ⟨q_0,q_1,q_2⟩:=one1 B2_2
 obtain ⟨s_0,s_1,s_2,s_3,s_4⟩:=two2 B3_2
 go_wp2_with (go_at_call 47;refine (Tk.fault_any _ _ _).mono ?_)
 first | rintro e w3 rfl rfl | rintro e w3 ⟨rfl,rfl⟩
 have D2:=Lib.hid ((B2_2.alloc (.cells #[.slice pn ln cn] 24)).alloc (.cells #[.int .i64 10,.int .i64 0] 26))
 have D3:=Lib.hid ((B3_2.alloc (.cells #[.slice pn ln cn] 24)).alloc (.cells #[.int .i64 10,.int .i64 0] 26))
 have DX:=Lib.hid ((HB2.alloc HB2.size (.cells #[.slice pn ln cn] 24)).alloc (HB2.alloc HB2.size (.cells #[.slice pn ln cn] 24)).size (.cells #[.int .i64 10,.int .i64 0] 26))
 clear r_0 r_1 r_2 r_3 r_4 r_5 r_6 q_0 q_1 q_2 s_0 s_1 s_2 s_3 s_4 hb1 hb2 B1_1 B2_1 B3_1 B1_2 B2_2 B3_2 HB1 HB2
 generalize (w2.alloc (.cells #[.slice pn ln cn] 24)).alloc (.cells #[.int .i64 10,.int .i64 0] 26)=W at *
 obtain ⟨q_0,q_1,q_2⟩:=one1 D2.out
 obtain ⟨s_0,s_1,s_2,s_3,s_4⟩:=two2 D3.out
 go_wp2
 refine bodyPost_ret (v:=.tuple #[.agg #[.slice none 0 0],.agg #[.int .i64 10,.int .i64 0]]) (by simp [results,Tryz.results35,go_sem,q_0,q_1,q_2,s_0,s_1,s_2,s_3,s_4]) rfl ?_
 refine ⟨rfl,?_⟩
 exact ((DX.out.setCell (p:=⟨w.heap.size+1,0,none⟩) (Nat.le_succ _) _).setCell (p:=⟨w.heap.size+1+1,0,none⟩) (by simp;omega) _).setCell (p:=⟨w.heap.size+1+1,1,none⟩) (by simp;omega) _
end
section
open Go.RowKit
open Tk (T4 bstr)
open Tr (Nd Blk KidsAt NodeAt ret_bool)
structure Fr (A:Nat→Prop) (w W:World) (cr cs:Array Value):Prop where
 r:Blk W w.heap.size 63 cr
 s:∃ t,Blk W (w.heap.size+1) t cs
 x:Below w.heap.size w W
 i:In A W
structure Tb (w W:World) (g:Nat) (cs:Array Value):Prop where
 t:∃ ty,Blk W g ty cs
 n:w.heap.size+1<g
structure Rd (E:Nat) (A:Nat→Prop) (w W:World) (r:Rs) (v:Value):Prop where
 out:RdAt E (Two A w.heap.size) W r v
structure Ls (A:Nat→Prop) (w W:World) (c:List Int) (v:Value):Prop where
 out:LsAt (Two A w.heap.size) W c v
def Q6 (g:Nat) (x0 x1 x2 x3 x4 x5:Value) (W:World):Prop:=W.cell? ⟨g,0,none⟩=some x0∧W.cell? ⟨g,1,none⟩=some x1∧W.cell? ⟨g,2,none⟩=some x2∧W.cell? ⟨g,3,none⟩=some x3∧W.cell? ⟨g,4,none⟩=some x4∧W.cell? ⟨g,5,none⟩=some x5∧g<W.heap.size
def Q4 (g:Nat) (x0 x1 x2 x3:Value) (W:World):Prop:=W.cell? ⟨g,0,none⟩=some x0∧W.cell? ⟨g,1,none⟩=some x1∧W.cell? ⟨g,2,none⟩=some x2∧W.cell? ⟨g,3,none⟩=some x3∧g<W.heap.size
section
variable {E g:Nat}{A:Nat→Prop}{w W W':World}{cr cs ct:Array Value}{q q':Rs}{v x0 x1 x2 x3 x4 x5 y0 y1 y2 y3 y4 y5:Value}{c:List Int}
theorem frN (hA:In A w) (h:RdAt E A w q (.agg #[x0,x1,x2,x3,x4,x5])):Fr A w ((w.alloc (.cells #[x0,x1,x2,x3,x4,x5] 63)).alloc (.cells #[.slice none 0 0,.slice none 0 0,.int .i64 0,.int .i64 0,.int .i64 0,.int .i64 0] 63)) #[x0,x1,x2,x3,x4,x5] #[.slice none 0 0,.slice none 0 0,.int .i64 0,.int .i64 0,.int .i64 0,.int .i64 0] :=
 ⟨(Blk.new _ _ _).alloc _,⟨_,Blk.new1 _ _ _ _⟩,((Below.refl _ _).alloc (Nat.le_refl _) _).alloc (by simp) _,(hA.alloc _).alloc _⟩
theorem rdN (h:RdAt E A w q (.agg #[x0,x1,x2,x3,x4,x5])):Rd E A w ((w.alloc (.cells #[x0,x1,x2,x3,x4,x5] 63)).alloc (.cells #[.slice none 0 0,.slice none 0 0,.int .i64 0,.int .i64 0,.int .i64 0,.int .i64 0] 63)) q (.agg #[x0,x1,x2,x3,x4,x5]) :=
 ⟨(Two.at h).agr (((Agr.refl _ _).alloc _).alloc _)⟩
theorem Fr.lt (F:Fr A w W cr cs):w.heap.size+1<W.heap.size:=F.s.elim fun _ h=>h.lt
theorem frC (F:Fr A w W cr cs) (b:Below W.heap.size W W'):Fr A w W' cr cs:=⟨F.r.below b F.r.lt,F.s.imp fun _ h=>h.below b h.lt,F.x.trans (b.mono F.x.size),fun k h=>Nat.lt_of_lt_of_le (F.i k h) b.size⟩
theorem tbC (T:Tb w W g ct) (b:Below W.heap.size W W'):Tb w W' g ct:=⟨T.t.imp fun _ h=>h.below b h.lt,T.n⟩
theorem rdC (R:Rd E A w W q v) (b:Below W.heap.size W W'):Rd E A w W' q v:=⟨R.out.agr (.below b)⟩
theorem lsC (L:Ls A w W c v) (b:Below W.heap.size W W'):Ls A w W' c v:=⟨L.out.agr (.below b)⟩
theorem frD (F:Fr A w W cr cs):Fr A w W.drew cr cs:=⟨F.r.drew,F.s.imp fun _ h=>h.drew,F.x.drew,fun k h=>F.i k h⟩
theorem tbD (T:Tb w W g ct):Tb w W.drew g ct:=⟨T.t.imp fun _ h=>h.drew,T.n⟩
theorem rdD (R:Rd E A w W q v):Rd E A w W.drew q v:=⟨R.out.agr (Agr.refl _ _).drew⟩
theorem lsD (L:Ls A w W c v):Ls A w W.drew c v:=⟨L.out.agr (Agr.refl _ _).drew⟩
theorem frA (F:Fr A w W cr cs) (o:Obj):Fr A w (W.alloc o) cr cs:=⟨F.r.alloc o,F.s.imp fun _ h=>h.alloc o,F.x.alloc F.x.size o,F.i.alloc o⟩
theorem tbA (T:Tb w W g ct) (o:Obj):Tb w (W.alloc o) g ct:=⟨T.t.imp fun _ h=>h.alloc o,T.n⟩
theorem rdA (R:Rd E A w W q v) (o:Obj):Rd E A w (W.alloc o) q v:=⟨R.out.agr ((Agr.refl _ _).alloc o)⟩
theorem lsA (L:Ls A w W c v) (o:Obj):Ls A w (W.alloc o) c v:=⟨L.out.agr ((Agr.refl _ _).alloc o)⟩
theorem tbN (F:Fr A w W cr cs) (k v a:Int) (x:ByteArray):Tb w (W.alloc (.cells #[.int .i64 k,.string x,.int .i64 v,.int .i64 a] 82)) W.heap.size #[.int .i64 k,.string x,.int .i64 v,.int .i64 a]:=⟨⟨_,Blk.new _ _ _⟩,F.lt⟩
theorem frR (F:Fr A w W #[y0,y1,y2,y3,y4,y5] cs) (R:Rd E A w W q (.agg #[x0,x1,x2,x3,x4,x5])):Fr A w (st6 W w.heap.size x0 x1 x2 x3 x4 x5) #[x0,x1,x2,x3,x4,x5] cs:=⟨st6_same F.r,F.s.imp fun _ h=>st6_far h (by omega),st6_below F.x (Nat.le_refl _),F.i.st6⟩
theorem frS (F:Fr A w W cr #[y0,y1,y2,y3,y4,y5]) (R:Rd E A w W q (.agg #[x0,x1,x2,x3,x4,x5])):Fr A w (st6 W (w.heap.size+1) x0 x1 x2 x3 x4 x5) cr #[x0,x1,x2,x3,x4,x5]:=⟨st6_far F.r (by omega),F.s.imp fun _ h=>st6_same h,st6_below F.x (Nat.le_succ _),F.i.st6⟩
theorem tbR (T:Tb w W g ct) (R:Rd E A w W q (.agg #[x0,x1,x2,x3,x4,x5])):Tb w (st6 W w.heap.size x0 x1 x2 x3 x4 x5) g ct:=⟨T.t.imp fun _ h=>st6_far h (by have:=T.n;omega),T.n⟩
theorem tbS (T:Tb w W g ct) (R:Rd E A w W q (.agg #[x0,x1,x2,x3,x4,x5])):Tb w (st6 W (w.heap.size+1) x0 x1 x2 x3 x4 x5) g ct:=⟨T.t.imp fun _ h=>st6_far h (by have:=T.n;omega),T.n⟩
theorem agR (W:World) (u:Nat):Agr (Two A u) W (st6 W u x0 x1 x2 x3 x4 x5):=st6_agr (Agr.refl _ _) (Or.inr (Or.inl rfl))
theorem agS (W:World) (u:Nat):Agr (Two A u) W (st6 W (u+1) x0 x1 x2 x3 x4 x5):=st6_agr (Agr.refl _ _) (Or.inr (Or.inr rfl))
theorem rdR (R:Rd E A w W q (.agg #[x0,x1,x2,x3,x4,x5])):Rd E A w (st6 W w.heap.size x0 x1 x2 x3 x4 x5) q (.agg #[x0,x1,x2,x3,x4,x5]):=⟨R.out.agr (agR _ _)⟩
theorem rdS (R:Rd E A w W q (.agg #[x0,x1,x2,x3,x4,x5])):Rd E A w (st6 W (w.heap.size+1) x0 x1 x2 x3 x4 x5) q (.agg #[x0,x1,x2,x3,x4,x5]):=⟨R.out.agr (agS _ _)⟩
theorem lsR (L:Ls A w W c v) (R:Rd E A w W q (.agg #[x0,x1,x2,x3,x4,x5])):Ls A w (st6 W w.heap.size x0 x1 x2 x3 x4 x5) c v:=⟨L.out.agr (agR _ _)⟩
theorem rdSo (R':Rd E A w W q' v) (R:Rd E A w W q (.agg #[x0,x1,x2,x3,x4,x5])):Rd E A w (st6 W (w.heap.size+1) x0 x1 x2 x3 x4 x5) q' v:=⟨R'.out.agr (agS _ _)⟩
theorem t6N (F:Fr A w W cr cs) (R:Rd E A w W q (.agg #[x0,x1,x2,x3,x4,x5])):Tb w (W.alloc (.cells #[x0,x1,x2,x3,x4,x5] 63)) W.heap.size #[x0,x1,x2,x3,x4,x5]:=⟨⟨_,Blk.new _ _ _⟩,F.lt⟩
theorem frB (F:Fr A w W cr cs) (R:Rd E A w W q (.agg #[x0,x1,x2,x3,x4,x5])):Fr A w (W.alloc (.cells #[x0,x1,x2,x3,x4,x5] 63)) cr cs:=frA F _
theorem tbB (T:Tb w W g ct) (R:Rd E A w W q (.agg #[x0,x1,x2,x3,x4,x5])):Tb w (W.alloc (.cells #[x0,x1,x2,x3,x4,x5] 63)) g ct:=tbA T _
theorem rdB (R:Rd E A w W q (.agg #[x0,x1,x2,x3,x4,x5])):Rd E A w (W.alloc (.cells #[x0,x1,x2,x3,x4,x5] 63)) q (.agg #[x0,x1,x2,x3,x4,x5]):=rdA R _
theorem rdBo (R':Rd E A w W q' v) (R:Rd E A w W q (.agg #[x0,x1,x2,x3,x4,x5])):Rd E A w (W.alloc (.cells #[x0,x1,x2,x3,x4,x5] 63)) q' v:=rdA R' _
theorem lsB (L:Ls A w W c v) (R:Rd E A w W q (.agg #[x0,x1,x2,x3,x4,x5])):Ls A w (W.alloc (.cells #[x0,x1,x2,x3,x4,x5] 63)) c v:=lsA L _
theorem Fr.two (F:Fr A w W cr cs):In (Two A w.heap.size) W:=fun b hb=>by
 have:=F.lt
 rcases hb with h | rfl | rfl
 ·exact F.i b h
 ·omega
 ·omega
theorem Fr.all (F:Fr A w W #[x0,x1,x2,x3,x4,x5] #[y0,y1,y2,y3,y4,y5]):(W.cell? ⟨w.heap.size,0,none⟩=some x0∧W.cell? ⟨w.heap.size,1,none⟩=some x1∧W.cell? ⟨w.heap.size,2,none⟩=some x2∧W.cell? ⟨w.heap.size,3,none⟩=some x3∧W.cell? ⟨w.heap.size,4,none⟩=some x4∧W.cell? ⟨w.heap.size,5,none⟩=some x5∧w.heap.size<W.heap.size)∧(W.cell? ⟨w.heap.size+1,0,none⟩=some y0∧W.cell? ⟨w.heap.size+1,1,none⟩=some y1∧W.cell? ⟨w.heap.size+1,2,none⟩=some y2∧W.cell? ⟨w.heap.size+1,3,none⟩=some y3∧W.cell? ⟨w.heap.size+1,4,none⟩=some y4∧W.cell? ⟨w.heap.size+1,5,none⟩=some y5∧w.heap.size+1<W.heap.size)∧(W.frozen? ⟨w.heap.size,0,none⟩=false∧W.frozen? ⟨w.heap.size,1,none⟩=false∧W.frozen? ⟨w.heap.size,2,none⟩=false∧W.frozen? ⟨w.heap.size,3,none⟩=false∧W.frozen? ⟨w.heap.size,4,none⟩=false∧W.frozen? ⟨w.heap.size,5,none⟩=false)∧W.frozen? ⟨w.heap.size+1,0,none⟩=false∧W.frozen? ⟨w.heap.size+1,1,none⟩=false∧W.frozen? ⟨w.heap.size+1,2,none⟩=false∧W.frozen? ⟨w.heap.size+1,3,none⟩=false∧W.frozen? ⟨w.heap.size+1,4,none⟩=false∧W.frozen? ⟨w.heap.size+1,5,none⟩=false:=⟨six F.r,F.s.elim fun _ h=>six h,six_f F.r,F.s.elim fun _ h=>six_f h⟩
theorem Fr.held (F:Fr A w W #[x0,x1,x2,x3,x4,x5] cs):Q6 w.heap.size x0 x1 x2 x3 x4 x5 W:=six F.r
theorem Tb.all (T:Tb w W g #[y0,y1,y2,y3]):W.cell? ⟨g,0,none⟩=some y0∧W.cell? ⟨g,1,none⟩=some y1∧W.cell? ⟨g,2,none⟩=some y2∧W.cell? ⟨g,3,none⟩=some y3∧g<W.heap.size:=T.t.elim fun _ h=>four h
theorem Tb.all6 (T:Tb w W g #[y0,y1,y2,y3,y4,y5]):W.cell? ⟨g,0,none⟩=some y0∧W.cell? ⟨g,1,none⟩=some y1∧W.cell? ⟨g,2,none⟩=some y2∧W.cell? ⟨g,3,none⟩=some y3∧W.cell? ⟨g,4,none⟩=some y4∧W.cell? ⟨g,5,none⟩=some y5∧g<W.heap.size:=T.t.elim fun _ h=>six h
theorem Tb.held (T:Tb w W g #[y0,y1,y2,y3]):Q4 g y0 y1 y2 y3 W:=T.t.elim fun _ h=>four h
theorem Tb.held6 (T:Tb w W g #[y0,y1,y2,y3,y4,y5]):Q6 g y0 y1 y2 y3 y4 y5 W:=T.t.elim fun _ h=>six h
theorem Rd.fin {fn:Func}{a:Act}(R:Rd E A w W q v) (F:Fr A w W cr cs) (hr:(results fn a.tmps).run Tryz.prog W=.ok v W) (hd:a.defers=[]):bodyPost Tryz.prog fn (RdP E A w q) .ret a W:=bodyPost_ret hr hd (RdP.of (Two.off R.out) F.x)
end
def BlP (b:Bool) (w:World) (e:Ending) (w':World):Prop:=e=.returned (.bool b)∧Below w.heap.size w w'
def TkP (E:Nat) (q:Rs) (w:World) (e:Ending) (w':World):Prop:=∃ k x n a,e=.returned (.agg #[.int .i64 k,.string x,.int .i64 n,.int .i64 a])∧Hid (TokIs E q k x n a)∧Below w.heap.size w w'
def RqP (E:Nat) (A:Nat→Prop) (w w0:World) (r':Rs) (e:Ending) (w':World):Prop :=
 ∃ pn ln cn pl ll cl c a,e=.returned (.agg #[.slice pn ln cn,.slice pl ll cl,.int .i64 E,.int .i64 c,.int .i64 a,.int .i64 r'.top]) ∧
  Rd E A w w' r' (.agg #[.slice pn ln cn,.slice pl ll cl,.int .i64 E,.int .i64 c,.int .i64 a,.int .i64 r'.top])∧Below w0.heap.size w0 w'
def RmP (E:Nat) (A:Nat→Prop) (w w0:World) (p:RL) (e:Ending) (w':World):Prop :=
 ∃ pn ln cn pl ll cl c a kp kl kc,e=.returned (.tuple #[.agg #[.slice pn ln cn,.slice pl ll cl,.int .i64 E,.int .i64 c,.int .i64 a,.int .i64 p.1.top],.slice kp kl kc]) ∧
  Rd E A w w' p.1 (.agg #[.slice pn ln cn,.slice pl ll cl,.int .i64 E,.int .i64 c,.int .i64 a,.int .i64 p.1.top])∧Ls A w w' p.2 (.slice kp kl kc)∧Below w0.heap.size w0 w'
def FnB (E id:Nat) (ex:Array Value) (f:Rs→Option RL):Prop:=∀ (A:Nat→Prop) (w:World) (r:Rs) (q:RL) (v:Value),In A w→RdAt E A w r v→f r=some q→Calls Tryz.prog id (#[v] ++ ex) w (RdP E A w q.1)
def LpP (A:Nat→Prop) (w w0:World) (l:List Int) (k:Nat) (e:Ending) (w':World):Prop:=∃ p,e=.returned (.slice p k k)∧Ls A w w' l (.slice p k k)∧Below w0.heap.size w0 w'
section
variable {E:Nat}{A:Nat→Prop}{w W:World}{cr cs:Array Value}{q q':Rs}{v:Value}
theorem rq_of {e:Ending}{W':World}(h:RdP E (Two A w.heap.size) W q e W'):RqP E A w W q e W':=by
 obtain ⟨pn,ln,cn,pl,ll,cl,c,a,he,hr,hb⟩:=h
 exact ⟨pn,ln,cn,pl,ll,cl,c,a,he,⟨hr.out⟩,hb⟩
theorem isC (R:Rd E A w W q v) (s:ByteArray) {b:Bool}(hb:isR E s.data.toList q=b):Calls Tryz.prog 69 #[v,.string s] W (BlP b W):=R.out.isb s hb
theorem okC (R:Rd E A w W q v) {b:Bool}(hb:okR q=b):Calls Tryz.prog 38 #[v] W (BlP b W):=R.out.okb hb W
theorem pkC (R:Rd E A w W q v):Calls Tryz.prog 68 #[v] W (TkP E q W):=R.out.peekp
theorem skC (R:Rd E A w W q v):Calls Tryz.prog 70 #[v] W (RqP E A w W (skipR q)):=R.out.skipp.mono fun _ _ h=>rq_of h
theorem stC (R:Rd E A w W q v) (k:Int):Calls Tryz.prog 74 #[v,.int .i64 k] W (RqP E A w W (stopR E k q)):=(R.out.stopp k).mono fun _ _ h=>rq_of h
theorem waC (R:Rd E A w W q v) (s:ByteArray) {l:List UInt8}(hl:s.data.toList=l):Calls Tryz.prog 71 #[v,.string s] W (RqP E A w W (wantR E l q)):=hl ▸ (R.out.wantp s).mono fun _ _ h=>rq_of h
theorem faC {id:Nat}{ex:Array Value}{f:Rs→Option Rs}(hf:FnA E id ex f) (F:Fr A w W cr cs) (R:Rd E A w W q v) (h:Hid (f q=some q')):Calls Tryz.prog id (#[v] ++ ex) W (RqP E A w W q'):=(hf _ _ _ _ _ F.two R.out h.out).mono fun _ _ h=>rq_of h
theorem fbC {id:Nat}{ex:Array Value}{f:Rs→Option RL}(hf:FnB E id ex f) (F:Fr A w W cr cs) (R:Rd E A w W q v) {p:RL}(h:Hid (f q=some p)):Calls Tryz.prog id (#[v] ++ ex) W (RqP E A w W p.1):=(hf _ _ _ _ _ F.two R.out h.out).mono fun _ _ h=>rq_of h
theorem flC {id:Nat}{ex:Array Value}{f:Rs→Option RL}(hf:FnL E id ex f) (F:Fr A w W cr cs) (R:Rd E A w W q v) {p:RL}(h:Hid (f q=some p)):Calls Tryz.prog id (#[v] ++ ex) W (RmP E A w W p):=(hf _ _ _ _ _ F.two R.out h.out).mono fun _ _ ⟨pn,ln,cn,pl,ll,cl,c,a,kp,kl,kc,he,hr,hl,hb⟩=>⟨pn,ln,cn,pl,ll,cl,c,a,kp,kl,kc,he,⟨hr.out⟩,⟨hl.out⟩,hb⟩
theorem oneC (F:Fr A w W cr cs) (k:Int):Calls Tryz.prog 82 #[.int .i64 k] W (LpP A w W [k] 1):=(oneA k W F.two).mono fun _ _ ⟨p,he,hl,hb⟩=>⟨p,he,⟨hl.out⟩,hb⟩
theorem twoC (F:Fr A w W cr cs) (k m:Int):Calls Tryz.prog 73 #[.int .i64 k,.int .i64 m] W (LpP A w W [k,m] 2):=(twoA_ k m W F.two).mono fun _ _ ⟨p,he,hl,hb⟩=>⟨p,he,⟨hl.out⟩,hb⟩
theorem lsK (F:Fr A w W cr cs) (l:List Int) {g:Nat}(e:W.heap.size=g) {xs:Array Value}(hx:xs=(l.map (Value.int .i64)).toArray) {n:Nat}(hn:l.length=n):Ls A w (W.alloc (.cells xs 3)) l (.slice (some ⟨g,0,none⟩) n n):=by
 subst e hx hn
 have hB:=Blk.new W 3 (l.map (Value.int .i64)).toArray
 exact ⟨⟨_,_,rfl,fun _=>⟨_,_,rfl,hB.lt,fun ha=>Nat.lt_irrefl _ (F.two _ ha),fun j hj=>by rw [Nat.zero_add,hB.cell];simp [hj]⟩,Nat.le_refl _⟩⟩
theorem nilL (A:Nat→Prop) (w W:World):Ls A w W [] (.slice none 0 0):=⟨⟨none,0,rfl,fun h=>absurd h (Nat.lt_irrefl _),Nat.le_refl _⟩⟩
theorem adC (F:Fr A w W cr cs) (R:Rd E A w W q v) {ks:List Int}{kp:Option Addr}{kl kc:Nat}(L:Ls A w W ks (.slice kp kl kc)) (k n z a:Int) (x:ByteArray) {t:List UInt8}{m b:Int}(ht:x.data.toList=t) (hn:n=m) (ha:a=b) (hf:Hid (addR ⟨k,t,m,z,[],b⟩ ks q=some q')) :
  Calls Tryz.prog 40 #[v,.agg #[.int .i64 k,.string x,.int .i64 n,.int .i64 z,.slice none 0 0,.int .i64 a],.slice kp kl kc] W (RqP E A w W q'):=by
 subst ht hn ha
 exact (radd_any F.two R.out k n z a x L.out hf.out).mono fun _ _ h=>rq_of h
end
theorem kdT {E:Nat}{r:Rs}{k n a:Int}{x:ByteArray}(h:Hid (TokIs E r k x n a)) {m:Nat}{z:Int}(hz:(m:Int)=z) (e:(pk E r.L).k=m):(k == z)=true:=by rw [h.out.1,e,hz];simp
theorem kdF {E:Nat}{r:Rs}{k n a:Int}{x:ByteArray}(h:Hid (TokIs E r k x n a)) {m:Nat}{z:Int}(hz:(m:Int)=z) (e:¬ (pk E r.L).k=m):(k == z)=false:=by rw [h.out.1,beq_eq_false_iff_ne];omega
def NmP (k:Int) (w:World) (e:Ending) (w':World):Prop:=e=.returned (.int .i64 k)∧Below w.heap.size w w'
theorem rkC {E:Nat}{r:Rs}{k n a:Int}{x:ByteArray}(h:Hid (TokIs E r k x n a)) {rk:Nat}(e:rankT (pk E r.L).t=rk) (W:World):Calls Tryz.prog 120 #[.string x] W (NmP rk W):=by rw [← e,← h.out.txt];exact rank_any x W
theorem txC {E:Nat}{A:Nat→Prop}{w W:World}{r:Rs}{v:Value}{k n a:Int}{x:ByteArray}{b:Bool}(R:Rd E A w W r v) (h:Hid (TokIs E r k x n a)) (e:setT (pk E r.L).t=b):Calls Tryz.prog 72 #[.int .i64 39,.string x] W (BlP b W):=texts_b (R.out.small h.out) (by rw [h.out.txt];exact e) W
def Lp (E:Nat) (A:Nat→Prop) (w:World) (P:Rs→Prop) (W:World):Prop:=∃ rho p l m n o s z a,P rho ∧
 Fr A w W #[.slice p l m,.slice n o s,.int .i64 E,.int .i64 z,.int .i64 a,.int .i64 rho.top] #[.slice none 0 0,.slice none 0 0,.int .i64 0,.int .i64 0,.int .i64 0,.int .i64 0] ∧
 Rd E A w W rho (.agg #[.slice p l m,.slice n o s,.int .i64 E,.int .i64 z,.int .i64 a,.int .i64 rho.top])
theorem tx_ {E:Nat}{r:Rs}{k n a:Int}{x:ByteArray}(h:Hid (TokIs E r k x n a)):x.data.toList=(pk E r.L).t:=h.out.txt
theorem tv_ {E:Nat}{r:Rs}{k n a:Int}{x:ByteArray}(h:Hid (TokIs E r k x n a)):n=(pk E r.L).v:=h.out.2.2.1
theorem ta_ {E:Nat}{r:Rs}{k n a:Int}{x:ByteArray}(h:Hid (TokIs E r k x n a)):a=(pk E r.L).a:=h.out.2.2.2
section
variable {α β:Type}{x a b:Option α}{o:Option β}{f:α→Option β}{y z:α}{u:β}{c:Bool}{q:RL}
theorem bnd (h:Hid (x.bind f=some u)):∃ a,Hid (x=some a)∧Hid (f a=some u):=bind_some h.out
theorem aln {o:Option Rs}(h:Hid (alone o=some q)):∃ r',Hid (o=some r')∧q=(r',[]):=by
 cases o with
 | none=>cases h.out
 | some r'=>exact ⟨r',Lib.hid rfl,(Option.some.inj h.out).symm⟩
theorem ifT (h:Hid ((if c=true then a else b)=x)) (hc:c=true):Hid (a=x):=by rw [if_pos hc] at h;exact h
theorem ifF (h:Hid ((if c=true then a else b)=x)) (hc:c=false):Hid (b=x):=by rw [if_neg (by rw [hc];decide)] at h;exact h
theorem ifN {c:Prop}[Decidable c] (h:Hid ((if c then none else b)=some z)):¬c∧Hid (b=some z):=by
 by_cases hc:c
 ·rw [if_pos hc] at h;cases h.out
 ·rw [if_neg hc] at h;exact ⟨hc,h⟩
theorem sm (h:Hid (some y=some z)):z=y:=(Option.some.inj h.out).symm
end
def anyF (Q:Exit→Act→World→Prop) (S:World→Prop) (f:Nat) (ops:Array Oper):Nat→Array Bool→Act→World→Prop
 | 0,l,a,w=>Region.ready .any ops l=[]∧Q .normal a w
 | n+1,l,a,w=>(Region.ready .any ops l=[]→Q .normal a w)∧∀ i ∈ Region.ready .any ops l,wpOp Tryz.prog ops Q i (fun a' w'=>(i=f∨S w')∧anyF Q S f ops n (l.setIfInBounds i true) a' w') a w
def lastB (ops:Array Oper) (f:Nat):Bool:=(List.range ops.size).all fun i=>i == f || match ops[f]? with
 | some o=>o.after.any fun e=>Region.binds .any e && e.on == i
 | none=>true
section
variable {ops:Array Oper}{Q:Exit→Act→World→Prop}{S:World→Prop}{f:Nat}
theorem anyF_any:∀ (n:Nat) (l:Array Bool) (a:Act) (w:World),anyF Q S f ops n l a w→wpAny Tryz.prog .any ops Q n l a w
 | 0,_,_,_,h=>h
 | n+1,_,_,_,h=>⟨h.1,fun i hi=>wpOp_mono (fun _ _ k=>anyF_any n _ _ _ k.2) (h.2 i hi)⟩
theorem last_spec (hl:lastB ops f=true) {i:Nat}(hi:i<ops.size) (hne:i≠f) {o:Oper}(ho:ops[f]? = some o):∃ e,e ∈ o.after∧Region.binds .any e=true∧e.on=i:=by
 have h:=List.all_eq_true.1 hl i (List.mem_range.2 hi)
 rw [ho] at h
 simp only [Bool.or_eq_true,beq_iff_eq,hne,false_or,Array.any_eq_true,Bool.and_eq_true] at h
 obtain ⟨k,hk,h1,h2⟩:=h
 exact ⟨_,Array.getElem_mem hk,h1,h2⟩
theorem anyF_first {i:Nat}{oi:Oper}{v:Value}(hi:ops[i]? = some oi) (hs:Region.noSelect ops=true) (hl:lastB ops f=true) (hf:i≠f):∀ (n:Nat) (l:Array Bool) (a:Act) (w:World),
  (∀ j oj,ops[j]? = some oj→j≠i→l.getD j true=false→(∀ e ∈ oj.after,Region.binds .any e=true→e.on≠i)→oi.apart ops oj=true)→i ∈ Region.ready .any ops l→YieldsIf Tryz.prog ops S oi v a→S w →
  anyF (NoPanic Q) S f ops n (l.setIfInBounds i true) (a.put oi.dst v) w→anyF (NoPanic Q) S f ops (n+1) l a w:=by
 have sel:=Region.noSelect_spec hs
 have hlt:i<ops.size:=(Array.getElem?_eq_some_iff.1 hi).1
 intro n
 induction n with
 | zero =>
  intro l a w _ hr hy hS H
  refine ⟨fun e=>absurd hr (by rw [e];exact List.not_mem_nil),fun j hj=>?_⟩
  by_cases e:j=i
  ·exact e ▸ hy.wpOp hi hS ⟨Or.inr hS,H⟩
  ·have:=ready_mono hj e
   rw [H.1] at this
   exact absurd this List.not_mem_nil
 | succ n ih =>
  intro l a w hfree hr hy hS H
  refine ⟨fun e=>absurd hr (by rw [e];exact List.not_mem_nil),fun j hj=>?_⟩
  by_cases e:j=i
  ·exact e ▸ hy.wpOp hi hS ⟨Or.inr hS,H⟩
  obtain ⟨hun,oj,hoj,hall⟩:=mem_ready.1 hj
  have hnot:∀ e ∈ oj.after,Region.binds .any e=true→e.on≠i:=fun d hd hb he=>by
   have h0:=(mem_ready.1 hr).1
   have h1:=hall d hd hb
   rw [he,Array.getD_eq_getD_getElem?] at h1
   rw [Array.getD_eq_getD_getElem?] at h0
   cases hx:l[i]? with
   | none=>rw [hx] at h1;cases h1
   | some x=>rw [hx] at h0 h1;exact absurd (h1.symm.trans h0) (by decide)
  have hjf:j≠f:=fun ef=>by
   obtain ⟨d,hd,hb,he⟩:=last_spec hl hlt hf (ef ▸ hoj)
   exact hnot d hd hb he
  refine wpOp_mono (fun a' w' h3=>?_) (wpOp_putIf hoj (hfree j oj hoj e hun hnot) (fun cs b=>sel i oi cs b hi) (fun cs b=>sel j oj cs b hoj) (fun _ _ _ h=>h) hy (H.2 j (ready_mono hj e)))
  have hS':S w':=h3.2.1.resolve_left hjf
  refine ⟨h3.2.1,ih _ a' w' (fun k ok hk hki hku hno=>hfree k ok hk hki ?_ hno) (ready_mono hr (Ne.symm e)) h3.1 hS' (by rw [Array.setIfInBounds_comm _ _ e];exact h3.2.2)⟩
  by_cases hjk:j=k
  ·exact hjk ▸ hun
  ·rwa [getD_set_ne true hjk] at hku
end
theorem rg {id:Nat}{ops:Array Oper}{Q:Exit→Act→World→Prop}{a:Act}{w:World}{S:World→Prop}(f:Nat) (hS:S w.drew)
  (h:S w.drew→anyF (NoPanic Q) S f ops ops.size (Array.replicate ops.size false) a w.drew):(Code.region id ops true).wp Tryz.prog Q a w :=
 wp_region_noPanic (wp_region_any (by kernel_rfl) (anyF_any _ _ _ _ (h hS)))
def Tks (ops:Array Oper) (S:World→Prop):List Nat→Act→(Act→Prop)→Prop
 | [],a,k=>k a
 | i :: is,a,k=>∃ v oi,ops[i]? = some oi∧Region.wanted oi (yielded ops a.tmps)=true∧(∀ w,S w→(execOp a.eval oi).run Tryz.prog w=.ok (.value v) w)∧Tks ops S is (a.put oi.dst v) k
def tksB (ops:Array Oper) (f:Nat):List Nat→Array Bool→Bool
 | [],_=>true
 | i :: is,l=>Region.noSelect ops && lastB ops f && i != f && Region.free .any ops l i && (Region.ready .any ops l).contains i && tksB ops f is (l.setIfInBounds i true)
def marks:List Nat→Array Bool→Array Bool
 | [],l=>l
 | i :: is,l=>marks is (l.setIfInBounds i true)
theorem tks {ops:Array Oper}{Q:Exit→Act→World→Prop}{w:World}{S:World→Prop}{f:Nat}(hS:S w):∀ (is:List Nat) {a:Act}{n:Nat}{l:Array Bool},tksB ops f is l=true →
  Tks ops S is a (fun a'=>anyF (NoPanic Q) S f ops n (marks is l) a' w)→anyF (NoPanic Q) S f ops (n+is.length) l a w
 | [],_,_,_,_,h=>h
 | i :: is,a,n,l,hb,h=>by
  obtain ⟨v,oi,ho,hw,hy,h⟩:=h
  unfold tksB at hb
  simp only [Bool.and_eq_true,bne_iff_ne] at hb
  obtain ⟨⟨⟨⟨⟨h1,h2⟩,h3⟩,h4⟩,h5⟩,h6⟩:=hb
  exact anyF_first ho h1 h2 h3 (n+is.length) l a w (fun j oj=>Region.free_spec ho h4 j oj) (by simpa using h5) (Or.inl ⟨hw,hy⟩) hS (tks hS is h6 h)
theorem rdy {ops:Array Oper}{Q:Exit→Act→World→Prop}{a:Act}{w:World}{S:World→Prop}{n f:Nat}{l:Array Bool}(i:Nat) {oi:Oper}(hr:Region.ready .any ops l=[i]) (ho:ops[i]? = some oi)
  (h:∀ K':Act→World→Prop,Shut (∀ a w,S w→(S w→anyF (NoPanic Q) S f ops n (l.setIfInBounds i true) a w)→K' a w)→if Region.wanted oi (yielded ops a.tmps)=true then Oper.wp Tryz.prog oi a w K' (NoPanic Q) else K' (a.put oi.dst undef) w) :
  anyF (NoPanic Q) S f ops (n+1) l a w:=by
 refine ⟨fun e=>(by rw [hr] at e;cases e),fun j hj=>?_⟩
 rw [hr,List.mem_singleton] at hj
 subst hj
 exact wpOp_step ho fun K hK=>h K fun a w hS h2=>hK a w ⟨Or.inr hS,h2 hS⟩
theorem anyF_done {ops:Array Oper}{Q:Exit→Act→World→Prop}{S:World→Prop}{f:Nat}{l:Array Bool}{a:Act}{w:World}(hr:Region.ready .any ops l=[]) (h:Q .normal a w):∀ n,anyF Q S f ops n l a w
 | 0=>⟨hr,h⟩
 | _+1=>⟨fun _=>h,fun i hi=>by rw [hr] at hi;cases hi⟩
theorem rdl {ops:Array Oper}{Q:Exit→Act→World→Prop}{a:Act}{w:World}{S:World→Prop}{n f:Nat}{l:Array Bool}{oi:Oper}(hr:Region.ready .any ops l=[f]) (hd:Region.ready .any ops (l.setIfInBounds f true)=[]) (ho:ops[f]? = some oi)
  (h:∀ K':Act→World→Prop,Shut (∀ a w,Q .normal a w→K' a w)→if Region.wanted oi (yielded ops a.tmps)=true then Oper.wp Tryz.prog oi a w K' (NoPanic Q) else K' (a.put oi.dst undef) w) :
  anyF (NoPanic Q) S f ops (n+1) l a w:=by
 refine ⟨fun e=>(by rw [hr] at e;cases e),fun j hj=>?_⟩
 rw [hr,List.mem_singleton] at hj
 subst hj
 exact wpOp_step ho fun K hK=>h K fun a w hq=>hK a w ⟨Or.inl rfl,anyF_done hd (NoPanic.normal hq) _⟩
end
section
open Go.RowKit
open Tk (T4 bstr)
theorem bracket_R {E:Nat}{ex:Rs→Option RL}(hex:FnB E 34 #[] ex):FnA E 208 #[] (bracketR E ex):=by
 intro A w r q v hA h hf
 have H:Hid (bracketR E ex r=some q):=Lib.hid hf
 clear hf
 obtain ⟨p0,l0,m0,n0,o0,s0,z0,a0,rfl⟩:=h.parts
 have F:=frN hA h;have R0:=rdN h
 clear hA h
 go_enter Tryz.func208,Tryz.ntmps208
 go_wp2_with (go_at_call 71;refine (waC R0 ⟨#[40]⟩ (l:=[40]) rfl).mono ?_)
 rintro e u ⟨p1,l1,m1,n1,o1,s1,z1,a1,rfl,R1,b⟩;replace F:=frC F b;clear R0;clear b
 have c:=F.all
 replace H:=bnd H;obtain ⟨q2,h2,H⟩:=H
 go_wp2_with (go_at_call 34;refine (fbC hex F R1 h2).mono ?_)
 rintro e u ⟨p2,l2,m2,n2,o2,s2,z2,a2,rfl,R2,b⟩;replace F:=frC F b;clear R1;clear b
 clear c;have c:=F.all
 go_wp2_with (go_at_call 71;refine (waC R2 ⟨#[41]⟩ (l:=[41]) rfl).mono ?_)
 rintro e u ⟨p3,l3,m3,n3,o3,s3,z3,a3,rfl,R3,b⟩;replace F:=frC F b;clear R2;clear b
 clear c;have c:=F.all
 replace F:=frS F R3;replace R3:=rdS R3
 obtain rfl:=sm H
 go_wp2
 refine R3.fin F ?_ rfl
 simp [results,Tryz.results208,go_sem,st6,c]
theorem nothing_R (E:Nat):FnA E 235 #[] (nothingR E):=by
 intro A w r q v hA h hf
 have H:Hid (nothingR E r=some q):=Lib.hid hf
 clear hf
 have f3:=fldT3
 obtain ⟨p0,l0,m0,n0,o0,s0,z0,a0,rfl⟩:=h.parts
 have F:=frN hA h;have R0:=rdN h
 clear hA h
 go_enter Tryz.func235,Tryz.ntmps235
 go_wp2
 replace F:=frD F;replace R0:=rdD R0
 refine rg 6 (S:=fun W=>Q6 _ _ _ _ _ _ _ W) F.held fun hW=>?_
 refine tks hW [0,1] (n:=5) (by kernel_rfl) ?_
 iterate 2 (refine ⟨?_,_,rfl,rfl,fun W hW=>?_,?_⟩;rotate_left;· (simp only [Q6,Q4] at hW;go_simp;(try with_reducible rfl)))
 (try simp only [Tks,marks,Act.put,List.setIfInBounds_toArray,List.set_cons_zero,List.set_cons_succ])
 refine rdy 2 (by kernel_rfl) rfl fun K hK=>?_
 go_simp
 refine (pkC R0).mono ?_
 rintro e u ⟨k1,x1,y1,t1,rfl,T1,b⟩;replace F:=frC F b;replace R0:=rdC R0 b;clear b
 have c:=F.all
 (try go_wp2_with fail)
 refine hK.out _ _ F.held fun hW=>?_
 clear hK K
 (try simp only [Tks,marks,Act.put,List.setIfInBounds_toArray,List.set_cons_zero,List.set_cons_succ])
 refine tks hW [3,4] (n:=2) (by kernel_rfl) ?_
 iterate 2 (refine ⟨?_,_,rfl,rfl,fun W hW=>?_,?_⟩;rotate_left;· (simp only [Q6,Q4] at hW;go_simp;(try with_reducible rfl)))
 (try simp only [Tks,marks,Act.put,List.setIfInBounds_toArray,List.set_cons_zero,List.set_cons_succ])
 refine rdy 5 (by kernel_rfl) rfl fun K hK=>?_
 go_simp
 refine (adC F R0 (nilL _ _ _) 24 0 0 _ ⟨#[]⟩ rfl rfl (ta_ T1) H).mono ?_
 rintro e u ⟨p2,l2,m2,n2,o2,s2,z2,a2,rfl,R2,b⟩;replace F:=frC F b;clear R0;clear b
 clear c;have c:=F.all
 (try go_wp2_with fail)
 refine hK.out _ _ F.held fun hW=>?_
 clear hK K
 (try simp only [Tks,marks,Act.put,List.setIfInBounds_toArray,List.set_cons_zero,List.set_cons_succ])
 refine rdl (by kernel_rfl) (by kernel_rfl) rfl fun K hK=>?_
 go_simp
 replace F:=frS F R2;replace R2:=rdS R2
 refine hK.out _ _ ?_
 clear hK K
 go_wp2
 refine R2.fin F ?_ rfl
 simp [results,Tryz.results235,go_sem,st6,c]
theorem bare_R {E:Nat}{ex:Rs→Option RL}(hex:FnB E 34 #[] ex):FnA E 236 #[] (bareR E ex):=by
 intro A w r q v hA h hf
 have H:Hid (bareR E ex r=some q):=Lib.hid hf
 clear hf
 have f3:=fldT3
 obtain ⟨p0,l0,m0,n0,o0,s0,z0,a0,rfl⟩:=h.parts
 have F:=frN hA h;have R0:=rdN h
 clear hA h
 go_enter Tryz.func236,Tryz.ntmps236
 go_wp2_with (go_at_call 68;refine (pkC R0).mono ?_)
 rintro e u ⟨k1,x1,y1,t1,rfl,T1,b⟩;replace F:=frC F b;replace R0:=rdC R0 b;clear b
 have c:=F.all
 replace H:=bnd H;obtain ⟨q2,h2,H⟩:=H
 go_wp2_with (go_at_call 34;refine (fbC hex F R0 h2).mono ?_)
 rintro e u ⟨p2,l2,m2,n2,o2,s2,z2,a2,rfl,R2,b⟩;replace F:=frC F b;replace R0:=rdC R0 b;clear b
 clear c;have c:=F.all
 clear R0;replace F:=frR F R2;replace R2:=rdR R2
 go_wp2
 replace F:=frD F;replace R2:=rdD R2
 refine rg 7 (S:=fun W=>Q6 _ _ _ _ _ _ _ W) F.held fun hW=>?_
 refine tks hW [0,1,2,3,4] (n:=3) (by kernel_rfl) ?_
 iterate 5 (refine ⟨?_,_,rfl,rfl,fun W hW=>?_,?_⟩;rotate_left;· (simp only [Q6,Q4] at hW;go_simp;(try with_reducible rfl)))
 (try simp only [Tks,marks,Act.put,List.setIfInBounds_toArray,List.set_cons_zero,List.set_cons_succ])
 refine rdy 5 (by kernel_rfl) rfl fun K hK=>?_
 go_simp
 refine (oneC F _).mono ?_
 rintro e u ⟨p3,rfl,L3,b⟩;replace F:=frC F b;replace R2:=rdC R2 b;clear b
 clear c;have c:=F.all
 (try go_wp2_with fail)
 refine hK.out _ _ F.held fun hW=>?_
 clear hK K
 (try simp only [Tks,marks,Act.put,List.setIfInBounds_toArray,List.set_cons_zero,List.set_cons_succ])
 refine rdy 6 (by kernel_rfl) rfl fun K hK=>?_
 go_simp
 refine (adC F R2 L3 13 0 0 _ ⟨#[]⟩ rfl rfl (ta_ T1) H).mono ?_
 rintro e u ⟨p4,l4,m4,n4,o4,s4,z4,a4,rfl,R4,b⟩;replace F:=frC F b;clear R2;clear L3;clear b
 clear c;have c:=F.all
 (try go_wp2_with fail)
 refine hK.out _ _ F.held fun hW=>?_
 clear hK K
 (try simp only [Tks,marks,Act.put,List.setIfInBounds_toArray,List.set_cons_zero,List.set_cons_succ])
 refine rdl (by kernel_rfl) (by kernel_rfl) rfl fun K hK=>?_
 go_simp
 replace F:=frS F R4;replace R4:=rdS R4
 refine hK.out _ _ ?_
 clear hK K
 go_wp2
 refine R4.fin F ?_ rfl
 simp [results,Tryz.results236,go_sem,st6,c]
end
end Go.Proofs.YtbjacclfhgnffaaGreatDoor
