/-
  Joined texts of this claim: Qg, Qh, Qi, Qk, Qj, Ql, Qn, Va.
-/
import Derived.Test.YtdjpopebeenlmaaGreatDoorW00
import Derived.Test.YtdjpopebeenlmaaGreatDoorW12
import Derived.Deep.AppendLies
import Derived.Deep.RegionHeld3
import Derived.Deep.RegionWith
set_option maxHeartbeats 40000000
set_option maxRecDepth 100000
set_option linter.unusedVariables false
set_option linter.unusedSimpArgs false
namespace Go.Proofs.YtdjpopebeenlmaaGreatDoor
section
open Go.RowKit
open Tk (T4 bstr)
open Tr (Nd Blk KidsAt)

def nodeV (x:Mn):Value:=.agg #[.int .i64 x.k,.string (bstr x.t),.int .i64 x.n,.int .i64 x.z,.slice none 0 0,.int .i64 x.a]
theorem info3:(Tryz.prog.info? 3).map (fun i=>(i.zero,i.size,i.bytes))=some (some (.int .i64 0),1,8):=by kernel_rfl
theorem info36:(Tryz.prog.info? 34).map (fun i=>(i.zero,i.size,i.bytes))=some (some (.agg #[.int .i64 0,.string ⟨#[]⟩,.int .i64 0,.int .i64 0,.slice none 0 0,.int .i64 0]),6,72):=by kernel_rfl
theorem news_drew {w:World}{g:Nat}{t:TypeId}{cs:Array Value}(h:Blk w g t cs):∀ j u,cs.toList[j]? = some u→w.drew.cell? ((⟨g,0,none⟩ : Addr).add j)=some u:=World.news_of_block (w:=w.drew) h

/-- behind an append and a store into the box -/
structure GS (B:Nat) (row:Option Nat) (w w':World):Prop where
  os:w'.os=w.os
  tape:w'.tape=w.tape
  output:w'.output=w.output
  size:w.heap.size≤w'.heap.size
  block:∀ b,b<w.heap.size→b≠B→row≠some b→w'.heap[b]? = w.heap[b]?
theorem gs_of {B:Nat}{row:Option Nat}{w w4:World}{o:Obj}(hg:(w.alloc o).drew.grownBy w4 row) (i:Nat) (v:Value):GS B row w (w4.setCell ⟨B,i,none⟩ v) :=
  ⟨hg.os,hg.tape,hg.output,by have:=hg.size;simp [World.setCell] at *;omega,fun b hb hn hr=>by
    rw [Below.heap_setCell _ _ _ _ hn,hg.block b (by simp;omega) (fun e=>hr e.symm)]
    exact Below.heap_alloc _ _ _ hb⟩
theorem blk_grown {B T:Nat}{row:Option Nat}{w w4:World}{o:Obj}{cs:Array Value}(hg:(w.alloc o).drew.grownBy w4 row) (hb:Blk w B T cs) (hr:row≠some B):Blk w4 B T cs:=by
  have hl:=hb.lt
  exact ((hg.block B (by simp;omega) (fun e=>hr e.symm)).trans (Below.heap_alloc _ _ _ hl)).trans hb
/-- the kids of the node that is laid -/
def KidK (w w2:World) (p:Option Addr) (c:List Int):Prop:=0<c.length→∃ g,p=some ⟨g,0,none⟩∧w.heap.size≤g∧g<w2.heap.size∧∀ j,(h:j<c.length)→w2.cell? ⟨g,j,none⟩=some (.int .i64 c[j])
theorem rowN_snoc (l:List Nd) (x:Nd):rowN (l ++ [x])=rowN l ++ cells6 x:=by simp [rowN]

theorem add_end {B T E:Nat}{w w2 w5 w8:World}{s:S3}{vT vN vL vN' vL':Value}{ns:List Nd}{x:Mn}{mark:Nat}{p:Option Addr}{kc:Nat}{tt:ByteArray}(h:PS B T E w s vT vN vL ns)
    (hb2:Below w.heap.size w w2) (hk:KidK w w2 p (s.O.drop mark)) (htt:tt.data.toList=x.t)
    (g5:GS B vL.ownBlock w2 w5) (o5:w5.ownsRow (B+1) 3 1 vL' (mark+1) (intV (s.O.take mark) ++ [.int .i64 (s.N.length:Int)])) (l5:∀ g,vL'.ownBlock=some g→vL.ownBlock=some g∨w2.heap.size≤g)
    (g8:GS B vN.ownBlock w5 w8) (b8:Blk w8 B T #[vT,.int .i64 E,vN',vL'])
    (o8:w8.ownsRow (B+1) 34 6 vN' (ns.length+1) (rowN ns ++ [.int .i64 x.k,.string tt,.int .i64 x.n,.int .i64 x.z,.slice p (s.O.drop mark).length kc,.int .i64 x.a])) (l8:∀ g,vN'.ownBlock=some g→vN.ownBlock=some g∨w5.heap.size≤g)
    (hm:mark≤s.O.length) (hN:s.N.length<5000000) (hkc:(s.O.drop mark).length≤kc) :
    Ext B w w8∧PS B T E w8 { s with N:=s.N ++ [{ x with c:=s.O.drop mark }],O:=s.O.take mark ++ [(s.N.length:Int)] } vT vN' vL' (ns ++ [⟨x.k,tt,x.n,x.z,p,kc,s.O.drop mark,x.a⟩]):=by
  have hB:=h.lt
  have hoc:=h.own_cases
  have s2:=hb2.size
  have s5:=g5.size
  have s8:=g8.size
  have lN:∀ g,vN.ownBlock=some g→B+1≤g∧g<w.heap.size:=h.nod.lt
  have lL:∀ g,vL.ownBlock=some g→B+1≤g∧g<w.heap.size:=h.loo.lt
  have lL':∀ g,vL'.ownBlock=some g→B+1≤g∧g<w5.heap.size:=o5.lt
  have hoc8:∀ g,Own B w8 g ↔ (g=B∨vN'.ownBlock=some g∨vL'.ownBlock=some g):=fun g=>by
    have e2:w8.cell? ⟨B,2,none⟩=some vN':=by rw [b8.cell];rfl
    have e3:w8.cell? ⟨B,3,none⟩=some vL':=by rw [b8.cell];rfl
    unfold Own;rw [e2,e3];simp
  have hown:∀ g,Own B w8 g→Own B w g∨w2.heap.size≤g:=fun g hg=>by
    rcases (hoc8 g).1 hg with h1 | h1 | h1
    · exact Or.inl ((hoc g).2 (Or.inl h1))
    · rcases l8 g h1 with h2 | h2
      · exact Or.inl ((hoc g).2 (Or.inr (Or.inl h2)))
      · exact Or.inr (by omega)
    · rcases l5 g h1 with h2 | h2
      · exact Or.inl ((hoc g).2 (Or.inr (Or.inr h2)))
      · exact Or.inr h2
  have hsame:∀ b,b<w2.heap.size→¬ Own B w b→w8.heap[b]? = w2.heap[b]?:=fun b hb hn=>by
    rw [g8.block b (by omega) (fun e=>hn ((hoc b).2 (Or.inl e))) (fun e=>hn ((hoc b).2 (Or.inr (Or.inl e))))]
    exact g5.block b hb (fun e=>hn ((hoc b).2 (Or.inl e))) (fun e=>hn ((hoc b).2 (Or.inr (Or.inr e))))
  have hold:∀ b,b<w.heap.size→¬ Own B w b→w8.heap[b]? = w.heap[b]?:=fun b hb hn=>(hsame b (by omega) hn).trans (hb2.block b hb)
  have hfree:∀ b,b<w2.heap.size→¬ Own B w b→¬ Own B w8 b:=fun b hb hn ho=>(hown b ho).elim hn (fun hle=>by omega)
  refine ⟨⟨by rw [g8.os,g5.os,hb2.os],by rw [g8.tape,g5.tape,hb2.tape],by rw [g8.output,g5.output,hb2.output],by omega,hold,fun g ho=>(hown g ho).elim Or.inl (fun hle=>Or.inr (by omega))⟩,?_⟩
  refine { box:=b8,tok:=?_,nod:=?_,kid:=?_,loo:=?_,sep:=?_,eqN:=?_,lenO:=?_,lenN:=?_,lenL:=h.lenL,kl:=?_,caps:=?_ }
  · obtain ⟨p',cap,hv,h1,h2,h3⟩:=h.tok
    refine ⟨p',cap,hv,h1,h2,fun hc=>?_⟩
    obtain ⟨b,o,hp,hl,hn,ht⟩:=h3 hc
    exact ⟨b,o,hp,by omega,hfree b (by omega) hn,ht.same (hold b hl hn)⟩
  · rw [rowN_snoc,List.length_append];exact o8
  · intro i hi h0
    by_cases hlt:i<ns.length
    · rw [List.getElem_append_left hlt] at h0 ⊢
      obtain ⟨b,hb0,hp,hl,hn,hc⟩:=h.kid i hlt h0
      refine ⟨b,hb0,hp,by omega,hfree b (by omega) hn,fun j hj=>?_⟩
      exact (World.cell?_of_block (a:=⟨b,j,none⟩) (hold b hl hn)).trans (hc j hj)
    · have hie:i=ns.length:=by simp at hi;omega
      subst hie
      have e:(ns ++ [(⟨x.k,tt,x.n,x.z,p,kc,s.O.drop mark,x.a⟩ : Nd)])[ns.length]=⟨x.k,tt,x.n,x.z,p,kc,s.O.drop mark,x.a⟩:=by simp
      rw [e] at h0 ⊢
      obtain ⟨g,hp,hl,hl2,hc⟩:=hk h0
      have hn:¬ Own B w g:=fun ho=>by
        rcases (hoc g).1 ho with h1 | h1 | h1
        · omega
        · have:=lN g h1;omega
        · have:=lL g h1;omega
      refine ⟨g,by omega,hp,by omega,hfree g hl2 hn,fun j hj=>?_⟩
      exact (World.cell?_of_block (a:=⟨g,j,none⟩) (hsame g hl2 hn)).trans (hc j hj)
  · have hlen:(s.O.take mark ++ [(s.N.length:Int)]).length=mark+1:=by rw [List.length_append,List.length_take];simp;omega
    show w8.ownsRow (B+1) 3 1 vL' (s.O.take mark ++ [(s.N.length:Int)]).length (intV (s.O.take mark ++ [(s.N.length:Int)]))
    rw [hlen]
    have e:intV (s.O.take mark ++ [(s.N.length:Int)])=intV (s.O.take mark) ++ [.int .i64 (s.N.length:Int)]:=by unfold intV;rw [List.map_append];rfl
    rw [e]
    refine ⟨o5.1,?_⟩
    rcases o5.2 with h1 | ⟨g,cap,cur,hv,hg,hh,r⟩
    · exact Or.inl h1
    · have hob:vL'.ownBlock=some g:=by rw [hv];rfl
      refine Or.inr ⟨g,cap,cur,hv,hg,?_,r⟩
      rw [g8.block g (lL' g hob).2 (by omega) (fun hN'=>?_)]
      · exact hh
      · rcases l5 g hob with h2 | h2
        · exact h.sep g hN' h2
        · have:=lN g hN';omega
  · intro g h1 h2
    rcases l8 g h1 with h3 | h3
    · rcases l5 g h2 with h4 | h4
      · exact h.sep g h3 h4
      · have:=lN g h3;omega
    · have:=(lL' g h2).2;omega
  · show (ns ++ [_]).map bare=s.N ++ [_]
    rw [List.map_append,h.eqN]
    simp [bare,htt]
  · show (s.O.take mark ++ [_]).length≤(s.N ++ [_]).length
    have:=h.lenO
    simp;omega
  · show (s.N ++ [_]).length≤5000000
    simp;omega
  · intro y hy
    have hy:y ∈ s.N ++ [({ x with c:=s.O.drop mark }:Mn)]:=hy
    rcases List.mem_append.1 hy with h1 | h1
    · exact h.kl y h1
    · simp at h1
      subst h1
      have h2:=h.lenO
      have h3:=h.lenN
      show (s.O.drop mark).length≤5000000
      rw [List.length_drop];omega
  · intro i hi
    by_cases hlt:i<ns.length
    · rw [List.getElem_append_left hlt];exact h.caps i hlt
    · have hie:i=ns.length:=by simp at hi;omega
      subst hie
      have e:(ns ++ [(⟨x.k,tt,x.n,x.z,p,kc,s.O.drop mark,x.a⟩ : Nd)])[ns.length]=⟨x.k,tt,x.n,x.z,p,kc,s.O.drop mark,x.a⟩:=by simp
      rw [e];exact hkc
end
section
open Go.RowKit
open Tk (T4 bstr)
open Tr (Nd Blk KidsAt)

theorem own_pre {w W:World}{base n cap mark g:Nat}{xs:List Value}(h:w.ownsRow base 3 1 (.slice (some ⟨g,0,none⟩) n cap) n xs) (hm:mark≤n) (hb:W.heap[g]? = w.heap[g]?) :
    W.ownsRow base 3 1 (.slice (some ⟨g,0,none⟩) mark cap) mark (xs.take mark):=by
  rcases h.2 with ⟨h1,_⟩ | ⟨g',cap',cur,h1,h2,h3,h4,h5,h6,h7⟩
  · cases h1
  · cases h1
    have hx:=h.1
    refine ⟨by rw [List.length_take];omega,Or.inr ⟨g,cap,cur,rfl,h2,hb.trans h3,by omega,h5,h6,?_⟩⟩
    rw [← h7,List.take_take,Nat.mul_one,Nat.mul_one,Nat.min_eq_left hm]
theorem intV_take (l:List Int) (m:Nat):intV (l.take m)=(intV l).take m:=by unfold intV;rw [List.map_take]
def AddPost (B T E:Nat) (w:World) (r:R3) (e:Ending) (w':World):Prop:=e=.returned (.tuple #[])∧∃ s',r=.ok s'∧Ext B w w'∧Ps B T E w' s'
theorem addPost {B T E:Nat}{w w':World}{s:S3}{x:Mn}{mark:Nat}(hm:mark≤s.O.length) (hN:s.N.length<5000000)
    (h:Ext B w w'∧Ps B T E w' { s with N:=s.N ++ [{ x with c:=s.O.drop mark }],O:=s.O.take mark ++ [(s.N.length:Int)] }):AddPost B T E w (addF x mark s) (.returned (.tuple #[])) w' :=
  ⟨rfl,_,by unfold addF;rw [if_neg (by omega)],h.1,h.2⟩
theorem kid_new {w w2:World}{gk n kc:Nat}{l:List Int}(h:w2.ownsRow w.heap.size 3 1 (.slice (some ⟨gk,0,none⟩) n kc) n (intV l)):KidK w w2 (some ⟨gk,0,none⟩) l:=fun _ =>
  ⟨gk,rfl,(h.lt gk rfl).1,(h.lt gk rfl).2,fun j hj=>by
    have h1:=h.cells (g:=gk) rfl j (.int .i64 l[j]) (by unfold intV;simp [hj])
    have hadd:(⟨gk,0,none⟩ : Addr).add j=⟨gk,j,none⟩:=by unfold Addr.add;split <;> simp_all
    rwa [hadd] at h1⟩

set_option maxHeartbeats 8000000 in
set_option maxRecDepth 100000 in
theorem add_some {B T E:Nat}{w:World}{s:S3}{vT vN:Value}{ns:List Nd}{g n cap:Nat}(h:PS B T E w s vT vN (.slice (some ⟨g,0,none⟩) n cap) ns) (hn:n=s.O.length) (mark:Nat) (hm:mark<n) (hN:s.N.length<5000000) (k nn z a:Int) (x:Mn) (t:ByteArray) (htt:t.data.toList=x.t) :
    Calls Tryz.prog 132 #[.pointer (some ⟨B,2,none⟩),.agg #[.int .i64 k,.string t,.int .i64 nn,.int .i64 z,.slice none 0 0,.int .i64 a],.int .i64 mark] w (AddPost B T E w (addF ⟨k,x.t,nn,z,[],a⟩ mark s)):=by
  obtain ⟨Q,hQ⟩ : ∃ Q:Ending→World→Prop,Q=AddPost B T E w (addF ⟨k,x.t,nn,z,[],a⟩ mark s):=⟨_,rfl⟩
  rw [← hQ]
  have HQ:=Lib.hid hQ
  clear hQ
  have Ht:=Lib.hid htt
  clear htt
  have hloo:=h.loo
  rw [← hn] at hloo
  have hcap:n≤cap:=by
    rcases hloo.2 with ⟨h,_⟩ | ⟨g',cap',cur,h,_,_,h2,_⟩
    · cases h
    · cases h;exact h2
  have hg:B+1≤g∧g<w.heap.size:=hloo.lt g rfl
  have hB:=h.lt
  have hO2:=h.lenO
  have hN2:=h.lenN
  rw [← hn] at hO2
  have c3:w.cell? ⟨B,3,none⟩=some (.slice (some ⟨g,0,none⟩) n cap):=by rw [h.box.cell];rfl
  have c2:w.cell? ⟨B,2,none⟩=some vN:=by rw [h.box.cell];rfl
  have hml:mark≤n:=by omega
  have hmc:mark<cap:=by omega
  have hmcl:mark≤cap:=by omega
  have HLoo:=Lib.hid hloo
  have HP:=Lib.hid h
  have Hn:=Lib.hid hn
  obtain ⟨i0,hi,hz0,hz1,hz2⟩:=info_parts info3
  have hnews:∀ j u,(intV (s.O.drop mark))[j]? = some u→(w.alloc (.cells #[.int .i64 k,.string t,.int .i64 nn,.int .i64 z,.slice none 0 0,.int .i64 a] 34)).cell? ((⟨g,mark,none⟩ : Addr).add j)=some u:=by
    intro j u hu
    have hadd:(⟨g,mark,none⟩ : Addr).add j=⟨g,mark+j,none⟩:=by unfold Addr.add;split <;> simp_all
    rw [hadd,World.cell?_alloc_past _ _ _ hg.2]
    unfold intV at hu
    rw [List.map_drop,List.getElem?_drop] at hu
    have:=HLoo.out.cells (g:=g) rfl (mark+j) u hu
    have hadd:(⟨g,0,none⟩ : Addr).add (mark+j)=⟨g,mark+j,none⟩:=by unfold Addr.add;split <;> simp_all
    rw [hadd] at this
    exact this
  have HNews:=Lib.hid hnews
  have hlen:(intV (s.O.drop mark)).length=(n-mark) * 1:=by unfold intV;rw [List.length_map,List.length_drop,← hn];omega
  have HLen:=Lib.hid hlen
  have hone:∀ u ∈ intV (s.O.drop mark),u.oneCell' = true:=fun u hu=>by
    unfold intV at hu
    obtain ⟨x,_,rfl⟩:=List.mem_map.1 hu
    rfl
  have HOne:=Lib.hid hone
  have hrow:(Value.slice (some ⟨g,0,none⟩) n cap).ownBlock=some g:=rfl
  clear hloo h hn hnews hlen hone
  go_enter Tryz.func132,Tryz.ntmps132
  go_wp2_with (at_builtin;refine wpList_append_own _ rfl _ _ 32 rfl w.heap.size 3 i0 (.int .i64 0) 1 8 Tryz.underlying32 hi hz0 hz1 hz2 rfl (by decide) (.slice none 0 0) 0 [] rfl (World.ownsRow_nil _ _ _ _) ⟨g,mark,none⟩ (n-mark) (cap-mark) (intV (s.O.drop mark)) rfl HLen.out ?c1 ?c2 ?c3 ?c4 ?c5 ?_)
  case c1=>exact HNews.out
  case c2=>exact HOne.out
  case c3=>unfold maxLen;omega
  case c4=>omega
  case c5=>simp
  intro v' w1 hown hgrow _
  obtain ⟨gk,kc,rfl⟩ : ∃ gk kc,v' = .slice (some ⟨gk,0,none⟩) (n-mark) kc:=by
    rcases hown.2 with ⟨_,h⟩ | ⟨g',cap',_,h,_⟩
    · omega
    · exact ⟨g',cap',by simpa using h⟩
  have HKC:Hid (n-mark≤kc):=Lib.hid (by
    rcases hown.2 with ⟨hv,h0⟩ | ⟨g',cap',cur,hv,_,_,hc,_⟩
    · injection hv with _ h1 h2;omega
    · injection hv with _ h1 h2;omega)
  have hb1:Below w.heap.size w w1:=((Below.refl _ _).alloc (Nat.le_refl _) _).grown hgrow (by simp) (fun k h=>by cases h)
  have k0:Blk w1 w.heap.size 34 #[.int .i64 k,.string t,.int .i64 nn,.int .i64 z,.slice none 0 0,.int .i64 a]:=(hgrow.block _ (by simp) (by simp [Value.ownBlock])).trans (heap_alloc_new w _)
  have hb2:Below w.heap.size w (w1.setCell ⟨w.heap.size,4,none⟩ (.slice (some ⟨gk,0,none⟩) (n-mark) kc)):=hb1.setCell (p:=⟨w.heap.size,4,none⟩) (Nat.le_refl _) _
  have k2:Blk (w1.setCell ⟨w.heap.size,4,none⟩ (.slice (some ⟨gk,0,none⟩) (n-mark) kc)) w.heap.size 34 #[.int .i64 k,.string t,.int .i64 nn,.int .i64 z,.slice (some ⟨gk,0,none⟩) (n-mark) kc,.int .i64 a]:=k0.set_ 4 _
  have hkid:KidK w (w1.setCell ⟨w.heap.size,4,none⟩ (.slice (some ⟨gk,0,none⟩) (n-mark) kc)) (some ⟨gk,0,none⟩) (s.O.drop mark):=by
    have h5:gk≠w.heap.size:=by
      rcases hown.2 with ⟨h,_⟩ | ⟨g',cap',cur,h,h6,h7,_⟩
      · cases h
      · cases h
        exact fun e=>by subst e;have h9:=h7.symm.trans k0;cases h9
    intro h0
    obtain ⟨g',hg',h1,h2,h3⟩:=kid_new hown h0
    cases hg'
    exact ⟨gk,rfl,h1,by simpa [World.setCell] using h2,fun j hj=>(World.cell?_of_block (a:=⟨gk,j,none⟩) (Below.heap_setCell _ _ _ _ h5)).trans (h3 j hj)⟩
  have f1:=k0.frozen 4
  have l1:=k0.lt
  have K0:=k0.cell 4
  clear hown hgrow

  have HK2:=Lib.hid k2
  have HB2:=Lib.hid hb2
  have HKid:=Lib.hid hkid
  clear hb1 k0 hb2 k2 hkid
  go_wp2
  generalize w1.setCell ⟨w.heap.size,4,none⟩ (.slice (some ⟨gk,0,none⟩) (n-mark) kc)=w2 at *
  clear K0 l1 f1
  have c3':w2.cell? ⟨B,3,none⟩=some (Value.slice (some ⟨g,0,none⟩) n cap):=(HB2.out.cell (p:=⟨B,3,none⟩) hB).trans c3
  have c2':w2.cell? ⟨B,2,none⟩=some vN:=(HB2.out.cell (p:=⟨B,2,none⟩) hB).trans c2
  have lB':B<w2.heap.size:=Nat.lt_of_lt_of_le hB HB2.out.size
  obtain ⟨pN,kN,hvN⟩ : ∃ pN kN,vN=.slice pN ns.length kN:=by
    rcases HP.out.nod.2 with ⟨h,h0⟩ | ⟨g',cap',cur,h,_⟩
    · exact ⟨none,0,by rw [h,h0]⟩
    · exact ⟨_,_,h⟩
  subst hvN
  obtain ⟨m,hmN⟩ : ∃ m,m=ns.length:=⟨_,rfl⟩
  have hmS:m=s.N.length:=by rw [hmN,← HP.out.eqN,List.length_map]
  have hNl:m≤5000000:=by have:=HP.out.lenN;omega
  rw [← hmN] at c2'
  have HmN:=Lib.hid hmN
  have HmS:=Lib.hid hmS
  have HBx2:Hid (Blk w2 B T #[vT,.int .i64 E,.slice pN m kN,(Value.slice (some ⟨g,0,none⟩) n cap)]):=by
    have h1:=HB2.out.block B hB
    have h2:=HP.out.box
    rw [← hmN] at h2
    exact h1.trans h2
  have HOw:Hid (∀ W,Below w2.heap.size w2 W→W.ownsRow (B+1) 3 1 (.slice (some ⟨g,0,none⟩) mark cap) mark (intV (s.O.take mark))):=fun W hW=>by
    rw [intV_take]
    have hs:=HB2.out.size
    exact own_pre HLoo.out hml ((hW.block g (by omega)).trans (HB2.out.block g hg.2))
  clear hmN hmS c2 c3
  go_region_law (refine step_append_lies _ rfl (.tmp 20) (.tmp 26) 32 rfl (B+1) 3 i0 (.int .i64 0) 1 8 Tryz.underlying32 hi hz0 hz1 hz2 rfl (by decide) (.slice (some ⟨g,0,none⟩) mark cap) mark (intV (s.O.take mark)) (by simp [Act.eval,Act.put]) (HOw.out _ ((Below.refl _ _).alloc (Nat.le_refl _) _).drew) ⟨w2.heap.size,0,none⟩ 1 1 [.int .i64 m] (by simp [Act.eval,Act.put]) rfl (news_drew (Tr.Blk.new _ _ _)) (by intro u hu;simp at hu;subst hu;rfl) (by omega) (by unfold maxLen;omega) (by omega) (by simp;omega) (w2.heap.size+1) (by simp) ?_;intro gL capL w4 hown4 hgrow4 hwhere4 hlt4;have hb4:=blk_grown hgrow4 HBx2.out (fun e=>by have h1:g=B:=Option.some.inj e;omega);have d3:=hb4.cell 3;have f3:=hb4.frozen 3;have lB4:=hb4.lt)
  all_goals
    have HG5:Hid (GS B (Value.slice (some ⟨g,0,none⟩) n cap).ownBlock w2 (w4.setCell ⟨B,3,none⟩ (.slice (some ⟨gL,0,none⟩) (mark+1) capL))):=Lib.hid (gs_of hgrow4 3 _)
    have HB5:Hid (Blk (w4.setCell ⟨B,3,none⟩ (.slice (some ⟨gL,0,none⟩) (mark+1) capL)) B T #[vT,.int .i64 E,.slice pN m kN,.slice (some ⟨gL,0,none⟩) (mark+1) capL]):=by
      have h1:=(blk_grown hgrow4 HBx2.out (fun e=>by have h1:g=B:=Option.some.inj e;omega)).set_ 3 (.slice (some ⟨gL,0,none⟩) (mark+1) capL)
      exact h1
    have HO5:=Lib.hid (ownsRow_setCell_below hown4 (a:=⟨B,3,none⟩) (by show B<B+1;omega) (.slice (some ⟨gL,0,none⟩) (mark+1) capL))
    have HL5:Hid (∀ g',(Value.slice (some ⟨gL,0,none⟩) (mark+1) capL).ownBlock=some g'→(Value.slice (some ⟨g,0,none⟩) n cap).ownBlock=some g'∨w2.heap.size≤g'):=fun g' hg'=>by
      obtain rfl:gL=g':=Option.some.inj hg'
      rcases hwhere4 with h1 | h1
      · exact Or.inl h1
      · exact Or.inr (by omega)
    have HK5:Hid (Blk (w4.setCell ⟨B,3,none⟩ (.slice (some ⟨gL,0,none⟩) (mark+1) capL)) w.heap.size 34 #[.int .i64 k,.string t,.int .i64 nn,.int .i64 z,(.slice (some ⟨gk,0,none⟩) (n-mark) kc),.int .i64 a]) :=
      (HG5.out.block _ HK2.out.lt (Nat.ne_of_gt hB) (fun e=>by have h1:g=w.heap.size:=Option.some.inj e;omega)).trans HK2.out
    clear hown4 hgrow4 hwhere4
    generalize w4.setCell ⟨B,3,none⟩ (.slice (some ⟨gL,0,none⟩) (mark+1) capL)=w5 at *
    clear hlt4 c2' c3'
    have lB5:=HB5.out.lt
    have c2':=HB5.out.cell 2
    have e0:=HK5.out.cell 0
    have e1:=HK5.out.cell 1
    have e2:=HK5.out.cell 2
    have e3:=HK5.out.cell 3
    have e4:=HK5.out.cell 4
    have e5:=HK5.out.cell 5
    have lK5:=HK5.out.lt
    obtain ⟨j0,hj,hy0,hy1,hy2⟩:=info_parts info36
    go_wp2
    have hNb:(Value.slice pN m kN).ownBlock≠some B:=fun e=>by
      have h1:=HP.out.nod
      rw [← HmN.out] at h1
      have:=(h1.lt B e).1;omega
    have HOn:Hid (∀ W,Below w5.heap.size w5 W→W.ownsRow (B+1) 34 6 (.slice pN m kN) m (rowN ns)):=fun W hW=>by
      have h1:=HP.out.nod
      rw [← HmN.out] at h1
      refine ⟨h1.1,?_⟩
      rcases h1.2 with h2 | ⟨g',cap',cur,hv,hg',hh,r⟩
      · exact Or.inl h2
      · have hob:(Value.slice pN m kN).ownBlock=some g':=by rw [hv];rfl
        have hlt:=(h1.lt g' hob).2
        have hs2:=HB2.out.size
        have hs5:=HG5.out.size
        refine Or.inr ⟨g',cap',cur,hv,hg',?_,r⟩
        rw [hW.block g' (by omega),HG5.out.block g' (by omega) (by omega) (HP.out.sep g' (by rw [← HmN.out];exact hob)),HB2.out.block g' hlt]
        exact hh
    go_region_law (refine step_append_lies _ rfl (.tmp 34) (.tmp 36) 22 rfl (B+1) 34 j0 (.agg #[.int .i64 0,.string ⟨#[]⟩,.int .i64 0,.int .i64 0,.slice none 0 0,.int .i64 0]) 6 72 Tryz.underlying22 hj hy0 hy1 hy2 rfl (by decide) (.slice pN m kN) m (rowN ns) (by simp [Act.eval,Act.put]) (HOn.out _ ((Below.refl _ _).alloc (Nat.le_refl _) _).drew) ⟨w5.heap.size,0,none⟩ 1 1 [.int .i64 k,.string t,.int .i64 nn,.int .i64 z,(.slice (some ⟨gk,0,none⟩) (n-mark) kc),.int .i64 a] (by simp [Act.eval,Act.put]) rfl (news_drew (Tr.Blk.new _ _ _)) (by intro u hu;simp at hu;rcases hu with rfl | rfl | rfl | rfl | rfl | rfl <;> rfl) (by omega) (by unfold maxLen;omega) (by omega) (by simp;omega) (w5.heap.size+1) (by simp) ?_;intro gN capN w7 hown7 hgrow7 hwhere7 hlt7;have hb7:=blk_grown hgrow7 HB5.out hNb;have d2:=hb7.cell 2;have f2:=hb7.frozen 2;have lB7:=hb7.lt)
    all_goals
      have HG8:Hid (GS B (Value.slice pN m kN).ownBlock w5 (w7.setCell ⟨B,2,none⟩ (.slice (some ⟨gN,0,none⟩) (m+1) capN))):=Lib.hid (gs_of hgrow7 2 _)
      have HB8:Hid (Blk (w7.setCell ⟨B,2,none⟩ (.slice (some ⟨gN,0,none⟩) (m+1) capN)) B T #[vT,.int .i64 E,.slice (some ⟨gN,0,none⟩) (m+1) capN,.slice (some ⟨gL,0,none⟩) (mark+1) capL]):=by
        have h1:=(blk_grown hgrow7 HB5.out hNb).set_ 2 (.slice (some ⟨gN,0,none⟩) (m+1) capN)
        exact h1
      have HO8:=Lib.hid (ownsRow_setCell_below hown7 (a:=⟨B,2,none⟩) (by show B<B+1;omega) (.slice (some ⟨gN,0,none⟩) (m+1) capN))
      have HL8:Hid (∀ g',(Value.slice (some ⟨gN,0,none⟩) (m+1) capN).ownBlock=some g'→(Value.slice pN m kN).ownBlock=some g'∨w5.heap.size≤g'):=fun g' hg'=>by
        obtain rfl:gN=g':=Option.some.inj hg'
        rcases hwhere7 with h1 | h1
        · exact Or.inl h1
        · exact Or.inr (by omega)
      clear hown7 hgrow7 hwhere7
      go_end0
      rw [HQ.out]
      have hmk:mark≤s.O.length:=by have:=Hn.out;omega
      have hend:=add_end (x:=⟨k,x.t,nn,z,[],a⟩) (kc:=kc) (p:=some ⟨gk,0,none⟩) HP.out HB2.out HKid.out Ht.out HG5.out (by rw [← HmS.out];exact HO5.out) HL5.out (by rw [← HmN.out];exact HG8.out) HB8.out (by have hd:(s.O.drop mark).length=n-mark:=by { rw [List.length_drop,← Hn.out] };rw [hd,← HmN.out];exact HO8.out) (by rw [← HmN.out];exact HL8.out) hmk hN (by rw [List.length_drop,← Hn.out];exact HKC.out)
      exact addPost (s:=s) (x:=⟨k,x.t,nn,z,[],a⟩) (mark:=mark) hmk hN ⟨hend.1,_,_,_,_,hend.2⟩
end
section
open Go.RowKit
open Tk (T4 bstr)
open Tr (Nd Blk KidsAt)

set_option maxHeartbeats 8000000 in
set_option maxRecDepth 100000 in
theorem add_room {B T E:Nat}{w:World}{s:S3}{vT vN:Value}{ns:List Nd}{g cap mark:Nat}(h:PS B T E w s vT vN (Value.slice (some ⟨g,0,none⟩) mark cap) ns) (hn:mark=s.O.length) (hc:mark<cap) (hN:s.N.length<5000000) (k nn z a:Int) (x:Mn) (t:ByteArray) (htt:t.data.toList=x.t) :
    Calls Tryz.prog 132 #[.pointer (some ⟨B,2,none⟩),.agg #[.int .i64 k,.string t,.int .i64 nn,.int .i64 z,.slice none 0 0,.int .i64 a],.int .i64 mark] w (AddPost B T E w (addF ⟨k,x.t,nn,z,[],a⟩ mark s)):=by
  obtain ⟨Q,hQ⟩ : ∃ Q:Ending→World→Prop,Q=AddPost B T E w (addF ⟨k,x.t,nn,z,[],a⟩ mark s):=⟨_,rfl⟩
  rw [← hQ]
  have HQ:=Lib.hid hQ
  clear hQ
  have Ht:=Lib.hid htt
  clear htt
  have hB:=h.lt
  have hO2:=h.lenO
  have hN2:=h.lenN
  rw [← hn] at hO2
  have c3:w.cell? ⟨B,3,none⟩=some (Value.slice (some ⟨g,0,none⟩) mark cap):=by rw [h.box.cell];rfl
  have c2:w.cell? ⟨B,2,none⟩=some vN:=by rw [h.box.cell];rfl
  have hloo:=h.loo
  rw [← hn] at hloo
  have hcap:mark≤cap:=by
    rcases hloo.2 with ⟨h,_⟩ | ⟨g',cap',cur,h,_,_,h2,_⟩
    · cases h
    · cases h;exact h2
  have hg:B+1≤g∧g<w.heap.size:=hloo.lt g rfl
  have HLoo:=Lib.hid hloo
  clear hloo
  have HP:=Lib.hid h
  have Hn:=Lib.hid hn
  obtain ⟨i0,hi,hz0,hz1,hz2⟩:=info_parts info3
  have hd0:s.O.drop mark=[]:=List.drop_eq_nil_of_le (by omega)
  have HD0:=Lib.hid hd0
  clear h hn hd0
  go_enter Tryz.func132,Tryz.ntmps132
  go_wp2_with (at_builtin;refine wpList_append_own _ rfl _ _ 32 rfl w.heap.size 3 i0 (.int .i64 0) 1 8 Tryz.underlying32 hi hz0 hz1 hz2 rfl (by decide) (.slice none 0 0) 0 [] rfl (World.ownsRow_nil _ _ _ _) ⟨g,mark,none⟩ 0 (cap-mark) [] rfl rfl ?c1 ?c2 ?c3 ?c4 ?c5 ?_)
  case c1=>intro j u hu;simp at hu
  case c2=>intro u hu;simp at hu
  case c3=>unfold maxLen;omega
  case c4=>omega
  case c5=>simp
  intro v' w1 hown hgrow hnil
  subst hnil
  have hb1:Below w.heap.size w w1:=((Below.refl _ _).alloc (Nat.le_refl _) _).grown hgrow (by simp) (fun k h=>by cases h)
  have k0:Blk w1 w.heap.size 34 #[.int .i64 k,.string t,.int .i64 nn,.int .i64 z,.slice none 0 0,.int .i64 a]:=(hgrow.block _ (by simp) (by simp [Value.ownBlock])).trans (heap_alloc_new w _)
  have hb2:Below w.heap.size w (w1.setCell ⟨w.heap.size,4,none⟩ (.slice none 0 0)):=hb1.setCell (p:=⟨w.heap.size,4,none⟩) (Nat.le_refl _) _
  have k2:Blk (w1.setCell ⟨w.heap.size,4,none⟩ (.slice none 0 0)) w.heap.size 34 #[.int .i64 k,.string t,.int .i64 nn,.int .i64 z,.slice none 0 0,.int .i64 a]:=k0.set_ 4 _
  have hkid:KidK w (w1.setCell ⟨w.heap.size,4,none⟩ (.slice none 0 0)) none (s.O.drop mark):=fun h0=>by rw [HD0.out] at h0;exact absurd h0 (by simp)
  have f1:=k0.frozen 4
  have l1:=k0.lt
  have K0:=k0.cell 4
  clear hown hgrow

  have HK2:=Lib.hid k2
  have HB2:=Lib.hid hb2
  have HKid:=Lib.hid hkid
  clear hb1 k0 hb2 k2 hkid
  go_wp2
  generalize w1.setCell ⟨w.heap.size,4,none⟩ (.slice none 0 0)=w2 at *
  clear K0 l1 f1
  have c3':w2.cell? ⟨B,3,none⟩=some (Value.slice (some ⟨g,0,none⟩) mark cap):=(HB2.out.cell (p:=⟨B,3,none⟩) hB).trans c3
  have c2':w2.cell? ⟨B,2,none⟩=some vN:=(HB2.out.cell (p:=⟨B,2,none⟩) hB).trans c2
  have lB':B<w2.heap.size:=Nat.lt_of_lt_of_le hB HB2.out.size
  obtain ⟨pN,kN,hvN⟩ : ∃ pN kN,vN=.slice pN ns.length kN:=by
    rcases HP.out.nod.2 with ⟨h,h0⟩ | ⟨g',cap',cur,h,_⟩
    · exact ⟨none,0,by rw [h,h0]⟩
    · exact ⟨_,_,h⟩
  subst hvN
  obtain ⟨m,hmN⟩ : ∃ m,m=ns.length:=⟨_,rfl⟩
  have hmS:m=s.N.length:=by rw [hmN,← HP.out.eqN,List.length_map]
  have hNl:m≤5000000:=by have:=HP.out.lenN;omega
  rw [← hmN] at c2'
  have HmN:=Lib.hid hmN
  have HmS:=Lib.hid hmS
  have HBx2:Hid (Blk w2 B T #[vT,.int .i64 E,.slice pN m kN,(Value.slice (some ⟨g,0,none⟩) mark cap)]):=by
    have h1:=HB2.out.block B hB
    have h2:=HP.out.box
    rw [← hmN] at h2
    exact h1.trans h2
  have HOw:Hid (∀ W,Below w2.heap.size w2 W→W.ownsRow (B+1) 3 1 (Value.slice (some ⟨g,0,none⟩) mark cap) mark (intV (s.O.take mark))):=fun W hW=>by
    rw [intV_take]
    have hs:=HB2.out.size
    exact own_pre HLoo.out (Nat.le_refl _) ((hW.block g (by omega)).trans (HB2.out.block g hg.2))
  clear hmN hmS c2 c3
  go_region_law (refine step_append_lies _ rfl (.tmp 20) (.tmp 26) 32 rfl (B+1) 3 i0 (.int .i64 0) 1 8 Tryz.underlying32 hi hz0 hz1 hz2 rfl (by decide) (Value.slice (some ⟨g,0,none⟩) mark cap) mark (intV (s.O.take mark)) (by simp [Act.eval,Act.put]) (HOw.out _ ((Below.refl _ _).alloc (Nat.le_refl _) _).drew) ⟨w2.heap.size,0,none⟩ 1 1 [.int .i64 m] (by simp [Act.eval,Act.put]) rfl (news_drew (Tr.Blk.new _ _ _)) (by intro u hu;simp at hu;subst hu;rfl) (by omega) (by unfold maxLen;omega) (by omega) (by simp;omega) (w2.heap.size+1) (by simp) ?_;intro gL capL w4 hown4 hgrow4 hwhere4 hlt4;have hb4:=blk_grown hgrow4 HBx2.out (fun e=>by have h1:g=B:=Option.some.inj e;omega);have d3:=hb4.cell 3;have f3:=hb4.frozen 3;have lB4:=hb4.lt)
  all_goals
    have HG5:Hid (GS B (Value.slice (some ⟨g,0,none⟩) mark cap).ownBlock w2 (w4.setCell ⟨B,3,none⟩ (.slice (some ⟨gL,0,none⟩) (mark+1) capL))):=Lib.hid (gs_of hgrow4 3 _)
    have HB5:Hid (Blk (w4.setCell ⟨B,3,none⟩ (.slice (some ⟨gL,0,none⟩) (mark+1) capL)) B T #[vT,.int .i64 E,.slice pN m kN,.slice (some ⟨gL,0,none⟩) (mark+1) capL]):=by
      have h1:=(blk_grown hgrow4 HBx2.out (fun e=>by have h1:g=B:=Option.some.inj e;omega)).set_ 3 (.slice (some ⟨gL,0,none⟩) (mark+1) capL)
      exact h1
    have HO5:=Lib.hid (ownsRow_setCell_below hown4 (a:=⟨B,3,none⟩) (by show B<B+1;omega) (.slice (some ⟨gL,0,none⟩) (mark+1) capL))
    have HL5:Hid (∀ g',(Value.slice (some ⟨gL,0,none⟩) (mark+1) capL).ownBlock=some g'→(Value.slice (some ⟨g,0,none⟩) mark cap).ownBlock=some g'∨w2.heap.size≤g'):=fun g' hg'=>by
      obtain rfl:gL=g':=Option.some.inj hg'
      rcases hwhere4 with h1 | h1
      · exact Or.inl h1
      · exact Or.inr (by omega)
    have HK5:Hid (Blk (w4.setCell ⟨B,3,none⟩ (.slice (some ⟨gL,0,none⟩) (mark+1) capL)) w.heap.size 34 #[.int .i64 k,.string t,.int .i64 nn,.int .i64 z,(.slice none 0 0),.int .i64 a]) :=
      (HG5.out.block _ HK2.out.lt (Nat.ne_of_gt hB) (fun e=>by have h1:g=w.heap.size:=Option.some.inj e;omega)).trans HK2.out
    clear hown4 hgrow4 hwhere4
    generalize w4.setCell ⟨B,3,none⟩ (.slice (some ⟨gL,0,none⟩) (mark+1) capL)=w5 at *
    clear hlt4 c2' c3'
    have lB5:=HB5.out.lt
    have c2':=HB5.out.cell 2
    have e0:=HK5.out.cell 0
    have e1:=HK5.out.cell 1
    have e2:=HK5.out.cell 2
    have e3:=HK5.out.cell 3
    have e4:=HK5.out.cell 4
    have e5:=HK5.out.cell 5
    have lK5:=HK5.out.lt
    obtain ⟨j0,hj,hy0,hy1,hy2⟩:=info_parts info36
    go_wp2
    have hNb:(Value.slice pN m kN).ownBlock≠some B:=fun e=>by
      have h1:=HP.out.nod
      rw [← HmN.out] at h1
      have:=(h1.lt B e).1;omega
    have HOn:Hid (∀ W,Below w5.heap.size w5 W→W.ownsRow (B+1) 34 6 (.slice pN m kN) m (rowN ns)):=fun W hW=>by
      have h1:=HP.out.nod
      rw [← HmN.out] at h1
      refine ⟨h1.1,?_⟩
      rcases h1.2 with h2 | ⟨g',cap',cur,hv,hg',hh,r⟩
      · exact Or.inl h2
      · have hob:(Value.slice pN m kN).ownBlock=some g':=by rw [hv];rfl
        have hlt:=(h1.lt g' hob).2
        have hs2:=HB2.out.size
        have hs5:=HG5.out.size
        refine Or.inr ⟨g',cap',cur,hv,hg',?_,r⟩
        rw [hW.block g' (by omega),HG5.out.block g' (by omega) (by omega) (HP.out.sep g' (by rw [← HmN.out];exact hob)),HB2.out.block g' hlt]
        exact hh
    go_region_law (refine step_append_lies _ rfl (.tmp 34) (.tmp 36) 22 rfl (B+1) 34 j0 (.agg #[.int .i64 0,.string ⟨#[]⟩,.int .i64 0,.int .i64 0,.slice none 0 0,.int .i64 0]) 6 72 Tryz.underlying22 hj hy0 hy1 hy2 rfl (by decide) (.slice pN m kN) m (rowN ns) (by simp [Act.eval,Act.put]) (HOn.out _ ((Below.refl _ _).alloc (Nat.le_refl _) _).drew) ⟨w5.heap.size,0,none⟩ 1 1 [.int .i64 k,.string t,.int .i64 nn,.int .i64 z,(.slice none 0 0),.int .i64 a] (by simp [Act.eval,Act.put]) rfl (news_drew (Tr.Blk.new _ _ _)) (by intro u hu;simp at hu;rcases hu with rfl | rfl | rfl | rfl | rfl | rfl <;> rfl) (by omega) (by unfold maxLen;omega) (by omega) (by simp;omega) (w5.heap.size+1) (by simp) ?_;intro gN capN w7 hown7 hgrow7 hwhere7 hlt7;have hb7:=blk_grown hgrow7 HB5.out hNb;have d2:=hb7.cell 2;have f2:=hb7.frozen 2;have lB7:=hb7.lt)
    all_goals
      have HG8:Hid (GS B (Value.slice pN m kN).ownBlock w5 (w7.setCell ⟨B,2,none⟩ (.slice (some ⟨gN,0,none⟩) (m+1) capN))):=Lib.hid (gs_of hgrow7 2 _)
      have HB8:Hid (Blk (w7.setCell ⟨B,2,none⟩ (.slice (some ⟨gN,0,none⟩) (m+1) capN)) B T #[vT,.int .i64 E,.slice (some ⟨gN,0,none⟩) (m+1) capN,.slice (some ⟨gL,0,none⟩) (mark+1) capL]):=by
        have h1:=(blk_grown hgrow7 HB5.out hNb).set_ 2 (.slice (some ⟨gN,0,none⟩) (m+1) capN)
        exact h1
      have HO8:=Lib.hid (ownsRow_setCell_below hown7 (a:=⟨B,2,none⟩) (by show B<B+1;omega) (.slice (some ⟨gN,0,none⟩) (m+1) capN))
      have HL8:Hid (∀ g',(Value.slice (some ⟨gN,0,none⟩) (m+1) capN).ownBlock=some g'→(Value.slice pN m kN).ownBlock=some g'∨w5.heap.size≤g'):=fun g' hg'=>by
        obtain rfl:gN=g':=Option.some.inj hg'
        rcases hwhere7 with h1 | h1
        · exact Or.inl h1
        · exact Or.inr (by omega)
      clear hown7 hgrow7 hwhere7
      go_end0
      rw [HQ.out]
      have hmk:mark≤s.O.length:=by have:=Hn.out;omega
      have hend:=add_end (x:=⟨k,x.t,nn,z,[],a⟩) (kc:=0) (p:=none) HP.out HB2.out HKid.out Ht.out HG5.out (by rw [← HmS.out];exact HO5.out) HL5.out (by rw [← HmN.out];exact HG8.out) HB8.out (by rw [HD0.out,← HmN.out];exact HO8.out) (by rw [← HmN.out];exact HL8.out) hmk hN (by rw [HD0.out];exact Nat.zero_le _)
      exact addPost (s:=s) (x:=⟨k,x.t,nn,z,[],a⟩) (mark:=mark) hmk hN ⟨hend.1,_,_,_,_,hend.2⟩
end
section
open Go.RowKit
open Tk (T4 bstr)
open Tr (Nd Blk KidsAt)

set_option maxHeartbeats 8000000 in
set_option maxRecDepth 100000 in
theorem add_nil {B T E:Nat}{w:World}{s:S3}{vT vN:Value}{ns:List Nd}{mark:Nat}(h:PS B T E w s vT vN (Value.slice none 0 0) ns) (hn:mark=s.O.length) (hN:s.N.length<5000000) (k nn z a:Int) (x:Mn) (t:ByteArray) (htt:t.data.toList=x.t) :
    Calls Tryz.prog 132 #[.pointer (some ⟨B,2,none⟩),.agg #[.int .i64 k,.string t,.int .i64 nn,.int .i64 z,.slice none 0 0,.int .i64 a],.int .i64 mark] w (AddPost B T E w (addF ⟨k,x.t,nn,z,[],a⟩ mark s)):=by
  obtain ⟨Q,hQ⟩ : ∃ Q:Ending→World→Prop,Q=AddPost B T E w (addF ⟨k,x.t,nn,z,[],a⟩ mark s):=⟨_,rfl⟩
  rw [← hQ]
  have HQ:=Lib.hid hQ
  clear hQ
  have Ht:=Lib.hid htt
  clear htt
  have hB:=h.lt
  have hO2:=h.lenO
  have hN2:=h.lenN
  rw [← hn] at hO2
  have c3:w.cell? ⟨B,3,none⟩=some (Value.slice none 0 0):=by rw [h.box.cell];rfl
  have c2:w.cell? ⟨B,2,none⟩=some vN:=by rw [h.box.cell];rfl
  have hm0:mark=0:=by
    rcases h.loo.2 with ⟨_,h0⟩ | ⟨g',cap',cur,h,_⟩
    · rw [hn];exact h0
    · cases h
  subst hm0
  have HP:=Lib.hid h
  have Hn:=Lib.hid hn
  obtain ⟨i0,hi,hz0,hz1,hz2⟩:=info_parts info3
  have hd0:s.O.drop 0=[]:=List.drop_eq_nil_of_le (by omega)
  have HD0:=Lib.hid hd0
  clear h hn hd0
  have hb2:Below w.heap.size w (w.alloc (.cells #[.int .i64 k,.string t,.int .i64 nn,.int .i64 z,.slice none 0 0,.int .i64 a] 34)):=(Below.refl _ _).alloc (Nat.le_refl _) _
  have k2:Blk (w.alloc (.cells #[.int .i64 k,.string t,.int .i64 nn,.int .i64 z,.slice none 0 0,.int .i64 a] 34)) w.heap.size 34 #[.int .i64 k,.string t,.int .i64 nn,.int .i64 z,.slice none 0 0,.int .i64 a]:=heap_alloc_new w _
  have hkid:KidK w (w.alloc (.cells #[.int .i64 k,.string t,.int .i64 nn,.int .i64 z,.slice none 0 0,.int .i64 a] 34)) none (s.O.drop 0):=fun h0=>by rw [HD0.out] at h0;exact absurd h0 (by simp)

  have HK2:=Lib.hid k2
  have HB2:=Lib.hid hb2
  have HKid:=Lib.hid hkid
  clear hb2 k2 hkid
  rw [show (((0:Nat):Int))=(0:Int) from rfl]
  go_enter Tryz.func132,Tryz.ntmps132
  go_wp2
  generalize w.alloc (.cells #[.int .i64 k,.string t,.int .i64 nn,.int .i64 z,.slice none 0 0,.int .i64 a] 34)=w2 at *
  have c3':w2.cell? ⟨B,3,none⟩=some (Value.slice none 0 0):=(HB2.out.cell (p:=⟨B,3,none⟩) hB).trans c3
  have c2':w2.cell? ⟨B,2,none⟩=some vN:=(HB2.out.cell (p:=⟨B,2,none⟩) hB).trans c2
  have lB':B<w2.heap.size:=Nat.lt_of_lt_of_le hB HB2.out.size
  obtain ⟨pN,kN,hvN⟩ : ∃ pN kN,vN=.slice pN ns.length kN:=by
    rcases HP.out.nod.2 with ⟨h,h0⟩ | ⟨g',cap',cur,h,_⟩
    · exact ⟨none,0,by rw [h,h0]⟩
    · exact ⟨_,_,h⟩
  subst hvN
  obtain ⟨m,hmN⟩ : ∃ m,m=ns.length:=⟨_,rfl⟩
  have hmS:m=s.N.length:=by rw [hmN,← HP.out.eqN,List.length_map]
  have hNl:m≤5000000:=by have:=HP.out.lenN;omega
  rw [← hmN] at c2'
  have HmN:=Lib.hid hmN
  have HmS:=Lib.hid hmS
  have HBx2:Hid (Blk w2 B T #[vT,.int .i64 E,.slice pN m kN,(Value.slice none 0 0)]):=by
    have h1:=HB2.out.block B hB
    have h2:=HP.out.box
    rw [← hmN] at h2
    exact h1.trans h2
  have HOw:Hid (∀ W,Below w2.heap.size w2 W→W.ownsRow (B+1) 3 1 (Value.slice none 0 0) 0 (intV (s.O.take 0))):=fun W hW=>by have e:s.O.take 0=[]:=List.take_zero;rw [e];exact World.ownsRow_nil _ _ _ _
  clear hmN hmS c2 c3
  go_region_law (refine step_append_lies _ rfl (.tmp 20) (.tmp 26) 32 rfl (B+1) 3 i0 (.int .i64 0) 1 8 Tryz.underlying32 hi hz0 hz1 hz2 rfl (by decide) (Value.slice none 0 0) 0 (intV (s.O.take 0)) (by simp [Act.eval,Act.put]) (HOw.out _ ((Below.refl _ _).alloc (Nat.le_refl _) _).drew) ⟨w2.heap.size,0,none⟩ 1 1 [.int .i64 m] (by simp [Act.eval,Act.put]) rfl (news_drew (Tr.Blk.new _ _ _)) (by intro u hu;simp at hu;subst hu;rfl) (by omega) (by unfold maxLen;omega) (by omega) (by simp;omega) (w2.heap.size+1) (by simp) ?_;intro gL capL w4 hown4 hgrow4 hwhere4 hlt4;have hb4:=blk_grown hgrow4 HBx2.out (by simp [Value.ownBlock]);have d3:=hb4.cell 3;have f3:=hb4.frozen 3;have lB4:=hb4.lt)
  all_goals
    have HG5:Hid (GS B (Value.slice none 0 0).ownBlock w2 (w4.setCell ⟨B,3,none⟩ (.slice (some ⟨gL,0,none⟩) (0+1) capL))):=Lib.hid (gs_of hgrow4 3 _)
    have HB5:Hid (Blk (w4.setCell ⟨B,3,none⟩ (.slice (some ⟨gL,0,none⟩) (0+1) capL)) B T #[vT,.int .i64 E,.slice pN m kN,.slice (some ⟨gL,0,none⟩) (0+1) capL]):=by
      have h1:=(blk_grown hgrow4 HBx2.out (by simp [Value.ownBlock])).set_ 3 (.slice (some ⟨gL,0,none⟩) (0+1) capL)
      exact h1
    have HO5:=Lib.hid (ownsRow_setCell_below hown4 (a:=⟨B,3,none⟩) (by show B<B+1;omega) (.slice (some ⟨gL,0,none⟩) (0+1) capL))
    have HL5:Hid (∀ g',(Value.slice (some ⟨gL,0,none⟩) (0+1) capL).ownBlock=some g'→(Value.slice none 0 0).ownBlock=some g'∨w2.heap.size≤g'):=fun g' hg'=>by
      obtain rfl:gL=g':=Option.some.inj hg'
      rcases hwhere4 with h1 | h1
      · exact Or.inl h1
      · exact Or.inr (by omega)
    have HK5:Hid (Blk (w4.setCell ⟨B,3,none⟩ (.slice (some ⟨gL,0,none⟩) (0+1) capL)) w.heap.size 34 #[.int .i64 k,.string t,.int .i64 nn,.int .i64 z,(.slice none 0 0),.int .i64 a]) :=
      (HG5.out.block _ HK2.out.lt (Nat.ne_of_gt hB) (by simp [Value.ownBlock])).trans HK2.out
    clear hown4 hgrow4 hwhere4
    generalize w4.setCell ⟨B,3,none⟩ (.slice (some ⟨gL,0,none⟩) (0+1) capL)=w5 at *
    clear hlt4 c2' c3'
    have lB5:=HB5.out.lt
    have c2':=HB5.out.cell 2
    have e0:=HK5.out.cell 0
    have e1:=HK5.out.cell 1
    have e2:=HK5.out.cell 2
    have e3:=HK5.out.cell 3
    have e4:=HK5.out.cell 4
    have e5:=HK5.out.cell 5
    have lK5:=HK5.out.lt
    obtain ⟨j0,hj,hy0,hy1,hy2⟩:=info_parts info36
    go_wp2
    have hNb:(Value.slice pN m kN).ownBlock≠some B:=fun e=>by
      have h1:=HP.out.nod
      rw [← HmN.out] at h1
      have:=(h1.lt B e).1;omega
    have HOn:Hid (∀ W,Below w5.heap.size w5 W→W.ownsRow (B+1) 34 6 (.slice pN m kN) m (rowN ns)):=fun W hW=>by
      have h1:=HP.out.nod
      rw [← HmN.out] at h1
      refine ⟨h1.1,?_⟩
      rcases h1.2 with h2 | ⟨g',cap',cur,hv,hg',hh,r⟩
      · exact Or.inl h2
      · have hob:(Value.slice pN m kN).ownBlock=some g':=by rw [hv];rfl
        have hlt:=(h1.lt g' hob).2
        have hs2:=HB2.out.size
        have hs5:=HG5.out.size
        refine Or.inr ⟨g',cap',cur,hv,hg',?_,r⟩
        rw [hW.block g' (by omega),HG5.out.block g' (by omega) (by omega) (HP.out.sep g' (by rw [← HmN.out];exact hob)),HB2.out.block g' hlt]
        exact hh
    go_region_law (refine step_append_lies _ rfl (.tmp 34) (.tmp 36) 22 rfl (B+1) 34 j0 (.agg #[.int .i64 0,.string ⟨#[]⟩,.int .i64 0,.int .i64 0,.slice none 0 0,.int .i64 0]) 6 72 Tryz.underlying22 hj hy0 hy1 hy2 rfl (by decide) (.slice pN m kN) m (rowN ns) (by simp [Act.eval,Act.put]) (HOn.out _ ((Below.refl _ _).alloc (Nat.le_refl _) _).drew) ⟨w5.heap.size,0,none⟩ 1 1 [.int .i64 k,.string t,.int .i64 nn,.int .i64 z,(.slice none 0 0),.int .i64 a] (by simp [Act.eval,Act.put]) rfl (news_drew (Tr.Blk.new _ _ _)) (by intro u hu;simp at hu;rcases hu with rfl | rfl | rfl | rfl | rfl | rfl <;> rfl) (by omega) (by unfold maxLen;omega) (by omega) (by simp;omega) (w5.heap.size+1) (by simp) ?_;intro gN capN w7 hown7 hgrow7 hwhere7 hlt7;have hb7:=blk_grown hgrow7 HB5.out hNb;have d2:=hb7.cell 2;have f2:=hb7.frozen 2;have lB7:=hb7.lt)
    all_goals
      have HG8:Hid (GS B (Value.slice pN m kN).ownBlock w5 (w7.setCell ⟨B,2,none⟩ (.slice (some ⟨gN,0,none⟩) (m+1) capN))):=Lib.hid (gs_of hgrow7 2 _)
      have HB8:Hid (Blk (w7.setCell ⟨B,2,none⟩ (.slice (some ⟨gN,0,none⟩) (m+1) capN)) B T #[vT,.int .i64 E,.slice (some ⟨gN,0,none⟩) (m+1) capN,.slice (some ⟨gL,0,none⟩) (0+1) capL]):=by
        have h1:=(blk_grown hgrow7 HB5.out hNb).set_ 2 (.slice (some ⟨gN,0,none⟩) (m+1) capN)
        exact h1
      have HO8:=Lib.hid (ownsRow_setCell_below hown7 (a:=⟨B,2,none⟩) (by show B<B+1;omega) (.slice (some ⟨gN,0,none⟩) (m+1) capN))
      have HL8:Hid (∀ g',(Value.slice (some ⟨gN,0,none⟩) (m+1) capN).ownBlock=some g'→(Value.slice pN m kN).ownBlock=some g'∨w5.heap.size≤g'):=fun g' hg'=>by
        obtain rfl:gN=g':=Option.some.inj hg'
        rcases hwhere7 with h1 | h1
        · exact Or.inl h1
        · exact Or.inr (by omega)
      clear hown7 hgrow7 hwhere7
      go_end0
      rw [HQ.out]
      have hmk:0≤s.O.length:=by have:=Hn.out;omega
      have hend:=add_end (x:=⟨k,x.t,nn,z,[],a⟩) (kc:=0) (p:=none) HP.out HB2.out HKid.out Ht.out HG5.out (by rw [← HmS.out];exact HO5.out) HL5.out (by rw [← HmN.out];exact HG8.out) HB8.out (by rw [HD0.out,← HmN.out];exact HO8.out) (by rw [← HmN.out];exact HL8.out) hmk hN (by rw [HD0.out];exact Nat.zero_le _)
      exact addPost (s:=s) (x:=⟨k,x.t,nn,z,[],a⟩) (mark:=0) hmk hN ⟨hend.1,_,_,_,_,hend.2⟩
end
section
open Go.RowKit
open Tk (T4 bstr)
open Tr (Nd Blk KidsAt)

set_option maxHeartbeats 8000000 in
set_option maxRecDepth 100000 in
theorem add_full {B T E:Nat}{w:World}{s:S3}{vT vN:Value}{ns:List Nd}{g cap mark:Nat}(h:PS B T E w s vT vN (Value.slice (some ⟨g,0,none⟩) mark cap) ns) (hn:mark=s.O.length) (hc:mark=cap) (hN:s.N.length<5000000) (k nn z a:Int) (x:Mn) (t:ByteArray) (htt:t.data.toList=x.t) :
    Calls Tryz.prog 132 #[.pointer (some ⟨B,2,none⟩),.agg #[.int .i64 k,.string t,.int .i64 nn,.int .i64 z,.slice none 0 0,.int .i64 a],.int .i64 mark] w (AddPost B T E w (addF ⟨k,x.t,nn,z,[],a⟩ mark s)):=by
  obtain ⟨Q,hQ⟩ : ∃ Q:Ending→World→Prop,Q=AddPost B T E w (addF ⟨k,x.t,nn,z,[],a⟩ mark s):=⟨_,rfl⟩
  rw [← hQ]
  have HQ:=Lib.hid hQ
  clear hQ
  have Ht:=Lib.hid htt
  clear htt
  have hB:=h.lt
  have hO2:=h.lenO
  have hN2:=h.lenN
  rw [← hn] at hO2
  have c3:w.cell? ⟨B,3,none⟩=some (Value.slice (some ⟨g,0,none⟩) mark cap):=by rw [h.box.cell];rfl
  have c2:w.cell? ⟨B,2,none⟩=some vN:=by rw [h.box.cell];rfl
  have hloo:=h.loo
  rw [← hn] at hloo
  have hcap:mark≤cap:=by
    rcases hloo.2 with ⟨h,_⟩ | ⟨g',cap',cur,h,_,_,h2,_⟩
    · cases h
    · cases h;exact h2
  subst hc
  have hg:B+1≤g∧g<w.heap.size:=hloo.lt g rfl
  have HLoo:=Lib.hid hloo
  clear hloo
  have HP:=Lib.hid h
  have Hn:=Lib.hid hn
  obtain ⟨i0,hi,hz0,hz1,hz2⟩:=info_parts info3
  have hd0:s.O.drop mark=[]:=List.drop_eq_nil_of_le (by omega)
  have HD0:=Lib.hid hd0
  clear h hn hd0
  have hb2:Below w.heap.size w (w.alloc (.cells #[.int .i64 k,.string t,.int .i64 nn,.int .i64 z,.slice none 0 0,.int .i64 a] 34)):=(Below.refl _ _).alloc (Nat.le_refl _) _
  have k2:Blk (w.alloc (.cells #[.int .i64 k,.string t,.int .i64 nn,.int .i64 z,.slice none 0 0,.int .i64 a] 34)) w.heap.size 34 #[.int .i64 k,.string t,.int .i64 nn,.int .i64 z,.slice none 0 0,.int .i64 a]:=heap_alloc_new w _
  have hkid:KidK w (w.alloc (.cells #[.int .i64 k,.string t,.int .i64 nn,.int .i64 z,.slice none 0 0,.int .i64 a] 34)) none (s.O.drop mark):=fun h0=>by rw [HD0.out] at h0;exact absurd h0 (by simp)

  have HK2:=Lib.hid k2
  have HB2:=Lib.hid hb2
  have HKid:=Lib.hid hkid
  clear hb2 k2 hkid
  go_enter Tryz.func132,Tryz.ntmps132
  go_wp2
  generalize w.alloc (.cells #[.int .i64 k,.string t,.int .i64 nn,.int .i64 z,.slice none 0 0,.int .i64 a] 34)=w2 at *
  have c3':w2.cell? ⟨B,3,none⟩=some (Value.slice (some ⟨g,0,none⟩) mark mark):=(HB2.out.cell (p:=⟨B,3,none⟩) hB).trans c3
  have c2':w2.cell? ⟨B,2,none⟩=some vN:=(HB2.out.cell (p:=⟨B,2,none⟩) hB).trans c2
  have lB':B<w2.heap.size:=Nat.lt_of_lt_of_le hB HB2.out.size
  obtain ⟨pN,kN,hvN⟩ : ∃ pN kN,vN=.slice pN ns.length kN:=by
    rcases HP.out.nod.2 with ⟨h,h0⟩ | ⟨g',cap',cur,h,_⟩
    · exact ⟨none,0,by rw [h,h0]⟩
    · exact ⟨_,_,h⟩
  subst hvN
  obtain ⟨m,hmN⟩ : ∃ m,m=ns.length:=⟨_,rfl⟩
  have hmS:m=s.N.length:=by rw [hmN,← HP.out.eqN,List.length_map]
  have hNl:m≤5000000:=by have:=HP.out.lenN;omega
  rw [← hmN] at c2'
  have HmN:=Lib.hid hmN
  have HmS:=Lib.hid hmS
  have HBx2:Hid (Blk w2 B T #[vT,.int .i64 E,.slice pN m kN,(Value.slice (some ⟨g,0,none⟩) mark mark)]):=by
    have h1:=HB2.out.block B hB
    have h2:=HP.out.box
    rw [← hmN] at h2
    exact h1.trans h2
  have HOw:Hid (∀ W,Below w2.heap.size w2 W→W.ownsRow (B+1) 3 1 (Value.slice (some ⟨g,0,none⟩) mark mark) mark (intV (s.O.take mark))):=fun W hW=>by
    rw [intV_take]
    have hs:=HB2.out.size
    exact own_pre HLoo.out (Nat.le_refl _) ((hW.block g (by omega)).trans (HB2.out.block g hg.2))
  clear hmN hmS c2 c3
  go_region_law (refine step_append_lies _ rfl (.tmp 20) (.tmp 26) 32 rfl (B+1) 3 i0 (.int .i64 0) 1 8 Tryz.underlying32 hi hz0 hz1 hz2 rfl (by decide) (Value.slice (some ⟨g,0,none⟩) mark mark) mark (intV (s.O.take mark)) (by simp [Act.eval,Act.put]) (HOw.out _ ((Below.refl _ _).alloc (Nat.le_refl _) _).drew) ⟨w2.heap.size,0,none⟩ 1 1 [.int .i64 m] (by simp [Act.eval,Act.put]) rfl (news_drew (Tr.Blk.new _ _ _)) (by intro u hu;simp at hu;subst hu;rfl) (by omega) (by unfold maxLen;omega) (by omega) (by simp;omega) (w2.heap.size+1) (by simp) ?_;intro gL capL w4 hown4 hgrow4 hwhere4 hlt4;have hb4:=blk_grown hgrow4 HBx2.out (fun e=>by have h1:g=B:=Option.some.inj e;omega);have d3:=hb4.cell 3;have f3:=hb4.frozen 3;have lB4:=hb4.lt)
  all_goals
    have HG5:Hid (GS B (Value.slice (some ⟨g,0,none⟩) mark mark).ownBlock w2 (w4.setCell ⟨B,3,none⟩ (.slice (some ⟨gL,0,none⟩) (mark+1) capL))):=Lib.hid (gs_of hgrow4 3 _)
    have HB5:Hid (Blk (w4.setCell ⟨B,3,none⟩ (.slice (some ⟨gL,0,none⟩) (mark+1) capL)) B T #[vT,.int .i64 E,.slice pN m kN,.slice (some ⟨gL,0,none⟩) (mark+1) capL]):=by
      have h1:=(blk_grown hgrow4 HBx2.out (fun e=>by have h1:g=B:=Option.some.inj e;omega)).set_ 3 (.slice (some ⟨gL,0,none⟩) (mark+1) capL)
      exact h1
    have HO5:=Lib.hid (ownsRow_setCell_below hown4 (a:=⟨B,3,none⟩) (by show B<B+1;omega) (.slice (some ⟨gL,0,none⟩) (mark+1) capL))
    have HL5:Hid (∀ g',(Value.slice (some ⟨gL,0,none⟩) (mark+1) capL).ownBlock=some g'→(Value.slice (some ⟨g,0,none⟩) mark mark).ownBlock=some g'∨w2.heap.size≤g'):=fun g' hg'=>by
      obtain rfl:gL=g':=Option.some.inj hg'
      rcases hwhere4 with h1 | h1
      · exact Or.inl h1
      · exact Or.inr (by omega)
    have HK5:Hid (Blk (w4.setCell ⟨B,3,none⟩ (.slice (some ⟨gL,0,none⟩) (mark+1) capL)) w.heap.size 34 #[.int .i64 k,.string t,.int .i64 nn,.int .i64 z,(.slice none 0 0),.int .i64 a]) :=
      (HG5.out.block _ HK2.out.lt (Nat.ne_of_gt hB) (fun e=>by have h1:g=w.heap.size:=Option.some.inj e;omega)).trans HK2.out
    clear hown4 hgrow4 hwhere4
    generalize w4.setCell ⟨B,3,none⟩ (.slice (some ⟨gL,0,none⟩) (mark+1) capL)=w5 at *
    clear hlt4 c2' c3'
    have lB5:=HB5.out.lt
    have c2':=HB5.out.cell 2
    have e0:=HK5.out.cell 0
    have e1:=HK5.out.cell 1
    have e2:=HK5.out.cell 2
    have e3:=HK5.out.cell 3
    have e4:=HK5.out.cell 4
    have e5:=HK5.out.cell 5
    have lK5:=HK5.out.lt
    obtain ⟨j0,hj,hy0,hy1,hy2⟩:=info_parts info36
    go_wp2
    have hNb:(Value.slice pN m kN).ownBlock≠some B:=fun e=>by
      have h1:=HP.out.nod
      rw [← HmN.out] at h1
      have:=(h1.lt B e).1;omega
    have HOn:Hid (∀ W,Below w5.heap.size w5 W→W.ownsRow (B+1) 34 6 (.slice pN m kN) m (rowN ns)):=fun W hW=>by
      have h1:=HP.out.nod
      rw [← HmN.out] at h1
      refine ⟨h1.1,?_⟩
      rcases h1.2 with h2 | ⟨g',cap',cur,hv,hg',hh,r⟩
      · exact Or.inl h2
      · have hob:(Value.slice pN m kN).ownBlock=some g':=by rw [hv];rfl
        have hlt:=(h1.lt g' hob).2
        have hs2:=HB2.out.size
        have hs5:=HG5.out.size
        refine Or.inr ⟨g',cap',cur,hv,hg',?_,r⟩
        rw [hW.block g' (by omega),HG5.out.block g' (by omega) (by omega) (HP.out.sep g' (by rw [← HmN.out];exact hob)),HB2.out.block g' hlt]
        exact hh
    go_region_law (refine step_append_lies _ rfl (.tmp 34) (.tmp 36) 22 rfl (B+1) 34 j0 (.agg #[.int .i64 0,.string ⟨#[]⟩,.int .i64 0,.int .i64 0,.slice none 0 0,.int .i64 0]) 6 72 Tryz.underlying22 hj hy0 hy1 hy2 rfl (by decide) (.slice pN m kN) m (rowN ns) (by simp [Act.eval,Act.put]) (HOn.out _ ((Below.refl _ _).alloc (Nat.le_refl _) _).drew) ⟨w5.heap.size,0,none⟩ 1 1 [.int .i64 k,.string t,.int .i64 nn,.int .i64 z,(.slice none 0 0),.int .i64 a] (by simp [Act.eval,Act.put]) rfl (news_drew (Tr.Blk.new _ _ _)) (by intro u hu;simp at hu;rcases hu with rfl | rfl | rfl | rfl | rfl | rfl <;> rfl) (by omega) (by unfold maxLen;omega) (by omega) (by simp;omega) (w5.heap.size+1) (by simp) ?_;intro gN capN w7 hown7 hgrow7 hwhere7 hlt7;have hb7:=blk_grown hgrow7 HB5.out hNb;have d2:=hb7.cell 2;have f2:=hb7.frozen 2;have lB7:=hb7.lt)
    all_goals
      have HG8:Hid (GS B (Value.slice pN m kN).ownBlock w5 (w7.setCell ⟨B,2,none⟩ (.slice (some ⟨gN,0,none⟩) (m+1) capN))):=Lib.hid (gs_of hgrow7 2 _)
      have HB8:Hid (Blk (w7.setCell ⟨B,2,none⟩ (.slice (some ⟨gN,0,none⟩) (m+1) capN)) B T #[vT,.int .i64 E,.slice (some ⟨gN,0,none⟩) (m+1) capN,.slice (some ⟨gL,0,none⟩) (mark+1) capL]):=by
        have h1:=(blk_grown hgrow7 HB5.out hNb).set_ 2 (.slice (some ⟨gN,0,none⟩) (m+1) capN)
        exact h1
      have HO8:=Lib.hid (ownsRow_setCell_below hown7 (a:=⟨B,2,none⟩) (by show B<B+1;omega) (.slice (some ⟨gN,0,none⟩) (m+1) capN))
      have HL8:Hid (∀ g',(Value.slice (some ⟨gN,0,none⟩) (m+1) capN).ownBlock=some g'→(Value.slice pN m kN).ownBlock=some g'∨w5.heap.size≤g'):=fun g' hg'=>by
        obtain rfl:gN=g':=Option.some.inj hg'
        rcases hwhere7 with h1 | h1
        · exact Or.inl h1
        · exact Or.inr (by omega)
      clear hown7 hgrow7 hwhere7
      go_end0
      rw [HQ.out]
      have hmk:mark≤s.O.length:=by have:=Hn.out;omega
      have hend:=add_end (x:=⟨k,x.t,nn,z,[],a⟩) (kc:=0) (p:=none) HP.out HB2.out HKid.out Ht.out HG5.out (by rw [← HmS.out];exact HO5.out) HL5.out (by rw [← HmN.out];exact HG8.out) HB8.out (by rw [HD0.out,← HmN.out];exact HO8.out) (by rw [← HmN.out];exact HL8.out) hmk hN (by rw [HD0.out];exact Nat.zero_le _)
      exact addPost (s:=s) (x:=⟨k,x.t,nn,z,[],a⟩) (mark:=mark) hmk hN ⟨hend.1,_,_,_,_,hend.2⟩
end
section
open Go.RowKit
open Tk (T4 bstr)
open Tr (Nd Blk KidsAt)

theorem add_any {B T E:Nat}{w:World}{s:S3}(h:Ps B T E w s) (x:Mn) (hx:x.c=[]) (mark:Nat) (hr:addF x mark s≠.out) :
    Calls Tryz.prog 132 #[.pointer (some ⟨B,2,none⟩),nodeV x,.int .i64 mark] w (AddPost B T E w (addF x mark s)):=by
  have h0:¬ (s.O.length<mark∨5000000≤s.N.length):=fun e=>hr (if_pos e)
  have hx2:x=⟨x.k,x.t,x.n,x.z,[],x.a⟩:=by rw [← hx]
  have ht:(bstr x.t).data.toList=x.t:=rfl
  rw [hx2]
  obtain ⟨vT,vN,vL,ns,h⟩:=h
  rcases h.loo.2 with ⟨hv,hl⟩ | ⟨g,cap,cur,hv,_,_,hcap,_⟩
  · subst hv
    exact add_nil h (by omega) (by omega) x.k x.n x.z x.a x _ ht
  · subst hv
    by_cases hm:mark<s.O.length
    · exact add_some h rfl mark hm (by omega) x.k x.n x.z x.a x _ ht
    · have e:mark=s.O.length:=by omega
      rw [← e] at h hcap
      by_cases hc:mark<cap
      · exact add_room h e hc (by omega) x.k x.n x.z x.a x _ ht
      · exact add_full h e (by omega) (by omega) x.k x.n x.z x.a x _ ht
end
section
open Go.RowKit
open Tk (T4 bstr)
open Tr (Nd Blk KidsAt)

theorem did_ret {B T E:Nat}{w w':World}{r:R3}{e:Ending}(h:Did B T E w r e w') (hr:r≠.out):∃ v,e=.returned v∧Did B T E w r (.returned v) w':=by
  cases r with
  | out=>exact absurd rfl hr
  | ok s=>obtain ⟨rfl,h2⟩:=h;exact ⟨_,rfl,rfl,h2⟩
  | bad c a=>obtain ⟨rfl,h2⟩:=h;exact ⟨_,rfl,rfl,h2⟩
theorem did_ext {B T E:Nat}{w w1 w2:World}{r:R3}{e:Ending}(h:Did B T E w1 r e w2) (hx:Ext B w w1):Did B T E w r e w2:=by
  cases r with
  | out=>trivial
  | ok s=>exact ⟨h.1,hx.trans h.2.1,h.2.2⟩
  | bad c a=>exact ⟨h.1,hx.trans h.2⟩
theorem not_own_new {B:Nat}{w:World}(hB:∃ T E s,Ps B T E w s):¬ Own B w w.heap.size:=by
  obtain ⟨T,E,s,vT,vN,vL,ns,h⟩:=hB
  intro ho
  rcases (h.own_cases _).1 ho with h1 | h1 | h1
  · have:=h.lt;omega
  · have:=(h.nod.lt _ h1).2;omega
  · have:=(h.loo.lt _ h1).2;omega
theorem Ext.notOwn {B:Nat}{w w':World}(h:Ext B w w') {g:Nat}(hg:g<w.heap.size) (hn:¬ Own B w g):¬ Own B w' g:=fun ho=>(h.own g ho).elim hn (fun hle=>by omega)
theorem Ext.blk {B g t:Nat}{cs:Array Value}{w w':World}(h:Ext B w w') (hb:Blk w g t cs) (hn:¬ Own B w g):Blk w' g t cs:=(h.block g hb.lt hn).trans hb
theorem Steps.ext {B T E:Nat}{w w':World}{p:Option Addr}{vs:List Value}{fs:List F3}(h:Steps B T E w p vs fs) (hx:Ext B w w'):Steps B T E w' p vs fs:=by
  obtain ⟨h1,h2,h3,h4⟩:=h
  refine ⟨h1,h2,fun h0=>?_,fun j a b=>(h4 j a b).ext hx⟩
  obtain ⟨g,hp,hg,hn,hc⟩:=h3 h0
  exact ⟨g,hp,Nat.lt_of_lt_of_le hg hx.size,hx.notOwn hg hn,fun j hj=>(hx.cell (p:=⟨g,j,none⟩) hg hn).trans (hc j hj)⟩
theorem own_alloc {B:Nat}{w:World}(hB:B<w.heap.size) (o:Obj) (g:Nat):Own B (w.alloc o) g ↔ Own B w g:=own_same (Below.heap_alloc _ _ _ hB) g
theorem box6 {w:World}{g:Nat}{t:TypeId}{x0 x1 x2 x3 x4 x5:Value}(h:Blk w g t #[x0,x1,x2,x3,x4,x5]) :
    (w.cell? ⟨g,0,none⟩=some x0∧w.cell? ⟨g,1,none⟩=some x1∧w.cell? ⟨g,2,none⟩=some x2∧w.cell? ⟨g,3,none⟩=some x3∧w.cell? ⟨g,4,none⟩=some x4∧w.cell? ⟨g,5,none⟩=some x5)∧g<w.heap.size :=
  ⟨⟨by rw [h.cell];rfl,by rw [h.cell];rfl,by rw [h.cell];rfl,by rw [h.cell];rfl,by rw [h.cell];rfl,by rw [h.cell];rfl⟩,h.lt⟩

set_option maxHeartbeats 4000000 in
set_option maxRecDepth 100000 in
theorem extend_any {B T E:Nat}{w:World}{s:S3}{p:Option Addr}{cap:Nat}{vs:List Value}{fs:List F3}(h:Ps B T E w s) (hS:Steps B T E w p vs fs) (x:Mn) (hx:x.c=[]) (mark:Nat) (hr:extF mark x fs s≠.out) :
    Calls Tryz.prog 76 #[.pointer (some ⟨B,2,none⟩),.int .i64 mark,nodeV x,.slice p vs.length cap] w (Did B T E w (extF mark x fs s)):=by
  obtain ⟨Q,hQ⟩ : ∃ Q:Ending→World→Prop,Q=Did B T E w (extF mark x fs s):=⟨_,rfl⟩
  rw [← hQ]
  have HQ:=Lib.hid hQ
  clear hQ
  have hB:=h.lt
  unfold extF at hr HQ
  have hne:seqF fs s≠.out:=fun e=>hr (by rw [e];rfl)
  obtain ⟨y,hy⟩ : ∃ y,y=bstr x.t:=⟨_,rfl⟩
  have Hy:=Lib.hid hy
  have Hx:=Lib.hid hx
  have hno:=not_own_new ⟨T,E,s,h⟩
  have hn1:¬ Own B (w.alloc (.cells #[.int .i64 x.k,.string y,.int .i64 x.n,.int .i64 x.z,.slice none 0 0,.int .i64 x.a] 34)) w.heap.size:=fun ho=>hno ((own_alloc hB _ _).1 ho)
  have hE1:Ext B w (w.alloc (.cells #[.int .i64 x.k,.string y,.int .i64 x.n,.int .i64 x.z,.slice none 0 0,.int .i64 x.a] 34)):=(Ext.refl _ _).alloc hB _
  have hin:=inTurn_any (cap:=cap) (h.alloc (.cells #[.int .i64 x.k,.string y,.int .i64 x.n,.int .i64 x.z,.slice none 0 0,.int .i64 x.a] 34)) (hS.ext hE1) hne
  have HR:=Lib.hid hr
  have HE1:=Lib.hid hE1
  have HN1:=Lib.hid hn1
  unfold nodeV
  rw [← hy]
  clear hy hx hr hne hS h hno hE1 hn1
  generalize vs.length=n at *
  go_enter Tryz.func76,Tryz.ntmps76
  go_wp2_with (go_at_call 35;refine hin.mono ?_)
  intro e w2 hd
  cases hf:seqF fs s with
  | out=>exact absurd (by rw [hf];rfl) HR.out
  | bad c a =>
    rw [hf] at hd
    obtain ⟨rfl,hx2⟩:=hd
    have HX2:=Lib.hid (HE1.out.trans hx2)
    have Hf:=Lib.hid hf
    clear hin hf hx2
    unfold errV
    go_wp2
    rw [HQ.out,Hf.out]
    exact ⟨rfl,HX2.out⟩
  | ok s2 =>
    rw [hf] at hd
    obtain ⟨rfl,hx2,hp2⟩:=hd
    have HX2:=Lib.hid (HE1.out.trans hx2)
    have Hf:=Lib.hid hf
    have hbx:=hx2.blk (heap_alloc_new w _) HN1.out
    obtain ⟨⟨c0,c1,c2,c3,c4,c5⟩,lb⟩:=box6 hbx
    have hra:addF x mark s2≠.out:=fun e=>HR.out (by rw [Hf.out];exact e)
    have hadd:=add_any hp2 x Hx.out mark hra
    unfold nodeV at hadd
    rw [← Hy.out] at hadd
    clear hin hf hx2 hp2 hbx hra
    go_wp2_with (go_at_call 132;refine hadd.mono ?_)
    rintro e w3 ⟨rfl,s3,hs3,hx3,hp3⟩
    have HX3:=Lib.hid (HX2.out.trans hx3)
    have HP3:=Lib.hid hp3
    have Hs3:=Lib.hid hs3
    clear hadd hs3 hx3 hp3
    go_wp2
    rw [HQ.out,Hf.out]
    show Did B T E w (addF x mark s2) _ _
    rw [Hs3.out]
    exact ⟨rfl,HX3.out,HP3.out⟩

set_option maxHeartbeats 4000000 in
set_option maxRecDepth 100000 in
theorem build_any {B T E:Nat}{w:World}{s:S3}{p:Option Addr}{cap:Nat}{vs:List Value}{fs:List F3}(h:Ps B T E w s) (hS:Steps B T E w p vs fs) (x:Mn) (hx:x.c=[]) (hr:buildF x fs s≠.out) :
    Calls Tryz.prog 70 #[.pointer (some ⟨B,2,none⟩),nodeV x,.slice p vs.length cap] w (Did B T E w (buildF x fs s)):=by
  obtain ⟨Q,hQ⟩ : ∃ Q:Ending→World→Prop,Q=Did B T E w (buildF x fs s):=⟨_,rfl⟩
  rw [← hQ]
  have HQ:=Lib.hid hQ
  clear hQ
  have hB:=h.lt
  unfold buildF at hr HQ
  obtain ⟨y,hy⟩ : ∃ y,y=bstr x.t:=⟨_,rfl⟩
  have hE1:Ext B w (w.alloc (.cells #[.int .i64 x.k,.string y,.int .i64 x.n,.int .i64 x.z,.slice none 0 0,.int .i64 x.a] 34)).drew:=((Ext.refl _ _).alloc hB _).drew
  have hp1:=(h.alloc (.cells #[.int .i64 x.k,.string y,.int .i64 x.n,.int .i64 x.z,.slice none 0 0,.int .i64 x.a] 34)).drew
  have hmk:=mark_any hp1
  have hext:=extend_any (cap:=cap) hp1 (hS.ext hE1) x hx s.O.length hr
  have HE1:=Lib.hid hE1
  have HR:=Lib.hid hr
  unfold nodeV at hext ⊢
  rw [← hy] at hext ⊢
  clear hy hx hS h hE1 hp1 hr
  generalize vs.length=n at *
  generalize extF s.O.length x fs s=r at *
  generalize s.O.length=mk at *
  go_enter Tryz.func70,Tryz.ntmps70
  go_wp2
  go_region_with (first | (go_at_call 73;refine hmk.mono ?_;rintro e w' ⟨rfl,rfl⟩) | (go_at_call 76;refine hext.mono ?_;intro e w2 hd;obtain ⟨v,rfl,hd⟩:=did_ret hd HR.out))
  all_goals
    go_wp2
    (try go_ret)
    rw [HQ.out]
    exact did_ext hd HE1.out
end
section
open Go.RowKit
open Tk (T4 bstr)
open Tr (Nd Blk KidsAt)

/-- what a step does that leads to what holds behind it -/
def DidI (B:Nat) (I:S3→World→Prop) (w:World):R3→Ending→World→Prop
  | .ok s,e,w'=>e=.returned .nilIface∧Ext B w w'∧I s w'
  | .bad c a,e,w'=>e=.returned (errV c a)∧Ext B w w'
  | .out,_,_=>True
/-- a function value that does what f does, from what holds ahead of it to what holds behind it -/
def StepI (B:Nat) (I J:S3→World→Prop) (w0:World) (v:Value) (f:F3):Prop :=
  ∃ id bound caps,v=.func (.func id) bound caps∧(∀ args w,(callFunc id args).run Tryz.prog w=.ok (.enter id args) w)∧∀ w s,Ext B w0 w→I s w→f s≠.out→Calls Tryz.prog id (bound ++ caps) w (DidI B J w (f s))
theorem StepI.of {B T E:Nat}{w0:World}{v:Value}{f:F3}(h:StepV B T E w0 v f):StepI B (fun s w=>Ps B T E w s) (fun s w=>Ps B T E w s) w0 v f:=by
  obtain ⟨id,bound,caps,hv,he,h⟩:=h
  refine ⟨id,bound,caps,hv,he,fun w s h1 h2 h3=>(h w s h1 h2 h3).mono fun e w' hd=>?_⟩
  cases hf:f s with
  | out=>trivial
  | ok s1=>rw [hf] at hd;exact hd
  | bad c a=>rw [hf] at hd;exact hd
/-- steps in a row of cells -/
structure StepsI (B:Nat) (I:Nat→S3→World→Prop) (w0:World) (g:Nat) (vs:List Value) (fs:List F3):Prop where
  len:vs.length=fs.length
  few:vs.length≤1000
  lt:g<w0.heap.size
  no:¬ Own B w0 g
  cell:∀ j,(h:j<vs.length)→w0.cell? ⟨g,j,none⟩=some vs[j]
  step:∀ j,(h1:j<vs.length)→(h2:j<fs.length)→StepI B (I j) (I (j+1)) w0 vs[j] fs[j]

set_option maxHeartbeats 4000000 in
set_option maxRecDepth 100000 in
theorem inTurnG {B:Nat}{I:Nat→S3→World→Prop}{w:World}{s:S3}{g cap:Nat}{vs:List Value}{fs:List F3}(h:I 0 s w) (hS:StepsI B I w g vs fs) (hr:seqF fs s≠.out) :
    Calls Tryz.prog 35 #[.slice (some ⟨g,0,none⟩) vs.length cap] w (DidI B (I vs.length) w (seqF fs s)):=by
  obtain ⟨r,hrr⟩ : ∃ r,r=seqF fs s:=⟨_,rfl⟩
  rw [← hrr] at hr ⊢
  have HR0:=Lib.hid hr
  obtain ⟨Q,hQ⟩ : ∃ Q:Ending→World→Prop,Q=DidI B (I vs.length) w r:=⟨_,rfl⟩
  rw [← hQ]
  have HQ:=Lib.hid hQ
  clear hQ hr
  have HS:=Lib.hid hS
  have hm:=hS.few
  obtain ⟨n,hn⟩ : ∃ n,n=vs.length:=⟨_,rfl⟩
  have H:=Lib.hid h
  have HM0:Hid (Mid fs r 0 s):=⟨Nat.zero_le _,by rw [hrr];rfl⟩
  rw [← hn] at hm ⊢
  have Hn:=Lib.hid hn
  clear h hS hrr hn
  go_enter Tryz.func35,Tryz.ntmps35
  go_wp2
  go_loopw [8] (fun v wr=>∃ (k:Nat) (s1:S3),k≤n∧v=.int .i64 k∧Hid (Mid fs r k s1)∧Ext B w wr∧Hid (I k s1 wr)) (fun v _=>n-(intOf v).toNat)
  case atStart=>exact ⟨0,s,Nat.zero_le _,rfl,HM0,Ext.refl _ _,H⟩
  case round =>
    obtain ⟨k,s1,hk,rfl,HM,hx,HP⟩:=hrel
    have HX:=Lib.hid hx
    clear hx
    by_cases hlt:k<n
    · have hkv:k<vs.length:=by have:=Hn.out;omega
      have hkf:k<fs.length:=by have:=Hn.out;have:=HS.out.len;omega
      have c0:wr.cell? ⟨g,k,none⟩=some vs[k]:=(HX.out.cell (p:=⟨g,k,none⟩) HS.out.lt HS.out.no).trans (HS.out.cell k hkv)
      obtain ⟨id,bound,caps,hvk,hent,hst⟩:=HS.out.step k hkv hkf
      rw [hvk] at c0
      have hstep:=HM.out.step hkf
      have hne:fs[k] s1≠.out:=fun e=>HR0.out (by rw [hstep,e];rfl)
      have hcall:=hst wr s1 HX.out HP.out hne
      have HSt:=Lib.hid hstep
      clear hst hvk hstep hne
      go_wp2_with (refine hcall.mono ?_)
      intro e w2 hd
      cases hf:fs[k] s1 with
      | out=>rw [hf] at hd;exact absurd (by rw [HSt.out,hf];rfl) HR0.out
      | bad c a =>
        rw [hf] at hd
        obtain ⟨rfl,hx2⟩:=hd
        have HX2:=Lib.hid (HX.out.trans hx2)
        have HRb:Hid (r=.bad c a):=by have h:=HSt.out;rw [hf] at h;exact h
        clear hcall hent hf hx2 c0
        unfold errV
        go_wp2
        rw [HQ.out,HRb.out]
        exact ⟨rfl,HX2.out⟩
      | ok s2 =>
        rw [hf] at hd
        obtain ⟨rfl,hx2,hp2⟩:=hd
        have HX2:=Lib.hid (HX.out.trans hx2)
        have HP2:=Lib.hid hp2
        have HM2:Hid (Mid fs r (k+1) s2):=⟨by omega,by have h:=HSt.out;rw [hf] at h;exact h⟩
        clear hcall hent hf hx2 hp2 c0
        go_wp2
        go_roundw
        case rel=>exact ⟨k+1,s2,by omega,by go_num,HM2,HX2.out,HP2⟩
        case measure=>simp [intOf];omega
    · have hkn:k=n:=by omega
      have HRk:Hid (r=.ok s1):=by
        have h:=HM.out.2
        rw [List.drop_eq_nil_of_le (by have:=Hn.out;have:=HS.out.len;omega)] at h
        exact h
      have HPn:Hid (I vs.length s1 wr):=by have h:=HP;rw [hkn,Hn.out] at h;exact h
      clear HS HP
      go_wp2
      rw [HQ.out,HRk.out]
      exact ⟨rfl,HX.out,HPn.out⟩
end
end Go.Proofs.YtdjpopebeenlmaaGreatDoor
