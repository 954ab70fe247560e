/-
  Joined texts of this claim: Sm.
-/
import Derived.Test.YtdjpopebeenlmaaGreatDoorW00
import Derived.Test.YtdjpopebeenlmaaGreatDoorW17
set_option maxHeartbeats 40000000
set_option maxRecDepth 100000
set_option linter.unusedVariables false
set_option linter.unusedSimpArgs false
namespace Go.Proofs.YtdjpopebeenlmaaGreatDoor
section
namespace Sc
open Go.RowKit
open Tr

/-- what unitScope gives -/
def UsPost (l:List Nd) (w:World):Rs→Ending→World→Prop
  | .ok E _,e,w'=>∃ U m n,e=.returned (.tuple #[.pointer (some ⟨U,0,none⟩),.agg #[.int .i64 0,.int .i64 0]])∧Below w.heap.size w w'∧w.heap.size≤m∧Blk w' U 192 #[.pointer none,.map (some m)]∧n≤E.length∧MapIs w' m n (roomF l E 0)∧∀ x ∈ E,x.1<l.length∧x.2<1
  | .bad c a,e,w'=>e=.returned (.tuple #[.pointer none,.agg #[.int .i64 c,.int .i64 a]])∧Below w.heap.size w w'∧(c=7∨c=12)
  | .out,_,_=>False
/-- how far it has come -/
def RelU (l:List Nd) (w:World) (c:List Int) (tot:Rs) (U m j:Nat) (wr:World):Prop :=
  ∃ E W n,tot=(tops l (c.drop j) E).pre W∧E.length≤j∧n≤E.length∧MapIs wr m n (roomF l E 0)∧Blk wr U 192 #[.pointer none,.map (some m)]∧Below w.heap.size w wr∧∀ x ∈ E,x.1<l.length∧x.2<1
set_option maxHeartbeats 8000000 in
set_option maxRecDepth 100000 in
theorem unitScope_any {w:World}{l:List Nd}{p:Option Addr}{cap root:Nat}(hT:Tr w p l) (hC:∀ j,j<l.length→codeAt l j=0) (hl:l.length≤600) (hr:root<l.length) (hk:kindAt l root=1) :
    Calls Tryz.prog 82 #[.slice p l.length cap,.slice l[root].p (kidsAt l root).length l[root].cap] w (UsPost l w (tops l (kidsAt l root) [])):=by
  obtain ⟨pos,hK⟩:=kin_of hr (hC root hr)
  have hcc:=kidsAt_get hr
  have hKA:=hT.2 root hr
  rw [← hcc] at hKA
  have hcl:(kidsAt l root).length≤600:=by have:=(code_kids hr (hC root hr)).1;rw [← hcc] at this;omega
  obtain ⟨b,o,rfl,hb,hN⟩:=hT.1 (by omega)
  obtain ⟨cp,hcp⟩ : ∃ cp,cp=l[root].p:=⟨_,rfl⟩
  obtain ⟨kc,hkc⟩ : ∃ kc,kc=l[root].cap:=⟨_,rfl⟩
  rw [← hcp] at hKA ⊢
  rw [← hkc]
  obtain ⟨c,hc⟩ : ∃ c,c=kidsAt l root:=⟨_,rfl⟩
  have HX:Hid (∀ j,(h:j<c.length)→∃ x:Nat,c[j]=(x:Int)∧∃ hx:x<l.length,l[x].t.size≤maxLen∧tx l x=l[x].t.data.toList):=fun j hj=>by
    subst hc
    obtain ⟨x,h1,h2,h3,h4⟩:=hK.lt j hj
    have hx:x<l.length:=by omega
    refine ⟨x,h1,hx,text_size hx (hC x hx) ?_,tx_get hx⟩
    have:=(hK.kid j hj).2.2.2
    rw [hk,← h3,Nat.add_sub_cancel] at this
    simp [goB] at this
    rcases this with e | e <;> rw [e] <;> rfl
  obtain ⟨tot,htot⟩ : ∃ tot,tot=tops l c []:=⟨_,rfl⟩
  rw [← hc] at hKA hcl ⊢
  rw [← htot]
  obtain ⟨Q,hQ⟩ : ∃ Q:Ending→World→Prop,Q=UsPost l w tot:=⟨_,rfl⟩
  rw [← hQ]
  have HQ:=Lib.hid hQ
  have HN:=Lib.hid hN
  have HKA:=Lib.hid hKA
  obtain ⟨cn,hcn⟩ : ∃ cn,cn=c.length:=⟨_,rfl⟩
  obtain ⟨n,hn⟩ : ∃ n,n=l.length:=⟨_,rfl⟩
  have hn6:n≤600:=by omega
  have hc6:cn≤600:=by omega
  rw [← hcn,← hn]
  have HCN:=Lib.hid hcn
  have HNN:=Lib.hid hn
  have hin:=inside_any (.pointer none) none rfl (w.alloc (.cells #[.int .i64 0,.int .i64 0] 26))
  obtain ⟨W2,hW2⟩ : ∃ W2,W2=((w.alloc (.cells #[.int .i64 0,.int .i64 0] 26)).alloc (.map #[] 0)).alloc (.cells #[.pointer none,.map (some (w.alloc (.cells #[.int .i64 0,.int .i64 0] 26)).heap.size)] 192):=⟨_,rfl⟩
  rw [← hW2] at hin
  have hb2:Below w.heap.size w W2:=by rw [hW2];exact (((Below.refl w.heap.size w).alloc (Nat.le_refl _) _).alloc (by simp) _).alloc (by simp;omega) _
  have hB:Blk W2 w.heap.size 26 #[.int .i64 0,.int .i64 0]:=by rw [hW2];exact ((Blk.new w 26 #[.int .i64 0,.int .i64 0]).alloc _).alloc _
  obtain ⟨m,hm⟩ : ∃ m,m=(w.alloc (.cells #[.int .i64 0,.int .i64 0] 26)).heap.size:=⟨_,rfl⟩
  rw [← hm] at hW2 hin
  have hm1:w.heap.size<m:=by rw [hm];simp
  have hU:Blk W2 (m+1) 192 #[.pointer none,.map (some m)]:=by
    have:=Blk.new ((w.alloc (.cells #[.int .i64 0,.int .i64 0] 26)).alloc (.map #[] 0)) 192 #[.pointer none,.map (some m)]
    rw [World.size_alloc,← hm] at this;rw [hW2];exact this
  have hM:MapIs W2 m 0 (roomF l [] 0):=by
    rw [hW2,hm]
    exact ⟨.map [],(World.ownsMap_made _ _ _ _).alloc _,fun s=>⟨rfl,fun v hv=>by cases hv⟩⟩
  have R0:Hid (RelU l w c tot (m+1) m 0 W2):=⟨[],[],0,by rw [pre_nil];exact htot,Nat.le_refl _,Nat.le_refl _,hM,hU,hb2,fun x hx=>by cases hx⟩
  have HB:=Lib.hid hB
  obtain ⟨U,hUU⟩ : ∃ U,U=m+1:=⟨_,rfl⟩
  rw [← hUU] at R0 hin
  have hU1:w.heap.size<U:=by omega
  clear hQ hN hKA hcn hn hcp hkc hcc hT hC hK hr hk hc htot hcl hl hW2 hm hM hU hUU hb2 hB
  go_enter Tryz.func82,Tryz.ntmps82
  go_wp2_with (go_at_call 135;refine hin.mono ?_;rintro e w' ⟨rfl,rfl⟩)
  go_loopw [12] (fun v wr=>∃ j:Nat,j≤cn∧v=.int .i64 j∧Hid (RelU l w c tot U m j wr)∧Hid (Blk wr w.heap.size 26 #[.int .i64 0,.int .i64 0])) (fun v _=>cn-(intOf v).toNat)
  case atStart=>exact ⟨0,Nat.zero_le _,rfl,R0.out,HB.out⟩
  clear R0 HB hin
  obtain ⟨j,hj,rfl,HR,HB⟩:=hrel
  obtain ⟨E,W,nn,ht,hE,hnE,hM,hU,hbel,henv⟩:=HR.out
  have HT:=Lib.hid ht
  have HM:=Lib.hid hM
  have HU:=Lib.hid hU
  have HBel:=Lib.hid hbel
  have HE:=Lib.hid henv
  have hB:=HB.out
  have y0:wr.cell? ⟨w.heap.size,0,none⟩=some (.int .i64 0):=by rw [hB.cell];rfl
  have y1:wr.cell? ⟨w.heap.size,1,none⟩=some (.int .i64 0):=by rw [hB.cell];rfl
  have g0:=hB.frozen 0
  have g1:=hB.frozen 1
  have lY:=hB.lt
  clear ht hM hU HR hB
  by_cases hlt:j<cn
  · obtain ⟨x,hx1,hx2,hx3,hx4⟩:=HX.out j (by have:=HCN.out;omega)
    obtain ⟨kb,ko,rfl,hkb,hkc⟩:=HKA.out (by have:=HCN.out;omega)
    have d0:wr.cell? ⟨kb,ko+j,none⟩=some (.int .i64 x):=by
      have:=hkc j (by have:=HCN.out;omega)
      rw [hx1] at this
      exact (hbel.cell (p:=⟨kb,ko+j,none⟩) hkb).trans this
    have hkb2:kb<wr.heap.size:=Nat.lt_of_lt_of_le hkb hbel.size
    have hbb:b<wr.heap.size:=Nat.lt_of_lt_of_le hb hbel.size
    have hxn:x<n:=by have:=HNN.out;omega
    obtain ⟨c0,c1,c2,c3,c4,c5⟩:=(HN.out x hx2).below hbel hb
    obtain ⟨t,ht⟩ : ∃ t,t=l[x].t:=⟨_,rfl⟩
    rw [← ht] at c1 hx3 hx4
    have HD:=Lib.hid (show tops l (c.drop j) E=if libB (tx l x)=true then .bad 12 x else (declF l 0 x E).bind (tops l (c.drop (j+1))) by
      rw [tops_drop (by have:=HCN.out;omega),hx1,Int.toNat_natCast])
    have HX2:=Lib.hid hx2
    have HX3:=Lib.hid hx3
    have HX4:=Lib.hid hx4
    clear c0 c2 c3 c4 c5 ht hkc hx1 hx3 hx2 henv hbel
    cases hlib:libB (tx l x) with
    | true =>
      have hf:=lib_any t wr
      rw [← hx4,hlib] at hf
      have HTB:=Lib.hid (show tot=.bad 12 x by rw [HT.out,HD.out,if_pos hlib];rfl)
      have hz:=set2 HB.out (.int .i64 12) (.int .i64 x)
      have Z0:=Lib.hid (hz.cell 0)
      have Z1:=Lib.hid (hz.cell 1)
      clear hx4 hlib hz
      go_wp2_with (go_at_call 136;refine hf.mono ?_;rintro e w' ⟨rfl,rfl⟩)
      have z0:=Z0.out
      have z1:=Z1.out
      refine bodyPost_ret (v:=.tuple #[.pointer none,.agg #[.int .i64 12,.int .i64 x]]) (by simp [results,Tryz.results82,go_sem,z0,z1]) rfl ?_
      rw [HQ.out,HTB.out]
      exact ⟨rfl,(HBel.out.setCell (p:=⟨w.heap.size,0,none⟩) (Nat.le_refl _) _).setCell (p:=⟨w.heap.size,1,none⟩) (Nat.le_refl _) _,Or.inr rfl⟩
    | false =>
      have hf:=fun w=>lib_any t w
      rw [← hx4,hlib] at hf
      have HL:=Lib.hid hlib
      cases hd:(roomF l E 0 (tx l x)).isSome with
      | true =>
        obtain ⟨v,hv⟩:=Option.isSome_iff_exists.1 hd
        rw [hx4] at hv
        have hdec:=declare_low_no HU.out HM.out x t HX3.out hv
        have HTB:=Lib.hid (show tot=.bad 7 x by rw [HT.out,HD.out,if_neg (by rw [HL.out];simp)];unfold declF;rw [hd];rfl)
        have hz:=set2 HB.out (.int .i64 7) (.int .i64 x)
        have Z0:=Lib.hid (hz.cell 0)
        have Z1:=Lib.hid (hz.cell 1)
        clear hx4 hlib hz hd hv
        go_wp2_with (first | (go_at_call 136;refine (hf _).mono ?_;rintro e w' ⟨rfl,rfl⟩) | (go_at_call 137;refine hdec.mono ?_;rintro e w' ⟨rfl,rfl⟩))
        have z0:=Z0.out
        have z1:=Z1.out
        refine bodyPost_ret (v:=.tuple #[.pointer none,.agg #[.int .i64 7,.int .i64 x]]) (by simp [results,Tryz.results82,go_sem,z0,z1]) rfl ?_
        rw [HQ.out,HTB.out]
        exact ⟨rfl,(HBel.out.setCell (p:=⟨w.heap.size,0,none⟩) (Nat.le_refl _) _).setCell (p:=⟨w.heap.size,1,none⟩) (Nat.le_refl _) _,Or.inl rfl⟩
      | false =>
        have hdec:=declare_low_yes HU.out HM.out (k:=x) (by omega) (by omega) t HX3.out hx4.symm hd
        have HTB:=Lib.hid (show tot=(tops l (c.drop (j+1)) (E ++ [(x,0)])).pre (W ++ [(x,(x:Int))]) by rw [HT.out,HD.out,if_neg (by rw [HL.out];simp)];unfold declF;rw [hd];show ((tops _ _ _).pre _).pre W=_;rw [pre_pre])
        clear hx4 hlib hd y0 y1 g0 g1
        go_wp2_with (first | (go_at_call 136;refine (hf _).mono ?_;rintro e w' ⟨rfl,rfl⟩) | (go_at_call 137;refine hdec.mono ?_))
        rintro e w3 ⟨rfl,hgr,hM3⟩
        have HREL:Hid (RelU l w c tot U m (j+1) w3):=⟨_,_,nn+1,HTB.out,by simp;exact hE,by simp;exact hnE,hM3,HU.out.grown hgr (fun e=>by cases e;exact HM.out.not_blk HU.out),HBel.out.trans ⟨hgr.os,hgr.tape,hgr.output,hgr.size,fun y hy=>hgr.block y (Nat.lt_of_lt_of_le hy HBel.out.size) (fun e=>by cases e;omega)⟩,fun y hy=>by
          rcases List.mem_append.1 hy with hy | hy
          · exact HE.out y hy
          · simp only [List.mem_cons,List.not_mem_nil,or_false] at hy;subst hy;exact ⟨HX2.out,Nat.zero_lt_one⟩⟩
        have HB3:=Lib.hid (HB.out.grown hgr (fun e=>by cases e;omega))
        clear hgr hM3 hdec hf
        go_wp2
        go_roundw
        case rel=>exact ⟨j+1,by omega,by go_num,HREL.out,HB3.out⟩
        case measure=>simp [intOf];omega
  · have HTB:=Lib.hid (show tot=.ok E W by rw [HT.out,tops_end (by have:=HCN.out;omega)];exact congrArg (Rs.ok E) (by simp))
    have hz:=set2 HB.out (.int .i64 0) (.int .i64 0)
    have Z0:=Lib.hid (hz.cell 0)
    have Z1:=Lib.hid (hz.cell 1)
    have HBe:=Lib.hid hbel
    clear hz henv hbel
    go_wp2
    have z0:=Z0.out
    have z1:=Z1.out
    refine bodyPost_ret (v:=.tuple #[.pointer (some ⟨U,0,none⟩),.agg #[.int .i64 0,.int .i64 0]]) (by simp [results,Tryz.results82,go_sem,z0,z1]) rfl ?_
    rw [HQ.out,HTB.out]
    have nU:U≠w.heap.size:=by omega
    refine ⟨U,m,nn,rfl,(HBel.out.setCell (p:=⟨w.heap.size,0,none⟩) (Nat.le_refl _) _).setCell (p:=⟨w.heap.size,1,none⟩) (Nat.le_refl _) _,by omega,((HU.out.far (p:=⟨w.heap.size,0,none⟩) nU _).far (p:=⟨w.heap.size,1,none⟩) nU _),hnE,?_,HE.out⟩
    refine (HM.out.same (Below.heap_setCell wr ⟨w.heap.size,0,none⟩ _ m (by show m≠w.heap.size;omega))).same (Below.heap_setCell _ ⟨w.heap.size,1,none⟩ _ m (by show m≠w.heap.size;omega))
end Sc
end
end Go.Proofs.YtdjpopebeenlmaaGreatDoor
