/-
  Joined texts of this claim: Sg, Si, Sj, Sk, Sl.
-/
import Derived.Test.YtdjpopebeenlmaaGreatDoorW00
import Derived.Test.YtdjpopebeenlmaaGreatDoorW11
import Derived.Test.YtdjpopebeenlmaaGreatDoorW10
set_option maxHeartbeats 40000000
set_option maxRecDepth 100000
set_option linter.unusedVariables false
set_option linter.unusedSimpArgs false
namespace Go.Proofs.YtdjpopebeenlmaaGreatDoor
section
namespace Sc
open Go.RowKit
open Tr

section
variable {w0 w w2:World}{l:List Nd}{p:Option Addr}{cap R F:Nat}{ch:Ch}{E:Env}{fs:List Int}
set_option maxHeartbeats 4000000 in
set_option maxRecDepth 100000 in
theorem call_any (h:Sm w0 w l p cap R F ch E fs) {now k m:Nat}(hch:ch.length=now+1) (hk:k<l.length) (hl:l.length≤600) (hs:l[k].t.size≤maxLen) (hq:libB (tx l k)=true→fs[k]? = some (-1)) :
    Calls Tryz.prog 193 #[.pointer (some ⟨R,0,none⟩),.int .i64 k] w (Dn w0 w l p cap R F ch m fs (callF l k E)):=by
  obtain ⟨b,o,rfl,hb,hN,hN2⟩:=h.node hk
  have hlt:=(tx_get hk).symm
  obtain ⟨c0,c1,c2,c3,c4,c5⟩:=hN2 w h.bel
  obtain ⟨q2,r0,qf,⟨v,qv⟩,qF,qR⟩:=h.wants hk
  have q1:w.cell? ⟨R,1,none⟩=some (.pointer (some ⟨unitB ch,0,none⟩)):=by rw [h.res.cell];rfl
  have h0:0<ch.length:=by omega
  have hu:unitB ch=(ch[0]).1:=by unfold unitB;rw [List.getElem?_eq_getElem h0];rfl
  have hb0:=h.one 0 h0
  rw [← hu] at hb0
  obtain ⟨n0,_,hM⟩:=h.map 0 h0
  obtain ⟨m0,hm0⟩ : ∃ m0,m0=(ch[0]).2:=⟨_,rfl⟩
  rw [← hm0] at hb0 hM
  have u1:w.cell? ⟨unitB ch,1,none⟩=some (.map (some m0)):=by rw [hb0.cell];rfl
  have ul:unitB ch<w.heap.size:=hb0.lt
  have HM:=Lib.hid (hM.same (w':=w.alloc (.cells #[.int .i64 0,.int .i64 0] 26)) (Below.heap_alloc w _ _ hM.lt))
  obtain ⟨Q,hQ⟩ : ∃ Q:Ending→World→Prop,Q=Dn w0 w l (some ⟨b,o,none⟩) cap R F ch m fs (callF l k E):=⟨_,rfl⟩
  rw [← hQ]
  have HQ:=Lib.hid hQ
  have hbb:b<w.heap.size:=Nat.lt_of_lt_of_le hb h.bel.size
  clear c0 c2 c3 c4 c5 hQ hN hN2 hb0 hM hm0
  generalize unitB ch=U at *
  clear hu
  obtain ⟨t,ht⟩ : ∃ t,t=l[k].t:=⟨_,rfl⟩
  obtain ⟨n,hn⟩ : ∃ n,n=l.length:=⟨_,rfl⟩
  rw [← ht] at c1 hlt hs
  rw [← hn] at r0 q2
  have hl':n≤600:=by omega
  have hkn:k<n:=by omega
  have HN:=Lib.hid hn
  have HK:=Lib.hid hk
  have HS:=Lib.hid hs
  have HH:=Lib.hid h
  cases hlib:libB (tx l k) with
  | true =>
    have hf:=fun w=>lib_any t w
    rw [hlt,hlib] at hf
    have HR:=Lib.hid (show callF l k E=.ok E [(k,-1)] by unfold callF;rw [if_pos hlib])
    have HFS:=Lib.hid (show ov [(k,(-1:Int))] fs=fs by
      rw [ov_one]
      have:=hq hlib
      obtain ⟨h1,h2⟩:=List.getElem?_eq_some_iff.1 this
      rw [← h2];simp)
    clear h hlt hlib hn hk ht hch hl hq h0 hs
    go_enter Tryz.func193,Tryz.ntmps193
    go_wp2_with (go_at_call 136;refine (hf _).mono ?_;rintro e w' ⟨rfl,rfl⟩)
    refine bodyPost_ret (v:=.agg #[.int .i64 0,.int .i64 0]) (by simp [results,Tryz.results193,go_sem]) rfl ?_
    rw [HQ.out,HR.out]
    refine ⟨rfl,(Chg.refl _ _ _).alloc _,?_⟩
    rw [HFS.out]
    exact HH.out.alloc _
  | false =>
    have hf:=fun w=>lib_any t w
    rw [hlt,hlib] at hf
    cases hd:roomF l E 0 (tx l k) with
    | none =>
      have HR:=Lib.hid (show callF l k E=.bad 6 k by unfold callF;rw [if_neg (by rw [hlib];simp),hd])
      have HD:=Lib.hid (show roomF l E 0 t.data.toList=none by rw [hlt];exact hd)
      clear h hlt hlib hn hk ht hch hl hq h0 hs hd
      go_enter Tryz.func193,Tryz.ntmps193
      go_wp2_with (first | (go_at_call 136;refine (hf _).mono ?_;rintro e w' ⟨rfl,rfl⟩) | (at_lookup;refine look_none _ HM.out HS.out HD.out rfl _ _ rfl rfl rfl ?_))
      refine bodyPost_ret (v:=.agg #[.int .i64 6,.int .i64 k]) (by simp [results,Tryz.results193,go_sem]) rfl ?_
      rw [HQ.out,HR.out]
      exact ⟨rfl,(Chg.refl _ _ _).alloc _⟩
    | some j =>
      obtain ⟨x,hx1,hx2,hx3,hx4⟩:=roomF_mem hd
      have hj:j<l.length:=by rw [← hx2];exact (h.env x hx1).1
      have hjn:j<n:=by omega
      obtain ⟨b',o',hp',hz1,hz2,hN2⟩:=h.node hj
      have e:b' = b∧o' = o:=by cases hp';exact ⟨rfl,rfl⟩
      obtain ⟨rfl,rfl⟩:=e
      obtain ⟨d0,d1,d2,d3,d4,d5⟩:=hN2 w h.bel
      have hkj:=kindAt_get hj
      rw [← hkj] at d0
      obtain ⟨kd,hkd⟩ : ∃ kd,kd=kindAt l j:=⟨_,rfl⟩
      rw [← hkd] at d0
      have HD:=Lib.hid (show roomF l E 0 t.data.toList=some j by rw [hlt];exact hd)
      by_cases h3:kd=3
      · have HR:=Lib.hid (show callF l k E=.ok E [(k,(j:Int))] by unfold callF;rw [if_neg (by rw [hlib];simp),hd];simp only;rw [if_pos (by rw [← hkd,h3])])
        subst h3
        clear h hlt hlib hd hn hk ht hch hl hx1 hx2 hx3 hx4 hj hN2 hp' hz1 hz2 d1 d2 d3 d4 d5 hkj hkd hq h0 hs
        go_enter Tryz.func193,Tryz.ntmps193
        go_wp2_with (first | (go_at_call 136;refine (hf _).mono ?_;rintro e w' ⟨rfl,rfl⟩) | (at_lookup;refine look_some _ HM.out HS.out HD.out rfl _ _ rfl rfl rfl ?_))
        refine bodyPost_ret (v:=.agg #[.int .i64 0,.int .i64 0]) (by simp [results,Tryz.results193,go_sem]) rfl ?_
        rw [HQ.out,HR.out]
        exact ⟨rfl,((Chg.refl _ _ _).set k _).alloc _,(HH.out.put k j).alloc _⟩
      · have HR:=Lib.hid (show callF l k E=.bad 6 k by unfold callF;rw [if_neg (by rw [hlib];simp),hd];simp only;rw [if_neg (by rw [← hkd];exact h3)])
        have h3':(kd != 3)=true:=by simpa using h3
        clear h hlt hlib hd hn hk ht hch hl hx1 hx2 hx3 hx4 hj hN2 hp' hz1 hz2 d1 d2 d3 d4 d5 hkj hkd hq h0 hs
        go_enter Tryz.func193,Tryz.ntmps193
        go_wp2_with (first | (go_at_call 136;refine (hf _).mono ?_;rintro e w' ⟨rfl,rfl⟩) | (at_lookup;refine look_some _ HM.out HS.out HD.out rfl _ _ rfl rfl rfl ?_))
        refine bodyPost_ret (v:=.agg #[.int .i64 6,.int .i64 k]) (by simp [results,Tryz.results193,go_sem]) rfl ?_
        rw [HQ.out,HR.out]
        exact ⟨rfl,(Chg.refl _ _ _).alloc _⟩

/-- what stands of calls of the two functions that are there already -/
def NoLib (l:List Nd) (fs:List Int):Prop:=∀ k:Nat,kindAt l k=33→libB (tx l k)=true→k<l.length→fs[k]? = some (-1)
set_option maxHeartbeats 8000000 in
set_option maxRecDepth 100000 in
theorem own_any (h:Sm w0 w l p cap R F ch E fs) {now k g m:Nat}(hch:ch.length=now+1) (hg:ch[now]? = some (g,m)) (hk:k<l.length) (hl:l.length≤600) (hE:E.length≤1000000) (hnow:now≤1000000) (hc:codeAt l k=0) (hq:NoLib l fs) :
    Calls Tryz.prog 140 #[.pointer (some ⟨R,0,none⟩),.int .i64 k,.pointer (some ⟨g,0,none⟩)] w (Dn w0 w l p cap R F ch m fs (own l now k E)):=by
  obtain ⟨hm1,hm2,hg1⟩:=h.m_lt hg
  have hF:=h.fnd.lt
  have ha:=h.alloc (.cells #[.int .i64 0,.int .i64 0] 26)
  have hY:=Blk.new w 26 #[.int .i64 0,.int .i64 0]
  obtain ⟨b,o,rfl,hb,hN,hN2⟩:=h.node hk
  obtain ⟨c0,c1,c2,c3,c4,c5⟩:=hN2 w h.bel
  obtain ⟨q2,r0,qf,⟨v,qv⟩,qF,qR⟩:=h.wants hk
  have hkk:=kindAt_get hk
  obtain ⟨kd,hkd⟩ : ∃ kd,kd=kindAt l k:=⟨_,rfl⟩
  rw [← hkk,← hkd] at c0
  obtain ⟨Q,hQ⟩ : ∃ Q:Ending→World→Prop,Q=Dn w0 w l (some ⟨b,o,none⟩) cap R F ch m fs (own l now k E):=⟨_,rfl⟩
  rw [← hQ]
  have HQ:=Lib.hid hQ
  have HL:=Lib.hid h.bel.size
  have hbb:b<w.heap.size:=Nat.lt_of_lt_of_le hb h.bel.size
  have HY:=Lib.hid hY
  have HH:=Lib.hid h
  have hloc:=Lib.hid fun (e:namedB kd=true)=>local_any ha hch hg hk hl hE (text_size hk hc (by rw [← hkd];exact e))
  have hnam:=Lib.hid fun (e:namedB kd=true)=>name_any ha hch hg hk hl hnow (text_size hk hc (by rw [← hkd];exact e))
  have hcal:=Lib.hid fun (e:kd=33)=>call_any (m:=m) ha hch hk hl (text_size hk hc (by rw [← hkd,e];decide)) (fun e2=>hq k (by rw [← hkd];exact e) e2 hk)
  have HO:=Lib.hid (show own l now k E=if kd=2∨kd=3 then .ok E [(k,(k:Int))] else if kd=4∨kd=12 then declF l now k E else if kd=32 then nameF l now k E else if kd=33 then callF l k E else .ok E [] by unfold own;rw [← hkd])
  clear c1 c2 c3 c4 c5 hQ hY hN hN2 hkk hkd hc
  obtain ⟨n,hn⟩ : ∃ n,n=l.length:=⟨_,rfl⟩
  rw [← hn] at r0 q2
  have hl':n≤600:=by omega
  have hkn:k<n:=by omega
  clear hn hk hl hch hg h ha hq
  have HEND:∀ (r:Rs) (e:Ending) (w2:World),own l now k E=r→Dn w0 (w.alloc (.cells #[.int .i64 0,.int .i64 0] 26)) l (some ⟨b,o,none⟩) cap R F ch m fs r e w2→r≠.out→∃ c a:Int,e=.returned (.agg #[.int .i64 c,.int .i64 a])∧Blk w2 w.heap.size 26 #[.int .i64 0,.int .i64 0]∧Q (.returned (.agg #[.int .i64 c,.int .i64 a])) ((w2.setCell ⟨w.heap.size,0,none⟩ (.int .i64 c)).setCell ⟨w.heap.size,1,none⟩ (.int .i64 a)):=by
    intro r e w2 hr hd hout
    cases r with
    | ok E' W =>
      obtain ⟨rfl,hc,hs⟩:=hd
      have hB:=hc.blk HY.out (by omega) (by omega)
      refine ⟨0,0,rfl,hB,?_⟩
      rw [HQ.out,hr]
      exact Dn.fine (((Chg.refl _ _ _).alloc _).trans hc) hs HL.out hB (Nat.le_refl _) rfl
    | bad c a =>
      obtain ⟨rfl,hc⟩:=hd
      refine ⟨c,a,rfl,hc.blk HY.out (by omega) (by omega),?_⟩
      rw [HQ.out,hr]
      exact ⟨rfl,(((Chg.refl _ _ _).alloc _).trans hc).box2 (Nat.le_refl _) _ _⟩
    | out=>exact absurd rfl hout
  have HE:=Lib.hid HEND
  clear HEND
  by_cases h2:kd=2∨kd=3
  · have HR:=Lib.hid (HO.out.trans (if_pos h2))
    have hk2:(kd == 2)=true∨((kd == 2)=false∧(kd == 3)=true):=by
      rcases h2 with rfl | rfl
      · exact Or.inl rfl
      · exact Or.inr ⟨rfl,rfl⟩
    clear HE HO hloc hnam hcal h2
    rcases hk2 with h2 | ⟨h2,h3⟩
    all_goals
      go_enter Tryz.func140,Tryz.ntmps140
      go_wp2
      refine bodyPost_ret (v:=.agg #[.int .i64 0,.int .i64 0]) (by simp [results,Tryz.results140,go_sem]) rfl ?_
      rw [HQ.out,HR.out]
      exact ⟨rfl,((Chg.refl _ _ _).set k _).alloc _,(HH.out.put k k).alloc _⟩
  · have k2:(kd == 2)=false:=by simp;omega
    have k3:(kd == 3)=false:=by simp;omega
    by_cases h4:kd=4∨kd=12
    · have hr:own l now k E=declF l now k E:=HO.out.trans ((if_neg h2).trans (if_pos h4))
      have hcl:=hloc.out (by rcases h4 with rfl | rfl <;> rfl)
      have hk4:(kd == 4)=true∨((kd == 4)=false∧(kd == 12)=true):=by
        rcases h4 with rfl | rfl
        · exact Or.inl rfl
        · exact Or.inr ⟨rfl,rfl⟩
      have HR:=Lib.hid hr
      have HN:=Lib.hid (show declF l now k E≠.out by unfold declF;split <;> simp)
      clear HO hloc hnam hcal h2 h4 hr
      rcases hk4 with h2 | ⟨h2,h3⟩
      all_goals
        go_enter Tryz.func140,Tryz.ntmps140
        go_wp2_with (go_at_call 191;refine hcl.mono ?_)
        intro e w3 hd
        obtain ⟨c,a,rfl,hB,hf⟩:=HE.out _ e w3 HR.out hd HN.out
        have y0:w3.cell? ⟨w.heap.size,0,none⟩=some (.int .i64 0):=by rw [hB.cell];rfl
        have y1:w3.cell? ⟨w.heap.size,1,none⟩=some (.int .i64 0):=by rw [hB.cell];rfl
        have g0:=hB.frozen 0
        have g1:=hB.frozen 1
        have lY:=hB.lt
        have hz:=set2 hB (.int .i64 c) (.int .i64 a)
        have Z0:=Lib.hid (hz.cell 0)
        have Z1:=Lib.hid (hz.cell 1)
        have HF:=Lib.hid hf
        clear hd hB hf hz hcl
        go_wp2
        have z0:=Z0.out
        have z1:=Z1.out
        refine bodyPost_ret (v:=.agg #[.int .i64 c,.int .i64 a]) (by simp [results,Tryz.results140,go_sem,z0,z1]) rfl ?_
        exact HF.out
    · have k4:(kd == 4)=false:=by simp;omega
      have k12:(kd == 12)=false:=by simp;omega
      by_cases h5:kd=32
      · have hr:own l now k E=nameF l now k E:=HO.out.trans ((if_neg h2).trans ((if_neg h4).trans (if_pos h5)))
        have hcl:=hnam.out (by rw [h5];rfl)
        have HR:=Lib.hid hr
        have HN:=Lib.hid (show nameF l now k E≠.out by unfold nameF;split <;> (try split) <;> simp)
        subst h5
        clear HO hloc hnam hcal h2 h4 hr k2 k3 k4 k12
        go_enter Tryz.func140,Tryz.ntmps140
        go_wp2_with (go_at_call 192;refine hcl.mono ?_)
        intro e w3 hd
        obtain ⟨c,a,rfl,hB,hf⟩:=HE.out _ e w3 HR.out hd HN.out
        have y0:w3.cell? ⟨w.heap.size,0,none⟩=some (.int .i64 0):=by rw [hB.cell];rfl
        have y1:w3.cell? ⟨w.heap.size,1,none⟩=some (.int .i64 0):=by rw [hB.cell];rfl
        have g0:=hB.frozen 0
        have g1:=hB.frozen 1
        have lY:=hB.lt
        have hz:=set2 hB (.int .i64 c) (.int .i64 a)
        have Z0:=Lib.hid (hz.cell 0)
        have Z1:=Lib.hid (hz.cell 1)
        have HF:=Lib.hid hf
        clear hd hB hf hz hcl
        go_wp2
        have z0:=Z0.out
        have z1:=Z1.out
        refine bodyPost_ret (v:=.agg #[.int .i64 c,.int .i64 a]) (by simp [results,Tryz.results140,go_sem,z0,z1]) rfl ?_
        exact HF.out
      · have k32:(kd == 32)=false:=by simp;omega
        by_cases h6:kd=33
        · have hr:own l now k E=callF l k E:=HO.out.trans ((if_neg h2).trans ((if_neg h4).trans ((if_neg h5).trans (if_pos h6))))
          have hcl:=hcal.out h6
          have HR:=Lib.hid hr
          have HN := Lib.hid (show callF l k E ≠ .out by unfold callF; split; · simp
                                                         · split <;> (try split) <;> simp)
          subst h6
          clear HO hloc hnam hcal h2 h4 h5 hr k2 k3 k4 k12 k32
          go_enter Tryz.func140,Tryz.ntmps140
          go_wp2_with (go_at_call 193;refine hcl.mono ?_)
          intro e w3 hd
          obtain ⟨c,a,rfl,hB,hf⟩:=HE.out _ e w3 HR.out hd HN.out
          have y0:w3.cell? ⟨w.heap.size,0,none⟩=some (.int .i64 0):=by rw [hB.cell];rfl
          have y1:w3.cell? ⟨w.heap.size,1,none⟩=some (.int .i64 0):=by rw [hB.cell];rfl
          have g0:=hB.frozen 0
          have g1:=hB.frozen 1
          have lY:=hB.lt
          have hz:=set2 hB (.int .i64 c) (.int .i64 a)
          have Z0:=Lib.hid (hz.cell 0)
          have Z1:=Lib.hid (hz.cell 1)
          have HF:=Lib.hid hf
          clear hd hB hf hz hcl
          go_wp2
          have z0:=Z0.out
          have z1:=Z1.out
          refine bodyPost_ret (v:=.agg #[.int .i64 c,.int .i64 a]) (by simp [results,Tryz.results140,go_sem,z0,z1]) rfl ?_
          exact HF.out
        · have k33:(kd == 33)=false:=by simp;omega
          have HR:=Lib.hid (HO.out.trans ((if_neg h2).trans ((if_neg h4).trans ((if_neg h5).trans (if_neg h6)))))
          clear HE HO hloc hnam hcal h2 h4 h5 h6
          go_enter Tryz.func140,Tryz.ntmps140
          go_wp2
          refine bodyPost_ret (v:=.agg #[.int .i64 0,.int .i64 0]) (by simp [results,Tryz.results140,go_sem]) rfl ?_
          rw [HQ.out,HR.out]
          exact ⟨rfl,(Chg.refl _ _ _).alloc _,HH.out.alloc _⟩
end
end Sc
end
section
namespace Sc
open Go.RowKit
open Tr

theorem ov_get {l:List Nd}{W:Wr}(hW:∀ x ∈ W,WOk l x) {k:Nat}(hk:kindAt l k=33) (hl:libB (tx l k)=true):∀ {fs:List Int},fs[k]? = some (-1)→(ov W fs)[k]? = some (-1):=by
  induction W with
  | nil=>intro fs h;exact h
  | cons x W ih =>
    intro fs h
    show (ov W (fs.set x.1 x.2))[k]? = _
    refine ih (fun y hy=>hW y (List.mem_cons_of_mem _ hy)) ?_
    rw [List.getElem?_set]
    split
    · rename_i e
      have:=(hW x (List.mem_cons_self ..)).2.1
      rw [e] at this
      have hlt:k<fs.length:=(List.getElem?_eq_some_iff.1 h).1
      rw [e] at *
      rw [if_pos hlt,this hk hl]
    · exact h
theorem NoLib.ov {l:List Nd}{W:Wr}{fs:List Int}(h:NoLib l fs) (hW:∀ x ∈ W,WOk l x):NoLib l (ov W fs):=fun k h1 h2 h3=>ov_get hW h1 h2 (h k h1 h2 h3)
theorem entOwn (args:Array Value) (w:World):(callFunc 140 args).run Tryz.prog w=.ok (.enter 140 args) w:=by kernel_rfl
theorem entKids (args:Array Value) (w:World):(callFunc 139 args).run Tryz.prog w=.ok (.enter 139 args) w:=by kernel_rfl
/-- a step of the search, as a function value's function -/
def StepF (w0:World) (l:List Nd) (p:Option Addr) (cap R F:Nat) (ch:Ch) (m g k:Nat) (id b:Nat) (h:Env→Rs):Prop :=
  ∀ (w:World) (E:Env) (fs:List Int),Sm w0 w l p cap R F ch E fs→E.length≤b→NoLib l fs→Calls Tryz.prog id #[.pointer (some ⟨R,0,none⟩),.int .i64 k,.pointer (some ⟨g,0,none⟩)] w (Dn w0 w l p cap R F ch m fs (h E))
/-- how far two steps have come -/
def Rel2 (w0 w:World) (l:List Nd) (p:Option Addr) (cap R F:Nat) (ch:Ch) (m:Nat) (fs:List Int) (tot:Rs) (h1 h2:Env→Rs) (b1 b2:Nat) (j:Nat) (wr:World):Prop :=
  ∃ E' W fs',Chg F m w wr∧Sm w0 wr l p cap R F ch E' fs'∧fs' = ov W fs∧NoLib l fs'∧((j=0∧E'.length≤b1∧tot=((h1 E').bind h2).pre W)∨(j=1∧E'.length≤b2∧tot=(h2 E').pre W)∨(j=2∧tot=.ok E' W))
section
variable {w0 w w2:World}{l:List Nd}{p:Option Addr}{cap R F:Nat}{ch:Ch}{E:Env}{fs:List Int}
theorem Sm.rowNe (h:Sm w0 w l p cap R F ch E fs) {G:Nat}{t:TypeId}{cs:Array Value}(hG:Blk w G t cs) (ht:t≠3):G≠F:=fun e=>by
  have:=h.fnd;rw [← e] at this;exact ht (Blk.type hG this)
theorem Sm.rowNm (h:Sm w0 w l p cap R F ch E fs) {now g m G:Nat}(hg:ch[now]? = some (g,m)) {t:TypeId}{cs:Array Value}(hG:Blk w G t cs):G≠m:=fun e=>by
  have hlt:now<ch.length:=(List.getElem?_eq_some_iff.1 hg).1
  have hgm:ch[now]=(g,m):=by rw [List.getElem?_eq_getElem hlt] at hg;exact Option.some.inj hg
  obtain ⟨n,_,hM⟩:=h.map now hlt
  rw [hgm] at hM
  rw [e] at hG
  exact hM.not_blk hG
set_option maxHeartbeats 8000000 in
set_option maxRecDepth 100000 in
theorem inTurn_two (h:Sm w0 w l p cap R F ch E fs) {now k g m G b1 b2 id1 id2:Nat}{h1 h2:Env→Rs}(hg:ch[now]? = some (g,m)) (hE:E.length≤b1) (hq:NoLib l fs)
    (hG:Blk w G 113 #[.func (.func id1) #[.pointer (some ⟨R,0,none⟩)] #[],.func (.func id2) #[.pointer (some ⟨R,0,none⟩)] #[]])
    (he1:∀ args w,(callFunc id1 args).run Tryz.prog w=.ok (.enter id1 args) w) (he2:∀ args w,(callFunc id2 args).run Tryz.prog w=.ok (.enter id2 args) w)
    (hs1:StepF w0 l p cap R F ch m g k id1 b1 h1) (hs2:StepF w0 l p cap R F ch m g k id2 b2 h2)
    (hf1:∀ E,E.length≤b1→Fine l b2 (h1 E)) (hf2:∀ E,E.length≤b2→Fine l 100000000 (h2 E)) :
    Calls Tryz.prog 138 #[.int .i64 k,.pointer (some ⟨g,0,none⟩),.slice (some ⟨G,0,none⟩) 2 2] w (Dn w0 w l p cap R F ch m fs ((h1 E).bind h2)):=by
  obtain ⟨tot,htot⟩ : ∃ tot,tot=(h1 E).bind h2:=⟨_,rfl⟩
  rw [← htot]
  obtain ⟨Q,hQ⟩ : ∃ Q:Ending→World→Prop,Q=Dn w0 w l p cap R F ch m fs tot:=⟨_,rfl⟩
  rw [← hQ]
  have HQ:=Lib.hid hQ
  have hY:=Blk.new w 26 #[.int .i64 0,.int .i64 0]
  have hG1:=hG.alloc (.cells #[.int .i64 0,.int .i64 0] 26)
  have hGF:=h.rowNe hG (by decide)
  have hGm:=h.rowNm hg hG
  obtain ⟨hm1,hm2,hg1⟩:=h.m_lt hg
  have hF:=h.fnd.lt
  have hGl:=hG.lt
  have HL:=Lib.hid h.bel.size
  have R0:Hid (Rel2 w0 w l p cap R F ch m fs tot h1 h2 b1 b2 0 (w.alloc (.cells #[.int .i64 0,.int .i64 0] 26))) :=
    ⟨E,[],fs,(Chg.refl _ _ _).alloc _,h.alloc _,rfl,hq,Or.inl ⟨rfl,hE,by rw [pre_nil];exact htot⟩⟩
  have HY:Hid (∀ wr,Chg F m w wr→∀ w1,w1=wr→True):=fun _ _ _ _=>trivial
  have HS1:=Lib.hid hs1
  have HS2:=Lib.hid hs2
  have HF1:=Lib.hid hf1
  have HF2:=Lib.hid hf2
  have HG:=Lib.hid hG
  clear h hG hG1 hq htot hQ hs1 hs2 hf1 hf2 HY hE
  go_enter Tryz.func138,Tryz.ntmps138
  go_wp2
  go_loopw [12] (fun v wr=>∃ j:Nat,v=.int .i64 j∧Hid (Rel2 w0 w l p cap R F ch m fs tot h1 h2 b1 b2 j wr)∧Blk wr w.heap.size 26 #[.int .i64 0,.int .i64 0]) (fun v _=>2-(intOf v).toNat)
  case atStart=>exact ⟨0,rfl,R0.out,hY⟩
  clear R0 hY
  obtain ⟨j,rfl,HR,hY⟩:=hrel
  obtain ⟨E',W,fs',hc,hs,hfs,hn,hcase⟩:=HR.out
  have hGw:=hc.blk HG.out hGF hGm
  have x0:wr.cell? ⟨G,0,none⟩=some (.func (.func id1) #[.pointer (some ⟨R,0,none⟩)] #[]):=by rw [hGw.cell];rfl
  have x1:wr.cell? ⟨G,1,none⟩=some (.func (.func id2) #[.pointer (some ⟨R,0,none⟩)] #[]):=by rw [hGw.cell];rfl
  have lG:=hGw.lt
  have HC:=Lib.hid hc
  have HH:=Lib.hid hs
  have HFS:=Lib.hid hfs
  have HN:=Lib.hid hn
  have HY:=Lib.hid hY
  clear hc hs hfs hn hGw HR hY
  have HEND:Hid (∀ (c a:Int) (w3:World),tot=.bad c a→Chg F m wr w3→Blk w3 w.heap.size 26 #[.int .i64 0,.int .i64 0]∧∀ o,Q (.returned (.agg #[.int .i64 c,.int .i64 a])) (((w3.setCell ⟨w.heap.size,0,none⟩ (.int .i64 c)).setCell ⟨w.heap.size,1,none⟩ (.int .i64 a)).alloc o)):=by
    intro c a w3 ht hc3
    refine ⟨hc3.blk HY.out (by omega) (by omega),fun o=>?_⟩
    rw [HQ.out,ht]
    exact ⟨rfl,((HC.out.trans hc3).box2 (Nat.le_refl _) _ _).alloc _⟩
  rcases hcase with ⟨rfl,hb,ht⟩ | ⟨rfl,hb,ht⟩ | ⟨rfl,ht⟩
  · have hcall:=HS1.out wr E' fs' HH.out hb HN.out
    have hfine:=HF1.out E' hb
    have HT:=Lib.hid ht
    clear ht hb x1
    go_wp2_with (refine hcall.mono ?_)
    intro e w3 hd
    cases hr:h1 E' with
    | out=>rw [hr] at hfine;exact hfine.elim
    | bad c a =>
      rw [hr] at hd hfine
      obtain ⟨rfl,hc3⟩:=hd
      obtain ⟨hB,hq3⟩:=HEND.out c a w3 (by rw [HT.out,hr];rfl) hc3
      have y0:w3.cell? ⟨w.heap.size,0,none⟩=some (.int .i64 0):=by rw [hB.cell];rfl
      have y1:w3.cell? ⟨w.heap.size,1,none⟩=some (.int .i64 0):=by rw [hB.cell];rfl
      have g0:=hB.frozen 0
      have g1:=hB.frozen 1
      have lY:=hB.lt
      have hz:=(set2 hB (.int .i64 c) (.int .i64 a)).alloc (.cells #[.int .i64 c,.int .i64 a] 26)
      have Z0:=Lib.hid (hz.cell 0)
      have Z1:=Lib.hid (hz.cell 1)
      have HF:=Lib.hid (hq3 (.cells #[.int .i64 c,.int .i64 a] 26))
      clear hB hq3 hz hcall hc3 hr HEND
      rcases hfine with rfl | rfl
      all_goals
        go_wp2
        have z0:=Z0.out
        have z1:=Z1.out
        refine bodyPost_ret (v:=.agg #[_,_]) (by simp [results,Tryz.results138,go_sem,z0,z1];exact ⟨rfl,rfl⟩) rfl ?_
        exact HF.out
    | ok E2 W2 =>
      rw [hr] at hd hfine
      obtain ⟨rfl,hc3,hs3⟩:=hd
      have HY3:=Lib.hid (hc3.blk HY.out (by omega) (by omega))
      have HREL:Hid (Rel2 w0 w l p cap R F ch m fs tot h1 h2 b1 b2 1 (w3.alloc (.cells #[.int .i64 0,.int .i64 0] 26))) :=
        ⟨E2,W ++ W2,_,(HC.out.trans hc3).alloc _,hs3.alloc _,by rw [HFS.out,ov_app],HN.out.ov hfine.2,Or.inr (Or.inl ⟨rfl,hfine.1,by rw [HT.out,hr];show ((h2 E2).pre W2).pre W=_;rw [pre_pre]⟩)⟩
      clear hcall hc3 hs3 hr hfine HEND x0
      go_wp2
      go_roundw
      case rel=>exact ⟨1,by go_num,HREL.out,HY3.out.alloc _⟩
      case measure=>simp [intOf]
  · have hcall:=HS2.out wr E' fs' HH.out hb HN.out
    have hfine:=HF2.out E' hb
    have HT:=Lib.hid ht
    clear ht hb x0
    go_wp2_with (refine hcall.mono ?_)
    intro e w3 hd
    cases hr:h2 E' with
    | out=>rw [hr] at hfine;exact hfine.elim
    | bad c a =>
      rw [hr] at hd hfine
      obtain ⟨rfl,hc3⟩:=hd
      obtain ⟨hB,hq3⟩:=HEND.out c a w3 (by rw [HT.out,hr];rfl) hc3
      have y0:w3.cell? ⟨w.heap.size,0,none⟩=some (.int .i64 0):=by rw [hB.cell];rfl
      have y1:w3.cell? ⟨w.heap.size,1,none⟩=some (.int .i64 0):=by rw [hB.cell];rfl
      have g0:=hB.frozen 0
      have g1:=hB.frozen 1
      have lY:=hB.lt
      have hz:=(set2 hB (.int .i64 c) (.int .i64 a)).alloc (.cells #[.int .i64 c,.int .i64 a] 26)
      have Z0:=Lib.hid (hz.cell 0)
      have Z1:=Lib.hid (hz.cell 1)
      have HF:=Lib.hid (hq3 (.cells #[.int .i64 c,.int .i64 a] 26))
      clear hB hq3 hz hcall hc3 hr HEND
      rcases hfine with rfl | rfl
      all_goals
        go_wp2
        have z0:=Z0.out
        have z1:=Z1.out
        refine bodyPost_ret (v:=.agg #[_,_]) (by simp [results,Tryz.results138,go_sem,z0,z1];exact ⟨rfl,rfl⟩) rfl ?_
        exact HF.out
    | ok E2 W2 =>
      rw [hr] at hd hfine
      obtain ⟨rfl,hc3,hs3⟩:=hd
      have HY3:=Lib.hid (hc3.blk HY.out (by omega) (by omega))
      have HREL:Hid (Rel2 w0 w l p cap R F ch m fs tot h1 h2 b1 b2 2 (w3.alloc (.cells #[.int .i64 0,.int .i64 0] 26))) :=
        ⟨E2,W ++ W2,_,(HC.out.trans hc3).alloc _,hs3.alloc _,by rw [HFS.out,ov_app],HN.out.ov hfine.2,Or.inr (Or.inr ⟨rfl,by rw [HT.out,hr];rfl⟩)⟩
      clear hcall hc3 hs3 hr hfine HEND x1
      go_wp2
      go_roundw
      case rel=>exact ⟨2,by go_num,HREL.out,HY3.out.alloc _⟩
      case measure=>simp [intOf]
  · have HT:=Lib.hid ht
    have hB:=HY.out
    have y0:wr.cell? ⟨w.heap.size,0,none⟩=some (.int .i64 0):=by rw [hB.cell];rfl
    have y1:wr.cell? ⟨w.heap.size,1,none⟩=some (.int .i64 0):=by rw [hB.cell];rfl
    have g0:=hB.frozen 0
    have g1:=hB.frozen 1
    have lY:=hB.lt
    have hz:=set2 hB (.int .i64 0) (.int .i64 0)
    have Z0:=Lib.hid (hz.cell 0)
    have Z1:=Lib.hid (hz.cell 1)
    clear ht hB hz HEND x0 x1
    go_wp2
    have z0:=Z0.out
    have z1:=Z1.out
    refine bodyPost_ret (v:=.agg #[.int .i64 0,.int .i64 0]) (by simp [results,Tryz.results138,go_sem,z0,z1]) rfl ?_
    rw [HQ.out,HT.out]
    exact Dn.fine HC.out HH.out HL.out HY.out (Nat.le_refl _) HFS.out
end
end Sc
end
section
namespace Sc
open Go.RowKit
open Tr

def VisitOK (w0:World) (l:List Nd) (p:Option Addr) (cap R F f:Nat):Prop :=
  ∀ (w:World) (ch:Ch) (E:Env) (fs:List Int) (now k g m q:Nat),Sm w0 w l p cap R F ch E fs→ch.length=now+1→ch[now]? = some (g,m)→k<l.length→k<f→now+f≤1000000→E.length≤q+St l k→q+(k+1)≤1000000→NoLib l fs →
    Calls Tryz.prog 84 #[.pointer (some ⟨R,0,none⟩),.int .i64 k,.pointer (some ⟨g,0,none⟩)] w (Dn w0 w l p cap R F ch m fs (look l f now k E))
/-- how far the kids have come -/
def RelK (w0 w2:World) (l:List Nd) (p:Option Addr) (cap R F:Nat) (ch2:Ch) (m2:Nat) (fs:List Int) (f now2 k q:Nat) (pos:Nat→Nat) (tot:Rs) (j:Nat) (wr:World):Prop :=
  ∃ E' W fs',Chg F m2 w2 wr∧Sm w0 wr l p cap R F ch2 E' fs'∧fs' = ov W fs∧NoLib l fs'∧E'.length≤q+pos j∧tot=(each (look l f now2) ((kidsAt l k).drop j) E').pre W
section
variable {w0 w w2:World}{l:List Nd}{p:Option Addr}{cap R F:Nat}{ch:Ch}{E:Env}{fs:List Int}
theorem inside_sm (h:Sm w0 w l p cap R F ch E fs) {now g m:Nat}(hch:ch.length=now+1) (hg:ch[now]? = some (g,m)) :
    Calls Tryz.prog 135 #[.pointer (some ⟨g,0,none⟩)] w fun e w'=>∃ g2 m2,e=.returned (.pointer (some ⟨g2,0,none⟩))∧Below w.heap.size w w'∧Sm w0 w' l p cap R F (ch ++ [(g2,m2)]) E fs∧w.heap.size≤m2 :=
  (inside_any _ _ rfl w).mono fun e w' he=>by
    obtain ⟨rfl,rfl⟩:=he
    exact ⟨_,_,rfl,((Below.refl _ _).alloc (Nat.le_refl _) _).alloc (by simp) _,h.push hch hg,Nat.le_refl _⟩
set_option maxHeartbeats 8000000 in
set_option maxRecDepth 100000 in
theorem kids_open {f:Nat}(hV:VisitOK w0 l p cap R F f) (hC:∀ j,j<l.length→codeAt l j=0) (hl:l.length≤600) {now k g m q:Nat}(hk:k<l.length) (hkf:k<f+1) (hch:ch.length=now+1) (hg:ch[now]? = some (g,m)) (hnow:now+(f+1)≤1000000) (hq:q+k≤1000000) (hop:opB (kindAt l k)=true) :
    StepF w0 l p cap R F ch m g k 139 (q+St l k) (kidsF l (look l f) now k):=by
  intro w E fs h hE hnl
  obtain ⟨hm1,hm2,hg1⟩:=h.m_lt hg
  have hF:=h.fnd.lt
  obtain ⟨pos,hK⟩:=kin_of hk (hC k hk)
  obtain ⟨b,o,rfl,hb,hN,hN2⟩:=h.node hk
  obtain ⟨c0,c1,c2,c3,c4,c5⟩:=hN2 w h.bel
  obtain ⟨q2,r0,qf,⟨v,qv⟩,qF,qR⟩:=h.wants hk
  have hkk:=kindAt_get hk
  have hcc:=kidsAt_get hk
  rw [← hkk] at c0
  rw [← hcc] at c4
  have hKA:=h.tr0.2 k hk
  rw [← hcc] at hKA
  have hcl:(kidsAt l k).length≤600:=by have:=(code_kids hk (hC k hk)).1;rw [← hcc] at this;omega
  obtain ⟨t,ht⟩ : ∃ t,t=l[k].t:=⟨_,rfl⟩
  obtain ⟨nn,hnn⟩ : ∃ nn,nn=l[k].n:=⟨_,rfl⟩
  obtain ⟨zz,hzz⟩ : ∃ zz,zz=l[k].z:=⟨_,rfl⟩
  obtain ⟨aa,haa⟩ : ∃ aa,aa=l[k].a:=⟨_,rfl⟩
  obtain ⟨cp,hcp⟩ : ∃ cp,cp=l[k].p:=⟨_,rfl⟩
  obtain ⟨kc,hkc⟩ : ∃ kc,kc=l[k].cap:=⟨_,rfl⟩
  rw [← ht] at c1;rw [← hnn] at c2;rw [← hzz] at c3;rw [← hcp,← hkc] at c4;rw [← haa] at c5;rw [← hcp] at hKA
  clear ht hnn hzz haa hcp hkc hkk hcc hN hN2 qf qv v q2
  obtain ⟨Q,hQ⟩ : ∃ Q:Ending→World→Prop,Q=Dn w0 w l (some ⟨b,o,none⟩) cap R F ch m fs (kidsF l (look l f) now k E):=⟨_,rfl⟩
  rw [← hQ]
  have HQ:=Lib.hid hQ
  have hL:=h.bel.size
  have hbb:b<w.heap.size:=Nat.lt_of_lt_of_le hb hL
  obtain ⟨kd,hkd⟩ : ∃ kd,kd=kindAt l k:=⟨_,rfl⟩
  rw [← hkd] at c0
  obtain ⟨cn,hcn⟩ : ∃ cn,cn=(kidsAt l k).length:=⟨_,rfl⟩
  rw [← hcn] at c4 hcl
  obtain ⟨n,hn⟩ : ∃ n,n=l.length:=⟨_,rfl⟩
  rw [← hn] at r0
  have hkn:k<n:=by omega
  have hn6:n≤600:=by omega
  have HO:∀ W,Calls Tryz.prog 190 #[.int .i64 kd] W fun e w'=>e=.returned (.bool true)∧W=w':=fun W=>by
    have:=opens_any kd W
    rw [hkd,hop] at this
    rw [hkd];exact this
  have HP:=Lib.hid hop
  have hin:=inside_sm ((h.alloc (.cells #[.int .i64 0,.int .i64 0] 26)).alloc (.cells #[.int .i64 kd,.string t,.int .i64 nn,.int .i64 zz,.slice cp cn kc,.int .i64 aa] 34)) hch hg
  have HB:=Lib.hid ((Blk.new w 26 #[.int .i64 0,.int .i64 0]).alloc (.cells #[.int .i64 kd,.string t,.int .i64 nn,.int .i64 zz,.slice cp cn kc,.int .i64 aa] 34))
  have HB2:=Lib.hid (Blk.new (w.alloc (.cells #[.int .i64 0,.int .i64 0] 26)) 34 #[.int .i64 kd,.string t,.int .i64 nn,.int .i64 zz,.slice cp cn kc,.int .i64 aa])
  have HV:=Lib.hid hV
  have HK:=Lib.hid hK
  have HKA:=Lib.hid hKA
  have HH:=Lib.hid h
  have HKD:=Lib.hid hkd
  have HN:=Lib.hid hn
  have HCN:=Lib.hid hcn
  have HE0:=Lib.hid (show E.length≤q+pos 0 by rw [hK.from_];exact hE)
  have HNL:=Lib.hid hnl
  have HC:=Lib.hid hC
  have HG:=Lib.hid hg
  have HCH:=Lib.hid hch
  have hfin:=Lib.hid fun (now:Nat)=>fine_each (q:=q) hK hk (fun x E h1 h2 h3=>fine_look hC f now x q E (by omega) h2 h3)
  clear hop hV hK hKA h hkd hn hcn hE hnl hC hQ hg hch
  go_enter Tryz.func139,Tryz.ntmps139
  go_wp2_with (first | (go_at_call 190;refine (HO _).mono ?_;rintro e w' ⟨rfl,rfl⟩) | (go_at_call 135;refine hin.mono ?_))
  rintro e w2 ⟨g2,m2,rfl,hb2,hs2,hm22⟩
  obtain ⟨ch2,hch2⟩ : ∃ ch2,ch2=ch ++ [(g2,m2)]:=⟨_,rfl⟩
  rw [← hch2] at hs2
  have HS2:=Lib.hid hs2
  obtain ⟨now2,hnow2⟩ : ∃ now2,now2=now+1:=⟨_,rfl⟩
  have HC2:=Lib.hid (show ch2.length=now2+1 by rw [hch2,List.length_append,HCH.out,hnow2];rfl)
  have HG2:=Lib.hid (show ch2[now2]? = some (g2,m2) by rw [hch2,hnow2,List.getElem?_append_right (by rw [HCH.out];exact Nat.le_refl _),HCH.out];simp)
  have hb3:Below w.heap.size w w2:=(((Below.refl w.heap.size w).alloc (Nat.le_refl _) _).alloc (by simp) _).trans (hb2.mono (by simp;omega))
  have HPOP:Hid (∀ wr E' fs',Chg F m2 w2 wr→Sm w0 wr l (some ⟨b,o,none⟩) cap R F ch2 E' fs'→Chg F m w wr∧Sm w0 wr l (some ⟨b,o,none⟩) cap R F ch E fs'):=fun wr E' fs' h1 h2=>by
    rw [hch2] at h2
    have hm3:w.heap.size≤m2:=by have:=hm22;simp at this;omega
    exact ⟨⟨h1.os.trans hb3.os,h1.tape.trans hb3.tape,h1.output.trans hb3.output,Nat.le_trans hb3.size h1.size,fun y y1 y2 y3=>(h1.block y (Nat.lt_of_lt_of_le y1 hb3.size) y2 (by omega)).trans (hb3.block y y1)⟩,HH.out.pop hb3 hm3 h1 h2⟩
  have HPB:Hid (∀ wr,Chg F m2 w2 wr→Chg F m w wr):=fun wr h1=>by
    have hm3:w.heap.size≤m2:=by have:=hm22;simp at this;omega
    exact ⟨h1.os.trans hb3.os,h1.tape.trans hb3.tape,h1.output.trans hb3.output,Nat.le_trans hb3.size h1.size,fun y y1 y2 y3=>(h1.block y (Nat.lt_of_lt_of_le y1 hb3.size) y2 (by omega)).trans (hb3.block y y1)⟩
  have HBw:=Lib.hid (HB.out.below hb2 (by simp;omega))
  have hB2:=HB2.out.below hb2 (by simp)
  have x4:w2.cell? ⟨w.heap.size+1,4,none⟩=some (.slice cp cn kc):=by have:=hB2.cell 4;simp at this;simpa using this
  have lB2:w.heap.size+1<w2.heap.size:=by have:=hB2.lt;simp at this;exact this
  have hne:w.heap.size≠m2:=by have:=hm22;simp at this;omega
  have HT:Hid (∀ r,each (look l f now2) (kidsAt l k) E=r→kidsF l (look l f) now k E=r.back E):=fun r hr=>by
    unfold kidsF;rw [if_pos HP.out,← hr,hnow2]
  have hn2:now2+f≤1000000:=by omega
  clear hs2 hb2 hb3 hB2 hm22 hin HO hch2 hnow2 c0 c1 c2 c3 c4 c5 r0
  have hneF:w.heap.size≠F:=by omega
  have HRL:Hid (RelK w0 w2 l (some ⟨b,o,none⟩) cap R F ch2 m2 fs f now2 k q pos (each (look l f now2) (kidsAt l k) E) 0 w2) :=
    ⟨E,[],fs,Chg.refl _ _ _,HS2.out,rfl,HNL.out,HE0.out,by rw [pre_nil];rfl⟩
  obtain ⟨tot,htot⟩ : ∃ tot,tot=each (look l f now2) (kidsAt l k) E:=⟨_,rfl⟩
  rw [← htot] at HRL
  have HTO:=Lib.hid htot
  clear htot
  go_wp2
  go_loopw [26] (fun v wr=>∃ j:Nat,j≤cn∧v=.int .i64 j∧Hid (RelK w0 w2 l (some ⟨b,o,none⟩) cap R F ch2 m2 fs f now2 k q pos tot j wr)∧Blk wr w.heap.size 26 #[.int .i64 0,.int .i64 0]) (fun v _=>cn-(intOf v).toNat)
  case atStart=>exact ⟨0,Nat.zero_le _,rfl,HRL.out,HBw.out⟩
  clear HRL x4 HBw
  obtain ⟨j,hj,rfl,HR,hY⟩:=hrel
  obtain ⟨E',W,fs',hc,hs,hfs,hnl,hb',ht⟩:=HR.out
  have HCg:=Lib.hid hc
  have HSr:=Lib.hid hs
  have HFS:=Lib.hid hfs
  have HNl:=Lib.hid hnl
  have HTt:=Lib.hid ht
  have HY:=Lib.hid hY
  clear hc hfs hnl ht hY HR
  by_cases hlt:j<cn
  · have hjl:j<(kidsAt l k).length:=by have:=HCN.out;omega
    obtain ⟨kb,ko,rfl,hkb,hkc⟩:=HKA.out (by omega)
    obtain ⟨x,hx1,hx2,hx3,hx4⟩:=HK.out.lt j hjl
    have d0:wr.cell? ⟨kb,ko+j,none⟩=some (.int .i64 x):=by
      have:=hkc j hjl
      rw [hx1] at this
      exact (hs.bel.cell (p:=⟨kb,ko+j,none⟩) hkb).trans this
    have hkb2:kb<wr.heap.size:=Nat.lt_of_lt_of_le hkb hs.bel.size
    have hcall:=HV.out wr ch2 E' fs' now2 x g2 m2 q hs HC2.out HG2.out (by omega) (by omega) hn2 (by omega) (by omega) HNl.out
    have hfine:=fine_look HC.out f now2 x q E' (by omega) (by omega) (by omega)
    have HD:=Lib.hid (show each (look l f now2) ((kidsAt l k).drop j) E' = (look l f now2 x E').bind (each (look l f now2) ((kidsAt l k).drop (j+1))) by rw [each_drop hjl,hx1,Int.toNat_natCast])
    clear hs hkc hx1 hx4
    go_wp2_with (go_at_call 84;refine hcall.mono ?_)
    intro e w3 hd
    cases hr:look l f now2 x E' with
    | out=>rw [hr] at hfine;exact hfine.elim
    | bad c a =>
      rw [hr] at hd hfine
      obtain ⟨rfl,hc3⟩:=hd
      have hB:=hc3.blk HY.out hneF hne
      have HF:Hid (∀ o,Q (.returned (.agg #[.int .i64 c,.int .i64 a])) (((w3.setCell ⟨w.heap.size,0,none⟩ (.int .i64 c)).setCell ⟨w.heap.size,1,none⟩ (.int .i64 a)).alloc o)):=fun o=>by
        rw [HQ.out,HT.out (.bad c a) (by rw [← HTO.out,HTt.out,HD.out,hr];rfl)]
        exact ⟨rfl,((HPB.out _ (HCg.out.trans hc3)).box2 (Nat.le_refl _) _ _).alloc _⟩
      have y0:w3.cell? ⟨w.heap.size,0,none⟩=some (.int .i64 0):=by rw [hB.cell];rfl
      have y1:w3.cell? ⟨w.heap.size,1,none⟩=some (.int .i64 0):=by rw [hB.cell];rfl
      have g0:=hB.frozen 0
      have g1:=hB.frozen 1
      have lY:=hB.lt
      have hz:=(set2 hB (.int .i64 c) (.int .i64 a)).alloc (.cells #[.int .i64 c,.int .i64 a] 26)
      have Z0:=Lib.hid (hz.cell 0)
      have Z1:=Lib.hid (hz.cell 1)
      clear hB hz hcall hc3 hr
      rcases hfine with rfl | rfl
      all_goals
        go_wp2
        have z0:=Z0.out
        have z1:=Z1.out
        refine bodyPost_ret (v:=.agg #[_,_]) (by simp [results,Tryz.results139,go_sem,z0,z1];exact ⟨rfl,rfl⟩) rfl ?_
        exact HF.out _
    | ok E2 W2 =>
      rw [hr] at hd hfine
      obtain ⟨rfl,hc3,hs3⟩:=hd
      have HY3:=Lib.hid (hc3.blk HY.out hneF hne)
      have HREL:Hid (RelK w0 w2 l (some ⟨b,o,none⟩) cap R F ch2 m2 fs f now2 k q pos tot (j+1) (w3.alloc (.cells #[.int .i64 0,.int .i64 0] 26))) :=
        ⟨E2,W ++ W2,_,(HCg.out.trans hc3).alloc _,hs3.alloc _,by rw [HFS.out,ov_app],HNl.out.ov hfine.2,by have:=hfine.1;omega,by rw [HTt.out,HD.out,hr];show ((each _ _ E2).pre W2).pre W=_;rw [pre_pre]⟩
      clear hcall hc3 hs3 hr hfine d0
      go_wp2
      go_roundw
      case rel=>exact ⟨j+1,by omega,by go_num,HREL.out,HY3.out.alloc _⟩
      case measure=>simp [intOf];omega
  · have hje:j=cn:=by omega
    have HR:Hid (tot=.ok E' W):=by
      have:=HTt.out
      rw [each_end (by have:=HCN.out;omega)] at this
      rw [this]
      exact congrArg (Rs.ok E') (by simp)
    obtain ⟨hc4,hs4⟩:=HPOP.out _ _ _ HCg.out hs
    have hB:=HY.out
    have y0:wr.cell? ⟨w.heap.size,0,none⟩=some (.int .i64 0):=by rw [hB.cell];rfl
    have y1:wr.cell? ⟨w.heap.size,1,none⟩=some (.int .i64 0):=by rw [hB.cell];rfl
    have g0:=hB.frozen 0
    have g1:=hB.frozen 1
    have lY:=hB.lt
    have hz:=set2 hB (.int .i64 0) (.int .i64 0)
    have Z0:=Lib.hid (hz.cell 0)
    have Z1:=Lib.hid (hz.cell 1)
    have HC4:=Lib.hid hc4
    have HS4:=Lib.hid hs4
    clear hB hz hc4 hs4 hs
    go_wp2
    have z0:=Z0.out
    have z1:=Z1.out
    refine bodyPost_ret (v:=.agg #[.int .i64 0,.int .i64 0]) (by simp [results,Tryz.results139,go_sem,z0,z1]) rfl ?_
    rw [HQ.out,HT.out (.ok E' W) (by rw [← HTO.out,HR.out])]
    exact Dn.fine HC4.out HS4.out hL HY.out (Nat.le_refl _) HFS.out

set_option maxHeartbeats 8000000 in
set_option maxRecDepth 100000 in
theorem kids_plain {f:Nat}(hV:VisitOK w0 l p cap R F f) (hC:∀ j,j<l.length→codeAt l j=0) (hl:l.length≤600) {now k g m q:Nat}(hk:k<l.length) (hkf:k<f+1) (hch:ch.length=now+1) (hg:ch[now]? = some (g,m)) (hnow:now+(f+1)≤1000000) (hq:q+k≤1000000) (hop:opB (kindAt l k)=false) :
    StepF w0 l p cap R F ch m g k 139 (q+St l k) (kidsF l (look l f) now k):=by
  intro w E fs h hE hnl
  obtain ⟨hm1,hm2,hg1⟩:=h.m_lt hg
  have hF:=h.fnd.lt
  obtain ⟨pos,hK⟩:=kin_of hk (hC k hk)
  obtain ⟨b,o,rfl,hb,hN,hN2⟩:=h.node hk
  obtain ⟨c0,c1,c2,c3,c4,c5⟩:=hN2 w h.bel
  obtain ⟨q2,r0,qf,⟨v,qv⟩,qF,qR⟩:=h.wants hk
  have hkk:=kindAt_get hk
  have hcc:=kidsAt_get hk
  rw [← hkk] at c0
  rw [← hcc] at c4
  have hKA:=h.tr0.2 k hk
  rw [← hcc] at hKA
  have hcl:(kidsAt l k).length≤600:=by have:=(code_kids hk (hC k hk)).1;rw [← hcc] at this;omega
  obtain ⟨t,ht⟩ : ∃ t,t=l[k].t:=⟨_,rfl⟩
  obtain ⟨nn,hnn⟩ : ∃ nn,nn=l[k].n:=⟨_,rfl⟩
  obtain ⟨zz,hzz⟩ : ∃ zz,zz=l[k].z:=⟨_,rfl⟩
  obtain ⟨aa,haa⟩ : ∃ aa,aa=l[k].a:=⟨_,rfl⟩
  obtain ⟨cp,hcp⟩ : ∃ cp,cp=l[k].p:=⟨_,rfl⟩
  obtain ⟨kc,hkc⟩ : ∃ kc,kc=l[k].cap:=⟨_,rfl⟩
  rw [← ht] at c1;rw [← hnn] at c2;rw [← hzz] at c3;rw [← hcp,← hkc] at c4;rw [← haa] at c5;rw [← hcp] at hKA
  clear ht hnn hzz haa hcp hkc hkk hcc hN hN2 qf qv v q2
  obtain ⟨Q,hQ⟩ : ∃ Q:Ending→World→Prop,Q=Dn w0 w l (some ⟨b,o,none⟩) cap R F ch m fs (kidsF l (look l f) now k E):=⟨_,rfl⟩
  rw [← hQ]
  have HQ:=Lib.hid hQ
  have hL:=h.bel.size
  have hbb:b<w.heap.size:=Nat.lt_of_lt_of_le hb hL
  obtain ⟨kd,hkd⟩ : ∃ kd,kd=kindAt l k:=⟨_,rfl⟩
  rw [← hkd] at c0
  obtain ⟨cn,hcn⟩ : ∃ cn,cn=(kidsAt l k).length:=⟨_,rfl⟩
  rw [← hcn] at c4 hcl
  obtain ⟨n,hn⟩ : ∃ n,n=l.length:=⟨_,rfl⟩
  rw [← hn] at r0
  have hkn:k<n:=by omega
  have hn6:n≤600:=by omega
  have HO:∀ W,Calls Tryz.prog 190 #[.int .i64 kd] W fun e w'=>e=.returned (.bool false)∧W=w':=fun W=>by
    have:=opens_any kd W
    rw [hkd,hop] at this
    rw [hkd];exact this
  have HP:=Lib.hid hop
  have HB:=Lib.hid ((Blk.new w 26 #[.int .i64 0,.int .i64 0]).alloc (.cells #[.int .i64 kd,.string t,.int .i64 nn,.int .i64 zz,.slice cp cn kc,.int .i64 aa] 34))
  have HB2:=Lib.hid (Blk.new (w.alloc (.cells #[.int .i64 0,.int .i64 0] 26)) 34 #[.int .i64 kd,.string t,.int .i64 nn,.int .i64 zz,.slice cp cn kc,.int .i64 aa])
  have HV:=Lib.hid hV
  have HK:=Lib.hid hK
  have HKA:=Lib.hid hKA
  have HH:=Lib.hid h
  have HKD:=Lib.hid hkd
  have HN:=Lib.hid hn
  have HCN:=Lib.hid hcn
  have HE0:=Lib.hid (show E.length≤q+pos 0 by rw [hK.from_];exact hE)
  have HNL:=Lib.hid hnl
  have HC:=Lib.hid hC
  have HG:=Lib.hid hg
  have HCH:=Lib.hid hch
  have hfin:=Lib.hid fun (now:Nat)=>fine_each (q:=q) hK hk (fun x E h1 h2 h3=>fine_look hC f now x q E (by omega) h2 h3)
  clear hop hV hK hKA h hkd hn hcn hE hnl hC hQ hg hch
  go_enter Tryz.func139,Tryz.ntmps139
  go_wp2_with (first | (go_at_call 190;refine (HO _).mono ?_;rintro e w' ⟨rfl,rfl⟩))
  obtain ⟨w2,hw2⟩ : ∃ w2,w2=(w.alloc (.cells #[.int .i64 0,.int .i64 0] 26)).alloc (.cells #[.int .i64 kd,.string t,.int .i64 nn,.int .i64 zz,.slice cp cn kc,.int .i64 aa] 34):=⟨_,rfl⟩
  rw [← hw2] at HB HB2 ⊢
  have hs2:=(HH.out.alloc (.cells #[.int .i64 0,.int .i64 0] 26)).alloc (.cells #[.int .i64 kd,.string t,.int .i64 nn,.int .i64 zz,.slice cp cn kc,.int .i64 aa] 34)
  have hb3:Below w.heap.size w w2:=by rw [hw2];exact ((Below.refl w.heap.size w).alloc (Nat.le_refl _) _).alloc (by simp) _
  rw [← hw2] at hs2
  obtain ⟨ch2,hch2⟩ : ∃ ch2,ch2=ch:=⟨_,rfl⟩
  obtain ⟨now2,hnow2⟩ : ∃ now2,now2=now:=⟨_,rfl⟩
  obtain ⟨g2,hg2⟩ : ∃ g2,g2=g:=⟨_,rfl⟩
  obtain ⟨m2,hm22⟩ : ∃ m2,m2=m:=⟨_,rfl⟩
  rw [← hch2] at hs2
  have HS2:=Lib.hid hs2
  have HC2:=Lib.hid (show ch2.length=now2+1 by rw [hch2,HCH.out,hnow2])
  have HG2:=Lib.hid (show ch2[now2]? = some (g2,m2) by rw [hch2,hnow2,HG.out,hg2,hm22])
  have HPOP:Hid (∀ wr E' fs',Chg F m2 w2 wr→Sm w0 wr l (some ⟨b,o,none⟩) cap R F ch2 E' fs'→Chg F m w wr∧Sm w0 wr l (some ⟨b,o,none⟩) cap R F ch E' fs'):=fun wr E' fs' h1 h2=>by
    rw [hch2] at h2;rw [hm22] at h1
    exact ⟨(Chg.below hb3).trans h1,h2⟩
  have HPB:Hid (∀ wr,Chg F m2 w2 wr→Chg F m w wr):=fun wr h1=>by rw [hm22] at h1;exact (Chg.below hb3).trans h1
  have HBw:=HB
  have x4:w2.cell? ⟨w.heap.size+1,4,none⟩=some (.slice cp cn kc):=by have:=HB2.out.cell 4;simp at this;simpa using this
  have lB2:w.heap.size+1<w2.heap.size:=by have:=HB2.out.lt;simp at this;exact this
  have hne:w.heap.size≠m2:=by omega
  have HT:Hid (∀ r,each (look l f now2) (kidsAt l k) E=r→kidsF l (look l f) now k E=r):=fun r hr=>by
    unfold kidsF;rw [if_neg (by rw [HP.out];simp),← hr,hnow2]
  have hn2:now2+f≤1000000:=by omega
  rw [← hg2]
  clear hs2 hb3 hw2 HO hch2 hnow2 hg2 hm22 c0 c1 c2 c3 c4 c5 r0
  have hneF:w.heap.size≠F:=by omega
  have HRL:Hid (RelK w0 w2 l (some ⟨b,o,none⟩) cap R F ch2 m2 fs f now2 k q pos (each (look l f now2) (kidsAt l k) E) 0 w2) :=
    ⟨E,[],fs,Chg.refl _ _ _,HS2.out,rfl,HNL.out,HE0.out,by rw [pre_nil];rfl⟩
  obtain ⟨tot,htot⟩ : ∃ tot,tot=each (look l f now2) (kidsAt l k) E:=⟨_,rfl⟩
  rw [← htot] at HRL
  have HTO:=Lib.hid htot
  clear htot
  go_wp2
  go_loopw [26] (fun v wr=>∃ j:Nat,j≤cn∧v=.int .i64 j∧Hid (RelK w0 w2 l (some ⟨b,o,none⟩) cap R F ch2 m2 fs f now2 k q pos tot j wr)∧Blk wr w.heap.size 26 #[.int .i64 0,.int .i64 0]) (fun v _=>cn-(intOf v).toNat)
  case atStart=>exact ⟨0,Nat.zero_le _,rfl,HRL.out,HBw.out⟩
  clear HRL x4 HBw
  obtain ⟨j,hj,rfl,HR,hY⟩:=hrel
  obtain ⟨E',W,fs',hc,hs,hfs,hnl,hb',ht⟩:=HR.out
  have HCg:=Lib.hid hc
  have HSr:=Lib.hid hs
  have HFS:=Lib.hid hfs
  have HNl:=Lib.hid hnl
  have HTt:=Lib.hid ht
  have HY:=Lib.hid hY
  clear hc hfs hnl ht hY HR
  by_cases hlt:j<cn
  · have hjl:j<(kidsAt l k).length:=by have:=HCN.out;omega
    obtain ⟨kb,ko,rfl,hkb,hkc⟩:=HKA.out (by omega)
    obtain ⟨x,hx1,hx2,hx3,hx4⟩:=HK.out.lt j hjl
    have d0:wr.cell? ⟨kb,ko+j,none⟩=some (.int .i64 x):=by
      have:=hkc j hjl
      rw [hx1] at this
      exact (hs.bel.cell (p:=⟨kb,ko+j,none⟩) hkb).trans this
    have hkb2:kb<wr.heap.size:=Nat.lt_of_lt_of_le hkb hs.bel.size
    have hcall:=HV.out wr ch2 E' fs' now2 x g2 m2 q hs HC2.out HG2.out (by omega) (by omega) hn2 (by omega) (by omega) HNl.out
    have hfine:=fine_look HC.out f now2 x q E' (by omega) (by omega) (by omega)
    have HD:=Lib.hid (show each (look l f now2) ((kidsAt l k).drop j) E' = (look l f now2 x E').bind (each (look l f now2) ((kidsAt l k).drop (j+1))) by rw [each_drop hjl,hx1,Int.toNat_natCast])
    clear hs hkc hx1 hx4
    go_wp2_with (go_at_call 84;refine hcall.mono ?_)
    intro e w3 hd
    cases hr:look l f now2 x E' with
    | out=>rw [hr] at hfine;exact hfine.elim
    | bad c a =>
      rw [hr] at hd hfine
      obtain ⟨rfl,hc3⟩:=hd
      have hB:=hc3.blk HY.out hneF hne
      have HF:Hid (∀ o,Q (.returned (.agg #[.int .i64 c,.int .i64 a])) (((w3.setCell ⟨w.heap.size,0,none⟩ (.int .i64 c)).setCell ⟨w.heap.size,1,none⟩ (.int .i64 a)).alloc o)):=fun o=>by
        rw [HQ.out,HT.out (.bad c a) (by rw [← HTO.out,HTt.out,HD.out,hr];rfl)]
        exact ⟨rfl,((HPB.out _ (HCg.out.trans hc3)).box2 (Nat.le_refl _) _ _).alloc _⟩
      have y0:w3.cell? ⟨w.heap.size,0,none⟩=some (.int .i64 0):=by rw [hB.cell];rfl
      have y1:w3.cell? ⟨w.heap.size,1,none⟩=some (.int .i64 0):=by rw [hB.cell];rfl
      have g0:=hB.frozen 0
      have g1:=hB.frozen 1
      have lY:=hB.lt
      have hz:=(set2 hB (.int .i64 c) (.int .i64 a)).alloc (.cells #[.int .i64 c,.int .i64 a] 26)
      have Z0:=Lib.hid (hz.cell 0)
      have Z1:=Lib.hid (hz.cell 1)
      clear hB hz hcall hc3 hr
      rcases hfine with rfl | rfl
      all_goals
        go_wp2
        have z0:=Z0.out
        have z1:=Z1.out
        refine bodyPost_ret (v:=.agg #[_,_]) (by simp [results,Tryz.results139,go_sem,z0,z1];exact ⟨rfl,rfl⟩) rfl ?_
        exact HF.out _
    | ok E2 W2 =>
      rw [hr] at hd hfine
      obtain ⟨rfl,hc3,hs3⟩:=hd
      have HY3:=Lib.hid (hc3.blk HY.out hneF hne)
      have HREL:Hid (RelK w0 w2 l (some ⟨b,o,none⟩) cap R F ch2 m2 fs f now2 k q pos tot (j+1) (w3.alloc (.cells #[.int .i64 0,.int .i64 0] 26))) :=
        ⟨E2,W ++ W2,_,(HCg.out.trans hc3).alloc _,hs3.alloc _,by rw [HFS.out,ov_app],HNl.out.ov hfine.2,by have:=hfine.1;omega,by rw [HTt.out,HD.out,hr];show ((each _ _ E2).pre W2).pre W=_;rw [pre_pre]⟩
      clear hcall hc3 hs3 hr hfine d0
      go_wp2
      go_roundw
      case rel=>exact ⟨j+1,by omega,by go_num,HREL.out,HY3.out.alloc _⟩
      case measure=>simp [intOf];omega
  · have hje:j=cn:=by omega
    have HR:Hid (tot=.ok E' W):=by
      have:=HTt.out
      rw [each_end (by have:=HCN.out;omega)] at this
      rw [this]
      exact congrArg (Rs.ok E') (by simp)
    obtain ⟨hc4,hs4⟩:=HPOP.out _ _ _ HCg.out hs
    have hB:=HY.out
    have y0:wr.cell? ⟨w.heap.size,0,none⟩=some (.int .i64 0):=by rw [hB.cell];rfl
    have y1:wr.cell? ⟨w.heap.size,1,none⟩=some (.int .i64 0):=by rw [hB.cell];rfl
    have g0:=hB.frozen 0
    have g1:=hB.frozen 1
    have lY:=hB.lt
    have hz:=set2 hB (.int .i64 0) (.int .i64 0)
    have Z0:=Lib.hid (hz.cell 0)
    have Z1:=Lib.hid (hz.cell 1)
    have HC4:=Lib.hid hc4
    have HS4:=Lib.hid hs4
    clear hB hz hc4 hs4 hs
    go_wp2
    have z0:=Z0.out
    have z1:=Z1.out
    refine bodyPost_ret (v:=.agg #[.int .i64 0,.int .i64 0]) (by simp [results,Tryz.results139,go_sem,z0,z1]) rfl ?_
    rw [HQ.out,HT.out (.ok E' W) (by rw [← HTO.out,HR.out])]
    exact Dn.fine HC4.out HS4.out hL HY.out (Nat.le_refl _) HFS.out

end
end Sc
end
section
namespace Sc
open Go.RowKit
open Tr

section
variable {w0 w w2:World}{l:List Nd}{p:Option Addr}{cap R F:Nat}{ch:Ch}{E:Env}{fs:List Int}
theorem own_step (hC:∀ j,j<l.length→codeAt l j=0) (hl:l.length≤600) {now k g m b:Nat}(hk:k<l.length) (hch:ch.length=now+1) (hg:ch[now]? = some (g,m)) (hnow:now≤1000000) (hb:b≤1000000) :
    StepF w0 l p cap R F ch m g k 140 b (own l now k) :=
  fun _ _ _ h hE hn=>own_any h hch hg hk hl (by omega) hnow (hC k hk) hn
theorem kids_step {f:Nat}(hV:VisitOK w0 l p cap R F f) (hC:∀ j,j<l.length→codeAt l j=0) (hl:l.length≤600) {now k g m q:Nat}(hk:k<l.length) (hkf:k<f+1) (hch:ch.length=now+1) (hg:ch[now]? = some (g,m)) (hnow:now+(f+1)≤1000000) (hq:q+k≤1000000) :
    StepF w0 l p cap R F ch m g k 139 (q+St l k) (kidsF l (look l f) now k):=by
  cases hop:opB (kindAt l k) with
  | true=>exact kids_open hV hC hl hk hkf hch hg hnow hq hop
  | false=>exact kids_plain hV hC hl hk hkf hch hg hnow hq hop
theorem fine_kids_look (hC:∀ j,j<l.length→codeAt l j=0) {f now k q:Nat}{E:Env}(hk:k<l.length) (hkf:k<f+1) (hE:E.length≤q+St l k):Fine l (q+k) (kidsF l (look l f) now k E) :=
  fine_kids hk (hC k hk) (fun now x E'' h1 h2 h3=>fine_look hC f now x q E'' (by omega) h2 h3) hE
/-- what a store of what came of two steps gives -/
theorem Dn.lift {m B:Nat}{r:Rs}{e:Ending}(hb:Below w.heap.size w w2) (hL:w0.heap.size≤w.heap.size) (hB:Blk w2 B 26 #[.int .i64 0,.int .i64 0]) (hBw:w.heap.size≤B) (hBF:B≠F) (hBm:B≠m) {w3:World}(h:Dn w0 w2 l p cap R F ch m fs r e w3) (hr:r≠.out) :
    ∃ c a:Int,e=.returned (.agg #[.int .i64 c,.int .i64 a])∧Blk w3 B 26 #[.int .i64 0,.int .i64 0]∧Dn w0 w l p cap R F ch m fs r (.returned (.agg #[.int .i64 c,.int .i64 a])) ((w3.setCell ⟨B,0,none⟩ (.int .i64 c)).setCell ⟨B,1,none⟩ (.int .i64 a)):=by
  cases r with
  | out=>exact absurd rfl hr
  | bad c a =>
    obtain ⟨rfl,hc⟩:=h
    exact ⟨c,a,rfl,hc.blk hB hBF hBm,rfl,((Chg.below hb).trans hc).box2 hBw _ _⟩
  | ok E' W =>
    obtain ⟨rfl,hc,hs⟩:=h
    have h3:=hc.blk hB hBF hBm
    exact ⟨0,0,rfl,h3,Dn.fine ((Chg.below hb).trans hc) hs hL h3 hBw rfl⟩

set_option maxHeartbeats 8000000 in
set_option maxRecDepth 100000 in
theorem visit_step {f:Nat}(hV:VisitOK w0 l p cap R F f) (hC:∀ j,j<l.length→codeAt l j=0) (hl:l.length≤600):VisitOK w0 l p cap R F (f+1):=by
  intro w ch E fs now k g m q h hch hg hk hkf hnow hE hq hnl
  obtain ⟨hm1,hm2,hg1⟩:=h.m_lt hg
  have hF:=h.fnd.lt
  have hle:=St_le l k
  have hown:∀ b,b≤1000000→StepF w0 l p cap R F ch m g k 140 b (own l now k):=fun b hb=>own_step hC hl hk hch hg (by omega) hb
  have hkid:∀ q,q+k≤1000000→StepF w0 l p cap R F ch m g k 139 (q+St l k) (kidsF l (look l f) now k):=fun q hq=>kids_step hV hC hl hk hkf hch hg hnow hq
  have hout:=(fine_look hC (f+1) now k q E hkf hk hE).out
  obtain ⟨r,hr⟩ : ∃ r,r=look l (f+1) now k E:=⟨_,rfl⟩
  rw [← hr] at hout ⊢
  obtain ⟨b,o,hp,hb,hN,hN2⟩:=h.node hk
  obtain ⟨c0,c1,c2,c3,c4,c5⟩:=hN2 w h.bel
  obtain ⟨q2,r0,qf,⟨v,qv⟩,qF,qR⟩:=h.wants hk
  rw [hp] at r0
  rw [← kindAt_get hk] at c0
  have hbb:b<w.heap.size:=Nat.lt_of_lt_of_le hb h.bel.size
  obtain ⟨kd,hkd⟩ : ∃ kd,kd=kindAt l k:=⟨_,rfl⟩
  rw [← hkd] at c0
  have HL:=Lib.hid h.bel.size
  have hlk:look l (f+1) now k E=if kindAt l k=12 then (kidsF l (look l f) now k E).bind (own l now k) else (own l now k E).bind (kidsF l (look l f) now k):=rfl
  have hw1:∀ cs,Below w.heap.size w ((w.alloc (.cells #[.int .i64 0,.int .i64 0] 26)).alloc (.cells cs 113)):=fun cs=>((Below.refl w.heap.size w).alloc (Nat.le_refl _) _).alloc (by simp) _
  have hBx:∀ cs,Blk ((w.alloc (.cells #[.int .i64 0,.int .i64 0] 26)).alloc (.cells cs 113)) w.heap.size 26 #[.int .i64 0,.int .i64 0]:=fun cs=>(Blk.new w 26 #[.int .i64 0,.int .i64 0]).alloc _
  have hRw:∀ cs,Blk ((w.alloc (.cells #[.int .i64 0,.int .i64 0] 26)).alloc (.cells cs 113)) (w.heap.size+1) 113 cs:=fun cs=>by have:=Blk.new (w.alloc (.cells #[.int .i64 0,.int .i64 0] 26)) 113 cs;rw [World.size_alloc] at this;exact this
  by_cases h12:kd=12
  · have hr2:r=(kidsF l (look l f) now k E).bind (own l now k):=by rw [hr,hlk,if_pos (by rw [← hkd];exact h12)]
    have HS1:=hkid q (by omega)
    have HS2:=hown (q+k) (by omega)
    have HF1:∀ E,E.length≤q+St l k→Fine l (q+k) (kidsF l (look l f) now k E):=fun E hE=>fine_kids_look hC hk hkf hE
    have HF2:∀ E,E.length≤q+k→Fine l 100000000 (own l now k E):=fun E hE=>fine_own hk (by omega) (fun _=>by omega)
    have hE':=hE
    subst h12
    have hin:=inTurn_two (id1:=139) (id2:=140) ((h.alloc (.cells #[.int .i64 0,.int .i64 0] 26)).alloc (.cells #[.func (.func 139) #[.pointer (some ⟨R,0,none⟩)] #[],.func (.func 140) #[.pointer (some ⟨R,0,none⟩)] #[]] 113)) hg hE' hnl (hRw _) entKids entOwn HS1 HS2 HF1 HF2
    rw [← hr2] at hin
    obtain ⟨Q,hQ⟩ : ∃ Q:Ending→World→Prop,Q=Dn w0 w l p cap R F ch m fs r:=⟨_,rfl⟩
    rw [← hQ]
    have HQ:=Lib.hid hQ
    have HLIFT:Hid (∀ (e:Ending) (w3:World),Dn w0 ((w.alloc (.cells #[.int .i64 0,.int .i64 0] 26)).alloc (.cells #[.func (.func 139) #[.pointer (some ⟨R,0,none⟩)] #[],.func (.func 140) #[.pointer (some ⟨R,0,none⟩)] #[]] 113)) l p cap R F ch m fs r e w3→∃ c a:Int,e=.returned (.agg #[.int .i64 c,.int .i64 a])∧Blk w3 w.heap.size 26 #[.int .i64 0,.int .i64 0]∧Dn w0 w l p cap R F ch m fs r (.returned (.agg #[.int .i64 c,.int .i64 a])) ((w3.setCell ⟨w.heap.size,0,none⟩ (.int .i64 c)).setCell ⟨w.heap.size,1,none⟩ (.int .i64 a))) :=
      fun e w3 hd=>hd.lift (hw1 _) HL.out (hBx _) (Nat.le_refl _) (by omega) (by omega) hout
    have hn6:l.length≤1000000:=by omega
    clear hQ HS1 HS2 HF1 HF2 hE' hr2 hr hlk hw1 hBx hRw hown hkid hnl hN hN2 c1 c2 c3 c4 c5 q2 qf qv h hout hV hC hkd hch hg hp
    obtain ⟨n,hn⟩ : ∃ n,n=l.length:=⟨_,rfl⟩
    rw [← hn] at r0 hk hl
    clear hn6 hn
    go_enter Tryz.func84,Tryz.ntmps84
    go_wp2_with (go_at_call 138;refine hin.mono ?_)
    intro e w3 hd
    obtain ⟨c,a,rfl,hB,hf⟩:=HLIFT.out e w3 hd
    have y0:w3.cell? ⟨w.heap.size,0,none⟩=some (.int .i64 0):=by rw [hB.cell];rfl
    have y1:w3.cell? ⟨w.heap.size,1,none⟩=some (.int .i64 0):=by rw [hB.cell];rfl
    have g0:=hB.frozen 0
    have g1:=hB.frozen 1
    have lY:=hB.lt
    have hz:=set2 hB (.int .i64 c) (.int .i64 a)
    have Z0:=Lib.hid (hz.cell 0)
    have Z1:=Lib.hid (hz.cell 1)
    have HF:=Lib.hid hf
    clear hd hB hf hz hin HLIFT
    go_wp2
    have z0:=Z0.out
    have z1:=Z1.out
    refine bodyPost_ret (v:=.agg #[.int .i64 c,.int .i64 a]) (by simp [results,Tryz.results84,go_sem,z0,z1]) rfl ?_
    rw [HQ.out]
    exact HF.out
  · have hr2:r=(own l now k E).bind (kidsF l (look l f) now k):=by rw [hr,hlk,if_neg (by rw [← hkd];exact h12)]
    obtain ⟨q',hq',hq1,hq2⟩ : ∃ q',q≤q'∧q'≤q+1∧(kindAt l k=4→q' = q+1):=by
      by_cases h4:kindAt l k=4
      · exact ⟨q+1,by omega,by omega,fun _=>rfl⟩
      · exact ⟨q,by omega,by omega,fun e=>absurd e h4⟩
    have HS1:=hown (q+St l k) (by omega)
    have HS2:=hkid q' (by omega)
    have HF1:∀ E,E.length≤q+St l k→Fine l (q' + St l k) (own l now k E):=fun E hE=>by
      refine fine_own hk (by omega) (fun h4=>?_)
      rcases h4 with h4 | h4
      · have:=hq2 h4;omega
      · exact absurd (by rw [hkd];exact h4) h12
    have HF2:∀ E,E.length≤q' + St l k→Fine l 100000000 (kidsF l (look l f) now k E):=fun E hE=>(fine_kids_look hC hk hkf hE).mono (by omega)
    have hE':=hE
    have h12':(kd == 12)=false:=by simpa using h12
    clear hq' hq1 hq2 h12
    have hin:=inTurn_two (id1:=140) (id2:=139) ((h.alloc (.cells #[.int .i64 0,.int .i64 0] 26)).alloc (.cells #[.func (.func 140) #[.pointer (some ⟨R,0,none⟩)] #[],.func (.func 139) #[.pointer (some ⟨R,0,none⟩)] #[]] 113)) hg hE' hnl (hRw _) entOwn entKids HS1 HS2 HF1 HF2
    rw [← hr2] at hin
    obtain ⟨Q,hQ⟩ : ∃ Q:Ending→World→Prop,Q=Dn w0 w l p cap R F ch m fs r:=⟨_,rfl⟩
    rw [← hQ]
    have HQ:=Lib.hid hQ
    have HLIFT:Hid (∀ (e:Ending) (w3:World),Dn w0 ((w.alloc (.cells #[.int .i64 0,.int .i64 0] 26)).alloc (.cells #[.func (.func 140) #[.pointer (some ⟨R,0,none⟩)] #[],.func (.func 139) #[.pointer (some ⟨R,0,none⟩)] #[]] 113)) l p cap R F ch m fs r e w3→∃ c a:Int,e=.returned (.agg #[.int .i64 c,.int .i64 a])∧Blk w3 w.heap.size 26 #[.int .i64 0,.int .i64 0]∧Dn w0 w l p cap R F ch m fs r (.returned (.agg #[.int .i64 c,.int .i64 a])) ((w3.setCell ⟨w.heap.size,0,none⟩ (.int .i64 c)).setCell ⟨w.heap.size,1,none⟩ (.int .i64 a))) :=
      fun e w3 hd=>hd.lift (hw1 _) HL.out (hBx _) (Nat.le_refl _) (by omega) (by omega) hout
    have hn6:l.length≤1000000:=by omega
    clear hQ HS1 HS2 HF1 HF2 hE' hr2 hr hlk hw1 hBx hRw hown hkid hnl hN hN2 c1 c2 c3 c4 c5 q2 qf qv h hout hV hC hkd hch hg hp
    obtain ⟨n,hn⟩ : ∃ n,n=l.length:=⟨_,rfl⟩
    rw [← hn] at r0 hk hl
    clear hn6 hn
    go_enter Tryz.func84,Tryz.ntmps84
    go_wp2_with (go_at_call 138;refine hin.mono ?_)
    intro e w3 hd
    obtain ⟨c,a,rfl,hB,hf⟩:=HLIFT.out e w3 hd
    have y0:w3.cell? ⟨w.heap.size,0,none⟩=some (.int .i64 0):=by rw [hB.cell];rfl
    have y1:w3.cell? ⟨w.heap.size,1,none⟩=some (.int .i64 0):=by rw [hB.cell];rfl
    have g0:=hB.frozen 0
    have g1:=hB.frozen 1
    have lY:=hB.lt
    have hz:=set2 hB (.int .i64 c) (.int .i64 a)
    have Z0:=Lib.hid (hz.cell 0)
    have Z1:=Lib.hid (hz.cell 1)
    have HF:=Lib.hid hf
    clear hd hB hf hz hin HLIFT
    go_wp2
    have z0:=Z0.out
    have z1:=Z1.out
    refine bodyPost_ret (v:=.agg #[.int .i64 c,.int .i64 a]) (by simp [results,Tryz.results84,go_sem,z0,z1]) rfl ?_
    rw [HQ.out]
    exact HF.out
theorem visit_all (hC:∀ j,j<l.length→codeAt l j=0) (hl:l.length≤600):∀ f,VisitOK w0 l p cap R F f:=by
  intro f
  induction f with
  | zero=>intro w ch E fs now k g m q _ _ _ _ h;omega
  | succ f ih=>exact visit_step ih hC hl
end
end Sc
end
section
namespace Sc
open Go.RowKit
open Tr

theorem declare_low_no {w:World}{g m n:Nat}{u:Value}{f:List UInt8→Option Nat}(hb:Blk w g 192 #[u,.map (some m)]) (hM:MapIs w m n f) (k:Nat) (s:ByteArray) (hs:s.size≤maxLen) {v:Nat}(hv:f s.data.toList=some v) :
    Calls Tryz.prog 137 #[.pointer (some ⟨g,0,none⟩),.string s,.int .i64 k] w fun e w'=>e=.returned (.bool false)∧w=w':=by
  have c1:w.cell? ⟨g,1,none⟩=some (.map (some m)):=by rw [hb.cell];rfl
  have HM:=Lib.hid hM
  have HV:=Lib.hid hv
  have HS:=Lib.hid hs
  clear hb hM hv hs
  go_enter Tryz.func137,Tryz.ntmps137
  go_wp2_with (at_lookup;refine look_some _ HM.out HS.out HV.out rfl _ _ rfl rfl rfl ?_)
  go_ret
  exact ⟨rfl,rfl⟩
set_option maxHeartbeats 1000000 in
set_option maxRecDepth 100000 in
theorem declare_low_yes {w:World}{g m n k:Nat}{u:Value}{l:List Nd}{E:Env}(hb:Blk w g 192 #[u,.map (some m)]) (hM:MapIs w m n (roomF l E 0)) (hkm:k≤1000000) (hn:n≤1000000) (s:ByteArray) (hs:s.size≤maxLen) (ht:s.data.toList=tx l k) (hv:(roomF l E 0 (tx l k)).isSome=false) :
    Calls Tryz.prog 137 #[.pointer (some ⟨g,0,none⟩),.string s,.int .i64 k] w fun e w'=>e=.returned (.bool true)∧w.grownBy w' (some m)∧MapIs w' m (n+1) (roomF l (E ++ [(k,0)]) 0):=by
  have c1:w.cell? ⟨g,1,none⟩=some (.map (some m)):=by rw [hb.cell];rfl
  have hv2:roomF l E 0 s.data.toList=none:=by rw [ht];cases hr:roomF l E 0 (tx l k) with
    | none=>rfl
    | some v=>rw [hr] at hv;cases hv
  have HV:=Lib.hid hv2
  have HS:=Lib.hid hs
  have HM:=Lib.hid hM
  have HV0:=Lib.hid hv
  have HT:=Lib.hid ht
  have hn2:n<maxLen:=by unfold maxLen;omega
  have HN:=Lib.hid hn2
  have hwf:(Lit.int .i64 (k:Int)).wf=true:=WalkArith.wf_i64 (by omega)
  have HW:=Lib.hid hwf
  obtain ⟨D,hown,hD⟩:=hM
  have HO:=Lib.hid hown
  have HDD:=Lib.hid hD
  clear hb hown hD hv hv2 hs ht hn2 hwf
  go_enter Tryz.func137,Tryz.ntmps137
  go_wp2_with (first | (at_lookup;refine look_none _ HM.out HS.out HV.out rfl _ _ rfl rfl rfl ?_) | (at_mapUpdate;refine wpList_mapUpdate_own _ rfl _ _ _ 190 rfl 9 3 lawS Tryz.underlying190 _ m n D rfl HO.out HN.out _ _ _ rfl rfl (WideMaps.keyOf_string_mk Tryz.underlying9 HS.out) _ [] (plainElem_int Tryz.underlying3 HW.out) ?_;intro w1 hown1 hgrow1))
  have HG:=Lib.hid hgrow1
  have HO1:=Lib.hid hown1
  clear hgrow1 hown1
  go_wp2
  go_ret
  refine ⟨rfl,HG.out,_,HO1.out,fun s'=>?_⟩
  have hMap:=HO.out.isMap
  by_cases e:s' = tx l k
  · subst e
    rw [roomF_same HV0.out,HT.out]
    have hk:WideAt.IsKeyLit (.string (tx l k)):=trivial
    exact ⟨Maps.has_put_same hMap hk _,fun v hv=>by cases hv;exact Maps.atKey_put_same hMap hk _ _⟩
  · have hne:Lit.string s'≠Lit.string s.data.toList:=fun e2=>e (by cases e2;exact HT.out)
    rw [Maps.has_put_other hne,Maps.atKey_put_other hne,roomF_other (fun hc=>e hc.2.symm)]
    exact HDD.out s'

def negA (n k:Nat):Array Value:=(List.replicate k (Value.int .i64 (-1)) ++ List.replicate (n-k) (Value.int .i64 0)).toArray
theorem negA_zero (n:Nat):numC n []=negA n 0:=by simp [numC,negA]
theorem negA_end (n:Nat):negA n n=intA (List.replicate n (-1)):=by simp [negA,intA]
theorem negA_set {n k:Nat}(h:k<n):(negA n k).setIfInBounds k (.int .i64 (-1))=negA n (k+1):=by
  apply Array.ext'
  unfold negA
  rw [Array.toList_setIfInBounds]
  simp only
  rw [List.set_append,if_neg (by simp),List.length_replicate,Nat.sub_self]
  obtain ⟨r,hr⟩ : ∃ r,n-k=r+1:=⟨n-k-1,by omega⟩
  rw [hr,show n-(k+1)=r by omega,List.replicate_succ,List.set_cons_zero,List.replicate_succ',List.append_assoc]
  rfl
theorem negA_get {n k:Nat}(h:k<n):(negA n k)[k]? = some (.int .i64 0):=by
  unfold negA
  rw [List.getElem?_toArray,List.getElem?_append_right (by simp),List.length_replicate,Nat.sub_self,List.getElem?_replicate,if_pos (by omega)]
set_option maxHeartbeats 4000000 in
set_option maxRecDepth 100000 in
theorem nothing_any (n:Nat) (hn:n≤600) (w:World) :
    Calls Tryz.prog 83 #[.int .i64 n] w fun e w'=>e=.returned (.slice (some ⟨w.heap.size,0,none⟩) n n)∧Below w.heap.size w w'∧Blk w' w.heap.size 3 (intA (List.replicate n (-1))):=by
  have hmk:=make_ints n w (by omega)
  rw [negA_zero] at hmk
  go_enter Tryz.func83,Tryz.ntmps83
  go_wp2
  have HMK:=Lib.hid hmk
  clear hmk
  go_loopw [9] (fun v wr=>∃ k:Nat,k≤n∧v=.int .i64 k∧Blk wr w.heap.size 3 (negA n k)∧Below w.heap.size w wr) (fun v _=>n-(intOf v).toNat)
  case atStart=>exact ⟨0,Nat.zero_le _,rfl,Blk.new _ _ _,(Below.refl _ _).alloc (Nat.le_refl _) _⟩
  obtain ⟨k,hk,rfl,hB,hbel⟩:=hrel
  have HBe:=Lib.hid hbel
  by_cases hlt:k<n
  · have x0:wr.cell? ⟨w.heap.size,k,none⟩=some (.int .i64 0):=by rw [hB.cell];exact negA_get hlt
    have g0:=hB.frozen k
    have lB:=hB.lt
    have HB:=Lib.hid hB
    clear hB hbel
    go_wp2
    go_roundw
    case rel=>exact ⟨k+1,by omega,by go_num,by have:=HB.out.set_ k (.int .i64 (-1));rw [negA_set hlt] at this;exact this,HBe.out.setCell (p:=⟨w.heap.size,k,none⟩) (Nat.le_refl _) _⟩
    case measure=>simp [intOf];omega
  · have e:k=n:=by omega
    have HB:=Lib.hid (show Blk wr w.heap.size 3 (intA (List.replicate n (-1))) by rw [← negA_end,← e];rw [e] at hB ⊢;exact hB)
    clear hB hbel
    go_wp2
    go_ret
    exact ⟨rfl,HBe.out,HB.out⟩
end Sc
end
end Go.Proofs.YtdjpopebeenlmaaGreatDoor
