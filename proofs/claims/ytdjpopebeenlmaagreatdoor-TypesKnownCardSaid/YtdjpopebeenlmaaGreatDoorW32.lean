/-
  Joined texts of this claim: Yu, Yw, Yx.
-/
import Derived.Test.YtdjpopebeenlmaaGreatDoorW00
import Derived.Test.YtdjpopebeenlmaaGreatDoorW31
set_option maxHeartbeats 40000000
set_option maxRecDepth 100000
set_option linter.unusedVariables false
set_option linter.unusedSimpArgs false
namespace Go.Proofs.YtdjpopebeenlmaaGreatDoor
section
namespace Ty
open Go.RowKit Go.Shelf
open Tr Sc
attribute [local go_sem] Oper.semAt_some

section
variable {w:World}{l:List Nd}{p:Option Addr}{cap C N P T:Nat}{ns fs:List Int}
theorem ex_from {β:Type}(n B:Nat) (t:TypeId) (R:β→Int→Prop):OwnFrom n (fun (s:β) W=>∃ v:Int,Boxed W B t (.int .i64 v)∧R s v):=fun s X Y row ⟨v,h⟩ hg hr =>
  ⟨v,(box_from n B t (.int .i64 v) (fun s=>R s v)) s X Y row h hg hr⟩
/-- what the function tells, as far as the nodes have come -/
def Fd (l:List Nd) (pre:List { x:Nat // x<l.length }) (v:Int):Prop:=∃ pre' x,pre=pre' ++ [x]∧(∀ y ∈ pre',kindAt l y.1≠3)∧kindAt l x.1=3∧v=numOf l x.1
theorem tells_none {l:List Nd}{k:Nat}{xs:List { x:Nat // x<l.length }} (h:xs.map (·.1)=outsF l k) (hn:∀ y ∈ xs,kindAt l y.1≠3):tellsF l k=0:=by
  unfold tellsF
  rw [← h,List.find?_eq_none.2 (fun y hy=>by obtain ⟨z,hz,rfl⟩:=List.mem_map.1 hy;simpa using hn z hz)]
  rfl
theorem tells_some {l:List Nd}{k:Nat}{xs pre:List { x:Nat // x<l.length }} {v:Int}(h:xs.map (·.1)=outsF l k) (hp:pre <+: xs) (hf:Fd l pre v):tellsF l k=v:=by
  obtain ⟨pre',x,rfl,h1,h2,rfl⟩:=hf
  obtain ⟨r,rfl⟩:=hp
  unfold tellsF
  rw [← h,List.map_append,List.map_append,List.map_cons,List.map_nil,find_ahead (fun y hy=>by obtain ⟨z,hz,rfl⟩:=List.mem_map.1 hy;simpa using h1 z hz) (by simpa using h2)]
  rfl
set_option maxRecDepth 100000 in
set_option maxHeartbeats 8000000 in
theorem returns_empty (h:Ck w l p cap C N P T ns fs) (hC:∀ j,j<l.length→codeAt l j=0) (hp:∀ y,y<l.length→(parF l).getD y (-1) = -1∨∃ z:Nat,(parF l).getD y (-1)=(z:Int)∧y<z∧z<l.length) (hl:l.length≤600) {k:Nat}(hk:k<l.length) (hkids:kidsAt l k=[]) :
    Calls Tryz.prog 143 #[.pointer (some ⟨C,0,none⟩),.int .i64 k] w fun e w'=>e=.returned (.bool (retB l fs k))∧Below w.heap.size w w':=by
  have HAR:Hid (∀ V,Below w.heap.size w V→Calls Tryz.prog 194 #[.pointer (some ⟨C,0,none⟩),.int .i64 k] V fun e w'=>∃ lb,e=.returned (.func (.func 231) #[] lb)∧Below V.heap.size V w'∧SeqA l.length w' (.func (.func 231) #[] lb) (outsF l k)):=fun V hV=>around_seqA (h.below hV) hp hl hk
  have hkl:(kidsAt l k)=l[k].c:=kidsAt_get hk
  obtain ⟨b,o,rfl,hbw,hN⟩:=h.node hk
  have HC0:Hid (∀ V,Below w.heap.size w V→V.cell? ⟨C,0,none⟩=some (.slice (some ⟨b,o,none⟩) l.length cap)):=Lib.hid (fun V hV=>by rw [(h.chk.below hV h.chk.lt).cell];rfl)
  have HC3:Hid (∀ V,Below w.heap.size w V→V.cell? ⟨C,3,none⟩=some (.slice (some ⟨T,0,none⟩) l.length l.length)):=Lib.hid (fun V hV=>by rw [(h.chk.below hV h.chk.lt).cell];rfl)
  have HKD:Hid (∀ V,Below w.heap.size w V→∀ x,x<l.length→V.cell? ⟨b,o+x * 6,none⟩=some (.int .i64 (kindAt l x))∧V.cell? ⟨b,o+x * 6+2,none⟩=some (.int .i64 (numOf l x))):=Lib.hid (fun V hV x hx=>by rw [kindAt_get hx,num_get hx];exact ⟨(hN V hV x hx).1,(hN V hV x hx).2.2.1⟩)
  have HKS:Hid (∀ V,Below w.heap.size w V→V.cell? ⟨b,o+k * 6+4,none⟩=some (.slice l[k].p l[k].c.length l[k].cap)):=Lib.hid (fun V hV=>(hN V hV k hk).2.2.2.2.1)
  obtain ⟨kc,hkc⟩ : ∃ kc,kc=l[k].cap:=⟨_,rfl⟩
  rw [← hkc] at HKS
  obtain ⟨r,hr⟩ : ∃ r,r=retB l fs k:=⟨_,rfl⟩
  rw [← hr]
  have HR:=Lib.hid hr
  have HKE:=Lib.hid hkids
  have HCN:Hid (l[k].c.length=0):=Lib.hid (by rw [← hkl,hkids];rfl)
  clear h hp hN hr hkc hbw hkl hkids hC
  refine (callsIn_wide (n:=20)).1 ?_
  refine callsIn_of_wp_marks Tryz.func143 rfl trivial ?_ rfl
  simp only [Tryz.ntmps143,List.size_toArray,List.length_cons,List.length_nil,Nat.reduceAdd,Nat.reduceSub,Array.replicate_succ,Array.replicate_zero,List.push_toArray,List.append_toArray,List.nil_append,List.cons_append]
  have BX:Hid (∀ u x,Boxed ((w.alloc (.cells #[u] 114)).alloc (.cells #[x] 3)) w.heap.size 114 u∧Boxed ((w.alloc (.cells #[u] 114)).alloc (.cells #[x] 3)) (w.heap.size+1) 3 x∧Below w.heap.size w ((w.alloc (.cells #[u] 114)).alloc (.cells #[x] 3))):=Lib.hid (fun u x=>by
    refine ⟨(Boxed.new w _ _).alloc _,?_,?_⟩
    · have:=Boxed.new (w.alloc (.cells #[u] 114)) 3 x
      rw [World.size_alloc] at this;exact this
    · exact ((Below.refl _ _).alloc (Nat.le_refl _) _).alloc (by simp) _)
  gi_wp2_with (refine ⟨trivial,?_⟩;gi_at_call 194;go_loud (refine (callsIn_wide.2 (HAR.out _ (BX.out _ _).2.2)).mono ?_);rintro e w1 ⟨lb,rfl,hb1,hs1⟩)
  have HB1:=Lib.hid ((BX.out _ _).2.2.trans (hb1.mono (BX.out _ _).2.2.size))
  have bC:Boxed w1 w.heap.size 114 (.pointer (some ⟨C,0,none⟩)):=(hb1.block _ (BX.out _ _).1.lt).trans (BX.out _ _).1
  have bR:Boxed w1 (w.heap.size+1) 3 (.int .i64 0):=(hb1.block _ (BX.out _ _).2.1.lt).trans (BX.out _ _).2.1
  clear hb1
  obtain ⟨g0,lb0,hg0,_,xs,hxs,hst⟩:=hs1
  obtain ⟨rfl,rfl⟩ : g0=231∧lb0=lb:=by
    have:=hg0.symm;simpa using this
  have HXS:=Lib.hid hxs
  have HBC:=Lib.hid bC
  clear hg0 hxs
  refine wpIn_rangeFunc_ownF rfl (by omega) (gf:=231) (lb:=lb0) rfl trivial enters_ar (hst _ (by omega)) belowK_t (belowK_b (Nat.le_refl _)) (Below.refl _ _) (fun _=>rfl)
    (fun pre W=>(Boxed W (w.heap.size+1) 3 (.int .i64 0)∧∀ y ∈ pre,kindAt l y.1≠3)∧Below w1.heap.size w1 W)
    (fun c pre W=>((∃ v:Int,Boxed W (w.heap.size+1) 3 (.int .i64 v)∧(c=.exit 0∧Fd l pre v))∧(Boxed W w.heap.size 114 (.pointer (some ⟨C,0,none⟩))∧True))∧Below w.heap.size w W)
    (OwnFrom.and (box_from _ _ _ _ _) (ownFrom_below (Nat.le_refl _) (Nat.le_refl _)))
    (fun c=>OwnFrom.and (OwnFrom.and (ex_from _ _ _ _) (box_from _ _ _ _ _)) (ownFrom_below (Nat.le_refl _) HB1.out.size))
    ⟨⟨bR,by simp⟩,Below.refl _ _⟩ ?a1 ?assign ?body ?done ?stop
  case assign =>
    intro l x W K hK
    gi_wp2
    exact hK
  case body =>
    rintro lc pre ⟨x,hx⟩ W ⟨⟨hR,hall⟩,hB⟩ hlt
    have hBw:=HB1.out.trans (hB.mono HB1.out.size)
    have hcC:=(hB.cell (p:=⟨w.heap.size,0,none⟩) bC.lt).trans bC.cell
    have hfR:=hR.frozen
    have hcR:=hR.cell
    have hc0:=HC0.out W hBw
    obtain ⟨hkd,hnd⟩:=HKD.out W hBw x hx
    obtain ⟨kd,hkdd⟩ : ∃ kd,kd=kindAt l x:=⟨_,rfl⟩
    rw [← hkdd] at hkd
    have HKDD:=Lib.hid hkdd
    have HR2:=Lib.hid hR
    have HALL:=Lib.hid hall
    have HBB:=Lib.hid hB
    have HBW:=Lib.hid hBw
    obtain ⟨nn,hnn⟩ : ∃ nn,nn=l.length:=⟨_,rfl⟩
    rw [← hnn] at hc0
    have hxn:x<nn:=by omega
    have hl6:nn≤600:=by omega
    have HBC2:Hid (Boxed W w.heap.size 114 (.pointer (some ⟨C,0,none⟩))):=Lib.hid ((hB.block _ bC.lt).trans bC)
    have hne:w.heap.size≠w.heap.size+1:=by omega
    clear hkdd hB hBw hall hR hnn
    by_cases h3:kd=3
    · subst h3
      gi_wp2
      exact ⟨KeepsOthers.setCell _ _ _,⟨⟨_,HR2.out.set _,rfl,pre,⟨x,hx⟩,rfl,HALL.out,HKDD.out.symm,rfl⟩,Boxed.other HBC2.out hne _,trivial⟩,HBW.out.setCell (p:=⟨w.heap.size+1,0,none⟩) (by simp) _⟩
    · gi_wp2
      exact ⟨KeepsOthers.refl _,Below.refl _ _,⟨HR2.out,fun y hy=>(List.mem_append.1 hy).elim (HALL.out y) (fun e=>by simp at e;subst e;rw [← HKDD.out];exact h3)⟩,HBB.out⟩
  case done =>
    rintro D ys W hD rfl ⟨⟨hR,hall⟩,hB⟩ hK
    have htl:tellsF l k=0:=tells_none HXS.out hall
    have hBw:=HB1.out.trans (hB.mono HB1.out.size)
    have hcC:=(hB.cell (p:=⟨w.heap.size,0,none⟩) bC.lt).trans bC.cell
    have hcR:=hR.cell
    have hc0:=HC0.out W hBw
    have hc3:=HC3.out W hBw
    have hks:=HKS.out W hBw
    have hr:r=decide (0=0):=by rw [HR.out];unfold retB;rw [htl,HKE.out];simp
    obtain ⟨nn,hnn⟩ : ∃ nn,nn=l.length:=⟨_,rfl⟩
    rw [← hnn] at hc0 hc3 hk hl
    rw [HCN.out] at hks
    have HRR:=Lib.hid hr
    clear hr hnn htl
    gi_wp2
    refine ⟨by simp,.inl ⟨_,_,rfl,run_takeDeferred hK,?_⟩⟩
    exact ⟨_,results_tmp rfl _ _ _,(by show Ending.returned (Value.bool _)=Ending.returned (Value.bool _);exact ret_bool (by rw [HRR.out];go_light;(try simp_all);(try omega))),hBw.trans (belowK_b (w:=w) (Nat.le_refl _) W D _ _ (Nat.le_trans HB1.out.size hD) hK rfl rfl)⟩
  case stop =>
    rintro D c pre W hD hpre ⟨⟨⟨v,hR,rfl,hfd⟩,hCb,_⟩,hB⟩ hK
    have htl:tellsF l k=v:=tells_some HXS.out hpre hfd
    have hBw:=hB
    have hcC:=hCb.cell
    have hcR:=hR.cell
    have hc0:=HC0.out W hBw
    have hc3:=HC3.out W hBw
    have hks:=HKS.out W hBw
    have hr:r=decide (v=0):=by rw [HR.out];unfold retB;rw [htl,HKE.out];simp
    obtain ⟨nn,hnn⟩ : ∃ nn,nn=l.length:=⟨_,rfl⟩
    rw [← hnn] at hc0 hc3 hk hl
    rw [HCN.out] at hks
    have HRR:=Lib.hid hr
    clear hr hnn htl hfd
    by_cases hv0:v=0
    · subst hv0
      gi_wp2
      refine ⟨by simp,.inl ⟨_,_,rfl,run_takeDeferred hK,?_⟩⟩
      exact ⟨_,results_tmp rfl _ _ _,(by show Ending.returned (Value.bool _)=Ending.returned (Value.bool _);exact ret_bool (by rw [HRR.out];go_light;(try simp_all);(try omega))),hBw.trans (belowK_b (w:=w) (Nat.le_refl _) W D _ _ (Nat.le_trans HB1.out.size hD) hK rfl rfl)⟩
    · gi_wp2
      refine ⟨by simp,.inl ⟨_,_,rfl,run_takeDeferred hK,?_⟩⟩
      exact ⟨_,results_tmp rfl _ _ _,(by show Ending.returned (Value.bool _)=Ending.returned (Value.bool _);exact ret_bool (by rw [HRR.out];go_light;(try simp_all);(try omega))),hBw.trans (belowK_b (w:=w) (Nat.le_refl _) W D _ _ (Nat.le_trans HB1.out.size hD) hK rfl rfl)⟩
set_option maxRecDepth 100000 in
set_option maxHeartbeats 8000000 in
theorem returns_one (h:Ck w l p cap C N P T ns fs) (hC:∀ j,j<l.length→codeAt l j=0) (hp:∀ y,y<l.length→(parF l).getD y (-1) = -1∨∃ z:Nat,(parF l).getD y (-1)=(z:Int)∧y<z∧z<l.length) (hl:l.length≤600) {k:Nat}(hk:k<l.length) (hkids:1≤(kidsAt l k).length) :
    Calls Tryz.prog 143 #[.pointer (some ⟨C,0,none⟩),.int .i64 k] w fun e w'=>e=.returned (.bool (retB l fs k))∧Below w.heap.size w w':=by
  have HAR:Hid (∀ V,Below w.heap.size w V→Calls Tryz.prog 194 #[.pointer (some ⟨C,0,none⟩),.int .i64 k] V fun e w'=>∃ lb,e=.returned (.func (.func 231) #[] lb)∧Below V.heap.size V w'∧SeqA l.length w' (.func (.func 231) #[] lb) (outsF l k)):=fun V hV=>around_seqA (h.below hV) hp hl hk
  have hkl:(kidsAt l k)=l[k].c:=kidsAt_get hk
  obtain ⟨y,kb,ko,hy,hyk,hkp0,hkb,hcell⟩:=kid0 h hC hk (i:=0) (by omega)
  obtain ⟨b,o,rfl,hbw,hN⟩:=h.node hk
  have HC0:Hid (∀ V,Below w.heap.size w V→V.cell? ⟨C,0,none⟩=some (.slice (some ⟨b,o,none⟩) l.length cap)):=Lib.hid (fun V hV=>by rw [(h.chk.below hV h.chk.lt).cell];rfl)
  have HC3:Hid (∀ V,Below w.heap.size w V→V.cell? ⟨C,3,none⟩=some (.slice (some ⟨T,0,none⟩) l.length l.length)):=Lib.hid (fun V hV=>by rw [(h.chk.below hV h.chk.lt).cell];rfl)
  have HKD:Hid (∀ V,Below w.heap.size w V→∀ x,x<l.length→V.cell? ⟨b,o+x * 6,none⟩=some (.int .i64 (kindAt l x))∧V.cell? ⟨b,o+x * 6+2,none⟩=some (.int .i64 (numOf l x))):=Lib.hid (fun V hV x hx=>by rw [kindAt_get hx,num_get hx];exact ⟨(hN V hV x hx).1,(hN V hV x hx).2.2.1⟩)
  have HKS:Hid (∀ V,Below w.heap.size w V→V.cell? ⟨b,o+k * 6+4,none⟩=some (.slice l[k].p l[k].c.length l[k].cap)):=Lib.hid (fun V hV=>(hN V hV k hk).2.2.2.2.1)
  rw [hkp0] at HKS
  have HKC:Hid (∀ V,Below w.heap.size w V→V.cell? ⟨kb,ko,none⟩=some (.int .i64 (y:Int))):=hcell
  have HT:Hid (∀ V,Below w.heap.size w V→V.cell? ⟨T,y,none⟩=some (.int .i64 (iAt fs (y:Int)))):=Lib.hid (fun V hV=>by rw [(h.typ.below hV h.typ.lt).cell,intA_get (by rw [h.tlen];omega)])
  have HYL:Hid (y<l.length):=Lib.hid (by omega)
  obtain ⟨kc,hkc⟩ : ∃ kc,kc=l[k].cap:=⟨_,rfl⟩
  rw [← hkc] at HKS
  obtain ⟨r,hr⟩ : ∃ r,r=retB l fs k:=⟨_,rfl⟩
  rw [← hr]
  have HR:=Lib.hid hr
  have HKE:Hid (¬ kidsAt l k=[]):=Lib.hid (fun e=>by rw [e] at hkids;simp at hkids)
  have HKN:Hid ((kidsAt l k).isEmpty=false):=Lib.hid (by cases hh:kidsAt l k with
    | nil=>rw [hh] at hkids;simp at hkids
    | cons a c=>rfl)
  obtain ⟨cn,hcn⟩ : ∃ cn,l[k].c.length=cn:=⟨_,rfl⟩
  have hcz:¬ cn=0:=by rw [hkl] at hkids;omega
  have hcz1:(0:Int)<(cn:Int):=by omega
  have hcz2:0<cn:=by omega
  have HCN:=Lib.hid hcn
  obtain ⟨t0,ht0⟩ : ∃ t0,t0=iAt fs (y:Int):=⟨_,rfl⟩
  rw [← ht0] at HT
  have HKT:Hid ((ktF l fs k).getD 0 0=t0):=Lib.hid (by rw [kt_get (by omega),ht0];congr 1;have:=hy;simpa [show 0<(kidsAt l k).length by omega] using this)
  clear hcn ht0 hy hyk hkp0 hcell
  clear h hp hN hr hkc hbw hkl hkids hC
  refine (callsIn_wide (n:=20)).1 ?_
  refine callsIn_of_wp_marks Tryz.func143 rfl trivial ?_ rfl
  simp only [Tryz.ntmps143,List.size_toArray,List.length_cons,List.length_nil,Nat.reduceAdd,Nat.reduceSub,Array.replicate_succ,Array.replicate_zero,List.push_toArray,List.append_toArray,List.nil_append,List.cons_append]
  have BX:Hid (∀ u x,Boxed ((w.alloc (.cells #[u] 114)).alloc (.cells #[x] 3)) w.heap.size 114 u∧Boxed ((w.alloc (.cells #[u] 114)).alloc (.cells #[x] 3)) (w.heap.size+1) 3 x∧Below w.heap.size w ((w.alloc (.cells #[u] 114)).alloc (.cells #[x] 3))):=Lib.hid (fun u x=>by
    refine ⟨(Boxed.new w _ _).alloc _,?_,?_⟩
    · have:=Boxed.new (w.alloc (.cells #[u] 114)) 3 x
      rw [World.size_alloc] at this;exact this
    · exact ((Below.refl _ _).alloc (Nat.le_refl _) _).alloc (by simp) _)
  gi_wp2_with (refine ⟨trivial,?_⟩;gi_at_call 194;go_loud (refine (callsIn_wide.2 (HAR.out _ (BX.out _ _).2.2)).mono ?_);rintro e w1 ⟨lb,rfl,hb1,hs1⟩)
  have HB1:=Lib.hid ((BX.out _ _).2.2.trans (hb1.mono (BX.out _ _).2.2.size))
  have bC:Boxed w1 w.heap.size 114 (.pointer (some ⟨C,0,none⟩)):=(hb1.block _ (BX.out _ _).1.lt).trans (BX.out _ _).1
  have bR:Boxed w1 (w.heap.size+1) 3 (.int .i64 0):=(hb1.block _ (BX.out _ _).2.1.lt).trans (BX.out _ _).2.1
  clear hb1
  obtain ⟨g0,lb0,hg0,_,xs,hxs,hst⟩:=hs1
  obtain ⟨rfl,rfl⟩ : g0=231∧lb0=lb:=by
    have:=hg0.symm;simpa using this
  have HXS:=Lib.hid hxs
  have HBC:=Lib.hid bC
  clear hg0 hxs
  refine wpIn_rangeFunc_ownF rfl (by omega) (gf:=231) (lb:=lb0) rfl trivial enters_ar (hst _ (by omega)) belowK_t (belowK_b (Nat.le_refl _)) (Below.refl _ _) (fun _=>rfl)
    (fun pre W=>(Boxed W (w.heap.size+1) 3 (.int .i64 0)∧∀ y ∈ pre,kindAt l y.1≠3)∧Below w1.heap.size w1 W)
    (fun c pre W=>((∃ v:Int,Boxed W (w.heap.size+1) 3 (.int .i64 v)∧(c=.exit 0∧Fd l pre v))∧(Boxed W w.heap.size 114 (.pointer (some ⟨C,0,none⟩))∧True))∧Below w.heap.size w W)
    (OwnFrom.and (box_from _ _ _ _ _) (ownFrom_below (Nat.le_refl _) (Nat.le_refl _)))
    (fun c=>OwnFrom.and (OwnFrom.and (ex_from _ _ _ _) (box_from _ _ _ _ _)) (ownFrom_below (Nat.le_refl _) HB1.out.size))
    ⟨⟨bR,by simp⟩,Below.refl _ _⟩ ?a1 ?assign ?body ?done ?stop
  case assign =>
    intro l x W K hK
    gi_wp2
    exact hK
  case body =>
    rintro lc pre ⟨x,hx⟩ W ⟨⟨hR,hall⟩,hB⟩ hlt
    have hBw:=HB1.out.trans (hB.mono HB1.out.size)
    have hcC:=(hB.cell (p:=⟨w.heap.size,0,none⟩) bC.lt).trans bC.cell
    have hfR:=hR.frozen
    have hcR:=hR.cell
    have hc0:=HC0.out W hBw
    obtain ⟨hkd,hnd⟩:=HKD.out W hBw x hx
    obtain ⟨kd,hkdd⟩ : ∃ kd,kd=kindAt l x:=⟨_,rfl⟩
    rw [← hkdd] at hkd
    have HKDD:=Lib.hid hkdd
    have HR2:=Lib.hid hR
    have HALL:=Lib.hid hall
    have HBB:=Lib.hid hB
    have HBW:=Lib.hid hBw
    obtain ⟨nn,hnn⟩ : ∃ nn,nn=l.length:=⟨_,rfl⟩
    rw [← hnn] at hc0
    have hxn:x<nn:=by omega
    have hl6:nn≤600:=by omega
    have HBC2:Hid (Boxed W w.heap.size 114 (.pointer (some ⟨C,0,none⟩))):=Lib.hid ((hB.block _ bC.lt).trans bC)
    have hne:w.heap.size≠w.heap.size+1:=by omega
    clear hkdd hB hBw hall hR hnn
    by_cases h3:kd=3
    · subst h3
      gi_wp2
      exact ⟨KeepsOthers.setCell _ _ _,⟨⟨_,HR2.out.set _,rfl,pre,⟨x,hx⟩,rfl,HALL.out,HKDD.out.symm,rfl⟩,Boxed.other HBC2.out hne _,trivial⟩,HBW.out.setCell (p:=⟨w.heap.size+1,0,none⟩) (by simp) _⟩
    · gi_wp2
      exact ⟨KeepsOthers.refl _,Below.refl _ _,⟨HR2.out,fun y hy=>(List.mem_append.1 hy).elim (HALL.out y) (fun e=>by simp at e;subst e;rw [← HKDD.out];exact h3)⟩,HBB.out⟩
  case done =>
    rintro D ys W hD rfl ⟨⟨hR,hall⟩,hB⟩ hK
    have htl:tellsF l k=0:=tells_none HXS.out hall
    have hBw:=HB1.out.trans (hB.mono HB1.out.size)
    have hcC:=(hB.cell (p:=⟨w.heap.size,0,none⟩) bC.lt).trans bC.cell
    have hcR:=hR.cell
    have hc0:=HC0.out W hBw
    have hc3:=HC3.out W hBw
    have hks:=HKS.out W hBw
    have hT:=HT.out W hBw
    have hkc:=HKC.out W hBw
    have hr:r=false:=by rw [HR.out];unfold retB;rw [htl,if_pos (Or.inl rfl),HKN.out];rfl
    obtain ⟨nn,hnn⟩ : ∃ nn,nn=l.length:=⟨_,rfl⟩
    rw [← hnn] at hc0 hc3 hk hl
    rw [HCN.out] at hks
    have hyn:y<nn:=by rw [hnn];exact HYL.out
    have HRR:=Lib.hid hr
    have hm:Tryz.prog.follows .mixedOrders=true:=by kernel_rfl
    clear hr hnn htl
    gi_wp2
    refine ⟨by simp,.inl ⟨_,_,rfl,run_takeDeferred hK,?_⟩⟩
    exact ⟨_,results_tmp rfl _ _ _,(by show Ending.returned (Value.bool _)=Ending.returned (Value.bool _);exact ret_bool (by rw [HRR.out];go_light;(try simp_all);(try omega))),hBw.trans (belowK_b (w:=w) (Nat.le_refl _) W D _ _ (Nat.le_trans HB1.out.size hD) hK rfl rfl)⟩
  case stop =>
    rintro D c pre W hD hpre ⟨⟨⟨v,hR,rfl,hfd⟩,hCb,_⟩,hB⟩ hK
    have htl:tellsF l k=v:=tells_some HXS.out hpre hfd
    have hBw:=hB
    have hcC:=hCb.cell
    have hcR:=hR.cell
    have hc0:=HC0.out W hBw
    have hc3:=HC3.out W hBw
    have hks:=HKS.out W hBw
    have hT:=HT.out W hBw
    have hkc:=HKC.out W hBw
    have hr:r=if v=0 then false else decide (t0=v):=by
      rw [HR.out];unfold retB;rw [htl]
      by_cases e:v=0
      · rw [if_pos (Or.inl e),if_pos e,HKN.out];simp
      · rw [if_neg (fun h=>h.elim e HKE.out),if_neg e,HKT.out]
    obtain ⟨nn,hnn⟩ : ∃ nn,nn=l.length:=⟨_,rfl⟩
    rw [← hnn] at hc0 hc3 hk hl
    rw [HCN.out] at hks
    have hyn:y<nn:=by rw [hnn];exact HYL.out
    have HRR:=Lib.hid hr
    have hm:Tryz.prog.follows .mixedOrders=true:=by kernel_rfl
    clear hr hnn htl hfd
    by_cases hv0:v=0
    · subst hv0
      gi_wp2
      refine ⟨by simp,.inl ⟨_,_,rfl,run_takeDeferred hK,?_⟩⟩
      exact ⟨_,results_tmp rfl _ _ _,(by show Ending.returned (Value.bool _)=Ending.returned (Value.bool _);exact ret_bool (by rw [HRR.out];go_light;(try simp_all);(try omega))),hBw.trans (belowK_b (w:=w) (Nat.le_refl _) W D _ _ (Nat.le_trans HB1.out.size hD) hK rfl rfl)⟩
    · have hvb:(v == 0)=false:=by simpa using hv0
      have hzb:((cn:Int) == 0)=false:=by simpa using hcz
      gi_wp2
      refine wpIn_wide.2 (wp_region_still_lit hm (by kernel_rfl) ?_)
      repeat still_step
      refine wpStill_nil ?_
      gi_wp2
      refine ⟨by simp,.inl ⟨_,_,rfl,run_takeDeferred (w:=W.drew) hK,?_⟩⟩
      exact ⟨_,results_tmp rfl _ _ _,(by show Ending.returned (Value.bool _)=Ending.returned (Value.bool _);exact ret_bool (by rw [HRR.out,if_neg hv0];go_light;(try (rw [Bool.eq_iff_iff];simp)))),(hBw.drew).trans (belowK_b (w:=w) (Nat.le_refl _) W.drew D _ _ (Nat.le_trans HB1.out.size hD) hK rfl rfl)⟩
theorem returns_any (h:Ck w l p cap C N P T ns fs) (hC:∀ j,j<l.length→codeAt l j=0) (hp:∀ y,y<l.length→(parF l).getD y (-1) = -1∨∃ z:Nat,(parF l).getD y (-1)=(z:Int)∧y<z∧z<l.length) (hl:l.length≤600) {k:Nat}(hk:k<l.length) :
    Calls Tryz.prog 143 #[.pointer (some ⟨C,0,none⟩),.int .i64 k] w fun e w'=>e=.returned (.bool (retB l fs k))∧Below w.heap.size w w':=by
  by_cases e:kidsAt l k=[]
  · exact returns_empty h hC hp hl hk e
  · refine returns_one h hC hp hl hk ?_
    have:(kidsAt l k).length≠0:=fun h=>e (List.length_eq_zero_iff.1 h)
    omega
end
end Ty
end
section
namespace Ty
open Go.RowKit
open Tr Sc

theorem still_drew {P:Program}{id:Nat}{Q:Exit→Act→World→Prop}{a:Act}{w:World}{l:List Oper}(hm:P.follows .mixedOrders=true) (hB:Region.lexB .any l.toArray=true)
    (h:wpStill P l.toArray w.drew (fun a'=>Q .normal a' w.drew) l a):(Code.region id l.toArray true).wp P Q a w:=wp_region_still_lit hm hB h
section
variable {w:World}{l:List Nd}{p:Option Addr}{cap C N P T:Nat}{ns fs:List Int}
set_option maxHeartbeats 8000000 in
set_option maxRecDepth 100000 in
theorem action_18 (h:Ck w l p cap C N P T ns fs) (hC:∀ j,j<l.length→codeAt l j=0) (hp:∀ y,y<l.length→(parF l).getD y (-1) = -1∨∃ z:Nat,(parF l).getD y (-1)=(z:Int)∧y<z∧z<l.length) (hl:l.length≤600) {k:Nat}(hk:k<l.length) (hkk:kindAt l k=18) :
    Calls Tryz.prog 85 #[.pointer (some ⟨C,0,none⟩),.int .i64 k] w fun e w'=>e=.returned (.int .i64 (actF l fs k))∧Below w.heap.size w w':=by
  have hlow:=kids_low hC hk
  rw [hkk] at hlow
  have hlow:1≤(kidsAt l k).length:=by simp [lowV] at hlow;omega
  have hcn0:l[k].c.length=(kidsAt l k).length:=by rw [kidsAt_get hk]
  obtain ⟨y,kb,ko,hy,hyk,hkp,hkb,hcell⟩:=kid0 h hC hk (i:=0) (by omega)
  have hkc0:w.cell? ⟨kb,ko,none⟩=some (.int .i64 (y:Int)):=hcell w (Below.refl _ _)
  have hyl:y<l.length:=by omega
  have hky:(ktF l fs k).getD 0 0=iAt fs (y:Int):=by rw [kt_get (by omega)];congr 1;have:=hy;simpa [show 0<(kidsAt l k).length by omega] using this
  have hCl:=h.chk.lt
  have hTl:=h.typ.lt
  have aT:w.cell? ⟨T,y,none⟩=some (.int .i64 (iAt fs (y:Int))):=by rw [h.typ.cell,intA_get (by rw [h.tlen];exact hyl)]
  have hact:actF l fs k=okC (decide (iAt fs (y:Int)=1)):=by
    unfold actF;dsimp only;rw [hkk];show okC (decide ((ktF l fs k).getD 0 0=1))=_;rw [hky]
  rw [hact]
  obtain ⟨v,hv⟩ : ∃ v,v=iAt fs (y:Int):=⟨_,rfl⟩
  rw [← hv] at aT ⊢
  have hv01:v=1∨v≠1:=by omega
  obtain ⟨b,o,rfl,hbw,hN⟩:=h.node hk
  have a0:w.cell? ⟨C,0,none⟩=some (.slice (some ⟨b,o,none⟩) l.length cap):=by rw [h.chk.cell];rfl
  have a3:w.cell? ⟨C,3,none⟩=some (.slice (some ⟨T,0,none⟩) l.length l.length):=by rw [h.chk.cell];rfl
  obtain ⟨c0,c1,c2,c3,c4,c5⟩:=hN w (Below.refl _ _) k hk
  rw [← kindAt_get hk,hkk] at c0
  have HB1:Hid (Below w.heap.size w (w.alloc (.cells (nodeV l[k]) 34))):=(Below.refl _ _).alloc (Nat.le_refl _) _
  unfold nodeV at HB1
  rw [← kindAt_get hk,hkk] at HB1
  obtain ⟨t,ht⟩ : ∃ t,t=l[k].t:=⟨_,rfl⟩
  obtain ⟨n,hn2⟩ : ∃ n,n=l[k].n:=⟨_,rfl⟩
  obtain ⟨z,hz⟩ : ∃ z,z=l[k].z:=⟨_,rfl⟩
  obtain ⟨kc,hkc⟩ : ∃ kc,kc=l[k].cap:=⟨_,rfl⟩
  obtain ⟨cn,hcn⟩ : ∃ cn,cn=l[k].c.length:=⟨_,rfl⟩
  obtain ⟨ka,hka⟩ : ∃ ka,ka=l[k].a:=⟨_,rfl⟩
  rw [hkp] at HB1 c4
  rw [← ht,← hn2,← hz,← hkc,← hcn,← hka] at HB1
  rw [← ht] at c1;rw [← hn2] at c2;rw [← hz] at c3;rw [← hkc,← hcn] at c4;rw [← hka] at c5
  rw [← hcn] at hcn0
  have hcn1:1≤cn:=by omega
  obtain ⟨nn,hnn⟩ : ∃ nn,nn=l.length:=⟨_,rfl⟩
  rw [← hnn] at a0 a3 hk hl
  clear h hC hp hkk hlow hN hbw ht hn2 hz hkc hcn hka hcn0 hact hnn hv hy hkp hcell hky
  have X3:=Lib.hid ((HB1.out.cell (p:=⟨C,3,none⟩) hCl).trans a3)
  have XT:=Lib.hid ((HB1.out.cell (p:=⟨T,y,none⟩) hTl).trans aT)
  have XK:=Lib.hid ((HB1.out.cell (p:=⟨kb,ko,none⟩) hkb).trans hkc0)
  have X4:Hid ((w.alloc (.cells #[.int .i64 18,.string t,.int .i64 n,.int .i64 z,.slice (some ⟨kb,ko,none⟩) cn kc,.int .i64 ka] 34)).cell? ⟨w.heap.size,4,none⟩=some (.slice (some ⟨kb,ko,none⟩) cn kc)):=Lib.hid (by rw [(Blk.new w _ _).cell];rfl)
  have q0:(0:Int)<(cn:Int):=by omega
  have q1:0<cn:=by omega
  have hm:Tryz.prog.follows .mixedOrders=true:=by kernel_rfl
  have hyn:y<nn:=by omega
  have hyn2:(y:Int)<(nn:Int):=by omega
  go_enter Tryz.func85,Tryz.ntmps85
  go_wp2
  have x3:=X3.out
  have xT:=XT.out
  have xk:=XK.out
  have x4:=X4.out
  generalize hw1:w.alloc (.cells #[.int .i64 18,.string t,.int .i64 n,.int .i64 z,.slice (some ⟨kb,ko,none⟩) cn kc,.int .i64 ka] 34)=w1 at x3 xT xk x4 HB1 ⊢
  have HBD:Hid (Below w.heap.size w w1.drew):=Lib.hid HB1.out.drew
  refine still_drew hm (by kernel_rfl) ?_
  repeat still_step
  refine wpStill_nil ?_
  rcases hv01 with rfl | hv1
  · go_wp2
    all_goals (try go_ret)
    all_goals exact ⟨rfl,HBD.out⟩
  · have hvb:(v == 1)=false:=by simpa using hv1
    have HV1:=Lib.hid hv1
    go_wp2
    all_goals (try go_ret)
    all_goals exact ⟨ret_int (by unfold okC;rw [if_neg (by simpa using HV1.out)]),HBD.out⟩
set_option maxHeartbeats 8000000 in
set_option maxRecDepth 100000 in
theorem action_19 (h:Ck w l p cap C N P T ns fs) (hC:∀ j,j<l.length→codeAt l j=0) (hp:∀ y,y<l.length→(parF l).getD y (-1) = -1∨∃ z:Nat,(parF l).getD y (-1)=(z:Int)∧y<z∧z<l.length) (hl:l.length≤600) {k:Nat}(hk:k<l.length) (hkk:kindAt l k=19) :
    Calls Tryz.prog 85 #[.pointer (some ⟨C,0,none⟩),.int .i64 k] w fun e w'=>e=.returned (.int .i64 (actF l fs k))∧Below w.heap.size w w':=by
  have hlow:=kids_low hC hk
  rw [hkk] at hlow
  have hlow:1≤(kidsAt l k).length:=by simp [lowV] at hlow;omega
  have hcn0:l[k].c.length=(kidsAt l k).length:=by rw [kidsAt_get hk]
  obtain ⟨y,kb,ko,hy,hyk,hkp,hkb,hcell⟩:=kid0 h hC hk (i:=0) (by omega)
  have hkc0:w.cell? ⟨kb,ko,none⟩=some (.int .i64 (y:Int)):=hcell w (Below.refl _ _)
  have hyl:y<l.length:=by omega
  have hky:(ktF l fs k).getD 0 0=iAt fs (y:Int):=by rw [kt_get (by omega)];congr 1;have:=hy;simpa [show 0<(kidsAt l k).length by omega] using this
  have hCl:=h.chk.lt
  have hTl:=h.typ.lt
  have aT:w.cell? ⟨T,y,none⟩=some (.int .i64 (iAt fs (y:Int))):=by rw [h.typ.cell,intA_get (by rw [h.tlen];exact hyl)]
  have hact:actF l fs k=okC (decide (iAt fs (y:Int)=1)):=by
    unfold actF;dsimp only;rw [hkk];show okC (decide ((ktF l fs k).getD 0 0=1))=_;rw [hky]
  rw [hact]
  obtain ⟨v,hv⟩ : ∃ v,v=iAt fs (y:Int):=⟨_,rfl⟩
  rw [← hv] at aT ⊢
  have hv01:v=1∨v≠1:=by omega
  obtain ⟨b,o,rfl,hbw,hN⟩:=h.node hk
  have a0:w.cell? ⟨C,0,none⟩=some (.slice (some ⟨b,o,none⟩) l.length cap):=by rw [h.chk.cell];rfl
  have a3:w.cell? ⟨C,3,none⟩=some (.slice (some ⟨T,0,none⟩) l.length l.length):=by rw [h.chk.cell];rfl
  obtain ⟨c0,c1,c2,c3,c4,c5⟩:=hN w (Below.refl _ _) k hk
  rw [← kindAt_get hk,hkk] at c0
  have HB1:Hid (Below w.heap.size w (w.alloc (.cells (nodeV l[k]) 34))):=(Below.refl _ _).alloc (Nat.le_refl _) _
  unfold nodeV at HB1
  rw [← kindAt_get hk,hkk] at HB1
  obtain ⟨t,ht⟩ : ∃ t,t=l[k].t:=⟨_,rfl⟩
  obtain ⟨n,hn2⟩ : ∃ n,n=l[k].n:=⟨_,rfl⟩
  obtain ⟨z,hz⟩ : ∃ z,z=l[k].z:=⟨_,rfl⟩
  obtain ⟨kc,hkc⟩ : ∃ kc,kc=l[k].cap:=⟨_,rfl⟩
  obtain ⟨cn,hcn⟩ : ∃ cn,cn=l[k].c.length:=⟨_,rfl⟩
  obtain ⟨ka,hka⟩ : ∃ ka,ka=l[k].a:=⟨_,rfl⟩
  rw [hkp] at HB1 c4
  rw [← ht,← hn2,← hz,← hkc,← hcn,← hka] at HB1
  rw [← ht] at c1;rw [← hn2] at c2;rw [← hz] at c3;rw [← hkc,← hcn] at c4;rw [← hka] at c5
  rw [← hcn] at hcn0
  have hcn1:1≤cn:=by omega
  obtain ⟨nn,hnn⟩ : ∃ nn,nn=l.length:=⟨_,rfl⟩
  rw [← hnn] at a0 a3 hk hl
  clear h hC hp hkk hlow hN hbw ht hn2 hz hkc hcn hka hcn0 hact hnn hv hy hkp hcell hky
  have X3:=Lib.hid ((HB1.out.cell (p:=⟨C,3,none⟩) hCl).trans a3)
  have XT:=Lib.hid ((HB1.out.cell (p:=⟨T,y,none⟩) hTl).trans aT)
  have XK:=Lib.hid ((HB1.out.cell (p:=⟨kb,ko,none⟩) hkb).trans hkc0)
  have X4:Hid ((w.alloc (.cells #[.int .i64 19,.string t,.int .i64 n,.int .i64 z,.slice (some ⟨kb,ko,none⟩) cn kc,.int .i64 ka] 34)).cell? ⟨w.heap.size,4,none⟩=some (.slice (some ⟨kb,ko,none⟩) cn kc)):=Lib.hid (by rw [(Blk.new w _ _).cell];rfl)
  have q0:(0:Int)<(cn:Int):=by omega
  have q1:0<cn:=by omega
  have hm:Tryz.prog.follows .mixedOrders=true:=by kernel_rfl
  have hyn:y<nn:=by omega
  have hyn2:(y:Int)<(nn:Int):=by omega
  go_enter Tryz.func85,Tryz.ntmps85
  go_wp2
  have x3:=X3.out
  have xT:=XT.out
  have xk:=XK.out
  have x4:=X4.out
  generalize hw1:w.alloc (.cells #[.int .i64 19,.string t,.int .i64 n,.int .i64 z,.slice (some ⟨kb,ko,none⟩) cn kc,.int .i64 ka] 34)=w1 at x3 xT xk x4 HB1 ⊢
  have HBD:Hid (Below w.heap.size w w1.drew):=Lib.hid HB1.out.drew
  refine still_drew hm (by kernel_rfl) ?_
  repeat still_step
  refine wpStill_nil ?_
  rcases hv01 with rfl | hv1
  · go_wp2
    all_goals (try go_ret)
    all_goals exact ⟨rfl,HBD.out⟩
  · have hvb:(v == 1)=false:=by simpa using hv1
    have HV1:=Lib.hid hv1
    go_wp2
    all_goals (try go_ret)
    all_goals exact ⟨ret_int (by unfold okC;rw [if_neg (by simpa using HV1.out)]),HBD.out⟩
set_option maxHeartbeats 8000000 in
set_option maxRecDepth 100000 in
theorem action_23 (h:Ck w l p cap C N P T ns fs) (hC:∀ j,j<l.length→codeAt l j=0) (hp:∀ y,y<l.length→(parF l).getD y (-1) = -1∨∃ z:Nat,(parF l).getD y (-1)=(z:Int)∧y<z∧z<l.length) (hl:l.length≤600) {k:Nat}(hk:k<l.length) (hkk:kindAt l k=23) :
    Calls Tryz.prog 85 #[.pointer (some ⟨C,0,none⟩),.int .i64 k] w fun e w'=>e=.returned (.int .i64 (actF l fs k))∧Below w.heap.size w w':=by
  have hlow:=kids_low hC hk
  rw [hkk] at hlow
  have hlow:0≤(kidsAt l k).length:=by simp [lowV] at hlow;omega
  have hcn0:l[k].c.length=(kidsAt l k).length:=by rw [kidsAt_get hk]
  have HRT:Hid (∀ V,Below w.heap.size w V→Calls Tryz.prog 143 #[.pointer (some ⟨C,0,none⟩),.int .i64 k] V fun e w'=>e=.returned (.bool (retB l fs k))∧Below V.heap.size V w'):=fun V hV=>returns_any (h.below hV) hC hp hl hk
  have hact:actF l fs k=okC (retB l fs k):=by
    unfold actF;dsimp only;rw [hkk];rfl
  rw [hact]
  obtain ⟨r,hr⟩ : ∃ r,r=retB l fs k:=⟨_,rfl⟩
  rw [← hr]
  rw [← hr] at HRT
  obtain ⟨b,o,rfl,hbw,hN⟩:=h.node hk
  have a0:w.cell? ⟨C,0,none⟩=some (.slice (some ⟨b,o,none⟩) l.length cap):=by rw [h.chk.cell];rfl
  have a3:w.cell? ⟨C,3,none⟩=some (.slice (some ⟨T,0,none⟩) l.length l.length):=by rw [h.chk.cell];rfl
  obtain ⟨c0,c1,c2,c3,c4,c5⟩:=hN w (Below.refl _ _) k hk
  rw [← kindAt_get hk,hkk] at c0
  have HB1:Hid (Below w.heap.size w (w.alloc (.cells (nodeV l[k]) 34))):=(Below.refl _ _).alloc (Nat.le_refl _) _
  unfold nodeV at HB1
  rw [← kindAt_get hk,hkk] at HB1
  obtain ⟨t,ht⟩ : ∃ t,t=l[k].t:=⟨_,rfl⟩
  obtain ⟨n,hn2⟩ : ∃ n,n=l[k].n:=⟨_,rfl⟩
  obtain ⟨z,hz⟩ : ∃ z,z=l[k].z:=⟨_,rfl⟩
  obtain ⟨kc,hkc⟩ : ∃ kc,kc=l[k].cap:=⟨_,rfl⟩
  obtain ⟨cn,hcn⟩ : ∃ cn,cn=l[k].c.length:=⟨_,rfl⟩
  obtain ⟨ka,hka⟩ : ∃ ka,ka=l[k].a:=⟨_,rfl⟩
  obtain ⟨kp,hkp⟩ : ∃ kp,kp=l[k].p:=⟨_,rfl⟩
  rw [← hkp] at HB1
  rw [← hkp] at c4
  clear hkp
  rw [← ht,← hn2,← hz,← hkc,← hcn,← hka] at HB1
  rw [← ht] at c1;rw [← hn2] at c2;rw [← hz] at c3;rw [← hkc,← hcn] at c4;rw [← hka] at c5
  rw [← hcn] at hcn0
  have hcn1:0≤cn:=by omega
  obtain ⟨nn,hnn⟩ : ∃ nn,nn=l.length:=⟨_,rfl⟩
  rw [← hnn] at a0 a3 hk hl
  clear h hC hp hkk hlow hN hbw ht hn2 hz hkc hcn hka hcn0 hact hnn hr
  cases r
  all_goals
    go_enter Tryz.func85,Tryz.ntmps85
    go_wp2_with (go_at_call 143;refine (HRT.out _ HB1.out).mono ?_;rintro e w2 ⟨rfl,hb⟩;have HB2:=Lib.hid (HB1.out.trans (hb.mono HB1.out.size));clear hb)
    all_goals (try go_ret)
    all_goals exact ⟨rfl,HB2.out⟩
end
end Ty
end
section
namespace Ty
open Go.RowKit
open Tr Sc

section
variable {w:World}{l:List Nd}{p:Option Addr}{cap C N P T:Nat}{ns fs:List Int}
set_option maxHeartbeats 8000000 in
set_option maxRecDepth 100000 in
theorem action_21 (h:Ck w l p cap C N P T ns fs) (hC:∀ j,j<l.length→codeAt l j=0) (hp:∀ y,y<l.length→(parF l).getD y (-1) = -1∨∃ z:Nat,(parF l).getD y (-1)=(z:Int)∧y<z∧z<l.length) (hl:l.length≤600) {k:Nat}(hk:k<l.length) (hkk:kindAt l k=21) :
    Calls Tryz.prog 85 #[.pointer (some ⟨C,0,none⟩),.int .i64 k] w fun e w'=>e=.returned (.int .i64 (actF l fs k))∧Below w.heap.size w w':=by
  have hlow:=kids_low hC hk
  rw [hkk] at hlow
  have hlow:0≤(kidsAt l k).length:=by simp [lowV] at hlow;omega
  have hcn0:l[k].c.length=(kidsAt l k).length:=by rw [kidsAt_get hk]
  have HIS:Hid (∀ V B,B=V.heap.size→Below w.heap.size w V→Calls Tryz.prog 144 #[.pointer (some ⟨C,0,none⟩),.int .i64 k,.slice (some ⟨B,0,none⟩) 4 4] (V.alloc (.cells #[.int .i64 15,.int .i64 16,.int .i64 17,.int .i64 18] 3)) fun e w'=>e=.returned (.int .i64 (if inB l k [15,16,17,18]=true then 0 else 11))∧Below V.heap.size V w'):=fun V B hB hV=>by
    subst hB
    have hb:Below V.heap.size V (V.alloc (.cells #[.int .i64 15,.int .i64 16,.int .i64 17,.int .i64 18] 3)):=(Below.refl _ _).alloc (Nat.le_refl _) _
    refine (inside_any (ks:=[15,16,17,18]) ((h.below hV).below hb) hp hl hk (fun _=>⟨_,0,rfl,by simp,fun j hj=>?_⟩) (by decide)).mono fun e w' he=>⟨he.1,hb.trans (he.2.mono hb.size)⟩
    rw [(Blk.new V _ _).cell]
    rcases j with _ | _ | _ | _ | j
    all_goals first | rfl | (exfalso;simp at hj <;> omega) | (exfalso;simp at hj;done)
  have hact:actF l fs k=(if inB l k [15,16,17,18]=true then 0 else 11):=by
    unfold actF;dsimp only;rw [hkk];rfl
  rw [hact]
  obtain ⟨r,hr⟩ : ∃ r,r=(if inB l k [15,16,17,18]=true then (0:Int) else 11):=⟨_,rfl⟩
  rw [← hr]
  rw [← hr] at HIS
  obtain ⟨b,o,rfl,hbw,hN⟩:=h.node hk
  have a0:w.cell? ⟨C,0,none⟩=some (.slice (some ⟨b,o,none⟩) l.length cap):=by rw [h.chk.cell];rfl
  have a3:w.cell? ⟨C,3,none⟩=some (.slice (some ⟨T,0,none⟩) l.length l.length):=by rw [h.chk.cell];rfl
  obtain ⟨c0,c1,c2,c3,c4,c5⟩:=hN w (Below.refl _ _) k hk
  rw [← kindAt_get hk,hkk] at c0
  have HB1:Hid (Below w.heap.size w (w.alloc (.cells (nodeV l[k]) 34))):=(Below.refl _ _).alloc (Nat.le_refl _) _
  unfold nodeV at HB1
  rw [← kindAt_get hk,hkk] at HB1
  obtain ⟨t,ht⟩ : ∃ t,t=l[k].t:=⟨_,rfl⟩
  obtain ⟨n,hn2⟩ : ∃ n,n=l[k].n:=⟨_,rfl⟩
  obtain ⟨z,hz⟩ : ∃ z,z=l[k].z:=⟨_,rfl⟩
  obtain ⟨kc,hkc⟩ : ∃ kc,kc=l[k].cap:=⟨_,rfl⟩
  obtain ⟨cn,hcn⟩ : ∃ cn,cn=l[k].c.length:=⟨_,rfl⟩
  obtain ⟨ka,hka⟩ : ∃ ka,ka=l[k].a:=⟨_,rfl⟩
  obtain ⟨kp,hkp⟩ : ∃ kp,kp=l[k].p:=⟨_,rfl⟩
  rw [← hkp] at HB1
  rw [← hkp] at c4
  clear hkp
  rw [← ht,← hn2,← hz,← hkc,← hcn,← hka] at HB1
  rw [← ht] at c1;rw [← hn2] at c2;rw [← hz] at c3;rw [← hkc,← hcn] at c4;rw [← hka] at c5
  rw [← hcn] at hcn0
  have hcn1:0≤cn:=by omega
  obtain ⟨nn,hnn⟩ : ∃ nn,nn=l.length:=⟨_,rfl⟩
  rw [← hnn] at a0 a3 hk hl
  clear h hC hp hkk hlow hN hbw ht hn2 hz hkc hcn hka hcn0 hact hnn hr
  go_enter Tryz.func85,Tryz.ntmps85
  go_wp2_with (go_at_call 144;refine (HIS.out _ (w.heap.size+1) (by rw [World.size_alloc]) HB1.out).mono ?_;rintro e w2 ⟨rfl,hb⟩;have HB2:=Lib.hid (HB1.out.trans (hb.mono HB1.out.size));clear hb)
  all_goals (try go_ret)
  all_goals exact ⟨rfl,HB2.out⟩
set_option maxHeartbeats 8000000 in
set_option maxRecDepth 100000 in
theorem action_22 (h:Ck w l p cap C N P T ns fs) (hC:∀ j,j<l.length→codeAt l j=0) (hp:∀ y,y<l.length→(parF l).getD y (-1) = -1∨∃ z:Nat,(parF l).getD y (-1)=(z:Int)∧y<z∧z<l.length) (hl:l.length≤600) {k:Nat}(hk:k<l.length) (hkk:kindAt l k=22) :
    Calls Tryz.prog 85 #[.pointer (some ⟨C,0,none⟩),.int .i64 k] w fun e w'=>e=.returned (.int .i64 (actF l fs k))∧Below w.heap.size w w':=by
  have hlow:=kids_low hC hk
  rw [hkk] at hlow
  have hlow:0≤(kidsAt l k).length:=by simp [lowV] at hlow;omega
  have hcn0:l[k].c.length=(kidsAt l k).length:=by rw [kidsAt_get hk]
  have HIS:Hid (∀ V B,B=V.heap.size→Below w.heap.size w V→Calls Tryz.prog 144 #[.pointer (some ⟨C,0,none⟩),.int .i64 k,.slice (some ⟨B,0,none⟩) 3 3] (V.alloc (.cells #[.int .i64 15,.int .i64 16,.int .i64 17] 3)) fun e w'=>e=.returned (.int .i64 (if inB l k [15,16,17]=true then 0 else 11))∧Below V.heap.size V w'):=fun V B hB hV=>by
    subst hB
    have hb:Below V.heap.size V (V.alloc (.cells #[.int .i64 15,.int .i64 16,.int .i64 17] 3)):=(Below.refl _ _).alloc (Nat.le_refl _) _
    refine (inside_any (ks:=[15,16,17]) ((h.below hV).below hb) hp hl hk (fun _=>⟨_,0,rfl,by simp,fun j hj=>?_⟩) (by decide)).mono fun e w' he=>⟨he.1,hb.trans (he.2.mono hb.size)⟩
    rw [(Blk.new V _ _).cell]
    rcases j with _ | _ | _ | _ | j
    all_goals first | rfl | (exfalso;simp at hj <;> omega) | (exfalso;simp at hj;done)
  have hact:actF l fs k=(if inB l k [15,16,17]=true then 0 else 11):=by
    unfold actF;dsimp only;rw [hkk];rfl
  rw [hact]
  obtain ⟨r,hr⟩ : ∃ r,r=(if inB l k [15,16,17]=true then (0:Int) else 11):=⟨_,rfl⟩
  rw [← hr]
  rw [← hr] at HIS
  obtain ⟨b,o,rfl,hbw,hN⟩:=h.node hk
  have a0:w.cell? ⟨C,0,none⟩=some (.slice (some ⟨b,o,none⟩) l.length cap):=by rw [h.chk.cell];rfl
  have a3:w.cell? ⟨C,3,none⟩=some (.slice (some ⟨T,0,none⟩) l.length l.length):=by rw [h.chk.cell];rfl
  obtain ⟨c0,c1,c2,c3,c4,c5⟩:=hN w (Below.refl _ _) k hk
  rw [← kindAt_get hk,hkk] at c0
  have HB1:Hid (Below w.heap.size w (w.alloc (.cells (nodeV l[k]) 34))):=(Below.refl _ _).alloc (Nat.le_refl _) _
  unfold nodeV at HB1
  rw [← kindAt_get hk,hkk] at HB1
  obtain ⟨t,ht⟩ : ∃ t,t=l[k].t:=⟨_,rfl⟩
  obtain ⟨n,hn2⟩ : ∃ n,n=l[k].n:=⟨_,rfl⟩
  obtain ⟨z,hz⟩ : ∃ z,z=l[k].z:=⟨_,rfl⟩
  obtain ⟨kc,hkc⟩ : ∃ kc,kc=l[k].cap:=⟨_,rfl⟩
  obtain ⟨cn,hcn⟩ : ∃ cn,cn=l[k].c.length:=⟨_,rfl⟩
  obtain ⟨ka,hka⟩ : ∃ ka,ka=l[k].a:=⟨_,rfl⟩
  obtain ⟨kp,hkp⟩ : ∃ kp,kp=l[k].p:=⟨_,rfl⟩
  rw [← hkp] at HB1
  rw [← hkp] at c4
  clear hkp
  rw [← ht,← hn2,← hz,← hkc,← hcn,← hka] at HB1
  rw [← ht] at c1;rw [← hn2] at c2;rw [← hz] at c3;rw [← hkc,← hcn] at c4;rw [← hka] at c5
  rw [← hcn] at hcn0
  have hcn1:0≤cn:=by omega
  obtain ⟨nn,hnn⟩ : ∃ nn,nn=l.length:=⟨_,rfl⟩
  rw [← hnn] at a0 a3 hk hl
  clear h hC hp hkk hlow hN hbw ht hn2 hz hkc hcn hka hcn0 hact hnn hr
  go_enter Tryz.func85,Tryz.ntmps85
  go_wp2_with (go_at_call 144;refine (HIS.out _ (w.heap.size+1) (by rw [World.size_alloc]) HB1.out).mono ?_;rintro e w2 ⟨rfl,hb⟩;have HB2:=Lib.hid (HB1.out.trans (hb.mono HB1.out.size));clear hb)
  all_goals (try go_ret)
  all_goals exact ⟨rfl,HB2.out⟩
set_option maxHeartbeats 8000000 in
set_option maxRecDepth 100000 in
theorem action_1 (h:Ck w l p cap C N P T ns fs) (hC:∀ j,j<l.length→codeAt l j=0) (hp:∀ y,y<l.length→(parF l).getD y (-1) = -1∨∃ z:Nat,(parF l).getD y (-1)=(z:Int)∧y<z∧z<l.length) (hl:l.length≤600) {k:Nat}(hk:k<l.length) (hkk:kindAt l k=1) :
    Calls Tryz.prog 85 #[.pointer (some ⟨C,0,none⟩),.int .i64 k] w fun e w'=>e=.returned (.int .i64 (actF l fs k))∧Below w.heap.size w w':=by
  have hlow:=kids_low hC hk
  rw [hkk] at hlow
  have hlow:0≤(kidsAt l k).length:=by simp [lowV] at hlow;omega
  have hcn0:l[k].c.length=(kidsAt l k).length:=by rw [kidsAt_get hk]
  have hact:actF l fs k=0:=by
    unfold actF;dsimp only;rw [hkk];rfl
  rw [hact]
  obtain ⟨b,o,rfl,hbw,hN⟩:=h.node hk
  have a0:w.cell? ⟨C,0,none⟩=some (.slice (some ⟨b,o,none⟩) l.length cap):=by rw [h.chk.cell];rfl
  have a3:w.cell? ⟨C,3,none⟩=some (.slice (some ⟨T,0,none⟩) l.length l.length):=by rw [h.chk.cell];rfl
  obtain ⟨c0,c1,c2,c3,c4,c5⟩:=hN w (Below.refl _ _) k hk
  rw [← kindAt_get hk,hkk] at c0
  have HB1:Hid (Below w.heap.size w (w.alloc (.cells (nodeV l[k]) 34))):=(Below.refl _ _).alloc (Nat.le_refl _) _
  unfold nodeV at HB1
  rw [← kindAt_get hk,hkk] at HB1
  obtain ⟨t,ht⟩ : ∃ t,t=l[k].t:=⟨_,rfl⟩
  obtain ⟨n,hn2⟩ : ∃ n,n=l[k].n:=⟨_,rfl⟩
  obtain ⟨z,hz⟩ : ∃ z,z=l[k].z:=⟨_,rfl⟩
  obtain ⟨kc,hkc⟩ : ∃ kc,kc=l[k].cap:=⟨_,rfl⟩
  obtain ⟨cn,hcn⟩ : ∃ cn,cn=l[k].c.length:=⟨_,rfl⟩
  obtain ⟨ka,hka⟩ : ∃ ka,ka=l[k].a:=⟨_,rfl⟩
  obtain ⟨kp,hkp⟩ : ∃ kp,kp=l[k].p:=⟨_,rfl⟩
  rw [← hkp] at HB1
  rw [← hkp] at c4
  clear hkp
  rw [← ht,← hn2,← hz,← hkc,← hcn,← hka] at HB1
  rw [← ht] at c1;rw [← hn2] at c2;rw [← hz] at c3;rw [← hkc,← hcn] at c4;rw [← hka] at c5
  rw [← hcn] at hcn0
  have hcn1:0≤cn:=by omega
  obtain ⟨nn,hnn⟩ : ∃ nn,nn=l.length:=⟨_,rfl⟩
  rw [← hnn] at a0 a3 hk hl
  clear h hC hp hkk hlow hN hbw ht hn2 hz hkc hcn hka hcn0 hact hnn
  go_enter Tryz.func85,Tryz.ntmps85
  go_wp2
  (try go_ret)
  exact ⟨rfl,HB1.out⟩
set_option maxHeartbeats 8000000 in
set_option maxRecDepth 100000 in
theorem action_3 (h:Ck w l p cap C N P T ns fs) (hC:∀ j,j<l.length→codeAt l j=0) (hp:∀ y,y<l.length→(parF l).getD y (-1) = -1∨∃ z:Nat,(parF l).getD y (-1)=(z:Int)∧y<z∧z<l.length) (hl:l.length≤600) {k:Nat}(hk:k<l.length) (hkk:kindAt l k=3) :
    Calls Tryz.prog 85 #[.pointer (some ⟨C,0,none⟩),.int .i64 k] w fun e w'=>e=.returned (.int .i64 (actF l fs k))∧Below w.heap.size w w':=by
  have hlow:=kids_low hC hk
  rw [hkk] at hlow
  have hlow:0≤(kidsAt l k).length:=by simp [lowV] at hlow;omega
  have hcn0:l[k].c.length=(kidsAt l k).length:=by rw [kidsAt_get hk]
  have hact:actF l fs k=0:=by
    unfold actF;dsimp only;rw [hkk];rfl
  rw [hact]
  obtain ⟨b,o,rfl,hbw,hN⟩:=h.node hk
  have a0:w.cell? ⟨C,0,none⟩=some (.slice (some ⟨b,o,none⟩) l.length cap):=by rw [h.chk.cell];rfl
  have a3:w.cell? ⟨C,3,none⟩=some (.slice (some ⟨T,0,none⟩) l.length l.length):=by rw [h.chk.cell];rfl
  obtain ⟨c0,c1,c2,c3,c4,c5⟩:=hN w (Below.refl _ _) k hk
  rw [← kindAt_get hk,hkk] at c0
  have HB1:Hid (Below w.heap.size w (w.alloc (.cells (nodeV l[k]) 34))):=(Below.refl _ _).alloc (Nat.le_refl _) _
  unfold nodeV at HB1
  rw [← kindAt_get hk,hkk] at HB1
  obtain ⟨t,ht⟩ : ∃ t,t=l[k].t:=⟨_,rfl⟩
  obtain ⟨n,hn2⟩ : ∃ n,n=l[k].n:=⟨_,rfl⟩
  obtain ⟨z,hz⟩ : ∃ z,z=l[k].z:=⟨_,rfl⟩
  obtain ⟨kc,hkc⟩ : ∃ kc,kc=l[k].cap:=⟨_,rfl⟩
  obtain ⟨cn,hcn⟩ : ∃ cn,cn=l[k].c.length:=⟨_,rfl⟩
  obtain ⟨ka,hka⟩ : ∃ ka,ka=l[k].a:=⟨_,rfl⟩
  obtain ⟨kp,hkp⟩ : ∃ kp,kp=l[k].p:=⟨_,rfl⟩
  rw [← hkp] at HB1
  rw [← hkp] at c4
  clear hkp
  rw [← ht,← hn2,← hz,← hkc,← hcn,← hka] at HB1
  rw [← ht] at c1;rw [← hn2] at c2;rw [← hz] at c3;rw [← hkc,← hcn] at c4;rw [← hka] at c5
  rw [← hcn] at hcn0
  have hcn1:0≤cn:=by omega
  obtain ⟨nn,hnn⟩ : ∃ nn,nn=l.length:=⟨_,rfl⟩
  rw [← hnn] at a0 a3 hk hl
  clear h hC hp hkk hlow hN hbw ht hn2 hz hkc hcn hka hcn0 hact hnn
  go_enter Tryz.func85,Tryz.ntmps85
  go_wp2
  (try go_ret)
  exact ⟨rfl,HB1.out⟩
set_option maxHeartbeats 8000000 in
set_option maxRecDepth 100000 in
theorem action_4 (h:Ck w l p cap C N P T ns fs) (hC:∀ j,j<l.length→codeAt l j=0) (hp:∀ y,y<l.length→(parF l).getD y (-1) = -1∨∃ z:Nat,(parF l).getD y (-1)=(z:Int)∧y<z∧z<l.length) (hl:l.length≤600) {k:Nat}(hk:k<l.length) (hkk:kindAt l k=4) :
    Calls Tryz.prog 85 #[.pointer (some ⟨C,0,none⟩),.int .i64 k] w fun e w'=>e=.returned (.int .i64 (actF l fs k))∧Below w.heap.size w w':=by
  have hlow:=kids_low hC hk
  rw [hkk] at hlow
  have hlow:0≤(kidsAt l k).length:=by simp [lowV] at hlow;omega
  have hcn0:l[k].c.length=(kidsAt l k).length:=by rw [kidsAt_get hk]
  have hact:actF l fs k=0:=by
    unfold actF;dsimp only;rw [hkk];rfl
  rw [hact]
  obtain ⟨b,o,rfl,hbw,hN⟩:=h.node hk
  have a0:w.cell? ⟨C,0,none⟩=some (.slice (some ⟨b,o,none⟩) l.length cap):=by rw [h.chk.cell];rfl
  have a3:w.cell? ⟨C,3,none⟩=some (.slice (some ⟨T,0,none⟩) l.length l.length):=by rw [h.chk.cell];rfl
  obtain ⟨c0,c1,c2,c3,c4,c5⟩:=hN w (Below.refl _ _) k hk
  rw [← kindAt_get hk,hkk] at c0
  have HB1:Hid (Below w.heap.size w (w.alloc (.cells (nodeV l[k]) 34))):=(Below.refl _ _).alloc (Nat.le_refl _) _
  unfold nodeV at HB1
  rw [← kindAt_get hk,hkk] at HB1
  obtain ⟨t,ht⟩ : ∃ t,t=l[k].t:=⟨_,rfl⟩
  obtain ⟨n,hn2⟩ : ∃ n,n=l[k].n:=⟨_,rfl⟩
  obtain ⟨z,hz⟩ : ∃ z,z=l[k].z:=⟨_,rfl⟩
  obtain ⟨kc,hkc⟩ : ∃ kc,kc=l[k].cap:=⟨_,rfl⟩
  obtain ⟨cn,hcn⟩ : ∃ cn,cn=l[k].c.length:=⟨_,rfl⟩
  obtain ⟨ka,hka⟩ : ∃ ka,ka=l[k].a:=⟨_,rfl⟩
  obtain ⟨kp,hkp⟩ : ∃ kp,kp=l[k].p:=⟨_,rfl⟩
  rw [← hkp] at HB1
  rw [← hkp] at c4
  clear hkp
  rw [← ht,← hn2,← hz,← hkc,← hcn,← hka] at HB1
  rw [← ht] at c1;rw [← hn2] at c2;rw [← hz] at c3;rw [← hkc,← hcn] at c4;rw [← hka] at c5
  rw [← hcn] at hcn0
  have hcn1:0≤cn:=by omega
  obtain ⟨nn,hnn⟩ : ∃ nn,nn=l.length:=⟨_,rfl⟩
  rw [← hnn] at a0 a3 hk hl
  clear h hC hp hkk hlow hN hbw ht hn2 hz hkc hcn hka hcn0 hact hnn
  go_enter Tryz.func85,Tryz.ntmps85
  go_wp2
  (try go_ret)
  exact ⟨rfl,HB1.out⟩
set_option maxHeartbeats 8000000 in
set_option maxRecDepth 100000 in
theorem action_11 (h:Ck w l p cap C N P T ns fs) (hC:∀ j,j<l.length→codeAt l j=0) (hp:∀ y,y<l.length→(parF l).getD y (-1) = -1∨∃ z:Nat,(parF l).getD y (-1)=(z:Int)∧y<z∧z<l.length) (hl:l.length≤600) {k:Nat}(hk:k<l.length) (hkk:kindAt l k=11) :
    Calls Tryz.prog 85 #[.pointer (some ⟨C,0,none⟩),.int .i64 k] w fun e w'=>e=.returned (.int .i64 (actF l fs k))∧Below w.heap.size w w':=by
  have hlow:=kids_low hC hk
  rw [hkk] at hlow
  have hlow:0≤(kidsAt l k).length:=by simp [lowV] at hlow;omega
  have hcn0:l[k].c.length=(kidsAt l k).length:=by rw [kidsAt_get hk]
  have hact:actF l fs k=0:=by
    unfold actF;dsimp only;rw [hkk];rfl
  rw [hact]
  obtain ⟨b,o,rfl,hbw,hN⟩:=h.node hk
  have a0:w.cell? ⟨C,0,none⟩=some (.slice (some ⟨b,o,none⟩) l.length cap):=by rw [h.chk.cell];rfl
  have a3:w.cell? ⟨C,3,none⟩=some (.slice (some ⟨T,0,none⟩) l.length l.length):=by rw [h.chk.cell];rfl
  obtain ⟨c0,c1,c2,c3,c4,c5⟩:=hN w (Below.refl _ _) k hk
  rw [← kindAt_get hk,hkk] at c0
  have HB1:Hid (Below w.heap.size w (w.alloc (.cells (nodeV l[k]) 34))):=(Below.refl _ _).alloc (Nat.le_refl _) _
  unfold nodeV at HB1
  rw [← kindAt_get hk,hkk] at HB1
  obtain ⟨t,ht⟩ : ∃ t,t=l[k].t:=⟨_,rfl⟩
  obtain ⟨n,hn2⟩ : ∃ n,n=l[k].n:=⟨_,rfl⟩
  obtain ⟨z,hz⟩ : ∃ z,z=l[k].z:=⟨_,rfl⟩
  obtain ⟨kc,hkc⟩ : ∃ kc,kc=l[k].cap:=⟨_,rfl⟩
  obtain ⟨cn,hcn⟩ : ∃ cn,cn=l[k].c.length:=⟨_,rfl⟩
  obtain ⟨ka,hka⟩ : ∃ ka,ka=l[k].a:=⟨_,rfl⟩
  obtain ⟨kp,hkp⟩ : ∃ kp,kp=l[k].p:=⟨_,rfl⟩
  rw [← hkp] at HB1
  rw [← hkp] at c4
  clear hkp
  rw [← ht,← hn2,← hz,← hkc,← hcn,← hka] at HB1
  rw [← ht] at c1;rw [← hn2] at c2;rw [← hz] at c3;rw [← hkc,← hcn] at c4;rw [← hka] at c5
  rw [← hcn] at hcn0
  have hcn1:0≤cn:=by omega
  obtain ⟨nn,hnn⟩ : ∃ nn,nn=l.length:=⟨_,rfl⟩
  rw [← hnn] at a0 a3 hk hl
  clear h hC hp hkk hlow hN hbw ht hn2 hz hkc hcn hka hcn0 hact hnn
  go_enter Tryz.func85,Tryz.ntmps85
  go_wp2
  (try go_ret)
  exact ⟨rfl,HB1.out⟩
set_option maxHeartbeats 8000000 in
set_option maxRecDepth 100000 in
theorem action_13 (h:Ck w l p cap C N P T ns fs) (hC:∀ j,j<l.length→codeAt l j=0) (hp:∀ y,y<l.length→(parF l).getD y (-1) = -1∨∃ z:Nat,(parF l).getD y (-1)=(z:Int)∧y<z∧z<l.length) (hl:l.length≤600) {k:Nat}(hk:k<l.length) (hkk:kindAt l k=13) :
    Calls Tryz.prog 85 #[.pointer (some ⟨C,0,none⟩),.int .i64 k] w fun e w'=>e=.returned (.int .i64 (actF l fs k))∧Below w.heap.size w w':=by
  have hlow:=kids_low hC hk
  rw [hkk] at hlow
  have hlow:0≤(kidsAt l k).length:=by simp [lowV] at hlow;omega
  have hcn0:l[k].c.length=(kidsAt l k).length:=by rw [kidsAt_get hk]
  have hact:actF l fs k=0:=by
    unfold actF;dsimp only;rw [hkk];rfl
  rw [hact]
  obtain ⟨b,o,rfl,hbw,hN⟩:=h.node hk
  have a0:w.cell? ⟨C,0,none⟩=some (.slice (some ⟨b,o,none⟩) l.length cap):=by rw [h.chk.cell];rfl
  have a3:w.cell? ⟨C,3,none⟩=some (.slice (some ⟨T,0,none⟩) l.length l.length):=by rw [h.chk.cell];rfl
  obtain ⟨c0,c1,c2,c3,c4,c5⟩:=hN w (Below.refl _ _) k hk
  rw [← kindAt_get hk,hkk] at c0
  have HB1:Hid (Below w.heap.size w (w.alloc (.cells (nodeV l[k]) 34))):=(Below.refl _ _).alloc (Nat.le_refl _) _
  unfold nodeV at HB1
  rw [← kindAt_get hk,hkk] at HB1
  obtain ⟨t,ht⟩ : ∃ t,t=l[k].t:=⟨_,rfl⟩
  obtain ⟨n,hn2⟩ : ∃ n,n=l[k].n:=⟨_,rfl⟩
  obtain ⟨z,hz⟩ : ∃ z,z=l[k].z:=⟨_,rfl⟩
  obtain ⟨kc,hkc⟩ : ∃ kc,kc=l[k].cap:=⟨_,rfl⟩
  obtain ⟨cn,hcn⟩ : ∃ cn,cn=l[k].c.length:=⟨_,rfl⟩
  obtain ⟨ka,hka⟩ : ∃ ka,ka=l[k].a:=⟨_,rfl⟩
  obtain ⟨kp,hkp⟩ : ∃ kp,kp=l[k].p:=⟨_,rfl⟩
  rw [← hkp] at HB1
  rw [← hkp] at c4
  clear hkp
  rw [← ht,← hn2,← hz,← hkc,← hcn,← hka] at HB1
  rw [← ht] at c1;rw [← hn2] at c2;rw [← hz] at c3;rw [← hkc,← hcn] at c4;rw [← hka] at c5
  rw [← hcn] at hcn0
  have hcn1:0≤cn:=by omega
  obtain ⟨nn,hnn⟩ : ∃ nn,nn=l.length:=⟨_,rfl⟩
  rw [← hnn] at a0 a3 hk hl
  clear h hC hp hkk hlow hN hbw ht hn2 hz hkc hcn hka hcn0 hact hnn
  go_enter Tryz.func85,Tryz.ntmps85
  go_wp2
  (try go_ret)
  exact ⟨rfl,HB1.out⟩
set_option maxHeartbeats 8000000 in
set_option maxRecDepth 100000 in
theorem action_20 (h:Ck w l p cap C N P T ns fs) (hC:∀ j,j<l.length→codeAt l j=0) (hp:∀ y,y<l.length→(parF l).getD y (-1) = -1∨∃ z:Nat,(parF l).getD y (-1)=(z:Int)∧y<z∧z<l.length) (hl:l.length≤600) {k:Nat}(hk:k<l.length) (hkk:kindAt l k=20) :
    Calls Tryz.prog 85 #[.pointer (some ⟨C,0,none⟩),.int .i64 k] w fun e w'=>e=.returned (.int .i64 (actF l fs k))∧Below w.heap.size w w':=by
  have hlow:=kids_low hC hk
  rw [hkk] at hlow
  have hlow:0≤(kidsAt l k).length:=by simp [lowV] at hlow;omega
  have hcn0:l[k].c.length=(kidsAt l k).length:=by rw [kidsAt_get hk]
  have hact:actF l fs k=0:=by
    unfold actF;dsimp only;rw [hkk];rfl
  rw [hact]
  obtain ⟨b,o,rfl,hbw,hN⟩:=h.node hk
  have a0:w.cell? ⟨C,0,none⟩=some (.slice (some ⟨b,o,none⟩) l.length cap):=by rw [h.chk.cell];rfl
  have a3:w.cell? ⟨C,3,none⟩=some (.slice (some ⟨T,0,none⟩) l.length l.length):=by rw [h.chk.cell];rfl
  obtain ⟨c0,c1,c2,c3,c4,c5⟩:=hN w (Below.refl _ _) k hk
  rw [← kindAt_get hk,hkk] at c0
  have HB1:Hid (Below w.heap.size w (w.alloc (.cells (nodeV l[k]) 34))):=(Below.refl _ _).alloc (Nat.le_refl _) _
  unfold nodeV at HB1
  rw [← kindAt_get hk,hkk] at HB1
  obtain ⟨t,ht⟩ : ∃ t,t=l[k].t:=⟨_,rfl⟩
  obtain ⟨n,hn2⟩ : ∃ n,n=l[k].n:=⟨_,rfl⟩
  obtain ⟨z,hz⟩ : ∃ z,z=l[k].z:=⟨_,rfl⟩
  obtain ⟨kc,hkc⟩ : ∃ kc,kc=l[k].cap:=⟨_,rfl⟩
  obtain ⟨cn,hcn⟩ : ∃ cn,cn=l[k].c.length:=⟨_,rfl⟩
  obtain ⟨ka,hka⟩ : ∃ ka,ka=l[k].a:=⟨_,rfl⟩
  obtain ⟨kp,hkp⟩ : ∃ kp,kp=l[k].p:=⟨_,rfl⟩
  rw [← hkp] at HB1
  rw [← hkp] at c4
  clear hkp
  rw [← ht,← hn2,← hz,← hkc,← hcn,← hka] at HB1
  rw [← ht] at c1;rw [← hn2] at c2;rw [← hz] at c3;rw [← hkc,← hcn] at c4;rw [← hka] at c5
  rw [← hcn] at hcn0
  have hcn1:0≤cn:=by omega
  obtain ⟨nn,hnn⟩ : ∃ nn,nn=l.length:=⟨_,rfl⟩
  rw [← hnn] at a0 a3 hk hl
  clear h hC hp hkk hlow hN hbw ht hn2 hz hkc hcn hka hcn0 hact hnn
  go_enter Tryz.func85,Tryz.ntmps85
  go_wp2
  (try go_ret)
  exact ⟨rfl,HB1.out⟩
set_option maxHeartbeats 8000000 in
set_option maxRecDepth 100000 in
theorem action_24 (h:Ck w l p cap C N P T ns fs) (hC:∀ j,j<l.length→codeAt l j=0) (hp:∀ y,y<l.length→(parF l).getD y (-1) = -1∨∃ z:Nat,(parF l).getD y (-1)=(z:Int)∧y<z∧z<l.length) (hl:l.length≤600) {k:Nat}(hk:k<l.length) (hkk:kindAt l k=24) :
    Calls Tryz.prog 85 #[.pointer (some ⟨C,0,none⟩),.int .i64 k] w fun e w'=>e=.returned (.int .i64 (actF l fs k))∧Below w.heap.size w w':=by
  have hlow:=kids_low hC hk
  rw [hkk] at hlow
  have hlow:0≤(kidsAt l k).length:=by simp [lowV] at hlow;omega
  have hcn0:l[k].c.length=(kidsAt l k).length:=by rw [kidsAt_get hk]
  have hact:actF l fs k=0:=by
    unfold actF;dsimp only;rw [hkk];rfl
  rw [hact]
  obtain ⟨b,o,rfl,hbw,hN⟩:=h.node hk
  have a0:w.cell? ⟨C,0,none⟩=some (.slice (some ⟨b,o,none⟩) l.length cap):=by rw [h.chk.cell];rfl
  have a3:w.cell? ⟨C,3,none⟩=some (.slice (some ⟨T,0,none⟩) l.length l.length):=by rw [h.chk.cell];rfl
  obtain ⟨c0,c1,c2,c3,c4,c5⟩:=hN w (Below.refl _ _) k hk
  rw [← kindAt_get hk,hkk] at c0
  have HB1:Hid (Below w.heap.size w (w.alloc (.cells (nodeV l[k]) 34))):=(Below.refl _ _).alloc (Nat.le_refl _) _
  unfold nodeV at HB1
  rw [← kindAt_get hk,hkk] at HB1
  obtain ⟨t,ht⟩ : ∃ t,t=l[k].t:=⟨_,rfl⟩
  obtain ⟨n,hn2⟩ : ∃ n,n=l[k].n:=⟨_,rfl⟩
  obtain ⟨z,hz⟩ : ∃ z,z=l[k].z:=⟨_,rfl⟩
  obtain ⟨kc,hkc⟩ : ∃ kc,kc=l[k].cap:=⟨_,rfl⟩
  obtain ⟨cn,hcn⟩ : ∃ cn,cn=l[k].c.length:=⟨_,rfl⟩
  obtain ⟨ka,hka⟩ : ∃ ka,ka=l[k].a:=⟨_,rfl⟩
  obtain ⟨kp,hkp⟩ : ∃ kp,kp=l[k].p:=⟨_,rfl⟩
  rw [← hkp] at HB1
  rw [← hkp] at c4
  clear hkp
  rw [← ht,← hn2,← hz,← hkc,← hcn,← hka] at HB1
  rw [← ht] at c1;rw [← hn2] at c2;rw [← hz] at c3;rw [← hkc,← hcn] at c4;rw [← hka] at c5
  rw [← hcn] at hcn0
  have hcn1:0≤cn:=by omega
  obtain ⟨nn,hnn⟩ : ∃ nn,nn=l.length:=⟨_,rfl⟩
  rw [← hnn] at a0 a3 hk hl
  clear h hC hp hkk hlow hN hbw ht hn2 hz hkc hcn hka hcn0 hact hnn
  go_enter Tryz.func85,Tryz.ntmps85
  go_wp2
  (try go_ret)
  exact ⟨rfl,HB1.out⟩
end
end Ty
end
end Go.Proofs.YtdjpopebeenlmaaGreatDoor
