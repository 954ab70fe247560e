/-
  Joined texts of this claim: Yq, Yz.
-/
import Derived.Test.YtdjpopebeenlmaaGreatDoorW00
import Derived.Test.YtdjpopebeenlmaaGreatDoorW34
import Derived.StillTactics
import Derived.Test.YtdjpopebeenlmaaGreatDoorW31
import Derived.Test.YtdjpopebeenlmaaGreatDoorW33
set_option maxHeartbeats 40000000
set_option maxRecDepth 100000
set_option linter.unusedVariables false
set_option linter.unusedSimpArgs false
namespace Go.Proofs.YtdjpopebeenlmaaGreatDoor
section
namespace Ty
open Go.RowKit
open Tr Sc

section
variable {w:World}{l:List Nd}{p:Option Addr}{cap C N P T:Nat}{ns fs:List Int}
set_option maxHeartbeats 8000000 in
set_option maxRecDepth 100000 in
theorem expr_38 (h:Ck w l p cap C N P T ns fs) (hC:∀ j,j<l.length→codeAt l j=0) (hl:l.length≤600) (hnm:NmOk l ns) {k:Nat}(hk:k<l.length) (hkk:kindAt l k=38) :
    Calls Tryz.prog 86 #[.pointer (some ⟨C,0,none⟩),.int .i64 k] w (ExPost w (exprF l ns fs k)):=by
  have hlow:=kids_low hC hk
  rw [hkk] at hlow
  have hlow:3≤(kidsAt l k).length:=by simp [lowV] at hlow;omega
  have hcn0:l[k].c.length=(kidsAt l k).length:=by rw [kidsAt_get hk]
  have HKT:Hid (∀ V,Below w.heap.size w V→Calls Tryz.prog 146 #[.pointer (some ⟨C,0,none⟩),.agg (nodeV l[k])] V fun e w'=>∃ lb,e=.returned (.func (.func 197) #[] lb)∧Below V.heap.size V w'∧SeqI w' (.func (.func 197) #[] lb) (ktF l fs k)):=fun V hV=>kidTypes_seq (h.below hV) hC hl hk
  have HLEN:=Lib.hid (kt_len (fs:=fs) hC hl hk)
  have hxl:(ktF l fs k).length=(kidsAt l k).length:=by unfold ktF;simp
  have htx:tx l k=l[k].t.data.toList:=tx_get hk
  obtain ⟨b,o,rfl,hbw,hN⟩:=h.node hk
  have a0:w.cell? ⟨C,0,none⟩=some (.slice (some ⟨b,o,none⟩) l.length cap):=by rw [h.chk.cell];rfl
  obtain ⟨c0,c1,c2,c3,c4,c5⟩:=hN w (Below.refl _ _) k hk
  rw [← kindAt_get hk,hkk] at c0
  have HB1:Hid (Below w.heap.size w (w.alloc (.cells (nodeV l[k]) 34))):=(Below.refl _ _).alloc (Nat.le_refl _) _
  have HX:Hid (Blk (w.alloc (.cells (nodeV l[k]) 34)) w.heap.size 34 (nodeV l[k])):=Blk.new _ _ _
  unfold nodeV at HB1 HX HKT
  rw [← kindAt_get hk,hkk] at HB1 HX HKT
  obtain ⟨t,ht⟩ : ∃ t,t=l[k].t:=⟨_,rfl⟩
  obtain ⟨n,hn2⟩ : ∃ n,n=l[k].n:=⟨_,rfl⟩
  obtain ⟨z,hz⟩ : ∃ z,z=l[k].z:=⟨_,rfl⟩
  obtain ⟨kp,hkp⟩ : ∃ kp,kp=l[k].p:=⟨_,rfl⟩
  obtain ⟨kc,hkc⟩ : ∃ kc,kc=l[k].cap:=⟨_,rfl⟩
  obtain ⟨cn,hcn⟩ : ∃ cn,cn=l[k].c.length:=⟨_,rfl⟩
  obtain ⟨ka,hka⟩ : ∃ ka,ka=l[k].a:=⟨_,rfl⟩
  rw [← ht,← hn2,← hz,← hkp,← hkc,← hcn,← hka] at HB1 HX HKT
  rw [← ht] at c1 htx;rw [← hn2] at c2;rw [← hz] at c3;rw [← hkp,← hkc,← hcn] at c4;rw [← hka] at c5
  rw [← hcn] at hcn0
  have hcn1:3≤cn:=by omega
  obtain ⟨xs,hxs⟩ : ∃ xs,xs=ktF l fs k:=⟨_,rfl⟩
  rw [← hxs] at HKT HLEN hxl
  obtain ⟨xn,hxn⟩ : ∃ xn,xn=xs.length:=⟨_,rfl⟩
  have HXN:=Lib.hid hxn
  have hxs1:3≤xn:=by omega
  have hexp:exprF l ns fs k=(xs.getD 1 0,valB (xs.getD 0 0) && valB (xs.getD 1 0) && decide (xs.getD 1 0=xs.getD 2 0)):=by
    unfold exprF;dsimp only;rw [hkk,← hxs];rfl
  rw [hexp]
  obtain ⟨v0,hv0⟩ : ∃ v,v=xs.getD 0 0:=⟨_,rfl⟩
  have HQ0:=Lib.hid hv0
  rw [← hv0]
  obtain ⟨v1,hv1⟩ : ∃ v,v=xs.getD 1 0:=⟨_,rfl⟩
  have HQ1:=Lib.hid hv1
  rw [← hv1]
  obtain ⟨v2,hv2⟩ : ∃ v,v=xs.getD 2 0:=⟨_,rfl⟩
  have HQ2:=Lib.hid hv2
  rw [← hv2]
  obtain ⟨b0,hb0⟩ : ∃ b,b=valB v0:=⟨_,rfl⟩
  rw [← hb0]
  have HV0:Hid (∀ W,Calls Tryz.prog 151 #[.int .i64 v0] W fun e w'=>e=.returned (.bool b0)∧W=w'):=Lib.hid (fun W=>by rw [hb0];exact isValue_any _ _)
  obtain ⟨b1,hb1⟩ : ∃ b,b=valB v1:=⟨_,rfl⟩
  rw [← hb1]
  have HV1:Hid (∀ W,Calls Tryz.prog 151 #[.int .i64 v1] W fun e w'=>e=.returned (.bool b1)∧W=w'):=Lib.hid (fun W=>by rw [hb1];exact isValue_any _ _)
  obtain ⟨nn,hnn⟩ : ∃ nn,nn=l.length:=⟨_,rfl⟩
  rw [← hnn] at a0 hk hl
  have HX6:Hid (∀ V,Below _ _ V→V.cell? ⟨w.heap.size,0,none⟩=some (.int .i64 38)∧V.cell? ⟨w.heap.size,1,none⟩=some (.string t)∧V.cell? ⟨w.heap.size,2,none⟩=some (.int .i64 n)∧V.cell? ⟨w.heap.size,3,none⟩=some (.int .i64 z)∧V.cell? ⟨w.heap.size,4,none⟩=some (.slice kp cn kc)∧V.cell? ⟨w.heap.size,5,none⟩=some (.int .i64 ka)) :=
    Lib.hid (fun V hV=>by have hh:=fun i=>(HX.out.below hV HX.out.lt).cell i;exact ⟨(hh 0).trans rfl,(hh 1).trans rfl,(hh 2).trans rfl,(hh 3).trans rfl,(hh 4).trans rfl,(hh 5).trans rfl⟩)
  obtain ⟨Q,hQ⟩ : ∃ Q:Ending→World→Prop,Q=ExPost w (v1,b0 && b1 && decide (v1=v2)):=⟨_,rfl⟩
  rw [← hQ]
  have HQ:=Lib.hid hQ
  clear h hC hnm hkk hlow hN hxl htx hbw ht hn2 hz hkp hkc hcn hka hcn0 hxs hexp hnn hQ hxn hv0 hv1 hv2 hb0 hb1
  go_enter Tryz.func86,Tryz.ntmps86
  go_wp2_with (first | (go_at_call 146;refine (HKT.out _ HB1.out).mono ?_;rintro e w1 ⟨lb,rfl,hb1,hs1⟩;have HBa:=Lib.hid hb1;have HBb:=Lib.hid (HB1.out.trans (hb1.mono HB1.out.size));have HS1:=Lib.hid hs1;clear hb1 hs1) | (go_at_call 145;refine (collect_kidsN HXN.out HS1.out HLEN.out).mono ?_;rintro e w2 ⟨q,d,rfl,hk2,hb2⟩;have HW2:=Lib.hid (HBb.out.trans (hb2.mono HBb.out.size));have HV2:=Lib.hid (HBa.out.trans (hb2.mono HBa.out.size));have HK2:=Lib.hid hk2;obtain ⟨m0,m1,m2,m3,m4,m5⟩:=HX6.out _ HV2.out;clear hb2 hk2))
  obtain ⟨qb,qo,rfl,hqb,hqc⟩:=HK2.out (by have:=HXN.out;omega)
  have x0:w2.cell? ⟨qb,qo,none⟩=some (.int .i64 v0):=(by have:=hqc 0 (by have:=HXN.out;omega);rw [HQ0.out];simpa [show 0<xs.length by have:=HXN.out;omega] using this)
  have x1:w2.cell? ⟨qb,qo+1,none⟩=some (.int .i64 v1):=(by have:=hqc 1 (by have:=HXN.out;omega);rw [HQ1.out];simpa [show 1<xs.length by have:=HXN.out;omega] using this)
  have x2:w2.cell? ⟨qb,qo+2,none⟩=some (.int .i64 v2):=(by have:=hqc 2 (by have:=HXN.out;omega);rw [HQ2.out];simpa [show 2<xs.length by have:=HXN.out;omega] using this)
  clear hqc
  have q0:(0:Int)<(xn:Int):=(by omega)
  have q1:(1:Int)<(xn:Int):=(by omega)
  have q2:(2:Int)<(xn:Int):=(by omega)
  have r0:0<xn:=(by omega)
  have r1:1<xn:=(by omega)
  have r2:2<xn:=(by omega)
  have HE0:Hid (Below w2.heap.size w2 w2.drew):=(Below.refl _ _).drew
  clear m0 m1 m2 m3 m4 m5 HX6 HX HQ0 HQ1 HQ2
  have HS0:Hid (∀ W,Calls Tryz.prog 151 #[.int .i64 v0] W fun e w'=>e=.returned (.bool b0)∧w' = W):=Lib.hid (fun W=>(HV0.out W).mono fun e w' h=>⟨h.1,h.2.symm⟩)
  have HS1:Hid (∀ W,Calls Tryz.prog 151 #[.int .i64 v1] W fun e w'=>e=.returned (.bool b1)∧w' = W):=Lib.hid (fun W=>(HV1.out W).mono fun e w' h=>⟨h.1,h.2.symm⟩)
  have hm:Tryz.prog.follows .mixedOrders=true:=by kernel_rfl
  cases b0 <;> cases b1
  case true.true =>
    refine wp_region_still_lit hm (by kernel_rfl) ?_
    still_step
    still_step
    still_step
    still_step
    still_step
    still_step
    refine wpStill_step (fun K hK=>?_)
    go_simp
    refine ⟨_,HS0.out w2.drew,hK _ ?_⟩
    clear hK K
    still_step
    still_step
    still_step
    still_step
    refine wpStill_step (fun K hK=>?_)
    go_simp
    refine ⟨_,HS1.out w2.drew,hK _ ?_⟩
    clear hK K
    still_step
    still_step
    still_step
    still_step
    still_step
    still_step
    still_step
    still_step
    still_step
    still_step
    still_step
    still_step
    refine wpStill_nil ?_
    go_wp2
    (try go_ret2)
    rw [HQ.out]
    exact ⟨ret_ib rfl (by go_light;(try (rw [Bool.eq_iff_iff];simp))),HW2.out.trans (HE0.out.mono HW2.out.size)⟩
  case true.false =>
    refine wp_region_still_lit hm (by kernel_rfl) ?_
    still_step
    still_step
    still_step
    still_step
    still_step
    still_step
    refine wpStill_step (fun K hK=>?_)
    go_simp
    refine ⟨_,HS0.out w2.drew,hK _ ?_⟩
    clear hK K
    still_step
    still_step
    still_step
    still_step
    refine wpStill_step (fun K hK=>?_)
    go_simp
    refine ⟨_,HS1.out w2.drew,hK _ ?_⟩
    clear hK K
    still_step
    still_step
    with_reducible refine still_skip (by kernel_rfl) ?_
    try simp only [Act.put,List.setIfInBounds_toArray,List.set_cons_zero,List.set_cons_succ]
    with_reducible refine still_skip (by kernel_rfl) ?_
    try simp only [Act.put,List.setIfInBounds_toArray,List.set_cons_zero,List.set_cons_succ]
    with_reducible refine still_skip (by kernel_rfl) ?_
    try simp only [Act.put,List.setIfInBounds_toArray,List.set_cons_zero,List.set_cons_succ]
    with_reducible refine still_skip (by kernel_rfl) ?_
    try simp only [Act.put,List.setIfInBounds_toArray,List.set_cons_zero,List.set_cons_succ]
    with_reducible refine still_skip (by kernel_rfl) ?_
    try simp only [Act.put,List.setIfInBounds_toArray,List.set_cons_zero,List.set_cons_succ]
    with_reducible refine still_skip (by kernel_rfl) ?_
    try simp only [Act.put,List.setIfInBounds_toArray,List.set_cons_zero,List.set_cons_succ]
    with_reducible refine still_skip (by kernel_rfl) ?_
    try simp only [Act.put,List.setIfInBounds_toArray,List.set_cons_zero,List.set_cons_succ]
    still_step
    still_step
    still_step
    refine wpStill_nil ?_
    go_wp2
    (try go_ret2)
    rw [HQ.out]
    exact ⟨ret_ib rfl (by go_light;(try (rw [Bool.eq_iff_iff];simp))),HW2.out.trans (HE0.out.mono HW2.out.size)⟩
  case false.true =>
    refine wp_region_still_lit hm (by kernel_rfl) ?_
    still_step
    still_step
    still_step
    still_step
    still_step
    still_step
    refine wpStill_step (fun K hK=>?_)
    go_simp
    refine ⟨_,HS0.out w2.drew,hK _ ?_⟩
    clear hK K
    still_step
    with_reducible refine still_skip (by kernel_rfl) ?_
    try simp only [Act.put,List.setIfInBounds_toArray,List.set_cons_zero,List.set_cons_succ]
    with_reducible refine still_skip (by kernel_rfl) ?_
    try simp only [Act.put,List.setIfInBounds_toArray,List.set_cons_zero,List.set_cons_succ]
    with_reducible refine still_skip (by kernel_rfl) ?_
    try simp only [Act.put,List.setIfInBounds_toArray,List.set_cons_zero,List.set_cons_succ]
    with_reducible refine still_skip (by kernel_rfl) ?_
    try simp only [Act.put,List.setIfInBounds_toArray,List.set_cons_zero,List.set_cons_succ]
    still_step
    still_step
    with_reducible refine still_skip (by kernel_rfl) ?_
    try simp only [Act.put,List.setIfInBounds_toArray,List.set_cons_zero,List.set_cons_succ]
    with_reducible refine still_skip (by kernel_rfl) ?_
    try simp only [Act.put,List.setIfInBounds_toArray,List.set_cons_zero,List.set_cons_succ]
    with_reducible refine still_skip (by kernel_rfl) ?_
    try simp only [Act.put,List.setIfInBounds_toArray,List.set_cons_zero,List.set_cons_succ]
    with_reducible refine still_skip (by kernel_rfl) ?_
    try simp only [Act.put,List.setIfInBounds_toArray,List.set_cons_zero,List.set_cons_succ]
    with_reducible refine still_skip (by kernel_rfl) ?_
    try simp only [Act.put,List.setIfInBounds_toArray,List.set_cons_zero,List.set_cons_succ]
    with_reducible refine still_skip (by kernel_rfl) ?_
    try simp only [Act.put,List.setIfInBounds_toArray,List.set_cons_zero,List.set_cons_succ]
    with_reducible refine still_skip (by kernel_rfl) ?_
    try simp only [Act.put,List.setIfInBounds_toArray,List.set_cons_zero,List.set_cons_succ]
    still_step
    still_step
    still_step
    refine wpStill_nil ?_
    go_wp2
    (try go_ret2)
    rw [HQ.out]
    exact ⟨ret_ib rfl (by go_light;(try (rw [Bool.eq_iff_iff];simp))),HW2.out.trans (HE0.out.mono HW2.out.size)⟩
  case false.false =>
    refine wp_region_still_lit hm (by kernel_rfl) ?_
    still_step
    still_step
    still_step
    still_step
    still_step
    still_step
    refine wpStill_step (fun K hK=>?_)
    go_simp
    refine ⟨_,HS0.out w2.drew,hK _ ?_⟩
    clear hK K
    still_step
    with_reducible refine still_skip (by kernel_rfl) ?_
    try simp only [Act.put,List.setIfInBounds_toArray,List.set_cons_zero,List.set_cons_succ]
    with_reducible refine still_skip (by kernel_rfl) ?_
    try simp only [Act.put,List.setIfInBounds_toArray,List.set_cons_zero,List.set_cons_succ]
    with_reducible refine still_skip (by kernel_rfl) ?_
    try simp only [Act.put,List.setIfInBounds_toArray,List.set_cons_zero,List.set_cons_succ]
    with_reducible refine still_skip (by kernel_rfl) ?_
    try simp only [Act.put,List.setIfInBounds_toArray,List.set_cons_zero,List.set_cons_succ]
    still_step
    still_step
    with_reducible refine still_skip (by kernel_rfl) ?_
    try simp only [Act.put,List.setIfInBounds_toArray,List.set_cons_zero,List.set_cons_succ]
    with_reducible refine still_skip (by kernel_rfl) ?_
    try simp only [Act.put,List.setIfInBounds_toArray,List.set_cons_zero,List.set_cons_succ]
    with_reducible refine still_skip (by kernel_rfl) ?_
    try simp only [Act.put,List.setIfInBounds_toArray,List.set_cons_zero,List.set_cons_succ]
    with_reducible refine still_skip (by kernel_rfl) ?_
    try simp only [Act.put,List.setIfInBounds_toArray,List.set_cons_zero,List.set_cons_succ]
    with_reducible refine still_skip (by kernel_rfl) ?_
    try simp only [Act.put,List.setIfInBounds_toArray,List.set_cons_zero,List.set_cons_succ]
    with_reducible refine still_skip (by kernel_rfl) ?_
    try simp only [Act.put,List.setIfInBounds_toArray,List.set_cons_zero,List.set_cons_succ]
    with_reducible refine still_skip (by kernel_rfl) ?_
    try simp only [Act.put,List.setIfInBounds_toArray,List.set_cons_zero,List.set_cons_succ]
    still_step
    still_step
    still_step
    refine wpStill_nil ?_
    go_wp2
    (try go_ret2)
    rw [HQ.out]
    exact ⟨ret_ib rfl (by go_light;(try (rw [Bool.eq_iff_iff];simp))),HW2.out.trans (HE0.out.mono HW2.out.size)⟩
theorem expr_any (h:Ck w l p cap C N P T ns fs) (hC:∀ j,j<l.length→codeAt l j=0) (hl:l.length≤600) (hnm:NmOk l ns) {k:Nat}(hk:k<l.length) (he:exprB (kindAt l k)=true) (hr0:kindAt l k=34→(ktF l fs k).getD 0 0=0∨(ktF l fs k).getD 0 0=1∨(ktF l fs k).getD 0 0=2) :
    Calls Tryz.prog 86 #[.pointer (some ⟨C,0,none⟩),.int .i64 k] w (ExPost w (exprF l ns fs k)):=by
  have hr:31≤kindAt l k∧kindAt l k≤40:=of_decide_eq_true he
  have hcase:kindAt l k=31∨kindAt l k=32∨kindAt l k=33∨kindAt l k=34∨kindAt l k=35∨kindAt l k=36∨kindAt l k=37∨kindAt l k=38∨kindAt l k=39∨kindAt l k=40:=by omega
  rcases hcase with e | e | e | e | e | e | e | e | e | e
  · exact expr_31 h hC hl hnm hk e
  · exact expr_32 h hC hl hnm hk e
  · exact expr_33 h hC hl hnm hk e
  · exact expr_34 h hC hl hnm hk e (hr0 e)
  · exact expr_35 h hC hl hnm hk e
  · exact expr_36 h hC hl hnm hk e
  · exact expr_37 h hC hl hnm hk e
  · exact expr_38 h hC hl hnm hk e
  · exact expr_39 h hC hl hnm hk e
  · exact expr_40 h hC hl hnm hk e
end
end Ty
end
section
namespace Ty
open Go.RowKit
open Tr Sc

section
variable {w w0:World}{l:List Nd}{p:Option Addr}{cap C N P T:Nat}{ns fs:List Int}
/-- what lies apart from the types -/
structure Sep (w0 w:World) (l:List Nd) (p:Option Addr) (N P T:Nat):Prop where
  tr0:Tr w0 p l
  bel:Below w0.heap.size w0 w
  lo:w0.heap.size≤T
  nt:N≠T
  pt:P≠T
theorem Ck.put (h:Ck w l p cap C N P T ns fs) (hs:Sep w0 w l p N P T) (k:Nat) (v:Int):Ck (w.setCell ⟨T,k,none⟩ (.int .i64 v)) l p cap C N P T ns (fs.set k v) :=
  have hCT:C≠T:=fun e=>by have:=h.typ;rw [← e] at this;exact absurd (Blk.type this h.chk) (by decide)
  { h with
    tr:=hs.tr0.below (hs.bel.setCell (p:=⟨T,k,none⟩) hs.lo _)
    chk:=h.chk.far (p:=⟨T,k,none⟩) hCT _
    nms:=h.nms.far (p:=⟨T,k,none⟩) hs.nt _
    par:=h.par.far (p:=⟨T,k,none⟩) hs.pt _
    typ:=by have:=h.typ.set_ k (.int .i64 v);rw [intA_set] at this;exact this
    tlen:=by rw [List.length_set];exact h.tlen }
def CkPost (w0 w:World) (l:List Nd) (p:Option Addr) (cap C N P T:Nat) (ns:List Int) (r:Int × List Int) (e:Ending) (w':World):Prop:=e=.returned (.int .i64 r.1)∧Ck w' l p cap C N P T ns r.2∧Chg T T w w'
set_option maxHeartbeats 8000000 in
set_option maxRecDepth 100000 in
theorem check_act (h:Ck w l p cap C N P T ns fs) (hs:Sep w0 w l p N P T) (hC:∀ j,j<l.length→codeAt l j=0) (hp:∀ y,y<l.length→(parF l).getD y (-1) = -1∨∃ z:Nat,(parF l).getD y (-1)=(z:Int)∧y<z∧z<l.length) (hl:l.length≤600) {k:Nat}(hk:k<l.length) (he:exprB (kindAt l k)=false) :
    Calls Tryz.prog 46 #[.pointer (some ⟨C,0,none⟩),.int .i64 k] w (CkPost w0 w l p cap C N P T ns (chkF l ns fs k)):=by
  have hr:chkF l ns fs k=(actF l fs k,fs):=by unfold chkF;rw [if_neg (by rw [he];simp)]
  rw [hr]
  have hA:=action_any h hC hp hl hk he
  have hH:=Lib.hid h
  obtain ⟨b,o,rfl,hbw,hN⟩:=h.node hk
  have a0:w.cell? ⟨C,0,none⟩=some (.slice (some ⟨b,o,none⟩) l.length cap):=by rw [h.chk.cell];rfl
  have a4:=(hN w (Below.refl _ _) k hk).1
  rw [← kindAt_get hk] at a4
  have hkd0:¬ (31≤kindAt l k∧kindAt l k≤40):=of_decide_eq_false he
  obtain ⟨kd,hkd⟩ : ∃ kd,kd=kindAt l k:=⟨_,rfl⟩
  rw [← hkd] at a4 hkd0
  obtain ⟨r,hrr⟩ : ∃ r,r=actF l fs k:=⟨_,rfl⟩
  rw [← hrr] at hA ⊢
  obtain ⟨Q,hQ⟩ : ∃ Q:Ending→World→Prop,Q=CkPost w0 w l (some ⟨b,o,none⟩) cap C N P T ns (r,fs):=⟨_,rfl⟩
  rw [← hQ]
  have HQ:=Lib.hid hQ
  obtain ⟨nn,hnn⟩ : ∃ nn,nn=l.length:=⟨_,rfl⟩
  rw [← hnn] at a0 hk hl
  clear h hs hC hp hN hr hkd he hrr hQ hnn
  rcases (show kd<31∨40<kd by omega) with h1 | h1
  · have k1:decide (kd<31)=true:=by simpa using h1
    go_enter Tryz.func46,Tryz.ntmps46
    go_wp2_with (go_at_call 85;refine hA.mono ?_;rintro e w2 ⟨rfl,hb⟩)
    (try go_ret)
    rw [HQ.out]
    exact ⟨rfl,hH.out.below hb,Chg.below hb⟩
  · have k1:decide (kd<31)=false:=by simp;omega
    have k2:¬ kd<31:=by omega
    go_enter Tryz.func46,Tryz.ntmps46
    go_wp2_with (go_at_call 85;refine hA.mono ?_;rintro e w2 ⟨rfl,hb⟩)
    all_goals (try go_ret)
    all_goals (rw [HQ.out];exact ⟨rfl,hH.out.below hb,Chg.below hb⟩)
set_option maxHeartbeats 8000000 in
set_option maxRecDepth 100000 in
theorem check_expr (h:Ck w l p cap C N P T ns fs) (hs:Sep w0 w l p N P T) (hC:∀ j,j<l.length→codeAt l j=0) (hl:l.length≤600) (hnm:NmOk l ns) {k:Nat}(hk:k<l.length) (he:exprB (kindAt l k)=true) (hr0:kindAt l k=34→(ktF l fs k).getD 0 0=0∨(ktF l fs k).getD 0 0=1∨(ktF l fs k).getD 0 0=2) :
    Calls Tryz.prog 46 #[.pointer (some ⟨C,0,none⟩),.int .i64 k] w (CkPost w0 w l p cap C N P T ns (chkF l ns fs k)):=by
  have hr:chkF l ns fs k=if (exprF l ns fs k).2=true then (0,fs.set k (exprF l ns fs k).1) else (8,fs):=by unfold chkF;rw [if_pos he]
  rw [hr]
  have hX:=expr_any h hC hl hnm hk he hr0
  have hH:=Lib.hid h
  have hS:=Lib.hid hs
  obtain ⟨b,o,rfl,hbw,hN⟩:=h.node hk
  have a0:w.cell? ⟨C,0,none⟩=some (.slice (some ⟨b,o,none⟩) l.length cap):=by rw [h.chk.cell];rfl
  have a4:=(hN w (Below.refl _ _) k hk).1
  rw [← kindAt_get hk] at a4
  have hkd0:31≤kindAt l k∧kindAt l k≤40:=of_decide_eq_true he
  obtain ⟨kd,hkd⟩ : ∃ kd,kd=kindAt l k:=⟨_,rfl⟩
  rw [← hkd] at a4 hkd0
  have HCELL:Hid (∀ V,Below w.heap.size w V→V.cell? ⟨C,3,none⟩=some (.slice (some ⟨T,0,none⟩) l.length l.length)∧V.cell? ⟨T,k,none⟩=some (.int .i64 (iAt fs (k:Int)))∧V.frozen? ⟨T,k,none⟩=false):=Lib.hid (fun V hV =>
    ⟨by rw [(h.chk.below hV h.chk.lt).cell];rfl,by rw [(h.typ.below hV h.typ.lt).cell,intA_get (by rw [h.tlen];exact hk)],(h.typ.below hV h.typ.lt).frozen k⟩)
  obtain ⟨r,hrr⟩ : ∃ r,r=exprF l ns fs k:=⟨_,rfl⟩
  rw [← hrr] at hX ⊢
  obtain ⟨r1,r2⟩:=r
  obtain ⟨Q,hQ⟩ : ∃ Q:Ending→World→Prop,Q=CkPost w0 w l (some ⟨b,o,none⟩) cap C N P T ns (if r2=true then (0,fs.set k r1) else (8,fs)):=⟨_,rfl⟩
  rw [← hQ]
  have HQ:=Lib.hid hQ
  obtain ⟨nn,hnn⟩ : ∃ nn,nn=l.length:=⟨_,rfl⟩
  rw [← hnn] at a0 hk hl HCELL
  have k1:decide (kd<31)=false:=by simp;omega
  have k2:¬ kd<31:=by omega
  have k3:¬ 40<kd:=by omega
  clear h hs hC hnm hN hr hkd he hrr hQ hnn hr0
  cases r2
  all_goals
    go_enter Tryz.func46,Tryz.ntmps46
    go_wp2_with (go_at_call 86;refine hX.mono ?_;rintro e w2 ⟨rfl,hb⟩;have HB:=Lib.hid hb;obtain ⟨t1,t2,t3⟩:=HCELL.out _ hb;clear hb)
    all_goals (try go_ret)
    all_goals (rw [HQ.out])
  · exact ⟨rfl,hH.out.below HB.out,Chg.below HB.out⟩
  · have hs2:Sep w0 w2 l (some ⟨b,o,none⟩) N P T:={ hS.out with bel:=hS.out.bel.trans (HB.out.mono hS.out.bel.size) }
    exact ⟨rfl,(hH.out.below HB.out).put hs2 k r1,(Chg.below HB.out).set k _⟩
end
end Ty
end
end Go.Proofs.YtdjpopebeenlmaaGreatDoor
