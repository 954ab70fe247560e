/-
  Joined texts of this claim: Yp.
-/
import Derived.Test.YtdjpopebeenlmaaGreatDoorW00
import Derived.Test.YtdjpopebeenlmaaGreatDoorW31
import Derived.Shelf.RegionOpenPlain
set_option maxHeartbeats 40000000
set_option maxRecDepth 100000
set_option linter.unusedVariables false
set_option linter.unusedSimpArgs false
namespace Go.Proofs.YtdjpopebeenlmaaGreatDoor
section
namespace Ty
open Go.RowKit
open Tr Sc

def ExPost (w:World) (r:Int × Bool) (e:Ending) (w':World):Prop:=e=.returned (.tuple #[.int .i64 r.1,.bool r.2])∧Below w.heap.size w w'
section
variable {w:World}{l:List Nd}{p:Option Addr}{cap C N P T:Nat}{ns fs:List Int}
set_option maxHeartbeats 8000000 in
set_option maxRecDepth 100000 in
theorem expr_31 (h:Ck w l p cap C N P T ns fs) (hC:∀ j,j<l.length→codeAt l j=0) (hl:l.length≤600) (hnm:NmOk l ns) {k:Nat}(hk:k<l.length) (hkk:kindAt l k=31) :
    Calls Tryz.prog 86 #[.pointer (some ⟨C,0,none⟩),.int .i64 k] w (ExPost w (exprF l ns fs k)):=by
  have hlow:=kids_low hC hk
  rw [hkk] at hlow
  have hlow:0≤(kidsAt l k).length:=by simp [lowV] at hlow;omega
  have hcn0:l[k].c.length=(kidsAt l k).length:=by rw [kidsAt_get hk]
  have HKT:Hid (∀ V,Below w.heap.size w V→Calls Tryz.prog 146 #[.pointer (some ⟨C,0,none⟩),.agg (nodeV l[k])] V fun e w'=>∃ lb,e=.returned (.func (.func 197) #[] lb)∧Below V.heap.size V w'∧SeqI w' (.func (.func 197) #[] lb) (ktF l fs k)):=fun V hV=>kidTypes_seq (h.below hV) hC hl hk
  have HLEN:=Lib.hid (kt_len (fs:=fs) hC hl hk)
  have hxl:(ktF l fs k).length=(kidsAt l k).length:=by unfold ktF;simp
  have htx:tx l k=l[k].t.data.toList:=tx_get hk
  obtain ⟨b,o,rfl,hbw,hN⟩:=h.node hk
  have a0:w.cell? ⟨C,0,none⟩=some (.slice (some ⟨b,o,none⟩) l.length cap):=by rw [h.chk.cell];rfl
  obtain ⟨c0,c1,c2,c3,c4,c5⟩:=hN w (Below.refl _ _) k hk
  rw [← kindAt_get hk,hkk] at c0
  have HB1:Hid (Below w.heap.size w (w.alloc (.cells (nodeV l[k]) 34))):=(Below.refl _ _).alloc (Nat.le_refl _) _
  have HX:Hid (Blk (w.alloc (.cells (nodeV l[k]) 34)) w.heap.size 34 (nodeV l[k])):=Blk.new _ _ _
  unfold nodeV at HB1 HX HKT
  rw [← kindAt_get hk,hkk] at HB1 HX HKT
  obtain ⟨t,ht⟩ : ∃ t,t=l[k].t:=⟨_,rfl⟩
  obtain ⟨n,hn2⟩ : ∃ n,n=l[k].n:=⟨_,rfl⟩
  obtain ⟨z,hz⟩ : ∃ z,z=l[k].z:=⟨_,rfl⟩
  obtain ⟨kp,hkp⟩ : ∃ kp,kp=l[k].p:=⟨_,rfl⟩
  obtain ⟨kc,hkc⟩ : ∃ kc,kc=l[k].cap:=⟨_,rfl⟩
  obtain ⟨cn,hcn⟩ : ∃ cn,cn=l[k].c.length:=⟨_,rfl⟩
  obtain ⟨ka,hka⟩ : ∃ ka,ka=l[k].a:=⟨_,rfl⟩
  rw [← ht,← hn2,← hz,← hkp,← hkc,← hcn,← hka] at HB1 HX HKT
  rw [← ht] at c1 htx;rw [← hn2] at c2;rw [← hz] at c3;rw [← hkp,← hkc,← hcn] at c4;rw [← hka] at c5
  rw [← hcn] at hcn0
  have hcn1:0≤cn:=by omega
  obtain ⟨xs,hxs⟩ : ∃ xs,xs=ktF l fs k:=⟨_,rfl⟩
  rw [← hxs] at HKT HLEN hxl
  obtain ⟨xn,hxn⟩ : ∃ xn,xn=xs.length:=⟨_,rfl⟩
  have HXN:=Lib.hid hxn
  have hxs1:0≤xn:=by omega
  have hexp:exprF l ns fs k=(1,true):=by
    unfold exprF;dsimp only;rw [hkk,← hxs];rfl
  rw [hexp]
  obtain ⟨nn,hnn⟩ : ∃ nn,nn=l.length:=⟨_,rfl⟩
  rw [← hnn] at a0 hk hl
  have HX6:Hid (∀ V,Below _ _ V→V.cell? ⟨w.heap.size,0,none⟩=some (.int .i64 31)∧V.cell? ⟨w.heap.size,1,none⟩=some (.string t)∧V.cell? ⟨w.heap.size,2,none⟩=some (.int .i64 n)∧V.cell? ⟨w.heap.size,3,none⟩=some (.int .i64 z)∧V.cell? ⟨w.heap.size,4,none⟩=some (.slice kp cn kc)∧V.cell? ⟨w.heap.size,5,none⟩=some (.int .i64 ka)) :=
    Lib.hid (fun V hV=>by have hh:=fun i=>(HX.out.below hV HX.out.lt).cell i;exact ⟨(hh 0).trans rfl,(hh 1).trans rfl,(hh 2).trans rfl,(hh 3).trans rfl,(hh 4).trans rfl,(hh 5).trans rfl⟩)
  obtain ⟨Q,hQ⟩ : ∃ Q:Ending→World→Prop,Q=ExPost w (1,true):=⟨_,rfl⟩
  rw [← hQ]
  have HQ:=Lib.hid hQ
  clear h hC hnm hkk hlow hN hxl htx hbw ht hn2 hz hkp hkc hcn hka hcn0 hxs hexp hnn hQ hxn
  go_enter Tryz.func86,Tryz.ntmps86
  go_wp2_with (first | (go_at_call 146;refine (HKT.out _ HB1.out).mono ?_;rintro e w1 ⟨lb,rfl,hb1,hs1⟩;have HBa:=Lib.hid hb1;have HBb:=Lib.hid (HB1.out.trans (hb1.mono HB1.out.size));have HS1:=Lib.hid hs1;clear hb1 hs1) | (go_at_call 145;refine (collect_kidsN HXN.out HS1.out HLEN.out).mono ?_;rintro e w2 ⟨q,d,rfl,hk2,hb2⟩;have HW2:=Lib.hid (HBb.out.trans (hb2.mono HBb.out.size));have HV2:=Lib.hid (HBa.out.trans (hb2.mono HBa.out.size));have HK2:=Lib.hid hk2;obtain ⟨m0,m1,m2,m3,m4,m5⟩:=HX6.out _ HV2.out;clear hb2 hk2))
  (try go_ret2)
  rw [HQ.out]
  exact ⟨rfl,HW2.out⟩
set_option maxHeartbeats 8000000 in
set_option maxRecDepth 100000 in
theorem expr_32 (h:Ck w l p cap C N P T ns fs) (hC:∀ j,j<l.length→codeAt l j=0) (hl:l.length≤600) (hnm:NmOk l ns) {k:Nat}(hk:k<l.length) (hkk:kindAt l k=32) :
    Calls Tryz.prog 86 #[.pointer (some ⟨C,0,none⟩),.int .i64 k] w (ExPost w (exprF l ns fs k)):=by
  have hlow:=kids_low hC hk
  rw [hkk] at hlow
  have hlow:0≤(kidsAt l k).length:=by simp [lowV] at hlow;omega
  have hcn0:l[k].c.length=(kidsAt l k).length:=by rw [kidsAt_get hk]
  have HKT:Hid (∀ V,Below w.heap.size w V→Calls Tryz.prog 146 #[.pointer (some ⟨C,0,none⟩),.agg (nodeV l[k])] V fun e w'=>∃ lb,e=.returned (.func (.func 197) #[] lb)∧Below V.heap.size V w'∧SeqI w' (.func (.func 197) #[] lb) (ktF l fs k)):=fun V hV=>kidTypes_seq (h.below hV) hC hl hk
  obtain ⟨j,hj,hjl⟩:=hnm.name hk hkk
  have HNA:Hid (∀ V,Below w.heap.size w V→Calls Tryz.prog 147 #[.pointer (some ⟨C,0,none⟩),.int .i64 k] V fun e w'=>e=.returned (.int .i64 (nameT l ns k))∧Below V.heap.size V w'):=fun V hV=>name_any (h.below hV) hl hk hj hjl
  have HLEN:=Lib.hid (kt_len (fs:=fs) hC hl hk)
  have hxl:(ktF l fs k).length=(kidsAt l k).length:=by unfold ktF;simp
  have htx:tx l k=l[k].t.data.toList:=tx_get hk
  obtain ⟨b,o,rfl,hbw,hN⟩:=h.node hk
  have a0:w.cell? ⟨C,0,none⟩=some (.slice (some ⟨b,o,none⟩) l.length cap):=by rw [h.chk.cell];rfl
  obtain ⟨c0,c1,c2,c3,c4,c5⟩:=hN w (Below.refl _ _) k hk
  rw [← kindAt_get hk,hkk] at c0
  have HB1:Hid (Below w.heap.size w (w.alloc (.cells (nodeV l[k]) 34))):=(Below.refl _ _).alloc (Nat.le_refl _) _
  have HX:Hid (Blk (w.alloc (.cells (nodeV l[k]) 34)) w.heap.size 34 (nodeV l[k])):=Blk.new _ _ _
  unfold nodeV at HB1 HX HKT
  rw [← kindAt_get hk,hkk] at HB1 HX HKT
  obtain ⟨t,ht⟩ : ∃ t,t=l[k].t:=⟨_,rfl⟩
  obtain ⟨n,hn2⟩ : ∃ n,n=l[k].n:=⟨_,rfl⟩
  obtain ⟨z,hz⟩ : ∃ z,z=l[k].z:=⟨_,rfl⟩
  obtain ⟨kp,hkp⟩ : ∃ kp,kp=l[k].p:=⟨_,rfl⟩
  obtain ⟨kc,hkc⟩ : ∃ kc,kc=l[k].cap:=⟨_,rfl⟩
  obtain ⟨cn,hcn⟩ : ∃ cn,cn=l[k].c.length:=⟨_,rfl⟩
  obtain ⟨ka,hka⟩ : ∃ ka,ka=l[k].a:=⟨_,rfl⟩
  rw [← ht,← hn2,← hz,← hkp,← hkc,← hcn,← hka] at HB1 HX HKT
  rw [← ht] at c1 htx;rw [← hn2] at c2;rw [← hz] at c3;rw [← hkp,← hkc,← hcn] at c4;rw [← hka] at c5
  rw [← hcn] at hcn0
  have hcn1:0≤cn:=by omega
  obtain ⟨xs,hxs⟩ : ∃ xs,xs=ktF l fs k:=⟨_,rfl⟩
  rw [← hxs] at HKT HLEN hxl
  obtain ⟨xn,hxn⟩ : ∃ xn,xn=xs.length:=⟨_,rfl⟩
  have HXN:=Lib.hid hxn
  have hxs1:0≤xn:=by omega
  have hexp:exprF l ns fs k=(nameT l ns k,true):=by
    unfold exprF;dsimp only;rw [hkk,← hxs];rfl
  rw [hexp]
  obtain ⟨r,hr⟩ : ∃ r,r=nameT l ns k:=⟨_,rfl⟩
  rw [← hr] at HNA ⊢
  obtain ⟨nn,hnn⟩ : ∃ nn,nn=l.length:=⟨_,rfl⟩
  rw [← hnn] at a0 hk hl
  have HX6:Hid (∀ V,Below _ _ V→V.cell? ⟨w.heap.size,0,none⟩=some (.int .i64 32)∧V.cell? ⟨w.heap.size,1,none⟩=some (.string t)∧V.cell? ⟨w.heap.size,2,none⟩=some (.int .i64 n)∧V.cell? ⟨w.heap.size,3,none⟩=some (.int .i64 z)∧V.cell? ⟨w.heap.size,4,none⟩=some (.slice kp cn kc)∧V.cell? ⟨w.heap.size,5,none⟩=some (.int .i64 ka)) :=
    Lib.hid (fun V hV=>by have hh:=fun i=>(HX.out.below hV HX.out.lt).cell i;exact ⟨(hh 0).trans rfl,(hh 1).trans rfl,(hh 2).trans rfl,(hh 3).trans rfl,(hh 4).trans rfl,(hh 5).trans rfl⟩)
  obtain ⟨Q,hQ⟩ : ∃ Q:Ending→World→Prop,Q=ExPost w (r,true):=⟨_,rfl⟩
  rw [← hQ]
  have HQ:=Lib.hid hQ
  clear h hC hnm hkk hlow hN hxl htx hbw ht hn2 hz hkp hkc hcn hka hcn0 hxs hexp hnn hQ hxn hr hj hjl
  go_enter Tryz.func86,Tryz.ntmps86
  go_wp2_with (first | (go_at_call 146;refine (HKT.out _ HB1.out).mono ?_;rintro e w1 ⟨lb,rfl,hb1,hs1⟩;have HBa:=Lib.hid hb1;have HBb:=Lib.hid (HB1.out.trans (hb1.mono HB1.out.size));have HS1:=Lib.hid hs1;clear hb1 hs1) | (go_at_call 145;refine (collect_kidsN HXN.out HS1.out HLEN.out).mono ?_;rintro e w2 ⟨q,d,rfl,hk2,hb2⟩;have HW2:=Lib.hid (HBb.out.trans (hb2.mono HBb.out.size));have HV2:=Lib.hid (HBa.out.trans (hb2.mono HBa.out.size));have HK2:=Lib.hid hk2;obtain ⟨m0,m1,m2,m3,m4,m5⟩:=HX6.out _ HV2.out;clear hb2 hk2) | (go_at_call 147;refine (HNA.out _ HW2.out).mono ?_;rintro e w3 ⟨rfl,hb3⟩;have HW3:=Lib.hid (HW2.out.trans (hb3.mono HW2.out.size));clear hb3))
  (try go_ret2)
  rw [HQ.out]
  exact ⟨rfl,HW3.out⟩
set_option maxHeartbeats 8000000 in
set_option maxRecDepth 100000 in
theorem expr_33 (h:Ck w l p cap C N P T ns fs) (hC:∀ j,j<l.length→codeAt l j=0) (hl:l.length≤600) (hnm:NmOk l ns) {k:Nat}(hk:k<l.length) (hkk:kindAt l k=33) :
    Calls Tryz.prog 86 #[.pointer (some ⟨C,0,none⟩),.int .i64 k] w (ExPost w (exprF l ns fs k)):=by
  have hlow:=kids_low hC hk
  rw [hkk] at hlow
  have hlow:0≤(kidsAt l k).length:=by simp [lowV] at hlow;omega
  have hcn0:l[k].c.length=(kidsAt l k).length:=by rw [kidsAt_get hk]
  have HKT:Hid (∀ V,Below w.heap.size w V→Calls Tryz.prog 146 #[.pointer (some ⟨C,0,none⟩),.agg (nodeV l[k])] V fun e w'=>∃ lb,e=.returned (.func (.func 197) #[] lb)∧Below V.heap.size V w'∧SeqI w' (.func (.func 197) #[] lb) (ktF l fs k)):=fun V hV=>kidTypes_seq (h.below hV) hC hl hk
  have HCA:Hid (∀ V,Below w.heap.size w V→Calls Tryz.prog 148 #[.pointer (some ⟨C,0,none⟩),.int .i64 k] V (CePost V (calleeF l ns k))):=fun V hV=>callee_any (h.below hV) hC hl hnm hk hkk
  have HCL:=Lib.hid (callee_len hC hl hnm hk hkk)
  have HLEN:=Lib.hid (kt_len (fs:=fs) hC hl hk)
  have hxl:(ktF l fs k).length=(kidsAt l k).length:=by unfold ktF;simp
  have htx:tx l k=l[k].t.data.toList:=tx_get hk
  obtain ⟨b,o,rfl,hbw,hN⟩:=h.node hk
  have a0:w.cell? ⟨C,0,none⟩=some (.slice (some ⟨b,o,none⟩) l.length cap):=by rw [h.chk.cell];rfl
  obtain ⟨c0,c1,c2,c3,c4,c5⟩:=hN w (Below.refl _ _) k hk
  rw [← kindAt_get hk,hkk] at c0
  have HB1:Hid (Below w.heap.size w (w.alloc (.cells (nodeV l[k]) 34))):=(Below.refl _ _).alloc (Nat.le_refl _) _
  have HX:Hid (Blk (w.alloc (.cells (nodeV l[k]) 34)) w.heap.size 34 (nodeV l[k])):=Blk.new _ _ _
  unfold nodeV at HB1 HX HKT
  rw [← kindAt_get hk,hkk] at HB1 HX HKT
  obtain ⟨t,ht⟩ : ∃ t,t=l[k].t:=⟨_,rfl⟩
  obtain ⟨n,hn2⟩ : ∃ n,n=l[k].n:=⟨_,rfl⟩
  obtain ⟨z,hz⟩ : ∃ z,z=l[k].z:=⟨_,rfl⟩
  obtain ⟨kp,hkp⟩ : ∃ kp,kp=l[k].p:=⟨_,rfl⟩
  obtain ⟨kc,hkc⟩ : ∃ kc,kc=l[k].cap:=⟨_,rfl⟩
  obtain ⟨cn,hcn⟩ : ∃ cn,cn=l[k].c.length:=⟨_,rfl⟩
  obtain ⟨ka,hka⟩ : ∃ ka,ka=l[k].a:=⟨_,rfl⟩
  rw [← ht,← hn2,← hz,← hkp,← hkc,← hcn,← hka] at HB1 HX HKT
  rw [← ht] at c1 htx;rw [← hn2] at c2;rw [← hz] at c3;rw [← hkp,← hkc,← hcn] at c4;rw [← hka] at c5
  rw [← hcn] at hcn0
  have hcn1:0≤cn:=by omega
  obtain ⟨xs,hxs⟩ : ∃ xs,xs=ktF l fs k:=⟨_,rfl⟩
  rw [← hxs] at HKT HLEN hxl
  obtain ⟨xn,hxn⟩ : ∃ xn,xn=xs.length:=⟨_,rfl⟩
  have HXN:=Lib.hid hxn
  have hxs1:0≤xn:=by omega
  have hexp:exprF l ns fs k=((calleeF l ns k).2,ktF l fs k == (calleeF l ns k).1):=by
    unfold exprF;dsimp only;rw [hkk,← hxs];rw [hxs];rfl
  rw [hexp]
  obtain ⟨r,hr⟩ : ∃ r,r=calleeF l ns k:=⟨_,rfl⟩
  rw [← hr] at HCA HCL ⊢
  rw [← hxs]
  obtain ⟨r1,r2⟩:=r
  obtain ⟨rn,hrn⟩ : ∃ rn,rn=r1.length:=⟨_,rfl⟩
  have HRN:=Lib.hid hrn
  have HCA2:Hid (∀ V,Below w.heap.size w V→Calls Tryz.prog 148 #[.pointer (some ⟨C,0,none⟩),.int .i64 k] V fun e w'=>∃ q d,e=.returned (.tuple #[.slice q rn d,.int .i64 r2])∧KidsAt w' q r1∧Below V.heap.size V w'):=Lib.hid (fun V hV=>by rw [hrn];exact HCA.out V hV)
  obtain ⟨nn,hnn⟩ : ∃ nn,nn=l.length:=⟨_,rfl⟩
  rw [← hnn] at a0 hk hl
  have HX6:Hid (∀ V,Below _ _ V→V.cell? ⟨w.heap.size,0,none⟩=some (.int .i64 33)∧V.cell? ⟨w.heap.size,1,none⟩=some (.string t)∧V.cell? ⟨w.heap.size,2,none⟩=some (.int .i64 n)∧V.cell? ⟨w.heap.size,3,none⟩=some (.int .i64 z)∧V.cell? ⟨w.heap.size,4,none⟩=some (.slice kp cn kc)∧V.cell? ⟨w.heap.size,5,none⟩=some (.int .i64 ka)) :=
    Lib.hid (fun V hV=>by have hh:=fun i=>(HX.out.below hV HX.out.lt).cell i;exact ⟨(hh 0).trans rfl,(hh 1).trans rfl,(hh 2).trans rfl,(hh 3).trans rfl,(hh 4).trans rfl,(hh 5).trans rfl⟩)
  obtain ⟨Q,hQ⟩ : ∃ Q:Ending→World→Prop,Q=ExPost w (r2,xs == r1):=⟨_,rfl⟩
  rw [← hQ]
  have HQ:=Lib.hid hQ
  clear h hC hnm hkk hlow hN hxl htx hbw ht hn2 hz hkp hkc hcn hka hcn0 hxs hexp hnn hQ hxn hr hrn HCA
  go_enter Tryz.func86,Tryz.ntmps86
  go_wp2_with (first | (go_at_call 146;refine (HKT.out _ HB1.out).mono ?_;rintro e w1 ⟨lb,rfl,hb1,hs1⟩;have HBa:=Lib.hid hb1;have HBb:=Lib.hid (HB1.out.trans (hb1.mono HB1.out.size));have HS1:=Lib.hid hs1;clear hb1 hs1) | (go_at_call 145;refine (collect_kidsN HXN.out HS1.out HLEN.out).mono ?_;rintro e w2 ⟨q,d,rfl,hk2,hb2⟩;have HW2:=Lib.hid (HBb.out.trans (hb2.mono HBb.out.size));have HV2:=Lib.hid (HBa.out.trans (hb2.mono HBa.out.size));have HK2:=Lib.hid hk2;obtain ⟨m0,m1,m2,m3,m4,m5⟩:=HX6.out _ HV2.out;clear hb2 hk2) | (go_at_call 148;refine (HCA2.out _ HW2.out).mono ?_;rintro e w3 ⟨q3,d3,rfl,hk3,hb3⟩;have HW3:=Lib.hid (HW2.out.trans (hb3.mono HW2.out.size));have HK3:=Lib.hid hk3;have HK2b:=Lib.hid (HK2.out.below hb3);clear hb3 hk3) | (go_at_call 81;refine (equal_anyN HXN.out HRN.out HK2b.out HK3.out HLEN.out HCL.out).mono ?_;rintro e w4 ⟨rfl,hb4⟩;have HW4:=Lib.hid (HW3.out.trans (hb4.mono HW3.out.size));clear hb4))
  (try go_ret2)
  rw [HQ.out]
  exact ⟨rfl,HW4.out⟩
set_option maxHeartbeats 8000000 in
set_option maxRecDepth 100000 in
theorem expr_34 (h:Ck w l p cap C N P T ns fs) (hC:∀ j,j<l.length→codeAt l j=0) (hl:l.length≤600) (hnm:NmOk l ns) {k:Nat}(hk:k<l.length) (hkk:kindAt l k=34) (hr0:(ktF l fs k).getD 0 0=0∨(ktF l fs k).getD 0 0=1∨(ktF l fs k).getD 0 0=2) :
    Calls Tryz.prog 86 #[.pointer (some ⟨C,0,none⟩),.int .i64 k] w (ExPost w (exprF l ns fs k)):=by
  have hlow:=kids_low hC hk
  rw [hkk] at hlow
  have hlow:2≤(kidsAt l k).length:=by simp [lowV] at hlow;omega
  have hcn0:l[k].c.length=(kidsAt l k).length:=by rw [kidsAt_get hk]
  have HKT:Hid (∀ V,Below w.heap.size w V→Calls Tryz.prog 146 #[.pointer (some ⟨C,0,none⟩),.agg (nodeV l[k])] V fun e w'=>∃ lb,e=.returned (.func (.func 197) #[] lb)∧Below V.heap.size V w'∧SeqI w' (.func (.func 197) #[] lb) (ktF l fs k)):=fun V hV=>kidTypes_seq (h.below hV) hC hl hk
  have HLEN:=Lib.hid (kt_len (fs:=fs) hC hl hk)
  have hxl:(ktF l fs k).length=(kidsAt l k).length:=by unfold ktF;simp
  have htx:tx l k=l[k].t.data.toList:=tx_get hk
  obtain ⟨b,o,rfl,hbw,hN⟩:=h.node hk
  have a0:w.cell? ⟨C,0,none⟩=some (.slice (some ⟨b,o,none⟩) l.length cap):=by rw [h.chk.cell];rfl
  obtain ⟨c0,c1,c2,c3,c4,c5⟩:=hN w (Below.refl _ _) k hk
  rw [← kindAt_get hk,hkk] at c0
  have HB1:Hid (Below w.heap.size w (w.alloc (.cells (nodeV l[k]) 34))):=(Below.refl _ _).alloc (Nat.le_refl _) _
  have HX:Hid (Blk (w.alloc (.cells (nodeV l[k]) 34)) w.heap.size 34 (nodeV l[k])):=Blk.new _ _ _
  unfold nodeV at HB1 HX HKT
  rw [← kindAt_get hk,hkk] at HB1 HX HKT
  obtain ⟨t,ht⟩ : ∃ t,t=l[k].t:=⟨_,rfl⟩
  obtain ⟨n,hn2⟩ : ∃ n,n=l[k].n:=⟨_,rfl⟩
  obtain ⟨z,hz⟩ : ∃ z,z=l[k].z:=⟨_,rfl⟩
  obtain ⟨kp,hkp⟩ : ∃ kp,kp=l[k].p:=⟨_,rfl⟩
  obtain ⟨kc,hkc⟩ : ∃ kc,kc=l[k].cap:=⟨_,rfl⟩
  obtain ⟨cn,hcn⟩ : ∃ cn,cn=l[k].c.length:=⟨_,rfl⟩
  obtain ⟨ka,hka⟩ : ∃ ka,ka=l[k].a:=⟨_,rfl⟩
  rw [← ht,← hn2,← hz,← hkp,← hkc,← hcn,← hka] at HB1 HX HKT
  rw [← ht] at c1 htx;rw [← hn2] at c2;rw [← hz] at c3;rw [← hkp,← hkc,← hcn] at c4;rw [← hka] at c5
  rw [← hcn] at hcn0
  have hcn1:2≤cn:=by omega
  obtain ⟨xs,hxs⟩ : ∃ xs,xs=ktF l fs k:=⟨_,rfl⟩
  rw [← hxs] at HKT HLEN hxl
  obtain ⟨xn,hxn⟩ : ∃ xn,xn=xs.length:=⟨_,rfl⟩
  have HXN:=Lib.hid hxn
  have hxs1:2≤xn:=by omega
  have hexp:exprF l ns fs k=(1,decide (xs.getD 0 0=2) && decide (xs.getD 1 0=1)):=by
    unfold exprF;dsimp only;rw [hkk,← hxs];rfl
  rw [hexp]
  rw [← hxs] at hr0
  obtain ⟨nn,hnn⟩ : ∃ nn,nn=l.length:=⟨_,rfl⟩
  rw [← hnn] at a0 hk hl
  have HX6:Hid (∀ V,Below _ _ V→V.cell? ⟨w.heap.size,0,none⟩=some (.int .i64 34)∧V.cell? ⟨w.heap.size,1,none⟩=some (.string t)∧V.cell? ⟨w.heap.size,2,none⟩=some (.int .i64 n)∧V.cell? ⟨w.heap.size,3,none⟩=some (.int .i64 z)∧V.cell? ⟨w.heap.size,4,none⟩=some (.slice kp cn kc)∧V.cell? ⟨w.heap.size,5,none⟩=some (.int .i64 ka)) :=
    Lib.hid (fun V hV=>by have hh:=fun i=>(HX.out.below hV HX.out.lt).cell i;exact ⟨(hh 0).trans rfl,(hh 1).trans rfl,(hh 2).trans rfl,(hh 3).trans rfl,(hh 4).trans rfl,(hh 5).trans rfl⟩)
  obtain ⟨Q,hQ⟩ : ∃ Q:Ending→World→Prop,Q=ExPost w (1,decide (xs.getD 0 0=2) && decide (xs.getD 1 0=1)):=⟨_,rfl⟩
  rw [← hQ]
  have HQ:=Lib.hid hQ
  clear h hC hnm hkk hlow hN hxl htx hbw ht hn2 hz hkp hkc hcn hka hcn0 hxs hexp hnn hQ hxn
  go_enter Tryz.func86,Tryz.ntmps86
  go_wp2_with (first | (go_at_call 146;refine (HKT.out _ HB1.out).mono ?_;rintro e w1 ⟨lb,rfl,hb1,hs1⟩;have HBa:=Lib.hid hb1;have HBb:=Lib.hid (HB1.out.trans (hb1.mono HB1.out.size));have HS1:=Lib.hid hs1;clear hb1 hs1) | (go_at_call 145;refine (collect_kidsN HXN.out HS1.out HLEN.out).mono ?_;rintro e w2 ⟨q,d,rfl,hk2,hb2⟩;have HW2:=Lib.hid (HBb.out.trans (hb2.mono HBb.out.size));have HV2:=Lib.hid (HBa.out.trans (hb2.mono HBa.out.size));have HK2:=Lib.hid hk2;obtain ⟨m0,m1,m2,m3,m4,m5⟩:=HX6.out _ HV2.out;clear hb2 hk2))
  obtain ⟨qb,qo,rfl,hqb,hqc⟩:=HK2.out (by have:=HXN.out;omega)
  have x0:w2.cell? ⟨qb,qo,none⟩=some (.int .i64 (xs.getD 0 0)):=by have:=hqc 0 (by have:=HXN.out;omega);simpa [show 0<xs.length by have:=HXN.out;omega] using this
  have x1:w2.cell? ⟨qb,qo+1,none⟩=some (.int .i64 (xs.getD 1 0)):=by have:=hqc 1 (by have:=HXN.out;omega);simpa [show 1<xs.length by have:=HXN.out;omega] using this
  obtain ⟨v0,hv0⟩ : ∃ v,v=xs.getD 0 0:=⟨_,rfl⟩
  rw [← hv0] at x0
  have HQ0:=Lib.hid hv0
  obtain ⟨v1,hv1⟩ : ∃ v,v=xs.getD 1 0:=⟨_,rfl⟩
  rw [← hv1] at x1
  have HQ1:=Lib.hid hv1
  clear hqc hv0 hv1
  have q0:(0:Int)<(xn:Int):=by omega
  have r0:0<xn:=by omega
  have q1:(1:Int)<(xn:Int):=by omega
  have r1:1<xn:=by omega
  have hr1:v0=0∨v0=1∨v0=2:=by rw [HQ0.out];exact hr0
  rw [← HQ0.out,← HQ1.out] at HQ
  clear HQ0 HQ1 hr0
  have hws:w.heap.size<w2.heap.size:=by have:=HV2.out.size;simp at this;omega
  have S0:Hid (∀ V,Below w2.heap.size w2 V→V.cell? ⟨qb,qo,none⟩=some (.int .i64 v0)∧V.cell? ⟨qb,qo+1,none⟩=some (.int .i64 v1)):=Lib.hid (fun V hV=>⟨(hV.cell (p:=⟨qb,qo,none⟩) hqb).trans x0,(hV.cell (p:=⟨qb,qo+1,none⟩) hqb).trans x1⟩)
  have HE0:Hid (Below w2.heap.size w2 w2.drew):=(Below.refl _ _).drew
  rcases hr1 with rfl | rfl | rfl
  all_goals
    go_region
    all_goals go_wp2
    all_goals (try go_ret2)
    all_goals (rw [HQ.out];exact ⟨ret_ib rfl (by go_light;(try (rw [Bool.eq_iff_iff];simp))),HW2.out.trans (HE0.out.mono HW2.out.size)⟩)
set_option maxHeartbeats 8000000 in
set_option maxRecDepth 100000 in
theorem expr_35 (h:Ck w l p cap C N P T ns fs) (hC:∀ j,j<l.length→codeAt l j=0) (hl:l.length≤600) (hnm:NmOk l ns) {k:Nat}(hk:k<l.length) (hkk:kindAt l k=35) :
    Calls Tryz.prog 86 #[.pointer (some ⟨C,0,none⟩),.int .i64 k] w (ExPost w (exprF l ns fs k)):=by
  have hlow:=kids_low hC hk
  rw [hkk] at hlow
  have hlow:1≤(kidsAt l k).length:=by simp [lowV] at hlow;omega
  have hcn0:l[k].c.length=(kidsAt l k).length:=by rw [kidsAt_get hk]
  have HKT:Hid (∀ V,Below w.heap.size w V→Calls Tryz.prog 146 #[.pointer (some ⟨C,0,none⟩),.agg (nodeV l[k])] V fun e w'=>∃ lb,e=.returned (.func (.func 197) #[] lb)∧Below V.heap.size V w'∧SeqI w' (.func (.func 197) #[] lb) (ktF l fs k)):=fun V hV=>kidTypes_seq (h.below hV) hC hl hk
  have HONE:Hid (∀ x V,Below w.heap.size w V→Calls Tryz.prog 149 #[.pointer (some ⟨C,0,none⟩),.agg (nodeV l[k]),.int .i64 x] V fun e w'=>e=.returned (.tuple #[.int .i64 (oneF l ns (tx l k) ((kidsAt l k).getD 0 0).toNat x).1,.bool (oneF l ns (tx l k) ((kidsAt l k).getD 0 0).toNat x).2])∧Below V.heap.size V w'):=fun x V hV=>one_any (h.below hV) hC hl hnm hk (by omega) x
  have HLEN:=Lib.hid (kt_len (fs:=fs) hC hl hk)
  have hxl:(ktF l fs k).length=(kidsAt l k).length:=by unfold ktF;simp
  have htx:tx l k=l[k].t.data.toList:=tx_get hk
  obtain ⟨b,o,rfl,hbw,hN⟩:=h.node hk
  have a0:w.cell? ⟨C,0,none⟩=some (.slice (some ⟨b,o,none⟩) l.length cap):=by rw [h.chk.cell];rfl
  obtain ⟨c0,c1,c2,c3,c4,c5⟩:=hN w (Below.refl _ _) k hk
  rw [← kindAt_get hk,hkk] at c0
  have HB1:Hid (Below w.heap.size w (w.alloc (.cells (nodeV l[k]) 34))):=(Below.refl _ _).alloc (Nat.le_refl _) _
  have HX:Hid (Blk (w.alloc (.cells (nodeV l[k]) 34)) w.heap.size 34 (nodeV l[k])):=Blk.new _ _ _
  unfold nodeV at HB1 HX HKT HONE
  rw [← kindAt_get hk,hkk] at HB1 HX HKT HONE
  obtain ⟨t,ht⟩ : ∃ t,t=l[k].t:=⟨_,rfl⟩
  obtain ⟨n,hn2⟩ : ∃ n,n=l[k].n:=⟨_,rfl⟩
  obtain ⟨z,hz⟩ : ∃ z,z=l[k].z:=⟨_,rfl⟩
  obtain ⟨kp,hkp⟩ : ∃ kp,kp=l[k].p:=⟨_,rfl⟩
  obtain ⟨kc,hkc⟩ : ∃ kc,kc=l[k].cap:=⟨_,rfl⟩
  obtain ⟨cn,hcn⟩ : ∃ cn,cn=l[k].c.length:=⟨_,rfl⟩
  obtain ⟨ka,hka⟩ : ∃ ka,ka=l[k].a:=⟨_,rfl⟩
  rw [← ht,← hn2,← hz,← hkp,← hkc,← hcn,← hka] at HB1 HX HKT HONE
  rw [← ht] at c1 htx;rw [← hn2] at c2;rw [← hz] at c3;rw [← hkp,← hkc,← hcn] at c4;rw [← hka] at c5
  rw [← hcn] at hcn0
  have hcn1:1≤cn:=by omega
  obtain ⟨xs,hxs⟩ : ∃ xs,xs=ktF l fs k:=⟨_,rfl⟩
  rw [← hxs] at HKT HLEN hxl
  obtain ⟨xn,hxn⟩ : ∃ xn,xn=xs.length:=⟨_,rfl⟩
  have HXN:=Lib.hid hxn
  have hxs1:1≤xn:=by omega
  have hexp:exprF l ns fs k=oneF l ns (tx l k) ((kidsAt l k).getD 0 0).toNat (xs.getD 0 0):=by
    unfold exprF;dsimp only;rw [hkk,← hxs];rfl
  rw [hexp]
  obtain ⟨r,hr⟩ : ∃ r:Int→Int × Bool,r=fun x=>oneF l ns (tx l k) ((kidsAt l k).getD 0 0).toNat x:=⟨_,rfl⟩
  have hr2:∀ x,oneF l ns (tx l k) ((kidsAt l k).getD 0 0).toNat x=r x:=fun x=>by rw [hr]
  simp only [hr2] at HONE
  rw [hr2]
  obtain ⟨nn,hnn⟩ : ∃ nn,nn=l.length:=⟨_,rfl⟩
  rw [← hnn] at a0 hk hl
  have HX6:Hid (∀ V,Below _ _ V→V.cell? ⟨w.heap.size,0,none⟩=some (.int .i64 35)∧V.cell? ⟨w.heap.size,1,none⟩=some (.string t)∧V.cell? ⟨w.heap.size,2,none⟩=some (.int .i64 n)∧V.cell? ⟨w.heap.size,3,none⟩=some (.int .i64 z)∧V.cell? ⟨w.heap.size,4,none⟩=some (.slice kp cn kc)∧V.cell? ⟨w.heap.size,5,none⟩=some (.int .i64 ka)) :=
    Lib.hid (fun V hV=>by have hh:=fun i=>(HX.out.below hV HX.out.lt).cell i;exact ⟨(hh 0).trans rfl,(hh 1).trans rfl,(hh 2).trans rfl,(hh 3).trans rfl,(hh 4).trans rfl,(hh 5).trans rfl⟩)
  obtain ⟨Q,hQ⟩ : ∃ Q:Ending→World→Prop,Q=ExPost w (r (xs.getD 0 0)):=⟨_,rfl⟩
  rw [← hQ]
  have HQ:=Lib.hid hQ
  clear h hC hnm hkk hlow hN hxl htx hbw ht hn2 hz hkp hkc hcn hka hcn0 hxs hexp hnn hQ hxn hr hr2
  go_enter Tryz.func86,Tryz.ntmps86
  go_wp2_with (first | (go_at_call 146;refine (HKT.out _ HB1.out).mono ?_;rintro e w1 ⟨lb,rfl,hb1,hs1⟩;have HBa:=Lib.hid hb1;have HBb:=Lib.hid (HB1.out.trans (hb1.mono HB1.out.size));have HS1:=Lib.hid hs1;clear hb1 hs1) | (go_at_call 145;refine (collect_kidsN HXN.out HS1.out HLEN.out).mono ?_;rintro e w2 ⟨q,d,rfl,hk2,hb2⟩;have HW2:=Lib.hid (HBb.out.trans (hb2.mono HBb.out.size));have HV2:=Lib.hid (HBa.out.trans (hb2.mono HBa.out.size));have HK2:=Lib.hid hk2;obtain ⟨m0,m1,m2,m3,m4,m5⟩:=HX6.out _ HV2.out;clear hb2 hk2))
  obtain ⟨qb,qo,rfl,hqb,hqc⟩:=HK2.out (by have:=HXN.out;omega)
  have x0:w2.cell? ⟨qb,qo,none⟩=some (.int .i64 (xs.getD 0 0)):=by have:=hqc 0 (by have:=HXN.out;omega);simpa [show 0<xs.length by have:=HXN.out;omega] using this
  obtain ⟨v0,hv0⟩ : ∃ v,v=xs.getD 0 0:=⟨_,rfl⟩
  rw [← hv0] at x0
  have HQ0:=Lib.hid hv0
  clear hqc hv0
  have q0:(0:Int)<(xn:Int):=by omega
  have r0:0<xn:=by omega
  rw [← HQ0.out] at HQ
  clear HQ0
  have hws:w.heap.size<w2.heap.size:=by have:=HV2.out.size;simp at this;omega
  have S0:Hid (∀ V,Below w2.heap.size w2 V→V.cell? ⟨qb,qo,none⟩=some (.int .i64 v0)∧V.cell? ⟨w.heap.size,0,none⟩=some (.int .i64 35)∧V.cell? ⟨w.heap.size,1,none⟩=some (.string t)∧V.cell? ⟨w.heap.size,2,none⟩=some (.int .i64 n)∧V.cell? ⟨w.heap.size,3,none⟩=some (.int .i64 z)∧V.cell? ⟨w.heap.size,4,none⟩=some (.slice kp cn kc)∧V.cell? ⟨w.heap.size,5,none⟩=some (.int .i64 ka)):=Lib.hid (fun V hV=>⟨(hV.cell (p:=⟨qb,qo,none⟩) hqb).trans x0,(hV.cell (p:=⟨w.heap.size,0,none⟩) hws).trans m0,(hV.cell (p:=⟨w.heap.size,1,none⟩) hws).trans m1,(hV.cell (p:=⟨w.heap.size,2,none⟩) hws).trans m2,(hV.cell (p:=⟨w.heap.size,3,none⟩) hws).trans m3,(hV.cell (p:=⟨w.heap.size,4,none⟩) hws).trans m4,(hV.cell (p:=⟨w.heap.size,5,none⟩) hws).trans m5⟩)
  have HE0:Hid (Below w2.heap.size w2 w2.drew):=(Below.refl _ _).drew
  clear x0 m0 m1 m2 m3 m4 m5 HX6 HX hqb
  go_region_held3 (fun V=>V.cell? ⟨qb,qo,none⟩=some (.int .i64 v0)∧V.cell? ⟨w.heap.size,0,none⟩=some (.int .i64 35)∧V.cell? ⟨w.heap.size,1,none⟩=some (.string t)∧V.cell? ⟨w.heap.size,2,none⟩=some (.int .i64 n)∧V.cell? ⟨w.heap.size,3,none⟩=some (.int .i64 z)∧V.cell? ⟨w.heap.size,4,none⟩=some (.slice kp cn kc)∧V.cell? ⟨w.heap.size,5,none⟩=some (.int .i64 ka))
    (first | with_reducible exact S0.out _ HE0.out | with_reducible exact S0.out _ HE1.out)
    (first | (go_at_call 149;refine (HONE.out _ _ (HW2.out.trans (HE0.out.mono HW2.out.size))).mono ?_;rintro e w3 ⟨rfl,hb3⟩;have HE1:=Lib.hid (HE0.out.trans (hb3.mono HE0.out.size));clear hb3))
  all_goals go_wp2
  all_goals (try go_ret2)
  all_goals (rw [HQ.out];exact ⟨rfl,HW2.out.trans (HE1.out.mono HW2.out.size)⟩)
set_option maxHeartbeats 8000000 in
set_option maxRecDepth 100000 in
theorem expr_36 (h:Ck w l p cap C N P T ns fs) (hC:∀ j,j<l.length→codeAt l j=0) (hl:l.length≤600) (hnm:NmOk l ns) {k:Nat}(hk:k<l.length) (hkk:kindAt l k=36) :
    Calls Tryz.prog 86 #[.pointer (some ⟨C,0,none⟩),.int .i64 k] w (ExPost w (exprF l ns fs k)):=by
  have hlow:=kids_low hC hk
  rw [hkk] at hlow
  have hlow:2≤(kidsAt l k).length:=by simp [lowV] at hlow;omega
  have hcn0:l[k].c.length=(kidsAt l k).length:=by rw [kidsAt_get hk]
  have HKT:Hid (∀ V,Below w.heap.size w V→Calls Tryz.prog 146 #[.pointer (some ⟨C,0,none⟩),.agg (nodeV l[k])] V fun e w'=>∃ lb,e=.returned (.func (.func 197) #[] lb)∧Below V.heap.size V w'∧SeqI w' (.func (.func 197) #[] lb) (ktF l fs k)):=fun V hV=>kidTypes_seq (h.below hV) hC hl hk
  have HLEN:=Lib.hid (kt_len (fs:=fs) hC hl hk)
  have hxl:(ktF l fs k).length=(kidsAt l k).length:=by unfold ktF;simp
  have htx:tx l k=l[k].t.data.toList:=tx_get hk
  obtain ⟨b,o,rfl,hbw,hN⟩:=h.node hk
  have a0:w.cell? ⟨C,0,none⟩=some (.slice (some ⟨b,o,none⟩) l.length cap):=by rw [h.chk.cell];rfl
  obtain ⟨c0,c1,c2,c3,c4,c5⟩:=hN w (Below.refl _ _) k hk
  rw [← kindAt_get hk,hkk] at c0
  have HB1:Hid (Below w.heap.size w (w.alloc (.cells (nodeV l[k]) 34))):=(Below.refl _ _).alloc (Nat.le_refl _) _
  have HX:Hid (Blk (w.alloc (.cells (nodeV l[k]) 34)) w.heap.size 34 (nodeV l[k])):=Blk.new _ _ _
  unfold nodeV at HB1 HX HKT
  rw [← kindAt_get hk,hkk] at HB1 HX HKT
  obtain ⟨t,ht⟩ : ∃ t,t=l[k].t:=⟨_,rfl⟩
  obtain ⟨n,hn2⟩ : ∃ n,n=l[k].n:=⟨_,rfl⟩
  obtain ⟨z,hz⟩ : ∃ z,z=l[k].z:=⟨_,rfl⟩
  obtain ⟨kp,hkp⟩ : ∃ kp,kp=l[k].p:=⟨_,rfl⟩
  obtain ⟨kc,hkc⟩ : ∃ kc,kc=l[k].cap:=⟨_,rfl⟩
  obtain ⟨cn,hcn⟩ : ∃ cn,cn=l[k].c.length:=⟨_,rfl⟩
  obtain ⟨ka,hka⟩ : ∃ ka,ka=l[k].a:=⟨_,rfl⟩
  rw [← ht,← hn2,← hz,← hkp,← hkc,← hcn,← hka] at HB1 HX HKT
  rw [← ht] at c1 htx;rw [← hn2] at c2;rw [← hz] at c3;rw [← hkp,← hkc,← hcn] at c4;rw [← hka] at c5
  rw [← hcn] at hcn0
  have hcn1:2≤cn:=by omega
  obtain ⟨xs,hxs⟩ : ∃ xs,xs=ktF l fs k:=⟨_,rfl⟩
  rw [← hxs] at HKT HLEN hxl
  obtain ⟨xn,hxn⟩ : ∃ xn,xn=xs.length:=⟨_,rfl⟩
  have HXN:=Lib.hid hxn
  have hxs1:2≤xn:=by omega
  have hexp:exprF l ns fs k=twoF t.data.toList (xs.getD 0 0) (xs.getD 1 0):=by
    unfold exprF;dsimp only;rw [hkk,← hxs,htx];rfl
  rw [hexp]
  obtain ⟨nn,hnn⟩ : ∃ nn,nn=l.length:=⟨_,rfl⟩
  rw [← hnn] at a0 hk hl
  have HX6:Hid (∀ V,Below _ _ V→V.cell? ⟨w.heap.size,0,none⟩=some (.int .i64 36)∧V.cell? ⟨w.heap.size,1,none⟩=some (.string t)∧V.cell? ⟨w.heap.size,2,none⟩=some (.int .i64 n)∧V.cell? ⟨w.heap.size,3,none⟩=some (.int .i64 z)∧V.cell? ⟨w.heap.size,4,none⟩=some (.slice kp cn kc)∧V.cell? ⟨w.heap.size,5,none⟩=some (.int .i64 ka)) :=
    Lib.hid (fun V hV=>by have hh:=fun i=>(HX.out.below hV HX.out.lt).cell i;exact ⟨(hh 0).trans rfl,(hh 1).trans rfl,(hh 2).trans rfl,(hh 3).trans rfl,(hh 4).trans rfl,(hh 5).trans rfl⟩)
  obtain ⟨Q,hQ⟩ : ∃ Q:Ending→World→Prop,Q=ExPost w (twoF t.data.toList (xs.getD 0 0) (xs.getD 1 0)):=⟨_,rfl⟩
  rw [← hQ]
  have HQ:=Lib.hid hQ
  clear h hC hnm hkk hlow hN hxl htx hbw ht hn2 hz hkp hkc hcn hka hcn0 hxs hexp hnn hQ hxn
  go_enter Tryz.func86,Tryz.ntmps86
  go_wp2_with (first | (go_at_call 146;refine (HKT.out _ HB1.out).mono ?_;rintro e w1 ⟨lb,rfl,hb1,hs1⟩;have HBa:=Lib.hid hb1;have HBb:=Lib.hid (HB1.out.trans (hb1.mono HB1.out.size));have HS1:=Lib.hid hs1;clear hb1 hs1) | (go_at_call 145;refine (collect_kidsN HXN.out HS1.out HLEN.out).mono ?_;rintro e w2 ⟨q,d,rfl,hk2,hb2⟩;have HW2:=Lib.hid (HBb.out.trans (hb2.mono HBb.out.size));have HV2:=Lib.hid (HBa.out.trans (hb2.mono HBa.out.size));have HK2:=Lib.hid hk2;obtain ⟨m0,m1,m2,m3,m4,m5⟩:=HX6.out _ HV2.out;clear hb2 hk2))
  obtain ⟨qb,qo,rfl,hqb,hqc⟩:=HK2.out (by have:=HXN.out;omega)
  have x0:w2.cell? ⟨qb,qo,none⟩=some (.int .i64 (xs.getD 0 0)):=by have:=hqc 0 (by have:=HXN.out;omega);simpa [show 0<xs.length by have:=HXN.out;omega] using this
  have x1:w2.cell? ⟨qb,qo+1,none⟩=some (.int .i64 (xs.getD 1 0)):=by have:=hqc 1 (by have:=HXN.out;omega);simpa [show 1<xs.length by have:=HXN.out;omega] using this
  obtain ⟨v0,hv0⟩ : ∃ v,v=xs.getD 0 0:=⟨_,rfl⟩
  rw [← hv0] at x0
  have HQ0:=Lib.hid hv0
  obtain ⟨v1,hv1⟩ : ∃ v,v=xs.getD 1 0:=⟨_,rfl⟩
  rw [← hv1] at x1
  have HQ1:=Lib.hid hv1
  clear hqc hv0 hv1
  have q0:(0:Int)<(xn:Int):=by omega
  have r0:0<xn:=by omega
  have q1:(1:Int)<(xn:Int):=by omega
  have r1:1<xn:=by omega
  rw [← HQ0.out,← HQ1.out] at HQ
  clear HQ0 HQ1
  have hws:w.heap.size<w2.heap.size:=by have:=HV2.out.size;simp at this;omega
  have S0:Hid (∀ V,Below w2.heap.size w2 V→V.cell? ⟨qb,qo,none⟩=some (.int .i64 v0)∧V.cell? ⟨qb,qo+1,none⟩=some (.int .i64 v1)∧V.cell? ⟨w.heap.size,1,none⟩=some (.string t)):=Lib.hid (fun V hV=>⟨(hV.cell (p:=⟨qb,qo,none⟩) hqb).trans x0,(hV.cell (p:=⟨qb,qo+1,none⟩) hqb).trans x1,(hV.cell (p:=⟨w.heap.size,1,none⟩) hws).trans m1⟩)
  have HE0:Hid (Below w2.heap.size w2 w2.drew):=(Below.refl _ _).drew
  clear x0 x1 m0 m1 m2 m3 m4 m5 HX6 HX hqb
  go_region_held3 (fun V=>V.cell? ⟨qb,qo,none⟩=some (.int .i64 v0)∧V.cell? ⟨qb,qo+1,none⟩=some (.int .i64 v1)∧V.cell? ⟨w.heap.size,1,none⟩=some (.string t))
    (first | with_reducible exact S0.out _ HE0.out | with_reducible exact S0.out _ HE1.out)
    (first | (go_at_call 150;refine (two_any _ _ _ _).mono ?_;rintro e w3 ⟨rfl,rfl⟩))
  all_goals go_wp2
  all_goals (try go_ret2)
  all_goals (rw [HQ.out];exact ⟨rfl,HW2.out.trans (HE0.out.mono HW2.out.size)⟩)
set_option maxHeartbeats 8000000 in
set_option maxRecDepth 100000 in
theorem expr_37 (h:Ck w l p cap C N P T ns fs) (hC:∀ j,j<l.length→codeAt l j=0) (hl:l.length≤600) (hnm:NmOk l ns) {k:Nat}(hk:k<l.length) (hkk:kindAt l k=37) :
    Calls Tryz.prog 86 #[.pointer (some ⟨C,0,none⟩),.int .i64 k] w (ExPost w (exprF l ns fs k)):=by
  have hlow:=kids_low hC hk
  rw [hkk] at hlow
  have hlow:2≤(kidsAt l k).length:=by simp [lowV] at hlow;omega
  have hcn0:l[k].c.length=(kidsAt l k).length:=by rw [kidsAt_get hk]
  have HKT:Hid (∀ V,Below w.heap.size w V→Calls Tryz.prog 146 #[.pointer (some ⟨C,0,none⟩),.agg (nodeV l[k])] V fun e w'=>∃ lb,e=.returned (.func (.func 197) #[] lb)∧Below V.heap.size V w'∧SeqI w' (.func (.func 197) #[] lb) (ktF l fs k)):=fun V hV=>kidTypes_seq (h.below hV) hC hl hk
  have HLEN:=Lib.hid (kt_len (fs:=fs) hC hl hk)
  have hxl:(ktF l fs k).length=(kidsAt l k).length:=by unfold ktF;simp
  have htx:tx l k=l[k].t.data.toList:=tx_get hk
  obtain ⟨b,o,rfl,hbw,hN⟩:=h.node hk
  have a0:w.cell? ⟨C,0,none⟩=some (.slice (some ⟨b,o,none⟩) l.length cap):=by rw [h.chk.cell];rfl
  obtain ⟨c0,c1,c2,c3,c4,c5⟩:=hN w (Below.refl _ _) k hk
  rw [← kindAt_get hk,hkk] at c0
  have HB1:Hid (Below w.heap.size w (w.alloc (.cells (nodeV l[k]) 34))):=(Below.refl _ _).alloc (Nat.le_refl _) _
  have HX:Hid (Blk (w.alloc (.cells (nodeV l[k]) 34)) w.heap.size 34 (nodeV l[k])):=Blk.new _ _ _
  unfold nodeV at HB1 HX HKT
  rw [← kindAt_get hk,hkk] at HB1 HX HKT
  obtain ⟨t,ht⟩ : ∃ t,t=l[k].t:=⟨_,rfl⟩
  obtain ⟨n,hn2⟩ : ∃ n,n=l[k].n:=⟨_,rfl⟩
  obtain ⟨z,hz⟩ : ∃ z,z=l[k].z:=⟨_,rfl⟩
  obtain ⟨kp,hkp⟩ : ∃ kp,kp=l[k].p:=⟨_,rfl⟩
  obtain ⟨kc,hkc⟩ : ∃ kc,kc=l[k].cap:=⟨_,rfl⟩
  obtain ⟨cn,hcn⟩ : ∃ cn,cn=l[k].c.length:=⟨_,rfl⟩
  obtain ⟨ka,hka⟩ : ∃ ka,ka=l[k].a:=⟨_,rfl⟩
  rw [← ht,← hn2,← hz,← hkp,← hkc,← hcn,← hka] at HB1 HX HKT
  rw [← ht] at c1 htx;rw [← hn2] at c2;rw [← hz] at c3;rw [← hkp,← hkc,← hcn] at c4;rw [← hka] at c5
  rw [← hcn] at hcn0
  have hcn1:2≤cn:=by omega
  obtain ⟨xs,hxs⟩ : ∃ xs,xs=ktF l fs k:=⟨_,rfl⟩
  rw [← hxs] at HKT HLEN hxl
  obtain ⟨xn,hxn⟩ : ∃ xn,xn=xs.length:=⟨_,rfl⟩
  have HXN:=Lib.hid hxn
  have hxs1:2≤xn:=by omega
  have hexp:exprF l ns fs k=(1,valB (xs.getD 0 0) && valB (xs.getD 1 0)):=by
    unfold exprF;dsimp only;rw [hkk,← hxs];rfl
  rw [hexp]
  obtain ⟨v0,hv0⟩ : ∃ v,v=xs.getD 0 0:=⟨_,rfl⟩
  have HQ0:=Lib.hid hv0
  rw [← hv0]
  obtain ⟨v1,hv1⟩ : ∃ v,v=xs.getD 1 0:=⟨_,rfl⟩
  have HQ1:=Lib.hid hv1
  rw [← hv1]
  obtain ⟨b0,hb0⟩ : ∃ b,b=valB v0:=⟨_,rfl⟩
  rw [← hb0]
  have HV0:Hid (∀ W,Calls Tryz.prog 151 #[.int .i64 v0] W fun e w'=>e=.returned (.bool b0)∧W=w'):=Lib.hid (fun W=>by rw [hb0];exact isValue_any _ _)
  obtain ⟨b1,hb1⟩ : ∃ b,b=valB v1:=⟨_,rfl⟩
  rw [← hb1]
  have HV1:Hid (∀ W,Calls Tryz.prog 151 #[.int .i64 v1] W fun e w'=>e=.returned (.bool b1)∧W=w'):=Lib.hid (fun W=>by rw [hb1];exact isValue_any _ _)
  obtain ⟨nn,hnn⟩ : ∃ nn,nn=l.length:=⟨_,rfl⟩
  rw [← hnn] at a0 hk hl
  have HX6:Hid (∀ V,Below _ _ V→V.cell? ⟨w.heap.size,0,none⟩=some (.int .i64 37)∧V.cell? ⟨w.heap.size,1,none⟩=some (.string t)∧V.cell? ⟨w.heap.size,2,none⟩=some (.int .i64 n)∧V.cell? ⟨w.heap.size,3,none⟩=some (.int .i64 z)∧V.cell? ⟨w.heap.size,4,none⟩=some (.slice kp cn kc)∧V.cell? ⟨w.heap.size,5,none⟩=some (.int .i64 ka)) :=
    Lib.hid (fun V hV=>by have hh:=fun i=>(HX.out.below hV HX.out.lt).cell i;exact ⟨(hh 0).trans rfl,(hh 1).trans rfl,(hh 2).trans rfl,(hh 3).trans rfl,(hh 4).trans rfl,(hh 5).trans rfl⟩)
  obtain ⟨Q,hQ⟩ : ∃ Q:Ending→World→Prop,Q=ExPost w (1,b0 && b1):=⟨_,rfl⟩
  rw [← hQ]
  have HQ:=Lib.hid hQ
  clear h hC hnm hkk hlow hN hxl htx hbw ht hn2 hz hkp hkc hcn hka hcn0 hxs hexp hnn hQ hxn hv0 hv1 hb0 hb1
  cases b0 <;> cases b1
  all_goals
    go_enter Tryz.func86,Tryz.ntmps86
    go_wp2_with (first | (go_at_call 146;refine (HKT.out _ HB1.out).mono ?_;rintro e w1 ⟨lb,rfl,hb1,hs1⟩;have HBa:=Lib.hid hb1;have HBb:=Lib.hid (HB1.out.trans (hb1.mono HB1.out.size));have HS1:=Lib.hid hs1;clear hb1 hs1) | (go_at_call 145;refine (collect_kidsN HXN.out HS1.out HLEN.out).mono ?_;rintro e w2 ⟨q,d,rfl,hk2,hb2⟩;have HW2:=Lib.hid (HBb.out.trans (hb2.mono HBb.out.size));have HV2:=Lib.hid (HBa.out.trans (hb2.mono HBa.out.size));have HK2:=Lib.hid hk2;obtain ⟨m0,m1,m2,m3,m4,m5⟩:=HX6.out _ HV2.out;clear hb2 hk2;obtain ⟨qb,qo,rfl,hqb,hqc⟩:=HK2.out (by have:=HXN.out;omega);have x0:w2.cell? ⟨qb,qo,none⟩=some (.int .i64 v0):=(by have:=hqc 0 (by have:=HXN.out;omega);rw [HQ0.out];simpa [show 0<xs.length by have:=HXN.out;omega] using this);have x1:w2.cell? ⟨qb,qo+1,none⟩=some (.int .i64 v1):=(by have:=hqc 1 (by have:=HXN.out;omega);rw [HQ1.out];simpa [show 1<xs.length by have:=HXN.out;omega] using this);clear hqc;have q0:(0:Int)<(xn:Int):=(by omega);have q1:(1:Int)<(xn:Int):=(by omega);have r0:0<xn:=(by omega);have r1:1<xn:=(by omega)) | (go_at_call 151;refine (HV0.out _).mono ?_;rintro e w3 ⟨rfl,rfl⟩) | (go_at_call 151;refine (HV1.out _).mono ?_;rintro e w3 ⟨rfl,rfl⟩))
    all_goals (try go_ret2)
    all_goals (rw [HQ.out];exact ⟨rfl,HW2.out⟩)
set_option maxHeartbeats 8000000 in
set_option maxRecDepth 100000 in
theorem expr_39 (h:Ck w l p cap C N P T ns fs) (hC:∀ j,j<l.length→codeAt l j=0) (hl:l.length≤600) (hnm:NmOk l ns) {k:Nat}(hk:k<l.length) (hkk:kindAt l k=39) :
    Calls Tryz.prog 86 #[.pointer (some ⟨C,0,none⟩),.int .i64 k] w (ExPost w (exprF l ns fs k)):=by
  have hlow:=kids_low hC hk
  rw [hkk] at hlow
  have hlow:2≤(kidsAt l k).length:=by simp [lowV] at hlow;omega
  have hcn0:l[k].c.length=(kidsAt l k).length:=by rw [kidsAt_get hk]
  have HKT:Hid (∀ V,Below w.heap.size w V→Calls Tryz.prog 146 #[.pointer (some ⟨C,0,none⟩),.agg (nodeV l[k])] V fun e w'=>∃ lb,e=.returned (.func (.func 197) #[] lb)∧Below V.heap.size V w'∧SeqI w' (.func (.func 197) #[] lb) (ktF l fs k)):=fun V hV=>kidTypes_seq (h.below hV) hC hl hk
  obtain ⟨y,kb,ko,hy,hyk,hkp0,hkb,hcell⟩:=kid0 h hC hk (i:=0) (by omega)
  have HCE:Hid (∀ wr,Below w.heap.size w wr→wr.cell? ⟨kb,ko,none⟩=some (.int .i64 (y:Int))):=hcell
  have HPL:Hid (∀ V,Below w.heap.size w V→Calls Tryz.prog 153 #[.pointer (some ⟨C,0,none⟩),.int .i64 y] V fun e w'=>e=.returned (.bool (placeB l ns y))∧Below V.heap.size V w'):=fun V hV=>isPlace_any (h.below hV) hl (by omega) (hnm.name (by omega))
  have hts:=set_size hC hk hkk
  have HLEN:=Lib.hid (kt_len (fs:=fs) hC hl hk)
  have hxl:(ktF l fs k).length=(kidsAt l k).length:=by unfold ktF;simp
  have htx:tx l k=l[k].t.data.toList:=tx_get hk
  obtain ⟨b,o,rfl,hbw,hN⟩:=h.node hk
  have a0:w.cell? ⟨C,0,none⟩=some (.slice (some ⟨b,o,none⟩) l.length cap):=by rw [h.chk.cell];rfl
  obtain ⟨c0,c1,c2,c3,c4,c5⟩:=hN w (Below.refl _ _) k hk
  rw [← kindAt_get hk,hkk] at c0
  have HB1:Hid (Below w.heap.size w (w.alloc (.cells (nodeV l[k]) 34))):=(Below.refl _ _).alloc (Nat.le_refl _) _
  have HX:Hid (Blk (w.alloc (.cells (nodeV l[k]) 34)) w.heap.size 34 (nodeV l[k])):=Blk.new _ _ _
  unfold nodeV at HB1 HX HKT
  rw [← kindAt_get hk,hkk] at HB1 HX HKT
  obtain ⟨t,ht⟩ : ∃ t,t=l[k].t:=⟨_,rfl⟩
  obtain ⟨n,hn2⟩ : ∃ n,n=l[k].n:=⟨_,rfl⟩
  obtain ⟨z,hz⟩ : ∃ z,z=l[k].z:=⟨_,rfl⟩
  obtain ⟨kp,hkp⟩ : ∃ kp,kp=l[k].p:=⟨_,rfl⟩
  obtain ⟨kc,hkc⟩ : ∃ kc,kc=l[k].cap:=⟨_,rfl⟩
  obtain ⟨cn,hcn⟩ : ∃ cn,cn=l[k].c.length:=⟨_,rfl⟩
  obtain ⟨ka,hka⟩ : ∃ ka,ka=l[k].a:=⟨_,rfl⟩
  rw [← ht,← hn2,← hz,← hkp,← hkc,← hcn,← hka] at HB1 HX HKT
  rw [← ht] at c1 htx;rw [← hn2] at c2;rw [← hz] at c3;rw [← hkp,← hkc,← hcn] at c4;rw [← hka] at c5
  obtain rfl:kp=some ⟨kb,ko,none⟩:=hkp.trans hkp0
  rw [← ht] at hts
  rw [← hcn] at hcn0
  have hcn1:2≤cn:=by omega
  obtain ⟨xs,hxs⟩ : ∃ xs,xs=ktF l fs k:=⟨_,rfl⟩
  rw [← hxs] at HKT HLEN hxl
  obtain ⟨xn,hxn⟩ : ∃ xn,xn=xs.length:=⟨_,rfl⟩
  have HXN:=Lib.hid hxn
  have hxs1:2≤xn:=by omega
  have hexp:exprF l ns fs k=setF t.data.toList (xs.getD 0 0) (xs.getD 1 0) (placeB l ns ((kidsAt l k).getD 0 0).toNat):=by
    unfold exprF;dsimp only;rw [hkk,← hxs,htx];rfl
  rw [hexp]
  rw [hy,Int.toNat_natCast]
  obtain ⟨pl,hpl⟩ : ∃ pl,pl=placeB l ns y:=⟨_,rfl⟩
  rw [← hpl] at HPL ⊢
  obtain ⟨v0,hv0⟩ : ∃ v,v=xs.getD 0 0:=⟨_,rfl⟩
  have HQ0:=Lib.hid hv0
  rw [← hv0]
  obtain ⟨v1,hv1⟩ : ∃ v,v=xs.getD 1 0:=⟨_,rfl⟩
  have HQ1:=Lib.hid hv1
  rw [← hv1]
  obtain ⟨nn,hnn⟩ : ∃ nn,nn=l.length:=⟨_,rfl⟩
  rw [← hnn] at a0 hk hl
  have HX6:Hid (∀ V,Below _ _ V→V.cell? ⟨w.heap.size,0,none⟩=some (.int .i64 39)∧V.cell? ⟨w.heap.size,1,none⟩=some (.string t)∧V.cell? ⟨w.heap.size,2,none⟩=some (.int .i64 n)∧V.cell? ⟨w.heap.size,3,none⟩=some (.int .i64 z)∧V.cell? ⟨w.heap.size,4,none⟩=some (.slice (some ⟨kb,ko,none⟩) cn kc)∧V.cell? ⟨w.heap.size,5,none⟩=some (.int .i64 ka)) :=
    Lib.hid (fun V hV=>by have hh:=fun i=>(HX.out.below hV HX.out.lt).cell i;exact ⟨(hh 0).trans rfl,(hh 1).trans rfl,(hh 2).trans rfl,(hh 3).trans rfl,(hh 4).trans rfl,(hh 5).trans rfl⟩)
  obtain ⟨Q,hQ⟩ : ∃ Q:Ending→World→Prop,Q=ExPost w (setF t.data.toList v0 v1 pl):=⟨_,rfl⟩
  rw [← hQ]
  have HQ:=Lib.hid hQ
  clear h hC hnm hkk hlow hN hxl htx hbw ht hn2 hz hkp hkc hcn hka hcn0 hxs hexp hnn hQ hxn hv0 hv1 hy hyk hkp0 hcell hpl
  go_enter Tryz.func86,Tryz.ntmps86
  go_wp2_with (first | (go_at_call 146;refine (HKT.out _ HB1.out).mono ?_;rintro e w1 ⟨lb,rfl,hb1,hs1⟩;have HBa:=Lib.hid hb1;have HBb:=Lib.hid (HB1.out.trans (hb1.mono HB1.out.size));have HS1:=Lib.hid hs1;clear hb1 hs1) | (go_at_call 145;refine (collect_kidsN HXN.out HS1.out HLEN.out).mono ?_;rintro e w2 ⟨q,d,rfl,hk2,hb2⟩;have HW2:=Lib.hid (HBb.out.trans (hb2.mono HBb.out.size));have HV2:=Lib.hid (HBa.out.trans (hb2.mono HBa.out.size));have HK2:=Lib.hid hk2;obtain ⟨m0,m1,m2,m3,m4,m5⟩:=HX6.out _ HV2.out;clear hb2 hk2))
  obtain ⟨qb,qo,rfl,hqb,hqc⟩:=HK2.out (by have:=HXN.out;omega)
  have x0:w2.cell? ⟨qb,qo,none⟩=some (.int .i64 v0):=(by have:=hqc 0 (by have:=HXN.out;omega);rw [HQ0.out];simpa [show 0<xs.length by have:=HXN.out;omega] using this)
  have x1:w2.cell? ⟨qb,qo+1,none⟩=some (.int .i64 v1):=(by have:=hqc 1 (by have:=HXN.out;omega);rw [HQ1.out];simpa [show 1<xs.length by have:=HXN.out;omega] using this)
  clear hqc
  have q0:(0:Int)<(xn:Int):=(by omega)
  have q1:(1:Int)<(xn:Int):=(by omega)
  have r0:0<xn:=(by omega)
  have r1:1<xn:=(by omega)
  have hws:w.heap.size<w2.heap.size:=by have:=HV2.out.size;simp at this;omega
  have S0:Hid (∀ V,Below w2.heap.size w2 V→V.cell? ⟨qb,qo,none⟩=some (.int .i64 v0)∧V.cell? ⟨qb,qo+1,none⟩=some (.int .i64 v1)∧V.cell? ⟨w.heap.size,1,none⟩=some (.string t)∧V.cell? ⟨w.heap.size,4,none⟩=some (.slice (some ⟨kb,ko,none⟩) cn kc)∧V.cell? ⟨kb,ko,none⟩=some (.int .i64 (y:Int))):=Lib.hid (fun V hV=>⟨(hV.cell (p:=⟨qb,qo,none⟩) hqb).trans x0,(hV.cell (p:=⟨qb,qo+1,none⟩) hqb).trans x1,(hV.cell (p:=⟨w.heap.size,1,none⟩) hws).trans m1,(hV.cell (p:=⟨w.heap.size,4,none⟩) hws).trans m4,HCE.out _ (HW2.out.trans (hV.mono HW2.out.size))⟩)
  have HE0:Hid (Below w2.heap.size w2 w2.drew):=(Below.refl _ _).drew
  clear x0 x1 m0 m1 m2 m3 m4 m5 HX6 HX hqb HQ0 HQ1 HCE
  have k0:(0:Int)<(cn:Int):=by omega
  have k1:0<cn:=by omega
  go_region_held3 (fun V=>V.cell? ⟨qb,qo,none⟩=some (.int .i64 v0)∧V.cell? ⟨qb,qo+1,none⟩=some (.int .i64 v1)∧V.cell? ⟨w.heap.size,1,none⟩=some (.string t)∧V.cell? ⟨w.heap.size,4,none⟩=some (.slice (some ⟨kb,ko,none⟩) cn kc)∧V.cell? ⟨kb,ko,none⟩=some (.int .i64 (y:Int)))
    (first | with_reducible exact S0.out _ HE0.out | with_reducible exact S0.out _ HE1.out)
    (first | (go_at_call 153;refine (HPL.out _ (HW2.out.trans (HE0.out.mono HW2.out.size))).mono ?_;rintro e w3 ⟨rfl,hb3⟩;have HE1:=Lib.hid (HE0.out.trans (hb3.mono HE0.out.size));clear hb3) | (go_at_call 152;refine (set_any _ _ _ _ _ hts).mono ?_;rintro e w4 ⟨rfl,rfl⟩))
  all_goals go_wp2
  all_goals (try go_ret2)
  all_goals (rw [HQ.out];exact ⟨rfl,HW2.out.trans (HE1.out.mono HW2.out.size)⟩)
set_option maxHeartbeats 8000000 in
set_option maxRecDepth 100000 in
theorem expr_40 (h:Ck w l p cap C N P T ns fs) (hC:∀ j,j<l.length→codeAt l j=0) (hl:l.length≤600) (hnm:NmOk l ns) {k:Nat}(hk:k<l.length) (hkk:kindAt l k=40) :
    Calls Tryz.prog 86 #[.pointer (some ⟨C,0,none⟩),.int .i64 k] w (ExPost w (exprF l ns fs k)):=by
  have hlow:=kids_low hC hk
  rw [hkk] at hlow
  have hlow:1≤(kidsAt l k).length:=by simp [lowV] at hlow;omega
  have hcn0:l[k].c.length=(kidsAt l k).length:=by rw [kidsAt_get hk]
  have HKT:Hid (∀ V,Below w.heap.size w V→Calls Tryz.prog 146 #[.pointer (some ⟨C,0,none⟩),.agg (nodeV l[k])] V fun e w'=>∃ lb,e=.returned (.func (.func 197) #[] lb)∧Below V.heap.size V w'∧SeqI w' (.func (.func 197) #[] lb) (ktF l fs k)):=fun V hV=>kidTypes_seq (h.below hV) hC hl hk
  obtain ⟨y,kb,ko,hy,hyk,hkp0,hkb,hcell⟩:=kid0 h hC hk (i:=0) (by omega)
  have HCE:Hid (∀ wr,Below w.heap.size w wr→wr.cell? ⟨kb,ko,none⟩=some (.int .i64 (y:Int))):=hcell
  have HPL:Hid (∀ V,Below w.heap.size w V→Calls Tryz.prog 153 #[.pointer (some ⟨C,0,none⟩),.int .i64 y] V fun e w'=>e=.returned (.bool (placeB l ns y))∧Below V.heap.size V w'):=fun V hV=>isPlace_any (h.below hV) hl (by omega) (hnm.name (by omega))
  have HLEN:=Lib.hid (kt_len (fs:=fs) hC hl hk)
  have hxl:(ktF l fs k).length=(kidsAt l k).length:=by unfold ktF;simp
  have htx:tx l k=l[k].t.data.toList:=tx_get hk
  obtain ⟨b,o,rfl,hbw,hN⟩:=h.node hk
  have a0:w.cell? ⟨C,0,none⟩=some (.slice (some ⟨b,o,none⟩) l.length cap):=by rw [h.chk.cell];rfl
  obtain ⟨c0,c1,c2,c3,c4,c5⟩:=hN w (Below.refl _ _) k hk
  rw [← kindAt_get hk,hkk] at c0
  have HB1:Hid (Below w.heap.size w (w.alloc (.cells (nodeV l[k]) 34))):=(Below.refl _ _).alloc (Nat.le_refl _) _
  have HX:Hid (Blk (w.alloc (.cells (nodeV l[k]) 34)) w.heap.size 34 (nodeV l[k])):=Blk.new _ _ _
  unfold nodeV at HB1 HX HKT
  rw [← kindAt_get hk,hkk] at HB1 HX HKT
  obtain ⟨t,ht⟩ : ∃ t,t=l[k].t:=⟨_,rfl⟩
  obtain ⟨n,hn2⟩ : ∃ n,n=l[k].n:=⟨_,rfl⟩
  obtain ⟨z,hz⟩ : ∃ z,z=l[k].z:=⟨_,rfl⟩
  obtain ⟨kp,hkp⟩ : ∃ kp,kp=l[k].p:=⟨_,rfl⟩
  obtain ⟨kc,hkc⟩ : ∃ kc,kc=l[k].cap:=⟨_,rfl⟩
  obtain ⟨cn,hcn⟩ : ∃ cn,cn=l[k].c.length:=⟨_,rfl⟩
  obtain ⟨ka,hka⟩ : ∃ ka,ka=l[k].a:=⟨_,rfl⟩
  rw [← ht,← hn2,← hz,← hkp,← hkc,← hcn,← hka] at HB1 HX HKT
  rw [← ht] at c1 htx;rw [← hn2] at c2;rw [← hz] at c3;rw [← hkp,← hkc,← hcn] at c4;rw [← hka] at c5
  obtain rfl:kp=some ⟨kb,ko,none⟩:=hkp.trans hkp0
  rw [← hcn] at hcn0
  have hcn1:1≤cn:=by omega
  obtain ⟨xs,hxs⟩ : ∃ xs,xs=ktF l fs k:=⟨_,rfl⟩
  rw [← hxs] at HKT HLEN hxl
  obtain ⟨xn,hxn⟩ : ∃ xn,xn=xs.length:=⟨_,rfl⟩
  have HXN:=Lib.hid hxn
  have hxs1:1≤xn:=by omega
  have hexp:exprF l ns fs k=(xs.getD 0 0,placeB l ns ((kidsAt l k).getD 0 0).toNat):=by
    unfold exprF;dsimp only;rw [hkk,← hxs];rfl
  rw [hexp]
  rw [hy,Int.toNat_natCast]
  obtain ⟨pl,hpl⟩ : ∃ pl,pl=placeB l ns y:=⟨_,rfl⟩
  rw [← hpl] at HPL ⊢
  obtain ⟨v0,hv0⟩ : ∃ v,v=xs.getD 0 0:=⟨_,rfl⟩
  have HQ0:=Lib.hid hv0
  rw [← hv0]
  obtain ⟨nn,hnn⟩ : ∃ nn,nn=l.length:=⟨_,rfl⟩
  rw [← hnn] at a0 hk hl
  have HX6:Hid (∀ V,Below _ _ V→V.cell? ⟨w.heap.size,0,none⟩=some (.int .i64 40)∧V.cell? ⟨w.heap.size,1,none⟩=some (.string t)∧V.cell? ⟨w.heap.size,2,none⟩=some (.int .i64 n)∧V.cell? ⟨w.heap.size,3,none⟩=some (.int .i64 z)∧V.cell? ⟨w.heap.size,4,none⟩=some (.slice (some ⟨kb,ko,none⟩) cn kc)∧V.cell? ⟨w.heap.size,5,none⟩=some (.int .i64 ka)) :=
    Lib.hid (fun V hV=>by have hh:=fun i=>(HX.out.below hV HX.out.lt).cell i;exact ⟨(hh 0).trans rfl,(hh 1).trans rfl,(hh 2).trans rfl,(hh 3).trans rfl,(hh 4).trans rfl,(hh 5).trans rfl⟩)
  obtain ⟨Q,hQ⟩ : ∃ Q:Ending→World→Prop,Q=ExPost w (v0,pl):=⟨_,rfl⟩
  rw [← hQ]
  have HQ:=Lib.hid hQ
  clear h hC hnm hkk hlow hN hxl htx hbw ht hn2 hz hkp hkc hcn hka hcn0 hxs hexp hnn hQ hxn hv0 hy hyk hkp0 hcell hpl
  go_enter Tryz.func86,Tryz.ntmps86
  go_wp2_with (first | (go_at_call 146;refine (HKT.out _ HB1.out).mono ?_;rintro e w1 ⟨lb,rfl,hb1,hs1⟩;have HBa:=Lib.hid hb1;have HBb:=Lib.hid (HB1.out.trans (hb1.mono HB1.out.size));have HS1:=Lib.hid hs1;clear hb1 hs1) | (go_at_call 145;refine (collect_kidsN HXN.out HS1.out HLEN.out).mono ?_;rintro e w2 ⟨q,d,rfl,hk2,hb2⟩;have HW2:=Lib.hid (HBb.out.trans (hb2.mono HBb.out.size));have HV2:=Lib.hid (HBa.out.trans (hb2.mono HBa.out.size));have HK2:=Lib.hid hk2;obtain ⟨m0,m1,m2,m3,m4,m5⟩:=HX6.out _ HV2.out;clear hb2 hk2))
  obtain ⟨qb,qo,rfl,hqb,hqc⟩:=HK2.out (by have:=HXN.out;omega)
  have x0:w2.cell? ⟨qb,qo,none⟩=some (.int .i64 v0):=(by have:=hqc 0 (by have:=HXN.out;omega);rw [HQ0.out];simpa [show 0<xs.length by have:=HXN.out;omega] using this)
  clear hqc
  have q0:(0:Int)<(xn:Int):=(by omega)
  have r0:0<xn:=(by omega)
  have hws:w.heap.size<w2.heap.size:=by have:=HV2.out.size;simp at this;omega
  have S0:Hid (∀ V,Below w2.heap.size w2 V→V.cell? ⟨qb,qo,none⟩=some (.int .i64 v0)∧V.cell? ⟨w.heap.size,4,none⟩=some (.slice (some ⟨kb,ko,none⟩) cn kc)∧V.cell? ⟨kb,ko,none⟩=some (.int .i64 (y:Int))):=Lib.hid (fun V hV=>⟨(hV.cell (p:=⟨qb,qo,none⟩) hqb).trans x0,(hV.cell (p:=⟨w.heap.size,4,none⟩) hws).trans m4,HCE.out _ (HW2.out.trans (hV.mono HW2.out.size))⟩)
  have HE0:Hid (Below w2.heap.size w2 w2.drew):=(Below.refl _ _).drew
  clear x0 m0 m1 m2 m3 m4 m5 HX6 HX hqb HQ0 HCE
  have k0:(0:Int)<(cn:Int):=by omega
  have k1:0<cn:=by omega
  go_region_held3 (fun V=>V.cell? ⟨qb,qo,none⟩=some (.int .i64 v0)∧V.cell? ⟨w.heap.size,4,none⟩=some (.slice (some ⟨kb,ko,none⟩) cn kc)∧V.cell? ⟨kb,ko,none⟩=some (.int .i64 (y:Int)))
    (first | with_reducible exact S0.out _ HE0.out | with_reducible exact S0.out _ HE1.out)
    (first | (go_at_call 153;refine (HPL.out _ (HW2.out.trans (HE0.out.mono HW2.out.size))).mono ?_;rintro e w3 ⟨rfl,hb3⟩;have HE1:=Lib.hid (HE0.out.trans (hb3.mono HE0.out.size));clear hb3))
  all_goals go_wp2
  all_goals (try go_ret2)
  all_goals (rw [HQ.out];exact ⟨rfl,HW2.out.trans (HE1.out.mono HW2.out.size)⟩)
end
end Ty
end
end Go.Proofs.YtdjpopebeenlmaaGreatDoor
