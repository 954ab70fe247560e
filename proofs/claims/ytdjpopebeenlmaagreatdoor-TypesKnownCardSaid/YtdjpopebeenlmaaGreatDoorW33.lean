/-
  Joined texts of this claim: Yv, Yzb, Yy.
-/
import Derived.Test.YtdjpopebeenlmaaGreatDoorW00
import Derived.Test.YtdjpopebeenlmaaGreatDoorW32
import Derived.Test.YtdjpopebeenlmaaGreatDoorW31
set_option maxHeartbeats 40000000
set_option maxRecDepth 100000
set_option linter.unusedVariables false
set_option linter.unusedSimpArgs false
namespace Go.Proofs.YtdjpopebeenlmaaGreatDoor
section
namespace Ty
open Go.RowKit
open Tr Sc

section
variable {w:World}{l:List Nd}{p:Option Addr}{cap C N P T:Nat}{ns fs:List Int}
set_option maxHeartbeats 8000000 in
set_option maxRecDepth 100000 in
theorem action_2 (h:Ck w l p cap C N P T ns fs) (hC:∀ j,j<l.length→codeAt l j=0) (hp:∀ y,y<l.length→(parF l).getD y (-1) = -1∨∃ z:Nat,(parF l).getD y (-1)=(z:Int)∧y<z∧z<l.length) (hl:l.length≤600) {k:Nat}(hk:k<l.length) (hkk:kindAt l k=2) :
    Calls Tryz.prog 85 #[.pointer (some ⟨C,0,none⟩),.int .i64 k] w fun e w'=>e=.returned (.int .i64 (actF l fs k))∧Below w.heap.size w w':=by
  have hlow:=kids_low hC hk
  rw [hkk] at hlow
  have hlow:0≤(kidsAt l k).length:=by simp [lowV] at hlow;omega
  have hcn0:l[k].c.length=(kidsAt l k).length:=by rw [kidsAt_get hk]
  have HIN:Hid (∀ V,Below w.heap.size w V→Calls Tryz.prog 141 #[.pointer (some ⟨C,0,none⟩),.agg (nodeV l[k])] V fun e w'=>e=.returned (.bool (initB l fs k))∧Below V.heap.size V w'):=fun V hV=>initials_any (h.below hV) hC hl hk
  have hact:actF l fs k=okC (initB l fs k):=by
    unfold actF;dsimp only;rw [hkk];rfl
  rw [hact]
  obtain ⟨r,hr⟩ : ∃ r,r=initB l fs k:=⟨_,rfl⟩
  rw [← hr]
  rw [← hr] at HIN
  obtain ⟨b,o,rfl,hbw,hN⟩:=h.node hk
  have a0:w.cell? ⟨C,0,none⟩=some (.slice (some ⟨b,o,none⟩) l.length cap):=by rw [h.chk.cell];rfl
  have a3:w.cell? ⟨C,3,none⟩=some (.slice (some ⟨T,0,none⟩) l.length l.length):=by rw [h.chk.cell];rfl
  obtain ⟨c0,c1,c2,c3,c4,c5⟩:=hN w (Below.refl _ _) k hk
  rw [← kindAt_get hk,hkk] at c0
  have HB1:Hid (Below w.heap.size w (w.alloc (.cells (nodeV l[k]) 34))):=(Below.refl _ _).alloc (Nat.le_refl _) _
  unfold nodeV at HB1 HIN
  rw [← kindAt_get hk,hkk] at HB1 HIN
  obtain ⟨t,ht⟩ : ∃ t,t=l[k].t:=⟨_,rfl⟩
  obtain ⟨n,hn2⟩ : ∃ n,n=l[k].n:=⟨_,rfl⟩
  obtain ⟨z,hz⟩ : ∃ z,z=l[k].z:=⟨_,rfl⟩
  obtain ⟨kc,hkc⟩ : ∃ kc,kc=l[k].cap:=⟨_,rfl⟩
  obtain ⟨cn,hcn⟩ : ∃ cn,cn=l[k].c.length:=⟨_,rfl⟩
  obtain ⟨ka,hka⟩ : ∃ ka,ka=l[k].a:=⟨_,rfl⟩
  obtain ⟨kp,hkp⟩ : ∃ kp,kp=l[k].p:=⟨_,rfl⟩
  rw [← hkp] at HB1 HIN
  rw [← hkp] at c4
  clear hkp
  rw [← ht,← hn2,← hz,← hkc,← hcn,← hka] at HB1 HIN
  rw [← ht] at c1;rw [← hn2] at c2;rw [← hz] at c3;rw [← hkc,← hcn] at c4;rw [← hka] at c5
  rw [← hcn] at hcn0
  have hcn1:0≤cn:=by omega
  obtain ⟨nn,hnn⟩ : ∃ nn,nn=l.length:=⟨_,rfl⟩
  rw [← hnn] at a0 a3 hk hl
  clear h hC hp hkk hlow hN hbw ht hn2 hz hkc hcn hka hcn0 hact hnn hr
  cases r
  all_goals
    go_enter Tryz.func85,Tryz.ntmps85
    go_wp2_with (go_at_call 141;refine (HIN.out _ HB1.out).mono ?_;rintro e w2 ⟨rfl,hb⟩;have HB2:=Lib.hid (HB1.out.trans (hb.mono HB1.out.size));clear hb)
    all_goals (try go_ret)
    all_goals exact ⟨rfl,HB2.out⟩
set_option maxHeartbeats 8000000 in
set_option maxRecDepth 100000 in
theorem action_12 (h:Ck w l p cap C N P T ns fs) (hC:∀ j,j<l.length→codeAt l j=0) (hp:∀ y,y<l.length→(parF l).getD y (-1) = -1∨∃ z:Nat,(parF l).getD y (-1)=(z:Int)∧y<z∧z<l.length) (hl:l.length≤600) {k:Nat}(hk:k<l.length) (hkk:kindAt l k=12) :
    Calls Tryz.prog 85 #[.pointer (some ⟨C,0,none⟩),.int .i64 k] w fun e w'=>e=.returned (.int .i64 (actF l fs k))∧Below w.heap.size w w':=by
  have hlow:=kids_low hC hk
  rw [hkk] at hlow
  have hlow:0≤(kidsAt l k).length:=by simp [lowV] at hlow;omega
  have hcn0:l[k].c.length=(kidsAt l k).length:=by rw [kidsAt_get hk]
  have HIN:Hid (∀ V,Below w.heap.size w V→Calls Tryz.prog 141 #[.pointer (some ⟨C,0,none⟩),.agg (nodeV l[k])] V fun e w'=>e=.returned (.bool (initB l fs k))∧Below V.heap.size V w'):=fun V hV=>initials_any (h.below hV) hC hl hk
  have hact:actF l fs k=okC (initB l fs k):=by
    unfold actF;dsimp only;rw [hkk];rfl
  rw [hact]
  obtain ⟨r,hr⟩ : ∃ r,r=initB l fs k:=⟨_,rfl⟩
  rw [← hr]
  rw [← hr] at HIN
  obtain ⟨b,o,rfl,hbw,hN⟩:=h.node hk
  have a0:w.cell? ⟨C,0,none⟩=some (.slice (some ⟨b,o,none⟩) l.length cap):=by rw [h.chk.cell];rfl
  have a3:w.cell? ⟨C,3,none⟩=some (.slice (some ⟨T,0,none⟩) l.length l.length):=by rw [h.chk.cell];rfl
  obtain ⟨c0,c1,c2,c3,c4,c5⟩:=hN w (Below.refl _ _) k hk
  rw [← kindAt_get hk,hkk] at c0
  have HB1:Hid (Below w.heap.size w (w.alloc (.cells (nodeV l[k]) 34))):=(Below.refl _ _).alloc (Nat.le_refl _) _
  unfold nodeV at HB1 HIN
  rw [← kindAt_get hk,hkk] at HB1 HIN
  obtain ⟨t,ht⟩ : ∃ t,t=l[k].t:=⟨_,rfl⟩
  obtain ⟨n,hn2⟩ : ∃ n,n=l[k].n:=⟨_,rfl⟩
  obtain ⟨z,hz⟩ : ∃ z,z=l[k].z:=⟨_,rfl⟩
  obtain ⟨kc,hkc⟩ : ∃ kc,kc=l[k].cap:=⟨_,rfl⟩
  obtain ⟨cn,hcn⟩ : ∃ cn,cn=l[k].c.length:=⟨_,rfl⟩
  obtain ⟨ka,hka⟩ : ∃ ka,ka=l[k].a:=⟨_,rfl⟩
  obtain ⟨kp,hkp⟩ : ∃ kp,kp=l[k].p:=⟨_,rfl⟩
  rw [← hkp] at HB1 HIN
  rw [← hkp] at c4
  clear hkp
  rw [← ht,← hn2,← hz,← hkc,← hcn,← hka] at HB1 HIN
  rw [← ht] at c1;rw [← hn2] at c2;rw [← hz] at c3;rw [← hkc,← hcn] at c4;rw [← hka] at c5
  rw [← hcn] at hcn0
  have hcn1:0≤cn:=by omega
  obtain ⟨nn,hnn⟩ : ∃ nn,nn=l.length:=⟨_,rfl⟩
  rw [← hnn] at a0 a3 hk hl
  clear h hC hp hkk hlow hN hbw ht hn2 hz hkc hcn hka hcn0 hact hnn hr
  cases r
  all_goals
    go_enter Tryz.func85,Tryz.ntmps85
    go_wp2_with (go_at_call 141;refine (HIN.out _ HB1.out).mono ?_;rintro e w2 ⟨rfl,hb⟩;have HB2:=Lib.hid (HB1.out.trans (hb.mono HB1.out.size));clear hb)
    all_goals (try go_ret)
    all_goals exact ⟨rfl,HB2.out⟩
set_option maxHeartbeats 8000000 in
set_option maxRecDepth 100000 in
theorem action_14 (h:Ck w l p cap C N P T ns fs) (hC:∀ j,j<l.length→codeAt l j=0) (hp:∀ y,y<l.length→(parF l).getD y (-1) = -1∨∃ z:Nat,(parF l).getD y (-1)=(z:Int)∧y<z∧z<l.length) (hl:l.length≤600) {k:Nat}(hk:k<l.length) (hkk:kindAt l k=14) :
    Calls Tryz.prog 85 #[.pointer (some ⟨C,0,none⟩),.int .i64 k] w fun e w'=>e=.returned (.int .i64 (actF l fs k))∧Below w.heap.size w w':=by
  have hlow:=kids_low hC hk
  rw [hkk] at hlow
  have hlow:2≤(kidsAt l k).length:=by simp [lowV] at hlow;omega
  have hcn0:l[k].c.length=(kidsAt l k).length:=by rw [kidsAt_get hk]
  obtain ⟨y,kb,ko,hy,hyk,hkp,hkb,hcell⟩:=kid0 h hC hk (i:=0) (by omega)
  have hkc0:w.cell? ⟨kb,ko,none⟩=some (.int .i64 (y:Int)):=hcell w (Below.refl _ _)
  have hyl:y<l.length:=by omega
  have hky:(ktF l fs k).getD 0 0=iAt fs (y:Int):=by rw [kt_get (by omega)];congr 1;have:=hy;simpa [show 0<(kidsAt l k).length by omega] using this
  have HCD:Hid (∀ V,Below w.heap.size w V→Calls Tryz.prog 142 #[.pointer (some ⟨C,0,none⟩),.int .i64 y] V fun e w'=>e=.returned (.bool (decide (kindAt l y=24) || valB (iAt fs (y:Int))))∧V=w'):=fun V hV=>isCondition_any (h.below hV) hl hyl
  have hact:actF l fs k=okC (decide (kindAt l y=24) || valB (iAt fs (y:Int))):=by
    unfold actF;dsimp only;rw [hkk];show okC (condB l fs k 0)=_;unfold condB;rw [hy,hky,Int.toNat_natCast]
  rw [hact]
  obtain ⟨r,hr⟩ : ∃ r,r=(decide (kindAt l y=24) || valB (iAt fs (y:Int))):=⟨_,rfl⟩
  rw [← hr]
  rw [← hr] at HCD
  obtain ⟨b,o,rfl,hbw,hN⟩:=h.node hk
  have a0:w.cell? ⟨C,0,none⟩=some (.slice (some ⟨b,o,none⟩) l.length cap):=by rw [h.chk.cell];rfl
  have a3:w.cell? ⟨C,3,none⟩=some (.slice (some ⟨T,0,none⟩) l.length l.length):=by rw [h.chk.cell];rfl
  obtain ⟨c0,c1,c2,c3,c4,c5⟩:=hN w (Below.refl _ _) k hk
  rw [← kindAt_get hk,hkk] at c0
  have HB1:Hid (Below w.heap.size w (w.alloc (.cells (nodeV l[k]) 34))):=(Below.refl _ _).alloc (Nat.le_refl _) _
  unfold nodeV at HB1
  rw [← kindAt_get hk,hkk] at HB1
  obtain ⟨t,ht⟩ : ∃ t,t=l[k].t:=⟨_,rfl⟩
  obtain ⟨n,hn2⟩ : ∃ n,n=l[k].n:=⟨_,rfl⟩
  obtain ⟨z,hz⟩ : ∃ z,z=l[k].z:=⟨_,rfl⟩
  obtain ⟨kc,hkc⟩ : ∃ kc,kc=l[k].cap:=⟨_,rfl⟩
  obtain ⟨cn,hcn⟩ : ∃ cn,cn=l[k].c.length:=⟨_,rfl⟩
  obtain ⟨ka,hka⟩ : ∃ ka,ka=l[k].a:=⟨_,rfl⟩
  rw [hkp] at HB1 c4
  rw [← ht,← hn2,← hz,← hkc,← hcn,← hka] at HB1
  rw [← ht] at c1;rw [← hn2] at c2;rw [← hz] at c3;rw [← hkc,← hcn] at c4;rw [← hka] at c5
  rw [← hcn] at hcn0
  have hcn1:2≤cn:=by omega
  obtain ⟨nn,hnn⟩ : ∃ nn,nn=l.length:=⟨_,rfl⟩
  rw [← hnn] at a0 a3 hk hl
  clear h hC hp hkk hlow hN hbw ht hn2 hz hkc hcn hka hcn0 hact hnn hr hy hyk hkp hcell hky
  have q0:(0:Int)<(cn:Int):=by omega
  have q1:0<cn:=by omega
  cases r
  all_goals
    go_enter Tryz.func85,Tryz.ntmps85
    go_wp2_with (go_at_call 142;refine (HCD.out _ HB1.out).mono ?_;rintro e w2 ⟨rfl,rfl⟩)
    all_goals (try go_ret)
    all_goals exact ⟨rfl,HB1.out⟩
set_option maxHeartbeats 8000000 in
set_option maxRecDepth 100000 in
theorem action_15 (h:Ck w l p cap C N P T ns fs) (hC:∀ j,j<l.length→codeAt l j=0) (hp:∀ y,y<l.length→(parF l).getD y (-1) = -1∨∃ z:Nat,(parF l).getD y (-1)=(z:Int)∧y<z∧z<l.length) (hl:l.length≤600) {k:Nat}(hk:k<l.length) (hkk:kindAt l k=15) :
    Calls Tryz.prog 85 #[.pointer (some ⟨C,0,none⟩),.int .i64 k] w fun e w'=>e=.returned (.int .i64 (actF l fs k))∧Below w.heap.size w w':=by
  have hlow:=kids_low hC hk
  rw [hkk] at hlow
  have hlow:2≤(kidsAt l k).length:=by simp [lowV] at hlow;omega
  have hcn0:l[k].c.length=(kidsAt l k).length:=by rw [kidsAt_get hk]
  obtain ⟨y,kb,ko,hy,hyk,hkp,hkb,hcell⟩:=kid0 h hC hk (i:=0) (by omega)
  have hkc0:w.cell? ⟨kb,ko,none⟩=some (.int .i64 (y:Int)):=hcell w (Below.refl _ _)
  have hyl:y<l.length:=by omega
  have hky:(ktF l fs k).getD 0 0=iAt fs (y:Int):=by rw [kt_get (by omega)];congr 1;have:=hy;simpa [show 0<(kidsAt l k).length by omega] using this
  have HCD:Hid (∀ V,Below w.heap.size w V→Calls Tryz.prog 142 #[.pointer (some ⟨C,0,none⟩),.int .i64 y] V fun e w'=>e=.returned (.bool (decide (kindAt l y=24) || valB (iAt fs (y:Int))))∧V=w'):=fun V hV=>isCondition_any (h.below hV) hl hyl
  have hact:actF l fs k=okC (decide (kindAt l y=24) || valB (iAt fs (y:Int))):=by
    unfold actF;dsimp only;rw [hkk];show okC (condB l fs k 0)=_;unfold condB;rw [hy,hky,Int.toNat_natCast]
  rw [hact]
  obtain ⟨r,hr⟩ : ∃ r,r=(decide (kindAt l y=24) || valB (iAt fs (y:Int))):=⟨_,rfl⟩
  rw [← hr]
  rw [← hr] at HCD
  obtain ⟨b,o,rfl,hbw,hN⟩:=h.node hk
  have a0:w.cell? ⟨C,0,none⟩=some (.slice (some ⟨b,o,none⟩) l.length cap):=by rw [h.chk.cell];rfl
  have a3:w.cell? ⟨C,3,none⟩=some (.slice (some ⟨T,0,none⟩) l.length l.length):=by rw [h.chk.cell];rfl
  obtain ⟨c0,c1,c2,c3,c4,c5⟩:=hN w (Below.refl _ _) k hk
  rw [← kindAt_get hk,hkk] at c0
  have HB1:Hid (Below w.heap.size w (w.alloc (.cells (nodeV l[k]) 34))):=(Below.refl _ _).alloc (Nat.le_refl _) _
  unfold nodeV at HB1
  rw [← kindAt_get hk,hkk] at HB1
  obtain ⟨t,ht⟩ : ∃ t,t=l[k].t:=⟨_,rfl⟩
  obtain ⟨n,hn2⟩ : ∃ n,n=l[k].n:=⟨_,rfl⟩
  obtain ⟨z,hz⟩ : ∃ z,z=l[k].z:=⟨_,rfl⟩
  obtain ⟨kc,hkc⟩ : ∃ kc,kc=l[k].cap:=⟨_,rfl⟩
  obtain ⟨cn,hcn⟩ : ∃ cn,cn=l[k].c.length:=⟨_,rfl⟩
  obtain ⟨ka,hka⟩ : ∃ ka,ka=l[k].a:=⟨_,rfl⟩
  rw [hkp] at HB1 c4
  rw [← ht,← hn2,← hz,← hkc,← hcn,← hka] at HB1
  rw [← ht] at c1;rw [← hn2] at c2;rw [← hz] at c3;rw [← hkc,← hcn] at c4;rw [← hka] at c5
  rw [← hcn] at hcn0
  have hcn1:2≤cn:=by omega
  obtain ⟨nn,hnn⟩ : ∃ nn,nn=l.length:=⟨_,rfl⟩
  rw [← hnn] at a0 a3 hk hl
  clear h hC hp hkk hlow hN hbw ht hn2 hz hkc hcn hka hcn0 hact hnn hr hy hyk hkp hcell hky
  have q0:(0:Int)<(cn:Int):=by omega
  have q1:0<cn:=by omega
  cases r
  all_goals
    go_enter Tryz.func85,Tryz.ntmps85
    go_wp2_with (go_at_call 142;refine (HCD.out _ HB1.out).mono ?_;rintro e w2 ⟨rfl,rfl⟩)
    all_goals (try go_ret)
    all_goals exact ⟨rfl,HB1.out⟩
set_option maxHeartbeats 8000000 in
set_option maxRecDepth 100000 in
theorem action_16 (h:Ck w l p cap C N P T ns fs) (hC:∀ j,j<l.length→codeAt l j=0) (hp:∀ y,y<l.length→(parF l).getD y (-1) = -1∨∃ z:Nat,(parF l).getD y (-1)=(z:Int)∧y<z∧z<l.length) (hl:l.length≤600) {k:Nat}(hk:k<l.length) (hkk:kindAt l k=16) :
    Calls Tryz.prog 85 #[.pointer (some ⟨C,0,none⟩),.int .i64 k] w fun e w'=>e=.returned (.int .i64 (actF l fs k))∧Below w.heap.size w w':=by
  have hlow:=kids_low hC hk
  rw [hkk] at hlow
  have hlow:2≤(kidsAt l k).length:=by simp [lowV] at hlow;omega
  have hcn0:l[k].c.length=(kidsAt l k).length:=by rw [kidsAt_get hk]
  obtain ⟨y,kb,ko,hy,hyk,hkp,hkb,hcell⟩:=kid0 h hC hk (i:=1) (by omega)
  have hkc0:w.cell? ⟨kb,ko+1,none⟩=some (.int .i64 (y:Int)):=hcell w (Below.refl _ _)
  have hyl:y<l.length:=by omega
  have hky:(ktF l fs k).getD 1 0=iAt fs (y:Int):=by rw [kt_get (by omega)];congr 1;have:=hy;simpa [show 1<(kidsAt l k).length by omega] using this
  have HCD:Hid (∀ V,Below w.heap.size w V→Calls Tryz.prog 142 #[.pointer (some ⟨C,0,none⟩),.int .i64 y] V fun e w'=>e=.returned (.bool (decide (kindAt l y=24) || valB (iAt fs (y:Int))))∧V=w'):=fun V hV=>isCondition_any (h.below hV) hl hyl
  have hact:actF l fs k=okC (decide (kindAt l y=24) || valB (iAt fs (y:Int))):=by
    unfold actF;dsimp only;rw [hkk];show okC (condB l fs k 1)=_;unfold condB;rw [hy,hky,Int.toNat_natCast]
  rw [hact]
  obtain ⟨r,hr⟩ : ∃ r,r=(decide (kindAt l y=24) || valB (iAt fs (y:Int))):=⟨_,rfl⟩
  rw [← hr]
  rw [← hr] at HCD
  obtain ⟨b,o,rfl,hbw,hN⟩:=h.node hk
  have a0:w.cell? ⟨C,0,none⟩=some (.slice (some ⟨b,o,none⟩) l.length cap):=by rw [h.chk.cell];rfl
  have a3:w.cell? ⟨C,3,none⟩=some (.slice (some ⟨T,0,none⟩) l.length l.length):=by rw [h.chk.cell];rfl
  obtain ⟨c0,c1,c2,c3,c4,c5⟩:=hN w (Below.refl _ _) k hk
  rw [← kindAt_get hk,hkk] at c0
  have HB1:Hid (Below w.heap.size w (w.alloc (.cells (nodeV l[k]) 34))):=(Below.refl _ _).alloc (Nat.le_refl _) _
  unfold nodeV at HB1
  rw [← kindAt_get hk,hkk] at HB1
  obtain ⟨t,ht⟩ : ∃ t,t=l[k].t:=⟨_,rfl⟩
  obtain ⟨n,hn2⟩ : ∃ n,n=l[k].n:=⟨_,rfl⟩
  obtain ⟨z,hz⟩ : ∃ z,z=l[k].z:=⟨_,rfl⟩
  obtain ⟨kc,hkc⟩ : ∃ kc,kc=l[k].cap:=⟨_,rfl⟩
  obtain ⟨cn,hcn⟩ : ∃ cn,cn=l[k].c.length:=⟨_,rfl⟩
  obtain ⟨ka,hka⟩ : ∃ ka,ka=l[k].a:=⟨_,rfl⟩
  rw [hkp] at HB1 c4
  rw [← ht,← hn2,← hz,← hkc,← hcn,← hka] at HB1
  rw [← ht] at c1;rw [← hn2] at c2;rw [← hz] at c3;rw [← hkc,← hcn] at c4;rw [← hka] at c5
  rw [← hcn] at hcn0
  have hcn1:2≤cn:=by omega
  obtain ⟨nn,hnn⟩ : ∃ nn,nn=l.length:=⟨_,rfl⟩
  rw [← hnn] at a0 a3 hk hl
  clear h hC hp hkk hlow hN hbw ht hn2 hz hkc hcn hka hcn0 hact hnn hr hy hyk hkp hcell hky
  have q0:(1:Int)<(cn:Int):=by omega
  have q1:1<cn:=by omega
  cases r
  all_goals
    go_enter Tryz.func85,Tryz.ntmps85
    go_wp2_with (go_at_call 142;refine (HCD.out _ HB1.out).mono ?_;rintro e w2 ⟨rfl,rfl⟩)
    all_goals (try go_ret)
    all_goals exact ⟨rfl,HB1.out⟩
set_option maxHeartbeats 8000000 in
set_option maxRecDepth 100000 in
theorem action_17 (h:Ck w l p cap C N P T ns fs) (hC:∀ j,j<l.length→codeAt l j=0) (hp:∀ y,y<l.length→(parF l).getD y (-1) = -1∨∃ z:Nat,(parF l).getD y (-1)=(z:Int)∧y<z∧z<l.length) (hl:l.length≤600) {k:Nat}(hk:k<l.length) (hkk:kindAt l k=17) :
    Calls Tryz.prog 85 #[.pointer (some ⟨C,0,none⟩),.int .i64 k] w fun e w'=>e=.returned (.int .i64 (actF l fs k))∧Below w.heap.size w w':=by
  have hlow:=kids_low hC hk
  rw [hkk] at hlow
  have hlow:2≤(kidsAt l k).length:=by simp [lowV] at hlow;omega
  have hcn0:l[k].c.length=(kidsAt l k).length:=by rw [kidsAt_get hk]
  obtain ⟨y,kb,ko,hy,hyk,hkp,hkb,hcell⟩:=kid0 h hC hk (i:=1) (by omega)
  have hkc0:w.cell? ⟨kb,ko+1,none⟩=some (.int .i64 (y:Int)):=hcell w (Below.refl _ _)
  have hyl:y<l.length:=by omega
  have hky:(ktF l fs k).getD 1 0=iAt fs (y:Int):=by rw [kt_get (by omega)];congr 1;have:=hy;simpa [show 1<(kidsAt l k).length by omega] using this
  have HCD:Hid (∀ V,Below w.heap.size w V→Calls Tryz.prog 142 #[.pointer (some ⟨C,0,none⟩),.int .i64 y] V fun e w'=>e=.returned (.bool (decide (kindAt l y=24) || valB (iAt fs (y:Int))))∧V=w'):=fun V hV=>isCondition_any (h.below hV) hl hyl
  have hact:actF l fs k=okC (decide (kindAt l y=24) || valB (iAt fs (y:Int))):=by
    unfold actF;dsimp only;rw [hkk];show okC (condB l fs k 1)=_;unfold condB;rw [hy,hky,Int.toNat_natCast]
  rw [hact]
  obtain ⟨r,hr⟩ : ∃ r,r=(decide (kindAt l y=24) || valB (iAt fs (y:Int))):=⟨_,rfl⟩
  rw [← hr]
  rw [← hr] at HCD
  obtain ⟨b,o,rfl,hbw,hN⟩:=h.node hk
  have a0:w.cell? ⟨C,0,none⟩=some (.slice (some ⟨b,o,none⟩) l.length cap):=by rw [h.chk.cell];rfl
  have a3:w.cell? ⟨C,3,none⟩=some (.slice (some ⟨T,0,none⟩) l.length l.length):=by rw [h.chk.cell];rfl
  obtain ⟨c0,c1,c2,c3,c4,c5⟩:=hN w (Below.refl _ _) k hk
  rw [← kindAt_get hk,hkk] at c0
  have HB1:Hid (Below w.heap.size w (w.alloc (.cells (nodeV l[k]) 34))):=(Below.refl _ _).alloc (Nat.le_refl _) _
  unfold nodeV at HB1
  rw [← kindAt_get hk,hkk] at HB1
  obtain ⟨t,ht⟩ : ∃ t,t=l[k].t:=⟨_,rfl⟩
  obtain ⟨n,hn2⟩ : ∃ n,n=l[k].n:=⟨_,rfl⟩
  obtain ⟨z,hz⟩ : ∃ z,z=l[k].z:=⟨_,rfl⟩
  obtain ⟨kc,hkc⟩ : ∃ kc,kc=l[k].cap:=⟨_,rfl⟩
  obtain ⟨cn,hcn⟩ : ∃ cn,cn=l[k].c.length:=⟨_,rfl⟩
  obtain ⟨ka,hka⟩ : ∃ ka,ka=l[k].a:=⟨_,rfl⟩
  rw [hkp] at HB1 c4
  rw [← ht,← hn2,← hz,← hkc,← hcn,← hka] at HB1
  rw [← ht] at c1;rw [← hn2] at c2;rw [← hz] at c3;rw [← hkc,← hcn] at c4;rw [← hka] at c5
  rw [← hcn] at hcn0
  have hcn1:2≤cn:=by omega
  obtain ⟨nn,hnn⟩ : ∃ nn,nn=l.length:=⟨_,rfl⟩
  rw [← hnn] at a0 a3 hk hl
  clear h hC hp hkk hlow hN hbw ht hn2 hz hkc hcn hka hcn0 hact hnn hr hy hyk hkp hcell hky
  have q0:(1:Int)<(cn:Int):=by omega
  have q1:1<cn:=by omega
  cases r
  all_goals
    go_enter Tryz.func85,Tryz.ntmps85
    go_wp2_with (go_at_call 142;refine (HCD.out _ HB1.out).mono ?_;rintro e w2 ⟨rfl,rfl⟩)
    all_goals (try go_ret)
    all_goals exact ⟨rfl,HB1.out⟩
end
end Ty
end
section
namespace Ty
open Go.RowKit Go.Shelf
open Tr Sc
attribute [local go_sem] Oper.semAt_some

section
variable {w:World}{l:List Nd}{p:Option Addr}{cap C N P T:Nat}{ns fs:List Int}
theorem blk_from {β:Type}(n B:Nat) (t:TypeId) (cs:Array Value) (R:β→Prop):OwnFrom n (fun (s:β) W=>Blk W B t cs∧R s):=fun s X Y row hs hg hr =>
  ⟨(hg.block B hs.1.lt (fun e=>by obtain ⟨_,o,ho,hc⟩:=hr B e.symm;have h1:=hs.1;unfold Blk at h1;rw [h1] at ho;cases ho;cases hc)).trans hs.1,hs.2⟩
theorem blk_done {W:World}{B D:Nat}{t:TypeId}{cs:Array Value}(h:Blk W B t cs) (hK:W.heap[D]? = some (.deferred (some []))):Blk (W.putObj D (.deferred none)) B t cs :=
  ((grownBy_putObj' W D (.deferred none)).block B h.lt (fun e=>by cases e;have h1:=h;unfold Blk at h1;rw [h1] at hK;cases hK)).trans h
def mnB (l:List Nd) (k:Nat):Bool:=decide (kindAt l k=3) && tx l k == [109,97,105,110]
theorem main_some {l:List Nd}{k:Nat}(hk:k<l.length) (h:mnB l k=true) (hn:∀ j,j<k→mnB l j=false):mainN l=some k:=by
  unfold mainN
  refine List.find?_eq_some_iff_getElem.2 ⟨h,k,by simpa using hk,by simp,fun j hj=>?_⟩
  have:=hn j hj
  unfold mnB at this
  simp only [List.getElem_range,this,Bool.not_false]
theorem main_none {l:List Nd}(hn:∀ j,j<l.length→mnB l j=false):mainN l=none:=by
  unfold mainN
  refine List.find?_eq_none.2 fun x hx=>?_
  have:=hn x (List.mem_range.1 hx)
  unfold mnB at this
  rw [this];simp
def MnPost (w:World) (r:Int × Int) (e:Ending) (w':World):Prop:=e=.returned (.agg #[.int .i64 r.1,.int .i64 r.2])∧Below w.heap.size w w'
set_option maxRecDepth 100000 in
set_option maxHeartbeats 8000000 in
theorem checkMain_any (h:Ck w l p cap C N P T ns fs) (hC:∀ j,j<l.length→codeAt l j=0) (h0:1≤l.length) (hl:l.length≤600) :
    Calls Tryz.prog 47 #[.pointer (some ⟨C,0,none⟩)] w (MnPost w (mainF l)):=by
  have HPA:Hid (∀ k,(hk:k<l.length)→kindAt l k=3→∀ V,Below w.heap.size w V→Calls Tryz.prog 87 #[.pointer (some ⟨C,0,none⟩),.agg (nodeV l[k])] V fun e w'=>∃ lb,e=.returned (.func (.func 154) #[] lb)∧Below V.heap.size V w'∧SeqI w' (.func (.func 154) #[] lb) (parsF l k)):=Lib.hid (fun k hk h3 V hV=>params_seq (h.below hV) hC hl hk h3)
  obtain ⟨b,o,rfl,hbw,hN⟩:=h.node (show 0<l.length by omega)
  have HN:Hid (∀ V,Below w.heap.size w V→∀ k,(hk:k<l.length)→NodeAt V b (o+k * 6) l[k]):=Lib.hid (fun V hV k hk=>hN V hV k hk)
  have a0:w.cell? ⟨C,0,none⟩=some (.slice (some ⟨b,o,none⟩) l.length cap):=by rw [h.chk.cell];rfl
  have HTX:Hid (∀ k,(hk:k<l.length)→tx l k=l[k].t.data.toList∧kindAt l k=l[k].k):=Lib.hid (fun k hk=>⟨tx_get hk,kindAt_get hk⟩)
  have hCl:=h.chk.lt
  obtain ⟨r,hr⟩ : ∃ r,r=mainF l:=⟨_,rfl⟩
  have HR:=Lib.hid hr
  rw [← hr]
  obtain ⟨Q,hQ⟩ : ∃ Q:Ending→World→Prop,Q=MnPost w r:=⟨_,rfl⟩
  rw [← hQ]
  have HQ:=Lib.hid hQ
  obtain ⟨nn,hnn⟩ : ∃ nn,nn=l.length:=⟨_,rfl⟩
  have HNN:=Lib.hid hnn
  rw [← hnn] at a0 hl h0
  have HB0:Hid (Below w.heap.size w (w.alloc (.cells #[.int .i64 0,.int .i64 0] 26))):=(Below.refl _ _).alloc (Nat.le_refl _) _
  have HX0:Hid (Blk (w.alloc (.cells #[.int .i64 0,.int .i64 0] 26)) w.heap.size 26 #[.int .i64 0,.int .i64 0]):=Blk.new _ _ _
  clear h hC hN hr hQ hnn
  refine (callsIn_wide (n:=20)).1 ?_
  refine callsIn_of_wp_marks Tryz.func47 rfl trivial ?_ rfl
  simp only [Tryz.ntmps47,List.size_toArray,List.length_cons,List.length_nil,Nat.reduceAdd,Nat.reduceSub,Array.replicate_succ,Array.replicate_zero,List.push_toArray,List.append_toArray,List.nil_append,List.cons_append]
  gi_wp2
  gi_loopw [10] (fun v wr=>∃ k:Nat,k≤nn∧v=.int .i64 k∧Hid (Below w.heap.size w wr∧Blk wr w.heap.size 26 #[.int .i64 0,.int .i64 0]∧w.heap.size<wr.heap.size∧∀ j,j<k→mnB l j=false)) (fun v _=>nn-(intOf v).toNat)
  case atStart=>exact ⟨0,Nat.zero_le _,rfl,Lib.hid ⟨HB0.out,HX0.out,by simp,fun j hj=>by omega⟩⟩
  case round =>
    obtain ⟨k,hk,rfl,HW⟩:=hrel
    by_cases hlt:k<nn
    · have hkl:k<l.length:=by have:=HNN.out;omega
      obtain ⟨c0,c1,c2,c3,c4,c5⟩:=HN.out wr HW.out.1 k hkl
      obtain ⟨htx,hkd0⟩:=HTX.out k hkl
      have HPK:Hid (kindAt l k=3→∀ V,Below w.heap.size w V→Calls Tryz.prog 87 #[.pointer (some ⟨C,0,none⟩),.agg #[.int .i64 l[k].k,.string l[k].t,.int .i64 l[k].n,.int .i64 l[k].z,.slice l[k].p l[k].c.length l[k].cap,.int .i64 l[k].a]] V fun e w'=>∃ lb,e=.returned (.func (.func 154) #[] lb)∧Below V.heap.size V w'∧SeqI w' (.func (.func 154) #[] lb) (parsF l k)):=Lib.hid (HPA.out k hkl)
      obtain ⟨kd,hkd⟩ : ∃ kd,kd=l[k].k:=⟨_,rfl⟩
      obtain ⟨t,ht⟩ : ∃ t,t=l[k].t:=⟨_,rfl⟩
      obtain ⟨nm,hnm⟩ : ∃ nm,nm=l[k].n:=⟨_,rfl⟩
      obtain ⟨z,hz⟩ : ∃ z,z=l[k].z:=⟨_,rfl⟩
      obtain ⟨kp,hkp⟩ : ∃ kp,kp=l[k].p:=⟨_,rfl⟩
      obtain ⟨kc,hkc2⟩ : ∃ kc,kc=l[k].cap:=⟨_,rfl⟩
      obtain ⟨cn,hcn⟩ : ∃ cn,cn=l[k].c.length:=⟨_,rfl⟩
      obtain ⟨ka,hka2⟩ : ∃ ka,ka=l[k].a:=⟨_,rfl⟩
      rw [← hkd] at c0;rw [← ht] at c1;rw [← hnm] at c2;rw [← hz] at c3;rw [← hkp,← hcn,← hkc2] at c4;rw [← hka2] at c5
      rw [← hkd,← ht,← hnm,← hz,← hkp,← hcn,← hkc2,← hka2] at HPK
      rw [← ht] at htx
      rw [← hkd] at hkd0
      have hl0:Hid (t.toList=t.data.toList):=Lib.hid (Lib.toList_data t)
      have hmn:mnB l k=(decide (kd=3) && t.toList == [109,97,105,110]):=by unfold mnB;rw [htx,hkd0,hl0.out]
      have HMN:=Lib.hid hmn
      have HKD0:=Lib.hid hkd0
      have HBr:Hid (Below w.heap.size w ((wr.alloc (.cells #[.int .i64 (k:Int)] 3)).alloc (.cells #[.int .i64 kd,.string t,.int .i64 nm,.int .i64 z,.slice kp cn kc,.int .i64 ka] 34))):=Lib.hid ((HW.out.1.alloc HW.out.1.size _).alloc (by have:=HW.out.1.size;simp;omega) _)
      have HXr:Hid (Blk ((wr.alloc (.cells #[.int .i64 (k:Int)] 3)).alloc (.cells #[.int .i64 kd,.string t,.int .i64 nm,.int .i64 z,.slice kp cn kc,.int .i64 ka] 34)) w.heap.size 26 #[.int .i64 0,.int .i64 0]):=Lib.hid ((HW.out.2.1.alloc _).alloc _)
      have HKr:Hid (Blk ((wr.alloc (.cells #[.int .i64 (k:Int)] 3)).alloc (.cells #[.int .i64 kd,.string t,.int .i64 nm,.int .i64 z,.slice kp cn kc,.int .i64 ka] 34)) wr.heap.size 3 #[.int .i64 (k:Int)]):=Lib.hid ((Blk.new wr _ _).alloc _)
      have hws:=HW.out.2.2.1
      clear hkd ht hnm hz hkp hkc2 hcn hka2 htx hkd0 hmn
      by_cases hm:kd=3∧(t.toList == [109,97,105,110])=true
      · obtain ⟨rfl,hm2⟩:=hm
        have hmk:mnB l k=true:=by rw [HMN.out,hm2];rfl
        have HRK:Hid (r=if parsF l k=[] then (0,0) else (5,(k:Int))):=Lib.hid (by rw [HR.out];unfold mainF;rw [main_some hkl hmk HW.out.2.2.2])
        clear hmk
        gi_wp2_with (refine ⟨trivial,?_⟩;gi_at_call 87;go_loud (refine (callsIn_wide.2 (HPK.out HKD0.out _ HBr.out)).mono ?_);rintro e w1 ⟨lb,rfl,hb1,hs1⟩)
        have HB1:=Lib.hid (HBr.out.trans (hb1.mono HBr.out.size))
        have bF:Blk w1 w.heap.size 26 #[.int .i64 0,.int .i64 0]:=HXr.out.below hb1 HXr.out.lt
        have bK:Blk w1 wr.heap.size 3 #[.int .i64 (k:Int)]:=HKr.out.below hb1 HKr.out.lt
        clear hb1
        obtain ⟨g0,lb0,hg0,_,hst⟩:=hs1
        obtain ⟨rfl,rfl⟩ : g0=154∧lb0=lb:=by
          have:=hg0.symm;simpa using this
        clear hg0
        refine wpIn_rangeFunc_ownF rfl (by omega) (gf:=154) (lb:=lb0) rfl trivial enters_pa (hst _ (by omega)) belowK_t (belowK_b (Nat.le_refl _)) (Below.refl _ _) (fun _=>rfl)
          (fun pre W=>((Blk W w.heap.size 26 #[.int .i64 0,.int .i64 0]∧pre=[])∧(Blk W wr.heap.size 3 #[.int .i64 (k:Int)]∧True))∧Below w.heap.size w W)
          (fun c pre W=>(Blk W w.heap.size 26 #[.int .i64 5,.int .i64 (k:Int)]∧(c=.ret∧pre≠[]))∧Below w.heap.size w W)
          (OwnFrom.and (OwnFrom.and (blk_from _ _ _ _ _) (blk_from _ _ _ _ _)) (ownFrom_below (Nat.le_refl _) HB1.out.size))
          (fun c=>OwnFrom.and (blk_from _ _ _ _ _) (ownFrom_below (Nat.le_refl _) HB1.out.size))
          ⟨⟨⟨bF,rfl⟩,bK,trivial⟩,HB1.out⟩ ?a1 ?assign ?body ?done ?stop
        case assign =>
          intro l x W K hK
          gi_wp2
          exact hK
        case body =>
          rintro lc pre x W ⟨⟨⟨hF,hpre⟩,hK0,_⟩,hB⟩ hlt
          have x0:W.cell? ⟨w.heap.size,0,none⟩=some (.int .i64 0):=by rw [hF.cell];rfl
          have x1:W.cell? ⟨w.heap.size,1,none⟩=some (.int .i64 0):=by rw [hF.cell];rfl
          have g0:=hF.frozen 0
          have g1:=hF.frozen 1
          have lF:=hF.lt
          have xk:W.cell? ⟨wr.heap.size,0,none⟩=some (.int .i64 (k:Int)):=by rw [hK0.cell];rfl
          have HF:=Lib.hid hF
          have HBW:=Lib.hid hB
          clear hF hB hK0
          gi_wp2
          exact ⟨(KeepsOthers.setCell _ _ _).trans (KeepsOthers.setCell _ _ _),⟨set2 HF.out _ _,rfl,by simp⟩,(HBW.out.setCell (p:=⟨w.heap.size,0,none⟩) (Nat.le_refl _) _).setCell (p:=⟨w.heap.size,1,none⟩) (Nat.le_refl _) _⟩
        case done =>
          rintro D ys W hD rfl ⟨⟨⟨hF,hpre⟩,_,_⟩,hB⟩ hK
          have x0:W.cell? ⟨w.heap.size,0,none⟩=some (.int .i64 0):=by rw [hF.cell];rfl
          have x1:W.cell? ⟨w.heap.size,1,none⟩=some (.int .i64 0):=by rw [hF.cell];rfl
          have g0:=hF.frozen 0
          have g1:=hF.frozen 1
          have lF:=hF.lt
          have hr:r=(0,0):=by rw [HRK.out,if_pos hpre]
          have HF:=Lib.hid hF
          have HBW:=Lib.hid hB
          have HRR:=Lib.hid hr
          clear hF hB hr hpre
          gi_wp2
          have hK':=((KeepsOthers.setCell W ⟨w.heap.size,0,none⟩ (.int .i64 0)).trans (KeepsOthers.setCell _ ⟨w.heap.size,1,none⟩ (.int .i64 0))).same D _ hK rfl
          refine ⟨by simp,.inl ⟨_,_,rfl,run_takeDeferred hK',?_⟩⟩
          have hz:=blk_done (set2 HF.out (.int .i64 0) (.int .i64 0)) hK'
          have z0:=hz.cell 0
          have z1:=hz.cell 1
          rw [HQ.out,HRR.out]
          refine ⟨.agg #[.int .i64 0,.int .i64 0],?_,rfl,((HBW.out.setCell (p:=⟨w.heap.size,0,none⟩) (Nat.le_refl _) _).setCell (p:=⟨w.heap.size,1,none⟩) (Nat.le_refl _) _).trans (belowK_b (w:=w) (Nat.le_refl _) _ D _ _ (Nat.le_trans HB1.out.size hD) hK' rfl rfl)⟩
          simp [results,Tryz.f47,go_sem,z0,z1]
        case stop =>
          rintro D c pre W hD hpre ⟨⟨hF,rfl,hne⟩,hB⟩ hK
          have hr:r=(5,(k:Int)):=by
            rw [HRK.out,if_neg]
            intro e
            obtain ⟨q,hq⟩:=hpre
            rw [e] at hq
            exact hne (List.append_eq_nil_iff.1 hq).1
          have HF:=Lib.hid hF
          have HBW:=Lib.hid hB
          have HRR:=Lib.hid hr
          clear hF hB hr
          gi_wp2
          refine ⟨by simp,.inl ⟨_,_,rfl,run_takeDeferred hK,?_⟩⟩
          have hz:=blk_done HF.out hK
          have z0:=hz.cell 0
          have z1:=hz.cell 1
          rw [HQ.out,HRR.out]
          refine ⟨.agg #[.int .i64 5,.int .i64 (k:Int)],?_,rfl,HBW.out.trans (belowK_b (w:=w) (Nat.le_refl _) _ D _ _ (Nat.le_trans HB1.out.size hD) hK rfl rfl)⟩
          simp [results,Tryz.f47,go_sem,z0,z1]
      · have hmk:mnB l k=false:=by
          rw [HMN.out,Bool.eq_false_iff]
          intro hh
          simp only [Bool.and_eq_true,decide_eq_true_eq] at hh
          exact hm hh
        have HNX:Hid (∀ j,j<k+1→mnB l j=false):=Lib.hid (fun j hj=>by
          by_cases e:j=k
          · rw [e];exact hmk
          · exact HW.out.2.2.2 j (by omega))
        have hws2:w.heap.size<((wr.alloc (.cells #[.int .i64 (k:Int)] 3)).alloc (.cells #[.int .i64 kd,.string t,.int .i64 nm,.int .i64 z,.slice kp cn kc,.int .i64 ka] 34)).heap.size:=by simp;omega
        have HWS2:=Lib.hid hws2
        clear hmk hws2
        rcases (show kd≠3∨(kd=3∧(t.toList == [109,97,105,110])=false) by
          by_cases e:kd=3
          · exact Or.inr ⟨e,Bool.eq_false_iff.2 fun h=>hm ⟨e,h⟩⟩
          · exact Or.inl e) with hk3 | ⟨rfl,hk3⟩
        all_goals
          clear hm
          gi_wp2
          go_roundw
          case rel=>exact ⟨k+1,by omega,by go_num,Lib.hid ⟨HBr.out,HXr.out,HWS2.out,HNX.out⟩⟩
          case measure=>simp [intOf];omega
    · have hkn:k=nn:=by omega
      have HR6:Hid (r=(6,0)):=Lib.hid (by rw [HR.out];unfold mainF;rw [main_none (fun j hj=>HW.out.2.2.2 j (by have:=HNN.out;omega))])
      have x0:wr.cell? ⟨w.heap.size,0,none⟩=some (.int .i64 0):=by rw [HW.out.2.1.cell];rfl
      have x1:wr.cell? ⟨w.heap.size,1,none⟩=some (.int .i64 0):=by rw [HW.out.2.1.cell];rfl
      have g0:=HW.out.2.1.frozen 0
      have g1:=HW.out.2.1.frozen 1
      have lB:=HW.out.2.1.lt
      have HF:=Lib.hid HW.out.2.1
      have HBW:=Lib.hid HW.out.1
      clear HW
      gi_wp2
      have hz:=set2 HF.out (.int .i64 6) (.int .i64 0)
      have z0:=hz.cell 0
      have z1:=hz.cell 1
      refine ⟨.agg #[.int .i64 6,.int .i64 0],by simp [results,Tryz.f47,go_sem,z0,z1],?_⟩
      rw [HQ.out,HR6.out]
      exact ⟨rfl,(HBW.out.setCell (p:=⟨w.heap.size,0,none⟩) (Nat.le_refl _) _).setCell (p:=⟨w.heap.size,1,none⟩) (Nat.le_refl _) _⟩
end
end Ty
end
section
namespace Ty
open Go.RowKit
open Tr Sc

section
variable {w:World}{l:List Nd}{p:Option Addr}{cap C N P T:Nat}{ns fs:List Int}
theorem action_any (h:Ck w l p cap C N P T ns fs) (hC:∀ j,j<l.length→codeAt l j=0) (hp:∀ y,y<l.length→(parF l).getD y (-1) = -1∨∃ z:Nat,(parF l).getD y (-1)=(z:Int)∧y<z∧z<l.length) (hl:l.length≤600) {k:Nat}(hk:k<l.length) (he:exprB (kindAt l k)=false) :
    Calls Tryz.prog 85 #[.pointer (some ⟨C,0,none⟩),.int .i64 k] w fun e w'=>e=.returned (.int .i64 (actF l fs k))∧Below w.heap.size w w':=by
  have hne:¬ (31≤kindAt l k∧kindAt l k≤40):=of_decide_eq_false he
  have hkb:kindB (kindAt l k)=true:=by
    have hc:=hC k hk
    rw [codeAt_get hk] at hc
    rw [kindAt_get hk]
    unfold nodeC at hc
    cases hb:kindB l[k].k with
    | true=>rfl
    | false=>rw [if_pos hb] at hc;cases hc
  have hr:(1≤kindAt l k∧kindAt l k≤4)∨(11≤kindAt l k∧kindAt l k≤24)∨(31≤kindAt l k∧kindAt l k≤40):=of_decide_eq_true hkb
  have hcase:kindAt l k=1∨kindAt l k=2∨kindAt l k=3∨kindAt l k=4∨kindAt l k=11∨kindAt l k=12∨kindAt l k=13∨kindAt l k=14∨kindAt l k=15∨kindAt l k=16∨kindAt l k=17∨kindAt l k=18∨kindAt l k=19∨kindAt l k=20∨kindAt l k=21∨kindAt l k=22∨kindAt l k=23∨kindAt l k=24:=by omega
  rcases hcase with e | e | e | e | e | e | e | e | e | e | e | e | e | e | e | e | e | e
  · exact action_1 h hC hp hl hk e
  · exact action_2 h hC hp hl hk e
  · exact action_3 h hC hp hl hk e
  · exact action_4 h hC hp hl hk e
  · exact action_11 h hC hp hl hk e
  · exact action_12 h hC hp hl hk e
  · exact action_13 h hC hp hl hk e
  · exact action_14 h hC hp hl hk e
  · exact action_15 h hC hp hl hk e
  · exact action_16 h hC hp hl hk e
  · exact action_17 h hC hp hl hk e
  · exact action_18 h hC hp hl hk e
  · exact action_19 h hC hp hl hk e
  · exact action_20 h hC hp hl hk e
  · exact action_21 h hC hp hl hk e
  · exact action_22 h hC hp hl hk e
  · exact action_23 h hC hp hl hk e
  · exact action_24 h hC hp hl hk e
end
end Ty
end
end Go.Proofs.YtdjpopebeenlmaaGreatDoor
