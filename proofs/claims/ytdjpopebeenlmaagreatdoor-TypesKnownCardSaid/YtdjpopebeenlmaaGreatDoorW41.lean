/-
  Joined texts of this claim: Ykw.
-/
import Derived.Test.YtdjpopebeenlmaaGreatDoorW00
import Derived.Test.YtdjpopebeenlmaaGreatDoorW40
import Derived.Test.YtdjpopebeenlmaaGreatDoorW28
import Derived.Test.YtdjpopebeenlmaaGreatDoorW31
import Derived.StillTactics
set_option maxHeartbeats 40000000
set_option maxRecDepth 100000
set_option linter.unusedVariables false
set_option linter.unusedSimpArgs false
namespace Go.Proofs.YtdjpopebeenlmaaGreatDoor
section
namespace Ty
open Go.RowKit
open Tr Sc

theorem iAt_get {fs:List Int}{j:Nat}(h:j<fs.length):fs[j]? = some (iAt fs (j:Int)):=by unfold iAt;simp [h]
set_option maxHeartbeats 40000000 in
set_option maxRecDepth 100000 in
theorem known_walk (l:List Nd) (p:Option Addr) (cap:Nat) (w:World) (hE:Go.Proofs.YtdjpopebeenlmaaGreatDoor.Env w) (hT:Tr.Tr w p l) (hf:Fit l cap) (hcp:∀ k,(h:k<l.length)→l[k].c.length≤l[k].cap) :
    Calls Tryz.prog 6 #[.agg #[.slice p l.length cap]] w fun e w'=>e=.returned (.bool true)∧Below w.heap.size w w':=by
  have HW:Hid (Below w.heap.size w (w.alloc (.cells #[.slice p l.length cap] 24))):=(Below.refl _ _).alloc (Nat.le_refl _) _
  have hfa:=tfact_any (hE.below HW.out)
  have HNM:Hid (∀ W,Below w.heap.size w W→Calls Tryz.prog 19 #[.agg #[.slice p l.length cap]] W (TyGood l W)):=fun W hW=>types_good l p cap W (hT.below hW) hf hcp
  have HT:=Lib.hid hT
  have hn47:=hf.2.1
  have HFIT:=Lib.hid hf
  obtain ⟨n,hn⟩ : ∃ n,n=l.length:=⟨_,rfl⟩
  rw [← hn] at HW hfa HNM hn47 ⊢
  have HN:=Lib.hid hn
  have HX:Hid (Blk (w.alloc (.cells #[.slice p n cap] 24)) w.heap.size 24 #[.slice p n cap]):=Blk.new _ _ _
  clear hE hT hf hn hcp
  go_enter Tryz.func6,Tryz.ntmps6
  go_wp2_with (go_at_call 18;refine hfa.mono ?_)
  first | rintro e w2 ⟨rfl,hb2⟩ | (intro e w2 he hb2;subst he)
  have HB2:=Lib.hid (HW.out.trans (hb2.mono (by simp;try omega)))
  have HX2:=Lib.hid (HX.out.below hb2 (by simp;try omega))
  have x2:w2.cell? ⟨w.heap.size,0,none⟩=some (.slice p n cap):=by rw [HX2.out.cell];rfl
  have l2:=HX2.out.lt
  have hnm:=HNM.out w2 HB2.out
  clear hb2 hfa HX
  go_wp2_with (go_at_call 19;refine hnm.mono ?_)
  intro e w3 hp
  obtain ⟨hb3,⟨c,a,hc,rfl⟩ | ⟨F,fs,rfl,hF0,hF1,hFB,hfl,hnn,hck,hown⟩⟩:=hp
  · have hc':(c != 0)=true:=by simpa using hc
    have HB3:=Lib.hid ((HB2.out.trans (hb3.mono HB2.out.size)).alloc (by have:=HB2.out.size;have:=hb3.size;omega) (.cells #[.int .i64 c,.int .i64 a] 26))
    clear hb3 hc hnm
    go_wp2
    go_ret
    exact ⟨rfl,HB3.out⟩
  · have HB3:=Lib.hid (HB2.out.trans (hb3.mono HB2.out.size))
    have HX3:=Lib.hid (HX2.out.below hb3 HX2.out.lt)
    have x3:w3.cell? ⟨w.heap.size,0,none⟩=some (.slice p n cap):=by rw [HX3.out.cell];rfl
    have l3:=HX3.out.lt
    rw [← HN.out]
    obtain ⟨w4,hw4⟩ : ∃ w4,w4=w3.alloc (.cells #[.int .i64 0,.int .i64 0] 26):=⟨_,rfl⟩
    have hb34:Below w3.heap.size w3 w4:=by rw [hw4];exact (Below.refl _ _).alloc (Nat.le_refl _) _
    have HB4:=Lib.hid (HB3.out.trans (hb34.mono HB3.out.size))
    have HX4:=Lib.hid (HX3.out.below hb34 HX3.out.lt)
    have HFB:=Lib.hid (hFB.below hb34 hF1)
    have HOWN:=Lib.hid hown
    have HFL:=Lib.hid hfl
    have HW4:=Lib.hid hw4
    have HCK:=Lib.hid hck
    clear hb3 hnm hb34 hw4 hFB hown hfl hck hnn x2 l2
    go_wp2
    rw [← HW4.out]
    clear HW4 x3 l3
    go_loopw [6] (fun v wr=>∃ i:Nat,i≤n∧v=.int .i64 i∧Hid (Below w4.heap.size w4 wr)) (fun v _=>n-(intOf v).toNat)
    case atStart=>exact ⟨0,Nat.zero_le _,rfl,Below.refl _ _⟩
    obtain ⟨i,hi,rfl,HBE⟩:=hrel
    have hbe:=HBE.out
    have hX:=HX4.out.below hbe HX4.out.lt
    have hF:=HFB.out.below hbe HFB.out.lt
    have x4:wr.cell? ⟨w.heap.size,0,none⟩=some (.slice p n cap):=by rw [hX.cell];rfl
    have lx:=hX.lt
    have lF:=hF.lt
    by_cases hlt:i<n
    · have hil:i<l.length:=by have:=HN.out;omega
      obtain ⟨b,o,rfl,hb,hN⟩:=HT.out.1 (by omega)
      have hbw:=HB4.out.trans (hbe.mono HB4.out.size)
      have hbl:b<wr.heap.size:=Nat.lt_of_lt_of_le hb hbw.size
      obtain ⟨c0,c1,hc2,hc3,c4,hc5⟩:=(hN i hil).below hbw hb
      obtain ⟨nn,zz,aa,c2,c3,c5⟩ : ∃ (nn zz aa:Int),wr.cell? ⟨b,o+i * 6+2,none⟩=some (.int .i64 nn)∧wr.cell? ⟨b,o+i * 6+3,none⟩=some (.int .i64 zz)∧wr.cell? ⟨b,o+i * 6+5,none⟩=some (.int .i64 aa):=⟨_,_,_,hc2,hc3,hc5⟩
      clear hc2 hc3 hc5
      have hkw:=HOWN.out i hil
      have hkk:=(HT.out.2 i hil).below hbw
      have hkl:∀ x ∈ l[i].c,∃ y:Nat,x=(y:Int)∧y<i:=fun x hx=>kid_lt (ckr_zero HCK.out).2.2.1 hil x (by rw [kidsAt_get hil];exact hx)
      have hFj:∀ j,j<n→wr.cell? ⟨F,j,none⟩=some (.int .i64 (iAt fs (j:Int))):=fun j hj=>by rw [hF.cell];simp [intA,iAt_get (show j<fs.length by have:=HFL.out;have:=HN.out;omega)]
      have hFi:=hFj i hlt
      rw [← kindAt_get hil] at c0
      have hkids:kidsAt l i=l[i].c:=kidsAt_get hil
      obtain ⟨r1,r2,r3,r4,r5,r6,r7⟩:=hkw
      rw [hkids] at r5 r6 r7
      have hcap:=hkk
      obtain ⟨kd,hkd⟩ : ∃ kd,kd=kindAt l i:=⟨_,rfl⟩
      rw [← hkd] at c0 r2 r3 r4 r5 r6 r7
      obtain ⟨v,hv⟩ : ∃ v,v=iAt fs (i:Int):=⟨_,rfl⟩
      rw [← hv] at hFi r1 r2 r3 r4 r5 r6
      have hin:=fun W=>in20_any v 0 2 W
      rw [show inL v 0 2=true from decide_eq_true (by omega)] at hin
      have hxp:=fun W=>Tr.rexpr_any kd W
      obtain ⟨t,ht⟩ : ∃ t,t=l[i].t:=⟨_,rfl⟩
      have hti:t.toList=tx l i:=tx_tb2 hil ht
      rw [← ht] at c1
      rw [← hti] at r3 r4
      have HBE2:=Lib.hid hbe
      obtain ⟨cs,hcs⟩ : ∃ cs,cs=l[i].c:=⟨_,rfl⟩
      rw [← hcs] at c4 hkk hkl r5 r6 r7
      obtain ⟨kp,hkp⟩ : ∃ kp,kp=l[i].p:=⟨_,rfl⟩
      obtain ⟨kc,hkc⟩ : ∃ kc,kc=l[i].cap:=⟨_,rfl⟩
      rw [← hkp] at hkk
      rw [← hkp,← hkc] at c4
      obtain ⟨cn,hcn⟩ : ∃ cn,cn=cs.length:=⟨_,rfl⟩
      rw [← hcn] at c4 r5 r6 r7
      have HCN:=Lib.hid hcn
      have hcn0:cn≤1000000000000000000:=by rw [hcn,hcs];exact HFIT.out.2.2 i hil
      have hkid:∀ j,j<cn→∃ (kb ko y:Nat),kp=some ⟨kb,ko,none⟩∧kb<wr.heap.size∧wr.cell? ⟨kb,ko+j,none⟩=some (.int .i64 (y:Int))∧cs.getD j 0=(y:Int)∧y<n∧wr.cell? ⟨F,y,none⟩=some (.int .i64 (iAt fs (cs.getD j 0))):=fun j hj=>by
        obtain ⟨kb,ko,e1,e2,e3⟩:=hkk (by have:=HCN.out;omega)
        have hjc:j<cs.length:=by have:=HCN.out;omega
        obtain ⟨y,e4,e5⟩:=hkl _ (List.getElem_mem hjc)
        have e6:cs.getD j 0=(y:Int):=by simp [hjc,e4]
        refine ⟨kb,ko,y,e1,e2,by rw [e3 j hjc,e4],e6,by omega,?_⟩
        rw [e6];exact hFj y (by omega)
      clear hkk hkl hcap hkids hFj hN hX hF hbw hbe ht hcs hkp hkc hcn hkd hv hti
      have hcase:kd=31∨kd=34∨kd=37∨(kd=35∧t.toList≠[38])∨(kd=35∧t.toList=[38])∨kd=39∨kd=40∨kd=38∨(kd≠31∧kd≠34∧kd≠37∧kd≠35∧kd≠39∧kd≠40∧kd≠38):=by
        by_cases a1:kd=31
        · exact Or.inl a1
        by_cases a2:kd=34
        · exact Or.inr (Or.inl a2)
        by_cases a3:kd=37
        · exact Or.inr (Or.inr (Or.inl a3))
        by_cases a4:kd=35
        · by_cases q:t.toList=[38]
          · exact Or.inr (Or.inr (Or.inr (Or.inr (Or.inl ⟨a4,q⟩))))
          · exact Or.inr (Or.inr (Or.inr (Or.inl ⟨a4,q⟩)))
        by_cases a5:kd=39
        · exact Or.inr (Or.inr (Or.inr (Or.inr (Or.inr (Or.inl a5)))))
        by_cases a6:kd=40
        · exact Or.inr (Or.inr (Or.inr (Or.inr (Or.inr (Or.inr (Or.inl a6))))))
        by_cases a7:kd=38
        · exact Or.inr (Or.inr (Or.inr (Or.inr (Or.inr (Or.inr (Or.inr (Or.inl a7)))))))
        · exact Or.inr (Or.inr (Or.inr (Or.inr (Or.inr (Or.inr (Or.inr (Or.inr ⟨a1,a2,a3,a4,a5,a6,a7⟩)))))))
      have hm:Tryz.prog.follows .mixedOrders=true:=by kernel_rfl
      rcases hcase with e | e | e | ⟨e,q⟩ | ⟨e,q⟩ | e | e | e | ⟨e1,e2,e3,e4,e5,e6,e7⟩
      · as_aux_lemma =>
        subst e
        have hx:exprB 31=true:=by decide
        have ev:v=1:=r3 (by omega)
        subst ev
        clear r1 r2 r3 r4 r5 r6 r7 hkid
        go_wp2_with (first | (go_at_call 20;refine (hin _).mono ?_;rintro e w' ⟨rfl,rfl⟩) | (go_at_call 12;refine (hxp _).mono ?_;rw [hx];rintro e w' ⟨rfl,rfl⟩))
        obtain ⟨wq,hwq⟩ : ∃ wq,wq=wr.alloc (.cells #[.int .i64 31,.string t,.int .i64 nn,.int .i64 zz,.slice kp cn kc,.int .i64 aa] 34):=⟨_,rfl⟩
        have hbq:Below wr.heap.size wr wq:=by rw [hwq];exact (Below.refl _ _).alloc (Nat.le_refl _) _
        have hkq:Blk wq wr.heap.size 34 #[.int .i64 31,.string t,.int .i64 nn,.int .i64 zz,.slice kp cn kc,.int .i64 aa]:=by rw [hwq];exact Blk.new _ _ _
        have m0:wq.cell? ⟨wr.heap.size,0,none⟩=some (.int .i64 31):=by rw [hkq.cell];rfl
        have m1:wq.cell? ⟨wr.heap.size,1,none⟩=some (.string t):=by rw [hkq.cell];rfl
        have m4:wq.cell? ⟨wr.heap.size,4,none⟩=some (.slice kp cn kc):=by rw [hkq.cell];rfl
        have lm:=hkq.lt
        have fiq:=(hbq.cell (p:=⟨F,i,none⟩) lF).trans hFi
        have lF':=Nat.lt_of_lt_of_le lF hbq.size
        have HBQ:=Lib.hid (HBE2.out.trans (hbq.mono HBE2.out.size))
        rw [← hwq]
        clear hwq hbq hkq c0 c1 c2 c3 c4 c5 x4 hFi lF lx hbl
        refine wp_region_still_lit hm (by kernel_rfl) ?_
        still_step
        still_step
        still_step
        still_step
        still_step
        still_step
        still_step
        still_step
        still_step
        with_reducible refine still_skip (by kernel_rfl) ?_
        try simp only [Act.put,List.setIfInBounds_toArray,List.set_cons_zero,List.set_cons_succ]
        with_reducible refine still_skip (by kernel_rfl) ?_
        try simp only [Act.put,List.setIfInBounds_toArray,List.set_cons_zero,List.set_cons_succ]
        with_reducible refine still_skip (by kernel_rfl) ?_
        try simp only [Act.put,List.setIfInBounds_toArray,List.set_cons_zero,List.set_cons_succ]
        with_reducible refine still_skip (by kernel_rfl) ?_
        try simp only [Act.put,List.setIfInBounds_toArray,List.set_cons_zero,List.set_cons_succ]
        with_reducible refine still_skip (by kernel_rfl) ?_
        try simp only [Act.put,List.setIfInBounds_toArray,List.set_cons_zero,List.set_cons_succ]
        with_reducible refine still_skip (by kernel_rfl) ?_
        try simp only [Act.put,List.setIfInBounds_toArray,List.set_cons_zero,List.set_cons_succ]
        with_reducible refine still_skip (by kernel_rfl) ?_
        try simp only [Act.put,List.setIfInBounds_toArray,List.set_cons_zero,List.set_cons_succ]
        with_reducible refine still_skip (by kernel_rfl) ?_
        try simp only [Act.put,List.setIfInBounds_toArray,List.set_cons_zero,List.set_cons_succ]
        with_reducible refine still_skip (by kernel_rfl) ?_
        try simp only [Act.put,List.setIfInBounds_toArray,List.set_cons_zero,List.set_cons_succ]
        with_reducible refine still_skip (by kernel_rfl) ?_
        try simp only [Act.put,List.setIfInBounds_toArray,List.set_cons_zero,List.set_cons_succ]
        with_reducible refine still_skip (by kernel_rfl) ?_
        try simp only [Act.put,List.setIfInBounds_toArray,List.set_cons_zero,List.set_cons_succ]
        with_reducible refine still_skip (by kernel_rfl) ?_
        try simp only [Act.put,List.setIfInBounds_toArray,List.set_cons_zero,List.set_cons_succ]
        with_reducible refine still_skip (by kernel_rfl) ?_
        try simp only [Act.put,List.setIfInBounds_toArray,List.set_cons_zero,List.set_cons_succ]
        with_reducible refine still_skip (by kernel_rfl) ?_
        try simp only [Act.put,List.setIfInBounds_toArray,List.set_cons_zero,List.set_cons_succ]
        with_reducible refine still_skip (by kernel_rfl) ?_
        try simp only [Act.put,List.setIfInBounds_toArray,List.set_cons_zero,List.set_cons_succ]
        with_reducible refine still_skip (by kernel_rfl) ?_
        try simp only [Act.put,List.setIfInBounds_toArray,List.set_cons_zero,List.set_cons_succ]
        with_reducible refine still_skip (by kernel_rfl) ?_
        try simp only [Act.put,List.setIfInBounds_toArray,List.set_cons_zero,List.set_cons_succ]
        with_reducible refine still_skip (by kernel_rfl) ?_
        try simp only [Act.put,List.setIfInBounds_toArray,List.set_cons_zero,List.set_cons_succ]
        with_reducible refine still_skip (by kernel_rfl) ?_
        try simp only [Act.put,List.setIfInBounds_toArray,List.set_cons_zero,List.set_cons_succ]
        still_step
        still_step
        still_step
        still_step
        still_step
        still_step
        with_reducible refine still_skip (by kernel_rfl) ?_
        try simp only [Act.put,List.setIfInBounds_toArray,List.set_cons_zero,List.set_cons_succ]
        with_reducible refine still_skip (by kernel_rfl) ?_
        try simp only [Act.put,List.setIfInBounds_toArray,List.set_cons_zero,List.set_cons_succ]
        with_reducible refine still_skip (by kernel_rfl) ?_
        try simp only [Act.put,List.setIfInBounds_toArray,List.set_cons_zero,List.set_cons_succ]
        with_reducible refine still_skip (by kernel_rfl) ?_
        try simp only [Act.put,List.setIfInBounds_toArray,List.set_cons_zero,List.set_cons_succ]
        with_reducible refine still_skip (by kernel_rfl) ?_
        try simp only [Act.put,List.setIfInBounds_toArray,List.set_cons_zero,List.set_cons_succ]
        with_reducible refine still_skip (by kernel_rfl) ?_
        try simp only [Act.put,List.setIfInBounds_toArray,List.set_cons_zero,List.set_cons_succ]
        with_reducible refine still_skip (by kernel_rfl) ?_
        try simp only [Act.put,List.setIfInBounds_toArray,List.set_cons_zero,List.set_cons_succ]
        with_reducible refine still_skip (by kernel_rfl) ?_
        try simp only [Act.put,List.setIfInBounds_toArray,List.set_cons_zero,List.set_cons_succ]
        with_reducible refine still_skip (by kernel_rfl) ?_
        try simp only [Act.put,List.setIfInBounds_toArray,List.set_cons_zero,List.set_cons_succ]
        with_reducible refine still_skip (by kernel_rfl) ?_
        try simp only [Act.put,List.setIfInBounds_toArray,List.set_cons_zero,List.set_cons_succ]
        with_reducible refine still_skip (by kernel_rfl) ?_
        try simp only [Act.put,List.setIfInBounds_toArray,List.set_cons_zero,List.set_cons_succ]
        with_reducible refine still_skip (by kernel_rfl) ?_
        try simp only [Act.put,List.setIfInBounds_toArray,List.set_cons_zero,List.set_cons_succ]
        with_reducible refine still_skip (by kernel_rfl) ?_
        try simp only [Act.put,List.setIfInBounds_toArray,List.set_cons_zero,List.set_cons_succ]
        with_reducible refine still_skip (by kernel_rfl) ?_
        try simp only [Act.put,List.setIfInBounds_toArray,List.set_cons_zero,List.set_cons_succ]
        with_reducible refine still_skip (by kernel_rfl) ?_
        try simp only [Act.put,List.setIfInBounds_toArray,List.set_cons_zero,List.set_cons_succ]
        with_reducible refine still_skip (by kernel_rfl) ?_
        try simp only [Act.put,List.setIfInBounds_toArray,List.set_cons_zero,List.set_cons_succ]
        with_reducible refine still_skip (by kernel_rfl) ?_
        try simp only [Act.put,List.setIfInBounds_toArray,List.set_cons_zero,List.set_cons_succ]
        with_reducible refine still_skip (by kernel_rfl) ?_
        try simp only [Act.put,List.setIfInBounds_toArray,List.set_cons_zero,List.set_cons_succ]
        with_reducible refine still_skip (by kernel_rfl) ?_
        try simp only [Act.put,List.setIfInBounds_toArray,List.set_cons_zero,List.set_cons_succ]
        with_reducible refine still_skip (by kernel_rfl) ?_
        try simp only [Act.put,List.setIfInBounds_toArray,List.set_cons_zero,List.set_cons_succ]
        with_reducible refine still_skip (by kernel_rfl) ?_
        try simp only [Act.put,List.setIfInBounds_toArray,List.set_cons_zero,List.set_cons_succ]
        with_reducible refine still_skip (by kernel_rfl) ?_
        try simp only [Act.put,List.setIfInBounds_toArray,List.set_cons_zero,List.set_cons_succ]
        with_reducible refine still_skip (by kernel_rfl) ?_
        try simp only [Act.put,List.setIfInBounds_toArray,List.set_cons_zero,List.set_cons_succ]
        with_reducible refine still_skip (by kernel_rfl) ?_
        try simp only [Act.put,List.setIfInBounds_toArray,List.set_cons_zero,List.set_cons_succ]
        with_reducible refine still_skip (by kernel_rfl) ?_
        try simp only [Act.put,List.setIfInBounds_toArray,List.set_cons_zero,List.set_cons_succ]
        with_reducible refine still_skip (by kernel_rfl) ?_
        try simp only [Act.put,List.setIfInBounds_toArray,List.set_cons_zero,List.set_cons_succ]
        still_step
        still_step
        refine wpStill_nil ?_
        go_wp2
        go_roundw
        case rel=>exact ⟨i+1,by omega,by go_num,(by first | exact HBQ.out.drew | exact below_drewN HBQ.out _)⟩
        case measure=>simp [intOf];omega
      · as_aux_lemma =>
        subst e
        have hx:exprB 34=true:=by decide
        have ev:v=1:=r3 (by omega)
        subst ev
        obtain ⟨g1,g2,g3⟩:=r7 rfl
        obtain ⟨kb0,ko0,y0,hp0,lb0,d0,z0,ly0,f0⟩:=hkid 0 (by omega)
        obtain ⟨kb1,ko1,y1,hp1,lb1,d1,z1,ly1,f1⟩:=hkid 1 (by omega)
        subst hp0
        cases hp1
        have ly0':(y0:Int)<(n:Int):=by omega
        have dl0:(0:Int)<(cn:Int):=by omega
        have dn0:0<cn:=by omega
        have ly1':(y1:Int)<(n:Int):=by omega
        have dl1:(1:Int)<(cn:Int):=by omega
        have dn1:1<cn:=by omega
        rw [g2] at f0
        rw [g3] at f1
        clear r1 r2 r3 r4 r5 r6 r7 hkid g2 g3 z0 z1
        go_wp2_with (first | (go_at_call 20;refine (hin _).mono ?_;rintro e w' ⟨rfl,rfl⟩) | (go_at_call 12;refine (hxp _).mono ?_;rw [hx];rintro e w' ⟨rfl,rfl⟩))
        obtain ⟨wq,hwq⟩ : ∃ wq,wq=wr.alloc (.cells #[.int .i64 34,.string t,.int .i64 nn,.int .i64 zz,.slice (some ⟨kb0,ko0,none⟩) cn kc,.int .i64 aa] 34):=⟨_,rfl⟩
        have hbq:Below wr.heap.size wr wq:=by rw [hwq];exact (Below.refl _ _).alloc (Nat.le_refl _) _
        have hkq:Blk wq wr.heap.size 34 #[.int .i64 34,.string t,.int .i64 nn,.int .i64 zz,.slice (some ⟨kb0,ko0,none⟩) cn kc,.int .i64 aa]:=by rw [hwq];exact Blk.new _ _ _
        have m0:wq.cell? ⟨wr.heap.size,0,none⟩=some (.int .i64 34):=by rw [hkq.cell];rfl
        have m1:wq.cell? ⟨wr.heap.size,1,none⟩=some (.string t):=by rw [hkq.cell];rfl
        have m4:wq.cell? ⟨wr.heap.size,4,none⟩=some (.slice (some ⟨kb0,ko0,none⟩) cn kc):=by rw [hkq.cell];rfl
        have lm:=hkq.lt
        have fiq:=(hbq.cell (p:=⟨F,i,none⟩) lF).trans hFi
        have lF':=Nat.lt_of_lt_of_le lF hbq.size
        have dq0:=(hbq.cell (p:=⟨kb0,ko0,none⟩) lb0).trans d0
        have fq0:=(hbq.cell (p:=⟨F,y0,none⟩) lF).trans f0
        have dq1:=(hbq.cell (p:=⟨kb0,ko0+1,none⟩) lb0).trans d1
        have fq1:=(hbq.cell (p:=⟨F,y1,none⟩) lF).trans f1
        have lb':=Nat.lt_of_lt_of_le lb0 hbq.size
        have HBQ:=Lib.hid (HBE2.out.trans (hbq.mono HBE2.out.size))
        rw [← hwq]
        clear hwq hbq hkq c0 c1 c2 c3 c4 c5 x4 hFi lF lx hbl d0 f0 d1 f1
        refine wp_region_still_lit hm (by kernel_rfl) ?_
        still_step
        still_step
        still_step
        still_step
        still_step
        still_step
        still_step
        still_step
        still_step
        with_reducible refine still_skip (by kernel_rfl) ?_
        try simp only [Act.put,List.setIfInBounds_toArray,List.set_cons_zero,List.set_cons_succ]
        with_reducible refine still_skip (by kernel_rfl) ?_
        try simp only [Act.put,List.setIfInBounds_toArray,List.set_cons_zero,List.set_cons_succ]
        with_reducible refine still_skip (by kernel_rfl) ?_
        try simp only [Act.put,List.setIfInBounds_toArray,List.set_cons_zero,List.set_cons_succ]
        with_reducible refine still_skip (by kernel_rfl) ?_
        try simp only [Act.put,List.setIfInBounds_toArray,List.set_cons_zero,List.set_cons_succ]
        with_reducible refine still_skip (by kernel_rfl) ?_
        try simp only [Act.put,List.setIfInBounds_toArray,List.set_cons_zero,List.set_cons_succ]
        with_reducible refine still_skip (by kernel_rfl) ?_
        try simp only [Act.put,List.setIfInBounds_toArray,List.set_cons_zero,List.set_cons_succ]
        with_reducible refine still_skip (by kernel_rfl) ?_
        try simp only [Act.put,List.setIfInBounds_toArray,List.set_cons_zero,List.set_cons_succ]
        with_reducible refine still_skip (by kernel_rfl) ?_
        try simp only [Act.put,List.setIfInBounds_toArray,List.set_cons_zero,List.set_cons_succ]
        with_reducible refine still_skip (by kernel_rfl) ?_
        try simp only [Act.put,List.setIfInBounds_toArray,List.set_cons_zero,List.set_cons_succ]
        with_reducible refine still_skip (by kernel_rfl) ?_
        try simp only [Act.put,List.setIfInBounds_toArray,List.set_cons_zero,List.set_cons_succ]
        with_reducible refine still_skip (by kernel_rfl) ?_
        try simp only [Act.put,List.setIfInBounds_toArray,List.set_cons_zero,List.set_cons_succ]
        with_reducible refine still_skip (by kernel_rfl) ?_
        try simp only [Act.put,List.setIfInBounds_toArray,List.set_cons_zero,List.set_cons_succ]
        with_reducible refine still_skip (by kernel_rfl) ?_
        try simp only [Act.put,List.setIfInBounds_toArray,List.set_cons_zero,List.set_cons_succ]
        with_reducible refine still_skip (by kernel_rfl) ?_
        try simp only [Act.put,List.setIfInBounds_toArray,List.set_cons_zero,List.set_cons_succ]
        with_reducible refine still_skip (by kernel_rfl) ?_
        try simp only [Act.put,List.setIfInBounds_toArray,List.set_cons_zero,List.set_cons_succ]
        with_reducible refine still_skip (by kernel_rfl) ?_
        try simp only [Act.put,List.setIfInBounds_toArray,List.set_cons_zero,List.set_cons_succ]
        with_reducible refine still_skip (by kernel_rfl) ?_
        try simp only [Act.put,List.setIfInBounds_toArray,List.set_cons_zero,List.set_cons_succ]
        with_reducible refine still_skip (by kernel_rfl) ?_
        try simp only [Act.put,List.setIfInBounds_toArray,List.set_cons_zero,List.set_cons_succ]
        with_reducible refine still_skip (by kernel_rfl) ?_
        try simp only [Act.put,List.setIfInBounds_toArray,List.set_cons_zero,List.set_cons_succ]
        still_step
        still_step
        still_step
        still_step
        still_step
        still_step
        with_reducible refine still_skip (by kernel_rfl) ?_
        try simp only [Act.put,List.setIfInBounds_toArray,List.set_cons_zero,List.set_cons_succ]
        with_reducible refine still_skip (by kernel_rfl) ?_
        try simp only [Act.put,List.setIfInBounds_toArray,List.set_cons_zero,List.set_cons_succ]
        with_reducible refine still_skip (by kernel_rfl) ?_
        try simp only [Act.put,List.setIfInBounds_toArray,List.set_cons_zero,List.set_cons_succ]
        with_reducible refine still_skip (by kernel_rfl) ?_
        try simp only [Act.put,List.setIfInBounds_toArray,List.set_cons_zero,List.set_cons_succ]
        with_reducible refine still_skip (by kernel_rfl) ?_
        try simp only [Act.put,List.setIfInBounds_toArray,List.set_cons_zero,List.set_cons_succ]
        with_reducible refine still_skip (by kernel_rfl) ?_
        try simp only [Act.put,List.setIfInBounds_toArray,List.set_cons_zero,List.set_cons_succ]
        with_reducible refine still_skip (by kernel_rfl) ?_
        try simp only [Act.put,List.setIfInBounds_toArray,List.set_cons_zero,List.set_cons_succ]
        with_reducible refine still_skip (by kernel_rfl) ?_
        try simp only [Act.put,List.setIfInBounds_toArray,List.set_cons_zero,List.set_cons_succ]
        with_reducible refine still_skip (by kernel_rfl) ?_
        try simp only [Act.put,List.setIfInBounds_toArray,List.set_cons_zero,List.set_cons_succ]
        with_reducible refine still_skip (by kernel_rfl) ?_
        try simp only [Act.put,List.setIfInBounds_toArray,List.set_cons_zero,List.set_cons_succ]
        with_reducible refine still_skip (by kernel_rfl) ?_
        try simp only [Act.put,List.setIfInBounds_toArray,List.set_cons_zero,List.set_cons_succ]
        with_reducible refine still_skip (by kernel_rfl) ?_
        try simp only [Act.put,List.setIfInBounds_toArray,List.set_cons_zero,List.set_cons_succ]
        with_reducible refine still_skip (by kernel_rfl) ?_
        try simp only [Act.put,List.setIfInBounds_toArray,List.set_cons_zero,List.set_cons_succ]
        with_reducible refine still_skip (by kernel_rfl) ?_
        try simp only [Act.put,List.setIfInBounds_toArray,List.set_cons_zero,List.set_cons_succ]
        with_reducible refine still_skip (by kernel_rfl) ?_
        try simp only [Act.put,List.setIfInBounds_toArray,List.set_cons_zero,List.set_cons_succ]
        with_reducible refine still_skip (by kernel_rfl) ?_
        try simp only [Act.put,List.setIfInBounds_toArray,List.set_cons_zero,List.set_cons_succ]
        with_reducible refine still_skip (by kernel_rfl) ?_
        try simp only [Act.put,List.setIfInBounds_toArray,List.set_cons_zero,List.set_cons_succ]
        with_reducible refine still_skip (by kernel_rfl) ?_
        try simp only [Act.put,List.setIfInBounds_toArray,List.set_cons_zero,List.set_cons_succ]
        with_reducible refine still_skip (by kernel_rfl) ?_
        try simp only [Act.put,List.setIfInBounds_toArray,List.set_cons_zero,List.set_cons_succ]
        with_reducible refine still_skip (by kernel_rfl) ?_
        try simp only [Act.put,List.setIfInBounds_toArray,List.set_cons_zero,List.set_cons_succ]
        with_reducible refine still_skip (by kernel_rfl) ?_
        try simp only [Act.put,List.setIfInBounds_toArray,List.set_cons_zero,List.set_cons_succ]
        with_reducible refine still_skip (by kernel_rfl) ?_
        try simp only [Act.put,List.setIfInBounds_toArray,List.set_cons_zero,List.set_cons_succ]
        with_reducible refine still_skip (by kernel_rfl) ?_
        try simp only [Act.put,List.setIfInBounds_toArray,List.set_cons_zero,List.set_cons_succ]
        with_reducible refine still_skip (by kernel_rfl) ?_
        try simp only [Act.put,List.setIfInBounds_toArray,List.set_cons_zero,List.set_cons_succ]
        with_reducible refine still_skip (by kernel_rfl) ?_
        try simp only [Act.put,List.setIfInBounds_toArray,List.set_cons_zero,List.set_cons_succ]
        with_reducible refine still_skip (by kernel_rfl) ?_
        try simp only [Act.put,List.setIfInBounds_toArray,List.set_cons_zero,List.set_cons_succ]
        still_step
        still_step
        refine wpStill_nil ?_
        go_wp2
        go_roundw
        case rel=>exact ⟨i+1,by omega,by go_num,(by first | exact HBQ.out.drew | exact below_drewN HBQ.out _)⟩
        case measure=>simp [intOf];omega
      · as_aux_lemma =>
        subst e
        have hx:exprB 37=true:=by decide
        have ev:v=1:=r3 (by omega)
        subst ev
        clear r1 r2 r3 r4 r5 r6 r7 hkid
        go_wp2_with (first | (go_at_call 20;refine (hin _).mono ?_;rintro e w' ⟨rfl,rfl⟩) | (go_at_call 12;refine (hxp _).mono ?_;rw [hx];rintro e w' ⟨rfl,rfl⟩))
        obtain ⟨wq,hwq⟩ : ∃ wq,wq=wr.alloc (.cells #[.int .i64 37,.string t,.int .i64 nn,.int .i64 zz,.slice kp cn kc,.int .i64 aa] 34):=⟨_,rfl⟩
        have hbq:Below wr.heap.size wr wq:=by rw [hwq];exact (Below.refl _ _).alloc (Nat.le_refl _) _
        have hkq:Blk wq wr.heap.size 34 #[.int .i64 37,.string t,.int .i64 nn,.int .i64 zz,.slice kp cn kc,.int .i64 aa]:=by rw [hwq];exact Blk.new _ _ _
        have m0:wq.cell? ⟨wr.heap.size,0,none⟩=some (.int .i64 37):=by rw [hkq.cell];rfl
        have m1:wq.cell? ⟨wr.heap.size,1,none⟩=some (.string t):=by rw [hkq.cell];rfl
        have m4:wq.cell? ⟨wr.heap.size,4,none⟩=some (.slice kp cn kc):=by rw [hkq.cell];rfl
        have lm:=hkq.lt
        have fiq:=(hbq.cell (p:=⟨F,i,none⟩) lF).trans hFi
        have lF':=Nat.lt_of_lt_of_le lF hbq.size
        have HBQ:=Lib.hid (HBE2.out.trans (hbq.mono HBE2.out.size))
        rw [← hwq]
        clear hwq hbq hkq c0 c1 c2 c3 c4 c5 x4 hFi lF lx hbl
        refine wp_region_still_lit hm (by kernel_rfl) ?_
        still_step
        still_step
        still_step
        still_step
        still_step
        still_step
        still_step
        still_step
        still_step
        with_reducible refine still_skip (by kernel_rfl) ?_
        try simp only [Act.put,List.setIfInBounds_toArray,List.set_cons_zero,List.set_cons_succ]
        with_reducible refine still_skip (by kernel_rfl) ?_
        try simp only [Act.put,List.setIfInBounds_toArray,List.set_cons_zero,List.set_cons_succ]
        with_reducible refine still_skip (by kernel_rfl) ?_
        try simp only [Act.put,List.setIfInBounds_toArray,List.set_cons_zero,List.set_cons_succ]
        with_reducible refine still_skip (by kernel_rfl) ?_
        try simp only [Act.put,List.setIfInBounds_toArray,List.set_cons_zero,List.set_cons_succ]
        with_reducible refine still_skip (by kernel_rfl) ?_
        try simp only [Act.put,List.setIfInBounds_toArray,List.set_cons_zero,List.set_cons_succ]
        with_reducible refine still_skip (by kernel_rfl) ?_
        try simp only [Act.put,List.setIfInBounds_toArray,List.set_cons_zero,List.set_cons_succ]
        with_reducible refine still_skip (by kernel_rfl) ?_
        try simp only [Act.put,List.setIfInBounds_toArray,List.set_cons_zero,List.set_cons_succ]
        with_reducible refine still_skip (by kernel_rfl) ?_
        try simp only [Act.put,List.setIfInBounds_toArray,List.set_cons_zero,List.set_cons_succ]
        with_reducible refine still_skip (by kernel_rfl) ?_
        try simp only [Act.put,List.setIfInBounds_toArray,List.set_cons_zero,List.set_cons_succ]
        with_reducible refine still_skip (by kernel_rfl) ?_
        try simp only [Act.put,List.setIfInBounds_toArray,List.set_cons_zero,List.set_cons_succ]
        with_reducible refine still_skip (by kernel_rfl) ?_
        try simp only [Act.put,List.setIfInBounds_toArray,List.set_cons_zero,List.set_cons_succ]
        with_reducible refine still_skip (by kernel_rfl) ?_
        try simp only [Act.put,List.setIfInBounds_toArray,List.set_cons_zero,List.set_cons_succ]
        with_reducible refine still_skip (by kernel_rfl) ?_
        try simp only [Act.put,List.setIfInBounds_toArray,List.set_cons_zero,List.set_cons_succ]
        with_reducible refine still_skip (by kernel_rfl) ?_
        try simp only [Act.put,List.setIfInBounds_toArray,List.set_cons_zero,List.set_cons_succ]
        with_reducible refine still_skip (by kernel_rfl) ?_
        try simp only [Act.put,List.setIfInBounds_toArray,List.set_cons_zero,List.set_cons_succ]
        with_reducible refine still_skip (by kernel_rfl) ?_
        try simp only [Act.put,List.setIfInBounds_toArray,List.set_cons_zero,List.set_cons_succ]
        with_reducible refine still_skip (by kernel_rfl) ?_
        try simp only [Act.put,List.setIfInBounds_toArray,List.set_cons_zero,List.set_cons_succ]
        with_reducible refine still_skip (by kernel_rfl) ?_
        try simp only [Act.put,List.setIfInBounds_toArray,List.set_cons_zero,List.set_cons_succ]
        with_reducible refine still_skip (by kernel_rfl) ?_
        try simp only [Act.put,List.setIfInBounds_toArray,List.set_cons_zero,List.set_cons_succ]
        still_step
        still_step
        still_step
        still_step
        still_step
        still_step
        with_reducible refine still_skip (by kernel_rfl) ?_
        try simp only [Act.put,List.setIfInBounds_toArray,List.set_cons_zero,List.set_cons_succ]
        with_reducible refine still_skip (by kernel_rfl) ?_
        try simp only [Act.put,List.setIfInBounds_toArray,List.set_cons_zero,List.set_cons_succ]
        with_reducible refine still_skip (by kernel_rfl) ?_
        try simp only [Act.put,List.setIfInBounds_toArray,List.set_cons_zero,List.set_cons_succ]
        with_reducible refine still_skip (by kernel_rfl) ?_
        try simp only [Act.put,List.setIfInBounds_toArray,List.set_cons_zero,List.set_cons_succ]
        with_reducible refine still_skip (by kernel_rfl) ?_
        try simp only [Act.put,List.setIfInBounds_toArray,List.set_cons_zero,List.set_cons_succ]
        with_reducible refine still_skip (by kernel_rfl) ?_
        try simp only [Act.put,List.setIfInBounds_toArray,List.set_cons_zero,List.set_cons_succ]
        with_reducible refine still_skip (by kernel_rfl) ?_
        try simp only [Act.put,List.setIfInBounds_toArray,List.set_cons_zero,List.set_cons_succ]
        with_reducible refine still_skip (by kernel_rfl) ?_
        try simp only [Act.put,List.setIfInBounds_toArray,List.set_cons_zero,List.set_cons_succ]
        with_reducible refine still_skip (by kernel_rfl) ?_
        try simp only [Act.put,List.setIfInBounds_toArray,List.set_cons_zero,List.set_cons_succ]
        with_reducible refine still_skip (by kernel_rfl) ?_
        try simp only [Act.put,List.setIfInBounds_toArray,List.set_cons_zero,List.set_cons_succ]
        with_reducible refine still_skip (by kernel_rfl) ?_
        try simp only [Act.put,List.setIfInBounds_toArray,List.set_cons_zero,List.set_cons_succ]
        with_reducible refine still_skip (by kernel_rfl) ?_
        try simp only [Act.put,List.setIfInBounds_toArray,List.set_cons_zero,List.set_cons_succ]
        with_reducible refine still_skip (by kernel_rfl) ?_
        try simp only [Act.put,List.setIfInBounds_toArray,List.set_cons_zero,List.set_cons_succ]
        with_reducible refine still_skip (by kernel_rfl) ?_
        try simp only [Act.put,List.setIfInBounds_toArray,List.set_cons_zero,List.set_cons_succ]
        with_reducible refine still_skip (by kernel_rfl) ?_
        try simp only [Act.put,List.setIfInBounds_toArray,List.set_cons_zero,List.set_cons_succ]
        with_reducible refine still_skip (by kernel_rfl) ?_
        try simp only [Act.put,List.setIfInBounds_toArray,List.set_cons_zero,List.set_cons_succ]
        with_reducible refine still_skip (by kernel_rfl) ?_
        try simp only [Act.put,List.setIfInBounds_toArray,List.set_cons_zero,List.set_cons_succ]
        with_reducible refine still_skip (by kernel_rfl) ?_
        try simp only [Act.put,List.setIfInBounds_toArray,List.set_cons_zero,List.set_cons_succ]
        with_reducible refine still_skip (by kernel_rfl) ?_
        try simp only [Act.put,List.setIfInBounds_toArray,List.set_cons_zero,List.set_cons_succ]
        with_reducible refine still_skip (by kernel_rfl) ?_
        try simp only [Act.put,List.setIfInBounds_toArray,List.set_cons_zero,List.set_cons_succ]
        with_reducible refine still_skip (by kernel_rfl) ?_
        try simp only [Act.put,List.setIfInBounds_toArray,List.set_cons_zero,List.set_cons_succ]
        with_reducible refine still_skip (by kernel_rfl) ?_
        try simp only [Act.put,List.setIfInBounds_toArray,List.set_cons_zero,List.set_cons_succ]
        with_reducible refine still_skip (by kernel_rfl) ?_
        try simp only [Act.put,List.setIfInBounds_toArray,List.set_cons_zero,List.set_cons_succ]
        with_reducible refine still_skip (by kernel_rfl) ?_
        try simp only [Act.put,List.setIfInBounds_toArray,List.set_cons_zero,List.set_cons_succ]
        with_reducible refine still_skip (by kernel_rfl) ?_
        try simp only [Act.put,List.setIfInBounds_toArray,List.set_cons_zero,List.set_cons_succ]
        with_reducible refine still_skip (by kernel_rfl) ?_
        try simp only [Act.put,List.setIfInBounds_toArray,List.set_cons_zero,List.set_cons_succ]
        still_step
        still_step
        refine wpStill_nil ?_
        go_wp2
        go_roundw
        case rel=>exact ⟨i+1,by omega,by go_num,(by first | exact HBQ.out.drew | exact below_drewN HBQ.out _)⟩
        case measure=>simp [intOf];omega
      · as_aux_lemma =>
        subst e
        have hx:exprB 35=true:=by decide
        have ev:v=1:=r3 (Or.inr (Or.inr (Or.inr ⟨rfl,q⟩)))
        subst ev
        have t1:(t.toList == [38])=false:=by simpa using q
        have t2:(t.toList != [38])=true:=by simpa using q
        clear r1 r2 r3 r4 r5 r6 r7 hkid q
        go_wp2_with (first | (go_at_call 20;refine (hin _).mono ?_;rintro e w' ⟨rfl,rfl⟩) | (go_at_call 12;refine (hxp _).mono ?_;rw [hx];rintro e w' ⟨rfl,rfl⟩))
        obtain ⟨wq,hwq⟩ : ∃ wq,wq=wr.alloc (.cells #[.int .i64 35,.string t,.int .i64 nn,.int .i64 zz,.slice kp cn kc,.int .i64 aa] 34):=⟨_,rfl⟩
        have hbq:Below wr.heap.size wr wq:=by rw [hwq];exact (Below.refl _ _).alloc (Nat.le_refl _) _
        have hkq:Blk wq wr.heap.size 34 #[.int .i64 35,.string t,.int .i64 nn,.int .i64 zz,.slice kp cn kc,.int .i64 aa]:=by rw [hwq];exact Blk.new _ _ _
        have m0:wq.cell? ⟨wr.heap.size,0,none⟩=some (.int .i64 35):=by rw [hkq.cell];rfl
        have m1:wq.cell? ⟨wr.heap.size,1,none⟩=some (.string t):=by rw [hkq.cell];rfl
        have m4:wq.cell? ⟨wr.heap.size,4,none⟩=some (.slice kp cn kc):=by rw [hkq.cell];rfl
        have lm:=hkq.lt
        have fiq:=(hbq.cell (p:=⟨F,i,none⟩) lF).trans hFi
        have lF':=Nat.lt_of_lt_of_le lF hbq.size
        have HBQ:=Lib.hid (HBE2.out.trans (hbq.mono HBE2.out.size))
        rw [← hwq]
        clear hwq hbq hkq c0 c1 c2 c3 c4 c5 x4 hFi lF lx hbl
        refine wp_region_still_lit hm (by kernel_rfl) ?_
        still_step
        still_step
        still_step
        still_step
        still_step
        still_step
        still_step
        still_step
        still_step
        with_reducible refine still_skip (by kernel_rfl) ?_
        try simp only [Act.put,List.setIfInBounds_toArray,List.set_cons_zero,List.set_cons_succ]
        with_reducible refine still_skip (by kernel_rfl) ?_
        try simp only [Act.put,List.setIfInBounds_toArray,List.set_cons_zero,List.set_cons_succ]
        with_reducible refine still_skip (by kernel_rfl) ?_
        try simp only [Act.put,List.setIfInBounds_toArray,List.set_cons_zero,List.set_cons_succ]
        with_reducible refine still_skip (by kernel_rfl) ?_
        try simp only [Act.put,List.setIfInBounds_toArray,List.set_cons_zero,List.set_cons_succ]
        with_reducible refine still_skip (by kernel_rfl) ?_
        try simp only [Act.put,List.setIfInBounds_toArray,List.set_cons_zero,List.set_cons_succ]
        with_reducible refine still_skip (by kernel_rfl) ?_
        try simp only [Act.put,List.setIfInBounds_toArray,List.set_cons_zero,List.set_cons_succ]
        with_reducible refine still_skip (by kernel_rfl) ?_
        try simp only [Act.put,List.setIfInBounds_toArray,List.set_cons_zero,List.set_cons_succ]
        with_reducible refine still_skip (by kernel_rfl) ?_
        try simp only [Act.put,List.setIfInBounds_toArray,List.set_cons_zero,List.set_cons_succ]
        with_reducible refine still_skip (by kernel_rfl) ?_
        try simp only [Act.put,List.setIfInBounds_toArray,List.set_cons_zero,List.set_cons_succ]
        with_reducible refine still_skip (by kernel_rfl) ?_
        try simp only [Act.put,List.setIfInBounds_toArray,List.set_cons_zero,List.set_cons_succ]
        with_reducible refine still_skip (by kernel_rfl) ?_
        try simp only [Act.put,List.setIfInBounds_toArray,List.set_cons_zero,List.set_cons_succ]
        with_reducible refine still_skip (by kernel_rfl) ?_
        try simp only [Act.put,List.setIfInBounds_toArray,List.set_cons_zero,List.set_cons_succ]
        with_reducible refine still_skip (by kernel_rfl) ?_
        try simp only [Act.put,List.setIfInBounds_toArray,List.set_cons_zero,List.set_cons_succ]
        with_reducible refine still_skip (by kernel_rfl) ?_
        try simp only [Act.put,List.setIfInBounds_toArray,List.set_cons_zero,List.set_cons_succ]
        with_reducible refine still_skip (by kernel_rfl) ?_
        try simp only [Act.put,List.setIfInBounds_toArray,List.set_cons_zero,List.set_cons_succ]
        with_reducible refine still_skip (by kernel_rfl) ?_
        try simp only [Act.put,List.setIfInBounds_toArray,List.set_cons_zero,List.set_cons_succ]
        with_reducible refine still_skip (by kernel_rfl) ?_
        try simp only [Act.put,List.setIfInBounds_toArray,List.set_cons_zero,List.set_cons_succ]
        with_reducible refine still_skip (by kernel_rfl) ?_
        try simp only [Act.put,List.setIfInBounds_toArray,List.set_cons_zero,List.set_cons_succ]
        with_reducible refine still_skip (by kernel_rfl) ?_
        try simp only [Act.put,List.setIfInBounds_toArray,List.set_cons_zero,List.set_cons_succ]
        still_step
        still_step
        still_step
        still_step
        still_step
        still_step
        with_reducible refine still_skip (by kernel_rfl) ?_
        try simp only [Act.put,List.setIfInBounds_toArray,List.set_cons_zero,List.set_cons_succ]
        with_reducible refine still_skip (by kernel_rfl) ?_
        try simp only [Act.put,List.setIfInBounds_toArray,List.set_cons_zero,List.set_cons_succ]
        with_reducible refine still_skip (by kernel_rfl) ?_
        try simp only [Act.put,List.setIfInBounds_toArray,List.set_cons_zero,List.set_cons_succ]
        with_reducible refine still_skip (by kernel_rfl) ?_
        try simp only [Act.put,List.setIfInBounds_toArray,List.set_cons_zero,List.set_cons_succ]
        with_reducible refine still_skip (by kernel_rfl) ?_
        try simp only [Act.put,List.setIfInBounds_toArray,List.set_cons_zero,List.set_cons_succ]
        with_reducible refine still_skip (by kernel_rfl) ?_
        try simp only [Act.put,List.setIfInBounds_toArray,List.set_cons_zero,List.set_cons_succ]
        with_reducible refine still_skip (by kernel_rfl) ?_
        try simp only [Act.put,List.setIfInBounds_toArray,List.set_cons_zero,List.set_cons_succ]
        with_reducible refine still_skip (by kernel_rfl) ?_
        try simp only [Act.put,List.setIfInBounds_toArray,List.set_cons_zero,List.set_cons_succ]
        with_reducible refine still_skip (by kernel_rfl) ?_
        try simp only [Act.put,List.setIfInBounds_toArray,List.set_cons_zero,List.set_cons_succ]
        with_reducible refine still_skip (by kernel_rfl) ?_
        try simp only [Act.put,List.setIfInBounds_toArray,List.set_cons_zero,List.set_cons_succ]
        with_reducible refine still_skip (by kernel_rfl) ?_
        try simp only [Act.put,List.setIfInBounds_toArray,List.set_cons_zero,List.set_cons_succ]
        with_reducible refine still_skip (by kernel_rfl) ?_
        try simp only [Act.put,List.setIfInBounds_toArray,List.set_cons_zero,List.set_cons_succ]
        with_reducible refine still_skip (by kernel_rfl) ?_
        try simp only [Act.put,List.setIfInBounds_toArray,List.set_cons_zero,List.set_cons_succ]
        with_reducible refine still_skip (by kernel_rfl) ?_
        try simp only [Act.put,List.setIfInBounds_toArray,List.set_cons_zero,List.set_cons_succ]
        with_reducible refine still_skip (by kernel_rfl) ?_
        try simp only [Act.put,List.setIfInBounds_toArray,List.set_cons_zero,List.set_cons_succ]
        with_reducible refine still_skip (by kernel_rfl) ?_
        try simp only [Act.put,List.setIfInBounds_toArray,List.set_cons_zero,List.set_cons_succ]
        with_reducible refine still_skip (by kernel_rfl) ?_
        try simp only [Act.put,List.setIfInBounds_toArray,List.set_cons_zero,List.set_cons_succ]
        with_reducible refine still_skip (by kernel_rfl) ?_
        try simp only [Act.put,List.setIfInBounds_toArray,List.set_cons_zero,List.set_cons_succ]
        with_reducible refine still_skip (by kernel_rfl) ?_
        try simp only [Act.put,List.setIfInBounds_toArray,List.set_cons_zero,List.set_cons_succ]
        with_reducible refine still_skip (by kernel_rfl) ?_
        try simp only [Act.put,List.setIfInBounds_toArray,List.set_cons_zero,List.set_cons_succ]
        with_reducible refine still_skip (by kernel_rfl) ?_
        try simp only [Act.put,List.setIfInBounds_toArray,List.set_cons_zero,List.set_cons_succ]
        with_reducible refine still_skip (by kernel_rfl) ?_
        try simp only [Act.put,List.setIfInBounds_toArray,List.set_cons_zero,List.set_cons_succ]
        with_reducible refine still_skip (by kernel_rfl) ?_
        try simp only [Act.put,List.setIfInBounds_toArray,List.set_cons_zero,List.set_cons_succ]
        with_reducible refine still_skip (by kernel_rfl) ?_
        try simp only [Act.put,List.setIfInBounds_toArray,List.set_cons_zero,List.set_cons_succ]
        with_reducible refine still_skip (by kernel_rfl) ?_
        try simp only [Act.put,List.setIfInBounds_toArray,List.set_cons_zero,List.set_cons_succ]
        with_reducible refine still_skip (by kernel_rfl) ?_
        try simp only [Act.put,List.setIfInBounds_toArray,List.set_cons_zero,List.set_cons_succ]
        still_step
        still_step
        refine wpStill_nil ?_
        go_wp2
        go_roundw
        case rel=>exact ⟨i+1,by omega,by go_num,(by first | exact HBQ.out.drew | exact below_drewN HBQ.out _)⟩
        case measure=>simp [intOf];omega
      · as_aux_lemma =>
        subst e
        have hx:exprB 35=true:=by decide
        have ev:v=2:=r4 rfl q
        subst ev
        have t1:(t.toList == [38])=true:=by rw [q];rfl
        have t2:(t.toList != [38])=false:=by rw [q];rfl
        clear r1 r2 r3 r4 r5 r6 r7 hkid q
        go_wp2_with (first | (go_at_call 20;refine (hin _).mono ?_;rintro e w' ⟨rfl,rfl⟩) | (go_at_call 12;refine (hxp _).mono ?_;rw [hx];rintro e w' ⟨rfl,rfl⟩))
        obtain ⟨wq,hwq⟩ : ∃ wq,wq=wr.alloc (.cells #[.int .i64 35,.string t,.int .i64 nn,.int .i64 zz,.slice kp cn kc,.int .i64 aa] 34):=⟨_,rfl⟩
        have hbq:Below wr.heap.size wr wq:=by rw [hwq];exact (Below.refl _ _).alloc (Nat.le_refl _) _
        have hkq:Blk wq wr.heap.size 34 #[.int .i64 35,.string t,.int .i64 nn,.int .i64 zz,.slice kp cn kc,.int .i64 aa]:=by rw [hwq];exact Blk.new _ _ _
        have m0:wq.cell? ⟨wr.heap.size,0,none⟩=some (.int .i64 35):=by rw [hkq.cell];rfl
        have m1:wq.cell? ⟨wr.heap.size,1,none⟩=some (.string t):=by rw [hkq.cell];rfl
        have m4:wq.cell? ⟨wr.heap.size,4,none⟩=some (.slice kp cn kc):=by rw [hkq.cell];rfl
        have lm:=hkq.lt
        have fiq:=(hbq.cell (p:=⟨F,i,none⟩) lF).trans hFi
        have lF':=Nat.lt_of_lt_of_le lF hbq.size
        have HBQ:=Lib.hid (HBE2.out.trans (hbq.mono HBE2.out.size))
        rw [← hwq]
        clear hwq hbq hkq c0 c1 c2 c3 c4 c5 x4 hFi lF lx hbl
        refine wp_region_still_lit hm (by kernel_rfl) ?_
        still_step
        still_step
        still_step
        still_step
        still_step
        still_step
        still_step
        still_step
        still_step
        with_reducible refine still_skip (by kernel_rfl) ?_
        try simp only [Act.put,List.setIfInBounds_toArray,List.set_cons_zero,List.set_cons_succ]
        with_reducible refine still_skip (by kernel_rfl) ?_
        try simp only [Act.put,List.setIfInBounds_toArray,List.set_cons_zero,List.set_cons_succ]
        with_reducible refine still_skip (by kernel_rfl) ?_
        try simp only [Act.put,List.setIfInBounds_toArray,List.set_cons_zero,List.set_cons_succ]
        with_reducible refine still_skip (by kernel_rfl) ?_
        try simp only [Act.put,List.setIfInBounds_toArray,List.set_cons_zero,List.set_cons_succ]
        with_reducible refine still_skip (by kernel_rfl) ?_
        try simp only [Act.put,List.setIfInBounds_toArray,List.set_cons_zero,List.set_cons_succ]
        with_reducible refine still_skip (by kernel_rfl) ?_
        try simp only [Act.put,List.setIfInBounds_toArray,List.set_cons_zero,List.set_cons_succ]
        with_reducible refine still_skip (by kernel_rfl) ?_
        try simp only [Act.put,List.setIfInBounds_toArray,List.set_cons_zero,List.set_cons_succ]
        with_reducible refine still_skip (by kernel_rfl) ?_
        try simp only [Act.put,List.setIfInBounds_toArray,List.set_cons_zero,List.set_cons_succ]
        with_reducible refine still_skip (by kernel_rfl) ?_
        try simp only [Act.put,List.setIfInBounds_toArray,List.set_cons_zero,List.set_cons_succ]
        with_reducible refine still_skip (by kernel_rfl) ?_
        try simp only [Act.put,List.setIfInBounds_toArray,List.set_cons_zero,List.set_cons_succ]
        with_reducible refine still_skip (by kernel_rfl) ?_
        try simp only [Act.put,List.setIfInBounds_toArray,List.set_cons_zero,List.set_cons_succ]
        with_reducible refine still_skip (by kernel_rfl) ?_
        try simp only [Act.put,List.setIfInBounds_toArray,List.set_cons_zero,List.set_cons_succ]
        with_reducible refine still_skip (by kernel_rfl) ?_
        try simp only [Act.put,List.setIfInBounds_toArray,List.set_cons_zero,List.set_cons_succ]
        with_reducible refine still_skip (by kernel_rfl) ?_
        try simp only [Act.put,List.setIfInBounds_toArray,List.set_cons_zero,List.set_cons_succ]
        with_reducible refine still_skip (by kernel_rfl) ?_
        try simp only [Act.put,List.setIfInBounds_toArray,List.set_cons_zero,List.set_cons_succ]
        with_reducible refine still_skip (by kernel_rfl) ?_
        try simp only [Act.put,List.setIfInBounds_toArray,List.set_cons_zero,List.set_cons_succ]
        with_reducible refine still_skip (by kernel_rfl) ?_
        try simp only [Act.put,List.setIfInBounds_toArray,List.set_cons_zero,List.set_cons_succ]
        with_reducible refine still_skip (by kernel_rfl) ?_
        try simp only [Act.put,List.setIfInBounds_toArray,List.set_cons_zero,List.set_cons_succ]
        with_reducible refine still_skip (by kernel_rfl) ?_
        try simp only [Act.put,List.setIfInBounds_toArray,List.set_cons_zero,List.set_cons_succ]
        still_step
        still_step
        still_step
        still_step
        still_step
        still_step
        with_reducible refine still_skip (by kernel_rfl) ?_
        try simp only [Act.put,List.setIfInBounds_toArray,List.set_cons_zero,List.set_cons_succ]
        with_reducible refine still_skip (by kernel_rfl) ?_
        try simp only [Act.put,List.setIfInBounds_toArray,List.set_cons_zero,List.set_cons_succ]
        with_reducible refine still_skip (by kernel_rfl) ?_
        try simp only [Act.put,List.setIfInBounds_toArray,List.set_cons_zero,List.set_cons_succ]
        with_reducible refine still_skip (by kernel_rfl) ?_
        try simp only [Act.put,List.setIfInBounds_toArray,List.set_cons_zero,List.set_cons_succ]
        with_reducible refine still_skip (by kernel_rfl) ?_
        try simp only [Act.put,List.setIfInBounds_toArray,List.set_cons_zero,List.set_cons_succ]
        with_reducible refine still_skip (by kernel_rfl) ?_
        try simp only [Act.put,List.setIfInBounds_toArray,List.set_cons_zero,List.set_cons_succ]
        with_reducible refine still_skip (by kernel_rfl) ?_
        try simp only [Act.put,List.setIfInBounds_toArray,List.set_cons_zero,List.set_cons_succ]
        with_reducible refine still_skip (by kernel_rfl) ?_
        try simp only [Act.put,List.setIfInBounds_toArray,List.set_cons_zero,List.set_cons_succ]
        with_reducible refine still_skip (by kernel_rfl) ?_
        try simp only [Act.put,List.setIfInBounds_toArray,List.set_cons_zero,List.set_cons_succ]
        with_reducible refine still_skip (by kernel_rfl) ?_
        try simp only [Act.put,List.setIfInBounds_toArray,List.set_cons_zero,List.set_cons_succ]
        with_reducible refine still_skip (by kernel_rfl) ?_
        try simp only [Act.put,List.setIfInBounds_toArray,List.set_cons_zero,List.set_cons_succ]
        with_reducible refine still_skip (by kernel_rfl) ?_
        try simp only [Act.put,List.setIfInBounds_toArray,List.set_cons_zero,List.set_cons_succ]
        with_reducible refine still_skip (by kernel_rfl) ?_
        try simp only [Act.put,List.setIfInBounds_toArray,List.set_cons_zero,List.set_cons_succ]
        with_reducible refine still_skip (by kernel_rfl) ?_
        try simp only [Act.put,List.setIfInBounds_toArray,List.set_cons_zero,List.set_cons_succ]
        with_reducible refine still_skip (by kernel_rfl) ?_
        try simp only [Act.put,List.setIfInBounds_toArray,List.set_cons_zero,List.set_cons_succ]
        with_reducible refine still_skip (by kernel_rfl) ?_
        try simp only [Act.put,List.setIfInBounds_toArray,List.set_cons_zero,List.set_cons_succ]
        with_reducible refine still_skip (by kernel_rfl) ?_
        try simp only [Act.put,List.setIfInBounds_toArray,List.set_cons_zero,List.set_cons_succ]
        with_reducible refine still_skip (by kernel_rfl) ?_
        try simp only [Act.put,List.setIfInBounds_toArray,List.set_cons_zero,List.set_cons_succ]
        with_reducible refine still_skip (by kernel_rfl) ?_
        try simp only [Act.put,List.setIfInBounds_toArray,List.set_cons_zero,List.set_cons_succ]
        with_reducible refine still_skip (by kernel_rfl) ?_
        try simp only [Act.put,List.setIfInBounds_toArray,List.set_cons_zero,List.set_cons_succ]
        with_reducible refine still_skip (by kernel_rfl) ?_
        try simp only [Act.put,List.setIfInBounds_toArray,List.set_cons_zero,List.set_cons_succ]
        with_reducible refine still_skip (by kernel_rfl) ?_
        try simp only [Act.put,List.setIfInBounds_toArray,List.set_cons_zero,List.set_cons_succ]
        with_reducible refine still_skip (by kernel_rfl) ?_
        try simp only [Act.put,List.setIfInBounds_toArray,List.set_cons_zero,List.set_cons_succ]
        with_reducible refine still_skip (by kernel_rfl) ?_
        try simp only [Act.put,List.setIfInBounds_toArray,List.set_cons_zero,List.set_cons_succ]
        with_reducible refine still_skip (by kernel_rfl) ?_
        try simp only [Act.put,List.setIfInBounds_toArray,List.set_cons_zero,List.set_cons_succ]
        with_reducible refine still_skip (by kernel_rfl) ?_
        try simp only [Act.put,List.setIfInBounds_toArray,List.set_cons_zero,List.set_cons_succ]
        still_step
        still_step
        refine wpStill_nil ?_
        go_wp2
        go_roundw
        case rel=>exact ⟨i+1,by omega,by go_num,(by first | exact HBQ.out.drew | exact below_drewN HBQ.out _)⟩
        case measure=>simp [intOf];omega
      · as_aux_lemma =>
        subst e
        have hx:exprB 39=true:=by decide
        obtain ⟨g1,g2,g3⟩:=r5 (by omega)
        have v0:(v == 0)=false:=by simpa using g2
        obtain ⟨kb0,ko0,y0,hp0,lb0,d0,z0,ly0,f0⟩:=hkid 0 (by omega)
        subst hp0
        have ly0':(y0:Int)<(n:Int):=by omega
        have dl0:(0:Int)<(cn:Int):=by omega
        have dn0:0<cn:=by omega
        rw [← g3] at f0
        have vv:(v != v)=false:=by simp
        clear r1 r2 r3 r4 r5 r6 r7 hkid g2 g3 z0
        go_wp2_with (first | (go_at_call 20;refine (hin _).mono ?_;rintro e w' ⟨rfl,rfl⟩) | (go_at_call 12;refine (hxp _).mono ?_;rw [hx];rintro e w' ⟨rfl,rfl⟩))
        obtain ⟨wq,hwq⟩ : ∃ wq,wq=wr.alloc (.cells #[.int .i64 39,.string t,.int .i64 nn,.int .i64 zz,.slice (some ⟨kb0,ko0,none⟩) cn kc,.int .i64 aa] 34):=⟨_,rfl⟩
        have hbq:Below wr.heap.size wr wq:=by rw [hwq];exact (Below.refl _ _).alloc (Nat.le_refl _) _
        have hkq:Blk wq wr.heap.size 34 #[.int .i64 39,.string t,.int .i64 nn,.int .i64 zz,.slice (some ⟨kb0,ko0,none⟩) cn kc,.int .i64 aa]:=by rw [hwq];exact Blk.new _ _ _
        have m0:wq.cell? ⟨wr.heap.size,0,none⟩=some (.int .i64 39):=by rw [hkq.cell];rfl
        have m1:wq.cell? ⟨wr.heap.size,1,none⟩=some (.string t):=by rw [hkq.cell];rfl
        have m4:wq.cell? ⟨wr.heap.size,4,none⟩=some (.slice (some ⟨kb0,ko0,none⟩) cn kc):=by rw [hkq.cell];rfl
        have lm:=hkq.lt
        have fiq:=(hbq.cell (p:=⟨F,i,none⟩) lF).trans hFi
        have lF':=Nat.lt_of_lt_of_le lF hbq.size
        have dq0:=(hbq.cell (p:=⟨kb0,ko0,none⟩) lb0).trans d0
        have fq0:=(hbq.cell (p:=⟨F,y0,none⟩) lF).trans f0
        have lb':=Nat.lt_of_lt_of_le lb0 hbq.size
        have HBQ:=Lib.hid (HBE2.out.trans (hbq.mono HBE2.out.size))
        rw [← hwq]
        clear hwq hbq hkq c0 c1 c2 c3 c4 c5 x4 hFi lF lx hbl d0 f0
        refine wp_region_still_lit hm (by kernel_rfl) ?_
        still_step
        still_step
        still_step
        still_step
        with_reducible refine still_skip (by kernel_rfl) ?_
        try simp only [Act.put,List.setIfInBounds_toArray,List.set_cons_zero,List.set_cons_succ]
        with_reducible refine still_skip (by kernel_rfl) ?_
        try simp only [Act.put,List.setIfInBounds_toArray,List.set_cons_zero,List.set_cons_succ]
        with_reducible refine still_skip (by kernel_rfl) ?_
        try simp only [Act.put,List.setIfInBounds_toArray,List.set_cons_zero,List.set_cons_succ]
        still_step
        still_step
        still_step
        still_step
        still_step
        still_step
        still_step
        still_step
        still_step
        still_step
        still_step
        still_step
        still_step
        still_step
        still_step
        still_step
        still_step
        still_step
        still_step
        still_step
        still_step
        still_step
        still_step
        still_step
        still_step
        still_step
        still_step
        with_reducible refine still_skip (by kernel_rfl) ?_
        try simp only [Act.put,List.setIfInBounds_toArray,List.set_cons_zero,List.set_cons_succ]
        with_reducible refine still_skip (by kernel_rfl) ?_
        try simp only [Act.put,List.setIfInBounds_toArray,List.set_cons_zero,List.set_cons_succ]
        with_reducible refine still_skip (by kernel_rfl) ?_
        try simp only [Act.put,List.setIfInBounds_toArray,List.set_cons_zero,List.set_cons_succ]
        with_reducible refine still_skip (by kernel_rfl) ?_
        try simp only [Act.put,List.setIfInBounds_toArray,List.set_cons_zero,List.set_cons_succ]
        with_reducible refine still_skip (by kernel_rfl) ?_
        try simp only [Act.put,List.setIfInBounds_toArray,List.set_cons_zero,List.set_cons_succ]
        with_reducible refine still_skip (by kernel_rfl) ?_
        try simp only [Act.put,List.setIfInBounds_toArray,List.set_cons_zero,List.set_cons_succ]
        with_reducible refine still_skip (by kernel_rfl) ?_
        try simp only [Act.put,List.setIfInBounds_toArray,List.set_cons_zero,List.set_cons_succ]
        with_reducible refine still_skip (by kernel_rfl) ?_
        try simp only [Act.put,List.setIfInBounds_toArray,List.set_cons_zero,List.set_cons_succ]
        with_reducible refine still_skip (by kernel_rfl) ?_
        try simp only [Act.put,List.setIfInBounds_toArray,List.set_cons_zero,List.set_cons_succ]
        with_reducible refine still_skip (by kernel_rfl) ?_
        try simp only [Act.put,List.setIfInBounds_toArray,List.set_cons_zero,List.set_cons_succ]
        with_reducible refine still_skip (by kernel_rfl) ?_
        try simp only [Act.put,List.setIfInBounds_toArray,List.set_cons_zero,List.set_cons_succ]
        with_reducible refine still_skip (by kernel_rfl) ?_
        try simp only [Act.put,List.setIfInBounds_toArray,List.set_cons_zero,List.set_cons_succ]
        with_reducible refine still_skip (by kernel_rfl) ?_
        try simp only [Act.put,List.setIfInBounds_toArray,List.set_cons_zero,List.set_cons_succ]
        with_reducible refine still_skip (by kernel_rfl) ?_
        try simp only [Act.put,List.setIfInBounds_toArray,List.set_cons_zero,List.set_cons_succ]
        with_reducible refine still_skip (by kernel_rfl) ?_
        try simp only [Act.put,List.setIfInBounds_toArray,List.set_cons_zero,List.set_cons_succ]
        with_reducible refine still_skip (by kernel_rfl) ?_
        try simp only [Act.put,List.setIfInBounds_toArray,List.set_cons_zero,List.set_cons_succ]
        with_reducible refine still_skip (by kernel_rfl) ?_
        try simp only [Act.put,List.setIfInBounds_toArray,List.set_cons_zero,List.set_cons_succ]
        with_reducible refine still_skip (by kernel_rfl) ?_
        try simp only [Act.put,List.setIfInBounds_toArray,List.set_cons_zero,List.set_cons_succ]
        with_reducible refine still_skip (by kernel_rfl) ?_
        try simp only [Act.put,List.setIfInBounds_toArray,List.set_cons_zero,List.set_cons_succ]
        with_reducible refine still_skip (by kernel_rfl) ?_
        try simp only [Act.put,List.setIfInBounds_toArray,List.set_cons_zero,List.set_cons_succ]
        with_reducible refine still_skip (by kernel_rfl) ?_
        try simp only [Act.put,List.setIfInBounds_toArray,List.set_cons_zero,List.set_cons_succ]
        with_reducible refine still_skip (by kernel_rfl) ?_
        try simp only [Act.put,List.setIfInBounds_toArray,List.set_cons_zero,List.set_cons_succ]
        with_reducible refine still_skip (by kernel_rfl) ?_
        try simp only [Act.put,List.setIfInBounds_toArray,List.set_cons_zero,List.set_cons_succ]
        with_reducible refine still_skip (by kernel_rfl) ?_
        try simp only [Act.put,List.setIfInBounds_toArray,List.set_cons_zero,List.set_cons_succ]
        with_reducible refine still_skip (by kernel_rfl) ?_
        try simp only [Act.put,List.setIfInBounds_toArray,List.set_cons_zero,List.set_cons_succ]
        with_reducible refine still_skip (by kernel_rfl) ?_
        try simp only [Act.put,List.setIfInBounds_toArray,List.set_cons_zero,List.set_cons_succ]
        still_step
        still_step
        refine wpStill_nil ?_
        go_wp2
        go_roundw
        case rel=>exact ⟨i+1,by omega,by go_num,(by first | exact HBQ.out.drew | exact below_drewN HBQ.out _)⟩
        case measure=>simp [intOf];omega
      · as_aux_lemma =>
        subst e
        have hx:exprB 40=true:=by decide
        obtain ⟨g1,g2,g3⟩:=r5 (by omega)
        have v0:(v == 0)=false:=by simpa using g2
        obtain ⟨kb0,ko0,y0,hp0,lb0,d0,z0,ly0,f0⟩:=hkid 0 (by omega)
        subst hp0
        have ly0':(y0:Int)<(n:Int):=by omega
        have dl0:(0:Int)<(cn:Int):=by omega
        have dn0:0<cn:=by omega
        rw [← g3] at f0
        have vv:(v != v)=false:=by simp
        clear r1 r2 r3 r4 r5 r6 r7 hkid g2 g3 z0
        go_wp2_with (first | (go_at_call 20;refine (hin _).mono ?_;rintro e w' ⟨rfl,rfl⟩) | (go_at_call 12;refine (hxp _).mono ?_;rw [hx];rintro e w' ⟨rfl,rfl⟩))
        obtain ⟨wq,hwq⟩ : ∃ wq,wq=wr.alloc (.cells #[.int .i64 40,.string t,.int .i64 nn,.int .i64 zz,.slice (some ⟨kb0,ko0,none⟩) cn kc,.int .i64 aa] 34):=⟨_,rfl⟩
        have hbq:Below wr.heap.size wr wq:=by rw [hwq];exact (Below.refl _ _).alloc (Nat.le_refl _) _
        have hkq:Blk wq wr.heap.size 34 #[.int .i64 40,.string t,.int .i64 nn,.int .i64 zz,.slice (some ⟨kb0,ko0,none⟩) cn kc,.int .i64 aa]:=by rw [hwq];exact Blk.new _ _ _
        have m0:wq.cell? ⟨wr.heap.size,0,none⟩=some (.int .i64 40):=by rw [hkq.cell];rfl
        have m1:wq.cell? ⟨wr.heap.size,1,none⟩=some (.string t):=by rw [hkq.cell];rfl
        have m4:wq.cell? ⟨wr.heap.size,4,none⟩=some (.slice (some ⟨kb0,ko0,none⟩) cn kc):=by rw [hkq.cell];rfl
        have lm:=hkq.lt
        have fiq:=(hbq.cell (p:=⟨F,i,none⟩) lF).trans hFi
        have lF':=Nat.lt_of_lt_of_le lF hbq.size
        have dq0:=(hbq.cell (p:=⟨kb0,ko0,none⟩) lb0).trans d0
        have fq0:=(hbq.cell (p:=⟨F,y0,none⟩) lF).trans f0
        have lb':=Nat.lt_of_lt_of_le lb0 hbq.size
        have HBQ:=Lib.hid (HBE2.out.trans (hbq.mono HBE2.out.size))
        rw [← hwq]
        clear hwq hbq hkq c0 c1 c2 c3 c4 c5 x4 hFi lF lx hbl d0 f0
        refine wp_region_still_lit hm (by kernel_rfl) ?_
        still_step
        still_step
        still_step
        still_step
        still_step
        still_step
        still_step
        still_step
        still_step
        still_step
        still_step
        still_step
        still_step
        still_step
        still_step
        still_step
        still_step
        still_step
        still_step
        still_step
        still_step
        still_step
        still_step
        still_step
        still_step
        still_step
        still_step
        still_step
        still_step
        still_step
        still_step
        still_step
        still_step
        still_step
        with_reducible refine still_skip (by kernel_rfl) ?_
        try simp only [Act.put,List.setIfInBounds_toArray,List.set_cons_zero,List.set_cons_succ]
        with_reducible refine still_skip (by kernel_rfl) ?_
        try simp only [Act.put,List.setIfInBounds_toArray,List.set_cons_zero,List.set_cons_succ]
        with_reducible refine still_skip (by kernel_rfl) ?_
        try simp only [Act.put,List.setIfInBounds_toArray,List.set_cons_zero,List.set_cons_succ]
        with_reducible refine still_skip (by kernel_rfl) ?_
        try simp only [Act.put,List.setIfInBounds_toArray,List.set_cons_zero,List.set_cons_succ]
        with_reducible refine still_skip (by kernel_rfl) ?_
        try simp only [Act.put,List.setIfInBounds_toArray,List.set_cons_zero,List.set_cons_succ]
        with_reducible refine still_skip (by kernel_rfl) ?_
        try simp only [Act.put,List.setIfInBounds_toArray,List.set_cons_zero,List.set_cons_succ]
        with_reducible refine still_skip (by kernel_rfl) ?_
        try simp only [Act.put,List.setIfInBounds_toArray,List.set_cons_zero,List.set_cons_succ]
        with_reducible refine still_skip (by kernel_rfl) ?_
        try simp only [Act.put,List.setIfInBounds_toArray,List.set_cons_zero,List.set_cons_succ]
        with_reducible refine still_skip (by kernel_rfl) ?_
        try simp only [Act.put,List.setIfInBounds_toArray,List.set_cons_zero,List.set_cons_succ]
        with_reducible refine still_skip (by kernel_rfl) ?_
        try simp only [Act.put,List.setIfInBounds_toArray,List.set_cons_zero,List.set_cons_succ]
        with_reducible refine still_skip (by kernel_rfl) ?_
        try simp only [Act.put,List.setIfInBounds_toArray,List.set_cons_zero,List.set_cons_succ]
        with_reducible refine still_skip (by kernel_rfl) ?_
        try simp only [Act.put,List.setIfInBounds_toArray,List.set_cons_zero,List.set_cons_succ]
        with_reducible refine still_skip (by kernel_rfl) ?_
        try simp only [Act.put,List.setIfInBounds_toArray,List.set_cons_zero,List.set_cons_succ]
        with_reducible refine still_skip (by kernel_rfl) ?_
        try simp only [Act.put,List.setIfInBounds_toArray,List.set_cons_zero,List.set_cons_succ]
        with_reducible refine still_skip (by kernel_rfl) ?_
        try simp only [Act.put,List.setIfInBounds_toArray,List.set_cons_zero,List.set_cons_succ]
        with_reducible refine still_skip (by kernel_rfl) ?_
        try simp only [Act.put,List.setIfInBounds_toArray,List.set_cons_zero,List.set_cons_succ]
        with_reducible refine still_skip (by kernel_rfl) ?_
        try simp only [Act.put,List.setIfInBounds_toArray,List.set_cons_zero,List.set_cons_succ]
        with_reducible refine still_skip (by kernel_rfl) ?_
        try simp only [Act.put,List.setIfInBounds_toArray,List.set_cons_zero,List.set_cons_succ]
        with_reducible refine still_skip (by kernel_rfl) ?_
        try simp only [Act.put,List.setIfInBounds_toArray,List.set_cons_zero,List.set_cons_succ]
        with_reducible refine still_skip (by kernel_rfl) ?_
        try simp only [Act.put,List.setIfInBounds_toArray,List.set_cons_zero,List.set_cons_succ]
        with_reducible refine still_skip (by kernel_rfl) ?_
        try simp only [Act.put,List.setIfInBounds_toArray,List.set_cons_zero,List.set_cons_succ]
        with_reducible refine still_skip (by kernel_rfl) ?_
        try simp only [Act.put,List.setIfInBounds_toArray,List.set_cons_zero,List.set_cons_succ]
        with_reducible refine still_skip (by kernel_rfl) ?_
        try simp only [Act.put,List.setIfInBounds_toArray,List.set_cons_zero,List.set_cons_succ]
        with_reducible refine still_skip (by kernel_rfl) ?_
        try simp only [Act.put,List.setIfInBounds_toArray,List.set_cons_zero,List.set_cons_succ]
        with_reducible refine still_skip (by kernel_rfl) ?_
        try simp only [Act.put,List.setIfInBounds_toArray,List.set_cons_zero,List.set_cons_succ]
        with_reducible refine still_skip (by kernel_rfl) ?_
        try simp only [Act.put,List.setIfInBounds_toArray,List.set_cons_zero,List.set_cons_succ]
        still_step
        still_step
        refine wpStill_nil ?_
        go_wp2
        go_roundw
        case rel=>exact ⟨i+1,by omega,by go_num,(by first | exact HBQ.out.drew | exact below_drewN HBQ.out _)⟩
        case measure=>simp [intOf];omega
      · as_aux_lemma =>
        subst e
        have hx:exprB 38=true:=by decide
        obtain ⟨g1,g2,g3⟩:=r6 rfl
        obtain ⟨kb1,ko1,y1,hp1,lb1,d1,z1,ly1,f1⟩:=hkid 1 (by omega)
        obtain ⟨kb2,ko2,y2,hp2,lb2,d2,z2,ly2,f2⟩:=hkid 2 (by omega)
        subst hp1
        cases hp2
        have ly1':(y1:Int)<(n:Int):=by omega
        have dl1:(1:Int)<(cn:Int):=by omega
        have dn1:1<cn:=by omega
        have ly2':(y2:Int)<(n:Int):=by omega
        have dl2:(2:Int)<(cn:Int):=by omega
        have dn2:2<cn:=by omega
        rw [← g2] at f1
        rw [← g3] at f2
        have vv:(v != v)=false:=by simp
        clear r1 r2 r3 r4 r5 r6 r7 hkid g2 g3 z1 z2
        go_wp2_with (first | (go_at_call 20;refine (hin _).mono ?_;rintro e w' ⟨rfl,rfl⟩) | (go_at_call 12;refine (hxp _).mono ?_;rw [hx];rintro e w' ⟨rfl,rfl⟩))
        obtain ⟨wq,hwq⟩ : ∃ wq,wq=wr.alloc (.cells #[.int .i64 38,.string t,.int .i64 nn,.int .i64 zz,.slice (some ⟨kb1,ko1,none⟩) cn kc,.int .i64 aa] 34):=⟨_,rfl⟩
        have hbq:Below wr.heap.size wr wq:=by rw [hwq];exact (Below.refl _ _).alloc (Nat.le_refl _) _
        have hkq:Blk wq wr.heap.size 34 #[.int .i64 38,.string t,.int .i64 nn,.int .i64 zz,.slice (some ⟨kb1,ko1,none⟩) cn kc,.int .i64 aa]:=by rw [hwq];exact Blk.new _ _ _
        have m0:wq.cell? ⟨wr.heap.size,0,none⟩=some (.int .i64 38):=by rw [hkq.cell];rfl
        have m1:wq.cell? ⟨wr.heap.size,1,none⟩=some (.string t):=by rw [hkq.cell];rfl
        have m4:wq.cell? ⟨wr.heap.size,4,none⟩=some (.slice (some ⟨kb1,ko1,none⟩) cn kc):=by rw [hkq.cell];rfl
        have lm:=hkq.lt
        have fiq:=(hbq.cell (p:=⟨F,i,none⟩) lF).trans hFi
        have lF':=Nat.lt_of_lt_of_le lF hbq.size
        have dq1:=(hbq.cell (p:=⟨kb1,ko1+1,none⟩) lb1).trans d1
        have fq1:=(hbq.cell (p:=⟨F,y1,none⟩) lF).trans f1
        have dq2:=(hbq.cell (p:=⟨kb1,ko1+2,none⟩) lb1).trans d2
        have fq2:=(hbq.cell (p:=⟨F,y2,none⟩) lF).trans f2
        have lb':=Nat.lt_of_lt_of_le lb1 hbq.size
        have HBQ:=Lib.hid (HBE2.out.trans (hbq.mono HBE2.out.size))
        rw [← hwq]
        clear hwq hbq hkq c0 c1 c2 c3 c4 c5 x4 hFi lF lx hbl d1 f1 d2 f2
        refine wp_region_still_lit hm (by kernel_rfl) ?_
        still_step
        still_step
        still_step
        still_step
        still_step
        still_step
        still_step
        still_step
        still_step
        with_reducible refine still_skip (by kernel_rfl) ?_
        try simp only [Act.put,List.setIfInBounds_toArray,List.set_cons_zero,List.set_cons_succ]
        with_reducible refine still_skip (by kernel_rfl) ?_
        try simp only [Act.put,List.setIfInBounds_toArray,List.set_cons_zero,List.set_cons_succ]
        with_reducible refine still_skip (by kernel_rfl) ?_
        try simp only [Act.put,List.setIfInBounds_toArray,List.set_cons_zero,List.set_cons_succ]
        with_reducible refine still_skip (by kernel_rfl) ?_
        try simp only [Act.put,List.setIfInBounds_toArray,List.set_cons_zero,List.set_cons_succ]
        with_reducible refine still_skip (by kernel_rfl) ?_
        try simp only [Act.put,List.setIfInBounds_toArray,List.set_cons_zero,List.set_cons_succ]
        with_reducible refine still_skip (by kernel_rfl) ?_
        try simp only [Act.put,List.setIfInBounds_toArray,List.set_cons_zero,List.set_cons_succ]
        with_reducible refine still_skip (by kernel_rfl) ?_
        try simp only [Act.put,List.setIfInBounds_toArray,List.set_cons_zero,List.set_cons_succ]
        with_reducible refine still_skip (by kernel_rfl) ?_
        try simp only [Act.put,List.setIfInBounds_toArray,List.set_cons_zero,List.set_cons_succ]
        with_reducible refine still_skip (by kernel_rfl) ?_
        try simp only [Act.put,List.setIfInBounds_toArray,List.set_cons_zero,List.set_cons_succ]
        with_reducible refine still_skip (by kernel_rfl) ?_
        try simp only [Act.put,List.setIfInBounds_toArray,List.set_cons_zero,List.set_cons_succ]
        with_reducible refine still_skip (by kernel_rfl) ?_
        try simp only [Act.put,List.setIfInBounds_toArray,List.set_cons_zero,List.set_cons_succ]
        with_reducible refine still_skip (by kernel_rfl) ?_
        try simp only [Act.put,List.setIfInBounds_toArray,List.set_cons_zero,List.set_cons_succ]
        with_reducible refine still_skip (by kernel_rfl) ?_
        try simp only [Act.put,List.setIfInBounds_toArray,List.set_cons_zero,List.set_cons_succ]
        with_reducible refine still_skip (by kernel_rfl) ?_
        try simp only [Act.put,List.setIfInBounds_toArray,List.set_cons_zero,List.set_cons_succ]
        with_reducible refine still_skip (by kernel_rfl) ?_
        try simp only [Act.put,List.setIfInBounds_toArray,List.set_cons_zero,List.set_cons_succ]
        with_reducible refine still_skip (by kernel_rfl) ?_
        try simp only [Act.put,List.setIfInBounds_toArray,List.set_cons_zero,List.set_cons_succ]
        with_reducible refine still_skip (by kernel_rfl) ?_
        try simp only [Act.put,List.setIfInBounds_toArray,List.set_cons_zero,List.set_cons_succ]
        with_reducible refine still_skip (by kernel_rfl) ?_
        try simp only [Act.put,List.setIfInBounds_toArray,List.set_cons_zero,List.set_cons_succ]
        with_reducible refine still_skip (by kernel_rfl) ?_
        try simp only [Act.put,List.setIfInBounds_toArray,List.set_cons_zero,List.set_cons_succ]
        still_step
        still_step
        still_step
        still_step
        still_step
        still_step
        still_step
        still_step
        still_step
        still_step
        still_step
        still_step
        still_step
        still_step
        still_step
        still_step
        still_step
        still_step
        still_step
        still_step
        still_step
        still_step
        still_step
        still_step
        still_step
        still_step
        still_step
        still_step
        still_step
        still_step
        still_step
        still_step
        still_step
        still_step
        refine wpStill_nil ?_
        go_wp2
        go_roundw
        case rel=>exact ⟨i+1,by omega,by go_num,(by first | exact HBQ.out.drew | exact below_drewN HBQ.out _)⟩
        case measure=>simp [intOf];omega
      · as_aux_lemma =>
        have k1:(kd == 31)=false:=by simpa using e1
        have k2:(kd == 34)=false:=by simpa using e2
        have k3:(kd == 37)=false:=by simpa using e3
        have k4:(kd == 35)=false:=by simpa using e4
        have k5:(kd == 39)=false:=by simpa using e5
        have k6:(kd == 40)=false:=by simpa using e6
        have k7:(kd == 38)=false:=by simpa using e7
        clear r1 r3 r4 r5 r6 r7 hkid e1 e2 e3 e4 e5 e6 e7
        obtain ⟨bx,hx⟩ : ∃ bx,exprB kd=bx:=⟨_,rfl⟩
        have hv0:bx=true∨(bx=false∧(v != 0)=false):=by
          cases bx
          · exact Or.inr ⟨rfl,by rw [r2 hx];rfl⟩
          · exact Or.inl rfl
        clear r2
        rcases hv0 with rfl | ⟨rfl,hv0⟩
        all_goals
          go_wp2_with (first | (go_at_call 20;refine (hin _).mono ?_;rintro e w' ⟨rfl,rfl⟩) | (go_at_call 12;refine (hxp _).mono ?_;rw [hx];rintro e w' ⟨rfl,rfl⟩))
          obtain ⟨wq,hwq⟩ : ∃ wq,wq=wr.alloc (.cells #[.int .i64 kd,.string t,.int .i64 nn,.int .i64 zz,.slice kp cn kc,.int .i64 aa] 34):=⟨_,rfl⟩
          have hbq:Below wr.heap.size wr wq:=by rw [hwq];exact (Below.refl _ _).alloc (Nat.le_refl _) _
          have hkq:Blk wq wr.heap.size 34 #[.int .i64 kd,.string t,.int .i64 nn,.int .i64 zz,.slice kp cn kc,.int .i64 aa]:=by rw [hwq];exact Blk.new _ _ _
          have m0:wq.cell? ⟨wr.heap.size,0,none⟩=some (.int .i64 kd):=by rw [hkq.cell];rfl
          have m1:wq.cell? ⟨wr.heap.size,1,none⟩=some (.string t):=by rw [hkq.cell];rfl
          have m4:wq.cell? ⟨wr.heap.size,4,none⟩=some (.slice kp cn kc):=by rw [hkq.cell];rfl
          have lm:=hkq.lt
          have fiq:=(hbq.cell (p:=⟨F,i,none⟩) lF).trans hFi
          have lF':=Nat.lt_of_lt_of_le lF hbq.size
          have HBQ:=Lib.hid (HBE2.out.trans (hbq.mono HBE2.out.size))
          rw [← hwq]
          clear hwq hbq hkq c0 c1 c2 c3 c4 c5 x4 hFi lF lx hbl
          refine wp_region_still_lit hm (by kernel_rfl) ?_
          still_step
          still_step
          still_step
          still_step
          still_step
          still_step
          still_step
          still_step
          still_step
          with_reducible refine still_skip (by kernel_rfl) ?_
          try simp only [Act.put,List.setIfInBounds_toArray,List.set_cons_zero,List.set_cons_succ]
          with_reducible refine still_skip (by kernel_rfl) ?_
          try simp only [Act.put,List.setIfInBounds_toArray,List.set_cons_zero,List.set_cons_succ]
          with_reducible refine still_skip (by kernel_rfl) ?_
          try simp only [Act.put,List.setIfInBounds_toArray,List.set_cons_zero,List.set_cons_succ]
          with_reducible refine still_skip (by kernel_rfl) ?_
          try simp only [Act.put,List.setIfInBounds_toArray,List.set_cons_zero,List.set_cons_succ]
          with_reducible refine still_skip (by kernel_rfl) ?_
          try simp only [Act.put,List.setIfInBounds_toArray,List.set_cons_zero,List.set_cons_succ]
          with_reducible refine still_skip (by kernel_rfl) ?_
          try simp only [Act.put,List.setIfInBounds_toArray,List.set_cons_zero,List.set_cons_succ]
          with_reducible refine still_skip (by kernel_rfl) ?_
          try simp only [Act.put,List.setIfInBounds_toArray,List.set_cons_zero,List.set_cons_succ]
          with_reducible refine still_skip (by kernel_rfl) ?_
          try simp only [Act.put,List.setIfInBounds_toArray,List.set_cons_zero,List.set_cons_succ]
          with_reducible refine still_skip (by kernel_rfl) ?_
          try simp only [Act.put,List.setIfInBounds_toArray,List.set_cons_zero,List.set_cons_succ]
          with_reducible refine still_skip (by kernel_rfl) ?_
          try simp only [Act.put,List.setIfInBounds_toArray,List.set_cons_zero,List.set_cons_succ]
          with_reducible refine still_skip (by kernel_rfl) ?_
          try simp only [Act.put,List.setIfInBounds_toArray,List.set_cons_zero,List.set_cons_succ]
          with_reducible refine still_skip (by kernel_rfl) ?_
          try simp only [Act.put,List.setIfInBounds_toArray,List.set_cons_zero,List.set_cons_succ]
          with_reducible refine still_skip (by kernel_rfl) ?_
          try simp only [Act.put,List.setIfInBounds_toArray,List.set_cons_zero,List.set_cons_succ]
          with_reducible refine still_skip (by kernel_rfl) ?_
          try simp only [Act.put,List.setIfInBounds_toArray,List.set_cons_zero,List.set_cons_succ]
          with_reducible refine still_skip (by kernel_rfl) ?_
          try simp only [Act.put,List.setIfInBounds_toArray,List.set_cons_zero,List.set_cons_succ]
          with_reducible refine still_skip (by kernel_rfl) ?_
          try simp only [Act.put,List.setIfInBounds_toArray,List.set_cons_zero,List.set_cons_succ]
          with_reducible refine still_skip (by kernel_rfl) ?_
          try simp only [Act.put,List.setIfInBounds_toArray,List.set_cons_zero,List.set_cons_succ]
          with_reducible refine still_skip (by kernel_rfl) ?_
          try simp only [Act.put,List.setIfInBounds_toArray,List.set_cons_zero,List.set_cons_succ]
          with_reducible refine still_skip (by kernel_rfl) ?_
          try simp only [Act.put,List.setIfInBounds_toArray,List.set_cons_zero,List.set_cons_succ]
          still_step
          still_step
          still_step
          still_step
          still_step
          still_step
          with_reducible refine still_skip (by kernel_rfl) ?_
          try simp only [Act.put,List.setIfInBounds_toArray,List.set_cons_zero,List.set_cons_succ]
          with_reducible refine still_skip (by kernel_rfl) ?_
          try simp only [Act.put,List.setIfInBounds_toArray,List.set_cons_zero,List.set_cons_succ]
          with_reducible refine still_skip (by kernel_rfl) ?_
          try simp only [Act.put,List.setIfInBounds_toArray,List.set_cons_zero,List.set_cons_succ]
          with_reducible refine still_skip (by kernel_rfl) ?_
          try simp only [Act.put,List.setIfInBounds_toArray,List.set_cons_zero,List.set_cons_succ]
          with_reducible refine still_skip (by kernel_rfl) ?_
          try simp only [Act.put,List.setIfInBounds_toArray,List.set_cons_zero,List.set_cons_succ]
          with_reducible refine still_skip (by kernel_rfl) ?_
          try simp only [Act.put,List.setIfInBounds_toArray,List.set_cons_zero,List.set_cons_succ]
          with_reducible refine still_skip (by kernel_rfl) ?_
          try simp only [Act.put,List.setIfInBounds_toArray,List.set_cons_zero,List.set_cons_succ]
          with_reducible refine still_skip (by kernel_rfl) ?_
          try simp only [Act.put,List.setIfInBounds_toArray,List.set_cons_zero,List.set_cons_succ]
          with_reducible refine still_skip (by kernel_rfl) ?_
          try simp only [Act.put,List.setIfInBounds_toArray,List.set_cons_zero,List.set_cons_succ]
          with_reducible refine still_skip (by kernel_rfl) ?_
          try simp only [Act.put,List.setIfInBounds_toArray,List.set_cons_zero,List.set_cons_succ]
          with_reducible refine still_skip (by kernel_rfl) ?_
          try simp only [Act.put,List.setIfInBounds_toArray,List.set_cons_zero,List.set_cons_succ]
          with_reducible refine still_skip (by kernel_rfl) ?_
          try simp only [Act.put,List.setIfInBounds_toArray,List.set_cons_zero,List.set_cons_succ]
          with_reducible refine still_skip (by kernel_rfl) ?_
          try simp only [Act.put,List.setIfInBounds_toArray,List.set_cons_zero,List.set_cons_succ]
          with_reducible refine still_skip (by kernel_rfl) ?_
          try simp only [Act.put,List.setIfInBounds_toArray,List.set_cons_zero,List.set_cons_succ]
          with_reducible refine still_skip (by kernel_rfl) ?_
          try simp only [Act.put,List.setIfInBounds_toArray,List.set_cons_zero,List.set_cons_succ]
          with_reducible refine still_skip (by kernel_rfl) ?_
          try simp only [Act.put,List.setIfInBounds_toArray,List.set_cons_zero,List.set_cons_succ]
          with_reducible refine still_skip (by kernel_rfl) ?_
          try simp only [Act.put,List.setIfInBounds_toArray,List.set_cons_zero,List.set_cons_succ]
          with_reducible refine still_skip (by kernel_rfl) ?_
          try simp only [Act.put,List.setIfInBounds_toArray,List.set_cons_zero,List.set_cons_succ]
          with_reducible refine still_skip (by kernel_rfl) ?_
          try simp only [Act.put,List.setIfInBounds_toArray,List.set_cons_zero,List.set_cons_succ]
          with_reducible refine still_skip (by kernel_rfl) ?_
          try simp only [Act.put,List.setIfInBounds_toArray,List.set_cons_zero,List.set_cons_succ]
          with_reducible refine still_skip (by kernel_rfl) ?_
          try simp only [Act.put,List.setIfInBounds_toArray,List.set_cons_zero,List.set_cons_succ]
          with_reducible refine still_skip (by kernel_rfl) ?_
          try simp only [Act.put,List.setIfInBounds_toArray,List.set_cons_zero,List.set_cons_succ]
          with_reducible refine still_skip (by kernel_rfl) ?_
          try simp only [Act.put,List.setIfInBounds_toArray,List.set_cons_zero,List.set_cons_succ]
          with_reducible refine still_skip (by kernel_rfl) ?_
          try simp only [Act.put,List.setIfInBounds_toArray,List.set_cons_zero,List.set_cons_succ]
          with_reducible refine still_skip (by kernel_rfl) ?_
          try simp only [Act.put,List.setIfInBounds_toArray,List.set_cons_zero,List.set_cons_succ]
          with_reducible refine still_skip (by kernel_rfl) ?_
          try simp only [Act.put,List.setIfInBounds_toArray,List.set_cons_zero,List.set_cons_succ]
          still_step
          still_step
          refine wpStill_nil ?_
          go_wp2
          go_roundw
          case rel=>exact ⟨i+1,by omega,by go_num,(by first | exact HBQ.out.drew | exact below_drewN HBQ.out _)⟩
          case measure=>simp [intOf];omega
    · have HB5:=Lib.hid (HB4.out.trans (hbe.mono HB4.out.size))
      clear hbe hX hF
      go_wp2
      go_ret
      exact ⟨rfl,HB5.out⟩
end Ty
end
end Go.Proofs.YtdjpopebeenlmaaGreatDoor
