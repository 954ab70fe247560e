/-
  Joined texts of this claim: Qt, Qu, Qv, Uc, Ud.
-/
import Derived.Test.YtdjpopebeenlmaaGreatDoorW00
import Derived.Test.YtdjpopebeenlmaaGreatDoorW14
set_option maxHeartbeats 40000000
set_option maxRecDepth 100000
set_option linter.unusedVariables false
set_option linter.unusedSimpArgs false
namespace Go.Proofs.YtdjpopebeenlmaaGreatDoor
section
open Go.RowKit
open Tk (T4 bstr)
open Tr (Nd Blk KidsAt)

theorem levelT_le (t:List UInt8):levelT t≤11:=by unfold levelT;repeat' split <;> try omega
set_option maxHeartbeats 2000000 in
set_option maxRecDepth 100000 in
theorem pairc_any {B T E n:Nat}(J:CallJ B T E n) {w:World}{s:S3}(h:Ps B T E w s) (gp gl lv:Nat) (hl:lv≤11) (h1:w.cell? ⟨gp,0,none⟩=some (.pointer (some ⟨B,0,none⟩))) (h2:w.cell? ⟨gl,0,none⟩=some (.int .i64 lv)) (hr:runJ E n (.pairs (lv+1)) s≠.out) :
    Calls Tryz.prog 131 #[.pointer (some ⟨gp,0,none⟩),.pointer (some ⟨gl,0,none⟩)] w (Did B T E w (runJ E n (.pairs (lv+1)) s)):=by
  have hc:=J.pairs (lv+1) w s h hr
  rw [Int.natCast_add] at hc
  obtain ⟨Q,hQ⟩ : ∃ Q:Ending→World→Prop,Q=Did B T E w (runJ E n (.pairs (lv+1)) s):=⟨_,rfl⟩
  rw [← hQ]
  have HQ:=Lib.hid hQ
  have HR:=Lib.hid hr
  rw [← hQ] at hc
  clear hQ h J hr
  go_enter Tryz.func131,Tryz.ntmps131
  go_wp2_with (go_at_call 74;refine hc.mono ?_)
  intro e w1 hd
  rw [HQ.out] at hd
  obtain ⟨v,rfl,hd⟩:=did_ret hd HR.out
  have HD:=Lib.hid hd
  clear hd hc
  go_wp2
  (try go_ret)
  rw [HQ.out]
  exact HD.out
theorem stepPair {B T E n:Nat}(J:CallJ B T E n) {W:World}{gp gl lv:Nat}(hl:lv≤11) (hb:∀ W1,Ext B W W1→W1.cell? ⟨gp,0,none⟩=some (.pointer (some ⟨B,0,none⟩))∧W1.cell? ⟨gl,0,none⟩=some (.int .i64 lv)) :
    StepV B T E W (.func (.func 131) #[] #[.pointer (some ⟨gp,0,none⟩),.pointer (some ⟨gl,0,none⟩)]) (runJ E n (.pairs (lv+1))) :=
  ⟨131,_,_,rfl,enters75,fun w' s hx hp hr=>pairc_any J hp gp gl lv hl (hb w' hx).1 (hb w' hx).2 hr⟩
theorem pairsL_eq (E m low mark:Nat) (s:S3):runJ E (m+1) (.pairsL low mark) s=(if low≤levelT (pk E s.L).t then
      (extF mark (mk (pairK (levelT (pk E s.L).t)) (pk E s.L).t 0 (pk E s.L).a) [runJ E m (.pairs (levelT (pk E s.L).t+1))] { s with L:=s.L.tail }).bind (runJ E m (.pairsL low mark)) else .ok s):=rfl

set_option maxHeartbeats 16000000 in
set_option maxRecDepth 100000 in
theorem pairs_step {B T E n:Nat}(J:LtJ B T E n) (low:Nat) (w:World) (s:S3) (h:Ps B T E w s) (hr:runJ E (n+1) (.pairs low) s≠.out) :
    Calls Tryz.prog 74 #[.pointer (some ⟨B,0,none⟩),.int .i64 low] w (Did B T E w (runJ E (n+1) (.pairs low) s)):=by
  obtain ⟨r,hrr⟩ : ∃ r,r=runJ E (n+1) (.pairs low) s:=⟨_,rfl⟩
  rw [← hrr] at hr ⊢
  obtain ⟨Q,hQ⟩ : ∃ Q:Ending→World→Prop,Q=Did B T E w r:=⟨_,rfl⟩
  rw [← hQ]
  have HQ:=Lib.hid hQ
  have HR:=Lib.hid hr
  change r=(if 1000<low then .out else (runJ E n .prefixed s).bind (runJ E n (.pairsL low s.O.length))) at hrr
  have hlow:low≤1000:=by
    by_cases hl:1000<low
    · rw [if_pos hl] at hrr;exact absurd hrr hr
    · omega
  rw [if_neg (by omega)] at hrr
  have Hrr:=Lib.hid hrr
  have hB:=h.lt
  have hp1:=h.alloc (.cells #[.pointer (some ⟨B,0,none⟩)] 102)
  have hE1:Ext B w (w.alloc (.cells #[.pointer (some ⟨B,0,none⟩)] 102)):=(Ext.refl _ _).alloc hB _
  have HGp:Hid (∀ W,Ext B (w.alloc (.cells #[.pointer (some ⟨B,0,none⟩)] 102)) W→W.cell? ⟨w.heap.size,0,none⟩=some (.pointer (some ⟨B,0,none⟩))):=fun W hW=>by
    have hn:¬ Own B (w.alloc (.cells #[.pointer (some ⟨B,0,none⟩)] 102)) w.heap.size:=fun ho=>not_own_new ⟨T,E,s,h⟩ ((own_alloc hB _ _).1 ho)
    exact (hW.blk (Blk.new _ _ _) hn).cell 0
  have hmk:=mark_any hp1
  have hne:runJ E n .prefixed s≠.out:=fun e=>hr (by rw [hrr,e];rfl)
  have hpre:=(J n (Nat.le_refl _)).prefixed _ _ hp1 hne
  have HE1:=Lib.hid hE1
  have HJ:=Lib.hid J
  have HmO:s.O.length≤5000000:=by obtain ⟨_,_,_,_,hh⟩:=h;have:=hh.lenO;have:=hh.lenN;omega
  clear hQ hr hrr h hp1 hE1 hne J
  obtain ⟨mark,hmark⟩ : ∃ mark,mark=s.O.length:=⟨_,rfl⟩
  rw [← hmark] at hmk HmO
  have Hmark:=Lib.hid hmark
  clear hmark
  go_enter Tryz.func74,Tryz.ntmps74
  go_wp2_with (first | (go_at_call 73;refine hmk.mono ?_;rintro e w' ⟨rfl,rfl⟩) | (go_at_call 127;refine hpre.mono ?_))
  intro e w2 hd
  cases hf:runJ E n .prefixed s with
  | out=>exact absurd (by rw [Hrr.out,hf];rfl) HR.out
  | bad c1 a1 =>
    rw [hf] at hd
    obtain ⟨rfl,hx2⟩:=hd
    have HX2:=Lib.hid (HE1.out.trans hx2)
    have HRb:Hid (r=.bad c1 a1):=by have h:=Hrr.out;rw [hf] at h;exact h
    clear hpre hmk hf hx2
    unfold errV
    go_wp2
    (try go_ret)
    rw [HQ.out,HRb.out]
    exact ⟨rfl,HX2.out⟩
  | ok s1 =>
    rw [hf] at hd
    obtain ⟨rfl,hx2,hp2⟩:=hd
    have HX2:=Lib.hid hx2
    have HP2:=Lib.hid hp2
    have HR1:Hid (r=runJ E n (.pairsL low mark) s1):=by have h:=Hrr.out;rw [hf,← Hmark.out] at h;exact h
    clear hpre hmk hf hx2 hp2 Hrr
    go_wp2
    go_loopg [] n (fun k wr=>∃ s2,k≤n∧Hid (r=runJ E k (.pairsL low mark) s2)∧Ext B (w.alloc (.cells #[.pointer (some ⟨B,0,none⟩)] 102)) wr∧Ps B T E wr s2)
    case atStart=>exact ⟨s1,Nat.le_refl _,HR1,HX2.out,HP2.out⟩
    case round =>
      obtain ⟨s2,hk,HK,hx,hp⟩:=hrel
      have HXr:=Lib.hid hx
      have HPr:=Lib.hid hp
      have cg:=HGp.out wr hx
      have hpk:=peek_any hp
      unfold tokV at hpk
      obtain ⟨t,ht⟩ : ∃ t,t=pk E s2.L:=⟨_,rfl⟩
      have hlv:=fun w=>level_any t.t w
      obtain ⟨x,hxx⟩ : ∃ x,x=bstr t.t:=⟨_,rfl⟩
      rw [← ht,← hxx] at hpk
      rw [← hxx] at hlv
      have Ht:=Lib.hid ht
      have Hxx:=Lib.hid hxx
      have hl11:=levelT_le t.t
      have hBr:=hp.lt
      have hft:=fldT1
      clear hx hp HR1 HX2 HP2 ht hxx
      cases gk with
      | zero=>exact absurd HK.out HR.out
      | succ m =>
        have HK2:Hid (r=_):=Lib.hid (HK.out.trans (pairsL_eq E m low mark s2))
        rw [← Ht.out] at HK2
        clear HK
        by_cases hlt:low≤levelT t.t
        · have HK3:Hid (r=(extF mark (mk (pairK (levelT t.t)) t.t 0 t.a) [runJ E m (.pairs (levelT t.t+1))] { s2 with L:=s2.L.tail }).bind (runJ E m (.pairsL low mark))):=by have h:=HK2.out;rw [if_pos hlt] at h;exact h
          have hpK:=fun w=>pairK_any (levelT t.t) w (by omega)
          clear HK2
          obtain ⟨lv,hlvv⟩ : ∃ lv,lv=levelT t.t:=⟨_,rfl⟩
          rw [← hlvv] at hlt hlv hl11 hpK HK3
          obtain ⟨pk',hpk'⟩ : ∃ q,q=pairK lv:=⟨_,rfl⟩
          rw [← hpk'] at hpK HK3
          clear hlvv hpk'
          go_wp2_with (first | (go_at_call 75;refine hpk.mono ?_;rintro e w3 ⟨rfl,hb3⟩;have cg3:=HGp.out w3 (HXr.out.trans (Ext.below hb3 hBr))) | (go_at_call 128;refine (hlv _).mono ?_;rintro e w' ⟨rfl,rfl⟩))
          have HX3:=Lib.hid (HXr.out.trans (Ext.below hb3 hBr))
          have htk:=take_any (HPr.out.below hb3)
          rw [← Ht.out] at htk
          unfold tokV at htk
          rw [← Hxx.out] at htk
          clear hb3 hpk cg
          go_wp2_with (go_at_call 129;refine htk.mono ?_;rintro e w4 ⟨rfl,hx4,hp4⟩)
          have HX4:=Lib.hid (HX3.out.trans hx4)
          have HP4:=Lib.hid hp4
          have hB4:=hp4.lt
          have hbx4:=box_far (t:=58) (x0:=.int .i64 t.k) (x1:=.string x) (x2:=.int .i64 t.v) (x3:=.int .i64 t.a) hp4 (Ext.refl _ _)
          have HBx4:=Lib.hid hbx4
          clear htk cg3 hx4 hp4 hbx4
          go_wp2_with (go_at_call 128;refine (hlv _).mono ?_;rintro e w' ⟨rfl,rfl⟩)
          have hp5:=(HP4.out.alloc (.cells #[.int .i64 t.k,.string x,.int .i64 t.v,.int .i64 t.a] 58)).alloc (.cells #[.int .i64 lv] 3)
          have hE5:Ext B w4 ((w4.alloc (.cells #[.int .i64 t.k,.string x,.int .i64 t.v,.int .i64 t.a] 58)).alloc (.cells #[.int .i64 lv] 3)):=((Ext.refl _ _).alloc hB4 _).alloc hB4 _
          have HLv5:Hid (∀ W,Ext B ((w4.alloc (.cells #[.int .i64 t.k,.string x,.int .i64 t.v,.int .i64 t.a] 58)).alloc (.cells #[.int .i64 lv] 3)) W→W.cell? ⟨w4.heap.size+1,0,none⟩=some (.int .i64 lv)):=fun W hW=>by
            have hk:Blk ((w4.alloc (.cells #[.int .i64 t.k,.string x,.int .i64 t.v,.int .i64 t.a] 58)).alloc (.cells #[.int .i64 lv] 3)) (w4.heap.size+1) 3 #[.int .i64 lv]:=blk_at (by simp)
            exact (hW.blk hk (fun ho=>not_own_ge HP4.out (by omega) ((own_alloc hB4 _ _).1 ((own_alloc (by simp;omega) _ _).1 ho)))).cell 0
          have HBx5:Hid (∀ W,Ext B ((w4.alloc (.cells #[.int .i64 t.k,.string x,.int .i64 t.v,.int .i64 t.a] 58)).alloc (.cells #[.int .i64 lv] 3)) W→Blk W w4.heap.size 58 #[.int .i64 t.k,.string x,.int .i64 t.v,.int .i64 t.a]):=fun W hW=>HBx4.out W (((Ext.refl _ _).alloc (by simp;omega) _).trans hW)
          have HX5:=Lib.hid (HX4.out.trans hE5)
          have HP5:=Lib.hid hp5
          have hB5:=hp5.lt
          clear hE5 hp5 HBx4 HX4
          generalize (w4.alloc (.cells #[.int .i64 t.k,.string x,.int .i64 t.v,.int .i64 t.a] 58)).alloc (.cells #[.int .i64 lv] 3)=W5 at *
          have S1:Hid (∀ W,Ext B W5.drew W→W.cell? ⟨w4.heap.size+1,0,none⟩=some (.int .i64 lv)∧W.cell? ⟨w4.heap.size,1,none⟩=some (.string x)∧W.cell? ⟨w4.heap.size,3,none⟩=some (.int .i64 t.a)):=fun W hW =>
            have h5:=(Ext.refl B W5).drew.trans hW
            ⟨HLv5.out W h5,(tok_box (HBx5.out W h5)).2.1,(tok_box (HBx5.out W h5)).2.2.2⟩
          have S0:=Lib.hid (S1.out _ (Ext.refl _ _))
          have lB5:B<W5.drew.heap.size:=hB5
          go_region_held3 (fun W=>W.cell? ⟨w4.heap.size+1,0,none⟩=some (.int .i64 lv)∧W.cell? ⟨w4.heap.size,1,none⟩=some (.string x)∧W.cell? ⟨w4.heap.size,3,none⟩=some (.int .i64 t.a))
            (first | exact S0.out | exact S1.out _ ((Ext.refl _ _).alloc lB5 _))
            (first | (go_at_call 130;refine (hpK _).mono ?_;rintro e w' ⟨rfl,rfl⟩))
          all_goals
            have hp6:=(HP5.out.alloc (.cells #[.int .i64 pk',.string x,.int .i64 0,.int .i64 0,.slice none 0 0,.int .i64 t.a] 34)).drew
            have hE6:Ext B W5 (W5.alloc (.cells #[.int .i64 pk',.string x,.int .i64 0,.int .i64 0,.slice none 0 0,.int .i64 t.a] 34)).drew:=((Ext.refl _ _).alloc hB5 _).drew
            have HNd:Hid (∀ W,Ext B (W5.alloc (.cells #[.int .i64 pk',.string x,.int .i64 0,.int .i64 0,.slice none 0 0,.int .i64 t.a] 34)).drew W→Blk W W5.heap.size 34 #[.int .i64 pk',.string x,.int .i64 0,.int .i64 0,.slice none 0 0,.int .i64 t.a]):=fun W hW=>by
              have hk:Blk (W5.alloc (.cells #[.int .i64 pk',.string x,.int .i64 0,.int .i64 0,.slice none 0 0,.int .i64 t.a] 34)).drew W5.heap.size 34 #[.int .i64 pk',.string x,.int .i64 0,.int .i64 0,.slice none 0 0,.int .i64 t.a]:=heap_alloc_new W5 _
              exact hW.blk hk (fun ho=>not_own_ge HP5.out (Nat.le_refl _) ((own_alloc hB5 _ _).1 ho))
            have HX6:=Lib.hid (HX5.out.trans hE6)
            have HP6:=Lib.hid hp6
            have HLv6:Hid (∀ W,Ext B (W5.alloc (.cells #[.int .i64 pk',.string x,.int .i64 0,.int .i64 0,.slice none 0 0,.int .i64 t.a] 34)).drew W→W.cell? ⟨w4.heap.size+1,0,none⟩=some (.int .i64 lv)):=fun W hW=>HLv5.out W (hE6.trans hW)
            clear hp6 hE6 S0 S1 HLv5 HBx5 HX5 HP5
            generalize hg5:W5.heap.size=g5 at *
            go_wp2
            generalize (W5.alloc (.cells #[.int .i64 pk',.string x,.int .i64 0,.int .i64 0,.slice none 0 0,.int .i64 t.a] 34)).drew=W6 at *
            clear hg5 lB5 hB5 W5
            have hne:extF mark (mk pk' t.t 0 t.a) [runJ E m (.pairs (lv+1))] { s2 with L:=s2.L.tail }≠.out:=fun e=>HR.out (by rw [HK3.out,e];rfl)
            obtain ⟨r1,hr1⟩ : ∃ r1,r1=extF mark (mk pk' t.t 0 t.a) [runJ E m (.pairs (lv+1))] { s2 with L:=s2.L.tail }:=⟨_,rfl⟩
            have N0:Hid (Now B T E { s2 with L:=s2.L.tail } W6.drew W6.drew):=Now.refl HP6.out.drew
            have HN:Hid (∀ W,Now B T E { s2 with L:=s2.L.tail } W6.drew W→Calls Tryz.prog 76 #[.pointer (some ⟨B,2,none⟩),.int .i64 mark,.agg #[.int .i64 pk',.string x,.int .i64 0,.int .i64 0,.slice none 0 0,.int .i64 t.a],.slice (some ⟨W.heap.size,0,none⟩) 1 1] (W.alloc (.cells #[.func (.func 131) #[] #[.pointer (some ⟨w.heap.size,0,none⟩),.pointer (some ⟨w4.heap.size+1,0,none⟩)]] 70)) (Ends B T E W6.drew r1)):=fun W hW=>by
              have hst:StepV B T E W (.func (.func 131) #[] #[.pointer (some ⟨w.heap.size,0,none⟩),.pointer (some ⟨w4.heap.size+1,0,none⟩)]) (runJ E m (.pairs (lv+1))):=stepPair (HJ.out m (by omega)) hl11 fun W1 h1 =>
                have h6:=((Ext.refl B W6).drew.trans hW.1).trans h1
                ⟨HGp.out W1 (HX6.out.trans h6),HLv6.out W1 h6⟩
              have h:=extend_now hW [.func (.func 131) #[] #[.pointer (some ⟨w.heap.size,0,none⟩),.pointer (some ⟨w4.heap.size+1,0,none⟩)]] [runJ E m (.pairs (lv+1))] rfl (by simp) (step1 hst) (mk pk' t.t 0 t.a) rfl mark hne 70
              rw [← hr1] at h
              rw [Hxx.out]
              exact h
            have HK4:Hid (r=r1.bind (runJ E m (.pairsL low mark))):=by have h:=HK3.out;rw [← hr1] at h;exact h
            have HR1n:Hid (r1≠.out):=by show r1≠.out;rw [hr1];exact hne
            clear hr1 hne HK3
            have S1:Hid (∀ W,Ext B W6.drew W→W.cell? ⟨w.heap.size,0,none⟩=some (.pointer (some ⟨B,0,none⟩))∧W.cell? ⟨g5,0,none⟩=some (.int .i64 pk')∧W.cell? ⟨g5,1,none⟩=some (.string x)∧W.cell? ⟨g5,2,none⟩=some (.int .i64 0)∧W.cell? ⟨g5,3,none⟩=some (.int .i64 0)∧W.cell? ⟨g5,4,none⟩=some (.slice none 0 0)∧W.cell? ⟨g5,5,none⟩=some (.int .i64 t.a)):=fun W hW =>
              have h6:=(Ext.refl B W6).drew.trans hW
              ⟨HGp.out W (HX6.out.trans h6),(box6 (HNd.out W h6)).1⟩
            have S0:=Lib.hid (S1.out _ (Ext.refl _ _))
            clear HNd
            go_region_held3 (fun W=>W.cell? ⟨w.heap.size,0,none⟩=some (.pointer (some ⟨B,0,none⟩))∧W.cell? ⟨g5,0,none⟩=some (.int .i64 pk')∧W.cell? ⟨g5,1,none⟩=some (.string x)∧W.cell? ⟨g5,2,none⟩=some (.int .i64 0)∧W.cell? ⟨g5,3,none⟩=some (.int .i64 0)∧W.cell? ⟨g5,4,none⟩=some (.slice none 0 0)∧W.cell? ⟨g5,5,none⟩=some (.int .i64 t.a))
              (first | exact S0.out | exact S1.out _ (N0.out.alloc _).1 | exact S1.out _ hx9)
              (first | (go_at_call 76;refine (HN.out _ N0.out).mono ?_;rintro e w9 ⟨v,rfl,hd,hx9⟩))
            all_goals
              have HX9:=Lib.hid (HX6.out.drew.trans hx9)
              have HD:=Lib.hid hd
              clear hd hx9 S0 S1 HN N0
              cases r1 with
              | out=>exact absurd rfl HR1n.out
              | bad c1 a1 =>
                obtain ⟨hv,_⟩:=HD.out
                obtain rfl:v=errV c1 a1:=Ending.returned.inj hv
                have HRb:Hid (r=.bad c1 a1):=HK4.out
                clear hv HD
                unfold errV
                go_wp2
                (try go_ret)
                rw [HQ.out,HRb.out]
                exact ⟨rfl,HE1.out.trans HX9.out⟩
              | ok s3 =>
                obtain ⟨hv,_,hp9⟩:=HD.out
                obtain rfl:v=.nilIface:=Ending.returned.inj hv
                have HP9:=Lib.hid hp9
                have HK5:Hid (r=runJ E m (.pairsL low mark) s3):=HK4.out
                clear hv HD hp9
                go_wp2
                go_roundg m
                case rel=>exact ⟨_,by omega,HK5,HX9.out,HP9.out⟩
                case measure=>omega
        · have HRo:Hid (r=.ok s2):=by have h:=HK2.out;rw [if_neg hlt] at h;exact h
          have hll:levelT t.t<low:=by omega
          clear hlt HK2
          generalize levelT t.t=lv at *
          go_wp2_with (first | (go_at_call 75;refine hpk.mono ?_;rintro e w3 ⟨rfl,hb3⟩) | (go_at_call 128;refine (hlv _).mono ?_;rintro e w' ⟨rfl,rfl⟩))
          have HX3:=Lib.hid (HXr.out.trans (Ext.below hb3 hBr))
          have HP3:=Lib.hid (HPr.out.below hb3)
          (try go_ret)
          rw [HQ.out,HRo.out]
          exact ⟨rfl,HE1.out.trans HX3.out,HP3.out⟩
end
section
open Go.RowKit
open Tk (T4 bstr)
open Tr (Nd Blk KidsAt)

theorem postL_eq (E m mark:Nat) (s:S3):runJ E (m+1) (.postL mark) s=(
      if (pk E s.L).t=[91] then (extF mark (mk 34 [] 0 (pk E s.L).a) [wordF E [91],runJ E m .expr,wordF E [93]] s).bind (runJ E m (.postL mark))
      else if (pk E s.L).t=[43,43]∨(pk E s.L).t=[45,45] then (addF (mk 40 (pk E s.L).t 1 (pk E s.L).a) mark { s with L:=s.L.tail }).bind (runJ E m (.postL mark))
      else .ok s):=rfl
theorem txt_yes {x:ByteArray}{t l:List UInt8}(hx:x=bstr t) (h:t=l):(x.toList == l)=true:=by rw [hx,bstr_list,h];simp
theorem txt_no {x:ByteArray}{t l:List UInt8}(hx:x=bstr t) (h:t≠l):(x.toList == l)=false:=by rw [hx,bstr_list];simpa using h

/-- a node in a box, behind W -/
theorem node_far {B T E:Nat}{s:S3}{W:World}(h:Ps B T E W s) {t:TypeId}{cs:Array Value}:∀ W1,Ext B (W.alloc (.cells cs t)) W1→Blk W1 W.heap.size t cs:=fun W1 hW =>
  hW.blk (Blk.new _ _ _) (fun ho=>not_own_ge h (Nat.le_refl _) ((own_alloc h.lt _ _).1 ho))

set_option maxHeartbeats 16000000 in
set_option maxRecDepth 100000 in
theorem postfixed_step {B T E n:Nat}(J:LtJ B T E n) (w:World) (s:S3) (h:Ps B T E w s) (hr:runJ E (n+1) .postfixed s≠.out) :
    Calls Tryz.prog 189 #[.pointer (some ⟨B,0,none⟩)] w (Did B T E w (runJ E (n+1) .postfixed s)):=by
  obtain ⟨r,hrr⟩ : ∃ r,r=runJ E (n+1) .postfixed s:=⟨_,rfl⟩
  rw [← hrr] at hr ⊢
  obtain ⟨Q,hQ⟩ : ∃ Q:Ending→World→Prop,Q=Did B T E w r:=⟨_,rfl⟩
  rw [← hQ]
  have HQ:=Lib.hid hQ
  have HR:=Lib.hid hr
  change r=((runJ E n .primary s).bind (runJ E n (.postL s.O.length))) at hrr
  have Hrr:=Lib.hid hrr
  have hB:=h.lt
  have hmk:=mark_any h
  have hne:runJ E n .primary s≠.out:=fun e=>hr (by rw [hrr,e];rfl)
  have hpre:=(J n (Nat.le_refl _)).primary _ _ h hne
  have HJ:=Lib.hid J
  have HmO:s.O.length≤5000000:=by obtain ⟨_,_,_,_,hh⟩:=h;have:=hh.lenO;have:=hh.lenN;omega
  clear hQ hr hrr h hne J
  obtain ⟨mark,hmark⟩ : ∃ mark,mark=s.O.length:=⟨_,rfl⟩
  rw [← hmark] at hmk HmO
  have Hmark:=Lib.hid hmark
  clear hmark
  go_enter Tryz.func189,Tryz.ntmps189
  go_wp2_with (first | (go_at_call 73;refine hmk.mono ?_;rintro e w' ⟨rfl,rfl⟩) | (go_at_call 229;refine hpre.mono ?_))
  intro e w2 hd
  cases hf:runJ E n .primary s with
  | out=>exact absurd (by rw [Hrr.out,hf];rfl) HR.out
  | bad c1 a1 =>
    rw [hf] at hd
    obtain ⟨rfl,hx2⟩:=hd
    have HX2:=Lib.hid hx2
    have HRb:Hid (r=.bad c1 a1):=by have h:=Hrr.out;rw [hf] at h;exact h
    clear hpre hmk hf hx2
    unfold errV
    go_wp2
    (try go_ret)
    rw [HQ.out,HRb.out]
    exact ⟨rfl,HX2.out⟩
  | ok s1 =>
    rw [hf] at hd
    obtain ⟨rfl,hx2,hp2⟩:=hd
    have HX2:=Lib.hid hx2
    have HP2:=Lib.hid hp2
    have HR1:Hid (r=runJ E n (.postL mark) s1):=by have h:=Hrr.out;rw [hf,← Hmark.out] at h;exact h
    clear hpre hmk hf hx2 hp2 Hrr
    go_wp2
    go_loopg [] n (fun k wr=>∃ s2,k≤n∧Hid (r=runJ E k (.postL mark) s2)∧Ext B w wr∧Ps B T E wr s2)
    case atStart=>exact ⟨s1,Nat.le_refl _,HR1,HX2.out,HP2.out⟩
    case round =>
      obtain ⟨s2,hk,HK,hx,hp⟩:=hrel
      have HXr:=Lib.hid hx
      have HPr:=Lib.hid hp
      have hpk:=peek_any hp
      unfold tokV at hpk
      obtain ⟨t,ht⟩ : ∃ t,t=pk E s2.L:=⟨_,rfl⟩
      obtain ⟨x,hxx⟩ : ∃ x,x=bstr t.t:=⟨_,rfl⟩
      rw [← ht,← hxx] at hpk
      have Ht:=Lib.hid ht
      have Hxx:=Lib.hid hxx
      have hBr:=hp.lt
      clear hx hp HR1 HX2 HP2 ht hxx
      cases gk with
      | zero=>exact absurd HK.out HR.out
      | succ m =>
        have HK2:Hid (r=_):=Lib.hid (HK.out.trans (postL_eq E m mark s2))
        rw [← Ht.out] at HK2
        clear HK
        by_cases h91:t.t=[91]
        · have HK3:Hid (r=(extF mark (mk 34 [] 0 t.a) [wordF E [91],runJ E m .expr,wordF E [93]] s2).bind (runJ E m (.postL mark))):=by have h:=HK2.out;rw [if_pos h91] at h;exact h
          have q91:=txt_yes Hxx.out h91
          clear HK2 h91
          go_wp2_with (go_at_call 75;refine hpk.mono ?_;rintro e w3 ⟨rfl,hb3⟩)
          have HX3:=Lib.hid (HXr.out.trans (Ext.below hb3 hBr))
          have hp3:=HPr.out.below hb3
          have hB3:=hp3.lt
          have hp4:=hp3.alloc (.cells #[.int .i64 t.k,.string x,.int .i64 t.v,.int .i64 t.a] 58)
          have HX4:=Lib.hid (HX3.out.alloc hB (.cells #[.int .i64 t.k,.string x,.int .i64 t.v,.int .i64 t.a] 58))
          have hB4:=hp4.lt
          have HP4:=Lib.hid hp4
          clear hb3 hpk hp3 hp4 HX3
          rw [← World.size_alloc w3 (.cells #[.int .i64 t.k,.string x,.int .i64 t.v,.int .i64 t.a] 58)]
          generalize w3.alloc (.cells #[.int .i64 t.k,.string x,.int .i64 t.v,.int .i64 t.a] 58)=W5 at *
          have HNd:=Lib.hid (node_far (t:=34) (cs:=#[.int .i64 34,.string ⟨#[]⟩,.int .i64 0,.int .i64 0,.slice none 0 0,.int .i64 t.a]) HP4.out)
          have HX6:=Lib.hid (HX4.out.alloc hB (.cells #[.int .i64 34,.string ⟨#[]⟩,.int .i64 0,.int .i64 0,.slice none 0 0,.int .i64 t.a] 34))
          have HP6:=Lib.hid (HP4.out.alloc (.cells #[.int .i64 34,.string ⟨#[]⟩,.int .i64 0,.int .i64 0,.slice none 0 0,.int .i64 t.a] 34))
          clear HX4 HP4
          generalize W5.alloc (.cells #[.int .i64 34,.string ⟨#[]⟩,.int .i64 0,.int .i64 0,.slice none 0 0,.int .i64 t.a] 34)=W6 at *
          generalize hg5:W5.heap.size=g5 at *
          have hne:extF mark (mk 34 [] 0 t.a) [wordF E [91],runJ E m .expr,wordF E [93]] s2≠.out:=fun e=>HR.out (by rw [HK3.out,e];rfl)
          obtain ⟨r1,hr1⟩ : ∃ r1,r1=extF mark (mk 34 [] 0 t.a) [wordF E [91],runJ E m .expr,wordF E [93]] s2:=⟨_,rfl⟩
          have HWa:Hid (∀ W,Now B T E s2 W6.drew W→Calls Tryz.prog 77 #[.pointer (some ⟨B,0,none⟩),.string ⟨#[91]⟩] W fun e w'=>∃ g1 g2,e=.returned (.func (.func 133) #[] #[.pointer (some ⟨g1,0,none⟩),.pointer (some ⟨g2,0,none⟩)]) ∧
              Now B T E s2 W6.drew w'∧Ext B W w'∧StepV B T E w' (.func (.func 133) #[] #[.pointer (some ⟨g1,0,none⟩),.pointer (some ⟨g2,0,none⟩)]) (wordF E [91])):=fun W hW=>word_now hW ⟨#[91]⟩
          have HWb:Hid (∀ W,Now B T E s2 W6.drew W→Calls Tryz.prog 77 #[.pointer (some ⟨B,0,none⟩),.string ⟨#[93]⟩] W fun e w'=>∃ g1 g2,e=.returned (.func (.func 133) #[] #[.pointer (some ⟨g1,0,none⟩),.pointer (some ⟨g2,0,none⟩)]) ∧
              Now B T E s2 W6.drew w'∧Ext B W w'∧StepV B T E w' (.func (.func 133) #[] #[.pointer (some ⟨g1,0,none⟩),.pointer (some ⟨g2,0,none⟩)]) (wordF E [93])):=fun W hW=>word_now hW ⟨#[93]⟩
          have HN:Hid (∀ W v1 v2,Now B T E s2 W6.drew W→StepV B T E W v1 (wordF E [91])→StepV B T E W v2 (wordF E [93])→Calls Tryz.prog 76 #[.pointer (some ⟨B,2,none⟩),.int .i64 mark,.agg #[.int .i64 34,.string ⟨#[]⟩,.int .i64 0,.int .i64 0,.slice none 0 0,.int .i64 t.a],.slice (some ⟨W.heap.size,0,none⟩) 3 3] (W.alloc (.cells #[v1,.func (.func 40) #[.pointer (some ⟨B,0,none⟩)] #[],v2] 70)) (Ends B T E W6.drew r1)):=fun W v1 v2 hW h1 h2=>by
            have h:=extend_now hW [v1,.func (.func 40) #[.pointer (some ⟨B,0,none⟩)] #[],v2] [wordF E [91],runJ E m .expr,wordF E [93]] rfl (by simp) (step3 h1 (stepExpr (HJ.out m (by omega)) W) h2) (mk 34 [] 0 t.a) rfl mark hne 70
            rw [← hr1] at h
            exact h
          have HK4:Hid (r=r1.bind (runJ E m (.postL mark))):=by have h:=HK3.out;rw [← hr1] at h;exact h
          have HR1n:Hid (r1≠.out):=by show r1≠.out;rw [hr1];exact hne
          have N0:Hid (Now B T E s2 W6.drew W6.drew):=Now.refl HP6.out.drew
          clear hr1 hne HK3
          have S1:Hid (∀ W,Ext B W6.drew W→W.cell? ⟨g5,0,none⟩=some (.int .i64 34)∧W.cell? ⟨g5,1,none⟩=some (.string ⟨#[]⟩)∧W.cell? ⟨g5,2,none⟩=some (.int .i64 0)∧W.cell? ⟨g5,3,none⟩=some (.int .i64 0)∧W.cell? ⟨g5,4,none⟩=some (.slice none 0 0)∧W.cell? ⟨g5,5,none⟩=some (.int .i64 t.a)):=fun W hW =>
            (box6 (HNd.out W ((Ext.refl B W6).drew.trans hW))).1
          have S0:=Lib.hid (S1.out _ (Ext.refl _ _))
          clear HNd
          go_wp2
          go_region_held3 (fun W=>W.cell? ⟨g5,0,none⟩=some (.int .i64 34)∧W.cell? ⟨g5,1,none⟩=some (.string ⟨#[]⟩)∧W.cell? ⟨g5,2,none⟩=some (.int .i64 0)∧W.cell? ⟨g5,3,none⟩=some (.int .i64 0)∧W.cell? ⟨g5,4,none⟩=some (.slice none 0 0)∧W.cell? ⟨g5,5,none⟩=some (.int .i64 t.a))
            (first | exact S0.out | exact S1.out _ hn5.1 | exact S1.out _ hn6.1 | exact S1.out _ (hn6.alloc _).1 | exact S1.out _ hx9)
            (first | (go_at_call 77;first | ((with_reducible refine (HWa.out _ N0.out).mono ?_);rintro e w5 ⟨g1,g2,rfl,hn5,-,hs5⟩) | ((with_reducible refine (HWb.out _ hn5).mono ?_);rintro e w6 ⟨g3,g4,rfl,hn6,hx56,hs6⟩)) | (go_at_call 76;refine (HN.out _ _ _ hn6 (hs5.ext hx56) hs6).mono ?_;rintro e w9 ⟨v,rfl,hd,hx9⟩))
          all_goals
            have HX9:=Lib.hid (HX6.out.drew.trans hx9)
            have HD:=Lib.hid hd
            clear hd hx9 S0 S1 HN N0 hn5 hs5 hn6 hx56 hs6 HWa HWb
            cases r1 with
            | out=>exact absurd rfl HR1n.out
            | bad c1 a1 =>
              obtain ⟨hv,_⟩:=HD.out
              obtain rfl:v=errV c1 a1:=Ending.returned.inj hv
              have HRb:Hid (r=.bad c1 a1):=HK4.out
              clear hv HD
              unfold errV
              go_wp2
              (try go_ret)
              rw [HQ.out,HRb.out]
              exact ⟨rfl,HX9.out⟩
            | ok s3 =>
              obtain ⟨hv,_,hp9⟩:=HD.out
              obtain rfl:v=.nilIface:=Ending.returned.inj hv
              have HP9:=Lib.hid hp9
              have HK5:Hid (r=runJ E m (.postL mark) s3):=HK4.out
              clear hv HD hp9
              go_wp2
              go_roundg m
              case rel=>exact ⟨_,by omega,HK5,HX9.out,HP9.out⟩
              case measure=>omega
        · by_cases hpp:t.t=[43,43]∨t.t=[45,45]
          · have HK3:Hid (r=(addF (mk 40 t.t 1 t.a) mark { s2 with L:=s2.L.tail }).bind (runJ E m (.postL mark))):=by have h:=HK2.out;rw [if_neg h91,if_pos hpp] at h;exact h
            have q91:=txt_no Hxx.out h91
            have hne:addF (mk 40 t.t 1 t.a) mark { s2 with L:=s2.L.tail }≠.out:=fun e=>HR.out (by rw [HK3.out,e];rfl)
            have HNe:=Lib.hid hne
            clear HK2 h91 hne
            rcases hpp with h43 | h43
            · have q43:=txt_yes (l:=[43,43]) Hxx.out h43
              clear h43
              go_wp2_with (go_at_call 75;refine hpk.mono ?_;rintro e w3 ⟨rfl,hb3⟩)
              have HX3:=Lib.hid (HXr.out.trans (Ext.below hb3 hBr))
              have hp3:=HPr.out.below hb3
              have HBx:=Lib.hid (node_far (t:=58) (cs:=#[.int .i64 t.k,.string x,.int .i64 t.v,.int .i64 t.a]) hp3)
              have hp4:=hp3.alloc (.cells #[.int .i64 t.k,.string x,.int .i64 t.v,.int .i64 t.a] 58)
              have HX4:=Lib.hid (HX3.out.alloc hB (.cells #[.int .i64 t.k,.string x,.int .i64 t.v,.int .i64 t.a] 58))
              have htk:=take_any hp4
              clear hb3 hpk hp3 hp4 HX3
              generalize w3.alloc (.cells #[.int .i64 t.k,.string x,.int .i64 t.v,.int .i64 t.a] 58)=W5 at *
              generalize w3.heap.size=g3 at *
              refine htk.mono ?_
              rintro e w6 ⟨rfl,hx6,hp6⟩
              have HX6:=Lib.hid (HX4.out.trans hx6).drew
              have hadd:=add_any hp6.drew (mk 40 t.t 1 t.a) rfl mark HNe.out
              unfold nodeV mk at hadd
              simp only at hadd
              rw [← Hxx.out] at hadd
              have S1:Hid (∀ W,Ext B w6.drew W→W.cell? ⟨g3,1,none⟩=some (.string x)∧W.cell? ⟨g3,3,none⟩=some (.int .i64 t.a)):=fun W hW =>
                have h:=hx6.trans ((Ext.refl B w6).drew.trans hW)
                ⟨(tok_box (HBx.out W h)).2.1,(tok_box (HBx.out W h)).2.2.2⟩
              have S0:=Lib.hid (S1.out _ (Ext.refl _ _))
              clear htk hx6 hp6 HBx HX4
              go_wp2
              go_region_held3 (fun W=>W.cell? ⟨g3,1,none⟩=some (.string x)∧W.cell? ⟨g3,3,none⟩=some (.int .i64 t.a))
                (first | exact S0.out | exact S1.out _ hx9)
                (first | (go_at_call 132;refine hadd.mono ?_;rintro e w9 ⟨rfl,s9,hs9,hx9,hp9⟩))
              all_goals
                have HX9:=Lib.hid (HX6.out.trans hx9)
                have HP9:=Lib.hid hp9
                have HK5:Hid (r=runJ E m (.postL mark) s9):=by
                  have h:=HK3.out
                  have h2:addF (mk 40 t.t 1 t.a) mark { s2 with L:=s2.L.tail }=.ok s9:=hs9
                  rw [h2] at h;exact h
                clear hx9 hp9 hs9 S0 S1 hadd HK3
                go_wp2
                go_roundg m
                case rel=>exact ⟨_,by omega,HK5,HX9.out,HP9.out⟩
                case measure=>omega
            · have q43:=txt_no (l:=[43,43]) Hxx.out (by rw [h43];decide)
              have q45:=txt_yes (l:=[45,45]) Hxx.out h43
              clear h43
              go_wp2_with (go_at_call 75;refine hpk.mono ?_;rintro e w3 ⟨rfl,hb3⟩)
              have HX3:=Lib.hid (HXr.out.trans (Ext.below hb3 hBr))
              have hp3:=HPr.out.below hb3
              have HBx:=Lib.hid (node_far (t:=58) (cs:=#[.int .i64 t.k,.string x,.int .i64 t.v,.int .i64 t.a]) hp3)
              have hp4:=hp3.alloc (.cells #[.int .i64 t.k,.string x,.int .i64 t.v,.int .i64 t.a] 58)
              have HX4:=Lib.hid (HX3.out.alloc hB (.cells #[.int .i64 t.k,.string x,.int .i64 t.v,.int .i64 t.a] 58))
              have htk:=take_any hp4
              clear hb3 hpk hp3 hp4 HX3
              generalize w3.alloc (.cells #[.int .i64 t.k,.string x,.int .i64 t.v,.int .i64 t.a] 58)=W5 at *
              generalize w3.heap.size=g3 at *
              refine htk.mono ?_
              rintro e w6 ⟨rfl,hx6,hp6⟩
              have HX6:=Lib.hid (HX4.out.trans hx6).drew
              have hadd:=add_any hp6.drew (mk 40 t.t 1 t.a) rfl mark HNe.out
              unfold nodeV mk at hadd
              simp only at hadd
              rw [← Hxx.out] at hadd
              have S1:Hid (∀ W,Ext B w6.drew W→W.cell? ⟨g3,1,none⟩=some (.string x)∧W.cell? ⟨g3,3,none⟩=some (.int .i64 t.a)):=fun W hW =>
                have h:=hx6.trans ((Ext.refl B w6).drew.trans hW)
                ⟨(tok_box (HBx.out W h)).2.1,(tok_box (HBx.out W h)).2.2.2⟩
              have S0:=Lib.hid (S1.out _ (Ext.refl _ _))
              clear htk hx6 hp6 HBx HX4
              go_wp2
              go_region_held3 (fun W=>W.cell? ⟨g3,1,none⟩=some (.string x)∧W.cell? ⟨g3,3,none⟩=some (.int .i64 t.a))
                (first | exact S0.out | exact S1.out _ hx9)
                (first | (go_at_call 132;refine hadd.mono ?_;rintro e w9 ⟨rfl,s9,hs9,hx9,hp9⟩))
              all_goals
                have HX9:=Lib.hid (HX6.out.trans hx9)
                have HP9:=Lib.hid hp9
                have HK5:Hid (r=runJ E m (.postL mark) s9):=by
                  have h:=HK3.out
                  have h2:addF (mk 40 t.t 1 t.a) mark { s2 with L:=s2.L.tail }=.ok s9:=hs9
                  rw [h2] at h;exact h
                clear hx9 hp9 hs9 S0 S1 hadd HK3
                go_wp2
                go_roundg m
                case rel=>exact ⟨_,by omega,HK5,HX9.out,HP9.out⟩
                case measure=>omega
          · have HRo:Hid (r=.ok s2):=by have h:=HK2.out;rw [if_neg h91,if_neg hpp] at h;exact h
            have q91:=txt_no Hxx.out h91
            have q43:=txt_no (l:=[43,43]) Hxx.out (fun e=>hpp (Or.inl e))
            have q45:=txt_no (l:=[45,45]) Hxx.out (fun e=>hpp (Or.inr e))
            clear h91 hpp HK2
            go_wp2_with (go_at_call 75;refine hpk.mono ?_;rintro e w3 ⟨rfl,hb3⟩)
            have HX3:=Lib.hid (HXr.out.trans (Ext.below hb3 hBr))
            have hp3:=HPr.out.below hb3
            (try go_ret)
            rw [HQ.out,HRo.out]
            exact ⟨rfl,HX3.out.alloc hB _,hp3.alloc _⟩
end
section
open Go.RowKit
open Tk (T4 bstr)
open Tr (Nd Blk KidsAt)

theorem expr_eq (E n:Nat) (s:S3):runJ E (n+1) .expr s=((runJ E n (.pairs 2) s).bind fun s1 =>
      if (pk E s1.L).t=[63] then extF s.O.length (mk 38 [] 0 (pk E s1.L).a) [wordF E [63],runJ E n .expr,wordF E [58],runJ E n .expr] s1
      else if setT (pk E s1.L).t=true then extF s.O.length (mk 39 (pk E s1.L).t 0 (pk E s1.L).a) [wordF E (pk E s1.L).t,runJ E n .expr] s1
      else .ok s1):=rfl

set_option maxHeartbeats 16000000 in
set_option maxRecDepth 100000 in
theorem expr_step {B T E n:Nat}(J:LtJ B T E n) (w:World) (s:S3) (h:Ps B T E w s) (hr:runJ E (n+1) .expr s≠.out) :
    Calls Tryz.prog 40 #[.pointer (some ⟨B,0,none⟩)] w (Did B T E w (runJ E (n+1) .expr s)):=by
  obtain ⟨r,hrr⟩ : ∃ r,r=runJ E (n+1) .expr s:=⟨_,rfl⟩
  rw [← hrr] at hr ⊢
  obtain ⟨Q,hQ⟩ : ∃ Q:Ending→World→Prop,Q=Did B T E w r:=⟨_,rfl⟩
  rw [← hQ]
  have HQ:=Lib.hid hQ
  have HR:=Lib.hid hr
  rw [expr_eq] at hrr
  have Hrr:=Lib.hid hrr
  have hB:=h.lt
  have hmk:=mark_any h
  have hne:runJ E n (.pairs 2) s≠.out:=fun e=>hr (by rw [hrr,e];rfl)
  have hpre:Calls Tryz.prog 74 #[.pointer (some ⟨B,0,none⟩),.int .i64 2] w (Did B T E w (runJ E n (.pairs 2) s)):=(J n (Nat.le_refl _)).pairs 2 _ _ h hne
  have HJ:=Lib.hid (J n (Nat.le_refl _))
  have HmO:s.O.length≤5000000:=by obtain ⟨_,_,_,_,hh⟩:=h;have:=hh.lenO;have:=hh.lenN;omega
  clear hQ hr hrr h hne J
  obtain ⟨mark,hmark⟩ : ∃ mark,mark=s.O.length:=⟨_,rfl⟩
  rw [← hmark] at hmk HmO Hrr
  clear hmark
  go_enter Tryz.func40,Tryz.ntmps40
  go_wp2_with (first | (go_at_call 73;refine hmk.mono ?_;rintro e w' ⟨rfl,rfl⟩) | (go_at_call 74;refine hpre.mono ?_))
  intro e w2 hd
  cases hf:runJ E n (.pairs 2) s with
  | out=>exact absurd (by rw [Hrr.out,hf];rfl) HR.out
  | bad c1 a1 =>
    rw [hf] at hd
    obtain ⟨rfl,hx2⟩:=hd
    have HX2:=Lib.hid hx2
    have HRb:Hid (r=.bad c1 a1):=by have h:=Hrr.out;rw [hf] at h;exact h
    clear hpre hmk hf hx2
    unfold errV
    go_wp2
    (try go_ret)
    rw [HQ.out,HRb.out]
    exact ⟨rfl,HX2.out⟩
  | ok s1 =>
    rw [hf] at hd
    obtain ⟨rfl,hx2,hp2⟩:=hd
    have HX2:=Lib.hid hx2
    have HP2:=Lib.hid hp2
    have HR1:Hid (r=(if (pk E s1.L).t=[63] then extF mark (mk 38 [] 0 (pk E s1.L).a) [wordF E [63],runJ E n .expr,wordF E [58],runJ E n .expr] s1
      else if setT (pk E s1.L).t=true then extF mark (mk 39 (pk E s1.L).t 0 (pk E s1.L).a) [wordF E (pk E s1.L).t,runJ E n .expr] s1
      else .ok s1)):=by have h:=Hrr.out;rw [hf] at h;exact h
    have hpk:=peek_any hp2
    unfold tokV at hpk
    obtain ⟨t,ht⟩ : ∃ t,t=pk E s1.L:=⟨_,rfl⟩
    have hset:=fun w=>isSet_any t.t w
    obtain ⟨x,hxx⟩ : ∃ x,x=bstr t.t:=⟨_,rfl⟩
    rw [← ht,← hxx] at hpk
    rw [← hxx] at hset
    rw [← ht] at HR1
    have Hxx:=Lib.hid hxx
    have hB2:=hp2.lt
    clear hpre hmk hf hx2 hp2 Hrr ht hxx
    by_cases h63:t.t=[63]
    · have HK3:Hid (r=extF mark (mk 38 [] 0 t.a) [wordF E [63],runJ E n .expr,wordF E [58],runJ E n .expr] s1):=by have h:=HR1.out;rw [if_pos h63] at h;exact h
      have q63:=txt_yes Hxx.out h63
      clear HR1 h63 hset
      go_wp2_with (first | (go_at_call 75;refine hpk.mono ?_;rintro e w3 ⟨rfl,hb3⟩))
      have hX3:=HX2.out.trans (Ext.below hb3 hB2)
      have hp3:=HP2.out.below hb3
      have HBx:=Lib.hid (node_far (t:=58) (cs:=#[.int .i64 t.k,.string x,.int .i64 t.v,.int .i64 t.a]) hp3)
      have HX4:=Lib.hid (hX3.alloc hB (.cells #[.int .i64 t.k,.string x,.int .i64 t.v,.int .i64 t.a] 58)).drew
      have N0:Hid (Now B T E s1 (w3.alloc (.cells #[.int .i64 t.k,.string x,.int .i64 t.v,.int .i64 t.a] 58)).drew (w3.alloc (.cells #[.int .i64 t.k,.string x,.int .i64 t.v,.int .i64 t.a] 58)).drew):=Now.refl (hp3.alloc _).drew
      clear hb3 hpk hp3 hX3
      generalize w3.alloc (.cells #[.int .i64 t.k,.string x,.int .i64 t.v,.int .i64 t.a] 58)=W5 at *
      generalize w3.heap.size=g3 at *
      have hne:extF mark (mk 38 [] 0 t.a) [wordF E [63],runJ E n .expr,wordF E [58],runJ E n .expr] s1≠.out:=fun e=>HR.out (by rw [HK3.out,e])
      have HWa:Hid (∀ W,Now B T E s1 W5.drew W→Calls Tryz.prog 77 #[.pointer (some ⟨B,0,none⟩),.string ⟨#[63]⟩] W fun e w'=>∃ g1 g2,e=.returned (.func (.func 133) #[] #[.pointer (some ⟨g1,0,none⟩),.pointer (some ⟨g2,0,none⟩)]) ∧
          Now B T E s1 W5.drew w'∧Ext B W w'∧StepV B T E w' (.func (.func 133) #[] #[.pointer (some ⟨g1,0,none⟩),.pointer (some ⟨g2,0,none⟩)]) (wordF E [63])):=fun W hW=>word_now hW ⟨#[63]⟩
      have HWb:Hid (∀ W,Now B T E s1 W5.drew W→Calls Tryz.prog 77 #[.pointer (some ⟨B,0,none⟩),.string ⟨#[58]⟩] W fun e w'=>∃ g1 g2,e=.returned (.func (.func 133) #[] #[.pointer (some ⟨g1,0,none⟩),.pointer (some ⟨g2,0,none⟩)]) ∧
          Now B T E s1 W5.drew w'∧Ext B W w'∧StepV B T E w' (.func (.func 133) #[] #[.pointer (some ⟨g1,0,none⟩),.pointer (some ⟨g2,0,none⟩)]) (wordF E [58])):=fun W hW=>word_now hW ⟨#[58]⟩
      have HN:Hid (∀ W v1 v2,Now B T E s1 W5.drew W→StepV B T E W v1 (wordF E [63])→StepV B T E W v2 (wordF E [58])→Calls Tryz.prog 76 #[.pointer (some ⟨B,2,none⟩),.int .i64 mark,.agg #[.int .i64 38,.string ⟨#[]⟩,.int .i64 0,.int .i64 0,.slice none 0 0,.int .i64 t.a],.slice (some ⟨W.heap.size,0,none⟩) 4 4] (W.alloc (.cells #[v1,.func (.func 40) #[.pointer (some ⟨B,0,none⟩)] #[],v2,.func (.func 40) #[.pointer (some ⟨B,0,none⟩)] #[]] 70)) (Ends B T E W5.drew r)):=fun W v1 v2 hW h1 h2=>by
        have h:=extend_now hW [v1,.func (.func 40) #[.pointer (some ⟨B,0,none⟩)] #[],v2,.func (.func 40) #[.pointer (some ⟨B,0,none⟩)] #[]] [wordF E [63],runJ E n .expr,wordF E [58],runJ E n .expr] rfl (by simp) (step4 h1 (stepExpr HJ.out W) h2 (stepExpr HJ.out W)) (mk 38 [] 0 t.a) rfl mark hne 70
        rw [← HK3.out] at h
        exact h
      have S1:Hid (∀ W,Ext B W5.drew W→W.cell? ⟨g3,3,none⟩=some (.int .i64 t.a)):=fun W hW=>(tok_box (HBx.out W ((Ext.refl B W5).drew.trans hW))).2.2.2
      have S0:=Lib.hid (S1.out _ (Ext.refl _ _))
      clear hne HBx
      go_wp2
      go_region_held3 (fun W=>W.cell? ⟨g3,3,none⟩=some (.int .i64 t.a))
        (first | exact S0.out | exact S1.out _ hn5.1 | exact S1.out _ hn6.1 | exact S1.out _ (hn6.alloc _).1 | exact S1.out _ hx9)
        (first | (go_at_call 77;first | ((with_reducible refine (HWa.out _ N0.out).mono ?_);rintro e w5 ⟨g1,g2,rfl,hn5,-,hs5⟩) | ((with_reducible refine (HWb.out _ hn5).mono ?_);rintro e w6 ⟨g3,g4,rfl,hn6,hx56,hs6⟩)) | (go_at_call 76;refine (HN.out _ _ _ hn6 (hs5.ext hx56) hs6).mono ?_;rintro e w9 ⟨v,rfl,hd,hx9⟩))
      all_goals
        have HD:=Lib.hid (did_ext hd HX4.out)
        clear hd hx9 S0 S1 HN N0 hn5 hs5 hn6 hx56 hs6 HWa HWb
        go_wp2
        (try go_ret)
        rw [HQ.out]
        exact HD.out
    · have q63:=txt_no Hxx.out h63
      by_cases hst:setT t.t=true
      · have HK3:Hid (r=extF mark (mk 39 t.t 0 t.a) [wordF E t.t,runJ E n .expr] s1):=by have h:=HR1.out;rw [if_neg h63,if_pos hst] at h;exact h
        rw [hst] at hset
        clear HR1 h63 hst
        go_wp2_with (first | (go_at_call 75;refine hpk.mono ?_;rintro e w3 ⟨rfl,hb3⟩) | (go_at_call 78;refine (hset _).mono ?_;rintro e w' ⟨rfl,rfl⟩))
        have hX3:=HX2.out.trans (Ext.below hb3 hB2)
        have hp3:=HP2.out.below hb3
        have HBx:=Lib.hid (node_far (t:=58) (cs:=#[.int .i64 t.k,.string x,.int .i64 t.v,.int .i64 t.a]) hp3)
        have HX4:=Lib.hid (hX3.alloc hB (.cells #[.int .i64 t.k,.string x,.int .i64 t.v,.int .i64 t.a] 58)).drew
        have N0:Hid (Now B T E s1 (w3.alloc (.cells #[.int .i64 t.k,.string x,.int .i64 t.v,.int .i64 t.a] 58)).drew (w3.alloc (.cells #[.int .i64 t.k,.string x,.int .i64 t.v,.int .i64 t.a] 58)).drew):=Now.refl (hp3.alloc _).drew
        clear hb3 hpk hp3 hX3
        generalize w3.alloc (.cells #[.int .i64 t.k,.string x,.int .i64 t.v,.int .i64 t.a] 58)=W5 at *
        generalize w3.heap.size=g3 at *
        have hne:extF mark (mk 39 t.t 0 t.a) [wordF E t.t,runJ E n .expr] s1≠.out:=fun e=>HR.out (by rw [HK3.out,e])
        have HWa:Hid (∀ W,Now B T E s1 W5.drew W→Calls Tryz.prog 77 #[.pointer (some ⟨B,0,none⟩),.string x] W fun e w'=>∃ g1 g2,e=.returned (.func (.func 133) #[] #[.pointer (some ⟨g1,0,none⟩),.pointer (some ⟨g2,0,none⟩)]) ∧
            Now B T E s1 W5.drew w'∧Ext B W w'∧StepV B T E w' (.func (.func 133) #[] #[.pointer (some ⟨g1,0,none⟩),.pointer (some ⟨g2,0,none⟩)]) (wordF E t.t)):=fun W hW=>by
          have h:=word_now hW x
          rw [show x.data.toList=t.t by rw [Hxx.out];rfl] at h
          exact h
        have HN:Hid (∀ W v1,Now B T E s1 W5.drew W→StepV B T E W v1 (wordF E t.t)→Calls Tryz.prog 76 #[.pointer (some ⟨B,2,none⟩),.int .i64 mark,.agg #[.int .i64 39,.string x,.int .i64 0,.int .i64 0,.slice none 0 0,.int .i64 t.a],.slice (some ⟨W.heap.size,0,none⟩) 2 2] (W.alloc (.cells #[v1,.func (.func 40) #[.pointer (some ⟨B,0,none⟩)] #[]] 70)) (Ends B T E W5.drew r)):=fun W v1 hW h1=>by
          have h:=extend_now hW [v1,.func (.func 40) #[.pointer (some ⟨B,0,none⟩)] #[]] [wordF E t.t,runJ E n .expr] rfl (by simp) (step2 h1 (stepExpr HJ.out W)) (mk 39 t.t 0 t.a) rfl mark hne 70
          rw [← HK3.out] at h
          rw [Hxx.out]
          exact h
        have S1:Hid (∀ W,Ext B W5.drew W→W.cell? ⟨g3,1,none⟩=some (.string x)∧W.cell? ⟨g3,3,none⟩=some (.int .i64 t.a)):=fun W hW =>
          have h:=(Ext.refl B W5).drew.trans hW
          ⟨(tok_box (HBx.out W h)).2.1,(tok_box (HBx.out W h)).2.2.2⟩
        have S0:=Lib.hid (S1.out _ (Ext.refl _ _))
        clear hne HBx
        go_wp2
        go_region_held3 (fun W=>W.cell? ⟨g3,1,none⟩=some (.string x)∧W.cell? ⟨g3,3,none⟩=some (.int .i64 t.a))
          (first | exact S0.out | exact S1.out _ hn5.1 | exact S1.out _ (hn5.alloc _).1 | exact S1.out _ hx9)
          (first | (go_at_call 77;refine (HWa.out _ N0.out).mono ?_;rintro e w5 ⟨g1,g2,rfl,hn5,-,hs5⟩) | (go_at_call 76;refine (HN.out _ _ hn5 hs5).mono ?_;rintro e w9 ⟨v,rfl,hd,hx9⟩))
        all_goals
          have HD:=Lib.hid (did_ext hd HX4.out)
          clear hd hx9 S0 S1 HN N0 hn5 hs5 HWa
          go_wp2
          (try go_ret)
          rw [HQ.out]
          exact HD.out
      · have HRo:Hid (r=.ok s1):=by have h:=HR1.out;rw [if_neg h63,if_neg hst] at h;exact h
        have hsf:setT t.t=false:=by simpa using hst
        rw [hsf] at hset
        clear HR1 h63 hst hsf
        go_wp2_with (first | (go_at_call 75;refine hpk.mono ?_;rintro e w3 ⟨rfl,hb3⟩) | (go_at_call 78;refine (hset _).mono ?_;rintro e w' ⟨rfl,rfl⟩))
        have hX3:=HX2.out.trans (Ext.below hb3 hB2)
        have hp3:=HP2.out.below hb3
        (try go_ret)
        rw [HQ.out,HRo.out]
        exact ⟨rfl,hX3.alloc hB _,hp3.alloc _⟩

/-- the calls of the parser's own functions -/
theorem callJ {B T E:Nat}:∀ n,CallJ B T E n:=by
  intro n
  induction n using Nat.strongRecOn with
  | _ n ih =>
    cases n with
    | zero=>exact ⟨fun w s _ h=>absurd rfl h,fun low w s _ h=>absurd rfl h,fun w s _ h=>absurd rfl h,fun w s _ h=>absurd rfl h,fun w s _ h=>absurd rfl h⟩
    | succ n =>
      have J:LtJ B T E n:=fun m hm=>ih m (by omega)
      exact ⟨fun w s h hr=>expr_step J w s h hr,fun low w s h hr=>pairs_step J low w s h hr,fun w s h hr=>prefixed_step (J n (Nat.le_refl _)) w s h hr,fun w s h hr=>postfixed_step J w s h hr,fun w s h hr=>primary_step J w s h hr⟩
end
section
open Go.RowKit
open Tk (T4 bstr)
open Tr (Nd Blk KidsAt)

/-- a function of the parser does what f does -/
def FnC (B T E:Nat) (id:FuncId) (f:F3):Prop:=∀ w s,Ps B T E w s→f s≠.out→Calls Tryz.prog id #[.pointer (some ⟨B,0,none⟩)] w (Did B T E w (f s))
def Ent (id:FuncId):Prop:=∀ (args:Array Value) (w:World),(callFunc id args).run Tryz.prog w=.ok (.enter id args) w
theorem stepFn {B T E:Nat}{id:FuncId}{f:F3}(h:FnC B T E id f) (he:Ent id) (W:World):StepV B T E W (.func (.func id) #[.pointer (some ⟨B,0,none⟩)] #[]) f :=
  ⟨id,_,_,rfl,he,fun w s _ hp hr=>h w s hp hr⟩
theorem fnExpr (B T E n:Nat):FnC B T E 40 (runJ E n .expr):=fun w s hp hr=>(callJ n).expr w s hp hr
theorem ent21:Ent 40:=enters21
theorem ent61:Ent 71:=fun args w=>by kernel_rfl
theorem ent115:Ent 183:=fun args w=>by kernel_rfl
theorem ent141:Ent 223:=fun args w=>by kernel_rfl
theorem ent142:Ent 224:=fun args w=>by kernel_rfl
theorem ent165:Ent 248:=fun args w=>by kernel_rfl
theorem ent166:Ent 249:=fun args w=>by kernel_rfl
theorem ent173:Ent 262:=fun args w=>by kernel_rfl
theorem ent174:Ent 263:=fun args w=>by kernel_rfl
theorem ent176:Ent 265:=fun args w=>by kernel_rfl
theorem ent177:Ent 266:=fun args w=>by kernel_rfl
theorem ent178:Ent 267:=fun args w=>by kernel_rfl
theorem ent188:Ent 280:=fun args w=>by kernel_rfl
theorem ent189:Ent 281:=fun args w=>by kernel_rfl
theorem ent190:Ent 282:=fun args w=>by kernel_rfl
theorem ent191:Ent 283:=fun args w=>by kernel_rfl
theorem ent193:Ent 285:=fun args w=>by kernel_rfl
theorem ent200:Ent 290:=fun args w=>by kernel_rfl
theorem ent23:Ent 38:=fun args w=>by kernel_rfl
theorem ent29:Ent 37:=fun args w=>by kernel_rfl
theorem ent37:Ent 68:=fun args w=>by kernel_rfl
theorem peek_now {B T E:Nat}{s:S3}{W0 W:World}(h:Now B T E s W0 W) :
    Calls Tryz.prog 75 #[.pointer (some ⟨B,0,none⟩)] W fun e w'=>e=.returned (.agg #[.int .i64 (pk E s.L).k,.string (bstr (pk E s.L).t),.int .i64 (pk E s.L).v,.int .i64 (pk E s.L).a])∧Now B T E s W0 w'∧Ext B W w' :=
  (peek_any h.2).mono fun e w' ⟨he,hb⟩=>⟨he,⟨h.1.trans (Ext.below hb h.2.lt),h.2.below hb⟩,Ext.below hb h.2.lt⟩

set_option maxHeartbeats 2000000 in
set_option maxRecDepth 100000 in
theorem braced_lay {B:Nat}(fn:Fn) (b c:Array Value) (w:World) :
    Calls Tryz.prog 247 #[.pointer (some ⟨B,0,none⟩),.func fn b c] w fun e w' =>
      e=.returned (.func (.func 262) #[] #[.pointer (some ⟨w.heap.size,0,none⟩),.pointer (some ⟨w.heap.size+1,0,none⟩)]) ∧
      w' = (w.alloc (.cells #[.pointer (some ⟨B,0,none⟩)] 98)).alloc (.cells #[.func fn b c] 70):=by
  go_enter Tryz.func247,Tryz.ntmps247
  go_wp2
  go_ret
  exact ⟨rfl,rfl⟩
set_option maxHeartbeats 2000000 in
set_option maxRecDepth 100000 in
theorem unless_lay {B:Nat}(x:ByteArray) (fn:Fn) (b c:Array Value) (w:World) :
    Calls Tryz.prog 284 #[.pointer (some ⟨B,0,none⟩),.string x,.func fn b c] w fun e w' =>
      e=.returned (.func (.func 290) #[] #[.pointer (some ⟨w.heap.size,0,none⟩),.pointer (some ⟨w.heap.size+1,0,none⟩),.pointer (some ⟨w.heap.size+1+1,0,none⟩)]) ∧
      w' = ((w.alloc (.cells #[.pointer (some ⟨B,0,none⟩)] 98)).alloc (.cells #[.string x] 9)).alloc (.cells #[.func fn b c] 70):=by
  go_enter Tryz.func284,Tryz.ntmps284
  go_wp2
  go_ret
  exact ⟨rfl,rfl⟩
set_option maxHeartbeats 2000000 in
set_option maxRecDepth 100000 in
theorem values_lay {B:Nat}(m:Int) (w:World) :
    Calls Tryz.prog 225 #[.pointer (some ⟨B,0,none⟩),.int .i64 m] w fun e w' =>
      e=.returned (.func (.func 249) #[] #[.pointer (some ⟨w.heap.size,0,none⟩),.pointer (some ⟨w.heap.size+1,0,none⟩)]) ∧
      w' = (w.alloc (.cells #[.pointer (some ⟨B,0,none⟩)] 98)).alloc (.cells #[.int .i64 m] 3):=by
  go_enter Tryz.func225,Tryz.ntmps225
  go_wp2
  go_ret
  exact ⟨rfl,rfl⟩

set_option maxHeartbeats 8000000 in
set_option maxRecDepth 100000 in
theorem bracedc_any {B T E n:Nat}{w:World}{s:S3}{gp gi:Nat}{fam:Nat→F3}{id:FuncId}{b c:Array Value}
    (hbx:∀ W,Ext B w W→W.cell? ⟨gp,0,none⟩=some (.pointer (some ⟨B,0,none⟩))∧W.cell? ⟨gi,0,none⟩=some (.func (.func id) b c))
    (hen:Ent id) (hit:∀ m,m<n→∀ W s1,Ext B w W→Ps B T E W s1→fam m s1≠.out→Calls Tryz.prog id (b ++ c) W (Did B T E W (fam m s1)))
    (h:Ps B T E w s) (hr:bracedF E fam n s≠.out) :
    Calls Tryz.prog 262 #[.pointer (some ⟨gp,0,none⟩),.pointer (some ⟨gi,0,none⟩)] w (Did B T E w (bracedF E fam n s)):=by
  obtain ⟨r,hrr⟩ : ∃ r,r=bracedF E fam n s:=⟨_,rfl⟩
  rw [← hrr] at hr ⊢
  obtain ⟨Q,hQ⟩ : ∃ Q:Ending→World→Prop,Q=Did B T E w r:=⟨_,rfl⟩
  rw [← hQ]
  have HQ:=Lib.hid hQ
  have HR:=Lib.hid hr
  change r=((wordF E [123] s).bind (bracesF E fam n)) at hrr
  have Hrr:=Lib.hid hrr
  have HBx:=Lib.hid hbx
  have HIt:=Lib.hid hit
  have HEn:=Lib.hid hen
  have hB:=h.lt
  have hWc:Calls Tryz.prog 77 #[.pointer (some ⟨B,0,none⟩),.string ⟨#[123]⟩] w fun e w'=>∃ g1 g2,e=.returned (.func (.func 133) #[] #[.pointer (some ⟨g1,0,none⟩),.pointer (some ⟨g2,0,none⟩)]) ∧
      Ext B w w'∧Calls Tryz.prog 133 #[.pointer (some ⟨g1,0,none⟩),.pointer (some ⟨g2,0,none⟩)] w' (Ends B T E w (wordF E [123] s)):=word_call (B:=B) (T:=T) (E:=E) (W0:=w) (W:=w) (Now.refl h) ⟨#[123]⟩ wordF_ne
  have cp:=(hbx w (Ext.refl _ _)).1
  clear hQ hr hrr hbx hit hen h
  go_enter Tryz.func262,Tryz.ntmps262
  go_wp2_with (go_at_call 77;refine hWc.mono ?_;rintro e w5 ⟨g1,g2,rfl,hx5,h77⟩)
  refine h77.mono ?_
  rintro e w6 ⟨v,rfl,hd,hx6⟩
  have HX6:=Lib.hid hx6
  have HD:=Lib.hid hd
  clear hx6 hd h77 hx5 hWc cp
  cases hw:wordF E [123] s with
  | out=>exact absurd hw wordF_ne
  | bad c1 a1 =>
    have HD2:=HD.out
    rw [hw] at HD2
    obtain ⟨hv,_⟩:=HD2
    obtain rfl:v=errV c1 a1:=Ending.returned.inj hv
    have HRb:Hid (r=.bad c1 a1):=by have h:=Hrr.out;rw [hw] at h;exact h
    clear hv hw HD
    unfold errV
    go_wp2
    (try go_ret)
    rw [HQ.out,HRb.out]
    exact ⟨rfl,HX6.out⟩
  | ok s1 =>
    have HD2:=HD.out
    rw [hw] at HD2
    obtain ⟨hv,_,hp6⟩:=HD2
    obtain rfl:v=.nilIface:=Ending.returned.inj hv
    have HR1:Hid (r=bracesF E fam n s1):=by have h:=Hrr.out;rw [hw] at h;exact h
    have HP6:=Lib.hid hp6
    clear hv hw HD hp6 Hrr
    go_wp2
    go_loopg [] n (fun k wr=>∃ s2,k≤n∧Hid (r=bracesF E fam k s2)∧Ext B w wr∧Ps B T E wr s2)
    case atStart=>exact ⟨s1,Nat.le_refl _,HR1,HX6.out,HP6.out⟩
    case round =>
      obtain ⟨s2,hk,HK,hx,hp⟩:=hrel
      have HXr:=Lib.hid hx
      have HPr:=Lib.hid hp
      have cp:=(HBx.out wr hx).1
      clear hx hp HR1 HX6 HP6
      cases gk with
      | zero=>exact absurd HK.out HR.out
      | succ m =>
        have HK2:Hid (r=if (pk E s2.L).t=[125] then .ok { s2 with L:=s2.L.tail } else (fam m s2).bind (bracesF E fam m)):=HK.out
        clear HK
        by_cases ht:(pk E s2.L).t=[125]
        · have htk:=took_yes HPr.out ⟨#[125]⟩ rfl ht
          have HR2:Hid (r=.ok { s2 with L:=s2.L.tail }):=by have h:=HK2.out;rw [if_pos ht] at h;exact h
          clear ht HK2
          go_wp2_with (go_at_call 134;refine htk.mono ?_;rintro e w7 ⟨rfl,hx7,hp7⟩)
          have HX7:=Lib.hid (HXr.out.trans hx7)
          have HP7:=Lib.hid hp7
          clear hx7 hp7 htk
          (try go_wp2)
          (try go_ret)
          rw [HQ.out,HR2.out]
          exact ⟨rfl,HX7.out,HP7.out⟩
        · have htk:=took_no HPr.out ⟨#[125]⟩ rfl ht
          have HK3:Hid (r=(fam m s2).bind (bracesF E fam m)):=by have h:=HK2.out;rw [if_neg ht] at h;exact h
          have hne:fam m s2≠.out:=fun e=>HR.out (by rw [HK3.out,e];rfl)
          have HNe:=Lib.hid hne
          clear ht HK2 hne
          go_wp2_with (go_at_call 134;refine htk.mono ?_;rintro e w7 ⟨rfl,hx7,hp7⟩;have ci:=(HBx.out w7 (HXr.out.trans hx7)).2;have hent:=HEn.out;unfold Ent at hent)
          have HX7:=Lib.hid (HXr.out.trans hx7)
          have hcall:=HIt.out m (by omega) w7 s2 HX7.out hp7 HNe.out
          clear hx7 hp7 htk
          refine hcall.mono ?_
          intro e w8 hd
          cases hf:fam m s2 with
          | out=>exact absurd hf HNe.out
          | bad c1 a1 =>
            rw [hf] at hd
            obtain ⟨rfl,hx8⟩:=hd
            have HX8:=Lib.hid (HX7.out.trans hx8)
            have HRb:Hid (r=.bad c1 a1):=by have h:=HK3.out;rw [hf] at h;exact h
            clear hcall hent hf hx8 ci cp
            unfold errV
            go_wp2
            (try go_ret)
            rw [HQ.out,HRb.out]
            exact ⟨rfl,HX8.out⟩
          | ok s3 =>
            rw [hf] at hd
            obtain ⟨rfl,hx8,hp8⟩:=hd
            have HX8:=Lib.hid (HX7.out.trans hx8)
            have HP8:=Lib.hid hp8
            have HK5:Hid (r=bracesF E fam m s3):=by have h:=HK3.out;rw [hf] at h;exact h
            clear hcall hent hf hx8 hp8 ci cp HK3 HX7
            go_wp2
            go_roundg m
            case rel=>exact ⟨s3,by omega,HK5,HX8.out,HP8.out⟩
            case measure=>omega
end
section
open Go.RowKit
open Tk (T4 bstr)
open Tr (Nd Blk KidsAt)

theorem sees_yes {B T E:Nat}{w:World}{s:S3}(h:Ps B T E w s) (x:ByteArray) {l:List UInt8}(hl:x.data.toList=l) (ht:(pk E s.L).t=l) :
    Calls Tryz.prog 181 #[.pointer (some ⟨B,0,none⟩),.string x] w fun e w'=>e=.returned (.bool true)∧Ext B w w'∧Ps B T E w' s:=by
  refine (sees_any h x).mono fun e w' ⟨he,hb⟩=>⟨?_,Ext.below hb h.lt,h.below hb⟩
  rw [he,hl,decide_eq_true ht]
theorem sees_no {B T E:Nat}{w:World}{s:S3}(h:Ps B T E w s) (x:ByteArray) {l:List UInt8}(hl:x.data.toList=l) (ht:(pk E s.L).t≠l) :
    Calls Tryz.prog 181 #[.pointer (some ⟨B,0,none⟩),.string x] w fun e w'=>e=.returned (.bool false)∧Ext B w w'∧Ps B T E w' s:=by
  refine (sees_any h x).mono fun e w' ⟨he,hb⟩=>⟨?_,Ext.below hb h.lt,h.below hb⟩
  rw [he,hl,decide_eq_false ht]

theorem braced_now {B T E n:Nat}{s:S3}{W0 W:World}(h:Now B T E s W0 W) (fam:Nat→F3) (id:FuncId) (hen:Ent id) (hit:∀ m,m<n→FnC B T E id (fam m)) :
    Calls Tryz.prog 247 #[.pointer (some ⟨B,0,none⟩),.func (.func id) #[.pointer (some ⟨B,0,none⟩)] #[]] W fun e w'=>∃ g1 g2,e=.returned (.func (.func 262) #[] #[.pointer (some ⟨g1,0,none⟩),.pointer (some ⟨g2,0,none⟩)]) ∧
      Now B T E s W0 w'∧Ext B W w'∧StepV B T E w' (.func (.func 262) #[] #[.pointer (some ⟨g1,0,none⟩),.pointer (some ⟨g2,0,none⟩)]) (bracedF E fam n):=by
  refine (braced_lay (.func id) #[.pointer (some ⟨B,0,none⟩)] #[] W).mono fun e w' ⟨hee,hw⟩=>⟨_,_,hee,?_⟩
  have hB:=h.2.lt
  have hb:Below W.heap.size W w':=by
    rw [hw];exact ((Below.refl _ _).alloc (Nat.le_refl _) _).alloc (by simp) _
  have hE:Ext B W w':=Ext.below hb hB
  have hP:Ps B T E w' s:=h.2.below hb
  have k1:Blk w' W.heap.size 98 #[.pointer (some ⟨B,0,none⟩)]:=by rw [hw];exact (blk_at rfl).alloc _
  have k2:Blk w' (W.heap.size+1) 70 #[.func (.func id) #[.pointer (some ⟨B,0,none⟩)] #[]]:=by rw [hw];exact blk_at (by simp)
  have hn:∀ g,W.heap.size≤g→¬ Own B w' g:=fun g hg ho=>not_own_ge h.2 hg ((own_same (hb.block B hB) g).1 ho)
  refine ⟨⟨h.1.trans hE,hP⟩,hE,262,_,_,rfl,ent173,fun w s1 hx hp hr=>?_⟩
  exact bracedc_any (fun W1 h1=>⟨((hx.trans h1).blk k1 (hn _ (Nat.le_refl _))).cell 0,((hx.trans h1).blk k2 (hn _ (by omega))).cell 0⟩) hen
    (fun m hm W1 s2 _ h2 h3=>hit m hm W1 s2 h2 h3) hp hr

set_option maxHeartbeats 8000000 in
set_option maxRecDepth 100000 in
theorem unlessc_any {B T E:Nat}{w:World}{s:S3}{gp ge gi:Nat}{x:ByteArray}{en:List UInt8}{f:F3}{id:FuncId}(he:x.data.toList=en)
    (hbx:∀ W,Ext B w W→W.cell? ⟨gp,0,none⟩=some (.pointer (some ⟨B,0,none⟩))∧W.cell? ⟨ge,0,none⟩=some (.string x)∧W.cell? ⟨gi,0,none⟩=some (.func (.func id) #[.pointer (some ⟨B,0,none⟩)] #[]))
    (hen:Ent id) (hit:FnC B T E id f) (hno:FnC B T E 266 (nothingF E))
    (h:Ps B T E w s) (hr:unlessF E en f s≠.out) :
    Calls Tryz.prog 290 #[.pointer (some ⟨gp,0,none⟩),.pointer (some ⟨ge,0,none⟩),.pointer (some ⟨gi,0,none⟩)] w (Did B T E w (unlessF E en f s)):=by
  obtain ⟨r,hrr⟩ : ∃ r,r=unlessF E en f s:=⟨_,rfl⟩
  rw [← hrr] at hr ⊢
  obtain ⟨Q,hQ⟩ : ∃ Q:Ending→World→Prop,Q=Did B T E w r:=⟨_,rfl⟩
  rw [← hQ]
  have HQ:=Lib.hid hQ
  have HR:=Lib.hid hr
  change r=(if (pk E s.L).t=en then nothingF E s else f s) at hrr
  have Hrr:=Lib.hid hrr
  have HBx:=Lib.hid hbx
  have HIt:=Lib.hid hit
  have HNo:=Lib.hid hno
  have HEn:=Lib.hid hen
  have hB:=h.lt
  have hpd:=h.drew
  have HX0:Hid (Ext B w w.drew):=(Ext.refl _ _).drew
  have S1:Hid (∀ W,Ext B w.drew W→W.cell? ⟨gp,0,none⟩=some (.pointer (some ⟨B,0,none⟩))∧W.cell? ⟨ge,0,none⟩=some (.string x)):=fun W hW=>⟨(HBx.out W (HX0.out.trans hW)).1,(HBx.out W (HX0.out.trans hW)).2.1⟩
  have S0:Hid (w.drew.cell? ⟨gp,0,none⟩=some (.pointer (some ⟨B,0,none⟩))∧w.drew.cell? ⟨ge,0,none⟩=some (.string x)):=S1.out _ (Ext.refl _ _)
  by_cases ht:(pk E s.L).t=en
  · have hse:=sees_yes hpd x he ht
    have HR2:Hid (r=nothingF E s):=by have h:=Hrr.out;rw [if_pos ht] at h;exact h
    clear hQ hr hrr hbx hit hno hen h hpd ht he
    go_enter Tryz.func290,Tryz.ntmps290
    go_wp2
    go_region_held3 (fun W=>W.cell? ⟨gp,0,none⟩=some (.pointer (some ⟨B,0,none⟩))∧W.cell? ⟨ge,0,none⟩=some (.string x))
      (first | exact S0.out | exact S1.out _ hx5)
      (first | (go_at_call 181;refine hse.mono ?_;rintro e w5 ⟨rfl,hx5,hp5⟩))
    have hcall:=HNo.out w5 s hp5 (by rw [← HR2.out];exact HR.out)
    rw [← HR2.out] at hcall
    have HX5:=Lib.hid (HX0.out.trans hx5)
    have cp:=(HBx.out w5 HX5.out).1
    clear hx5 hp5 hse S0 S1
    go_wp2_with (go_at_call 266;refine hcall.mono ?_)
    intro e w6 hd
    obtain ⟨v,rfl,hd⟩:=did_ret hd HR.out
    have HD:=Lib.hid (did_ext hd HX5.out)
    clear hd hcall
    go_wp2
    (try go_ret)
    rw [HQ.out]
    exact HD.out
  · have hse:=sees_no hpd x he ht
    have HR2:Hid (r=f s):=by have h:=Hrr.out;rw [if_neg ht] at h;exact h
    clear hQ hr hrr hbx hit hno hen h hpd ht he
    go_enter Tryz.func290,Tryz.ntmps290
    go_wp2
    go_region_held3 (fun W=>W.cell? ⟨gp,0,none⟩=some (.pointer (some ⟨B,0,none⟩))∧W.cell? ⟨ge,0,none⟩=some (.string x))
      (first | exact S0.out | exact S1.out _ hx5)
      (first | (go_at_call 181;refine hse.mono ?_;rintro e w5 ⟨rfl,hx5,hp5⟩))
    have hcall:=HIt.out w5 s hp5 (by rw [← HR2.out];exact HR.out)
    rw [← HR2.out] at hcall
    have HX5:=Lib.hid (HX0.out.trans hx5)
    have ci:=(HBx.out w5 HX5.out).2.2
    have hent:=HEn.out
    unfold Ent at hent
    clear hx5 hp5 hse S0 S1
    go_wp2_with (refine hcall.mono ?_)
    intro e w6 hd
    obtain ⟨v,rfl,hd⟩:=did_ret hd HR.out
    have HD:=Lib.hid (did_ext hd HX5.out)
    clear hd hcall hent ci
    go_wp2
    (try go_ret)
    rw [HQ.out]
    exact HD.out
theorem unless_now {B T E:Nat}{s:S3}{W0 W:World}(h:Now B T E s W0 W) (x:ByteArray) {en:List UInt8}(he:x.data.toList=en) (f:F3) (id:FuncId) (hen:Ent id) (hit:FnC B T E id f) (hno:FnC B T E 266 (nothingF E)) :
    Calls Tryz.prog 284 #[.pointer (some ⟨B,0,none⟩),.string x,.func (.func id) #[.pointer (some ⟨B,0,none⟩)] #[]] W fun e w'=>∃ g1 g2 g3,e=.returned (.func (.func 290) #[] #[.pointer (some ⟨g1,0,none⟩),.pointer (some ⟨g2,0,none⟩),.pointer (some ⟨g3,0,none⟩)]) ∧
      Now B T E s W0 w'∧Ext B W w'∧StepV B T E w' (.func (.func 290) #[] #[.pointer (some ⟨g1,0,none⟩),.pointer (some ⟨g2,0,none⟩),.pointer (some ⟨g3,0,none⟩)]) (unlessF E en f):=by
  refine (unless_lay x (.func id) #[.pointer (some ⟨B,0,none⟩)] #[] W).mono fun e w' ⟨hee,hw⟩=>⟨_,_,_,hee,?_⟩
  have hB:=h.2.lt
  have hb:Below W.heap.size W w':=by
    rw [hw];exact (((Below.refl _ _).alloc (Nat.le_refl _) _).alloc (by simp) _).alloc (by simp;omega) _
  have hE:Ext B W w':=Ext.below hb hB
  have hP:Ps B T E w' s:=h.2.below hb
  have k1:Blk w' W.heap.size 98 #[.pointer (some ⟨B,0,none⟩)]:=by rw [hw];exact ((blk_at rfl).alloc _).alloc _
  have k2:Blk w' (W.heap.size+1) 9 #[.string x]:=by rw [hw];exact (blk_at (by simp)).alloc _
  have k3:Blk w' (W.heap.size+1+1) 70 #[.func (.func id) #[.pointer (some ⟨B,0,none⟩)] #[]]:=by rw [hw];exact blk_at (by simp)
  have hn:∀ g,W.heap.size≤g→¬ Own B w' g:=fun g hg ho=>not_own_ge h.2 hg ((own_same (hb.block B hB) g).1 ho)
  refine ⟨⟨h.1.trans hE,hP⟩,hE,290,_,_,rfl,ent200,fun w s1 hx hp hr=>?_⟩
  exact unlessc_any he (fun W1 h1=>⟨((hx.trans h1).blk k1 (hn _ (Nat.le_refl _))).cell 0,((hx.trans h1).blk k2 (hn _ (by omega))).cell 0,((hx.trans h1).blk k3 (hn _ (by omega))).cell 0⟩) hen hit hno hp hr
end
end Go.Proofs.YtdjpopebeenlmaaGreatDoor
