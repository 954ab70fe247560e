/-
  Joined texts of this claim: Uoa, Un, Uq, Ur.
-/
import Derived.Test.YtdjpopebeenlmaaGreatDoorW00
import Derived.Test.YtdjpopebeenlmaaGreatDoorW19
import Derived.Test.YtdjpopebeenlmaaGreatDoorW16
import Derived.Test.YtdjpopebeenlmaaGreatDoorW18
set_option maxHeartbeats 40000000
set_option maxRecDepth 100000
set_option linter.unusedVariables false
set_option linter.unusedSimpArgs false
namespace Go.Proofs.YtdjpopebeenlmaaGreatDoor
section
open Go.RowKit
open Tk (T4 bstr)
open Tr (Nd Blk KidsAt)

set_option maxHeartbeats 16000000 in
set_option maxRecDepth 100000 in
theorem glob_rest {B T E n:Nat}{fnf:Mn→F3}{ex:F3}{fam:Nat→F3}(hfn:NdC B T E 179 fnf) (har:NdC B T E 182 (fun x=>arrayF E x fam n)) (hin:FnC B T E 183 (initialF E ex)) {w:World}{s:S3}(h:Ps B T E w s) (ht:(pk E s.L).t≠[118,111,105,100]) (hr:globF E n fnf ex fam s≠.out) :
    Calls Tryz.prog 125 #[.pointer (some ⟨B,0,none⟩)] w (Did B T E w (globF E n fnf ex fam s)):=by
  obtain ⟨r,hrr⟩ : ∃ r,r=globF E n fnf ex fam s:=⟨_,rfl⟩
  rw [← hrr] at hr ⊢
  obtain ⟨Q,hQ⟩ : ∃ Q:Ending→World→Prop,Q=Did B T E w r:=⟨_,rfl⟩
  rw [← hQ]
  have HQ:=Lib.hid hQ
  have HR:=Lib.hid hr
  have hB:=h.lt
  clear hQ hr
  have htk:=took_no h ⟨#[118,111,105,100]⟩ rfl ht
  have Hrr0:Hid (r=(declF E s).bind fun s1 x=>if (pk E s1.L).t=[40] then fnf x s1 else if (pk E s1.L).t=[91]∧x.n=1 then arrayF E x fam n s1 else buildF { x with k:=2 } [initialF E ex,wordF E [59]] s1):=by
    show r=_
    rw [hrr];unfold globF;rw [if_neg ht]
  have HFn:=Lib.hid hfn
  have HAr:=Lib.hid har
  have HIn:=Lib.hid hin
  clear hrr h ht hfn har hin
  go_enter Tryz.func125,Tryz.ntmps125
  go_wp2_with (go_at_call 134;refine htk.mono ?_;rintro e w0 ⟨rfl,hx1,hp1⟩)
  have hnm:=declared_any hp1
  have HX1:=Lib.hid hx1
  have HP1:=Lib.hid hp1
  clear hx1 hp1 htk
  go_wp2_with (go_at_call 180;refine hnm.mono ?_)
  rintro e w1 ⟨a0,a1,a2,a3,a5,v2,s1,rfl,hM,hd⟩
  have HM:=Lib.hid hM
  have hB2:B<w1.heap.size:=(hM.of HP1.out).lt
  have HX2:=Lib.hid (HX1.out.trans hM.ext)
  clear hM hnm
  cases hf:declF E s with
  | out=>rw [hf] at hd;exact hd.elim
  | bad c1 b1 =>
    rw [hf] at hd
    obtain rfl:v2=errV c1 b1:=hd
    have HRb:Hid (r=.bad c1 b1):=by have h:=Hrr0.out;rw [hf] at h;exact h
    clear hf
    unfold errV
    go_wp2
    (try go_ret)
    rw [HQ.out,HRb.out]
    exact ⟨rfl,HX2.out.alloc hB _⟩
  | ok s2 x =>
    rw [hf] at hd
    obtain ⟨hv,rfl,rfl,hc⟩:=hd
    have Hrr1:Hid (r=if (pk E s1.L).t=[40] then fnf x s1 else if (pk E s1.L).t=[91]∧x.n=1 then arrayF E x fam n s1 else buildF { x with k:=2 } [initialF E ex,wordF E [59]] s1):=by have h:=Hrr0.out;rw [hf] at h;exact h
    have hp1:=HM.out.of HP1.out
    have Hv:=Lib.hid hv
    have Hc:=Lib.hid hc
    have HP2:=Lib.hid hp1
    have hp2:=hp1.alloc (.cells #[.int .i64 a0,.string a1,.int .i64 a2,.int .i64 a3,.slice none 0 0,.int .i64 a5] 34)
    have HX6:=Lib.hid (HX2.out.alloc hB (.cells #[.int .i64 a0,.string a1,.int .i64 a2,.int .i64 a3,.slice none 0 0,.int .i64 a5] 34))
    have hxn:=node_n hv
    clear hv hc hf HM HX1 HP1 Hrr0
    by_cases h4:(pk E s1.L).t=[40]
    · have hse:=sees_yesb hp2 ⟨#[40]⟩ rfl h4
      have Hrr:Hid (r=fnf x s1):=by have h:=Hrr1.out;rw [if_pos h4] at h;exact h
      clear Hrr1 h4 hxn
      go_wp2_with (first | (go_at_call 181;refine hse.mono ?_;rintro e w3 ⟨rfl,hb3⟩;obtain ⟨⟨c0,c1,c2,c3,c4,c5⟩,lb⟩:=box6 ((Blk.new w1 34 #[.int .i64 a0,.string a1,.int .i64 a2,.int .i64 a3,.slice none 0 0,.int .i64 a5]).below hb3 (by simp))) | (go_at_call 179;refine (HFn.out a0 a1 a2 a3 a5 x Hv.out Hc.out _ s1 (hp2.below hb3) (by rw [← Hrr.out];exact HR.out)).mono ?_))
      intro e w4 hd
      rw [← Hrr.out] at hd
      obtain ⟨v,rfl,hd⟩:=did_ret hd HR.out
      have HD:=Lib.hid (did_ext hd (HX6.out.trans (Ext.below hb3 hp2.lt)))
      clear hd hse c0 c1 c2 c3 c4 c5 hb3 lb hp2 hp1
      go_wp2
      (try go_ret)
      rw [HQ.out]
      exact HD.out
    have Hrr2:Hid (r=if (pk E s1.L).t=[91]∧x.n=1 then arrayF E x fam n s1 else buildF { x with k:=2 } [initialF E ex,wordF E [59]] s1):=by have h:=Hrr1.out;rw [if_neg h4] at h;exact h
    have hse:=sees_nob hp2 ⟨#[40]⟩ rfl h4
    clear Hrr1 h4
    by_cases h9:(pk E s1.L).t=[91]
    · by_cases hn1:x.n=1
      · have Hrr:Hid (r=arrayF E x fam n s1):=by have h:=Hrr2.out;rw [if_pos ⟨h9,hn1⟩] at h;exact h
        obtain rfl:a2=1:=by rw [← hxn,hn1]
        have H9:=Lib.hid h9
        clear Hrr2 h9 hn1 hxn
        go_wp2_with (first | (go_at_call 181;first | ((with_reducible refine hse.mono ?_);rintro e w3 ⟨rfl,hb3⟩;have lb3:w1.heap.size<w3.heap.size:=(by have:=hb3.size;simp at this;omega)) | ((with_reducible refine (sees_yesb (hp2.below hb3) ⟨#[91]⟩ rfl H9.out).mono ?_);rintro e w4 ⟨rfl,hb4⟩;obtain ⟨⟨c0,c1,c2,c3,c4,c5⟩,lb⟩:=box6 (((Blk.new w1 34 #[.int .i64 a0,.string a1,.int .i64 1,.int .i64 a3,.slice none 0 0,.int .i64 a5]).below hb3 (by simp)).below hb4 lb3))))
        refine (HAr.out a0 a1 1 a3 a5 x Hv.out Hc.out _ s1 ((hp2.below hb3).below hb4) (by show arrayF E x fam n s1≠.out;rw [← Hrr.out];exact HR.out)).mono ?_
        intro e w5 hd
        change Did B T E w4 (arrayF E x fam n s1) e w5 at hd
        rw [← Hrr.out] at hd
        obtain ⟨v,rfl,hd⟩:=did_ret hd HR.out
        have HD:=Lib.hid (did_ext hd ((HX6.out.trans (Ext.below hb3 hp2.lt)).trans (Ext.below hb4 (hp2.below hb3).lt)))
        clear hd hse c0 c1 c2 c3 c4 c5 hb3 hb4 lb lb3 hp2 hp1
        go_wp2
        (try go_ret)
        rw [HQ.out]
        exact HD.out
      · have Hrr:Hid (r=buildF { x with k:=2 } [initialF E ex,wordF E [59]] s1):=by have h:=Hrr2.out;rw [if_neg (fun h=>hn1 h.2)] at h;exact h
        have ha2:a2≠1:=by rw [← hxn];exact hn1
        have q2:(a2 == 1)=false:=by simpa using ha2
        have H9:=Lib.hid h9
        clear Hrr2 h9 hn1 hxn ha2
        go_upto_region 14 with (first | (go_at_call 181;first | ((with_reducible refine hse.mono ?_);rintro e w3 ⟨rfl,hb3⟩;have lb3:w1.heap.size<w3.heap.size:=(by have:=hb3.size;simp at this;omega)) | ((with_reducible refine (sees_yesb (hp2.below hb3) ⟨#[91]⟩ rfl H9.out).mono ?_);rintro e w4 ⟨rfl,hb4⟩;obtain ⟨c0,c1,c2,c3,c4,c5,d0,-,-,-,-,-,lb⟩:=box6f (((Blk.new w1 34 #[.int .i64 a0,.string a1,.int .i64 a2,.int .i64 a3,.slice none 0 0,.int .i64 a5]).below hb3 (by simp)).below hb4 lb3))))
        have b14:Below w1.heap.size w1 w4:=(((Below.refl _ _).alloc (Nat.le_refl _) _).trans (hb3.mono (by simp))).trans (hb4.mono (by omega))
        have hk4:Blk w4 w1.heap.size 34 #[.int .i64 a0,.string a1,.int .i64 a2,.int .i64 a3,.slice none 0 0,.int .i64 a5]:=((Blk.new w1 34 #[.int .i64 a0,.string a1,.int .i64 a2,.int .i64 a3,.slice none 0 0,.int .i64 a5]).below hb3 (by simp)).below hb4 lb3
        have hn4:¬ Own B w4 w1.heap.size:=fun ho=>not_own_ge HP2.out (Nat.le_refl _) ((own_same (b14.block B hB2) _).1 ho)
        have hM4:=(Mv.below HP2.out b14).set HP2.out (o:=0) (Nat.le_refl _) hn4 (.int .i64 2)
        have hk6:Blk (w4.setCell ⟨w1.heap.size,0,none⟩ (.int .i64 2)) w1.heap.size 34 #[.int .i64 2,.string a1,.int .i64 a2,.int .i64 a3,.slice none 0 0,.int .i64 a5]:=by have h:=hk4.set_ 0 (.int .i64 2);simpa using h
        have hn6:¬ Own B (w4.setCell ⟨w1.heap.size,0,none⟩ (.int .i64 2)) w1.heap.size:=fun ho=>hn4 ((own_setCell hn4 _ _).1 ho)
        have HNd:Hid (∀ W,Ext B (w4.setCell ⟨w1.heap.size,0,none⟩ (.int .i64 2)) W→Blk W w1.heap.size 34 #[.int .i64 2,.string a1,.int .i64 a2,.int .i64 a3,.slice none 0 0,.int .i64 a5]):=fun W hW=>hW.blk hk6 hn6
        have HX7:=Lib.hid (HX2.out.trans hM4.ext)
        have HP7:=Lib.hid (hM4.of HP2.out)
        have HA:=Lib.hid (node_k Hv.out Hc.out 2)
        clear b14 hk4 hn4 hM4 hk6 hn6 hb3 hb4 hse c0 c1 c2 c3 c4 c5 d0 lb lb3 hp1 hp2 HX6 HP2 HX2
        generalize w4.setCell ⟨w1.heap.size,0,none⟩ (.int .i64 2)=W6 at *
        generalize w1.heap.size=g at *
        have HX0:Hid (Ext B w W6.drew):=HX7.out.drew
        have N0:Hid (Now B T E s1 W6.drew W6.drew):=Now.refl HP7.out.drew
        have S1:Hid (∀ W,Ext B W6.drew W→W.cell? ⟨g,0,none⟩=some (.int .i64 2)∧W.cell? ⟨g,1,none⟩=some (.string a1)∧W.cell? ⟨g,2,none⟩=some (.int .i64 a2)∧W.cell? ⟨g,3,none⟩=some (.int .i64 a3)∧W.cell? ⟨g,4,none⟩=some (.slice none 0 0)∧W.cell? ⟨g,5,none⟩=some (.int .i64 a5)):=fun W hW=>(box6 (HNd.out W ((Ext.refl B W6).drew.trans hW))).1
        have S0:=Lib.hid (S1.out _ (Ext.refl _ _))
        clear HNd HX7 HP7
        go_wp2
        have HW0:Hid (∀ W,Now B T E s1 W6.drew W→Calls Tryz.prog 77 #[.pointer (some ⟨B,0,none⟩),.string ⟨#[59]⟩] W fun e w'=>∃ g1 g2,e=.returned (.func (.func 133) #[] #[.pointer (some ⟨g1,0,none⟩),.pointer (some ⟨g2,0,none⟩)])∧Now B T E s1 W6.drew w'∧Ext B W w'∧StepV B T E w' (.func (.func 133) #[] #[.pointer (some ⟨g1,0,none⟩),.pointer (some ⟨g2,0,none⟩)]) (wordF E [59])):=fun W hW=>word_now hW ⟨#[59]⟩
        have HN:Hid (∀ W v1,Now B T E s1 W6.drew W→StepV B T E W v1 (wordF E [59])→Calls Tryz.prog 70 #[.pointer (some ⟨B,2,none⟩),.agg #[.int .i64 2,.string a1,.int .i64 a2,.int .i64 a3,.slice none 0 0,.int .i64 a5],.slice (some ⟨W.heap.size,0,none⟩) 2 2] (W.alloc (.cells #[.func (.func 183) #[.pointer (some ⟨B,0,none⟩)] #[],v1] 70)) (Ends B T E W6.drew r)):=fun W v1 hW h1=>by
            have h:=build_now hW [.func (.func 183) #[.pointer (some ⟨B,0,none⟩)] #[],v1] [initialF E ex,wordF E [59]] rfl (by simp) (step2 (stepFn HIn.out ent115 W) (h1)) ({ x with k:=2 }) Hc.out (by rw [← Hrr.out];exact HR.out) 70
            rw [← Hrr.out] at h
            rw [HA.out] at h
            exact h
        go_region_held3 (fun W=>W.cell? ⟨g,0,none⟩=some (.int .i64 2)∧W.cell? ⟨g,1,none⟩=some (.string a1)∧W.cell? ⟨g,2,none⟩=some (.int .i64 a2)∧W.cell? ⟨g,3,none⟩=some (.int .i64 a3)∧W.cell? ⟨g,4,none⟩=some (.slice none 0 0)∧W.cell? ⟨g,5,none⟩=some (.int .i64 a5))
          (first | exact S0.out | exact S1.out _ hn0.1 | exact S1.out _ (hn0.alloc _).1 | exact S1.out _ hx9)
          (first | (go_at_call 77;first | ((with_reducible refine (HW0.out _ N0.out).mono ?_);rintro e w0_ ⟨q00,q01,rfl,hn0,hx0,hs0⟩)) | (go_at_call 70;refine (HN.out _ _ hn0 hs0).mono ?_;rintro e w9 ⟨v,rfl,hd,hx9⟩))

        all_goals
          have HD:=Lib.hid (did_ext hd HX0.out)
          clear hd hx9
          go_wp2
          (try go_ret)
          rw [HQ.out]
          exact HD.out

    · have Hrr:Hid (r=buildF { x with k:=2 } [initialF E ex,wordF E [59]] s1):=by have h:=Hrr2.out;rw [if_neg (fun h=>h9 h.1)] at h;exact h
      have H9:=Lib.hid h9
      clear Hrr2 h9 hxn
      go_upto_region 14 with (first | (go_at_call 181;first | ((with_reducible refine hse.mono ?_);rintro e w3 ⟨rfl,hb3⟩;have lb3:w1.heap.size<w3.heap.size:=(by have:=hb3.size;simp at this;omega)) | ((with_reducible refine (sees_nob (hp2.below hb3) ⟨#[91]⟩ rfl H9.out).mono ?_);rintro e w4 ⟨rfl,hb4⟩;obtain ⟨c0,c1,c2,c3,c4,c5,d0,-,-,-,-,-,lb⟩:=box6f (((Blk.new w1 34 #[.int .i64 a0,.string a1,.int .i64 a2,.int .i64 a3,.slice none 0 0,.int .i64 a5]).below hb3 (by simp)).below hb4 lb3))))
      have b14:Below w1.heap.size w1 w4:=(((Below.refl _ _).alloc (Nat.le_refl _) _).trans (hb3.mono (by simp))).trans (hb4.mono (by omega))
      have hk4:Blk w4 w1.heap.size 34 #[.int .i64 a0,.string a1,.int .i64 a2,.int .i64 a3,.slice none 0 0,.int .i64 a5]:=((Blk.new w1 34 #[.int .i64 a0,.string a1,.int .i64 a2,.int .i64 a3,.slice none 0 0,.int .i64 a5]).below hb3 (by simp)).below hb4 lb3
      have hn4:¬ Own B w4 w1.heap.size:=fun ho=>not_own_ge HP2.out (Nat.le_refl _) ((own_same (b14.block B hB2) _).1 ho)
      have hM4:=(Mv.below HP2.out b14).set HP2.out (o:=0) (Nat.le_refl _) hn4 (.int .i64 2)
      have hk6:Blk (w4.setCell ⟨w1.heap.size,0,none⟩ (.int .i64 2)) w1.heap.size 34 #[.int .i64 2,.string a1,.int .i64 a2,.int .i64 a3,.slice none 0 0,.int .i64 a5]:=by have h:=hk4.set_ 0 (.int .i64 2);simpa using h
      have hn6:¬ Own B (w4.setCell ⟨w1.heap.size,0,none⟩ (.int .i64 2)) w1.heap.size:=fun ho=>hn4 ((own_setCell hn4 _ _).1 ho)
      have HNd:Hid (∀ W,Ext B (w4.setCell ⟨w1.heap.size,0,none⟩ (.int .i64 2)) W→Blk W w1.heap.size 34 #[.int .i64 2,.string a1,.int .i64 a2,.int .i64 a3,.slice none 0 0,.int .i64 a5]):=fun W hW=>hW.blk hk6 hn6
      have HX7:=Lib.hid (HX2.out.trans hM4.ext)
      have HP7:=Lib.hid (hM4.of HP2.out)
      have HA:=Lib.hid (node_k Hv.out Hc.out 2)
      clear b14 hk4 hn4 hM4 hk6 hn6 hb3 hb4 hse c0 c1 c2 c3 c4 c5 d0 lb lb3 hp1 hp2 HX6 HP2 HX2
      generalize w4.setCell ⟨w1.heap.size,0,none⟩ (.int .i64 2)=W6 at *
      generalize w1.heap.size=g at *
      have HX0:Hid (Ext B w W6.drew):=HX7.out.drew
      have N0:Hid (Now B T E s1 W6.drew W6.drew):=Now.refl HP7.out.drew
      have S1:Hid (∀ W,Ext B W6.drew W→W.cell? ⟨g,0,none⟩=some (.int .i64 2)∧W.cell? ⟨g,1,none⟩=some (.string a1)∧W.cell? ⟨g,2,none⟩=some (.int .i64 a2)∧W.cell? ⟨g,3,none⟩=some (.int .i64 a3)∧W.cell? ⟨g,4,none⟩=some (.slice none 0 0)∧W.cell? ⟨g,5,none⟩=some (.int .i64 a5)):=fun W hW=>(box6 (HNd.out W ((Ext.refl B W6).drew.trans hW))).1
      have S0:=Lib.hid (S1.out _ (Ext.refl _ _))
      clear HNd HX7 HP7
      go_wp2
      have HW0:Hid (∀ W,Now B T E s1 W6.drew W→Calls Tryz.prog 77 #[.pointer (some ⟨B,0,none⟩),.string ⟨#[59]⟩] W fun e w'=>∃ g1 g2,e=.returned (.func (.func 133) #[] #[.pointer (some ⟨g1,0,none⟩),.pointer (some ⟨g2,0,none⟩)])∧Now B T E s1 W6.drew w'∧Ext B W w'∧StepV B T E w' (.func (.func 133) #[] #[.pointer (some ⟨g1,0,none⟩),.pointer (some ⟨g2,0,none⟩)]) (wordF E [59])):=fun W hW=>word_now hW ⟨#[59]⟩
      have HN:Hid (∀ W v1,Now B T E s1 W6.drew W→StepV B T E W v1 (wordF E [59])→Calls Tryz.prog 70 #[.pointer (some ⟨B,2,none⟩),.agg #[.int .i64 2,.string a1,.int .i64 a2,.int .i64 a3,.slice none 0 0,.int .i64 a5],.slice (some ⟨W.heap.size,0,none⟩) 2 2] (W.alloc (.cells #[.func (.func 183) #[.pointer (some ⟨B,0,none⟩)] #[],v1] 70)) (Ends B T E W6.drew r)):=fun W v1 hW h1=>by
          have h:=build_now hW [.func (.func 183) #[.pointer (some ⟨B,0,none⟩)] #[],v1] [initialF E ex,wordF E [59]] rfl (by simp) (step2 (stepFn HIn.out ent115 W) (h1)) ({ x with k:=2 }) Hc.out (by rw [← Hrr.out];exact HR.out) 70
          rw [← Hrr.out] at h
          rw [HA.out] at h
          exact h
      go_region_held3 (fun W=>W.cell? ⟨g,0,none⟩=some (.int .i64 2)∧W.cell? ⟨g,1,none⟩=some (.string a1)∧W.cell? ⟨g,2,none⟩=some (.int .i64 a2)∧W.cell? ⟨g,3,none⟩=some (.int .i64 a3)∧W.cell? ⟨g,4,none⟩=some (.slice none 0 0)∧W.cell? ⟨g,5,none⟩=some (.int .i64 a5))
        (first | exact S0.out | exact S1.out _ hn0.1 | exact S1.out _ (hn0.alloc _).1 | exact S1.out _ hx9)
        (first | (go_at_call 77;first | ((with_reducible refine (HW0.out _ N0.out).mono ?_);rintro e w0_ ⟨q00,q01,rfl,hn0,hx0,hs0⟩)) | (go_at_call 70;refine (HN.out _ _ hn0 hs0).mono ?_;rintro e w9 ⟨v,rfl,hd,hx9⟩))

      all_goals
        have HD:=Lib.hid (did_ext hd HX0.out)
        clear hd hx9
        go_wp2
        (try go_ret)
        rw [HQ.out]
        exact HD.out
end
section
open Go.RowKit
open Tk (T4 bstr)
open Tr (Nd Blk KidsAt)

theorem wrap_i64 {x:Int}(h1 : -9000000000000000000≤x) (h2:x≤9000000000000000000):IntKind.i64.wrap x=x:=by
  rw [IntKind.wrap_i64];omega
theorem list_call {B T E n:Nat}{s:S3}{W0 W:World}(h:Now B T E s W0 W) (xo xe:ByteArray) {o en:List UInt8}(ho:xo.data.toList=o) (he:xe.data.toList=en) (fam:Nat→F3) (id:FuncId) (hen:Ent id) (hit:∀ m,m<n→FnC B T E id (fam m)) (hr:listF E o en fam n s≠.out) :
    Calls Tryz.prog 222 #[.pointer (some ⟨B,0,none⟩),.string xo,.func (.func id) #[.pointer (some ⟨B,0,none⟩)] #[],.string xe] W fun e w'=>∃ g1 g2 g3 g4,e=.returned (.func (.func 246) #[] #[.pointer (some ⟨g1,0,none⟩),.pointer (some ⟨g2,0,none⟩),.pointer (some ⟨g3,0,none⟩),.pointer (some ⟨g4,0,none⟩)]) ∧
      Ext B W0 w'∧Calls Tryz.prog 246 #[.pointer (some ⟨g1,0,none⟩),.pointer (some ⟨g2,0,none⟩),.pointer (some ⟨g3,0,none⟩),.pointer (some ⟨g4,0,none⟩)] w' (Ends B T E W0 (listF E o en fam n s)):=by
  refine (listg_now h xo xe ho he fam id #[.pointer (some ⟨B,0,none⟩)] #[] hen (fun m hm W1 s1 _ hp hr=>hit m hm W1 s1 hp hr)).mono fun e w' ⟨g1,g2,g3,g4,he,hn,hx,id,b,c,hv,_,hs⟩=>⟨g1,g2,g3,g4,he,hn.1,?_⟩
  cases hv
  have:=hs w' s (Ext.refl _ _) hn.2 hr
  have e1:(#[] ++ #[Value.pointer (some ⟨g1,0,none⟩),Value.pointer (some ⟨g2,0,none⟩),Value.pointer (some ⟨g3,0,none⟩),Value.pointer (some ⟨g4,0,none⟩)]:Array Value) = #[Value.pointer (some ⟨g1,0,none⟩),Value.pointer (some ⟨g2,0,none⟩),Value.pointer (some ⟨g3,0,none⟩),Value.pointer (some ⟨g4,0,none⟩)]:=rfl
  rw [e1] at this
  exact this.mono fun e w' hd=>ends_of hd hr hn.1
theorem len_ps {B T E:Nat}{w:World}{s:S3}(h:Ps B T E w s):s.O.length≤5000000:=by obtain ⟨_,_,_,_,hh⟩:=h;have:=hh.lenO;have:=hh.lenN;omega

set_option maxHeartbeats 16000000 in
set_option maxRecDepth 100000 in
theorem valuesc_any {B T E n:Nat}{fam:Nat→F3}(hit:∀ m,m<n→FnC B T E 40 (fam m)) {w:World}{s:S3}{gp gm:Nat}{m:Int}(hm0:0≤m) (hm1:m≤1000)
    (hbx:∀ W,Ext B w W→W.cell? ⟨gp,0,none⟩=some (.pointer (some ⟨B,0,none⟩))∧W.cell? ⟨gm,0,none⟩=some (.int .i64 m)) (h:Ps B T E w s) (hr:valuesF E m fam n s≠.out) :
    Calls Tryz.prog 249 #[.pointer (some ⟨gp,0,none⟩),.pointer (some ⟨gm,0,none⟩)] w (Did B T E w (valuesF E m fam n s)):=by
  obtain ⟨r,hrr⟩ : ∃ r,r=valuesF E m fam n s:=⟨_,rfl⟩
  rw [← hrr] at hr ⊢
  obtain ⟨Q,hQ⟩ : ∃ Q:Ending→World→Prop,Q=Did B T E w r:=⟨_,rfl⟩
  rw [← hQ]
  have HQ:=Lib.hid hQ
  have HR:=Lib.hid hr
  have hB:=h.lt
  clear hQ hr
  have Hrr:Hid (r=if (pk E s.L).t=[61] then (listF E [123] [125] fam n { s with L:=s.L.tail }).bind fun s2=>if m<(s2.O.length:Int)-s.O.length then .bad 9 (pk E s.L.tail).a else .ok s2 else .ok s):=hrr
  have HBx:=Lib.hid hbx
  have HIt:=Lib.hid hit
  have HP0:=Lib.hid h
  have HmL:=Lib.hid (len_ps h)
  have cp:=(hbx w (Ext.refl _ _)).1
  clear hrr hbx hit
  by_cases ht:(pk E s.L).t=[61]
  · have htk:=took_yes HP0.out ⟨#[61]⟩ rfl ht
    have HR2:Hid (r=(listF E [123] [125] fam n { s with L:=s.L.tail }).bind fun s2=>if m<(s2.O.length:Int)-s.O.length then .bad 9 (pk E s.L.tail).a else .ok s2):=by have h:=Hrr.out;rw [if_pos ht] at h;exact h
    clear ht h Hrr
    go_enter Tryz.func249,Tryz.ntmps249
    go_wp2_with (go_at_call 134;refine htk.mono ?_;rintro e w1 ⟨rfl,hx1,hp1⟩)
    have hmk:=fun W (hW:Now B T E { s with L:=s.L.tail } w1.drew W)=>mark_any hW.2
    obtain ⟨s1,hs1⟩ : ∃ s1:S3,s1={ s with L:=s.L.tail }:=⟨_,rfl⟩
    have hO1:s1.O=s.O:=by rw [hs1]
    have hL1:s1.L=s.L.tail:=by rw [hs1]
    obtain ⟨mark,hmark⟩ : ∃ mark,mark=s.O.length:=⟨_,rfl⟩
    obtain ⟨t,htt⟩ : ∃ t,t=pk E s.L.tail:=⟨_,rfl⟩
    obtain ⟨x,hx⟩ : ∃ x,x=bstr t.t:=⟨_,rfl⟩
    rw [← hs1] at hp1
    have HR3:Hid (r=(listF E [123] [125] fam n s1).bind fun s2=>if m<(s2.O.length:Int)-mark then .bad 9 t.a else .ok s2):=by have h:=HR2.out;rw [← hs1,← hmark,← htt] at h;exact h
    have HM0:Hid (mark≤5000000):=by show _≤_;rw [hmark];exact HmL.out
    have HPk:Hid (∀ W,Now B T E s1 w1.drew W→Calls Tryz.prog 75 #[.pointer (some ⟨B,0,none⟩)] W fun e w'=>e=.returned (.agg #[.int .i64 t.k,.string x,.int .i64 t.v,.int .i64 t.a])∧Now B T E s1 w1.drew w'∧Ext B W w'):=fun W hW=>by
      have h:=peek_now hW
      rw [hL1,← htt,← hx] at h
      exact h
    have HMk:Hid (∀ W,Now B T E s1 w1.drew W→Calls Tryz.prog 73 #[.pointer (some ⟨B,2,none⟩)] W fun e w'=>e=.returned (.int .i64 mark)∧W=w'):=fun W hW=>by
      have h:=mark_any hW.2
      rw [hO1,← hmark] at h
      exact h
    have HX1:=Lib.hid hx1.drew
    have N0:Hid (Now B T E s1 w1.drew w1.drew):=Now.refl hp1.drew
    have S1:Hid (∀ W,Ext B w1.drew W→W.cell? ⟨gp,0,none⟩=some (.pointer (some ⟨B,0,none⟩))):=fun W hW=>(HBx.out W (HX1.out.trans hW)).1
    have S0:=Lib.hid (S1.out _ (Ext.refl _ _))
    have hf:=fldT3
    clear hs1 hO1 hL1 hmark htt hx hmk hx1 hp1 htk HR2 HmL cp HP0
    go_wp2
    go_region_held3 (fun W=>W.cell? ⟨gp,0,none⟩=some (.pointer (some ⟨B,0,none⟩)))
      (first | exact S0.out | exact S1.out _ hn0.1)
      (first | (go_at_call 75;first | ((with_reducible refine (HPk.out _ N0.out).mono ?_);rintro e w2 ⟨rfl,hn0,hx0⟩)) | (go_at_call 73;first | ((with_reducible refine (HMk.out _ hn0).mono ?_);rintro e w3 ⟨rfl,rfl⟩) | ((with_reducible refine (HMk.out _ N0.out).mono ?_);rintro e w3 ⟨rfl,rfl⟩)))
    all_goals
      have HX2:=Lib.hid (HX1.out.trans hn0.1).drew
      have HP2:=Lib.hid hn0.2.drew
      clear hn0 hx0 S0 S1 N0 HPk HMk
      have hne:listF E [123] [125] fam n s1≠.out:=fun e=>HR.out (by rw [HR3.out,e];rfl)
      have hls:=list_call (Now.refl HP2.out) ⟨#[123]⟩ ⟨#[125]⟩ rfl rfl fam 40 ent21 HIt.out hne
      obtain ⟨r1,hr1⟩ : ∃ r1,r1=listF E [123] [125] fam n s1:=⟨_,rfl⟩
      rw [← hr1] at hls
      have HR4:Hid (r=r1.bind fun s2=>if m<(s2.O.length:Int)-mark then .bad 9 t.a else .ok s2):=by have h:=HR3.out;rw [← hr1] at h;exact h
      have HN1:Hid (r1≠.out):=by show r1≠.out;rw [hr1];exact hne
      clear hr1 hne
      have S1:Hid (∀ W,Ext B w2.drew W→W.cell? ⟨gp,0,none⟩=some (.pointer (some ⟨B,0,none⟩))):=fun W hW=>(HBx.out W (HX2.out.trans hW)).1
      have S0:=Lib.hid (S1.out _ (Ext.refl _ _))
      go_wp2
      go_region_held3 (fun W=>W.cell? ⟨gp,0,none⟩=some (.pointer (some ⟨B,0,none⟩)))
        (first | exact S0.out | exact S1.out _ hx5 | exact S1.out _ hx6)
        (first | (go_at_call 222;refine hls.mono ?_;rintro e w5 ⟨g1,g2,g3,g4,rfl,hx5,h163⟩) | (go_at_call 246;refine h163.mono ?_;rintro e w6 ⟨v,rfl,hd,hx6⟩))
      have HX6:=Lib.hid (HX2.out.trans hx6)
      have HD:=Lib.hid hd
      clear hx6 hd h163 hx5 hls S0 S1
      cases r1 with
      | out=>exact absurd rfl HN1.out
      | bad c1 b1 =>
        obtain ⟨hv,_⟩:=HD.out
        obtain rfl:v=errV c1 b1:=Ending.returned.inj hv
        have HRb:Hid (r=.bad c1 b1):=HR4.out
        clear hv HD
        unfold errV
        go_wp2
        (try go_ret)
        rw [HQ.out,HRb.out]
        exact ⟨rfl,HX6.out⟩
      | ok s2 =>
        obtain ⟨hv,_,hp6⟩:=HD.out
        obtain rfl:v=.nilIface:=Ending.returned.inj hv
        have HR5:Hid (r=if m<(s2.O.length:Int)-mark then .bad 9 t.a else .ok s2):=HR4.out
        have HP6:=Lib.hid hp6.drew
        have HmL2:=len_ps hp6
        have hM0:=HM0.out
        have hmk2:=mark_any hp6.drew
        obtain ⟨m2,hm2⟩ : ∃ m2,m2=s2.O.length:=⟨_,rfl⟩
        rw [← hm2] at hmk2 HmL2
        have HR6:Hid (r=if m<(m2:Int)-mark then .bad 9 t.a else .ok s2):=by have h:=HR5.out;rw [← hm2] at h;exact h
        have S1:Hid (w6.drew.cell? ⟨gp,0,none⟩=some (.pointer (some ⟨B,0,none⟩))∧w6.drew.cell? ⟨gm,0,none⟩=some (.int .i64 m)):=HBx.out _ HX6.out.drew
        clear hv HD hp6 hm2 HR5 HR4 HR3
        have hwr:IntKind.i64.wrap ((m2:Int)-mark)=(m2:Int)-mark:=wrap_i64 (by omega) (by omega)
        by_cases hc:m<(m2:Int)-mark
        · have HR7:Hid (r=.bad 9 t.a):=by have h:=HR6.out;rw [if_pos hc] at h;exact h
          have HX7:=Lib.hid HX6.out.drew
          clear HR6
          go_wp2
          go_region_held3 (fun W=>W.cell? ⟨gp,0,none⟩=some (.pointer (some ⟨B,0,none⟩))∧W.cell? ⟨gm,0,none⟩=some (.int .i64 m))
            (first | exact S1.out)
            (first | (go_at_call 73;refine hmk2.mono ?_;rintro e w' ⟨rfl,rfl⟩))
          all_goals
            go_wp2
            (try go_ret)
            rw [HQ.out,HR7.out]
            exact ⟨rfl,HX7.out⟩
        · have HR7:Hid (r=.ok s2):=by have h:=HR6.out;rw [if_neg hc] at h;exact h
          have HX7:=Lib.hid HX6.out.drew
          clear HR6
          go_wp2
          go_region_held3 (fun W=>W.cell? ⟨gp,0,none⟩=some (.pointer (some ⟨B,0,none⟩))∧W.cell? ⟨gm,0,none⟩=some (.int .i64 m))
            (first | exact S1.out)
            (first | (go_at_call 73;refine hmk2.mono ?_;rintro e w' ⟨rfl,rfl⟩))
          all_goals
            go_wp2
            (try go_ret)
            rw [HQ.out,HR7.out]
            exact ⟨rfl,HX7.out,HP6.out⟩
  · have htk:=took_no HP0.out ⟨#[61]⟩ rfl ht
    have HR2:Hid (r=.ok s):=by have h:=Hrr.out;rw [if_neg ht] at h;exact h
    clear ht h Hrr
    go_enter Tryz.func249,Tryz.ntmps249
    go_wp2_with (go_at_call 134;refine htk.mono ?_;rintro e w1 ⟨rfl,hx1,hp1⟩)
    have HX1:=Lib.hid hx1
    have HP1:=Lib.hid hp1
    clear hx1 hp1 htk
    (try go_wp2)
    (try go_ret)
    rw [HQ.out,HR2.out]
    exact ⟨rfl,HX1.out,HP1.out⟩

theorem values_now {B T E n:Nat}{s:S3}{W0 W:World}(h:Now B T E s W0 W) (fam:Nat→F3) (hit:∀ m,m<n→FnC B T E 40 (fam m)) {m:Int}(hm0:0≤m) (hm1:m≤1000) :
    Calls Tryz.prog 225 #[.pointer (some ⟨B,0,none⟩),.int .i64 m] W fun e w'=>∃ g1 g2,e=.returned (.func (.func 249) #[] #[.pointer (some ⟨g1,0,none⟩),.pointer (some ⟨g2,0,none⟩)]) ∧
      Now B T E s W0 w'∧Ext B W w'∧StepV B T E w' (.func (.func 249) #[] #[.pointer (some ⟨g1,0,none⟩),.pointer (some ⟨g2,0,none⟩)]) (valuesF E m fam n):=by
  refine (values_lay m W).mono fun e w' ⟨hee,hw⟩=>⟨_,_,hee,?_⟩
  have hB:=h.2.lt
  have hb:Below W.heap.size W w':=by
    rw [hw];exact ((Below.refl _ _).alloc (Nat.le_refl _) _).alloc (by simp) _
  have hE:Ext B W w':=Ext.below hb hB
  have hP:Ps B T E w' s:=h.2.below hb
  have k1:Blk w' W.heap.size 98 #[.pointer (some ⟨B,0,none⟩)]:=by rw [hw];exact (blk_at rfl).alloc _
  have k2:Blk w' (W.heap.size+1) 3 #[.int .i64 m]:=by rw [hw];exact blk_at (by simp)
  have hn:∀ g,W.heap.size≤g→¬ Own B w' g:=fun g hg ho=>not_own_ge h.2 hg ((own_same (hb.block B hB) g).1 ho)
  refine ⟨⟨h.1.trans hE,hP⟩,hE,249,_,_,rfl,ent166,fun w s1 hx hp hr=>?_⟩
  exact valuesc_any hit hm0 hm1 (fun W1 h1=>⟨((hx.trans h1).blk k1 (hn _ (Nat.le_refl _))).cell 0,((hx.trans h1).blk k2 (hn _ (by omega))).cell 0⟩) hp hr
end
section
open Go.RowKit
open Tk (T4 bstr)
open Tr (Nd Blk KidsAt)

theorem node_k3 {a0 a2 a3 a5:Int}{a1:ByteArray}{x:Mn}(h:(.agg #[.int .i64 a0,.string a1,.int .i64 a2,.int .i64 a3,.slice none 0 0,.int .i64 a5]:Value)=nodeV x) (hc:x.c=[]) (k n z:Int) :
    nodeV { x with k:=k,n:=n,z:=z }=.agg #[.int .i64 k,.string a1,.int .i64 n,.int .i64 z,.slice none 0 0,.int .i64 a5]:=by
  obtain ⟨xk,xt,xn,xz,xc,xa⟩:=x
  subst hc
  unfold nodeV at h ⊢
  simp only [Value.agg.injEq,Array.mk.injEq,List.cons.injEq,Value.int.injEq,Value.string.injEq,true_and,and_true] at h
  obtain ⟨_,h1,h2,h3,h4⟩:=h
  rw [h1,h4]

set_option maxHeartbeats 16000000 in
set_option maxRecDepth 100000 in
theorem array_fn {B T E n:Nat}{fam:Nat→F3}(hit:∀ m,m<n→FnC B T E 40 (fam m)):NdC B T E 182 (fun x=>arrayF E x fam n):=fun a0 a1 a2 a3 a5 x hv hc w s h hr=>by
  change arrayF E x fam n s≠.out at hr
  show Calls _ _ _ _ (Did B T E w (arrayF E x fam n s))
  obtain ⟨r,hrr⟩ : ∃ r,r=arrayF E x fam n s:=⟨_,rfl⟩
  rw [← hrr] at hr ⊢
  obtain ⟨Q,hQ⟩ : ∃ Q:Ending→World→Prop,Q=Did B T E w r:=⟨_,rfl⟩
  rw [← hQ]
  have HQ:=Lib.hid hQ
  have HR:=Lib.hid hr
  have hB:=h.lt
  clear hQ hr
  have Hrr0:Hid (r=(wordF E [91] s).bind fun s1=>if (pk E s1.L).k=2 then if (pk E s1.L).v<1∨200<(pk E s1.L).v then .bad 3 (pk E s1.L).a else buildF { x with k:=2,n:=3,z:=(pk E s1.L).v } [wordF E [93],valuesF E (pk E s1.L).v fam n,wordF E [59]] { s1 with L:=s1.L.tail } else .bad 1 (pk E s1.L).a):=hrr
  have hp0:=h.alloc (.cells #[.int .i64 a0,.string a1,.int .i64 a2,.int .i64 a3,.slice none 0 0,.int .i64 a5] 34)
  have H:=Lib.hid h
  have HP0:=Lib.hid hp0
  have HX0:=Lib.hid ((Ext.refl B w).alloc hB (.cells #[.int .i64 a0,.string a1,.int .i64 a2,.int .i64 a3,.slice none 0 0,.int .i64 a5] 34))
  have Hv:=Lib.hid hv
  have Hc:=Lib.hid hc
  have HIt:=Lib.hid hit
  clear hrr h hv hc hit
  by_cases ht:(pk E s.L).t=[91]
  · have hw:=word_yes2 hp0 ⟨#[91]⟩ rfl ht
    have Hrr1:Hid (r=if (pk E s.L.tail).k=2 then if (pk E s.L.tail).v<1∨200<(pk E s.L.tail).v then .bad 3 (pk E s.L.tail).a else buildF { x with k:=2,n:=3,z:=(pk E s.L.tail).v } [wordF E [93],valuesF E (pk E s.L.tail).v fam n,wordF E [59]] { s with L:=s.L.tail.tail } else .bad 1 (pk E s.L.tail).a):=by
      have h:=Hrr0.out;unfold wordF at h;rw [if_pos ht] at h;exact h
    clear ht hp0 Hrr0
    go_enter Tryz.func182,Tryz.ntmps182
    go_wp2_with (go_at_call 77;refine hw.mono ?_;rintro e w2 ⟨g1,g2,rfl,h77⟩)
    refine h77.mono ?_
    rintro e w3 ⟨rfl,hm3⟩
    have HX3:=Lib.hid (HX0.out.trans hm3.ext)
    have HXA:=Lib.hid hm3.ext
    have HP3:=Lib.hid (hm3.of HP0.out)
    have HM3:=Lib.hid ((Mv.alloc H.out (.cells #[.int .i64 a0,.string a1,.int .i64 a2,.int .i64 a3,.slice none 0 0,.int .i64 a5] 34)).trans hm3)
    clear hm3 h77 hw
    by_cases hk:(pk E s.L.tail).k=2
    · have hkd:=kind_yes HP3.out 2 (by show ((pk E s.L.tail).k:Int)=2;exact_mod_cast hk)
      have Hrr2:Hid (r=if (pk E s.L.tail).v<1∨200<(pk E s.L.tail).v then .bad 3 (pk E s.L.tail).a else buildF { x with k:=2,n:=3,z:=(pk E s.L.tail).v } [wordF E [93],valuesF E (pk E s.L.tail).v fam n,wordF E [59]] { s with L:=s.L.tail.tail }):=by
        have h:=Hrr1.out;rw [if_pos hk] at h;exact h
      clear hk Hrr1
      obtain ⟨t,ht⟩ : ∃ t,t=pk E s.L.tail:=⟨_,rfl⟩
      change Calls _ _ _ _ (fun e w'=>e=.returned (.tuple #[tokV (pk E s.L.tail),.nilIface])∧Mv B T E w3 { s with L:=s.L.tail } w' { s with L:=s.L.tail.tail }) at hkd
      unfold tokV at hkd
      obtain ⟨xt,hxt⟩ : ∃ xt,xt=bstr t.t:=⟨_,rfl⟩
      obtain ⟨iv,hiv⟩ : ∃ iv:Int,iv=t.v:=⟨_,rfl⟩
      rw [← ht,← hxt,← hiv] at hkd
      obtain ⟨s2,hs2⟩ : ∃ s2:S3,s2={ s with L:=s.L.tail.tail }:=⟨_,rfl⟩
      rw [← hs2] at hkd
      have Hrr3:Hid (r=if iv<1∨200<iv then .bad 3 t.a else buildF { x with k:=2,n:=3,z:=iv } [wordF E [93],valuesF E iv fam n,wordF E [59]] s2):=by
        have h:=Hrr2.out
        rw [← ht,← hs2,← hiv] at h
        have e:(t.v<1∨200<t.v) ↔ (iv<1∨200<iv):=by omega
        simp only [e] at h
        exact h
      have Hi0:Hid (0≤iv):=by show 0≤iv;omega
      clear Hrr2 ht hxt hiv hs2
      by_cases hv1:iv<1
      · have HRb:Hid (r=.bad 3 t.a):=by have h:=Hrr3.out;rw [if_pos (Or.inl hv1)] at h;exact h
        have q1:decide (iv<1)=true:=decide_eq_true hv1
        clear Hrr3 hv1
        go_wp2_with (go_at_call 221;refine hkd.mono ?_;rintro e w4 ⟨rfl,hm4⟩)
        have HX4:=Lib.hid (HX3.out.trans hm4.ext)
        clear hkd hm4
        (try go_wp2)
        (try go_ret)
        rw [HQ.out,HRb.out]
        exact ⟨rfl,HX4.out.alloc hB _⟩
      by_cases hv2:200<iv
      · have HRb:Hid (r=.bad 3 t.a):=by have h:=Hrr3.out;rw [if_pos (Or.inr hv2)] at h;exact h
        have q1:decide (iv<1)=false:=decide_eq_false hv1
        have q2:decide (200<iv)=true:=decide_eq_true hv2
        clear Hrr3 hv1 hv2
        go_wp2_with (go_at_call 221;refine hkd.mono ?_;rintro e w4 ⟨rfl,hm4⟩)
        have HX4:=Lib.hid (HX3.out.trans hm4.ext)
        clear hkd hm4
        (try go_wp2)
        (try go_ret)
        rw [HQ.out,HRb.out]
        exact ⟨rfl,HX4.out.alloc hB _⟩
      have Hrr:Hid (r=buildF { x with k:=2,n:=3,z:=iv } [wordF E [93],valuesF E iv fam n,wordF E [59]] s2):=by have h:=Hrr3.out;rw [if_neg (fun h=>h.elim hv1 hv2)] at h;exact h
      have q1:decide (iv<1)=false:=decide_eq_false hv1
      have q2:decide (200<iv)=false:=decide_eq_false hv2
      have Hi2:Hid (iv≤1000):=by show iv≤1000;omega
      have hpb:=HP3.out.alloc (.cells #[.int .i64 a0,.string a1,.int .i64 a2,.int .i64 a3,.slice none 0 0,.int .i64 a5] 34)
      clear Hrr3 hv1 hv2 hpb
      go_upto_region 9 with (go_at_call 221;refine hkd.mono ?_;rintro e w4 ⟨rfl,hm4⟩)
      obtain ⟨hkA,hnA⟩:=new_blk H.out 34 #[.int .i64 a0,.string a1,.int .i64 a2,.int .i64 a3,.slice none 0 0,.int .i64 a5] (HXA.out.trans hm4.ext)
      have hlt:w.heap.size<w4.heap.size:=hkA.lt
      have hM5:=(HM3.out.trans hm4).more H.out (.cells #[.int .i64 t.k,.string xt,.int .i64 iv,.int .i64 t.a] 58)
      have hk5:Blk (w4.alloc (.cells #[.int .i64 t.k,.string xt,.int .i64 iv,.int .i64 t.a] 58)) w.heap.size 34 #[.int .i64 a0,.string a1,.int .i64 a2,.int .i64 a3,.slice none 0 0,.int .i64 a5]:=hkA.alloc _
      have hn5:¬ Own B (w4.alloc (.cells #[.int .i64 t.k,.string xt,.int .i64 iv,.int .i64 t.a] 58)) w.heap.size:=fun ho=>hnA ((own_alloc (Nat.lt_of_lt_of_le hB (Nat.le_of_lt hlt)) _ _).1 ho)
      have hkt:Blk (w4.alloc (.cells #[.int .i64 t.k,.string xt,.int .i64 iv,.int .i64 t.a] 58)) w4.heap.size 58 #[.int .i64 t.k,.string xt,.int .i64 iv,.int .i64 t.a]:=Blk.new _ _ _
      have hnt:¬ Own B (w4.alloc (.cells #[.int .i64 t.k,.string xt,.int .i64 iv,.int .i64 t.a] 58)) w4.heap.size:=fun ho=>not_own_ge ((HM3.out.trans hm4).of H.out) (Nat.le_refl _) ((own_alloc (Nat.lt_of_lt_of_le hB (Nat.le_of_lt hlt)) _ _).1 ho)
      have n1:w.heap.size≠w4.heap.size:=by omega
      have n2:w4.heap.size≠w.heap.size:=by omega
      clear hkA hnA hm4 hkd hlt
      generalize w4.alloc (.cells #[.int .i64 t.k,.string xt,.int .i64 iv,.int .i64 t.a] 58)=W5 at *
      generalize w4.heap.size=gt at *
      obtain ⟨c0,c1,c2,c3,c4,c5,f0,f1,f2,f3,f4,f5,lA⟩:=box6f hk5
      have ct:W5.cell? ⟨gt,2,none⟩=some (.int .i64 iv):=(tok_box hkt).2.2.1
      have HM5:=Lib.hid hM5
      have HK5:=Lib.hid hk5
      have HN5:=Lib.hid hn5
      have HKt:=Lib.hid hkt
      have HNt:=Lib.hid hnt
      clear hM5 hk5 hn5 hkt hnt
      go_region
      have hn5b:¬ Own B (W5.setCell ⟨w.heap.size,0,none⟩ (.int .i64 2)) w.heap.size:=fun ho=>HN5.out ((own_setCell HN5.out _ _).1 ho)
      have hn5c:¬ Own B ((W5.setCell ⟨w.heap.size,0,none⟩ (.int .i64 2)).setCell ⟨w.heap.size,2,none⟩ (.int .i64 3)) w.heap.size:=fun ho=>hn5b ((own_setCell hn5b _ _).1 ho)
      have hn5d:¬ Own B (((W5.setCell ⟨w.heap.size,0,none⟩ (.int .i64 2)).setCell ⟨w.heap.size,2,none⟩ (.int .i64 3)).setCell ⟨w.heap.size,3,none⟩ (.int .i64 iv)) w.heap.size:=fun ho=>hn5c ((own_setCell hn5c _ _).1 ho)
      have hM6:=((HM5.out.set H.out (o:=0) (Nat.le_refl _) HN5.out (.int .i64 2)).set H.out (o:=2) (Nat.le_refl _) hn5b (.int .i64 3)).set H.out (o:=3) (Nat.le_refl _) hn5c (.int .i64 iv)
      have hkA:Blk ((((W5.setCell ⟨w.heap.size,0,none⟩ (.int .i64 2)).setCell ⟨w.heap.size,2,none⟩ (.int .i64 3)).setCell ⟨w.heap.size,3,none⟩ (.int .i64 iv)).drew) w.heap.size 34 #[.int .i64 2,.string a1,.int .i64 3,.int .i64 iv,.slice none 0 0,.int .i64 a5]:=by
        have h:=((HK5.out.set_ 0 (.int .i64 2)).set_ 2 (.int .i64 3)).set_ 3 (.int .i64 iv)
        have h2:Blk (((W5.setCell ⟨w.heap.size,0,none⟩ (.int .i64 2)).setCell ⟨w.heap.size,2,none⟩ (.int .i64 3)).setCell ⟨w.heap.size,3,none⟩ (.int .i64 iv)) w.heap.size 34 #[.int .i64 2,.string a1,.int .i64 3,.int .i64 iv,.slice none 0 0,.int .i64 a5]:=by simpa using h
        exact h2
      have hkt:Blk ((((W5.setCell ⟨w.heap.size,0,none⟩ (.int .i64 2)).setCell ⟨w.heap.size,2,none⟩ (.int .i64 3)).setCell ⟨w.heap.size,3,none⟩ (.int .i64 iv)).drew) gt 58 #[.int .i64 t.k,.string xt,.int .i64 iv,.int .i64 t.a]:=(((Below.heap_setCell _ _ _ _ n2).trans (Below.heap_setCell _ _ _ _ n2)).trans (Below.heap_setCell _ _ _ _ n2)).trans HKt.out
      have hnt:¬ Own B ((((W5.setCell ⟨w.heap.size,0,none⟩ (.int .i64 2)).setCell ⟨w.heap.size,2,none⟩ (.int .i64 3)).setCell ⟨w.heap.size,3,none⟩ (.int .i64 iv)).drew) gt:=fun ho=>HNt.out ((own_setCell HN5.out _ _).1 ((own_setCell hn5b _ _).1 ((own_setCell hn5c _ _).1 ho)))
      have hnA:¬ Own B ((((W5.setCell ⟨w.heap.size,0,none⟩ (.int .i64 2)).setCell ⟨w.heap.size,2,none⟩ (.int .i64 3)).setCell ⟨w.heap.size,3,none⟩ (.int .i64 iv)).drew) w.heap.size:=hn5d
      have HX7:Hid (Ext B w ((((W5.setCell ⟨w.heap.size,0,none⟩ (.int .i64 2)).setCell ⟨w.heap.size,2,none⟩ (.int .i64 3)).setCell ⟨w.heap.size,3,none⟩ (.int .i64 iv)).drew)):=hM6.ext.drew
      have HP7:Hid (Ps B T E ((((W5.setCell ⟨w.heap.size,0,none⟩ (.int .i64 2)).setCell ⟨w.heap.size,2,none⟩ (.int .i64 3)).setCell ⟨w.heap.size,3,none⟩ (.int .i64 iv)).drew) s2):=(hM6.of H.out).drew
      have HNd:Hid (∀ W,Ext B ((((W5.setCell ⟨w.heap.size,0,none⟩ (.int .i64 2)).setCell ⟨w.heap.size,2,none⟩ (.int .i64 3)).setCell ⟨w.heap.size,3,none⟩ (.int .i64 iv)).drew) W→Blk W w.heap.size 34 #[.int .i64 2,.string a1,.int .i64 3,.int .i64 iv,.slice none 0 0,.int .i64 a5]∧Blk W gt 58 #[.int .i64 t.k,.string xt,.int .i64 iv,.int .i64 t.a]):=fun W hW=>⟨hW.blk hkA hnA,hW.blk hkt hnt⟩
      clear hn5b hn5c hn5d hM6 hkA hkt hnt hnA HM5 HK5 HN5 HKt HNt c0 c1 c2 c3 c4 c5 f0 f1 f2 f3 f4 f5 lA ct HXA HX3 HM3 HP3 q1 q2
      generalize (((W5.setCell ⟨w.heap.size,0,none⟩ (.int .i64 2)).setCell ⟨w.heap.size,2,none⟩ (.int .i64 3)).setCell ⟨w.heap.size,3,none⟩ (.int .i64 iv)).drew=W6 at *
      have HA:=Lib.hid (node_k3 Hv.out Hc.out 2 3 iv)
      have HX0':Hid (Ext B w W6.drew):=HX7.out.drew
      have N0:Hid (Now B T E s2 W6.drew W6.drew):=Now.refl HP7.out.drew
      have S1:Hid (∀ W,Ext B W6.drew W→(W.cell? ⟨w.heap.size,0,none⟩=some (.int .i64 2)∧W.cell? ⟨w.heap.size,1,none⟩=some (.string a1)∧W.cell? ⟨w.heap.size,2,none⟩=some (.int .i64 3)∧W.cell? ⟨w.heap.size,3,none⟩=some (.int .i64 iv)∧W.cell? ⟨w.heap.size,4,none⟩=some (.slice none 0 0)∧W.cell? ⟨w.heap.size,5,none⟩=some (.int .i64 a5))∧W.cell? ⟨gt,2,none⟩=some (.int .i64 iv)):=fun W hW=>⟨(box6 (HNd.out W ((Ext.refl B W6).drew.trans hW)).1).1,(tok_box (HNd.out W ((Ext.refl B W6).drew.trans hW)).2).2.2.1⟩
      have S0:=Lib.hid (S1.out _ (Ext.refl _ _))
      clear HNd HX7 HP7
      go_wp2
      have HW0:Hid (∀ W,Now B T E s2 W6.drew W→Calls Tryz.prog 77 #[.pointer (some ⟨B,0,none⟩),.string ⟨#[93]⟩] W fun e w'=>∃ g1 g2,e=.returned (.func (.func 133) #[] #[.pointer (some ⟨g1,0,none⟩),.pointer (some ⟨g2,0,none⟩)])∧Now B T E s2 W6.drew w'∧Ext B W w'∧StepV B T E w' (.func (.func 133) #[] #[.pointer (some ⟨g1,0,none⟩),.pointer (some ⟨g2,0,none⟩)]) (wordF E [93])):=fun W hW=>word_now hW ⟨#[93]⟩
      have HW1:Hid (∀ W,Now B T E s2 W6.drew W→Calls Tryz.prog 225 #[.pointer (some ⟨B,0,none⟩),.int .i64 iv] W fun e w'=>∃ g1 g2,e=.returned (.func (.func 249) #[] #[.pointer (some ⟨g1,0,none⟩),.pointer (some ⟨g2,0,none⟩)])∧Now B T E s2 W6.drew w'∧Ext B W w'∧StepV B T E w' (.func (.func 249) #[] #[.pointer (some ⟨g1,0,none⟩),.pointer (some ⟨g2,0,none⟩)]) (valuesF E iv fam n)):=fun W hW=>values_now hW fam HIt.out Hi0.out Hi2.out
      have HW2:Hid (∀ W,Now B T E s2 W6.drew W→Calls Tryz.prog 77 #[.pointer (some ⟨B,0,none⟩),.string ⟨#[59]⟩] W fun e w'=>∃ g1 g2,e=.returned (.func (.func 133) #[] #[.pointer (some ⟨g1,0,none⟩),.pointer (some ⟨g2,0,none⟩)])∧Now B T E s2 W6.drew w'∧Ext B W w'∧StepV B T E w' (.func (.func 133) #[] #[.pointer (some ⟨g1,0,none⟩),.pointer (some ⟨g2,0,none⟩)]) (wordF E [59])):=fun W hW=>word_now hW ⟨#[59]⟩
      have HN:Hid (∀ W v0 v1 v2,Now B T E s2 W6.drew W→StepV B T E W v0 (wordF E [93])→StepV B T E W v1 (valuesF E iv fam n)→StepV B T E W v2 (wordF E [59])→Calls Tryz.prog 70 #[.pointer (some ⟨B,2,none⟩),.agg #[.int .i64 2,.string a1,.int .i64 3,.int .i64 iv,.slice none 0 0,.int .i64 a5],.slice (some ⟨W.heap.size,0,none⟩) 3 3] (W.alloc (.cells #[v0,v1,v2] 70)) (Ends B T E W6.drew r)):=fun W v0 v1 v2 hW h0 h1 h2=>by
          have h:=build_now hW [v0,v1,v2] [wordF E [93],valuesF E iv fam n,wordF E [59]] rfl (by simp) (step3 (h0) (h1) (h2)) ({ x with k:=2,n:=3,z:=iv }) Hc.out (by rw [← Hrr.out];exact HR.out) 70
          rw [← Hrr.out] at h
          rw [HA.out] at h
          exact h
      go_region_held3 (fun W=>(W.cell? ⟨w.heap.size,0,none⟩=some (.int .i64 2)∧W.cell? ⟨w.heap.size,1,none⟩=some (.string a1)∧W.cell? ⟨w.heap.size,2,none⟩=some (.int .i64 3)∧W.cell? ⟨w.heap.size,3,none⟩=some (.int .i64 iv)∧W.cell? ⟨w.heap.size,4,none⟩=some (.slice none 0 0)∧W.cell? ⟨w.heap.size,5,none⟩=some (.int .i64 a5))∧W.cell? ⟨gt,2,none⟩=some (.int .i64 iv))
        (first | exact S0.out | exact S1.out _ hn0.1 | exact S1.out _ hn1.1 | exact S1.out _ hn2.1 | exact S1.out _ (hn2.alloc _).1 | exact S1.out _ hx9)
        (first | (go_at_call 77;first | ((with_reducible refine (HW0.out _ N0.out).mono ?_);rintro e w0_ ⟨q00,q01,rfl,hn0,hx0,hs0⟩) | ((with_reducible refine (HW2.out _ hn1).mono ?_);rintro e w2_ ⟨q20,q21,rfl,hn2,hx2,hs2⟩)) | (go_at_call 225;first | ((with_reducible refine (HW1.out _ hn0).mono ?_);rintro e w1_ ⟨q10,q11,rfl,hn1,hx1,hs1⟩)) | (go_at_call 70;refine (HN.out _ _ _ _ hn2 (StepV.ext (StepV.ext hs0 hx1) hx2) (StepV.ext hs1 hx2) hs2).mono ?_;rintro e w9 ⟨v,rfl,hd,hx9⟩))

      all_goals
        have HD:=Lib.hid (did_ext hd HX0'.out)
        clear hd hx9
        go_wp2
        (try go_ret)
        rw [HQ.out]
        exact HD.out

    · have hkd:=kind_no HP3.out 2 (by show ((pk E s.L.tail).k:Int)≠2;exact_mod_cast hk)
      have HRb:Hid (r=.bad 1 (pk E s.L.tail).a):=by have h:=Hrr1.out;rw [if_neg hk] at h;exact h
      clear hk Hrr1
      unfold noTok errV at hkd
      go_wp2_with (go_at_call 221;refine hkd.mono ?_;rintro e w4 ⟨rfl,hm4⟩)
      have HX4:=Lib.hid (HX3.out.trans hm4.ext)
      clear hkd hm4
      (try go_wp2)
      (try go_ret)
      rw [HQ.out,HRb.out]
      exact ⟨rfl,HX4.out.alloc hB _⟩
  · have hw:=word_no2 hp0 ⟨#[91]⟩ rfl ht
    have HRb:Hid (r=.bad 1 (pk E s.L).a):=by
      have h:=Hrr0.out;unfold wordF at h;rw [if_neg ht] at h;exact h
    clear ht hp0 Hrr0
    go_enter Tryz.func182,Tryz.ntmps182
    go_wp2_with (go_at_call 77;refine hw.mono ?_;rintro e w2 ⟨g1,g2,rfl,h77⟩)
    refine h77.mono ?_
    rintro e w3 ⟨rfl,hm3⟩
    have HX3:=Lib.hid (HX0.out.trans hm3.ext)
    clear hm3 h77 hw
    unfold errV
    go_wp2
    (try go_ret)
    rw [HQ.out,HRb.out]
    exact ⟨rfl,HX3.out⟩
end
section
open Go.RowKit
open Tk (T4 bstr)
open Tr (Nd Blk KidsAt)

structure CallU (B T E n:Nat):Prop where
  block:FnC B T E 224 (runU E n .block)
  action:FnC B T E 248 (runU E n .action)
  body:FnC B T E 281 (runU E n .body)
  compound:FnC B T E 264 (runU E n .compound)
  inSwitch:FnC B T E 285 (runU E n .inSwitch)
  global:FnC B T E 125 (runU E n .global)
theorem fn_out {B T E:Nat}{id:FuncId}{f:F3}(h:∀ s,f s=.out):FnC B T E id f:=fun _ s _ hr=>absurd (h s) hr
theorem globs_eq (E:Nat):∀ n,runU E n .globals=globsF (fun m=>runU E m .global) n
  | 0=>rfl
  | n+1=>by
    funext s
    show (if s.L=[] then R3.ok s else (runU E n .global s).bind (runU E n .globals))=_
    rw [globs_eq E n];rfl
theorem block_eq (E n:Nat):runU E (n+1) .block=blockF E (fun m=>runU E m .action) n:=by
  funext s
  show buildF (mk 11 [] 0 (pk E s.L).a) [fun s=>(wordF E [123] s).bind (runU E n (.braces false))] s=_
  rw [braces_eq];rfl
theorem comp_eq (E n:Nat):runU E (n+1) .compound=compF E (runU E n .body) (runJ E n .expr) (fun m=>runU E m .inSwitch) n:=by
  funext s
  show (if _ then _ else if _ then _ else if _ then _ else if _ then _ else buildF (mk 18 [] 0 (pk E s.L).a) [conditionF E (runJ E n .expr),fun s=>(wordF E [123] s).bind (runU E n (.braces true))] { s with L:=s.L.tail })=_
  rw [braces_eq];rfl
theorem callU {B T E:Nat}:∀ n,CallU B T E n:=by
  intro n
  induction n using Nat.strongRecOn with
  | ind n ih =>
  cases n with
  | zero=>exact ⟨fn_out fun _=>rfl,fn_out fun _=>rfl,fn_out fun _=>rfl,fn_out fun _=>rfl,fn_out fun _=>rfl,fn_out fun _=>rfl⟩
  | succ n =>
    have H:=ih n (Nat.lt_succ_self n)
    have hx:FnC B T E 40 (runJ E n .expr):=fnExpr B T E n
    have hin:=initial_fn hx
    have hlo:=local_fn hin
    have hef:=effect_fn hx
    have hnn:=nothing_fn (B:=B) (T:=T) (E:=E)
    have hco:=condition_fn hx
    refine ⟨?_,?_,?_,?_,?_,?_⟩
    · rw [block_eq];exact block_fn fun m hm=>(ih m (by omega)).action
    · exact action_fn H.block H.compound hlo (told_fn hx) hnn hef
    · exact body_fn H.block H.action
    · rw [comp_eq]
      exact compound_fn hco H.body (else_fn H.body) (start_fn hlo hef hnn) hx hef hnn (fun m hm=>(ih m (by omega)).inSwitch)
    · exact inSwitch_fn H.action hx
    · have hfn:NdC B T E 179 (fun x s=>buildF { x with k:=3 } [listF E [40] [41] (fun _=>paramF E) n,runU E n .block] s):=fun a0 a1 a2 a3 a5 x hv hc w s h hr=>function_any param_fn H.block hv hc h hr
      have har:NdC B T E 182 (fun x=>arrayF E x (fun m=>runJ E m .expr) n):=array_fn (fun m _=>fnExpr B T E m)
      intro w s h hr
      by_cases ht:(pk E s.L).t=[118,111,105,100]
      · exact glob_void (n:=n) (ex:=runJ E n .expr) (fam:=fun m=>runJ E m .expr) hfn h ht hr
      · exact glob_rest hfn har hin h ht hr
theorem fnUnit (B T E n:Nat):FnC B T E 37 (unitF E n):=by
  unfold unitF
  rw [globs_eq]
  exact unit_fn (globals_fn fun m _=>(callU m).global)
end
end Go.Proofs.YtdjpopebeenlmaaGreatDoor
