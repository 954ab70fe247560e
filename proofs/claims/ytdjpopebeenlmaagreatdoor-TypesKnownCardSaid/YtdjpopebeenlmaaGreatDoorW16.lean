/-
  Joined texts of this claim: Ue, Uf, Ug, Uh, Uj, Ui.
-/
import Derived.Test.YtdjpopebeenlmaaGreatDoorW00
import Derived.Test.YtdjpopebeenlmaaGreatDoorW15
set_option maxHeartbeats 40000000
set_option maxRecDepth 100000
set_option linter.unusedVariables false
set_option linter.unusedSimpArgs false
namespace Go.Proofs.YtdjpopebeenlmaaGreatDoor
section
open Go.RowKit
open Tk (T4 bstr)
open Tr (Nd Blk KidsAt)

set_option maxHeartbeats 16000000 in
set_option maxRecDepth 100000 in
theorem nothing_fn {B T E:Nat}:FnC B T E 266 (nothingF E):=fun w s h hr=>by
  obtain ⟨r,hrr⟩ : ∃ r,r=nothingF E s:=⟨_,rfl⟩
  rw [← hrr] at hr ⊢
  obtain ⟨Q,hQ⟩ : ∃ Q:Ending→World→Prop,Q=Did B T E w r:=⟨_,rfl⟩
  rw [← hQ]
  have HQ:=Lib.hid hQ
  have HR:=Lib.hid hr
  have hB:=h.lt
  clear hQ hr
  obtain ⟨t,ht⟩ : ∃ t,t=pk E s.L:=⟨_,rfl⟩
  obtain ⟨x,hx⟩ : ∃ x,x=bstr t.t:=⟨_,rfl⟩
  have hpk:∀ W,Now B T E s w.drew W→Calls Tryz.prog 75 #[.pointer (some ⟨B,0,none⟩)] W fun e w'=>e=.returned (.agg #[.int .i64 t.k,.string x,.int .i64 t.v,.int .i64 t.a])∧Now B T E s w.drew w'∧Ext B W w':=fun W hW=>by
    have h:=peek_now hW
    rw [← ht,← hx] at h
    exact h
  change r=buildF (mk 24 [] 0 (pk E s.L).a) [] s at hrr
  rw [← ht] at hrr
  have Hrr:=Lib.hid hrr
  have HX0:Hid (Ext B w w.drew):=(Ext.refl _ _).drew
  have N0:Hid (Now B T E s w.drew w.drew):=Now.refl h.drew
  have hf:=fldT3
  clear hrr ht hx h
  go_enter Tryz.func266,Tryz.ntmps266
  go_wp2
  have HW0:Hid (∀ W,Now B T E s w.drew W→Calls Tryz.prog 75 #[.pointer (some ⟨B,0,none⟩)] W fun e w'=>e=.returned (.agg #[.int .i64 t.k,.string x,.int .i64 t.v,.int .i64 t.a])∧Now B T E s w.drew w'∧Ext B W w'):=hpk
  have HN:Hid (∀ W,Now B T E s w.drew W→Calls Tryz.prog 70 #[.pointer (some ⟨B,2,none⟩),.agg #[.int .i64 24,.string ⟨#[]⟩,.int .i64 0,.int .i64 0,.slice none 0 0,.int .i64 t.a],.slice none 0 0] W (Ends B T E w.drew r)):=fun W hW=>by
      have h:=(build_nil hW.2 (mk 24 [] 0 t.a) rfl (by rw [← Hrr.out];exact HR.out)).mono fun e w1 he=>(show Ends B T E w.drew _ e w1 from by obtain ⟨v,rfl,hd,hx⟩:=he;exact ⟨v,rfl,did_ext hd hW.1,hW.1.trans hx⟩)
      rw [← Hrr.out] at h
      exact h
  go_region_held3 (fun W=>True)
    (first | exact trivial)
    (first | (go_at_call 75;first | ((with_reducible refine (HW0.out _ N0.out).mono ?_);rintro e w0_ ⟨rfl,hn0,hx0⟩)) | (go_at_call 70;refine (HN.out _  hn0).mono ?_;rintro e w9 ⟨v,rfl,hd,hx9⟩))
  all_goals
    have HD:=Lib.hid (did_ext hd HX0.out)
    clear hd hx9
    go_wp2
    (try go_ret)
    rw [HQ.out]
    exact HD.out

set_option maxHeartbeats 16000000 in
set_option maxRecDepth 100000 in
theorem effect_fn {B T E:Nat}{ex:F3}(hex:FnC B T E 40 ex):FnC B T E 267 (effectF E ex):=fun w s h hr=>by
  obtain ⟨r,hrr⟩ : ∃ r,r=effectF E ex s:=⟨_,rfl⟩
  rw [← hrr] at hr ⊢
  obtain ⟨Q,hQ⟩ : ∃ Q:Ending→World→Prop,Q=Did B T E w r:=⟨_,rfl⟩
  rw [← hQ]
  have HQ:=Lib.hid hQ
  have HR:=Lib.hid hr
  have hB:=h.lt
  clear hQ hr
  obtain ⟨t,ht⟩ : ∃ t,t=pk E s.L:=⟨_,rfl⟩
  obtain ⟨x,hx⟩ : ∃ x,x=bstr t.t:=⟨_,rfl⟩
  have hpk:∀ W,Now B T E s w.drew W→Calls Tryz.prog 75 #[.pointer (some ⟨B,0,none⟩)] W fun e w'=>e=.returned (.agg #[.int .i64 t.k,.string x,.int .i64 t.v,.int .i64 t.a])∧Now B T E s w.drew w'∧Ext B W w':=fun W hW=>by
    have h:=peek_now hW
    rw [← ht,← hx] at h
    exact h
  change r=buildF (mk 13 [] 0 (pk E s.L).a) [ex] s at hrr
  rw [← ht] at hrr
  have Hrr:=Lib.hid hrr
  have HX0:Hid (Ext B w w.drew):=(Ext.refl _ _).drew
  have N0:Hid (Now B T E s w.drew w.drew):=Now.refl h.drew
  have hf:=fldT3
  clear hrr ht hx h
  go_enter Tryz.func267,Tryz.ntmps267
  go_wp2
  have HW0:Hid (∀ W,Now B T E s w.drew W→Calls Tryz.prog 75 #[.pointer (some ⟨B,0,none⟩)] W fun e w'=>e=.returned (.agg #[.int .i64 t.k,.string x,.int .i64 t.v,.int .i64 t.a])∧Now B T E s w.drew w'∧Ext B W w'):=hpk
  have HN:Hid (∀ W,Now B T E s w.drew W→Calls Tryz.prog 70 #[.pointer (some ⟨B,2,none⟩),.agg #[.int .i64 13,.string ⟨#[]⟩,.int .i64 0,.int .i64 0,.slice none 0 0,.int .i64 t.a],.slice (some ⟨W.heap.size,0,none⟩) 1 1] (W.alloc (.cells #[.func (.func 40) #[.pointer (some ⟨B,0,none⟩)] #[]] 70)) (Ends B T E w.drew r)):=fun W hW=>by
      have h:=build_now hW [.func (.func 40) #[.pointer (some ⟨B,0,none⟩)] #[]] [ex] rfl (by simp) (step1 (stepFn hex ent21 W)) (mk 13 [] 0 t.a) rfl (by rw [← Hrr.out];exact HR.out) 70
      rw [← Hrr.out] at h
      exact h
  have HE:Hid (∀ W W1,Now B T E s w.drew W→Now B T E s w.drew W1→Ext B (W.alloc (.cells #[.func (.func 40) #[.pointer (some ⟨B,0,none⟩)] #[]] 70)) W1→Calls Tryz.prog 70 #[.pointer (some ⟨B,2,none⟩),.agg #[.int .i64 13,.string ⟨#[]⟩,.int .i64 0,.int .i64 0,.slice none 0 0,.int .i64 t.a],.slice (some ⟨W.heap.size,0,none⟩) 1 1] W1 (Ends B T E w.drew r)):=fun W W1 hW hW1 hx=>by
      have h:=(build_any (cap:=1) hW1.2 ((steps_new hW [.func (.func 40) #[.pointer (some ⟨B,0,none⟩)] #[]] [ex] rfl (by simp) (step1 (stepFn hex ent21 W)) 70).ext hx) (mk 13 [] 0 t.a) rfl (by rw [← Hrr.out];exact HR.out)).mono fun e w9 hd=>ends_of hd (by rw [← Hrr.out];exact HR.out) hW1.1
      rw [← Hrr.out] at h
      exact h
  go_region_held3 (fun W=>True)
    (first | exact trivial)
    (first | (go_at_call 75;first | ((with_reducible refine (HW0.out _ N0.out).mono ?_);rintro e w0_ ⟨rfl,hn0,hx0⟩) | (refine (HW0.out _ (N0.out.alloc _)).mono ?_;rintro e w0_ ⟨rfl,hn0,hx0⟩)) | (go_at_call 70;first | ((with_reducible refine (HN.out _ hn0).mono ?_);rintro e w9 ⟨v,rfl,hd,hx9⟩) | (refine (HE.out _ _ N0.out hn0 hx0).mono ?_;rintro e w9 ⟨v,rfl,hd,hx9⟩)))
  all_goals
    have HD:=Lib.hid (did_ext hd HX0.out)
    clear hd hx9
    go_wp2
    (try go_ret)
    rw [HQ.out]
    exact HD.out

set_option maxHeartbeats 16000000 in
set_option maxRecDepth 100000 in
theorem condition_fn {B T E:Nat}{ex:F3}(hex:FnC B T E 40 ex):FnC B T E 280 (conditionF E ex):=fun w s h hr=>by
  obtain ⟨r,hrr⟩ : ∃ r,r=conditionF E ex s:=⟨_,rfl⟩
  rw [← hrr] at hr ⊢
  obtain ⟨Q,hQ⟩ : ∃ Q:Ending→World→Prop,Q=Did B T E w r:=⟨_,rfl⟩
  rw [← hQ]
  have HQ:=Lib.hid hQ
  have HR:=Lib.hid hr
  have hB:=h.lt
  clear hQ hr
  have Hrr:Hid (r=seqF [wordF E [40],ex,wordF E [41]] s):=hrr
  have HX0:Hid (Ext B w w.drew):=(Ext.refl _ _).drew
  have N0:Hid (Now B T E s w.drew w.drew):=Now.refl h.drew
  clear hrr h
  go_enter Tryz.func280,Tryz.ntmps280
  go_wp2
  have HW0:Hid (∀ W,Now B T E s w.drew W→Calls Tryz.prog 77 #[.pointer (some ⟨B,0,none⟩),.string ⟨#[40]⟩] W fun e w'=>∃ g1 g2,e=.returned (.func (.func 133) #[] #[.pointer (some ⟨g1,0,none⟩),.pointer (some ⟨g2,0,none⟩)])∧Now B T E s w.drew w'∧Ext B W w'∧StepV B T E w' (.func (.func 133) #[] #[.pointer (some ⟨g1,0,none⟩),.pointer (some ⟨g2,0,none⟩)]) (wordF E [40])):=fun W hW=>word_now hW ⟨#[40]⟩
  have HW1:Hid (∀ W,Now B T E s w.drew W→Calls Tryz.prog 77 #[.pointer (some ⟨B,0,none⟩),.string ⟨#[41]⟩] W fun e w'=>∃ g1 g2,e=.returned (.func (.func 133) #[] #[.pointer (some ⟨g1,0,none⟩),.pointer (some ⟨g2,0,none⟩)])∧Now B T E s w.drew w'∧Ext B W w'∧StepV B T E w' (.func (.func 133) #[] #[.pointer (some ⟨g1,0,none⟩),.pointer (some ⟨g2,0,none⟩)]) (wordF E [41])):=fun W hW=>word_now hW ⟨#[41]⟩
  have HN:Hid (∀ W v0 v2,Now B T E s w.drew W→StepV B T E W v0 (wordF E [40])→StepV B T E W v2 (wordF E [41])→Calls Tryz.prog 35 #[.slice (some ⟨W.heap.size,0,none⟩) 3 3] (W.alloc (.cells #[v0,.func (.func 40) #[.pointer (some ⟨B,0,none⟩)] #[],v2] 70)) (Ends B T E w.drew r)):=fun W v0 v2 hW h0 h2=>by
      have h:=turn_now hW [v0,.func (.func 40) #[.pointer (some ⟨B,0,none⟩)] #[],v2] [wordF E [40],ex,wordF E [41]] rfl (by simp) (step3 (h0) (stepFn hex ent21 W) (h2)) (by rw [← Hrr.out];exact HR.out) 70
      rw [← Hrr.out] at h
      exact h
  go_region_held3 (fun W=>True)
    (first | exact trivial)
    (first | (go_at_call 77;first | ((with_reducible refine (HW0.out _ N0.out).mono ?_);rintro e w0_ ⟨q00,q01,rfl,hn0,hx0,hs0⟩) | ((with_reducible refine (HW1.out _ hn0).mono ?_);rintro e w1_ ⟨q10,q11,rfl,hn1,hx1,hs1⟩)) | (go_at_call 35;refine (HN.out _ _ _ hn1 (StepV.ext hs0 hx1) hs1).mono ?_;rintro e w9 ⟨v,rfl,hd,hx9⟩))
  all_goals
    have HD:=Lib.hid (did_ext hd HX0.out)
    clear hd hx9
    go_wp2
    (try go_ret)
    rw [HQ.out]
    exact HD.out

set_option maxHeartbeats 16000000 in
set_option maxRecDepth 100000 in
theorem told_fn {B T E:Nat}{ex:F3}(hex:FnC B T E 40 ex):FnC B T E 265 (toldF E ex):=fun w s h hr=>by
  obtain ⟨r,hrr⟩ : ∃ r,r=toldF E ex s:=⟨_,rfl⟩
  rw [← hrr] at hr ⊢
  obtain ⟨Q,hQ⟩ : ∃ Q:Ending→World→Prop,Q=Did B T E w r:=⟨_,rfl⟩
  rw [← hQ]
  have HQ:=Lib.hid hQ
  have HR:=Lib.hid hr
  have hB:=h.lt
  clear hQ hr
  have Hrr:Hid (r=if (pk E s.L).t=[59] then .ok s else ex s):=hrr
  have Hh:=Lib.hid h
  clear hrr
  by_cases ht:(pk E s.L).t=[59]
  · have htk:=sees_yes Hh.out ⟨#[59]⟩ rfl ht
    have HR2:Hid (r=.ok s):=by have h:=Hrr.out;rw [if_pos ht] at h;exact h
    clear ht h
    go_enter Tryz.func265,Tryz.ntmps265
    go_wp2_with (go_at_call 181;refine htk.mono ?_;rintro e w1 ⟨rfl,hx1,hp1⟩)
    have HX1:=Lib.hid hx1
    have HP1:=Lib.hid hp1
    clear hx1 hp1 htk
    (try go_wp2)
    (try go_ret)
    rw [HQ.out,HR2.out]
    exact ⟨rfl,HX1.out,HP1.out⟩
  · have htk:=sees_no Hh.out ⟨#[59]⟩ rfl ht
    have HR2:Hid (r=ex s):=by have h:=Hrr.out;rw [if_neg ht] at h;exact h
    clear ht h
    go_enter Tryz.func265,Tryz.ntmps265
    go_wp2_with (go_at_call 181;refine htk.mono ?_;rintro e w1 ⟨rfl,hx1,hp1⟩)
    have hcall:=hex w1 _ hp1 (by rw [← HR2.out];exact HR.out)
    rw [← HR2.out] at hcall
    have HX1:=Lib.hid hx1
    clear hx1 hp1 htk
    refine hcall.mono ?_
    intro e w2 hd
    obtain ⟨v,rfl,hd⟩:=did_ret hd HR.out
    have HD:=Lib.hid (did_ext hd HX1.out)
    clear hd hcall
    go_wp2
    (try go_ret)
    rw [HQ.out]
    exact HD.out

set_option maxHeartbeats 16000000 in
set_option maxRecDepth 100000 in
theorem initial_fn {B T E:Nat}{ex:F3}(hex:FnC B T E 40 ex):FnC B T E 183 (initialF E ex):=fun w s h hr=>by
  obtain ⟨r,hrr⟩ : ∃ r,r=initialF E ex s:=⟨_,rfl⟩
  rw [← hrr] at hr ⊢
  obtain ⟨Q,hQ⟩ : ∃ Q:Ending→World→Prop,Q=Did B T E w r:=⟨_,rfl⟩
  rw [← hQ]
  have HQ:=Lib.hid hQ
  have HR:=Lib.hid hr
  have hB:=h.lt
  clear hQ hr
  have Hrr:Hid (r=if (pk E s.L).t=[61] then ex { s with L:=s.L.tail } else .ok s):=hrr
  have Hh:=Lib.hid h
  clear hrr
  by_cases ht:(pk E s.L).t=[61]
  · have htk:=took_yes Hh.out ⟨#[61]⟩ rfl ht
    have HR2:Hid (r=ex { s with L:=s.L.tail }):=by have h:=Hrr.out;rw [if_pos ht] at h;exact h
    clear ht h
    go_enter Tryz.func183,Tryz.ntmps183
    go_wp2_with (go_at_call 134;refine htk.mono ?_;rintro e w1 ⟨rfl,hx1,hp1⟩)
    have hcall:=hex w1 _ hp1 (by rw [← HR2.out];exact HR.out)
    rw [← HR2.out] at hcall
    have HX1:=Lib.hid hx1
    clear hx1 hp1 htk
    refine hcall.mono ?_
    intro e w2 hd
    obtain ⟨v,rfl,hd⟩:=did_ret hd HR.out
    have HD:=Lib.hid (did_ext hd HX1.out)
    clear hd hcall
    go_wp2
    (try go_ret)
    rw [HQ.out]
    exact HD.out
  · have htk:=took_no Hh.out ⟨#[61]⟩ rfl ht
    have HR2:Hid (r=.ok s):=by have h:=Hrr.out;rw [if_neg ht] at h;exact h
    clear ht h
    go_enter Tryz.func183,Tryz.ntmps183
    go_wp2_with (go_at_call 134;refine htk.mono ?_;rintro e w1 ⟨rfl,hx1,hp1⟩)
    have HX1:=Lib.hid hx1
    have HP1:=Lib.hid hp1
    clear hx1 hp1 htk
    (try go_wp2)
    (try go_ret)
    rw [HQ.out,HR2.out]
    exact ⟨rfl,HX1.out,HP1.out⟩

set_option maxHeartbeats 16000000 in
set_option maxRecDepth 100000 in
theorem else_fn {B T E:Nat}{bo:F3}(hbo:FnC B T E 281 bo):FnC B T E 282 (fun s:S3=>if (pk E s.L).t=[101,108,115,101] then bo { s with L:=s.L.tail } else .ok s):=fun w s h hr=>by
  obtain ⟨r,hrr⟩ : ∃ r,r=(fun s:S3=>if (pk E s.L).t=[101,108,115,101] then bo { s with L:=s.L.tail } else .ok s) s:=⟨_,rfl⟩
  rw [← hrr] at hr ⊢
  obtain ⟨Q,hQ⟩ : ∃ Q:Ending→World→Prop,Q=Did B T E w r:=⟨_,rfl⟩
  rw [← hQ]
  have HQ:=Lib.hid hQ
  have HR:=Lib.hid hr
  have hB:=h.lt
  clear hQ hr
  have Hrr:Hid (r=if (pk E s.L).t=[101,108,115,101] then bo { s with L:=s.L.tail } else .ok s):=hrr
  have Hh:=Lib.hid h
  clear hrr
  by_cases ht:(pk E s.L).t=[101,108,115,101]
  · have htk:=took_yes Hh.out ⟨#[101,108,115,101]⟩ rfl ht
    have HR2:Hid (r=bo { s with L:=s.L.tail }):=by have h:=Hrr.out;rw [if_pos ht] at h;exact h
    clear ht h
    go_enter Tryz.func282,Tryz.ntmps282
    go_wp2_with (go_at_call 134;refine htk.mono ?_;rintro e w1 ⟨rfl,hx1,hp1⟩)
    have hcall:=hbo w1 _ hp1 (by rw [← HR2.out];exact HR.out)
    rw [← HR2.out] at hcall
    have HX1:=Lib.hid hx1
    clear hx1 hp1 htk
    refine hcall.mono ?_
    intro e w2 hd
    obtain ⟨v,rfl,hd⟩:=did_ret hd HR.out
    have HD:=Lib.hid (did_ext hd HX1.out)
    clear hd hcall
    go_wp2
    (try go_ret)
    rw [HQ.out]
    exact HD.out
  · have htk:=took_no Hh.out ⟨#[101,108,115,101]⟩ rfl ht
    have HR2:Hid (r=.ok s):=by have h:=Hrr.out;rw [if_neg ht] at h;exact h
    clear ht h
    go_enter Tryz.func282,Tryz.ntmps282
    go_wp2_with (go_at_call 134;refine htk.mono ?_;rintro e w1 ⟨rfl,hx1,hp1⟩)
    have HX1:=Lib.hid hx1
    have HP1:=Lib.hid hp1
    clear hx1 hp1 htk
    (try go_wp2)
    (try go_ret)
    rw [HQ.out,HR2.out]
    exact ⟨rfl,HX1.out,HP1.out⟩
end
section
open Go.RowKit
open Tk (T4 bstr)
open Tr (Nd Blk KidsAt)

theorem box6f {w:World}{g:Nat}{t:TypeId}{x0 x1 x2 x3 x4 x5:Value}(h:Blk w g t #[x0,x1,x2,x3,x4,x5]) :
    w.cell? ⟨g,0,none⟩=some x0∧w.cell? ⟨g,1,none⟩=some x1∧w.cell? ⟨g,2,none⟩=some x2∧w.cell? ⟨g,3,none⟩=some x3∧w.cell? ⟨g,4,none⟩=some x4∧w.cell? ⟨g,5,none⟩=some x5∧w.frozen? ⟨g,0,none⟩=false∧w.frozen? ⟨g,1,none⟩=false∧w.frozen? ⟨g,2,none⟩=false∧w.frozen? ⟨g,3,none⟩=false∧w.frozen? ⟨g,4,none⟩=false∧w.frozen? ⟨g,5,none⟩=false∧g<w.heap.size :=
  ⟨by rw [h.cell];rfl,by rw [h.cell];rfl,by rw [h.cell];rfl,by rw [h.cell];rfl,by rw [h.cell];rfl,by rw [h.cell];rfl,h.frozen 0,h.frozen 1,h.frozen 2,h.frozen 3,h.frozen 4,h.frozen 5,h.lt⟩
/-- the words lie in the block where they lay -/
def TB (v v':Value):Prop:=∀ p n cap,v' = .slice p n cap→0<cap→∀ b o,p=some ⟨b,o,none⟩→∃ o' n' cap',v=.slice (some ⟨b,o',none⟩) n' cap'∧0<cap'
theorem TB.refl (v:Value):TB v v:=fun p n cap h h0 b o hp=>⟨o,n,cap,by rw [h,hp],h0⟩
theorem TB.trans {a b c:Value}(h:TB a b) (k:TB b c):TB a c:=fun p n cap e e0 bb o hp=>by
  obtain ⟨o1,n1,c1,e1,h1⟩:=k p n cap e e0 bb o hp
  exact h _ _ _ e1 h1 bb o1 rfl
structure Mv (B T E:Nat) (w:World) (s:S3) (w':World) (s':S3):Prop where
  ext:Ext B w w'
  ps:∀ vT vN vL ns,PS B T E w s vT vN vL ns→∃ vT',PS B T E w' s' vT' vN vL ns∧TB vT vT'
theorem Mv.of {B T E:Nat}{w w':World}{s s':S3}(h:Mv B T E w s w' s') (hp:Ps B T E w s):Ps B T E w' s':=by
  obtain ⟨a,b,c,d,hp⟩:=hp
  obtain ⟨e,hp,_⟩:=h.ps _ _ _ _ hp
  exact ⟨_,_,_,_,hp⟩
theorem Mv.trans {B T E:Nat}{w w1 w2:World}{s s1 s2:S3}(h:Mv B T E w s w1 s1) (k:Mv B T E w1 s1 w2 s2):Mv B T E w s w2 s2 :=
  ⟨h.ext.trans k.ext,fun vT vN vL ns hp=>by
    obtain ⟨v1,h1,t1⟩:=h.ps _ _ _ _ hp
    obtain ⟨v2,h2,t2⟩:=k.ps _ _ _ _ h1
    exact ⟨v2,h2,t1.trans t2⟩⟩
theorem Mv.below {B T E:Nat}{w w':World}{s:S3}(h:Ps B T E w s) (hb:Below w.heap.size w w'):Mv B T E w s w' s :=
  ⟨Ext.below hb h.lt,fun vT _ _ _ hp=>⟨vT,hp.below hb,TB.refl _⟩⟩
theorem Mv.alloc {B T E:Nat}{w:World}{s:S3}(h:Ps B T E w s) (o:Obj):Mv B T E w s (w.alloc o) s:=Mv.below h ((Below.refl _ _).alloc (Nat.le_refl _) _)
/-- a cell of a block that was new -/
theorem Mv.set {B T E:Nat}{w W:World}{s s':S3}(h:Mv B T E w s W s') (hp:Ps B T E w s) {g o:Nat}(hg:w.heap.size≤g) (hn:¬ Own B W g) (v:Value):Mv B T E w s (W.setCell ⟨g,o,none⟩ v) s':=by
  have hBg:B≠g:=fun e=>hn (Or.inl e.symm)
  have hk:∀ b,b≠g→(W.setCell ⟨g,o,none⟩ v).heap[b]? = W.heap[b]?:=fun b hb=>Below.heap_setCell _ _ _ _ hb
  have hO:∀ b,Own B (W.setCell ⟨g,o,none⟩ v) b ↔ Own B W b:=own_same (hk B hBg)
  have hsz:(W.setCell ⟨g,o,none⟩ v).heap.size=W.heap.size:=by simp [World.setCell]
  refine ⟨⟨h.ext.os,h.ext.tape,h.ext.output,by rw [hsz];exact h.ext.size,fun b hb hnb=>(hk b (by omega)).trans (h.ext.block b hb hnb),fun b ho=>h.ext.own b ((hO b).1 ho)⟩,fun vT vN vL ns hps=>?_⟩
  obtain ⟨vT',hq,ht⟩:=h.ps _ _ _ _ hps
  refine ⟨vT',?_,ht⟩
  have hNg:vN.ownBlock≠some g:=fun e=>hn ((hq.own_cases g).2 (Or.inr (Or.inl e)))
  have hLg:vL.ownBlock≠some g:=fun e=>hn ((hq.own_cases g).2 (Or.inr (Or.inr e)))
  have hgr:W.grownBy (W.setCell ⟨g,o,none⟩ v) (some g):=⟨rfl,rfl,rfl,by rw [hsz];exact Nat.le_refl _,fun k hk1 hk2=>hk k (by intro e;exact hk2 (by rw [e]))⟩
  refine { box:=(hk B hBg).trans hq.box,tok:=?_,nod:=hq.nod.kept hgr (Or.inr hNg),kid:=?_,loo:=hq.loo.kept hgr (Or.inr hLg),sep:=hq.sep,eqN:=hq.eqN,lenO:=hq.lenO,lenN:=hq.lenN,lenL:=hq.lenL,kl:=hq.kl,caps:=hq.caps }
  · obtain ⟨p,cap,hv,h1,h2,h3⟩:=hq.tok
    refine ⟨p,cap,hv,h1,h2,fun hc=>?_⟩
    obtain ⟨b,o',hp',hl,hn',ht'⟩:=h3 hc
    obtain ⟨o1,n1,c1,hv1,hc1⟩:=ht p _ cap hv hc b o' hp'
    obtain ⟨p0,cap0,hv0,k1,k2,k3⟩:=hps.tok
    rw [hv1] at hv0
    cases hv0
    obtain ⟨b0,o0,hp0,hl0,_,_⟩:=k3 hc1
    cases hp0
    exact ⟨b,o',hp',by rw [hsz];exact hl,fun ho=>hn' ((hO b).1 ho),ht'.same (hk b (by omega))⟩
  · intro i hi h0
    obtain ⟨b,hb0,hp',hl,hn',hc⟩:=hq.kid i hi h0
    obtain ⟨b0,_,hp0,hl0,_,_⟩:=hps.kid i hi h0
    rw [hp'] at hp0
    cases hp0
    exact ⟨b,hb0,hp',by rw [hsz];exact hl,fun ho=>hn' ((hO b).1 ho),fun j hj=>(World.cell?_of_block (a:=⟨b,j,none⟩) (hk b (by omega))).trans (hc j hj)⟩
theorem take_close2 {B T E:Nat}{w w1:World}{s:S3}{vT vN vL v:Value}{ns:List Nd}{L:List T4}(h:PS B T E w s vT vN vL ns) (ht:Toks B w v L) (hv:TB vT v) (hL:L.length≤5000000) (hb:Below w.heap.size w w1)
    {y0 y1 y2 y3:Value} {o:Obj}:Mv B T E w s ((((((w1.setCell ⟨B,0,none⟩ v).setCell ⟨w.heap.size,0,none⟩ y0).setCell ⟨w.heap.size,1,none⟩ y1).setCell ⟨w.heap.size,2,none⟩ y2).setCell ⟨w.heap.size,3,none⟩ y3).alloc o) { s with L:=L }:=by
  have hW:Below (w.setCell ⟨B,0,none⟩ v).heap.size (w.setCell ⟨B,0,none⟩ v) ((((((w1.setCell ⟨B,0,none⟩ v).setCell ⟨w.heap.size,0,none⟩ y0).setCell ⟨w.heap.size,1,none⟩ y1).setCell ⟨w.heap.size,2,none⟩ y2).setCell ⟨w.heap.size,3,none⟩ y3).alloc o):=by
    have e:(w.setCell ⟨B,0,none⟩ v).heap.size=w.heap.size:=by simp [World.setCell]
    have hs:=hb.size
    rw [e]
    exact (((((below_set hb _ _).setCell (p:=⟨w.heap.size,0,none⟩) (Nat.le_refl _) _).setCell (p:=⟨w.heap.size,1,none⟩) (Nat.le_refl _) _).setCell (p:=⟨w.heap.size,2,none⟩) (Nat.le_refl _) _).setCell (p:=⟨w.heap.size,3,none⟩) (Nat.le_refl _) _).alloc (by simpa [World.setCell] using hs) _
  have hp:=h.set0 ht hL
  refine ⟨(ext_set0 h.box v).trans (Ext.below hW hp.lt),fun vT2 vN2 vL2 ns2 h2=>⟨v,(h2.set0 ht hL).below hW,?_⟩⟩
  have e:vT2=vT:=by
    have e0:w.cell? ⟨B,0,none⟩=some vT:=by rw [h.box.cell];rfl
    have e1:w.cell? ⟨B,0,none⟩=some vT2:=by rw [h2.box.cell];rfl
    rw [e0] at e1;exact (Option.some.inj e1).symm
  rw [e];exact hv

set_option maxHeartbeats 4000000 in
set_option maxRecDepth 100000 in
theorem take_cons2 {B T E:Nat}{w:World}{s:S3}(h:Ps B T E w s) {t:T4}{L:List T4}(hl:s.L=t :: L) :
    Calls Tryz.prog 129 #[.pointer (some ⟨B,0,none⟩)] w fun e w'=>e=.returned (tokV t)∧Mv B T E w s w' { s with L:=L }:=by
  obtain ⟨x0,hx0⟩ : ∃ x0,x0=bstr t.t:=⟨_,rfl⟩
  have hp:=peek_any (h.alloc (.cells #[.int .i64 0,.string ⟨#[]⟩,.int .i64 0,.int .i64 0] 58))
  have hB:=h.lt
  unfold tokV at hp ⊢
  rw [hl] at hp
  change Calls _ _ _ _ (fun e w'=>e=.returned (.agg #[.int .i64 t.k,.string (bstr t.t),.int .i64 t.v,.int .i64 t.a])∧_) at hp
  rw [← hx0] at hp ⊢
  have H:=Lib.hid h
  have Hl:=Lib.hid hl
  clear h hl hx0
  obtain ⟨Q,hQ⟩ : ∃ Q:Ending→World→Prop,Q=fun e w'=>e=.returned (.agg #[.int .i64 t.k,.string x0,.int .i64 t.v,.int .i64 t.a])∧Mv B T E w s w' { s with L:=L }:=⟨_,rfl⟩
  have HQ:=Lib.hid hQ
  rw [← hQ]
  clear hQ
  go_enter Tryz.func129,Tryz.ntmps129
  go_wp2_with (go_at_call 75;refine hp.mono ?_;rintro e w1 ⟨rfl,hb⟩)
  have hb1:Below w.heap.size w w1:=((Below.refl _ _).alloc (Nat.le_refl _) _).trans (hb.mono (by simp))
  have HB:=Lib.hid hb1
  have hs1:=H.out.below hb1
  have HS:=Lib.hid hs1
  have k0:w1.heap[w.heap.size]? = some (.cells #[.int .i64 0,.string ⟨#[]⟩,.int .i64 0,.int .i64 0] 58 (0,0)):=(hb.block _ (by simp)).trans (heap_alloc_new w _)
  have K0:Hid (Blk w1 w.heap.size 58 #[.int .i64 0,.string ⟨#[]⟩,.int .i64 0,.int .i64 0]):=k0
  obtain ⟨⟨c0,c1,c2,c3⟩,⟨f0,f1,f2,f3⟩,lK⟩:=box4 K0.out
  have he:=ended_any (hs1.alloc (.cells #[.int .i64 t.k,.string x0,.int .i64 t.v,.int .i64 t.a] 58))
  have hd:decide (s.L.length=0)=false:=by rw [Hl.out];simp
  rw [hd] at he
  obtain ⟨vT,vN,vL,ns,h1⟩:=H.out
  obtain ⟨p,cap,rfl,q1,q2,q3⟩:=h1.tok
  have hlen:s.L.length=L.length+1:=by rw [Hl.out];rfl
  obtain ⟨b,o,rfl,hlb,hnb,ht⟩:=q3 (by omega)
  have lB:B<w1.heap.size:=Nat.lt_of_lt_of_le hB HB.out.size
  have hm:=h1.lenL
  have g0:w1.cell? ⟨B,0,none⟩=some (.slice (some ⟨b,o,none⟩) (L.length+1) cap):=by rw [HB.out.cell (p:=⟨B,0,none⟩) hB,h1.box.cell,← hlen];rfl
  have gf:w1.frozen? ⟨B,0,none⟩=false:=(HB.out.frozen (p:=⟨B,0,none⟩) hB).trans (h1.box.frozen 0)
  have hne:B≠w.heap.size:=by omega
  have HP:=Lib.hid h1
  rw [hlen] at q1 hm
  have HTt:Hid (1<cap→Toks B w (.slice (some ⟨b,o+4,none⟩) L.length (cap-1)) L):=fun _=>toks_tail (t:=t) rfl q1 q2 hlb hnb (by rw [← Hl.out];exact ht)
  have Hm:Hid (L.length≤5000000):=Lib.hid (by omega)
  clear hb hb1 k0 hd h1 q3 ht hlen hnb hlb HS
  by_cases hcap:cap=1
  · subst hcap
    have hL0:L.length=0:=by omega
    have HL0:Hid (L=[]):=List.eq_nil_of_length_eq_zero hL0
    rw [hL0] at g0 q1 hm
    clear hL0 HTt
    go_wp2_with (go_at_call 79;refine he.mono ?_;rintro e w' ⟨rfl,rfl⟩)
    refine bodyPost_ret (v:=.agg #[.int .i64 t.k,.string x0,.int .i64 t.v,.int .i64 t.a]) (by simp [results,Tryz.results129,go_sem,c0,c1,c2,c3,lK,hne]) rfl ?_
    rw [HQ.out]
    exact ⟨rfl,take_close2 HP.out (by rw [HL0.out];exact toks_none) (fun _ _ _ e1 e2=>by cases e1;omega) Hm.out HB.out⟩
  · have hc1:1<cap:=by omega
    have HT2:=Lib.hid (HTt.out hc1)
    clear HTt
    go_wp2_with (go_at_call 79;refine he.mono ?_;rintro e w' ⟨rfl,rfl⟩)
    refine bodyPost_ret (v:=.agg #[.int .i64 t.k,.string x0,.int .i64 t.v,.int .i64 t.a]) (by simp [results,Tryz.results129,go_sem,c0,c1,c2,c3,lK,hne]) rfl ?_
    rw [HQ.out]
    exact ⟨rfl,take_close2 HP.out HT2.out (fun _ _ _ e1 e2 b o e3=>by cases e1;cases e3;exact ⟨_,_,_,rfl,by omega⟩) Hm.out HB.out⟩
theorem take_any2 {B T E:Nat}{w:World}{s:S3}(h:Ps B T E w s) :
    Calls Tryz.prog 129 #[.pointer (some ⟨B,0,none⟩)] w fun e w'=>e=.returned (tokV (pk E s.L))∧Mv B T E w s w' { s with L:=s.L.tail }:=by
  cases hl:s.L with
  | nil=>exact (take_nil h hl).mono fun e w' ⟨he,hb⟩=>⟨he,by have:=Mv.below h hb;obtain ⟨L,N,O⟩:=s;cases hl;exact this⟩
  | cons t L=>exact take_cons2 h hl
end
section
open Go.RowKit
open Tk (T4 bstr)
open Tr (Nd Blk KidsAt)

/-- a new block that is none of the parser's own stays as it is -/
theorem new_blk {B T E:Nat}{w w':World}{s:S3}(h:Ps B T E w s) (t:TypeId) (cs:Array Value) (hx:Ext B (w.alloc (.cells cs t)) w'):Blk w' w.heap.size t cs∧¬ Own B w' w.heap.size:=by
  have hno:¬ Own B (w.alloc (.cells cs t)) w.heap.size:=fun ho=>not_own_new ⟨T,E,s,h⟩ ((own_alloc h.lt _ _).1 ho)
  exact ⟨hx.blk (heap_alloc_new w _) hno,hx.notOwn (by simp) hno⟩
theorem own_setCell {B:Nat}{W:World}{g o:Nat}(hn:¬ Own B W g) (v:Value) (b:Nat):Own B (W.setCell ⟨g,o,none⟩ v) b ↔ Own B W b:=own_same (Below.heap_setCell _ _ _ _ (fun e:B=g=>hn (Or.inl e.symm))) b
theorem Mv.set4 {B T E:Nat}{w W:World}{s s':S3}(h:Mv B T E w s W s') (hp:Ps B T E w s) {g:Nat}(hg:w.heap.size≤g) (hn:¬ Own B W g) (y0 y1 y2 y3:Value) :
    Mv B T E w s ((((W.setCell ⟨g,0,none⟩ y0).setCell ⟨g,1,none⟩ y1).setCell ⟨g,2,none⟩ y2).setCell ⟨g,3,none⟩ y3) s':=by
  have h1:=h.set (o:=0) hp hg hn y0
  have n1:¬ Own B (W.setCell ⟨g,0,none⟩ y0) g:=fun ho=>hn ((own_setCell hn _ _).1 ho)
  have h2:=h1.set (o:=1) hp hg n1 y1
  have n2:¬ Own B ((W.setCell ⟨g,0,none⟩ y0).setCell ⟨g,1,none⟩ y1) g:=fun ho=>n1 ((own_setCell n1 _ _).1 ho)
  have h3:=h2.set (o:=2) hp hg n2 y2
  have n3:¬ Own B (((W.setCell ⟨g,0,none⟩ y0).setCell ⟨g,1,none⟩ y1).setCell ⟨g,2,none⟩ y2) g:=fun ho=>n2 ((own_setCell n2 _ _).1 ho)
  exact h3.set (o:=3) hp hg n3 y3
theorem Mv.set6 {B T E:Nat}{w W:World}{s s':S3}(h:Mv B T E w s W s') (hp:Ps B T E w s) {g:Nat}(hg:w.heap.size≤g) (hn:¬ Own B W g) (y0 y1 y2 y3 y4 y5:Value) :
    Mv B T E w s ((((((W.setCell ⟨g,0,none⟩ y0).setCell ⟨g,1,none⟩ y1).setCell ⟨g,2,none⟩ y2).setCell ⟨g,3,none⟩ y3).setCell ⟨g,4,none⟩ y4).setCell ⟨g,5,none⟩ y5) s':=by
  have h4:=h.set4 hp hg hn y0 y1 y2 y3
  have n1:¬ Own B (W.setCell ⟨g,0,none⟩ y0) g:=fun ho=>hn ((own_setCell hn _ _).1 ho)
  have n2:¬ Own B ((W.setCell ⟨g,0,none⟩ y0).setCell ⟨g,1,none⟩ y1) g:=fun ho=>n1 ((own_setCell n1 _ _).1 ho)
  have n3:¬ Own B (((W.setCell ⟨g,0,none⟩ y0).setCell ⟨g,1,none⟩ y1).setCell ⟨g,2,none⟩ y2) g:=fun ho=>n2 ((own_setCell n2 _ _).1 ho)
  have n4:¬ Own B ((((W.setCell ⟨g,0,none⟩ y0).setCell ⟨g,1,none⟩ y1).setCell ⟨g,2,none⟩ y2).setCell ⟨g,3,none⟩ y3) g:=fun ho=>n3 ((own_setCell n3 _ _).1 ho)
  have h5:=h4.set (o:=4) hp hg n4 y4
  have n5:¬ Own B (((((W.setCell ⟨g,0,none⟩ y0).setCell ⟨g,1,none⟩ y1).setCell ⟨g,2,none⟩ y2).setCell ⟨g,3,none⟩ y3).setCell ⟨g,4,none⟩ y4) g:=fun ho=>n4 ((own_setCell n4 _ _).1 ho)
  exact h5.set (o:=5) hp hg n5 y5

def noTok:Value:=.agg #[.int .i64 0,.string ⟨#[]⟩,.int .i64 0,.int .i64 0]
set_option maxHeartbeats 4000000 in
set_option maxRecDepth 100000 in
theorem kind_no {B T E:Nat}{w:World}{s:S3}(h:Ps B T E w s) (k:Int) (hk:((pk E s.L).k:Int)≠k) :
    Calls Tryz.prog 221 #[.pointer (some ⟨B,0,none⟩),.int .i64 k] w fun e w' =>
      e=.returned (.tuple #[noTok,errV 1 (pk E s.L).a])∧Mv B T E w s w' s:=by
  have hM0:=Mv.alloc h (.cells #[.int .i64 0,.string ⟨#[]⟩,.int .i64 0,.int .i64 0] 58)
  have hp0:=h.alloc (.cells #[.int .i64 0,.string ⟨#[]⟩,.int .i64 0,.int .i64 0] 58)
  have hpk:=peek_any hp0
  have HP0:=Lib.hid hp0
  have HM0:=Lib.hid hM0
  have H:=Lib.hid h
  unfold tokV at hpk
  obtain ⟨t,ht⟩ : ∃ t,t=pk E s.L:=⟨_,rfl⟩
  have HT:=Lib.hid ht
  rw [← ht] at hpk hk ⊢
  obtain ⟨x,hx⟩ : ∃ x,x=bstr t.t:=⟨_,rfl⟩
  rw [← hx] at hpk
  have hd:((t.k:Int) == k)=false:=by simpa using hk
  have hf:=fldT0
  clear hx h hp0 hM0 ht
  go_enter Tryz.func221,Tryz.ntmps221
  go_wp2_with (go_at_call 75;refine hpk.mono ?_;rintro e w1 ⟨rfl,hb⟩)
  have hw:=wrong_any (HP0.out.below hb)
  rw [← HT.out] at hw
  have HB:=Lib.hid hb
  clear hpk hb
  go_wp2_with (go_at_call 80;refine hw.mono ?_)
  rintro e w2 ⟨rfl,hb2⟩
  have hM2:=HM0.out.trans ((Mv.below HP0.out HB.out).trans (Mv.below (HP0.out.below HB.out) hb2))
  obtain ⟨hk2,hn2⟩:=new_blk H.out 58 _ ((Mv.below HP0.out HB.out).trans (Mv.below (HP0.out.below HB.out) hb2)).ext
  obtain ⟨⟨d0,d1,d2,d3⟩,⟨f0,f1,f2,f3⟩,l0⟩:=box4 hk2
  have HM2:=Lib.hid hM2
  have HN2:=Lib.hid hn2
  clear hw hb2 hM2 hn2 hk2
  unfold errV
  go_wp2
  refine bodyPost_ret (v:=.tuple #[noTok,errV 1 t.a]) (by simp [results,Tryz.results221,go_sem,d0,d1,d2,d3,l0,errV,noTok]) rfl ?_
  exact ⟨rfl,HM2.out.set4 H.out (Nat.le_refl _) HN2.out _ _ _ _⟩
set_option maxHeartbeats 4000000 in
set_option maxRecDepth 100000 in
theorem kind_yes {B T E:Nat}{w:World}{s:S3}(h:Ps B T E w s) (k:Int) (hk:((pk E s.L).k:Int)=k) :
    Calls Tryz.prog 221 #[.pointer (some ⟨B,0,none⟩),.int .i64 k] w fun e w' =>
      e=.returned (.tuple #[tokV (pk E s.L),.nilIface])∧Mv B T E w s w' { s with L:=s.L.tail }:=by
  have hM0:=Mv.alloc h (.cells #[.int .i64 0,.string ⟨#[]⟩,.int .i64 0,.int .i64 0] 58)
  have hp0:=h.alloc (.cells #[.int .i64 0,.string ⟨#[]⟩,.int .i64 0,.int .i64 0] 58)
  have hpk:=peek_any hp0
  have HP0:=Lib.hid hp0
  have HM0:=Lib.hid hM0
  have H:=Lib.hid h
  subst hk
  unfold tokV at hpk ⊢
  obtain ⟨t,ht⟩ : ∃ t,t=pk E s.L:=⟨_,rfl⟩
  have HT:=Lib.hid ht
  rw [← ht] at hpk ⊢
  obtain ⟨x,hx⟩ : ∃ x,x=bstr t.t:=⟨_,rfl⟩
  have Hx:=Lib.hid hx
  rw [← hx] at hpk ⊢
  have hf:=fldT0
  clear hx h hp0 hM0 ht
  go_enter Tryz.func221,Tryz.ntmps221
  go_wp2_with (go_at_call 75;refine hpk.mono ?_;rintro e w1 ⟨rfl,hb⟩)
  have hw:=take_any2 (HP0.out.below hb)
  unfold tokV at hw
  rw [← HT.out,← Hx.out] at hw
  have HB:=Lib.hid hb
  clear hpk hb
  go_wp2_with (go_at_call 129;refine hw.mono ?_)
  rintro e w2 ⟨rfl,hm2⟩
  have hM2:=HM0.out.trans ((Mv.below HP0.out HB.out).trans hm2)
  obtain ⟨hk2,hn2⟩:=new_blk H.out 58 _ ((Mv.below HP0.out HB.out).trans hm2).ext
  obtain ⟨⟨d0,d1,d2,d3⟩,⟨f0,f1,f2,f3⟩,l0⟩:=box4 hk2
  have HM2:=Lib.hid hM2
  have HN2:=Lib.hid hn2
  clear hw hm2 hM2 hn2 hk2
  go_wp2
  refine bodyPost_ret (v:=.tuple #[.agg #[.int .i64 t.k,.string x,.int .i64 t.v,.int .i64 t.a],.nilIface]) (by simp [results,Tryz.results221,go_sem,d0,d1,d2,d3,l0]) rfl ?_
  exact ⟨rfl,HM2.out.set4 H.out (Nat.le_refl _) HN2.out _ _ _ _⟩
end
section
open Go.RowKit
open Tk (T4 bstr)
open Tr (Nd Blk KidsAt)

set_option maxHeartbeats 2000000 in
set_option maxRecDepth 100000 in
theorem took_yes2 {B T E:Nat}{w:World}{s:S3}(h:Ps B T E w s) (x:ByteArray) {l:List UInt8}(hl:x.data.toList=l) (ht:(pk E s.L).t=l) :
    Calls Tryz.prog 134 #[.pointer (some ⟨B,0,none⟩),.string x] w fun e w'=>e=.returned (.bool true)∧Mv B T E w s w' { s with L:=s.L.tail }:=by
  have hs:=sees_any h x
  have H:=Lib.hid h
  clear h
  have hd:decide ((pk E s.L).t=x.data.toList)=true:=decide_eq_true (by rw [hl];exact ht)
  rw [hd] at hs
  clear ht hd hl
  go_enter Tryz.func134,Tryz.ntmps134
  go_wp2_with (go_at_call 181;refine hs.mono ?_;rintro e w1 ⟨rfl,hb⟩)
  have hk:=take_any2 (H.out.below hb)
  have HB:=Lib.hid hb
  clear hb hs
  go_wp2_with (go_at_call 129;refine hk.mono ?_)
  rintro e w2 ⟨rfl,hm⟩
  have HM:=Lib.hid hm
  clear hm hk
  go_wp2
  go_ret
  exact ⟨rfl,(Mv.below H.out HB.out).trans HM.out⟩
theorem took_no2 {B T E:Nat}{w:World}{s:S3}(h:Ps B T E w s) (x:ByteArray) {l:List UInt8}(hl:x.data.toList=l) (ht:(pk E s.L).t≠l) :
    Calls Tryz.prog 134 #[.pointer (some ⟨B,0,none⟩),.string x] w fun e w'=>e=.returned (.bool false)∧Mv B T E w s w' s:=by
  have hs:=sees_any h x
  have H:=Lib.hid h
  clear h
  have hd:decide ((pk E s.L).t=x.data.toList)=false:=decide_eq_false (by rw [hl];exact ht)
  rw [hd] at hs
  clear ht hd hl
  go_enter Tryz.func134,Tryz.ntmps134
  go_wp2_with (go_at_call 181;refine hs.mono ?_;rintro e w1 ⟨rfl,hb⟩)
  go_ret
  exact ⟨rfl,Mv.below H.out hb⟩
set_option maxHeartbeats 2000000 in
set_option maxRecDepth 100000 in
theorem word_yes2 {B T E:Nat}{w:World}{s:S3}(h:Ps B T E w s) (x:ByteArray) {l:List UInt8}(hl:x.data.toList=l) (ht:(pk E s.L).t=l) :
    Calls Tryz.prog 77 #[.pointer (some ⟨B,0,none⟩),.string x] w fun e w'=>∃ g1 g2,e=.returned (.func (.func 133) #[] #[.pointer (some ⟨g1,0,none⟩),.pointer (some ⟨g2,0,none⟩)]) ∧
      Calls Tryz.prog 133 #[.pointer (some ⟨g1,0,none⟩),.pointer (some ⟨g2,0,none⟩)] w' fun e w2=>e=.returned .nilIface∧Mv B T E w s w2 { s with L:=s.L.tail }:=by
  refine (word_any x w).mono ?_
  intro e w' hh
  obtain ⟨he,hw⟩:=hh
  refine ⟨_,_,he,?_⟩
  have hb:Below w.heap.size w w':=by rw [hw];exact ((Below.refl _ _).alloc (Nat.le_refl _) _).alloc (by simp) _
  have h1:w'.cell? ⟨w.heap.size,0,none⟩=some (.pointer (some ⟨B,0,none⟩)):=by rw [hw];exact ((Blk.new _ _ _).alloc _).cell 0
  have h2:w'.cell? ⟨w.heap.size+1,0,none⟩=some (.string x):=by
    rw [hw]
    have:=(Blk.new (w.alloc (.cells #[.pointer (some ⟨B,0,none⟩)] 95)) 9 #[.string x]).cell 0
    rwa [World.size_alloc] at this
  have hk:=took_yes2 (h.below hb) x hl ht
  have HM:=Lib.hid (Mv.below h hb)
  clear he hw hb h hl ht
  go_enter Tryz.func133,Tryz.ntmps133
  go_wp2_with (go_at_call 134;refine hk.mono ?_)
  rintro e w2 ⟨rfl,hm⟩
  have HM2:=Lib.hid (HM.out.trans hm)
  clear hm hk
  go_wp2
  (try go_ret)
  exact ⟨rfl,HM2.out⟩
set_option maxHeartbeats 2000000 in
set_option maxRecDepth 100000 in
theorem word_no2 {B T E:Nat}{w:World}{s:S3}(h:Ps B T E w s) (x:ByteArray) {l:List UInt8}(hl:x.data.toList=l) (ht:(pk E s.L).t≠l) :
    Calls Tryz.prog 77 #[.pointer (some ⟨B,0,none⟩),.string x] w fun e w'=>∃ g1 g2,e=.returned (.func (.func 133) #[] #[.pointer (some ⟨g1,0,none⟩),.pointer (some ⟨g2,0,none⟩)]) ∧
      Calls Tryz.prog 133 #[.pointer (some ⟨g1,0,none⟩),.pointer (some ⟨g2,0,none⟩)] w' fun e w2=>e=.returned (errV 1 (pk E s.L).a)∧Mv B T E w s w2 s:=by
  refine (word_any x w).mono ?_
  intro e w' hh
  obtain ⟨he,hw⟩:=hh
  refine ⟨_,_,he,?_⟩
  have hb:Below w.heap.size w w':=by rw [hw];exact ((Below.refl _ _).alloc (Nat.le_refl _) _).alloc (by simp) _
  have h1:Blk w' w.heap.size 95 #[.pointer (some ⟨B,0,none⟩)]:=by rw [hw];exact (Blk.new _ _ _).alloc _
  have h2:w'.cell? ⟨w.heap.size+1,0,none⟩=some (.string x):=by
    rw [hw]
    have:=(Blk.new (w.alloc (.cells #[.pointer (some ⟨B,0,none⟩)] 95)) 9 #[.string x]).cell 0
    rwa [World.size_alloc] at this
  have hn1:¬ Own B w' w.heap.size:=fun ho=>not_own_new ⟨T,E,s,h⟩ ((own_same (hb.block B h.lt) _).1 ho)
  have hk:=took_no2 (h.below hb) x hl ht
  have HM:=Lib.hid (Mv.below h hb)
  have HP:=Lib.hid (h.below hb)
  have c1:=h1.cell 0
  have HN:=Lib.hid hn1
  have H1:=Lib.hid h1
  clear he hw hb h hl ht hn1 h1
  go_enter Tryz.func133,Tryz.ntmps133
  go_wp2_with (go_at_call 134;refine hk.mono ?_)
  rintro e w2 ⟨rfl,hm⟩
  have HM2:=Lib.hid hm
  have c2:w2.cell? ⟨w.heap.size,0,none⟩=some (.pointer (some ⟨B,0,none⟩)):=(hm.ext.blk H1.out HN.out).cell 0
  have hw:=wrong_any (hm.of HP.out)
  clear hm hk
  go_wp2_with (go_at_call 80;refine hw.mono ?_)
  rintro e w3 ⟨rfl,hb3⟩
  have HM3:=Lib.hid (HM.out.trans (HM2.out.trans (Mv.below (HM2.out.of HP.out) hb3)))
  clear hw hb3
  go_wp2
  (try go_ret)
  exact ⟨rfl,HM3.out⟩
theorem Mv.more {B T E:Nat}{w W:World}{s s':S3}(h:Mv B T E w s W s') (hp:Ps B T E w s) (o:Obj):Mv B T E w s (W.alloc o) s':=h.trans (Mv.alloc (h.of hp) o)
/-- what named and declared give -/
def DD (d:D3) (v v2:Value) (s':S3):Prop:=match d with
  | .ok s1 x=>v=nodeV x∧v2=.nilIface∧s' = s1∧x.c=[]
  | .bad c a=>v2=errV c a
  | .out=>False
def DPost (B T E:Nat) (w:World) (s:S3) (d:D3) (e:Ending) (w':World):Prop :=
  ∃ (a0:Int) (a1:ByteArray) (a2 a3 a5:Int) (v2:Value) (s':S3),e=.returned (.tuple #[.agg #[.int .i64 a0,.string a1,.int .i64 a2,.int .i64 a3,.slice none 0 0,.int .i64 a5],v2]) ∧
    Mv B T E w s w' s'∧DD d (.agg #[.int .i64 a0,.string a1,.int .i64 a2,.int .i64 a3,.slice none 0 0,.int .i64 a5]) v2 s'
def z36:Obj:=.cells #[.int .i64 0,.string ⟨#[]⟩,.int .i64 0,.int .i64 0,.slice none 0 0,.int .i64 0] 34
set_option maxHeartbeats 4000000 in
set_option maxRecDepth 100000 in
theorem named_any {B T E:Nat}{w:World}{s:S3}(h:Ps B T E w s) (typ:Int) :
    Calls Tryz.prog 178 #[.pointer (some ⟨B,0,none⟩),.int .i64 typ] w (DPost B T E w s (namedF E typ s)):=by
  have hp0:=h.alloc z36
  have HM0:Hid (Mv B T E w s (w.alloc z36) s):=Mv.alloc h _
  have H:=Lib.hid h
  have HP0:=Lib.hid hp0
  obtain ⟨Q,hQ⟩ : ∃ Q:Ending→World→Prop,Q=DPost B T E w s (namedF E typ s):=⟨_,rfl⟩
  rw [← hQ]
  have HQ:=Lib.hid hQ
  clear hQ
  by_cases hk:(pk E s.L).k=1
  · have hc:=kind_yes hp0 1 (by rw [hk];rfl)
    unfold tokV at hc
    obtain ⟨t,ht⟩ : ∃ t,t=pk E s.L:=⟨_,rfl⟩
    have HT:=Lib.hid ht
    rw [← ht] at hc
    obtain ⟨x,hx⟩ : ∃ x,x=bstr t.t:=⟨_,rfl⟩
    have Hx:=Lib.hid hx
    rw [← hx] at hc
    have Hk:=Lib.hid hk
    clear hx ht h hp0 hk
    unfold z36 at hc
    go_enter Tryz.func178,Tryz.ntmps178
    go_wp2_with (go_at_call 221;refine hc.mono ?_)
    rintro e w2 ⟨rfl,hm2⟩
    obtain ⟨hk2,hn2⟩:=new_blk H.out 34 _ hm2.ext
    obtain ⟨d0,d1,d2,d3,d4,d5,f0,f1,f2,f3,f4,f5,l0⟩:=box6f hk2
    have HM2:=Lib.hid (HM0.out.trans hm2)
    have HN2:=Lib.hid hn2
    clear hc hm2 hn2 hk2
    go_wp2
    refine bodyPost_ret (v:=.tuple #[.agg #[.int .i64 0,.string x,.int .i64 typ,.int .i64 0,.slice none 0 0,.int .i64 t.a],.nilIface]) (by simp [results,Tryz.results178,go_sem,d0,d1,d2,d3,d4,d5,l0]) rfl ?_
    rw [HQ.out]
    refine ⟨0,x,typ,0,t.a,.nilIface,_,rfl,(HM2.out.set6 H.out (Nat.le_refl _) HN2.out _ _ _ _ _ _).more H.out _,?_⟩
    unfold namedF
    rw [if_pos Hk.out,← HT.out,Hx.out]
    exact ⟨rfl,rfl,rfl,rfl⟩
  · have hc:=kind_no hp0 1 (by intro e;exact hk (by exact_mod_cast e))
    have Hk:=Lib.hid hk
    unfold noTok errV at hc
    clear h hp0 hk
    unfold z36 at hc
    generalize hpa:(pk E s.L).a=pa at *
    have Hpa:=Lib.hid hpa
    clear hpa
    go_enter Tryz.func178,Tryz.ntmps178
    go_wp2_with (go_at_call 221;refine hc.mono ?_)
    rintro e w2 ⟨rfl,hm2⟩
    obtain ⟨hk2,hn2⟩:=new_blk H.out 34 _ hm2.ext
    obtain ⟨d0,d1,d2,d3,d4,d5,f0,f1,f2,f3,f4,f5,l0⟩:=box6f hk2
    have HM2:=Lib.hid (HM0.out.trans hm2)
    have HN2:=Lib.hid hn2
    clear hc hm2 hn2 hk2
    go_wp2
    refine bodyPost_ret (v:=.tuple #[.agg #[.int .i64 0,.string ⟨#[]⟩,.int .i64 0,.int .i64 0,.slice none 0 0,.int .i64 0],.iface 97 (.agg #[.int .i64 1,.int .i64 pa])]) (by simp [results,Tryz.results178,go_sem,d0,d1,d2,d3,d4,d5,l0]) rfl ?_
    rw [HQ.out]
    refine ⟨0,⟨#[]⟩,0,0,0,_,_,rfl,(HM2.out.set6 H.out (Nat.le_refl _) HN2.out _ _ _ _ _ _).more H.out _,?_⟩
    unfold namedF
    rw [if_neg Hk.out,Hpa.out]
    rfl

set_option maxHeartbeats 8000000 in
set_option maxRecDepth 100000 in
theorem declared_any {B T E:Nat}{w:World}{s:S3}(h:Ps B T E w s) :
    Calls Tryz.prog 180 #[.pointer (some ⟨B,0,none⟩)] w (DPost B T E w s (declF E s)):=by
  have hp0:=h.alloc z36
  have HM0:Hid (Mv B T E w s (w.alloc z36) s):=Mv.alloc h _
  have H:=Lib.hid h
  have HP0:=Lib.hid hp0
  obtain ⟨Q,hQ⟩ : ∃ Q:Ending→World→Prop,Q=DPost B T E w s (declF E s):=⟨_,rfl⟩
  rw [← hQ]
  have HQ:=Lib.hid hQ
  clear hQ
  by_cases ht:(pk E s.L).t=[105,110,116]
  · have hw:=word_yes2 hp0 ⟨#[105,110,116]⟩ rfl ht
    have Ht:=Lib.hid ht
    clear h hp0 ht
    unfold z36 at hw
    go_enter Tryz.func180,Tryz.ntmps180
    go_wp2_with (go_at_call 77;refine hw.mono ?_;rintro e w2 ⟨g1,g2,rfl,h77⟩)
    refine h77.mono ?_
    rintro e w3 ⟨rfl,hm3⟩
    have HM3:=Lib.hid (HM0.out.trans hm3)
    have HX3:=Lib.hid hm3.ext
    have HP3:=Lib.hid (hm3.of HP0.out)
    clear hm3 h77 hw
    by_cases hs:(pk E s.L.tail).t=[42]
    · have hk:=took_yes2 HP3.out ⟨#[42]⟩ rfl hs
      have HD:Hid (declF E s=namedF E 2 { s with L:=s.L.tail.tail }):=by
        show _=_;unfold declF wordF;rw [if_pos Ht.out];show (if _ then _ else _)=_;rw [if_pos hs]
      clear hs
      go_wp2_with (go_at_call 134;refine hk.mono ?_;rintro e w4 ⟨rfl,hm4⟩)
      have hnm:=named_any (hm4.of HP3.out) 2
      have HM4:=Lib.hid (HM3.out.trans hm4)
      have HX4:=Lib.hid (HX3.out.trans hm4.ext)
      clear hk hm4
      go_wp2_with (go_at_call 178;refine hnm.mono ?_)
      rintro e w5 ⟨a0,a1,a2,a3,a5,v2,s',rfl,hM,hd⟩
      obtain ⟨hk2,hn2⟩:=new_blk H.out 34 _ (HX4.out.trans hM.ext)
      obtain ⟨d0,d1,d2,d3,d4,d5,f0,f1,f2,f3,f4,f5,l0⟩:=box6f hk2
      have HM5:=Lib.hid (HM4.out.trans hM)
      have HN2:=Lib.hid hn2
      have HDD:=Lib.hid hd
      clear hnm hM hn2 hk2 hd
      go_wp2
      refine bodyPost_ret (v:=.tuple #[.agg #[.int .i64 a0,.string a1,.int .i64 a2,.int .i64 a3,.slice none 0 0,.int .i64 a5],v2]) (by simp [results,Tryz.results180,go_sem,d0,d1,d2,d3,d4,d5,l0]) rfl ?_
      rw [HQ.out,HD.out]
      exact ⟨a0,a1,a2,a3,a5,v2,s',rfl,HM5.out.set6 H.out (Nat.le_refl _) HN2.out _ _ _ _ _ _,HDD.out⟩
    · have hk:=took_no2 HP3.out ⟨#[42]⟩ rfl hs
      have HD:Hid (declF E s=namedF E 1 { s with L:=s.L.tail }):=by
        show _=_;unfold declF wordF;rw [if_pos Ht.out];show (if _ then _ else _)=_;rw [if_neg hs]
      clear hs
      go_wp2_with (go_at_call 134;refine hk.mono ?_;rintro e w4 ⟨rfl,hm4⟩)
      have hnm:=named_any (hm4.of HP3.out) 1
      have HM4:=Lib.hid (HM3.out.trans hm4)
      have HX4:=Lib.hid (HX3.out.trans hm4.ext)
      clear hk hm4
      go_wp2_with (go_at_call 178;refine hnm.mono ?_)
      rintro e w5 ⟨a0,a1,a2,a3,a5,v2,s',rfl,hM,hd⟩
      obtain ⟨hk2,hn2⟩:=new_blk H.out 34 _ (HX4.out.trans hM.ext)
      obtain ⟨d0,d1,d2,d3,d4,d5,f0,f1,f2,f3,f4,f5,l0⟩:=box6f hk2
      have HM5:=Lib.hid (HM4.out.trans hM)
      have HN2:=Lib.hid hn2
      have HDD:=Lib.hid hd
      clear hnm hM hn2 hk2 hd
      go_wp2
      refine bodyPost_ret (v:=.tuple #[.agg #[.int .i64 a0,.string a1,.int .i64 a2,.int .i64 a3,.slice none 0 0,.int .i64 a5],v2]) (by simp [results,Tryz.results180,go_sem,d0,d1,d2,d3,d4,d5,l0]) rfl ?_
      rw [HQ.out,HD.out]
      exact ⟨a0,a1,a2,a3,a5,v2,s',rfl,HM5.out.set6 H.out (Nat.le_refl _) HN2.out _ _ _ _ _ _,HDD.out⟩
  · have hw:=word_no2 hp0 ⟨#[105,110,116]⟩ rfl ht
    have HD:Hid (declF E s=.bad 1 (pk E s.L).a):=by
      show _=_;unfold declF wordF;rw [if_neg ht];rfl
    generalize hpa:(pk E s.L).a=pa at *
    clear hpa h hp0 ht
    unfold z36 at hw
    unfold errV at hw
    go_enter Tryz.func180,Tryz.ntmps180
    go_wp2_with (go_at_call 77;refine hw.mono ?_;rintro e w2 ⟨g1,g2,rfl,h77⟩)
    refine h77.mono ?_
    rintro e w3 ⟨rfl,hm3⟩
    obtain ⟨hk2,hn2⟩:=new_blk H.out 34 _ hm3.ext
    obtain ⟨d0,d1,d2,d3,d4,d5,f0,f1,f2,f3,f4,f5,l0⟩:=box6f hk2
    have HM5:=Lib.hid (HM0.out.trans hm3)
    have HN2:=Lib.hid hn2
    clear hm3 h77 hw hn2 hk2
    go_wp2
    refine bodyPost_ret (v:=.tuple #[.agg #[.int .i64 0,.string ⟨#[]⟩,.int .i64 0,.int .i64 0,.slice none 0 0,.int .i64 0],.iface 97 (.agg #[.int .i64 1,.int .i64 pa])]) (by simp [results,Tryz.results180,go_sem,d0,d1,d2,d3,d4,d5,l0]) rfl ?_
    rw [HQ.out,HD.out]
    exact ⟨0,⟨#[]⟩,0,0,0,_,_,rfl,HM5.out.set6 H.out (Nat.le_refl _) HN2.out _ _ _ _ _ _,rfl⟩
end
section
open Go.RowKit
open Tk (T4 bstr)
open Tr (Nd Blk KidsAt)

/-- block, body, as the program has them -/
def blockF (E:Nat) (fam:Nat→F3) (n:Nat):F3:=fun s=>buildF (mk 11 [] 0 (pk E s.L).a) [bracedF E fam n] s
def bodyF (E:Nat) (bl ac:F3):F3:=fun s=>if (pk E s.L).t=[123] then bl s else buildF (mk 11 [] 0 (pk E s.L).a) [ac] s
theorem unless_call {B T E:Nat}{s:S3}{W0 W:World}(h:Now B T E s W0 W) (x:ByteArray) {en:List UInt8}(he:x.data.toList=en) (f:F3) (id:FuncId) (hen:Ent id) (hit:FnC B T E id f) (hno:FnC B T E 266 (nothingF E)) (hr:unlessF E en f s≠.out) :
    Calls Tryz.prog 284 #[.pointer (some ⟨B,0,none⟩),.string x,.func (.func id) #[.pointer (some ⟨B,0,none⟩)] #[]] W fun e w'=>∃ g1 g2 g3,e=.returned (.func (.func 290) #[] #[.pointer (some ⟨g1,0,none⟩),.pointer (some ⟨g2,0,none⟩),.pointer (some ⟨g3,0,none⟩)]) ∧
      Ext B W0 w'∧Calls Tryz.prog 290 #[.pointer (some ⟨g1,0,none⟩),.pointer (some ⟨g2,0,none⟩),.pointer (some ⟨g3,0,none⟩)] w' (Ends B T E W0 (unlessF E en f s)):=by
  refine (unless_now h x he f id hen hit hno).mono fun e w' ⟨g1,g2,g3,he,hn,hx,id,b,c,hv,_,hs⟩=>⟨g1,g2,g3,he,hn.1,?_⟩
  cases hv
  have:=hs w' s (Ext.refl _ _) hn.2 hr
  have e1:(#[] ++ #[Value.pointer (some ⟨g1,0,none⟩),Value.pointer (some ⟨g2,0,none⟩),Value.pointer (some ⟨g3,0,none⟩)]:Array Value) = #[Value.pointer (some ⟨g1,0,none⟩),Value.pointer (some ⟨g2,0,none⟩),Value.pointer (some ⟨g3,0,none⟩)]:=rfl
  rw [e1] at this
  exact this.mono fun e w' hd=>ends_of hd hr hn.1

set_option maxHeartbeats 16000000 in
set_option maxRecDepth 100000 in
theorem block_fn {B T E:Nat}{n:Nat}{fam:Nat→F3}(hit:∀ m,m<n→FnC B T E 248 (fam m)):FnC B T E 224 (blockF E fam n):=fun w s h hr=>by
  obtain ⟨r,hrr⟩ : ∃ r,r=blockF E fam n s:=⟨_,rfl⟩
  rw [← hrr] at hr ⊢
  obtain ⟨Q,hQ⟩ : ∃ Q:Ending→World→Prop,Q=Did B T E w r:=⟨_,rfl⟩
  rw [← hQ]
  have HQ:=Lib.hid hQ
  have HR:=Lib.hid hr
  have hB:=h.lt
  clear hQ hr
  obtain ⟨t,ht⟩ : ∃ t,t=pk E s.L:=⟨_,rfl⟩
  obtain ⟨x,hx⟩ : ∃ x,x=bstr t.t:=⟨_,rfl⟩
  have hpk:∀ W,Now B T E s w.drew W→Calls Tryz.prog 75 #[.pointer (some ⟨B,0,none⟩)] W fun e w'=>e=.returned (.agg #[.int .i64 t.k,.string x,.int .i64 t.v,.int .i64 t.a])∧Now B T E s w.drew w'∧Ext B W w':=fun W hW=>by
    have h:=peek_now hW
    rw [← ht,← hx] at h
    exact h
  change r=buildF (mk 11 [] 0 (pk E s.L).a) [bracedF E fam n] s at hrr
  rw [← ht] at hrr
  have Hrr:=Lib.hid hrr
  have HX0:Hid (Ext B w w.drew):=(Ext.refl _ _).drew
  have N0:Hid (Now B T E s w.drew w.drew):=Now.refl h.drew
  have hf:=fldT3
  clear hrr ht hx h
  go_enter Tryz.func224,Tryz.ntmps224
  go_wp2
  have HW0:Hid (∀ W,Now B T E s w.drew W→Calls Tryz.prog 75 #[.pointer (some ⟨B,0,none⟩)] W fun e w'=>e=.returned (.agg #[.int .i64 t.k,.string x,.int .i64 t.v,.int .i64 t.a])∧Now B T E s w.drew w'∧Ext B W w'):=hpk
  have HW1:Hid (∀ W,Now B T E s w.drew W→Calls Tryz.prog 247 #[.pointer (some ⟨B,0,none⟩),.func (.func 248) #[.pointer (some ⟨B,0,none⟩)] #[]] W fun e w'=>∃ g1 g2,e=.returned (.func (.func 262) #[] #[.pointer (some ⟨g1,0,none⟩),.pointer (some ⟨g2,0,none⟩)])∧Now B T E s w.drew w'∧Ext B W w'∧StepV B T E w' (.func (.func 262) #[] #[.pointer (some ⟨g1,0,none⟩),.pointer (some ⟨g2,0,none⟩)]) (bracedF E fam n)):=fun W hW=>braced_now hW fam 248 ent165 hit
  have HN:Hid (∀ W v0,Now B T E s w.drew W→StepV B T E W v0 (bracedF E fam n)→Calls Tryz.prog 70 #[.pointer (some ⟨B,2,none⟩),.agg #[.int .i64 11,.string ⟨#[]⟩,.int .i64 0,.int .i64 0,.slice none 0 0,.int .i64 t.a],.slice (some ⟨W.heap.size,0,none⟩) 1 1] (W.alloc (.cells #[v0] 70)) (Ends B T E w.drew r)):=fun W v0 hW h0=>by
      have h:=build_now hW [v0] [bracedF E fam n] rfl (by simp) (step1 (h0)) (mk 11 [] 0 t.a) rfl (by rw [← Hrr.out];exact HR.out) 70
      rw [← Hrr.out] at h
      exact h
  go_region_held3 (fun W=>True)
    (first | exact trivial)
    (first | (go_at_call 75;first | ((with_reducible refine (HW0.out _ N0.out).mono ?_);rintro e w0_ ⟨rfl,hn0,hx0⟩)) | (go_at_call 247;first | ((with_reducible refine (HW1.out _ hn0).mono ?_);rintro e w1_ ⟨q10,q11,rfl,hn1,hx1,hs1⟩)) | (go_at_call 70;refine (HN.out _ _ hn1 hs1).mono ?_;rintro e w9 ⟨v,rfl,hd,hx9⟩))
  all_goals
    have HD:=Lib.hid (did_ext hd HX0.out)
    clear hd hx9
    go_wp2
    (try go_ret)
    rw [HQ.out]
    exact HD.out

set_option maxHeartbeats 16000000 in
set_option maxRecDepth 100000 in
theorem body_fn {B T E:Nat}{bl ac:F3}(hbl:FnC B T E 224 bl) (hac:FnC B T E 248 ac):FnC B T E 281 (bodyF E bl ac):=fun w s h hr=>by
  obtain ⟨r,hrr⟩ : ∃ r,r=bodyF E bl ac s:=⟨_,rfl⟩
  rw [← hrr] at hr ⊢
  obtain ⟨Q,hQ⟩ : ∃ Q:Ending→World→Prop,Q=Did B T E w r:=⟨_,rfl⟩
  rw [← hQ]
  have HQ:=Lib.hid hQ
  have HR:=Lib.hid hr
  have hB:=h.lt
  clear hQ hr
  have Hrr:Hid (r=if (pk E s.L).t=[123] then bl s else buildF (mk 11 [] 0 (pk E s.L).a) [ac] s):=hrr
  have Hh:=Lib.hid h
  clear hrr
  by_cases ht:(pk E s.L).t=[123]
  · have htk:=sees_yes Hh.out ⟨#[123]⟩ rfl ht
    have HR2:Hid (r=bl s):=by have h:=Hrr.out;rw [if_pos ht] at h;exact h
    clear ht h
    go_enter Tryz.func281,Tryz.ntmps281
    go_wp2_with (go_at_call 181;refine htk.mono ?_;rintro e w1 ⟨rfl,hx1,hp1⟩)
    have hcall:=hbl w1 _ hp1 (by rw [← HR2.out];exact HR.out)
    rw [← HR2.out] at hcall
    have HX1:=Lib.hid hx1
    clear hx1 hp1 htk
    refine hcall.mono ?_
    intro e w2 hd
    obtain ⟨v,rfl,hd⟩:=did_ret hd HR.out
    have HD:=Lib.hid (did_ext hd HX1.out)
    clear hd hcall
    go_wp2
    (try go_ret)
    rw [HQ.out]
    exact HD.out
  · have htk:=sees_no Hh.out ⟨#[123]⟩ rfl ht
    have hr2:r=buildF (mk 11 [] 0 (pk E s.L).a) [ac] s:=by have h:=Hrr.out;rw [if_neg ht] at h;exact h
    clear ht h Hrr
    go_enter Tryz.func281,Tryz.ntmps281
    go_wp2_with (go_at_call 181;refine htk.mono ?_;rintro e w1 ⟨rfl,hx1,hp1⟩)
    obtain ⟨t,ht⟩ : ∃ t,t=pk E s.L:=⟨_,rfl⟩
    obtain ⟨x,hx⟩ : ∃ x,x=bstr t.t:=⟨_,rfl⟩
    have hpk:∀ W,Now B T E s w1.drew W→Calls Tryz.prog 75 #[.pointer (some ⟨B,0,none⟩)] W fun e w'=>e=.returned (.agg #[.int .i64 t.k,.string x,.int .i64 t.v,.int .i64 t.a])∧Now B T E s w1.drew w'∧Ext B W w':=fun W hW=>by
      have h:=peek_now hW
      rw [← ht,← hx] at h
      exact h
    rw [← ht] at hr2
    have Hrr:=Lib.hid hr2
    have HX0:Hid (Ext B w w1.drew):=hx1.drew
    have N0:Hid (Now B T E s w1.drew w1.drew):=Now.refl hp1.drew
    have hf:=fldT3
    clear hr2 ht hx htk hx1 hp1
    go_wp2
    have HW0:Hid (∀ W,Now B T E s w1.drew W→Calls Tryz.prog 75 #[.pointer (some ⟨B,0,none⟩)] W fun e w'=>e=.returned (.agg #[.int .i64 t.k,.string x,.int .i64 t.v,.int .i64 t.a])∧Now B T E s w1.drew w'∧Ext B W w'):=hpk
    have HN:Hid (∀ W,Now B T E s w1.drew W→Calls Tryz.prog 70 #[.pointer (some ⟨B,2,none⟩),.agg #[.int .i64 11,.string ⟨#[]⟩,.int .i64 0,.int .i64 0,.slice none 0 0,.int .i64 t.a],.slice (some ⟨W.heap.size,0,none⟩) 1 1] (W.alloc (.cells #[.func (.func 248) #[.pointer (some ⟨B,0,none⟩)] #[]] 70)) (Ends B T E w1.drew r)):=fun W hW=>by
        have h:=build_now hW [.func (.func 248) #[.pointer (some ⟨B,0,none⟩)] #[]] [ac] rfl (by simp) (step1 (stepFn hac ent165 W)) (mk 11 [] 0 t.a) rfl (by rw [← Hrr.out];exact HR.out) 70
        rw [← Hrr.out] at h
        exact h
    have HE:Hid (∀ W W1,Now B T E s w1.drew W→Now B T E s w1.drew W1→Ext B (W.alloc (.cells #[.func (.func 248) #[.pointer (some ⟨B,0,none⟩)] #[]] 70)) W1→Calls Tryz.prog 70 #[.pointer (some ⟨B,2,none⟩),.agg #[.int .i64 11,.string ⟨#[]⟩,.int .i64 0,.int .i64 0,.slice none 0 0,.int .i64 t.a],.slice (some ⟨W.heap.size,0,none⟩) 1 1] W1 (Ends B T E w1.drew r)):=fun W W1 hW hW1 hx=>by
        have h:=(build_any (cap:=1) hW1.2 ((steps_new hW [.func (.func 248) #[.pointer (some ⟨B,0,none⟩)] #[]] [ac] rfl (by simp) (step1 (stepFn hac ent165 W)) 70).ext hx) (mk 11 [] 0 t.a) rfl (by rw [← Hrr.out];exact HR.out)).mono fun e w9 hd=>ends_of hd (by rw [← Hrr.out];exact HR.out) hW1.1
        rw [← Hrr.out] at h
        exact h
    go_region_held3 (fun W=>True)
      (first | exact trivial)
      (first | (go_at_call 75;first | ((with_reducible refine (HW0.out _ N0.out).mono ?_);rintro e w0_ ⟨rfl,hn0,hx0⟩) | (refine (HW0.out _ (N0.out.alloc _)).mono ?_;rintro e w0_ ⟨rfl,hn0,hx0⟩)) | (go_at_call 70;first | ((with_reducible refine (HN.out _ hn0).mono ?_);rintro e w9 ⟨v,rfl,hd,hx9⟩) | (refine (HE.out _ _ N0.out hn0 hx0).mono ?_;rintro e w9 ⟨v,rfl,hd,hx9⟩)))
    all_goals
      have HD:=Lib.hid (did_ext hd HX0.out)
      clear hd hx9
      go_wp2
      (try go_ret)
      rw [HQ.out]
      exact HD.out

set_option maxHeartbeats 16000000 in
set_option maxRecDepth 100000 in
theorem start_fn {B T E:Nat}{ex:F3}(hlo:FnC B T E 263 (localF E ex)) (hef:FnC B T E 267 (effectF E ex)) (hno:FnC B T E 266 (nothingF E)):FnC B T E 283 (startF E ex):=fun w s h hr=>by
  obtain ⟨r,hrr⟩ : ∃ r,r=startF E ex s:=⟨_,rfl⟩
  rw [← hrr] at hr ⊢
  obtain ⟨Q,hQ⟩ : ∃ Q:Ending→World→Prop,Q=Did B T E w r:=⟨_,rfl⟩
  rw [← hQ]
  have HQ:=Lib.hid hQ
  have HR:=Lib.hid hr
  have hB:=h.lt
  clear hQ hr
  have Hrr:Hid (r=if (pk E s.L).t=[105,110,116] then localF E ex s else unlessF E [59] (effectF E ex) s):=hrr
  have Hh:=Lib.hid h
  clear hrr
  by_cases ht:(pk E s.L).t=[105,110,116]
  · have htk:=sees_yes Hh.out ⟨#[105,110,116]⟩ rfl ht
    have HR2:Hid (r=localF E ex s):=by have h:=Hrr.out;rw [if_pos ht] at h;exact h
    clear ht h
    go_enter Tryz.func283,Tryz.ntmps283
    go_wp2_with (go_at_call 181;refine htk.mono ?_;rintro e w1 ⟨rfl,hx1,hp1⟩)
    have hcall:=hlo w1 _ hp1 (by rw [← HR2.out];exact HR.out)
    rw [← HR2.out] at hcall
    have HX1:=Lib.hid hx1
    clear hx1 hp1 htk
    refine hcall.mono ?_
    intro e w2 hd
    obtain ⟨v,rfl,hd⟩:=did_ret hd HR.out
    have HD:=Lib.hid (did_ext hd HX1.out)
    clear hd hcall
    go_wp2
    (try go_ret)
    rw [HQ.out]
    exact HD.out
  · have htk:=sees_no Hh.out ⟨#[105,110,116]⟩ rfl ht
    have HR2:Hid (r=unlessF E [59] (effectF E ex) s):=by have h:=Hrr.out;rw [if_neg ht] at h;exact h
    clear ht h Hrr
    have HEf:=Lib.hid hef
    have HNo:=Lib.hid hno
    clear hef hno
    go_enter Tryz.func283,Tryz.ntmps283
    go_wp2_with (go_at_call 181;refine htk.mono ?_;rintro e w1 ⟨rfl,hx1,hp1⟩)
    have hun:=unless_call (Now.refl hp1) ⟨#[59]⟩ rfl (effectF E ex) 267 ent178 HEf.out HNo.out (by rw [← HR2.out];exact HR.out)
    rw [← HR2.out] at hun
    have HX1:=Lib.hid hx1
    clear hx1 hp1 htk
    go_wp2_with (go_at_call 284;refine hun.mono ?_;rintro e w5 ⟨g1,g2,g3,rfl,hx5,h200⟩)
    refine h200.mono ?_
    rintro e w6 ⟨v,rfl,hd,hx6⟩
    have HD:=Lib.hid (did_ext hd HX1.out)
    clear hx6 hd h200 hx5 hun
    go_wp2
    (try go_ret)
    rw [HQ.out]
    exact HD.out
end
section
open Go.RowKit
open Tk (T4 bstr)
open Tr (Nd Blk KidsAt)

theorem node_k {a0 a2 a3 a5:Int}{a1:ByteArray}{x:Mn}(h:(.agg #[.int .i64 a0,.string a1,.int .i64 a2,.int .i64 a3,.slice none 0 0,.int .i64 a5]:Value)=nodeV x) (hc:x.c=[]) (k:Int) :
    nodeV { x with k:=k }=.agg #[.int .i64 k,.string a1,.int .i64 a2,.int .i64 a3,.slice none 0 0,.int .i64 a5]:=by
  obtain ⟨xk,xt,xn,xz,xc,xa⟩:=x
  subst hc
  unfold nodeV at h ⊢
  simp only [Value.agg.injEq,Array.mk.injEq,List.cons.injEq,Value.int.injEq,Value.string.injEq,true_and,and_true] at h
  obtain ⟨_,h1,h2,h3,h4⟩:=h
  rw [h1,h2,h3,h4]

set_option maxHeartbeats 16000000 in
set_option maxRecDepth 100000 in
theorem local_fn {B T E:Nat}{ex:F3}(hin:FnC B T E 183 (initialF E ex)):FnC B T E 263 (localF E ex):=fun w s h hr=>by
  obtain ⟨r,hrr⟩ : ∃ r,r=localF E ex s:=⟨_,rfl⟩
  rw [← hrr] at hr ⊢
  obtain ⟨Q,hQ⟩ : ∃ Q:Ending→World→Prop,Q=Did B T E w r:=⟨_,rfl⟩
  rw [← hQ]
  have HQ:=Lib.hid hQ
  have HR:=Lib.hid hr
  have hB:=h.lt
  clear hQ hr
  have Hrr0:Hid (r=(declF E s).bind fun s1 x=>buildF { x with k:=12 } [initialF E ex] s1):=hrr
  have hP0:=h
  have hdc:=declared_any h
  clear hrr h
  go_enter Tryz.func263,Tryz.ntmps263
  go_wp2_with (go_at_call 180;refine hdc.mono ?_)
  rintro e w1 ⟨a0,a1,a2,a3,a5,v2,s1,rfl,hM,hd⟩
  have HM:=Lib.hid hM
  have HX1:=Lib.hid hM.ext
  have HP0:=Lib.hid hP0
  clear hM hdc hP0
  cases hf:declF E s with
  | out=>rw [hf] at hd;exact hd.elim
  | bad c1 b1 =>
    rw [hf] at hd
    obtain rfl:v2=errV c1 b1:=hd
    have HRb:Hid (r=.bad c1 b1):=by have h:=Hrr0.out;rw [hf] at h;exact h
    clear hf
    unfold errV
    go_wp2
    (try go_ret)
    rw [HQ.out,HRb.out]
    exact ⟨rfl,HX1.out.alloc hB _⟩
  | ok s2 x =>
    rw [hf] at hd
    obtain ⟨hv,rfl,rfl,hc⟩:=hd
    have HA:=Lib.hid (node_k hv hc 12)
    have HC:=Lib.hid hc
    have Hrr:Hid (r=buildF { x with k:=12 } [initialF E ex] s1):=by have h:=Hrr0.out;rw [hf] at h;exact h
    have hp1:=HM.out.of HP0.out
    have HNd:=Lib.hid (node_far (t:=34) (cs:=#[.int .i64 12,.string a1,.int .i64 a2,.int .i64 a3,.slice none 0 0,.int .i64 a5]) hp1)
    have HX6:=Lib.hid (HX1.out.alloc hB (.cells #[.int .i64 12,.string a1,.int .i64 a2,.int .i64 a3,.slice none 0 0,.int .i64 a5] 34))
    have HP6:=Lib.hid (hp1.alloc (.cells #[.int .i64 12,.string a1,.int .i64 a2,.int .i64 a3,.slice none 0 0,.int .i64 a5] 34))
    clear hv hc hf hp1 HM HX1 HP0 Hrr0
    go_wp2
    generalize w1.alloc (.cells #[.int .i64 12,.string a1,.int .i64 a2,.int .i64 a3,.slice none 0 0,.int .i64 a5] 34)=W6 at *
    generalize w1.heap.size=g at *
    have HX0:Hid (Ext B w W6.drew):=HX6.out.drew
    have N0:Hid (Now B T E s1 W6.drew W6.drew):=Now.refl HP6.out.drew
    have S1:Hid (∀ W,Ext B W6.drew W→W.cell? ⟨g,0,none⟩=some (.int .i64 12)∧W.cell? ⟨g,1,none⟩=some (.string a1)∧W.cell? ⟨g,2,none⟩=some (.int .i64 a2)∧W.cell? ⟨g,3,none⟩=some (.int .i64 a3)∧W.cell? ⟨g,4,none⟩=some (.slice none 0 0)∧W.cell? ⟨g,5,none⟩=some (.int .i64 a5)):=fun W hW=>(box6 (HNd.out W ((Ext.refl B W6).drew.trans hW))).1
    have S0:=Lib.hid (S1.out _ (Ext.refl _ _))
    clear HNd HX6 HP6
    have HN:Hid (∀ W,Now B T E s1 W6.drew W→Calls Tryz.prog 70 #[.pointer (some ⟨B,2,none⟩),.agg #[.int .i64 12,.string a1,.int .i64 a2,.int .i64 a3,.slice none 0 0,.int .i64 a5],.slice (some ⟨W.heap.size,0,none⟩) 1 1] (W.alloc (.cells #[.func (.func 183) #[.pointer (some ⟨B,0,none⟩)] #[]] 70)) (Ends B T E W6.drew r)):=fun W hW=>by
        have h:=build_now hW [.func (.func 183) #[.pointer (some ⟨B,0,none⟩)] #[]] [initialF E ex] rfl (by simp) (step1 (stepFn hin ent115 W)) ({ x with k:=12 }) HC.out (by rw [← Hrr.out];exact HR.out) 70
        rw [← Hrr.out] at h
        rw [HA.out] at h
        exact h
    go_region_held3 (fun W=>W.cell? ⟨g,0,none⟩=some (.int .i64 12)∧W.cell? ⟨g,1,none⟩=some (.string a1)∧W.cell? ⟨g,2,none⟩=some (.int .i64 a2)∧W.cell? ⟨g,3,none⟩=some (.int .i64 a3)∧W.cell? ⟨g,4,none⟩=some (.slice none 0 0)∧W.cell? ⟨g,5,none⟩=some (.int .i64 a5))
      (first | exact S0.out | exact S1.out _ (N0.out.alloc _).1 | exact S1.out _ hx9)
      (first | (go_at_call 70;refine (HN.out _  N0.out).mono ?_;rintro e w9 ⟨v,rfl,hd,hx9⟩))
    all_goals
      have HD:=Lib.hid (did_ext hd HX0.out)
      clear hd hx9
      go_wp2
      (try go_ret)
      rw [HQ.out]
      exact HD.out

set_option maxHeartbeats 16000000 in
set_option maxRecDepth 100000 in
theorem param_fn {B T E:Nat}:FnC B T E 223 (paramF E):=fun w s h hr=>by
  obtain ⟨r,hrr⟩ : ∃ r,r=paramF E s:=⟨_,rfl⟩
  rw [← hrr] at hr ⊢
  obtain ⟨Q,hQ⟩ : ∃ Q:Ending→World→Prop,Q=Did B T E w r:=⟨_,rfl⟩
  rw [← hQ]
  have HQ:=Lib.hid hQ
  have HR:=Lib.hid hr
  have hB:=h.lt
  clear hQ hr
  have Hrr0:Hid (r=(declF E s).bind fun s1 x=>buildF { x with k:=4 } [] s1):=hrr
  have hP0:=h
  have hdc:=declared_any h
  clear hrr h
  go_enter Tryz.func223,Tryz.ntmps223
  go_wp2_with (go_at_call 180;refine hdc.mono ?_)
  rintro e w1 ⟨a0,a1,a2,a3,a5,v2,s1,rfl,hM,hd⟩
  have HM:=Lib.hid hM
  have HX1:=Lib.hid hM.ext
  have HP0:=Lib.hid hP0
  clear hM hdc hP0
  cases hf:declF E s with
  | out=>rw [hf] at hd;exact hd.elim
  | bad c1 b1 =>
    rw [hf] at hd
    obtain rfl:v2=errV c1 b1:=hd
    have HRb:Hid (r=.bad c1 b1):=by have h:=Hrr0.out;rw [hf] at h;exact h
    clear hf
    unfold errV
    go_wp2
    (try go_ret)
    rw [HQ.out,HRb.out]
    exact ⟨rfl,HX1.out.alloc hB _⟩
  | ok s2 x =>
    rw [hf] at hd
    obtain ⟨hv,rfl,rfl,hc⟩:=hd
    have HA:=Lib.hid (node_k hv hc 4)
    have HC:=Lib.hid hc
    have Hrr:Hid (r=buildF { x with k:=4 } [] s1):=by have h:=Hrr0.out;rw [hf] at h;exact h
    have hp1:=HM.out.of HP0.out
    have HNd:=Lib.hid (node_far (t:=34) (cs:=#[.int .i64 4,.string a1,.int .i64 a2,.int .i64 a3,.slice none 0 0,.int .i64 a5]) hp1)
    have HX6:=Lib.hid (HX1.out.alloc hB (.cells #[.int .i64 4,.string a1,.int .i64 a2,.int .i64 a3,.slice none 0 0,.int .i64 a5] 34))
    have HP6:=Lib.hid (hp1.alloc (.cells #[.int .i64 4,.string a1,.int .i64 a2,.int .i64 a3,.slice none 0 0,.int .i64 a5] 34))
    clear hv hc hf hp1 HM HX1 HP0 Hrr0
    go_wp2
    generalize w1.alloc (.cells #[.int .i64 4,.string a1,.int .i64 a2,.int .i64 a3,.slice none 0 0,.int .i64 a5] 34)=W6 at *
    generalize w1.heap.size=g at *
    have HX0:Hid (Ext B w W6.drew):=HX6.out.drew
    have N0:Hid (Now B T E s1 W6.drew W6.drew):=Now.refl HP6.out.drew
    have S1:Hid (∀ W,Ext B W6.drew W→W.cell? ⟨g,0,none⟩=some (.int .i64 4)∧W.cell? ⟨g,1,none⟩=some (.string a1)∧W.cell? ⟨g,2,none⟩=some (.int .i64 a2)∧W.cell? ⟨g,3,none⟩=some (.int .i64 a3)∧W.cell? ⟨g,4,none⟩=some (.slice none 0 0)∧W.cell? ⟨g,5,none⟩=some (.int .i64 a5)):=fun W hW=>(box6 (HNd.out W ((Ext.refl B W6).drew.trans hW))).1
    have S0:=Lib.hid (S1.out _ (Ext.refl _ _))
    clear HNd HX6 HP6
    have HN:Hid (∀ W,Now B T E s1 W6.drew W→Calls Tryz.prog 70 #[.pointer (some ⟨B,2,none⟩),.agg #[.int .i64 4,.string a1,.int .i64 a2,.int .i64 a3,.slice none 0 0,.int .i64 a5],.slice none 0 0] W (Ends B T E W6.drew r)):=fun W hW=>by
        have h:=(build_nil hW.2 ({ x with k:=4 }) HC.out (by rw [← Hrr.out];exact HR.out)).mono fun e w1 he=>(show Ends B T E W6.drew _ e w1 from by obtain ⟨v,rfl,hd,hx⟩:=he;exact ⟨v,rfl,did_ext hd hW.1,hW.1.trans hx⟩)
        rw [← Hrr.out] at h
        rw [HA.out] at h
        exact h
    go_region_held3 (fun W=>W.cell? ⟨g,0,none⟩=some (.int .i64 4)∧W.cell? ⟨g,1,none⟩=some (.string a1)∧W.cell? ⟨g,2,none⟩=some (.int .i64 a2)∧W.cell? ⟨g,3,none⟩=some (.int .i64 a3)∧W.cell? ⟨g,4,none⟩=some (.slice none 0 0)∧W.cell? ⟨g,5,none⟩=some (.int .i64 a5))
      (first | exact S0.out | exact S1.out _ (N0.out.alloc _).1 | exact S1.out _ hx9)
      (first | (go_at_call 70;refine (HN.out _  N0.out).mono ?_;rintro e w9 ⟨v,rfl,hd,hx9⟩))
    all_goals
      have HD:=Lib.hid (did_ext hd HX0.out)
      clear hd hx9
      go_wp2
      (try go_ret)
      rw [HQ.out]
      exact HD.out
end
end Go.Proofs.YtdjpopebeenlmaaGreatDoor
