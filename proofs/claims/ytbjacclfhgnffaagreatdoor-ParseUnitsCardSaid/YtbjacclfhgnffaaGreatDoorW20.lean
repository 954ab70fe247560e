/-
  Joined texts of this claim: Ui, Ul, Ulb, Uo, Uq.
-/
import Derived.Test.YtbjacclfhgnffaaGreatDoorW00
import Derived.Test.YtbjacclfhgnffaaGreatDoorW19
set_option maxHeartbeats 40000000
set_option maxRecDepth 100000
set_option linter.unusedVariables false
set_option linter.unusedSimpArgs false
namespace Go.Proofs.YtbjacclfhgnffaaGreatDoor
section
open Go.RowKit
open Tk (T4 bstr)
open Tr (Nd Blk KidsAt)
theorem node_k {a0 a2 a3 a5:Int}{a1:ByteArray}{x:Mn}(h:(.agg #[.int .i64 a0,.string a1,.int .i64 a2,.int .i64 a3,.slice none 0 0,.int .i64 a5]:Value)=nodeV x) (hc:x.c=[]) (k:Int) :
  nodeV { x with k:=k }=.agg #[.int .i64 k,.string a1,.int .i64 a2,.int .i64 a3,.slice none 0 0,.int .i64 a5]:=by
 obtain ⟨xk,xt,xn,xz,xc,xa⟩:=x
 subst hc
 unfold nodeV at h ⊢
 simp only [Value.agg.injEq,Array.mk.injEq,List.cons.injEq,Value.int.injEq,Value.string.injEq,true_and,and_true] at h
 obtain ⟨_,h1,h2,h3,h4⟩:=h
 rw [h1,h2,h3,h4]
theorem local_fn {B T E:Nat}{ex:F3}(hin:FnC B T E 172 (initialF E ex)):FnC B T E 243 (localF E ex):=fun w s h hr=>by
 obtain ⟨r,hrr⟩:=exE (localF E ex s)
 rw [← hrr] at hr ⊢
 obtain ⟨Q,hQ⟩:=exE (Did B T E w r)
 rw [← hQ]
 have HQ:=Lib.hid hQ
 have HR:=Lib.hid hr
 have hB:=h.lt
 clear hQ hr
 have Hrr0:Hid (r=(declF E s).bind fun s1 x=>buildF { x with k:=12 } [initialF E ex] s1):=hrr
 have hP0:=h
 have hdc:=declared_any h
 clear hrr h
 go_enter Tryz.func243,Tryz.ntmps243
 go_wp2_with (go_at_call 170;refine hdc.mono ?_)
 rintro e w1 ⟨a0,a1,a2,a3,a5,v2,s1,rfl,hM,hd⟩
 have HM:=Lib.hid hM
 have HX1:=Lib.hid hM.ext
 have HP0:=Lib.hid hP0
 clear hM hdc hP0
 cases hf:declF E s with
 | out=>rw [hf] at hd;exact hd.elim
 | bad c1 b1 =>
  rw [hf] at hd
  obtain rfl:v2=errV c1 b1:=hd
  have HRb:Hid (r=.bad c1 b1):=by have h:=Hrr0.out;rw [hf] at h;exact h
  clear hf
  unfold errV
  go_wp2
  (try go_ret)
  rw [HQ.out,HRb.out]
  exact ⟨rfl,HX1.out.alloc hB _⟩
 | ok s2 x =>
  rw [hf] at hd
  obtain ⟨hv,rfl,rfl,hc⟩:=hd
  have HA:=Lib.hid (node_k hv hc 12)
  have HC:=Lib.hid hc
  have Hrr:Hid (r=buildF { x with k:=12 } [initialF E ex] s1):=by have h:=Hrr0.out;rw [hf] at h;exact h
  have hp1:=HM.out.of HP0.out
  have HNd:=Lib.hid (node_far (t:=36) (cs:=#[.int .i64 12,.string a1,.int .i64 a2,.int .i64 a3,.slice none 0 0,.int .i64 a5]) hp1)
  have HX6:=Lib.hid (HX1.out.alloc hB (.cells #[.int .i64 12,.string a1,.int .i64 a2,.int .i64 a3,.slice none 0 0,.int .i64 a5] 36))
  have HP6:=Lib.hid (hp1.alloc (.cells #[.int .i64 12,.string a1,.int .i64 a2,.int .i64 a3,.slice none 0 0,.int .i64 a5] 36))
  clear hv hc hf hp1 HM HX1 HP0 Hrr0
  go_wp2
  generalize w1.alloc (.cells #[.int .i64 12,.string a1,.int .i64 a2,.int .i64 a3,.slice none 0 0,.int .i64 a5] 36)=W6 at *
  generalize w1.heap.size=g at *
  have HX0:Hid (Ext B w W6.drew):=HX6.out.drew
  have N0:Hid (Now B T E s1 W6.drew W6.drew):=Now.refl HP6.out.drew
  have S1:Hid (∀ W,Ext B W6.drew W→W.cell? ⟨g,0,none⟩=some (.int .i64 12)∧W.cell? ⟨g,1,none⟩=some (.string a1)∧W.cell? ⟨g,2,none⟩=some (.int .i64 a2)∧W.cell? ⟨g,3,none⟩=some (.int .i64 a3)∧W.cell? ⟨g,4,none⟩=some (.slice none 0 0)∧W.cell? ⟨g,5,none⟩=some (.int .i64 a5)):=fun W hW=>(box6 (HNd.out W ((Ext.refl B W6).drew.trans hW))).1
  have S0:=Lib.hid (S1.out _ (Ext.refl _ _))
  clear HNd HX6 HP6
  have HN:Hid (∀ W,Now B T E s1 W6.drew W→Calls Tryz.prog 76 #[.pointer (some ⟨B,2,none⟩),.agg #[.int .i64 12,.string a1,.int .i64 a2,.int .i64 a3,.slice none 0 0,.int .i64 a5],.slice (some ⟨W.heap.size,0,none⟩) 1 1] (W.alloc (.cells #[.func (.func 172) #[.pointer (some ⟨B,0,none⟩)] #[]] 57)) (Ends B T E W6.drew r)):=fun W hW=>by
    have h:=build_now hW [.func (.func 172) #[.pointer (some ⟨B,0,none⟩)] #[]] [initialF E ex] rfl (by simp) (step1 (stepFn hin ent115 W)) ({ x with k:=12 }) HC.out (by rw [← Hrr.out];exact HR.out) 57
    rw [← Hrr.out] at h
    rw [HA.out] at h
    exact h
  go_region_held3 (fun W=>W.cell? ⟨g,0,none⟩=some (.int .i64 12)∧W.cell? ⟨g,1,none⟩=some (.string a1)∧W.cell? ⟨g,2,none⟩=some (.int .i64 a2)∧W.cell? ⟨g,3,none⟩=some (.int .i64 a3)∧W.cell? ⟨g,4,none⟩=some (.slice none 0 0)∧W.cell? ⟨g,5,none⟩=some (.int .i64 a5))
   (first | exact S0.out | exact S1.out _ (N0.out.alloc _).1 | exact S1.out _ hx9)
   (first | (go_at_call 76;refine (HN.out _  N0.out).mono ?_;rintro e w9 ⟨v,rfl,hd,hx9⟩))
  all_goals
   have HD:=Lib.hid (did_ext hd HX0.out)
   clear hd hx9
   go_wp2
   (try go_ret)
   rw [HQ.out]
   exact HD.out
theorem param_fn {B T E:Nat}:FnC B T E 205 (paramF E):=fun w s h hr=>by
 obtain ⟨r,hrr⟩:=exE (paramF E s)
 rw [← hrr] at hr ⊢
 obtain ⟨Q,hQ⟩:=exE (Did B T E w r)
 rw [← hQ]
 have HQ:=Lib.hid hQ
 have HR:=Lib.hid hr
 have hB:=h.lt
 clear hQ hr
 have Hrr0:Hid (r=(declF E s).bind fun s1 x=>buildF { x with k:=4 } [] s1):=hrr
 have hP0:=h
 have hdc:=declared_any h
 clear hrr h
 go_enter Tryz.func205,Tryz.ntmps205
 go_wp2_with (go_at_call 170;refine hdc.mono ?_)
 rintro e w1 ⟨a0,a1,a2,a3,a5,v2,s1,rfl,hM,hd⟩
 have HM:=Lib.hid hM
 have HX1:=Lib.hid hM.ext
 have HP0:=Lib.hid hP0
 clear hM hdc hP0
 cases hf:declF E s with
 | out=>rw [hf] at hd;exact hd.elim
 | bad c1 b1 =>
  rw [hf] at hd
  obtain rfl:v2=errV c1 b1:=hd
  have HRb:Hid (r=.bad c1 b1):=by have h:=Hrr0.out;rw [hf] at h;exact h
  clear hf
  unfold errV
  go_wp2
  (try go_ret)
  rw [HQ.out,HRb.out]
  exact ⟨rfl,HX1.out.alloc hB _⟩
 | ok s2 x =>
  rw [hf] at hd
  obtain ⟨hv,rfl,rfl,hc⟩:=hd
  have HA:=Lib.hid (node_k hv hc 4)
  have HC:=Lib.hid hc
  have Hrr:Hid (r=buildF { x with k:=4 } [] s1):=by have h:=Hrr0.out;rw [hf] at h;exact h
  have hp1:=HM.out.of HP0.out
  have HNd:=Lib.hid (node_far (t:=36) (cs:=#[.int .i64 4,.string a1,.int .i64 a2,.int .i64 a3,.slice none 0 0,.int .i64 a5]) hp1)
  have HX6:=Lib.hid (HX1.out.alloc hB (.cells #[.int .i64 4,.string a1,.int .i64 a2,.int .i64 a3,.slice none 0 0,.int .i64 a5] 36))
  have HP6:=Lib.hid (hp1.alloc (.cells #[.int .i64 4,.string a1,.int .i64 a2,.int .i64 a3,.slice none 0 0,.int .i64 a5] 36))
  clear hv hc hf hp1 HM HX1 HP0 Hrr0
  go_wp2
  generalize w1.alloc (.cells #[.int .i64 4,.string a1,.int .i64 a2,.int .i64 a3,.slice none 0 0,.int .i64 a5] 36)=W6 at *
  generalize w1.heap.size=g at *
  have HX0:Hid (Ext B w W6.drew):=HX6.out.drew
  have N0:Hid (Now B T E s1 W6.drew W6.drew):=Now.refl HP6.out.drew
  have S1:Hid (∀ W,Ext B W6.drew W→W.cell? ⟨g,0,none⟩=some (.int .i64 4)∧W.cell? ⟨g,1,none⟩=some (.string a1)∧W.cell? ⟨g,2,none⟩=some (.int .i64 a2)∧W.cell? ⟨g,3,none⟩=some (.int .i64 a3)∧W.cell? ⟨g,4,none⟩=some (.slice none 0 0)∧W.cell? ⟨g,5,none⟩=some (.int .i64 a5)):=fun W hW=>(box6 (HNd.out W ((Ext.refl B W6).drew.trans hW))).1
  have S0:=Lib.hid (S1.out _ (Ext.refl _ _))
  clear HNd HX6 HP6
  have HN:Hid (∀ W,Now B T E s1 W6.drew W→Calls Tryz.prog 76 #[.pointer (some ⟨B,2,none⟩),.agg #[.int .i64 4,.string a1,.int .i64 a2,.int .i64 a3,.slice none 0 0,.int .i64 a5],.slice none 0 0] W (Ends B T E W6.drew r)):=fun W hW=>by
    have h:=(build_nil hW.2 ({ x with k:=4 }) HC.out (by rw [← Hrr.out];exact HR.out)).mono fun e w1 he=>(show Ends B T E W6.drew _ e w1 from by obtain ⟨v,rfl,hd,hx⟩:=he;exact ⟨v,rfl,did_ext hd hW.1,hW.1.trans hx⟩)
    rw [← Hrr.out] at h
    rw [HA.out] at h
    exact h
  go_region_held3 (fun W=>W.cell? ⟨g,0,none⟩=some (.int .i64 4)∧W.cell? ⟨g,1,none⟩=some (.string a1)∧W.cell? ⟨g,2,none⟩=some (.int .i64 a2)∧W.cell? ⟨g,3,none⟩=some (.int .i64 a3)∧W.cell? ⟨g,4,none⟩=some (.slice none 0 0)∧W.cell? ⟨g,5,none⟩=some (.int .i64 a5))
   (first | exact S0.out | exact S1.out _ (N0.out.alloc _).1 | exact S1.out _ hx9)
   (first | (go_at_call 76;refine (HN.out _  N0.out).mono ?_;rintro e w9 ⟨v,rfl,hd,hx9⟩))
  all_goals
   have HD:=Lib.hid (did_ext hd HX0.out)
   clear hd hx9
   go_wp2
   (try go_ret)
   rw [HQ.out]
   exact HD.out
end
section
open Go.RowKit
open Tk (T4 bstr)
open Tr (Nd Blk KidsAt)
theorem step8 {B T E:Nat}{W:World}{v1 v2 v3 v4 v5 v6 v7 v8:Value}{f1 f2 f3 f4 f5 f6 f7 f8:F3}(h1:StepV B T E W v1 f1) (h2:StepV B T E W v2 f2) (h3:StepV B T E W v3 f3) (h4:StepV B T E W v4 f4) (h5:StepV B T E W v5 f5) (h6:StepV B T E W v6 f6) (h7:StepV B T E W v7 f7) (h8:StepV B T E W v8 f8):∀ j,(a:j < [v1,v2,v3,v4,v5,v6,v7,v8].length)→(b:j < [f1,f2,f3,f4,f5,f6,f7,f8].length)→StepV B T E W [v1,v2,v3,v4,v5,v6,v7,v8][j] [f1,f2,f3,f4,f5,f6,f7,f8][j]:=fun j a b=>by
 match j,a,b with
 | 0,_,_=>exact h1
 | 1,_,_=>exact h2
 | 2,_,_=>exact h3
 | 3,_,_=>exact h4
 | 4,_,_=>exact h5
 | 5,_,_=>exact h6
 | 6,_,_=>exact h7
 | 7,_,_=>exact h8
def elseF (E:Nat) (bo:F3):F3:=fun s=>if (pk E s.L).t=[101,108,115,101] then bo { s with L:=s.L.tail } else .ok s
def compF (E:Nat) (bo ex:F3) (fam:Nat→F3) (n:Nat):F3:=fun s =>
 if (pk E s.L).t=[105,102] then buildF (mk 14 [] 0 (pk E s.L).a) [conditionF E ex,bo,elseF E bo] { s with L:=s.L.tail }
 else if (pk E s.L).t=[119,104,105,108,101] then buildF (mk 15 [] 0 (pk E s.L).a) [conditionF E ex,bo] { s with L:=s.L.tail }
 else if (pk E s.L).t=[100,111] then buildF (mk 16 [] 0 (pk E s.L).a) [bo,wordF E [119,104,105,108,101],conditionF E ex,wordF E [59]] { s with L:=s.L.tail }
 else if (pk E s.L).t=[102,111,114] then buildF (mk 17 [] 0 (pk E s.L).a) [wordF E [40],startF E ex,wordF E [59],unlessF E [59] ex,wordF E [59],unlessF E [41] (effectF E ex),wordF E [41],bo] { s with L:=s.L.tail }
 else buildF (mk 18 [] 0 (pk E s.L).a) [conditionF E ex,bracedF E fam n] { s with L:=s.L.tail }
theorem comp_if {B T E:Nat}{bo ex:F3}(hco:FnC B T E 261 (conditionF E ex)) (hbo:FnC B T E 262 bo) (hel:FnC B T E 263 (elseF E bo)) {w:World}{s:S3}(h:Ps B T E w s) (ht:(pk E s.L).t=[105,102]) (hr:buildF (mk 14 [] 0 (pk E s.L).a) [conditionF E ex,bo,elseF E bo] { s with L:=s.L.tail }≠.out):Calls Tryz.prog 244 #[.pointer (some ⟨B,0,none⟩)] w (Did B T E w (buildF (mk 14 [] 0 (pk E s.L).a) [conditionF E ex,bo,elseF E bo] { s with L:=s.L.tail })):=by
 obtain ⟨r,hrr⟩:=exE (buildF (mk 14 [] 0 (pk E s.L).a) [conditionF E ex,bo,elseF E bo] { s with L:=s.L.tail })
 rw [← hrr] at hr ⊢
 obtain ⟨Q,hQ⟩:=exE (Did B T E w r)
 rw [← hQ]
 have HQ:=Lib.hid hQ
 have HR:=Lib.hid hr
 have hB:=h.lt
 clear hQ hr
 have HP:=Lib.hid h
 have hpk:=take_any h
 unfold tokV at hpk
 obtain ⟨t,ht'⟩:=exE (pk E s.L)
 obtain ⟨x,hxx⟩:=exE (bstr t.t)
 rw [← ht',← hxx] at hpk
 rw [← ht'] at ht hrr
 have q0:=txt_yes (l:=[105,102]) hxx ht
 have Hrr:Hid (r=_):=hrr
 clear ht ht' hxx hrr h
 go_enter Tryz.func244,Tryz.ntmps244
 go_wp2_with (go_at_call 106;refine hpk.mono ?_;rintro e w1 ⟨rfl,hx1,hp1⟩)
 have hp2:=hp1.alloc (.cells #[.int .i64 t.k,.string x,.int .i64 t.v,.int .i64 t.a] 82)
 have hB2:=hp2.lt
 have hx2:=hx1.alloc hB (.cells #[.int .i64 t.k,.string x,.int .i64 t.v,.int .i64 t.a] 82)
 have hnd:=node_far (t:=36) (cs:=#[.int .i64 14,.string ⟨#[]⟩,.int .i64 0,.int .i64 0,.slice none 0 0,.int .i64 t.a]) hp2
 rw [World.size_alloc] at hnd
 have HNd:=Lib.hid hnd
 have HX6:=Lib.hid (hx2.alloc hB (.cells #[.int .i64 14,.string ⟨#[]⟩,.int .i64 0,.int .i64 0,.slice none 0 0,.int .i64 t.a] 36))
 have HP6:=Lib.hid (hp2.alloc (.cells #[.int .i64 14,.string ⟨#[]⟩,.int .i64 0,.int .i64 0,.slice none 0 0,.int .i64 t.a] 36))
 clear hp1 hx1 hp2 hx2 hpk HP hnd
 generalize (w1.alloc (.cells #[.int .i64 t.k,.string x,.int .i64 t.v,.int .i64 t.a] 82)).alloc (.cells #[.int .i64 14,.string ⟨#[]⟩,.int .i64 0,.int .i64 0,.slice none 0 0,.int .i64 t.a] 36)=W6 at *
 generalize w1.heap.size+1=g5 at *
 have HX0:Hid (Ext B w W6.drew):=HX6.out.drew
 have N0:Hid (Now B T E { s with L:=s.L.tail } W6.drew W6.drew):=Now.refl HP6.out.drew
 have S1:Hid (∀ W,Ext B W6.drew W→W.cell? ⟨g5,0,none⟩=some (.int .i64 14)∧W.cell? ⟨g5,1,none⟩=some (.string ⟨#[]⟩)∧W.cell? ⟨g5,2,none⟩=some (.int .i64 0)∧W.cell? ⟨g5,3,none⟩=some (.int .i64 0)∧W.cell? ⟨g5,4,none⟩=some (.slice none 0 0)∧W.cell? ⟨g5,5,none⟩=some (.int .i64 t.a)):=fun W hW=>(box6 (HNd.out W ((Ext.refl B W6).drew.trans hW))).1
 have S0:=Lib.hid (S1.out _ (Ext.refl _ _))
 clear HNd HX6 HP6
 go_wp2
 have HN:Hid (∀ W,Now B T E { s with L:=s.L.tail } W6.drew W→Calls Tryz.prog 76 #[.pointer (some ⟨B,2,none⟩),.agg #[.int .i64 14,.string ⟨#[]⟩,.int .i64 0,.int .i64 0,.slice none 0 0,.int .i64 t.a],.slice (some ⟨W.heap.size,0,none⟩) 3 3] (W.alloc (.cells #[.func (.func 261) #[.pointer (some ⟨B,0,none⟩)] #[],.func (.func 262) #[.pointer (some ⟨B,0,none⟩)] #[],.func (.func 263) #[.pointer (some ⟨B,0,none⟩)] #[]] 57)) (Ends B T E W6.drew r)):=fun W hW=>by
   have h:=build_now hW [.func (.func 261) #[.pointer (some ⟨B,0,none⟩)] #[],.func (.func 262) #[.pointer (some ⟨B,0,none⟩)] #[],.func (.func 263) #[.pointer (some ⟨B,0,none⟩)] #[]] [conditionF E ex,bo,elseF E bo] rfl (by simp) (step3 (stepFn hco ent188 W) (stepFn hbo ent189 W) (stepFn hel ent190 W)) (mk 14 [] 0 t.a) rfl (by rw [← Hrr.out];exact HR.out) 57
   rw [← Hrr.out] at h
   exact h
 go_region_held3 (fun W=>W.cell? ⟨g5,0,none⟩=some (.int .i64 14)∧W.cell? ⟨g5,1,none⟩=some (.string ⟨#[]⟩)∧W.cell? ⟨g5,2,none⟩=some (.int .i64 0)∧W.cell? ⟨g5,3,none⟩=some (.int .i64 0)∧W.cell? ⟨g5,4,none⟩=some (.slice none 0 0)∧W.cell? ⟨g5,5,none⟩=some (.int .i64 t.a))
  (first | exact S0.out | exact S1.out _ (N0.out.alloc _).1 | exact S1.out _ hx9)
  (first | (go_at_call 76;refine (HN.out _  N0.out).mono ?_;rintro e w9 ⟨v,rfl,hd,hx9⟩))
 all_goals
  have HD:=Lib.hid (did_ext hd HX0.out)
  clear hd hx9
  go_wp2
  (try go_ret)
  rw [HQ.out]
  exact HD.out
theorem comp_while {B T E:Nat}{bo ex:F3}(hco:FnC B T E 261 (conditionF E ex)) (hbo:FnC B T E 262 bo) {w:World}{s:S3}(h:Ps B T E w s) (ht:(pk E s.L).t=[119,104,105,108,101]) (hr:buildF (mk 15 [] 0 (pk E s.L).a) [conditionF E ex,bo] { s with L:=s.L.tail }≠.out):Calls Tryz.prog 244 #[.pointer (some ⟨B,0,none⟩)] w (Did B T E w (buildF (mk 15 [] 0 (pk E s.L).a) [conditionF E ex,bo] { s with L:=s.L.tail })):=by
 obtain ⟨r,hrr⟩:=exE (buildF (mk 15 [] 0 (pk E s.L).a) [conditionF E ex,bo] { s with L:=s.L.tail })
 rw [← hrr] at hr ⊢
 obtain ⟨Q,hQ⟩:=exE (Did B T E w r)
 rw [← hQ]
 have HQ:=Lib.hid hQ
 have HR:=Lib.hid hr
 have hB:=h.lt
 clear hQ hr
 have HP:=Lib.hid h
 have hpk:=take_any h
 unfold tokV at hpk
 obtain ⟨t,ht'⟩:=exE (pk E s.L)
 obtain ⟨x,hxx⟩:=exE (bstr t.t)
 rw [← ht',← hxx] at hpk
 rw [← ht'] at ht hrr
 have q0:=txt_no (l:=[105,102]) hxx (by rw [ht];decide)
 have q1:=txt_yes (l:=[119,104,105,108,101]) hxx ht
 have Hrr:Hid (r=_):=hrr
 clear ht ht' hxx hrr h
 go_enter Tryz.func244,Tryz.ntmps244
 go_wp2_with (go_at_call 106;refine hpk.mono ?_;rintro e w1 ⟨rfl,hx1,hp1⟩)
 have hp2:=hp1.alloc (.cells #[.int .i64 t.k,.string x,.int .i64 t.v,.int .i64 t.a] 82)
 have hB2:=hp2.lt
 have hx2:=hx1.alloc hB (.cells #[.int .i64 t.k,.string x,.int .i64 t.v,.int .i64 t.a] 82)
 have hnd:=node_far (t:=36) (cs:=#[.int .i64 15,.string ⟨#[]⟩,.int .i64 0,.int .i64 0,.slice none 0 0,.int .i64 t.a]) hp2
 rw [World.size_alloc] at hnd
 have HNd:=Lib.hid hnd
 have HX6:=Lib.hid (hx2.alloc hB (.cells #[.int .i64 15,.string ⟨#[]⟩,.int .i64 0,.int .i64 0,.slice none 0 0,.int .i64 t.a] 36))
 have HP6:=Lib.hid (hp2.alloc (.cells #[.int .i64 15,.string ⟨#[]⟩,.int .i64 0,.int .i64 0,.slice none 0 0,.int .i64 t.a] 36))
 clear hp1 hx1 hp2 hx2 hpk HP hnd
 generalize (w1.alloc (.cells #[.int .i64 t.k,.string x,.int .i64 t.v,.int .i64 t.a] 82)).alloc (.cells #[.int .i64 15,.string ⟨#[]⟩,.int .i64 0,.int .i64 0,.slice none 0 0,.int .i64 t.a] 36)=W6 at *
 generalize w1.heap.size+1=g5 at *
 have HX0:Hid (Ext B w W6.drew):=HX6.out.drew
 have N0:Hid (Now B T E { s with L:=s.L.tail } W6.drew W6.drew):=Now.refl HP6.out.drew
 have S1:Hid (∀ W,Ext B W6.drew W→W.cell? ⟨g5,0,none⟩=some (.int .i64 15)∧W.cell? ⟨g5,1,none⟩=some (.string ⟨#[]⟩)∧W.cell? ⟨g5,2,none⟩=some (.int .i64 0)∧W.cell? ⟨g5,3,none⟩=some (.int .i64 0)∧W.cell? ⟨g5,4,none⟩=some (.slice none 0 0)∧W.cell? ⟨g5,5,none⟩=some (.int .i64 t.a)):=fun W hW=>(box6 (HNd.out W ((Ext.refl B W6).drew.trans hW))).1
 have S0:=Lib.hid (S1.out _ (Ext.refl _ _))
 clear HNd HX6 HP6
 go_wp2
 have HN:Hid (∀ W,Now B T E { s with L:=s.L.tail } W6.drew W→Calls Tryz.prog 76 #[.pointer (some ⟨B,2,none⟩),.agg #[.int .i64 15,.string ⟨#[]⟩,.int .i64 0,.int .i64 0,.slice none 0 0,.int .i64 t.a],.slice (some ⟨W.heap.size,0,none⟩) 2 2] (W.alloc (.cells #[.func (.func 261) #[.pointer (some ⟨B,0,none⟩)] #[],.func (.func 262) #[.pointer (some ⟨B,0,none⟩)] #[]] 57)) (Ends B T E W6.drew r)):=fun W hW=>by
   have h:=build_now hW [.func (.func 261) #[.pointer (some ⟨B,0,none⟩)] #[],.func (.func 262) #[.pointer (some ⟨B,0,none⟩)] #[]] [conditionF E ex,bo] rfl (by simp) (step2 (stepFn hco ent188 W) (stepFn hbo ent189 W)) (mk 15 [] 0 t.a) rfl (by rw [← Hrr.out];exact HR.out) 57
   rw [← Hrr.out] at h
   exact h
 go_region_held3 (fun W=>W.cell? ⟨g5,0,none⟩=some (.int .i64 15)∧W.cell? ⟨g5,1,none⟩=some (.string ⟨#[]⟩)∧W.cell? ⟨g5,2,none⟩=some (.int .i64 0)∧W.cell? ⟨g5,3,none⟩=some (.int .i64 0)∧W.cell? ⟨g5,4,none⟩=some (.slice none 0 0)∧W.cell? ⟨g5,5,none⟩=some (.int .i64 t.a))
  (first | exact S0.out | exact S1.out _ (N0.out.alloc _).1 | exact S1.out _ hx9)
  (first | (go_at_call 76;refine (HN.out _  N0.out).mono ?_;rintro e w9 ⟨v,rfl,hd,hx9⟩))
 all_goals
  have HD:=Lib.hid (did_ext hd HX0.out)
  clear hd hx9
  go_wp2
  (try go_ret)
  rw [HQ.out]
  exact HD.out
theorem comp_do {B T E:Nat}{bo ex:F3}(hco:FnC B T E 261 (conditionF E ex)) (hbo:FnC B T E 262 bo) {w:World}{s:S3}(h:Ps B T E w s) (ht:(pk E s.L).t=[100,111]) (hr:buildF (mk 16 [] 0 (pk E s.L).a) [bo,wordF E [119,104,105,108,101],conditionF E ex,wordF E [59]] { s with L:=s.L.tail }≠.out):Calls Tryz.prog 244 #[.pointer (some ⟨B,0,none⟩)] w (Did B T E w (buildF (mk 16 [] 0 (pk E s.L).a) [bo,wordF E [119,104,105,108,101],conditionF E ex,wordF E [59]] { s with L:=s.L.tail })):=by
 obtain ⟨r,hrr⟩:=exE (buildF (mk 16 [] 0 (pk E s.L).a) [bo,wordF E [119,104,105,108,101],conditionF E ex,wordF E [59]] { s with L:=s.L.tail })
 rw [← hrr] at hr ⊢
 obtain ⟨Q,hQ⟩:=exE (Did B T E w r)
 rw [← hQ]
 have HQ:=Lib.hid hQ
 have HR:=Lib.hid hr
 have hB:=h.lt
 clear hQ hr
 have HP:=Lib.hid h
 have hpk:=take_any h
 unfold tokV at hpk
 obtain ⟨t,ht'⟩:=exE (pk E s.L)
 obtain ⟨x,hxx⟩:=exE (bstr t.t)
 rw [← ht',← hxx] at hpk
 rw [← ht'] at ht hrr
 have q0:=txt_no (l:=[105,102]) hxx (by rw [ht];decide)
 have q1:=txt_no (l:=[119,104,105,108,101]) hxx (by rw [ht];decide)
 have q2:=txt_yes (l:=[100,111]) hxx ht
 have Hrr:Hid (r=_):=hrr
 clear ht ht' hxx hrr h
 go_enter Tryz.func244,Tryz.ntmps244
 go_wp2_with (go_at_call 106;refine hpk.mono ?_;rintro e w1 ⟨rfl,hx1,hp1⟩)
 have hp2:=hp1.alloc (.cells #[.int .i64 t.k,.string x,.int .i64 t.v,.int .i64 t.a] 82)
 have hB2:=hp2.lt
 have hx2:=hx1.alloc hB (.cells #[.int .i64 t.k,.string x,.int .i64 t.v,.int .i64 t.a] 82)
 have hnd:=node_far (t:=36) (cs:=#[.int .i64 16,.string ⟨#[]⟩,.int .i64 0,.int .i64 0,.slice none 0 0,.int .i64 t.a]) hp2
 rw [World.size_alloc] at hnd
 have HNd:=Lib.hid hnd
 have HX6:=Lib.hid (hx2.alloc hB (.cells #[.int .i64 16,.string ⟨#[]⟩,.int .i64 0,.int .i64 0,.slice none 0 0,.int .i64 t.a] 36))
 have HP6:=Lib.hid (hp2.alloc (.cells #[.int .i64 16,.string ⟨#[]⟩,.int .i64 0,.int .i64 0,.slice none 0 0,.int .i64 t.a] 36))
 clear hp1 hx1 hp2 hx2 hpk HP hnd
 generalize (w1.alloc (.cells #[.int .i64 t.k,.string x,.int .i64 t.v,.int .i64 t.a] 82)).alloc (.cells #[.int .i64 16,.string ⟨#[]⟩,.int .i64 0,.int .i64 0,.slice none 0 0,.int .i64 t.a] 36)=W6 at *
 generalize w1.heap.size+1=g5 at *
 have HX0:Hid (Ext B w W6.drew):=HX6.out.drew
 have N0:Hid (Now B T E { s with L:=s.L.tail } W6.drew W6.drew):=Now.refl HP6.out.drew
 have S1:Hid (∀ W,Ext B W6.drew W→W.cell? ⟨g5,0,none⟩=some (.int .i64 16)∧W.cell? ⟨g5,1,none⟩=some (.string ⟨#[]⟩)∧W.cell? ⟨g5,2,none⟩=some (.int .i64 0)∧W.cell? ⟨g5,3,none⟩=some (.int .i64 0)∧W.cell? ⟨g5,4,none⟩=some (.slice none 0 0)∧W.cell? ⟨g5,5,none⟩=some (.int .i64 t.a)):=fun W hW=>(box6 (HNd.out W ((Ext.refl B W6).drew.trans hW))).1
 have S0:=Lib.hid (S1.out _ (Ext.refl _ _))
 clear HNd HX6 HP6
 go_wp2
 have HW0:Hid (∀ W,Now B T E { s with L:=s.L.tail } W6.drew W→Calls Tryz.prog 61 #[.pointer (some ⟨B,0,none⟩),.string ⟨#[119,104,105,108,101]⟩] W fun e w'=>∃ g1 g2,e=.returned (.func (.func 110) #[] #[.pointer (some ⟨g1,0,none⟩),.pointer (some ⟨g2,0,none⟩)])∧Now B T E { s with L:=s.L.tail } W6.drew w'∧Ext B W w'∧StepV B T E w' (.func (.func 110) #[] #[.pointer (some ⟨g1,0,none⟩),.pointer (some ⟨g2,0,none⟩)]) (wordF E [119,104,105,108,101])):=fun W hW=>word_now hW ⟨#[119,104,105,108,101]⟩
 have HW1:Hid (∀ W,Now B T E { s with L:=s.L.tail } W6.drew W→Calls Tryz.prog 61 #[.pointer (some ⟨B,0,none⟩),.string ⟨#[59]⟩] W fun e w'=>∃ g1 g2,e=.returned (.func (.func 110) #[] #[.pointer (some ⟨g1,0,none⟩),.pointer (some ⟨g2,0,none⟩)])∧Now B T E { s with L:=s.L.tail } W6.drew w'∧Ext B W w'∧StepV B T E w' (.func (.func 110) #[] #[.pointer (some ⟨g1,0,none⟩),.pointer (some ⟨g2,0,none⟩)]) (wordF E [59])):=fun W hW=>word_now hW ⟨#[59]⟩
 have HN:Hid (∀ W v1 v3,Now B T E { s with L:=s.L.tail } W6.drew W→StepV B T E W v1 (wordF E [119,104,105,108,101])→StepV B T E W v3 (wordF E [59])→Calls Tryz.prog 76 #[.pointer (some ⟨B,2,none⟩),.agg #[.int .i64 16,.string ⟨#[]⟩,.int .i64 0,.int .i64 0,.slice none 0 0,.int .i64 t.a],.slice (some ⟨W.heap.size,0,none⟩) 4 4] (W.alloc (.cells #[.func (.func 262) #[.pointer (some ⟨B,0,none⟩)] #[],v1,.func (.func 261) #[.pointer (some ⟨B,0,none⟩)] #[],v3] 57)) (Ends B T E W6.drew r)):=fun W v1 v3 hW h1 h3=>by
   have h:=build_now hW [.func (.func 262) #[.pointer (some ⟨B,0,none⟩)] #[],v1,.func (.func 261) #[.pointer (some ⟨B,0,none⟩)] #[],v3] [bo,wordF E [119,104,105,108,101],conditionF E ex,wordF E [59]] rfl (by simp) (step4 (stepFn hbo ent189 W) (h1) (stepFn hco ent188 W) (h3)) (mk 16 [] 0 t.a) rfl (by rw [← Hrr.out];exact HR.out) 57
   rw [← Hrr.out] at h
   exact h
 go_region_held3 (fun W=>W.cell? ⟨g5,0,none⟩=some (.int .i64 16)∧W.cell? ⟨g5,1,none⟩=some (.string ⟨#[]⟩)∧W.cell? ⟨g5,2,none⟩=some (.int .i64 0)∧W.cell? ⟨g5,3,none⟩=some (.int .i64 0)∧W.cell? ⟨g5,4,none⟩=some (.slice none 0 0)∧W.cell? ⟨g5,5,none⟩=some (.int .i64 t.a))
  (first | exact S0.out | exact S1.out _ hn0.1 | exact S1.out _ hn1.1 | exact S1.out _ (hn1.alloc _).1 | exact S1.out _ hx9)
  (first | (go_at_call 61;first | ((with_reducible refine (HW0.out _ N0.out).mono ?_);rintro e w0_ ⟨q00,q01,rfl,hn0,hx0,hs0⟩) | ((with_reducible refine (HW1.out _ hn0).mono ?_);rintro e w1_ ⟨q10,q11,rfl,hn1,hx1,hs1⟩)) | (go_at_call 76;refine (HN.out _ _ _ hn1 (StepV.ext hs0 hx1) hs1).mono ?_;rintro e w9 ⟨v,rfl,hd,hx9⟩))
 all_goals
  have HD:=Lib.hid (did_ext hd HX0.out)
  clear hd hx9
  go_wp2
  (try go_ret)
  rw [HQ.out]
  exact HD.out
end
section
open Go.RowKit
open Tk (T4 bstr)
open Tr (Nd Blk KidsAt)
theorem comp_switch {B T E:Nat}{n:Nat}{ex:F3}{fam:Nat→F3}(hco:FnC B T E 261 (conditionF E ex)) (hit:∀ m,m<n→FnC B T E 266 (fam m)) {w:World}{s:S3}(h:Ps B T E w s) (hno:∀ l,l ∈ [[105,102],[119,104,105,108,101],[100,111],[102,111,114]]→(pk E s.L).t≠l) (hr:buildF (mk 18 [] 0 (pk E s.L).a) [conditionF E ex,bracedF E fam n] { s with L:=s.L.tail }≠.out):Calls Tryz.prog 244 #[.pointer (some ⟨B,0,none⟩)] w (Did B T E w (buildF (mk 18 [] 0 (pk E s.L).a) [conditionF E ex,bracedF E fam n] { s with L:=s.L.tail })):=by
 obtain ⟨r,hrr⟩:=exE (buildF (mk 18 [] 0 (pk E s.L).a) [conditionF E ex,bracedF E fam n] { s with L:=s.L.tail })
 rw [← hrr] at hr ⊢
 obtain ⟨Q,hQ⟩:=exE (Did B T E w r)
 rw [← hQ]
 have HQ:=Lib.hid hQ
 have HR:=Lib.hid hr
 have hB:=h.lt
 clear hQ hr
 have HP:=Lib.hid h
 have hpk:=take_any h
 unfold tokV at hpk
 obtain ⟨t,ht'⟩:=exE (pk E s.L)
 obtain ⟨x,hxx⟩:=exE (bstr t.t)
 rw [← ht',← hxx] at hpk
 rw [← ht'] at hno hrr
 have q0:=txt_no (l:=[105,102]) hxx (hno _ (by simp))
 have q1:=txt_no (l:=[119,104,105,108,101]) hxx (hno _ (by simp))
 have q2:=txt_no (l:=[100,111]) hxx (hno _ (by simp))
 have q3:=txt_no (l:=[102,111,114]) hxx (hno _ (by simp))
 have Hrr:Hid (r=_):=hrr
 clear hno ht' hxx hrr h
 go_enter Tryz.func244,Tryz.ntmps244
 go_wp2_with (go_at_call 106;refine hpk.mono ?_;rintro e w1 ⟨rfl,hx1,hp1⟩)
 have hp2:=hp1.alloc (.cells #[.int .i64 t.k,.string x,.int .i64 t.v,.int .i64 t.a] 82)
 have hB2:=hp2.lt
 have hx2:=hx1.alloc hB (.cells #[.int .i64 t.k,.string x,.int .i64 t.v,.int .i64 t.a] 82)
 have hnd:=node_far (t:=36) (cs:=#[.int .i64 18,.string ⟨#[]⟩,.int .i64 0,.int .i64 0,.slice none 0 0,.int .i64 t.a]) hp2
 rw [World.size_alloc] at hnd
 have HNd:=Lib.hid hnd
 have HX6:=Lib.hid (hx2.alloc hB (.cells #[.int .i64 18,.string ⟨#[]⟩,.int .i64 0,.int .i64 0,.slice none 0 0,.int .i64 t.a] 36))
 have HP6:=Lib.hid (hp2.alloc (.cells #[.int .i64 18,.string ⟨#[]⟩,.int .i64 0,.int .i64 0,.slice none 0 0,.int .i64 t.a] 36))
 clear hp1 hx1 hp2 hx2 hpk HP hnd
 generalize (w1.alloc (.cells #[.int .i64 t.k,.string x,.int .i64 t.v,.int .i64 t.a] 82)).alloc (.cells #[.int .i64 18,.string ⟨#[]⟩,.int .i64 0,.int .i64 0,.slice none 0 0,.int .i64 t.a] 36)=W6 at *
 generalize w1.heap.size+1=g5 at *
 have HX0:Hid (Ext B w W6.drew):=HX6.out.drew
 have N0:Hid (Now B T E { s with L:=s.L.tail } W6.drew W6.drew):=Now.refl HP6.out.drew
 have S1:Hid (∀ W,Ext B W6.drew W→W.cell? ⟨g5,0,none⟩=some (.int .i64 18)∧W.cell? ⟨g5,1,none⟩=some (.string ⟨#[]⟩)∧W.cell? ⟨g5,2,none⟩=some (.int .i64 0)∧W.cell? ⟨g5,3,none⟩=some (.int .i64 0)∧W.cell? ⟨g5,4,none⟩=some (.slice none 0 0)∧W.cell? ⟨g5,5,none⟩=some (.int .i64 t.a)):=fun W hW=>(box6 (HNd.out W ((Ext.refl B W6).drew.trans hW))).1
 have S0:=Lib.hid (S1.out _ (Ext.refl _ _))
 clear HNd HX6 HP6
 go_wp2
 have HW0:Hid (∀ W,Now B T E { s with L:=s.L.tail } W6.drew W→Calls Tryz.prog 232 #[.pointer (some ⟨B,0,none⟩),.func (.func 266) #[.pointer (some ⟨B,0,none⟩)] #[]] W fun e w'=>∃ g1 g2,e=.returned (.func (.func 242) #[] #[.pointer (some ⟨g1,0,none⟩),.pointer (some ⟨g2,0,none⟩)])∧Now B T E { s with L:=s.L.tail } W6.drew w'∧Ext B W w'∧StepV B T E w' (.func (.func 242) #[] #[.pointer (some ⟨g1,0,none⟩),.pointer (some ⟨g2,0,none⟩)]) (bracedF E fam n)):=fun W hW=>braced_now hW fam 266 ent193 hit
 have HN:Hid (∀ W v1,Now B T E { s with L:=s.L.tail } W6.drew W→StepV B T E W v1 (bracedF E fam n)→Calls Tryz.prog 76 #[.pointer (some ⟨B,2,none⟩),.agg #[.int .i64 18,.string ⟨#[]⟩,.int .i64 0,.int .i64 0,.slice none 0 0,.int .i64 t.a],.slice (some ⟨W.heap.size,0,none⟩) 2 2] (W.alloc (.cells #[.func (.func 261) #[.pointer (some ⟨B,0,none⟩)] #[],v1] 57)) (Ends B T E W6.drew r)):=fun W v1 hW h1=>by
   have h:=build_now hW [.func (.func 261) #[.pointer (some ⟨B,0,none⟩)] #[],v1] [conditionF E ex,bracedF E fam n] rfl (by simp) (step2 (stepFn hco ent188 W) (h1)) (mk 18 [] 0 t.a) rfl (by rw [← Hrr.out];exact HR.out) 57
   rw [← Hrr.out] at h
   exact h
 go_region_held3 (fun W=>W.cell? ⟨g5,0,none⟩=some (.int .i64 18)∧W.cell? ⟨g5,1,none⟩=some (.string ⟨#[]⟩)∧W.cell? ⟨g5,2,none⟩=some (.int .i64 0)∧W.cell? ⟨g5,3,none⟩=some (.int .i64 0)∧W.cell? ⟨g5,4,none⟩=some (.slice none 0 0)∧W.cell? ⟨g5,5,none⟩=some (.int .i64 t.a))
  (first | exact S0.out | exact S1.out _ hn0.1 | exact S1.out _ (hn0.alloc _).1 | exact S1.out _ hx9)
  (first | (go_at_call 232;first | ((with_reducible refine (HW0.out _ N0.out).mono ?_);rintro e w0_ ⟨q00,q01,rfl,hn0,hx0,hs0⟩)) | (go_at_call 76;refine (HN.out _ _ hn0 hs0).mono ?_;rintro e w9 ⟨v,rfl,hd,hx9⟩))
 all_goals
  have HD:=Lib.hid (did_ext hd HX0.out)
  clear hd hx9
  go_wp2
  (try go_ret)
  rw [HQ.out]
  exact HD.out
end
section
open Go.RowKit
open Tk (T4 bstr)
open Tr (Nd Blk KidsAt)
theorem sees_yesb {B T E:Nat}{w:World}{s:S3}(h:Ps B T E w s) (x:ByteArray) {l:List UInt8}(hl:x.data.toList=l) (ht:(pk E s.L).t=l) :
  Calls Tryz.prog 161 #[.pointer (some ⟨B,0,none⟩),.string x] w fun e w'=>e=.returned (.bool true)∧Below w.heap.size w w':=by
 refine (sees_any h x).mono fun e w' ⟨he,hb⟩=>⟨?_,hb⟩
 rw [he,hl,decide_eq_true ht]
theorem sees_nob {B T E:Nat}{w:World}{s:S3}(h:Ps B T E w s) (x:ByteArray) {l:List UInt8}(hl:x.data.toList=l) (ht:(pk E s.L).t≠l) :
  Calls Tryz.prog 161 #[.pointer (some ⟨B,0,none⟩),.string x] w fun e w'=>e=.returned (.bool false)∧Below w.heap.size w w':=by
 refine (sees_any h x).mono fun e w' ⟨he,hb⟩=>⟨?_,hb⟩
 rw [he,hl,decide_eq_false ht]
theorem node_n {a0 a2 a3 a5:Int}{a1:ByteArray}{x:Mn}(h:(.agg #[.int .i64 a0,.string a1,.int .i64 a2,.int .i64 a3,.slice none 0 0,.int .i64 a5]:Value)=nodeV x):x.n=a2:=by
 obtain ⟨xk,xt,xn,xz,xc,xa⟩:=x
 unfold nodeV at h
 simp only [Value.agg.injEq,Array.mk.injEq,List.cons.injEq,Value.int.injEq,Value.string.injEq,true_and,and_true] at h
 exact h.2.2.1.symm
def NdC (B T E:Nat) (id:FuncId) (f:Mn→F3):Prop:=∀ (a0:Int) (a1:ByteArray) (a2 a3 a5:Int) (x:Mn),(.agg #[.int .i64 a0,.string a1,.int .i64 a2,.int .i64 a3,.slice none 0 0,.int .i64 a5]:Value)=nodeV x→x.c=[]→∀ w s,Ps B T E w s→f x s≠.out →
 Calls Tryz.prog id #[.pointer (some ⟨B,0,none⟩),.agg #[.int .i64 a0,.string a1,.int .i64 a2,.int .i64 a3,.slice none 0 0,.int .i64 a5]] w (Did B T E w (f x s))
def globsF (fam:Nat→F3):Nat→F3
 | 0=>fun _=>.out
 | m+1=>fun s=>if s.L=[] then .ok s else (fam m s).bind (globsF fam m)
theorem globals_fn {B T E n:Nat}{fam:Nat→F3}(hit:∀ m,m<n→FnC B T E 122 (fam m)):FnC B T E 77 (globsF fam n):=fun w s h hr=>by
 obtain ⟨r,hrr⟩:=exE (globsF fam n s)
 rw [← hrr] at hr ⊢
 obtain ⟨Q,hQ⟩:=exE (Did B T E w r)
 rw [← hQ]
 have HQ:=Lib.hid hQ
 have HR:=Lib.hid hr
 have hB:=h.lt
 clear hQ hr
 have Hrr:=Lib.hid hrr
 have HIt:=Lib.hid hit
 have HP0:=Lib.hid h
 clear hrr hit h
 go_enter Tryz.func77,Tryz.ntmps77
 go_wp2
 go_loopg [] n (fun k wr=>∃ s2,k≤n∧Hid (r=globsF fam k s2)∧Ext B w wr∧Ps B T E wr s2)
 case atStart=>exact ⟨s,Nat.le_refl _,Hrr,Ext.refl _ _,HP0.out⟩
 case round =>
  obtain ⟨s2,hk,HK,hx,hp⟩:=hrel
  have HXr:=Lib.hid hx
  have HPr:=Lib.hid hp
  clear hx hp HP0 Hrr
  cases gk with
  | zero=>exact absurd HK.out HR.out
  | succ m =>
   have HK2:Hid (r=if s2.L=[] then .ok s2 else (fam m s2).bind (globsF fam m)):=HK.out
   clear HK
   have hen:=ended_any HPr.out
   by_cases hl:s2.L=[]
   ·have hd:decide (s2.L.length=0)=true:=by rw [hl];rfl
    rw [hd] at hen
    have HR2:Hid (r=.ok s2):=by have h:=HK2.out;rw [if_pos hl] at h;exact h
    clear hd hl HK2
    go_wp2_with (go_at_call 63;refine hen.mono ?_;rintro e w' ⟨rfl,rfl⟩)
    (try go_wp2)
    (try go_ret)
    rw [HQ.out,HR2.out]
    exact ⟨rfl,HXr.out,HPr.out⟩
   ·have hd:decide (s2.L.length=0)=false:=by
     cases h2:s2.L with
     | nil=>exact absurd h2 hl
     | cons a b=>rfl
    rw [hd] at hen
    have HK3:Hid (r=(fam m s2).bind (globsF fam m)):=by have h:=HK2.out;rw [if_neg hl] at h;exact h
    have hne:fam m s2≠.out:=fun e=>HR.out (by rw [HK3.out,e];rfl)
    have hcall:=HIt.out m (by omega) wr s2 HPr.out hne
    clear hd hl HK2 hne
    go_wp2_with (first | (go_at_call 63;refine hen.mono ?_;rintro e w' ⟨rfl,rfl⟩) | (go_at_call 122;refine hcall.mono ?_))
    intro e w8 hd
    cases hf:fam m s2 with
    | out=>exact absurd (by rw [HK3.out,hf];rfl) HR.out
    | bad c1 b1 =>
     rw [hf] at hd
     obtain ⟨rfl,hx8⟩:=hd
     have HX8:=Lib.hid (HXr.out.trans hx8)
     have HRb:Hid (r=.bad c1 b1):=by have h:=HK3.out;rw [hf] at h;exact h
     clear hcall hf hx8 hen
     unfold errV
     go_wp2
     (try go_ret)
     rw [HQ.out,HRb.out]
     exact ⟨rfl,HX8.out⟩
    | ok s3 =>
     rw [hf] at hd
     obtain ⟨rfl,hx8,hp8⟩:=hd
     have HX8:=Lib.hid (HXr.out.trans hx8)
     have HP8:=Lib.hid hp8
     have HK5:Hid (r=globsF fam m s3):=by have h:=HK3.out;rw [hf] at h;exact h
     clear hcall hf hx8 hp8 hen HK3
     go_wp2
     go_roundg m
     case rel=>exact ⟨s3,by omega,HK5,HX8.out,HP8.out⟩
     case measure=>omega
theorem unit_fn {B T E:Nat}{gl:F3}(hgl:FnC B T E 77 gl):FnC B T E 37 (buildF (mk 1 [] 0 0) [gl]):=fun w s h hr=>by
 obtain ⟨r,hrr⟩:=exE (buildF (mk 1 [] 0 0) [gl] s)
 rw [← hrr] at hr ⊢
 obtain ⟨Q,hQ⟩:=exE (Did B T E w r)
 rw [← hQ]
 have HQ:=Lib.hid hQ
 have HR:=Lib.hid hr
 have hB:=h.lt
 clear hQ hr
 have hcall:=build_now (Now.refl h) [.func (.func 77) #[.pointer (some ⟨B,0,none⟩)] #[]] [gl] rfl (by simp) (step1 (stepFn hgl ent61 w)) (mk 1 [] 0 0) rfl (by rw [← hrr];exact HR.out) 57
 rw [← hrr] at hcall
 have hc2:Calls Tryz.prog 76 #[.pointer (some ⟨B,2,none⟩),.agg #[.int .i64 1,.string ⟨#[]⟩,.int .i64 0,.int .i64 0,.slice none 0 0,.int .i64 0],.slice (some ⟨w.heap.size,0,none⟩) 1 1] (w.alloc (.cells #[.func (.func 77) #[.pointer (some ⟨B,0,none⟩)] #[]] 57)) (Ends B T E w r):=hcall
 clear hcall hrr h
 go_enter Tryz.func37,Tryz.ntmps37
 go_wp2_with (go_at_call 76;refine hc2.mono ?_)
 rintro e w2 ⟨v,rfl,hd,hx⟩
 have HD:=Lib.hid hd
 clear hd hx hc2
 go_wp2
 (try go_ret)
 rw [HQ.out]
 exact HD.out
def globF (E n:Nat) (fnf:Mn→F3) (ex:F3) (fam:Nat→F3):F3:=fun s =>
 if (pk E s.L).t=[118,111,105,100] then (namedF E 0 { s with L:=s.L.tail }).bind fun s1 x=>fnf x s1
 else (declF E s).bind fun s1 x=>if (pk E s1.L).t=[40] then fnf x s1 else if (pk E s1.L).t=[91]∧x.n=1 then arrayF E x fam n s1 else buildF { x with k:=2 } [initialF E ex,wordF E [59]] s1
theorem glob_void {B T E n:Nat}{fnf:Mn→F3}{ex:F3}{fam:Nat→F3}(hfn:NdC B T E 169 fnf) {w:World}{s:S3}(h:Ps B T E w s) (ht:(pk E s.L).t=[118,111,105,100]) (hr:globF E n fnf ex fam s≠.out) :
  Calls Tryz.prog 122 #[.pointer (some ⟨B,0,none⟩)] w (Did B T E w (globF E n fnf ex fam s)):=by
 obtain ⟨r,hrr⟩:=exE (globF E n fnf ex fam s)
 rw [← hrr] at hr ⊢
 obtain ⟨Q,hQ⟩:=exE (Did B T E w r)
 rw [← hQ]
 have HQ:=Lib.hid hQ
 have HR:=Lib.hid hr
 have hB:=h.lt
 clear hQ hr
 have htk:=took_yes h ⟨#[118,111,105,100]⟩ rfl ht
 have Hrr0:Hid (r=(namedF E 0 { s with L:=s.L.tail }).bind fun s1 x=>fnf x s1):=by
  show r=_
  rw [hrr];unfold globF;rw [if_pos ht]
 have HFn:=Lib.hid hfn
 clear hrr h ht hfn
 go_enter Tryz.func122,Tryz.ntmps122
 go_wp2_with (go_at_call 111;refine htk.mono ?_;rintro e w1 ⟨rfl,hx1,hp1⟩)
 have hnm:=named_any hp1 0
 have HX1:=Lib.hid hx1
 have HP1:=Lib.hid hp1
 clear hx1 hp1 htk
 go_wp2_with (go_at_call 168;refine hnm.mono ?_)
 rintro e w2 ⟨a0,a1,a2,a3,a5,v2,s1,rfl,hM,hd⟩
 have HM:=Lib.hid hM
 have hB2:B<w2.heap.size:=(hM.of HP1.out).lt
 have HX2:=Lib.hid (HX1.out.trans hM.ext)
 clear hM hnm
 cases hf:namedF E 0 { s with L:=s.L.tail } with
 | out=>rw [hf] at hd;exact hd.elim
 | bad c1 b1 =>
  rw [hf] at hd
  obtain rfl:v2=errV c1 b1:=hd
  have HRb:Hid (r=.bad c1 b1):=by have h:=Hrr0.out;rw [hf] at h;exact h
  clear hf
  unfold errV
  go_wp2
  (try go_ret)
  rw [HQ.out,HRb.out]
  exact ⟨rfl,HX2.out.alloc hB _⟩
 | ok s2 x =>
  rw [hf] at hd
  obtain ⟨hv,rfl,rfl,hc⟩:=hd
  have Hrr:Hid (r=fnf x s1):=by have h:=Hrr0.out;rw [hf] at h;exact h
  have hp2:=HM.out.of HP1.out
  have hcall:=HFn.out a0 a1 a2 a3 a5 x hv hc (w2.alloc (.cells #[.int .i64 a0,.string a1,.int .i64 a2,.int .i64 a3,.slice none 0 0,.int .i64 a5] 36)) s1 (hp2.alloc _) (by rw [← Hrr.out];exact HR.out)
  rw [← Hrr.out] at hcall
  have HX6:=Lib.hid (HX2.out.alloc hB (.cells #[.int .i64 a0,.string a1,.int .i64 a2,.int .i64 a3,.slice none 0 0,.int .i64 a5] 36))
  clear hv hc hf HM HX1 HP1 Hrr0 hp2
  go_wp2_with (go_at_call 169;refine hcall.mono ?_)
  intro e w3 hd
  obtain ⟨v,rfl,hd⟩:=did_ret hd HR.out
  have HD:=Lib.hid (did_ext hd HX6.out)
  clear hd hcall
  go_wp2
  (try go_ret)
  rw [HQ.out]
  exact HD.out
end
section
open Go.RowKit
open Tk (T4 bstr)
open Tr (Nd Blk KidsAt)
theorem node_k3 {a0 a2 a3 a5:Int}{a1:ByteArray}{x:Mn}(h:(.agg #[.int .i64 a0,.string a1,.int .i64 a2,.int .i64 a3,.slice none 0 0,.int .i64 a5]:Value)=nodeV x) (hc:x.c=[]) (k n z:Int) :
  nodeV { x with k:=k,n:=n,z:=z }=.agg #[.int .i64 k,.string a1,.int .i64 n,.int .i64 z,.slice none 0 0,.int .i64 a5]:=by
 obtain ⟨xk,xt,xn,xz,xc,xa⟩:=x
 subst hc
 unfold nodeV at h ⊢
 simp only [Value.agg.injEq,Array.mk.injEq,List.cons.injEq,Value.int.injEq,Value.string.injEq,true_and,and_true] at h
 obtain ⟨_,h1,h2,h3,h4⟩:=h
 rw [h1,h4]
theorem array_fn {B T E n:Nat}{fam:Nat→F3}(hit:∀ m,m<n→FnC B T E 29 (fam m)):NdC B T E 171 (fun x=>arrayF E x fam n):=fun a0 a1 a2 a3 a5 x hv hc w s h hr=>by
 change arrayF E x fam n s≠.out at hr
 show Calls _ _ _ _ (Did B T E w (arrayF E x fam n s))
 obtain ⟨r,hrr⟩:=exE (arrayF E x fam n s)
 rw [← hrr] at hr ⊢
 obtain ⟨Q,hQ⟩:=exE (Did B T E w r)
 rw [← hQ]
 have HQ:=Lib.hid hQ
 have HR:=Lib.hid hr
 have hB:=h.lt
 clear hQ hr
 have Hrr0:Hid (r=(wordF E [91] s).bind fun s1=>if (pk E s1.L).k=2 then if (pk E s1.L).v<1∨200<(pk E s1.L).v then .bad 3 (pk E s1.L).a else buildF { x with k:=2,n:=3,z:=(pk E s1.L).v } [wordF E [93],valuesF E (pk E s1.L).v fam n,wordF E [59]] { s1 with L:=s1.L.tail } else .bad 1 (pk E s1.L).a):=hrr
 have hp0:=h.alloc (.cells #[.int .i64 a0,.string a1,.int .i64 a2,.int .i64 a3,.slice none 0 0,.int .i64 a5] 36)
 have H:=Lib.hid h
 have HP0:=Lib.hid hp0
 have HX0:=Lib.hid ((Ext.refl B w).alloc hB (.cells #[.int .i64 a0,.string a1,.int .i64 a2,.int .i64 a3,.slice none 0 0,.int .i64 a5] 36))
 have Hv:=Lib.hid hv
 have Hc:=Lib.hid hc
 have HIt:=Lib.hid hit
 clear hrr h hv hc hit
 by_cases ht:(pk E s.L).t=[91]
 ·have hw:=word_yes2 hp0 ⟨#[91]⟩ rfl ht
  have Hrr1:Hid (r=if (pk E s.L.tail).k=2 then if (pk E s.L.tail).v<1∨200<(pk E s.L.tail).v then .bad 3 (pk E s.L.tail).a else buildF { x with k:=2,n:=3,z:=(pk E s.L.tail).v } [wordF E [93],valuesF E (pk E s.L.tail).v fam n,wordF E [59]] { s with L:=s.L.tail.tail } else .bad 1 (pk E s.L.tail).a):=by
   have h:=Hrr0.out;unfold wordF at h;rw [if_pos ht] at h;exact h
  clear ht hp0 Hrr0
  go_enter Tryz.func171,Tryz.ntmps171
  go_wp2_with (go_at_call 61;refine hw.mono ?_;rintro e w2 ⟨g1,g2,rfl,h77⟩)
  refine h77.mono ?_
  rintro e w3 ⟨rfl,hm3⟩
  have HX3:=Lib.hid (HX0.out.trans hm3.ext)
  have HXA:=Lib.hid hm3.ext
  have HP3:=Lib.hid (hm3.of HP0.out)
  have HM3:=Lib.hid ((Mv.alloc H.out (.cells #[.int .i64 a0,.string a1,.int .i64 a2,.int .i64 a3,.slice none 0 0,.int .i64 a5] 36)).trans hm3)
  clear hm3 h77 hw
  by_cases hk:(pk E s.L.tail).k=2
  ·have hkd:=kind_yes HP3.out 2 (by show ((pk E s.L.tail).k:Int)=2;exact_mod_cast hk)
   have Hrr2:Hid (r=if (pk E s.L.tail).v<1∨200<(pk E s.L.tail).v then .bad 3 (pk E s.L.tail).a else buildF { x with k:=2,n:=3,z:=(pk E s.L.tail).v } [wordF E [93],valuesF E (pk E s.L.tail).v fam n,wordF E [59]] { s with L:=s.L.tail.tail }):=by
    have h:=Hrr1.out;rw [if_pos hk] at h;exact h
   clear hk Hrr1
   obtain ⟨t,ht⟩:=exE (pk E s.L.tail)
   change Calls _ _ _ _ (fun e w'=>e=.returned (.tuple #[tokV (pk E s.L.tail),.nilIface])∧Mv B T E w3 { s with L:=s.L.tail } w' { s with L:=s.L.tail.tail }) at hkd
   unfold tokV at hkd
   obtain ⟨xt,hxt⟩:=exE (bstr t.t)
   obtain ⟨iv,hiv⟩ : ∃ iv:Int,iv=t.v:=⟨_,rfl⟩
   rw [← ht,← hxt,← hiv] at hkd
   obtain ⟨s2,hs2⟩:=exE ({ s with L:=s.L.tail.tail })
   rw [← hs2] at hkd
   have Hrr3:Hid (r=if iv<1∨200<iv then .bad 3 t.a else buildF { x with k:=2,n:=3,z:=iv } [wordF E [93],valuesF E iv fam n,wordF E [59]] s2):=by
    have h:=Hrr2.out
    rw [← ht,← hs2,← hiv] at h
    have e:(t.v<1∨200<t.v) ↔ (iv<1∨200<iv):=by omega
    simp only [e] at h
    exact h
   have Hi0:Hid (0≤iv):=by show 0≤iv;omega
   clear Hrr2 ht hxt hiv hs2
   by_cases hv1:iv<1
   ·have HRb:Hid (r=.bad 3 t.a):=by have h:=Hrr3.out;rw [if_pos (Or.inl hv1)] at h;exact h
    have q1:decide (iv<1)=true:=decide_eq_true hv1
    clear Hrr3 hv1
    go_wp2_with (go_at_call 203;refine hkd.mono ?_;rintro e w4 ⟨rfl,hm4⟩)
    have HX4:=Lib.hid (HX3.out.trans hm4.ext)
    clear hkd hm4
    (try go_wp2)
    (try go_ret)
    rw [HQ.out,HRb.out]
    exact ⟨rfl,HX4.out.alloc hB _⟩
   by_cases hv2:200<iv
   ·have HRb:Hid (r=.bad 3 t.a):=by have h:=Hrr3.out;rw [if_pos (Or.inr hv2)] at h;exact h
    have q1:decide (iv<1)=false:=decide_eq_false hv1
    have q2:decide (200<iv)=true:=decide_eq_true hv2
    clear Hrr3 hv1 hv2
    go_wp2_with (go_at_call 203;refine hkd.mono ?_;rintro e w4 ⟨rfl,hm4⟩)
    have HX4:=Lib.hid (HX3.out.trans hm4.ext)
    clear hkd hm4
    (try go_wp2)
    (try go_ret)
    rw [HQ.out,HRb.out]
    exact ⟨rfl,HX4.out.alloc hB _⟩
   have Hrr:Hid (r=buildF { x with k:=2,n:=3,z:=iv } [wordF E [93],valuesF E iv fam n,wordF E [59]] s2):=by have h:=Hrr3.out;rw [if_neg (fun h=>h.elim hv1 hv2)] at h;exact h
   have q1:decide (iv<1)=false:=decide_eq_false hv1
   have q2:decide (200<iv)=false:=decide_eq_false hv2
   have Hi2:Hid (iv≤1000):=by show iv≤1000;omega
   have hpb:=HP3.out.alloc (.cells #[.int .i64 a0,.string a1,.int .i64 a2,.int .i64 a3,.slice none 0 0,.int .i64 a5] 36)
   clear Hrr3 hv1 hv2 hpb
   go_upto_region 9 with (go_at_call 203;refine hkd.mono ?_;rintro e w4 ⟨rfl,hm4⟩)
   obtain ⟨hkA,hnA⟩:=new_blk H.out 36 #[.int .i64 a0,.string a1,.int .i64 a2,.int .i64 a3,.slice none 0 0,.int .i64 a5] (HXA.out.trans hm4.ext)
   have hlt:w.heap.size<w4.heap.size:=hkA.lt
   have hM5:=(HM3.out.trans hm4).more H.out (.cells #[.int .i64 t.k,.string xt,.int .i64 iv,.int .i64 t.a] 82)
   have hk5:Blk (w4.alloc (.cells #[.int .i64 t.k,.string xt,.int .i64 iv,.int .i64 t.a] 82)) w.heap.size 36 #[.int .i64 a0,.string a1,.int .i64 a2,.int .i64 a3,.slice none 0 0,.int .i64 a5]:=hkA.alloc _
   have hn5:¬ Own B (w4.alloc (.cells #[.int .i64 t.k,.string xt,.int .i64 iv,.int .i64 t.a] 82)) w.heap.size:=fun ho=>hnA ((own_alloc (Nat.lt_of_lt_of_le hB (Nat.le_of_lt hlt)) _ _).1 ho)
   have hkt:Blk (w4.alloc (.cells #[.int .i64 t.k,.string xt,.int .i64 iv,.int .i64 t.a] 82)) w4.heap.size 82 #[.int .i64 t.k,.string xt,.int .i64 iv,.int .i64 t.a]:=Blk.new _ _ _
   have hnt:¬ Own B (w4.alloc (.cells #[.int .i64 t.k,.string xt,.int .i64 iv,.int .i64 t.a] 82)) w4.heap.size:=fun ho=>not_own_ge ((HM3.out.trans hm4).of H.out) (Nat.le_refl _) ((own_alloc (Nat.lt_of_lt_of_le hB (Nat.le_of_lt hlt)) _ _).1 ho)
   have n1:w.heap.size≠w4.heap.size:=by omega
   have n2:w4.heap.size≠w.heap.size:=by omega
   clear hkA hnA hm4 hkd hlt
   generalize w4.alloc (.cells #[.int .i64 t.k,.string xt,.int .i64 iv,.int .i64 t.a] 82)=W5 at *
   generalize w4.heap.size=gt at *
   obtain ⟨c0,c1,c2,c3,c4,c5,f0,f1,f2,f3,f4,f5,lA⟩:=box6f hk5
   have ct:W5.cell? ⟨gt,2,none⟩=some (.int .i64 iv):=(tok_box hkt).2.2.1
   have HM5:=Lib.hid hM5
   have HK5:=Lib.hid hk5
   have HN5:=Lib.hid hn5
   have HKt:=Lib.hid hkt
   have HNt:=Lib.hid hnt
   clear hM5 hk5 hn5 hkt hnt
   go_region
   have hn5b:¬ Own B (W5.setCell ⟨w.heap.size,0,none⟩ (.int .i64 2)) w.heap.size:=fun ho=>HN5.out ((own_setCell HN5.out _ _).1 ho)
   have hn5c:¬ Own B ((W5.setCell ⟨w.heap.size,0,none⟩ (.int .i64 2)).setCell ⟨w.heap.size,2,none⟩ (.int .i64 3)) w.heap.size:=fun ho=>hn5b ((own_setCell hn5b _ _).1 ho)
   have hn5d:¬ Own B (((W5.setCell ⟨w.heap.size,0,none⟩ (.int .i64 2)).setCell ⟨w.heap.size,2,none⟩ (.int .i64 3)).setCell ⟨w.heap.size,3,none⟩ (.int .i64 iv)) w.heap.size:=fun ho=>hn5c ((own_setCell hn5c _ _).1 ho)
   have hM6:=((HM5.out.set H.out (o:=0) (Nat.le_refl _) HN5.out (.int .i64 2)).set H.out (o:=2) (Nat.le_refl _) hn5b (.int .i64 3)).set H.out (o:=3) (Nat.le_refl _) hn5c (.int .i64 iv)
   have hkA:Blk ((((W5.setCell ⟨w.heap.size,0,none⟩ (.int .i64 2)).setCell ⟨w.heap.size,2,none⟩ (.int .i64 3)).setCell ⟨w.heap.size,3,none⟩ (.int .i64 iv)).drew) w.heap.size 36 #[.int .i64 2,.string a1,.int .i64 3,.int .i64 iv,.slice none 0 0,.int .i64 a5]:=by
    have h:=((HK5.out.set_ 0 (.int .i64 2)).set_ 2 (.int .i64 3)).set_ 3 (.int .i64 iv)
    have h2:Blk (((W5.setCell ⟨w.heap.size,0,none⟩ (.int .i64 2)).setCell ⟨w.heap.size,2,none⟩ (.int .i64 3)).setCell ⟨w.heap.size,3,none⟩ (.int .i64 iv)) w.heap.size 36 #[.int .i64 2,.string a1,.int .i64 3,.int .i64 iv,.slice none 0 0,.int .i64 a5]:=by simpa using h
    exact h2
   have hkt:Blk ((((W5.setCell ⟨w.heap.size,0,none⟩ (.int .i64 2)).setCell ⟨w.heap.size,2,none⟩ (.int .i64 3)).setCell ⟨w.heap.size,3,none⟩ (.int .i64 iv)).drew) gt 82 #[.int .i64 t.k,.string xt,.int .i64 iv,.int .i64 t.a]:=(((Below.heap_setCell _ _ _ _ n2).trans (Below.heap_setCell _ _ _ _ n2)).trans (Below.heap_setCell _ _ _ _ n2)).trans HKt.out
   have hnt:¬ Own B ((((W5.setCell ⟨w.heap.size,0,none⟩ (.int .i64 2)).setCell ⟨w.heap.size,2,none⟩ (.int .i64 3)).setCell ⟨w.heap.size,3,none⟩ (.int .i64 iv)).drew) gt:=fun ho=>HNt.out ((own_setCell HN5.out _ _).1 ((own_setCell hn5b _ _).1 ((own_setCell hn5c _ _).1 ho)))
   have hnA:¬ Own B ((((W5.setCell ⟨w.heap.size,0,none⟩ (.int .i64 2)).setCell ⟨w.heap.size,2,none⟩ (.int .i64 3)).setCell ⟨w.heap.size,3,none⟩ (.int .i64 iv)).drew) w.heap.size:=hn5d
   have HX7:Hid (Ext B w ((((W5.setCell ⟨w.heap.size,0,none⟩ (.int .i64 2)).setCell ⟨w.heap.size,2,none⟩ (.int .i64 3)).setCell ⟨w.heap.size,3,none⟩ (.int .i64 iv)).drew)):=hM6.ext.drew
   have HP7:Hid (Ps B T E ((((W5.setCell ⟨w.heap.size,0,none⟩ (.int .i64 2)).setCell ⟨w.heap.size,2,none⟩ (.int .i64 3)).setCell ⟨w.heap.size,3,none⟩ (.int .i64 iv)).drew) s2):=(hM6.of H.out).drew
   have HNd:Hid (∀ W,Ext B ((((W5.setCell ⟨w.heap.size,0,none⟩ (.int .i64 2)).setCell ⟨w.heap.size,2,none⟩ (.int .i64 3)).setCell ⟨w.heap.size,3,none⟩ (.int .i64 iv)).drew) W→Blk W w.heap.size 36 #[.int .i64 2,.string a1,.int .i64 3,.int .i64 iv,.slice none 0 0,.int .i64 a5]∧Blk W gt 82 #[.int .i64 t.k,.string xt,.int .i64 iv,.int .i64 t.a]):=fun W hW=>⟨hW.blk hkA hnA,hW.blk hkt hnt⟩
   clear hn5b hn5c hn5d hM6 hkA hkt hnt hnA HM5 HK5 HN5 HKt HNt c0 c1 c2 c3 c4 c5 f0 f1 f2 f3 f4 f5 lA ct HXA HX3 HM3 HP3 q1 q2
   generalize (((W5.setCell ⟨w.heap.size,0,none⟩ (.int .i64 2)).setCell ⟨w.heap.size,2,none⟩ (.int .i64 3)).setCell ⟨w.heap.size,3,none⟩ (.int .i64 iv)).drew=W6 at *
   have HA:=Lib.hid (node_k3 Hv.out Hc.out 2 3 iv)
   have HX0':Hid (Ext B w W6.drew):=HX7.out.drew
   have N0:Hid (Now B T E s2 W6.drew W6.drew):=Now.refl HP7.out.drew
   have S1:Hid (∀ W,Ext B W6.drew W→(W.cell? ⟨w.heap.size,0,none⟩=some (.int .i64 2)∧W.cell? ⟨w.heap.size,1,none⟩=some (.string a1)∧W.cell? ⟨w.heap.size,2,none⟩=some (.int .i64 3)∧W.cell? ⟨w.heap.size,3,none⟩=some (.int .i64 iv)∧W.cell? ⟨w.heap.size,4,none⟩=some (.slice none 0 0)∧W.cell? ⟨w.heap.size,5,none⟩=some (.int .i64 a5))∧W.cell? ⟨gt,2,none⟩=some (.int .i64 iv)):=fun W hW=>⟨(box6 (HNd.out W ((Ext.refl B W6).drew.trans hW)).1).1,(tok_box (HNd.out W ((Ext.refl B W6).drew.trans hW)).2).2.2.1⟩
   have S0:=Lib.hid (S1.out _ (Ext.refl _ _))
   clear HNd HX7 HP7
   go_wp2
   have HW0:Hid (∀ W,Now B T E s2 W6.drew W→Calls Tryz.prog 61 #[.pointer (some ⟨B,0,none⟩),.string ⟨#[93]⟩] W fun e w'=>∃ g1 g2,e=.returned (.func (.func 110) #[] #[.pointer (some ⟨g1,0,none⟩),.pointer (some ⟨g2,0,none⟩)])∧Now B T E s2 W6.drew w'∧Ext B W w'∧StepV B T E w' (.func (.func 110) #[] #[.pointer (some ⟨g1,0,none⟩),.pointer (some ⟨g2,0,none⟩)]) (wordF E [93])):=fun W hW=>word_now hW ⟨#[93]⟩
   have HW1:Hid (∀ W,Now B T E s2 W6.drew W→Calls Tryz.prog 207 #[.pointer (some ⟨B,0,none⟩),.int .i64 iv] W fun e w'=>∃ g1 g2,e=.returned (.func (.func 234) #[] #[.pointer (some ⟨g1,0,none⟩),.pointer (some ⟨g2,0,none⟩)])∧Now B T E s2 W6.drew w'∧Ext B W w'∧StepV B T E w' (.func (.func 234) #[] #[.pointer (some ⟨g1,0,none⟩),.pointer (some ⟨g2,0,none⟩)]) (valuesF E iv fam n)):=fun W hW=>values_now hW fam HIt.out Hi0.out Hi2.out
   have HW2:Hid (∀ W,Now B T E s2 W6.drew W→Calls Tryz.prog 61 #[.pointer (some ⟨B,0,none⟩),.string ⟨#[59]⟩] W fun e w'=>∃ g1 g2,e=.returned (.func (.func 110) #[] #[.pointer (some ⟨g1,0,none⟩),.pointer (some ⟨g2,0,none⟩)])∧Now B T E s2 W6.drew w'∧Ext B W w'∧StepV B T E w' (.func (.func 110) #[] #[.pointer (some ⟨g1,0,none⟩),.pointer (some ⟨g2,0,none⟩)]) (wordF E [59])):=fun W hW=>word_now hW ⟨#[59]⟩
   have HN:Hid (∀ W v0 v1 v2,Now B T E s2 W6.drew W→StepV B T E W v0 (wordF E [93])→StepV B T E W v1 (valuesF E iv fam n)→StepV B T E W v2 (wordF E [59])→Calls Tryz.prog 76 #[.pointer (some ⟨B,2,none⟩),.agg #[.int .i64 2,.string a1,.int .i64 3,.int .i64 iv,.slice none 0 0,.int .i64 a5],.slice (some ⟨W.heap.size,0,none⟩) 3 3] (W.alloc (.cells #[v0,v1,v2] 57)) (Ends B T E W6.drew r)):=fun W v0 v1 v2 hW h0 h1 h2=>by
     have h:=build_now hW [v0,v1,v2] [wordF E [93],valuesF E iv fam n,wordF E [59]] rfl (by simp) (step3 (h0) (h1) (h2)) ({ x with k:=2,n:=3,z:=iv }) Hc.out (by rw [← Hrr.out];exact HR.out) 57
     rw [← Hrr.out] at h
     rw [HA.out] at h
     exact h
   go_region_held3 (fun W=>(W.cell? ⟨w.heap.size,0,none⟩=some (.int .i64 2)∧W.cell? ⟨w.heap.size,1,none⟩=some (.string a1)∧W.cell? ⟨w.heap.size,2,none⟩=some (.int .i64 3)∧W.cell? ⟨w.heap.size,3,none⟩=some (.int .i64 iv)∧W.cell? ⟨w.heap.size,4,none⟩=some (.slice none 0 0)∧W.cell? ⟨w.heap.size,5,none⟩=some (.int .i64 a5))∧W.cell? ⟨gt,2,none⟩=some (.int .i64 iv))
    (first | exact S0.out | exact S1.out _ hn0.1 | exact S1.out _ hn1.1 | exact S1.out _ hn2.1 | exact S1.out _ (hn2.alloc _).1 | exact S1.out _ hx9)
    (first | (go_at_call 61;first | ((with_reducible refine (HW0.out _ N0.out).mono ?_);rintro e w0_ ⟨q00,q01,rfl,hn0,hx0,hs0⟩) | ((with_reducible refine (HW2.out _ hn1).mono ?_);rintro e w2_ ⟨q20,q21,rfl,hn2,hx2,hs2⟩)) | (go_at_call 207;first | ((with_reducible refine (HW1.out _ hn0).mono ?_);rintro e w1_ ⟨q10,q11,rfl,hn1,hx1,hs1⟩)) | (go_at_call 76;refine (HN.out _ _ _ _ hn2 (StepV.ext (StepV.ext hs0 hx1) hx2) (StepV.ext hs1 hx2) hs2).mono ?_;rintro e w9 ⟨v,rfl,hd,hx9⟩))
   all_goals
    have HD:=Lib.hid (did_ext hd HX0'.out)
    clear hd hx9
    go_wp2
    (try go_ret)
    rw [HQ.out]
    exact HD.out
  ·have hkd:=kind_no HP3.out 2 (by show ((pk E s.L.tail).k:Int)≠2;exact_mod_cast hk)
   have HRb:Hid (r=.bad 1 (pk E s.L.tail).a):=by have h:=Hrr1.out;rw [if_neg hk] at h;exact h
   clear hk Hrr1
   unfold noTok errV at hkd
   go_wp2_with (go_at_call 203;refine hkd.mono ?_;rintro e w4 ⟨rfl,hm4⟩)
   have HX4:=Lib.hid (HX3.out.trans hm4.ext)
   clear hkd hm4
   (try go_wp2)
   (try go_ret)
   rw [HQ.out,HRb.out]
   exact ⟨rfl,HX4.out.alloc hB _⟩
 ·have hw:=word_no2 hp0 ⟨#[91]⟩ rfl ht
  have HRb:Hid (r=.bad 1 (pk E s.L).a):=by
   have h:=Hrr0.out;unfold wordF at h;rw [if_neg ht] at h;exact h
  clear ht hp0 Hrr0
  go_enter Tryz.func171,Tryz.ntmps171
  go_wp2_with (go_at_call 61;refine hw.mono ?_;rintro e w2 ⟨g1,g2,rfl,h77⟩)
  refine h77.mono ?_
  rintro e w3 ⟨rfl,hm3⟩
  have HX3:=Lib.hid (HX0.out.trans hm3.ext)
  clear hm3 h77 hw
  unfold errV
  go_wp2
  (try go_ret)
  rw [HQ.out,HRb.out]
  exact ⟨rfl,HX3.out⟩
end
end Go.Proofs.YtbjacclfhgnffaaGreatDoor
