/-
  Joined texts of this claim: Ula, Uoa, Ulc, Ur.
-/
import Derived.Test.YtbjacclfhgnffaaGreatDoorW00
import Derived.Test.YtbjacclfhgnffaaGreatDoorW20
import Derived.Test.YtbjacclfhgnffaaGreatDoorW24
set_option maxHeartbeats 40000000
set_option maxRecDepth 100000
set_option linter.unusedVariables false
set_option linter.unusedSimpArgs false
namespace Go.Proofs.YtbjacclfhgnffaaGreatDoor
section
open Go.RowKit
open Tk (T4 bstr)
open Tr (Nd Blk KidsAt)
theorem comp_for {B T E:Nat}{bo ex:F3}(hbo:FnC B T E 262 bo) (hst:FnC B T E 264 (startF E ex)) (hex:FnC B T E 29 ex) (hef:FnC B T E 247 (effectF E ex)) (hnn:FnC B T E 246 (nothingF E)) {w:World}{s:S3}(h:Ps B T E w s) (ht:(pk E s.L).t=[102,111,114]) (hr:buildF (mk 17 [] 0 (pk E s.L).a) [wordF E [40],startF E ex,wordF E [59],unlessF E [59] ex,wordF E [59],unlessF E [41] (effectF E ex),wordF E [41],bo] { s with L:=s.L.tail }≠.out):Calls Tryz.prog 244 #[.pointer (some ⟨B,0,none⟩)] w (Did B T E w (buildF (mk 17 [] 0 (pk E s.L).a) [wordF E [40],startF E ex,wordF E [59],unlessF E [59] ex,wordF E [59],unlessF E [41] (effectF E ex),wordF E [41],bo] { s with L:=s.L.tail })):=by
 obtain ⟨r,hrr⟩:=exE (buildF (mk 17 [] 0 (pk E s.L).a) [wordF E [40],startF E ex,wordF E [59],unlessF E [59] ex,wordF E [59],unlessF E [41] (effectF E ex),wordF E [41],bo] { s with L:=s.L.tail })
 rw [← hrr] at hr ⊢
 obtain ⟨Q,hQ⟩:=exE (Did B T E w r)
 rw [← hQ]
 have HQ:=Lib.hid hQ
 have HR:=Lib.hid hr
 have hB:=h.lt
 clear hQ hr
 have HP:=Lib.hid h
 have hpk:=take_any h
 unfold tokV at hpk
 obtain ⟨t,ht'⟩:=exE (pk E s.L)
 obtain ⟨x,hxx⟩:=exE (bstr t.t)
 rw [← ht',← hxx] at hpk
 rw [← ht'] at ht hrr
 have q0:=txt_no (l:=[105,102]) hxx (by rw [ht];decide)
 have q1:=txt_no (l:=[119,104,105,108,101]) hxx (by rw [ht];decide)
 have q2:=txt_no (l:=[100,111]) hxx (by rw [ht];decide)
 have q3:=txt_yes (l:=[102,111,114]) hxx ht
 have Hrr:Hid (r=_):=hrr
 clear ht ht' hxx hrr h
 go_enter Tryz.func244,Tryz.ntmps244
 go_wp2_with (go_at_call 106;refine hpk.mono ?_;rintro e w1 ⟨rfl,hx1,hp1⟩)
 have hp2:=hp1.alloc (.cells #[.int .i64 t.k,.string x,.int .i64 t.v,.int .i64 t.a] 82)
 have hB2:=hp2.lt
 have hx2:=hx1.alloc hB (.cells #[.int .i64 t.k,.string x,.int .i64 t.v,.int .i64 t.a] 82)
 have hnd:=node_far (t:=36) (cs:=#[.int .i64 17,.string ⟨#[]⟩,.int .i64 0,.int .i64 0,.slice none 0 0,.int .i64 t.a]) hp2
 rw [World.size_alloc] at hnd
 have HNd:=Lib.hid hnd
 have HX6:=Lib.hid (hx2.alloc hB (.cells #[.int .i64 17,.string ⟨#[]⟩,.int .i64 0,.int .i64 0,.slice none 0 0,.int .i64 t.a] 36))
 have HP6:=Lib.hid (hp2.alloc (.cells #[.int .i64 17,.string ⟨#[]⟩,.int .i64 0,.int .i64 0,.slice none 0 0,.int .i64 t.a] 36))
 clear hp1 hx1 hp2 hx2 hpk HP hnd
 generalize (w1.alloc (.cells #[.int .i64 t.k,.string x,.int .i64 t.v,.int .i64 t.a] 82)).alloc (.cells #[.int .i64 17,.string ⟨#[]⟩,.int .i64 0,.int .i64 0,.slice none 0 0,.int .i64 t.a] 36)=W6 at *
 generalize w1.heap.size+1=g5 at *
 have HX0:Hid (Ext B w W6.drew):=HX6.out.drew
 have N0:Hid (Now B T E { s with L:=s.L.tail } W6.drew W6.drew):=Now.refl HP6.out.drew
 have S1:Hid (∀ W,Ext B W6.drew W→W.cell? ⟨g5,0,none⟩=some (.int .i64 17)∧W.cell? ⟨g5,1,none⟩=some (.string ⟨#[]⟩)∧W.cell? ⟨g5,2,none⟩=some (.int .i64 0)∧W.cell? ⟨g5,3,none⟩=some (.int .i64 0)∧W.cell? ⟨g5,4,none⟩=some (.slice none 0 0)∧W.cell? ⟨g5,5,none⟩=some (.int .i64 t.a)):=fun W hW=>(box6 (HNd.out W ((Ext.refl B W6).drew.trans hW))).1
 have S0:=Lib.hid (S1.out _ (Ext.refl _ _))
 clear HNd HX6 HP6
 go_wp2
 have HW0:Hid (∀ W,Now B T E { s with L:=s.L.tail } W6.drew W→Calls Tryz.prog 61 #[.pointer (some ⟨B,0,none⟩),.string ⟨#[40]⟩] W fun e w'=>∃ g1 g2,e=.returned (.func (.func 110) #[] #[.pointer (some ⟨g1,0,none⟩),.pointer (some ⟨g2,0,none⟩)])∧Now B T E { s with L:=s.L.tail } W6.drew w'∧Ext B W w'∧StepV B T E w' (.func (.func 110) #[] #[.pointer (some ⟨g1,0,none⟩),.pointer (some ⟨g2,0,none⟩)]) (wordF E [40])):=fun W hW=>word_now hW ⟨#[40]⟩
 have HW1:Hid (∀ W,Now B T E { s with L:=s.L.tail } W6.drew W→Calls Tryz.prog 61 #[.pointer (some ⟨B,0,none⟩),.string ⟨#[59]⟩] W fun e w'=>∃ g1 g2,e=.returned (.func (.func 110) #[] #[.pointer (some ⟨g1,0,none⟩),.pointer (some ⟨g2,0,none⟩)])∧Now B T E { s with L:=s.L.tail } W6.drew w'∧Ext B W w'∧StepV B T E w' (.func (.func 110) #[] #[.pointer (some ⟨g1,0,none⟩),.pointer (some ⟨g2,0,none⟩)]) (wordF E [59])):=fun W hW=>word_now hW ⟨#[59]⟩
 have HW2:Hid (∀ W,Now B T E { s with L:=s.L.tail } W6.drew W→Calls Tryz.prog 265 #[.pointer (some ⟨B,0,none⟩),.string ⟨#[59]⟩,.func (.func 29) #[.pointer (some ⟨B,0,none⟩)] #[]] W fun e w'=>∃ g1 g2 g3,e=.returned (.func (.func 277) #[] #[.pointer (some ⟨g1,0,none⟩),.pointer (some ⟨g2,0,none⟩),.pointer (some ⟨g3,0,none⟩)])∧Now B T E { s with L:=s.L.tail } W6.drew w'∧Ext B W w'∧StepV B T E w' (.func (.func 277) #[] #[.pointer (some ⟨g1,0,none⟩),.pointer (some ⟨g2,0,none⟩),.pointer (some ⟨g3,0,none⟩)]) (unlessF E [59] ex)):=fun W hW=>unless_now hW ⟨#[59]⟩ rfl ex 29 ent21 hex hnn
 have HW3:Hid (∀ W,Now B T E { s with L:=s.L.tail } W6.drew W→Calls Tryz.prog 61 #[.pointer (some ⟨B,0,none⟩),.string ⟨#[59]⟩] W fun e w'=>∃ g1 g2,e=.returned (.func (.func 110) #[] #[.pointer (some ⟨g1,0,none⟩),.pointer (some ⟨g2,0,none⟩)])∧Now B T E { s with L:=s.L.tail } W6.drew w'∧Ext B W w'∧StepV B T E w' (.func (.func 110) #[] #[.pointer (some ⟨g1,0,none⟩),.pointer (some ⟨g2,0,none⟩)]) (wordF E [59])):=fun W hW=>word_now hW ⟨#[59]⟩
 have HW4:Hid (∀ W,Now B T E { s with L:=s.L.tail } W6.drew W→Calls Tryz.prog 265 #[.pointer (some ⟨B,0,none⟩),.string ⟨#[41]⟩,.func (.func 247) #[.pointer (some ⟨B,0,none⟩)] #[]] W fun e w'=>∃ g1 g2 g3,e=.returned (.func (.func 277) #[] #[.pointer (some ⟨g1,0,none⟩),.pointer (some ⟨g2,0,none⟩),.pointer (some ⟨g3,0,none⟩)])∧Now B T E { s with L:=s.L.tail } W6.drew w'∧Ext B W w'∧StepV B T E w' (.func (.func 277) #[] #[.pointer (some ⟨g1,0,none⟩),.pointer (some ⟨g2,0,none⟩),.pointer (some ⟨g3,0,none⟩)]) (unlessF E [41] (effectF E ex))):=fun W hW=>unless_now hW ⟨#[41]⟩ rfl (effectF E ex) 247 ent178 hef hnn
 have HW5:Hid (∀ W,Now B T E { s with L:=s.L.tail } W6.drew W→Calls Tryz.prog 61 #[.pointer (some ⟨B,0,none⟩),.string ⟨#[41]⟩] W fun e w'=>∃ g1 g2,e=.returned (.func (.func 110) #[] #[.pointer (some ⟨g1,0,none⟩),.pointer (some ⟨g2,0,none⟩)])∧Now B T E { s with L:=s.L.tail } W6.drew w'∧Ext B W w'∧StepV B T E w' (.func (.func 110) #[] #[.pointer (some ⟨g1,0,none⟩),.pointer (some ⟨g2,0,none⟩)]) (wordF E [41])):=fun W hW=>word_now hW ⟨#[41]⟩
 have HN:Hid (∀ W v0 v2 v3 v4 v5 v6,Now B T E { s with L:=s.L.tail } W6.drew W→StepV B T E W v0 (wordF E [40])→StepV B T E W v2 (wordF E [59])→StepV B T E W v3 (unlessF E [59] ex)→StepV B T E W v4 (wordF E [59])→StepV B T E W v5 (unlessF E [41] (effectF E ex))→StepV B T E W v6 (wordF E [41])→Calls Tryz.prog 76 #[.pointer (some ⟨B,2,none⟩),.agg #[.int .i64 17,.string ⟨#[]⟩,.int .i64 0,.int .i64 0,.slice none 0 0,.int .i64 t.a],.slice (some ⟨W.heap.size,0,none⟩) 8 8] (W.alloc (.cells #[v0,.func (.func 264) #[.pointer (some ⟨B,0,none⟩)] #[],v2,v3,v4,v5,v6,.func (.func 262) #[.pointer (some ⟨B,0,none⟩)] #[]] 57)) (Ends B T E W6.drew r)):=fun W v0 v2 v3 v4 v5 v6 hW h0 h2 h3 h4 h5 h6=>by
   have h:=build_now hW [v0,.func (.func 264) #[.pointer (some ⟨B,0,none⟩)] #[],v2,v3,v4,v5,v6,.func (.func 262) #[.pointer (some ⟨B,0,none⟩)] #[]] [wordF E [40],startF E ex,wordF E [59],unlessF E [59] ex,wordF E [59],unlessF E [41] (effectF E ex),wordF E [41],bo] rfl (by simp) (step8 (h0) (stepFn hst ent191 W) (h2) (h3) (h4) (h5) (h6) (stepFn hbo ent189 W)) (mk 17 [] 0 t.a) rfl (by rw [← Hrr.out];exact HR.out) 57
   rw [← Hrr.out] at h
   exact h
 refine wp_region_noPanic ?_
 refine wp_region_held_drew (S:=(fun W=>W.cell? ⟨g5,0,none⟩=some (.int .i64 17)∧W.cell? ⟨g5,1,none⟩=some (.string ⟨#[]⟩)∧W.cell? ⟨g5,2,none⟩=some (.int .i64 0)∧W.cell? ⟨g5,3,none⟩=some (.int .i64 0)∧W.cell? ⟨g5,4,none⟩=some (.slice none 0 0)∧W.cell? ⟨g5,5,none⟩=some (.int .i64 t.a))) (by kernel_rfl) S0.out (fun hHeld=>?_)
 refine wpAnyH_take (i := 0) (oi := { dst := some 72, op := Go.Op.move (Go.Operand.tmp 0), type := 101, pos := "action.go:70", after := #[], guard := none }) (v := ?_) rfl (by kernel_rfl) (by kernel_rfl) (by kernel_rfl) (fun _ _ _ h => h) (Or.inl ⟨by rfl, ?_⟩) (by assumption) ?_
 rotate_left
 ·intro w hSw;(try dsimp only at hSw);go_simp;(try with_reducible rfl)
 (try simp only [Act.put,List.setIfInBounds_toArray,List.set_cons_zero,List.set_cons_succ])
 refine wpAnyH_take (i := 1) (oi := { dst := some 73, op := Go.Op.nilCheck (Go.Operand.tmp 72), type := 0, pos := "action.go:70", after := #[{ on := 0, ground := Go.Ground.data }], guard := none }) (v := ?_) rfl (by kernel_rfl) (by kernel_rfl) (by kernel_rfl) (fun _ _ _ h => h) (Or.inl ⟨by rfl, ?_⟩) (by assumption) ?_
 rotate_left
 ·intro w hSw;(try dsimp only at hSw);go_simp;(try with_reducible rfl)
 (try simp only [Act.put,List.setIfInBounds_toArray,List.set_cons_zero,List.set_cons_succ])
 refine wpAnyH_take (i := 2) (oi := { dst := some 74, op := Go.Op.fieldAddr 68 (Go.Operand.tmp 73) 0, type := 0, pos := "action.go:70", after := #[{ on := 1, ground := Go.Ground.data }], guard := none }) (v := ?_) rfl (by kernel_rfl) (by kernel_rfl) (by kernel_rfl) (fun _ _ _ h => h) (Or.inl ⟨by rfl, ?_⟩) (by assumption) ?_
 rotate_left
 ·intro w hSw;(try dsimp only at hSw);go_simp;(try with_reducible rfl)
 (try simp only [Act.put,List.setIfInBounds_toArray,List.set_cons_zero,List.set_cons_succ])
 refine wpAnyH_take (i := 3) (oi := { dst := some 75, op := Go.Op.fieldAddr 53 (Go.Operand.tmp 74) 1, type := 0, pos := "action.go:70", after := #[{ on := 2, ground := Go.Ground.data }], guard := none }) (v := ?_) rfl (by kernel_rfl) (by kernel_rfl) (by kernel_rfl) (fun _ _ _ h => h) (Or.inl ⟨by rfl, ?_⟩) (by assumption) ?_
 rotate_left
 ·intro w hSw;(try dsimp only at hSw);go_simp;(try with_reducible rfl)
 (try simp only [Act.put,List.setIfInBounds_toArray,List.set_cons_zero,List.set_cons_succ])
 refine wpAnyH_take (i := 4) (oi := { dst := some 76, op := Go.Op.load 36 (Go.Operand.tmp 4), type := 36, pos := "action.go:70", after := #[], guard := none }) (v := ?_) rfl (by kernel_rfl) (by kernel_rfl) (by kernel_rfl) (fun _ _ _ h => h) (Or.inl ⟨by rfl, ?_⟩) (by assumption) ?_
 rotate_left
 ·intro w hSw;(try dsimp only at hSw);go_simp;(try with_reducible rfl)
 (try simp only [Act.put,List.setIfInBounds_toArray,List.set_cons_zero,List.set_cons_succ])
 refine wpAnyH_take (i := 5) (oi := { dst := some 77, op := Go.Op.move (Go.Operand.tmp 0), type := 101, pos := "action.go:70", after := #[], guard := none }) (v := ?_) rfl (by kernel_rfl) (by kernel_rfl) (by kernel_rfl) (fun _ _ _ h => h) (Or.inl ⟨by rfl, ?_⟩) (by assumption) ?_
 rotate_left
 ·intro w hSw;(try dsimp only at hSw);go_simp;(try with_reducible rfl)
 (try simp only [Act.put,List.setIfInBounds_toArray,List.set_cons_zero,List.set_cons_succ])
 refine wpAnyH_take (i := 6) (oi := { dst := some 78, op := Go.Op.nilCheck (Go.Operand.tmp 77), type := 0, pos := "action.go:70", after := #[{ on := 5, ground := Go.Ground.data }], guard := none }) (v := ?_) rfl (by kernel_rfl) (by kernel_rfl) (by kernel_rfl) (fun _ _ _ h => h) (Or.inl ⟨by rfl, ?_⟩) (by assumption) ?_
 rotate_left
 ·intro w hSw;(try dsimp only at hSw);go_simp;(try with_reducible rfl)
 (try simp only [Act.put,List.setIfInBounds_toArray,List.set_cons_zero,List.set_cons_succ])
 refine wpAnyH_take (i := 7) (oi := { dst := some 79, op := Go.Op.fieldAddr 68 (Go.Operand.tmp 78) 0, type := 0, pos := "action.go:70", after := #[{ on := 6, ground := Go.Ground.data }], guard := none }) (v := ?_) rfl (by kernel_rfl) (by kernel_rfl) (by kernel_rfl) (fun _ _ _ h => h) (Or.inl ⟨by rfl, ?_⟩) (by assumption) ?_
 rotate_left
 ·intro w hSw;(try dsimp only at hSw);go_simp;(try with_reducible rfl)
 (try simp only [Act.put,List.setIfInBounds_toArray,List.set_cons_zero,List.set_cons_succ])
 refine wpAnyH_take (i := 8) (oi := { dst := some 80, op := Go.Op.fieldAddr 53 (Go.Operand.tmp 79) 0, type := 0, pos := "action.go:70", after := #[{ on := 7, ground := Go.Ground.data }], guard := none }) (v := ?_) rfl (by kernel_rfl) (by kernel_rfl) (by kernel_rfl) (fun _ _ _ h => h) (Or.inl ⟨by rfl, ?_⟩) (by assumption) ?_
 rotate_left
 ·intro w hSw;(try dsimp only at hSw);go_simp;(try with_reducible rfl)
 (try simp only [Act.put,List.setIfInBounds_toArray,List.set_cons_zero,List.set_cons_succ])
 refine wpAnyH_take (i := 10) (oi := { dst := some 82, op := Go.Op.move (Go.Operand.tmp 0), type := 101, pos := "action.go:70", after := #[], guard := none }) (v := ?_) rfl (by kernel_rfl) (by kernel_rfl) (by kernel_rfl) (fun _ _ _ h => h) (Or.inl ⟨by rfl, ?_⟩) (by assumption) ?_
 rotate_left
 ·intro w hSw;(try dsimp only at hSw);go_simp;(try with_reducible rfl)
 (try simp only [Act.put,List.setIfInBounds_toArray,List.set_cons_zero,List.set_cons_succ])
 refine wpAnyH_take (i := 11) (oi := { dst := some 83, op := Go.Op.makeFunc (Go.Fn.func 264) #[Go.Operand.tmp 82] #[], type := 57, pos := "action.go:70", after := #[{ on := 10, ground := Go.Ground.data }], guard := none }) (v := ?_) rfl (by kernel_rfl) (by kernel_rfl) (by kernel_rfl) (fun _ _ _ h => h) (Or.inl ⟨by rfl, ?_⟩) (by assumption) ?_
 rotate_left
 ·intro w hSw;(try dsimp only at hSw);go_simp;(try with_reducible rfl)
 (try simp only [Act.put,List.setIfInBounds_toArray,List.set_cons_zero,List.set_cons_succ])
 refine wpAnyH_take (i := 12) (oi := { dst := some 84, op := Go.Op.move (Go.Operand.tmp 0), type := 101, pos := "action.go:70", after := #[], guard := none }) (v := ?_) rfl (by kernel_rfl) (by kernel_rfl) (by kernel_rfl) (fun _ _ _ h => h) (Or.inl ⟨by rfl, ?_⟩) (by assumption) ?_
 rotate_left
 ·intro w hSw;(try dsimp only at hSw);go_simp;(try with_reducible rfl)
 (try simp only [Act.put,List.setIfInBounds_toArray,List.set_cons_zero,List.set_cons_succ])
 refine wpAnyH_take (i := 13) (oi := { dst := some 85, op := Go.Op.nilCheck (Go.Operand.tmp 84), type := 0, pos := "action.go:70", after := #[{ on := 12, ground := Go.Ground.data }], guard := none }) (v := ?_) rfl (by kernel_rfl) (by kernel_rfl) (by kernel_rfl) (fun _ _ _ h => h) (Or.inl ⟨by rfl, ?_⟩) (by assumption) ?_
 rotate_left
 ·intro w hSw;(try dsimp only at hSw);go_simp;(try with_reducible rfl)
 (try simp only [Act.put,List.setIfInBounds_toArray,List.set_cons_zero,List.set_cons_succ])
 refine wpAnyH_take (i := 14) (oi := { dst := some 86, op := Go.Op.fieldAddr 68 (Go.Operand.tmp 85) 0, type := 0, pos := "action.go:70", after := #[{ on := 13, ground := Go.Ground.data }], guard := none }) (v := ?_) rfl (by kernel_rfl) (by kernel_rfl) (by kernel_rfl) (fun _ _ _ h => h) (Or.inl ⟨by rfl, ?_⟩) (by assumption) ?_
 rotate_left
 ·intro w hSw;(try dsimp only at hSw);go_simp;(try with_reducible rfl)
 (try simp only [Act.put,List.setIfInBounds_toArray,List.set_cons_zero,List.set_cons_succ])
 refine wpAnyH_take (i := 15) (oi := { dst := some 87, op := Go.Op.fieldAddr 53 (Go.Operand.tmp 86) 0, type := 0, pos := "action.go:70", after := #[{ on := 14, ground := Go.Ground.data }], guard := none }) (v := ?_) rfl (by kernel_rfl) (by kernel_rfl) (by kernel_rfl) (fun _ _ _ h => h) (Or.inl ⟨by rfl, ?_⟩) (by assumption) ?_
 rotate_left
 ·intro w hSw;(try dsimp only at hSw);go_simp;(try with_reducible rfl)
 (try simp only [Act.put,List.setIfInBounds_toArray,List.set_cons_zero,List.set_cons_succ])
 refine wpAnyH_take (i := 17) (oi := { dst := some 89, op := Go.Op.move (Go.Operand.tmp 0), type := 101, pos := "action.go:70", after := #[], guard := none }) (v := ?_) rfl (by kernel_rfl) (by kernel_rfl) (by kernel_rfl) (fun _ _ _ h => h) (Or.inl ⟨by rfl, ?_⟩) (by assumption) ?_
 rotate_left
 ·intro w hSw;(try dsimp only at hSw);go_simp;(try with_reducible rfl)
 (try simp only [Act.put,List.setIfInBounds_toArray,List.set_cons_zero,List.set_cons_succ])
 refine wpAnyH_take (i := 18) (oi := { dst := some 90, op := Go.Op.move (Go.Operand.tmp 0), type := 101, pos := "action.go:70", after := #[], guard := none }) (v := ?_) rfl (by kernel_rfl) (by kernel_rfl) (by kernel_rfl) (fun _ _ _ h => h) (Or.inl ⟨by rfl, ?_⟩) (by assumption) ?_
 rotate_left
 ·intro w hSw;(try dsimp only at hSw);go_simp;(try with_reducible rfl)
 (try simp only [Act.put,List.setIfInBounds_toArray,List.set_cons_zero,List.set_cons_succ])
 refine wpAnyH_take (i := 19) (oi := { dst := some 91, op := Go.Op.nilCheck (Go.Operand.tmp 90), type := 0, pos := "action.go:70", after := #[{ on := 18, ground := Go.Ground.data }], guard := none }) (v := ?_) rfl (by kernel_rfl) (by kernel_rfl) (by kernel_rfl) (fun _ _ _ h => h) (Or.inl ⟨by rfl, ?_⟩) (by assumption) ?_
 rotate_left
 ·intro w hSw;(try dsimp only at hSw);go_simp;(try with_reducible rfl)
 (try simp only [Act.put,List.setIfInBounds_toArray,List.set_cons_zero,List.set_cons_succ])
 refine wpAnyH_take (i := 20) (oi := { dst := some 92, op := Go.Op.fieldAddr 68 (Go.Operand.tmp 91) 0, type := 0, pos := "action.go:70", after := #[{ on := 19, ground := Go.Ground.data }], guard := none }) (v := ?_) rfl (by kernel_rfl) (by kernel_rfl) (by kernel_rfl) (fun _ _ _ h => h) (Or.inl ⟨by rfl, ?_⟩) (by assumption) ?_
 rotate_left
 ·intro w hSw;(try dsimp only at hSw);go_simp;(try with_reducible rfl)
 (try simp only [Act.put,List.setIfInBounds_toArray,List.set_cons_zero,List.set_cons_succ])
 refine wpAnyH_take (i := 21) (oi := { dst := some 93, op := Go.Op.makeFunc (Go.Fn.func 29) #[Go.Operand.tmp 92] #[], type := 57, pos := "action.go:70", after := #[{ on := 20, ground := Go.Ground.data }], guard := none }) (v := ?_) rfl (by kernel_rfl) (by kernel_rfl) (by kernel_rfl) (fun _ _ _ h => h) (Or.inl ⟨by rfl, ?_⟩) (by assumption) ?_
 rotate_left
 ·intro w hSw;(try dsimp only at hSw);go_simp;(try with_reducible rfl)
 (try simp only [Act.put,List.setIfInBounds_toArray,List.set_cons_zero,List.set_cons_succ])
 refine wpAnyH_take (i := 23) (oi := { dst := some 95, op := Go.Op.move (Go.Operand.tmp 0), type := 101, pos := "action.go:70", after := #[], guard := none }) (v := ?_) rfl (by kernel_rfl) (by kernel_rfl) (by kernel_rfl) (fun _ _ _ h => h) (Or.inl ⟨by rfl, ?_⟩) (by assumption) ?_
 rotate_left
 ·intro w hSw;(try dsimp only at hSw);go_simp;(try with_reducible rfl)
 (try simp only [Act.put,List.setIfInBounds_toArray,List.set_cons_zero,List.set_cons_succ])
 refine wpAnyH_take (i := 24) (oi := { dst := some 96, op := Go.Op.nilCheck (Go.Operand.tmp 95), type := 0, pos := "action.go:70", after := #[{ on := 23, ground := Go.Ground.data }], guard := none }) (v := ?_) rfl (by kernel_rfl) (by kernel_rfl) (by kernel_rfl) (fun _ _ _ h => h) (Or.inl ⟨by rfl, ?_⟩) (by assumption) ?_
 rotate_left
 ·intro w hSw;(try dsimp only at hSw);go_simp;(try with_reducible rfl)
 (try simp only [Act.put,List.setIfInBounds_toArray,List.set_cons_zero,List.set_cons_succ])
 refine wpAnyH_take (i := 25) (oi := { dst := some 97, op := Go.Op.fieldAddr 68 (Go.Operand.tmp 96) 0, type := 0, pos := "action.go:70", after := #[{ on := 24, ground := Go.Ground.data }], guard := none }) (v := ?_) rfl (by kernel_rfl) (by kernel_rfl) (by kernel_rfl) (fun _ _ _ h => h) (Or.inl ⟨by rfl, ?_⟩) (by assumption) ?_
 rotate_left
 ·intro w hSw;(try dsimp only at hSw);go_simp;(try with_reducible rfl)
 (try simp only [Act.put,List.setIfInBounds_toArray,List.set_cons_zero,List.set_cons_succ])
 refine wpAnyH_take (i := 26) (oi := { dst := some 98, op := Go.Op.fieldAddr 53 (Go.Operand.tmp 97) 0, type := 0, pos := "action.go:70", after := #[{ on := 25, ground := Go.Ground.data }], guard := none }) (v := ?_) rfl (by kernel_rfl) (by kernel_rfl) (by kernel_rfl) (fun _ _ _ h => h) (Or.inl ⟨by rfl, ?_⟩) (by assumption) ?_
 rotate_left
 ·intro w hSw;(try dsimp only at hSw);go_simp;(try with_reducible rfl)
 (try simp only [Act.put,List.setIfInBounds_toArray,List.set_cons_zero,List.set_cons_succ])
 refine wpAnyH_take (i := 28) (oi := { dst := some 100, op := Go.Op.move (Go.Operand.tmp 0), type := 101, pos := "action.go:70", after := #[], guard := none }) (v := ?_) rfl (by kernel_rfl) (by kernel_rfl) (by kernel_rfl) (fun _ _ _ h => h) (Or.inl ⟨by rfl, ?_⟩) (by assumption) ?_
 rotate_left
 ·intro w hSw;(try dsimp only at hSw);go_simp;(try with_reducible rfl)
 (try simp only [Act.put,List.setIfInBounds_toArray,List.set_cons_zero,List.set_cons_succ])
 refine wpAnyH_take (i := 29) (oi := { dst := some 101, op := Go.Op.move (Go.Operand.tmp 0), type := 101, pos := "action.go:70", after := #[], guard := none }) (v := ?_) rfl (by kernel_rfl) (by kernel_rfl) (by kernel_rfl) (fun _ _ _ h => h) (Or.inl ⟨by rfl, ?_⟩) (by assumption) ?_
 rotate_left
 ·intro w hSw;(try dsimp only at hSw);go_simp;(try with_reducible rfl)
 (try simp only [Act.put,List.setIfInBounds_toArray,List.set_cons_zero,List.set_cons_succ])
 refine wpAnyH_take (i := 30) (oi := { dst := some 102, op := Go.Op.makeFunc (Go.Fn.func 247) #[Go.Operand.tmp 101] #[], type := 57, pos := "action.go:70", after := #[{ on := 29, ground := Go.Ground.data }], guard := none }) (v := ?_) rfl (by kernel_rfl) (by kernel_rfl) (by kernel_rfl) (fun _ _ _ h => h) (Or.inl ⟨by rfl, ?_⟩) (by assumption) ?_
 rotate_left
 ·intro w hSw;(try dsimp only at hSw);go_simp;(try with_reducible rfl)
 (try simp only [Act.put,List.setIfInBounds_toArray,List.set_cons_zero,List.set_cons_succ])
 refine wpAnyH_take (i := 32) (oi := { dst := some 104, op := Go.Op.move (Go.Operand.tmp 0), type := 101, pos := "action.go:70", after := #[], guard := none }) (v := ?_) rfl (by kernel_rfl) (by kernel_rfl) (by kernel_rfl) (fun _ _ _ h => h) (Or.inl ⟨by rfl, ?_⟩) (by assumption) ?_
 rotate_left
 ·intro w hSw;(try dsimp only at hSw);go_simp;(try with_reducible rfl)
 (try simp only [Act.put,List.setIfInBounds_toArray,List.set_cons_zero,List.set_cons_succ])
 refine wpAnyH_take (i := 33) (oi := { dst := some 105, op := Go.Op.nilCheck (Go.Operand.tmp 104), type := 0, pos := "action.go:70", after := #[{ on := 32, ground := Go.Ground.data }], guard := none }) (v := ?_) rfl (by kernel_rfl) (by kernel_rfl) (by kernel_rfl) (fun _ _ _ h => h) (Or.inl ⟨by rfl, ?_⟩) (by assumption) ?_
 rotate_left
 ·intro w hSw;(try dsimp only at hSw);go_simp;(try with_reducible rfl)
 (try simp only [Act.put,List.setIfInBounds_toArray,List.set_cons_zero,List.set_cons_succ])
 refine wpAnyH_take (i := 34) (oi := { dst := some 106, op := Go.Op.fieldAddr 68 (Go.Operand.tmp 105) 0, type := 0, pos := "action.go:70", after := #[{ on := 33, ground := Go.Ground.data }], guard := none }) (v := ?_) rfl (by kernel_rfl) (by kernel_rfl) (by kernel_rfl) (fun _ _ _ h => h) (Or.inl ⟨by rfl, ?_⟩) (by assumption) ?_
 rotate_left
 ·intro w hSw;(try dsimp only at hSw);go_simp;(try with_reducible rfl)
 (try simp only [Act.put,List.setIfInBounds_toArray,List.set_cons_zero,List.set_cons_succ])
 refine wpAnyH_take (i := 35) (oi := { dst := some 107, op := Go.Op.fieldAddr 53 (Go.Operand.tmp 106) 0, type := 0, pos := "action.go:70", after := #[{ on := 34, ground := Go.Ground.data }], guard := none }) (v := ?_) rfl (by kernel_rfl) (by kernel_rfl) (by kernel_rfl) (fun _ _ _ h => h) (Or.inl ⟨by rfl, ?_⟩) (by assumption) ?_
 rotate_left
 ·intro w hSw;(try dsimp only at hSw);go_simp;(try with_reducible rfl)
 (try simp only [Act.put,List.setIfInBounds_toArray,List.set_cons_zero,List.set_cons_succ])
 refine wpAnyH_take (i := 37) (oi := { dst := some 109, op := Go.Op.move (Go.Operand.tmp 0), type := 101, pos := "action.go:70", after := #[], guard := none }) (v := ?_) rfl (by kernel_rfl) (by kernel_rfl) (by kernel_rfl) (fun _ _ _ h => h) (Or.inl ⟨by rfl, ?_⟩) (by assumption) ?_
 rotate_left
 ·intro w hSw;(try dsimp only at hSw);go_simp;(try with_reducible rfl)
 (try simp only [Act.put,List.setIfInBounds_toArray,List.set_cons_zero,List.set_cons_succ])
 refine wpAnyH_take (i := 38) (oi := { dst := some 110, op := Go.Op.makeFunc (Go.Fn.func 262) #[Go.Operand.tmp 109] #[], type := 57, pos := "action.go:70", after := #[{ on := 37, ground := Go.Ground.data }], guard := none }) (v := ?_) rfl (by kernel_rfl) (by kernel_rfl) (by kernel_rfl) (fun _ _ _ h => h) (Or.inl ⟨by rfl, ?_⟩) (by assumption) ?_
 rotate_left
 ·intro w hSw;(try dsimp only at hSw);go_simp;(try with_reducible rfl)
 (try simp only [Act.put,List.setIfInBounds_toArray,List.set_cons_zero,List.set_cons_succ])
 refine wpAnyH_ready (rs:=[9]) (by kernel_rfl) (by simp) ?_
 refine AllReadyH.cons (o := { dst := some 81, op := Go.Op.call { callee := Go.Callee.value (Go.Operand.func 61), args := #[Go.Operand.tmp 80, Go.Operand.const (Go.Value.string { data := #[40] })], argTypes := #[49, 9] }, type := 57, pos := "action.go:70", after := #[{ on := 8, ground := Go.Ground.data }], guard := none }) rfl (fun K hK => ?_) AllReadyH.nil
 go_simp
 refine (HW0.out _ N0.out).mono ?_
 rintro e w0_ ⟨q00,q01,rfl,hn0,hx0,hs0⟩
 (try go_wp2_with fail)
 refine hK.out _ _ ?_ (fun hHeld=>?_)
 ·(try dsimp only);exact S1.out _ hn0.1
 clear hK K
 (try simp only [Act.put,List.setIfInBounds_toArray,List.set_cons_zero,List.set_cons_succ])
 refine wpAnyH_ready (rs:=[16]) (by kernel_rfl) (by simp) ?_
 refine AllReadyH.cons (o := { dst := some 88, op := Go.Op.call { callee := Go.Callee.value (Go.Operand.func 61), args := #[Go.Operand.tmp 87, Go.Operand.const (Go.Value.string { data := #[59] })], argTypes := #[49, 9] }, type := 57, pos := "action.go:70", after := #[{ on := 15, ground := Go.Ground.data }, { on := 9, ground := Go.Ground.chain }], guard := none }) rfl (fun K hK => ?_) AllReadyH.nil
 go_simp
 refine (HW1.out _ hn0).mono ?_
 rintro e w1_ ⟨q10,q11,rfl,hn1,hx1,hs1⟩
 (try go_wp2_with fail)
 refine hK.out _ _ ?_ (fun hHeld=>?_)
 ·(try dsimp only);exact S1.out _ hn1.1
 clear hK K
 (try simp only [Act.put,List.setIfInBounds_toArray,List.set_cons_zero,List.set_cons_succ])
 refine wpAnyH_ready (rs:=[22]) (by kernel_rfl) (by simp) ?_
 refine AllReadyH.cons (o := { dst := some 94, op := Go.Op.call { callee := Go.Callee.value (Go.Operand.func 265), args := #[Go.Operand.tmp 89, Go.Operand.const (Go.Value.string { data := #[59] }), Go.Operand.tmp 93], argTypes := #[101, 9, 57] }, type := 57, pos := "action.go:70", after := #[{ on := 17, ground := Go.Ground.data }, { on := 21, ground := Go.Ground.data }, { on := 16, ground := Go.Ground.chain }], guard := none }) rfl (fun K hK => ?_) AllReadyH.nil
 go_simp
 refine (HW2.out _ hn1).mono ?_
 rintro e w2_ ⟨q20,q21,q22,rfl,hn2,hx2,hs2⟩
 (try go_wp2_with fail)
 refine hK.out _ _ ?_ (fun hHeld=>?_)
 ·(try dsimp only);exact S1.out _ hn2.1
 clear hK K
 (try simp only [Act.put,List.setIfInBounds_toArray,List.set_cons_zero,List.set_cons_succ])
 refine wpAnyH_ready (rs:=[27]) (by kernel_rfl) (by simp) ?_
 refine AllReadyH.cons (o := { dst := some 99, op := Go.Op.call { callee := Go.Callee.value (Go.Operand.func 61), args := #[Go.Operand.tmp 98, Go.Operand.const (Go.Value.string { data := #[59] })], argTypes := #[49, 9] }, type := 57, pos := "action.go:70", after := #[{ on := 26, ground := Go.Ground.data }, { on := 22, ground := Go.Ground.chain }], guard := none }) rfl (fun K hK => ?_) AllReadyH.nil
 go_simp
 refine (HW3.out _ hn2).mono ?_
 rintro e w3_ ⟨q30,q31,rfl,hn3,hx3,hs3⟩
 (try go_wp2_with fail)
 refine hK.out _ _ ?_ (fun hHeld=>?_)
 ·(try dsimp only);exact S1.out _ hn3.1
 clear hK K
 (try simp only [Act.put,List.setIfInBounds_toArray,List.set_cons_zero,List.set_cons_succ])
 refine wpAnyH_ready (rs:=[31]) (by kernel_rfl) (by simp) ?_
 refine AllReadyH.cons (o := { dst := some 103, op := Go.Op.call { callee := Go.Callee.value (Go.Operand.func 265), args := #[Go.Operand.tmp 100, Go.Operand.const (Go.Value.string { data := #[41] }), Go.Operand.tmp 102], argTypes := #[101, 9, 57] }, type := 57, pos := "action.go:70", after := #[{ on := 28, ground := Go.Ground.data }, { on := 30, ground := Go.Ground.data }, { on := 27, ground := Go.Ground.chain }], guard := none }) rfl (fun K hK => ?_) AllReadyH.nil
 go_simp
 refine (HW4.out _ hn3).mono ?_
 rintro e w4_ ⟨q40,q41,q42,rfl,hn4,hx4,hs4⟩
 (try go_wp2_with fail)
 refine hK.out _ _ ?_ (fun hHeld=>?_)
 ·(try dsimp only);exact S1.out _ hn4.1
 clear hK K
 (try simp only [Act.put,List.setIfInBounds_toArray,List.set_cons_zero,List.set_cons_succ])
 refine wpAnyH_ready (rs:=[36]) (by kernel_rfl) (by simp) ?_
 refine AllReadyH.cons (o := { dst := some 108, op := Go.Op.call { callee := Go.Callee.value (Go.Operand.func 61), args := #[Go.Operand.tmp 107, Go.Operand.const (Go.Value.string { data := #[41] })], argTypes := #[49, 9] }, type := 57, pos := "action.go:70", after := #[{ on := 35, ground := Go.Ground.data }, { on := 31, ground := Go.Ground.chain }], guard := none }) rfl (fun K hK => ?_) AllReadyH.nil
 go_simp
 refine (HW5.out _ hn4).mono ?_
 rintro e w5_ ⟨q50,q51,rfl,hn5,hx5,hs5⟩
 (try go_wp2_with fail)
 refine hK.out _ _ ?_ (fun hHeld=>?_)
 ·(try dsimp only);exact S1.out _ hn5.1
 clear hK K
 (try simp only [Act.put,List.setIfInBounds_toArray,List.set_cons_zero,List.set_cons_succ])
 refine wpAnyH_ready (rs:=[39]) (by kernel_rfl) (by simp) ?_
 refine AllReadyH.cons (o := { dst := some 111, op := Go.Op.buildSlice 83 8 #[(0, Go.Operand.tmp 81), (1, Go.Operand.tmp 83), (2, Go.Operand.tmp 88), (3, Go.Operand.tmp 94), (4, Go.Operand.tmp 99), (5, Go.Operand.tmp 103), (6, Go.Operand.tmp 108), (7, Go.Operand.tmp 110)], type := 83, pos := "action.go:70", after := #[{ on := 9, ground := Go.Ground.data }, { on := 11, ground := Go.Ground.data }, { on := 16, ground := Go.Ground.data }, { on := 22, ground := Go.Ground.data }, { on := 27, ground := Go.Ground.data }, { on := 31, ground := Go.Ground.data }, { on := 36, ground := Go.Ground.data }, { on := 38, ground := Go.Ground.data }], guard := none }) rfl (fun K hK => ?_) AllReadyH.nil
 go_simp
 refine hK.out _ _ ?_ (fun hHeld=>?_)
 ·(try dsimp only);exact S1.out _ (hn5.alloc _).1
 clear hK K
 (try simp only [Act.put,List.setIfInBounds_toArray,List.set_cons_zero,List.set_cons_succ])
 refine wpAnyH_ready (rs:=[40]) (by kernel_rfl) (by simp) ?_
 refine AllReadyH.cons (o := { dst := some 112, op := Go.Op.call { callee := Go.Callee.value (Go.Operand.func 76), args := #[Go.Operand.tmp 75, Go.Operand.tmp 76, Go.Operand.tmp 111], argTypes := #[51, 36, 83] }, type := 55, pos := "action.go:70", after := #[{ on := 3, ground := Go.Ground.data }, { on := 4, ground := Go.Ground.data }, { on := 39, ground := Go.Ground.data }, { on := 36, ground := Go.Ground.chain }], guard := none }) rfl (fun K hK => ?_) AllReadyH.nil
 go_simp
 refine (HN.out _ _ _ _ _ _ _ hn5 (StepV.ext (StepV.ext (StepV.ext (StepV.ext (StepV.ext hs0 hx1) hx2) hx3) hx4) hx5) (StepV.ext (StepV.ext (StepV.ext (StepV.ext hs1 hx2) hx3) hx4) hx5) (StepV.ext (StepV.ext (StepV.ext hs2 hx3) hx4) hx5) (StepV.ext (StepV.ext hs3 hx4) hx5) (StepV.ext hs4 hx5) hs5).mono ?_
 rintro e w9 ⟨v,rfl,hd,hx9⟩
 (try go_wp2_with fail)
 refine hK.out _ _ ?_ (fun hHeld=>?_)
 ·(try dsimp only);exact S1.out _ hx9
 clear hK K
 (try simp only [Act.put,List.setIfInBounds_toArray,List.set_cons_zero,List.set_cons_succ])
 refine wpAnyH_take (i := 41) (oi := { dst := some 2, op := Go.Op.assign (Go.Operand.tmp 112), type := 55, pos := "action.go:70", after := #[{ on := 40, ground := Go.Ground.data }, { on := 40, ground := Go.Ground.chain }, { on := 0, ground := Go.Ground.phase }, { on := 1, ground := Go.Ground.phase }, { on := 2, ground := Go.Ground.phase }, { on := 3, ground := Go.Ground.phase }, { on := 4, ground := Go.Ground.phase }, { on := 5, ground := Go.Ground.phase }, { on := 6, ground := Go.Ground.phase }, { on := 7, ground := Go.Ground.phase }, { on := 8, ground := Go.Ground.phase }, { on := 9, ground := Go.Ground.phase }, { on := 10, ground := Go.Ground.phase }, { on := 11, ground := Go.Ground.phase }, { on := 12, ground := Go.Ground.phase }, { on := 13, ground := Go.Ground.phase }, { on := 14, ground := Go.Ground.phase }, { on := 15, ground := Go.Ground.phase }, { on := 16, ground := Go.Ground.phase }, { on := 17, ground := Go.Ground.phase }, { on := 18, ground := Go.Ground.phase }, { on := 19, ground := Go.Ground.phase }, { on := 20, ground := Go.Ground.phase }, { on := 21, ground := Go.Ground.phase }, { on := 22, ground := Go.Ground.phase }, { on := 23, ground := Go.Ground.phase }, { on := 24, ground := Go.Ground.phase }, { on := 25, ground := Go.Ground.phase }, { on := 26, ground := Go.Ground.phase }, { on := 27, ground := Go.Ground.phase }, { on := 28, ground := Go.Ground.phase }, { on := 29, ground := Go.Ground.phase }, { on := 30, ground := Go.Ground.phase }, { on := 31, ground := Go.Ground.phase }, { on := 32, ground := Go.Ground.phase }, { on := 33, ground := Go.Ground.phase }, { on := 34, ground := Go.Ground.phase }, { on := 35, ground := Go.Ground.phase }, { on := 36, ground := Go.Ground.phase }, { on := 37, ground := Go.Ground.phase }, { on := 38, ground := Go.Ground.phase }, { on := 39, ground := Go.Ground.phase }, { on := 40, ground := Go.Ground.phase }], guard := none }) (v := ?_) rfl (by kernel_rfl) (by kernel_rfl) (by kernel_rfl) (fun _ _ _ h => h) (Or.inl ⟨by rfl, ?_⟩) (by assumption) ?_
 rotate_left
 ·intro w hSw;(try dsimp only at hSw);go_simp;(try with_reducible rfl)
 (try simp only [Act.put,List.setIfInBounds_toArray,List.set_cons_zero,List.set_cons_succ])
 refine wpAnyH_done (by kernel_rfl) ?_ _
 refine NoPanic.normal ?_
 all_goals
  have HD:=Lib.hid (did_ext hd HX0.out)
  clear hd hx9
  go_wp2
  (try go_ret)
  rw [HQ.out]
  exact HD.out
end
section
open Go.RowKit
open Tk (T4 bstr)
open Tr (Nd Blk KidsAt)
theorem glob_rest {B T E n:Nat}{fnf:Mn→F3}{ex:F3}{fam:Nat→F3}(hfn:NdC B T E 169 fnf) (har:NdC B T E 171 (fun x=>arrayF E x fam n)) (hin:FnC B T E 172 (initialF E ex)) {w:World}{s:S3}(h:Ps B T E w s) (ht:(pk E s.L).t≠[118,111,105,100]) (hr:globF E n fnf ex fam s≠.out) :
  Calls Tryz.prog 122 #[.pointer (some ⟨B,0,none⟩)] w (Did B T E w (globF E n fnf ex fam s)):=by
 obtain ⟨r,hrr⟩:=exE (globF E n fnf ex fam s)
 rw [← hrr] at hr ⊢
 obtain ⟨Q,hQ⟩:=exE (Did B T E w r)
 rw [← hQ]
 have HQ:=Lib.hid hQ
 have HR:=Lib.hid hr
 have hB:=h.lt
 clear hQ hr
 have htk:=took_no h ⟨#[118,111,105,100]⟩ rfl ht
 have Hrr0:Hid (r=(declF E s).bind fun s1 x=>if (pk E s1.L).t=[40] then fnf x s1 else if (pk E s1.L).t=[91]∧x.n=1 then arrayF E x fam n s1 else buildF { x with k:=2 } [initialF E ex,wordF E [59]] s1):=by
  show r=_
  rw [hrr];unfold globF;rw [if_neg ht]
 have HFn:=Lib.hid hfn
 have HAr:=Lib.hid har
 have HIn:=Lib.hid hin
 clear hrr h ht hfn har hin
 go_enter Tryz.func122,Tryz.ntmps122
 go_wp2_with (go_at_call 111;refine htk.mono ?_;rintro e w0 ⟨rfl,hx1,hp1⟩)
 have hnm:=declared_any hp1
 have HX1:=Lib.hid hx1
 have HP1:=Lib.hid hp1
 clear hx1 hp1 htk
 go_wp2_with (go_at_call 170;refine hnm.mono ?_)
 rintro e w1 ⟨a0,a1,a2,a3,a5,v2,s1,rfl,hM,hd⟩
 have HM:=Lib.hid hM
 have hB2:B<w1.heap.size:=(hM.of HP1.out).lt
 have HX2:=Lib.hid (HX1.out.trans hM.ext)
 clear hM hnm
 cases hf:declF E s with
 | out=>rw [hf] at hd;exact hd.elim
 | bad c1 b1 =>
  rw [hf] at hd
  obtain rfl:v2=errV c1 b1:=hd
  have HRb:Hid (r=.bad c1 b1):=by have h:=Hrr0.out;rw [hf] at h;exact h
  clear hf
  unfold errV
  go_wp2
  (try go_ret)
  rw [HQ.out,HRb.out]
  exact ⟨rfl,HX2.out.alloc hB _⟩
 | ok s2 x =>
  rw [hf] at hd
  obtain ⟨hv,rfl,rfl,hc⟩:=hd
  have Hrr1:Hid (r=if (pk E s1.L).t=[40] then fnf x s1 else if (pk E s1.L).t=[91]∧x.n=1 then arrayF E x fam n s1 else buildF { x with k:=2 } [initialF E ex,wordF E [59]] s1):=by have h:=Hrr0.out;rw [hf] at h;exact h
  have hp1:=HM.out.of HP1.out
  have Hv:=Lib.hid hv
  have Hc:=Lib.hid hc
  have HP2:=Lib.hid hp1
  have hp2:=hp1.alloc (.cells #[.int .i64 a0,.string a1,.int .i64 a2,.int .i64 a3,.slice none 0 0,.int .i64 a5] 36)
  have HX6:=Lib.hid (HX2.out.alloc hB (.cells #[.int .i64 a0,.string a1,.int .i64 a2,.int .i64 a3,.slice none 0 0,.int .i64 a5] 36))
  have hxn:=node_n hv
  clear hv hc hf HM HX1 HP1 Hrr0
  by_cases h4:(pk E s1.L).t=[40]
  ·have hse:=sees_yesb hp2 ⟨#[40]⟩ rfl h4
   have Hrr:Hid (r=fnf x s1):=by have h:=Hrr1.out;rw [if_pos h4] at h;exact h
   clear Hrr1 h4 hxn
   go_wp2_with (first | (go_at_call 161;refine hse.mono ?_;rintro e w3 ⟨rfl,hb3⟩;obtain ⟨⟨c0,c1,c2,c3,c4,c5⟩,lb⟩:=box6 ((Blk.new w1 36 #[.int .i64 a0,.string a1,.int .i64 a2,.int .i64 a3,.slice none 0 0,.int .i64 a5]).below hb3 (by simp))) | (go_at_call 169;refine (HFn.out a0 a1 a2 a3 a5 x Hv.out Hc.out _ s1 (hp2.below hb3) (by rw [← Hrr.out];exact HR.out)).mono ?_))
   intro e w4 hd
   rw [← Hrr.out] at hd
   obtain ⟨v,rfl,hd⟩:=did_ret hd HR.out
   have HD:=Lib.hid (did_ext hd (HX6.out.trans (Ext.below hb3 hp2.lt)))
   clear hd hse c0 c1 c2 c3 c4 c5 hb3 lb hp2 hp1
   go_wp2
   (try go_ret)
   rw [HQ.out]
   exact HD.out
  have Hrr2:Hid (r=if (pk E s1.L).t=[91]∧x.n=1 then arrayF E x fam n s1 else buildF { x with k:=2 } [initialF E ex,wordF E [59]] s1):=by have h:=Hrr1.out;rw [if_neg h4] at h;exact h
  have hse:=sees_nob hp2 ⟨#[40]⟩ rfl h4
  clear Hrr1 h4
  by_cases h9:(pk E s1.L).t=[91]
  ·by_cases hn1:x.n=1
   ·have Hrr:Hid (r=arrayF E x fam n s1):=by have h:=Hrr2.out;rw [if_pos ⟨h9,hn1⟩] at h;exact h
    obtain rfl:a2=1:=by rw [← hxn,hn1]
    have H9:=Lib.hid h9
    clear Hrr2 h9 hn1 hxn
    go_wp2_with (first | (go_at_call 161;first | ((with_reducible refine hse.mono ?_);rintro e w3 ⟨rfl,hb3⟩;have lb3:w1.heap.size<w3.heap.size:=(by have:=hb3.size;simp at this;omega)) | ((with_reducible refine (sees_yesb (hp2.below hb3) ⟨#[91]⟩ rfl H9.out).mono ?_);rintro e w4 ⟨rfl,hb4⟩;obtain ⟨⟨c0,c1,c2,c3,c4,c5⟩,lb⟩:=box6 (((Blk.new w1 36 #[.int .i64 a0,.string a1,.int .i64 1,.int .i64 a3,.slice none 0 0,.int .i64 a5]).below hb3 (by simp)).below hb4 lb3))))
    refine (HAr.out a0 a1 1 a3 a5 x Hv.out Hc.out _ s1 ((hp2.below hb3).below hb4) (by show arrayF E x fam n s1≠.out;rw [← Hrr.out];exact HR.out)).mono ?_
    intro e w5 hd
    change Did B T E w4 (arrayF E x fam n s1) e w5 at hd
    rw [← Hrr.out] at hd
    obtain ⟨v,rfl,hd⟩:=did_ret hd HR.out
    have HD:=Lib.hid (did_ext hd ((HX6.out.trans (Ext.below hb3 hp2.lt)).trans (Ext.below hb4 (hp2.below hb3).lt)))
    clear hd hse c0 c1 c2 c3 c4 c5 hb3 hb4 lb lb3 hp2 hp1
    go_wp2
    (try go_ret)
    rw [HQ.out]
    exact HD.out
   ·have Hrr:Hid (r=buildF { x with k:=2 } [initialF E ex,wordF E [59]] s1):=by have h:=Hrr2.out;rw [if_neg (fun h=>hn1 h.2)] at h;exact h
    have ha2:a2≠1:=by rw [← hxn];exact hn1
    have q2:(a2 == 1)=false:=by simpa using ha2
    have H9:=Lib.hid h9
    clear Hrr2 h9 hn1 hxn ha2
    go_upto_region 14 with (first | (go_at_call 161;first | ((with_reducible refine hse.mono ?_);rintro e w3 ⟨rfl,hb3⟩;have lb3:w1.heap.size<w3.heap.size:=(by have:=hb3.size;simp at this;omega)) | ((with_reducible refine (sees_yesb (hp2.below hb3) ⟨#[91]⟩ rfl H9.out).mono ?_);rintro e w4 ⟨rfl,hb4⟩;obtain ⟨c0,c1,c2,c3,c4,c5,d0,-,-,-,-,-,lb⟩:=box6f (((Blk.new w1 36 #[.int .i64 a0,.string a1,.int .i64 a2,.int .i64 a3,.slice none 0 0,.int .i64 a5]).below hb3 (by simp)).below hb4 lb3))))
    have b14:Below w1.heap.size w1 w4:=(((Below.refl _ _).alloc (Nat.le_refl _) _).trans (hb3.mono (by simp))).trans (hb4.mono (by omega))
    have hk4:Blk w4 w1.heap.size 36 #[.int .i64 a0,.string a1,.int .i64 a2,.int .i64 a3,.slice none 0 0,.int .i64 a5]:=((Blk.new w1 36 #[.int .i64 a0,.string a1,.int .i64 a2,.int .i64 a3,.slice none 0 0,.int .i64 a5]).below hb3 (by simp)).below hb4 lb3
    have hn4:¬ Own B w4 w1.heap.size:=fun ho=>not_own_ge HP2.out (Nat.le_refl _) ((own_same (b14.block B hB2) _).1 ho)
    have hM4:=(Mv.below HP2.out b14).set HP2.out (o:=0) (Nat.le_refl _) hn4 (.int .i64 2)
    have hk6:Blk (w4.setCell ⟨w1.heap.size,0,none⟩ (.int .i64 2)) w1.heap.size 36 #[.int .i64 2,.string a1,.int .i64 a2,.int .i64 a3,.slice none 0 0,.int .i64 a5]:=by have h:=hk4.set_ 0 (.int .i64 2);simpa using h
    have hn6:¬ Own B (w4.setCell ⟨w1.heap.size,0,none⟩ (.int .i64 2)) w1.heap.size:=fun ho=>hn4 ((own_setCell hn4 _ _).1 ho)
    have HNd:Hid (∀ W,Ext B (w4.setCell ⟨w1.heap.size,0,none⟩ (.int .i64 2)) W→Blk W w1.heap.size 36 #[.int .i64 2,.string a1,.int .i64 a2,.int .i64 a3,.slice none 0 0,.int .i64 a5]):=fun W hW=>hW.blk hk6 hn6
    have HX7:=Lib.hid (HX2.out.trans hM4.ext)
    have HP7:=Lib.hid (hM4.of HP2.out)
    have HA:=Lib.hid (node_k Hv.out Hc.out 2)
    clear b14 hk4 hn4 hM4 hk6 hn6 hb3 hb4 hse c0 c1 c2 c3 c4 c5 d0 lb lb3 hp1 hp2 HX6 HP2 HX2
    generalize w4.setCell ⟨w1.heap.size,0,none⟩ (.int .i64 2)=W6 at *
    generalize w1.heap.size=g at *
    have HX0:Hid (Ext B w W6.drew):=HX7.out.drew
    have N0:Hid (Now B T E s1 W6.drew W6.drew):=Now.refl HP7.out.drew
    have S1:Hid (∀ W,Ext B W6.drew W→W.cell? ⟨g,0,none⟩=some (.int .i64 2)∧W.cell? ⟨g,1,none⟩=some (.string a1)∧W.cell? ⟨g,2,none⟩=some (.int .i64 a2)∧W.cell? ⟨g,3,none⟩=some (.int .i64 a3)∧W.cell? ⟨g,4,none⟩=some (.slice none 0 0)∧W.cell? ⟨g,5,none⟩=some (.int .i64 a5)):=fun W hW=>(box6 (HNd.out W ((Ext.refl B W6).drew.trans hW))).1
    have S0:=Lib.hid (S1.out _ (Ext.refl _ _))
    clear HNd HX7 HP7
    go_wp2
    have HW0:Hid (∀ W,Now B T E s1 W6.drew W→Calls Tryz.prog 61 #[.pointer (some ⟨B,0,none⟩),.string ⟨#[59]⟩] W fun e w'=>∃ g1 g2,e=.returned (.func (.func 110) #[] #[.pointer (some ⟨g1,0,none⟩),.pointer (some ⟨g2,0,none⟩)])∧Now B T E s1 W6.drew w'∧Ext B W w'∧StepV B T E w' (.func (.func 110) #[] #[.pointer (some ⟨g1,0,none⟩),.pointer (some ⟨g2,0,none⟩)]) (wordF E [59])):=fun W hW=>word_now hW ⟨#[59]⟩
    have HN:Hid (∀ W v1,Now B T E s1 W6.drew W→StepV B T E W v1 (wordF E [59])→Calls Tryz.prog 76 #[.pointer (some ⟨B,2,none⟩),.agg #[.int .i64 2,.string a1,.int .i64 a2,.int .i64 a3,.slice none 0 0,.int .i64 a5],.slice (some ⟨W.heap.size,0,none⟩) 2 2] (W.alloc (.cells #[.func (.func 172) #[.pointer (some ⟨B,0,none⟩)] #[],v1] 57)) (Ends B T E W6.drew r)):=fun W v1 hW h1=>by
      have h:=build_now hW [.func (.func 172) #[.pointer (some ⟨B,0,none⟩)] #[],v1] [initialF E ex,wordF E [59]] rfl (by simp) (step2 (stepFn HIn.out ent115 W) (h1)) ({ x with k:=2 }) Hc.out (by rw [← Hrr.out];exact HR.out) 57
      rw [← Hrr.out] at h
      rw [HA.out] at h
      exact h
    go_region_held3 (fun W=>W.cell? ⟨g,0,none⟩=some (.int .i64 2)∧W.cell? ⟨g,1,none⟩=some (.string a1)∧W.cell? ⟨g,2,none⟩=some (.int .i64 a2)∧W.cell? ⟨g,3,none⟩=some (.int .i64 a3)∧W.cell? ⟨g,4,none⟩=some (.slice none 0 0)∧W.cell? ⟨g,5,none⟩=some (.int .i64 a5))
     (first | exact S0.out | exact S1.out _ hn0.1 | exact S1.out _ (hn0.alloc _).1 | exact S1.out _ hx9)
     (first | (go_at_call 61;first | ((with_reducible refine (HW0.out _ N0.out).mono ?_);rintro e w0_ ⟨q00,q01,rfl,hn0,hx0,hs0⟩)) | (go_at_call 76;refine (HN.out _ _ hn0 hs0).mono ?_;rintro e w9 ⟨v,rfl,hd,hx9⟩))
    all_goals
     have HD:=Lib.hid (did_ext hd HX0.out)
     clear hd hx9
     go_wp2
     (try go_ret)
     rw [HQ.out]
     exact HD.out
  ·have Hrr:Hid (r=buildF { x with k:=2 } [initialF E ex,wordF E [59]] s1):=by have h:=Hrr2.out;rw [if_neg (fun h=>h9 h.1)] at h;exact h
   have H9:=Lib.hid h9
   clear Hrr2 h9 hxn
   go_upto_region 14 with (first | (go_at_call 161;first | ((with_reducible refine hse.mono ?_);rintro e w3 ⟨rfl,hb3⟩;have lb3:w1.heap.size<w3.heap.size:=(by have:=hb3.size;simp at this;omega)) | ((with_reducible refine (sees_nob (hp2.below hb3) ⟨#[91]⟩ rfl H9.out).mono ?_);rintro e w4 ⟨rfl,hb4⟩;obtain ⟨c0,c1,c2,c3,c4,c5,d0,-,-,-,-,-,lb⟩:=box6f (((Blk.new w1 36 #[.int .i64 a0,.string a1,.int .i64 a2,.int .i64 a3,.slice none 0 0,.int .i64 a5]).below hb3 (by simp)).below hb4 lb3))))
   have b14:Below w1.heap.size w1 w4:=(((Below.refl _ _).alloc (Nat.le_refl _) _).trans (hb3.mono (by simp))).trans (hb4.mono (by omega))
   have hk4:Blk w4 w1.heap.size 36 #[.int .i64 a0,.string a1,.int .i64 a2,.int .i64 a3,.slice none 0 0,.int .i64 a5]:=((Blk.new w1 36 #[.int .i64 a0,.string a1,.int .i64 a2,.int .i64 a3,.slice none 0 0,.int .i64 a5]).below hb3 (by simp)).below hb4 lb3
   have hn4:¬ Own B w4 w1.heap.size:=fun ho=>not_own_ge HP2.out (Nat.le_refl _) ((own_same (b14.block B hB2) _).1 ho)
   have hM4:=(Mv.below HP2.out b14).set HP2.out (o:=0) (Nat.le_refl _) hn4 (.int .i64 2)
   have hk6:Blk (w4.setCell ⟨w1.heap.size,0,none⟩ (.int .i64 2)) w1.heap.size 36 #[.int .i64 2,.string a1,.int .i64 a2,.int .i64 a3,.slice none 0 0,.int .i64 a5]:=by have h:=hk4.set_ 0 (.int .i64 2);simpa using h
   have hn6:¬ Own B (w4.setCell ⟨w1.heap.size,0,none⟩ (.int .i64 2)) w1.heap.size:=fun ho=>hn4 ((own_setCell hn4 _ _).1 ho)
   have HNd:Hid (∀ W,Ext B (w4.setCell ⟨w1.heap.size,0,none⟩ (.int .i64 2)) W→Blk W w1.heap.size 36 #[.int .i64 2,.string a1,.int .i64 a2,.int .i64 a3,.slice none 0 0,.int .i64 a5]):=fun W hW=>hW.blk hk6 hn6
   have HX7:=Lib.hid (HX2.out.trans hM4.ext)
   have HP7:=Lib.hid (hM4.of HP2.out)
   have HA:=Lib.hid (node_k Hv.out Hc.out 2)
   clear b14 hk4 hn4 hM4 hk6 hn6 hb3 hb4 hse c0 c1 c2 c3 c4 c5 d0 lb lb3 hp1 hp2 HX6 HP2 HX2
   generalize w4.setCell ⟨w1.heap.size,0,none⟩ (.int .i64 2)=W6 at *
   generalize w1.heap.size=g at *
   have HX0:Hid (Ext B w W6.drew):=HX7.out.drew
   have N0:Hid (Now B T E s1 W6.drew W6.drew):=Now.refl HP7.out.drew
   have S1:Hid (∀ W,Ext B W6.drew W→W.cell? ⟨g,0,none⟩=some (.int .i64 2)∧W.cell? ⟨g,1,none⟩=some (.string a1)∧W.cell? ⟨g,2,none⟩=some (.int .i64 a2)∧W.cell? ⟨g,3,none⟩=some (.int .i64 a3)∧W.cell? ⟨g,4,none⟩=some (.slice none 0 0)∧W.cell? ⟨g,5,none⟩=some (.int .i64 a5)):=fun W hW=>(box6 (HNd.out W ((Ext.refl B W6).drew.trans hW))).1
   have S0:=Lib.hid (S1.out _ (Ext.refl _ _))
   clear HNd HX7 HP7
   go_wp2
   have HW0:Hid (∀ W,Now B T E s1 W6.drew W→Calls Tryz.prog 61 #[.pointer (some ⟨B,0,none⟩),.string ⟨#[59]⟩] W fun e w'=>∃ g1 g2,e=.returned (.func (.func 110) #[] #[.pointer (some ⟨g1,0,none⟩),.pointer (some ⟨g2,0,none⟩)])∧Now B T E s1 W6.drew w'∧Ext B W w'∧StepV B T E w' (.func (.func 110) #[] #[.pointer (some ⟨g1,0,none⟩),.pointer (some ⟨g2,0,none⟩)]) (wordF E [59])):=fun W hW=>word_now hW ⟨#[59]⟩
   have HN:Hid (∀ W v1,Now B T E s1 W6.drew W→StepV B T E W v1 (wordF E [59])→Calls Tryz.prog 76 #[.pointer (some ⟨B,2,none⟩),.agg #[.int .i64 2,.string a1,.int .i64 a2,.int .i64 a3,.slice none 0 0,.int .i64 a5],.slice (some ⟨W.heap.size,0,none⟩) 2 2] (W.alloc (.cells #[.func (.func 172) #[.pointer (some ⟨B,0,none⟩)] #[],v1] 57)) (Ends B T E W6.drew r)):=fun W v1 hW h1=>by
     have h:=build_now hW [.func (.func 172) #[.pointer (some ⟨B,0,none⟩)] #[],v1] [initialF E ex,wordF E [59]] rfl (by simp) (step2 (stepFn HIn.out ent115 W) (h1)) ({ x with k:=2 }) Hc.out (by rw [← Hrr.out];exact HR.out) 57
     rw [← Hrr.out] at h
     rw [HA.out] at h
     exact h
   go_region_held3 (fun W=>W.cell? ⟨g,0,none⟩=some (.int .i64 2)∧W.cell? ⟨g,1,none⟩=some (.string a1)∧W.cell? ⟨g,2,none⟩=some (.int .i64 a2)∧W.cell? ⟨g,3,none⟩=some (.int .i64 a3)∧W.cell? ⟨g,4,none⟩=some (.slice none 0 0)∧W.cell? ⟨g,5,none⟩=some (.int .i64 a5))
    (first | exact S0.out | exact S1.out _ hn0.1 | exact S1.out _ (hn0.alloc _).1 | exact S1.out _ hx9)
    (first | (go_at_call 61;first | ((with_reducible refine (HW0.out _ N0.out).mono ?_);rintro e w0_ ⟨q00,q01,rfl,hn0,hx0,hs0⟩)) | (go_at_call 76;refine (HN.out _ _ hn0 hs0).mono ?_;rintro e w9 ⟨v,rfl,hd,hx9⟩))
   all_goals
    have HD:=Lib.hid (did_ext hd HX0.out)
    clear hd hx9
    go_wp2
    (try go_ret)
    rw [HQ.out]
    exact HD.out
end
section
open Go.RowKit
open Tk (T4 bstr)
open Tr (Nd Blk KidsAt)
theorem compound_fn {B T E n:Nat}{bo ex:F3}{fam:Nat→F3}(hco:FnC B T E 261 (conditionF E ex)) (hbo:FnC B T E 262 bo) (hel:FnC B T E 263 (elseF E bo)) (hst:FnC B T E 264 (startF E ex)) (hex:FnC B T E 29 ex) (hef:FnC B T E 247 (effectF E ex)) (hnn:FnC B T E 246 (nothingF E)) (hit:∀ m,m<n→FnC B T E 266 (fam m)):FnC B T E 244 (compF E bo ex fam n):=fun w s h hr=>by
 unfold compF at hr ⊢
 by_cases h1:(pk E s.L).t=[105,102]
 ·rw [if_pos h1] at hr ⊢;exact comp_if hco hbo hel h h1 hr
 rw [if_neg h1] at hr ⊢
 by_cases h2:(pk E s.L).t=[119,104,105,108,101]
 ·rw [if_pos h2] at hr ⊢;exact comp_while hco hbo h h2 hr
 rw [if_neg h2] at hr ⊢
 by_cases h3:(pk E s.L).t=[100,111]
 ·rw [if_pos h3] at hr ⊢;exact comp_do hco hbo h h3 hr
 rw [if_neg h3] at hr ⊢
 by_cases h4:(pk E s.L).t=[102,111,114]
 ·rw [if_pos h4] at hr ⊢;exact comp_for hbo hst hex hef hnn h h4 hr
 rw [if_neg h4] at hr ⊢
 refine comp_switch hco hit h ?_ hr
 intro l hl e
 rw [e] at h1 h2 h3 h4
 simp only [List.mem_cons,List.not_mem_nil,or_false] at hl
 rcases hl with hl | hl | hl | hl <;> subst hl <;> simp_all
end
section
open Go.RowKit
open Tk (T4 bstr)
open Tr (Nd Blk KidsAt)
structure CallU (B T E n:Nat):Prop where
 block:FnC B T E 206 (runU E n .block)
 action:FnC B T E 233 (runU E n .action)
 body:FnC B T E 262 (runU E n .body)
 compound:FnC B T E 244 (runU E n .compound)
 inSwitch:FnC B T E 266 (runU E n .inSwitch)
 global:FnC B T E 122 (runU E n .global)
theorem fn_out {B T E:Nat}{id:FuncId}{f:F3}(h:∀ s,f s=.out):FnC B T E id f:=fun _ s _ hr=>absurd (h s) hr
theorem globs_eq (E:Nat):∀ n,runU E n .globals=globsF (fun m=>runU E m .global) n
 | 0=>rfl
 | n+1=>by
  funext s
  show (if s.L=[] then R3.ok s else (runU E n .global s).bind (runU E n .globals))=_
  rw [globs_eq E n];rfl
theorem block_eq (E n:Nat):runU E (n+1) .block=blockF E (fun m=>runU E m .action) n:=by
 funext s
 show buildF (mk 11 [] 0 (pk E s.L).a) [fun s=>(wordF E [123] s).bind (runU E n (.braces false))] s=_
 rw [braces_eq];rfl
theorem comp_eq (E n:Nat):runU E (n+1) .compound=compF E (runU E n .body) (runJ E n .expr) (fun m=>runU E m .inSwitch) n:=by
 funext s
 show (if _ then _ else if _ then _ else if _ then _ else if _ then _ else buildF (mk 18 [] 0 (pk E s.L).a) [conditionF E (runJ E n .expr),fun s=>(wordF E [123] s).bind (runU E n (.braces true))] { s with L:=s.L.tail })=_
 rw [braces_eq];rfl
theorem callU {B T E:Nat}:∀ n,CallU B T E n:=by
 intro n
 induction n using Nat.strongRecOn with
 | ind n ih =>
 cases n with
 | zero=>exact ⟨fn_out fun _=>rfl,fn_out fun _=>rfl,fn_out fun _=>rfl,fn_out fun _=>rfl,fn_out fun _=>rfl,fn_out fun _=>rfl⟩
 | succ n =>
  have H:=ih n (Nat.lt_succ_self n)
  have hx:FnC B T E 29 (runJ E n .expr):=fnExpr B T E n
  have hin:=initial_fn hx
  have hlo:=local_fn hin
  have hef:=effect_fn hx
  have hnn:=nothing_fn (B:=B) (T:=T) (E:=E)
  have hco:=condition_fn hx
  refine ⟨?_,?_,?_,?_,?_,?_⟩
  ·rw [block_eq];exact block_fn fun m hm=>(ih m (by omega)).action
  ·exact action_fn H.block H.compound hlo (told_fn hx) hnn hef
  ·exact body_fn H.block H.action
  ·rw [comp_eq]
   exact compound_fn hco H.body (else_fn H.body) (start_fn hlo hef hnn) hx hef hnn (fun m hm=>(ih m (by omega)).inSwitch)
  ·exact inSwitch_fn H.action hx
  ·have hfn:NdC B T E 169 (fun x s=>buildF { x with k:=3 } [listF E [40] [41] (fun _=>paramF E) n,runU E n .block] s):=fun a0 a1 a2 a3 a5 x hv hc w s h hr=>function_any param_fn H.block hv hc h hr
   have har:NdC B T E 171 (fun x=>arrayF E x (fun m=>runJ E m .expr) n):=array_fn (fun m _=>fnExpr B T E m)
   intro w s h hr
   by_cases ht:(pk E s.L).t=[118,111,105,100]
   ·exact glob_void (n:=n) (ex:=runJ E n .expr) (fam:=fun m=>runJ E m .expr) hfn h ht hr
   ·exact glob_rest hfn har hin h ht hr
theorem fnUnit (B T E n:Nat):FnC B T E 37 (unitF E n):=by
 unfold unitF
 rw [globs_eq]
 exact unit_fn (globals_fn fun m _=>(callU m).global)
end
end Go.Proofs.YtbjacclfhgnffaaGreatDoor
