/-
  Joined texts of this claim: Ula, Um, Uo, Ulc.
-/
import Derived.Test.YtdjpopebeenlmaaGreatDoorW00
import Derived.Test.YtdjpopebeenlmaaGreatDoorW18
import Derived.Test.YtdjpopebeenlmaaGreatDoorW16
set_option maxHeartbeats 40000000
set_option maxRecDepth 100000
set_option linter.unusedVariables false
set_option linter.unusedSimpArgs false
namespace Go.Proofs.YtdjpopebeenlmaaGreatDoor
section
open Go.RowKit
open Tk (T4 bstr)
open Tr (Nd Blk KidsAt)

set_option maxHeartbeats 16000000 in
set_option maxRecDepth 100000 in
theorem comp_for {B T E:Nat}{bo ex:F3}(hbo:FnC B T E 281 bo) (hst:FnC B T E 283 (startF E ex)) (hex:FnC B T E 40 ex) (hef:FnC B T E 267 (effectF E ex)) (hnn:FnC B T E 266 (nothingF E)) {w:World}{s:S3}(h:Ps B T E w s) (ht:(pk E s.L).t=[102,111,114]) (hr:buildF (mk 17 [] 0 (pk E s.L).a) [wordF E [40],startF E ex,wordF E [59],unlessF E [59] ex,wordF E [59],unlessF E [41] (effectF E ex),wordF E [41],bo] { s with L:=s.L.tail }≠.out):Calls Tryz.prog 264 #[.pointer (some ⟨B,0,none⟩)] w (Did B T E w (buildF (mk 17 [] 0 (pk E s.L).a) [wordF E [40],startF E ex,wordF E [59],unlessF E [59] ex,wordF E [59],unlessF E [41] (effectF E ex),wordF E [41],bo] { s with L:=s.L.tail })):=by
  obtain ⟨r,hrr⟩ : ∃ r,r=buildF (mk 17 [] 0 (pk E s.L).a) [wordF E [40],startF E ex,wordF E [59],unlessF E [59] ex,wordF E [59],unlessF E [41] (effectF E ex),wordF E [41],bo] { s with L:=s.L.tail }:=⟨_,rfl⟩
  rw [← hrr] at hr ⊢
  obtain ⟨Q,hQ⟩ : ∃ Q:Ending→World→Prop,Q=Did B T E w r:=⟨_,rfl⟩
  rw [← hQ]
  have HQ:=Lib.hid hQ
  have HR:=Lib.hid hr
  have hB:=h.lt
  clear hQ hr
  have HP:=Lib.hid h
  have hpk:=take_any h
  unfold tokV at hpk
  obtain ⟨t,ht'⟩ : ∃ t,t=pk E s.L:=⟨_,rfl⟩
  obtain ⟨x,hxx⟩ : ∃ x,x=bstr t.t:=⟨_,rfl⟩
  rw [← ht',← hxx] at hpk
  rw [← ht'] at ht hrr
  have q0:=txt_no (l:=[105,102]) hxx (by rw [ht];decide)
  have q1:=txt_no (l:=[119,104,105,108,101]) hxx (by rw [ht];decide)
  have q2:=txt_no (l:=[100,111]) hxx (by rw [ht];decide)
  have q3:=txt_yes (l:=[102,111,114]) hxx ht
  have Hrr:Hid (r=_):=hrr
  clear ht ht' hxx hrr h
  go_enter Tryz.func264,Tryz.ntmps264
  go_wp2_with (go_at_call 129;refine hpk.mono ?_;rintro e w1 ⟨rfl,hx1,hp1⟩)
  have hp2:=hp1.alloc (.cells #[.int .i64 t.k,.string x,.int .i64 t.v,.int .i64 t.a] 58)
  have hB2:=hp2.lt
  have hx2:=hx1.alloc hB (.cells #[.int .i64 t.k,.string x,.int .i64 t.v,.int .i64 t.a] 58)
  have hnd:=node_far (t:=34) (cs:=#[.int .i64 17,.string ⟨#[]⟩,.int .i64 0,.int .i64 0,.slice none 0 0,.int .i64 t.a]) hp2
  rw [World.size_alloc] at hnd
  have HNd:=Lib.hid hnd
  have HX6:=Lib.hid (hx2.alloc hB (.cells #[.int .i64 17,.string ⟨#[]⟩,.int .i64 0,.int .i64 0,.slice none 0 0,.int .i64 t.a] 34))
  have HP6:=Lib.hid (hp2.alloc (.cells #[.int .i64 17,.string ⟨#[]⟩,.int .i64 0,.int .i64 0,.slice none 0 0,.int .i64 t.a] 34))
  clear hp1 hx1 hp2 hx2 hpk HP hnd
  generalize (w1.alloc (.cells #[.int .i64 t.k,.string x,.int .i64 t.v,.int .i64 t.a] 58)).alloc (.cells #[.int .i64 17,.string ⟨#[]⟩,.int .i64 0,.int .i64 0,.slice none 0 0,.int .i64 t.a] 34)=W6 at *
  generalize w1.heap.size+1=g5 at *
  have HX0:Hid (Ext B w W6.drew):=HX6.out.drew
  have N0:Hid (Now B T E { s with L:=s.L.tail } W6.drew W6.drew):=Now.refl HP6.out.drew
  have S1:Hid (∀ W,Ext B W6.drew W→W.cell? ⟨g5,0,none⟩=some (.int .i64 17)∧W.cell? ⟨g5,1,none⟩=some (.string ⟨#[]⟩)∧W.cell? ⟨g5,2,none⟩=some (.int .i64 0)∧W.cell? ⟨g5,3,none⟩=some (.int .i64 0)∧W.cell? ⟨g5,4,none⟩=some (.slice none 0 0)∧W.cell? ⟨g5,5,none⟩=some (.int .i64 t.a)):=fun W hW=>(box6 (HNd.out W ((Ext.refl B W6).drew.trans hW))).1
  have S0:=Lib.hid (S1.out _ (Ext.refl _ _))
  clear HNd HX6 HP6

  go_wp2
  have HW0:Hid (∀ W,Now B T E { s with L:=s.L.tail } W6.drew W→Calls Tryz.prog 77 #[.pointer (some ⟨B,0,none⟩),.string ⟨#[40]⟩] W fun e w'=>∃ g1 g2,e=.returned (.func (.func 133) #[] #[.pointer (some ⟨g1,0,none⟩),.pointer (some ⟨g2,0,none⟩)])∧Now B T E { s with L:=s.L.tail } W6.drew w'∧Ext B W w'∧StepV B T E w' (.func (.func 133) #[] #[.pointer (some ⟨g1,0,none⟩),.pointer (some ⟨g2,0,none⟩)]) (wordF E [40])):=fun W hW=>word_now hW ⟨#[40]⟩
  have HW1:Hid (∀ W,Now B T E { s with L:=s.L.tail } W6.drew W→Calls Tryz.prog 77 #[.pointer (some ⟨B,0,none⟩),.string ⟨#[59]⟩] W fun e w'=>∃ g1 g2,e=.returned (.func (.func 133) #[] #[.pointer (some ⟨g1,0,none⟩),.pointer (some ⟨g2,0,none⟩)])∧Now B T E { s with L:=s.L.tail } W6.drew w'∧Ext B W w'∧StepV B T E w' (.func (.func 133) #[] #[.pointer (some ⟨g1,0,none⟩),.pointer (some ⟨g2,0,none⟩)]) (wordF E [59])):=fun W hW=>word_now hW ⟨#[59]⟩
  have HW2:Hid (∀ W,Now B T E { s with L:=s.L.tail } W6.drew W→Calls Tryz.prog 284 #[.pointer (some ⟨B,0,none⟩),.string ⟨#[59]⟩,.func (.func 40) #[.pointer (some ⟨B,0,none⟩)] #[]] W fun e w'=>∃ g1 g2 g3,e=.returned (.func (.func 290) #[] #[.pointer (some ⟨g1,0,none⟩),.pointer (some ⟨g2,0,none⟩),.pointer (some ⟨g3,0,none⟩)])∧Now B T E { s with L:=s.L.tail } W6.drew w'∧Ext B W w'∧StepV B T E w' (.func (.func 290) #[] #[.pointer (some ⟨g1,0,none⟩),.pointer (some ⟨g2,0,none⟩),.pointer (some ⟨g3,0,none⟩)]) (unlessF E [59] ex)):=fun W hW=>unless_now hW ⟨#[59]⟩ rfl ex 40 ent21 hex hnn
  have HW3:Hid (∀ W,Now B T E { s with L:=s.L.tail } W6.drew W→Calls Tryz.prog 77 #[.pointer (some ⟨B,0,none⟩),.string ⟨#[59]⟩] W fun e w'=>∃ g1 g2,e=.returned (.func (.func 133) #[] #[.pointer (some ⟨g1,0,none⟩),.pointer (some ⟨g2,0,none⟩)])∧Now B T E { s with L:=s.L.tail } W6.drew w'∧Ext B W w'∧StepV B T E w' (.func (.func 133) #[] #[.pointer (some ⟨g1,0,none⟩),.pointer (some ⟨g2,0,none⟩)]) (wordF E [59])):=fun W hW=>word_now hW ⟨#[59]⟩
  have HW4:Hid (∀ W,Now B T E { s with L:=s.L.tail } W6.drew W→Calls Tryz.prog 284 #[.pointer (some ⟨B,0,none⟩),.string ⟨#[41]⟩,.func (.func 267) #[.pointer (some ⟨B,0,none⟩)] #[]] W fun e w'=>∃ g1 g2 g3,e=.returned (.func (.func 290) #[] #[.pointer (some ⟨g1,0,none⟩),.pointer (some ⟨g2,0,none⟩),.pointer (some ⟨g3,0,none⟩)])∧Now B T E { s with L:=s.L.tail } W6.drew w'∧Ext B W w'∧StepV B T E w' (.func (.func 290) #[] #[.pointer (some ⟨g1,0,none⟩),.pointer (some ⟨g2,0,none⟩),.pointer (some ⟨g3,0,none⟩)]) (unlessF E [41] (effectF E ex))):=fun W hW=>unless_now hW ⟨#[41]⟩ rfl (effectF E ex) 267 ent178 hef hnn
  have HW5:Hid (∀ W,Now B T E { s with L:=s.L.tail } W6.drew W→Calls Tryz.prog 77 #[.pointer (some ⟨B,0,none⟩),.string ⟨#[41]⟩] W fun e w'=>∃ g1 g2,e=.returned (.func (.func 133) #[] #[.pointer (some ⟨g1,0,none⟩),.pointer (some ⟨g2,0,none⟩)])∧Now B T E { s with L:=s.L.tail } W6.drew w'∧Ext B W w'∧StepV B T E w' (.func (.func 133) #[] #[.pointer (some ⟨g1,0,none⟩),.pointer (some ⟨g2,0,none⟩)]) (wordF E [41])):=fun W hW=>word_now hW ⟨#[41]⟩
  have HN:Hid (∀ W v0 v2 v3 v4 v5 v6,Now B T E { s with L:=s.L.tail } W6.drew W→StepV B T E W v0 (wordF E [40])→StepV B T E W v2 (wordF E [59])→StepV B T E W v3 (unlessF E [59] ex)→StepV B T E W v4 (wordF E [59])→StepV B T E W v5 (unlessF E [41] (effectF E ex))→StepV B T E W v6 (wordF E [41])→Calls Tryz.prog 70 #[.pointer (some ⟨B,2,none⟩),.agg #[.int .i64 17,.string ⟨#[]⟩,.int .i64 0,.int .i64 0,.slice none 0 0,.int .i64 t.a],.slice (some ⟨W.heap.size,0,none⟩) 8 8] (W.alloc (.cells #[v0,.func (.func 283) #[.pointer (some ⟨B,0,none⟩)] #[],v2,v3,v4,v5,v6,.func (.func 281) #[.pointer (some ⟨B,0,none⟩)] #[]] 70)) (Ends B T E W6.drew r)):=fun W v0 v2 v3 v4 v5 v6 hW h0 h2 h3 h4 h5 h6=>by
      have h:=build_now hW [v0,.func (.func 283) #[.pointer (some ⟨B,0,none⟩)] #[],v2,v3,v4,v5,v6,.func (.func 281) #[.pointer (some ⟨B,0,none⟩)] #[]] [wordF E [40],startF E ex,wordF E [59],unlessF E [59] ex,wordF E [59],unlessF E [41] (effectF E ex),wordF E [41],bo] rfl (by simp) (step8 (h0) (stepFn hst ent191 W) (h2) (h3) (h4) (h5) (h6) (stepFn hbo ent189 W)) (mk 17 [] 0 t.a) rfl (by rw [← Hrr.out];exact HR.out) 70
      rw [← Hrr.out] at h
      exact h
  refine wp_region_noPanic ?_
  refine wp_region_held_drew (S:=(fun W=>W.cell? ⟨g5,0,none⟩=some (.int .i64 17)∧W.cell? ⟨g5,1,none⟩=some (.string ⟨#[]⟩)∧W.cell? ⟨g5,2,none⟩=some (.int .i64 0)∧W.cell? ⟨g5,3,none⟩=some (.int .i64 0)∧W.cell? ⟨g5,4,none⟩=some (.slice none 0 0)∧W.cell? ⟨g5,5,none⟩=some (.int .i64 t.a))) (by kernel_rfl) S0.out (fun hHeld=>?_)
  refine wpAnyH_take (i := 0) (oi := { dst := some 72, op := Go.Op.move (Go.Operand.tmp 0), type := 98, pos := "action.go:70", after := #[], guard := none }) (v := ?_) rfl (by kernel_rfl) (by kernel_rfl) (by kernel_rfl) (fun _ _ _ h => h) (Or.inl ⟨by rfl, ?_⟩) (by assumption) ?_
  rotate_left
  · intro w hSw;(try dsimp only at hSw);go_simp;(try with_reducible rfl)
  (try simp only [Act.put,List.setIfInBounds_toArray,List.set_cons_zero,List.set_cons_succ])
  refine wpAnyH_take (i := 1) (oi := { dst := some 73, op := Go.Op.nilCheck (Go.Operand.tmp 72), type := 0, pos := "action.go:70", after := #[{ on := 0, ground := Go.Ground.data }], guard := none }) (v := ?_) rfl (by kernel_rfl) (by kernel_rfl) (by kernel_rfl) (fun _ _ _ h => h) (Or.inl ⟨by rfl, ?_⟩) (by assumption) ?_
  rotate_left
  · intro w hSw;(try dsimp only at hSw);go_simp;(try with_reducible rfl)
  (try simp only [Act.put,List.setIfInBounds_toArray,List.set_cons_zero,List.set_cons_succ])
  refine wpAnyH_take (i := 2) (oi := { dst := some 74, op := Go.Op.fieldAddr 66 (Go.Operand.tmp 73) 0, type := 0, pos := "action.go:70", after := #[{ on := 1, ground := Go.Ground.data }], guard := none }) (v := ?_) rfl (by kernel_rfl) (by kernel_rfl) (by kernel_rfl) (fun _ _ _ h => h) (Or.inl ⟨by rfl, ?_⟩) (by assumption) ?_
  rotate_left
  · intro w hSw;(try dsimp only at hSw);go_simp;(try with_reducible rfl)
  (try simp only [Act.put,List.setIfInBounds_toArray,List.set_cons_zero,List.set_cons_succ])
  refine wpAnyH_take (i := 3) (oi := { dst := some 75, op := Go.Op.fieldAddr 64 (Go.Operand.tmp 74) 1, type := 0, pos := "action.go:70", after := #[{ on := 2, ground := Go.Ground.data }], guard := none }) (v := ?_) rfl (by kernel_rfl) (by kernel_rfl) (by kernel_rfl) (fun _ _ _ h => h) (Or.inl ⟨by rfl, ?_⟩) (by assumption) ?_
  rotate_left
  · intro w hSw;(try dsimp only at hSw);go_simp;(try with_reducible rfl)
  (try simp only [Act.put,List.setIfInBounds_toArray,List.set_cons_zero,List.set_cons_succ])
  refine wpAnyH_take (i := 4) (oi := { dst := some 76, op := Go.Op.load 34 (Go.Operand.tmp 4), type := 34, pos := "action.go:70", after := #[], guard := none }) (v := ?_) rfl (by kernel_rfl) (by kernel_rfl) (by kernel_rfl) (fun _ _ _ h => h) (Or.inl ⟨by rfl, ?_⟩) (by assumption) ?_
  rotate_left
  · intro w hSw;(try dsimp only at hSw);go_simp;(try with_reducible rfl)
  (try simp only [Act.put,List.setIfInBounds_toArray,List.set_cons_zero,List.set_cons_succ])
  refine wpAnyH_take (i := 5) (oi := { dst := some 77, op := Go.Op.move (Go.Operand.tmp 0), type := 98, pos := "action.go:70", after := #[], guard := none }) (v := ?_) rfl (by kernel_rfl) (by kernel_rfl) (by kernel_rfl) (fun _ _ _ h => h) (Or.inl ⟨by rfl, ?_⟩) (by assumption) ?_
  rotate_left
  · intro w hSw;(try dsimp only at hSw);go_simp;(try with_reducible rfl)
  (try simp only [Act.put,List.setIfInBounds_toArray,List.set_cons_zero,List.set_cons_succ])
  refine wpAnyH_take (i := 6) (oi := { dst := some 78, op := Go.Op.nilCheck (Go.Operand.tmp 77), type := 0, pos := "action.go:70", after := #[{ on := 5, ground := Go.Ground.data }], guard := none }) (v := ?_) rfl (by kernel_rfl) (by kernel_rfl) (by kernel_rfl) (fun _ _ _ h => h) (Or.inl ⟨by rfl, ?_⟩) (by assumption) ?_
  rotate_left
  · intro w hSw;(try dsimp only at hSw);go_simp;(try with_reducible rfl)
  (try simp only [Act.put,List.setIfInBounds_toArray,List.set_cons_zero,List.set_cons_succ])
  refine wpAnyH_take (i := 7) (oi := { dst := some 79, op := Go.Op.fieldAddr 66 (Go.Operand.tmp 78) 0, type := 0, pos := "action.go:70", after := #[{ on := 6, ground := Go.Ground.data }], guard := none }) (v := ?_) rfl (by kernel_rfl) (by kernel_rfl) (by kernel_rfl) (fun _ _ _ h => h) (Or.inl ⟨by rfl, ?_⟩) (by assumption) ?_
  rotate_left
  · intro w hSw;(try dsimp only at hSw);go_simp;(try with_reducible rfl)
  (try simp only [Act.put,List.setIfInBounds_toArray,List.set_cons_zero,List.set_cons_succ])
  refine wpAnyH_take (i := 8) (oi := { dst := some 80, op := Go.Op.fieldAddr 64 (Go.Operand.tmp 79) 0, type := 0, pos := "action.go:70", after := #[{ on := 7, ground := Go.Ground.data }], guard := none }) (v := ?_) rfl (by kernel_rfl) (by kernel_rfl) (by kernel_rfl) (fun _ _ _ h => h) (Or.inl ⟨by rfl, ?_⟩) (by assumption) ?_
  rotate_left
  · intro w hSw;(try dsimp only at hSw);go_simp;(try with_reducible rfl)
  (try simp only [Act.put,List.setIfInBounds_toArray,List.set_cons_zero,List.set_cons_succ])
  refine wpAnyH_take (i := 10) (oi := { dst := some 82, op := Go.Op.move (Go.Operand.tmp 0), type := 98, pos := "action.go:70", after := #[], guard := none }) (v := ?_) rfl (by kernel_rfl) (by kernel_rfl) (by kernel_rfl) (fun _ _ _ h => h) (Or.inl ⟨by rfl, ?_⟩) (by assumption) ?_
  rotate_left
  · intro w hSw;(try dsimp only at hSw);go_simp;(try with_reducible rfl)
  (try simp only [Act.put,List.setIfInBounds_toArray,List.set_cons_zero,List.set_cons_succ])
  refine wpAnyH_take (i := 11) (oi := { dst := some 83, op := Go.Op.makeFunc (Go.Fn.func 283) #[Go.Operand.tmp 82] #[], type := 70, pos := "action.go:70", after := #[{ on := 10, ground := Go.Ground.data }], guard := none }) (v := ?_) rfl (by kernel_rfl) (by kernel_rfl) (by kernel_rfl) (fun _ _ _ h => h) (Or.inl ⟨by rfl, ?_⟩) (by assumption) ?_
  rotate_left
  · intro w hSw;(try dsimp only at hSw);go_simp;(try with_reducible rfl)
  (try simp only [Act.put,List.setIfInBounds_toArray,List.set_cons_zero,List.set_cons_succ])
  refine wpAnyH_take (i := 12) (oi := { dst := some 84, op := Go.Op.move (Go.Operand.tmp 0), type := 98, pos := "action.go:70", after := #[], guard := none }) (v := ?_) rfl (by kernel_rfl) (by kernel_rfl) (by kernel_rfl) (fun _ _ _ h => h) (Or.inl ⟨by rfl, ?_⟩) (by assumption) ?_
  rotate_left
  · intro w hSw;(try dsimp only at hSw);go_simp;(try with_reducible rfl)
  (try simp only [Act.put,List.setIfInBounds_toArray,List.set_cons_zero,List.set_cons_succ])
  refine wpAnyH_take (i := 13) (oi := { dst := some 85, op := Go.Op.nilCheck (Go.Operand.tmp 84), type := 0, pos := "action.go:70", after := #[{ on := 12, ground := Go.Ground.data }], guard := none }) (v := ?_) rfl (by kernel_rfl) (by kernel_rfl) (by kernel_rfl) (fun _ _ _ h => h) (Or.inl ⟨by rfl, ?_⟩) (by assumption) ?_
  rotate_left
  · intro w hSw;(try dsimp only at hSw);go_simp;(try with_reducible rfl)
  (try simp only [Act.put,List.setIfInBounds_toArray,List.set_cons_zero,List.set_cons_succ])
  refine wpAnyH_take (i := 14) (oi := { dst := some 86, op := Go.Op.fieldAddr 66 (Go.Operand.tmp 85) 0, type := 0, pos := "action.go:70", after := #[{ on := 13, ground := Go.Ground.data }], guard := none }) (v := ?_) rfl (by kernel_rfl) (by kernel_rfl) (by kernel_rfl) (fun _ _ _ h => h) (Or.inl ⟨by rfl, ?_⟩) (by assumption) ?_
  rotate_left
  · intro w hSw;(try dsimp only at hSw);go_simp;(try with_reducible rfl)
  (try simp only [Act.put,List.setIfInBounds_toArray,List.set_cons_zero,List.set_cons_succ])
  refine wpAnyH_take (i := 15) (oi := { dst := some 87, op := Go.Op.fieldAddr 64 (Go.Operand.tmp 86) 0, type := 0, pos := "action.go:70", after := #[{ on := 14, ground := Go.Ground.data }], guard := none }) (v := ?_) rfl (by kernel_rfl) (by kernel_rfl) (by kernel_rfl) (fun _ _ _ h => h) (Or.inl ⟨by rfl, ?_⟩) (by assumption) ?_
  rotate_left
  · intro w hSw;(try dsimp only at hSw);go_simp;(try with_reducible rfl)
  (try simp only [Act.put,List.setIfInBounds_toArray,List.set_cons_zero,List.set_cons_succ])
  refine wpAnyH_take (i := 17) (oi := { dst := some 89, op := Go.Op.move (Go.Operand.tmp 0), type := 98, pos := "action.go:70", after := #[], guard := none }) (v := ?_) rfl (by kernel_rfl) (by kernel_rfl) (by kernel_rfl) (fun _ _ _ h => h) (Or.inl ⟨by rfl, ?_⟩) (by assumption) ?_
  rotate_left
  · intro w hSw;(try dsimp only at hSw);go_simp;(try with_reducible rfl)
  (try simp only [Act.put,List.setIfInBounds_toArray,List.set_cons_zero,List.set_cons_succ])
  refine wpAnyH_take (i := 18) (oi := { dst := some 90, op := Go.Op.move (Go.Operand.tmp 0), type := 98, pos := "action.go:70", after := #[], guard := none }) (v := ?_) rfl (by kernel_rfl) (by kernel_rfl) (by kernel_rfl) (fun _ _ _ h => h) (Or.inl ⟨by rfl, ?_⟩) (by assumption) ?_
  rotate_left
  · intro w hSw;(try dsimp only at hSw);go_simp;(try with_reducible rfl)
  (try simp only [Act.put,List.setIfInBounds_toArray,List.set_cons_zero,List.set_cons_succ])
  refine wpAnyH_take (i := 19) (oi := { dst := some 91, op := Go.Op.nilCheck (Go.Operand.tmp 90), type := 0, pos := "action.go:70", after := #[{ on := 18, ground := Go.Ground.data }], guard := none }) (v := ?_) rfl (by kernel_rfl) (by kernel_rfl) (by kernel_rfl) (fun _ _ _ h => h) (Or.inl ⟨by rfl, ?_⟩) (by assumption) ?_
  rotate_left
  · intro w hSw;(try dsimp only at hSw);go_simp;(try with_reducible rfl)
  (try simp only [Act.put,List.setIfInBounds_toArray,List.set_cons_zero,List.set_cons_succ])
  refine wpAnyH_take (i := 20) (oi := { dst := some 92, op := Go.Op.fieldAddr 66 (Go.Operand.tmp 91) 0, type := 0, pos := "action.go:70", after := #[{ on := 19, ground := Go.Ground.data }], guard := none }) (v := ?_) rfl (by kernel_rfl) (by kernel_rfl) (by kernel_rfl) (fun _ _ _ h => h) (Or.inl ⟨by rfl, ?_⟩) (by assumption) ?_
  rotate_left
  · intro w hSw;(try dsimp only at hSw);go_simp;(try with_reducible rfl)
  (try simp only [Act.put,List.setIfInBounds_toArray,List.set_cons_zero,List.set_cons_succ])
  refine wpAnyH_take (i := 21) (oi := { dst := some 93, op := Go.Op.makeFunc (Go.Fn.func 40) #[Go.Operand.tmp 92] #[], type := 70, pos := "action.go:70", after := #[{ on := 20, ground := Go.Ground.data }], guard := none }) (v := ?_) rfl (by kernel_rfl) (by kernel_rfl) (by kernel_rfl) (fun _ _ _ h => h) (Or.inl ⟨by rfl, ?_⟩) (by assumption) ?_
  rotate_left
  · intro w hSw;(try dsimp only at hSw);go_simp;(try with_reducible rfl)
  (try simp only [Act.put,List.setIfInBounds_toArray,List.set_cons_zero,List.set_cons_succ])
  refine wpAnyH_take (i := 23) (oi := { dst := some 95, op := Go.Op.move (Go.Operand.tmp 0), type := 98, pos := "action.go:70", after := #[], guard := none }) (v := ?_) rfl (by kernel_rfl) (by kernel_rfl) (by kernel_rfl) (fun _ _ _ h => h) (Or.inl ⟨by rfl, ?_⟩) (by assumption) ?_
  rotate_left
  · intro w hSw;(try dsimp only at hSw);go_simp;(try with_reducible rfl)
  (try simp only [Act.put,List.setIfInBounds_toArray,List.set_cons_zero,List.set_cons_succ])
  refine wpAnyH_take (i := 24) (oi := { dst := some 96, op := Go.Op.nilCheck (Go.Operand.tmp 95), type := 0, pos := "action.go:70", after := #[{ on := 23, ground := Go.Ground.data }], guard := none }) (v := ?_) rfl (by kernel_rfl) (by kernel_rfl) (by kernel_rfl) (fun _ _ _ h => h) (Or.inl ⟨by rfl, ?_⟩) (by assumption) ?_
  rotate_left
  · intro w hSw;(try dsimp only at hSw);go_simp;(try with_reducible rfl)
  (try simp only [Act.put,List.setIfInBounds_toArray,List.set_cons_zero,List.set_cons_succ])
  refine wpAnyH_take (i := 25) (oi := { dst := some 97, op := Go.Op.fieldAddr 66 (Go.Operand.tmp 96) 0, type := 0, pos := "action.go:70", after := #[{ on := 24, ground := Go.Ground.data }], guard := none }) (v := ?_) rfl (by kernel_rfl) (by kernel_rfl) (by kernel_rfl) (fun _ _ _ h => h) (Or.inl ⟨by rfl, ?_⟩) (by assumption) ?_
  rotate_left
  · intro w hSw;(try dsimp only at hSw);go_simp;(try with_reducible rfl)
  (try simp only [Act.put,List.setIfInBounds_toArray,List.set_cons_zero,List.set_cons_succ])
  refine wpAnyH_take (i := 26) (oi := { dst := some 98, op := Go.Op.fieldAddr 64 (Go.Operand.tmp 97) 0, type := 0, pos := "action.go:70", after := #[{ on := 25, ground := Go.Ground.data }], guard := none }) (v := ?_) rfl (by kernel_rfl) (by kernel_rfl) (by kernel_rfl) (fun _ _ _ h => h) (Or.inl ⟨by rfl, ?_⟩) (by assumption) ?_
  rotate_left
  · intro w hSw;(try dsimp only at hSw);go_simp;(try with_reducible rfl)
  (try simp only [Act.put,List.setIfInBounds_toArray,List.set_cons_zero,List.set_cons_succ])
  refine wpAnyH_take (i := 28) (oi := { dst := some 100, op := Go.Op.move (Go.Operand.tmp 0), type := 98, pos := "action.go:70", after := #[], guard := none }) (v := ?_) rfl (by kernel_rfl) (by kernel_rfl) (by kernel_rfl) (fun _ _ _ h => h) (Or.inl ⟨by rfl, ?_⟩) (by assumption) ?_
  rotate_left
  · intro w hSw;(try dsimp only at hSw);go_simp;(try with_reducible rfl)
  (try simp only [Act.put,List.setIfInBounds_toArray,List.set_cons_zero,List.set_cons_succ])
  refine wpAnyH_take (i := 29) (oi := { dst := some 101, op := Go.Op.move (Go.Operand.tmp 0), type := 98, pos := "action.go:70", after := #[], guard := none }) (v := ?_) rfl (by kernel_rfl) (by kernel_rfl) (by kernel_rfl) (fun _ _ _ h => h) (Or.inl ⟨by rfl, ?_⟩) (by assumption) ?_
  rotate_left
  · intro w hSw;(try dsimp only at hSw);go_simp;(try with_reducible rfl)
  (try simp only [Act.put,List.setIfInBounds_toArray,List.set_cons_zero,List.set_cons_succ])
  refine wpAnyH_take (i := 30) (oi := { dst := some 102, op := Go.Op.makeFunc (Go.Fn.func 267) #[Go.Operand.tmp 101] #[], type := 70, pos := "action.go:70", after := #[{ on := 29, ground := Go.Ground.data }], guard := none }) (v := ?_) rfl (by kernel_rfl) (by kernel_rfl) (by kernel_rfl) (fun _ _ _ h => h) (Or.inl ⟨by rfl, ?_⟩) (by assumption) ?_
  rotate_left
  · intro w hSw;(try dsimp only at hSw);go_simp;(try with_reducible rfl)
  (try simp only [Act.put,List.setIfInBounds_toArray,List.set_cons_zero,List.set_cons_succ])
  refine wpAnyH_take (i := 32) (oi := { dst := some 104, op := Go.Op.move (Go.Operand.tmp 0), type := 98, pos := "action.go:70", after := #[], guard := none }) (v := ?_) rfl (by kernel_rfl) (by kernel_rfl) (by kernel_rfl) (fun _ _ _ h => h) (Or.inl ⟨by rfl, ?_⟩) (by assumption) ?_
  rotate_left
  · intro w hSw;(try dsimp only at hSw);go_simp;(try with_reducible rfl)
  (try simp only [Act.put,List.setIfInBounds_toArray,List.set_cons_zero,List.set_cons_succ])
  refine wpAnyH_take (i := 33) (oi := { dst := some 105, op := Go.Op.nilCheck (Go.Operand.tmp 104), type := 0, pos := "action.go:70", after := #[{ on := 32, ground := Go.Ground.data }], guard := none }) (v := ?_) rfl (by kernel_rfl) (by kernel_rfl) (by kernel_rfl) (fun _ _ _ h => h) (Or.inl ⟨by rfl, ?_⟩) (by assumption) ?_
  rotate_left
  · intro w hSw;(try dsimp only at hSw);go_simp;(try with_reducible rfl)
  (try simp only [Act.put,List.setIfInBounds_toArray,List.set_cons_zero,List.set_cons_succ])
  refine wpAnyH_take (i := 34) (oi := { dst := some 106, op := Go.Op.fieldAddr 66 (Go.Operand.tmp 105) 0, type := 0, pos := "action.go:70", after := #[{ on := 33, ground := Go.Ground.data }], guard := none }) (v := ?_) rfl (by kernel_rfl) (by kernel_rfl) (by kernel_rfl) (fun _ _ _ h => h) (Or.inl ⟨by rfl, ?_⟩) (by assumption) ?_
  rotate_left
  · intro w hSw;(try dsimp only at hSw);go_simp;(try with_reducible rfl)
  (try simp only [Act.put,List.setIfInBounds_toArray,List.set_cons_zero,List.set_cons_succ])
  refine wpAnyH_take (i := 35) (oi := { dst := some 107, op := Go.Op.fieldAddr 64 (Go.Operand.tmp 106) 0, type := 0, pos := "action.go:70", after := #[{ on := 34, ground := Go.Ground.data }], guard := none }) (v := ?_) rfl (by kernel_rfl) (by kernel_rfl) (by kernel_rfl) (fun _ _ _ h => h) (Or.inl ⟨by rfl, ?_⟩) (by assumption) ?_
  rotate_left
  · intro w hSw;(try dsimp only at hSw);go_simp;(try with_reducible rfl)
  (try simp only [Act.put,List.setIfInBounds_toArray,List.set_cons_zero,List.set_cons_succ])
  refine wpAnyH_take (i := 37) (oi := { dst := some 109, op := Go.Op.move (Go.Operand.tmp 0), type := 98, pos := "action.go:70", after := #[], guard := none }) (v := ?_) rfl (by kernel_rfl) (by kernel_rfl) (by kernel_rfl) (fun _ _ _ h => h) (Or.inl ⟨by rfl, ?_⟩) (by assumption) ?_
  rotate_left
  · intro w hSw;(try dsimp only at hSw);go_simp;(try with_reducible rfl)
  (try simp only [Act.put,List.setIfInBounds_toArray,List.set_cons_zero,List.set_cons_succ])
  refine wpAnyH_take (i := 38) (oi := { dst := some 110, op := Go.Op.makeFunc (Go.Fn.func 281) #[Go.Operand.tmp 109] #[], type := 70, pos := "action.go:70", after := #[{ on := 37, ground := Go.Ground.data }], guard := none }) (v := ?_) rfl (by kernel_rfl) (by kernel_rfl) (by kernel_rfl) (fun _ _ _ h => h) (Or.inl ⟨by rfl, ?_⟩) (by assumption) ?_
  rotate_left
  · intro w hSw;(try dsimp only at hSw);go_simp;(try with_reducible rfl)
  (try simp only [Act.put,List.setIfInBounds_toArray,List.set_cons_zero,List.set_cons_succ])
  refine wpAnyH_ready (rs:=[9]) (by kernel_rfl) (by simp) ?_
  refine AllReadyH.cons (o := { dst := some 81, op := Go.Op.call { callee := Go.Callee.value (Go.Operand.func 77), args := #[Go.Operand.tmp 80, Go.Operand.const (Go.Value.string { data := #[40] })], argTypes := #[60, 9] }, type := 70, pos := "action.go:70", after := #[{ on := 8, ground := Go.Ground.data }], guard := none }) rfl (fun K hK => ?_) AllReadyH.nil
  go_simp
  refine (HW0.out _ N0.out).mono ?_
  rintro e w0_ ⟨q00,q01,rfl,hn0,hx0,hs0⟩
  (try go_wp2_with fail)
  refine hK.out _ _ ?_ (fun hHeld=>?_)
  · (try dsimp only);exact S1.out _ hn0.1
  clear hK K
  (try simp only [Act.put,List.setIfInBounds_toArray,List.set_cons_zero,List.set_cons_succ])
  refine wpAnyH_ready (rs:=[16]) (by kernel_rfl) (by simp) ?_
  refine AllReadyH.cons (o := { dst := some 88, op := Go.Op.call { callee := Go.Callee.value (Go.Operand.func 77), args := #[Go.Operand.tmp 87, Go.Operand.const (Go.Value.string { data := #[59] })], argTypes := #[60, 9] }, type := 70, pos := "action.go:70", after := #[{ on := 15, ground := Go.Ground.data }, { on := 9, ground := Go.Ground.chain }], guard := none }) rfl (fun K hK => ?_) AllReadyH.nil
  go_simp
  refine (HW1.out _ hn0).mono ?_
  rintro e w1_ ⟨q10,q11,rfl,hn1,hx1,hs1⟩
  (try go_wp2_with fail)
  refine hK.out _ _ ?_ (fun hHeld=>?_)
  · (try dsimp only);exact S1.out _ hn1.1
  clear hK K
  (try simp only [Act.put,List.setIfInBounds_toArray,List.set_cons_zero,List.set_cons_succ])
  refine wpAnyH_ready (rs:=[22]) (by kernel_rfl) (by simp) ?_
  refine AllReadyH.cons (o := { dst := some 94, op := Go.Op.call { callee := Go.Callee.value (Go.Operand.func 284), args := #[Go.Operand.tmp 89, Go.Operand.const (Go.Value.string { data := #[59] }), Go.Operand.tmp 93], argTypes := #[98, 9, 70] }, type := 70, pos := "action.go:70", after := #[{ on := 17, ground := Go.Ground.data }, { on := 21, ground := Go.Ground.data }, { on := 16, ground := Go.Ground.chain }], guard := none }) rfl (fun K hK => ?_) AllReadyH.nil
  go_simp
  refine (HW2.out _ hn1).mono ?_
  rintro e w2_ ⟨q20,q21,q22,rfl,hn2,hx2,hs2⟩
  (try go_wp2_with fail)
  refine hK.out _ _ ?_ (fun hHeld=>?_)
  · (try dsimp only);exact S1.out _ hn2.1
  clear hK K
  (try simp only [Act.put,List.setIfInBounds_toArray,List.set_cons_zero,List.set_cons_succ])
  refine wpAnyH_ready (rs:=[27]) (by kernel_rfl) (by simp) ?_
  refine AllReadyH.cons (o := { dst := some 99, op := Go.Op.call { callee := Go.Callee.value (Go.Operand.func 77), args := #[Go.Operand.tmp 98, Go.Operand.const (Go.Value.string { data := #[59] })], argTypes := #[60, 9] }, type := 70, pos := "action.go:70", after := #[{ on := 26, ground := Go.Ground.data }, { on := 22, ground := Go.Ground.chain }], guard := none }) rfl (fun K hK => ?_) AllReadyH.nil
  go_simp
  refine (HW3.out _ hn2).mono ?_
  rintro e w3_ ⟨q30,q31,rfl,hn3,hx3,hs3⟩
  (try go_wp2_with fail)
  refine hK.out _ _ ?_ (fun hHeld=>?_)
  · (try dsimp only);exact S1.out _ hn3.1
  clear hK K
  (try simp only [Act.put,List.setIfInBounds_toArray,List.set_cons_zero,List.set_cons_succ])
  refine wpAnyH_ready (rs:=[31]) (by kernel_rfl) (by simp) ?_
  refine AllReadyH.cons (o := { dst := some 103, op := Go.Op.call { callee := Go.Callee.value (Go.Operand.func 284), args := #[Go.Operand.tmp 100, Go.Operand.const (Go.Value.string { data := #[41] }), Go.Operand.tmp 102], argTypes := #[98, 9, 70] }, type := 70, pos := "action.go:70", after := #[{ on := 28, ground := Go.Ground.data }, { on := 30, ground := Go.Ground.data }, { on := 27, ground := Go.Ground.chain }], guard := none }) rfl (fun K hK => ?_) AllReadyH.nil
  go_simp
  refine (HW4.out _ hn3).mono ?_
  rintro e w4_ ⟨q40,q41,q42,rfl,hn4,hx4,hs4⟩
  (try go_wp2_with fail)
  refine hK.out _ _ ?_ (fun hHeld=>?_)
  · (try dsimp only);exact S1.out _ hn4.1
  clear hK K
  (try simp only [Act.put,List.setIfInBounds_toArray,List.set_cons_zero,List.set_cons_succ])
  refine wpAnyH_ready (rs:=[36]) (by kernel_rfl) (by simp) ?_
  refine AllReadyH.cons (o := { dst := some 108, op := Go.Op.call { callee := Go.Callee.value (Go.Operand.func 77), args := #[Go.Operand.tmp 107, Go.Operand.const (Go.Value.string { data := #[41] })], argTypes := #[60, 9] }, type := 70, pos := "action.go:70", after := #[{ on := 35, ground := Go.Ground.data }, { on := 31, ground := Go.Ground.chain }], guard := none }) rfl (fun K hK => ?_) AllReadyH.nil
  go_simp
  refine (HW5.out _ hn4).mono ?_
  rintro e w5_ ⟨q50,q51,rfl,hn5,hx5,hs5⟩
  (try go_wp2_with fail)
  refine hK.out _ _ ?_ (fun hHeld=>?_)
  · (try dsimp only);exact S1.out _ hn5.1
  clear hK K
  (try simp only [Act.put,List.setIfInBounds_toArray,List.set_cons_zero,List.set_cons_succ])
  refine wpAnyH_ready (rs:=[39]) (by kernel_rfl) (by simp) ?_
  refine AllReadyH.cons (o := { dst := some 111, op := Go.Op.buildSlice 94 8 #[(0, Go.Operand.tmp 81), (1, Go.Operand.tmp 83), (2, Go.Operand.tmp 88), (3, Go.Operand.tmp 94), (4, Go.Operand.tmp 99), (5, Go.Operand.tmp 103), (6, Go.Operand.tmp 108), (7, Go.Operand.tmp 110)], type := 94, pos := "action.go:70", after := #[{ on := 9, ground := Go.Ground.data }, { on := 11, ground := Go.Ground.data }, { on := 16, ground := Go.Ground.data }, { on := 22, ground := Go.Ground.data }, { on := 27, ground := Go.Ground.data }, { on := 31, ground := Go.Ground.data }, { on := 36, ground := Go.Ground.data }, { on := 38, ground := Go.Ground.data }], guard := none }) rfl (fun K hK => ?_) AllReadyH.nil
  go_simp
  refine hK.out _ _ ?_ (fun hHeld=>?_)
  · (try dsimp only);exact S1.out _ (hn5.alloc _).1
  clear hK K
  (try simp only [Act.put,List.setIfInBounds_toArray,List.set_cons_zero,List.set_cons_succ])
  refine wpAnyH_ready (rs:=[40]) (by kernel_rfl) (by simp) ?_
  refine AllReadyH.cons (o := { dst := some 112, op := Go.Op.call { callee := Go.Callee.value (Go.Operand.func 70), args := #[Go.Operand.tmp 75, Go.Operand.tmp 76, Go.Operand.tmp 111], argTypes := #[62, 34, 94] }, type := 68, pos := "action.go:70", after := #[{ on := 3, ground := Go.Ground.data }, { on := 4, ground := Go.Ground.data }, { on := 39, ground := Go.Ground.data }, { on := 36, ground := Go.Ground.chain }], guard := none }) rfl (fun K hK => ?_) AllReadyH.nil
  go_simp
  refine (HN.out _ _ _ _ _ _ _ hn5 (StepV.ext (StepV.ext (StepV.ext (StepV.ext (StepV.ext hs0 hx1) hx2) hx3) hx4) hx5) (StepV.ext (StepV.ext (StepV.ext (StepV.ext hs1 hx2) hx3) hx4) hx5) (StepV.ext (StepV.ext (StepV.ext hs2 hx3) hx4) hx5) (StepV.ext (StepV.ext hs3 hx4) hx5) (StepV.ext hs4 hx5) hs5).mono ?_
  rintro e w9 ⟨v,rfl,hd,hx9⟩
  (try go_wp2_with fail)
  refine hK.out _ _ ?_ (fun hHeld=>?_)
  · (try dsimp only);exact S1.out _ hx9
  clear hK K
  (try simp only [Act.put,List.setIfInBounds_toArray,List.set_cons_zero,List.set_cons_succ])
  refine wpAnyH_take (i := 41) (oi := { dst := some 2, op := Go.Op.assign (Go.Operand.tmp 112), type := 68, pos := "action.go:70", after := #[{ on := 40, ground := Go.Ground.data }, { on := 40, ground := Go.Ground.chain }, { on := 0, ground := Go.Ground.phase }, { on := 1, ground := Go.Ground.phase }, { on := 2, ground := Go.Ground.phase }, { on := 3, ground := Go.Ground.phase }, { on := 4, ground := Go.Ground.phase }, { on := 5, ground := Go.Ground.phase }, { on := 6, ground := Go.Ground.phase }, { on := 7, ground := Go.Ground.phase }, { on := 8, ground := Go.Ground.phase }, { on := 9, ground := Go.Ground.phase }, { on := 10, ground := Go.Ground.phase }, { on := 11, ground := Go.Ground.phase }, { on := 12, ground := Go.Ground.phase }, { on := 13, ground := Go.Ground.phase }, { on := 14, ground := Go.Ground.phase }, { on := 15, ground := Go.Ground.phase }, { on := 16, ground := Go.Ground.phase }, { on := 17, ground := Go.Ground.phase }, { on := 18, ground := Go.Ground.phase }, { on := 19, ground := Go.Ground.phase }, { on := 20, ground := Go.Ground.phase }, { on := 21, ground := Go.Ground.phase }, { on := 22, ground := Go.Ground.phase }, { on := 23, ground := Go.Ground.phase }, { on := 24, ground := Go.Ground.phase }, { on := 25, ground := Go.Ground.phase }, { on := 26, ground := Go.Ground.phase }, { on := 27, ground := Go.Ground.phase }, { on := 28, ground := Go.Ground.phase }, { on := 29, ground := Go.Ground.phase }, { on := 30, ground := Go.Ground.phase }, { on := 31, ground := Go.Ground.phase }, { on := 32, ground := Go.Ground.phase }, { on := 33, ground := Go.Ground.phase }, { on := 34, ground := Go.Ground.phase }, { on := 35, ground := Go.Ground.phase }, { on := 36, ground := Go.Ground.phase }, { on := 37, ground := Go.Ground.phase }, { on := 38, ground := Go.Ground.phase }, { on := 39, ground := Go.Ground.phase }, { on := 40, ground := Go.Ground.phase }], guard := none }) (v := ?_) rfl (by kernel_rfl) (by kernel_rfl) (by kernel_rfl) (fun _ _ _ h => h) (Or.inl ⟨by rfl, ?_⟩) (by assumption) ?_
  rotate_left
  · intro w hSw;(try dsimp only at hSw);go_simp;(try with_reducible rfl)
  (try simp only [Act.put,List.setIfInBounds_toArray,List.set_cons_zero,List.set_cons_succ])
  refine wpAnyH_done (by kernel_rfl) ?_ _
  refine NoPanic.normal ?_
  all_goals
    have HD:=Lib.hid (did_ext hd HX0.out)
    clear hd hx9
    go_wp2
    (try go_ret)
    rw [HQ.out]
    exact HD.out
end
section
open Go.RowKit
open Tk (T4 bstr)
open Tr (Nd Blk KidsAt)

/-- in a switch, as the program has it -/
def swF (E:Nat) (ac ex:F3):F3:=fun s =>
  if (pk E s.L).t=[99,97,115,101] then buildF (mk 19 [] 0 (pk E s.L).a) [wordF E [99,97,115,101],ex,wordF E [58]] s
  else if (pk E s.L).t=[100,101,102,97,117,108,116] then buildF (mk 20 [] 0 (pk E s.L).a) [wordF E [100,101,102,97,117,108,116],wordF E [58]] s
  else ac s

set_option maxHeartbeats 16000000 in
set_option maxRecDepth 100000 in
theorem sw_case {B T E:Nat}{ex:F3}(hex:FnC B T E 40 ex) {w:World}{s:S3}(h:Ps B T E w s) (ht:(pk E s.L).t=[99,97,115,101]) (hr:buildF (mk 19 [] 0 (pk E s.L).a) [wordF E [99,97,115,101],ex,wordF E [58]] s≠.out):Calls Tryz.prog 285 #[.pointer (some ⟨B,0,none⟩)] w (Did B T E w (buildF (mk 19 [] 0 (pk E s.L).a) [wordF E [99,97,115,101],ex,wordF E [58]] s)):=by
  obtain ⟨r,hrr⟩ : ∃ r,r=buildF (mk 19 [] 0 (pk E s.L).a) [wordF E [99,97,115,101],ex,wordF E [58]] s:=⟨_,rfl⟩
  rw [← hrr] at hr ⊢
  obtain ⟨Q,hQ⟩ : ∃ Q:Ending→World→Prop,Q=Did B T E w r:=⟨_,rfl⟩
  rw [← hQ]
  have HQ:=Lib.hid hQ
  have HR:=Lib.hid hr
  have hB:=h.lt
  clear hQ hr
  have HP:=Lib.hid h
  have hpk:=peek_any h
  unfold tokV at hpk
  obtain ⟨t,ht'⟩ : ∃ t,t=pk E s.L:=⟨_,rfl⟩
  obtain ⟨x,hxx⟩ : ∃ x,x=bstr t.t:=⟨_,rfl⟩
  rw [← ht',← hxx] at hpk
  rw [← ht'] at ht
  (try rw [← ht'] at hrr)
  have q0:=txt_yes (l:=[99,97,115,101]) hxx ht
  have Hrr:Hid (r=_):=hrr
  clear ht ht' hxx hrr h
  go_enter Tryz.func285,Tryz.ntmps285
  go_wp2_with (go_at_call 75;refine hpk.mono ?_;rintro e w1 ⟨rfl,hb⟩)
  have hp1:=HP.out.below hb
  have hx1:=Ext.below hb hB
  have HNd:=Lib.hid (node_far (t:=58) (cs:=#[.int .i64 t.k,.string x,.int .i64 t.v,.int .i64 t.a]) hp1)
  have HX6:=Lib.hid (hx1.alloc hB (.cells #[.int .i64 t.k,.string x,.int .i64 t.v,.int .i64 t.a] 58))
  have HP6:=Lib.hid (hp1.alloc (.cells #[.int .i64 t.k,.string x,.int .i64 t.v,.int .i64 t.a] 58))
  clear hb hp1 hx1 hpk HP
  generalize w1.alloc (.cells #[.int .i64 t.k,.string x,.int .i64 t.v,.int .i64 t.a] 58)=W6 at *
  generalize w1.heap.size=g at *
  have HX0:Hid (Ext B w W6.drew):=HX6.out.drew
  have N0:Hid (Now B T E s W6.drew W6.drew):=Now.refl HP6.out.drew
  have S1:Hid (∀ W,Ext B W6.drew W→W.cell? ⟨g,3,none⟩=some (.int .i64 t.a)):=fun W hW=>(tok_box (HNd.out W ((Ext.refl B W6).drew.trans hW))).2.2.2
  have S0:=Lib.hid (S1.out _ (Ext.refl _ _))
  clear HNd HX6 HP6
  go_wp2
  have HW0:Hid (∀ W,Now B T E s W6.drew W→Calls Tryz.prog 77 #[.pointer (some ⟨B,0,none⟩),.string ⟨#[99,97,115,101]⟩] W fun e w'=>∃ g1 g2,e=.returned (.func (.func 133) #[] #[.pointer (some ⟨g1,0,none⟩),.pointer (some ⟨g2,0,none⟩)])∧Now B T E s W6.drew w'∧Ext B W w'∧StepV B T E w' (.func (.func 133) #[] #[.pointer (some ⟨g1,0,none⟩),.pointer (some ⟨g2,0,none⟩)]) (wordF E [99,97,115,101])):=fun W hW=>word_now hW ⟨#[99,97,115,101]⟩
  have HW1:Hid (∀ W,Now B T E s W6.drew W→Calls Tryz.prog 77 #[.pointer (some ⟨B,0,none⟩),.string ⟨#[58]⟩] W fun e w'=>∃ g1 g2,e=.returned (.func (.func 133) #[] #[.pointer (some ⟨g1,0,none⟩),.pointer (some ⟨g2,0,none⟩)])∧Now B T E s W6.drew w'∧Ext B W w'∧StepV B T E w' (.func (.func 133) #[] #[.pointer (some ⟨g1,0,none⟩),.pointer (some ⟨g2,0,none⟩)]) (wordF E [58])):=fun W hW=>word_now hW ⟨#[58]⟩
  have HN:Hid (∀ W v0 v2,Now B T E s W6.drew W→StepV B T E W v0 (wordF E [99,97,115,101])→StepV B T E W v2 (wordF E [58])→Calls Tryz.prog 70 #[.pointer (some ⟨B,2,none⟩),.agg #[.int .i64 19,.string ⟨#[]⟩,.int .i64 0,.int .i64 0,.slice none 0 0,.int .i64 t.a],.slice (some ⟨W.heap.size,0,none⟩) 3 3] (W.alloc (.cells #[v0,.func (.func 40) #[.pointer (some ⟨B,0,none⟩)] #[],v2] 70)) (Ends B T E W6.drew r)):=fun W v0 v2 hW h0 h2=>by
      have h:=build_now hW [v0,.func (.func 40) #[.pointer (some ⟨B,0,none⟩)] #[],v2] [wordF E [99,97,115,101],ex,wordF E [58]] rfl (by simp) (step3 (h0) (stepFn hex ent21 W) (h2)) (mk 19 [] 0 t.a) rfl (by rw [← Hrr.out];exact HR.out) 70
      rw [← Hrr.out] at h
      exact h
  go_region_held3 (fun W=>W.cell? ⟨g,3,none⟩=some (.int .i64 t.a))
    (first | exact S0.out | exact S1.out _ hn0.1 | exact S1.out _ hn1.1 | exact S1.out _ (hn1.alloc _).1 | exact S1.out _ hx9)
    (first | (go_at_call 77;first | ((with_reducible refine (HW0.out _ N0.out).mono ?_);rintro e w0_ ⟨q00,q01,rfl,hn0,hx0,hs0⟩) | ((with_reducible refine (HW1.out _ hn0).mono ?_);rintro e w1_ ⟨q10,q11,rfl,hn1,hx1,hs1⟩)) | (go_at_call 70;refine (HN.out _ _ _ hn1 (StepV.ext hs0 hx1) hs1).mono ?_;rintro e w9 ⟨v,rfl,hd,hx9⟩))
  all_goals
    have HD:=Lib.hid (did_ext hd HX0.out)
    clear hd hx9
    go_wp2
    (try go_ret)
    rw [HQ.out]
    exact HD.out

set_option maxHeartbeats 16000000 in
set_option maxRecDepth 100000 in
theorem sw_default {B T E:Nat}{w:World}{s:S3}(h:Ps B T E w s) (ht:(pk E s.L).t=[100,101,102,97,117,108,116]) (hr:buildF (mk 20 [] 0 (pk E s.L).a) [wordF E [100,101,102,97,117,108,116],wordF E [58]] s≠.out):Calls Tryz.prog 285 #[.pointer (some ⟨B,0,none⟩)] w (Did B T E w (buildF (mk 20 [] 0 (pk E s.L).a) [wordF E [100,101,102,97,117,108,116],wordF E [58]] s)):=by
  obtain ⟨r,hrr⟩ : ∃ r,r=buildF (mk 20 [] 0 (pk E s.L).a) [wordF E [100,101,102,97,117,108,116],wordF E [58]] s:=⟨_,rfl⟩
  rw [← hrr] at hr ⊢
  obtain ⟨Q,hQ⟩ : ∃ Q:Ending→World→Prop,Q=Did B T E w r:=⟨_,rfl⟩
  rw [← hQ]
  have HQ:=Lib.hid hQ
  have HR:=Lib.hid hr
  have hB:=h.lt
  clear hQ hr
  have HP:=Lib.hid h
  have hpk:=peek_any h
  unfold tokV at hpk
  obtain ⟨t,ht'⟩ : ∃ t,t=pk E s.L:=⟨_,rfl⟩
  obtain ⟨x,hxx⟩ : ∃ x,x=bstr t.t:=⟨_,rfl⟩
  rw [← ht',← hxx] at hpk
  rw [← ht'] at ht
  (try rw [← ht'] at hrr)
  have q0:=txt_no (l:=[99,97,115,101]) hxx (by rw [ht];decide)
  have q1:=txt_yes (l:=[100,101,102,97,117,108,116]) hxx ht
  have Hrr:Hid (r=_):=hrr
  clear ht ht' hxx hrr h
  go_enter Tryz.func285,Tryz.ntmps285
  go_wp2_with (go_at_call 75;refine hpk.mono ?_;rintro e w1 ⟨rfl,hb⟩)
  have hp1:=HP.out.below hb
  have hx1:=Ext.below hb hB
  have HNd:=Lib.hid (node_far (t:=58) (cs:=#[.int .i64 t.k,.string x,.int .i64 t.v,.int .i64 t.a]) hp1)
  have HX6:=Lib.hid (hx1.alloc hB (.cells #[.int .i64 t.k,.string x,.int .i64 t.v,.int .i64 t.a] 58))
  have HP6:=Lib.hid (hp1.alloc (.cells #[.int .i64 t.k,.string x,.int .i64 t.v,.int .i64 t.a] 58))
  clear hb hp1 hx1 hpk HP
  generalize w1.alloc (.cells #[.int .i64 t.k,.string x,.int .i64 t.v,.int .i64 t.a] 58)=W6 at *
  generalize w1.heap.size=g at *
  have HX0:Hid (Ext B w W6.drew):=HX6.out.drew
  have N0:Hid (Now B T E s W6.drew W6.drew):=Now.refl HP6.out.drew
  have S1:Hid (∀ W,Ext B W6.drew W→W.cell? ⟨g,3,none⟩=some (.int .i64 t.a)):=fun W hW=>(tok_box (HNd.out W ((Ext.refl B W6).drew.trans hW))).2.2.2
  have S0:=Lib.hid (S1.out _ (Ext.refl _ _))
  clear HNd HX6 HP6
  go_wp2
  have HW0:Hid (∀ W,Now B T E s W6.drew W→Calls Tryz.prog 77 #[.pointer (some ⟨B,0,none⟩),.string ⟨#[100,101,102,97,117,108,116]⟩] W fun e w'=>∃ g1 g2,e=.returned (.func (.func 133) #[] #[.pointer (some ⟨g1,0,none⟩),.pointer (some ⟨g2,0,none⟩)])∧Now B T E s W6.drew w'∧Ext B W w'∧StepV B T E w' (.func (.func 133) #[] #[.pointer (some ⟨g1,0,none⟩),.pointer (some ⟨g2,0,none⟩)]) (wordF E [100,101,102,97,117,108,116])):=fun W hW=>word_now hW ⟨#[100,101,102,97,117,108,116]⟩
  have HW1:Hid (∀ W,Now B T E s W6.drew W→Calls Tryz.prog 77 #[.pointer (some ⟨B,0,none⟩),.string ⟨#[58]⟩] W fun e w'=>∃ g1 g2,e=.returned (.func (.func 133) #[] #[.pointer (some ⟨g1,0,none⟩),.pointer (some ⟨g2,0,none⟩)])∧Now B T E s W6.drew w'∧Ext B W w'∧StepV B T E w' (.func (.func 133) #[] #[.pointer (some ⟨g1,0,none⟩),.pointer (some ⟨g2,0,none⟩)]) (wordF E [58])):=fun W hW=>word_now hW ⟨#[58]⟩
  have HN:Hid (∀ W v0 v1,Now B T E s W6.drew W→StepV B T E W v0 (wordF E [100,101,102,97,117,108,116])→StepV B T E W v1 (wordF E [58])→Calls Tryz.prog 70 #[.pointer (some ⟨B,2,none⟩),.agg #[.int .i64 20,.string ⟨#[]⟩,.int .i64 0,.int .i64 0,.slice none 0 0,.int .i64 t.a],.slice (some ⟨W.heap.size,0,none⟩) 2 2] (W.alloc (.cells #[v0,v1] 70)) (Ends B T E W6.drew r)):=fun W v0 v1 hW h0 h1=>by
      have h:=build_now hW [v0,v1] [wordF E [100,101,102,97,117,108,116],wordF E [58]] rfl (by simp) (step2 (h0) (h1)) (mk 20 [] 0 t.a) rfl (by rw [← Hrr.out];exact HR.out) 70
      rw [← Hrr.out] at h
      exact h
  go_region_held3 (fun W=>W.cell? ⟨g,3,none⟩=some (.int .i64 t.a))
    (first | exact S0.out | exact S1.out _ hn0.1 | exact S1.out _ hn1.1 | exact S1.out _ (hn1.alloc _).1 | exact S1.out _ hx9)
    (first | (go_at_call 77;first | ((with_reducible refine (HW0.out _ N0.out).mono ?_);rintro e w0_ ⟨q00,q01,rfl,hn0,hx0,hs0⟩) | ((with_reducible refine (HW1.out _ hn0).mono ?_);rintro e w1_ ⟨q10,q11,rfl,hn1,hx1,hs1⟩)) | (go_at_call 70;refine (HN.out _ _ _ hn1 (StepV.ext hs0 hx1) hs1).mono ?_;rintro e w9 ⟨v,rfl,hd,hx9⟩))
  all_goals
    have HD:=Lib.hid (did_ext hd HX0.out)
    clear hd hx9
    go_wp2
    (try go_ret)
    rw [HQ.out]
    exact HD.out

set_option maxHeartbeats 16000000 in
set_option maxRecDepth 100000 in
theorem sw_action {B T E:Nat}{ac:F3}(hac:FnC B T E 248 ac) {w:World}{s:S3}(h:Ps B T E w s) (hno:∀ l,l ∈ [[99,97,115,101],[100,101,102,97,117,108,116]]→(pk E s.L).t≠l) (hr:ac s≠.out):Calls Tryz.prog 285 #[.pointer (some ⟨B,0,none⟩)] w (Did B T E w (ac s)):=by
  obtain ⟨r,hrr⟩ : ∃ r,r=ac s:=⟨_,rfl⟩
  rw [← hrr] at hr ⊢
  obtain ⟨Q,hQ⟩ : ∃ Q:Ending→World→Prop,Q=Did B T E w r:=⟨_,rfl⟩
  rw [← hQ]
  have HQ:=Lib.hid hQ
  have HR:=Lib.hid hr
  have hB:=h.lt
  clear hQ hr
  have HP:=Lib.hid h
  have hpk:=peek_any h
  unfold tokV at hpk
  obtain ⟨t,ht'⟩ : ∃ t,t=pk E s.L:=⟨_,rfl⟩
  obtain ⟨x,hxx⟩ : ∃ x,x=bstr t.t:=⟨_,rfl⟩
  rw [← ht',← hxx] at hpk
  rw [← ht'] at hno
  (try rw [← ht'] at hrr)
  have q0:=txt_no (l:=[99,97,115,101]) hxx (hno _ (by simp))
  have q1:=txt_no (l:=[100,101,102,97,117,108,116]) hxx (hno _ (by simp))
  have Hrr:Hid (r=_):=hrr
  clear hno ht' hxx hrr h
  go_enter Tryz.func285,Tryz.ntmps285
  go_wp2_with (go_at_call 75;refine hpk.mono ?_;rintro e w1 ⟨rfl,hb⟩)
  have hp1:=HP.out.below hb
  have hx1:=Ext.below hb hB
  have HNd:=Lib.hid (node_far (t:=58) (cs:=#[.int .i64 t.k,.string x,.int .i64 t.v,.int .i64 t.a]) hp1)
  have HX6:=Lib.hid (hx1.alloc hB (.cells #[.int .i64 t.k,.string x,.int .i64 t.v,.int .i64 t.a] 58))
  have HP6:=Lib.hid (hp1.alloc (.cells #[.int .i64 t.k,.string x,.int .i64 t.v,.int .i64 t.a] 58))
  clear hb hp1 hx1 hpk HP
  generalize w1.alloc (.cells #[.int .i64 t.k,.string x,.int .i64 t.v,.int .i64 t.a] 58)=W6 at *
  generalize w1.heap.size=g at *
  have hcall:=hac W6 s HP6.out (by rw [← Hrr.out];exact HR.out)
  rw [← Hrr.out] at hcall
  clear HNd
  go_wp2_with (go_at_call 248;refine hcall.mono ?_)
  intro e w2 hd
  obtain ⟨v,rfl,hd⟩:=did_ret hd HR.out
  have HD:=Lib.hid (did_ext hd HX6.out)
  clear hd hcall
  go_wp2
  (try go_ret)
  rw [HQ.out]
  exact HD.out

theorem inSwitch_fn {B T E:Nat}{ac ex:F3}(hac:FnC B T E 248 ac) (hex:FnC B T E 40 ex):FnC B T E 285 (swF E ac ex):=fun w s h hr=>by
  unfold swF at hr ⊢
  by_cases h1:(pk E s.L).t=[99,97,115,101]
  · rw [if_pos h1] at hr ⊢;exact sw_case hex h h1 hr
  rw [if_neg h1] at hr ⊢
  by_cases h2:(pk E s.L).t=[100,101,102,97,117,108,116]
  · rw [if_pos h2] at hr ⊢;exact sw_default h h2 hr
  rw [if_neg h2] at hr ⊢
  refine sw_action hac h ?_ hr
  intro l hl e
  rw [e] at h1 h2
  simp only [List.mem_cons,List.not_mem_nil,or_false] at hl
  rcases hl with hl | hl <;> subst hl <;> simp_all

set_option maxHeartbeats 16000000 in
set_option maxRecDepth 100000 in
theorem function_any {B T E n:Nat}{bl:F3}(hpa:FnC B T E 223 (paramF E)) (hbl:FnC B T E 224 bl) {a0 a2 a3 a5:Int}{a1:ByteArray}{x:Mn}(hv:(.agg #[.int .i64 a0,.string a1,.int .i64 a2,.int .i64 a3,.slice none 0 0,.int .i64 a5]:Value)=nodeV x) (hc:x.c=[]) {w:World}{s:S3}(h:Ps B T E w s) (hr:buildF { x with k:=3 } [listF E [40] [41] (fun _=>paramF E) n,bl] s≠.out) :
    Calls Tryz.prog 179 #[.pointer (some ⟨B,0,none⟩),.agg #[.int .i64 a0,.string a1,.int .i64 a2,.int .i64 a3,.slice none 0 0,.int .i64 a5]] w (Did B T E w (buildF { x with k:=3 } [listF E [40] [41] (fun _=>paramF E) n,bl] s)):=by
  have HP0:=Lib.hid h
  obtain ⟨r,hrr⟩ : ∃ r,r=buildF { x with k:=3 } [listF E [40] [41] (fun _=>paramF E) n,bl] s:=⟨_,rfl⟩
  rw [← hrr] at hr ⊢
  obtain ⟨Q,hQ⟩ : ∃ Q:Ending→World→Prop,Q=Did B T E w r:=⟨_,rfl⟩
  rw [← hQ]
  have HQ:=Lib.hid hQ
  have HR:=Lib.hid hr
  have hB:=h.lt
  clear hQ hr
  have Hrr:Hid (r=buildF { x with k:=3 } [listF E [40] [41] (fun _=>paramF E) n,bl] s):=hrr
  have HA:=Lib.hid (node_k hv hc 3)
  have HC:=Lib.hid hc
  have HNd:=Lib.hid (node_far (t:=34) (cs:=#[.int .i64 3,.string a1,.int .i64 a2,.int .i64 a3,.slice none 0 0,.int .i64 a5]) h)
  have HX6:=Lib.hid ((Ext.refl B w).alloc hB (.cells #[.int .i64 3,.string a1,.int .i64 a2,.int .i64 a3,.slice none 0 0,.int .i64 a5] 34))
  have HP6:=Lib.hid (h.alloc (.cells #[.int .i64 3,.string a1,.int .i64 a2,.int .i64 a3,.slice none 0 0,.int .i64 a5] 34))
  clear hv hc HP0 hrr h
  go_enter Tryz.func179,Tryz.ntmps179
  go_wp2
  generalize w.alloc (.cells #[.int .i64 3,.string a1,.int .i64 a2,.int .i64 a3,.slice none 0 0,.int .i64 a5] 34)=W6 at *
  generalize w.heap.size=g at *
  have HX0:Hid (Ext B w W6.drew):=HX6.out.drew
  have N0:Hid (Now B T E s W6.drew W6.drew):=Now.refl HP6.out.drew
  have S1:Hid (∀ W,Ext B W6.drew W→W.cell? ⟨g,0,none⟩=some (.int .i64 3)∧W.cell? ⟨g,1,none⟩=some (.string a1)∧W.cell? ⟨g,2,none⟩=some (.int .i64 a2)∧W.cell? ⟨g,3,none⟩=some (.int .i64 a3)∧W.cell? ⟨g,4,none⟩=some (.slice none 0 0)∧W.cell? ⟨g,5,none⟩=some (.int .i64 a5)):=fun W hW=>(box6 (HNd.out W ((Ext.refl B W6).drew.trans hW))).1
  have S0:=Lib.hid (S1.out _ (Ext.refl _ _))
  clear HNd HX6 HP6
  have HW0:Hid (∀ W,Now B T E s W6.drew W→Calls Tryz.prog 222 #[.pointer (some ⟨B,0,none⟩),.string ⟨#[40]⟩,.func (.func 223) #[.pointer (some ⟨B,0,none⟩)] #[],.string ⟨#[41]⟩] W fun e w'=>∃ g1 g2 g3 g4,e=.returned (.func (.func 246) #[] #[.pointer (some ⟨g1,0,none⟩),.pointer (some ⟨g2,0,none⟩),.pointer (some ⟨g3,0,none⟩),.pointer (some ⟨g4,0,none⟩)])∧Now B T E s W6.drew w'∧Ext B W w'∧StepV B T E w' (.func (.func 246) #[] #[.pointer (some ⟨g1,0,none⟩),.pointer (some ⟨g2,0,none⟩),.pointer (some ⟨g3,0,none⟩),.pointer (some ⟨g4,0,none⟩)]) (listF E [40] [41] (fun _=>paramF E) n)):=fun W hW=>listg_now hW ⟨#[40]⟩ ⟨#[41]⟩ rfl rfl (fun _=>paramF E) 223 #[.pointer (some ⟨B,0,none⟩)] #[] ent141 (fun m hm W1 s1 hx hp hr=>hpa W1 s1 hp hr)
  have HN:Hid (∀ W v0,Now B T E s W6.drew W→StepV B T E W v0 (listF E [40] [41] (fun _=>paramF E) n)→Calls Tryz.prog 70 #[.pointer (some ⟨B,2,none⟩),.agg #[.int .i64 3,.string a1,.int .i64 a2,.int .i64 a3,.slice none 0 0,.int .i64 a5],.slice (some ⟨W.heap.size,0,none⟩) 2 2] (W.alloc (.cells #[v0,.func (.func 224) #[.pointer (some ⟨B,0,none⟩)] #[]] 70)) (Ends B T E W6.drew r)):=fun W v0 hW h0=>by
      have h:=build_now hW [v0,.func (.func 224) #[.pointer (some ⟨B,0,none⟩)] #[]] [listF E [40] [41] (fun _=>paramF E) n,bl] rfl (by simp) (step2 (h0) (stepFn hbl ent142 W)) ({ x with k:=3 }) HC.out (by rw [← Hrr.out];exact HR.out) 70
      rw [← Hrr.out] at h
      rw [HA.out] at h
      exact h
  go_region_held3 (fun W=>W.cell? ⟨g,0,none⟩=some (.int .i64 3)∧W.cell? ⟨g,1,none⟩=some (.string a1)∧W.cell? ⟨g,2,none⟩=some (.int .i64 a2)∧W.cell? ⟨g,3,none⟩=some (.int .i64 a3)∧W.cell? ⟨g,4,none⟩=some (.slice none 0 0)∧W.cell? ⟨g,5,none⟩=some (.int .i64 a5))
    (first | exact S0.out | exact S1.out _ hn0.1 | exact S1.out _ (hn0.alloc _).1 | exact S1.out _ hx9)
    (first | (go_at_call 222;first | ((with_reducible refine (HW0.out _ N0.out).mono ?_);rintro e w0_ ⟨q00,q01,q02,q03,rfl,hn0,hx0,hs0⟩)) | (go_at_call 70;refine (HN.out _ _ hn0 hs0).mono ?_;rintro e w9 ⟨v,rfl,hd,hx9⟩))
  all_goals
    have HD:=Lib.hid (did_ext hd HX0.out)
    clear hd hx9
    go_wp2
    (try go_ret)
    rw [HQ.out]
    exact HD.out
end
section
open Go.RowKit
open Tk (T4 bstr)
open Tr (Nd Blk KidsAt)

theorem sees_yesb {B T E:Nat}{w:World}{s:S3}(h:Ps B T E w s) (x:ByteArray) {l:List UInt8}(hl:x.data.toList=l) (ht:(pk E s.L).t=l) :
    Calls Tryz.prog 181 #[.pointer (some ⟨B,0,none⟩),.string x] w fun e w'=>e=.returned (.bool true)∧Below w.heap.size w w':=by
  refine (sees_any h x).mono fun e w' ⟨he,hb⟩=>⟨?_,hb⟩
  rw [he,hl,decide_eq_true ht]
theorem sees_nob {B T E:Nat}{w:World}{s:S3}(h:Ps B T E w s) (x:ByteArray) {l:List UInt8}(hl:x.data.toList=l) (ht:(pk E s.L).t≠l) :
    Calls Tryz.prog 181 #[.pointer (some ⟨B,0,none⟩),.string x] w fun e w'=>e=.returned (.bool false)∧Below w.heap.size w w':=by
  refine (sees_any h x).mono fun e w' ⟨he,hb⟩=>⟨?_,hb⟩
  rw [he,hl,decide_eq_false ht]
theorem node_n {a0 a2 a3 a5:Int}{a1:ByteArray}{x:Mn}(h:(.agg #[.int .i64 a0,.string a1,.int .i64 a2,.int .i64 a3,.slice none 0 0,.int .i64 a5]:Value)=nodeV x):x.n=a2:=by
  obtain ⟨xk,xt,xn,xz,xc,xa⟩:=x
  unfold nodeV at h
  simp only [Value.agg.injEq,Array.mk.injEq,List.cons.injEq,Value.int.injEq,Value.string.injEq,true_and,and_true] at h
  exact h.2.2.1.symm
/-- what function and array do -/
def NdC (B T E:Nat) (id:FuncId) (f:Mn→F3):Prop:=∀ (a0:Int) (a1:ByteArray) (a2 a3 a5:Int) (x:Mn),(.agg #[.int .i64 a0,.string a1,.int .i64 a2,.int .i64 a3,.slice none 0 0,.int .i64 a5]:Value)=nodeV x→x.c=[]→∀ w s,Ps B T E w s→f x s≠.out →
  Calls Tryz.prog id #[.pointer (some ⟨B,0,none⟩),.agg #[.int .i64 a0,.string a1,.int .i64 a2,.int .i64 a3,.slice none 0 0,.int .i64 a5]] w (Did B T E w (f x s))
/-- the functions and globals of a unit, up to its end -/
def globsF (fam:Nat→F3):Nat→F3
  | 0=>fun _=>.out
  | m+1=>fun s=>if s.L=[] then .ok s else (fam m s).bind (globsF fam m)

set_option maxHeartbeats 16000000 in
set_option maxRecDepth 100000 in
theorem globals_fn {B T E n:Nat}{fam:Nat→F3}(hit:∀ m,m<n→FnC B T E 125 (fam m)):FnC B T E 71 (globsF fam n):=fun w s h hr=>by
  obtain ⟨r,hrr⟩ : ∃ r,r=globsF fam n s:=⟨_,rfl⟩
  rw [← hrr] at hr ⊢
  obtain ⟨Q,hQ⟩ : ∃ Q:Ending→World→Prop,Q=Did B T E w r:=⟨_,rfl⟩
  rw [← hQ]
  have HQ:=Lib.hid hQ
  have HR:=Lib.hid hr
  have hB:=h.lt
  clear hQ hr
  have Hrr:=Lib.hid hrr
  have HIt:=Lib.hid hit
  have HP0:=Lib.hid h
  clear hrr hit h
  go_enter Tryz.func71,Tryz.ntmps71
  go_wp2
  go_loopg [] n (fun k wr=>∃ s2,k≤n∧Hid (r=globsF fam k s2)∧Ext B w wr∧Ps B T E wr s2)
  case atStart=>exact ⟨s,Nat.le_refl _,Hrr,Ext.refl _ _,HP0.out⟩
  case round =>
    obtain ⟨s2,hk,HK,hx,hp⟩:=hrel
    have HXr:=Lib.hid hx
    have HPr:=Lib.hid hp
    clear hx hp HP0 Hrr
    cases gk with
    | zero=>exact absurd HK.out HR.out
    | succ m =>
      have HK2:Hid (r=if s2.L=[] then .ok s2 else (fam m s2).bind (globsF fam m)):=HK.out
      clear HK
      have hen:=ended_any HPr.out
      by_cases hl:s2.L=[]
      · have hd:decide (s2.L.length=0)=true:=by rw [hl];rfl
        rw [hd] at hen
        have HR2:Hid (r=.ok s2):=by have h:=HK2.out;rw [if_pos hl] at h;exact h
        clear hd hl HK2
        go_wp2_with (go_at_call 79;refine hen.mono ?_;rintro e w' ⟨rfl,rfl⟩)
        (try go_wp2)
        (try go_ret)
        rw [HQ.out,HR2.out]
        exact ⟨rfl,HXr.out,HPr.out⟩
      · have hd:decide (s2.L.length=0)=false:=by
          cases h2:s2.L with
          | nil=>exact absurd h2 hl
          | cons a b=>rfl
        rw [hd] at hen
        have HK3:Hid (r=(fam m s2).bind (globsF fam m)):=by have h:=HK2.out;rw [if_neg hl] at h;exact h
        have hne:fam m s2≠.out:=fun e=>HR.out (by rw [HK3.out,e];rfl)
        have hcall:=HIt.out m (by omega) wr s2 HPr.out hne
        clear hd hl HK2 hne
        go_wp2_with (first | (go_at_call 79;refine hen.mono ?_;rintro e w' ⟨rfl,rfl⟩) | (go_at_call 125;refine hcall.mono ?_))
        intro e w8 hd
        cases hf:fam m s2 with
        | out=>exact absurd (by rw [HK3.out,hf];rfl) HR.out
        | bad c1 b1 =>
          rw [hf] at hd
          obtain ⟨rfl,hx8⟩:=hd
          have HX8:=Lib.hid (HXr.out.trans hx8)
          have HRb:Hid (r=.bad c1 b1):=by have h:=HK3.out;rw [hf] at h;exact h
          clear hcall hf hx8 hen
          unfold errV
          go_wp2
          (try go_ret)
          rw [HQ.out,HRb.out]
          exact ⟨rfl,HX8.out⟩
        | ok s3 =>
          rw [hf] at hd
          obtain ⟨rfl,hx8,hp8⟩:=hd
          have HX8:=Lib.hid (HXr.out.trans hx8)
          have HP8:=Lib.hid hp8
          have HK5:Hid (r=globsF fam m s3):=by have h:=HK3.out;rw [hf] at h;exact h
          clear hcall hf hx8 hp8 hen HK3
          go_wp2
          go_roundg m
          case rel=>exact ⟨s3,by omega,HK5,HX8.out,HP8.out⟩
          case measure=>omega

set_option maxHeartbeats 16000000 in
set_option maxRecDepth 100000 in
theorem unit_fn {B T E:Nat}{gl:F3}(hgl:FnC B T E 71 gl):FnC B T E 37 (buildF (mk 1 [] 0 0) [gl]):=fun w s h hr=>by
  obtain ⟨r,hrr⟩ : ∃ r,r=buildF (mk 1 [] 0 0) [gl] s:=⟨_,rfl⟩
  rw [← hrr] at hr ⊢
  obtain ⟨Q,hQ⟩ : ∃ Q:Ending→World→Prop,Q=Did B T E w r:=⟨_,rfl⟩
  rw [← hQ]
  have HQ:=Lib.hid hQ
  have HR:=Lib.hid hr
  have hB:=h.lt
  clear hQ hr
  have hcall:=build_now (Now.refl h) [.func (.func 71) #[.pointer (some ⟨B,0,none⟩)] #[]] [gl] rfl (by simp) (step1 (stepFn hgl ent61 w)) (mk 1 [] 0 0) rfl (by rw [← hrr];exact HR.out) 70
  rw [← hrr] at hcall
  have hc2:Calls Tryz.prog 70 #[.pointer (some ⟨B,2,none⟩),.agg #[.int .i64 1,.string ⟨#[]⟩,.int .i64 0,.int .i64 0,.slice none 0 0,.int .i64 0],.slice (some ⟨w.heap.size,0,none⟩) 1 1] (w.alloc (.cells #[.func (.func 71) #[.pointer (some ⟨B,0,none⟩)] #[]] 70)) (Ends B T E w r):=hcall
  clear hcall hrr h
  go_enter Tryz.func37,Tryz.ntmps37
  go_wp2_with (go_at_call 70;refine hc2.mono ?_)
  rintro e w2 ⟨v,rfl,hd,hx⟩
  have HD:=Lib.hid hd
  clear hd hx hc2
  go_wp2
  (try go_ret)
  rw [HQ.out]
  exact HD.out

def globF (E n:Nat) (fnf:Mn→F3) (ex:F3) (fam:Nat→F3):F3:=fun s =>
  if (pk E s.L).t=[118,111,105,100] then (namedF E 0 { s with L:=s.L.tail }).bind fun s1 x=>fnf x s1
  else (declF E s).bind fun s1 x=>if (pk E s1.L).t=[40] then fnf x s1 else if (pk E s1.L).t=[91]∧x.n=1 then arrayF E x fam n s1 else buildF { x with k:=2 } [initialF E ex,wordF E [59]] s1

set_option maxHeartbeats 16000000 in
set_option maxRecDepth 100000 in
theorem glob_void {B T E n:Nat}{fnf:Mn→F3}{ex:F3}{fam:Nat→F3}(hfn:NdC B T E 179 fnf) {w:World}{s:S3}(h:Ps B T E w s) (ht:(pk E s.L).t=[118,111,105,100]) (hr:globF E n fnf ex fam s≠.out) :
    Calls Tryz.prog 125 #[.pointer (some ⟨B,0,none⟩)] w (Did B T E w (globF E n fnf ex fam s)):=by
  obtain ⟨r,hrr⟩ : ∃ r,r=globF E n fnf ex fam s:=⟨_,rfl⟩
  rw [← hrr] at hr ⊢
  obtain ⟨Q,hQ⟩ : ∃ Q:Ending→World→Prop,Q=Did B T E w r:=⟨_,rfl⟩
  rw [← hQ]
  have HQ:=Lib.hid hQ
  have HR:=Lib.hid hr
  have hB:=h.lt
  clear hQ hr
  have htk:=took_yes h ⟨#[118,111,105,100]⟩ rfl ht
  have Hrr0:Hid (r=(namedF E 0 { s with L:=s.L.tail }).bind fun s1 x=>fnf x s1):=by
    show r=_
    rw [hrr];unfold globF;rw [if_pos ht]
  have HFn:=Lib.hid hfn
  clear hrr h ht hfn
  go_enter Tryz.func125,Tryz.ntmps125
  go_wp2_with (go_at_call 134;refine htk.mono ?_;rintro e w1 ⟨rfl,hx1,hp1⟩)
  have hnm:=named_any hp1 0
  have HX1:=Lib.hid hx1
  have HP1:=Lib.hid hp1
  clear hx1 hp1 htk
  go_wp2_with (go_at_call 178;refine hnm.mono ?_)
  rintro e w2 ⟨a0,a1,a2,a3,a5,v2,s1,rfl,hM,hd⟩
  have HM:=Lib.hid hM
  have hB2:B<w2.heap.size:=(hM.of HP1.out).lt
  have HX2:=Lib.hid (HX1.out.trans hM.ext)
  clear hM hnm
  cases hf:namedF E 0 { s with L:=s.L.tail } with
  | out=>rw [hf] at hd;exact hd.elim
  | bad c1 b1 =>
    rw [hf] at hd
    obtain rfl:v2=errV c1 b1:=hd
    have HRb:Hid (r=.bad c1 b1):=by have h:=Hrr0.out;rw [hf] at h;exact h
    clear hf
    unfold errV
    go_wp2
    (try go_ret)
    rw [HQ.out,HRb.out]
    exact ⟨rfl,HX2.out.alloc hB _⟩
  | ok s2 x =>
    rw [hf] at hd
    obtain ⟨hv,rfl,rfl,hc⟩:=hd
    have Hrr:Hid (r=fnf x s1):=by have h:=Hrr0.out;rw [hf] at h;exact h
    have hp2:=HM.out.of HP1.out
    have hcall:=HFn.out a0 a1 a2 a3 a5 x hv hc (w2.alloc (.cells #[.int .i64 a0,.string a1,.int .i64 a2,.int .i64 a3,.slice none 0 0,.int .i64 a5] 34)) s1 (hp2.alloc _) (by rw [← Hrr.out];exact HR.out)
    rw [← Hrr.out] at hcall
    have HX6:=Lib.hid (HX2.out.alloc hB (.cells #[.int .i64 a0,.string a1,.int .i64 a2,.int .i64 a3,.slice none 0 0,.int .i64 a5] 34))
    clear hv hc hf HM HX1 HP1 Hrr0 hp2
    go_wp2_with (go_at_call 179;refine hcall.mono ?_)
    intro e w3 hd
    obtain ⟨v,rfl,hd⟩:=did_ret hd HR.out
    have HD:=Lib.hid (did_ext hd HX6.out)
    clear hd hcall
    go_wp2
    (try go_ret)
    rw [HQ.out]
    exact HD.out
end
section
open Go.RowKit
open Tk (T4 bstr)
open Tr (Nd Blk KidsAt)

theorem compound_fn {B T E n:Nat}{bo ex:F3}{fam:Nat→F3}(hco:FnC B T E 280 (conditionF E ex)) (hbo:FnC B T E 281 bo) (hel:FnC B T E 282 (elseF E bo)) (hst:FnC B T E 283 (startF E ex)) (hex:FnC B T E 40 ex) (hef:FnC B T E 267 (effectF E ex)) (hnn:FnC B T E 266 (nothingF E)) (hit:∀ m,m<n→FnC B T E 285 (fam m)):FnC B T E 264 (compF E bo ex fam n):=fun w s h hr=>by
  unfold compF at hr ⊢
  by_cases h1:(pk E s.L).t=[105,102]
  · rw [if_pos h1] at hr ⊢;exact comp_if hco hbo hel h h1 hr
  rw [if_neg h1] at hr ⊢
  by_cases h2:(pk E s.L).t=[119,104,105,108,101]
  · rw [if_pos h2] at hr ⊢;exact comp_while hco hbo h h2 hr
  rw [if_neg h2] at hr ⊢
  by_cases h3:(pk E s.L).t=[100,111]
  · rw [if_pos h3] at hr ⊢;exact comp_do hco hbo h h3 hr
  rw [if_neg h3] at hr ⊢
  by_cases h4:(pk E s.L).t=[102,111,114]
  · rw [if_pos h4] at hr ⊢;exact comp_for hbo hst hex hef hnn h h4 hr
  rw [if_neg h4] at hr ⊢
  refine comp_switch hco hit h ?_ hr
  intro l hl e
  rw [e] at h1 h2 h3 h4
  simp only [List.mem_cons,List.not_mem_nil,or_false] at hl
  rcases hl with hl | hl | hl | hl <;> subst hl <;> simp_all
end
end Go.Proofs.YtdjpopebeenlmaaGreatDoor
