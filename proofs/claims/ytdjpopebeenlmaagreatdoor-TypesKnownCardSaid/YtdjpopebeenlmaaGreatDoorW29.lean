/-
  Joined texts of this claim: Yf.
-/
import Derived.Test.YtdjpopebeenlmaaGreatDoorW00
import Derived.RangeFuncNested
import Derived.RangeFuncBound
import Derived.RangeFuncCalls
import Derived.RangeFuncLeaves
import Derived.RangeFuncBox
import Derived.Shelf.Abstract
import Derived.Shelf.RegionOpen
import Derived.WalkKit
import Derived.OwnWalkIn
import Derived.TacticsInMore
import Derived.LoopNIn
import Derived.LoopIn
import Derived.Maps.AppendAt
import Derived.Test.YtdjpopebeenlmaaGreatDoorW10
set_option maxHeartbeats 40000000
set_option maxRecDepth 100000
set_option linter.unusedVariables false
set_option linter.unusedSimpArgs false
namespace Go.Proofs.YtdjpopebeenlmaaGreatDoor
section
namespace Ty
open Go.RowKit Go.Shelf
open Tr
attribute [local go_sem] Oper.semAt_some

/-- a function value that hands on these numbers, as long as what lay below lies -/
def SeqI (w:World) (v:Value) (xs:List Int):Prop :=
  ∃ g lb,v=.func (.func g) #[] lb∧(∀ args w,(callFunc g args).run Tryz.prog w=.ok (.enter g args) w) ∧
    ∀ n,6≤n→SeqStopsK Fence.wide n Tryz.prog g lb (fun x:Int=>#[Value.int .i64 x]) (Below w.heap.size) (fun ys=>ys=xs) (fun pre=>pre <+: xs) xs.length w
theorem infoI:(Tryz.prog.info? 3).map (fun i=>(i.zero,i.size,i.bytes))=some (some (.int .i64 0),1,8):=by kernel_rfl

set_option maxRecDepth 100000 in
set_option maxHeartbeats 4000000 in
theorem appendSeq_any {w:World}{v:Value}{xs:List Int}(hS:SeqI w v xs) (hlen:xs.length≤1000000) :
    Calls Tryz.prog 196 #[.slice none 0 0,v] w fun e w'=>∃ s,e=.returned s∧w'.ownsRow w.heap.size 3 1 s xs.length (xs.map (Value.int .i64))∧Below w.heap.size w w':=by
  obtain ⟨g,lb,rfl,he,hst⟩:=hS
  refine (callsIn_wide (n:=20)).1 ?_
  obtain ⟨i0,hi,hz0,hz1,hz2⟩:=info_parts infoI
  refine callsIn_of_wp_marks Tryz.func196 rfl trivial ?_ rfl
  simp only [Tryz.ntmps196,List.size_toArray,List.length_cons,List.length_nil,Nat.reduceAdd,Nat.reduceSub,Array.replicate_succ,Array.replicate_zero,List.push_toArray,List.append_toArray,List.nil_append,List.cons_append]
  gi_wp2
  have bO:=Boxed.new w 32 (.slice none 0 0)
  have hB0:Below w.heap.size w (w.alloc (.cells #[.slice none 0 0] 32)):=(Below.refl _ w).alloc (Nat.le_refl _) _
  refine wpIn_rangeFunc_ownG rfl (by omega) (gf:=g) (lb:=lb) rfl trivial he (hst _ (by omega)) belowK_t (belowK_b (by simp)) hB0 (fun _=>rfl)
    (fun pre W=>(∃ v,Boxed W w.heap.size 32 v∧W.ownsRow w.heap.size 3 1 v pre.length (pre.map (Value.int .i64))∧(v=.slice none 0 0 ↔ pre=[]))∧Below w.heap.size w W)
    (fun _ _ _=>False)
    (OwnFrom.and (Own.from (holdsRow_own w.heap.size w.heap.size 32 3 1 (fun pre=>pre.length) (fun pre=>pre.map (Value.int .i64)) (fun pre v=>v=.slice none 0 0 ↔ pre=[])) _) (ownFrom_below (Nat.le_refl _) (by simp)))
    (fun _ _ _ _ _ hs _ _=>hs)
    ⟨⟨_,bO,World.ownsRow_nil _ _ _ _,by simp⟩,hB0⟩
    ?a1 ?assign ?body ?done ?stop
  case assign =>
    intro l x W K hK
    gi_wp2
    exact hK
  case body =>
    rintro l pre x W ⟨⟨v,hv,hrow,hnil⟩,hB⟩ hlt
    have hc:=hv.cell
    gi_wp2_with (gi_at_builtin;refine wpListIn_append_own _ rfl _ _ 32 rfl w.heap.size 3 i0 (.int .i64 0) 1 8 Tryz.underlying32 hi hz0 hz1 hz2 rfl (by decide) _ _ _ rfl (hrow.alloc _) ⟨W.heap.size,0,none⟩ 1 1 [.int .i64 x] rfl rfl (cell_one_new _ _ _) (by simp [Value.oneCell']) (by unfold maxLen;omega) (by omega) (by have:=hB.size;simp;omega) ?_;intro v' w1 hown' hgrow _;obtain ⟨g',cap',rfl⟩:=ownsRow_succ hown';obtain ⟨hv1,hv2,hr2,hk2,hb2⟩:=hv.appended (by decide) hrow hB.size (Nat.le_refl _) hown' hgrow;have hc1:=hv1.cell;have hf1:=hv1.frozen)
    exact ⟨hk2.from _,hb2,⟨_,hv2,by simpa using hr2,by simp⟩,hB.trans hb2⟩
  case done =>
    rintro D ys W hD rfl ⟨⟨v,hv,hrow,hnil⟩,hB⟩ hK
    have hc:=hv.cell
    gi_wp2
    refine ⟨by simp,.inl ⟨_,_,rfl,run_takeDeferred hK,?_⟩⟩
    exact ⟨_,results_tmp rfl _ _ _,v,rfl,ownsRow_putObj hrow _ hK rfl,hB.trans (belowK_b (w:=w) (Nat.le_refl _) W D _ _ (by simp at hD;omega) hK rfl rfl)⟩
  case stop =>
    rintro D c pre W _ _ h _
    exact h.elim
set_option maxHeartbeats 4000000 in
theorem collect_any {w:World}{v:Value}{xs:List Int}(hS:SeqI w v xs) (hlen:xs.length≤1000000) :
    Calls Tryz.prog 145 #[v] w fun e w'=>∃ s,e=.returned s∧w'.ownsRow w.heap.size 3 1 s xs.length (xs.map (Value.int .i64))∧Below w.heap.size w w':=by
  have hA:=appendSeq_any hS hlen
  obtain ⟨g,lb,rfl,_,_⟩:=hS
  obtain ⟨Q,hQ⟩ : ∃ Q:Ending→World→Prop,Q=fun e w'=>∃ s,e=.returned s∧w'.ownsRow w.heap.size 3 1 s xs.length (xs.map (Value.int .i64))∧Below w.heap.size w w':=⟨_,rfl⟩
  rw [← hQ] at hA ⊢
  have HQ:=Lib.hid hQ
  clear hQ
  go_enter Tryz.func145,Tryz.ntmps145
  go_wp2_with (go_at_call 196;refine hA.mono ?_)
  intro e w2 hq
  have hq2:=hq
  rw [HQ.out] at hq2
  obtain ⟨s,rfl,_,_⟩:=hq2
  go_wp2
  exact hq
end Ty
end
end Go.Proofs.YtdjpopebeenlmaaGreatDoor
