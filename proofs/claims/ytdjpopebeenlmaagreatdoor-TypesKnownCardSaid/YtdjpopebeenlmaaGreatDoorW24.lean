/-
  Joined texts of this claim: Lw.
-/
import Derived.Test.YtdjpopebeenlmaaGreatDoorW00
import Derived.Test.YtdjpopebeenlmaaGreatDoorCards
import Derived.Test.YtdjpopebeenlmaaGreatDoorTie
import Derived.Test.YtdjpopebeenlmaaGreatDoorW22
import Derived.ProofKit
import Derived.OpenShut
import Derived.LaidMore
import Derived.LaidLaws
import Derived.LaidHandle
import Derived.MakeChecks
import Derived.Deep.DeepHandedRow
import Derived.Deep.DeepWitnessRowRef
set_option maxHeartbeats 40000000
set_option maxRecDepth 100000
set_option linter.unusedVariables false
set_option linter.unusedSimpArgs false
namespace Go.Proofs.YtdjpopebeenlmaaGreatDoor
section
open Go.ChangeShapes Go.WideShapes Go.ChangeAt Go.RowKit

theorem own:ownKnob Tryz.prog.godebug=none:=by kernel_rfl
theorem gRange : Tryz.prog.globalNamed "strconv.ErrRange" = some 4 := by kernel_rfl
theorem tRange:(Tryz.prog.globals[4]?).map (·.type)=some 68:=by kernel_rfl
theorem gType : Tryz.prog.globalNamed "errors.errorType" = some 0 := by kernel_rfl
/-- the list that all rows of the seat bear -/
def laid6 : List (String × DataW Unit) := [("math/bits.deBruijn32tab", Rows.laid_math_bits_deBruijn32tab), ("math/bits.deBruijn64tab", Rows.laid_math_bits_deBruijn64tab), ("internal/strconv.uint64pow10", Rows.laid_internal_strconv_uint64pow10), ("errors.errorType", Rows.laid_errors_errorType), ("strconv.ErrRange", Rows.laid_strconv_ErrRange), ("strconv.ErrSyntax", Rows.laid_strconv_ErrSyntax)]
def laid5 : List (String × DataW Unit) := [("math/bits.deBruijn32tab", Rows.laid_math_bits_deBruijn32tab), ("math/bits.deBruijn64tab", Rows.laid_math_bits_deBruijn64tab), ("internal/strconv.uint64pow10", Rows.laid_internal_strconv_uint64pow10), ("strconv.ErrRange", Rows.laid_strconv_ErrRange), ("strconv.ErrSyntax", Rows.laid_strconv_ErrSyntax)]
theorem fs : (laid6.filter fun x => x.2.handleName?.isSome) = [("errors.errorType", Rows.laid_errors_errorType)] := by kernel_rfl
theorem fn:(laid6.filter fun x=>x.2.handleName?.isNone)=laid5:=by kernel_rfl
theorem one52:(List.range Tryz.prog.types.size).all (fun ty=>!(Tryz.prog.rowNamed ty [101,114,114,111,114]) || ty == 68)=true:=by kernel_rfl
theorem handle_of {W : World} (h : handlesMet Tryz.prog [("errors.errorType", Rows.laid_errors_errorType)] W) : W.cell? ⟨0, 0, none⟩ = some (.iface 209 (.agg #[hd 68])) := by
  have h1:=h _ (List.mem_singleton.2 rfl)
  have e1 : (("errors.errorType", Rows.laid_errors_errorType) : String × DataW Unit).2.funcsIn? = none := by kernel_rfl
  rw [e1] at h1
  obtain ⟨name,u,ty,hn,hu,hlt,hrow,hv⟩:=h1
  obtain rfl : [101, 114, 114, 111, 114] = name := Option.some.inj ((show (("errors.errorType", Rows.laid_errors_errorType) : String × DataW Unit).2.handleName? = some [101, 114, 114, 111, 114] by kernel_rfl).symm.trans hn)
  obtain rfl : 209 = u := Option.some.inj ((show (Tryz.prog.cutTypes.find? (·.1 == "internal/reflectlite.rtype")).map (·.2) = some 209 by kernel_rfl).symm.trans hu)
  have h52:=List.all_eq_true.1 one52 ty (List.mem_range.2 hlt)
  rw [hrow] at h52
  obtain rfl:ty=68:=by simpa using h52
  have hc:=World.var?_cell gType hv 0
  rw [hd_eq] at hc
  simpa using hc
/-- WHAT THE ROW's LIST GIVES -/
theorem env_of_laid {W:World}(h:laidMetH Tryz.prog laid6 W) (hsh:W.ShapedOpen Tryz.prog):Env W:=by
  unfold laidMetH at h
  rw [fs,fn] at h
  obtain ⟨hm,hh⟩:=h
  refine ⟨hsh,?_,handle_of hh⟩
  obtain ⟨ps,⟨g0,t0,cs0,f0,p0,q0,hg0,ht0,hv0,hd0,⟨g1,t1,cs1,f1,p1,q1,hg1,ht1,hv1,hd1,⟨g2,t2,cs2,f2,p2,q2,hg2,ht2,hv2,hd2,⟨g3,t3,cs3,f3,p3,q3,hg3,ht3,hv3,hd3,_,_⟩,_⟩,_⟩,_⟩,_,_⟩:=hm
  obtain rfl:=Option.some.inj (gRange.symm.trans hg3)
  obtain rfl:=Option.some.inj (tRange.symm.trans ht3)
  obtain ⟨f,u,v,hcs,_,_⟩:=iface_of_trod Tryz.underlying68 hd3
  have:=World.var?_cell hg3 hv3 0
  rw [Array.eq_one_of_toList hcs] at this
  exact ⟨u,v,by simpa using this⟩

/-- A WORLD FOR THE WITNESS: the heap that the door's run leaves. -/
noncomputable def laidWorld (os:Os):World:=World.doorLaid Tryz.prog 400 os
theorem laid_met (os:Os) (args:Array Value):laidMetH Tryz.prog laid6 ((laidWorld os).forCall (fun _ _=>0) ⟨#[],args,[]⟩).memory:=by
  refine laidMetH_of_parts ?_ ?_
  · rw [fn];exact laidMet_of_run' 8 (by kernel_rfl) (by kernel_rfl)
  · rw [fs];kernel_rfl
end
end Go.Proofs.YtdjpopebeenlmaaGreatDoor
