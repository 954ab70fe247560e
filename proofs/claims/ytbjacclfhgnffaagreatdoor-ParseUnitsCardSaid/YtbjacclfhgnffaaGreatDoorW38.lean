/-
  Joined texts of this claim: Vj.
-/
import Derived.Test.YtbjacclfhgnffaaGreatDoorW00
import Derived.Test.YtbjacclfhgnffaaGreatDoorW23
import Derived.Test.YtbjacclfhgnffaaGreatDoorW10
import Derived.Test.YtbjacclfhgnffaaGreatDoorW25
set_option maxHeartbeats 40000000
set_option maxRecDepth 100000
set_option linter.unusedVariables false
set_option linter.unusedSimpArgs false
namespace Go.Proofs.YtbjacclfhgnffaaGreatDoor
section
open Go.RowKit
open Tk (T4 SR Scans bstr rowOf)
open Tr (Nd Blk KidsAt Fit)
theorem nz_unitW {l:List UInt8}{E n:Nat}{R:SR}(h:TokR l R):Nz (unitW E n R):=nz_seq _ (nz3 (nz_read h) (nz_unit E n) nz_fits) _
def UnitOf (l:List UInt8) (r:R3):Prop:=∃ n R,TokR l R∧unitW l.length n R=r∧r≠.out
theorem punit_of {s:ByteArray}{r:R3}(h:UnitOf s.data.toList r) {w:World}(hE:Env w) (hs47:s.size≤140737488355328):Calls Tryz.prog 14 #[.string s] w (ParR r w):=by
 obtain ⟨n,R,hR,hr,ho⟩:=h
 obtain ⟨te,pe,hv⟩:=hE.v3
 rw [← Lib.size_eq] at hr
 have:=punit_any (n:=n) (fun B=>fnUnit B 68 s.size n) hR w hs47 hE.sh hv hE.v0 (by rw [hr];exact ho) (nz_unitW hR)
 rwa [hr] at this
def GoodU (r:R3):Prop:=∀ s,r=.ok s→CkN s.N 0 0∧∃ x,s.N.getLast? = some x∧x.k=1
theorem unitW_ok (E n:Nat) (L:List T4):unitW E n (.ok L)=(unitF E n ⟨L,[],[]⟩).bind (seqF [fitsF]):=rfl
theorem seq_fits_ok {s s1:S3}(h:seqF [fitsF] s=.ok s1):s1=s∧CkN s.N 0 0:=by
 obtain ⟨s3,h4,h5⟩:=bindF_ok h
 obtain ⟨rfl,hc⟩:=fits_ok h4
 cases h5
 exact ⟨rfl,hc⟩
theorem unitOf_total (l:List UInt8):∃ r,UnitOf l r∧GoodU r:=by
 obtain ⟨R,hR⟩:=TokR.total l
 have hf:=hR.few
 cases R with
 | bad c a=>exact ⟨.bad c a,⟨0,.bad c a,hR,rfl,by simp⟩,fun s h=>by cases h⟩
 | ok L =>
  obtain ⟨h8,-⟩:=hf
  have hfine:=unit_fine l.length 8100 L (by omega) (by omega)
  refine ⟨unitW l.length 8100 (.ok L),⟨8100,.ok L,hR,rfl,?_⟩,fun s hs=>?_⟩
  ·rw [unitW_ok];exact bind_ne hfine.ne (fun s=>bind_ne (fits_ne s) (fun s=>by simp [seqF]))
  ·rw [unitW_ok] at hs
   obtain ⟨s1,h1,h2⟩:=bindF_ok hs
   obtain ⟨rfl,hc⟩:=seq_fits_ok h2
   exact ⟨hc,(hfine.ok h1).2⟩
end
end Go.Proofs.YtbjacclfhgnffaaGreatDoor
