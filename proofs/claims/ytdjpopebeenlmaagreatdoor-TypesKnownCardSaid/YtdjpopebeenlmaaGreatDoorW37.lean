/-
  Joined texts of this claim: Yze.
-/
import Derived.Test.YtdjpopebeenlmaaGreatDoorW00
import Derived.Test.YtdjpopebeenlmaaGreatDoorW36
set_option maxHeartbeats 40000000
set_option maxRecDepth 100000
set_option linter.unusedVariables false
set_option linter.unusedSimpArgs false
namespace Go.Proofs.YtdjpopebeenlmaaGreatDoor
section
namespace Ty
open Go.RowKit
open Tr Sc

theorem nmF_code {l:List Nd}{c a:Int}(h0:1≤l.length) (hC:∀ j,j<l.length→codeAt l j=0) (h:namesF l=.bad c a):c≠0:=by
  unfold namesF at h
  split at h
  · cases h;decide
  · split at h
    · rename_i E Wt ht
      have hfin:=fine_look hC l.length 0 (l.length-1) E.length E (by omega) (by omega) (by omega)
      cases hl:Sc.look l l.length 0 (l.length-1) E with
      | ok E' W=>rw [hl] at h;cases h
      | bad c1 a1=>rw [hl] at h hfin;cases h;rcases hfin with rfl | rfl <;> decide
      | out=>rw [hl] at hfin;exact hfin.elim
    · rename_i ht;cases h;rcases tops_code _ _ _ _ _ ht with rfl | rfl <;> decide
    · rename_i ht;exact absurd ht (tops_out _ _ _)
theorem ckr_a0 {l:List Nd}{a:Int}(hc:CkR l 0 a):a=0:=by
  rcases hc with ⟨_,e,_⟩ | ⟨_,_,⟨i,_,_,hne,e,_⟩ | ⟨_,⟨_,e,_⟩ | ⟨_,⟨_,e,_⟩ | ⟨_,_,e⟩⟩⟩⟩
  · cases e
  · exact absurd e.symm hne
  · cases e
  · cases e
  · exact e
section
variable {w:World}{l:List Nd}{p:Option Addr}{cap:Nat}
set_option maxHeartbeats 8000000 in
set_option maxRecDepth 100000 in
theorem of_bad {n:Nat}{R:Int→Int→Prop}
    (hNM:Calls Tryz.prog 44 #[.agg #[.slice p n cap]] ((w.alloc (.cells #[.slice p n cap] 24)).alloc (.cells #[.int .i64 0,.int .i64 0] 26)) fun e w'=>∃ c a,R c a∧c≠0∧e=.returned (.tuple #[.slice none 0 0,.agg #[.int .i64 c,.int .i64 a]])∧Below (w.heap.size+2) ((w.alloc (.cells #[.slice p n cap] 24)).alloc (.cells #[.int .i64 0,.int .i64 0] 26)) w') :
    Calls Tryz.prog 19 #[.agg #[.slice p n cap]] w fun e w'=>∃ c a,R c a∧c≠0∧e=.returned (.tuple #[.slice none 0 0,.agg #[.int .i64 c,.int .i64 a]])∧Below w.heap.size w w':=by
  have H1:Hid (Below w.heap.size w ((w.alloc (.cells #[.slice p n cap] 24)).alloc (.cells #[.int .i64 0,.int .i64 0] 26))):=Lib.hid (((Below.refl _ _).alloc (Nat.le_refl _) _).alloc (by simp) _)
  have HX2:Hid (Blk ((w.alloc (.cells #[.slice p n cap] 24)).alloc (.cells #[.int .i64 0,.int .i64 0] 26)) (w.heap.size+1) 26 #[.int .i64 0,.int .i64 0]):=Lib.hid (by have:=Blk.new (w.alloc (.cells #[.slice p n cap] 24)) 26 #[.int .i64 0,.int .i64 0];rw [World.size_alloc] at this;exact this)
  obtain ⟨Q,hQ⟩ : ∃ Q:Ending→World→Prop,Q=fun e w'=>∃ c a,R c a∧c≠0∧e=.returned (.tuple #[.slice none 0 0,.agg #[.int .i64 c,.int .i64 a]])∧Below w.heap.size w w':=⟨_,rfl⟩
  rw [← hQ]
  have HQ:=Lib.hid hQ
  clear hQ
  go_enter Tryz.func19,Tryz.ntmps19
  go_wp2_with (go_at_call 44;refine hNM.mono ?_)
  rintro e w2 ⟨c,a,hR,hc,rfl,hb2⟩
  have hX3:=HX2.out.below hb2 (by omega)
  have HBel:=Lib.hid (H1.out.trans (hb2.mono (by omega)))
  have y0:w2.cell? ⟨w.heap.size+1,0,none⟩=some (.int .i64 0):=by rw [hX3.cell];rfl
  have y1:w2.cell? ⟨w.heap.size+1,1,none⟩=some (.int .i64 0):=by rw [hX3.cell];rfl
  have g0:=hX3.frozen 0
  have g1:=hX3.frozen 1
  have lX:=hX3.lt
  have hc':(c != 0)=true:=by simpa using hc
  have HC:=Lib.hid hc
  have HR:=Lib.hid hR
  have hz:=(set2 hX3 (.int .i64 c) (.int .i64 a)).alloc (.cells #[.int .i64 c,.int .i64 a] 26)
  have Z0:=Lib.hid (hz.cell 0)
  have Z1:=Lib.hid (hz.cell 1)
  clear hc hz hb2 hX3 hR
  go_wp2
  go_region
  all_goals
    go_wp2
    have z0:=Z0.out
    have z1:=Z1.out
    refine bodyPost_ret (v:=.tuple #[.slice none 0 0,.agg #[.int .i64 c,.int .i64 a]]) (by simp [results,Tryz.results19,go_sem,z0,z1]) rfl ?_
    rw [HQ.out]
    exact ⟨c,a,HR.out,HC.out,rfl,(((HBel.out.setCell (p:=⟨w.heap.size+1,0,none⟩) (by simp) _).setCell (p:=⟨w.heap.size+1,1,none⟩) (by simp) _).alloc (by have:=HBel.out.size;simp;omega) _).drew⟩
theorem of_any (hT:Tr.Tr w p l) (hf:Fit l cap) (hcaps:∀ k,(h:k<l.length)→l[k].c.length≤l[k].cap) :
    Calls Tryz.prog 19 #[.agg #[.slice p l.length cap]] w (TyPost l w):=by
  have h1:Below w.heap.size w ((w.alloc (.cells #[.slice p l.length cap] 24)).alloc (.cells #[.int .i64 0,.int .i64 0] 26)):=((Below.refl _ _).alloc (Nat.le_refl _) _).alloc (by simp) _
  have hs:((w.alloc (.cells #[.slice p l.length cap] 24)).alloc (.cells #[.int .i64 0,.int .i64 0] 26)).heap.size=w.heap.size+2:=by simp
  have hN:=names_any l p cap _ (hT.below h1) hf
  by_cases hg:∃ ns,CkR l 0 0∧namesF l=.ok ns
  · obtain ⟨ns,hz0,hns⟩:=hg
    have hz:=ckr_zero hz0
    have htf:typesF l=typesN l ns:=by unfold typesF;rw [hns]
    refine (of_good hT hf hcaps hz.1 hz.2.1 hz.2.2.1 hz.2.2.2.1 hns (kd_facts hz.1 hz.2.2.1 hz.2.2.2.1 hns).1 (hN.mono fun e w' he=>?_)).mono fun e w' he=>⟨0,0,hz0,Or.inr ⟨rfl,by rw [htf];exact he⟩⟩
    obtain ⟨c,a,hck,⟨h0,_⟩ | ⟨rfl,h3⟩⟩:=he
    · exact absurd (CkR.det hck hz0).1 h0
    · rw [hns] at h3
      obtain ⟨F,a1,a2,a3,a4,_⟩:=h3
      rw [hs] at a1 a3
      exact ⟨F,a1,a2,a3,a4⟩
  · refine (of_bad (R:=fun c a=>CkR l c a∨(CkR l 0 0∧namesF l=.bad c a)) (hN.mono fun e w' he=>?_)).mono fun e w' he=>?_
    · obtain ⟨c,a,hck,⟨h0,h3⟩ | ⟨rfl,h3⟩⟩:=he
      · obtain ⟨a1,a2⟩:=h3
        rw [hs] at a2
        exact ⟨c,a,Or.inl hck,h0,a1,a2⟩
      · have hz:=ckr_zero hck
        have ha:a=0:=ckr_a0 hck
        subst ha
        cases hn:namesF l with
        | ok ns=>exact absurd ⟨ns,hck,hn⟩ hg
        | bad c1 a1 =>
          rw [hn] at h3
          obtain ⟨b1,b2⟩:=h3
          rw [hs] at b2
          exact ⟨c1,a1,Or.inr ⟨hck,rfl⟩,nmF_code hz.1 hz.2.2.1 hn,b1,b2⟩
    · obtain ⟨c,a,hr,hc,rfl,hb⟩:=he
      rcases hr with hr | ⟨hr,hn⟩
      · exact ⟨c,a,hr,Or.inl ⟨hc,rfl,hb⟩⟩
      · refine ⟨0,0,hr,Or.inr ⟨rfl,?_⟩⟩
        have htf:typesF l=.bad c a:=by unfold typesF;rw [hn]
        rw [htf]
        exact ⟨rfl,hb⟩
end
end Ty
end
end Go.Proofs.YtdjpopebeenlmaaGreatDoor
