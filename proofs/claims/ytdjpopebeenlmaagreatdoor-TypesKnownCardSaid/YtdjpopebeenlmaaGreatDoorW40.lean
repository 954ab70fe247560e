/-
  Joined texts of this claim: Yfb.
-/
import Derived.Test.YtdjpopebeenlmaaGreatDoorW00
import Derived.Test.YtdjpopebeenlmaaGreatDoorW28
import Derived.Test.YtdjpopebeenlmaaGreatDoorW37
import Derived.Test.YtdjpopebeenlmaaGreatDoorW27
import Derived.Test.YtdjpopebeenlmaaGreatDoorW31
set_option maxHeartbeats 40000000
set_option maxRecDepth 100000
set_option linter.unusedVariables false
set_option linter.unusedSimpArgs false
namespace Go.Proofs.YtdjpopebeenlmaaGreatDoor
section
namespace Ty
open Go.RowKit
open Tr Sc
open Go.Proofs.YtdjpopebeenlmaaGreatDoor (punit_of)

theorem runF_code {l:List Nd}{ns:List Int}:∀ (f k:Nat) (fs:List Int) (c a:Int),runF l ns f k fs=.bad c a→c≠0:=by
  intro f
  induction f with
  | zero=>intro k fs c a h;cases h
  | succ f ih =>
    intro k fs c a h
    simp only [runF] at h
    split at h
    · rename_i h0;cases h;exact h0
    · exact ih _ _ _ _ h
theorem typesF_code {l:List Nd}{c a:Int}(h0:1≤l.length) (hC:∀ j,j<l.length→codeAt l j=0) (h:typesF l=.bad c a):c≠0:=by
  unfold typesF at h
  split at h
  · rename_i hn;cases h;exact nmF_code h0 hC hn
  · unfold typesN at h
    split at h
    · rename_i hr;cases h;exact runF_code _ _ _ _ _ hr
    · split at h
      · rename_i hm;cases h;exact hm
      · cases h
/-- what Of tells, for the laws -/
def TyGood (l:List Nd) (w:World) (e:Ending) (w':World):Prop:=Below w.heap.size w w' ∧
  ((∃ c a:Int,c≠0∧e=.returned (.tuple #[.slice none 0 0,.agg #[.int .i64 c,.int .i64 a]])) ∨
   (∃ F fs,e=.returned (.tuple #[.slice (some ⟨F,0,none⟩) l.length l.length,.agg #[.int .i64 0,.int .i64 0]])∧w.heap.size≤F∧F<w'.heap.size∧Blk w' F 3 (intA fs)∧fs.length=l.length∧typesF l=.ok fs∧CkR l 0 0∧∀ k,k<l.length→Kw l fs k))
theorem types_good (l:List Nd) (p:Option Addr) (cap:Nat) (w:World) (hT:Tr.Tr w p l) (hf:Fit l cap) (hc:∀ k,(h:k<l.length)→l[k].c.length≤l[k].cap):Calls Tryz.prog 19 #[.agg #[.slice p l.length cap]] w (TyGood l w):=by
  refine (of_any hT hf hc).mono fun e w' hp=>?_
  obtain ⟨c,a,hc,⟨h0,h1,h2⟩ | ⟨rfl,h1⟩⟩:=hp
  · exact ⟨h2,Or.inl ⟨c,a,h0,h1⟩⟩
  · have hz:=ckr_zero hc
    cases hn:typesF l with
    | bad c1 a1 =>
      rw [hn] at h1
      obtain ⟨h1,h2⟩:=h1
      exact ⟨h2,Or.inl ⟨c1,a1,typesF_code hz.1 hz.2.2.1 hn,h1⟩⟩
    | ok fs =>
      rw [hn] at h1
      obtain ⟨F,h2,h3,h4,h5,h6⟩:=h1
      have ha:=ckr_a0 hc
      subst ha
      obtain ⟨ns,hns,hG⟩:=good_of hz.2.2.1 hn
      exact ⟨h4,Or.inr ⟨F,fs,h3,h2,h5.lt,h5,h6,hn,hc,fun k hk=>known_any hz.2.2.1 (kd_facts hz.1 hz.2.2.1 hz.2.2.2.1 hns).2 hG hk⟩⟩
theorem tfact1 {w:World}(hE:Go.Proofs.YtdjpopebeenlmaaGreatDoor.Env w):Calls Tryz.prog 13 #[.string ⟨#[105,110,116,32,97,91,51,93,59,32,105,110,116,32,109,97,105,110,40,41,32,123,32,114,101,116,117,114,110,32,38,97,91,49,93,32,45,32,97,59,32,125]⟩] w fun e w'=>Below w.heap.size w w'∧∃ p cap ns fs,e=.returned (.tuple #[.agg #[.slice p ns.length cap],.agg #[.int .i64 0,.int .i64 0]]) ∧
    Tr.Tr w' p ns∧Fit ns cap∧ns.length=11∧typesF ns=.ok fs∧fs[5]? = some 2∧CkR ns 0 0∧∀ k,(h:k<ns.length)→ns[k].c.length≤ns[k].cap:=by
  obtain ⟨s,hs,hf,hc⟩:=fact_types1
  refine (punit_of (s:=⟨#[105,110,116,32,97,91,51,93,59,32,105,110,116,32,109,97,105,110,40,41,32,123,32,114,101,116,117,114,110,32,38,97,91,49,93,32,45,32,97,59,32,125]⟩) hs hE (by decide)).mono fun e w' ⟨hb,p,cap,ns,he,hT,hF,hl,hN,hH⟩=>⟨hb,?_⟩
  unfold factT1 at hf
  obtain ⟨h6,hf⟩:=(Bool.and_eq_true _ _).mp hf
  rw [← types_bare hN] at hf
  have hlen:ns.length=11:=by rw [← hN] at h6;simpa using h6
  cases hn:typesF ns with
  | bad c a=>rw [hn] at hf;cases hf
  | ok fs =>
    rw [hn] at hf
    obtain ⟨_,hf1⟩:=(Bool.and_eq_true _ _).mp hf
    exact ⟨p,cap,ns,fs,he,hT,hF,hlen,hn,eq_of_beq hf1,(CkR_bare ns 0 0).2 (by rw [hN];exact hc),hH.2.2⟩
theorem tfact2 {w:World}{p:Option Addr}{cap:Nat}{ns:List Nd}{fs:List Int}(hT:Tr.Tr w p ns) (hF:Fit ns cap) (h6:ns.length=11) (hn:typesF ns=.ok fs) (h5:fs[5]? = some 2) (hc:CkR ns 0 0) (hk:∀ k,(h:k<ns.length)→ns[k].c.length≤ns[k].cap) :
    Calls Tryz.prog 19 #[.agg #[.slice p 11 cap]] w fun e w'=>Below w.heap.size w w'∧∃ F,e=.returned (.tuple #[.slice (some ⟨F,0,none⟩) 11 11,.agg #[.int .i64 0,.int .i64 0]])∧F<w'.heap.size∧w'.cell? ⟨F,5,none⟩=some (.int .i64 2):=by
  have h:=of_any hT hF hk
  rw [h6] at h
  refine h.mono fun e w' hp=>?_
  obtain ⟨c,a,hca,hp⟩:=hp
  obtain ⟨rfl,rfl⟩:=hc.det hca
  rcases hp with ⟨h0,_⟩ | ⟨_,hp⟩
  · exact absurd rfl h0
  · rw [hn] at hp
    obtain ⟨F,_,he,hb,hB,hl⟩:=hp
    rw [h6] at he
    refine ⟨hb,F,he,hB.lt,?_⟩
    rw [hB.cell];simp [intA,h5]
theorem tfact3 {w:World}(hE:Go.Proofs.YtdjpopebeenlmaaGreatDoor.Env w):Calls Tryz.prog 13 #[.string ⟨#[105,110,116,32,109,97,105,110,40,41,32,123,32,114,101,116,117,114,110,32,42,49,59,32,125]⟩] w fun e w'=>Below w.heap.size w w'∧∃ p cap n,e=.returned (.tuple #[.agg #[.slice p n cap],.agg #[.int .i64 0,.int .i64 0]]) ∧
    ∀ W,Below w'.heap.size w' W→Calls Tryz.prog 19 #[.agg #[.slice p n cap]] W fun e W'=>Below W.heap.size W W'∧∃ a,e=.returned (.tuple #[.slice none 0 0,.agg #[.int .i64 8,.int .i64 a]]):=by
  obtain ⟨s,hs,hf,hc⟩:=fact_types2
  refine (punit_of (s:=⟨#[105,110,116,32,109,97,105,110,40,41,32,123,32,114,101,116,117,114,110,32,42,49,59,32,125]⟩) hs hE (by decide)).mono fun e w' ⟨hb,p,cap,ns,he,hT,hF,hl,hN,hH⟩=>⟨hb,p,cap,ns.length,he,fun W hW=>?_⟩
  unfold factT2 at hf
  rw [← types_bare hN] at hf
  have hck:CkR ns 0 0:=(CkR_bare ns 0 0).2 (by rw [hN];exact hc)
  refine (of_any (hT.below hW) hF hH.2.2).mono fun e w' hp=>?_
  obtain ⟨c,a,hca,hp⟩:=hp
  obtain ⟨rfl,rfl⟩:=hck.det hca
  rcases hp with ⟨h0,_⟩ | ⟨_,hp⟩
  · exact absurd rfl h0
  · cases hn:typesF ns with
    | ok fs=>rw [hn] at hf;cases hf
    | bad c a =>
      rw [hn] at hp hf
      have e8:c=8:=eq_of_beq hf
      subst e8
      exact ⟨hp.2,a,hp.1⟩
set_option maxHeartbeats 4000000 in
set_option maxRecDepth 100000 in
theorem tfact_any {w:World}(hE:Go.Proofs.YtdjpopebeenlmaaGreatDoor.Env w):Calls Tryz.prog 18 #[] w fun e w'=>e=.returned (.bool true)∧Below w.heap.size w w':=by
  have h1:=tfact1 hE
  have HE:=Lib.hid hE
  clear hE
  go_enter Tryz.func18,Tryz.ntmps18
  go_wp2_with (go_at_call 13;refine h1.mono ?_)
  intro e w1 hb1 p cap ns he hT hF h6 fs hn q5 hc hk
  subst he
  rw [h6]
  have hb2:Below w.heap.size w ((w1.alloc (.cells #[.slice p 11 cap] 24)).alloc (.cells #[.int .i64 0,.int .i64 0] 26)):=(hb1.alloc hb1.size _).alloc (by simp;have:=hb1.size;omega) _
  have hb12:Below w1.heap.size w1 ((w1.alloc (.cells #[.slice p 11 cap] 24)).alloc (.cells #[.int .i64 0,.int .i64 0] 26)):=((Below.refl _ _).alloc (Nat.le_refl _) _).alloc (by simp) _
  have h2:=tfact2 (hT.below hb12) hF h6 hn q5 hc hk
  have HB2:=Lib.hid hb2
  clear h1 hb1 hb2 hb12 hT hF h6 hn q5 hc hk
  go_wp2_with (go_at_call 19;refine h2.mono ?_)
  rintro e w2 ⟨hb3,F,rfl,lF,c5⟩
  have hb3w:=HB2.out.trans (hb3.mono HB2.out.size)
  have k2:Blk w2 (w1.heap.size+1) 26 #[.int .i64 0,.int .i64 0]:=by
    have h:=Blk.new (w1.alloc (.cells #[.slice p 11 cap] 24)) 26 #[.int .i64 0,.int .i64 0]
    rw [World.size_alloc] at h
    exact h.below hb3 (by simp)
  have hb4:Below w2.heap.size w2 (w2.alloc (.cells #[.int .i64 0,.int .i64 0] 26)):=(Below.refl _ _).alloc (Nat.le_refl _) _
  have hb4w:=hb3w.trans (hb4.mono hb3w.size)
  have h3:=tfact3 (HE.out.below hb4w)
  have HK2:=Lib.hid k2
  have HK4:Hid (Blk (w2.alloc (.cells #[.int .i64 0,.int .i64 0] 26)) w2.heap.size 26 #[.int .i64 0,.int .i64 0]):=Lib.hid (Blk.new _ _ _)
  have HB4:=Lib.hid hb4
  have HB4W:=Lib.hid hb4w
  have HC5:=Lib.hid c5
  have HLF:=Lib.hid lF
  clear hb3 hb3w hb4 hb4w k2 h2 c5 lF
  go_wp2_with (go_at_call 13;refine h3.mono ?_)
  intro e w3 hp
  obtain ⟨hb5,p3,cap3,n3,he,hof⟩:=hp
  subst he
  have hb6:Below w3.heap.size w3 ((w3.alloc (.cells #[.slice p3 n3 cap3] 24)).alloc (.cells #[.int .i64 0,.int .i64 0] 26)):=((Below.refl _ _).alloc (Nat.le_refl _) _).alloc (by simp) _
  have h4:=hof _ hb6
  have hb5':=(HB4.out.trans (hb5.mono HB4.out.size))
  have HB5:=Lib.hid hb5'
  have HB5':=Lib.hid hb5
  have HB6:=Lib.hid hb6
  clear h3 hof hb5 hb6 hb5'
  go_wp2_with (go_at_call 19;refine h4.mono ?_)
  rintro e w4 ⟨hb7,a,rfl⟩
  have hb7':=HB6.out.trans (hb7.mono HB6.out.size)
  have hall:=HB5.out.trans (hb7'.mono HB5.out.size)
  have k2:=HK2.out.below hall HK2.out.lt
  have k4:=(HK4.out.below HB5'.out HK4.out.lt).below hb7' (Nat.lt_of_lt_of_le HK4.out.lt HB5'.out.size)
  have k6:Blk w4 (w3.heap.size+1) 26 #[.int .i64 0,.int .i64 0]:=by
    have h:=Blk.new (w3.alloc (.cells #[.slice p3 n3 cap3] 24)) 26 #[.int .i64 0,.int .i64 0]
    rw [World.size_alloc] at h
    exact h.below hb7 (by simp)
  have c0:w4.cell? ⟨w1.heap.size+1,0,none⟩=some (.int .i64 0):=by rw [k2.cell];rfl
  have c1:w4.cell? ⟨w2.heap.size,0,none⟩=some (.int .i64 0):=by rw [k4.cell];rfl
  have c2:w4.cell? ⟨w3.heap.size+1,0,none⟩=some (.int .i64 0):=by rw [k6.cell];rfl
  have c3:w4.cell? ⟨F,5,none⟩=some (.int .i64 2):=(hall.cell (p:=⟨F,5,none⟩) HLF.out).trans HC5.out
  have l0:=k2.lt
  have l1:=k4.lt
  have l2:=k6.lt
  have l3:F<w4.heap.size:=Nat.lt_of_lt_of_le HLF.out hall.size
  have HFIN:=Lib.hid (HB4W.out.trans ((HB5'.out.trans (hb7'.mono HB5'.out.size)).mono HB4W.out.size))
  clear hb7 hb7' hall k2 k4 k6 h4
  go_wp2
  go_ret
  exact ⟨rfl,HFIN.out.alloc HFIN.out.size _⟩
end Ty
end
end Go.Proofs.YtdjpopebeenlmaaGreatDoor
