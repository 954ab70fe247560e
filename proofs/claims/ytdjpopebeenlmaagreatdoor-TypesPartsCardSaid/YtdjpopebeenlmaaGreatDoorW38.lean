/-
  Joined texts of this claim: Yfb, Ypd, Ypw.
-/
import Derived.Test.YtdjpopebeenlmaaGreatDoorW00
import Derived.Test.YtdjpopebeenlmaaGreatDoorW28
import Derived.Test.YtdjpopebeenlmaaGreatDoorW37
import Derived.Test.YtdjpopebeenlmaaGreatDoorW27
import Derived.Test.YtdjpopebeenlmaaGreatDoorW31
import Derived.StillTactics
import Derived.StillTailTactics
set_option maxHeartbeats 40000000
set_option maxRecDepth 100000
set_option linter.unusedVariables false
set_option linter.unusedSimpArgs false
namespace Go.Proofs.YtdjpopebeenlmaaGreatDoor
section
namespace Ty
open Go.RowKit
open Tr Sc
open Go.Proofs.YtdjpopebeenlmaaGreatDoor (punit_of)

theorem runF_code {l:List Nd}{ns:List Int}:∀ (f k:Nat) (fs:List Int) (c a:Int),runF l ns f k fs=.bad c a→c≠0:=by
  intro f
  induction f with
  | zero=>intro k fs c a h;cases h
  | succ f ih =>
    intro k fs c a h
    simp only [runF] at h
    split at h
    · rename_i h0;cases h;exact h0
    · exact ih _ _ _ _ h
theorem typesF_code {l:List Nd}{c a:Int}(h0:1≤l.length) (hC:∀ j,j<l.length→codeAt l j=0) (h:typesF l=.bad c a):c≠0:=by
  unfold typesF at h
  split at h
  · rename_i hn;cases h;exact nmF_code h0 hC hn
  · unfold typesN at h
    split at h
    · rename_i hr;cases h;exact runF_code _ _ _ _ _ hr
    · split at h
      · rename_i hm;cases h;exact hm
      · cases h
/-- what Of tells, for the laws -/
def TyGood (l:List Nd) (w:World) (e:Ending) (w':World):Prop:=Below w.heap.size w w' ∧
  ((∃ c a:Int,c≠0∧e=.returned (.tuple #[.slice none 0 0,.agg #[.int .i64 c,.int .i64 a]])) ∨
   (∃ F fs,e=.returned (.tuple #[.slice (some ⟨F,0,none⟩) l.length l.length,.agg #[.int .i64 0,.int .i64 0]])∧w.heap.size≤F∧F<w'.heap.size∧Blk w' F 3 (intA fs)∧fs.length=l.length∧typesF l=.ok fs∧CkR l 0 0∧∀ k,k<l.length→Kw l fs k))
theorem types_good (l:List Nd) (p:Option Addr) (cap:Nat) (w:World) (hT:Tr.Tr w p l) (hf:Fit l cap) (hc:∀ k,(h:k<l.length)→l[k].c.length≤l[k].cap):Calls Tryz.prog 19 #[.agg #[.slice p l.length cap]] w (TyGood l w):=by
  refine (of_any hT hf hc).mono fun e w' hp=>?_
  obtain ⟨c,a,hc,⟨h0,h1,h2⟩ | ⟨rfl,h1⟩⟩:=hp
  · exact ⟨h2,Or.inl ⟨c,a,h0,h1⟩⟩
  · have hz:=ckr_zero hc
    cases hn:typesF l with
    | bad c1 a1 =>
      rw [hn] at h1
      obtain ⟨h1,h2⟩:=h1
      exact ⟨h2,Or.inl ⟨c1,a1,typesF_code hz.1 hz.2.2.1 hn,h1⟩⟩
    | ok fs =>
      rw [hn] at h1
      obtain ⟨F,h2,h3,h4,h5,h6⟩:=h1
      have ha:=ckr_a0 hc
      subst ha
      obtain ⟨ns,hns,hG⟩:=good_of hz.2.2.1 hn
      exact ⟨h4,Or.inr ⟨F,fs,h3,h2,h5.lt,h5,h6,hn,hc,fun k hk=>known_any hz.2.2.1 (kd_facts hz.1 hz.2.2.1 hz.2.2.2.1 hns).2 hG hk⟩⟩
theorem tfact1 {w:World}(hE:Go.Proofs.YtdjpopebeenlmaaGreatDoor.Env w):Calls Tryz.prog 13 #[.string ⟨#[105,110,116,32,97,91,51,93,59,32,105,110,116,32,109,97,105,110,40,41,32,123,32,114,101,116,117,114,110,32,38,97,91,49,93,32,45,32,97,59,32,125]⟩] w fun e w'=>Below w.heap.size w w'∧∃ p cap ns fs,e=.returned (.tuple #[.agg #[.slice p ns.length cap],.agg #[.int .i64 0,.int .i64 0]]) ∧
    Tr.Tr w' p ns∧Fit ns cap∧ns.length=11∧typesF ns=.ok fs∧fs[5]? = some 2∧CkR ns 0 0∧∀ k,(h:k<ns.length)→ns[k].c.length≤ns[k].cap:=by
  obtain ⟨s,hs,hf,hc⟩:=fact_types1
  refine (punit_of (s:=⟨#[105,110,116,32,97,91,51,93,59,32,105,110,116,32,109,97,105,110,40,41,32,123,32,114,101,116,117,114,110,32,38,97,91,49,93,32,45,32,97,59,32,125]⟩) hs hE (by decide)).mono fun e w' ⟨hb,p,cap,ns,he,hT,hF,hl,hN,hH⟩=>⟨hb,?_⟩
  unfold factT1 at hf
  obtain ⟨h6,hf⟩:=(Bool.and_eq_true _ _).mp hf
  rw [← types_bare hN] at hf
  have hlen:ns.length=11:=by rw [← hN] at h6;simpa using h6
  cases hn:typesF ns with
  | bad c a=>rw [hn] at hf;cases hf
  | ok fs =>
    rw [hn] at hf
    obtain ⟨_,hf1⟩:=(Bool.and_eq_true _ _).mp hf
    exact ⟨p,cap,ns,fs,he,hT,hF,hlen,hn,eq_of_beq hf1,(CkR_bare ns 0 0).2 (by rw [hN];exact hc),hH.2.2⟩
theorem tfact2 {w:World}{p:Option Addr}{cap:Nat}{ns:List Nd}{fs:List Int}(hT:Tr.Tr w p ns) (hF:Fit ns cap) (h6:ns.length=11) (hn:typesF ns=.ok fs) (h5:fs[5]? = some 2) (hc:CkR ns 0 0) (hk:∀ k,(h:k<ns.length)→ns[k].c.length≤ns[k].cap) :
    Calls Tryz.prog 19 #[.agg #[.slice p 11 cap]] w fun e w'=>Below w.heap.size w w'∧∃ F,e=.returned (.tuple #[.slice (some ⟨F,0,none⟩) 11 11,.agg #[.int .i64 0,.int .i64 0]])∧F<w'.heap.size∧w'.cell? ⟨F,5,none⟩=some (.int .i64 2):=by
  have h:=of_any hT hF hk
  rw [h6] at h
  refine h.mono fun e w' hp=>?_
  obtain ⟨c,a,hca,hp⟩:=hp
  obtain ⟨rfl,rfl⟩:=hc.det hca
  rcases hp with ⟨h0,_⟩ | ⟨_,hp⟩
  · exact absurd rfl h0
  · rw [hn] at hp
    obtain ⟨F,_,he,hb,hB,hl⟩:=hp
    rw [h6] at he
    refine ⟨hb,F,he,hB.lt,?_⟩
    rw [hB.cell];simp [intA,h5]
theorem tfact3 {w:World}(hE:Go.Proofs.YtdjpopebeenlmaaGreatDoor.Env w):Calls Tryz.prog 13 #[.string ⟨#[105,110,116,32,109,97,105,110,40,41,32,123,32,114,101,116,117,114,110,32,42,49,59,32,125]⟩] w fun e w'=>Below w.heap.size w w'∧∃ p cap n,e=.returned (.tuple #[.agg #[.slice p n cap],.agg #[.int .i64 0,.int .i64 0]]) ∧
    ∀ W,Below w'.heap.size w' W→Calls Tryz.prog 19 #[.agg #[.slice p n cap]] W fun e W'=>Below W.heap.size W W'∧∃ a,e=.returned (.tuple #[.slice none 0 0,.agg #[.int .i64 8,.int .i64 a]]):=by
  obtain ⟨s,hs,hf,hc⟩:=fact_types2
  refine (punit_of (s:=⟨#[105,110,116,32,109,97,105,110,40,41,32,123,32,114,101,116,117,114,110,32,42,49,59,32,125]⟩) hs hE (by decide)).mono fun e w' ⟨hb,p,cap,ns,he,hT,hF,hl,hN,hH⟩=>⟨hb,p,cap,ns.length,he,fun W hW=>?_⟩
  unfold factT2 at hf
  rw [← types_bare hN] at hf
  have hck:CkR ns 0 0:=(CkR_bare ns 0 0).2 (by rw [hN];exact hc)
  refine (of_any (hT.below hW) hF hH.2.2).mono fun e w' hp=>?_
  obtain ⟨c,a,hca,hp⟩:=hp
  obtain ⟨rfl,rfl⟩:=hck.det hca
  rcases hp with ⟨h0,_⟩ | ⟨_,hp⟩
  · exact absurd rfl h0
  · cases hn:typesF ns with
    | ok fs=>rw [hn] at hf;cases hf
    | bad c a =>
      rw [hn] at hp hf
      have e8:c=8:=eq_of_beq hf
      subst e8
      exact ⟨hp.2,a,hp.1⟩
set_option maxHeartbeats 4000000 in
set_option maxRecDepth 100000 in
theorem tfact_any {w:World}(hE:Go.Proofs.YtdjpopebeenlmaaGreatDoor.Env w):Calls Tryz.prog 18 #[] w fun e w'=>e=.returned (.bool true)∧Below w.heap.size w w':=by
  have h1:=tfact1 hE
  have HE:=Lib.hid hE
  clear hE
  go_enter Tryz.func18,Tryz.ntmps18
  go_wp2_with (go_at_call 13;refine h1.mono ?_)
  intro e w1 hb1 p cap ns he hT hF h6 fs hn q5 hc hk
  subst he
  rw [h6]
  have hb2:Below w.heap.size w ((w1.alloc (.cells #[.slice p 11 cap] 24)).alloc (.cells #[.int .i64 0,.int .i64 0] 26)):=(hb1.alloc hb1.size _).alloc (by simp;have:=hb1.size;omega) _
  have hb12:Below w1.heap.size w1 ((w1.alloc (.cells #[.slice p 11 cap] 24)).alloc (.cells #[.int .i64 0,.int .i64 0] 26)):=((Below.refl _ _).alloc (Nat.le_refl _) _).alloc (by simp) _
  have h2:=tfact2 (hT.below hb12) hF h6 hn q5 hc hk
  have HB2:=Lib.hid hb2
  clear h1 hb1 hb2 hb12 hT hF h6 hn q5 hc hk
  go_wp2_with (go_at_call 19;refine h2.mono ?_)
  rintro e w2 ⟨hb3,F,rfl,lF,c5⟩
  have hb3w:=HB2.out.trans (hb3.mono HB2.out.size)
  have k2:Blk w2 (w1.heap.size+1) 26 #[.int .i64 0,.int .i64 0]:=by
    have h:=Blk.new (w1.alloc (.cells #[.slice p 11 cap] 24)) 26 #[.int .i64 0,.int .i64 0]
    rw [World.size_alloc] at h
    exact h.below hb3 (by simp)
  have hb4:Below w2.heap.size w2 (w2.alloc (.cells #[.int .i64 0,.int .i64 0] 26)):=(Below.refl _ _).alloc (Nat.le_refl _) _
  have hb4w:=hb3w.trans (hb4.mono hb3w.size)
  have h3:=tfact3 (HE.out.below hb4w)
  have HK2:=Lib.hid k2
  have HK4:Hid (Blk (w2.alloc (.cells #[.int .i64 0,.int .i64 0] 26)) w2.heap.size 26 #[.int .i64 0,.int .i64 0]):=Lib.hid (Blk.new _ _ _)
  have HB4:=Lib.hid hb4
  have HB4W:=Lib.hid hb4w
  have HC5:=Lib.hid c5
  have HLF:=Lib.hid lF
  clear hb3 hb3w hb4 hb4w k2 h2 c5 lF
  go_wp2_with (go_at_call 13;refine h3.mono ?_)
  intro e w3 hp
  obtain ⟨hb5,p3,cap3,n3,he,hof⟩:=hp
  subst he
  have hb6:Below w3.heap.size w3 ((w3.alloc (.cells #[.slice p3 n3 cap3] 24)).alloc (.cells #[.int .i64 0,.int .i64 0] 26)):=((Below.refl _ _).alloc (Nat.le_refl _) _).alloc (by simp) _
  have h4:=hof _ hb6
  have hb5':=(HB4.out.trans (hb5.mono HB4.out.size))
  have HB5:=Lib.hid hb5'
  have HB5':=Lib.hid hb5
  have HB6:=Lib.hid hb6
  clear h3 hof hb5 hb6 hb5'
  go_wp2_with (go_at_call 19;refine h4.mono ?_)
  rintro e w4 ⟨hb7,a,rfl⟩
  have hb7':=HB6.out.trans (hb7.mono HB6.out.size)
  have hall:=HB5.out.trans (hb7'.mono HB5.out.size)
  have k2:=HK2.out.below hall HK2.out.lt
  have k4:=(HK4.out.below HB5'.out HK4.out.lt).below hb7' (Nat.lt_of_lt_of_le HK4.out.lt HB5'.out.size)
  have k6:Blk w4 (w3.heap.size+1) 26 #[.int .i64 0,.int .i64 0]:=by
    have h:=Blk.new (w3.alloc (.cells #[.slice p3 n3 cap3] 24)) 26 #[.int .i64 0,.int .i64 0]
    rw [World.size_alloc] at h
    exact h.below hb7 (by simp)
  have c0:w4.cell? ⟨w1.heap.size+1,0,none⟩=some (.int .i64 0):=by rw [k2.cell];rfl
  have c1:w4.cell? ⟨w2.heap.size,0,none⟩=some (.int .i64 0):=by rw [k4.cell];rfl
  have c2:w4.cell? ⟨w3.heap.size+1,0,none⟩=some (.int .i64 0):=by rw [k6.cell];rfl
  have c3:w4.cell? ⟨F,5,none⟩=some (.int .i64 2):=(hall.cell (p:=⟨F,5,none⟩) HLF.out).trans HC5.out
  have l0:=k2.lt
  have l1:=k4.lt
  have l2:=k6.lt
  have l3:F<w4.heap.size:=Nat.lt_of_lt_of_le HLF.out hall.size
  have HFIN:=Lib.hid (HB4W.out.trans ((HB5'.out.trans (hb7'.mono HB5'.out.size)).mono HB4W.out.size))
  clear hb7 hb7' hall k2 k4 k6 h4
  go_wp2
  go_ret
  exact ⟨rfl,HFIN.out.alloc HFIN.out.size _⟩
end Ty
end
section
namespace Ty
open Go.RowKit
open Tr Sc
open Go.Proofs.YtdjpopebeenlmaaGreatDoor (rowN cells6 rowN_snoc)

/-- the root without its last kid -/
def rootN (x:Nd):Nd:={ x with c:=x.c.dropLast }
def cutL (l:List Nd) (x:Nd) (fr:Nat):List Nd:=l.take fr ++ [rootN x]
/-- the last two kids of a root -/
theorem last_two {l:List Nd}{r:Nat}{x:Nd}(hC:∀ j,j<l.length→codeAt l j=0) (hrl:l.length=r+1) (hx:l[r]? = some x) (h2:2≤x.c.length) :
    ∃ k fr:Nat,x.c[x.c.length-1]? = some (k:Int)∧x.c[x.c.length-2]? = some ((fr:Int)-1)∧k+1=r∧St l k=fr∧0<fr:=by
  have hr:r<l.length:=by omega
  obtain ⟨q,hK⟩:=kin_of hr (hC r hr)
  have hkc:kidsAt l r=x.c:=by unfold kidsAt;rw [hx];rfl
  obtain ⟨y,e1,e2,e3,e4⟩:=hK.lt (x.c.length-1) (by rw [hkc];omega)
  obtain ⟨z,f1,f2,f3,f4⟩:=hK.lt (x.c.length-2) (by rw [hkc];omega)
  have ht:=hK.to_
  rw [hkc] at ht
  rw [show x.c.length-1+1=x.c.length by omega,ht] at e3
  rw [show x.c.length-2+1=x.c.length-1 by omega] at f3
  refine ⟨y,z+1,?_,?_,e3,by rw [e4,f3],by omega⟩
  · rw [← e1];simp only [hkc];rw [List.getElem?_eq_getElem (by omega)]
  · rw [List.getElem?_eq_getElem (by omega)]
    have:(kidsAt l r)[x.c.length-2]'(by rw [hkc];omega)=x.c[x.c.length-2]'(by omega):=by simp only [hkc]
    rw [← this,f1]
    simp
theorem cut_of {l:List Nd}{r k fr:Nat}{x:Nd}{fs:List Int}(hz:CkR l 0 0) (ht:typesF l=.ok fs) (hrl:l.length=r+1) (hx:l[r]? = some x) (h2:2≤x.c.length)
    (hk:x.c[x.c.length-1]? = some (k:Int)) (hkr:k+1=r) (hst:St l k=fr) (h0:0<fr) (h3:kindAt l k=3) (hm:tx l k≠[109,97,105,110]) (hcall:∀ i,i<fr→kindAt l i=33→tx l i≠tx l k):Cut l (cutL l x fr) r k fr:=by
  obtain ⟨z1,z2,z3,z4,z5⟩:=ckr_zero hz
  obtain ⟨ns,hn,_,_⟩:=types_open ht
  obtain ⟨hr1,_⟩:=names_open hn
  have hle:=St_le l k
  have e1:l.length-1=r:=by omega
  rw [e1] at hr1 z4 z5
  have hlen:(l.take fr).length=fr:=by rw [List.length_take];omega
  have hkc:kidsAt l r=x.c:=by unfold kidsAt;rw [hx];rfl
  exact {
    rlen:=hrl
    ulen:=by unfold cutL;rw [List.length_append,hlen];rfl
    low:=fun j hj=>by unfold cutL;rw [List.getElem?_append_left (by omega),List.getElem?_take,if_pos hj]
    root:=⟨x,hx,by unfold cutL;rw [List.getElem?_append_right (by omega),hlen,Nat.sub_self];rfl⟩
    two:=by rw [hkc];exact h2
    rk:=hr1
    kr:=hkr
    kst:=hst
    ktop:=h3
    last:=⟨x.c.dropLast,by
      rw [hkc]
      have hne:x.c≠[]:=fun e=>by rw [e] at h2;simp at h2
      have h5:=List.dropLast_concat_getLast hne
      have h6:x.c.getLast hne=(k:Int):=by
        rw [List.getLast_eq_getElem]
        rw [List.getElem?_eq_getElem (by omega)] at hk
        injection hk
      rw [h6] at h5;exact h5.symm⟩
    call:=hcall
    main:=hm
    pos:=h0
    code:=z3
    top:=z4
    deep:=z5
    few:=z2 }
theorem cutL_len {l:List Nd}{x:Nd}{fr:Nat}(h:fr≤l.length):(cutL l x fr).length=fr+1:=by
  unfold cutL;rw [List.length_append,List.length_take,Nat.min_eq_left h];rfl
theorem cutL_low {l:List Nd}{x:Nd}{fr j:Nat}(h:fr≤l.length) (hj:j<fr) (hj2:j<(cutL l x fr).length):(cutL l x fr)[j]=l[j]'(by omega):=by
  have e:(cutL l x fr)[j]? = l[j]?:=by unfold cutL;rw [List.getElem?_append_left (by rw [List.length_take];omega),List.getElem?_take,if_pos hj]
  rw [List.getElem?_eq_getElem hj2,List.getElem?_eq_getElem (show j<l.length by omega)] at e
  injection e
theorem cutL_root {l:List Nd}{x:Nd}{fr:Nat}(h:fr≤l.length) (hj2:fr<(cutL l x fr).length):(cutL l x fr)[fr]=rootN x:=by
  have e:(cutL l x fr)[fr]? = some (rootN x):=by unfold cutL;rw [List.getElem?_append_right (by rw [List.length_take];omega),List.length_take,Nat.min_eq_left h,Nat.sub_self];rfl
  rw [List.getElem?_eq_getElem hj2] at e
  injection e
theorem cutL_each {l:List Nd}{x:Nd}{fr:Nat}(h:fr≤l.length) {P:Nd→Prop}(h1:∀ j,(hj:j<l.length)→P l[j]) (h2:P (rootN x)):∀ j,(hj:j<(cutL l x fr).length)→P (cutL l x fr)[j]:=by
  intro j hj
  by_cases e:j<fr
  · rw [cutL_low h e hj];exact h1 j (by omega)
  · have e2:j=fr:=by rw [cutL_len h] at hj;omega
    subst e2
    rw [cutL_root h hj];exact h2
theorem kids_drop {w:World}{p:Option Addr}{c:List Int}(h:KidsAt w p c):KidsAt w p c.dropLast:=fun h0=>by
  rw [List.length_dropLast] at h0
  obtain ⟨b,o,h1,h2,h3⟩:=h (by omega)
  refine ⟨b,o,h1,h2,fun j hj=>?_⟩
  rw [List.length_dropLast] at hj
  rw [List.getElem_dropLast]
  exact h3 j (by omega)
/-- the first nodes of a tree, as values -/
def rowT (l:List Nd) (i:Nat):List Value:=rowN (l.take i)
theorem rowT_next {l:List Nd}{i:Nat}(h:i<l.length):rowT l (i+1)=rowT l i ++ [.int .i64 l[i].k,.string l[i].t,.int .i64 l[i].n,.int .i64 l[i].z,.slice l[i].p l[i].c.length l[i].cap,.int .i64 l[i].a]:=by
  unfold rowT
  rw [List.take_succ_eq_append_getElem h,rowN_snoc];rfl
theorem rowT_root {l:List Nd}{x:Nd}{fr:Nat}:rowT l fr ++ [.int .i64 x.k,.string x.t,.int .i64 x.n,.int .i64 x.z,.slice x.p (x.c.length-1) x.cap,.int .i64 x.a]=rowN (cutL l x fr):=by
  unfold rowT cutL
  rw [rowN_snoc]
  have e:x.c.dropLast.length=x.c.length-1:=List.length_dropLast
  unfold cells6 rootN
  simp only [e]
theorem cut_tr {w w0:World}{l:List Nd}{x:Nd}{fr B qc:Nat}{q:Option Addr}(hfr:fr≤l.length) (hO:w.ownsRow B 34 6 (.slice q (fr+1) qc) (fr+1) (rowN (cutL l x fr))) (hK:∀ i,(h:i<l.length)→KidsAt w0 l[i].p l[i].c) (hx:KidsAt w0 x.p x.c) (hb:Below w0.heap.size w0 w):Tr.Tr w q (cutL l x fr) :=
  tr_row hO (cutL_len hfr).symm (cutL_each hfr (P:=fun y=>KidsAt w y.p y.c) (fun j hj=>(hK j hj).below hb) ((kids_drop hx).below hb))
theorem cut_fit {l:List Nd}{x:Nd}{fr cap qc:Nat}(hf:Fit l cap) (hfr:fr<l.length) (hq:fr+1≤qc) (hx:x.c.length≤1000000000000000000):Fit (cutL l x fr) qc :=
  ⟨by rw [cutL_len (by omega)];exact hq,by rw [cutL_len (by omega)];have:=hf.2.1;omega,cutL_each (by omega) (P:=fun y=>y.c.length≤1000000000000000000) hf.2.2 (by show x.c.dropLast.length≤_;rw [List.length_dropLast];omega)⟩
theorem cut_caps {l:List Nd}{x:Nd}{fr:Nat}(hfr:fr<l.length) (hc:∀ i,(h:i<l.length)→l[i].c.length≤l[i].cap) (hx:x.c.length≤x.cap):∀ i,(h:i<(cutL l x fr).length)→(cutL l x fr)[i].c.length≤(cutL l x fr)[i].cap :=
  cutL_each (by omega) (P:=fun y=>y.c.length≤y.cap) hc (by show x.c.dropLast.length≤x.cap;rw [List.length_dropLast];omega)
/-- what Of tells of the tree without its last function -/
theorem of_cut {l:List Nd}{fs:List Int}{r k fr qc:Nat}{x:Nd}{q:Option Addr}{w:World}(h:Cut l (cutL l x fr) r k fr) (ht:typesF l=.ok fs) (hT:Tr.Tr w q (cutL l x fr)) (hf:Fit (cutL l x fr) qc) (hc:∀ i,(h:i<(cutL l x fr).length)→(cutL l x fr)[i].c.length≤(cutL l x fr)[i].cap) :
    Calls Tryz.prog 19 #[.agg #[.slice q (fr+1) qc]] w fun e w'=>∃ F fs',e=.returned (.tuple #[.slice (some ⟨F,0,none⟩) (fr+1) (fr+1),.agg #[.int .i64 0,.int .i64 0]])∧Below w.heap.size w w'∧w.heap.size≤F∧Blk w' F 3 (intA fs')∧fs'.length=fr+1∧fs'.take fr=fs.take fr:=by
  obtain ⟨fs',e1,e2⟩:=types_cut h ht
  have hu:(cutL l x fr).length=fr+1:=h.ulen
  have ho:=of_any hT hf hc
  rw [hu] at ho
  refine ho.mono fun e w' hp=>?_
  obtain ⟨c,a,hca,hp⟩:=hp
  obtain ⟨rfl,rfl⟩:=h.form.det hca
  rcases hp with ⟨h0,_⟩ | ⟨_,hp⟩
  · exact absurd rfl h0
  · rw [e1] at hp
    obtain ⟨F,a1,a2,a3,a4,a5⟩:=hp
    rw [hu] at a2
    refine ⟨F,fs',a2,a3,a1,a4,e2.len',?_⟩
    refine List.ext_getElem? fun i=>?_
    rw [List.getElem?_take,List.getElem?_take]
    by_cases hi:i<fr
    · rw [if_pos hi,if_pos hi,e2.same i hi]
    · rw [if_neg hi,if_neg hi]
/-- the first numbers of two lists -/
theorem ints_pre {w:World}{F F':Nat}{fs fs':List Int}{n c c':Nat}(hl:n≤fs.length) (hl':n≤fs'.length) (he:fs'.take n=fs.take n) (hm:n≤140737488355328) (h:Blk w F 3 (intA fs)) (h':Blk w F' 3 (intA fs')) :
    Calls Tryz.prog 21 #[.slice (some ⟨F',0,none⟩) n c',.slice (some ⟨F,0,none⟩) n c] w fun e w'=>e=.returned (.bool true)∧Below w.heap.size w w':=by
  have hk:∀ (G:Nat) (gs:List Int),Blk w G 3 (intA gs)→n≤gs.length→KidsAt w (some ⟨G,0,none⟩) (gs.take n):=fun G gs hG hg _=>⟨G,0,rfl,hG.lt,fun j hj=>by
    rw [List.length_take] at hj
    rw [Nat.zero_add,hG.cell]
    simp [intA,show j<gs.length by omega]⟩
  have h2:=rints_any (fs'.take n) (fs.take n) (some ⟨F',0,none⟩) (some ⟨F,0,none⟩) c' c w (hk F' fs' h' hl') (hk F fs h hl)
  rw [List.length_take,List.length_take,Nat.min_eq_left hl,Nat.min_eq_left hl'] at h2
  refine (h2 (by omega) (by omega)).mono fun e w' ⟨h1,h2⟩=>⟨?_,h2⟩
  rw [h1,he];simp
end Ty
end
section
namespace Ty
open Go.RowKit
open Tr Sc
open Go.Proofs.YtdjpopebeenlmaaGreatDoor (rowN cells6 rowN_snoc info3 info36)

set_option maxHeartbeats 40000000 in
set_option maxRecDepth 100000 in
theorem parts_walk (l:List Nd) (p:Option Addr) (cap:Nat) (w:World) (hE:Go.Proofs.YtdjpopebeenlmaaGreatDoor.Env w) (hT:Tr.Tr w p l) (hf:Fit l cap) (hcp:∀ k,(h:k<l.length)→l[k].c.length≤l[k].cap) (hr72:l.length * 72≤140737488351232) :
    Calls Tryz.prog 7 #[.agg #[.slice p l.length cap]] w fun e w'=>e=.returned (.bool true)∧Below w.heap.size w w':=by
  have HW:Hid (Below w.heap.size w (w.alloc (.cells #[.slice p l.length cap] 24))):=(Below.refl _ _).alloc (Nat.le_refl _) _
  have hfa:=tfact_any (hE.below HW.out)
  have HNM:Hid (∀ W,Below w.heap.size w W→Calls Tryz.prog 19 #[.agg #[.slice p l.length cap]] W (TyGood l W)):=fun W hW=>types_good l p cap W (hT.below hW) hf hcp
  have HT:=Lib.hid hT
  have hn47:=hf.2.1
  have HFIT:=Lib.hid hf
  obtain ⟨n,hn⟩ : ∃ n,n=l.length:=⟨_,rfl⟩
  rw [← hn] at HW hfa HNM hn47 hr72 ⊢
  have HN:=Lib.hid hn
  have HX:Hid (Blk (w.alloc (.cells #[.slice p n cap] 24)) w.heap.size 24 #[.slice p n cap]):=Blk.new _ _ _
  have HCP:=Lib.hid hcp
  clear hE hT hf hn hcp
  go_enter Tryz.func7,Tryz.ntmps7
  go_wp2_with (go_at_call 18;refine hfa.mono ?_)
  first | rintro e w2 ⟨rfl,hb2⟩ | (intro e w2 he hb2;subst he)
  have HB2:=Lib.hid (HW.out.trans (hb2.mono (by simp;try omega)))
  have HX2:=Lib.hid (HX.out.below hb2 (by simp;try omega))
  have x2:w2.cell? ⟨w.heap.size,0,none⟩=some (.slice p n cap):=by rw [HX2.out.cell];rfl
  have l2:=HX2.out.lt
  have hnm:=HNM.out w2 HB2.out
  clear hb2 hfa HX
  go_wp2_with (go_at_call 19;refine hnm.mono ?_)
  intro e w3 hp
  obtain ⟨hb3,⟨c,a,hc,rfl⟩ | ⟨F,fs,rfl,hF0,hF1,hFB,hfl,hnn,hck,hown⟩⟩:=hp
  · have hc':(c != 0)=true:=by simpa using hc
    have HB3:=Lib.hid ((HB2.out.trans (hb3.mono HB2.out.size)).alloc (by have:=HB2.out.size;have:=hb3.size;omega) (.cells #[.int .i64 c,.int .i64 a] 26))
    clear hb3 hc hnm
    go_wp2
    go_ret
    exact ⟨rfl,HB3.out⟩
  · have HB3:=Lib.hid (HB2.out.trans (hb3.mono HB2.out.size))
    have HX3:=Lib.hid (HX2.out.below hb3 HX2.out.lt)
    have x3:w3.cell? ⟨w.heap.size,0,none⟩=some (.slice p n cap):=by rw [HX3.out.cell];rfl
    have l3:=HX3.out.lt
    rw [← HN.out]
    obtain ⟨w4,hw4⟩ : ∃ w4,w4=w3.alloc (.cells #[.int .i64 0,.int .i64 0] 26):=⟨_,rfl⟩
    have hb34:Below w3.heap.size w3 w4:=by rw [hw4];exact (Below.refl _ _).alloc (Nat.le_refl _) _
    have HB4:=Lib.hid (HB3.out.trans (hb34.mono HB3.out.size))
    have HX4:=Lib.hid (HX3.out.below hb34 HX3.out.lt)
    have HFB:=Lib.hid (hFB.below hb34 hF1)
    have HOWN:=Lib.hid hown
    have HFL:=Lib.hid hfl
    have HW4:=Lib.hid hw4
    have HCK:=Lib.hid hck
    have HNNT:=Lib.hid hnn
    have HK4:Hid (Blk w4 w3.heap.size 26 #[.int .i64 0,.int .i64 0]):=by rw [hw4];exact Blk.new _ _ _
    have hz4:w3.heap.size+1=w4.heap.size:=by rw [hw4,World.size_alloc]
    have HZ4:=Lib.hid hz4
    have HF1:=Lib.hid hF1
    have HF3:=Lib.hid hF1
    clear hb3 hnm hb34 hw4 hFB hown hfl hck hnn x2 l2 hz4
    go_upto_region 5 with (fail)
    rw [← HW4.out]
    obtain ⟨r,hr⟩ : ∃ r,n=r+1:=⟨n-1,by have:=(ckr_zero HCK.out).1;have:=HN.out;omega⟩
    subst hr
    have hrl:r<l.length:=by have:=HN.out;omega
    obtain ⟨b,o,rfl,hb,hNd⟩:=HT.out.1 (by omega)
    obtain ⟨c0,c1,c2,c3,c4,c5⟩:=(hNd r hrl).below HB4.out hb
    have HND:=Lib.hid hNd
    have HB0:=Lib.hid hb
    have hbl:b<w4.heap.size:=Nat.lt_of_lt_of_le hb HB4.out.size
    have hkk:=(HT.out.2 r hrl).below HB4.out
    obtain ⟨x,hx⟩ : ∃ x,x=l[r]:=⟨_,rfl⟩
    have HXR:Hid (l[r]? = some x):=Lib.hid (by rw [hx];exact List.getElem?_eq_getElem hrl)
    have hxc:x.c.length≤x.cap:=by rw [hx];exact HCP.out r hrl
    have hx10:x.c.length≤1000000000000000000:=by rw [hx];exact HFIT.out.2.2 r hrl
    rw [← hx] at c0 c1 c2 c3 c4 c5 hkk
    have HXC:=Lib.hid hxc
    have HX10:=Lib.hid hx10
    have HXK:Hid (KidsAt w x.p x.c):=Lib.hid (by rw [hx];exact HT.out.2 r hrl)
    clear hx hNd hb
    have x4:w4.cell? ⟨w.heap.size,0,none⟩=some (.slice (some ⟨b,o,none⟩) (r+1) cap):=by rw [HX4.out.cell];rfl
    have k40:w4.cell? ⟨w3.heap.size,0,none⟩=some (.int .i64 0):=by rw [HK4.out.cell];rfl
    have lk4:=HK4.out.lt
    have lx4:=HX4.out.lt
    obtain ⟨xk,hxk⟩ : ∃ v,v=x.k:=⟨_,rfl⟩
    obtain ⟨xt,hxt⟩ : ∃ v,v=x.t:=⟨_,rfl⟩
    obtain ⟨xn,hxn⟩ : ∃ v,v=x.n:=⟨_,rfl⟩
    obtain ⟨xz,hxz⟩ : ∃ v,v=x.z:=⟨_,rfl⟩
    obtain ⟨xp,hxp⟩ : ∃ v,v=x.p:=⟨_,rfl⟩
    obtain ⟨xcap,hxcap⟩ : ∃ v,v=x.cap:=⟨_,rfl⟩
    obtain ⟨xa,hxa⟩ : ∃ v,v=x.a:=⟨_,rfl⟩
    obtain ⟨M,hM⟩ : ∃ v,v=x.c.length:=⟨_,rfl⟩
    rw [← hM] at hxc hx10
    rw [← hxcap] at hxc
    rw [← hxk] at c0
    rw [← hxt] at c1
    rw [← hxn] at c2
    rw [← hxz] at c3
    rw [← hxp,← hM,← hxcap] at c4
    rw [← hxa] at c5
    rw [← hxp] at hkk
    have HROW:Hid (∀ fr,rowT l fr ++ [.int .i64 xk,.string xt,.int .i64 xn,.int .i64 xz,.slice xp (M-1) xcap,.int .i64 xa]=rowN (cutL l x fr)):=Lib.hid (fun fr=>by rw [hxk,hxt,hxn,hxz,hxp,hM,hxcap,hxa];exact rowT_root)
    have HM:=Lib.hid hM
    clear hxk hxt hxn hxz hxp hxcap hxa hM
    have hrb:(r:Int)<(r:Int)+1:=by omega
    by_cases h2:M<2
    · have q1:decide ((M:Int)<2)=true:=decide_eq_true (by omega)
      clear hkk
      go_wp2
      go_ret
      exact ⟨rfl,HB4.out.alloc HB4.out.size _⟩
    obtain ⟨m,rfl⟩ : ∃ m,M=m+2:=⟨M-2,by omega⟩
    have q1:decide (((m+2:Nat):Int)<2)=false:=decide_eq_false (by omega)
    obtain ⟨k,fr0,hk1,hk2,hkr,hst,hfr0⟩:=last_two (ckr_zero HCK.out).2.2.1 HN.out.symm HXR.out (by have:=HM.out;omega)
    obtain ⟨z,rfl⟩ : ∃ z,fr0=z+1:=⟨fr0-1,by omega⟩
    obtain ⟨kb,ko,rfl,hkb,hkc⟩:=hkk (by have:=HM.out;omega)
    have hxm:x.c.length=m+2:=by have:=HM.out;omega
    have hkm:m+1<x.c.length:=by omega
    have d1:=hkc (m+1) hkm
    have d0:=hkc m (by omega)
    rw [show x.c.length-1=m+1 by omega,List.getElem?_eq_getElem hkm] at hk1
    rw [show x.c.length-2=m by omega,List.getElem?_eq_getElem (by omega)] at hk2
    injection hk1 with hk1'
    injection hk2 with hk2'
    rw [hk1'] at d1
    rw [hk2',show ((z+1:Nat):Int)-1=(z:Int) by omega] at d0
    have HK1:Hid (x.c[x.c.length-1]? = some (k:Int)):=Lib.hid (by rw [show x.c.length-1=m+1 by omega,List.getElem?_eq_getElem hkm,hk1'])
    have HKR:=Lib.hid hkr
    have HST:=Lib.hid hst
    have hle:=St_le l k
    have hzk:z+1≤k:=by omega
    have HZK:=Lib.hid hzk
    clear hk1' hk2' hkc hkk hst hle h2
    have hkl:k<l.length:=by omega
    obtain ⟨e0,e1,e9⟩:=(HND.out k hkl).below HB4.out HB0.out
    clear e9
    rw [← kindAt_get hkl] at e0
    obtain ⟨kk,hkk⟩ : ∃ v,v=kindAt l k:=⟨_,rfl⟩
    obtain ⟨tk,htk⟩ : ∃ v,v=l[k].t:=⟨_,rfl⟩
    rw [← hkk] at e0
    rw [← htk] at e1
    have htk2:tk.toList=tx l k:=tx_tb2 hkl htk
    have HTK:=Lib.hid htk2
    have HKK:=Lib.hid hkk
    clear hkk htk htk2
    have hkr1:k<r+1:=by omega
    by_cases h3:kk=3
    case neg =>
      have q2:(kk != 3)=true:=by simpa using h3
      clear h3
      go_wp2
      go_ret
      exact ⟨rfl,HB4.out.alloc HB4.out.size _⟩
    subst h3
    by_cases h4:tk.toList=[109,97,105,110]
    · have q2:(tk.toList == [109,97,105,110])=true:=by rw [h4];rfl
      clear h4
      go_wp2
      go_ret
      exact ⟨rfl,HB4.out.alloc HB4.out.size _⟩
    have q2:(tk.toList == [109,97,105,110])=false:=by simpa using h4
    have HMN:Hid (tx l k≠[109,97,105,110]):=Lib.hid (by rw [← HTK.out];exact h4)
    clear h4
    go_wp2
    rw [show m+2-1=m+1 from rfl]
    obtain ⟨w6,hw6⟩ : ∃ w6,w6=w4.alloc (.cells #[.int .i64 xk,.string xt,.int .i64 xn,.int .i64 xz,.slice (some ⟨kb,ko,none⟩) (m+2) xcap,.int .i64 xa] 34):=⟨_,rfl⟩
    have hb46:Below w4.heap.size w4 w6:=by rw [hw6];exact (Below.refl _ _).alloc (Nat.le_refl _) _
    have HB6:=Lib.hid (HB4.out.trans (hb46.mono HB4.out.size))
    have HX6:=Lib.hid (HX4.out.below hb46 HX4.out.lt)
    have HF6:=Lib.hid (HFB.out.below hb46 (Nat.lt_of_lt_of_le HF1.out (by have:=HZ4.out;omega)))
    have HK6:=Lib.hid (HK4.out.below hb46 HK4.out.lt)
    have HN6:Hid (Blk w6 w4.heap.size 34 #[.int .i64 xk,.string xt,.int .i64 xn,.int .i64 xz,.slice (some ⟨kb,ko,none⟩) (m+2) xcap,.int .i64 xa]):=by rw [hw6];exact Blk.new _ _ _
    have hz6:w4.heap.size+1=w6.heap.size:=by rw [hw6,World.size_alloc]
    have HZ6:=Lib.hid hz6
    have HKB:Hid (kb<w6.heap.size):=Lib.hid (by have:=HZ4.out;have h:=hkb;omega)
    have HU6:Hid (Below w6.heap.size w6 (w6.alloc (.cells #[.slice none 0 0] 24))):=(Below.refl _ _).alloc (Nat.le_refl _) _
    have HUB:Hid (Blk (w6.alloc (.cells #[.slice none 0 0] 24)) w6.heap.size 24 #[.slice none 0 0]):=Blk.new _ _ _
    have HB46:=Lib.hid hb46
    rw [← hw6,hz6]
    clear hw6 hb46 hz6 hbl hkb c0 c1 c2 c3 c4 c5 x4 lx4 d0 d1 e0 e1 q1 q2 x3 l3 k40 lk4
    go_loopw [10] (fun v wr=>∃ (i:Nat) (q:Option Addr) (qc:Nat),i≤z+1∧v=.int .i64 i∧Hid (∀ j,j<i→kindAt l j=33→tx l j≠tx l k)∧Blk wr w6.heap.size 24 #[.slice q i qc]∧wr.ownsRow (w6.heap.size+1) 34 6 (.slice q i qc) i (rowT l i)∧Below w6.heap.size w6 wr) (fun v _=>(z+1)-(intOf v).toNat)
    case atStart=>exact ⟨0,none,0,Nat.zero_le _,rfl,fun j hj=>absurd hj (Nat.not_lt_zero _),HUB.out,World.ownsRow_nil _ _ _ _,HU6.out⟩
    case round =>
      obtain ⟨i,q,qc,hi,rfl,HNO,hU,hO,hbe⟩:=hrel
      have HB:=Lib.hid hbe
      have HU:=Lib.hid hU
      have HO:=Lib.hid hO
      have hX:=HX6.out.below hbe HX6.out.lt
      have HXW:=Lib.hid hX
      have lX:=hX.lt
      have x0:wr.cell? ⟨w.heap.size,0,none⟩=some (.slice (some ⟨b,o,none⟩) (r+1) cap):=by rw [hX.cell];rfl
      by_cases hlt:i<z+1
      · have hil:i<l.length:=by have:=HN.out;have:=HZK.out;have:=HKR.out;omega
        have hkl:k<l.length:=by have:=HN.out;have:=HKR.out;omega
        have hbw:=HB6.out.trans (hbe.mono HB6.out.size)
        have hbl:b<wr.heap.size:=Nat.lt_of_lt_of_le HB0.out hbw.size
        obtain ⟨c0,c1,c2,c3,c4,c5⟩:=(HND.out i hil).below hbw HB0.out
        obtain ⟨e0,e1,_⟩:=(HND.out k hkl).below hbw HB0.out
        have HCE:=Lib.hid (And.intro c0 (And.intro c1 (And.intro c2 (And.intro c3 (And.intro c4 c5)))))
        have hti:l[i].t.toList=tx l i:=tx_tb2 hil rfl
        have hki:l[i].k=kindAt l i:=(kindAt_get hil).symm
        obtain ⟨tk,htk⟩ : ∃ v,v=l[k].t:=⟨_,rfl⟩
        rw [← htk] at e1
        have htk2:tk.toList=tx l k:=tx_tb2 hkl htk
        have Hnext:=Lib.hid (rowT_next hil)
        generalize l[i]=y at *
        obtain ⟨nk,nt,nn,nz,np,ncap,ncl,na⟩:=y
        simp only at c0 c1 c2 c3 c4 c5 HCE hti hki Hnext
        obtain ⟨nc,hnc⟩ : ∃ v,v=ncl.length:=⟨_,rfl⟩
        rw [← hnc] at c4 HCE Hnext
        have hir:i<r+1:=by have:=HZK.out;have:=HKR.out;omega
        have hkr1:k<r+1:=by have:=HKR.out;omega
        have hirI:(i:Int)<(r:Int)+1:=by omega
        have hkrI:(k:Int)<(r:Int)+1:=by omega
        clear hnc htk hbe hU hO hX hbw e0
        have hm:Tryz.prog.follows .mixedOrders=true:=by kernel_rfl
        have hcase:(nk=33∧nt.toList=tk.toList)∨((nk=33∧(nt.toList == tk.toList)=false∨nk≠33)∧Hid (∀ j,j<i+1→kindAt l j=33→tx l j≠tx l k)):=by
          have hnew:¬ (nk=33∧nt.toList=tk.toList)→∀ j,j<i+1→kindAt l j=33→tx l j≠tx l k:=fun hn j hj h33 he=>by
            by_cases e:j=i
            · subst e
              exact hn ⟨by rw [hki];exact h33,by rw [hti,htk2];exact he⟩
            · exact HNO.out j (by omega) h33 he
          by_cases h1:nk=33
          · by_cases h2:nt.toList=tk.toList
            · exact Or.inl ⟨h1,h2⟩
            · exact Or.inr ⟨Or.inl ⟨h1,by simpa using h2⟩,Lib.hid (hnew fun h=>h2 h.2)⟩
          · exact Or.inr ⟨Or.inr h1,Lib.hid (hnew fun h=>h1 h.1)⟩
        clear hki hti htk2
        go_wp2
        rcases hcase with ⟨rfl,ht⟩ | ⟨hcase,HNO2⟩
        · have t1:(nt.toList == tk.toList)=true:=by rw [ht];simp
          clear ht
          have HFIN:=Lib.hid (HB6.out.trans (HB.out.mono HB6.out.size))
          refine wp_region_still_lit hm (by kernel_rfl) ?_
          still_step
          still_step
          still_step
          still_step
          still_step
          still_step
          still_step
          still_step
          still_step
          still_step
          still_step
          still_step
          still_step
          still_step
          still_step
          still_step
          still_step
          still_step
          still_step
          still_step
          still_step
          still_step
          refine wpStill_nil ?_
          go_wp2
          go_ret
          exact ⟨rfl,HFIN.out.drew⟩
        · have hafter:∀ (a:Act) (tmps:Bool),True:=fun _ _=>trivial
          rcases hcase with ⟨e33,t1⟩ | hne
          case' inl=>(have t0:(nk == 33)=true:=by simpa using e33);clear e33
          case' inr=>have t0:(nk == 33)=false:=by simpa using hne
          case inl =>
            refine wp_region_still_lit hm (by kernel_rfl) ?_
            still_step
            still_step
            still_step
            still_step
            still_step
            still_step
            still_step
            still_step
            still_step
            still_step
            still_step
            still_step
            still_step
            still_step
            still_step
            still_step
            still_step
            still_step
            still_step
            still_step
            still_step
            still_step
            refine wpStill_nil ?_
            go_wp2
            clear x0 lX c0 c1 c2 c3 c4 c5 e1 hbl
            obtain ⟨wd,hwd⟩ : ∃ wd,wd=wr.drew:=⟨_,rfl⟩
            change Code.wp _ _ _ _ wr.drew
            rw [← hwd]
            have hbd:Below wr.heap.size wr wd:=by rw [hwd];exact (Below.refl _ wr).drew
            have HBd:=Lib.hid (HB.out.trans (hbd.mono HB.out.size))
            have HUd:=Lib.hid (HU.out.below hbd HU.out.lt)
            have hXd:=HXW.out.below hbd HXW.out.lt
            have HOd:Hid (wd.ownsRow (w6.heap.size+1) 34 6 (.slice q i qc) i (rowT l i)):=Lib.hid (by rw [hwd];exact HO.out.kept (row:=none) ⟨rfl,rfl,rfl,Nat.le_refl _,fun k _ _=>rfl⟩ (by cases (Value.slice q i qc).ownBlock <;> simp))
            have hbwd:=HB6.out.trans (HBd.out.mono HB6.out.size)
            have x0:wd.cell? ⟨w.heap.size,0,none⟩=some (.slice (some ⟨b,o,none⟩) (r+1) cap):=by rw [hXd.cell];rfl
            have u0:wd.cell? ⟨w6.heap.size,0,none⟩=some (.slice q i qc):=by rw [HUd.out.cell];rfl
            have uz:=HUd.out.frozen 0
            have lU:=HUd.out.lt
            have lX:=hXd.lt
            have hbl:b<wr.heap.size:=Nat.lt_of_lt_of_le HB0.out (HB6.out.trans (HB.out.mono HB6.out.size)).size
            obtain ⟨g0,g1,g2,g3,g4,g5⟩:=HCE.out
            have hc_:∀ (j:Nat) (v:Value),wr.cell? ⟨b,j,none⟩=some v→wd.cell? ⟨b,j,none⟩=some v:=fun j v h=>(hbd.cell (p:=⟨b,j,none⟩) hbl).trans h
            have c0:=hc_ _ _ g0
            have c1:=hc_ _ _ g1
            have c2:=hc_ _ _ g2
            have c3:=hc_ _ _ g3
            have c4:=hc_ _ _ g4
            have c5:=hc_ _ _ g5
            have hbl:b<wd.heap.size:=Nat.lt_of_lt_of_le hbl hbd.size
            clear hc_ g0 g1 g2 g3 g4 g5 hXd hbd hbwd hwd
            have HOw:Hid (∀ W,Below wd.heap.size wd W→W.ownsRow (w6.heap.size+1) 34 6 (.slice q i qc) i (rowT l i)):=Lib.hid (fun W hW=>HOd.out.kept (row:=none) ⟨hW.os,hW.tape,hW.output,hW.size,fun k hk _=>hW.block k hk⟩ (by cases (Value.slice q i qc).ownBlock <;> simp))
            have hrow:Hid (∀ g,(Value.slice q i qc).ownBlock=some g→w6.heap.size+1≤g):=Lib.hid (fun g h=>(HOd.out.lt g h).1)
            have hneU:some w6.heap.size≠(Value.slice q i qc).ownBlock:=fun h=>by have:=hrow.out _ h.symm;omega
            have HNE:=Lib.hid hneU
            obtain ⟨j0,hj,hy0,hy1,hy2⟩:=info_parts info36
            clear HCE hneU
            go_region_law (refine step_append_lies _ rfl (.tmp 112) (.tmp 118) 22 rfl (w6.heap.size+1) 34 j0 (.agg #[.int .i64 0,.string ⟨#[]⟩,.int .i64 0,.int .i64 0,.slice none 0 0,.int .i64 0]) 6 72 Tryz.underlying22 hj hy0 hy1 hy2 rfl (by decide) (.slice q i qc) i (rowT l i) (by simp [Act.eval,Act.put]) (HOw.out _ ((Below.refl _ _).alloc (Nat.le_refl _) _).drew) ⟨wd.heap.size,0,none⟩ 1 1 [.int .i64 nk,.string nt,.int .i64 nn,.int .i64 nz,.slice np nc ncap,.int .i64 na] (by simp [Act.eval,Act.put]) rfl (news_drew (Tr.Blk.new _ _ _)) (by intro u hu;simp at hu;rcases hu with rfl | rfl | rfl | rfl | rfl | rfl <;> rfl) (by omega) (by unfold maxLen;omega) (by omega) (by simp;omega) (wd.heap.size+1) (by simp) ?_;intro gN capN w7 hown7 hgrow7 hwhere7 hlt7;have hU7:=(HUd.out.alloc (.cells #[.int .i64 nk,.string nt,.int .i64 nn,.int .i64 nz,.slice np nc ncap,.int .i64 na] 34)).drew.grown hgrow7 HNE.out;have z7:w7.cell? ⟨w6.heap.size,0,none⟩=some (.slice q i qc):=(by rw [hU7.cell];rfl);have zf:=hU7.frozen 0;have l7:=hU7.lt)
            all_goals
              have hB7:Below w6.heap.size w6 w7:=Below.grown ((HBd.out.alloc HBd.out.size (.cells #[.int .i64 nk,.string nt,.int .i64 nn,.int .i64 nz,.slice np nc ncap,.int .i64 na] 34)).drew) hgrow7 (by have:=HBd.out.size;simp;omega) (fun g h=>by have:=hrow.out g h;omega)
              have hU8:Blk (w7.setCell ⟨w6.heap.size,0,none⟩ (.slice (some ⟨gN,0,none⟩) (i+1) capN)) w6.heap.size 24 #[.slice (some ⟨gN,0,none⟩) (i+1) capN]:=by have h:=hU7.set_ 0 (.slice (some ⟨gN,0,none⟩) (i+1) capN);simpa using h
              have hO8:(w7.setCell ⟨w6.heap.size,0,none⟩ (.slice (some ⟨gN,0,none⟩) (i+1) capN)).ownsRow (w6.heap.size+1) 34 6 (.slice (some ⟨gN,0,none⟩) (i+1) capN) (i+1) (rowT l (i+1)):=by
                rw [Hnext.out]
                exact own_far hown7 (fun g hg=>by have:=(hown7.lt g hg).1;simp;omega) _
              have hB8:Below w6.heap.size w6 (w7.setCell ⟨w6.heap.size,0,none⟩ (.slice (some ⟨gN,0,none⟩) (i+1) capN)):=hB7.setCell (p:=⟨w6.heap.size,0,none⟩) (Nat.le_refl _) _
              have HU8:=Lib.hid hU8
              have HO8:=Lib.hid hO8
              have HB8:=Lib.hid hB8
              clear hown7 hgrow7 hwhere7 hlt7 hB7 hU7 hU8 hO8 hB8
              go_wp2
              go_roundw
              all_goals first | exact ⟨i+1,some ⟨gN,0,none⟩,capN,by omega,by go_num,HNO2,HU8.out,HO8.out,HB8.out⟩ | (simp [intOf];omega) | skip
          case inr =>
            refine wp_region_still_lit hm (by kernel_rfl) ?_
            still_step
            still_step
            still_step
            still_step
            still_step
            still_step
            still_step
            still_step
            with_reducible refine still_skip (by kernel_rfl) ?_
            try simp only [Act.put,List.setIfInBounds_toArray,List.set_cons_zero,List.set_cons_succ]
            with_reducible refine still_skip (by kernel_rfl) ?_
            try simp only [Act.put,List.setIfInBounds_toArray,List.set_cons_zero,List.set_cons_succ]
            with_reducible refine still_skip (by kernel_rfl) ?_
            try simp only [Act.put,List.setIfInBounds_toArray,List.set_cons_zero,List.set_cons_succ]
            with_reducible refine still_skip (by kernel_rfl) ?_
            try simp only [Act.put,List.setIfInBounds_toArray,List.set_cons_zero,List.set_cons_succ]
            with_reducible refine still_skip (by kernel_rfl) ?_
            try simp only [Act.put,List.setIfInBounds_toArray,List.set_cons_zero,List.set_cons_succ]
            with_reducible refine still_skip (by kernel_rfl) ?_
            try simp only [Act.put,List.setIfInBounds_toArray,List.set_cons_zero,List.set_cons_succ]
            with_reducible refine still_skip (by kernel_rfl) ?_
            try simp only [Act.put,List.setIfInBounds_toArray,List.set_cons_zero,List.set_cons_succ]
            with_reducible refine still_skip (by kernel_rfl) ?_
            try simp only [Act.put,List.setIfInBounds_toArray,List.set_cons_zero,List.set_cons_succ]
            with_reducible refine still_skip (by kernel_rfl) ?_
            try simp only [Act.put,List.setIfInBounds_toArray,List.set_cons_zero,List.set_cons_succ]
            with_reducible refine still_skip (by kernel_rfl) ?_
            try simp only [Act.put,List.setIfInBounds_toArray,List.set_cons_zero,List.set_cons_succ]
            with_reducible refine still_skip (by kernel_rfl) ?_
            try simp only [Act.put,List.setIfInBounds_toArray,List.set_cons_zero,List.set_cons_succ]
            with_reducible refine still_skip (by kernel_rfl) ?_
            try simp only [Act.put,List.setIfInBounds_toArray,List.set_cons_zero,List.set_cons_succ]
            with_reducible refine still_skip (by kernel_rfl) ?_
            try simp only [Act.put,List.setIfInBounds_toArray,List.set_cons_zero,List.set_cons_succ]
            still_step
            refine wpStill_nil ?_
            go_wp2
            clear x0 lX c0 c1 c2 c3 c4 c5 e1 hbl
            obtain ⟨wd,hwd⟩ : ∃ wd,wd=wr.drew:=⟨_,rfl⟩
            change Code.wp _ _ _ _ wr.drew
            rw [← hwd]
            have hbd:Below wr.heap.size wr wd:=by rw [hwd];exact (Below.refl _ wr).drew
            have HBd:=Lib.hid (HB.out.trans (hbd.mono HB.out.size))
            have HUd:=Lib.hid (HU.out.below hbd HU.out.lt)
            have hXd:=HXW.out.below hbd HXW.out.lt
            have HOd:Hid (wd.ownsRow (w6.heap.size+1) 34 6 (.slice q i qc) i (rowT l i)):=Lib.hid (by rw [hwd];exact HO.out.kept (row:=none) ⟨rfl,rfl,rfl,Nat.le_refl _,fun k _ _=>rfl⟩ (by cases (Value.slice q i qc).ownBlock <;> simp))
            have hbwd:=HB6.out.trans (HBd.out.mono HB6.out.size)
            have x0:wd.cell? ⟨w.heap.size,0,none⟩=some (.slice (some ⟨b,o,none⟩) (r+1) cap):=by rw [hXd.cell];rfl
            have u0:wd.cell? ⟨w6.heap.size,0,none⟩=some (.slice q i qc):=by rw [HUd.out.cell];rfl
            have uz:=HUd.out.frozen 0
            have lU:=HUd.out.lt
            have lX:=hXd.lt
            have hbl:b<wr.heap.size:=Nat.lt_of_lt_of_le HB0.out (HB6.out.trans (HB.out.mono HB6.out.size)).size
            obtain ⟨g0,g1,g2,g3,g4,g5⟩:=HCE.out
            have hc_:∀ (j:Nat) (v:Value),wr.cell? ⟨b,j,none⟩=some v→wd.cell? ⟨b,j,none⟩=some v:=fun j v h=>(hbd.cell (p:=⟨b,j,none⟩) hbl).trans h
            have c0:=hc_ _ _ g0
            have c1:=hc_ _ _ g1
            have c2:=hc_ _ _ g2
            have c3:=hc_ _ _ g3
            have c4:=hc_ _ _ g4
            have c5:=hc_ _ _ g5
            have hbl:b<wd.heap.size:=Nat.lt_of_lt_of_le hbl hbd.size
            clear hc_ g0 g1 g2 g3 g4 g5 hXd hbd hbwd hwd
            have HOw:Hid (∀ W,Below wd.heap.size wd W→W.ownsRow (w6.heap.size+1) 34 6 (.slice q i qc) i (rowT l i)):=Lib.hid (fun W hW=>HOd.out.kept (row:=none) ⟨hW.os,hW.tape,hW.output,hW.size,fun k hk _=>hW.block k hk⟩ (by cases (Value.slice q i qc).ownBlock <;> simp))
            have hrow:Hid (∀ g,(Value.slice q i qc).ownBlock=some g→w6.heap.size+1≤g):=Lib.hid (fun g h=>(HOd.out.lt g h).1)
            have hneU:some w6.heap.size≠(Value.slice q i qc).ownBlock:=fun h=>by have:=hrow.out _ h.symm;omega
            have HNE:=Lib.hid hneU
            obtain ⟨j0,hj,hy0,hy1,hy2⟩:=info_parts info36
            clear HCE hneU
            go_region_law (refine step_append_lies _ rfl (.tmp 112) (.tmp 118) 22 rfl (w6.heap.size+1) 34 j0 (.agg #[.int .i64 0,.string ⟨#[]⟩,.int .i64 0,.int .i64 0,.slice none 0 0,.int .i64 0]) 6 72 Tryz.underlying22 hj hy0 hy1 hy2 rfl (by decide) (.slice q i qc) i (rowT l i) (by simp [Act.eval,Act.put]) (HOw.out _ ((Below.refl _ _).alloc (Nat.le_refl _) _).drew) ⟨wd.heap.size,0,none⟩ 1 1 [.int .i64 nk,.string nt,.int .i64 nn,.int .i64 nz,.slice np nc ncap,.int .i64 na] (by simp [Act.eval,Act.put]) rfl (news_drew (Tr.Blk.new _ _ _)) (by intro u hu;simp at hu;rcases hu with rfl | rfl | rfl | rfl | rfl | rfl <;> rfl) (by omega) (by unfold maxLen;omega) (by omega) (by simp;omega) (wd.heap.size+1) (by simp) ?_;intro gN capN w7 hown7 hgrow7 hwhere7 hlt7;have hU7:=(HUd.out.alloc (.cells #[.int .i64 nk,.string nt,.int .i64 nn,.int .i64 nz,.slice np nc ncap,.int .i64 na] 34)).drew.grown hgrow7 HNE.out;have z7:w7.cell? ⟨w6.heap.size,0,none⟩=some (.slice q i qc):=(by rw [hU7.cell];rfl);have zf:=hU7.frozen 0;have l7:=hU7.lt)
            all_goals
              have hB7:Below w6.heap.size w6 w7:=Below.grown ((HBd.out.alloc HBd.out.size (.cells #[.int .i64 nk,.string nt,.int .i64 nn,.int .i64 nz,.slice np nc ncap,.int .i64 na] 34)).drew) hgrow7 (by have:=HBd.out.size;simp;omega) (fun g h=>by have:=hrow.out g h;omega)
              have hU8:Blk (w7.setCell ⟨w6.heap.size,0,none⟩ (.slice (some ⟨gN,0,none⟩) (i+1) capN)) w6.heap.size 24 #[.slice (some ⟨gN,0,none⟩) (i+1) capN]:=by have h:=hU7.set_ 0 (.slice (some ⟨gN,0,none⟩) (i+1) capN);simpa using h
              have hO8:(w7.setCell ⟨w6.heap.size,0,none⟩ (.slice (some ⟨gN,0,none⟩) (i+1) capN)).ownsRow (w6.heap.size+1) 34 6 (.slice (some ⟨gN,0,none⟩) (i+1) capN) (i+1) (rowT l (i+1)):=by
                rw [Hnext.out]
                exact own_far hown7 (fun g hg=>by have:=(hown7.lt g hg).1;simp;omega) _
              have hB8:Below w6.heap.size w6 (w7.setCell ⟨w6.heap.size,0,none⟩ (.slice (some ⟨gN,0,none⟩) (i+1) capN)):=hB7.setCell (p:=⟨w6.heap.size,0,none⟩) (Nat.le_refl _) _
              have HU8:=Lib.hid hU8
              have HO8:=Lib.hid hO8
              have HB8:=Lib.hid hB8
              clear hown7 hgrow7 hwhere7 hlt7 hB7 hU7 hU8 hO8 hB8
              go_wp2
              go_roundw
              all_goals first | exact ⟨i+1,some ⟨gN,0,none⟩,capN,by omega,by go_num,HNO2,HU8.out,HO8.out,HB8.out⟩ | (simp [intOf];omega) | skip
      · skip
        have hzl:z+1<l.length:=by have:=HN.out;have:=HZK.out;have:=HKR.out;omega
        have HI:Hid (i=z+1):=Lib.hid (by omega)
        have hNB:=HN6.out.below hbe HN6.out.lt
        have n0:wr.cell? ⟨w4.heap.size,0,none⟩=some (.int .i64 xk):=by rw [hNB.cell];rfl
        have n1:wr.cell? ⟨w4.heap.size,1,none⟩=some (.string xt):=by rw [hNB.cell];rfl
        have n2:wr.cell? ⟨w4.heap.size,2,none⟩=some (.int .i64 xn):=by rw [hNB.cell];rfl
        have n3:wr.cell? ⟨w4.heap.size,3,none⟩=some (.int .i64 xz):=by rw [hNB.cell];rfl
        have n4:wr.cell? ⟨w4.heap.size,4,none⟩=some (.slice (some ⟨kb,ko,none⟩) (m+2) xcap):=by rw [hNB.cell];rfl
        have n5:wr.cell? ⟨w4.heap.size,5,none⟩=some (.int .i64 xa):=by rw [hNB.cell];rfl
        have nz4:=hNB.frozen 4
        have ln:=hNB.lt
        have u0:wr.cell? ⟨w6.heap.size,0,none⟩=some (.slice q i qc):=by rw [HU.out.cell];rfl
        have uz:=HU.out.frozen 0
        have lU:=HU.out.lt
        have hcap0:xcap≠0:=by omega
        have hcap1:m+1≤xcap:=by omega
        have hcapI:(m:Int)+1≤(xcap:Int):=by omega
        have hmI:(0:Int)≤(m:Int)+1:=by omega
        have hz64:=HZ6.out
        have hne6:w6.heap.size≠w4.heap.size:=by omega
        have hB4r:=HB46.out.trans (hbe.mono HB46.out.size)
        obtain ⟨wx,hwx⟩ : ∃ wx,wx=wr.setCell ⟨w4.heap.size,4,none⟩ (.slice (some ⟨kb,ko,none⟩) (m+1) xcap):=⟨_,rfl⟩
        have hsx:wx.heap.size=wr.heap.size:=by rw [hwx];simp [World.setCell]
        have hNX:Blk wx w4.heap.size 34 #[.int .i64 xk,.string xt,.int .i64 xn,.int .i64 xz,.slice (some ⟨kb,ko,none⟩) (m+1) xcap,.int .i64 xa]:=by rw [hwx];have h:=hNB.set_ 4 (.slice (some ⟨kb,ko,none⟩) (m+1) xcap);simpa using h
        have hOx:wx.ownsRow (w6.heap.size+1) 34 6 (.slice q i qc) i (rowT l i):=by rw [hwx];exact own_far HO.out (fun g hg=>by have:=(HO.out.lt g hg).1;simp;omega) _
        have hUx:Blk wx w6.heap.size 24 #[.slice q i qc]:=by rw [hwx];exact HU.out.far (p:=⟨w4.heap.size,4,none⟩) hne6 _
        have hBx:Below w4.heap.size w4 wx:=by rw [hwx];exact hB4r.setCell (p:=⟨w4.heap.size,4,none⟩) (Nat.le_refl _) _
        go_upto_region 22 with (fail)
        rw [← hwx]
        have HUx:=Lib.hid hUx
        have HBx:=Lib.hid hBx
        have HOx:=Lib.hid hOx
        clear hbe hU hO hX hNB n0 n1 n2 n3 n4 n5 nz4 ln u0 uz lU x0 lX hwx hOx hBx hUx hB4r HU HO HXW
        have n0:wx.cell? ⟨w4.heap.size,0,none⟩=some (.int .i64 xk):=by rw [hNX.cell];rfl
        have n1:wx.cell? ⟨w4.heap.size,1,none⟩=some (.string xt):=by rw [hNX.cell];rfl
        have n2:wx.cell? ⟨w4.heap.size,2,none⟩=some (.int .i64 xn):=by rw [hNX.cell];rfl
        have n3:wx.cell? ⟨w4.heap.size,3,none⟩=some (.int .i64 xz):=by rw [hNX.cell];rfl
        have n4:wx.cell? ⟨w4.heap.size,4,none⟩=some (.slice (some ⟨kb,ko,none⟩) (m+1) xcap):=by rw [hNX.cell];rfl
        have n5:wx.cell? ⟨w4.heap.size,5,none⟩=some (.int .i64 xa):=by rw [hNX.cell];rfl
        have ln:=hNX.lt
        have u0:wx.cell? ⟨w6.heap.size,0,none⟩=some (.slice q i qc):=by rw [HUx.out.cell];rfl
        have uz:=HUx.out.frozen 0
        have lU:=HUx.out.lt
        have HO5:=Lib.hid (HOx.out.alloc (.cells #[.int .i64 xk,.string xt,.int .i64 xn,.int .i64 xz,.slice (some ⟨kb,ko,none⟩) (m+1) xcap,.int .i64 xa] 34))
        have HW6:Hid (Below wx.heap.size wx (wx.alloc (.cells #[.int .i64 xk,.string xt,.int .i64 xn,.int .i64 xz,.slice (some ⟨kb,ko,none⟩) (m+1) xcap,.int .i64 xa] 34))):=(Below.refl _ _).alloc (Nat.le_refl _) _
        have HNews:=Lib.hid (news_node wx (.int .i64 xk) (.string xt) (.int .i64 xn) (.int .i64 xz) (.slice (some ⟨kb,ko,none⟩) (m+1) xcap) (.int .i64 xa))
        have hi72:i * 72≤140737488351232:=by omega
        have hil7:i≤140737488355328:=by omega
        clear hlt hi hNX hsx hz64 hne6 hxm hkm hcap0 hcap1 hcapI hmI hzl
        obtain ⟨i0,hi0,hz0,hz1,hz2⟩:=info_parts info36
        go_wp2_with (at_builtin;refine wpList_append_own _ rfl _ _ 22 rfl (w6.heap.size+1) 34 i0 (.agg #[.int .i64 0,.string ⟨#[]⟩,.int .i64 0,.int .i64 0,.slice none 0 0,.int .i64 0]) 6 72 Tryz.underlying22 hi0 hz0 hz1 hz2 rfl (by decide) _ (i) (rowT l (i)) rfl HO5.out ⟨wx.heap.size,0,none⟩ 1 1 [.int .i64 xk,.string xt,.int .i64 xn,.int .i64 xz,.slice (some ⟨kb,ko,none⟩) (m+1) xcap,.int .i64 xa] rfl rfl ?c1 ?c2 ?c3 ?c4 ?c5 ?_)
        case c1=>exact HNews.out
        case c2=>intro u hu;simp at hu;rcases hu with rfl | rfl | rfl | rfl | rfl | rfl <;> rfl
        case c3=>unfold maxLen;omega
        case c4=>omega
        case c5=>simp;omega
        intro v' w7 hown' hgrow _
        obtain ⟨q',qc',rfl⟩:=row_shape hown'
        have hrow:∀ g,(Value.slice q i qc).ownBlock=some g→w6.heap.size+1≤g:=fun g h=>(HO5.out.lt g h).1
        have hB6:=HBx.out.trans (HW6.out.mono HBx.out.size)
        have hB7:Below w4.heap.size w4 w7:=Below.grown hB6 hgrow hB6.size (fun g h=>by have:=hrow g h;have:=HZ6.out;omega)
        have hneU:some w6.heap.size≠(Value.slice q i qc).ownBlock:=fun h=>by have:=hrow _ h.symm;omega
        have hU7:=(HUx.out.below HW6.out lU).grown hgrow hneU
        obtain ⟨w8,hw8⟩ : ∃ w8,w8=w7.setCell ⟨w6.heap.size,0,none⟩ (.slice q' (i+1) qc'):=⟨_,rfl⟩
        have hU8:Blk w8 w6.heap.size 24 #[.slice q' (i+1) qc']:=by rw [hw8];have h:=hU7.set_ 0 (.slice q' (i+1) qc');simpa using h
        have hr0:=HROW.out i
        rw [show m+2-1=m+1 from rfl] at hr0
        have hO8:w8.ownsRow (w6.heap.size+1) 34 6 (.slice q' (i+1) qc') (i+1) (rowN (cutL l x i)):=by
          rw [hw8,← hr0]
          exact own_far hown' (fun g hg=>by have:=(hown'.lt g hg).1;simp;omega) _
        have hB8:Below w4.heap.size w4 w8:=by rw [hw8];exact hB7.setCell (p:=⟨w6.heap.size,0,none⟩) (by have:=HZ6.out;show w4.heap.size≤w6.heap.size;omega) _
        have z7:w7.cell? ⟨w6.heap.size,0,none⟩=some (.slice q i qc):=by rw [hU7.cell];rfl
        have zf:=hU7.frozen 0
        have l7:=hU7.lt
        have HU8:=Lib.hid hU8
        have HO8:=Lib.hid hO8
        have HB8:=Lib.hid hB8
        clear hown' hgrow hrow hB6 hB7 hneU hU7 hU8 hO8 hB8 u0 uz hr0
        go_upto_region 23 with (fail)
        rw [← hw8]
        have hi9:=HI.out
        subst hi9
        clear z7 zf l7 hw8 n0 n1 n2 n3 n4 n5 ln
        have hzl:z+1<l.length:=by have:=HN.out;have:=HZK.out;have:=HKR.out;omega
        have hbw8:=HB4.out.trans (HB8.out.mono HB4.out.size)
        have hcut:=cut_of (fs:=fs) (fr:=z+1) HCK.out HNNT.out HN.out.symm HXR.out (by have:=HM.out;omega) HK1.out HKR.out HST.out (by omega) HKK.out.symm HMN.out HNO.out
        have hT8:=cut_tr (Nat.le_of_lt hzl) HO8.out HT.out.2 HXK.out hbw8
        have hs:=of_cut hcut HNNT.out hT8 (cut_fit HFIT.out hzl (row_cap HO8.out) HX10.out) (cut_caps hzl HCP.out HXC.out)
        have u0:w8.cell? ⟨w6.heap.size,0,none⟩=some (.slice q' (z+1+1) qc'):=by rw [HU8.out.cell];rfl
        have lU:=HU8.out.lt
        have HBW8:=Lib.hid hbw8
        clear hcut hT8 hbw8 hzl
        go_wp2_with (go_at_call 19;refine hs.mono ?_)
        intro e w9 F2 he hb9 lF2 fs' hF2 hfl2 htake
        subst he
        have hb49:=HB8.out.trans (hb9.mono HB8.out.size)
        have hK9:=HK4.out.below hb49 HK4.out.lt
        have k0:w9.cell? ⟨w3.heap.size,0,none⟩=some (.int .i64 0):=by rw [hK9.cell];rfl
        have k1:w9.cell? ⟨w3.heap.size,1,none⟩=some (.int .i64 0):=by rw [hK9.cell];rfl
        have kz0:=hK9.frozen 0
        have kz1:=hK9.frozen 1
        have lk:=hK9.lt
        have h34:=HZ4.out
        have hFne:F≠w3.heap.size:=by have:=HF1.out;omega
        have hF2ne:F2≠w3.heap.size:=by have:=HB8.out.size;omega
        have hFF:=HFB.out.below hb49 (Nat.lt_of_lt_of_le HF1.out (by omega))
        obtain ⟨wy,hwy⟩ : ∃ wy,wy=(w9.setCell ⟨w3.heap.size,0,none⟩ (.int .i64 0)).setCell ⟨w3.heap.size,1,none⟩ (.int .i64 0):=⟨_,rfl⟩
        have hFy:Blk wy F 3 (intA fs):=by rw [hwy];exact (hFF.far (p:=⟨w3.heap.size,0,none⟩) hFne _).far (p:=⟨w3.heap.size,1,none⟩) hFne _
        have hF2y:Blk wy F2 3 (intA fs'):=by rw [hwy];exact (hF2.far (p:=⟨w3.heap.size,0,none⟩) hF2ne _).far (p:=⟨w3.heap.size,1,none⟩) hF2ne _
        have hKy:Blk wy w3.heap.size 26 #[.int .i64 0,.int .i64 0]:=by rw [hwy];have h:=(hK9.set_ 0 (.int .i64 0)).set_ 1 (.int .i64 0);simpa using h
        have hsz:w.heap.size≤w3.heap.size:=HB3.out.size
        have hBy:Below w.heap.size w wy:=by rw [hwy];exact (((HBW8.out.trans (hb9.mono HBW8.out.size)).setCell (p:=⟨w3.heap.size,0,none⟩) hsz _).setCell (p:=⟨w3.heap.size,1,none⟩) hsz _)
        have HFY:=Lib.hid hFy
        have HF2Y:=Lib.hid hF2y
        have HKY:=Lib.hid hKy
        have HBY:=Lib.hid hBy
        have HTAKE:=Lib.hid htake
        have HFL2:=Lib.hid hfl2
        clear hb9 hb49 hK9 hFF hF2 hFy hF2y hKy hBy htake hfl2 hs h34 hFne hF2ne hsz
        go_upto_region 24 with (fail)
        rw [← hwy]
        clear k0 k1 kz0 kz1 lk hwy u0 lU
        have k0:wy.cell? ⟨w3.heap.size,0,none⟩=some (.int .i64 0):=by rw [HKY.out.cell];rfl
        have lk:=HKY.out.lt
        have s1:(z:Int)+1≤(z:Int)+1+1:=by omega
        have s2:(0:Int)≤(z:Int)+1:=by omega
        have hwr:IntKind.i64.wrap ((z:Int)+1+1)=(z:Int)+1+1:=IntWalk.i64_in _ (by have:=HZK.out;have:=HKR.out;omega)
        have s3:(z:Int)+1≤(r:Int)+1:=by have:=HZK.out;have:=HKR.out;omega
        have s4:z+1≤r+1:=by have:=HZK.out;have:=HKR.out;omega
        go_still_tail 17,(by kernel_rfl)
        change wpList _ _ _ _ _ wy.drew
        obtain ⟨we,hwe⟩ : ∃ we,we=wy.drew:=⟨_,rfl⟩
        rw [← hwe]
        have hbe:Below wy.heap.size wy we:=by rw [hwe];exact (Below.refl _ wy).drew
        have hi2:=ints_pre (n:=z+1) (c:=r+1) (c':=z+1+1) (by have:=HFL.out;have:=HN.out;omega) (by have:=HFL2.out;omega) HTAKE.out (by omega) (HFY.out.below hbe HFY.out.lt) (HF2Y.out.below hbe HF2Y.out.lt)
        have HBE:=Lib.hid (HBY.out.trans (hbe.mono HBY.out.size))
        clear k0 lk hbe hwe
        go_wp2_with (go_at_call 21;refine hi2.mono ?_)
        first | rintro e w10 ⟨rfl,hb10⟩ | (intro e w10 he hb10;subst he)
        have HBZ:=Lib.hid (HBE.out.trans (hb10.mono HBE.out.size))
        clear hb10 hi2
        go_wp2
        go_ret
        exact ⟨rfl,HBZ.out⟩
end Ty
end
end Go.Proofs.YtdjpopebeenlmaaGreatDoor
