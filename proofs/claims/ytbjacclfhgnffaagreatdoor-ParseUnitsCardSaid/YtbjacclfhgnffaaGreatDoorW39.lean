/-
  Joined texts of this claim: Mm, Mn.
-/
import Derived.Test.YtbjacclfhgnffaaGreatDoorW00
import Derived.Test.YtbjacclfhgnffaaGreatDoorW33
import Derived.Test.YtbjacclfhgnffaaGreatDoorW37
import Derived.Test.YtbjacclfhgnffaaGreatDoorW35
import Derived.Test.YtbjacclfhgnffaaGreatDoorW38
set_option maxHeartbeats 40000000
set_option maxRecDepth 100000
set_option linter.unusedVariables false
set_option linter.unusedSimpArgs false
namespace Go.Proofs.YtbjacclfhgnffaaGreatDoor
section
open Go.RowKit
open Tk (T4 SR Scans bstr rowOf)
open Tr (Nd Blk KidsAt NodeAt ret_bool)
theorem bind_okE {r:R3}{f:F3}{s':S3}(h:r.bind f=.ok s'):∃ s1,r=.ok s1∧f s1=.ok s':=by
 cases r with
 | ok s=>exact ⟨s,rfl,h⟩
 | bad c a=>cases h
 | out=>cases h
theorem globals_end {E:Nat}:∀ {n:Nat}{s s':S3},runU E n .globals s=.ok s'→s'.L=[]
 | 0,_,_,h=>by cases h
 | n+1,s,s',h=>by
  have H:(if s.L=[] then R3.ok s else (runU E n .global s).bind (runU E n .globals))=.ok s':=h
  by_cases hL:s.L=[]
  ·rw [if_pos hL] at H;cases H;exact hL
  ·rw [if_neg hL] at H
   obtain ⟨s1,_,h2⟩:=bind_okE H
   exact globals_end h2
theorem unit_end {E n:Nat}{s s':S3}(h:unitF E n s=.ok s'):s'.L=[]:=by
 obtain ⟨s1,h1,h2⟩:=bind_okE (show ((runU E n .globals s).bind R3.ok).bind (addF (mk 1 [] 0 0) s.O.length)=.ok s' from h)
 obtain ⟨s2,h3,h4⟩:=bind_okE h1
 cases h4
 have e:=globals_end h3
 unfold addF at h2
 split at h2
 ·cases h2
 ·cases h2;exact e
theorem runit_of {s:ByteArray}{r:R3}(h:UnitOf s.data.toList r) (w:World) (hs47:s.size≤140737488355328):Calls Tryz.prog 15 #[.string s] w (ParD r w):=by
 obtain ⟨n,R,hR,hr,ho⟩:=h
 rw [← Lib.size_eq] at hr
 cases R with
 | bad c a =>
  have hc:c≠0:=hR.few
  have e:r=.bad c a:=hr.symm
  subst e
  exact (runit_bad hc (fun w=>rscan_R hR hs47) w).mono fun e w' ⟨he,hb⟩=>⟨hb,he⟩
 | ok L =>
  have hK:=hR.kinds
  have hO:=hR.ok
  have hSh:=hR.short
  have hF:=hR.few
  rw [unitW_ok] at hr
  have hsim:=unit_sim (E:=s.size) (n:=n) (4 * n+9) ⟨L,[],[]⟩ 0 0 (Nat.le_refl _) ⟨Nat.le_refl _,Nat.zero_le _,hK⟩ (by
   have h1:=hF.1
   unfold pot
   show ((0:Nat):Int)+4 * (L.length:Int)≤4000000
   omega)
  cases hrun:unitF s.size n ⟨L,[],[]⟩ with
  | out=>rw [hrun] at hr;exact absurd hr.symm ho
  | bad c a =>
   rw [hrun] at hr hsim
   obtain ⟨hc,r',e,rfl,rfl⟩:=hsim
   have e2:r=.bad r'.c r'.a:=hr.symm
   subst e2
   refine (runit_walk (w:=w) hs47 (fun w=>rscan_R hR hs47) hSh (fun k=>(fv_all s.size k).top) e (QBad r'.c r'.a) (fun _ _ _ _ _ _ _ _ h=>h)
    (fun W v hv=>(done_bad hv hc).mono fun e w' ⟨he,hb⟩=>⟨none,0,0,_,_,he,⟨rfl,rfl,rfl,rfl,rfl⟩,hb⟩)).mono fun e w' ⟨p,n,cap,c,a,he,hq,hb⟩=>?_
   obtain ⟨rfl,rfl,rfl,rfl,rfl⟩:=hq
   exact ⟨hb,he⟩
  | ok s1 =>
   have hck:=unit_check hO hrun
   have hgd:=unitF_good s.size n ⟨L,[],[]⟩ [] (start_inv hO)
   have hend:=unit_end hrun
   rw [hrun] at hr hsim hgd
   obtain ⟨h1,o',hO',e⟩:=hsim
   obtain ⟨new,hg,-⟩:=hgd
   have hgood:∀ j,j<s1.N.length→Tr.codeAt (s1.N.map ndOf) j=0:=fun j hj=>hg.inv.gs.good j (by unfold nds;rw [List.length_map];exact hj)
   have hr2:seqF [doneF s.size,fitsF] s1=r:=by
    rw [← hr]
    show (doneF s.size s1).bind _=seqF [fitsF] s1
    unfold doneF;rw [if_pos hend];rfl
   rcases done_of (E:=s.size) (o':=o') (g:=w.heap.size) hck.1 hgood hck.2 hr2 with ⟨s2,rfl,rfl,hD⟩ | ⟨c0,a0,rfl,hD⟩
   ·refine (runit_walk (w:=w) hs47 (fun w=>rscan_R hR hs47) hSh (fun k=>(fv_all s.size k).top) e (QOk w.heap.size s2) qok_agr hD).mono fun e w' ⟨p,n,cap,c,a,he,hq,hb⟩=>?_
    obtain ⟨ns,rfl,rfl,rfl,hT,hF,hm⟩:=qok_end hq
    exact ⟨hb,p,cap,ns,he,hT,hF,hm⟩
   ·refine (runit_walk (w:=w) hs47 (fun w=>rscan_R hR hs47) hSh (fun k=>(fv_all s.size k).top) e (QBad c0 a0) (fun _ _ _ _ _ _ _ _ h=>h) hD).mono fun e w' ⟨p,n,cap,c,a,he,hq,hb⟩=>?_
    obtain ⟨rfl,rfl,rfl,rfl,rfl⟩:=hq
    exact ⟨hb,he⟩
end
section
open Go.RowKit
open Tr (Nd Blk KidsAt NodeAt)
theorem punits_walk (s:ByteArray) (w:World) (hE:Env w) (hs:s.size≤140737488355328) :
  Calls Tryz.prog 4 #[.string s] w fun e w'=>e=.returned (.bool true)∧Below w.heap.size w w':=by
 by_cases hl:s.size≤3000
 ·obtain ⟨r,hr,-⟩:=unitOf_total s.data.toList
  have ho:r≠.out:=by obtain ⟨_,_,_,_,ho⟩:=hr;exact ho
  obtain ⟨N,c,a,hp,hd⟩:=pq_parR ho
  have h11:Calls Tryz.prog 14 #[.string s] w (PQ N c a w):=(punit_of hr hE hs).mono fun e w' h=>hp w e w' h
  have h12:∀ W,Calls Tryz.prog 15 #[.string s] W (PQ N c a W):=fun W=>(runit_of hr W hs).mono fun e w' h=>hd W e w' h
  have q:decide ((3000:Int)<(s.size:Int))=false:=decide_eq_false (by omega)
  have b1:(c == c)=true:=by simp
  have b2:(a == a)=true:=by simp
  have hsz:=Lib.hid (Lib.size_eq s)
  clear hE hr ho hp hd
  go_enter Tryz.func4,Tryz.ntmps4
  go_wp2_with (go_at_call 14;refine h11.mono ?_)
  rintro e w2 ⟨hb2,ns,m,cap,p,hm,rfl,hT,hF,hN⟩
  have hz2:=hb2.size
  have x1:Below w2.heap.size w2 ((w2.alloc (.cells #[.slice p m cap] 24)).alloc (.cells #[.int .i64 c,.int .i64 a] 26)):=((Below.refl _ _).alloc (Nat.le_refl _) _).alloc (by simp) _
  have K1:Hid (Blk ((w2.alloc (.cells #[.slice p m cap] 24)).alloc (.cells #[.int .i64 c,.int .i64 a] 26)) w2.heap.size 24 #[.slice p m cap]):=(Blk.new _ _ _).alloc _
  have K2:Hid (Blk ((w2.alloc (.cells #[.slice p m cap] 24)).alloc (.cells #[.int .i64 c,.int .i64 a] 26)) (w2.heap.size+1) 26 #[.int .i64 c,.int .i64 a]):=by
   have h:=Blk.new (w2.alloc (.cells #[.slice p m cap] 24)) 26 #[.int .i64 c,.int .i64 a]
   rw [World.size_alloc] at h
   exact h
  have hcall:=h12 ((w2.alloc (.cells #[.slice p m cap] 24)).alloc (.cells #[.int .i64 c,.int .i64 a] 26))
  have X1:=Lib.hid x1
  have HB2:=Lib.hid hb2
  have HT:=Lib.hid hT
  have HF:=Lib.hid hF
  have Hm:=Lib.hid hm
  have HN:=Lib.hid hN
  clear h11 h12 x1 hb2 hT hF hm hN
  go_wp2_with (go_at_call 15;refine hcall.mono ?_)
  rintro e w5 ⟨hb5,ns',m',cap',p',hm',rfl,hT',hF',hN'⟩
  have z5:Below w2.heap.size w2 w5:=X1.out.trans (hb5.mono X1.out.size)
  have x2:Below w5.heap.size w5 ((w5.alloc (.cells #[.slice p' m' cap'] 24)).alloc (.cells #[.int .i64 c,.int .i64 a] 26)):=((Below.refl _ _).alloc (Nat.le_refl _) _).alloc (by simp) _
  have hcall2:=trees_pq (m:=m) (m':=m') (w:=(w5.alloc (.cells #[.slice p' m' cap'] 24)).alloc (.cells #[.int .i64 c,.int .i64 a] 26)) Hm.out hm' ((HT.out.below z5).below x2) (hT'.below x2) HF.out hF' HN.out hN'
  have k1:=K1.out.below hb5 K1.out.lt
  have k2:=K2.out.below hb5 K2.out.lt
  have e0:w5.cell? ⟨w2.heap.size,0,none⟩=some (.slice p m cap):=by rw [k1.cell];rfl
  have e1:w5.cell? ⟨w2.heap.size+1,0,none⟩=some (.int .i64 c):=by rw [k2.cell];rfl
  have e2:w5.cell? ⟨w2.heap.size+1,1,none⟩=some (.int .i64 a):=by rw [k2.cell];rfl
  have l1:=k1.lt
  have l2:=k2.lt
  have HZ:Hid (Below w.heap.size w ((w5.alloc (.cells #[.slice p' m' cap'] 24)).alloc (.cells #[.int .i64 c,.int .i64 a] 26))):=(HB2.out.trans (z5.mono hz2)).trans (x2.mono (Nat.le_trans hz2 z5.size))
  clear hb5 hcall z5 x2 k1 k2 hT' hF' hm' hN'
  go_wp2_with (go_at_call 13;refine hcall2.mono ?_)
  first | rintro e w7 rfl hb7 | rintro e w7 ⟨rfl,hb7⟩
  have HB7:=Lib.hid (HZ.out.trans (hb7.mono HZ.out.size))
  clear hb7 hcall2
  go_wp2
  (try go_ret)
  exact ⟨rfl,HB7.out⟩
 ·have q:decide ((3000:Int)<(s.size:Int))=true:=decide_eq_true (by omega)
  go_enter Tryz.func4,Tryz.ntmps4
  go_wp2
  go_ret
  exact ⟨rfl,Below.refl _ _⟩
end
end Go.Proofs.YtbjacclfhgnffaaGreatDoor
