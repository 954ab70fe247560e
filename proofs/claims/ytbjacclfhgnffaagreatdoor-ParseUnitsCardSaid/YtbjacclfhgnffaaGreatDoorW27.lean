/-
  Joined texts of this claim: Rdi.
-/
import Derived.Test.YtbjacclfhgnffaaGreatDoorW00
import Derived.Test.YtbjacclfhgnffaaGreatDoorW12
import Derived.Deep.RegionHeld3
set_option maxHeartbeats 40000000
set_option maxRecDepth 100000
set_option linter.unusedVariables false
set_option linter.unusedSimpArgs false
namespace Go.Proofs.YtbjacclfhgnffaaGreatDoor
section
namespace Tr
open Go.RowKit
theorem maxI_congr {d d':Nat→Nat}{c:List Int}(h:∀ i,(hi:i<c.length)→d c[i].toNat=d' c[i].toNat):maxI d c=maxI d' c:=by
 induction c with
 | nil=>rfl
 | cons x c ih =>
  have h0:=h 0 (by simp)
  simp only [List.getElem_cons_zero] at h0
  simp only [maxI,h0]
  rw [ih fun i hi=>by have:=h (i+1) (by simpa using hi);simpa using this]
theorem Dp_kids {l:List Nd}{j:Nat}(hj:j<l.length) (h:codeAt l j=0):Dp l j=maxI (Dp l) l[j].c+1:=by
 obtain ⟨_,hk⟩:=code_kids hj h
 rw [Dp_eq,kidsAt_get hj]
 congr 1
 refine maxI_congr fun i hi=>?_
 obtain ⟨q,hq,e⟩:=hk i hi
 rw [e]
 exact deeps_get l (by simpa using hq)
theorem Dp_le (l:List Nd) (j:Nat):Dp l j≤j+1:=deeps_le l (j+1) j
theorem deep_any (l:List Nd) (b o cap:Nat) (hl:l.length≤1000000) (j:Nat):∀ (w:World),j<l.length→(∀ i,i≤j→codeAt l i=0)→b<w.heap.size→(∀ j,(h:j<l.length)→NodeAt w b (o+j * 6) l[j])→(∀ j,(h:j<l.length)→KidsAt w l[j].p l[j].c) →
  Calls Tryz.prog 50 #[.agg #[.slice (some ⟨b,o,none⟩) l.length cap],.int .i64 j] w fun e w'=>e=.returned (.int .i64 (Dp l j))∧Below w.heap.size w w':=by
 induction j using Nat.strongRecOn with
 | _ j ih =>
 intro w hj hg hb hN hK
 have h1:Below w.heap.size w (w.alloc (.cells #[.slice (some ⟨b,o,none⟩) l.length cap] 24)):=(Below.refl _ _).alloc (Nat.le_refl _) _
 have HI:=Lib.hid ih
 have HG:=Lib.hid hg
 have HN:=Lib.hid hN
 have HK:=Lib.hid hK
 obtain ⟨c0,c1,c2,c3,c4,c5⟩:=hN j hj
 obtain ⟨hcl,hck⟩:=code_kids hj (hg j (Nat.le_refl _))
 have hKj:=hK j hj
 have hMn:=Dp_kids hj (hg j (Nat.le_refl _))
 have hMle:=Dp_le l j
 clear ih hg hN hK h1
 generalize l[j]=x at *
 obtain ⟨xk,t,xn,z,p,kc,c,a⟩:=x
 simp only at c0 c1 c2 c3 c4 c5 hcl hck hKj hMn
 obtain ⟨n,hn⟩:=exE (l.length)
 rw [← hn] at hl hj ⊢
 have Hn:=Lib.hid hn
 clear hn
 obtain ⟨m,hm⟩:=exE (c.length)
 rw [← hm] at c4 hcl
 have Hm:=Lib.hid hm
 have HCK:=Lib.hid hck
 have HKJ:=Lib.hid hKj
 have HMn:=Lib.hid hMn
 clear hm hck hKj hMn
 go_enter Tryz.func50,Tryz.ntmps50
 go_wp2
 go_loopw [5,6] (fun vn vi wr=>∃ i:Nat,i≤m∧vi=.int .i64 i∧vn=.int .i64 ((maxI (Dp l) (c.take i):Nat):Int)∧Blk wr w.heap.size 24 #[.slice (some ⟨b,o,none⟩) n cap]∧Below w.heap.size w wr) (fun _ vi _=>m-(intOf vi).toNat)
 case atStart=>exact ⟨0,Nat.zero_le _,rfl,rfl,Blk.new _ _ _,(Below.refl _ _).alloc (Nat.le_refl _) _⟩
 case round =>
  obtain ⟨i,hi,rfl,rfl,hX,hbel⟩:=hrel
  have x0:wr.cell? ⟨w.heap.size,0,none⟩=some (.slice (some ⟨b,o,none⟩) n cap):=by rw [hX.cell];rfl
  have n4:=(hbel.cell (p:=⟨b,o+j * 6+4,none⟩) hb).trans c4
  have lX:=hX.lt
  have HX:=Lib.hid hX
  have HB:=Lib.hid hbel
  clear hX hbel
  by_cases hlt:i<m
  ·have hic:i<c.length:=by have:=Hm.out;omega
   obtain ⟨q,hq,hcq⟩:=HCK.out i hic
   obtain ⟨kb,ko,rfl,hkb,hkc⟩:=HKJ.out (by omega)
   have e0:=(HB.out.cell (p:=⟨kb,ko+i,none⟩) hkb).trans (hkc i hic)
   rw [hcq] at e0
   have hsn:Hid (maxI (Dp l) (c.take (i+1))=max (maxI (Dp l) (c.take i)) (Dp l q)):=by
    show _=_
    rw [List.take_succ_eq_append_getElem hic,maxI_snoc,hcq]
    rfl
   have hca:=HI.out q hq wr.drew (by have:=Hn.out;omega) (fun i hi=>HG.out i (by omega)) (Nat.lt_of_lt_of_le hb HB.out.size) (fun j hj=>(HN.out j hj).below HB.out.drew hb) (fun j hj=>(HK.out j hj).below HB.out.drew)
   rw [← Hn.out] at hca
   have hqn:(q:Int)<(n:Int):=by omega
   have hjn:(j:Int)<(n:Int):=by omega
   have him:(i:Int)<(m:Int):=by omega
   clear hkc hcq
   generalize maxI (Dp l) (c.take i)=s at *
   generalize Dp l q=mq at *
   have lb:b<wr.heap.size:=Nat.lt_of_lt_of_le hb HB.out.size
   have lk:kb<wr.heap.size:=Nat.lt_of_lt_of_le hkb HB.out.size
   have S0:Hid (wr.drew.cell? ⟨w.heap.size,0,none⟩=some (.slice (some ⟨b,o,none⟩) n cap)∧wr.drew.cell? ⟨b,o+j * 6+4,none⟩=some (.slice (some ⟨kb,ko,none⟩) m kc)∧wr.drew.cell? ⟨kb,ko+i,none⟩=some (.int .i64 q)∧Blk wr.drew w.heap.size 24 #[.slice (some ⟨b,o,none⟩) n cap]∧Below w.heap.size w wr.drew):=⟨x0,n4,e0,HX.out.drew,HB.out.drew⟩
   have S1:Hid (∀ W,Below wr.drew.heap.size wr.drew W→W.cell? ⟨w.heap.size,0,none⟩=some (.slice (some ⟨b,o,none⟩) n cap)∧W.cell? ⟨b,o+j * 6+4,none⟩=some (.slice (some ⟨kb,ko,none⟩) m kc)∧W.cell? ⟨kb,ko+i,none⟩=some (.int .i64 q)∧Blk W w.heap.size 24 #[.slice (some ⟨b,o,none⟩) n cap]∧Below w.heap.size w W):=fun W h =>
    ⟨(h.cell (p:=⟨w.heap.size,0,none⟩) lX).trans S0.out.1,(h.cell (p:=⟨b,o+j * 6+4,none⟩) lb).trans S0.out.2.1,(h.cell (p:=⟨kb,ko+i,none⟩) lk).trans S0.out.2.2.1,HX.out.drew.below h lX,HB.out.drew.trans (h.mono HB.out.drew.size)⟩
   go_wp2
   clear x0 n4 e0
   go_region_held3 (fun W=>W.cell? ⟨w.heap.size,0,none⟩=some (.slice (some ⟨b,o,none⟩) n cap)∧W.cell? ⟨b,o+j * 6+4,none⟩=some (.slice (some ⟨kb,ko,none⟩) m kc)∧W.cell? ⟨kb,ko+i,none⟩=some (.int .i64 q)∧Blk W w.heap.size 24 #[.slice (some ⟨b,o,none⟩) n cap]∧Below w.heap.size w W)
    (first | exact S0.out | exact S1.out _ hb3)
    ((go_at_call 50;refine hca.mono ?_;rintro e w3 ⟨rfl,hb3⟩))
   have HH:Hid (Blk w3 w.heap.size 24 #[.slice (some ⟨b,o,none⟩) n cap]∧Below w.heap.size w w3):=⟨(S1.out _ hb3).2.2.2.1,(S1.out _ hb3).2.2.2.2⟩
   go_wp2
   ·go_roundw
    case rel=>exact ⟨i+1,by omega,by go_num,by rw [hsn.out,show max s mq=mq by omega],HH.out.1,HH.out.2⟩
    case measure=>simp [intOf];try omega
   ·go_roundw
    case rel=>exact ⟨i+1,by omega,by go_num,by rw [hsn.out,show max s mq=s by omega],HH.out.1,HH.out.2⟩
    case measure=>simp [intOf];try omega
  ·have hct:c.take i=c:=List.take_of_length_le (by have:=Hm.out;omega)
   rw [hct]
   have hR:Hid (Dp l j=maxI (Dp l) c+1):=HMn.out
   have hb1:maxI (Dp l) c≤1000000:=by have:=HMn.out;omega
   generalize maxI (Dp l) c=s at *
   go_wp2
   go_ret
   exact ⟨by rw [hR.out];rfl,HB.out⟩
end Tr
end
end Go.Proofs.YtbjacclfhgnffaaGreatDoor
