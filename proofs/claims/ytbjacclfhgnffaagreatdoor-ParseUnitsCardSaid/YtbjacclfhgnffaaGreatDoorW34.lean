/-
  Joined texts of this claim: TkLb.
-/
import Derived.Test.YtbjacclfhgnffaaGreatDoorW00
import Derived.Test.YtbjacclfhgnffaaGreatDoorW10
set_option maxHeartbeats 40000000
set_option maxRecDepth 100000
set_option linter.unusedVariables false
set_option linter.unusedSimpArgs false
namespace Go.Proofs.YtbjacclfhgnffaaGreatDoor
section
namespace Tk
open Go.RowKit
theorem blank_cases {c:UInt8}(h:blankB c=true):((c.toNat:Int) == 32)=true∨(((c.toNat:Int) == 32)=false∧((c.toNat:Int) == 9)=true)∨(((c.toNat:Int) == 32)=false∧((c.toNat:Int) == 9)=false∧((c.toNat:Int) == 10)=true):=by
 simp [blankB] at h
 rcases h with h | h | h <;> rw [h] <;> simp
theorem not_blank {c:UInt8}(h:blankB c=false):((c.toNat:Int) == 32)=false∧((c.toNat:Int) == 9)=false∧((c.toNat:Int) == 10)=false:=by
 simp [blankB] at h
 refine ⟨beq_of_ne ?_,beq_of_ne ?_,beq_of_ne ?_⟩ <;> omega
theorem below_grown {w w':World}(h:Below w.heap.size w w'):w.grownBy w' none:=⟨h.os,h.tape,h.output,h.size,fun k hk _=>h.block k hk⟩
theorem own_below {w w':World}{B e size n:Nat}{v:Value}{xs:List Value}(h:w.ownsRow B e size v n xs) (hb:Below w.heap.size w w'):w'.ownsRow B e size v n xs :=
 h.kept (below_grown hb) (by cases v.ownBlock with | none=>exact Or.inl rfl | some g=>exact Or.inr (fun e=>by cases e))
theorem rscan_in (s:ByteArray) (w:World) (hs:s.size≤2000) :
  Calls Tryz.prog 33 #[.string s] w (ScPost s.data.toList w):=by
 have hsz:=Lib.hid (Lib.size_eq s)
 have hng:¬ 2000<s.size:=by omega
 go_enter Tryz.func33,Tryz.ntmps33
 go_wp2
 go_loopw [4,5] (fun v vk wr=>∃ (k:Nat) (acc:List T4),vk=.int .i64 k∧RInv s w w.heap.size v wr k acc) (fun _ vk _=>s.size-(intOf vk).toNat)
 case atStart =>
  exact ⟨0,[],rfl,Nat.zero_le _,heap_alloc_new w _,World.ownsRow_nil _ _ _ _,(Below.refl _ _).alloc (Nat.le_refl _) _,by simp,fun r h=>h⟩
 case round =>
  obtain ⟨k,acc,rfl,hI⟩:=hrel
  obtain ⟨p,cap,rfl,hfew⟩:=rInv_len hI
  have hR:=hI.res
  have c0:wr.cell? ⟨w.heap.size,0,none⟩=some (.int .i64 0):=by simp [World.cell?,hR]
  have c1:wr.cell? ⟨w.heap.size,1,none⟩=some (.int .i64 0):=by simp [World.cell?,hR]
  have f0:wr.frozen? ⟨w.heap.size,0,none⟩=false:=by simp [World.frozen?,hR]
  have f1:wr.frozen? ⟨w.heap.size,1,none⟩=false:=by simp [World.frozen?,hR]
  have lR:=lt_of_block hR
  have hk:=hI.kle
  have HI:=Lib.hid hI
  clear hI hR
  by_cases hlt:k<s.size
  ·have hl:k<s.data.toList.length:=by have:=hsz.out;omega
   have hdrop:s.data.toList.drop k=s[k] :: s.data.toList.drop (k+1):=List.drop_eq_getElem_cons hl
   cases hb:blankB s[k] with
   | true =>
    have HN:Hid (RInv s w w.heap.size (.slice p acc.length cap) wr (k+1) acc):=rInv_skip HI.out (by rw [hdrop];exact skp_blank hb) (by omega)
    have hcs:=blank_cases hb
    clear HI hb hdrop
    rcases hcs with e1 | ⟨e1,e2⟩ | ⟨e1,e2,e3⟩
    all_goals
     go_wp2
     go_roundw
     case rel=>exact ⟨k+1,acc,by go_num,HN.out⟩
     case measure=>simp [intOf];omega
   | false =>
    obtain ⟨e1,e2,e3⟩:=not_blank hb
    cases h1:Lib.hasPrefix (s.data.toList.drop k) [47,47] with
    | true =>
     obtain ⟨a0,hk1,a1⟩:=(pre2_iff hl 47 47).1 h1
     have g0:((s[k].toNat:Int) == 47)=true:=beq_of (by show ((s.data.toList[k].toNat:Nat):Int)=47;rw [a0];rfl)
     have hk1':k+1<s.size:=by have:=hsz.out;omega
     have g1:((s[k+1].toNat:Int) == 47)=true:=beq_of (by show ((s.data.toList[k+1].toNat:Nat):Int)=47;rw [a1];rfl)
     obtain ⟨hsk,hp1⟩:=skp_line hl hb h1
     have hple:=preN_le nlB (s.data.toList.drop k)
     rw [List.length_drop] at hple
     have HN:Hid (RInv s w w.heap.size (.slice p acc.length cap) wr (k+preN nlB (s.data.toList.drop k)) acc):=rInv_skip HI.out hsk (by have:=hsz.out;omega)
     have hq:=HI.out.kle
     obtain ⟨q,hqq⟩:=exE (preN nlB (s.data.toList.drop k))
     rw [← hqq] at HN hp1
     have Hq:=Lib.hid hqq
     clear hqq HI h1 hb hdrop a0 a1 hsk hple hk1 hq
     go_wp2
     obtain ⟨wo,hwo⟩:=exE (wr)
     subst hwo
     go_loop [5] (fun v=>∃ j:Nat,k+j≤s.size∧v=.int .i64 (k+j:Nat)∧Hid (q=j+preN nlB (s.data.toList.drop (k+j)))) (fun v=>s.size-(intOf v).toNat)
     case atStart=>exact ⟨0,by omega,by simp,by have:=Hq.out;simpa [Hid] using this⟩
     case round =>
      obtain ⟨j,hj,rfl,HJ⟩:=hrel
      by_cases hlt2:k+j<s.size
      ·have hl2:k+j<s.data.toList.length:=by have:=hsz.out;omega
       cases hn:nlB s[k+j] with
       | true =>
        have HJ2:Hid (q=(j+1:Nat)+preN nlB (s.data.toList.drop (k+(j+1)))):=by
         show _=_
         have:=preN_drop_true hl2 hn
         have:=HJ.out
         rw [← Nat.add_assoc];omega
        have e10:((s[k+j].toNat:Int) == 10)=false:=beq_of_ne (by simp [nlB] at hn;omega)
        have n10:=u8_nb e10
        clear HJ hn
        go_wp2
        go_round
        case rel=>exact ⟨j+1,by omega,by go_num,HJ2⟩
        case measure=>simp [intOf];omega
       | false =>
        have hqj:q=j:=by
         have:=preN_drop_false hl2 hn
         have:=HJ.out
         omega
        have e10:((s[k+j].toNat:Int) == 10)=true:=beq_of (by simp [nlB] at hn;omega)
        have n10:=u8_nb e10
        clear HJ hn
        subst hqj
        go_wp2
        go_roundw
        case rel=>exact ⟨k+q,acc,by go_num,HN.out⟩
        case measure=>simp [intOf];omega
      ·have hqj:q=j:=by
        have h0:s.data.toList.drop (k+j)=[]:=List.drop_eq_nil_of_le (by have:=hsz.out;omega)
        have:=HJ.out
        rw [h0] at this
        simpa [preN] using this
       clear HJ
       subst hqj
       go_wp2
       go_roundw
       case rel=>exact ⟨k+q,acc,by go_num,HN.out⟩
       case measure=>simp [intOf];omega
    | false =>
     cases h2:Lib.hasPrefix (s.data.toList.drop k) [47,42] with
     | true =>
      obtain ⟨a0,hk1,a1⟩:=(pre2_iff hl 47 42).1 h2
      have g0:((s[k].toNat:Int) == 47)=true:=beq_of (by show ((s.data.toList[k].toNat:Nat):Int)=47;rw [a0];rfl)
      have hk1':k+1<s.size:=by have:=hsz.out;omega
      have g1:((s[k+1].toNat:Int) == 47)=false:=beq_of_ne (by show ((s.data.toList[k+1].toNat:Nat):Int)≠47;rw [a1];decide)
      have g2:((s[k+1].toNat:Int) == 42)=true:=beq_of (by show ((s.data.toList[k+1].toNat:Nat):Int)=42;rw [a1];rfl)
      obtain ⟨ho,hi⟩:=skp_block hl hb h2
      have hO:∀ j:Nat,NoEnd (s.data.toList.drop (k+2)) j→s.size≤k+2+j+1→Hid (Scans 0 s.data.toList [] (.bad 1 k)):=fun j h hj =>
       HI.out.rest _ (.opens (ho (noEnd_none h (by rw [List.length_drop];have:=hsz.out;omega))))
      have hF:∀ j:Nat,NoEnd (s.data.toList.drop (k+2)) j→k+2+j+1<s.size→s.data.toList[k+2+j]? = some 42→s.data.toList[k+2+j+1]? = some 47→Hid (RInv s w w.heap.size (.slice p acc.length cap) wr (k+(j+4)) acc):=fun j h hj h3 h4 =>
       rInv_skip HI.out (hi j (noEnd_hit h (by rw [List.getElem?_drop];exact h3) (by rw [List.getElem?_drop];exact h4))) (by omega)
      have HB:=Lib.hid HI.out.below
      have HO:=Lib.hid hO
      have HF:=Lib.hid hF
      clear HI h1 h2 hb hdrop a0 a1 hk1 ho hi hO hF
      go_wp2
      obtain ⟨wo,hwo⟩:=exE (wr)
      subst hwo
      go_loop [7] (fun v=>∃ j:Nat,k+2+j≤s.size∧v=.int .i64 (k+2+j:Nat)∧Hid (NoEnd (s.data.toList.drop (k+2)) j)) (fun v=>s.size-(intOf v).toNat)
      case atStart=>exact ⟨0,by omega,by simp,noEnd_zero _⟩
      case round =>
       obtain ⟨j,hj,rfl,HJ⟩:=hrel
       by_cases hlt2:k+2+j+1<s.size
       ·have hl2:k+2+j+1<s.data.toList.length:=by have:=hsz.out;omega
        have q0:s.data.toList[k+2+j]? = some s[k+2+j]:=List.getElem?_eq_getElem (show k+2+j<s.data.toList.length by omega)
        have q1:s.data.toList[k+2+j+1]? = some s[k+2+j+1]:=List.getElem?_eq_getElem hl2
        by_cases hx:s[k+2+j]=42
        ·have m0:((s[k+2+j].toNat:Int) == 42)=true:=beq_of (by rw [hx];rfl)
         have n0:=u8_nb m0
         by_cases hy:s[k+2+j+1]=47
         ·have m1:((s[k+2+j+1].toNat:Int) == 47)=true:=beq_of (by rw [hy];rfl)
          have n1:=u8_nb m1
          have HN:=HF.out j HJ.out hlt2 (by rw [q0,hx]) (by rw [q1,hy])
          clear HJ hx hy q0 q1
          go_wp2
          go_roundw
          case rel=>exact ⟨k+(j+4),acc,by go_num,HN.out⟩
          case measure=>simp [intOf];omega
         ·have m1:((s[k+2+j+1].toNat:Int) == 47)=false:=u8_ne hy
          have n1:=u8_nb m1
          have HN:Hid (NoEnd (s.data.toList.drop (k+2)) (j+1)):=noEnd_succ HJ.out (by
           rw [List.getElem?_drop,List.getElem?_drop,← Nat.add_assoc,q1]
           exact fun h=>hy (Option.some.inj h.2))
          clear HJ hx hy q0 q1
          go_wp2
          go_round
          case rel=>exact ⟨j+1,by omega,by go_num,HN⟩
          case measure=>simp [intOf];omega
        ·have m0:((s[k+2+j].toNat:Int) == 42)=false:=u8_ne hx
         have n0:=u8_nb m0
         have HN:Hid (NoEnd (s.data.toList.drop (k+2)) (j+1)):=noEnd_succ HJ.out (by
          rw [List.getElem?_drop,q0]
          exact fun h=>hx (Option.some.inj h.1))
         clear HJ hx q0 q1
         go_wp2
         go_round
         case rel=>exact ⟨j+1,by omega,by go_num,HN⟩
         case measure=>simp [intOf];omega
       ·have HS:=HO.out j HJ.out (by omega)
        clear HJ
        go_wp2_with (go_at_call 47;refine (fault_any _ _ _).mono ?_;rintro e w' ⟨rfl,rfl⟩)
        refine bodyPost_ret (v:=.tuple #[.slice none 0 0,.agg #[.int .i64 1,.int .i64 k]]) (by simp [results,Tryz.results33,go_sem,c0,c1,lR]) rfl ?_
        refine ⟨?_,_,_,_,rfl,Or.inr ⟨by have:=hsz.out;omega,.bad 1 k,HS.out,rfl,rfl,rfl⟩⟩
        exact below_res HB.out (Nat.le_of_lt lR) _ _ _
     | false =>
      have hword:=skp_none hl hb h1 h2
      have hne:s.data.toList.drop k≠[]:=by rw [hdrop];exact List.cons_ne_nil _ _
      have hsub:((s[k].toNat:Int) == 47)=false∨(((s[k].toNat:Int) == 47)=true∧¬ k+1<s.size)∨(((s[k].toNat:Int) == 47)=true∧∃ h:k+1<s.size,((s[k+1].toNat:Int) == 47)=false∧((s[k+1].toNat:Int) == 42)=false):=by
       by_cases hc:s[k]=47
       ·have e47:((s[k].toNat:Int) == 47)=true:=beq_of (by rw [hc];rfl)
        by_cases hk1:k+1<s.size
        ·have y1:s[k+1]≠47:=fun h=>by rw [(pre2_iff hl 47 47).2 ⟨hc,by have:=hsz.out;omega,h⟩] at h1;cases h1
         have y2:s[k+1]≠42:=fun h=>by rw [(pre2_iff hl 47 42).2 ⟨hc,by have:=hsz.out;omega,h⟩] at h2;cases h2
         have z1:((s[k+1].toNat:Int) == 47)=false:=u8_ne y1
         have z2:((s[k+1].toNat:Int) == 42)=false:=u8_ne y2
         exact Or.inr (Or.inr ⟨e47,hk1,z1,z2⟩)
        ·exact Or.inr (Or.inl ⟨e47,hk1⟩)
       ·exact Or.inl (u8_ne hc)
      have Hword:=Lib.hid hword
      have Hne:=Lib.hid hne
      clear hword hne h1 h2 hb hdrop
      have hN:=fun w=>next_any (s.extract k s.size) w (by rw [extE_size];omega) (by rw [extE_size];omega)
      rw [extE_data] at hN
      by_cases h800:acc.length=800
      ·have H8:=Lib.hid h800
       have h8:((acc.length:Int) == 800)=true:=beq_of (by omega)
       clear h800
       rcases hsub with g0 | ⟨g0,g1⟩ | ⟨g0,g1,g2,g3⟩
       all_goals
        go_wp2_with (go_at_call 47;refine (fault_any _ _ _).mono ?_;rintro e w' ⟨rfl,rfl⟩)
        refine bodyPost_ret (v:=.tuple #[.slice none 0 0,.agg #[.int .i64 10,.int .i64 k]]) (by simp [results,Tryz.results33,go_sem,c0,c1,lR]) rfl ?_
        refine ⟨?_,_,_,_,rfl,Or.inr ⟨by have:=hsz.out;omega,.bad 10 k,HI.out.rest _ (.much Hword.out Hne.out H8.out),rfl,rfl,rfl⟩⟩
        exact below_res HI.out.below (Nat.le_of_lt lR) _ _ _
      ·have H8:=Lib.hid h800
       have h8:((acc.length:Int) == 800)=false:=beq_of_ne (by omega)
       clear h800
       rcases hsub with g0 | ⟨g0,g1⟩ | ⟨g0,g1,g2,g3⟩
       all_goals
        go_wp2_with (go_at_call 66;refine (hN _).mono ?_)
        rintro e w2 ⟨hb2,hcase⟩
        have hR2:=(hb2.block _ lR).trans HI.out.res
        have hO2:=own_below HI.out.own hb2
        have hB2:Below w.heap.size w w2:=HI.out.below.trans (hb2.mono (Nat.le_of_lt lR))
        have d0:w2.cell? ⟨w.heap.size,0,none⟩=some (.int .i64 0):=by simp [World.cell?,hR2]
        have d1:w2.cell? ⟨w.heap.size,1,none⟩=some (.int .i64 0):=by simp [World.cell?,hR2]
        have g20:w2.frozen? ⟨w.heap.size,0,none⟩=false:=by simp [World.frozen?,hR2]
        have g21:w2.frozen? ⟨w.heap.size,1,none⟩=false:=by simp [World.frozen?,hR2]
        have lR2:=lt_of_block hR2
        have HR2:=Lib.hid hR2
        have HO2:=Lib.hid hO2
        have HB2:=Lib.hid hB2
        clear hR2 hO2 hB2 hb2
        rcases hcase with ⟨kd,m,v,hc,rfl⟩ | ⟨c,a,v,m,ec,t,hc,rfl,hec0,hec⟩
        ·obtain ⟨hm1,hm2⟩:=fstT_tok hc
         have hkm:k+m≤s.size:=by rw [List.length_drop] at hm2;have:=hsz.out;omega
         have Hc:=Lib.hid hc
         obtain ⟨x,hx⟩:=exE (bstr ((s.data.toList.drop k).take m))
         rw [← hx]
         have Hx:=Lib.hid hx
         clear hc hx hm2
         have HO5:=Lib.hid ((HO2.out.alloc (.cells #[.int .i64 kd,.string x,.int .i64 v,.int .i64 k] 82)).alloc (.cells #[.int .i64 kd,.string x,.int .i64 v,.int .i64 k] 82))
         obtain ⟨i0,hi,hz0,hz1,hz2⟩:=info_parts info36
         go_wp2_with (at_builtin;refine wpList_append_own _ rfl _ _ 47 rfl (w.heap.size+1) 82 i0 (.agg #[.int .i64 0,.string ⟨#[]⟩,.int .i64 0,.int .i64 0]) 4 40 Tryz.underlying47 hi hz0 hz1 hz2 rfl (by decide) _ acc.length (rowOf acc) rfl HO5.out ⟨w2.heap.size+1,0,none⟩ 1 1 [.int .i64 kd,.string x,.int .i64 v,.int .i64 k] rfl rfl ?c1 ?c2 ?c3 ?c4 ?c5 ?_)
         case c1=>exact news_cells _ [.int .i64 kd,.string x,.int .i64 v,.int .i64 k] 82 _ (by simp)
         case c2=>intro u hu;simp at hu;rcases hu with rfl | rfl | rfl | rfl <;> rfl
         case c3=>unfold maxLen;omega
         case c4=>omega
         case c5=>simp;omega
         intro v' w1 hown' hgrow _
         have hres:w1.heap[w.heap.size]? = some (.cells #[.int .i64 0,.int .i64 0] 26 (0,0)):=by
          rw [hgrow.block _ (by simp;omega) (fun e=>by have:=(HO5.out.lt _ e.symm).1;omega),Below.heap_alloc _ _ _ (by simp;omega),Below.heap_alloc _ _ _ lR2]
          exact HR2.out
         have hbel:Below w.heap.size w w1 :=
          Below.grown ((HB2.out.alloc (Nat.le_of_lt lR2) _).alloc (by simp;omega) _) hgrow (by simp;omega) (fun g h=>by have:=(HO5.out.lt g h).1;omega)
         have hInv:RInv s w w.heap.size v' w1 (k+m) (acc ++ [⟨kd,(s.data.toList.drop k).take m,v,k⟩]) :=
          {kle:=hkm
           res:=hres
           own:=by
            rw [rowOf_snoc,List.length_append]
            show w1.ownsRow _ 82 4 v' (acc.length+1) (rowOf acc ++ [.int .i64 kd,.string (bstr ((s.data.toList.drop k).take m)),.int .i64 v,.int .i64 k])
            rw [← Hx.out]
            exact hown'
           below:=hbel
           few:=by rw [List.length_append];have:=H8.out;simp;omega
           rest:=fun r h=>HI.out.rest r (.tok Hword.out Hne.out H8.out Hc.out (by rw [List.drop_drop];exact h)) }
         have HInv:=Lib.hid hInv
         clear hres hbel hInv hown' hgrow
         go_wp2
         go_roundw
         case rel=>exact ⟨k+m,_,by go_num,HInv.out⟩
         case measure=>simp [intOf];omega
        ·have Hc:=Lib.hid hc
         have hc0:=fstT_bad hc
         clear hc
         rcases hec with ⟨rfl,rfl⟩ | ⟨hne2,rfl⟩
         ·go_wp2_with (go_at_call 47;refine (fault_any _ _ _).mono ?_;rintro e w' ⟨rfl,rfl⟩)
          refine bodyPost_ret (v:=.tuple #[.slice none 0 0,.agg #[.int .i64 1,.int .i64 k]]) (by simp [results,Tryz.results33,go_sem,d0,d1,lR2]) rfl ?_
          refine ⟨?_,_,_,_,rfl,Or.inr ⟨by have:=hsz.out;omega,.bad 1 k,HI.out.rest _ (.bad Hword.out Hne.out H8.out Hc.out),rfl,rfl,rfl⟩⟩
          exact (below_res HB2.out (Nat.le_of_lt lR2) _ _ _).alloc (by simp [World.setCell];omega) _
         ·have q2:((c:Int) == 2)=false:=beq_of_ne hne2
          have q0:((c:Int) != 0)=true:=by simpa using hc0
          go_wp2_with (go_at_call 47;refine (fault_any _ _ _).mono ?_;rintro e w' ⟨rfl,rfl⟩)
          refine bodyPost_ret (v:=.tuple #[.slice none 0 0,.agg #[.int .i64 c,.int .i64 k]]) (by simp [results,Tryz.results33,go_sem,d0,d1,lR2]) rfl ?_
          refine ⟨?_,_,_,_,rfl,Or.inr ⟨by have:=hsz.out;omega,.bad c k,HI.out.rest _ (.bad Hword.out Hne.out H8.out Hc.out),rfl,rfl,rfl⟩⟩
          exact (below_res HB2.out (Nat.le_of_lt lR2) _ _ _).alloc (by simp [World.setCell];omega) _
  ·have HS:Hid (Scans 0 s.data.toList [] (.ok acc)):=HI.out.rest _ (by rw [List.drop_eq_nil_of_le (by have:=hsz.out;omega)];exact .done _ _)
   go_wp2
   refine bodyPost_ret (v:=.tuple #[.slice p acc.length cap,.agg #[.int .i64 0,.int .i64 0]]) (by simp [results,Tryz.results33,go_sem,c0,c1]) rfl ?_
   refine ⟨?_,_,_,_,rfl,Or.inr ⟨by have:=hsz.out;omega,.ok acc,HS.out,rfl,rfl,?_⟩⟩
   ·exact (HI.out.below.setCell (p:=⟨w.heap.size,0,none⟩) (Nat.le_refl _) _).setCell (p:=⟨w.heap.size,1,none⟩) (Nat.le_refl _) _
   ·exact ownsRow_base (ownsRow_setCell_below (ownsRow_setCell_below HI.out.own (a:=⟨w.heap.size,0,none⟩) (Nat.lt_succ_self _) _) (a:=⟨w.heap.size,1,none⟩) (Nat.lt_succ_self _) _) (Nat.le_succ _)
theorem rscan_any (s:ByteArray) (w:World) (hs:s.size≤140737488355328) :
  Calls Tryz.prog 33 #[.string s] w (ScPost s.data.toList w):=by
 by_cases h:s.size≤2000
 ·exact rscan_in s w h
 ·have hg:2000<s.size:=by omega
  have hsz:=Lib.hid (Lib.size_eq s)
  go_enter Tryz.func33,Tryz.ntmps33
  go_wp2_with (go_at_call 47;refine (fault_any _ _ _).mono ?_;rintro e w' ⟨rfl,rfl⟩)
  refine bodyPost_ret (v:=.tuple #[.slice none 0 0,.agg #[.int .i64 2,.int .i64 0]]) (by simp [results,Tryz.results33,go_sem]) rfl ?_
  exact ⟨((Below.refl _ _).alloc (Nat.le_refl _) _).alloc (by simp) _,_,_,_,rfl,Or.inl ⟨by have:=hsz.out;omega,rfl,rfl,rfl⟩⟩
end Tk
end
end Go.Proofs.YtbjacclfhgnffaaGreatDoor
