/-
  Joined texts of this claim: Yg, Yza, Yh, Yj, Yk, Ymx, Ym.
-/
import Derived.Test.YtdjpopebeenlmaaGreatDoorW00
import Derived.Test.YtdjpopebeenlmaaGreatDoorW29
import Derived.Test.YtdjpopebeenlmaaGreatDoorW27
import Derived.Deep.RegionHeld3
import Derived.Deep.LoopGhost
set_option maxHeartbeats 40000000
set_option maxRecDepth 100000
set_option linter.unusedVariables false
set_option linter.unusedSimpArgs false
namespace Go.Proofs.YtdjpopebeenlmaaGreatDoor
section
namespace Ty
open Go.RowKit Go.Shelf
open Tr Sc
attribute [local go_sem] Oper.semAt_some

structure Ck (w:World) (l:List Nd) (p:Option Addr) (cap C N P T:Nat) (ns fs:List Int):Prop where
  tr:Tr w p l
  caps:∀ k,(h:k<l.length)→l[k].c.length≤l[k].cap
  chk:Blk w C 77 #[.slice p l.length cap,.slice (some ⟨N,0,none⟩) l.length l.length,.slice (some ⟨P,0,none⟩) l.length l.length,.slice (some ⟨T,0,none⟩) l.length l.length]
  nms:Blk w N 3 (intA ns)
  par:Blk w P 3 (intA (parF l))
  typ:Blk w T 3 (intA fs)
  nlen:ns.length=l.length
  plen:(parF l).length=l.length
  tlen:fs.length=l.length
theorem Ck.below {w w':World}{l:List Nd}{p:Option Addr}{cap C N P T:Nat}{ns fs:List Int}(h:Ck w l p cap C N P T ns fs) (hb:Below w.heap.size w w'):Ck w' l p cap C N P T ns fs :=
  { h with tr:=h.tr.below hb,chk:=h.chk.below hb h.chk.lt,nms:=h.nms.below hb h.nms.lt,par:=h.par.below hb h.par.lt,typ:=h.typ.below hb h.typ.lt }
theorem intA_get {fs:List Int}{k:Nat}(h:k<fs.length):(intA fs)[k]? = some (.int .i64 (iAt fs k)):=by
  unfold intA iAt;simp [h]
def nodeV (x:Nd):Array Value:=#[.int .i64 x.k,.string x.t,.int .i64 x.n,.int .i64 x.z,.slice x.p x.c.length x.cap,.int .i64 x.a]

set_option maxHeartbeats 1000000 in
theorem kidTypes_any (C:Nat) (x:Nd) (w:World) :
    Calls Tryz.prog 146 #[.pointer (some ⟨C,0,none⟩),.agg (nodeV x)] w fun e w'=>e=.returned (.func (.func 197) #[] #[.pointer (some ⟨w.heap.size+1,0,none⟩),.pointer (some ⟨w.heap.size,0,none⟩)]) ∧
      w' = (w.alloc (.cells #[.pointer (some ⟨C,0,none⟩)] 114)).alloc (.cells (nodeV x) 34):=by
  unfold nodeV
  go_enter Tryz.func146,Tryz.ntmps146
  go_wp2
  go_ret
  exact ⟨rfl,rfl⟩
set_option maxHeartbeats 1000000 in
theorem params_any (C:Nat) (x:Nd) (w:World) :
    Calls Tryz.prog 87 #[.pointer (some ⟨C,0,none⟩),.agg (nodeV x)] w fun e w'=>e=.returned (.func (.func 154) #[] #[.pointer (some ⟨w.heap.size+1,0,none⟩),.pointer (some ⟨w.heap.size,0,none⟩)]) ∧
      w' = (w.alloc (.cells #[.pointer (some ⟨C,0,none⟩)] 114)).alloc (.cells (nodeV x) 34):=by
  unfold nodeV
  go_enter Tryz.func87,Tryz.ntmps87
  go_wp2
  go_ret
  exact ⟨rfl,rfl⟩
set_option maxHeartbeats 1000000 in
theorem around_any (C:Nat) (k:Int) (w:World) :
    Calls Tryz.prog 194 #[.pointer (some ⟨C,0,none⟩),.int .i64 k] w fun e w'=>e=.returned (.func (.func 231) #[] #[.pointer (some ⟨w.heap.size,0,none⟩),.pointer (some ⟨w.heap.size+1,0,none⟩)]) ∧
      w' = (w.alloc (.cells #[.pointer (some ⟨C,0,none⟩)] 114)).alloc (.cells #[.int .i64 k] 3):=by
  go_enter Tryz.func194,Tryz.ntmps194
  go_wp2
  go_ret
  exact ⟨rfl,rfl⟩
theorem enters_kt (args:Array Value) (w:World):(callFunc 197 args).run Tryz.prog w=.ok (.enter 197 args) w:=by kernel_rfl
theorem enters_pa (args:Array Value) (w:World):(callFunc 154 args).run Tryz.prog w=.ok (.enter 154 args) w:=by kernel_rfl
theorem enters_ar (args:Array Value) (w:World):(callFunc 231 args).run Tryz.prog w=.ok (.enter 231 args) w:=by kernel_rfl

section
variable {w:World}{l:List Nd}{p:Option Addr}{cap C N P T:Nat}{ns fs:List Int}
theorem take_snoc {xs:List Int}{j:Nat}(h:j<xs.length):xs.take (j+1)=xs.take j ++ [xs[j]]:=by rw [List.take_succ_eq_append_getElem h]
set_option maxRecDepth 100000 in
set_option maxHeartbeats 4000000 in
theorem kt_stops (h:Ck w l p cap C N P T ns fs) (hC:∀ j,j<l.length→codeAt l j=0) (hl:l.length≤600) {k Bn Bc:Nat}(hk:k<l.length) (hn:Blk w Bn 34 (nodeV l[k])) (hc:Blk w Bc 114 #[.pointer (some ⟨C,0,none⟩)]) :
    SeqI w (.func (.func 197) #[] #[.pointer (some ⟨Bn,0,none⟩),.pointer (some ⟨Bc,0,none⟩)]) (ktF l fs k):=by
  refine ⟨_,_,rfl,enters_kt,fun n hn6 l0 J Jx W hW hJ hJx hY h0=>?_⟩
  have hkl:(kidsAt l k)=l[k].c:=kidsAt_get hk
  have hcn:(ktF l fs k).length=l[k].c.length:=by unfold ktF;rw [List.length_map,hkl]
  have hkl6:l[k].c.length≤600:=by have:=(code_kids hk (hC k hk)).1;omega
  have b4:W.cell? ⟨Bn,4,none⟩=some (.slice l[k].p l[k].c.length l[k].cap):=by rw [(hn.below hW hn.lt).cell];rfl
  have bc0:∀ wr,Below w.heap.size w wr→wr.cell? ⟨Bc,0,none⟩=some (.pointer (some ⟨C,0,none⟩)):=fun wr hb=>by rw [(hc.below hb hc.lt).cell];rfl
  have bC3:∀ wr,Below w.heap.size w wr→wr.cell? ⟨C,3,none⟩=some (.slice (some ⟨T,0,none⟩) l.length l.length):=fun wr hb=>by rw [(h.chk.below hb h.chk.lt).cell];rfl
  have bT:∀ wr,Below w.heap.size w wr→∀ x,x<l.length→wr.cell? ⟨T,x,none⟩=some (.int .i64 (iAt fs (x:Int))):=fun wr hb x hx=>by rw [(h.typ.below hb h.typ.lt).cell,intA_get (by rw [h.tlen];exact hx)]
  have hKA:=h.tr.2 k hk
  have hkid:=kid_lt hC hk
  rw [hkl] at hkid
  obtain ⟨kp,hkp⟩ : ∃ kp,kp=l[k].p:=⟨_,rfl⟩
  obtain ⟨kc,hkc⟩ : ∃ kc,kc=l[k].cap:=⟨_,rfl⟩
  obtain ⟨cs,hcs⟩ : ∃ cs,cs=l[k].c:=⟨_,rfl⟩
  rw [← hkp,← hkc,← hcs] at b4
  rw [← hkp,← hcs] at hKA
  rw [← hcs] at hkid hcn hkl6
  obtain ⟨xs,hxs⟩ : ∃ xs,xs=ktF l fs k:=⟨_,rfl⟩
  have hxj:∀ j,(hj:j<cs.length)→(hj2:j<xs.length)→xs[j]=iAt fs cs[j]:=fun j hj hj2=>by
    subst hxs hcs
    unfold ktF
    simp [hkl]
  rw [← hxs] at hY hcn ⊢
  obtain ⟨nn,hnn⟩ : ∃ nn,nn=l.length:=⟨_,rfl⟩
  rw [← hnn] at bC3 bT hk hl
  obtain ⟨cn,hcn2⟩ : ∃ cn,cn=cs.length:=⟨_,rfl⟩
  rw [← hcn2] at b4 hcn hkl6
  have HCN:=Lib.hid hcn2
  have HXJ:=Lib.hid hxj
  have HXL:=Lib.hid hcn
  have HKA:=Lib.hid hKA
  have HKID:=Lib.hid hkid
  have HY:=Lib.hid hY
  have B0:=Lib.hid bc0
  have B3:=Lib.hid bC3
  have BT:=Lib.hid bT
  have HNN:=Lib.hid hnn
  clear hn hkp hkc hxs hkl hcs hcn2 hxj hcn hKA hkid hY bc0 bC3 bT hnn h hC hc hJ hJx
  refine callsIn_of_wp Tryz.func197 rfl trivial ?_ rfl
  simp only [Tryz.ntmps197,List.size_toArray,List.length_cons,List.length_nil,Nat.reduceAdd,Nat.reduceSub,Array.replicate_succ,Array.replicate_zero,List.push_toArray,List.append_toArray,List.nil_append,List.cons_append]
  gi_wp2
  gi_loopw [9] (fun v wr=>∃ j:Nat,j≤cn∧v=.int .i64 j∧Below w.heap.size w wr∧J (xs.take j) wr) (fun v _=>cn-(intOf v).toNat)
  case atStart=>exact ⟨0,Nat.zero_le _,rfl,hW,h0⟩
  case round =>
    obtain ⟨j,hj,rfl,hb,hJs⟩:=hrel
    by_cases hlt:j<cn
    · have hjx:j<xs.length:=by have:=HXL.out;omega
      have hjc:j<cs.length:=by have:=HCN.out;omega
      obtain ⟨kb,ko,rfl,hkb,hkcell⟩:=HKA.out (by omega)
      obtain ⟨x,hx1,hx2⟩:=HKID.out _ (List.getElem_mem hjc)
      have d0:wr.cell? ⟨kb,ko+j,none⟩=some (.int .i64 x):=by rw [← hx1];exact (hb.cell (p:=⟨kb,ko+j,none⟩) hkb).trans (hkcell j hjc)
      have d1:=B0.out wr hb
      have d2:=B3.out wr hb
      have hxn:x<nn:=by omega
      have d3:=BT.out wr hb x hxn
      have e3:xs[j]=iAt fs (x:Int):=by rw [HXJ.out j hjc hjx,hx1]
      rw [← e3] at d3
      have HT:=Lib.hid (take_snoc hjx)
      have HPX:=Lib.hid (List.take_prefix (j+1) xs)
      obtain ⟨y,hy0⟩ : ∃ y,y=xs[j]:=⟨_,rfl⟩
      rw [← hy0] at d3 HT
      obtain ⟨fn,tmps,assign,body,hy,hR⟩:=HY.out (xs.take j) y wr hJs (by rw [List.length_take];omega)
      clear hy0 e3 hx1 hkcell hkb
      gi_wp2
      refine ⟨fun _=>by omega,hR.mono ?_⟩
      rintro e W3 (⟨rfl,hJ3,hk3⟩ | ⟨rfl,hJx3⟩)
      · have hJ4:J (xs.take (j+1)) W3:=by rw [HT.out];exact hJ3
        gi_wp2
        go_roundw
        case rel=>exact ⟨j+1,by omega,by go_num,hb.trans hk3,hJ4⟩
        case measure=>simp [intOf];omega
      · gi_wp2
        refine bodyPost_ret (results_none rfl _ _ _) rfl ?_
        exact ⟨⟨_,rfl⟩,.inr ⟨xs.take j ++ [y],by rw [← HT.out];exact HPX.out,hJx3⟩⟩
    · have:xs.take j=xs:=List.take_of_length_le (by have:=HXL.out;omega)
      rw [this] at hJs
      gi_wp2
      (try go_end0)
      exact ⟨⟨_,rfl⟩,.inl ⟨xs,rfl,hJs⟩⟩
end
end Ty
end
section
namespace Ty
open Go.RowKit
open Tr Sc
section
variable {w:World}{l:List Nd}{p:Option Addr}{cap:Nat}
theorem parW_take {k:Nat}{c:List Int}{ps:List Int}{j:Nat}(hj:j<c.length):parW k (c.take (j+1)) ps=(parW k (c.take j) ps).set (c[j]).toNat (k:Int):=by
  unfold parW;rw [take_snoc hj,List.foldl_append];rfl
def PaPost (w:World) (l:List Nd) (e:Ending) (w':World):Prop:=∃ P,w.heap.size≤P∧e=.returned (.slice (some ⟨P,0,none⟩) l.length l.length)∧Below w.heap.size w w'∧Blk w' P 3 (intA (parF l))
set_option maxHeartbeats 8000000 in
set_option maxRecDepth 100000 in
theorem parents_any (hT:Tr w p l) (h0:1≤l.length) (hl:l.length≤600) (hC:∀ j,j<l.length→codeAt l j=0) :
    Calls Tryz.prog 45 #[.slice p l.length cap] w (PaPost w l):=by
  obtain ⟨b,o,rfl,hbw,hN⟩:=hT.1 (by omega)
  have HN:Hid (∀ V,Below w.heap.size w V→∀ k,(hk:k<l.length)→NodeAt V b (o+k * 6) l[k]):=Lib.hid (fun V hV k hk=>(hN k hk).below hV hbw)
  have HK:Hid (∀ k,(hk:k<l.length)→KidsAt w l[k].p l[k].c):=Lib.hid (fun k hk=>hT.2 k hk)
  obtain ⟨Q,hQ⟩ : ∃ Q:Ending→World→Prop,Q=PaPost w l:=⟨_,rfl⟩
  rw [← hQ]
  have HQ:=Lib.hid hQ
  obtain ⟨n,hn⟩ : ∃ n,n=l.length:=⟨_,rfl⟩
  have HNN:=Lib.hid hn
  rw [← hn] at h0 hl ⊢
  clear hN hT hQ hn
  have hmk:=make_ints n w (by omega)
  have hz0:intA (List.replicate n 0)=numC n []:=by unfold intA numC;simp
  have hX:Hid (Blk (w.alloc (.cells (numC n []) 3)) w.heap.size 3 (intA (List.replicate n 0))):=Lib.hid (by rw [hz0];exact Blk.new _ _ _)
  obtain ⟨ps0,hps0⟩ : ∃ ps0,ps0=(List.replicate n (0:Int)).set (n-1) (-1):=⟨_,rfl⟩
  have hX2:Hid (Blk (w.alloc (.cells ((numC n []).setIfInBounds (n-1) (.int .i64 (-1))) 3)) w.heap.size 3 (intA ps0)):=Lib.hid (by rw [← hz0,intA_set,← hps0];exact Blk.new _ _ _)
  have hB2:Hid (Below w.heap.size w (w.alloc (.cells ((numC n []).setIfInBounds (n-1) (.int .i64 (-1))) 3))):=Lib.hid ((Below.refl _ _).alloc (Nat.le_refl _) _)
  have HP:Hid (parF l=parN l n ps0):=Lib.hid (by rw [hps0,HNN.out];rfl)
  have HL0:Hid (ps0.length=n):=Lib.hid (by rw [hps0];simp)
  have e1:((n:Int)-1)=((n-1:Nat):Int):=by omega
  have e3:n-1<n:=by omega
  have cz:(w.alloc (.cells (numC n []) 3)).cell? ⟨w.heap.size,n-1,none⟩=some (.int .i64 0):=by rw [hX.out.cell,intA_get (by simp;omega)];simp [iAt,e3]
  have fz:=hX.out.frozen (n-1)
  clear hz0 hps0
  go_enter Tryz.func45,Tryz.ntmps45
  go_wp2
  have HKID:Hid (∀ k,k<l.length→∀ x ∈ kidsAt l k,∃ y:Nat,x=(y:Int)∧y<k):=Lib.hid (fun k hk=>kid_lt hC hk)
  have HKL:Hid (∀ k,(hk:k<l.length)→kidsAt l k=l[k].c∧l[k].c.length≤600):=Lib.hid (fun k hk=>⟨kidsAt_get hk,by have:=(code_kids hk (hC k hk)).1;have:=HNN.out;omega⟩)
  clear hC hmk cz fz
  go_loopw [18] (fun v wr=>∃ k:Nat,k≤n∧v=.int .i64 k∧Hid (Below w.heap.size w wr∧Blk wr w.heap.size 3 (intA (parN l k ps0)))) (fun v _=>n-(intOf v).toNat)
  case atStart=>exact ⟨0,Nat.zero_le _,rfl,Lib.hid ⟨hB2.out,hX2.out⟩⟩
  case round =>
    obtain ⟨k,hk,rfl,HW⟩:=hrel
    by_cases hlt:k<n
    · have hkl:k<l.length:=by have:=HNN.out;omega
      obtain ⟨c0,c1,c2,c3,c4,c5⟩:=HN.out wr HW.out.1 k hkl
      obtain ⟨hkc,hc6⟩:=HKL.out k hkl
      have hka:=HK.out k hkl
      have hkid:=HKID.out k hkl
      rw [hkc] at hkid
      have HPW:Hid (∀ ps,parW k l[k].c ps=parW k (kidsAt l k) ps):=Lib.hid (fun ps=>by rw [hkc])
      obtain ⟨kd,hkd⟩ : ∃ kd,kd=l[k].k:=⟨_,rfl⟩
      obtain ⟨t,ht⟩ : ∃ t,t=l[k].t:=⟨_,rfl⟩
      obtain ⟨nm,hnm⟩ : ∃ nm,nm=l[k].n:=⟨_,rfl⟩
      obtain ⟨z,hz⟩ : ∃ z,z=l[k].z:=⟨_,rfl⟩
      obtain ⟨kp,hkp⟩ : ∃ kp,kp=l[k].p:=⟨_,rfl⟩
      obtain ⟨kc,hkc2⟩ : ∃ kc,kc=l[k].cap:=⟨_,rfl⟩
      obtain ⟨cs,hcs⟩ : ∃ cs,cs=l[k].c:=⟨_,rfl⟩
      obtain ⟨ka,hka2⟩ : ∃ ka,ka=l[k].a:=⟨_,rfl⟩
      rw [← hkd] at c0;rw [← ht] at c1;rw [← hnm] at c2;rw [← hz] at c3;rw [← hkp,← hcs,← hkc2] at c4;rw [← hka2] at c5
      rw [← hkp,← hcs] at hka
      rw [← hcs] at hkid hc6 HPW
      obtain ⟨cn,hcn⟩ : ∃ cn,cn=cs.length:=⟨_,rfl⟩
      rw [← hcn] at c4 hc6
      have HCN:=Lib.hid hcn
      have HKA:=Lib.hid hka
      have HKI:=Lib.hid hkid
      have hbB:Hid (Below w.heap.size w (wr.alloc (.cells #[.int .i64 kd,.string t,.int .i64 nm,.int .i64 z,.slice kp cn kc,.int .i64 ka] 34))):=Lib.hid (HW.out.1.alloc HW.out.1.size _)
      have hbX:Hid (Blk (wr.alloc (.cells #[.int .i64 kd,.string t,.int .i64 nm,.int .i64 z,.slice kp cn kc,.int .i64 ka] 34)) w.heap.size 3 (intA (parW k (cs.take 0) (parN l k ps0)))):=Lib.hid (by rw [List.take_zero];exact HW.out.2.alloc _)
      have HLN:Hid ((parN l k ps0).length=n):=Lib.hid (by rw [parN_len,HL0.out])
      have HNEXT:Hid (∀ wz,Below w.heap.size w wz→Blk wz w.heap.size 3 (intA (parW k (cs.take cn) (parN l k ps0)))→Below w.heap.size w wz∧Blk wz w.heap.size 3 (intA (parN l (k+1) ps0))):=Lib.hid (fun wz h1 h2=>⟨h1,by rw [hcn,List.take_length,HPW.out,← parN_succ] at h2;exact h2⟩)
      clear hkd ht hnm hz hkp hkc2 hcs hka2 hka hkid hcn hkc HPW
      go_wp2
      go_loopw [26] (fun v wz=>∃ j:Nat,j≤cn∧v=.int .i64 j∧Hid (Below w.heap.size w wz∧Blk wz w.heap.size 3 (intA (parW k (cs.take j) (parN l k ps0))))) (fun v _=>cn-(intOf v).toNat)
      case atStart=>exact ⟨0,Nat.zero_le _,rfl,Lib.hid ⟨hbB.out,hbX.out⟩⟩
      case round =>
        obtain ⟨j,hj,rfl,HZ⟩:=hrel
        by_cases hjl:j<cn
        · have hjc:j<cs.length:=by have:=HCN.out;omega
          obtain ⟨kb,ko,rfl,hkb,hkcell⟩:=HKA.out (by omega)
          obtain ⟨x,hx1,hx2⟩:=HKI.out _ (List.getElem_mem hjc)
          have hBZ:=HZ.out.1
          have d0:wr.cell? ⟨kb,ko+j,none⟩=some (.int .i64 x):=by rw [← hx1];exact (hBZ.cell (p:=⟨kb,ko+j,none⟩) hkb).trans (hkcell j hjc)
          have hln:(parW k (cs.take j) (parN l k ps0)).length=n:=by rw [parW_len];exact HLN.out
          have hxn:x<n:=by omega
          have d1:wr.cell? ⟨w.heap.size,x,none⟩=some (.int .i64 (iAt (parW k (cs.take j) (parN l k ps0)) x)):=by rw [HZ.out.2.cell,intA_get (by omega)]
          have d2:=HZ.out.2.frozen x
          have HZ2:Hid (Below w.heap.size w (wr.setCell ⟨w.heap.size,x,none⟩ (.int .i64 k))∧Blk (wr.setCell ⟨w.heap.size,x,none⟩ (.int .i64 k)) w.heap.size 3 (intA (parW k (cs.take (j+1)) (parN l k ps0)))):=Lib.hid (by
            refine ⟨hBZ.setCell (p:=⟨w.heap.size,x,none⟩) (Nat.le_refl _) _,?_⟩
            have:=HZ.out.2.set_ x (.int .i64 k)
            rw [intA_set] at this
            rw [parW_take hjc,hx1,Int.toNat_natCast];exact this)
          obtain ⟨u,hu⟩ : ∃ u,u=iAt (parW k (cs.take j) (parN l k ps0)) x:=⟨_,rfl⟩
          rw [← hu] at d1
          clear hu hln hx1 hkcell hkb hBZ HZ
          go_wp2
          go_roundw
          case rel=>exact ⟨j+1,by omega,by go_num,HZ2⟩
          case measure=>simp [intOf];omega
        · have hjn:j=cn:=by omega
          subst hjn
          have HNX:=Lib.hid (HNEXT.out _ HZ.out.1 HZ.out.2)
          go_wp2
          go_roundw
          case rel=>exact ⟨k+1,by omega,by go_num,HNX⟩
          case measure=>simp [intOf];omega
    · have hkn:k=n:=by omega
      have HF:Hid (Below w.heap.size w wr∧Blk wr w.heap.size 3 (intA (parF l))):=Lib.hid ⟨HW.out.1,by rw [HP.out,← hkn];exact HW.out.2⟩
      go_wp2
      (try go_ret)
      rw [HQ.out]
      exact ⟨_,Nat.le_refl _,by rw [← HNN.out];rfl,HF.out.1,HF.out.2⟩
end
end Ty
end
section
namespace Ty
open Go.RowKit Go.Shelf
open Tr Sc
attribute [local go_sem] Oper.semAt_some
section
variable {w:World}{l:List Nd}{p:Option Addr}{cap C N P T:Nat}{ns fs:List Int}
theorem Ck.node (h:Ck w l p cap C N P T ns fs) {x:Nat}(hx:x<l.length):∃ b o,p=some ⟨b,o,none⟩∧b<w.heap.size∧∀ wr,Below w.heap.size w wr→∀ x,(hx:x<l.length)→NodeAt wr b (o+x * 6) l[x]:=by
  obtain ⟨b,o,hp,hb,hN⟩:=h.tr.1 (by omega)
  exact ⟨b,o,hp,hb,fun wr hw x hx=>(hN x hx).below hw hb⟩
theorem num_get {l:List Nd}{k:Nat}(hk:k<l.length):numOf l k=l[k].n:=by simp [numOf,hk]
set_option maxRecDepth 100000 in
set_option maxHeartbeats 4000000 in
theorem pa_stops (h:Ck w l p cap C N P T ns fs) (hC:∀ j,j<l.length→codeAt l j=0) (hl:l.length≤600) {k Bn Bc:Nat}(hk:k<l.length) (h3:kindAt l k=3) (hn:Blk w Bn 34 (nodeV l[k])) (hc:Blk w Bc 114 #[.pointer (some ⟨C,0,none⟩)]) :
    SeqI w (.func (.func 154) #[] #[.pointer (some ⟨Bn,0,none⟩),.pointer (some ⟨Bc,0,none⟩)]) (parsF l k):=by
  refine ⟨_,_,rfl,enters_pa,fun n hn6 l0 J Jx W hW hJ hJx hY h0=>?_⟩
  have hkl:(kidsAt l k)=l[k].c:=kidsAt_get hk
  have hlow:1≤l[k].c.length:=by
    have:=kids_low hC hk
    rw [h3,hkl] at this
    simp [lowV] at this
    omega
  have hcn:(parsF l k).length=l[k].c.length-1:=by unfold parsF;rw [List.length_map,List.length_dropLast,hkl]
  have hkl6:l[k].c.length≤600:=by have:=(code_kids hk (hC k hk)).1;omega
  have b4:W.cell? ⟨Bn,4,none⟩=some (.slice l[k].p l[k].c.length l[k].cap):=by rw [(hn.below hW hn.lt).cell];rfl
  have bc0:∀ wr,Below w.heap.size w wr→wr.cell? ⟨Bc,0,none⟩=some (.pointer (some ⟨C,0,none⟩)):=fun wr hb=>by rw [(hc.below hb hc.lt).cell];rfl
  obtain ⟨b,o,rfl,hbw,hNode⟩:=h.node hk
  have bC0:∀ wr,Below w.heap.size w wr→wr.cell? ⟨C,0,none⟩=some (.slice (some ⟨b,o,none⟩) l.length cap):=fun wr hb=>by rw [(h.chk.below hb h.chk.lt).cell];rfl
  have bN:∀ wr,Below w.heap.size w wr→∀ x,x<l.length→wr.cell? ⟨b,o+x * 6+2,none⟩=some (.int .i64 (numOf l x)):=fun wr hb x hx=>by rw [num_get hx];exact (hNode wr hb x hx).2.2.1
  have hKA:=h.tr.2 k hk
  have hkid:=kid_lt hC hk
  rw [hkl] at hkid
  have hcapk:l[k].c.length≤l[k].cap:=h.caps k hk
  obtain ⟨kp,hkp⟩ : ∃ kp,kp=l[k].p:=⟨_,rfl⟩
  obtain ⟨kc,hkc⟩ : ∃ kc,kc=l[k].cap:=⟨_,rfl⟩
  obtain ⟨cs,hcs⟩ : ∃ cs,cs=l[k].c:=⟨_,rfl⟩
  rw [← hkp,← hkc,← hcs] at b4
  rw [← hkp,← hcs] at hKA
  rw [← hcs] at hkid hcn hkl6 hlow hcapk
  rw [← hkc] at hcapk
  obtain ⟨xs,hxs⟩ : ∃ xs,xs=parsF l k:=⟨_,rfl⟩
  have hxj:∀ j,(hj:j<cs.length)→(hj2:j<xs.length)→xs[j]=numOf l cs[j].toNat:=fun j hj hj2=>by
    subst hxs hcs
    unfold parsF
    simp [hkl]
  rw [← hxs] at hY hcn ⊢
  obtain ⟨nn,hnn⟩ : ∃ nn,nn=l.length:=⟨_,rfl⟩
  rw [← hnn] at bC0 bN hk hl
  obtain ⟨cn,hcn2⟩ : ∃ cn,cn=cs.length:=⟨_,rfl⟩
  rw [← hcn2] at b4 hcn hkl6 hlow hcapk
  obtain ⟨kp2,hkp2⟩ : ∃ kp2:Addr,kp=some kp2:=by
    obtain ⟨kb,ko,e,_⟩:=hKA (by omega)
    exact ⟨_,e⟩
  obtain ⟨kb,ko,e,hkb,hkcell⟩:=hKA (by omega)
  subst e
  have HCN:=Lib.hid hcn2
  have HXJ:=Lib.hid hxj
  have HXL:=Lib.hid hcn
  have HKC:=Lib.hid hkcell
  have HKID:=Lib.hid hkid
  have HY:=Lib.hid hY
  have B0:=Lib.hid bc0
  have B3:=Lib.hid bC0
  have BN:=Lib.hid bN
  have HNN:=Lib.hid hnn
  clear hn hkp hkc hxs hkl hcs hcn2 hxj hcn hKA hkid hY bc0 bC0 bN hnn h hC hc hJ hJx hkcell hNode hkp2
  refine callsIn_of_wp Tryz.func154 rfl trivial ?_ rfl
  simp only [Tryz.ntmps154,List.size_toArray,List.length_cons,List.length_nil,Nat.reduceAdd,Nat.reduceSub,Array.replicate_succ,Array.replicate_zero,List.push_toArray,List.append_toArray,List.nil_append,List.cons_append]
  obtain ⟨c1,rfl⟩ : ∃ c1,cn=c1+1:=⟨cn-1,by omega⟩
  gi_wp2
  gi_loopw [14] (fun v wr=>∃ j:Nat,j≤c1∧v=.int .i64 j∧Below w.heap.size w wr∧J (xs.take j) wr) (fun v _=>c1-(intOf v).toNat)
  case atStart=>exact ⟨0,Nat.zero_le _,rfl,hW,h0⟩
  case round =>
    obtain ⟨j,hj,rfl,hb,hJs⟩:=hrel
    by_cases hlt:j<c1
    · have hjx:j<xs.length:=by have:=HXL.out;omega
      have hjc:j<cs.length:=by have:=HCN.out;omega
      obtain ⟨x,hx1,hx2⟩:=HKID.out _ (List.getElem_mem hjc)
      have d0:wr.cell? ⟨kb,ko+j,none⟩=some (.int .i64 x):=by rw [← hx1];exact (hb.cell (p:=⟨kb,ko+j,none⟩) hkb).trans (HKC.out j hjc)
      have d1:=B0.out wr hb
      have d2:=B3.out wr hb
      have hxn:x<nn:=by omega
      have d3:=BN.out wr hb x hxn
      have e3:xs[j]=numOf l x:=by rw [HXJ.out j hjc hjx,hx1,Int.toNat_natCast]
      rw [← e3] at d3
      have HT:=Lib.hid (take_snoc hjx)
      have HPX:=Lib.hid (List.take_prefix (j+1) xs)
      obtain ⟨y,hy0⟩ : ∃ y,y=xs[j]:=⟨_,rfl⟩
      rw [← hy0] at d3 HT
      obtain ⟨fn,tmps,assign,body,hy,hR⟩:=HY.out (xs.take j) y wr hJs (by rw [List.length_take];omega)
      clear hy0 e3 hx1
      gi_wp2
      refine ⟨fun _=>by omega,hR.mono ?_⟩
      rintro e W3 (⟨rfl,hJ3,hk3⟩ | ⟨rfl,hJx3⟩)
      · have hJ4:J (xs.take (j+1)) W3:=by rw [HT.out];exact hJ3
        gi_wp2
        go_roundw
        case rel=>exact ⟨j+1,by omega,by go_num,hb.trans hk3,hJ4⟩
        case measure=>simp [intOf];omega
      · gi_wp2
        refine bodyPost_ret (results_none rfl _ _ _) rfl ?_
        exact ⟨⟨_,rfl⟩,.inr ⟨xs.take j ++ [y],by rw [← HT.out];exact HPX.out,hJx3⟩⟩
    · have:xs.take j=xs:=List.take_of_length_le (by have:=HXL.out;omega)
      rw [this] at hJs
      gi_wp2
      (try go_end0)
      exact ⟨⟨_,rfl⟩,.inl ⟨xs,rfl,hJs⟩⟩

/-- steps enough from a node on -/
def Rem (n f:Nat) (v:Int):Prop:=v = -1∨∃ z:Nat,v=(z:Int)∧z<n∧n-z≤f
end
end Ty
end
section
namespace Ty
open Go.RowKit
open Tr Sc

section
variable {w:World}{l:List Nd}{p:Option Addr}{cap C N P T:Nat}{ns fs:List Int}
/-- the cells of what a name stands for -/
theorem Ck.by_ (h:Ck w l p cap C N P T ns fs) {k j:Nat}(hk:k<l.length) (hj:ns.getD k 0=(j:Int)):∀ wr,Below w.heap.size w wr→wr.cell? ⟨C,1,none⟩=some (.slice (some ⟨N,0,none⟩) l.length l.length)∧wr.cell? ⟨N,k,none⟩=some (.int .i64 (j:Int)):=fun wr hb =>
  ⟨by rw [(h.chk.below hb h.chk.lt).cell];rfl,by
    rw [(h.nms.below hb h.nms.lt).cell,intA_get (by rw [h.nlen];exact hk)]
    unfold iAt;rw [Int.toNat_natCast,hj]⟩
theorem byAt_eq {ns:List Int}{k j:Nat}(hj:ns.getD k 0=(j:Int)):byAt ns k=j:=by unfold byAt;rw [hj];rfl
set_option maxHeartbeats 2000000 in
set_option maxRecDepth 100000 in
theorem isArray_any (h:Ck w l p cap C N P T ns fs) (hl:l.length≤600) {k j:Nat}(hk:k<l.length) (hj:ns.getD k 0=(j:Int)) (hjl:j<l.length) :
    Calls Tryz.prog 198 #[.pointer (some ⟨C,0,none⟩),.int .i64 k] w fun e w'=>e=.returned (.bool (arrB l ns k))∧w' = w.drew:=by
  have HB:arrB l ns k=decide (numOf l j=3):=by unfold arrB;rw [byAt_eq hj]
  rw [HB]
  obtain ⟨b,o,rfl,hbw,hN⟩:=h.node hk
  obtain ⟨a1,a2⟩:=h.by_ hk hj w (Below.refl _ _)
  have a0:w.cell? ⟨C,0,none⟩=some (.slice (some ⟨b,o,none⟩) l.length cap):=by rw [h.chk.cell];rfl
  have a3:=(hN w (Below.refl _ _) j hjl).2.2.1
  rw [← num_get hjl] at a3
  obtain ⟨nn,hnn⟩ : ∃ nn,nn=l.length:=⟨_,rfl⟩
  rw [← hnn] at a0 a1 hk hjl hl
  obtain ⟨x,hx⟩ : ∃ x,x=numOf l j:=⟨_,rfl⟩
  rw [← hx] at a3 ⊢
  clear h hN hj HB hnn hx
  go_enter Tryz.func198,Tryz.ntmps198
  go_wp2
  go_region
  all_goals (go_wp2;go_ret;exact ⟨ret_bool (by go_light;(try rfl)),rfl⟩)
set_option maxHeartbeats 2000000 in
set_option maxRecDepth 100000 in
theorem name_any (h:Ck w l p cap C N P T ns fs) (hl:l.length≤600) {k j:Nat}(hk:k<l.length) (hj:ns.getD k 0=(j:Int)) (hjl:j<l.length) :
    Calls Tryz.prog 147 #[.pointer (some ⟨C,0,none⟩),.int .i64 k] w fun e w'=>e=.returned (.int .i64 (nameT l ns k))∧Below w.heap.size w w':=by
  have hA:=isArray_any h hl hk hj hjl
  obtain ⟨b,o,rfl,hbw,hN⟩:=h.node hk
  obtain ⟨a1,a2⟩:=h.by_ hk hj w (Below.refl _ _)
  have a0:w.cell? ⟨C,0,none⟩=some (.slice (some ⟨b,o,none⟩) l.length cap):=by rw [h.chk.cell];rfl
  have a3:=(hN w (Below.refl _ _) j hjl).2.2.1
  rw [← num_get hjl] at a3
  have HT:nameT l ns k=if arrB l ns k=true then 2 else numOf l j:=by unfold nameT;rw [byAt_eq hj]
  rw [HT]
  have HD:Hid (Below w.heap.size w w.drew):=(Below.refl _ _).drew
  have HD2:Hid (Below w.heap.size w w.drew.drew):=(Below.refl _ _).drew.drew
  obtain ⟨nn,hnn⟩ : ∃ nn,nn=l.length:=⟨_,rfl⟩
  rw [← hnn] at a0 a1 hk hjl hl
  obtain ⟨x,hx⟩ : ∃ x,x=numOf l j:=⟨_,rfl⟩
  rw [← hx] at a3 ⊢
  clear h hN hj HT hnn hx
  cases hb:arrB l ns k with
  | true =>
    rw [hb] at hA
    clear hb
    go_enter Tryz.func147,Tryz.ntmps147
    go_wp2_with (go_at_call 198;refine hA.mono ?_;rintro e w' ⟨rfl,rfl⟩)
    go_ret
    exact ⟨rfl,HD.out⟩
  | false =>
    rw [hb] at hA
    clear hb
    go_enter Tryz.func147,Tryz.ntmps147
    go_wp2_with (go_at_call 198;refine hA.mono ?_;rintro e w' ⟨rfl,rfl⟩)
    go_region
    all_goals (go_wp2;go_ret;exact ⟨rfl,HD2.out⟩)
set_option maxHeartbeats 2000000 in
theorem isValue_any (x:Int) (w:World) :
    Calls Tryz.prog 151 #[.int .i64 x] w fun e w'=>e=.returned (.bool (valB x))∧w=w':=by
  go_enter Tryz.func151,Tryz.ntmps151
  go_wp2
  all_goals (go_ret;exact ⟨ret_bool (by go_light;rw [Bool.eq_iff_iff];simp [valB] at *;try omega),rfl⟩)
set_option maxHeartbeats 2000000 in
set_option maxRecDepth 100000 in
theorem isInMemory_any (h:Ck w l p cap C N P T ns fs) (hl:l.length≤600) {k:Nat}(hk:k<l.length) (hkd:kindAt l k=32∨kindAt l k=34∨kindAt l k=35) (hj:kindAt l k=32→∃ j:Nat,ns.getD k 0=(j:Int)∧j<l.length) :
    Calls Tryz.prog 199 #[.pointer (some ⟨C,0,none⟩),.int .i64 k] w fun e w'=>e=.returned (.bool (memB l ns k))∧Below w.heap.size w w':=by
  obtain ⟨b,o,rfl,hbw,hN⟩:=h.node hk
  have a0:w.cell? ⟨C,0,none⟩=some (.slice (some ⟨b,o,none⟩) l.length cap):=by rw [h.chk.cell];rfl
  have a4:=(hN w (Below.refl _ _) k hk).1
  rw [← kindAt_get hk] at a4
  have HD:Hid (Below w.heap.size w w.drew):=(Below.refl _ _).drew
  have hCl:=h.chk.lt
  have hNl:=h.nms.lt
  by_cases h32:kindAt l k=32
  · obtain ⟨j,hj,hjl⟩:=hj h32
    obtain ⟨a1,a2⟩:=h.by_ hk hj w (Below.refl _ _)
    have a3:=(hN w (Below.refl _ _) j hjl).1
    rw [← kindAt_get hjl] at a3
    have HM:memB l ns k=decide (kindAt l j=2):=by unfold memB;rw [byAt_eq hj];simp [h32]
    rw [HM]
    rw [h32] at a4
    obtain ⟨nn,hnn⟩ : ∃ nn,nn=l.length:=⟨_,rfl⟩
    rw [← hnn] at a0 a1 hk hjl hl
    obtain ⟨x,hx⟩ : ∃ x,x=kindAt l j:=⟨_,rfl⟩
    rw [← hx] at a3 ⊢
    have hk':(b,o+k * 6)=(b,o+k * 6):=rfl
    have S0:Hid (∀ V,Below w.heap.size w V→V.cell? ⟨C,0,none⟩=some (.slice (some ⟨b,o,none⟩) nn cap)∧V.cell? ⟨C,1,none⟩=some (.slice (some ⟨N,0,none⟩) nn nn)∧V.cell? ⟨N,k,none⟩=some (.int .i64 (j:Int))∧V.cell? ⟨b,o+k * 6,none⟩=some (.int .i64 32)∧V.cell? ⟨b,o+j * 6,none⟩=some (.int .i64 x)):=fun V hV =>
      ⟨(hV.cell (p:=⟨C,0,none⟩) hCl).trans a0,(hV.cell (p:=⟨C,1,none⟩) hCl).trans a1,(hV.cell (p:=⟨N,k,none⟩) hNl).trans a2,(hV.cell (p:=⟨b,o+k * 6,none⟩) hbw).trans a4,(hV.cell (p:=⟨b,o+j * 6,none⟩) hbw).trans a3⟩
    clear h hN hj HM hnn hx h32 a0 a1 a2 a3 a4 hkd
    go_enter Tryz.func199,Tryz.ntmps199
    go_wp2
    go_region_held3 (fun V=>V.cell? ⟨C,0,none⟩=some (.slice (some ⟨b,o,none⟩) nn cap)∧V.cell? ⟨C,1,none⟩=some (.slice (some ⟨N,0,none⟩) nn nn)∧V.cell? ⟨N,k,none⟩=some (.int .i64 (j:Int))∧V.cell? ⟨b,o+k * 6,none⟩=some (.int .i64 32)∧V.cell? ⟨b,o+j * 6,none⟩=some (.int .i64 x))
      (first | with_reducible exact S0.out _ HD.out | fail)
      (first | fail)
    all_goals (go_wp2;go_ret;exact ⟨ret_bool (by go_light;(try rfl)),HD.out⟩)
  · have HM:memB l ns k=true:=by unfold memB;simp [h32]
    rw [HM]
    obtain ⟨nn,hnn⟩ : ∃ nn,nn=l.length:=⟨_,rfl⟩
    rw [← hnn] at a0 hk hl
    have h2:kindAt l k=34∨kindAt l k=35:=hkd.resolve_left h32
    clear h hN hj HM hnn hkd h32
    rcases h2 with e | e
    all_goals
      rw [e] at a4
      clear e
      go_enter Tryz.func199,Tryz.ntmps199
      go_wp2
      go_region
      all_goals (go_wp2;go_ret;exact ⟨ret_bool (by go_light;(try rfl)),HD.out⟩)
set_option maxHeartbeats 4000000 in
set_option maxRecDepth 100000 in
theorem isPlace_any (h:Ck w l p cap C N P T ns fs) (hl:l.length≤600) {k:Nat}(hk:k<l.length) (hj:kindAt l k=32→∃ j:Nat,ns.getD k 0=(j:Int)∧j<l.length) :
    Calls Tryz.prog 153 #[.pointer (some ⟨C,0,none⟩),.int .i64 k] w fun e w'=>e=.returned (.bool (placeB l ns k))∧Below w.heap.size w w':=by
  have hB1:Below w.heap.size w (w.alloc (.cells (nodeV l[k]) 34)):=(Below.refl _ _).alloc (Nat.le_refl _) _
  have h':=h.below hB1
  obtain ⟨b,o,rfl,hbw,hN⟩:=h.node hk
  have a0:w.cell? ⟨C,0,none⟩=some (.slice (some ⟨b,o,none⟩) l.length cap):=by rw [h.chk.cell];rfl
  obtain ⟨c0,c1,c2,c3,c4,c5⟩:=hN w (Below.refl _ _) k hk
  have htx:tx l k=l[k].t.data.toList:=tx_get hk
  rw [← kindAt_get hk] at c0
  have HX:Hid (Blk (w.alloc (.cells (nodeV l[k]) 34)) w.heap.size 34 (nodeV l[k])):=Blk.new _ _ _
  unfold nodeV at hB1 h' HX
  rw [← kindAt_get hk] at hB1 h' HX
  obtain ⟨t,ht⟩ : ∃ t,t=l[k].t:=⟨_,rfl⟩
  obtain ⟨n,hn⟩ : ∃ n,n=l[k].n:=⟨_,rfl⟩
  obtain ⟨z,hz⟩ : ∃ z,z=l[k].z:=⟨_,rfl⟩
  obtain ⟨kp,hkp⟩ : ∃ kp,kp=l[k].p:=⟨_,rfl⟩
  obtain ⟨kc,hkc⟩ : ∃ kc,kc=l[k].cap:=⟨_,rfl⟩
  obtain ⟨cn,hcn⟩ : ∃ cn,cn=l[k].c.length:=⟨_,rfl⟩
  obtain ⟨ka,hka⟩ : ∃ ka,ka=l[k].a:=⟨_,rfl⟩
  rw [← ht,← hn,← hz,← hkp,← hkc,← hcn,← hka] at hB1 h' HX
  rw [← ht] at c1 htx;rw [← hn] at c2;rw [← hz] at c3;rw [← hkp,← hkc,← hcn] at c4;rw [← hka] at c5
  have HB1:=Lib.hid hB1
  have hl0:Hid (t.toList=t.data.toList):=Lib.hid (Lib.toList_data t)
  by_cases h32:kindAt l k=32
  · obtain ⟨j,hj,hjl⟩:=hj h32
    have hA:=isArray_any h' hl hk hj hjl
    have HM:placeB l ns k = !arrB l ns k:=by unfold placeB;rw [if_pos h32]
    rw [HM]
    rw [h32] at c0 hA HB1
    obtain ⟨r,hr⟩ : ∃ r,r=arrB l ns k:=⟨_,rfl⟩
    rw [← hr] at hA ⊢
    obtain ⟨nn,hnn⟩ : ∃ nn,nn=l.length:=⟨_,rfl⟩
    rw [← hnn] at a0 hk hl
    clear h h' hN hj HM hnn hr h32 ht hn hz hkp hkc hcn hka htx hB1 HX hjl
    go_enter Tryz.func153,Tryz.ntmps153
    go_wp2_with (go_at_call 198;refine hA.mono ?_;rintro e w' ⟨rfl,rfl⟩)
    go_ret
    exact ⟨rfl,HB1.out.drew⟩
  · have HM:placeB l ns k=if kindAt l k=34 then true else if kindAt l k=35 then t.data.toList == [42] else false:=by unfold placeB;rw [if_neg h32,htx]
    rw [HM]
    obtain ⟨nn,hnn⟩ : ∃ nn,nn=l.length:=⟨_,rfl⟩
    rw [← hnn] at a0 hk hl
    obtain ⟨x,hx⟩ : ∃ x,x=kindAt l k:=⟨_,rfl⟩
    rw [← hx] at c0 h32 HB1 ⊢
    clear h h' hN hj HM hnn hx ht hn hz hkp hkc hcn hka htx hB1 HX
    go_enter Tryz.func153,Tryz.ntmps153
    go_wp2
    all_goals go_ret
    all_goals exact ⟨ret_bool (by have:=hl0.out;go_light;simp_all),(Below.refl _ _).alloc (Nat.le_refl _) _⟩
end
end Ty
end
section
namespace Ty
open Go.RowKit
open Tr Sc

theorem ret_ib {a b:Int}{c d:Bool}(h:a=b) (h2:c=d):Ending.returned (.tuple #[.int .i64 a,.bool c])=.returned (.tuple #[.int .i64 b,.bool d]):=by rw [h,h2]
set_option maxHeartbeats 4000000 in
theorem two_any (s:ByteArray) (a b:Int) (w:World) :
    Calls Tryz.prog 150 #[.string s,.int .i64 a,.int .i64 b] w fun e w'=>e=.returned (.tuple #[.int .i64 (twoF s.data.toList a b).1,.bool (twoF s.data.toList a b).2])∧w=w':=by
  have hl:Hid (s.toList=s.data.toList):=Lib.hid (Lib.toList_data s)
  go_enter Tryz.func150,Tryz.ntmps150
  go_wp2
  all_goals (try go_ret2)
  all_goals (refine ⟨ret_ib ?_ ?_,rfl⟩ <;> (have:=hl.out;go_light;(try simp_all [twoF,cmpB]);(try (rw [Bool.eq_iff_iff];simp));(try omega)))
end Ty
end
section
namespace Ty
open Go.RowKit
open Tr Sc

section
variable {w:World}
set_option maxHeartbeats 4000000 in
set_option maxRecDepth 100000 in
theorem index_still {p:Option Addr}{c:Nat}{xs:List Int}{v:Int}(hx:KidsAt w p xs) (hx6:xs.length≤1000000) :
    Calls Tryz.prog 232 #[.slice p xs.length c,.int .i64 v] w fun e w'=>∃ i:Int,e=.returned (.int .i64 i)∧xs.contains v=decide (0≤i)∧w' = w:=by
  obtain ⟨n,hn⟩ : ∃ n,n=xs.length:=⟨_,rfl⟩
  rw [← hn]
  rw [← hn] at hx6
  have HX:=Lib.hid hx
  have HN:=Lib.hid hn
  obtain ⟨r,hr⟩ : ∃ r,r=xs.contains v:=⟨_,rfl⟩
  rw [← hr]
  have HR:=Lib.hid hr
  clear hx hn hr
  go_enter Tryz.func232,Tryz.ntmps232
  go_wp2
  go_loopg [8] n (fun g s8 wr=>∃ k:Nat,k≤n∧n-k≤g∧s8=.int .i64 k∧Hid (wr=w)∧Hid (v ∉ xs.take k))
  case atStart=>exact ⟨0,Nat.zero_le _,by omega,rfl,Lib.hid rfl,Lib.hid (by simp)⟩
  case round =>
    obtain ⟨k,hk,hg,rfl,hb,heq⟩:=hrel
    have HWR:=hb
    obtain rfl:=hb.out
    by_cases hlt:k<n
    · have h1:k<xs.length:=by have:=HN.out;omega
      obtain ⟨b1,o1,rfl,hb1,hc1⟩:=HX.out (by omega)
      have g1:wr.cell? ⟨b1,o1+k,none⟩=some (.int .i64 xs[k]):=hc1 k h1
      obtain ⟨x,hxk⟩ : ∃ x,x=xs[k]:=⟨_,rfl⟩
      rw [← hxk] at g1
      have HXK:=Lib.hid hxk
      clear hxk hc1 hb1
      by_cases hxy:v=x
      · subst hxy
        have HF:Hid (r=decide ((0:Int)≤(k:Int))):=Lib.hid (by
          rw [HR.out]
          have:v ∈ xs:=by rw [HXK.out];exact List.getElem_mem _
          simp [this])
        go_wp2
        go_ret
        exact ⟨_,rfl,HF.out,rfl⟩
      · have HT:Hid (v ∉ xs.take (k+1)):=Lib.hid (by
          rw [take_snoc h1,List.mem_append,← HXK.out]
          rintro (h | h)
          · exact heq.out h
          · exact hxy (by simpa using h))
        go_wp2
        go_roundg (n-(k+1))
        case measure=>omega
        case rel=>exact ⟨k+1,by omega,by omega,by go_num,Lib.hid rfl,HT⟩
    · have HF:Hid (r=decide ((0:Int)≤-1)):=Lib.hid (by
        rw [HR.out]
        have h3:=heq.out
        rw [List.take_of_length_le (by have:=HN.out;omega)] at h3
        simp [h3])
      go_wp2
      (try go_ret)
      exact ⟨_,rfl,HF.out,rfl⟩
set_option maxHeartbeats 4000000 in
theorem contains_still {p:Option Addr}{c:Nat}{xs:List Int}{v:Int}(hx:KidsAt w p xs) (hx6:xs.length≤1000000) :
    Calls Tryz.prog 195 #[.slice p xs.length c,.int .i64 v] w fun e w'=>e=.returned (.bool (xs.contains v))∧w' = w:=by
  have hi:=index_still (c:=c) (v:=v) hx hx6
  obtain ⟨n,hn⟩ : ∃ n,n=xs.length:=⟨_,rfl⟩
  rw [← hn] at hi ⊢
  obtain ⟨r,hr⟩ : ∃ r,r=xs.contains v:=⟨_,rfl⟩
  rw [← hr] at hi ⊢
  clear hx hn hr hx6
  go_enter Tryz.func195,Tryz.ntmps195
  go_wp2_with (go_at_call 232;refine hi.mono ?_;rintro e w' ⟨i,rfl,hr,rfl⟩;have HR:=Lib.hid hr;clear hr)
  go_ret
  exact ⟨ret_bool (by rw [HR.out]),rfl⟩
end
end Ty
end
section
namespace Ty
open Go.RowKit
open Tr Sc

theorem row_kids {w:World}{base:Nat}{s:Value}{xs:List Int}(h:w.ownsRow base 3 1 s xs.length (xs.map (Value.int .i64))):∃ p cap,s=.slice p xs.length cap∧KidsAt w p xs:=by
  rcases h.2 with ⟨rfl,h0⟩ | ⟨g,cap,cur,rfl,h1,hgb,h2⟩
  · have hn:xs.length=0:=h0
    exact ⟨none,0,by rw [hn],fun h=>by omega⟩
  · refine ⟨_,_,rfl,fun _=>⟨g,0,rfl,lt_of_block hgb,fun j hj=>?_⟩⟩
    obtain ⟨_,_,_,h3⟩:=h2
    rw [cell_of_row w g (0+j) cur 3 (0,0) hgb,Nat.zero_add]
    rw [Nat.mul_one] at h3
    have h4:(cur.toList.take xs.length)[j]? = some (.int .i64 xs[j]):=by rw [h3];simp [hj]
    rw [List.getElem?_take_of_lt hj] at h4
    rw [← Array.getElem?_toList];exact h4
section
variable {w:World}
set_option maxHeartbeats 4000000 in
set_option maxRecDepth 100000 in
theorem equal_any {p q:Option Addr}{c d:Nat}{xs ys:List Int}(hx:KidsAt w p xs) (hy:KidsAt w q ys) (hx6:xs.length≤1000000) (hy6:ys.length≤1000000) :
    Calls Tryz.prog 81 #[.slice p xs.length c,.slice q ys.length d] w fun e w'=>e=.returned (.bool (xs == ys))∧Below w.heap.size w w':=by
  obtain ⟨n,hn⟩ : ∃ n,n=xs.length:=⟨_,rfl⟩
  obtain ⟨m,hm⟩ : ∃ m,m=ys.length:=⟨_,rfl⟩
  rw [← hn,← hm]
  rw [← hn] at hx6
  rw [← hm] at hy6
  have HX:=Lib.hid hx
  have HY:=Lib.hid hy
  by_cases hnm:n=m
  · subst hnm
    obtain ⟨r,hr⟩ : ∃ r,r=(xs == ys):=⟨_,rfl⟩
    rw [← hr]
    have HR:=Lib.hid hr
    have HN:=Lib.hid hn
    have HM:=Lib.hid hm
    clear hr hn hm hx hy
    go_enter Tryz.func81,Tryz.ntmps81
    go_wp2
    go_loopg [13] n (fun g s13 wr=>∃ k:Nat,k≤n∧n-k≤g∧s13=.int .i64 k∧Hid (Below w.heap.size w wr)∧Hid (xs.take k=ys.take k))
    case atStart=>exact ⟨0,Nat.zero_le _,by omega,rfl,Lib.hid (Below.refl _ _),Lib.hid rfl⟩
    case round =>
      obtain ⟨k,hk,hg,rfl,hb,heq⟩:=hrel
      by_cases hlt:k<n
      · have h1:k<xs.length:=by have:=HN.out;omega
        have h2:k<ys.length:=by have:=HM.out;omega
        obtain ⟨b1,o1,rfl,hb1,hc1⟩:=HX.out (by omega)
        obtain ⟨b2,o2,rfl,hb2,hc2⟩:=HY.out (by omega)
        have g1:wr.cell? ⟨b1,o1+k,none⟩=some (.int .i64 xs[k]):=(hb.out.cell (p:=⟨b1,o1+k,none⟩) hb1).trans (hc1 k h1)
        have g2:wr.cell? ⟨b2,o2+k,none⟩=some (.int .i64 ys[k]):=(hb.out.cell (p:=⟨b2,o2+k,none⟩) hb2).trans (hc2 k h2)
        obtain ⟨x,hxk⟩ : ∃ x,x=xs[k]:=⟨_,rfl⟩
        obtain ⟨y,hyk⟩ : ∃ y,y=ys[k]:=⟨_,rfl⟩
        rw [← hxk] at g1
        rw [← hyk] at g2
        have HXK:=Lib.hid hxk
        have HYK:=Lib.hid hyk
        have HB2:Hid (Below w.heap.size w wr.drew):=Lib.hid hb.out.drew
        clear hxk hyk hc1 hc2 hb1 hb2
        by_cases hxy:x=y
        · subst hxy
          have HT:Hid (xs.take (k+1)=ys.take (k+1)):=Lib.hid (by rw [take_snoc h1,take_snoc h2,heq.out,← HXK.out,← HYK.out])
          go_wp2_with fail
          go_region
          go_wp2
          go_roundg (n-(k+1))
          case measure=>omega
          case rel=>exact ⟨k+1,by omega,by omega,by go_num,HB2,HT⟩
        · have HF:Hid (r=false):=Lib.hid (by
            rw [HR.out]
            refine Bool.eq_false_iff.2 fun h=>hxy ?_
            have h3:xs=ys:=by simpa using h
            rw [HXK.out,HYK.out];simp [h3])
          go_wp2_with fail
          go_region
          go_wp2
          go_ret
          exact ⟨ret_bool HF.out.symm,HB2.out⟩
      · have HF:Hid (r=true):=Lib.hid (by
          rw [HR.out]
          have h3:=heq.out
          rw [List.take_of_length_le (by have:=HN.out;omega),List.take_of_length_le (by have:=HM.out;omega)] at h3
          simp [h3])
        go_wp2
        (try go_ret)
        exact ⟨ret_bool HF.out.symm,hb.out⟩
  · have HF:Hid ((xs == ys)=false):=Lib.hid (Bool.eq_false_iff.2 fun h=>hnm (by rw [hn,hm,show xs=ys by simpa using h]))
    rw [HF.out]
    clear hn hm HF hx hy
    go_enter Tryz.func81,Tryz.ntmps81
    go_wp2
    go_ret
    exact ⟨rfl,Below.refl _ _⟩
end
end Ty
end
end Go.Proofs.YtdjpopebeenlmaaGreatDoor
