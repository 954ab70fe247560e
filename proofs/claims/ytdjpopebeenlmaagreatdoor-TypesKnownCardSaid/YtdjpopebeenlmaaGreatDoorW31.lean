/-
  Joined texts of this claim: Yl, Yn, Yo, Yr, Ys, Ysa, Yt.
-/
import Derived.Test.YtdjpopebeenlmaaGreatDoorW00
import Derived.Shelf.Strings.Prefix
import Derived.Test.YtdjpopebeenlmaaGreatDoorW05
import Derived.Test.YtdjpopebeenlmaaGreatDoorW30
import Derived.RangeFuncFrom
import Derived.StillTactics
import Derived.RangeFuncCalls
import Derived.OrdersIn
set_option maxHeartbeats 40000000
set_option maxRecDepth 100000
set_option linter.unusedVariables false
set_option linter.unusedSimpArgs false
namespace Go.Proofs.YtdjpopebeenlmaaGreatDoor
end Go.Proofs.YtdjpopebeenlmaaGreatDoor
namespace Go.Proofs
open Go.RowKit
def Tryz.lays102_ren:Go.Shelf.Ren:=⟨fun | 102=>200 | 207=>250 | 209=>233 | n=>n,fun | 3=>3 | 4=>4 | 9=>9 | n=>n,fun n=>n⟩
theorem Tryz.lays102:Go.Proofs.Lays.n102 Tryz.prog Tryz.lays102_ren:={
  mixed:=by kernel_rfl
  f102:=Tryz.func200.trans (congrArg some (by kernel_rfl))
  f207:=Tryz.func250.trans (congrArg some (by kernel_rfl))
  f209:=Tryz.func233.trans (congrArg some (by kernel_rfl))
  t3:=Tryz.underlying3
  a3:=Tryz.isAgg3
  z3:=Tryz.sizeOf3
  v3:=Tryz.zeroValue3
  t4:=Tryz.underlying4
  a4:=Tryz.isAgg4
  z4:=Tryz.sizeOf4
  v4:=Tryz.zeroValue4
  t9:=Tryz.underlying9
  a9:=Tryz.isAgg9
  z9:=Tryz.sizeOf9
  v9:=Tryz.zeroValue9 }
end Go.Proofs
namespace Go.Proofs.YtdjpopebeenlmaaGreatDoor.Ty
open Go.RowKit
open Tr Sc
theorem trim_eq (s:List UInt8):Lib.trimSuffix s [61]=trimS s:=by
  unfold Lib.trimSuffix Lib.hasSuffix trimS
  rcases List.eq_nil_or_concat s with rfl | ⟨a,x,rfl⟩
  · decide
  · simp only [List.concat_eq_append,List.getLast?_append,List.getLast?_singleton,Option.some_or,List.dropLast_concat,Option.some.injEq]
    have h:([61]:List UInt8).isSuffixOf (a ++ [x])=true ↔ x=61:=by
      rw [List.isSuffixOf_iff_suffix]
      constructor
      · rintro ⟨b,hb⟩
        have:=congrArg List.getLast? hb
        simpa using this.symm
      · rintro rfl;exact ⟨a,rfl⟩
    by_cases e:x=61
    · rw [if_pos (h.2 e),if_pos e];simp
    · rw [if_neg (fun h2=>e (h.1 h2)),if_neg e]
theorem trim_any (s:ByteArray) (w:World) (hs:s.size≤1000) :
    Calls Tryz.prog 200 #[.string s,.string ⟨#[61]⟩] w fun e w'=>e=.returned (.string ⟨(trimS s.data.toList).toArray⟩)∧w' = w:=by
  have h:=Any.strings_TrimSuffix Tryz.lays102 s ⟨#[61]⟩ w (by omega)
  rw [show (⟨#[61]⟩ : ByteArray).data.toList=[61] from rfl,trim_eq] at h
  exact h
set_option maxHeartbeats 2000000 in
theorem set_any (s:ByteArray) (a b:Int) (pl:Bool) (w:World) (hs:s.size≤1000) :
    Calls Tryz.prog 152 #[.string s,.int .i64 a,.int .i64 b,.bool pl] w fun e w'=>e=.returned (.tuple #[.int .i64 (setF s.data.toList a b pl).1,.bool (setF s.data.toList a b pl).2])∧w=w':=by
  have hl:Hid (s.toList=s.data.toList):=Lib.hid (Lib.toList_data s)
  have ht:=trim_any s w hs
  obtain ⟨r,hr⟩ : ∃ r,r=twoF (trimS s.data.toList) a b:=⟨_,rfl⟩
  have h2:=two_any ⟨(trimS s.data.toList).toArray⟩ a b w
  rw [show (⟨(trimS s.data.toList).toArray⟩ : ByteArray).data.toList=trimS s.data.toList from List.toList_toArray,← hr] at h2
  have HR:=Lib.hid hr
  obtain ⟨u,hu⟩ : ∃ u:ByteArray,u=⟨(trimS s.data.toList).toArray⟩:=⟨_,rfl⟩
  rw [← hu] at ht h2
  obtain ⟨r1,r2⟩:=r
  clear hr hu hs
  go_enter Tryz.func152,Tryz.ntmps152
  go_wp2_with (first | (go_at_call 200;refine ht.mono ?_;rintro e w' ⟨rfl,rfl⟩) | (go_at_call 150;refine h2.mono ?_;rintro e w' ⟨rfl,rfl⟩))
  all_goals (try go_ret2)
  all_goals (refine ⟨ret_ib ?_ ?_,rfl⟩ <;> (unfold setF;rw [← HR.out];clear HR;have:=hl.out;go_light;(try simp_all);(try (rw [Bool.eq_iff_iff];simp));(try omega)))
end Go.Proofs.YtdjpopebeenlmaaGreatDoor.Ty
namespace Go.Proofs.YtdjpopebeenlmaaGreatDoor
section
namespace Ty
open Go.RowKit
open Tr Sc

section
variable {w:World}{l:List Nd}{p:Option Addr}{cap C N P T:Nat}{ns fs:List Int}
/-- of names it is known what they stand for -/
def NmOk (l:List Nd) (ns:List Int):Prop:=∀ k,k<l.length→(kindAt l k=32→∃ j:Nat,ns.getD k 0=(j:Int)∧j<l.length∧varK (kindAt l j))∧(kindAt l k=33→(ns.getD k 0 = -1∧libB (tx l k)=true)∨∃ j:Nat,ns.getD k 0=(j:Int)∧j<l.length∧kindAt l j=3)
theorem NmOk.name (h:NmOk l ns) {k:Nat}(hk:k<l.length):kindAt l k=32→∃ j:Nat,ns.getD k 0=(j:Int)∧j<l.length:=fun e=>by
  obtain ⟨j,a,b,_⟩:=(h k hk).1 e;exact ⟨j,a,b⟩
theorem place_kd {k:Nat}(h:placeB l ns k=true):kindAt l k=32∨kindAt l k=34∨kindAt l k=35:=by
  unfold placeB at h
  split at h
  · exact Or.inl ‹_›
  · split at h
    · exact Or.inr (Or.inl ‹_›)
    · split at h
      · exact Or.inr (Or.inr ‹_›)
      · cases h
theorem kid0 (h:Ck w l p cap C N P T ns fs) (hC:∀ j,j<l.length→codeAt l j=0) {k:Nat}(hk:k<l.length) {i:Nat}(hi:i<(kidsAt l k).length):∃ y kb ko:Nat,(kidsAt l k).getD i 0=(y:Int)∧y<k∧l[k].p=some ⟨kb,ko,none⟩∧kb<w.heap.size∧∀ wr,Below w.heap.size w wr→wr.cell? ⟨kb,ko+i,none⟩=some (.int .i64 (y:Int)):=by
  obtain ⟨y,e,hy⟩:=kid_lt hC hk _ (List.getElem_mem hi)
  have hkl:(kidsAt l k)=l[k].c:=kidsAt_get hk
  obtain ⟨kb,ko,hp,hb,hc⟩:=h.tr.2 k hk (by rw [← hkl];omega)
  refine ⟨y,kb,ko,by simp [hi,e],hy,hp,hb,fun wr hw=>?_⟩
  have h1:=hc i (by rw [← hkl];exact hi)
  have h2:l[k].c[i]'(by rw [← hkl];exact hi)=(y:Int):=by simp only [← hkl];exact e
  rw [h2] at h1
  exact (hw.cell (p:=⟨kb,ko+i,none⟩) hb).trans h1
set_option maxHeartbeats 8000000 in
set_option maxRecDepth 100000 in
theorem one_any (h:Ck w l p cap C N P T ns fs) (hC:∀ j,j<l.length→codeAt l j=0) (hl:l.length≤600) (hnm:NmOk l ns) {k:Nat}(hk:k<l.length) (h1:1≤(kidsAt l k).length) (x:Int) :
    Calls Tryz.prog 149 #[.pointer (some ⟨C,0,none⟩),.agg (nodeV l[k]),.int .i64 x] w fun e w'=>e=.returned (.tuple #[.int .i64 (oneF l ns (tx l k) ((kidsAt l k).getD 0 0).toNat x).1,.bool (oneF l ns (tx l k) ((kidsAt l k).getD 0 0).toNat x).2])∧Below w.heap.size w w':=by
  obtain ⟨y,kb,ko,hy,hyk,hkp,hkb,hcell⟩:=kid0 h hC hk (i:=0) (by omega)
  have hyl:y<l.length:=by omega
  have htx:tx l k=l[k].t.data.toList:=tx_get hk
  have hcn:l[k].c.length=(kidsAt l k).length:=by rw [kidsAt_get hk]
  have hck:l[k].c.length≤600:=by have:=(code_kids hk (hC k hk)).1;omega
  rw [hy,Int.toNat_natCast,htx]
  have HPL:Hid (∀ V,Below w.heap.size w V→Calls Tryz.prog 153 #[.pointer (some ⟨C,0,none⟩),.int .i64 y] V fun e w'=>e=.returned (.bool (placeB l ns y))∧Below V.heap.size V w'):=fun V hV=>isPlace_any (h.below hV) hl hyl (hnm.name hyl)
  have HME:Hid (placeB l ns y=true→∀ V,Below w.heap.size w V→Calls Tryz.prog 199 #[.pointer (some ⟨C,0,none⟩),.int .i64 y] V fun e w'=>e=.returned (.bool (memB l ns y))∧Below V.heap.size V w'):=fun hp V hV=>isInMemory_any (h.below hV) hl hyl (place_kd hp) (hnm.name hyl)
  have HCE:Hid (∀ wr,Below w.heap.size w wr→wr.cell? ⟨kb,ko,none⟩=some (.int .i64 (y:Int))):=hcell
  have hc0:=HCE.out w (Below.refl _ _)
  have HB1:Hid (Below w.heap.size w (w.alloc (.cells (nodeV l[k]) 34))):=(Below.refl _ _).alloc (Nat.le_refl _) _
  unfold nodeV at HB1 ⊢
  rw [hkp] at HB1 ⊢
  have HX:Hid (Blk (w.alloc (.cells #[.int .i64 l[k].k,.string l[k].t,.int .i64 l[k].n,.int .i64 l[k].z,.slice (some ⟨kb,ko,none⟩) l[k].c.length l[k].cap,.int .i64 l[k].a] 34)) w.heap.size 34 #[.int .i64 l[k].k,.string l[k].t,.int .i64 l[k].n,.int .i64 l[k].z,.slice (some ⟨kb,ko,none⟩) l[k].c.length l[k].cap,.int .i64 l[k].a]):=Blk.new _ _ _
  obtain ⟨t,ht⟩ : ∃ t,t=l[k].t:=⟨_,rfl⟩
  obtain ⟨n,hn⟩ : ∃ n,n=l[k].n:=⟨_,rfl⟩
  obtain ⟨kd,hkd⟩ : ∃ kd,kd=l[k].k:=⟨_,rfl⟩
  obtain ⟨z,hz⟩ : ∃ z,z=l[k].z:=⟨_,rfl⟩
  obtain ⟨kc,hkc⟩ : ∃ kc,kc=l[k].cap:=⟨_,rfl⟩
  obtain ⟨cn,hcn2⟩ : ∃ cn,cn=l[k].c.length:=⟨_,rfl⟩
  obtain ⟨ka,hka⟩ : ∃ ka,ka=l[k].a:=⟨_,rfl⟩
  rw [← ht,← hn,← hkd,← hz,← hkc,← hcn2,← hka] at HB1 HX ⊢
  rw [← hcn2] at hcn hck
  have hcn1:1≤cn:=by omega
  have HX4:Hid (∀ V,Below _ _ V→V.cell? ⟨w.heap.size,4,none⟩=some (.slice (some ⟨kb,ko,none⟩) cn kc)):=Lib.hid (fun V hV=>by rw [(HX.out.below hV HX.out.lt).cell];rfl)
  have hl0:Hid (t.toList=t.data.toList):=Lib.hid (Lib.toList_data t)
  obtain ⟨pl,hpl⟩ : ∃ pl,pl=placeB l ns y:=⟨_,rfl⟩
  obtain ⟨me,hme⟩ : ∃ me,me=memB l ns y:=⟨_,rfl⟩
  have HO:Hid (oneF l ns t.data.toList y x=if t.data.toList=[33] then (1,valB x) else if t.data.toList=[42] then (1,decide (x=2)) else if t.data.toList=[38] then (2,decide (x=1) && pl && me) else (1,decide (x=1))):=Lib.hid (by rw [hpl,hme];rfl)
  rw [← hpl,← hme] at HME
  rw [← hpl] at HPL
  obtain ⟨r,hr⟩ : ∃ r,r=oneF l ns t.data.toList y x:=⟨_,rfl⟩
  rw [← hr] at HO ⊢
  have hv:=isValue_any x
  clear h hC hnm hk hkp htx hcell hy hyk hyl hcn h1 ht hn hkd hz hkc hcn2 hka hpl hme hr
  go_enter Tryz.func149,Tryz.ntmps149
  go_wp2_with (first | (go_at_call 151;refine (hv _).mono ?_;rintro e w' ⟨rfl,rfl⟩) | (go_at_call 153;refine (HPL.out _ HB1.out).mono ?_;rintro e w2 ⟨rfl,hb2⟩;have HB2:=Lib.hid (HB1.out.trans (hb2.mono HB1.out.size));have hx4:=HX4.out _ hb2;have hc2:=HCE.out _ HB2.out;clear hb2;cases pl) | (go_at_call 199;refine (HME.out (by simp) _ HB2.out).mono ?_;rintro e w3 ⟨rfl,hb3⟩;have HB3:=Lib.hid (HB2.out.trans (hb3.mono HB2.out.size));clear hb3))
  all_goals (try go_ret2)
  all_goals (refine ⟨ret_ib ?_ ?_,(by first | exact HB3.out | exact HB2.out | exact HB1.out)⟩ <;> (rw [HO.out];clear HO HPL HME HCE;have:=hl0.out;go_light;(try simp_all);(try (rw [Bool.eq_iff_iff];simp));(try omega)))
end
end Ty
end
section
namespace Ty
open Go.RowKit
open Tr Sc

section
variable {w:World}{l:List Nd}{p:Option Addr}{cap C N P T:Nat}{ns fs:List Int}
theorem kidTypes_seq (h:Ck w l p cap C N P T ns fs) (hC:∀ j,j<l.length→codeAt l j=0) (hl:l.length≤600) {k:Nat}(hk:k<l.length) :
    Calls Tryz.prog 146 #[.pointer (some ⟨C,0,none⟩),.agg (nodeV l[k])] w fun e w'=>∃ lb,e=.returned (.func (.func 197) #[] lb)∧Below w.heap.size w w'∧SeqI w' (.func (.func 197) #[] lb) (ktF l fs k) :=
  (kidTypes_any C l[k] w).mono fun e w' he=>by
    obtain ⟨rfl,rfl⟩:=he
    have hB:Below w.heap.size w ((w.alloc (.cells #[.pointer (some ⟨C,0,none⟩)] 114)).alloc (.cells (nodeV l[k]) 34)):=((Below.refl _ _).alloc (Nat.le_refl _) _).alloc (by simp) _
    refine ⟨_,rfl,hB,kt_stops (h.below hB) hC hl hk ?_ ((Blk.new _ _ _).alloc _)⟩
    have:=Blk.new (w.alloc (.cells #[.pointer (some ⟨C,0,none⟩)] 114)) 34 (nodeV l[k])
    rw [World.size_alloc] at this
    exact this
theorem params_seq (h:Ck w l p cap C N P T ns fs) (hC:∀ j,j<l.length→codeAt l j=0) (hl:l.length≤600) {k:Nat}(hk:k<l.length) (h3:kindAt l k=3) :
    Calls Tryz.prog 87 #[.pointer (some ⟨C,0,none⟩),.agg (nodeV l[k])] w fun e w'=>∃ lb,e=.returned (.func (.func 154) #[] lb)∧Below w.heap.size w w'∧SeqI w' (.func (.func 154) #[] lb) (parsF l k) :=
  (params_any C l[k] w).mono fun e w' he=>by
    obtain ⟨rfl,rfl⟩:=he
    have hB:Below w.heap.size w ((w.alloc (.cells #[.pointer (some ⟨C,0,none⟩)] 114)).alloc (.cells (nodeV l[k]) 34)):=((Below.refl _ _).alloc (Nat.le_refl _) _).alloc (by simp) _
    refine ⟨_,rfl,hB,pa_stops (h.below hB) hC hl hk h3 ?_ ((Blk.new _ _ _).alloc _)⟩
    have:=Blk.new (w.alloc (.cells #[.pointer (some ⟨C,0,none⟩)] 114)) 34 (nodeV l[k])
    rw [World.size_alloc] at this
    exact this
theorem collect_kids {v:Value}{xs:List Int}(hS:SeqI w v xs) (hlen:xs.length≤1000000) :
    Calls Tryz.prog 145 #[v] w fun e w'=>∃ q d,e=.returned (.slice q xs.length d)∧KidsAt w' q xs∧Below w.heap.size w w' :=
  (collect_any hS hlen).mono fun e w' he=>by
    obtain ⟨s,rfl,ho,hb⟩:=he
    obtain ⟨q,d,rfl,hk⟩:=row_kids ho
    exact ⟨q,d,rfl,hk,hb⟩
theorem collect_kidsN {v:Value}{xs:List Int}{n:Nat}(hn:n=xs.length) (hS:SeqI w v xs) (hlen:xs.length≤1000000) :
    Calls Tryz.prog 145 #[v] w fun e w'=>∃ q d,e=.returned (.slice q n d)∧KidsAt w' q xs∧Below w.heap.size w w':=by rw [hn];exact collect_kids hS hlen
theorem equal_anyN {p q:Option Addr}{c d n m:Nat}{xs ys:List Int}(hn:n=xs.length) (hm:m=ys.length) (hx:KidsAt w p xs) (hy:KidsAt w q ys) (hx6:xs.length≤1000000) (hy6:ys.length≤1000000) :
    Calls Tryz.prog 81 #[.slice p n c,.slice q m d] w fun e w'=>e=.returned (.bool (xs == ys))∧Below w.heap.size w w':=by rw [hn,hm];exact equal_any hx hy hx6 hy6
theorem pars_len (hC:∀ j,j<l.length→codeAt l j=0) (hl:l.length≤600) {k:Nat}(hk:k<l.length):(parsF l k).length≤1000000:=by
  have:=(code_kids hk (hC k hk)).1
  unfold parsF;rw [List.length_map,List.length_dropLast,kidsAt_get hk];omega
theorem kt_len (hC:∀ j,j<l.length→codeAt l j=0) (hl:l.length≤600) {k:Nat}(hk:k<l.length):(ktF l fs k).length≤1000000:=by
  have:=(code_kids hk (hC k hk)).1
  unfold ktF;rw [List.length_map,kidsAt_get hk];omega
def CePost (w:World) (r:List Int × Int) (e:Ending) (w':World):Prop:=∃ q d,e=.returned (.tuple #[.slice q r.1.length d,.int .i64 r.2])∧KidsAt w' q r.1∧Below w.heap.size w w'
set_option maxHeartbeats 8000000 in
set_option maxRecDepth 100000 in
theorem callee_fun (h:Ck w l p cap C N P T ns fs) (hC:∀ j,j<l.length→codeAt l j=0) (hl:l.length≤600) {k j:Nat}(hk:k<l.length) (hj:ns.getD k 0=(j:Int)) (hjl:j<l.length) (h3:kindAt l j=3) :
    Calls Tryz.prog 148 #[.pointer (some ⟨C,0,none⟩),.int .i64 k] w (CePost w (calleeF l ns k)):=by
  have hr:calleeF l ns k=(parsF l j,numOf l j):=by unfold calleeF;rw [if_pos (by omega),byAt_eq hj]
  rw [hr]
  have HPA:Hid (∀ V,Below w.heap.size w V→Calls Tryz.prog 87 #[.pointer (some ⟨C,0,none⟩),.agg (nodeV l[j])] V fun e w'=>∃ lb,e=.returned (.func (.func 154) #[] lb)∧Below V.heap.size V w'∧SeqI w' (.func (.func 154) #[] lb) (parsF l j)):=fun V hV=>params_seq (h.below hV) hC hl hjl h3
  have HLEN:=Lib.hid (pars_len hC hl hjl)
  obtain ⟨b,o,rfl,hbw,hN⟩:=h.node hk
  have a0:∀ V,Below w.heap.size w V→V.cell? ⟨C,0,none⟩=some (.slice (some ⟨b,o,none⟩) l.length cap):=fun V hV=>by rw [(h.chk.below hV h.chk.lt).cell];rfl
  have hby:=fun V hV=>h.by_ hk hj V hV
  have hn:∀ V,Below w.heap.size w V→NodeAt V b (o+j * 6) l[j]:=fun V hV=>hN V hV j hjl
  unfold nodeV at HPA
  obtain ⟨t,ht⟩ : ∃ t,t=l[j].t:=⟨_,rfl⟩
  obtain ⟨n,hn2⟩ : ∃ n,n=l[j].n:=⟨_,rfl⟩
  obtain ⟨kd,hkd⟩ : ∃ kd,kd=l[j].k:=⟨_,rfl⟩
  obtain ⟨z,hz⟩ : ∃ z,z=l[j].z:=⟨_,rfl⟩
  obtain ⟨kp,hkp⟩ : ∃ kp,kp=l[j].p:=⟨_,rfl⟩
  obtain ⟨kc,hkc⟩ : ∃ kc,kc=l[j].cap:=⟨_,rfl⟩
  obtain ⟨cn,hcn⟩ : ∃ cn,cn=l[j].c.length:=⟨_,rfl⟩
  obtain ⟨ka,hka⟩ : ∃ ka,ka=l[j].a:=⟨_,rfl⟩
  unfold NodeAt at hn
  rw [num_get hjl]
  rw [← ht,← hn2,← hkd,← hz,← hkp,← hkc,← hcn,← hka] at HPA
  rw [← ht,← hn2,← hkd,← hz,← hkp,← hkc,← hcn,← hka] at hn
  rw [← hn2]
  obtain ⟨nn,hnn⟩ : ∃ nn,nn=l.length:=⟨_,rfl⟩
  rw [← hnn] at a0 hk hl hjl
  have a1:=hby w (Below.refl _ _)
  rw [← hnn] at a1
  obtain ⟨a1,a2⟩:=a1
  have a00:=a0 w (Below.refl _ _)
  obtain ⟨xs,hxs⟩ : ∃ xs,xs=parsF l j:=⟨_,rfl⟩
  rw [← hxs] at HPA HLEN ⊢
  have HE0:Hid (Below w.heap.size w w.drew):=(Below.refl _ _).drew
  obtain ⟨Q,hQ⟩ : ∃ Q:Ending→World→Prop,Q=CePost w (xs,n):=⟨_,rfl⟩
  rw [← hQ]
  have HQ:=Lib.hid hQ
  have S0:Hid (∀ V,Below w.heap.size w V→V.cell? ⟨C,0,none⟩=some (.slice (some ⟨b,o,none⟩) nn cap)∧V.cell? ⟨b,o+j * 6,none⟩=some (.int .i64 kd)∧V.cell? ⟨b,o+j * 6+1,none⟩=some (.string t)∧V.cell? ⟨b,o+j * 6+2,none⟩=some (.int .i64 n) ∧
      V.cell? ⟨b,o+j * 6+3,none⟩=some (.int .i64 z)∧V.cell? ⟨b,o+j * 6+4,none⟩=some (.slice kp cn kc)∧V.cell? ⟨b,o+j * 6+5,none⟩=some (.int .i64 ka)):=Lib.hid (fun V hV=>⟨a0 V hV,hn V hV⟩)
  clear h hC hr hj h3 hN a0 hby hn ht hn2 hkd hz hkp hkc hcn hka hnn hxs hQ hbw
  go_enter Tryz.func148,Tryz.ntmps148
  go_wp2
  go_region_held3 (fun V=>V.cell? ⟨C,0,none⟩=some (.slice (some ⟨b,o,none⟩) nn cap)∧V.cell? ⟨b,o+j * 6,none⟩=some (.int .i64 kd)∧V.cell? ⟨b,o+j * 6+1,none⟩=some (.string t)∧V.cell? ⟨b,o+j * 6+2,none⟩=some (.int .i64 n) ∧
      V.cell? ⟨b,o+j * 6+3,none⟩=some (.int .i64 z)∧V.cell? ⟨b,o+j * 6+4,none⟩=some (.slice kp cn kc)∧V.cell? ⟨b,o+j * 6+5,none⟩=some (.int .i64 ka))
    (first | with_reducible exact S0.out _ HE0.out | with_reducible exact S0.out _ HE1.out | with_reducible exact S0.out _ HE2.out)
    (first | (go_at_call 87;refine (HPA.out _ HE0.out).mono ?_;rintro e w1 ⟨lb,rfl,hb1,hs1⟩;have HE1:=Lib.hid (HE0.out.trans (hb1.mono HE0.out.size));have HS1:=Lib.hid hs1;clear hb1 hs1) | (go_at_call 145;refine (collect_kids HS1.out HLEN.out).mono ?_;rintro e w2 ⟨q,d,rfl,hk2,hb2⟩;have HE2:=Lib.hid (HE1.out.trans (hb2.mono HE1.out.size));have HK2:=Lib.hid hk2;clear hb2 hk2))
  all_goals go_wp2
  all_goals (try go_ret2)
  all_goals (rw [HQ.out];exact ⟨_,_,rfl,HK2.out,HE2.out⟩)
set_option maxHeartbeats 8000000 in
set_option maxRecDepth 100000 in
theorem callee_lib (h:Ck w l p cap C N P T ns fs) (hl:l.length≤600) {k:Nat}(hk:k<l.length) (hj:ns.getD k 0 = -1) (hlib:libB (tx l k)=true) :
    Calls Tryz.prog 148 #[.pointer (some ⟨C,0,none⟩),.int .i64 k] w (CePost w (calleeF l ns k)):=by
  have hr:calleeF l ns k=if tx l k=[112,114,105,110,116] then ([1],1) else ([],1):=by unfold calleeF;rw [if_neg (by omega)]
  rw [hr]
  obtain ⟨b,o,rfl,hbw,hN⟩:=h.node hk
  have a0:w.cell? ⟨C,0,none⟩=some (.slice (some ⟨b,o,none⟩) l.length cap):=by rw [h.chk.cell];rfl
  have a1:w.cell? ⟨C,1,none⟩=some (.slice (some ⟨N,0,none⟩) l.length l.length):=by rw [h.chk.cell];rfl
  have a2:w.cell? ⟨N,k,none⟩=some (.int .i64 (-1)):=by
    rw [h.nms.cell,intA_get (by rw [h.nlen];exact hk)]
    unfold iAt;rw [Int.toNat_natCast,hj]
  have a3:=(hN w (Below.refl _ _) k hk).2.1
  have htx:tx l k=l[k].t.data.toList:=tx_get hk
  obtain ⟨t,ht⟩ : ∃ t,t=l[k].t:=⟨_,rfl⟩
  rw [← ht] at a3 htx
  rw [htx] at hlib ⊢
  have hl0:Hid (t.toList=t.data.toList):=Lib.hid (Lib.toList_data t)
  have hlb:t.data.toList=[114,101,97,100]∨t.data.toList=[112,114,105,110,116]:=by unfold libB at hlib;simpa using hlib
  obtain ⟨nn,hnn⟩ : ∃ nn,nn=l.length:=⟨_,rfl⟩
  rw [← hnn] at a0 a1 hk hl
  obtain ⟨Q,hQ⟩ : ∃ Q:Ending→World→Prop,Q=CePost w (if t.data.toList=[112,114,105,110,116] then ([1],1) else ([],1)):=⟨_,rfl⟩
  rw [← hQ]
  have HQ:=Lib.hid hQ
  clear h hr hj hlib hN htx ht hnn hQ
  rcases hlb with e | e
  · have hne:(t.toList == [112,114,105,110,116])=false:=by rw [hl0.out,e];rfl
    have HE:=Lib.hid e
    clear e
    go_enter Tryz.func148,Tryz.ntmps148
    go_wp2
    (try go_ret2)
    rw [HQ.out,HE.out,if_neg (by decide)]
    exact ⟨none,0,rfl,fun h=>absurd h (by decide),Below.refl _ _⟩
  · have hne:(t.toList == [112,114,105,110,116])=true:=by rw [hl0.out,e];rfl
    have HE:=Lib.hid e
    clear e
    go_enter Tryz.func148,Tryz.ntmps148
    go_wp2
    (try go_ret2)
    rw [HQ.out,HE.out,if_pos rfl]
    refine ⟨_,_,rfl,fun _=>⟨w.heap.size,0,rfl,by simp,fun j hj=>?_⟩,(Below.refl _ _).alloc (Nat.le_refl _) _⟩
    have:j=0:=by simpa using hj
    subst this
    rw [(Blk.new w _ _).cell];rfl
theorem callee_any (h:Ck w l p cap C N P T ns fs) (hC:∀ j,j<l.length→codeAt l j=0) (hl:l.length≤600) (hnm:NmOk l ns) {k:Nat}(hk:k<l.length) (h33:kindAt l k=33) :
    Calls Tryz.prog 148 #[.pointer (some ⟨C,0,none⟩),.int .i64 k] w (CePost w (calleeF l ns k)):=by
  rcases (hnm k hk).2 h33 with ⟨a,b⟩ | ⟨j,a,b,c⟩
  · exact callee_lib h hl hk a b
  · exact callee_fun h hC hl hk a b c
theorem callee_len (hC:∀ j,j<l.length→codeAt l j=0) (hl:l.length≤600) (hnm:NmOk l ns) {k:Nat}(hk:k<l.length) (h33:kindAt l k=33):(calleeF l ns k).1.length≤1000000:=by
  unfold calleeF
  rcases (hnm k hk).2 h33 with ⟨a,b⟩ | ⟨j,a,b,c⟩
  · rw [if_neg (by omega)];split <;> simp
  · rw [if_pos (by omega),byAt_eq a];exact pars_len hC hl b
theorem set_mem (hC:∀ j,j<l.length→codeAt l j=0) {k:Nat}(hk:k<l.length) (h39:kindAt l k=39):l[k].t.data.toList ∈ setS:=by
  have hc:=hC k hk
  rw [codeAt_get hk] at hc
  rw [kindAt_get hk] at h39
  have hs:signB l[k].k l[k].t=true:=by
    unfold nodeC at hc
    split at hc
    · cases hc
    · split at hc
      · cases hc
      · split at hc
        · cases hc
        · unfold fieldC fieldV at hc
          have hn:namedB l[k].k=false:=by rw [h39];decide
          split at hc
          · cases hc
          · split at hc
            · cases hc
            · rename_i h2
              cases hb:signB l[k].k l[k].t with
              | true=>rfl
              | false=>exact absurd ⟨hn,hb⟩ h2
  rw [h39] at hs
  unfold signB at hs
  rw [if_neg (by decide),if_neg (by decide),if_neg (by decide),if_pos rfl] at hs
  unfold setB at hs
  rw [Lib.toList_data] at hs
  simpa using hs
theorem set_size (hC:∀ j,j<l.length→codeAt l j=0) {k:Nat}(hk:k<l.length) (h39:kindAt l k=39):l[k].t.size≤1000:=by
  have h:=set_mem hC hk h39
  have hall:∀ s ∈ setS,s.length≤1000:=by decide
  have:=hall _ h
  have e:l[k].t.data.toList.length=l[k].t.size:=Array.length_toList
  omega
end
end Ty
end
section
namespace Ty
open Go.RowKit Go.Shelf
open Tr Sc
attribute [local go_sem] Oper.semAt_some

section
variable {w:World}{l:List Nd}{p:Option Addr}{cap C N P T:Nat}{ns fs:List Int}
set_option maxHeartbeats 4000000 in
set_option maxRecDepth 100000 in
theorem isCondition_any (h:Ck w l p cap C N P T ns fs) (hl:l.length≤600) {y:Nat}(hy:y<l.length) :
    Calls Tryz.prog 142 #[.pointer (some ⟨C,0,none⟩),.int .i64 y] w fun e w'=>e=.returned (.bool (decide (kindAt l y=24) || valB (iAt fs (y:Int))))∧w=w':=by
  obtain ⟨b,o,rfl,hbw,hN⟩:=h.node hy
  have a0:w.cell? ⟨C,0,none⟩=some (.slice (some ⟨b,o,none⟩) l.length cap):=by rw [h.chk.cell];rfl
  have a3:w.cell? ⟨C,3,none⟩=some (.slice (some ⟨T,0,none⟩) l.length l.length):=by rw [h.chk.cell];rfl
  have aT:w.cell? ⟨T,y,none⟩=some (.int .i64 (iAt fs (y:Int))):=by rw [h.typ.cell,intA_get (by rw [h.tlen];exact hy)]
  have a4:=(hN w (Below.refl _ _) y hy).1
  rw [← kindAt_get hy] at a4
  obtain ⟨nn,hnn⟩ : ∃ nn,nn=l.length:=⟨_,rfl⟩
  rw [← hnn] at a0 a3 hy hl
  obtain ⟨kd,hkd⟩ : ∃ kd,kd=kindAt l y:=⟨_,rfl⟩
  obtain ⟨v,hv⟩ : ∃ v,v=iAt fs (y:Int):=⟨_,rfl⟩
  rw [← hkd] at a4 ⊢
  rw [← hv] at aT ⊢
  have hiv:=isValue_any v
  clear h hN hnn hkd hv hbw
  go_enter Tryz.func142,Tryz.ntmps142
  go_wp2_with (go_at_call 151;refine (hiv _).mono ?_;rintro e w' ⟨rfl,rfl⟩)
  all_goals (try go_ret)
  all_goals exact ⟨ret_bool (by go_light;simp_all),rfl⟩
theorem box_from {β:Type}(n B:Nat) (t:TypeId) (v:Value) (R:β→Prop):OwnFrom n (fun (s:β) W=>Boxed W B t v∧R s):=fun s X Y row hs hg hr =>
  ⟨hs.1.kept hg (fun e=>by obtain ⟨_,o,ho,hc⟩:=hr B e.symm;rw [show X.heap[B]? = _ from hs.1] at ho;cases ho;cases hc),hs.2⟩
theorem box_done {W:World}{B D:Nat}{t:TypeId}{v:Value}(h:Boxed W B t v) (hK:W.heap[D]? = some (.deferred (some []))):Boxed (W.putObj D (.deferred none)) B t v :=
  h.kept (grownBy_putObj' W D _) (fun e=>by cases e;rw [show W.heap[_]? = _ from h] at hK;cases hK)
set_option maxRecDepth 100000 in
set_option maxHeartbeats 4000000 in
theorem initials_any (h:Ck w l p cap C N P T ns fs) (hC:∀ j,j<l.length→codeAt l j=0) (hl:l.length≤600) {k:Nat}(hk:k<l.length) :
    Calls Tryz.prog 141 #[.pointer (some ⟨C,0,none⟩),.agg (nodeV l[k])] w fun e w'=>e=.returned (.bool (initB l fs k))∧Below w.heap.size w w':=by
  have HKT:Hid (∀ V,Below w.heap.size w V→Calls Tryz.prog 146 #[.pointer (some ⟨C,0,none⟩),.agg (nodeV l[k])] V fun e w'=>∃ lb,e=.returned (.func (.func 197) #[] lb)∧Below V.heap.size V w'∧SeqI w' (.func (.func 197) #[] lb) (ktF l fs k)):=fun V hV=>kidTypes_seq (h.below hV) hC hl hk
  have hin:initB l fs k=(ktF l fs k).all fun x=>x == (if numOf l k=3 then 1 else numOf l k):=rfl
  rw [hin,num_get hk]
  unfold nodeV at HKT ⊢
  obtain ⟨kd,hkd⟩ : ∃ kd,kd=l[k].k:=⟨_,rfl⟩
  obtain ⟨t,ht⟩ : ∃ t,t=l[k].t:=⟨_,rfl⟩
  obtain ⟨n,hn2⟩ : ∃ n,n=l[k].n:=⟨_,rfl⟩
  obtain ⟨z,hz⟩ : ∃ z,z=l[k].z:=⟨_,rfl⟩
  obtain ⟨kp,hkp⟩ : ∃ kp,kp=l[k].p:=⟨_,rfl⟩
  obtain ⟨kc,hkc⟩ : ∃ kc,kc=l[k].cap:=⟨_,rfl⟩
  obtain ⟨cn,hcn⟩ : ∃ cn,cn=l[k].c.length:=⟨_,rfl⟩
  obtain ⟨ka,hka⟩ : ∃ ka,ka=l[k].a:=⟨_,rfl⟩
  rw [← hkd,← ht,← hn2,← hz,← hkp,← hkc,← hcn,← hka] at HKT ⊢
  obtain ⟨xs,hxs⟩ : ∃ xs,xs=ktF l fs k:=⟨_,rfl⟩
  rw [← hxs] at HKT ⊢
  obtain ⟨wa,hwa⟩ : ∃ wa:Int,wa=if n=3 then 1 else n:=⟨_,rfl⟩
  rw [← hwa]
  obtain ⟨r,hr⟩ : ∃ r,r=xs.all fun x=>x == wa:=⟨_,rfl⟩
  rw [← hr]
  have HR:=Lib.hid hr
  have HWA:=Lib.hid hwa
  clear h hC hin hkd ht hn2 hz hkp hkc hcn hka hxs hwa hr
  refine (callsIn_wide (n:=20)).1 ?_
  refine callsIn_of_wp_marks Tryz.func141 rfl trivial ?_ rfl
  simp only [Tryz.ntmps141,List.size_toArray,List.length_cons,List.length_nil,Nat.reduceAdd,Nat.reduceSub,Array.replicate_succ,Array.replicate_zero,List.push_toArray,List.append_toArray,List.nil_append,List.cons_append]
  have BX:Hid (∀ a u,Boxed (((w.alloc a).alloc (.cells #[.bool false] 4)).alloc (.cells #[.int .i64 u] 3)) (w.heap.size+1) 4 (.bool false)∧Boxed (((w.alloc a).alloc (.cells #[.bool false] 4)).alloc (.cells #[.int .i64 u] 3)) (w.heap.size+1+1) 3 (.int .i64 u)∧Below w.heap.size w (((w.alloc a).alloc (.cells #[.bool false] 4)).alloc (.cells #[.int .i64 u] 3))):=Lib.hid (fun a u=>by
    refine ⟨?_,?_,?_⟩
    · have:=(Boxed.new (w.alloc a) 4 (.bool false)).alloc (.cells #[.int .i64 u] 3)
      rw [World.size_alloc] at this;exact this
    · have:=Boxed.new ((w.alloc a).alloc (.cells #[.bool false] 4)) 3 (.int .i64 u)
      rw [World.size_alloc,World.size_alloc] at this;exact this
    · exact (((Below.refl _ _).alloc (Nat.le_refl _) _).alloc (by simp) _).alloc (by simp;omega) _)
  have HALL:Hid (∀ pre x,(∀ y ∈ pre,y=wa)→x=wa→∀ y ∈ pre ++ [x],y=wa):=Lib.hid (fun pre x h1 h2 y hy=>(List.mem_append.1 hy).elim (h1 y) (fun e=>by simp at e;rw [e,h2]))
  have HT:Hid ((∀ y ∈ xs,y=wa)→r=true):=Lib.hid (fun h=>by rw [HR.out,List.all_eq_true];intro x hx;simpa using h x hx)
  have HF:Hid (∀ x ∈ xs,x≠wa→r=false):=Lib.hid (fun x hx hne=>by rw [HR.out];refine Bool.eq_false_iff.2 fun h=>hne ?_;simpa using (List.all_eq_true.1 h) x hx)
  clear HR
  have hn:(n=3∧wa=1)∨(n≠3∧wa=n):=by
    by_cases h3:n=3
    · exact Or.inl ⟨h3,by rw [HWA.out,if_pos h3]⟩
    · exact Or.inr ⟨h3,by rw [HWA.out,if_neg h3]⟩
  clear HWA
  rcases hn with ⟨rfl,rfl⟩ | ⟨h3,rfl⟩
  · skip
    gi_wp2_with (refine ⟨trivial,?_⟩;gi_at_call 146;go_loud (refine (callsIn_wide.2 (HKT.out _ (BX.out _ _).2.2)).mono ?_);rintro e w1 ⟨lb,rfl,hb1,hs1⟩)
    have HB1:=Lib.hid ((BX.out _ _).2.2.trans (hb1.mono (BX.out _ _).2.2.size))
    have bR:Boxed w1 (w.heap.size+1) 4 (.bool false):=(hb1.block _ (BX.out _ _).1.lt).trans (BX.out _ _).1
    have bW:Boxed w1 (w.heap.size+1+1) 3 (.int .i64 1):=(hb1.block _ (BX.out _ _).2.1.lt).trans (BX.out _ _).2.1
    clear hb1
    obtain ⟨g0,lb0,hg0,_,hst⟩:=hs1
    obtain ⟨rfl,rfl⟩ : g0=197∧lb0=lb:=by
      have:=hg0.symm;simpa using this
    clear hg0
    refine wpIn_rangeFunc_ownF rfl (by omega) (gf:=197) (lb:=lb0) rfl trivial enters_kt (hst _ (by omega)) belowK_t (belowK_b (Nat.le_refl _)) (Below.refl _ _) (fun _=>rfl)
      (fun pre W=>((Boxed W (w.heap.size+1) 4 (.bool false)∧∀ y ∈ pre,y=1)∧(Boxed W (w.heap.size+1+1) 3 (.int .i64 1)∧True))∧Below w.heap.size w W)
      (fun c pre W=>(Boxed W (w.heap.size+1) 4 (.bool false)∧(c=.ret∧∃ y ∈ pre,y≠1))∧Below w.heap.size w W)
      (OwnFrom.and (OwnFrom.and (box_from _ _ _ _ _) (box_from _ _ _ _ _)) (ownFrom_below (Nat.le_refl _) HB1.out.size))
      (fun c=>OwnFrom.and (box_from _ _ _ _ _) (ownFrom_below (Nat.le_refl _) HB1.out.size))
      ⟨⟨⟨bR,by simp⟩,bW,trivial⟩,HB1.out⟩ ?a1 ?assign ?body ?done ?stop
    case assign =>
      intro l x W K hK
      gi_wp2
      exact hK
    case body =>
      rintro l pre x W ⟨⟨⟨hR,hall⟩,hW,_⟩,hB⟩ hlt
      have hcR:=hR.cell
      have hfR:=hR.frozen
      have hcW:=hW.cell
      gi_wp2
      all_goals first
        | exact ⟨KeepsOthers.setCell _ _ _,⟨hR.set _,rfl,x,by simp,by assumption⟩,hB.setCell (p:=⟨w.heap.size+1,0,none⟩) (by simp) _⟩
        | exact ⟨KeepsOthers.setCell _ _ _,⟨hR.set _,rfl,x,by simp,by intro e;simp_all⟩,hB.setCell (p:=⟨w.heap.size+1,0,none⟩) (by simp) _⟩
        | exact ⟨KeepsOthers.refl _,Below.refl _ _,⟨⟨hR,HALL.out pre x hall (by assumption)⟩,hW,trivial⟩,hB⟩
        | exact ⟨KeepsOthers.refl _,Below.refl _ _,⟨⟨hR,HALL.out pre x hall (by simp_all)⟩,hW,trivial⟩,hB⟩
    case done =>
      rintro D ys W hD rfl ⟨⟨⟨hR,hall⟩,hW,_⟩,hB⟩ hK
      have hcR:=hR.cell
      have hfR:=hR.frozen
      gi_wp2
      have hK':=(KeepsOthers.setCell W ⟨w.heap.size+1,0,none⟩ (.bool true)).same D _ hK rfl
      refine ⟨by simp,.inl ⟨_,_,rfl,run_takeDeferred hK',?_⟩⟩
      have hc5:=(box_done (hR.set (.bool true)) hK').cell
      refine ⟨.bool true,?_,by rw [HT.out hall],(hB.setCell (p:=⟨w.heap.size+1,0,none⟩) (by simp) _).trans (belowK_b (w:=w) (Nat.le_refl _) _ D _ _ (Nat.le_trans HB1.out.size hD) hK' rfl rfl)⟩
      simp [results,Tryz.f141,go_sem,hc5]
    case stop =>
      rintro D c pre W hD hpre ⟨⟨hR,rfl,y,hy,hne⟩,hB⟩ hK
      gi_wp2
      refine ⟨by simp,.inl ⟨_,_,rfl,run_takeDeferred hK,?_⟩⟩
      have hc5:=(box_done hR hK).cell
      refine ⟨.bool false,?_,by rw [HF.out y (hpre.subset hy) hne],hB.trans (belowK_b (w:=w) (Nat.le_refl _) _ D _ _ (Nat.le_trans HB1.out.size hD) hK rfl rfl)⟩
      simp [results,Tryz.f141,go_sem,hc5]
  · skip
    gi_wp2_with (refine ⟨trivial,?_⟩;gi_at_call 146;go_loud (refine (callsIn_wide.2 (HKT.out _ (BX.out _ _).2.2)).mono ?_);rintro e w1 ⟨lb,rfl,hb1,hs1⟩)
    have HB1:=Lib.hid ((BX.out _ _).2.2.trans (hb1.mono (BX.out _ _).2.2.size))
    have bR:Boxed w1 (w.heap.size+1) 4 (.bool false):=(hb1.block _ (BX.out _ _).1.lt).trans (BX.out _ _).1
    have bW:Boxed w1 (w.heap.size+1+1) 3 (.int .i64 wa):=(hb1.block _ (BX.out _ _).2.1.lt).trans (BX.out _ _).2.1
    clear hb1
    obtain ⟨g0,lb0,hg0,_,hst⟩:=hs1
    obtain ⟨rfl,rfl⟩ : g0=197∧lb0=lb:=by
      have:=hg0.symm;simpa using this
    clear hg0
    refine wpIn_rangeFunc_ownF rfl (by omega) (gf:=197) (lb:=lb0) rfl trivial enters_kt (hst _ (by omega)) belowK_t (belowK_b (Nat.le_refl _)) (Below.refl _ _) (fun _=>rfl)
      (fun pre W=>((Boxed W (w.heap.size+1) 4 (.bool false)∧∀ y ∈ pre,y=wa)∧(Boxed W (w.heap.size+1+1) 3 (.int .i64 wa)∧True))∧Below w.heap.size w W)
      (fun c pre W=>(Boxed W (w.heap.size+1) 4 (.bool false)∧(c=.ret∧∃ y ∈ pre,y≠wa))∧Below w.heap.size w W)
      (OwnFrom.and (OwnFrom.and (box_from _ _ _ _ _) (box_from _ _ _ _ _)) (ownFrom_below (Nat.le_refl _) HB1.out.size))
      (fun c=>OwnFrom.and (box_from _ _ _ _ _) (ownFrom_below (Nat.le_refl _) HB1.out.size))
      ⟨⟨⟨bR,by simp⟩,bW,trivial⟩,HB1.out⟩ ?a2 ?assign2 ?body2 ?done2 ?stop2
    case assign2 =>
      intro l x W K hK
      gi_wp2
      exact hK
    case body2 =>
      rintro l pre x W ⟨⟨⟨hR,hall⟩,hW,_⟩,hB⟩ hlt
      have hcR:=hR.cell
      have hfR:=hR.frozen
      have hcW:=hW.cell
      gi_wp2
      all_goals first
        | exact ⟨KeepsOthers.setCell _ _ _,⟨hR.set _,rfl,x,by simp,by assumption⟩,hB.setCell (p:=⟨w.heap.size+1,0,none⟩) (by simp) _⟩
        | exact ⟨KeepsOthers.setCell _ _ _,⟨hR.set _,rfl,x,by simp,by intro e;simp_all⟩,hB.setCell (p:=⟨w.heap.size+1,0,none⟩) (by simp) _⟩
        | exact ⟨KeepsOthers.refl _,Below.refl _ _,⟨⟨hR,HALL.out pre x hall (by assumption)⟩,hW,trivial⟩,hB⟩
        | exact ⟨KeepsOthers.refl _,Below.refl _ _,⟨⟨hR,HALL.out pre x hall (by simp_all)⟩,hW,trivial⟩,hB⟩
    case done2 =>
      rintro D ys W hD rfl ⟨⟨⟨hR,hall⟩,hW,_⟩,hB⟩ hK
      have hcR:=hR.cell
      have hfR:=hR.frozen
      gi_wp2
      have hK':=(KeepsOthers.setCell W ⟨w.heap.size+1,0,none⟩ (.bool true)).same D _ hK rfl
      refine ⟨by simp,.inl ⟨_,_,rfl,run_takeDeferred hK',?_⟩⟩
      have hc5:=(box_done (hR.set (.bool true)) hK').cell
      refine ⟨.bool true,?_,by rw [HT.out hall],(hB.setCell (p:=⟨w.heap.size+1,0,none⟩) (by simp) _).trans (belowK_b (w:=w) (Nat.le_refl _) _ D _ _ (Nat.le_trans HB1.out.size hD) hK' rfl rfl)⟩
      simp [results,Tryz.f141,go_sem,hc5]
    case stop2 =>
      rintro D c pre W hD hpre ⟨⟨hR,rfl,y,hy,hne⟩,hB⟩ hK
      gi_wp2
      refine ⟨by simp,.inl ⟨_,_,rfl,run_takeDeferred hK,?_⟩⟩
      have hc5:=(box_done hR hK).cell
      refine ⟨.bool false,?_,by rw [HF.out y (hpre.subset hy) hne],hB.trans (belowK_b (w:=w) (Nat.le_refl _) _ D _ _ (Nat.le_trans HB1.out.size hD) hK rfl rfl)⟩
      simp [results,Tryz.f141,go_sem,hc5]
end
end Ty
end
section
namespace Ty
open Go.RowKit Go.Shelf
open Tr Sc
attribute [local go_sem] Oper.semAt_some

/-- a function value that hands nodes on -/
def SeqA (n:Nat) (w:World) (v:Value) (ks:List Nat):Prop :=
  ∃ g lb,v=.func (.func g) #[] lb∧(∀ args w,(callFunc g args).run Tryz.prog w=.ok (.enter g args) w)∧∃ xs:List { x:Nat // x<n },xs.map (·.1)=ks ∧
    ∀ m,6≤m→SeqStopsK Fence.wide m Tryz.prog g lb (fun x : { x:Nat // x<n }=>#[Value.int .i64 (x.1:Int)]) (Below w.heap.size) (fun ys=>ys=xs) (fun pre=>pre <+: xs) xs.length w
theorem outs_lt {l:List Nd}(hp:∀ y,y<l.length→(parF l).getD y (-1) = -1∨∃ z:Nat,(parF l).getD y (-1)=(z:Int)∧y<z∧z<l.length):∀ (f:Nat) (v:Int),(v = -1∨∃ z:Nat,v=(z:Int)∧z<l.length)→∀ x ∈ outs (parF l) f v,x<l.length:=by
  intro f
  induction f with
  | zero=>intro v _ x hx;cases hx
  | succ f ih =>
    intro v hv x hx
    rcases hv with rfl | ⟨z,rfl,hz⟩
    · rw [outs_neg (by decide)] at hx;cases hx
    · rw [outs_pos] at hx
      rcases List.mem_cons.1 hx with rfl | hx
      · exact hz
      · refine ih _ ?_ x hx
        rcases hp z hz with e | ⟨y,e,_,h2⟩
        · exact Or.inl e
        · exact Or.inr ⟨y,e,h2⟩
theorem outs_sub {l:List Nd}(hp:∀ y,y<l.length→(parF l).getD y (-1) = -1∨∃ z:Nat,(parF l).getD y (-1)=(z:Int)∧y<z∧z<l.length) {k:Nat}(hk:k<l.length):∃ xs:List { x:Nat // x<l.length },xs.map (·.1)=outsF l k:=by
  have hall:∀ x ∈ outsF l k,x<l.length:=by
    unfold outsF
    refine outs_lt hp _ _ ?_
    rcases hp k hk with e | ⟨y,e,_,h2⟩
    · exact Or.inl e
    · exact Or.inr ⟨y,e,h2⟩
  refine ⟨(outsF l k).pmap (fun x h=>⟨x,h⟩) hall,?_⟩
  rw [List.map_pmap]
  exact List.pmap_eq_self.2 (fun _ _=>rfl)
section
variable {w:World}{l:List Nd}{p:Option Addr}{cap C N P T:Nat}{ns fs:List Int}
set_option maxRecDepth 100000 in
set_option maxHeartbeats 4000000 in
theorem ar_stopsA (h:Ck w l p cap C N P T ns fs) (hp:∀ y,y<l.length→(parF l).getD y (-1) = -1∨∃ z:Nat,(parF l).getD y (-1)=(z:Int)∧y<z∧z<l.length) (hl:l.length≤600) {k Bk Bc:Nat}(hk:k<l.length) (hn:Blk w Bk 3 #[.int .i64 k]) (hc:Blk w Bc 114 #[.pointer (some ⟨C,0,none⟩)]) :
    SeqA l.length w (.func (.func 231) #[] #[.pointer (some ⟨Bc,0,none⟩),.pointer (some ⟨Bk,0,none⟩)]) (outsF l k):=by
  obtain ⟨xs,hxs⟩:=outs_sub hp hk
  refine ⟨_,_,rfl,enters_ar,xs,hxs,fun n hn6 l0 J Jx W hW hJ hJx hY h0=>?_⟩
  have b4:W.cell? ⟨Bk,0,none⟩=some (.int .i64 k):=by rw [(hn.below hW hn.lt).cell];rfl
  have bc0:∀ wr,Below w.heap.size w wr→wr.cell? ⟨Bc,0,none⟩=some (.pointer (some ⟨C,0,none⟩)):=fun wr hb=>by rw [(hc.below hb hc.lt).cell];rfl
  have bC2:∀ wr,Below w.heap.size w wr→wr.cell? ⟨C,2,none⟩=some (.slice (some ⟨P,0,none⟩) l.length l.length):=fun wr hb=>by rw [(h.chk.below hb h.chk.lt).cell];rfl
  have bP:∀ wr,Below w.heap.size w wr→∀ x,x<l.length→wr.cell? ⟨P,x,none⟩=some (.int .i64 ((parF l).getD x (-1))):=fun wr hb x hx=>by
    rw [(h.par.below hb h.par.lt).cell,intA_get (by rw [h.plen];exact hx)]
    unfold iAt
    rw [Int.toNat_natCast]
    simp [List.getElem?_eq_getElem (show x<(parF l).length by rw [h.plen];exact hx)]
  have hrem:∀ x,x<l.length→Rem l.length (l.length-x-1) ((parF l).getD x (-1)):=fun x hx=>by
    rcases hp x hx with e | ⟨z,e,h1,h2⟩
    · exact Or.inl e
    · exact Or.inr ⟨z,e,h2,by omega⟩
  have hxs0:xs.map (·.1)=outs (parF l) (l.length-k-1) ((parF l).getD k (-1)):=by
    rw [hxs]
    unfold outsF
    rcases hp k hk with e | ⟨z,e,h1,h2⟩
    · rw [e,outs_neg (by decide),outs_neg (by decide)]
    · rw [e]
      exact outs_more hp (l.length-z) z _ _ rfl h2 (by omega) (by omega)
  obtain ⟨ps,hps⟩ : ∃ ps,ps=parF l:=⟨_,rfl⟩
  rw [← hps] at hrem hxs0
  have e0:=bc0 W hW
  have e2:=bC2 W hW
  have e3:=bP W hW k (by omega)
  rw [← hps] at e3
  have HY:=Lib.hid hY
  have HJ:=Lib.hid hJ
  have B0:=Lib.hid bc0
  have B3:=Lib.hid bC2
  have BP:=Lib.hid bP
  have HPS:=Lib.hid hps
  have HREM:=Lib.hid hrem
  have H0:=Lib.hid (hrem k hk)
  obtain ⟨v0,hv0⟩ : ∃ v0,v0=ps.getD k (-1):=⟨_,rfl⟩
  rw [← hv0] at e3 hxs0 H0
  have HX0:=Lib.hid hxs0
  clear hn hxs hY bc0 bC2 bP hps h hc hJ hJx hp hrem hxs0 hv0
  refine callsIn_of_wp Tryz.func231 rfl trivial ?_ rfl
  simp only [Tryz.ntmps231,List.size_toArray,List.length_cons,List.length_nil,Nat.reduceAdd,Nat.reduceSub,Array.replicate_succ,Array.replicate_zero,List.push_toArray,List.append_toArray,List.nil_append,List.cons_append]
  gi_wp2
  gi_region
  gi_wp2
  gi_loopw [4] (fun v wr=>∃ (pre rest:List { x:Nat // x<l.length }) (x:Int) (f:Nat),v=.int .i64 x∧Rem l.length f x∧Hid (xs=pre ++ rest∧rest.map (·.1)=outs ps f x)∧Below w.heap.size w wr∧J pre wr) (fun v _=>if intOf v<0 then 0 else l.length-(intOf v).toNat)
  case atStart=>exact ⟨[],xs,v0,_,rfl,H0.out,Lib.hid ⟨by simp,HX0.out⟩,hW.trans (Below.refl _ _).drew,HJ.out _ _ _ none h0 ⟨rfl,rfl,rfl,Nat.le_refl _,fun _ _ _=>rfl⟩ (fun r e=>by cases e)⟩
  case round =>
    obtain ⟨pre,rest,x,f,rfl,hx,HX,hb,hJs⟩:=hrel
    rcases hx with rfl | ⟨z,rfl,hz,hzf⟩
    · have:pre=xs:=by obtain ⟨e1,e2⟩:=HX.out;rw [outs_neg (by decide)] at e2;rw [e1,List.map_eq_nil_iff.1 e2];simp
      rw [this] at hJs
      clear this
      gi_wp2
      (try go_end0)
      exact ⟨⟨_,rfl⟩,.inl ⟨xs,rfl,hJs⟩⟩
    · obtain ⟨f,rfl⟩ : ∃ g,f=g+1:=⟨f-1,by omega⟩
      obtain ⟨r2,hr2⟩ : ∃ r2,rest=⟨z,hz⟩ :: r2∧r2.map (·.1)=outs ps f (ps.getD z (-1)):=by
        obtain ⟨e1,e2⟩:=HX.out
        rw [outs_pos] at e2
        cases rest with
        | nil=>cases e2
        | cons y r2 =>
          simp only [List.map_cons,List.cons.injEq] at e2
          obtain ⟨e3,e4⟩:=e2
          exact ⟨r2,by congr 1;exact Subtype.ext e3,e4⟩
      have HX2:Hid (xs=(pre ++ [⟨z,hz⟩]) ++ r2∧r2.map (·.1)=outs ps f (ps.getD z (-1))):=Lib.hid ⟨by rw [HX.out.1,hr2.1];simp,hr2.2⟩
      have hlen:pre.length<xs.length:=by rw [HX2.out.1];simp
      clear hr2
      obtain ⟨fn,tmps,assign,body,hy,hR⟩:=HY.out pre ⟨z,hz⟩ wr hJs hlen
      gi_wp2
      refine ⟨fun _=>by omega,hR.mono ?_⟩
      rintro e W3 (⟨rfl,hJ3,hk3⟩ | ⟨rfl,hJx3⟩)
      · have hb3:=hb.trans hk3
        have d0:=B0.out W3 hb3
        have d2:=B3.out W3 hb3
        have d3:=BP.out W3 hb3 z hz
        rw [← HPS.out] at d3
        have hr:=HREM.out z hz
        obtain ⟨v1,hv1⟩ : ∃ v1,v1=ps.getD z (-1):=⟨_,rfl⟩
        rw [← hv1] at d3 HX2 hr
        have HR:=Lib.hid hr
        have hm0:(if v1<0 then 0 else l.length-v1.toNat)<l.length-z:=by
          rcases hr with e | ⟨y,e,h1,h2⟩
          · rw [e,if_pos (by decide)];omega
          · rw [e,if_neg (by omega),Int.toNat_natCast];omega
        have hr3:Rem l.length f v1:=by
          rcases hr with e | ⟨y,e,h1,h2⟩
          · exact Or.inl e
          · exact Or.inr ⟨y,e,h1,by omega⟩
        have hm:=Lib.hid hm0
        have hr2:=Lib.hid hr3
        clear hm0 hr3
        clear hv1 hr
        gi_wp2
        all_goals (try gi_wp2)
        go_roundw
        case rel=>exact ⟨pre ++ [⟨z,hz⟩],r2,v1,f,rfl,hr2.out,HX2,hb3,hJ3⟩
        case measure =>
          have h1:=hm.out
          show (if v1<0 then 0 else l.length-v1.toNat)<(if (z:Int)<0 then 0 else l.length-(z:Int).toNat)
          have h2:¬ (z:Int)<0:=by omega
          rw [if_neg h2,Int.toNat_natCast];exact h1
      · gi_wp2
        refine bodyPost_ret (results_none rfl _ _ _) rfl ?_
        exact ⟨⟨_,rfl⟩,.inr ⟨pre ++ [⟨z,hz⟩],⟨_,HX2.out.1.symm⟩,hJx3⟩⟩
theorem around_seqA (h:Ck w l p cap C N P T ns fs) (hp:∀ y,y<l.length→(parF l).getD y (-1) = -1∨∃ z:Nat,(parF l).getD y (-1)=(z:Int)∧y<z∧z<l.length) (hl:l.length≤600) {k:Nat}(hk:k<l.length) :
    Calls Tryz.prog 194 #[.pointer (some ⟨C,0,none⟩),.int .i64 k] w fun e w'=>∃ lb,e=.returned (.func (.func 231) #[] lb)∧Below w.heap.size w w'∧SeqA l.length w' (.func (.func 231) #[] lb) (outsF l k) :=
  (around_any C k w).mono fun e w' he=>by
    obtain ⟨rfl,rfl⟩:=he
    have hB:Below w.heap.size w ((w.alloc (.cells #[.pointer (some ⟨C,0,none⟩)] 114)).alloc (.cells #[.int .i64 k] 3)):=((Below.refl _ _).alloc (Nat.le_refl _) _).alloc (by simp) _
    refine ⟨_,rfl,hB,ar_stopsA (h.below hB) hp hl hk ?_ ((Blk.new _ _ _).alloc _)⟩
    have:=Blk.new (w.alloc (.cells #[.pointer (some ⟨C,0,none⟩)] 114)) 3 #[.int .i64 (k:Int)]
    rw [World.size_alloc] at this
    exact this
end
end Ty
end
section
namespace Ty
open Go.RowKit Go.Shelf

section
variable {P:Program}{ops:Array Oper}{md:Region.Mode}{w:World}{lr n:Nat}
theorem Oper.wpIn_of_still {o:Oper}{a:Act}{K:Act→Prop}{K':Act→World→Prop}{Q':Exit→Act→World→Prop}(hd:∀ c,o.op≠.defer c) (h:∀ a,K a→K' a w) (hh:o.still P a w K):o.wpIn (Fence.wide.inRound lr) n P a w K' Q':=by
  unfold Oper.still at hh
  refine ⟨fun _ _=>trivial,?_⟩
  rw [Oper.semAt_eq _ _ _ hd]
  generalize (execOp a.eval o).run P w=r at *
  cases r with
  | ok m w' =>
    cases m <;> simp only [Oper.stillUpon] at hh <;> simp only [Oper.uponIn]
    case enter f args =>
      obtain ⟨rfl,v,hc,hn⟩:=hh
      refine ⟨(fun h=>by cases h),CallsIn.inRound lr (callsIn_wide.2 (hc.mono fun e w'' he=>?_))⟩
      obtain ⟨rfl,rfl⟩:=he
      exact h _ hn
    all_goals (obtain ⟨rfl,h2⟩:=hh;exact h _ h2)
  | halt x w'=>simp only [Oper.stillUpon] at hh
theorem wpOpIn_of_stOp {i:Nat}{a:Act}{K:Act→Prop}{K':Act→World→Prop}{Q':Exit→Act→World→Prop}(hd:∀ (o:Oper) (c:Call),ops[i]? = some o→o.op≠.defer c) (h:∀ a,K a→K' a w) (hh:stOp P ops w i K a):wpOpIn (Fence.wide.inRound lr) n P ops Q' i K' a w:=by
  unfold stOp at hh
  unfold wpOpIn
  split
  · rename_i ho;simp only [ho] at hh;exact h _ hh
  · rename_i o ho
    simp only [ho] at hh
    split
    · rename_i hw;simp only [hw,if_true] at hh;exact Oper.wpIn_of_still (fun c=>hd o c ho) h hh
    · rename_i hw;simp only [hw] at hh;exact ⟨fun _ _=>trivial,h _ hh⟩
theorem wpAnyIn_of_still {Q:Act→Prop}{Q':Exit→Act→World→Prop}(hd:∀ (i:Nat) (o:Oper) (c:Call),ops[i]? = some o→o.op≠.defer c) (hQ:∀ a,Q a→Q' .normal a w):∀ (fuel:Nat) (listed:Array Bool) (a:Act),
    wpAnyS P md ops w Q fuel listed a→wpAnyIn (Fence.wide.inRound lr) n P md ops Q' fuel listed a w
  | 0,_,_,h=>⟨h.1,hQ _ h.2⟩
  | fuel+1,_,_,h=>⟨fun h0=>hQ _ (h.1 h0),fun i hi=>wpOpIn_of_stOp (hd i) (fun a'=>wpAnyIn_of_still hd hQ fuel _ a') (h.2 i hi)⟩
def noDefer (l:List Oper):Bool:=l.all fun o=>match o.op with | .defer _=>false | _=>true
theorem noDefer_spec {l:List Oper}(h:noDefer l=true):∀ (i:Nat) (o:Oper) (c:Call),l.toArray[i]? = some o→o.op≠.defer c:=fun i o c hi e=>by
  have hm:o ∈ l:=by rw [List.getElem?_toArray] at hi;exact List.mem_of_getElem? hi
  have:=List.all_eq_true.1 h o hm
  rw [e] at this;cases this
theorem wpIn_region_still_lit {id:Nat}{Q:Exit→Act→World→Prop}{a:Act}{l:List Oper}(hm:P.follows .mixedOrders=true) (hB:Region.lexB .any l.toArray=true) (hd:noDefer l=true)
    (h:wpStill P l.toArray { w with drawn:=w.drawn+1 } (fun a'=>Q .normal a' { w with drawn:=w.drawn+1 }) l a):(Code.region id l.toArray true).wpIn (Fence.wide.inRound lr) n P Q a w:=by
  simp only [Region.lexB,Bool.and_eq_true] at hB
  refine wpIn_region_any hm (wpAnyIn_of_still (noDefer_spec hd) (Q:=fun a'=>Q .normal a' { w with drawn:=w.drawn+1 }) (fun _ h=>h) _ _ _ ?_)
  have:=wpAnyS_lex (md:=.any) hB.1 l 0 (Array.replicate l.toArray.size false) a (by simp) (by simpa using hB.2) h
  simpa using this
theorem still_skip {Q:Act→Prop}{a:Act}{o:Oper}{rest:List Oper}(hw:Region.wanted o (yielded ops a.tmps)=false) (h:wpStill P ops w Q rest (a.put o.dst undef)):wpStill P ops w Q (o :: rest) a :=
  wpStill_step (fun K hK=>by rw [hw];exact hK _ h)
end
end Ty
end
section
namespace Ty
open Go.RowKit Go.Shelf
open Tr Sc
attribute [local go_sem] Oper.semAt_some

section
variable {w:World}{l:List Nd}{p:Option Addr}{cap C N P T:Nat}{ns fs:List Int}
theorem ko_below {W W':World}(h:Below W.heap.size W W'):KeepsOthers W W':=⟨h.size,fun k o hk _=>(h.block k (Array.getElem?_eq_some_iff.1 hk).1).trans hk⟩
theorem boxBel {W W':World}{B:Nat}{t:TypeId}{v:Value}(h:Boxed W B t v) (hb:Below W.heap.size W W'):Boxed W' B t v:=(hb.block B h.lt).trans h
/-- what is found first, with what is ahead of it -/
theorem find_ahead {α:Type}{q:α→Bool}{pre rest:List α}{x:α}(h:∀ y ∈ pre,q y=false) (hx:q x=true):((pre ++ [x]) ++ rest).find? q=some x:=by
  rw [List.append_assoc,List.find?_append,List.find?_eq_none.2 (fun y hy=>by rw [h y hy];simp)]
  simp [hx]
set_option maxRecDepth 100000 in
set_option maxHeartbeats 8000000 in
theorem inside_any (h:Ck w l p cap C N P T ns fs) (hp:∀ y,y<l.length→(parF l).getD y (-1) = -1∨∃ z:Nat,(parF l).getD y (-1)=(z:Int)∧y<z∧z<l.length) (hl:l.length≤600) {k:Nat}(hk:k<l.length) {q:Option Addr}{d:Nat}{ks:List Int}(hKs:KidsAt w q ks) (hks:ks.length≤1000000) :
    Calls Tryz.prog 144 #[.pointer (some ⟨C,0,none⟩),.int .i64 k,.slice q ks.length d] w fun e w'=>e=.returned (.int .i64 (if inB l k ks=true then 0 else 11))∧Below w.heap.size w w':=by
  have HAR:Hid (∀ V,Below w.heap.size w V→Calls Tryz.prog 194 #[.pointer (some ⟨C,0,none⟩),.int .i64 k] V fun e w'=>∃ lb,e=.returned (.func (.func 231) #[] lb)∧Below V.heap.size V w'∧SeqA l.length w' (.func (.func 231) #[] lb) (outsF l k)):=fun V hV=>around_seqA (h.below hV) hp hl hk
  have HCT:Hid (∀ V,Below w.heap.size w V→∀ v,Calls Tryz.prog 195 #[.slice q ks.length d,.int .i64 v] V fun e w'=>e=.returned (.bool (ks.contains v))∧w' = V):=fun V hV v=>contains_still (hKs.below hV) hks
  obtain ⟨b,o,rfl,hbw,hN⟩:=h.node hk
  have HC0:Hid (∀ V,Below w.heap.size w V→V.cell? ⟨C,0,none⟩=some (.slice (some ⟨b,o,none⟩) l.length cap)):=Lib.hid (fun V hV=>by rw [(h.chk.below hV h.chk.lt).cell];rfl)
  have HKD:Hid (∀ V,Below w.heap.size w V→∀ x,x<l.length→V.cell? ⟨b,o+x * 6,none⟩=some (.int .i64 (kindAt l x))):=Lib.hid (fun V hV x hx=>by rw [kindAt_get hx];exact (hN V hV x hx).1)
  obtain ⟨r,hr⟩ : ∃ r,r=inB l k ks:=⟨_,rfl⟩
  have HR:=Lib.hid hr
  rw [← hr]
  obtain ⟨res,hres⟩ : ∃ res:Int,res=if r=true then 0 else 11:=⟨_,rfl⟩
  rw [← hres]
  have HRES:=Lib.hid hres
  clear hres
  obtain ⟨kn,hkn⟩ : ∃ kn,kn=ks.length:=⟨_,rfl⟩
  rw [← hkn] at HCT ⊢
  clear h hp hk hKs hks hN hr hkn hbw
  refine (callsIn_wide (n:=20)).1 ?_
  refine callsIn_of_wp_marks Tryz.func144 rfl trivial ?_ rfl
  simp only [Tryz.ntmps144,List.size_toArray,List.length_cons,List.length_nil,Nat.reduceAdd,Nat.reduceSub,Array.replicate_succ,Array.replicate_zero,List.push_toArray,List.append_toArray,List.nil_append,List.cons_append]
  have BX:Hid (∀ u v x,Boxed (((w.alloc (.cells #[u] 114)).alloc (.cells #[v] 32)).alloc (.cells #[x] 3)) w.heap.size 114 u∧Boxed (((w.alloc (.cells #[u] 114)).alloc (.cells #[v] 32)).alloc (.cells #[x] 3)) (w.heap.size+1) 32 v∧Boxed (((w.alloc (.cells #[u] 114)).alloc (.cells #[v] 32)).alloc (.cells #[x] 3)) (w.heap.size+1+1) 3 x∧Below w.heap.size w (((w.alloc (.cells #[u] 114)).alloc (.cells #[v] 32)).alloc (.cells #[x] 3))):=Lib.hid (fun u v x=>by
    refine ⟨((Boxed.new w _ _).alloc _).alloc _,?_,?_,?_⟩
    · have:=(Boxed.new (w.alloc (.cells #[u] 114)) 32 v).alloc (.cells #[x] 3)
      rw [World.size_alloc] at this;exact this
    · have:=Boxed.new ((w.alloc (.cells #[u] 114)).alloc (.cells #[v] 32)) 3 x
      rw [World.size_alloc,World.size_alloc] at this;exact this
    · exact (((Below.refl _ _).alloc (Nat.le_refl _) _).alloc (by simp) _).alloc (by simp;omega) _)
  gi_wp2_with (refine ⟨trivial,?_⟩;gi_at_call 194;go_loud (refine (callsIn_wide.2 (HAR.out _ (BX.out _ _ _).2.2.2)).mono ?_);rintro e w1 ⟨lb,rfl,hb1,hs1⟩)
  have HB1:=Lib.hid ((BX.out _ _ _).2.2.2.trans (hb1.mono (BX.out _ _ _).2.2.2.size))
  have bC:Boxed w1 w.heap.size 114 (.pointer (some ⟨C,0,none⟩)):=(hb1.block _ (BX.out _ _ _).1.lt).trans (BX.out _ _ _).1
  have bK:Boxed w1 (w.heap.size+1) 32 (.slice q kn d):=(hb1.block _ (BX.out _ _ _).2.1.lt).trans (BX.out _ _ _).2.1
  have bR:Boxed w1 (w.heap.size+1+1) 3 (.int .i64 0):=(hb1.block _ (BX.out _ _ _).2.2.1.lt).trans (BX.out _ _ _).2.2.1
  clear hb1
  obtain ⟨g0,lb0,hg0,_,xs,hxs,hst⟩:=hs1
  obtain ⟨rfl,rfl⟩ : g0=231∧lb0=lb:=by
    have:=hg0.symm;simpa using this
  have HXS:=Lib.hid hxs
  clear hg0 hxs
  refine wpIn_rangeFunc_ownF rfl (by omega) (gf:=231) (lb:=lb0) rfl trivial enters_ar (hst _ (by omega)) belowK_t (belowK_b (Nat.le_refl _)) (Below.refl _ _) (fun _=>rfl)
    (fun pre W=>(Boxed W (w.heap.size+1+1) 3 (.int .i64 0)∧∀ y ∈ pre,ks.contains (kindAt l y.1)=false)∧Below w1.heap.size w1 W)
    (fun c pre W=>(Boxed W (w.heap.size+1+1) 3 (.int .i64 0)∧(c=.ret∧∃ y ∈ pre,ks.contains (kindAt l y.1)=true))∧Below w.heap.size w W)
    (OwnFrom.and (box_from _ _ _ _ _) (ownFrom_below (Nat.le_refl _) (Nat.le_refl _)))
    (fun c=>OwnFrom.and (box_from _ _ _ _ _) (ownFrom_below (Nat.le_refl _) HB1.out.size))
    ⟨⟨bR,by simp⟩,Below.refl _ _⟩ ?a1 ?assign ?body ?done ?stop
  case assign =>
    intro l x W K hK
    gi_wp2
    exact hK
  case body =>
    rintro lc pre ⟨x,hx⟩ W ⟨⟨hR,hall⟩,hB⟩ hlt
    have hBw:=HB1.out.trans (hB.mono HB1.out.size)
    have hcC:=(hB.cell (p:=⟨w.heap.size,0,none⟩) bC.lt).trans bC.cell
    have hcK:=(hB.cell (p:=⟨w.heap.size+1,0,none⟩) bK.lt).trans bK.cell
    have hfR:=hR.frozen
    have hcR:=hR.cell
    have hc0:=HC0.out W hBw
    have hkd:=HKD.out W hBw x hx
    have hmx:Tryz.prog.follows .mixedOrders=true:=by kernel_rfl
    obtain ⟨kd,hkdd⟩ : ∃ kd,kd=kindAt l x:=⟨_,rfl⟩
    rw [← hkdd] at hkd
    have HKDD:=Lib.hid hkdd
    have HBD:=Lib.hid hBw.drew
    have HR2:=Lib.hid hR
    have HALL:=Lib.hid hall
    have HBB:=Lib.hid hB
    have HBW:=Lib.hid hBw
    obtain ⟨c,hc⟩ : ∃ c,c=ks.contains kd:=⟨_,rfl⟩
    have HCC:=Lib.hid hc
    have HCV:Hid (∀ V,Below w.heap.size w V→Calls Tryz.prog 195 #[.slice q kn d,.int .i64 kd] V fun e w'=>e=.returned (.bool c)∧w' = V):=Lib.hid (fun V hV=>by rw [hc];exact HCT.out V hV kd)
    obtain ⟨nn,hnn⟩ : ∃ nn,nn=l.length:=⟨_,rfl⟩
    rw [← hnn] at hc0
    have hxn:x<nn:=by omega
    have hl6:nn≤600:=by omega
    have HW0:Hid (Below W.heap.size W W.drew):=(Below.refl _ _).drew
    clear hkdd hc hB hBw hall hR hnn
    cases c
    all_goals
      gi_wp2
      refine wpIn_region_still_lit hmx (by kernel_rfl) (by kernel_rfl) ?_
      repeat still_step
      refine wpStill_step (fun K hK=>?_)
      go_simp
      refine ⟨_,HCV.out W.drew HBD.out,hK _ ?_⟩
      clear hK K
      refine wpStill_nil ?_
      have hcR2:=(boxBel HR2.out HW0.out).cell
      have hfR2:=(boxBel HR2.out HW0.out).frozen
      gi_wp2
      first
        | exact ⟨(ko_below HW0.out).trans (KeepsOthers.setCell _ _ _),⟨(boxBel HR2.out HW0.out).set _,rfl,⟨x,hx⟩,by simp,by rw [← HKDD.out,← HCC.out]⟩,(HBW.out.drew).setCell (p:=⟨w.heap.size+1+1,0,none⟩) (by simp;omega) _⟩
        | exact ⟨ko_below HW0.out,HW0.out.mono HBB.out.size,⟨boxBel HR2.out HW0.out,fun y hy=>(List.mem_append.1 hy).elim (HALL.out y) (fun e=>by simp at e;subst e;rw [← HKDD.out,← HCC.out])⟩,HBB.out.drew⟩
  case done =>
    rintro D ys W hD rfl ⟨⟨hR,hall⟩,hB⟩ hK
    have hcR:=hR.cell
    have hfR:=hR.frozen
    gi_wp2
    have hK':=(KeepsOthers.setCell W ⟨w.heap.size+1+1,0,none⟩ (.int .i64 11)).same D _ hK rfl
    refine ⟨by simp,.inl ⟨_,_,rfl,run_takeDeferred hK',?_⟩⟩
    have hc5:=(box_done (hR.set (.int .i64 11)) hK').cell
    have hrf:r=false:=by
      rw [HR.out];unfold inB;rw [← HXS.out,Bool.eq_false_iff]
      intro h2
      obtain ⟨y,hy,hc⟩:=List.any_eq_true.1 h2
      obtain ⟨z,hz,rfl⟩:=List.mem_map.1 hy
      rw [hall z hz] at hc;cases hc
    have hBw:=HB1.out.trans (hB.mono HB1.out.size)
    refine ⟨.int .i64 11,?_,by rw [HRES.out,hrf];rfl,(hBw.setCell (p:=⟨w.heap.size+1+1,0,none⟩) (by simp;omega) _).trans (belowK_b (w:=w) (Nat.le_refl _) _ D _ _ (Nat.le_trans HB1.out.size hD) hK' rfl rfl)⟩
    simp [results,Tryz.f144,go_sem,hc5]
  case stop =>
    rintro D c pre W hD hpre ⟨⟨hR,rfl,y,hy,hne⟩,hB⟩ hK
    gi_wp2
    refine ⟨by simp,.inl ⟨_,_,rfl,run_takeDeferred hK,?_⟩⟩
    have hc5:=(box_done hR hK).cell
    have hrt:r=true:=by
      rw [HR.out];unfold inB;rw [← HXS.out]
      exact List.any_eq_true.2 ⟨y.1,List.mem_map.2 ⟨y,hpre.subset hy,rfl⟩,hne⟩
    refine ⟨.int .i64 0,?_,by rw [HRES.out,hrt];rfl,hB.trans (belowK_b (w:=w) (Nat.le_refl _) _ D _ _ (Nat.le_trans HB1.out.size hD) hK rfl rfl)⟩
    simp [results,Tryz.f144,go_sem,hc5]
end
end Ty
end
end Go.Proofs.YtdjpopebeenlmaaGreatDoor
