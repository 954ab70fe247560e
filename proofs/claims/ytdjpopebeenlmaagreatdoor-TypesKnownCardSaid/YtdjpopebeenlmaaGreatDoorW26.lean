/-
  Joined texts of this claim: Sn, Sob, Sog, Soh, Ya, Yb.
-/
import Derived.Test.YtdjpopebeenlmaaGreatDoorW00
import Derived.Test.YtdjpopebeenlmaaGreatDoorW25
import Derived.RegionTactic
import Derived.Deep.RegionHeld3
import Derived.Test.YtdjpopebeenlmaaGreatDoorW11
set_option maxHeartbeats 40000000
set_option maxRecDepth 100000
set_option linter.unusedVariables false
set_option linter.unusedSimpArgs false
namespace Go.Proofs.YtdjpopebeenlmaaGreatDoor
section
namespace Sc
open Go.RowKit
open Tr

/-- what names stand for, of a tree that is in its form -/
inductive Nm where
  | bad (c a:Int)
  | ok (fs:List Int)
def finF (l:List Nd):Rs→Nm
  | .ok _ W=>.ok (ov W (List.replicate l.length (-1)))
  | .bad c a=>.bad c a
  | .out=>.bad 0 0
def namesF (l:List Nd):Nm :=
  if kindAt l (l.length-1)≠1 then .bad 11 0 else match tops l (kidsAt l (l.length-1)) [] with
    | .ok E _=>finF l (look l l.length 0 (l.length-1) E)
    | .bad c a=>.bad c a
    | .out=>.bad 0 0
def NmIs (l:List Nd) (w:World):Nm→Ending→World→Prop
  | .bad c a,e,w'=>e=.returned (.tuple #[.slice none 0 0,.agg #[.int .i64 c,.int .i64 a]])∧Below w.heap.size w w'
  | .ok fs,e,w'=>∃ F,w.heap.size≤F∧e=.returned (.tuple #[.slice (some ⟨F,0,none⟩) l.length l.length,.agg #[.int .i64 0,.int .i64 0]])∧Below w.heap.size w w'∧Blk w' F 3 (intA fs)∧fs.length=l.length
def NmPost (l:List Nd) (w:World) (e:Ending) (w':World):Prop :=
  ∃ c a:Int,CkR l c a∧((c≠0∧NmIs l w (.bad c a) e w')∨(c=0∧NmIs l w (namesF l) e w'))
theorem ckr_zero {l:List Nd}{a:Int}(h:CkR l 0 a):1≤l.length∧l.length≤600∧(∀ j,j<l.length→codeAt l j=0)∧St l (l.length-1)=0∧Dp l (l.length-1)≤40:=by
  rcases h with ⟨_,h,_⟩ | ⟨h1,h2,h⟩
  · cases h
  · rcases h with ⟨i,_,_,hne,h,_⟩ | ⟨hall,h⟩
    · exact absurd h.symm hne
    · rcases h with ⟨_,h,_⟩ | ⟨h3,⟨_,h,_⟩ | ⟨h4,_,_⟩⟩
      · cases h
      · cases h
      · exact ⟨h1,h2,hall,h3,h4⟩
/-- what is declared at the top, in memory -/
structure UOk (l:List Nd) (N:Nat) (w:World) (E:Env) (U m:Nat):Prop where
  lo:N≤m
  blk:Blk w U 192 #[.pointer none,.map (some m)]
  map:∃ n,n≤E.length∧MapIs w m n (roomF l E 0)
  env:∀ x ∈ E,x.1<l.length∧x.2<1
theorem UOk.below {l:List Nd}{N U m:Nat}{w w':World}{E:Env}(h:UOk l N w E U m) (hb:Below w.heap.size w w'):UOk l N w' E U m:=by
  obtain ⟨n,h1,h2⟩:=h.map
  exact ⟨h.lo,h.blk.below hb h.blk.lt,⟨n,h1,h2.same (hb.block _ h2.lt)⟩,h.env⟩
theorem UOk.set {l:List Nd}{N U m B:Nat}{w:World}{E:Env}{cs:Array Value}{t:TypeId}(h:UOk l N w E U m) (hB:Blk w B t cs) (ht:192≠t) (k:Nat) (v:Value):UOk l N (w.setCell ⟨B,k,none⟩ v) E U m:=by
  obtain ⟨n,h1,h2⟩:=h.map
  exact ⟨h.lo,h.blk.far (p:=⟨B,k,none⟩) (fun e=>ht (by have:=h.blk;rw [e] at this;exact Blk.type this hB)) v,⟨n,h1,h2.same (Below.heap_setCell w ⟨B,k,none⟩ v _ (fun e=>by have e2:m=B:=e;subst e2;exact h2.not_blk hB))⟩,h.env⟩
theorem us_ok {l:List Nd}{w:World}{E:Env}{W:Wr}{e:Ending}{w':World}(h:UsPost l w (.ok E W) e w'):∃ U m,e=.returned (.tuple #[.pointer (some ⟨U,0,none⟩),.agg #[.int .i64 0,.int .i64 0]])∧Below w.heap.size w w'∧UOk l w.heap.size w' E U m:=by
  obtain ⟨U,m,n,h1,h2,h3,h4,h5,h6,h7⟩:=h
  exact ⟨U,m,h1,h2,h3,h4,⟨n,h5,h6⟩,h7⟩
theorem UOk.mono {l:List Nd}{N N' U m:Nat}{w:World}{E:Env}(h:UOk l N w E U m) (hN:N'≤N):UOk l N' w E U m:=⟨Nat.le_trans hN h.lo,h.blk,h.map,h.env⟩
/-- the search begins -/
theorem sm_start {l:List Nd}{w w8:World}{p:Option Addr}{cap R F U m:Nat}{E:Env}(hT:Tr w p l) (hb:Below w.heap.size w w8) (hF:w.heap.size≤F) (hu:UOk l w.heap.size w8 E U m)
    (hR:Blk w8 R 112 #[.slice p l.length cap,.pointer (some ⟨U,0,none⟩),.slice (some ⟨F,0,none⟩) l.length l.length]) (hFB:Blk w8 F 3 (intA (List.replicate l.length (-1)))) :
    Sm w w8 l p cap R F [(U,m)] E (List.replicate l.length (-1)) where
  tr0:=hT
  bel:=hb
  old := ⟨hF, fun r hr => by have e : r = 0 := by simpa using hr
                             subst e;exact hu.lo⟩
  res:=hR
  fnd:=hFB
  len:=by simp
  one := fun r hr => by have e : r = 0 := by simpa using hr
                        subst e;exact hu.blk
  map := fun r hr => by have e : r = 0 := by simpa using hr
                        subst e;exact hu.map
  sep:=fun r r' h h'=>by simp at h';omega
  env:=fun x hx=>by have:=hu.env x hx;exact this
theorem nolib_start (l:List Nd):NoLib l (List.replicate l.length (-1)):=fun k _ _ hk=>by simp [hk]
theorem undrew {B:Nat}{w w':World}(h:Below B w.drew w'):Below B w w':=⟨h.os,h.tape,h.output,h.size,h.block⟩
theorem past_new {w w':World}{o:Obj}(h:Below (w.alloc o).drew.heap.size (w.alloc o).drew w'):Below (w.alloc o).heap.size (w.alloc o) w':=undrew h
theorem past_old {w w':World}{o:Obj}(h:Below (w.alloc o).drew.heap.size (w.alloc o).drew w'):Below w.heap.size w w' :=
  ((Below.refl w.heap.size w).alloc (Nat.le_refl _) o).trans ((past_new h).mono (by simp))
theorem tops_code (l:List Nd):∀ (c:List Int) (E:Env) (a b:Int),tops l c E=.bad a b→a=12∨a=7:=by
  intro c
  induction c with
  | nil=>intro E a b h;cases h
  | cons x c ih =>
    intro E a b h
    simp only [tops] at h
    split at h
    · cases h;exact Or.inl rfl
    · unfold declF at h
      split at h
      · cases h;exact Or.inr rfl
      · change (tops l c _).pre _=_ at h
        cases h2:tops l c (E ++ [(x.toNat,0)]) with
        | out=>rw [h2] at h;cases h
        | ok a b=>rw [h2] at h;cases h
        | bad a b=>rw [h2] at h;cases h;exact ih _ _ _ h2
theorem tops_len (l:List Nd):∀ (c:List Int) (E E':Env) (W:Wr),tops l c E=.ok E' W→E'.length=E.length+c.length:=by
  intro c
  induction c with
  | nil=>intro E E' W h;cases h;rfl
  | cons x c ih =>
    intro E E' W h
    simp only [tops] at h
    split at h
    · cases h
    · unfold declF at h
      split at h
      · cases h
      · change (tops l c _).pre _=_ at h
        obtain ⟨W2,h2,_⟩:=pre_ok h
        have:=ih _ _ _ h2
        simp at this ⊢
        omega
theorem tops_out (l:List Nd):∀ (c:List Int) (E:Env),tops l c E≠.out:=by
  intro c
  induction c with
  | nil=>intro E h;cases h
  | cons x c ih =>
    intro E
    simp only [tops]
    split
    · intro h;cases h
    · unfold declF
      split
      · intro h;cases h
      · show (tops l c _).pre _≠_
        have:=ih (E ++ [(x.toNat,0)])
        cases h2:tops l c (E ++ [(x.toNat,0)]) with
        | out=>exact absurd h2 this
        | ok a b=>intro h;cases h
        | bad a b=>intro h;cases h
set_option maxHeartbeats 8000000 in
set_option maxRecDepth 100000 in
theorem names_any (l:List Nd) (p:Option Addr) (cap:Nat) (w:World) (hT:Tr w p l) (hf:Fit l cap):Calls Tryz.prog 44 #[.agg #[.slice p l.length cap]] w (NmPost l w):=by
  have h1:Below w.heap.size w ((w.alloc (.cells #[.slice p l.length cap] 24)).alloc (.cells #[.int .i64 0,.int .i64 0] 26)):=((Below.refl _ _).alloc (Nat.le_refl _) _).alloc (by simp) _
  have hck:=check_any l p cap ((w.alloc (.cells #[.slice p l.length cap] 24)).alloc (.cells #[.int .i64 0,.int .i64 0] 26)) (hT.below h1) hf
  have H1:=Lib.hid h1
  have HT:=Lib.hid hT
  obtain ⟨Q,hQ⟩ : ∃ Q:Ending→World→Prop,Q=NmPost l w:=⟨_,rfl⟩
  have HQ:=Lib.hid hQ
  rw [← hQ]
  have hlb:=hf.2.1
  obtain ⟨n,hn⟩ : ∃ n,n=l.length:=⟨_,rfl⟩
  rw [← hn] at hck hlb ⊢
  have HN:=Lib.hid hn
  have HB1:=Lib.hid ((Blk.new w 24 #[.slice p n cap]).alloc (.cells #[.int .i64 0,.int .i64 0] 26))
  have HB3:=Lib.hid (show Blk ((w.alloc (.cells #[.slice p n cap] 24)).alloc (.cells #[.int .i64 0,.int .i64 0] 26)) (w.heap.size+1) 26 #[.int .i64 0,.int .i64 0] by have:=Blk.new (w.alloc (.cells #[.slice p n cap] 24)) 26 #[.int .i64 0,.int .i64 0];rw [World.size_alloc] at this;exact this)
  rw [← hn] at H1
  clear hQ h1 hT hf hn
  go_enter Tryz.func44,Tryz.ntmps44
  go_wp2_with (go_at_call 22;refine hck.mono ?_)
  intro e w3 hp
  obtain ⟨hb3,c,a,rfl,hr⟩:=hp
  have HR:=Lib.hid hr
  have HBel:=Lib.hid (H1.out.trans (hb3.mono (by simp;omega)))
  have hX1:=HB1.out.below hb3 (by simp;omega)
  have hX3:=HB3.out.below hb3 (by simp)
  have x1:w3.cell? ⟨w.heap.size,0,none⟩=some (.slice p n cap):=by rw [hX1.cell];rfl
  have y0:w3.cell? ⟨w.heap.size+1,0,none⟩=some (.int .i64 0):=by rw [hX3.cell];rfl
  have y1:w3.cell? ⟨w.heap.size+1,1,none⟩=some (.int .i64 0):=by rw [hX3.cell];rfl
  have g0:=hX3.frozen 0
  have g1:=hX3.frozen 1
  have lX:=hX3.lt
  have lX0:w.heap.size<w3.heap.size:=Nat.lt_of_succ_lt lX
  have HX1:=Lib.hid hX1
  have HX3:=Lib.hid hX3
  clear hb3 hr hck hX1 hX3
  by_cases hc:c=0
  · subst hc
    obtain ⟨hl1,hl6,hC,hS,_⟩:=ckr_zero HR.out
    obtain ⟨root,hroot⟩ : ∃ root,n=root+1:=⟨n-1,by have:=HN.out;omega⟩
    have hrn:root<n:=by omega
    have hn6:n≤600:=by have:=HN.out;omega
    have n4:(n:Int)-1=(root:Int):=by omega
    have n5:(0:Int)≤(root:Int):=by omega
    have n6:(root:Int)<(n:Int):=by omega
    have hrl:root<l.length:=by have:=HN.out;omega
    have hlast:l.length-1=root:=by have:=HN.out;omega
    clear hroot
    have HQ2:Hid (∀ e w',NmIs l w (namesF l) e w'→Q e w'):=fun e w' h=>by rw [HQ.out];exact ⟨0,a,HR.out,Or.inr ⟨rfl,h⟩⟩
    obtain ⟨b,o,rfl,hb,hN⟩:=HT.out.1 (by omega)
    obtain ⟨c0,c1,c2,c3,c4,c5⟩:=(hN root hrl).below HBel.out hb
    have hkk:=kindAt_get hrl
    have hcc:=kidsAt_get hrl
    rw [← hkk] at c0
    rw [← hcc] at c4
    obtain ⟨kd,hkd⟩ : ∃ kd,kd=kindAt l root:=⟨_,rfl⟩
    rw [← hkd] at c0
    have hbb:b<w3.heap.size:=Nat.lt_of_lt_of_le hb HBel.out.size
    have HNF:Hid (namesF l=if kd≠1 then .bad 11 0 else match tops l (kidsAt l root) [] with
      | .ok E _=>finF l (look l l.length 0 root E)
      | .bad c a=>.bad c a
      | .out=>.bad 0 0):=by unfold namesF;rw [hlast,← hkd];rfl
    obtain ⟨kp,hkp⟩ : ∃ kp,kp=l[root].p:=⟨_,rfl⟩
    obtain ⟨kc,hkc⟩ : ∃ kc,kc=l[root].cap:=⟨_,rfl⟩
    obtain ⟨kn,hkn⟩ : ∃ kn,kn=(kidsAt l root).length:=⟨_,rfl⟩
    rw [← hkp,← hkc,← hkn] at c4
    have HU:=Lib.hid fun (hk1:kindAt l root=1) (W:World) (hW:Tr W (some ⟨b,o,none⟩) l)=>unitScope_any (cap:=cap) hW hC hl6 hrl hk1
    rw [← hkp,← hkc,← hkn,← HN.out] at HU
    clear c1 c2 c3 c5 hkk hcc hkp hkc hkn
    obtain ⟨w4,hw4⟩ : ∃ w4,w4=w3.alloc (.cells #[.int .i64 0,.int .i64 a] 26):=⟨_,rfl⟩
    have hb34:Below w3.heap.size w3 w4:=by rw [hw4];exact (Below.refl _ _).alloc (Nat.le_refl _) _
    have hb4:Below w.heap.size w w4:=HBel.out.trans (hb34.mono HBel.out.size)
    by_cases hk1:kd=1
    · have HK1:=Lib.hid (show kindAt l root=1 by rw [← hkd];exact hk1)
      have lX4:w.heap.size+1<w4.heap.size:=Nat.lt_of_lt_of_le lX hb34.size
      have hbb4:b<w4.heap.size:=Nat.lt_of_lt_of_le hbb hb34.size
      have S0:Hid (w4.cell? ⟨w.heap.size,0,none⟩=some (.slice (some ⟨b,o,none⟩) n cap)∧w4.cell? ⟨b,o+root * 6+4,none⟩=some (.slice kp kn kc)) :=
        ⟨(hb34.cell (p:=⟨w.heap.size,0,none⟩) (Nat.lt_of_succ_lt lX)).trans x1,(hb34.cell (p:=⟨b,o+root * 6+4,none⟩) hbb).trans c4⟩
      have S1:Hid (∀ W,Below w4.heap.size w4 W→W.cell? ⟨w.heap.size,0,none⟩=some (.slice (some ⟨b,o,none⟩) n cap)∧W.cell? ⟨b,o+root * 6+4,none⟩=some (.slice kp kn kc)):=fun W hW =>
        ⟨(hW.cell (p:=⟨w.heap.size,0,none⟩) (Nat.lt_of_succ_lt lX4)).trans S0.out.1,(hW.cell (p:=⟨b,o+root * 6+4,none⟩) hbb4).trans S0.out.2⟩
      have HT4:=Lib.hid (HT.out.below hb4)
      have HX34:=Lib.hid (HX3.out.below hb34 lX)
      have HTA:Hid (Tr (w4.alloc (.cells #[.int .i64 0,.int .i64 0] 26)).drew (some ⟨b,o,none⟩) l):=HT4.out.below ((Below.refl w4.heap.size w4).alloc (Nat.le_refl _) _).drew
      have HBA:=Lib.hid (Blk.new w4 26 #[.int .i64 0,.int .i64 0])
      subst hk1
      have HW4:=Lib.hid hw4
      have nX:w.heap.size+1≠w4.heap.size:=by omega
      cases htot:tops l (kidsAt l root) [] with
      | out=>exact absurd htot (tops_out l _ _)
      | bad c1 a1 =>
        have HUB:=HU.out HK1.out w4.drew HT4.out
        have HUA:=HU.out HK1.out _ HTA.out
        rw [htot] at HUB HUA
        have HB:Hid (Calls Tryz.prog 82 #[.slice (some ⟨b,o,none⟩) n cap,.slice kp kn kc] w4.drew fun e w5=>e=.returned (.tuple #[.pointer none,.agg #[.int .i64 c1,.int .i64 a1]])∧Below w4.heap.size w4 w5) :=
          HUB.mono fun e w5 h=>⟨h.1,undrew h.2.1⟩
        have HA:Hid (Calls Tryz.prog 82 #[.slice (some ⟨b,o,none⟩) n cap,.slice kp kn kc] (w4.alloc (.cells #[.int .i64 0,.int .i64 0] 26)).drew fun e w5=>e=.returned (.tuple #[.pointer none,.agg #[.int .i64 c1,.int .i64 a1]])∧Below w4.heap.size w4 w5∧Blk w5 w4.heap.size 26 #[.int .i64 0,.int .i64 0]) :=
          HUA.mono fun e w5 h=>⟨h.1,past_old h.2.1,HBA.out.below (past_new h.2.1) (by simp)⟩
        have hc1:c1=7∨c1=12:=(tops_code l _ _ _ _ htot).symm
        have HNF2:=Lib.hid (show namesF l=.bad c1 a1 by rw [HNF.out,if_neg (by simp),htot])
        have HB4:=Lib.hid hb4
        clear hb34 hw4 hb4 HU htot hN hb hC hkd hrl hlast hl1 hl6 hS HR HUA HUB
        go_wp2
        rw [← HW4.out]
        clear c4 c0 y0 y1 x1 hbb HW4
        go_region_held3 (fun W=>W.cell? ⟨w.heap.size,0,none⟩=some (.slice (some ⟨b,o,none⟩) n cap)∧W.cell? ⟨b,o+root * 6+4,none⟩=some (.slice kp kn kc))
          (first | exact S0.out | exact S1.out _ ((Below.refl w4.heap.size w4).alloc (Nat.le_refl _) _).drew | exact S1.out _ hb5 | exact S1.out _ (hb5.alloc hb5.size _) | exact S1.out _ ((hb5.setCell (p:=⟨w4.heap.size,0,none⟩) (Nat.le_refl _) _).setCell (p:=⟨w4.heap.size,1,none⟩) (Nat.le_refl _) _))
          (first | (go_at_call 82;(with_reducible refine HB.out.mono ?_);rintro e w5 ⟨rfl,hb5⟩) | (go_at_call 82;(with_reducible refine HA.out.mono ?_);rintro e w5 ⟨rfl,hb5,hk5⟩;have k0:w5.cell? ⟨w4.heap.size,0,none⟩=some (.int .i64 0):=(by rw [hk5.cell];rfl);have k1:w5.cell? ⟨w4.heap.size,1,none⟩=some (.int .i64 0):=(by rw [hk5.cell];rfl);have f0:=hk5.frozen 0;have f1:=hk5.frozen 1;have lk:=hk5.lt))
        all_goals
          first
            | (obtain ⟨w6,hw6⟩ : ∃ w6,w6=w5.alloc (.cells #[.int .i64 c1,.int .i64 a1] 26):=⟨_,rfl⟩
               rw [← hw6]
               have hK:Blk w6 w5.heap.size 26 #[.int .i64 c1,.int .i64 a1]:=by rw [hw6];exact Blk.new _ _ _
               have hb6:Below w4.heap.size w4 w6:=by rw [hw6];exact hb5.alloc hb5.size _
               have hfb:w4.heap.size≤w5.heap.size:=hb5.size
               clear hw6 hb5
               generalize w5.heap.size=fb at *)
            | (obtain ⟨w6,hw6⟩ : ∃ w6,w6=(w5.setCell ⟨w4.heap.size,0,none⟩ (.int .i64 c1)).setCell ⟨w4.heap.size,1,none⟩ (.int .i64 a1):=⟨_,rfl⟩
               rw [← hw6]
               have hK:Blk w6 w4.heap.size 26 #[.int .i64 c1,.int .i64 a1]:=by rw [hw6];exact set2 hk5 _ _
               have hb6:Below w4.heap.size w4 w6:=by rw [hw6];exact (hb5.setCell (p:=⟨w4.heap.size,0,none⟩) (Nat.le_refl _) _).setCell (p:=⟨w4.heap.size,1,none⟩) (Nat.le_refl _) _
               have hfb:w4.heap.size≤w4.heap.size:=Nat.le_refl _
               clear hw6 hb5 hk5
               obtain ⟨fb,hfb2⟩ : ∃ fb,fb=w4.heap.size:=⟨_,rfl⟩
               rw [← hfb2] at hK hfb ⊢
               clear hfb2)
          have hX6:=HX34.out.below hb6 lX4
          have kf0:w6.cell? ⟨fb,0,none⟩=some (.int .i64 c1):=by rw [hK.cell];rfl
          have kf1:w6.cell? ⟨fb,1,none⟩=some (.int .i64 a1):=by rw [hK.cell];rfl
          have y0:w6.cell? ⟨w.heap.size+1,0,none⟩=some (.int .i64 0):=by rw [hX6.cell];rfl
          have y1:w6.cell? ⟨w.heap.size+1,1,none⟩=some (.int .i64 0):=by rw [hX6.cell];rfl
          have q0:=hX6.frozen 0
          have q1:=hX6.frozen 1
          have lX6:=hX6.lt
          have lfb:=hK.lt
          have hz:=set2 hX6 (.int .i64 c1) (.int .i64 a1)
          have Z0:=Lib.hid (hz.cell 0)
          have Z1:=Lib.hid (hz.cell 1)
          have HB6:=Lib.hid hb6
          clear hz hX6 hK hb6 g0 g1 HA HB S0 S1
          rcases hc1 with rfl | rfl
          all_goals
            go_wp2
            go_region
            all_goals
              go_wp2
              have z0:=Z0.out
              have z1:=Z1.out
              refine bodyPost_ret (v:=.tuple #[.slice none 0 0,.agg #[_,.int .i64 a1]]) (by simp [results,Tryz.results44,go_sem,z0,z1];rfl) rfl ?_
              refine HQ2.out _ _ ?_
              rw [HNF2.out]
              exact ⟨rfl,(((HB4.out.trans (HB6.out.mono HB4.out.size)).setCell (p:=⟨w.heap.size+1,0,none⟩) (by simp) _).setCell (p:=⟨w.heap.size+1,1,none⟩) (by simp) _).drew⟩
      | ok E W =>
        have HUB:=HU.out HK1.out w4.drew HT4.out
        have HUA:=HU.out HK1.out _ HTA.out
        rw [htot] at HUB HUA
        have HB:Hid (Calls Tryz.prog 82 #[.slice (some ⟨b,o,none⟩) n cap,.slice kp kn kc] w4.drew fun e w5=>∃ U m,e=.returned (.tuple #[.pointer (some ⟨U,0,none⟩),.agg #[.int .i64 0,.int .i64 0]])∧Below w4.heap.size w4 w5∧Hid (UOk l w.heap.size w5 E U m)) :=
          HUB.mono fun e w5 h=>by
            obtain ⟨U,m,h1,h2,h3⟩:=us_ok h
            exact ⟨U,m,h1,undrew h2,h3.mono hb4.size⟩
        have HA:Hid (Calls Tryz.prog 82 #[.slice (some ⟨b,o,none⟩) n cap,.slice kp kn kc] (w4.alloc (.cells #[.int .i64 0,.int .i64 0] 26)).drew fun e w5=>∃ U m,e=.returned (.tuple #[.pointer (some ⟨U,0,none⟩),.agg #[.int .i64 0,.int .i64 0]])∧Below w4.heap.size w4 w5∧Blk w5 w4.heap.size 26 #[.int .i64 0,.int .i64 0]∧Hid (UOk l w.heap.size w5 E U m)) :=
          HUA.mono fun e w5 h=>by
            obtain ⟨U,m,h1,h2,h3⟩:=us_ok h
            exact ⟨U,m,h1,past_old h2,HBA.out.below (past_new h2) (by simp),h3.mono (by have:=hb4.size;show w.heap.size≤(w4.alloc _).heap.size;simp;omega)⟩
        have HNF2:=Lib.hid (show namesF l=finF l (look l l.length 0 root E) by rw [HNF.out,if_neg (by simp),htot])
        have HB4:=Lib.hid hb4
        have HC:=Lib.hid hC
        have HHL:=Lib.hid hl6
        have HRL:=Lib.hid hrl
        have HEl:Hid (E.length≤1000):=by
          have:=tops_len l (kidsAt l root) [] E W htot
          have h2:=(code_kids hrl (hC root hrl)).1
          rw [kidsAt_get hrl] at this
          simp at this
          show E.length≤1000
          omega
        clear hb34 hw4 hb4 HU htot hN hb hC hkd hrl hlast hl1 hl6 hS HR HUA HUB
        go_wp2
        rw [← HW4.out]
        clear c4 c0 y0 y1 x1 hbb HW4
        go_region_held3 (fun W=>W.cell? ⟨w.heap.size,0,none⟩=some (.slice (some ⟨b,o,none⟩) n cap)∧W.cell? ⟨b,o+root * 6+4,none⟩=some (.slice kp kn kc))
          (first | exact S0.out | exact S1.out _ ((Below.refl w4.heap.size w4).alloc (Nat.le_refl _) _).drew | exact S1.out _ hb5 | exact S1.out _ (hb5.alloc hb5.size _) | exact S1.out _ ((hb5.setCell (p:=⟨w4.heap.size,0,none⟩) (Nat.le_refl _) _).setCell (p:=⟨w4.heap.size,1,none⟩) (Nat.le_refl _) _))
          (first | (go_at_call 82;(with_reducible refine HB.out.mono ?_);rintro e w5 ⟨U,m,rfl,hb5,hu5⟩) | (go_at_call 82;(with_reducible refine HA.out.mono ?_);rintro e w5 ⟨U,m,rfl,hb5,hk5,hu5⟩;have k0:w5.cell? ⟨w4.heap.size,0,none⟩=some (.int .i64 0):=(by rw [hk5.cell];rfl);have k1:w5.cell? ⟨w4.heap.size,1,none⟩=some (.int .i64 0):=(by rw [hk5.cell];rfl);have f0:=hk5.frozen 0;have f1:=hk5.frozen 1;have lk:=hk5.lt))
        all_goals
          first
            | (obtain ⟨w6,hw6⟩ : ∃ w6,w6=w5.alloc (.cells #[.int .i64 0,.int .i64 0] 26):=⟨_,rfl⟩
               rw [← hw6]
               have hK:Blk w6 w5.heap.size 26 #[.int .i64 0,.int .i64 0]:=by rw [hw6];exact Blk.new _ _ _
               have hb6:Below w4.heap.size w4 w6:=by rw [hw6];exact hb5.alloc hb5.size _
               have hu6:UOk l w.heap.size w6 E U m:=by rw [hw6];exact hu5.out.below ((Below.refl _ _).alloc (Nat.le_refl _) _)
               clear hw6 hb5 hu5
               generalize w5.heap.size=fb at *)
            | (obtain ⟨w6,hw6⟩ : ∃ w6,w6=(w5.setCell ⟨w4.heap.size,0,none⟩ (.int .i64 0)).setCell ⟨w4.heap.size,1,none⟩ (.int .i64 0):=⟨_,rfl⟩
               rw [← hw6]
               have hK:Blk w6 w4.heap.size 26 #[.int .i64 0,.int .i64 0]:=by rw [hw6];exact set2 hk5 _ _
               have hb6:Below w4.heap.size w4 w6:=by rw [hw6];exact (hb5.setCell (p:=⟨w4.heap.size,0,none⟩) (Nat.le_refl _) _).setCell (p:=⟨w4.heap.size,1,none⟩) (Nat.le_refl _) _
               have hu6:UOk l w.heap.size w6 E U m:=by rw [hw6];exact (hu5.out.set hk5 (by decide) 0 _).set (hk5.set_ 0 _) (by decide) 1 _
               clear hw6 hb5 hk5 hu5 k0 k1 f0 f1 lk
               obtain ⟨fb,hfb2⟩ : ∃ fb,fb=w4.heap.size:=⟨_,rfl⟩
               rw [← hfb2] at hK ⊢
               clear hfb2)
          have hX6:=HX34.out.below hb6 lX4
          have kf0:w6.cell? ⟨fb,0,none⟩=some (.int .i64 0):=by rw [hK.cell];rfl
          have kf1:w6.cell? ⟨fb,1,none⟩=some (.int .i64 0):=by rw [hK.cell];rfl
          have S6:Hid (w6.cell? ⟨w.heap.size,0,none⟩=some (.slice (some ⟨b,o,none⟩) n cap)):=(S1.out _ hb6).1
          have lX6:=hX6.lt
          have lfb:=hK.lt
          have HX6:=Lib.hid hX6
          have HU6:=Lib.hid hu6
          have HB46:=Lib.hid (HB4.out.trans (hb6.mono HB4.out.size))
          have S7:Hid (∀ W,Below w6.heap.size w6 W→W.cell? ⟨w.heap.size,0,none⟩=some (.slice (some ⟨b,o,none⟩) n cap)):=fun W hW=>(hW.cell (p:=⟨w.heap.size,0,none⟩) (Nat.lt_of_succ_lt lX6)).trans S6.out
          have hno:=nothing_any n hn6
          have HNB:Hid (Calls Tryz.prog 83 #[.int .i64 n] w6.drew fun e w7=>∃ F,e=.returned (.slice (some ⟨F,0,none⟩) n n)∧Below w6.heap.size w6 w7∧Hid (w6.heap.size≤F∧Blk w7 F 3 (intA (List.replicate n (-1))))) :=
            (hno w6.drew).mono fun e w7 h=>⟨w6.heap.size,h.1,undrew h.2.1,Nat.le_refl _,h.2.2⟩
          have HNA:Hid (Calls Tryz.prog 83 #[.int .i64 n] (w6.alloc (.cells #[.slice none 0 0,.pointer none,.slice none 0 0] 112)).drew fun e w7=>∃ F,e=.returned (.slice (some ⟨F,0,none⟩) n n)∧Below w6.heap.size w6 w7∧Blk w7 w6.heap.size 112 #[.slice none 0 0,.pointer none,.slice none 0 0]∧Hid (w6.heap.size≤F∧Blk w7 F 3 (intA (List.replicate n (-1))))) :=
            (hno _).mono fun e w7 h=>⟨_,h.1,past_old h.2.1,(Blk.new w6 _ _).below (past_new h.2.1) (by simp),by show w6.heap.size≤(w6.alloc _).heap.size;simp,h.2.2⟩
          clear hX6 hK hb6 hu6 g0 g1 HA HB S0 S1 hno nX
          go_wp2
          go_region_held3 (fun W=>W.cell? ⟨w.heap.size,0,none⟩=some (.slice (some ⟨b,o,none⟩) n cap))
            (first | exact S6.out | exact S7.out _ ((Below.refl w6.heap.size w6).alloc (Nat.le_refl _) _).drew | exact S7.out _ hb7 | exact S7.out _ (hb7.alloc hb7.size _) | exact S7.out _ (((hb7.setCell (p:=⟨w6.heap.size,0,none⟩) (Nat.le_refl _) _).setCell (p:=⟨w6.heap.size,1,none⟩) (Nat.le_refl _) _).setCell (p:=⟨w6.heap.size,2,none⟩) (Nat.le_refl _) _))
            (first | (go_at_call 83;(with_reducible refine HNB.out.mono ?_);rintro e w7 ⟨F,rfl,hb7,hF7⟩) | (go_at_call 83;(with_reducible refine HNA.out.mono ?_);rintro e w7 ⟨F,rfl,hb7,hk7,hF7⟩;have k0:w7.cell? ⟨w6.heap.size,0,none⟩=some (.slice none 0 0):=(by rw [hk7.cell];rfl);have k1:w7.cell? ⟨w6.heap.size,1,none⟩=some (.pointer none):=(by rw [hk7.cell];rfl);have k2:w7.cell? ⟨w6.heap.size,2,none⟩=some (.slice none 0 0):=(by rw [hk7.cell];rfl);have f0:=hk7.frozen 0;have f1:=hk7.frozen 1;have f2:=hk7.frozen 2;have lk:=hk7.lt))
          all_goals
            first
              | (obtain ⟨w8,hw8⟩ : ∃ w8,w8=w7.alloc (.cells #[.slice (some ⟨b,o,none⟩) n cap,.pointer (some ⟨U,0,none⟩),.slice (some ⟨F,0,none⟩) n n] 112):=⟨_,rfl⟩
                 rw [← hw8]
                 have hR8:Blk w8 w7.heap.size 112 #[.slice (some ⟨b,o,none⟩) n cap,.pointer (some ⟨U,0,none⟩),.slice (some ⟨F,0,none⟩) n n]:=by rw [hw8];exact Blk.new _ _ _
                 have hb8:Below w6.heap.size w6 w8:=by rw [hw8];exact hb7.alloc hb7.size _
                 have hF8:Blk w8 F 3 (intA (List.replicate n (-1))):=by rw [hw8];exact hF7.out.2.alloc _
                 have hF9:=hF7.out.1
                 clear hw8 hb7 hF7
                 generalize w7.heap.size=R at *)
              | (obtain ⟨w8,hw8⟩ : ∃ w8,w8=((w7.setCell ⟨w6.heap.size,0,none⟩ (.slice (some ⟨b,o,none⟩) n cap)).setCell ⟨w6.heap.size,1,none⟩ (.pointer (some ⟨U,0,none⟩))).setCell ⟨w6.heap.size,2,none⟩ (.slice (some ⟨F,0,none⟩) n n):=⟨_,rfl⟩
                 rw [← hw8]
                 have hR8:Blk w8 w6.heap.size 112 #[.slice (some ⟨b,o,none⟩) n cap,.pointer (some ⟨U,0,none⟩),.slice (some ⟨F,0,none⟩) n n]:=by
                   rw [hw8]
                   have:=((hk7.set_ 0 (.slice (some ⟨b,o,none⟩) n cap)).set_ 1 (.pointer (some ⟨U,0,none⟩))).set_ 2 (.slice (some ⟨F,0,none⟩) n n)
                   simpa using this
                 have hb8:Below w6.heap.size w6 w8:=by rw [hw8];exact ((hb7.setCell (p:=⟨w6.heap.size,0,none⟩) (Nat.le_refl _) _).setCell (p:=⟨w6.heap.size,1,none⟩) (Nat.le_refl _) _).setCell (p:=⟨w6.heap.size,2,none⟩) (Nat.le_refl _) _
                 have hF8:Blk w8 F 3 (intA (List.replicate n (-1))):=by
                   have nn:F≠w6.heap.size:=fun e=>by have h1:=hF7.out.2;rw [e] at h1;exact absurd (Blk.type h1 hk7) (by decide)
                   rw [hw8];exact ((hF7.out.2.far (p:=⟨w6.heap.size,0,none⟩) nn _).far (p:=⟨w6.heap.size,1,none⟩) nn _).far (p:=⟨w6.heap.size,2,none⟩) nn _
                 have hF9:=hF7.out.1
                 clear hw8 hb7 hF7 hk7 k0 k1 k2 f0 f1 f2 lk
                 obtain ⟨R,hR2⟩ : ∃ R,R=w6.heap.size:=⟨_,rfl⟩
                 rw [← hR2] at hR8 ⊢
                 clear hR2)
            have hbw8:Below w.heap.size w w8:=HB46.out.trans (hb8.mono HB46.out.size)
            have hFw:w.heap.size≤F:=Nat.le_trans HB46.out.size hF9
            have hsm:Sm w w8 l (some ⟨b,o,none⟩) cap R F [(U,m)] E (List.replicate l.length (-1)) :=
              sm_start HT.out hbw8 hFw (HU6.out.below hb8) (by rw [← HN.out];exact hR8) (by rw [← HN.out];exact hF8)
            have hv:=visit_all (w0:=w) (p:=some ⟨b,o,none⟩) (cap:=cap) (R:=R) (F:=F) HC.out HHL.out l.length w8 [(U,m)] E _ 0 root U m E.length hsm rfl rfl HRL.out HRL.out (by have:=HHL.out;omega) (by omega) (by have h1:=HEl.out;have h2:=HRL.out;have h3:=HHL.out;omega) (nolib_start l)
            have hfine:=fine_look HC.out l.length 0 root E.length E HRL.out HRL.out (by omega)
            have hX8:=HX6.out.below hb8 lX6
            have hm1:w.heap.size+1≠m:=fun e=>by
              obtain ⟨nn,_,hM⟩:=HU6.out.map
              rw [← e] at hM;exact hM.not_blk HX6.out
            have hF1:w.heap.size+1≠F:=fun e=>by have h1:=hF8;rw [← e] at h1;exact absurd (Blk.type h1 hX8) (by decide)
            have HX8:=Lib.hid hX8
            have HBW8:=Lib.hid hbw8
            have lX8:=hX8.lt
            have hmw:w.heap.size≤m:=HU6.out.lo
            have lR8:=hR8.lt
            clear hX8 hbw8 hsm hR8 hF8 hF9 hb8 HX6 HU6 HB46 S6 S7 HNA HNB HX34 kf0 kf1 lfb lX6
            have hlRF:R<w8.heap.size:=lR8
            go_wp2_with (go_at_call 84;refine hv.mono ?_)
            intro e w9 hd
            cases hr:look l l.length 0 root E with
            | out=>rw [hr] at hfine;exact hfine.elim
            | bad c1 a1 =>
              rw [hr] at hd hfine
              obtain ⟨rfl,hc9⟩:=hd
              have HNF3:=Lib.hid (show namesF l=.bad c1 a1 by rw [HNF2.out,hr];rfl)
              have hB9:=hc9.blk HX8.out hF1 hm1
              have y0:w9.cell? ⟨w.heap.size+1,0,none⟩=some (.int .i64 0):=by rw [hB9.cell];rfl
              have y1:w9.cell? ⟨w.heap.size+1,1,none⟩=some (.int .i64 0):=by rw [hB9.cell];rfl
              have q0:=hB9.frozen 0
              have q1:=hB9.frozen 1
              have lX9:=hB9.lt
              have hz:=(set2 hB9 (.int .i64 c1) (.int .i64 a1)).alloc (.cells #[.int .i64 c1,.int .i64 a1] 26)
              have Z0:=Lib.hid (hz.cell 0)
              have Z1:=Lib.hid (hz.cell 1)
              have HB9:=Lib.hid (HBW8.out.trans (hc9.to_below HBW8.out.size hFw hmw))
              clear hz hB9 hc9 hr hv HC
              rcases hfine with rfl | rfl
              all_goals
                go_wp2
                go_region
                all_goals
                  go_wp2
                  have z0:=Z0.out
                  have z1:=Z1.out
                  refine bodyPost_ret (v:=.tuple #[.slice none 0 0,.agg #[_,.int .i64 a1]]) (by simp [results,Tryz.results44,go_sem,z0,z1];rfl) rfl ?_
                  refine HQ2.out _ _ ?_
                  rw [HNF3.out]
                  exact ⟨rfl,(((HB9.out.setCell (p:=⟨w.heap.size+1,0,none⟩) (by simp) _).setCell (p:=⟨w.heap.size+1,1,none⟩) (by simp) _).alloc (by have:=HB9.out.size;simp;omega) _).drew⟩
            | ok E2 W2 =>
              rw [hr] at hd
              obtain ⟨rfl,hc9,hs9⟩:=hd
              have HNF3:=Lib.hid (show namesF l=.ok (ov W2 (List.replicate l.length (-1))) by rw [HNF2.out,hr];rfl)
              have hB9:=hc9.blk HX8.out hF1 hm1
              have y0:w9.cell? ⟨w.heap.size+1,0,none⟩=some (.int .i64 0):=by rw [hB9.cell];rfl
              have y1:w9.cell? ⟨w.heap.size+1,1,none⟩=some (.int .i64 0):=by rw [hB9.cell];rfl
              have q0:=hB9.frozen 0
              have q1:=hB9.frozen 1
              have lX9:=hB9.lt
              have r2:w9.cell? ⟨R,2,none⟩=some (.slice (some ⟨F,0,none⟩) n n):=by rw [hs9.res.cell,HN.out];rfl
              have lR9:=hs9.res.lt
              have hz:=(set2 hB9 (.int .i64 0) (.int .i64 0)).alloc (.cells #[.int .i64 0,.int .i64 0] 26)
              have Z0:=Lib.hid (hz.cell 0)
              have Z1:=Lib.hid (hz.cell 1)
              have HB9:=Lib.hid (HBW8.out.trans (hc9.to_below HBW8.out.size hFw hmw))
              have HF9:=Lib.hid (((hs9.fnd.far (p:=⟨w.heap.size+1,0,none⟩) (fun e=>hF1 e.symm) (.int .i64 0)).far (p:=⟨w.heap.size+1,1,none⟩) (fun e=>hF1 e.symm) (.int .i64 0)).alloc (.cells #[.int .i64 0,.int .i64 0] 26))
              have HL9:=Lib.hid hs9.len
              clear hz hB9 hc9 hs9 hr hv HC hfine
              go_wp2
              have z0:=Z0.out
              have z1:=Z1.out
              refine bodyPost_ret (v:=.tuple #[.slice (some ⟨F,0,none⟩) n n,.agg #[.int .i64 0,.int .i64 0]]) (by simp [results,Tryz.results44,go_sem,z0,z1]) rfl ?_
              refine HQ2.out _ _ ?_
              rw [HNF3.out]
              exact ⟨F,hFw,by rw [HN.out],((HB9.out.setCell (p:=⟨w.heap.size+1,0,none⟩) (by simp) _).setCell (p:=⟨w.heap.size+1,1,none⟩) (by simp) _).alloc (by have:=HB9.out.size;simp;omega) _,HF9.out,HL9.out⟩
    · have hk1':(kd != 1)=true:=by simpa using hk1
      have HNF2:=Lib.hid (HNF.out.trans (if_pos hk1))
      have hz:=(set2 HX3.out (.int .i64 11) (.int .i64 0)).alloc (.cells #[.int .i64 0,.int .i64 a] 26)
      have Z0:=Lib.hid (hz.cell 0)
      have Z1:=Lib.hid (hz.cell 1)
      clear hz hk1 hN hkd hC hS hl1 hl6 HR hrl hlast hb hw4 hb34 hb4 HU
      go_wp2
      have z0:=Z0.out
      have z1:=Z1.out
      refine bodyPost_ret (v:=.tuple #[.slice none 0 0,.agg #[.int .i64 11,.int .i64 0]]) (by simp [results,Tryz.results44,go_sem,z0,z1]) rfl ?_
      refine HQ2.out _ _ ?_
      rw [HNF2.out]
      exact ⟨rfl,((HBel.out.setCell (p:=⟨w.heap.size+1,0,none⟩) (by simp) _).setCell (p:=⟨w.heap.size+1,1,none⟩) (by simp) _).alloc (by simp;have:=HBel.out.size;omega) _⟩
  · have hc':(c != 0)=true:=by simpa using hc
    have HC:=Lib.hid hc
    have hz:=(set2 HX3.out (.int .i64 c) (.int .i64 a)).alloc (.cells #[.int .i64 c,.int .i64 a] 26)
    have Z0:=Lib.hid (hz.cell 0)
    have Z1:=Lib.hid (hz.cell 1)
    clear hc hz
    go_wp2
    go_region
    all_goals
      go_wp2
      have z0:=Z0.out
      have z1:=Z1.out
      refine bodyPost_ret (v:=.tuple #[.slice none 0 0,.agg #[.int .i64 c,.int .i64 a]]) (by simp [results,Tryz.results44,go_sem,z0,z1]) rfl ?_
      rw [HQ.out]
      exact ⟨c,a,HR.out,Or.inl ⟨HC.out,rfl,(((HBel.out.setCell (p:=⟨w.heap.size+1,0,none⟩) (by simp) _).setCell (p:=⟨w.heap.size+1,1,none⟩) (by simp) _).alloc (by simp;have:=HBel.out.size;omega) _).drew⟩⟩
end Sc
end
section
namespace Sc
open Go.RowKit
open Tr

theorem tops_env {l:List Nd}{b:Nat}:∀ (c:List Int) (E E':Env) (W:Wr),tops l c E=.ok E' W→(∀ x ∈ c,x.toNat<l.length∧decK (kindAt l x.toNat)∧kindAt l x.toNat≠12)→EnvOk l b E→EnvOk l b E':=by
  intro c
  induction c with
  | nil=>intro E E' W h _ hE;cases h;exact hE
  | cons y c ih =>
    intro E E' W h hc hE
    simp only [tops] at h
    split at h
    · cases h
    · unfold declF at h
      split at h
      · cases h
      · change (tops l c _).pre _=_ at h
        obtain ⟨W2,h2,rfl⟩:=pre_ok h
        refine ih _ _ _ h2 (fun x hx=>hc x (List.mem_cons_of_mem _ hx)) (fun x hx=>?_)
        rcases List.mem_append.1 hx with hx | hx
        · exact hE x hx
        · simp only [List.mem_cons,List.not_mem_nil,or_false] at hx;subst hx
          obtain ⟨h3,h4,h5⟩:=hc y (List.mem_cons_self ..)
          exact ⟨h3,h4,fun e=>absurd e h5⟩
theorem unit_tops {l:List Nd}{k:Nat}(hk:k<l.length) (hC:codeAt l k=0) (h1:kindAt l k=1):∀ x ∈ kidsAt l k,x.toNat<l.length∧decK (kindAt l x.toNat)∧kindAt l x.toNat≠12:=by
  obtain ⟨q,hK⟩:=kin_of hk hC
  intro x hx
  obtain ⟨j,hj,rfl⟩:=List.getElem_of_mem hx
  obtain ⟨a,b,c,d⟩:=hK.kid j hj
  obtain ⟨z,h2,h3,_⟩:=hK.lt j hj
  have hz:(kidsAt l k)[j].toNat=z:=by rw [h2];rfl
  have hz2:q (j+1)-1=z:=by have:=b.symm.trans h2;omega
  rw [h1,hz2] at d
  have hk2:kindAt l z=2∨kindAt l z=3:=by simpa [goB] using d
  rw [hz]
  exact ⟨by omega,hk2.elim Or.inl (fun h=>Or.inr (Or.inl h)),by omega⟩
/-- the parts of a good answer -/
theorem names_open {l:List Nd}{fs:List Int}(h:namesF l=.ok fs):kindAt l (l.length-1)=1∧∃ E Wt E' W,tops l (kidsAt l (l.length-1)) []=.ok E Wt∧look l l.length 0 (l.length-1) E=.ok E' W∧fs=ov W (List.replicate l.length (-1)):=by
  unfold namesF at h
  split at h
  · cases h
  · rename_i h1
    split at h
    · rename_i E Wt ht
      cases hl:look l l.length 0 (l.length-1) E with
      | ok E' W=>rw [hl] at h;cases h;exact ⟨by simpa using h1,E,Wt,E',W,ht,hl,rfl⟩
      | bad c a=>rw [hl] at h;cases h
      | out=>rw [hl] at h;cases h
    · cases h
    · cases h
end Sc
end
section
namespace Sc
open Go.RowKit
open Tr

def anewS:List UInt8:=[97,110,101,119]
/-- the same tree, but the nodes that stand for k are named anew -/
structure Ren (l l':List Nd) (fs:List Int) (k:Nat):Prop where
  len:l'.length=l.length
  kind:kindAt l' = kindAt l
  kids:kidsAt l' = kidsAt l
  same:∀ i,i<l.length→fs[i]?≠some (k:Int)→tx l' i=tx l i
  new:∀ i,i<l.length→fs[i]? = some (k:Int)→tx l' i=anewS
  no:∀ i,i<l.length→tx l i≠anewS
  lt:k<l.length
  loc:kindAt l k=4∨kindAt l k=12
  self:fs[k]? = some (k:Int)
section
variable {l l':List Nd}{fs:List Int}{k:Nat}
end
/-- each node is written once -/
theorem own_in {l:List Nd}{now i:Nat}{E E':Env}{W:Wr}(h:own l now i E=.ok E' W):W=[]∨∃ v,W=[(i,v)]:=by
  unfold own declF nameF callF at h
  repeat' split at h
  all_goals first | (cases h;done) | (cases h;exact Or.inr ⟨_,rfl⟩) | (cases h;exact Or.inl rfl)
end Sc
end
section
namespace Sc
open Go.RowKit
open Tr

end Sc
end
section
namespace Ty
open Go.RowKit
open Tr Sc

def numOf (l:List Nd) (k:Nat):Int:=((l[k]?).map (·.n)).getD 0
def iAt (fs:List Int) (k:Int):Int:=fs.getD k.toNat 0
def valB (x:Int):Bool:=decide (x=1∨x=2)
/-- the declaration that a name stands for, by its number -/
def byAt (ns:List Int) (k:Nat):Nat:=(ns.getD k 0).toNat
def arrB (l:List Nd) (ns:List Int) (k:Nat):Bool:=decide (numOf l (byAt ns k)=3)
def placeB (l:List Nd) (ns:List Int) (k:Nat):Bool :=
  if kindAt l k=32 then !arrB l ns k else if kindAt l k=34 then true else if kindAt l k=35 then tx l k == [42] else false
def memB (l:List Nd) (ns:List Int) (k:Nat):Bool:=decide (kindAt l k≠32) || decide (kindAt l (byAt ns k)=2)
def cmpB (s:List UInt8):Bool:=s == [61,61] || s == [33,61] || s == [60] || s == [60,61] || s == [62] || s == [62,61]
def twoF (s:List UInt8) (a b:Int):Int × Bool :=
  if cmpB s=true then (1,decide ((a=1∧b=1)∨(a=2∧b=2)))
  else if s=[43]∧((a=2∧b=1)∨(a=1∧b=2)) then (2,true)
  else if s=[45] then (if a=2∧b=1 then (2,true) else (1,decide ((a=1∧b=1)∨(a=2∧b=2))))
  else (1,decide (a=1∧b=1))
def oneF (l:List Nd) (ns:List Int) (s:List UInt8) (kid:Nat) (x:Int):Int × Bool :=
  if s=[33] then (1,valB x) else if s=[42] then (1,decide (x=2))
  else if s=[38] then (2,decide (x=1) && placeB l ns kid && memB l ns kid) else (1,decide (x=1))
/-- a sign without the = at its end -/
def trimS (s:List UInt8):List UInt8:=if s.getLast? = some 61 then s.dropLast else s
def setF (s:List UInt8) (to_ from_:Int) (place:Bool):Int × Bool :=
  if s=[61] then (to_,place && decide (from_=to_))
  else (to_,(twoF (trimS s) to_ from_).2 && place && decide ((twoF (trimS s) to_ from_).1=to_))
def parsF (l:List Nd) (b:Nat):List Int:=(kidsAt l b).dropLast.map fun c=>numOf l c.toNat
def calleeF (l:List Nd) (ns:List Int) (k:Nat):List Int × Int :=
  if 0≤ns.getD k 0 then (parsF l (byAt ns k),numOf l (byAt ns k)) else if tx l k=[112,114,105,110,116] then ([1],1) else ([],1)
def ktF (l:List Nd) (fs:List Int) (k:Nat):List Int:=(kidsAt l k).map (iAt fs)
def nameT (l:List Nd) (ns:List Int) (k:Nat):Int:=if arrB l ns k=true then 2 else numOf l (byAt ns k)
def exprF (l:List Nd) (ns fs:List Int) (k:Nat):Int × Bool :=
  let kt:=ktF l fs k
  let kd:=kindAt l k
  if kd=32 then (nameT l ns k,true)
  else if kd=33 then ((calleeF l ns k).2,kt == (calleeF l ns k).1)
  else if kd=34 then (1,decide (kt.getD 0 0=2) && decide (kt.getD 1 0=1))
  else if kd=35 then oneF l ns (tx l k) ((kidsAt l k).getD 0 0).toNat (kt.getD 0 0)
  else if kd=36 then twoF (tx l k) (kt.getD 0 0) (kt.getD 1 0)
  else if kd=37 then (1,valB (kt.getD 0 0) && valB (kt.getD 1 0))
  else if kd=38 then (kt.getD 1 0,valB (kt.getD 0 0) && valB (kt.getD 1 0) && decide (kt.getD 1 0=kt.getD 2 0))
  else if kd=39 then setF (tx l k) (kt.getD 0 0) (kt.getD 1 0) (placeB l ns ((kidsAt l k).getD 0 0).toNat)
  else if kd=40 then (kt.getD 0 0,placeB l ns ((kidsAt l k).getD 0 0).toNat)
  else (1,true)
/-- of each node the one whose kid it is: written by the nodes in their order -/
def parW (k:Nat) (c:List Int) (ps:List Int):List Int:=c.foldl (fun ps x=>ps.set x.toNat (k:Int)) ps
def parN (l:List Nd) (n:Nat) (ps:List Int):List Int:=(List.range n).foldl (fun ps k=>parW k (kidsAt l k) ps) ps
def parF (l:List Nd):List Int:=parN l l.length ((List.replicate l.length 0).set (l.length-1) (-1))
/-- the nodes that a node is in, from the innermost on -/
def outs (ps:List Int):Nat→Int→List Nat
  | 0,_=>[]
  | f+1,k=>if k<0 then [] else k.toNat :: outs ps f (ps.getD k.toNat (-1))
def outsF (l:List Nd) (k:Nat):List Nat:=outs (parF l) l.length ((parF l).getD k (-1))
def tellsF (l:List Nd) (k:Nat):Int:=(((outsF l k).find? fun o=>decide (kindAt l o=3)).map (numOf l)).getD 0
def inB (l:List Nd) (k:Nat) (kinds:List Int):Bool:=(outsF l k).any fun o=>kinds.contains (kindAt l o)
def condB (l:List Nd) (fs:List Int) (k i:Nat):Bool:=decide (kindAt l ((kidsAt l k).getD i 0).toNat=24) || valB ((ktF l fs k).getD i 0)
def initB (l:List Nd) (fs:List Int) (k:Nat):Bool:=(ktF l fs k).all fun x=>x == (if numOf l k=3 then 1 else numOf l k)
def retB (l:List Nd) (fs:List Int) (k:Nat):Bool :=
  if tellsF l k=0∨kidsAt l k=[] then decide (tellsF l k=0) && (kidsAt l k).isEmpty else decide ((ktF l fs k).getD 0 0=tellsF l k)
def okC (b:Bool):Int:=if b=true then 0 else 8
def actF (l:List Nd) (fs:List Int) (k:Nat):Int :=
  let kd:=kindAt l k
  if kd=2∨kd=12 then okC (initB l fs k)
  else if kd=14∨kd=15 then okC (condB l fs k 0)
  else if kd=16∨kd=17 then okC (condB l fs k 1)
  else if kd=18∨kd=19 then okC (decide ((ktF l fs k).getD 0 0=1))
  else if kd=23 then okC (retB l fs k)
  else if kd=21 then (if inB l k [15,16,17,18]=true then 0 else 11)
  else if kd=22 then (if inB l k [15,16,17]=true then 0 else 11)
  else 0
/-- a node: what is wrong with it, and the types with its own -/
def chkF (l:List Nd) (ns fs:List Int) (k:Nat):Int × List Int :=
  if exprB (kindAt l k)=true then (if (exprF l ns fs k).2=true then (0,fs.set k (exprF l ns fs k).1) else (8,fs)) else (actF l fs k,fs)
inductive Ts where
  | ok (fs:List Int)
  | bad (c a:Int)
/-- from a node on -/
def runF (l:List Nd) (ns:List Int):Nat→Nat→List Int→Ts
  | 0,_,fs=>.ok fs
  | f+1,k,fs=>if (chkF l ns fs k).1≠0 then .bad (chkF l ns fs k).1 k else runF l ns f (k+1) (chkF l ns fs k).2
/-- the function main -/
def mainN (l:List Nd):Option Nat:=(List.range l.length).find? fun k=>decide (kindAt l k=3) && tx l k == [109,97,105,110]
def mainF (l:List Nd):Int × Int:=match mainN l with
  | none=>(6,0)
  | some k=>if parsF l k=[] then (0,0) else (5,k)
def typesN (l:List Nd) (ns:List Int):Ts:=match runF l ns l.length 0 (List.replicate l.length 0) with
  | .bad c a=>.bad c a
  | .ok fs=>if (mainF l).1≠0 then .bad (mainF l).1 (mainF l).2 else .ok fs
def typesF (l:List Nd):Ts:=match namesF l with
  | .bad c a=>.bad c a
  | .ok ns=>typesN l ns

theorem parW_len (k:Nat) (c:List Int):∀ ps:List Int,(parW k c ps).length=ps.length:=by
  induction c with
  | nil=>intro ps;rfl
  | cons x c ih=>intro ps;show (parW k c (ps.set x.toNat k)).length=_;rw [ih];simp
theorem parN_len (l:List Nd) (n:Nat) (ps:List Int):(parN l n ps).length=ps.length:=by
  unfold parN
  induction n with
  | zero=>rfl
  | succ n ih=>rw [List.range_succ,List.foldl_append];simp only [List.foldl_cons,List.foldl_nil];rw [parW_len,ih]
theorem parN_succ (l:List Nd) (n:Nat) (ps:List Int):parN l (n+1) ps=parW n (kidsAt l n) (parN l n ps):=by
  unfold parN;rw [List.range_succ,List.foldl_append];rfl
theorem parW_get (k:Nat) (c:List Int):∀ (ps:List Int) (y:Nat),y<ps.length→(parW k c ps).getD y 0=if (c.any fun x=>x.toNat == y)=true then (k:Int) else ps.getD y 0:=by
  induction c with
  | nil=>intro ps y _;simp [parW]
  | cons x c ih =>
    intro ps y hy
    show (parW k c (ps.set x.toNat k)).getD y 0=_
    rw [ih _ _ (by simpa using hy),List.any_cons]
    cases h1:c.any fun x=>x.toNat == y with
    | true=>simp
    | false =>
      by_cases e:x.toNat=y
      · subst e;simp [hy]
      · simp [e,List.getD_eq_getElem?_getD,List.getElem?_set]
/-- which kid's part a node is in -/
theorem kinFind {l:List Nd}{x:Nat}{q:Nat→Nat}(hK:Kin l x q) {y:Nat}(h1:St l x≤y) (h2:y<x):∃ j,∃ hj:j<(kidsAt l x).length,∃ c:Nat,(kidsAt l x)[j]=(c:Int)∧c<x∧St l c=q j∧c+1=q (j+1)∧q j≤y∧y≤c:=by
  have key:∀ m,m≤(kidsAt l x).length→y<q m→∃ j,j<m∧q j≤y∧y<q (j+1):=by
    intro m
    induction m with
    | zero=>intro _ h;rw [hK.from_] at h;omega
    | succ m ihm =>
      intro hm h
      by_cases e:y<q m
      · obtain ⟨j,hj,h⟩:=ihm (by omega) e
        exact ⟨j,by omega,h⟩
      · exact ⟨m,by omega,by omega,h⟩
  obtain ⟨j,hj,h3,h4⟩:=key _ (Nat.le_refl _) (by rw [hK.to_];exact h2)
  obtain ⟨c,e1,e2,e3,e4⟩:=hK.lt j hj
  exact ⟨j,hj,c,e1,e2,e4,e3,h3,by omega⟩
/-- a part within a part -/
theorem St_nest {l:List Nd}(hC:∀ j,j<l.length→codeAt l j=0):∀ (z:Nat),z<l.length→∀ a,St l z≤a→a≤z→St l z≤St l a:=by
  intro z
  induction z using Nat.strongRecOn with
  | _ z ih =>
    intro hz a h1 h2
    by_cases e:a=z
    · rw [e];exact Nat.le_refl _
    · obtain ⟨q,hK⟩:=kin_of hz (hC z hz)
      obtain ⟨j,hj,c,e1,e2,e3,e4,e5,e6⟩:=kinFind hK h1 (by omega)
      have:=ih c e2 (by omega) a (by omega) e6
      have:=hK.mono 0 j (Nat.zero_le _) (by omega)
      rw [hK.from_] at this
      omega
/-- a node is the kid of one node alone -/
theorem kid_once {l:List Nd}(hC:∀ j,j<l.length→codeAt l j=0) {a b y:Nat}(hb:b<l.length) (hab:a<b) (h1:(y:Int) ∈ kidsAt l a) (h2:(y:Int) ∈ kidsAt l b):False:=by
  obtain ⟨q,hK⟩:=kin_of hb (hC b hb)
  obtain ⟨i,hi,e⟩:=hK.mem h2
  obtain ⟨y',e1,e2,e3,e4⟩:=hK.lt i hi
  obtain rfl:y' = y:=by rw [e1] at e;exact_mod_cast e
  obtain ⟨qa,hKa⟩:=kin_of (show a<l.length by omega) (hC a (by omega))
  obtain ⟨ia,hia,ea⟩:=hKa.mem h1
  obtain ⟨ya,f1,f2,f3,f4⟩:=hKa.lt ia hia
  obtain rfl:ya=y':=by rw [f1] at ea;exact_mod_cast ea
  have hm:=hKa.mono 0 ia (Nat.zero_le _) (by omega)
  have hqi:=hK.mono 0 i (Nat.zero_le _) (by omega)
  have hle:=St_le l ya
  rw [hK.from_] at hqi
  rw [hKa.from_] at hm
  obtain ⟨j,hj,z,g1,g2,g3,g4,g5,g6⟩:=kinFind hK (y:=a) (by omega) hab
  have hji:i<j:=by
    rcases Nat.lt_or_ge i j with h | h
    · exact h
    · have:=hK.mono (j+1) (i+1) (by omega) (by omega)
      omega
  have:=hK.mono (i+1) j (by omega) (by omega)
  have:=St_nest hC z (by omega) a (by omega) g6
  have:=St_le l a
  omega
/-- each node of a good tree's part, but its last, is the kid of one behind it -/
theorem covered {l:List Nd}(hC:∀ j,j<l.length→codeAt l j=0):∀ (x:Nat),x<l.length→∀ y,St l x≤y→y<x→∃ z,z≤x∧y<z∧(y:Int) ∈ kidsAt l z:=by
  intro x
  induction x using Nat.strongRecOn with
  | _ x ih =>
    intro hx y h1 h2
    obtain ⟨q,hK⟩:=kin_of hx (hC x hx)
    obtain ⟨j,hj,c,e1,e2,e3,e4,h3,h4⟩:=kinFind hK h1 h2
    by_cases e:y=c
    · exact ⟨x,Nat.le_refl _,h2,by rw [e,← e1];exact List.getElem_mem hj⟩
    · obtain ⟨z,z1,z2,z3⟩:=ih c e2 (by omega) y (by omega) (by omega)
      exact ⟨z,by omega,z2,z3⟩
/-- what stands in the list of parents -/
theorem par_facts {l:List Nd}(h0:1≤l.length) (hC:∀ j,j<l.length→codeAt l j=0) (hS:St l (l.length-1)=0):(parF l).length=l.length∧(parF l).getD (l.length-1) 0 = -1∧∀ y,y+1<l.length→∃ z:Nat,y<z∧z<l.length∧(parF l).getD y 0=(z:Int)∧(y:Int) ∈ kidsAt l z:=by
  obtain ⟨ps,hps⟩ : ∃ ps,ps=(List.replicate l.length (0:Int)).set (l.length-1) (-1):=⟨_,rfl⟩
  have hlen:ps.length=l.length:=by rw [hps];simp
  have hk:∀ z,z<l.length→∀ x ∈ kidsAt l z,∃ y:Nat,x=(y:Int)∧y<z:=by
    intro z hz x hx
    obtain ⟨q,hK⟩:=kin_of hz (hC z hz)
    obtain ⟨j,hj,rfl⟩:=List.getElem_of_mem hx
    obtain ⟨c,e1,e2,_⟩:=hK.lt j hj
    exact ⟨c,e1,e2⟩
  have hany:∀ z,z<l.length→∀ y,((kidsAt l z).any fun x=>x.toNat == y)=true→(y:Int) ∈ kidsAt l z∧y<z:=by
    intro z hz y h
    obtain ⟨x,hx,e⟩:=List.any_eq_true.1 h
    obtain ⟨c,e1,e2⟩:=hk z hz x hx
    have:c=y:=by subst e1;simpa using e
    subst this
    exact ⟨by rw [← e1];exact hx,e2⟩
  -- by the number of nodes that have written
  have step:∀ n,n≤l.length→∀ y,y<l.length →
      ((∃ z:Nat,z<n∧y<z∧(parN l n ps).getD y 0=(z:Int)∧(y:Int) ∈ kidsAt l z)∨((parN l n ps).getD y 0=ps.getD y 0∧∀ z,z<n→(y:Int) ∉ kidsAt l z)):=by
    intro n
    induction n with
    | zero=>intro _ y _;exact Or.inr ⟨rfl,fun z hz=>by omega⟩
    | succ n ih =>
      intro hn y hy
      rw [parN_succ,parW_get _ _ _ _ (by rw [parN_len,hlen];exact hy)]
      cases hb:(kidsAt l n).any fun x=>x.toNat == y with
      | true =>
        obtain ⟨h1,h2⟩:=hany n (by omega) y hb
        exact Or.inl ⟨n,by omega,h2,by simp,h1⟩
      | false =>
        rcases ih (by omega) y hy with ⟨z,h1,h2,h3,h4⟩ | ⟨h1,h2⟩
        · exact Or.inl ⟨z,by omega,h2,by simpa using h3,h4⟩
        · refine Or.inr ⟨by simpa using h1,fun z hz hm=>?_⟩
          by_cases e:z=n
          · subst e
            have:((kidsAt l z).any fun x=>x.toNat == y)=true:=List.any_eq_true.2 ⟨_,hm,by simp⟩
            rw [hb] at this;cases this
          · exact h2 z (by omega) hm
  have hF:parF l=parN l l.length ps:=by unfold parF;rw [hps]
  refine ⟨by rw [hF,parN_len,hlen],?_,fun y hy=>?_⟩
  · rw [hF]
    rcases step l.length (Nat.le_refl _) (l.length-1) (by omega) with ⟨z,h1,h2,_⟩ | ⟨h1,_⟩
    · omega
    · rw [h1,hps,List.getD_eq_getElem?_getD,List.getElem?_set_self (by simp;omega)];rfl
  · rw [hF]
    rcases step l.length (Nat.le_refl _) y (by omega) with ⟨z,h1,h2,h3,h4⟩ | ⟨_,h1⟩
    · exact ⟨z,h2,h1,h3,h4⟩
    · obtain ⟨z,z1,z2,z3⟩:=covered hC (l.length-1) (by omega) y (by omega) (by omega)
      exact absurd z3 (h1 z (by omega))
/-- what a row of outer nodes is, one by one -/
theorem outs_neg {ps:List Int}{f:Nat}{k:Int}(h:k<0):outs ps f k=[]:=by
  cases f with
  | zero=>rfl
  | succ f=>simp only [outs,if_pos h]
theorem outs_pos {ps:List Int}{f:Nat}{k:Nat}:outs ps (f+1) k=k :: outs ps f (ps.getD k (-1)):=by
  simp only [outs];rw [if_neg (by omega)];rfl
/-- steps enough -/
theorem outs_more {l:List Nd}(hp:∀ y,y<l.length→(parF l).getD y (-1) = -1∨∃ z:Nat,(parF l).getD y (-1)=(z:Int)∧y<z∧z<l.length):∀ (n k f g:Nat),l.length-k=n→k<l.length→n≤f→n≤g→outs (parF l) f (k:Int)=outs (parF l) g (k:Int):=by
  intro n
  induction n using Nat.strongRecOn with
  | _ n ih =>
    intro k f g hn hk hf hg
    obtain ⟨f,rfl⟩ : ∃ f',f=f' + 1:=⟨f-1,by omega⟩
    obtain ⟨g,rfl⟩ : ∃ g',g=g' + 1:=⟨g-1,by omega⟩
    rw [outs_pos,outs_pos]
    rcases hp k hk with e | ⟨z,e,h1,h2⟩
    · rw [e,outs_neg (by decide),outs_neg (by decide)]
    · rw [e,ih (l.length-z) (by omega) z f g rfl h2 (by omega) (by omega)]
end Ty
end
section
namespace Ty
open Go.RowKit
open Tr Sc

/-- nodes of which something is written -/
def wrK (k:Int):Prop:=decK k∨k=32∨k=33
def varK (k:Int):Prop:=k=2∨k=4∨k=12
/-- what is written of a name, and of a call -/
def Knd (l:List Nd) (y:Nat × Int):Prop:=y.1<l.length ∧
  (kindAt l y.1=32→∃ j:Nat,y.2=(j:Int)∧j<l.length∧varK (kindAt l j)) ∧
  (kindAt l y.1=33→(y.2 = -1∧libB (tx l y.1)=true)∨∃ j:Nat,y.2=(j:Int)∧j<l.length∧kindAt l j=3)
theorem own_kd {l:List Nd}{now k b:Nat}{E E':Env}{W:Wr}(h:own l now k E=.ok E' W) (hk:k<l.length) (hE:EnvOk l b E):∀ y ∈ W,Knd l y:=by
  have hdec:decK (kindAt l k)→∀ y:Nat × Int,y.1=k→Knd l y:=fun hd y hy=>by
    unfold decK at hd
    exact ⟨by omega,fun e=>by rw [hy] at e;omega,fun e=>by rw [hy] at e;omega⟩
  unfold own at h
  split at h
  · rename_i h2
    cases h
    intro y hy;rw [one_mem hy];exact hdec (h2.elim Or.inl (fun h=>Or.inr (Or.inl h))) _ rfl
  · rename_i h2
    split at h
    · rename_i h4
      unfold declF at h
      split at h
      · cases h
      · cases h
        intro y hy;rw [one_mem hy];exact hdec (h4.elim (fun h=>Or.inr (Or.inr (Or.inl h))) (fun h=>Or.inr (Or.inr (Or.inr h)))) _ rfl
    · split at h
      · rename_i h32
        unfold nameF at h
        split at h
        · rename_i j hj
          split at h
          · cases h
          · rename_i h3
            cases h
            intro y hy;rw [one_mem hy]
            obtain ⟨x,hx,rfl,_⟩:=envMem_find hj
            obtain ⟨h5,h6,_⟩:=hE x hx
            refine ⟨hk,fun _=>⟨x.1,rfl,h5,?_⟩,fun e=>by rw [h32] at e;omega⟩
            unfold decK at h6
            unfold varK
            omega
        · cases h
      · rename_i h32
        split at h
        · unfold callF at h
          split at h
          · rename_i hl
            cases h
            intro y hy;rw [one_mem hy]
            exact ⟨hk,fun e=>absurd e h32,fun _=>Or.inl ⟨rfl,hl⟩⟩
          · split at h
            · rename_i j hj
              split at h
              · rename_i h3
                cases h
                intro y hy;rw [one_mem hy]
                obtain ⟨x,hx,rfl,_⟩:=envMem_room hj
                exact ⟨hk,fun e=>absurd e h32,fun _=>Or.inr ⟨x.1,rfl,(hE x hx).1,h3⟩⟩
              · cases h
            · cases h
        · cases h
          intro y hy;cases hy
theorem each_kd {l:List Nd}{k:Nat}{q:Nat→Nat}(hK:Kin l k q) {g:Nat→Env→Rs}(hg:∀ x,x<k→∀ E E' W,g x E=.ok E' W→EnvOk l (St l x) E→EnvOk l (x+1) E'∧∀ y ∈ W,Knd l y) :
    ∀ n i E E' W,(kidsAt l k).length-i=n→i≤(kidsAt l k).length→each g ((kidsAt l k).drop i) E=.ok E' W→EnvOk l (q i) E→∀ y ∈ W,Knd l y:=by
  intro n
  induction n with
  | zero =>
    intro i E E' W hn hi h hE
    rw [each_end (by omega)] at h
    cases h
    intro y hy;cases hy
  | succ n ih =>
    intro i E E' W hn hi h hE
    have hil:i<(kidsAt l k).length:=by omega
    obtain ⟨x,h1,h2,h3,h4⟩:=hK.lt i hil
    rw [each_drop hil,h1,Int.toNat_natCast] at h
    obtain ⟨E1,W1,W2,g1,g2,rfl⟩:=bind_ok h
    obtain ⟨e1,e2⟩:=hg x h2 _ _ _ g1 (by rw [h4];exact hE)
    rw [h3] at e1
    have e4:=ih (i+1) _ _ _ (by omega) (by omega) g2 e1
    exact fun y hy=>(List.mem_append.1 hy).elim (e2 y) (e4 y)
theorem look_kd {l:List Nd}(hC:∀ j,j<l.length→codeAt l j=0):∀ (f now k:Nat) (E E':Env) (W:Wr),Sc.look l f now k E=.ok E' W→k<l.length→EnvOk l (St l k) E→∀ y ∈ W,Knd l y:=by
  intro f
  induction f with
  | zero=>intro now k E E' W h;cases h
  | succ f ih =>
    intro now k E E' W h hk hE
    obtain ⟨q,hK⟩:=kin_of hk (hC k hk)
    have hle:=St_le l k
    have hboth:∀ x now E E' W,Sc.look l f now x E=.ok E' W→x<k→EnvOk l (St l x) E→EnvOk l (x+1) E'∧∀ y ∈ W,Knd l y:=fun x now E E' W h hx hE =>
      ⟨(look_snd hC _ _ _ _ _ _ h (by omega) hE).1,ih _ _ _ _ _ h (by omega) hE⟩
    have hkid:∀ E E' W,kidsF l (Sc.look l f) now k E=.ok E' W→EnvOk l (St l k) E→∀ y ∈ W,Knd l y:=by
      intro E E' W h hE
      unfold kidsF at h
      split at h
      · obtain ⟨rfl,E2,h2⟩:=back_ok h
        exact each_kd hK (g:=Sc.look l f (now+1)) (fun x hx E E' W h=>hboth _ _ _ _ _ h hx) _ 0 E' E2 W rfl (Nat.zero_le _) h2 (by rw [hK.from_];exact hE)
      · exact each_kd hK (g:=Sc.look l f now) (fun x hx E E' W h=>hboth _ _ _ _ _ h hx) _ 0 E E' W rfl (Nat.zero_le _) h (by rw [hK.from_];exact hE)
    have hkidE:∀ E E' W,kidsF l (Sc.look l f) now k E=.ok E' W→EnvOk l (St l k) E→EnvOk l k E':=by
      intro E E' W h hE
      unfold kidsF at h
      split at h
      · obtain ⟨rfl,E2,h2⟩:=back_ok h
        exact hE.mono hle
      · exact (each_snd hK (g:=Sc.look l f now) (fun x hx E E' W h=>look_snd hC _ _ _ _ _ _ h (by omega)) _ 0 E E' W rfl (Nat.zero_le _) h (by rw [hK.from_];exact hE)).1
    simp only [Sc.look] at h
    split at h
    · obtain ⟨E1,W1,W2,h1,h2,rfl⟩:=bind_ok h
      exact fun y hy=>(List.mem_append.1 hy).elim (hkid _ _ _ h1 hE y) (own_kd h2 hk (hkidE _ _ _ h1 hE) y)
    · rename_i h12
      obtain ⟨E1,W1,W2,h1,h2,rfl⟩:=bind_ok h
      obtain ⟨_,e3,_⟩:=own_snd h1 hk hE hle
      exact fun y hy=>(List.mem_append.1 hy).elim (own_kd h1 hk hE y) (hkid _ _ _ h2 (e3 h12) y)
theorem own_has3 {l:List Nd}{now k:Nat}{E E':Env}{W:Wr}(h:own l now k E=.ok E' W) (hd:wrK (kindAt l k)):k ∈ W.map (·.1):=by
  unfold own at h
  split at h
  · cases h;simp
  · rename_i h2
    split at h
    · unfold declF at h
      split at h
      · cases h
      · cases h;simp
    · rename_i h4
      split at h
      · unfold nameF at h
        split at h
        · split at h
          · cases h
          · cases h;simp
        · cases h
      · rename_i h32
        split at h
        · unfold callF at h
          split at h
          · cases h;simp
          · split at h
            · split at h
              · cases h;simp
              · cases h
            · cases h
        · unfold wrK decK at hd
          omega
theorem each_has3 {l:List Nd}{k:Nat}{q:Nat→Nat}(hK:Kin l k q) {g:Nat→Env→Rs}(hg:∀ x,x<k→∀ E E' W,g x E=.ok E' W→∀ i,St l x≤i→i≤x→wrK (kindAt l i)→i ∈ W.map (·.1)) :
    ∀ n j E E' W,(kidsAt l k).length-j=n→j≤(kidsAt l k).length→each g ((kidsAt l k).drop j) E=.ok E' W→∀ i,q j≤i→i<k→wrK (kindAt l i)→i ∈ W.map (·.1):=by
  intro n
  induction n with
  | zero =>
    intro j E E' W hn hj h i h1 h2
    have:j=(kidsAt l k).length:=by omega
    subst this
    rw [hK.to_] at h1
    omega
  | succ n ih =>
    intro j E E' W hn hj h i hi1 hi2 hd
    have hil:j<(kidsAt l k).length:=by omega
    obtain ⟨x,h1,h2,h3,h4⟩:=hK.lt j hil
    rw [each_drop hil,h1,Int.toNat_natCast] at h
    obtain ⟨E1,W1,W2,g1,g2,rfl⟩:=bind_ok h
    rw [List.map_append,List.mem_append]
    by_cases hx:i≤x
    · exact Or.inl (hg x h2 _ _ _ g1 i (by omega) hx hd)
    · exact Or.inr (ih (j+1) _ _ _ (by omega) (by omega) g2 i (by omega) hi2 hd)
theorem look_has3 {l:List Nd}(hC:∀ j,j<l.length→codeAt l j=0):∀ (f now k:Nat) (E E':Env) (W:Wr),Sc.look l f now k E=.ok E' W→k<l.length→∀ i,St l k≤i→i≤k→wrK (kindAt l i)→i ∈ W.map (·.1):=by
  intro f
  induction f with
  | zero=>intro now k E E' W h;cases h
  | succ f ih =>
    intro now k E E' W h hk i hi1 hi2 hd
    obtain ⟨q,hK⟩:=kin_of hk (hC k hk)
    have hkid:∀ E E' W,kidsF l (Sc.look l f) now k E=.ok E' W→i<k→i ∈ W.map (·.1):=by
      intro E E' W h hik
      unfold kidsF at h
      split at h
      · obtain ⟨rfl,E2,h2⟩:=back_ok h
        exact each_has3 hK (g:=Sc.look l f (now+1)) (fun x hx E E' W h=>ih _ _ _ _ _ h (by omega)) _ 0 E' E2 W rfl (Nat.zero_le _) h2 i (by rw [hK.from_];exact hi1) hik hd
      · exact each_has3 hK (g:=Sc.look l f now) (fun x hx E E' W h=>ih _ _ _ _ _ h (by omega)) _ 0 E E' W rfl (Nat.zero_le _) h i (by rw [hK.from_];exact hi1) hik hd
    simp only [Sc.look] at h
    split at h
    · obtain ⟨E1,W1,W2,h1,h2,rfl⟩:=bind_ok h
      rw [List.map_append,List.mem_append]
      by_cases hik:i<k
      · exact Or.inl (hkid _ _ _ h1 hik)
      · have:i=k:=by omega
        subst this
        exact Or.inr (own_has3 h2 hd)
    · obtain ⟨E1,W1,W2,h1,h2,rfl⟩:=bind_ok h
      rw [List.map_append,List.mem_append]
      by_cases hik:i<k
      · exact Or.inr (hkid _ _ _ h2 hik)
      · have:i=k:=by omega
        subst this
        exact Or.inl (own_has3 h1 hd)
/-- what a list of names tells -/
theorem kd_facts {l:List Nd}{ns:List Int}(h0:1≤l.length) (hC:∀ j,j<l.length→codeAt l j=0) (hS:St l (l.length-1)=0) (h:namesF l=.ok ns) :
    ns.length=l.length∧∀ k,k<l.length→(kindAt l k=32→∃ j:Nat,ns.getD k 0=(j:Int)∧j<l.length∧varK (kindAt l j)) ∧
      (kindAt l k=33→(ns.getD k 0 = -1∧libB (tx l k)=true)∨∃ j:Nat,ns.getD k 0=(j:Int)∧j<l.length∧kindAt l j=3):=by
  obtain ⟨h1,E,Wt,E',W,ht,hl,rfl⟩:=names_open h
  have hr:l.length-1<l.length:=by omega
  have hE:EnvOk l 0 E:=tops_env _ _ _ _ ht (unit_tops hr (hC _ hr) h1) (fun x hx=>by cases hx)
  have hW:=look_kd hC _ _ _ _ _ _ hl hr (by rw [hS];exact hE)
  have hall:=look_has3 hC _ _ _ _ _ _ hl hr
  rw [hS] at hall
  refine ⟨by rw [ov_len];simp,fun k hk=>?_⟩
  have hget:wrK (kindAt l k)→∃ y ∈ W,y.1=k∧(ov W (List.replicate l.length (-1))).getD k 0=y.2:=fun hw=>by
    obtain ⟨y,hy,e1,e2⟩:=ov_get_mem (W:=W) (X:=List.replicate l.length (-1)) (by simpa using hk) (hall k (Nat.zero_le _) (by omega) hw)
    exact ⟨y,hy,e1,by rw [List.getD_eq_getElem?_getD,e2];rfl⟩
  constructor
  · intro e
    obtain ⟨y,hy,rfl,e2⟩:=hget (Or.inr (Or.inl e))
    obtain ⟨_,h2,_⟩:=hW y hy
    rw [e2];exact h2 e
  · intro e
    obtain ⟨y,hy,rfl,e2⟩:=hget (Or.inr (Or.inr e))
    obtain ⟨_,_,h3⟩:=hW y hy
    rw [e2];exact h3 e
/-- the number of a node in its form -/
theorem num_of {l:List Nd}{k:Nat}(hk:k<l.length) (hc:codeAt l k=0):numB (kindAt l k) (numOf l k) (l[k].z) (kidsAt l k).length=true:=by
  rw [codeAt_get hk] at hc
  have hn:numOf l k=l[k].n:=by simp [numOf,hk]
  rw [hn,kindAt_get hk,kidsAt_get hk]
  unfold nodeC at hc
  split at hc
  · cases hc
  · split at hc
    · cases hc
    · split at hc
      · cases hc
      · unfold fieldC fieldV at hc
        split at hc
        · cases hc
        · split at hc
          · cases hc
          · split at hc
            · cases hc
            · rename_i h
              cases hb:numB l[k].k l[k].n l[k].z l[k].c.length with
              | true=>rfl
              | false=>exact absurd (Or.inl hb) h
theorem num_var {l:List Nd}{k:Nat}(hk:k<l.length) (hc:codeAt l k=0) (hv:varK (kindAt l k)):numOf l k=1∨numOf l k=2∨numOf l k=3:=by
  have h:=num_of hk hc
  have hw:∀ n,wordB n=true→n=1∨n=2:=fun n h=>by unfold wordB at h;simpa using h
  unfold numB at h
  rcases hv with hv | hv | hv
  all_goals (rw [hv] at h;repeat' split at h)
  all_goals (try simp at h)
  all_goals (try (have:=hw _ (by first | exact h | exact h.1 | exact h.2);omega))
  all_goals omega
theorem num_fun {l:List Nd}{k:Nat}(hk:k<l.length) (hc:codeAt l k=0) (hv:kindAt l k=3):numOf l k=0∨numOf l k=1∨numOf l k=2:=by
  have h:=num_of hk hc
  have hw:∀ n,wordB n=true→n=1∨n=2:=fun n h=>by unfold wordB at h;simpa using h
  unfold numB at h
  rw [hv] at h
  repeat' split at h
  all_goals (try simp at h)
  all_goals (try omega)
  all_goals (rcases h with h | h)
  all_goals (first | omega | (have:=hw _ h;omega))
end Ty
end
end Go.Proofs.YtdjpopebeenlmaaGreatDoor
