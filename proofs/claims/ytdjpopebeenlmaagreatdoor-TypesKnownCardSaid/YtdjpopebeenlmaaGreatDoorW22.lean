/-
  Joined texts of this claim: Rc, Ve, Vf, Ev, Vg, Vh, Vi, Vj.
-/
import Derived.Test.YtdjpopebeenlmaaGreatDoorW00
import Derived.Test.YtdjpopebeenlmaaGreatDoorW21
import Derived.Test.YtdjpopebeenlmaaGreatDoorW13
import Derived.Deep.LoopGhost
import Derived.Test.YtdjpopebeenlmaaGreatDoorW12
import Derived.Test.YtdjpopebeenlmaaGreatDoorW11
import Derived.RegionTactic
import Derived.ChangeAlike
import Derived.Test.YtdjpopebeenlmaaGreatDoorW14
import Derived.Test.YtdjpopebeenlmaaGreatDoorW15
import Derived.Test.YtdjpopebeenlmaaGreatDoorW07
import Derived.Test.YtdjpopebeenlmaaGreatDoorW08
import Derived.Test.YtdjpopebeenlmaaGreatDoorW20
set_option maxHeartbeats 40000000
set_option maxRecDepth 100000
set_option linter.unusedVariables false
set_option linter.unusedSimpArgs false
namespace Go.Proofs.YtdjpopebeenlmaaGreatDoor
section
open Go.RowKit
open Tr (Blk)

/-- the box g has got what was found; all else that was there is as it was -/
structure Found (g:Nat) (x y:Value) (w w':World):Prop where
  os:w'.os=w.os
  tape:w'.tape=w.tape
  output:w'.output=w.output
  size:w.heap.size≤w'.heap.size
  box:Blk w' g 97 #[x,y]
  block:∀ b,b<w.heap.size→b≠g→w'.heap[b]? = w.heap[b]?
theorem Found.pre {g:Nat}{x y:Value}{w W W':World}(h:Below w.heap.size w W) (k:Found g x y W W'):Found g x y w W' :=
  ⟨k.os.trans h.os,k.tape.trans h.tape,k.output.trans h.output,Nat.le_trans h.size k.size,k.box,fun b hb hn=>(k.block b (Nat.lt_of_lt_of_le hb h.size) hn).trans (h.block b hb)⟩
theorem setRow_grown {w:World}{g:Nat}{x y u v:Value}(h:Blk w g 97 #[u,v]):Found g x y w (w.setRow g #[x,y]) :=
  ⟨rfl,rfl,rfl,by simp,setRow_heap w g _ _ _ _ h,fun b _ hb=>setRow_other w g b _ hb⟩
theorem e137 (b g:Nat) (x y u v:Value) (W:World) (h1:Blk W b 97 #[x,y]) (h2:Blk W g 97 #[u,v]) (ho:#[x,y].all (·.oneCell')=true) :
    (callFunc 228 #[.agg #[hd 97,.pointer (some ⟨g,0,none⟩),.int .u64 409],.agg #[hd 97,.pointer (some ⟨b,0,none⟩),.int .u64 153]]).run Tryz.prog W=.ok (.value (.tuple #[])) (W.setRow g #[x,y]):=by
  rw [e137',Sem.run_bind,ld73 b x y W h1]
  have:=run_storeVar_row (P:=Tryz.prog) W g 97 97 #[u,v] #[x,y] h2 (by kernel_rfl) rfl ho
  simp only [Result.andThen]
  rw [Sem.run_bind,this]
  rfl

set_option maxHeartbeats 4000000 in
set_option maxRecDepth 100000 in
theorem as_in (c a:Int) (u v:Value) (g b0:Nat) (w:World) (h0:w.cell? ⟨b0,0,none⟩=some (.pointer (some ⟨g,0,none⟩))) (hb0:b0<w.heap.size) (hg:Blk w g 97 #[u,v]) :
    Calls Tryz.prog 187 #[.iface 97 (.agg #[.int .i64 c,.int .i64 a]),.iface 153 (.pointer (some ⟨g,0,none⟩)),.agg #[.pointer (some ⟨7,153,none⟩),.pointer (some ⟨b0,0,none⟩),.int .u64 150],.iface 209 (.agg #[.pointer (some ⟨7,97,none⟩)])] w fun e w'=>e=.returned (.bool true)∧Found g (.int .i64 c) (.int .i64 a) w w':=by
  have q1:=fun x w=>e135 x w
  have q2:=fun w=>m5 w
  have q3:=fun w=>k5 w
  have q4:∀ W,(callFunc 184 #[.iface 97 (.agg #[.int .i64 c,.int .i64 a])]).run Tryz.prog W=_:=fun W=>e105b (.int .i64 c) (.int .i64 a) W
  have hone:#[Value.int .i64 c,Value.int .i64 a].all (·.oneCell')=true:=by rw [Array.all_eq_true_iff_forall_mem];intro x hx;simp at hx;rcases hx with rfl | rfl <;> rfl
  have h1:(w.alloc (.cells #[.pointer (some ⟨7,153,none⟩),.pointer (some ⟨b0,0,none⟩),.int .u64 150] 181)).cell? ⟨b0,0,none⟩=some (.pointer (some ⟨g,0,none⟩)):=by
    rw [World.cell?_alloc_past _ _ _ hb0];exact h0
  have q5:=e136 ⟨b0,0,none⟩ ⟨g,0,none⟩ _ h1
  have hse:=e137 (w.heap.size+1) g (.int .i64 c) (.int .i64 a) u v ((w.alloc (.cells #[.pointer (some ⟨7,153,none⟩),.pointer (some ⟨b0,0,none⟩),.int .u64 150] 181)).alloc (.cells #[.int .i64 c,.int .i64 a] 97)) (by have h:=Tr.Blk.new (w.alloc (.cells #[.pointer (some ⟨7,153,none⟩),.pointer (some ⟨b0,0,none⟩),.int .u64 150] 181)) 97 #[.int .i64 c,.int .i64 a];rw [World.size_alloc] at h;exact h) ((hg.alloc _).alloc _) hone
  simp only [hd_eq] at q4
  simp only [hd] at q1 q2 q3 q4 q5 hse
  have HG:=Lib.hid hg
  clear h1 h0 hg hone
  go_enter Tryz.func187,Tryz.ntmps187
  go_wp2
  go_loopg [0] 1 (fun k v0 wr=>v0=.iface 97 (.agg #[.int .i64 c,.int .i64 a])∧Hid (wr=w.alloc (.cells #[.pointer (some ⟨7,153,none⟩),.pointer (some ⟨b0,0,none⟩),.int .u64 150] 181)))
  case atStart=>exact ⟨rfl,rfl⟩
  case round =>
    obtain ⟨rfl,HW⟩:=hrel
    have:=HW.out
    subst this
    clear HW
    go_wp2
    go_ret
    exact ⟨rfl,Found.pre (((Below.refl _ _).alloc (Nat.le_refl _) _).alloc (by simp) _) (setRow_grown ((HG.out.alloc _).alloc _))⟩

set_option maxHeartbeats 4000000 in
set_option maxRecDepth 100000 in
theorem as_any (c a:Int) (u v:Value) (g:Nat) (w:World) (hg:Blk w g 97 #[u,v]) (hv:w.cell? ⟨0,0,none⟩=some (.iface 209 (.agg #[hd 68]))) :
    Calls Tryz.prog 126 #[.iface 97 (.agg #[.int .i64 c,.int .i64 a]),.iface 153 (.pointer (some ⟨g,0,none⟩))] w fun e w'=>e=.returned (.bool true)∧Found g (.int .i64 c) (.int .i64 a) w w':=by
  have q1:∀ w,(callFunc 184 #[.iface 153 (.pointer (some ⟨g,0,none⟩))]).run Tryz.prog w=_:=fun w=>e105a (some ⟨g,0,none⟩) w
  have q2:=e106
  have q3:=m1
  have q4:=k1
  have q5:=m2
  have q6:=k2
  have q7:=m3
  have q8:=k3
  have q9:=m4
  have q10:=k4
  have h0:0<w.heap.size:=Lib.lt_of_cell hv
  have hB:Below w.heap.size w ((w.alloc (.cells #[.pointer (some ⟨g,0,none⟩)] 153)).alloc (.cells #[.pointer (some ⟨7,153,none⟩),.pointer (some ⟨w.heap.size,0,none⟩),.int .u64 150] 181)):=((Below.refl _ _).alloc (Nat.le_refl _) _).alloc (by simp) _
  have hc:((w.alloc (.cells #[.pointer (some ⟨g,0,none⟩)] 153)).alloc (.cells #[.pointer (some ⟨7,153,none⟩),.pointer (some ⟨w.heap.size,0,none⟩),.int .u64 150] 181)).cell? ⟨w.heap.size,0,none⟩=some (.pointer (some ⟨g,0,none⟩)):=by
    rw [((Blk.new w 153 #[.pointer (some ⟨g,0,none⟩)]).alloc _).cell];rfl
  have hv2:=(hB.cell (p:=⟨0,0,none⟩) h0).trans hv
  have q11:=e107 ⟨w.heap.size,0,none⟩ ⟨g,0,none⟩ _ hc
  have hin:=as_in c a u v g w.heap.size _ hc (by simp;omega) ((hg.alloc _).alloc _)
  simp only [hd_eq] at q1
  simp only [hd] at q1 q2 q3 q4 q5 q6 q7 q8 q9 q10 q11 hv2
  have HB:=Lib.hid hB
  clear hc hv hg hB
  go_enter Tryz.func126,Tryz.ntmps126
  go_wp2_with (go_at_call 187;refine hin.mono ?_;rintro e w' ⟨rfl,hf⟩)
  have HF:=Lib.hid (Found.pre HB.out hf)
  clear hf hin
  (try go_wp2)
  (try go_ret)
  exact ⟨rfl,HF.out⟩
set_option maxHeartbeats 1000000 in
theorem as_nil (x:Value) (w:World):Calls Tryz.prog 126 #[.nilIface,x] w fun e w'=>e=.returned (.bool false)∧w=w':=by
  go_enter Tryz.func126,Tryz.ntmps126
  go_wp2
  go_ret
  exact ⟨rfl,rfl⟩
set_option maxHeartbeats 2000000 in
set_option maxRecDepth 100000 in
theorem faultOf_nil (w:World):Calls Tryz.prog 72 #[.nilIface] w fun e w'=>e=.returned (.agg #[.int .i64 0,.int .i64 0])∧Below w.heap.size w w':=by
  have hB:Hid (Below w.heap.size w ((w.alloc (.cells #[.int .i64 0,.int .i64 0] 26)).alloc (.cells #[.int .i64 0,.int .i64 0] 97))):=((Below.refl _ _).alloc (Nat.le_refl _) _).alloc (by simp) _
  go_enter Tryz.func72,Tryz.ntmps72
  go_wp2_with (go_at_call 126;refine (as_nil _ _).mono ?_;rintro e w' ⟨rfl,rfl⟩)
  refine bodyPost_ret (v:=.agg #[.int .i64 0,.int .i64 0]) (by simp [results,Tryz.results72,go_sem]) rfl ?_
  exact ⟨rfl,hB.out⟩
theorem box2 {w:World}{g:Nat}{t:TypeId}{x0 x1:Value}(h:Blk w g t #[x0,x1]):w.cell? ⟨g,0,none⟩=some x0∧w.cell? ⟨g,1,none⟩=some x1∧w.frozen? ⟨g,0,none⟩=false∧w.frozen? ⟨g,1,none⟩=false∧g<w.heap.size :=
  ⟨by rw [h.cell];rfl,by rw [h.cell];rfl,h.frozen 0,h.frozen 1,h.lt⟩
set_option maxHeartbeats 4000000 in
set_option maxRecDepth 100000 in
theorem faultOf_some (c a:Int) (w:World) (hv:w.cell? ⟨0,0,none⟩=some (.iface 209 (.agg #[hd 68]))):Calls Tryz.prog 72 #[errV c a] w fun e w'=>e=.returned (.agg #[.int .i64 c,.int .i64 a])∧Below w.heap.size w w':=by
  have h0:0<w.heap.size:=Lib.lt_of_cell hv
  have hB:Below w.heap.size w ((w.alloc (.cells #[.int .i64 0,.int .i64 0] 26)).alloc (.cells #[.int .i64 0,.int .i64 0] 97)):=((Below.refl _ _).alloc (Nat.le_refl _) _).alloc (by simp) _
  have hb1:Blk ((w.alloc (.cells #[.int .i64 0,.int .i64 0] 26)).alloc (.cells #[.int .i64 0,.int .i64 0] 97)) (w.heap.size+1) 97 #[.int .i64 0,.int .i64 0]:=by
    have h:=Blk.new (w.alloc (.cells #[.int .i64 0,.int .i64 0] 26)) 97 #[.int .i64 0,.int .i64 0]
    rwa [World.size_alloc] at h
  have hb0:Blk ((w.alloc (.cells #[.int .i64 0,.int .i64 0] 26)).alloc (.cells #[.int .i64 0,.int .i64 0] 97)) w.heap.size 26 #[.int .i64 0,.int .i64 0]:=(Blk.new _ _ _).alloc _
  have has:=as_any c a _ _ _ _ hb1 ((hB.cell (p:=⟨0,0,none⟩) h0).trans hv)
  have HB:=Lib.hid hB
  have HB0:=Lib.hid hb0
  unfold errV
  clear hB hb1 hb0 hv
  go_enter Tryz.func72,Tryz.ntmps72
  go_wp2_with (go_at_call 126;refine has.mono ?_)
  rintro e w1 ⟨rfl,hf⟩
  have hbl:Below w.heap.size w w1:=⟨hf.os.trans HB.out.os,hf.tape.trans HB.out.tape,hf.output.trans HB.out.output,Nat.le_trans HB.out.size hf.size,fun b hb=>(hf.block b (Nat.lt_of_lt_of_le hb HB.out.size) (by omega)).trans (HB.out.block b hb)⟩
  have k0:Blk w1 w.heap.size 26 #[.int .i64 0,.int .i64 0]:=(hf.block _ (by simp;omega) (by omega)).trans HB0.out
  obtain ⟨c0,c1,-,-,l1⟩:=box2 hf.box
  obtain ⟨d0,d1,f0,f1,l0⟩:=box2 k0
  have HBl:=Lib.hid hbl
  clear has hf hbl k0
  go_wp2
  refine bodyPost_ret (v:=.agg #[.int .i64 c,.int .i64 a]) (by simp [results,Tryz.results72,go_sem,d0,d1,l0]) rfl ?_
  exact ⟨rfl,(HBl.out.setCell (p:=⟨w.heap.size,0,none⟩) (Nat.le_refl _) _).setCell (p:=⟨w.heap.size,1,none⟩) (Nat.le_refl _) _⟩
end
section
open Go.RowKit
open Tk (T4 bstr)
open Tr (Nd Blk KidsAt NodeAt Fit CkPost CkR check_any)

theorem rowN_at (l:List Nd):∀ j,(h:j<l.length)→∀ i,i<6→(rowN l)[j * 6+i]? = (cells6 l[j])[i]?:=by
  induction l with
  | nil=>intro j h;simp at h
  | cons x l ih =>
    intro j h i hi
    have e:rowN (x :: l)=cells6 x ++ rowN l:=by simp [rowN]
    rw [e]
    cases j with
    | zero =>
      rw [List.getElem?_append_left (by simp [cells6];omega)]
      simp
    | succ j =>
      rw [List.getElem?_append_right (by simp [cells6];omega)]
      have:=ih j (by simpa using h) i hi
      simp only [List.getElem_cons_succ]
      rw [← this]
      congr 1
      simp [cells6];omega
/-- all that a tree lies in is from a block on -/
def Hi (b0:Nat) (p:Option Addr) (ns:List Nd):Prop :=
  (0<ns.length→∀ b o,p=some ⟨b,o,none⟩→b0≤b)∧(∀ i,(h:i<ns.length)→0<ns[i].c.length→∀ b o,ns[i].p=some ⟨b,o,none⟩→b0≤b)∧∀ i,(h:i<ns.length)→ns[i].c.length≤ns[i].cap
theorem Hi.low {b0 b1:Nat}{p:Option Addr}{ns:List Nd}(h:Hi b0 p ns) (hb:b1≤b0):Hi b1 p ns :=
  ⟨fun h0 b o e=>Nat.le_trans hb (h.1 h0 b o e),fun i hi h0 b o e=>Nat.le_trans hb (h.2.1 i hi h0 b o e),h.2.2⟩
/-- what lies from a block on stays while nothing from there on changes -/
theorem tr_hi {w w':World}{p:Option Addr}{ns:List Nd}{b0:Nat}(hT:Tr.Tr w p ns) (hH:Hi b0 p ns) (hk:∀ b,b0≤b→b<w.heap.size→w'.heap[b]? = w.heap[b]?) (hz:w.heap.size≤w'.heap.size):Tr.Tr w' p ns:=by
  refine ⟨fun h0=>?_,fun i hi h0=>?_⟩
  · obtain ⟨b,o,hp,hb,hN⟩:=hT.1 h0
    have hs:=hk b (hH.1 h0 b o hp) hb
    refine ⟨b,o,hp,Nat.lt_of_lt_of_le hb hz,fun i hi=>?_⟩
    obtain ⟨h1,h2,h3,h4,h5,h6⟩:=hN i hi
    have e:∀ k v,w.cell? ⟨b,k,none⟩=some v→w'.cell? ⟨b,k,none⟩=some v:=fun k v h=>(World.cell?_of_block (a:=⟨b,k,none⟩) hs).trans h
    exact ⟨e _ _ h1,e _ _ h2,e _ _ h3,e _ _ h4,e _ _ h5,e _ _ h6⟩
  · obtain ⟨b,o,hp,hb,hc⟩:=hT.2 i hi h0
    have hs:=hk b (hH.2.1 i hi h0 b o hp) hb
    exact ⟨b,o,hp,Nat.lt_of_lt_of_le hb hz,fun j hj=>(World.cell?_of_block (a:=⟨b,o+j,none⟩) hs).trans (hc j hj)⟩
/-- the nodes' row, as a tree -/
theorem tr_of {B T E:Nat}{w:World}{s:S3}{vT vN vL:Value}{ns:List Nd}(h:PS B T E w s vT vN vL ns):∃ p cap,vN=.slice p ns.length cap∧Tr.Tr w p ns∧Fit ns cap∧ns.length≤5000000∧Hi (B+1) p ns:=by
  have hlen:ns.length=s.N.length:=by rw [← h.eqN];simp
  have hl:=h.lenN
  have hk:∀ j,(hj:j<ns.length)→ns[j].c.length≤1000000000000000000:=fun j hj=>by
    have:=h.kl (bare ns[j]) (by rw [← h.eqN];exact List.mem_map.2 ⟨_,List.getElem_mem hj,rfl⟩)
    exact Nat.le_trans this (by omega)
  have hkid:∀ i,(hi:i<ns.length)→KidsAt w ns[i].p ns[i].c:=fun i hi h0=>by
    obtain ⟨b,_,hp,hb,_,hc⟩:=h.kid i hi h0
    exact ⟨b,0,hp,hb,fun j hj=>by rw [Nat.zero_add];exact hc j hj⟩
  have hhi:∀ i,(hi:i<ns.length)→0<ns[i].c.length→∀ b o,ns[i].p=some ⟨b,o,none⟩→B+1≤b:=fun i hi h0 b o e=>by
    obtain ⟨b',hb0,hp,_⟩:=h.kid i hi h0
    rw [hp] at e;cases e;exact hb0
  have hcell:=fun g hg=>World.ownsRow.cells h.nod (g:=g) hg
  obtain ⟨h0,h1⟩:=h.nod
  rcases h1 with ⟨rfl,h2⟩ | ⟨g,cap,cur,rfl,hg,hh,hn,hm,_,_⟩
  · exact ⟨none,0,by rw [h2],⟨fun h=>absurd h (by omega),hkid⟩,⟨by omega,by omega,hk⟩,by omega,fun h=>absurd h (by omega),hhi,h.caps⟩
  · refine ⟨_,cap,rfl,⟨fun _=>⟨g,0,rfl,lt_of_block hh,fun i hi=>?_⟩,hkid⟩,⟨hn,by omega,hk⟩,by omega,fun _ b o e=>by cases e;exact hg,hhi,h.caps⟩
    have e:∀ k,k<6→∀ u,(cells6 ns[i])[k]? = some u→w.cell? ⟨g,i * 6+k,none⟩=some u:=fun k hk u hu=>by
      have:=hcell g rfl (i * 6+k) u ((rowN_at ns i hi k hk).trans hu)
      have ea:((⟨g,0,none⟩ : Addr).add (i * 6+k))=⟨g,i * 6+k,none⟩:=by unfold Addr.add;split <;> simp_all
      rwa [ea] at this
    simp only [Nat.zero_add]
    exact ⟨e 0 (by omega) _ rfl,e 1 (by omega) _ rfl,e 2 (by omega) _ rfl,e 3 (by omega) _ rfl,e 4 (by omega) _ rfl,e 5 (by omega) _ rfl⟩

set_option maxHeartbeats 4000000 in
set_option maxRecDepth 100000 in
theorem fits_any {B T E:Nat}{w:World}{s:S3}(h:Ps B T E w s):Calls Tryz.prog 38 #[.pointer (some ⟨B,2,none⟩)] w (Did B T E w (fitsF s)):=by
  obtain ⟨Q,hQ⟩ : ∃ Q:Ending→World→Prop,Q=Did B T E w (fitsF s):=⟨_,rfl⟩
  rw [← hQ]
  have HQ:=Lib.hid hQ
  have HP:=Lib.hid h
  have hB:=h.lt
  obtain ⟨vT,vN,vL,ns,hS⟩:=h
  have Heq:Hid (∀ c a,CkR ns c a ↔ CkN s.N c a):=fun c a=>by rw [← hS.eqN];exact CkR_bare ns c a
  have g0:w.cell? ⟨B,2,none⟩=some vN:=by rw [hS.box.cell];rfl
  obtain ⟨p,cap,rfl,hT,hf,hl,-⟩:=tr_of hS
  have hck:=check_any ns p cap w hT hf
  clear hQ hS hT hf
  generalize ns.length=n at *
  go_enter Tryz.func38,Tryz.ntmps38
  go_wp2_with (go_at_call 22;refine hck.mono ?_)
  rintro e w1 ⟨hb,c,a,rfl,hc⟩
  have HB:=Lib.hid (hb.alloc hb.size (.cells #[.int .i64 c,.int .i64 a] 26))
  have HC:=Lib.hid ((Heq.out c a).1 hc)
  clear hb hc hck g0 Heq
  by_cases h0:c=0
  · subst h0
    obtain rfl:=Tr.CkR.zero HC.out
    go_wp2
    (try go_ret)
    rw [HQ.out,fits_yes HC.out]
    exact ⟨rfl,Ext.below HB.out hB,HP.out.below HB.out⟩
  · have q1:(c != 0)=true:=by simpa using h0
    have HN:Hid (¬ CkN s.N 0 0):=fun h=>h0 (HC.out.det h).1
    clear h0
    go_wp2
    (try go_ret)
    rw [HQ.out,fits_no HN.out]
    exact ⟨rfl,Ext.below HB.out hB⟩

/-- what result gives -/
def ResP (B:Nat) (N:List Mn) (w:World) (e:Ending) (w':World):Prop :=
  Below w.heap.size w w'∧∃ p cap ns,e=.returned (.tuple #[.agg #[.slice p ns.length cap],.agg #[.int .i64 0,.int .i64 0]])∧Tr.Tr w' p ns∧Fit ns cap∧ns.length≤5000000∧ns.map bare=N∧Hi (B+1) p ns
set_option maxHeartbeats 4000000 in
set_option maxRecDepth 100000 in
theorem result_ok {B T E:Nat}{w:World}{s:S3}(h:Ps B T E w s):Calls Tryz.prog 39 #[.pointer (some ⟨B,2,none⟩),.nilIface] w (ResP B s.N w):=by
  obtain ⟨Q,hQ⟩ : ∃ Q:Ending→World→Prop,Q=ResP B s.N w:=⟨_,rfl⟩
  rw [← hQ]
  have HQ:=Lib.hid hQ
  have hB:=h.lt
  obtain ⟨vT,vN,vL,ns,hS⟩:=h
  have Heq:=Lib.hid hS.eqN
  have g0:w.cell? ⟨B,2,none⟩=some vN:=by rw [hS.box.cell];rfl
  obtain ⟨p,cap,rfl,hT,hf,hl,hH⟩:=tr_of hS
  have HH:=Lib.hid hH
  have HT:=Lib.hid hT
  have HF:=Lib.hid hf
  obtain ⟨n,hn⟩ : ∃ n,n=ns.length:=⟨_,rfl⟩
  rw [← hn] at g0 hl
  have Hn:=Lib.hid hn
  clear hQ hS hT hf hn hH
  have hb1:Below w.heap.size w ((w.alloc (.cells #[.slice none 0 0] 24)).alloc (.cells #[.int .i64 0,.int .i64 0] 26)):=((Below.refl _ _).alloc (Nat.le_refl _) _).alloc (by simp) _
  have HB1:=Lib.hid hb1
  have hfo:=faultOf_nil ((w.alloc (.cells #[.slice none 0 0] 24)).alloc (.cells #[.int .i64 0,.int .i64 0] 26))
  have hk1:Hid (Blk ((w.alloc (.cells #[.slice none 0 0] 24)).alloc (.cells #[.int .i64 0,.int .i64 0] 26)) w.heap.size 24 #[.slice none 0 0]):=(Blk.new _ _ _).alloc _
  have hk2:Hid (Blk ((w.alloc (.cells #[.slice none 0 0] 24)).alloc (.cells #[.int .i64 0,.int .i64 0] 26)) (w.heap.size+1) 26 #[.int .i64 0,.int .i64 0]):=by
    have h:=Blk.new (w.alloc (.cells #[.slice none 0 0] 24)) 26 #[.int .i64 0,.int .i64 0]
    rw [World.size_alloc] at h
    exact h
  clear hb1
  go_enter Tryz.func39,Tryz.ntmps39
  go_wp2_with (go_at_call 72;refine hfo.mono ?_)
  rintro e w1 ⟨rfl,hb⟩
  have hb2:=HB1.out.trans (hb.mono (by simp;omega))
  have HB2:=Lib.hid hb2
  have K1:=Lib.hid (hk1.out.below hb (by simp;omega))
  have K2:=Lib.hid (hk2.out.below hb (by simp))
  have g1:w1.cell? ⟨B,2,none⟩=some (.slice p n cap):=(hb2.cell (p:=⟨B,2,none⟩) hB).trans g0
  have k10:w1.cell? ⟨w.heap.size,0,none⟩=some (.slice none 0 0):=by rw [K1.out.cell];rfl
  have k1f:=K1.out.frozen 0
  have l1:=K1.out.lt
  have k20:w1.cell? ⟨w.heap.size+1,0,none⟩=some (.int .i64 0):=by rw [K2.out.cell];rfl
  have k21:w1.cell? ⟨w.heap.size+1,1,none⟩=some (.int .i64 0):=by rw [K2.out.cell];rfl
  have k2f:=K2.out.frozen 0
  have k2g:=K2.out.frozen 1
  have l2:=K2.out.lt
  have hB1:B<w1.heap.size:=Nat.lt_of_lt_of_le hB hb2.size
  clear hb hb2 hfo g0 hk1 hk2
  go_wp2
  refine bodyPost_ret (v:=.tuple #[.agg #[.slice p n cap],.agg #[.int .i64 0,.int .i64 0]]) (by simp [results,Tryz.results39,go_sem,k10,k20,k21,l1,l2]) rfl ?_
  have hbe:Below w.heap.size w ((((w1.setCell ⟨w.heap.size,0,none⟩ (.slice p n cap)).setCell ⟨w.heap.size+1,0,none⟩ (.int .i64 0)).setCell ⟨w.heap.size+1,1,none⟩ (.int .i64 0)).alloc (.cells #[.int .i64 0,.int .i64 0] 26)) :=
    (((HB2.out.setCell (p:=⟨w.heap.size,0,none⟩) (Nat.le_refl _) _).setCell (p:=⟨w.heap.size+1,0,none⟩) (by simp) _).setCell (p:=⟨w.heap.size+1,1,none⟩) (by simp) _).alloc (by simpa [World.setCell] using HB2.out.size) _
  rw [HQ.out,← Heq.out]
  refine ⟨?_,p,cap,ns,by rw [← Hn.out],?_,HF.out,by rw [← Hn.out];exact hl,rfl,HH.out⟩
  · first | exact hbe | exact hbe.drew | (simpa using hbe)
  · first | exact HT.out.below hbe | exact HT.out.below hbe.drew

/-- what result gives where something is wrong -/
def ResB (c a:Int) (w:World) (e:Ending) (w':World):Prop :=
  Below w.heap.size w w'∧e=.returned (.tuple #[.agg #[.slice none 0 0],.agg #[.int .i64 c,.int .i64 a]])
set_option maxHeartbeats 4000000 in
set_option maxRecDepth 100000 in
theorem result_bad {B:Nat}(c a:Int) (hc:c≠0) (w:World) (hv:w.cell? ⟨0,0,none⟩=some (.iface 209 (.agg #[hd 68]))):Calls Tryz.prog 39 #[.pointer (some ⟨B,2,none⟩),errV c a] w (ResB c a w):=by
  obtain ⟨Q,hQ⟩ : ∃ Q:Ending→World→Prop,Q=ResB c a w:=⟨_,rfl⟩
  rw [← hQ]
  have HQ:=Lib.hid hQ
  have q0:(c != 0)=true:=by simpa using hc
  have hb1:Below w.heap.size w ((w.alloc (.cells #[.slice none 0 0] 24)).alloc (.cells #[.int .i64 0,.int .i64 0] 26)):=((Below.refl _ _).alloc (Nat.le_refl _) _).alloc (by simp) _
  have HB1:=Lib.hid hb1
  have hfo:=faultOf_some c a ((w.alloc (.cells #[.slice none 0 0] 24)).alloc (.cells #[.int .i64 0,.int .i64 0] 26)) ((hb1.cell (p:=⟨0,0,none⟩) (Lib.lt_of_cell hv)).trans hv)
  have hk1:Hid (Blk ((w.alloc (.cells #[.slice none 0 0] 24)).alloc (.cells #[.int .i64 0,.int .i64 0] 26)) w.heap.size 24 #[.slice none 0 0]):=(Blk.new _ _ _).alloc _
  have hk2:Hid (Blk ((w.alloc (.cells #[.slice none 0 0] 24)).alloc (.cells #[.int .i64 0,.int .i64 0] 26)) (w.heap.size+1) 26 #[.int .i64 0,.int .i64 0]):=by
    have h:=Blk.new (w.alloc (.cells #[.slice none 0 0] 24)) 26 #[.int .i64 0,.int .i64 0]
    rw [World.size_alloc] at h
    exact h
  unfold errV at hfo ⊢
  clear hb1 hQ hv hc
  go_enter Tryz.func39,Tryz.ntmps39
  go_wp2_with (go_at_call 72;refine hfo.mono ?_)
  rintro e w1 ⟨rfl,hb⟩
  have hb2:=HB1.out.trans (hb.mono (by simp;omega))
  have HB2:=Lib.hid (hb2.alloc hb2.size (.cells #[.int .i64 c,.int .i64 a] 26))
  have K1:=Lib.hid ((hk1.out.below hb (by simp;omega)).alloc (.cells #[.int .i64 c,.int .i64 a] 26))
  have K2:=Lib.hid ((hk2.out.below hb (by simp)).alloc (.cells #[.int .i64 c,.int .i64 a] 26))
  have K3:Hid (Blk (w1.alloc (.cells #[.int .i64 c,.int .i64 a] 26)) w1.heap.size 26 #[.int .i64 c,.int .i64 a]):=Blk.new _ _ _
  have l0:w.heap.size+1<w1.heap.size:=by have:=hb.size;simp at this;omega
  clear hb hb2 hfo hk1 hk2
  go_wp2
  generalize w1.alloc (.cells #[.int .i64 c,.int .i64 a] 26)=W6 at *
  generalize w1.heap.size=g at *
  have k10:W6.cell? ⟨w.heap.size,0,none⟩=some (.slice none 0 0):=by rw [K1.out.cell];rfl
  have k1f:=K1.out.frozen 0
  have l1:=K1.out.lt
  have k20:W6.cell? ⟨w.heap.size+1,0,none⟩=some (.int .i64 0):=by rw [K2.out.cell];rfl
  have k21:W6.cell? ⟨w.heap.size+1,1,none⟩=some (.int .i64 0):=by rw [K2.out.cell];rfl
  have k2f:=K2.out.frozen 0
  have k2g:=K2.out.frozen 1
  have l2:=K2.out.lt
  have k30:W6.cell? ⟨g,0,none⟩=some (.int .i64 c):=by rw [K3.out.cell];rfl
  have k31:W6.cell? ⟨g,1,none⟩=some (.int .i64 a):=by rw [K3.out.cell];rfl
  have hbe:Below w.heap.size w ((((W6.setCell ⟨w.heap.size,0,none⟩ (.slice none 0 0)).setCell ⟨w.heap.size+1,0,none⟩ (.int .i64 c)).setCell ⟨w.heap.size+1,1,none⟩ (.int .i64 a)).drew) :=
    (((HB2.out.setCell (p:=⟨w.heap.size,0,none⟩) (Nat.le_refl _) _).setCell (p:=⟨w.heap.size+1,0,none⟩) (by simp) _).setCell (p:=⟨w.heap.size+1,1,none⟩) (by simp) _).drew
  have HBE:=Lib.hid hbe
  clear hbe
  go_region
  go_wp2
  refine bodyPost_ret (v:=.tuple #[.agg #[.slice none 0 0],.agg #[.int .i64 c,.int .i64 a]]) (by simp [results,Tryz.results39,go_sem,k10,k20,k21,l1,l2]) rfl ?_
  rw [HQ.out]
  exact ⟨HBE.out,rfl⟩
end
section
open Go.RowKit
open Tk (T4 SR Scans bstr rowOf)
open Tr (Nd Blk KidsAt Fit)

/-- what holds between the steps: first an empty box, then the parser -/
def Inv (B T E:Nat):Nat→S3→World→Prop
  | 0,s,w=>s=⟨[],[],[]⟩∧Blk w B T #[.slice none 0 0,.int .i64 0,.slice none 0 0,.slice none 0 0]
  | _+1,s,w=>Ps B T E w s
/-- the parser's box was just laid, and new blocks behind it -/
structure Laid (B T:Nat) (w W:World):Prop where
  below:Below w.heap.size w W
  box:Blk W B T #[.slice none 0 0,.int .i64 0,.slice none 0 0,.slice none 0 0]
  ge:w.heap.size≤B
theorem Laid.back {B T:Nat}{w W w':World}(h:Laid B T w W) (hx:Ext B W w'):Below w.heap.size w w' :=
  ⟨hx.os.trans h.below.os,hx.tape.trans h.below.tape,hx.output.trans h.below.output,Nat.le_trans h.below.size hx.size,
    fun b hb=>(hx.block b (Nat.lt_of_lt_of_le hb h.below.size) (fun ho=>by have:=(own_init h.box b).1 ho;have:=h.ge;omega)).trans (h.below.block b hb)⟩
theorem step_read {B T gp gs:Nat}{s:ByteArray}{R:SR}(hR:TokR s.data.toList R) {w W:World}(hL:Laid B T w W) (hp:Blk W gp 95 #[.pointer (some ⟨B,0,none⟩)]) (hs:Blk W gs 9 #[.string s]) (np:B≠gp) (ng:B≠gs)
    (hs47:s.size≤140737488355328) (hsh:w.ShapedOpen Tryz.prog) {te:TypeId} {pe:Value} (hv:w.cell? ⟨4,0,none⟩=some (.iface te pe)) :
    StepI B (Inv B T s.size 0) (Inv B T s.size 1) W (.func (.func 68) #[] #[.pointer (some ⟨gs,0,none⟩),.pointer (some ⟨gp,0,none⟩)]) (readF R):=by
  refine ⟨68,_,_,rfl,ent37,fun w' s1 hx hI hr=>?_⟩
  obtain ⟨rfl,hb⟩:=hI
  have hb':=hL.back hx
  have h3:4<w.heap.size:=Lib.lt_of_cell hv
  have n1:¬ Own B W gp:=fun ho=>np ((own_init hL.box gp).1 ho).symm
  have n2:¬ Own B W gs:=fun ho=>ng ((own_init hL.box gs).1 ho).symm
  have k1:=hx.blk hp n1
  have k2:=hx.blk hs n2
  exact readc_any hR (by rw [k1.cell];rfl) (by rw [k2.cell];rfl) k1.lt k2.lt np ng hb hs47 (Tk.sh_below hsh hb') ((hb'.cell (p:=⟨4,0,none⟩) h3).trans hv)
theorem stepFits {B T E:Nat}(W:World):StepV B T E W (.func (.func 38) #[.pointer (some ⟨B,2,none⟩)] #[]) fitsF :=
  ⟨38,_,_,rfl,ent23,fun _ _ _ hp _=>fits_any hp⟩
/-- what Expr and Unit give -/
def ParR (r:R3) (w:World) (e:Ending) (w':World):Prop :=
  Below w.heap.size w w'∧match r with
  | .ok s=>∃ p cap ns,e=.returned (.tuple #[.agg #[.slice p ns.length cap],.agg #[.int .i64 0,.int .i64 0]])∧Tr.Tr w' p ns∧Fit ns cap∧ns.length≤5000000∧ns.map bare=s.N∧Hi w.heap.size p ns
  | .bad c a=>e=.returned (.tuple #[.agg #[.slice none 0 0],.agg #[.int .i64 c,.int .i64 a]])
  | .out=>True
theorem steps3 {B T E:Nat}{W:World}{v1 v2 v3:Value}{f1 f2 f3:F3}(g:Nat) (hg:g<W.heap.size) (hn:¬ Own B W g) (h0:W.cell? ⟨g,0,none⟩=some v1) (h1:W.cell? ⟨g,1,none⟩=some v2) (h2:W.cell? ⟨g,2,none⟩=some v3)
    (s1:StepI B (Inv B T E 0) (Inv B T E 1) W v1 f1) (s2:StepV B T E W v2 f2) (s3:StepV B T E W v3 f3):StepsI B (Inv B T E) W g [v1,v2,v3] [f1,f2,f3] where
  len:=rfl
  few:=by simp
  lt:=hg
  no:=hn
  cell:=fun j hj=>by
    match j,hj with
    | 0,_=>exact h0
    | 1,_=>exact h1
    | 2,_=>exact h2
  step:=fun j ha hb=>by
    match j,ha,hb with
    | 0,_,_=>exact s1
    | 1,_,_=>exact StepI.of s2
    | 2,_,_=>exact StepI.of s3
end
section
open Tk (T4 SR Scans skp fstT)
open Tr (Nd CkR codeAt St Dp)

def scanF:Nat→Nat→List UInt8→List T4→Option SR
  | 0,_,_,_=>none
  | m+1,p,l,acc=>match skp l with
    | .skip n=>scanF m (p+n) (l.drop n) acc
    | .opens=>some (.bad 1 p)
    | .word=>if l.isEmpty then some (.ok acc) else if acc.length=800 then some (.bad 10 p) else match fstT l with
      | .bad c=>some (.bad c p)
      | .tok k n v=>scanF m (p+n) (l.drop n) (acc ++ [⟨k,l.take n,v,p⟩])
theorem scanF_sound:∀ m p l acc R,scanF m p l acc=some R→Scans p l acc R:=by
  intro m
  induction m with
  | zero=>intro p l acc R h;simp [scanF] at h
  | succ m ih =>
    intro p l acc R h
    simp only [scanF] at h
    cases hs:skp l with
    | skip n=>rw [hs] at h;exact .skip hs (ih _ _ _ _ h)
    | opens=>rw [hs] at h;cases h;exact .opens hs
    | word =>
      rw [hs] at h
      simp only at h
      cases l with
      | nil=>simp at h;subst h;exact .done _ _
      | cons c l =>
        simp only [List.isEmpty_cons,Bool.false_eq_true,if_false] at h
        by_cases h8:acc.length=800
        · rw [if_pos h8] at h;cases h;exact .much hs (by simp) h8
        · rw [if_neg h8] at h
          cases hf:fstT (c :: l) with
          | bad cc=>rw [hf] at h;cases h;exact .bad hs (by simp) h8 hf
          | tok k n v=>rw [hf] at h;exact .tok hs (by simp) h8 hf (ih _ _ _ _ h)
/-- is a tree as it should be? -/
def ckB (l:List Nd):Bool:=decide (1≤l.length) && decide (l.length≤600) && (List.range l.length).all (fun j=>codeAt l j == 0) && St l (l.length-1) == 0 && decide (Dp l (l.length-1)≤40)
theorem ckB_sound {l:List Nd}(h:ckB l=true):CkR l 0 0:=by
  unfold ckB at h
  simp only [Bool.and_eq_true,decide_eq_true_eq,List.all_eq_true,List.mem_range,beq_iff_eq] at h
  obtain ⟨⟨⟨⟨h1,h2⟩,h3⟩,h4⟩,h5⟩:=h
  exact Or.inr ⟨h1,h2,Or.inr ⟨h3,Or.inr ⟨h4,Or.inr ⟨h5,rfl,rfl⟩⟩⟩⟩
def fin (r:R3):Option (List Mn):=match r with
  | .ok s=>if s.L.isEmpty && ckB (s.N.map ndOf) then some s.N else none
  | _=>none
end
section
open Go.RowKit
open Tk (T4 SR Scans bstr rowOf)
open Tr (Nd Blk KidsAt Fit)

/-- the world as the parser begins: the results' cells, its box, what read took, the row of steps -/
def World6 (w:World) (T:TypeId) (s:ByteArray) (vs:Array Value):World :=
  (((((w.alloc (.cells #[.slice none 0 0] 24)).alloc (.cells #[.int .i64 0,.int .i64 0] 26)).alloc (.cells #[.slice none 0 0,.int .i64 0,.slice none 0 0,.slice none 0 0] T)).alloc (.cells #[.pointer (some ⟨w.heap.size+1+1,0,none⟩)] 95)).alloc (.cells #[.string s] 9)).alloc (.cells vs 70)
structure Six (w W:World) (T:TypeId) (s:ByteArray) (vs:Array Value):Prop where
  laid:Laid (w.heap.size+1+1) T w W
  res:Blk W w.heap.size 24 #[.slice none 0 0]
  flt:Blk W (w.heap.size+1) 26 #[.int .i64 0,.int .i64 0]
  ptr:Blk W (w.heap.size+1+1+1) 95 #[.pointer (some ⟨w.heap.size+1+1,0,none⟩)]
  txt:Blk W (w.heap.size+1+1+1+1) 9 #[.string s]
  row:Blk W (w.heap.size+1+1+1+1+1) 70 vs
theorem blk_new' {w:World}{t:TypeId}{cs:Array Value}{g:Nat}(h:g=w.heap.size):Blk (w.alloc (.cells cs t)) g t cs:=by subst h;exact Blk.new _ _ _
theorem world6 (w:World) (T:TypeId) (s:ByteArray) (vs:Array Value):Six w (World6 w T s vs) T s vs where
  laid:=⟨((((((Below.refl _ _).alloc (Nat.le_refl _) _).alloc (by simp) _).alloc (by simp;omega) _).alloc (by simp;omega) _).alloc (by simp;omega) _).alloc (by simp;omega) _,(((blk_new' (by simp)).alloc _).alloc _).alloc _,by omega⟩
  res:=(((((blk_new' (by simp)).alloc _).alloc _).alloc _).alloc _).alloc _
  flt:=((((blk_new' (by simp)).alloc _).alloc _).alloc _).alloc _
  ptr:=((blk_new' (by simp)).alloc _).alloc _
  txt:=(blk_new' (by simp)).alloc _
  row:=blk_new' (by simp)
theorem Six.no {w W:World}{T:TypeId}{s:ByteArray}{vs:Array Value}(h:Six w W T s vs) {g:Nat}(hg:g≠w.heap.size+1+1):¬ Own (w.heap.size+1+1) W g:=fun ho=>hg ((own_init h.laid.box g).1 ho)
end
section
open Go.RowKit
open Tk (T4 SR Scans bstr rowOf)
open Tr (Nd Blk KidsAt Fit)

noncomputable def unitW (E n:Nat) (R:SR):R3:=seqF [readF R,unitF E n,fitsF] ⟨[],[],[]⟩
theorem unit_turn {n:Nat}{s:ByteArray}(hun:∀ B,FnC B 66 s.size 37 (unitF s.size n)) {R:SR}(hR:TokR s.data.toList R) (w:World) (hs47:s.size≤140737488355328) (hsh:w.ShapedOpen Tryz.prog) {te:TypeId}{pe:Value}(hv:w.cell? ⟨4,0,none⟩=some (.iface te pe)) (hr:unitW s.size n R≠.out) :
    Calls Tryz.prog 35 #[.slice (some ⟨w.heap.size+1+1+1+1+1,0,none⟩) 3 3]
      (World6 w 66 s #[.func (.func 68) #[] #[.pointer (some ⟨w.heap.size+1+1+1+1,0,none⟩),.pointer (some ⟨w.heap.size+1+1+1,0,none⟩)],.func (.func 37) #[.pointer (some ⟨w.heap.size+1+1,0,none⟩)] #[],.func (.func 38) #[.pointer (some ⟨w.heap.size+1+1,2,none⟩)] #[]])
      (DidI (w.heap.size+1+1) (fun s1 w'=>Ps (w.heap.size+1+1) 66 s.size w' s1) (World6 w 66 s #[.func (.func 68) #[] #[.pointer (some ⟨w.heap.size+1+1+1+1,0,none⟩),.pointer (some ⟨w.heap.size+1+1+1,0,none⟩)],.func (.func 37) #[.pointer (some ⟨w.heap.size+1+1,0,none⟩)] #[],.func (.func 38) #[.pointer (some ⟨w.heap.size+1+1,2,none⟩)] #[]]) (unitW s.size n R)):=by
  have h6:=world6 w 66 s #[.func (.func 68) #[] #[.pointer (some ⟨w.heap.size+1+1+1+1,0,none⟩),.pointer (some ⟨w.heap.size+1+1+1,0,none⟩)],.func (.func 37) #[.pointer (some ⟨w.heap.size+1+1,0,none⟩)] #[],.func (.func 38) #[.pointer (some ⟨w.heap.size+1+1,2,none⟩)] #[]]
  generalize World6 w 66 s _=W at h6 ⊢
  have hS:=steps3 (B:=w.heap.size+1+1) (T:=66) (E:=s.size) (w.heap.size+1+1+1+1+1) h6.row.lt (h6.no (by omega)) (by rw [h6.row.cell];rfl) (by rw [h6.row.cell];rfl) (by rw [h6.row.cell];rfl)
    (step_read hR h6.laid h6.ptr h6.txt (by omega) (by omega) hs47 hsh hv) (stepFn (hun _) ent29 W) (stepFits W)
  exact inTurnG (I:=Inv (w.heap.size+1+1) 66 s.size) (cap:=3) ⟨rfl,h6.laid.box⟩ hS hr

set_option maxHeartbeats 8000000 in
set_option maxRecDepth 100000 in
theorem punit_any {n:Nat}{s:ByteArray}(hun:∀ B,FnC B 66 s.size 37 (unitF s.size n)) {R:SR}(hR:TokR s.data.toList R) (w:World) (hs47:s.size≤140737488355328) (hsh:w.ShapedOpen Tryz.prog) {te:TypeId}{pe:Value}(hv:w.cell? ⟨4,0,none⟩=some (.iface te pe))
    (hv0:w.cell? ⟨0,0,none⟩=some (.iface 209 (.agg #[hd 68]))) (hr:unitW s.size n R≠.out) (hz:∀ c a,unitW s.size n R=.bad c a→c≠0) :
    Calls Tryz.prog 13 #[.string s] w (ParR (unitW s.size n R) w):=by
  have hturn:=unit_turn (n:=n) hun hR w hs47 hsh hv hr
  obtain ⟨r,hrr⟩ : ∃ r,r=unitW s.size n R:=⟨_,rfl⟩
  rw [← hrr] at hr hz hturn ⊢
  obtain ⟨Q,hQ⟩ : ∃ Q:Ending→World→Prop,Q=ParR r w:=⟨_,rfl⟩
  rw [← hQ]
  have HQ:=Lib.hid hQ
  have HR:=Lib.hid hr
  have HZ:=Lib.hid hz
  have HV:=Lib.hid hv0
  have hlay:=fun W=>read_lay (B:=w.heap.size+1+1) s W
  have HT:=Lib.hid hturn
  clear hun hQ hr hz hturn hrr hsh hv hv0 hR
  go_enter Tryz.func13,Tryz.ntmps13
  go_wp2_with (go_at_call 36;refine (hlay _).mono ?_;rintro e w' ⟨rfl,rfl⟩)
  refine HT.out.mono ?_
  have H6:=Lib.hid (world6 w 66 s #[.func (.func 68) #[] #[.pointer (some ⟨w.heap.size+1+1+1+1,0,none⟩),.pointer (some ⟨w.heap.size+1+1+1,0,none⟩)],.func (.func 37) #[.pointer (some ⟨w.heap.size+1+1,0,none⟩)] #[],.func (.func 38) #[.pointer (some ⟨w.heap.size+1+1,2,none⟩)] #[]])
  clear HT hlay
  generalize World6 w 66 s _=W at H6
  intro e w7 hd
  have h0:0<w.heap.size:=Lib.lt_of_cell HV.out
  cases r with
  | out=>exact absurd rfl HR.out
  | bad c a =>
    obtain ⟨rfl,hx⟩:=hd
    have hb:=H6.out.laid.back hx
    have hres:=result_bad (B:=w.heap.size+1+1) c a (HZ.out c a rfl) w7 ((hb.cell (p:=⟨0,0,none⟩) h0).trans HV.out)
    have k1:=hx.blk H6.out.res (H6.out.no (by omega))
    have k2:=hx.blk H6.out.flt (H6.out.no (by omega))
    have HB:=Lib.hid hb
    have K1:=Lib.hid k1
    have K2:=Lib.hid k2
    unfold errV at hres ⊢
    clear hx hb k1 k2 HZ HR
    go_wp2_with (go_at_call 39;refine hres.mono ?_)
    rintro e w8 ⟨hb8,rfl⟩
    have HB8:=Lib.hid (HB.out.trans (hb8.mono HB.out.size))
    have K1b:=Lib.hid (K1.out.below hb8 K1.out.lt)
    have K2b:=Lib.hid (K2.out.below hb8 K2.out.lt)
    clear hb8 hres K1 K2
    have k10:w8.cell? ⟨w.heap.size,0,none⟩=some (.slice none 0 0):=by rw [K1b.out.cell];rfl
    have k1f:=K1b.out.frozen 0
    have l1:=K1b.out.lt
    have k20:w8.cell? ⟨w.heap.size+1,0,none⟩=some (.int .i64 0):=by rw [K2b.out.cell];rfl
    have k21:w8.cell? ⟨w.heap.size+1,1,none⟩=some (.int .i64 0):=by rw [K2b.out.cell];rfl
    have k2f:=K2b.out.frozen 0
    have k2g:=K2b.out.frozen 1
    have l2:=K2b.out.lt
    go_wp2
    refine bodyPost_ret (v:=.tuple #[.agg #[.slice none 0 0],.agg #[.int .i64 c,.int .i64 a]]) (by simp [results,Tryz.results13,go_sem,k10,k20,k21,l1,l2]) rfl ?_
    rw [HQ.out]
    exact ⟨((HB8.out.setCell (p:=⟨w.heap.size,0,none⟩) (Nat.le_refl _) _).setCell (p:=⟨w.heap.size+1,0,none⟩) (by simp) _).setCell (p:=⟨w.heap.size+1,1,none⟩) (by simp) _,rfl⟩
  | ok s1 =>
    obtain ⟨rfl,hx,hp⟩:=hd
    have hb:=H6.out.laid.back hx
    have hres:=result_ok hp
    have k1:=hx.blk H6.out.res (H6.out.no (by omega))
    have k2:=hx.blk H6.out.flt (H6.out.no (by omega))
    have HB:=Lib.hid hb
    have K1:=Lib.hid k1
    have K2:=Lib.hid k2
    clear hx hb k1 k2 HZ HR hp
    go_wp2_with (go_at_call 39;refine hres.mono ?_)
    rintro e w8 ⟨hb8,p,cap,ns,rfl,hT,hF,hl5,he,hH⟩
    have HB8:=Lib.hid (HB.out.trans (hb8.mono HB.out.size))
    have K1b:=Lib.hid (K1.out.below hb8 K1.out.lt)
    have K2b:=Lib.hid (K2.out.below hb8 K2.out.lt)
    have HTr:=Lib.hid hT
    have HFt:=Lib.hid hF
    have He:=Lib.hid he
    have HH:=Lib.hid hH
    have H5:=Lib.hid hl5
    obtain ⟨m,hm⟩ : ∃ m,m=ns.length:=⟨_,rfl⟩
    have hm5:m≤5000000:=by omega
    rw [← hm]
    have Hm:=Lib.hid hm
    clear hb8 hres K1 K2 hT hF he hl5 hm hH
    have k10:w8.cell? ⟨w.heap.size,0,none⟩=some (.slice none 0 0):=by rw [K1b.out.cell];rfl
    have k1f:=K1b.out.frozen 0
    have l1:=K1b.out.lt
    have k20:w8.cell? ⟨w.heap.size+1,0,none⟩=some (.int .i64 0):=by rw [K2b.out.cell];rfl
    have k21:w8.cell? ⟨w.heap.size+1,1,none⟩=some (.int .i64 0):=by rw [K2b.out.cell];rfl
    have k2f:=K2b.out.frozen 0
    have k2g:=K2b.out.frozen 1
    have l2:=K2b.out.lt
    go_wp2
    refine bodyPost_ret (v:=.tuple #[.agg #[.slice p m cap],.agg #[.int .i64 0,.int .i64 0]]) (by simp [results,Tryz.results13,go_sem,k10,k20,k21,l1,l2]) rfl ?_
    rw [HQ.out]
    refine ⟨((HB8.out.setCell (p:=⟨w.heap.size,0,none⟩) (Nat.le_refl _) _).setCell (p:=⟨w.heap.size+1,0,none⟩) (by simp) _).setCell (p:=⟨w.heap.size+1,1,none⟩) (by simp) _,p,cap,ns,by rw [← Hm.out],?_,HFt.out,H5.out,He.out,HH.out.low (by omega)⟩
    exact tr_hi HTr.out HH.out (fun b hb _=>((Below.heap_setCell _ _ _ _ (by show b≠w.heap.size+1;omega)).trans (Below.heap_setCell _ _ _ _ (by show b≠w.heap.size+1;omega))).trans (Below.heap_setCell _ _ _ _ (by show b≠w.heap.size;omega))) (by simp [World.setCell])
end
section
open Go.RowKit
open Tk (T4 SR Scans bstr rowOf)
open Tr (Nd Blk KidsAt Fit)

/-- what a world has that the parser needs -/
structure Env (w:World):Prop where
  sh:w.ShapedOpen Tryz.prog
  v3:∃ te pe,w.cell? ⟨4,0,none⟩=some (.iface te pe)
  v0:w.cell? ⟨0,0,none⟩=some (.iface 209 (.agg #[hd 68]))
theorem Env.below {w w':World}(h:Env w) (hb:Below w.heap.size w w'):Env w':=by
  obtain ⟨te,pe,hv⟩:=h.v3
  exact ⟨Tk.sh_below h.sh hb,⟨te,pe,(hb.cell (p:=⟨4,0,none⟩) (Lib.lt_of_cell hv)).trans hv⟩,(hb.cell (p:=⟨0,0,none⟩) (Lib.lt_of_cell h.v0)).trans h.v0⟩
theorem nz_read {l:List UInt8}{R:SR}(h:TokR l R):NzF (readF R):=fun s=>by
  cases R with
  | ok L=>exact nz_ok _
  | bad c a=>exact nz_bad (by have h:=h.few;have h1:c≠0:=h;exact_mod_cast h1)
theorem nz_fits:NzF fitsF:=fun s=>by unfold fitsF;split;exact nz_ok _;exact nz_bad (by decide)
end
section
open Go.RowKit
open Tk (T4 SR Scans bstr rowOf)
open Tr (Nd Blk KidsAt Fit)

theorem nz_unitW {l:List UInt8}{E n:Nat}{R:SR}(h:TokR l R):Nz (unitW E n R):=nz_seq _ (nz3 (nz_read h) (nz_unit E n) nz_fits) _
/-- what Unit gives of a text -/
def UnitOf (l:List UInt8) (r:R3):Prop:=∃ n R,TokR l R∧unitW l.length n R=r∧r≠.out
theorem punit_of {s:ByteArray}{r:R3}(h:UnitOf s.data.toList r) {w:World}(hE:Env w) (hs47:s.size≤140737488355328):Calls Tryz.prog 13 #[.string s] w (ParR r w):=by
  obtain ⟨n,R,hR,hr,ho⟩:=h
  obtain ⟨te,pe,hv⟩:=hE.v3
  rw [← Lib.size_eq] at hr
  have:=punit_any (n:=n) (fun B=>fnUnit B 66 s.size n) hR w hs47 hE.sh hv hE.v0 (by rw [hr];exact ho) (nz_unitW hR)
  rwa [hr] at this
theorem unitW_ok (E n:Nat) (L:List T4):unitW E n (.ok L)=(unitF E n ⟨L,[],[]⟩).bind (seqF [fitsF]):=rfl
def finU (r:R3):Option (List Mn):=match r with
  | .ok s=>if ckB (s.N.map ndOf) then some s.N else none
  | _=>none
def parseU (l:List UInt8):Option (List Mn):=match scanF 300 0 l [] with
  | some (.ok L)=>finU (unitF l.length 200 ⟨L,[],[]⟩)
  | _=>none
theorem unitOf_eval {l:List UInt8}{N:List Mn}(h:parseU l=some N) (hl:l.length≤2000):∃ s,UnitOf l (.ok s)∧s.N=N:=by
  unfold parseU at h
  split at h
  · rename_i L hs
    unfold finU at h
    split at h
    · rename_i s hr
      split at h
      · rename_i hc
        cases h
        refine ⟨s,⟨200,.ok L,Or.inr ⟨hl,scanF_sound _ _ _ _ _ hs⟩,?_,by simp⟩,rfl⟩
        rw [unitW_ok,hr]
        show (fitsF s).bind (seqF [])=_
        rw [fits_yes (ckB_sound hc)]
        rfl
      · cases h
    · cases h
  · cases h
end
end Go.Proofs.YtdjpopebeenlmaaGreatDoor
