/-
  Joined texts of this claim: Vc, Qo, Qp, Qq, Qr, Qs, Ub.
-/
import Derived.Test.YtdjpopebeenlmaaGreatDoorW00
import Derived.Test.YtdjpopebeenlmaaGreatDoorW13
import Derived.Test.YtdjpopebeenlmaaGreatDoorW12
import Derived.RegionTactic
import Derived.ChangeAlike
import Derived.Test.YtdjpopebeenlmaaGreatDoorW08
import Derived.Deep.RegionHeld3
import Derived.Deep.LoopGhost
set_option maxHeartbeats 40000000
set_option maxRecDepth 100000
set_option linter.unusedVariables false
set_option linter.unusedSimpArgs false
namespace Go.Proofs.YtdjpopebeenlmaaGreatDoor
section
open Go.RowKit
open Tk (T4 SR Scans bstr rowOf)
open Tr (Nd Blk KidsAt)

/-- the step that lays the words -/
def readF (R:SR):F3:=fun s=>match R with | .ok L=>.ok { s with L:=L } | .bad c a=>.bad c a
theorem ps_init {B T E:Nat}{w:World}{v:Value}{L:List T4}(hb:Blk w B T #[v,.int .i64 E,.slice none 0 0,.slice none 0 0]) (ht:Toks B w v L) (hL:L.length≤5000000):Ps B T E w ⟨L,[],[]⟩ :=
  ⟨v,.slice none 0 0,.slice none 0 0,[],{ box:=hb,tok:=ht,nod:=World.ownsRow_nil _ _ _ _,kid:=fun i h=>absurd h (by simp),loo:=World.ownsRow_nil _ _ _ _,sep:=fun g h=>by simp [Value.ownBlock] at h,eqN:=rfl,lenO:=Nat.le_refl _,lenN:=by simp,lenL:=hL,kl:=fun x h=>absurd h (by simp),caps:=fun i h=>absurd h (by simp) }⟩
theorem own_init {B T:Nat}{w:World}{v0 v1:Value}(hb:Blk w B T #[v0,v1,.slice none 0 0,.slice none 0 0]) (g:Nat):Own B w g ↔ g=B:=by
  have e2:w.cell? ⟨B,2,none⟩=some (.slice none 0 0):=by rw [hb.cell];rfl
  have e3:w.cell? ⟨B,3,none⟩=some (.slice none 0 0):=by rw [hb.cell];rfl
  unfold Own;rw [e2,e3];simp [Value.ownBlock]
/-- both stores into the parser's box, behind new blocks -/
theorem read_close {B T E:Nat}{w w1 w2:World}{v v1:Value}{L:List T4}(h0:Blk w B T #[v1,.int .i64 0,.slice none 0 0,.slice none 0 0]) (hb:Below w.heap.size w w1) (ho:w1.ownsRow w.heap.size 58 4 v L.length (rowOf L)) (hL:L.length≤5000000)
    (hblk:Blk w2 B T #[v,.int .i64 E,.slice none 0 0,.slice none 0 0]) (hos:w2.os=w1.os) (htp:w2.tape=w1.tape) (hou:w2.output=w1.output) (hsz:w2.heap.size=w1.heap.size) (hk:∀ g,g≠B→w2.heap[g]? = w1.heap[g]?) :
    Ext B w w2∧Ps B T E w2 ⟨L,[],[]⟩:=by
  have hO:=own_init h0
  have hO2:=own_init hblk
  have hB:=h0.lt
  refine ⟨⟨hos.trans hb.os,htp.trans hb.tape,hou.trans hb.output,by rw [hsz];exact hb.size,fun g hg hn=>?_,fun g h=>Or.inl ((hO g).2 ((hO2 g).1 h))⟩,ps_init hblk ?_ hL⟩
  · exact (hk g (fun e=>hn ((hO g).2 e))).trans (hb.block g hg)
  · refine toks_row (b:=w.heap.size) ?_ (fun g hg h=>by have:=(hO2 g).1 h;omega)
    obtain ⟨k1,k2⟩:=ho
    refine ⟨k1,?_⟩
    rcases k2 with k2 | ⟨g,cap,cur,hv,hg,hh,r⟩
    · exact Or.inl k2
    · exact Or.inr ⟨g,cap,cur,hv,hg,(hk g (by omega)).trans hh,r⟩
theorem set2_a {B T:Nat}{w:World}{a0 a1 x0 x1 x2 x3:Value}(h:Blk w B T #[x0,x1,x2,x3]):Blk ((w.setCell ⟨B,0,none⟩ a0).setCell ⟨B,1,none⟩ a1) B T #[a0,a1,x2,x3]:=by
  have h1:=(h.set_ 0 a0).set_ 1 a1;simpa using h1
theorem keep2 {B:Nat}(w:World) (i j:Nat) (a0 a1:Value) (g:Nat) (hg:g≠B):((w.setCell ⟨B,i,none⟩ a0).setCell ⟨B,j,none⟩ a1).heap[g]? = w.heap[g]? :=
  (Below.heap_setCell _ _ _ _ hg).trans (Below.heap_setCell _ _ _ _ hg)

theorem read_lay {B:Nat}(x:ByteArray) (w:World) :
    Calls Tryz.prog 36 #[.pointer (some ⟨B,0,none⟩),.string x] w fun e w'=>e=.returned (.func (.func 68) #[] #[.pointer (some ⟨w.heap.size+1,0,none⟩),.pointer (some ⟨w.heap.size,0,none⟩)]) ∧
      w' = (w.alloc (.cells #[.pointer (some ⟨B,0,none⟩)] 95)).alloc (.cells #[.string x] 9):=by
  go_enter Tryz.func36,Tryz.ntmps36
  go_wp2
  go_ret
  exact ⟨rfl,rfl⟩

set_option maxHeartbeats 4000000 in
set_option maxRecDepth 100000 in
theorem readc_any {B T:Nat}{s:ByteArray}{R:SR}(hR:TokR s.data.toList R) {w:World}{gp gs:Nat}(hp:w.cell? ⟨gp,0,none⟩=some (.pointer (some ⟨B,0,none⟩))) (hs:w.cell? ⟨gs,0,none⟩=some (.string s)) (hgp:gp<w.heap.size) (hgs:gs<w.heap.size) (np:B≠gp) (ng:B≠gs)
    (h0:Blk w B T #[.slice none 0 0,.int .i64 0,.slice none 0 0,.slice none 0 0]) (hs47:s.size≤140737488355328) (hsh:w.ShapedOpen Tryz.prog) {te:TypeId} {pe:Value} (hv:w.cell? ⟨4,0,none⟩=some (.iface te pe)) :
    Calls Tryz.prog 68 #[.pointer (some ⟨gs,0,none⟩),.pointer (some ⟨gp,0,none⟩)] w (DidI B (fun s1 w'=>Ps B T s.size w' s1) w (readF R ⟨[],[],[]⟩)):=by
  obtain ⟨Q,hQ⟩ : ∃ Q:Ending→World→Prop,Q=DidI B (fun s1 w'=>Ps B T s.size w' s1) w (readF R ⟨[],[],[]⟩):=⟨_,rfl⟩
  rw [← hQ]
  have HQ:=Lib.hid hQ
  have hsc:=scan_R hR hs47 hsh hv
  have HR:=Lib.hid hR.few
  have H0:=Lib.hid h0
  have Hp:=Lib.hid hp
  have Hs:=Lib.hid hs
  have Hgp:=Lib.hid hgp
  have Hgs:=Lib.hid hgs
  have hB:=h0.lt
  have np':gp≠B:=fun e=>np e.symm
  have ng':gs≠B:=fun e=>ng e.symm
  clear hQ hR h0 hsh hv hp hgp hgs
  go_enter Tryz.func68,Tryz.ntmps68
  go_wp2_with (go_at_call 69;refine hsc.mono ?_)
  rintro e w1 ⟨hb,v,h⟩
  have HB:=Lib.hid hb
  cases R with
  | bad c a =>
    obtain ⟨rfl,rfl⟩:=h
    have hc0:((c:Int) != 0)=true:=by have h:c≠0:=HR.out;simpa using h
    clear hb hsc
    go_wp2
    (try go_ret)
    rw [HQ.out]
    exact ⟨rfl,(Ext.below HB.out hB).alloc hB _⟩
  | ok L =>
    obtain ⟨rfl,ho⟩:=h
    have hL8:=HR.out
    obtain ⟨hL8,-⟩:=hL8
    obtain ⟨p,cap,rfl⟩ : ∃ p cap,v=.slice p L.length cap:=by
      rcases ho.2 with ⟨rfl,h0⟩ | ⟨g,cap,cur,rfl,_⟩
      · exact ⟨none,0,by rw [h0]⟩
      · exact ⟨_,_,rfl⟩
    have HO:=Lib.hid ho
    have hb2:Below w.heap.size w (w1.alloc (.cells #[.int .i64 0,.int .i64 0] 26)):=hb.alloc hb.size _
    have HB2:=Lib.hid hb2
    have HO2:=Lib.hid (ho.alloc (.cells #[.int .i64 0,.int .i64 0] 26))
    have hk:Blk (w1.alloc (.cells #[.int .i64 0,.int .i64 0] 26)) B T #[.slice none 0 0,.int .i64 0,.slice none 0 0,.slice none 0 0]:=(hb2.block B hB).trans H0.out
    have HK:=Lib.hid hk
    have c1:(w1.alloc (.cells #[.int .i64 0,.int .i64 0] 26)).cell? ⟨gp,0,none⟩=some (.pointer (some ⟨B,0,none⟩)):=(hb2.cell (p:=⟨gp,0,none⟩) Hgp.out).trans Hp.out
    have c2:(w1.alloc (.cells #[.int .i64 0,.int .i64 0] 26)).cell? ⟨gs,0,none⟩=some (.string s):=(hb2.cell (p:=⟨gs,0,none⟩) Hgs.out).trans Hs.out
    have c3:(w1.alloc (.cells #[.int .i64 0,.int .i64 0] 26)).cell? ⟨B,0,none⟩=some (.slice none 0 0):=by rw [hk.cell];rfl
    have c4:(w1.alloc (.cells #[.int .i64 0,.int .i64 0] 26)).cell? ⟨B,1,none⟩=some (.int .i64 0):=by rw [hk.cell];rfl
    have f3:=hk.frozen 0
    have f4:=hk.frozen 1
    clear hb hsc ho hb2 hk hs
    go_wp2
    generalize w1.alloc (.cells #[.int .i64 0,.int .i64 0] 26)=W6 at *
    go_region
    go_wp2
    rw [HQ.out]
    have hc:=read_close (T:=T) (E:=s.size) (v:=.slice p L.length cap) H0.out HB2.out HO2.out (by omega) (set2_a HK.out) rfl rfl rfl (by simp [World.setCell]) (fun g hg=>keep2 _ _ _ _ _ g hg)
    exact ⟨rfl,hc.1.drew,hc.2.drew⟩
end
section
open Go.RowKit
open Tk (T4 bstr)
open Tr (Nd Blk KidsAt)

/-- behind W0, with the parser in the state s -/
def Now (B T E:Nat) (s:S3) (W0 W:World):Prop:=Ext B W0 W∧Ps B T E W s
theorem Now.alloc {B T E:Nat}{s:S3}{W0 W:World}(h:Now B T E s W0 W) (o:Obj):Now B T E s W0 (W.alloc o) :=
  ⟨h.1.trans ((Ext.refl _ _).alloc h.2.lt _),h.2.alloc _⟩
theorem Now.refl {B T E:Nat}{s:S3}{W:World}(h:Ps B T E W s):Now B T E s W W:=⟨Ext.refl _ _,h⟩
theorem enters77 (args:Array Value) (w:World):(callFunc 133 args).run Tryz.prog w=.ok (.enter 133 args) w:=by kernel_rfl
theorem enters21 (args:Array Value) (w:World):(callFunc 40 args).run Tryz.prog w=.ok (.enter 40 args) w:=by kernel_rfl
theorem enters71 (args:Array Value) (w:World):(callFunc 127 args).run Tryz.prog w=.ok (.enter 127 args) w:=by kernel_rfl
theorem enters75 (args:Array Value) (w:World):(callFunc 131 args).run Tryz.prog w=.ok (.enter 131 args) w:=by kernel_rfl
theorem enters163 (args:Array Value) (w:World):(callFunc 246 args).run Tryz.prog w=.ok (.enter 246 args) w:=by kernel_rfl
/-- what word gives -/
theorem word_now {B T E:Nat}{s:S3}{W0 W:World}(h:Now B T E s W0 W) (x:ByteArray) :
    Calls Tryz.prog 77 #[.pointer (some ⟨B,0,none⟩),.string x] W fun e w'=>∃ g1 g2,e=.returned (.func (.func 133) #[] #[.pointer (some ⟨g1,0,none⟩),.pointer (some ⟨g2,0,none⟩)]) ∧
      Now B T E s W0 w'∧Ext B W w'∧StepV B T E w' (.func (.func 133) #[] #[.pointer (some ⟨g1,0,none⟩),.pointer (some ⟨g2,0,none⟩)]) (wordF E x.data.toList):=by
  refine (word_any x W).mono fun e w' ⟨he,hw⟩=>⟨_,_,he,?_⟩
  have hB:=h.2.lt
  have hE:Ext B W w':=by rw [hw];exact ((Ext.refl _ _).alloc hB _).alloc hB _
  have hP:Ps B T E w' s:=by rw [hw];exact (h.2.alloc _).alloc _
  have k1:Blk w' W.heap.size 95 #[.pointer (some ⟨B,0,none⟩)]:=by rw [hw];exact (Blk.new _ _ _).alloc _
  have k2:Blk w' (W.heap.size+1) 9 #[.string x]:=by
    rw [hw]
    have:=Blk.new (W.alloc (.cells #[.pointer (some ⟨B,0,none⟩)] 95)) 9 #[.string x]
    rwa [World.size_alloc] at this
  have n1:¬ Own B w' W.heap.size:=fun ho=>(hE.own _ ho).elim (not_own_new ⟨T,E,s,h.2⟩) (fun _=>by
    have h1:=(own_same (B:=B) (w:=W) (w':=w') (by rw [hw,Below.heap_alloc _ _ _ (by simp;omega),Below.heap_alloc _ _ _ hB]) W.heap.size).1 ho
    exact not_own_new ⟨T,E,s,h.2⟩ h1)
  have n2:¬ Own B w' (W.heap.size+1):=fun ho=>by
    have h1:=(own_same (B:=B) (w:=W) (w':=w') (by rw [hw,Below.heap_alloc _ _ _ (by simp;omega),Below.heap_alloc _ _ _ hB]) (W.heap.size+1)).1 ho
    obtain ⟨vT,vN,vL,ns,hp⟩:=h.2
    rcases (hp.own_cases _).1 h1 with h2 | h2 | h2
    · omega
    · have:=(hp.nod.lt _ h2).2;omega
    · have:=(hp.loo.lt _ h2).2;omega
  refine ⟨⟨h.1.trans hE,hP⟩,hE,133,_,_,rfl,enters77,fun w s1 hx hp _=>?_⟩
  have c1:=(hx.blk k1 n1).cell 0
  have c2:=(hx.blk k2 n2).cell 0
  exact wordc_any hp W.heap.size (W.heap.size+1) x c1 c2 (Nat.lt_of_lt_of_le k1.lt hx.size) (hx.notOwn k1.lt n1)

/-- a row of steps that was just laid -/
theorem steps_new {B T E:Nat}{s:S3}{W0 W:World}(h:Now B T E s W0 W) (vs:List Value) (fs:List F3) (hl:vs.length=fs.length) (hm:vs.length≤1000) (hs:∀ j,(h1:j<vs.length)→(h2:j<fs.length)→StepV B T E W vs[j] fs[j]) (t:TypeId) :
    Steps B T E (W.alloc (.cells vs.toArray t)) (some ⟨W.heap.size,0,none⟩) vs fs:=by
  have hE:Ext B W (W.alloc (.cells vs.toArray t)):=(Ext.refl _ _).alloc h.2.lt _
  refine ⟨hl,hm,fun _=>⟨W.heap.size,rfl,by simp,fun ho=>not_own_new ⟨T,E,s,h.2⟩ ((own_alloc h.2.lt _ _).1 ho),fun j hj=>?_⟩,fun j h1 h2=>(hs j h1 h2).ext hE⟩
  rw [(Blk.new W t vs.toArray).cell]
  simp [hj]
/-- what a call of extend, or of build, or of inTurn gives over a row that was just laid -/
def Ends (B T E:Nat) (W0:World) (r:R3) (e:Ending) (w':World):Prop:=∃ v,e=.returned v∧Did B T E W0 r (.returned v) w'∧Ext B W0 w'
theorem did_x {B T E:Nat}{w w':World}{r:R3}{e:Ending}(h:Did B T E w r e w') (hr:r≠.out):Ext B w w':=by
  cases r with
  | out=>exact absurd rfl hr
  | ok s=>exact h.2.1
  | bad c a=>exact h.2
theorem ends_of {B T E:Nat}{W0 W w':World}{r:R3}{e:Ending}(h:Did B T E W r e w') (hr:r≠.out) (hx:Ext B W0 W):Ends B T E W0 r e w':=by
  obtain ⟨v,rfl,hd⟩:=did_ret h hr
  exact ⟨v,rfl,did_ext hd hx,hx.trans (did_x h hr)⟩
theorem build_now {B T E:Nat}{s:S3}{W0 W:World}(h:Now B T E s W0 W) (vs:List Value) (fs:List F3) (hl:vs.length=fs.length) (hm:vs.length≤1000) (hs:∀ j,(h1:j<vs.length)→(h2:j<fs.length)→StepV B T E W vs[j] fs[j]) (x:Mn) (hx:x.c=[]) (hr:buildF x fs s≠.out) (t:TypeId) :
    Calls Tryz.prog 70 #[.pointer (some ⟨B,2,none⟩),nodeV x,.slice (some ⟨W.heap.size,0,none⟩) vs.length vs.length] (W.alloc (.cells vs.toArray t)) (Ends B T E W0 (buildF x fs s)) :=
  (build_any (h.alloc _).2 (steps_new h vs fs hl hm hs t) x hx hr).mono fun e w' hd=>ends_of hd hr (h.alloc _).1
theorem extend_now {B T E:Nat}{s:S3}{W0 W:World}(h:Now B T E s W0 W) (vs:List Value) (fs:List F3) (hl:vs.length=fs.length) (hm:vs.length≤1000) (hs:∀ j,(h1:j<vs.length)→(h2:j<fs.length)→StepV B T E W vs[j] fs[j]) (x:Mn) (hx:x.c=[]) (mark:Nat) (hr:extF mark x fs s≠.out) (t:TypeId) :
    Calls Tryz.prog 76 #[.pointer (some ⟨B,2,none⟩),.int .i64 mark,nodeV x,.slice (some ⟨W.heap.size,0,none⟩) vs.length vs.length] (W.alloc (.cells vs.toArray t)) (Ends B T E W0 (extF mark x fs s)) :=
  (extend_any (h.alloc _).2 (steps_new h vs fs hl hm hs t) x hx mark hr).mono fun e w' hd=>ends_of hd hr (h.alloc _).1
theorem turn_now {B T E:Nat}{s:S3}{W0 W:World}(h:Now B T E s W0 W) (vs:List Value) (fs:List F3) (hl:vs.length=fs.length) (hm:vs.length≤1000) (hs:∀ j,(h1:j<vs.length)→(h2:j<fs.length)→StepV B T E W vs[j] fs[j]) (hr:seqF fs s≠.out) (t:TypeId) :
    Calls Tryz.prog 35 #[.slice (some ⟨W.heap.size,0,none⟩) vs.length vs.length] (W.alloc (.cells vs.toArray t)) (Ends B T E W0 (seqF fs s)) :=
  (inTurn_any (h.alloc _).2 (steps_new h vs fs hl hm hs t) hr).mono fun e w' hd=>ends_of hd hr (h.alloc _).1
theorem step1 {B T E:Nat}{W:World}{v1:Value}{f1:F3}(h1:StepV B T E W v1 f1):∀ j,(a:j < [v1].length)→(b:j < [f1].length)→StepV B T E W [v1][j] [f1][j]:=fun j a b=>by
  match j,a,b with
  | 0,_,_=>exact h1
theorem step2 {B T E:Nat}{W:World}{v1 v2:Value}{f1 f2:F3}(h1:StepV B T E W v1 f1) (h2:StepV B T E W v2 f2):∀ j,(a:j < [v1,v2].length)→(b:j < [f1,f2].length)→StepV B T E W [v1,v2][j] [f1,f2][j]:=fun j a b=>by
  match j,a,b with
  | 0,_,_=>exact h1
  | 1,_,_=>exact h2
theorem step3 {B T E:Nat}{W:World}{v1 v2 v3:Value}{f1 f2 f3:F3}(h1:StepV B T E W v1 f1) (h2:StepV B T E W v2 f2) (h3:StepV B T E W v3 f3):∀ j,(a:j < [v1,v2,v3].length)→(b:j < [f1,f2,f3].length)→StepV B T E W [v1,v2,v3][j] [f1,f2,f3][j]:=fun j a b=>by
  match j,a,b with
  | 0,_,_=>exact h1
  | 1,_,_=>exact h2
  | 2,_,_=>exact h3
theorem step4 {B T E:Nat}{W:World}{v1 v2 v3 v4:Value}{f1 f2 f3 f4:F3}(h1:StepV B T E W v1 f1) (h2:StepV B T E W v2 f2) (h3:StepV B T E W v3 f3) (h4:StepV B T E W v4 f4):∀ j,(a:j < [v1,v2,v3,v4].length)→(b:j < [f1,f2,f3,f4].length)→StepV B T E W [v1,v2,v3,v4][j] [f1,f2,f3,f4][j]:=fun j a b=>by
  match j,a,b with
  | 0,_,_=>exact h1
  | 1,_,_=>exact h2
  | 2,_,_=>exact h3
  | 3,_,_=>exact h4

/-- the calls of the parser's own functions, for so many steps of the plain parser -/
structure CallJ (B T E:Nat) (n:Nat):Prop where
  expr:∀ w s,Ps B T E w s→runJ E n .expr s≠.out→Calls Tryz.prog 40 #[.pointer (some ⟨B,0,none⟩)] w (Did B T E w (runJ E n .expr s))
  pairs:∀ (low:Nat) w s,Ps B T E w s→runJ E n (.pairs low) s≠.out→Calls Tryz.prog 74 #[.pointer (some ⟨B,0,none⟩),.int .i64 low] w (Did B T E w (runJ E n (.pairs low) s))
  prefixed:∀ w s,Ps B T E w s→runJ E n .prefixed s≠.out→Calls Tryz.prog 127 #[.pointer (some ⟨B,0,none⟩)] w (Did B T E w (runJ E n .prefixed s))
  postfixed:∀ w s,Ps B T E w s→runJ E n .postfixed s≠.out→Calls Tryz.prog 189 #[.pointer (some ⟨B,0,none⟩)] w (Did B T E w (runJ E n .postfixed s))
  primary:∀ w s,Ps B T E w s→runJ E n .primary s≠.out→Calls Tryz.prog 229 #[.pointer (some ⟨B,0,none⟩)] w (Did B T E w (runJ E n .primary s))
theorem stepExpr {B T E n:Nat}(h:CallJ B T E n) (w:World):StepV B T E w (.func (.func 40) #[.pointer (some ⟨B,0,none⟩)] #[]) (runJ E n .expr) :=
  ⟨40,_,_,rfl,enters21,fun w' s _ hp hr=>h.expr w' s hp hr⟩
theorem stepPrefixed {B T E n:Nat}(h:CallJ B T E n) (w:World):StepV B T E w (.func (.func 127) #[.pointer (some ⟨B,0,none⟩)] #[]) (runJ E n .prefixed) :=
  ⟨127,_,_,rfl,enters71,fun w' s _ hp hr=>h.prefixed w' s hp hr⟩
end
section
open Go.RowKit
open Tk (T4 bstr)
open Tr (Nd Blk KidsAt)

theorem tok_box {w:World}{g:Nat}{t:TypeId}{x0 x1 x2 x3:Value}(h:Blk w g t #[x0,x1,x2,x3]):w.cell? ⟨g,0,none⟩=some x0∧w.cell? ⟨g,1,none⟩=some x1∧w.cell? ⟨g,2,none⟩=some x2∧w.cell? ⟨g,3,none⟩=some x3:=(box4 h).1
/-- a box that holds a token, behind W0 -/
theorem box_far {B T E:Nat}{s:S3}{w W0:World}{t:TypeId}{x0 x1 x2 x3:Value}(hp:Ps B T E w s) (hx:Ext B (w.alloc (.cells #[x0,x1,x2,x3] t)) W0) :
    ∀ W,Ext B W0 W→Blk W w.heap.size t #[x0,x1,x2,x3]:=fun W h=>by
  have hn:¬ Own B (w.alloc (.cells #[x0,x1,x2,x3] t)) w.heap.size:=fun ho=>not_own_new ⟨T,E,s,hp⟩ ((own_alloc hp.lt _ _).1 ho)
  exact (hx.trans h).blk (Blk.new _ _ _) hn

set_option maxHeartbeats 8000000 in
set_option maxRecDepth 100000 in
theorem prefixed_step {B T E n:Nat}(H:CallJ B T E n) (w:World) (s:S3) (h:Ps B T E w s) (hr:runJ E (n+1) .prefixed s≠.out) :
    Calls Tryz.prog 127 #[.pointer (some ⟨B,0,none⟩)] w (Did B T E w (runJ E (n+1) .prefixed s)):=by
  obtain ⟨r,hrr⟩ : ∃ r,r=runJ E (n+1) .prefixed s:=⟨_,rfl⟩
  rw [← hrr] at hr ⊢
  obtain ⟨Q,hQ⟩ : ∃ Q:Ending→World→Prop,Q=Did B T E w r:=⟨_,rfl⟩
  rw [← hQ]
  have HQ:=Lib.hid hQ
  have HR:=Lib.hid hr
  change r=(if prefT (pk E s.L).t=0 then runJ E n .postfixed s else buildF (mk (prefT (pk E s.L).t) (pk E s.L).t 0 (pk E s.L).a) [wordF E (pk E s.L).t,runJ E n .prefixed] s) at hrr
  have hpk:=peek_any h
  unfold tokV at hpk
  obtain ⟨t,ht⟩ : ∃ t,t=pk E s.L:=⟨_,rfl⟩
  rw [← ht] at hpk hrr
  obtain ⟨x,hx⟩ : ∃ x,x=bstr t.t:=⟨_,rfl⟩
  have hpre:=fun w=>pref_any t.t w
  rw [← hx] at hpk hpre
  have Hx:=Lib.hid hx
  have Hh:=Lib.hid h
  have hB:=h.lt
  clear hQ hr ht hx h
  by_cases hz:prefT t.t=0
  · rw [if_pos hz] at hrr
    rw [hz] at hpre
    have Hrr:=Lib.hid hrr
    clear hz hrr
    go_enter Tryz.func127,Tryz.ntmps127
    go_wp2_with (first | (go_at_call 75;refine hpk.mono ?_;rintro e w1 ⟨rfl,hb⟩) | (go_at_call 188;refine (hpre _).mono ?_;rintro e w' ⟨rfl,rfl⟩))
    have hp1:=(Hh.out.below hb).alloc (.cells #[.int .i64 t.k,.string x,.int .i64 t.v,.int .i64 t.a] 58)
    have hE1:=(Ext.below hb hB).alloc hB (.cells #[.int .i64 t.k,.string x,.int .i64 t.v,.int .i64 t.a] 58)
    have hpo:=H.postfixed _ _ hp1 (by rw [← Hrr.out];exact HR.out)
    rw [← Hrr.out] at hpo
    have HE1:=Lib.hid hE1
    clear hp1 hE1 hb hpk hpre
    refine hpo.mono ?_
    intro e w2 hd
    obtain ⟨v,rfl,hd⟩:=did_ret hd HR.out
    have HD:=Lib.hid (did_ext hd HE1.out)
    clear hd hpo
    go_wp2
    (try go_ret)
    rw [HQ.out]
    exact HD.out
  · rw [if_neg hz] at hrr
    have hzb:(prefT t.t == 0)=false:=by simpa using hz
    have hne:Hid (buildF (mk (prefT t.t) t.t 0 t.a) [wordF E t.t,runJ E n .prefixed] s≠.out):=by rw [hrr] at HR;exact HR
    have Hrr:=Lib.hid hrr
    clear hz hrr
    go_enter Tryz.func127,Tryz.ntmps127
    go_wp2_with (first | (go_at_call 75;refine hpk.mono ?_;rintro e w1 ⟨rfl,hb⟩) | (go_at_call 188;refine (hpre _).mono ?_;rintro e w' ⟨rfl,rfl⟩))
    have hp1:=Hh.out.below hb
    have HE1:=Lib.hid ((Ext.below hb hB).alloc hB (.cells #[.int .i64 t.k,.string x,.int .i64 t.v,.int .i64 t.a] 58)).drew
    have HBox:=Lib.hid (box_far (t:=58) (x0:=.int .i64 t.k) (x1:=.string x) (x2:=.int .i64 t.v) (x3:=.int .i64 t.a) hp1 (Ext.refl _ _).drew)
    have HP1:=Lib.hid (hp1.alloc (.cells #[.int .i64 t.k,.string x,.int .i64 t.v,.int .i64 t.a] 58)).drew
    clear hp1 hb hpk hpre
    generalize hW1:w1.alloc (.cells #[.int .i64 t.k,.string x,.int .i64 t.v,.int .i64 t.a] 58)=W1 at *
    clear hW1
    have S1:Hid (∀ W,Ext B W1.drew W→W.cell? ⟨w1.heap.size,1,none⟩=some (.string x)∧W.cell? ⟨w1.heap.size,3,none⟩=some (.int .i64 t.a)):=fun W hW=>⟨(tok_box (HBox.out W hW)).2.1,(tok_box (HBox.out W hW)).2.2.2⟩
    have S0:Hid (W1.drew.cell? ⟨w1.heap.size,1,none⟩=some (.string x)∧W1.drew.cell? ⟨w1.heap.size,3,none⟩=some (.int .i64 t.a)):=S1.out _ (Ext.refl _ _)
    have HW:Hid (∀ W,Now B T E s W1.drew W→Calls Tryz.prog 77 #[.pointer (some ⟨B,0,none⟩),.string x] W fun e w'=>∃ g1 g2,e=.returned (.func (.func 133) #[] #[.pointer (some ⟨g1,0,none⟩),.pointer (some ⟨g2,0,none⟩)]) ∧
      Now B T E s W1.drew w'∧Ext B W w'∧StepV B T E w' (.func (.func 133) #[] #[.pointer (some ⟨g1,0,none⟩),.pointer (some ⟨g2,0,none⟩)]) (wordF E t.t)):=fun W hW=>by
      have h:=word_now hW x
      rw [show x.data.toList=t.t by rw [Hx.out];rfl] at h
      exact h
    have HN:Hid (∀ W v,Now B T E s W1.drew W→StepV B T E W v (wordF E t.t)→Calls Tryz.prog 70 #[.pointer (some ⟨B,2,none⟩),.agg #[.int .i64 (prefT t.t),.string x,.int .i64 0,.int .i64 0,.slice none 0 0,.int .i64 t.a],.slice (some ⟨W.heap.size,0,none⟩) 2 2] (W.alloc (.cells #[v,.func (.func 127) #[.pointer (some ⟨B,0,none⟩)] #[]] 70)) (Ends B T E W1.drew r)):=fun W v hW hv=>by
      have h:=build_now hW [v,.func (.func 127) #[.pointer (some ⟨B,0,none⟩)] #[]] [wordF E t.t,runJ E n .prefixed] rfl (by simp) (step2 hv (stepPrefixed H W)) (mk (prefT t.t) t.t 0 t.a) rfl hne.out 70
      rw [← Hrr.out] at h
      unfold nodeV mk at h
      simp only at h
      rw [← Hx.out] at h
      exact h
    have N0:Hid (Now B T E s W1.drew W1.drew):=Now.refl HP1.out
    clear HBox HP1
    generalize prefT t.t=pv at *
    go_region_held3 (fun W=>W.cell? ⟨w1.heap.size,1,none⟩=some (.string x)∧W.cell? ⟨w1.heap.size,3,none⟩=some (.int .i64 t.a))
      (first | exact S0.out | exact S1.out _ hn5.1 | exact S1.out _ (hn5.alloc _).1 | exact S1.out _ hx9)
      (first | (go_at_call 77;refine (HW.out _ N0.out).mono ?_;rintro e w5 ⟨g1,g2,rfl,hn5,-,hs5⟩) | (go_at_call 70;refine (HN.out _ _ hn5 hs5).mono ?_;rintro e w9 ⟨v,rfl,hd,hx9⟩))
    all_goals
      have HD:=Lib.hid (did_ext hd HE1.out)
      clear hd hx9 hs5 hn5
      go_wp2
      (try go_ret)
      rw [HQ.out]
      exact HD.out
end
section
open Go.RowKit
open Tk (T4 bstr)
open Tr (Nd Blk KidsAt)

theorem took_yes {B T E:Nat}{w:World}{s:S3}(h:Ps B T E w s) (x:ByteArray) {l:List UInt8}(hl:x.data.toList=l) (ht:(pk E s.L).t=l) :
    Calls Tryz.prog 134 #[.pointer (some ⟨B,0,none⟩),.string x] w fun e w'=>e=.returned (.bool true)∧Ext B w w'∧Ps B T E w' { s with L:=s.L.tail }:=by
  refine (took_any h x).mono fun e w' ⟨hx,hc⟩=>?_
  rcases hc with ⟨_,he,hp⟩ | ⟨hn,_⟩
  · exact ⟨he,hx,hp⟩
  · exact absurd (ht.trans hl.symm) hn
theorem took_no {B T E:Nat}{w:World}{s:S3}(h:Ps B T E w s) (x:ByteArray) {l:List UInt8}(hl:x.data.toList=l) (ht:(pk E s.L).t≠l) :
    Calls Tryz.prog 134 #[.pointer (some ⟨B,0,none⟩),.string x] w fun e w'=>e=.returned (.bool false)∧Ext B w w'∧Ps B T E w' s:=by
  refine (took_any h x).mono fun e w' ⟨hx,hc⟩=>?_
  rcases hc with ⟨h1,_⟩ | ⟨_,he,hp⟩
  · exact absurd (h1.trans hl) ht
  · exact ⟨he,hx,hp⟩
/-- word, and the call of what it gives -/
theorem word_call {B T E:Nat}{s:S3}{W0 W:World}(h:Now B T E s W0 W) (x:ByteArray) (hr:wordF E x.data.toList s≠.out) :
    Calls Tryz.prog 77 #[.pointer (some ⟨B,0,none⟩),.string x] W fun e w'=>∃ g1 g2,e=.returned (.func (.func 133) #[] #[.pointer (some ⟨g1,0,none⟩),.pointer (some ⟨g2,0,none⟩)]) ∧
      Ext B W0 w'∧Calls Tryz.prog 133 #[.pointer (some ⟨g1,0,none⟩),.pointer (some ⟨g2,0,none⟩)] w' (Ends B T E W0 (wordF E x.data.toList s)):=by
  refine (word_now h x).mono fun e w' ⟨g1,g2,he,hn,hx,id,b,c,hv,_,hs⟩=>⟨g1,g2,he,hn.1,?_⟩
  cases hv
  have:=hs w' s (Ext.refl _ _) hn.2 hr
  have e1:(#[] ++ #[Value.pointer (some ⟨g1,0,none⟩),Value.pointer (some ⟨g2,0,none⟩)]:Array Value) = #[Value.pointer (some ⟨g1,0,none⟩),Value.pointer (some ⟨g2,0,none⟩)]:=rfl
  rw [e1] at this
  exact this.mono fun e w' hd=>ends_of hd hr hn.1
theorem wordF_ne {E:Nat}{t:List UInt8}{s:S3}:wordF E t s≠.out:=by
  unfold wordF wrongF;split <;> simp

set_option maxHeartbeats 2000000 in
set_option maxRecDepth 100000 in
theorem list_lay {B:Nat}(xo xe:ByteArray) (fn:Fn) (b c:Array Value) (w:World) :
    Calls Tryz.prog 222 #[.pointer (some ⟨B,0,none⟩),.string xo,.func fn b c,.string xe] w fun e w' =>
      e=.returned (.func (.func 246) #[] #[.pointer (some ⟨w.heap.size,0,none⟩),.pointer (some ⟨w.heap.size+1,0,none⟩),.pointer (some ⟨w.heap.size+1+1+1,0,none⟩),.pointer (some ⟨w.heap.size+1+1,0,none⟩)]) ∧
      w' = (((w.alloc (.cells #[.pointer (some ⟨B,0,none⟩)] 102)).alloc (.cells #[.string xo] 9)).alloc (.cells #[.func fn b c] 70)).alloc (.cells #[.string xe] 9):=by
  go_enter Tryz.func222,Tryz.ntmps222
  go_wp2
  go_ret
  exact ⟨rfl,rfl⟩
end
section
open Go.RowKit
open Tk (T4 bstr)
open Tr (Nd Blk KidsAt)

set_option maxHeartbeats 8000000 in
set_option maxRecDepth 100000 in
theorem listc_any {B T E n:Nat}{w:World}{s:S3}{gp go ge gi:Nat}{xo xe:ByteArray}{o en:List UInt8}{item:Job}{id:FuncId}{b c:Array Value}(ho:xo.data.toList=o) (he:xe.data.toList=en)
    (hbx:∀ W,Ext B w W→W.cell? ⟨gp,0,none⟩=some (.pointer (some ⟨B,0,none⟩))∧W.cell? ⟨go,0,none⟩=some (.string xo)∧W.cell? ⟨ge,0,none⟩=some (.string xe)∧W.cell? ⟨gi,0,none⟩=some (.func (.func id) b c))
    (hen:∀ args w,(callFunc id args).run Tryz.prog w=.ok (.enter id args) w) (hit:∀ m,m<n→∀ W s1,Ext B w W→Ps B T E W s1→runJ E m item s1≠.out→Calls Tryz.prog id (b ++ c) W (Did B T E W (runJ E m item s1)))
    (h:Ps B T E w s) (hr:runJ E (n+1) (.list o en item) s≠.out) :
    Calls Tryz.prog 246 #[.pointer (some ⟨gp,0,none⟩),.pointer (some ⟨go,0,none⟩),.pointer (some ⟨ge,0,none⟩),.pointer (some ⟨gi,0,none⟩)] w (Did B T E w (runJ E (n+1) (.list o en item) s)):=by
  obtain ⟨r,hrr⟩ : ∃ r,r=runJ E (n+1) (.list o en item) s:=⟨_,rfl⟩
  rw [← hrr] at hr ⊢
  obtain ⟨Q,hQ⟩ : ∃ Q:Ending→World→Prop,Q=Did B T E w r:=⟨_,rfl⟩
  rw [← hQ]
  have HQ:=Lib.hid hQ
  have HR:=Lib.hid hr
  change r=((wordF E o s).bind fun s1=>if (pk E s1.L).t=en then .ok { s1 with L:=s1.L.tail } else runJ E n (.items en item) s1) at hrr
  have Hrr:=Lib.hid hrr
  have HBx:=Lib.hid hbx
  have HIt:=Lib.hid hit
  have Ho:=Lib.hid ho
  have He:=Lib.hid he
  have HEn:=Lib.hid hen
  have hB:=h.lt
  have hWc:=word_call (B:=B) (T:=T) (E:=E) (W0:=w.drew) (W:=w.drew) (Now.refl h.drew) xo wordF_ne
  rw [ho] at hWc
  have HX0:Hid (Ext B w w.drew):=(Ext.refl _ _).drew
  have S1:Hid (∀ W,Ext B w.drew W→W.cell? ⟨gp,0,none⟩=some (.pointer (some ⟨B,0,none⟩))∧W.cell? ⟨go,0,none⟩=some (.string xo)):=fun W hW=>⟨(HBx.out W (HX0.out.trans hW)).1,(HBx.out W (HX0.out.trans hW)).2.1⟩
  have S0:Hid (w.drew.cell? ⟨gp,0,none⟩=some (.pointer (some ⟨B,0,none⟩))∧w.drew.cell? ⟨go,0,none⟩=some (.string xo)):=S1.out _ (Ext.refl _ _)
  clear hQ hr hrr hbx hit ho he hen h
  go_enter Tryz.func246,Tryz.ntmps246
  go_wp2
  go_region_held3 (fun W=>W.cell? ⟨gp,0,none⟩=some (.pointer (some ⟨B,0,none⟩))∧W.cell? ⟨go,0,none⟩=some (.string xo))
    (first | exact S0.out | exact S1.out _ hx5 | exact S1.out _ hx6)
    (first | (go_at_call 77;refine hWc.mono ?_;rintro e w5 ⟨g1,g2,rfl,hx5,h77⟩) | (go_at_call 133;refine h77.mono ?_;rintro e w6 ⟨v,rfl,hd,hx6⟩))
  have HX6:=Lib.hid (HX0.out.trans hx6)
  have HD:=Lib.hid hd
  clear hx6 hd h77 hx5 hWc S0 S1
  cases hw:wordF E o s with
  | out=>exact absurd hw wordF_ne
  | bad c1 a1 =>
    have HD2:=HD.out
    rw [hw] at HD2
    obtain ⟨hv,_⟩:=HD2
    obtain rfl:v=errV c1 a1:=Ending.returned.inj hv
    have HRb:Hid (r=.bad c1 a1):=by have h:=Hrr.out;rw [hw] at h;exact h
    clear hv hw HD
    unfold errV
    go_wp2
    (try go_ret)
    rw [HQ.out,HRb.out]
    exact ⟨rfl,HX6.out⟩
  | ok s1 =>
    have HD2:=HD.out
    rw [hw] at HD2
    obtain ⟨hv,_,hp6⟩:=HD2
    obtain rfl:v=.nilIface:=Ending.returned.inj hv
    have HR1:Hid (r=if (pk E s1.L).t=en then .ok { s1 with L:=s1.L.tail } else runJ E n (.items en item) s1):=by have h:=Hrr.out;rw [hw] at h;exact h
    have HP6:=Lib.hid hp6
    clear hv hw HD hp6 Hrr
    have S4:Hid (∀ W,Ext B w6.drew W→W.cell? ⟨gp,0,none⟩=some (.pointer (some ⟨B,0,none⟩))∧W.cell? ⟨ge,0,none⟩=some (.string xe)):=fun W hW=>⟨(HBx.out W (HX6.out.drew.trans hW)).1,(HBx.out W (HX6.out.drew.trans hW)).2.2.1⟩
    have S3:Hid (w6.drew.cell? ⟨gp,0,none⟩=some (.pointer (some ⟨B,0,none⟩))∧w6.drew.cell? ⟨ge,0,none⟩=some (.string xe)):=S4.out _ (Ext.refl _ _)
    by_cases ht:(pk E s1.L).t=en
    · have htk:=took_yes HP6.out.drew xe He.out ht
      have HR2:Hid (r=.ok { s1 with L:=s1.L.tail }):=by have h:=HR1.out;rw [if_pos ht] at h;exact h
      clear ht HR1
      go_wp2
      go_region_held3 (fun W=>W.cell? ⟨gp,0,none⟩=some (.pointer (some ⟨B,0,none⟩))∧W.cell? ⟨ge,0,none⟩=some (.string xe))
        (first | exact S3.out | exact S4.out _ hx7)
        (first | (go_at_call 134;refine htk.mono ?_;rintro e w7 ⟨rfl,hx7,hp7⟩))
      have HX7:=Lib.hid (HX6.out.drew.trans hx7)
      have HP7:=Lib.hid hp7
      clear hx7 hp7 htk S3 S4
      go_wp2
      (try go_ret)
      rw [HQ.out,HR2.out]
      exact ⟨rfl,HX7.out,HP7.out⟩
    · have htk:=took_no HP6.out.drew xe He.out ht
      have HR2:Hid (r=runJ E n (.items en item) s1):=by have h:=HR1.out;rw [if_neg ht] at h;exact h
      clear ht HR1
      go_wp2
      go_region_held3 (fun W=>W.cell? ⟨gp,0,none⟩=some (.pointer (some ⟨B,0,none⟩))∧W.cell? ⟨ge,0,none⟩=some (.string xe))
        (first | exact S3.out | exact S4.out _ hx7)
        (first | (go_at_call 134;refine htk.mono ?_;rintro e w7 ⟨rfl,hx7,hp7⟩))
      have HX7:=Lib.hid (HX6.out.drew.trans hx7)
      have HP7:=Lib.hid hp7
      clear hx7 hp7 htk S3 S4
      go_wp2
      go_loopg [] n (fun k wr=>∃ s2,k≤n∧Hid (r=runJ E k (.items en item) s2)∧Ext B w wr∧Ps B T E wr s2)
      case atStart=>exact ⟨s1,Nat.le_refl _,HR2,HX7.out,HP7.out⟩
      case round =>
        obtain ⟨s2,hk,HK,hx,hp⟩:=hrel
        have HXr:=Lib.hid hx
        have HPr:=Lib.hid hp
        clear hx hp HR2 HX7 HP7
        cases gk with
        | zero=>exact absurd HK.out HR.out
        | succ m =>
          have HK2:Hid (r=(runJ E m item s2).bind fun s3=>if (pk E s3.L).t=[44] then runJ E m (.items en item) { s3 with L:=s3.L.tail } else wordF E en s3):=HK.out
          have ci:=(HBx.out wr HXr.out).2.2.2
          have hne:runJ E m item s2≠.out:=fun e=>HR.out (by rw [HK2.out,e];rfl)
          have hcall:=HIt.out m (by omega) wr s2 HXr.out HPr.out hne
          have hent:=HEn.out
          clear hne HK
          go_wp2_with (refine hcall.mono ?_)
          intro e w8 hd
          cases hf:runJ E m item s2 with
          | out=>exact absurd (by rw [HK2.out,hf];rfl) HR.out
          | bad c1 a1 =>
            rw [hf] at hd
            obtain ⟨rfl,hx8⟩:=hd
            have HX8:=Lib.hid (HXr.out.trans hx8)
            have HRb:Hid (r=.bad c1 a1):=by have h:=HK2.out;rw [hf] at h;exact h
            clear hcall hent hf hx8 ci
            unfold errV
            go_wp2
            (try go_ret)
            rw [HQ.out,HRb.out]
            exact ⟨rfl,HX8.out⟩
          | ok s3 =>
            rw [hf] at hd
            obtain ⟨rfl,hx8,hp8⟩:=hd
            have HX8:=Lib.hid (HXr.out.trans hx8)
            have HP8:=Lib.hid hp8
            have HK3:Hid (r=if (pk E s3.L).t=[44] then runJ E m (.items en item) { s3 with L:=s3.L.tail } else wordF E en s3):=by have h:=HK2.out;rw [hf] at h;exact h
            have cp:=(HBx.out w8 HX8.out).1
            clear hcall hent hf hx8 hp8 ci HK2 HXr HPr
            by_cases ht:(pk E s3.L).t=[44]
            · have htk:=took_yes HP8.out ⟨#[44]⟩ rfl ht
              have HK4:Hid (r=runJ E m (.items en item) { s3 with L:=s3.L.tail }):=by have h:=HK3.out;rw [if_pos ht] at h;exact h
              clear ht HK3
              go_wp2_with (go_at_call 134;refine htk.mono ?_;rintro e w9 ⟨rfl,hx9,hp9⟩)
              have HX9:=Lib.hid (HX8.out.trans hx9)
              have HP9:=Lib.hid hp9
              clear hx9 hp9 htk
              go_wp2
              go_roundg m
              case rel=>exact ⟨_,by omega,HK4,HX9.out,HP9.out⟩
              case measure=>omega
            · have htk:=took_no HP8.out ⟨#[44]⟩ rfl ht
              have HK4:Hid (r=wordF E en s3):=by have h:=HK3.out;rw [if_neg ht] at h;exact h
              clear ht HK3
              go_wp2_with (go_at_call 134;refine htk.mono ?_;rintro e w9 ⟨rfl,hx9,hp9⟩)
              have HX9:=Lib.hid (HX8.out.trans hx9)
              have hWc:=word_call (B:=B) (T:=T) (E:=E) (W0:=w9.drew) (W:=w9.drew) (Now.refl hp9.drew) xe wordF_ne
              rw [He.out,← HK4.out] at hWc
              have S4:Hid (∀ W,Ext B w9.drew W→W.cell? ⟨gp,0,none⟩=some (.pointer (some ⟨B,0,none⟩))∧W.cell? ⟨ge,0,none⟩=some (.string xe)):=fun W hW=>⟨(HBx.out W (HX9.out.drew.trans hW)).1,(HBx.out W (HX9.out.drew.trans hW)).2.2.1⟩
              have S3:Hid (w9.drew.cell? ⟨gp,0,none⟩=some (.pointer (some ⟨B,0,none⟩))∧w9.drew.cell? ⟨ge,0,none⟩=some (.string xe)):=S4.out _ (Ext.refl _ _)
              clear hx9 hp9 htk cp
              go_wp2
              go_region_held3 (fun W=>W.cell? ⟨gp,0,none⟩=some (.pointer (some ⟨B,0,none⟩))∧W.cell? ⟨ge,0,none⟩=some (.string xe))
                (first | exact S3.out | exact S4.out _ hx5 | exact S4.out _ hx6)
                (first | (go_at_call 77;refine hWc.mono ?_;rintro e w5 ⟨g1,g2,rfl,hx5,h77⟩) | (go_at_call 133;refine h77.mono ?_;rintro e w10 ⟨v,rfl,hd,hx6⟩))
              have HD:=Lib.hid (did_ext hd (HX9.out.drew))
              clear hd hx6 hx5 h77 hWc S3 S4
              go_wp2
              (try go_ret)
              rw [HQ.out]
              exact HD.out
end
section
open Go.RowKit
open Tk (T4 bstr)
open Tr (Nd Blk KidsAt)

theorem blk_at {w:World}{g:Nat}{t:TypeId}{cs:Array Value}(h:g=w.heap.size):Blk (w.alloc (.cells cs t)) g t cs:=by subst h;exact Blk.new _ _ _
theorem not_own_ge {B T E:Nat}{w:World}{s:S3}(h:Ps B T E w s) {g:Nat}(hg:w.heap.size≤g):¬ Own B w g:=fun ho=>by
  obtain ⟨vT,vN,vL,ns,hp⟩:=h
  rcases (hp.own_cases _).1 ho with h2 | h2 | h2
  · have:=hp.lt;omega
  · have:=(hp.nod.lt _ h2).2;omega
  · have:=(hp.loo.lt _ h2).2;omega
/-- what list gives -/
theorem list_now {B T E n:Nat}{s:S3}{W0 W:World}(h:Now B T E s W0 W) (xo xe:ByteArray) {o en:List UInt8}(ho:xo.data.toList=o) (he:xe.data.toList=en) (item:Job) (id:FuncId) (b c:Array Value)
    (hen:∀ args w,(callFunc id args).run Tryz.prog w=.ok (.enter id args) w) (hit:∀ m,m<n→∀ W1 s1,Ext B W W1→Ps B T E W1 s1→runJ E m item s1≠.out→Calls Tryz.prog id (b ++ c) W1 (Did B T E W1 (runJ E m item s1))) :
    Calls Tryz.prog 222 #[.pointer (some ⟨B,0,none⟩),.string xo,.func (.func id) b c,.string xe] W fun e w'=>∃ g1 g2 g3 g4,e=.returned (.func (.func 246) #[] #[.pointer (some ⟨g1,0,none⟩),.pointer (some ⟨g2,0,none⟩),.pointer (some ⟨g3,0,none⟩),.pointer (some ⟨g4,0,none⟩)]) ∧
      Now B T E s W0 w'∧Ext B W w'∧StepV B T E w' (.func (.func 246) #[] #[.pointer (some ⟨g1,0,none⟩),.pointer (some ⟨g2,0,none⟩),.pointer (some ⟨g3,0,none⟩),.pointer (some ⟨g4,0,none⟩)]) (runJ E (n+1) (.list o en item)):=by
  refine (list_lay xo xe (.func id) b c W).mono fun e w' ⟨hee,hw⟩=>⟨_,_,_,_,hee,?_⟩
  have hB:=h.2.lt
  have hb:Below W.heap.size W w':=by
    rw [hw];exact ((((Below.refl _ _).alloc (Nat.le_refl _) _).alloc (by simp) _).alloc (by simp;omega) _).alloc (by simp;omega) _
  have hE:Ext B W w':=Ext.below hb hB
  have hP:Ps B T E w' s:=h.2.below hb
  have k1:Blk w' W.heap.size 102 #[.pointer (some ⟨B,0,none⟩)]:=by rw [hw];exact (((blk_at rfl).alloc _).alloc _).alloc _
  have k2:Blk w' (W.heap.size+1) 9 #[.string xo]:=by rw [hw];exact ((blk_at (by simp)).alloc _).alloc _
  have k3:Blk w' (W.heap.size+1+1) 70 #[.func (.func id) b c]:=by rw [hw];exact (blk_at (by simp)).alloc _
  have k4:Blk w' (W.heap.size+1+1+1) 9 #[.string xe]:=by rw [hw];exact blk_at (by simp)
  have hn:∀ g,W.heap.size≤g→¬ Own B w' g:=fun g hg ho=>not_own_ge h.2 hg ((own_same (hb.block B hB) g).1 ho)
  refine ⟨⟨h.1.trans hE,hP⟩,hE,246,_,_,rfl,enters163,fun w s1 hx hp hr=>?_⟩
  exact listc_any ho he (fun W1 h1=>⟨((hx.trans h1).blk k1 (hn _ (Nat.le_refl _))).cell 0,((hx.trans h1).blk k2 (hn _ (by omega))).cell 0,((hx.trans h1).blk k4 (hn _ (by omega))).cell 0,((hx.trans h1).blk k3 (hn _ (by omega))).cell 0⟩) hen
    (fun m hm W1 s2 h1 h2 h3=>hit m hm W1 s2 (hE.trans (hx.trans h1)) h2 h3) hp hr

theorem steps_nil {B T E:Nat}{w:World}:Steps B T E w none [] []:=⟨rfl,by simp,fun h=>absurd h (by simp),fun j h=>absurd h (by simp)⟩
theorem build_nil {B T E:Nat}{w:World}{s:S3}(h:Ps B T E w s) (x:Mn) (hx:x.c=[]) (hr:buildF x [] s≠.out) :
    Calls Tryz.prog 70 #[.pointer (some ⟨B,2,none⟩),nodeV x,.slice none 0 0] w (Ends B T E w (buildF x [] s)) :=
  (build_any (cap:=0) h steps_nil x hx hr).mono fun e w' hd=>ends_of hd hr (Ext.refl _ _)

/-- by smaller numbers -/
def LtJ (B T E n:Nat):Prop:=∀ m,m≤n→CallJ B T E m
theorem primary_eq (E n:Nat) (s:S3):runJ E (n+1) .primary s =
      (if (pk E s.L).k=2 then buildF (mk 31 [] (pk E s.L).v (pk E s.L).a) [] { s with L:=s.L.tail }
      else if (pk E s.L).k=1 then
        if (pk E s.L.tail).t=[40] then buildF (mk 33 (pk E s.L).t 0 (pk E s.L).a) [runJ E n (.list [40] [41] .expr)] { s with L:=s.L.tail }
        else buildF (mk 32 (pk E s.L).t 0 (pk E s.L).a) [] { s with L:=s.L.tail }
      else seqF [wordF E [40],runJ E n .expr,wordF E [41]] s):=rfl



set_option maxHeartbeats 8000000 in
set_option maxRecDepth 100000 in
theorem primary_num {B T E n:Nat}(w:World) (s:S3) (h:Ps B T E w s) (hk:(pk E s.L).k=2) (hr:runJ E (n+1) .primary s≠.out) :
    Calls Tryz.prog 229 #[.pointer (some ⟨B,0,none⟩)] w (Did B T E w (runJ E (n+1) .primary s)):=by
  rw [primary_eq,if_pos hk] at hr ⊢
  have hpk:=peek_any h
  unfold tokV at hpk
  obtain ⟨t,ht⟩ : ∃ t,t=pk E s.L:=⟨_,rfl⟩
  rw [← ht] at hpk hk hr ⊢
  obtain ⟨r,hrr⟩ : ∃ r,r=buildF (Go.Proofs.YtdjpopebeenlmaaGreatDoor.mk 31 [] t.v t.a) [] { s with L:=s.L.tail }:=⟨_,rfl⟩
  rw [← hrr] at hr ⊢
  obtain ⟨Q,hQ⟩ : ∃ Q:Ending→World→Prop,Q=Did B T E w r:=⟨_,rfl⟩
  rw [← hQ]
  have HQ:=Lib.hid hQ
  have Hrr:=Lib.hid hrr
  have HR:=Lib.hid hr
  obtain ⟨x,hx⟩ : ∃ x,x=bstr t.t:=⟨_,rfl⟩
  rw [← hx,hk] at hpk
  have Hx:=Lib.hid hx
  have Hh:=Lib.hid h
  have hB:=h.lt
  clear hk
  clear hQ hr ht hx h hrr
  go_enter Tryz.func229,Tryz.ntmps229
  go_wp2_with (go_at_call 75;refine hpk.mono ?_;rintro e w1 ⟨rfl,hb⟩)
  have hp1:=Hh.out.below hb
  have HE1:=Lib.hid ((Ext.below hb hB).alloc hB (.cells #[.int .i64 2,.string x,.int .i64 t.v,.int .i64 t.a] 58))
  have HBox:=Lib.hid (box_far (t:=58) (x0:=.int .i64 2) (x1:=.string x) (x2:=.int .i64 t.v) (x3:=.int .i64 t.a) hp1 (Ext.refl _ _))
  have HP1:=Lib.hid (hp1.alloc (.cells #[.int .i64 2,.string x,.int .i64 t.v,.int .i64 t.a] 58))
  clear hp1 hb hpk
  have htk:=take_any HP1.out
  refine htk.mono ?_
  rintro e w3 ⟨rfl,hx3,hp3⟩
  have HX3:=Lib.hid hx3.drew
  have hbn:Calls Tryz.prog 70 #[.pointer (some ⟨B,2,none⟩),.agg #[.int .i64 31,.string ⟨#[]⟩,.int .i64 t.v,.int .i64 0,.slice none 0 0,.int .i64 t.a],.slice none 0 0] w3.drew (Ends B T E w3.drew r):=by
    have h:=build_nil hp3.drew (mk 31 [] t.v t.a) rfl (by rw [← Hrr.out];exact HR.out)
    rw [← Hrr.out] at h
    exact h
  have S1:Hid (∀ W,Ext B w3.drew W→W.cell? ⟨w1.heap.size,2,none⟩=some (.int .i64 t.v)∧W.cell? ⟨w1.heap.size,3,none⟩=some (.int .i64 t.a)):=fun W hW=>⟨(tok_box (HBox.out W (HX3.out.trans hW))).2.2.1,(tok_box (HBox.out W (HX3.out.trans hW))).2.2.2⟩
  have S0:Hid (w3.drew.cell? ⟨w1.heap.size,2,none⟩=some (.int .i64 t.v)∧w3.drew.cell? ⟨w1.heap.size,3,none⟩=some (.int .i64 t.a)):=S1.out _ (Ext.refl _ _)
  clear htk hx3 hp3 HBox
  go_wp2
  go_region_held3 (fun W=>W.cell? ⟨w1.heap.size,2,none⟩=some (.int .i64 t.v)∧W.cell? ⟨w1.heap.size,3,none⟩=some (.int .i64 t.a))
    (first | exact S0.out | exact S1.out _ hx9)
    (first | (go_at_call 70;refine hbn.mono ?_;rintro e w9 ⟨v,rfl,hd,hx9⟩))
  have HD:=Lib.hid (did_ext hd (HE1.out.trans HX3.out))
  clear hd hx9
  go_wp2
  (try go_ret)
  rw [HQ.out]
  exact HD.out

set_option maxHeartbeats 8000000 in
set_option maxRecDepth 100000 in
theorem primary_name {B T E n:Nat}(w:World) (s:S3) (h:Ps B T E w s) (hk:(pk E s.L).k=1) (hno:(pk E s.L.tail).t≠[40]) (hr:runJ E (n+1) .primary s≠.out) :
    Calls Tryz.prog 229 #[.pointer (some ⟨B,0,none⟩)] w (Did B T E w (runJ E (n+1) .primary s)):=by
  rw [primary_eq,if_neg (by rw [hk];decide),if_pos hk,if_neg hno] at hr ⊢
  have hpk:=peek_any h
  unfold tokV at hpk
  obtain ⟨t,ht⟩ : ∃ t,t=pk E s.L:=⟨_,rfl⟩
  rw [← ht] at hpk hk hr ⊢
  obtain ⟨r,hrr⟩ : ∃ r,r=buildF (Go.Proofs.YtdjpopebeenlmaaGreatDoor.mk 32 t.t 0 t.a) [] { s with L:=s.L.tail }:=⟨_,rfl⟩
  rw [← hrr] at hr ⊢
  obtain ⟨Q,hQ⟩ : ∃ Q:Ending→World→Prop,Q=Did B T E w r:=⟨_,rfl⟩
  rw [← hQ]
  have HQ:=Lib.hid hQ
  have Hrr:=Lib.hid hrr
  have HR:=Lib.hid hr
  obtain ⟨x,hx⟩ : ∃ x,x=bstr t.t:=⟨_,rfl⟩
  rw [← hx,hk] at hpk
  have Hx:=Lib.hid hx
  have Hh:=Lib.hid h
  have hB:=h.lt
  have HNo:=Lib.hid hno
  clear hk hno
  clear hQ hr ht hx h hrr
  go_enter Tryz.func229,Tryz.ntmps229
  go_wp2_with (go_at_call 75;refine hpk.mono ?_;rintro e w1 ⟨rfl,hb⟩)
  have hp1:=Hh.out.below hb
  have HE1:=Lib.hid ((Ext.below hb hB).alloc hB (.cells #[.int .i64 1,.string x,.int .i64 t.v,.int .i64 t.a] 58))
  have HBox:=Lib.hid (box_far (t:=58) (x0:=.int .i64 1) (x1:=.string x) (x2:=.int .i64 t.v) (x3:=.int .i64 t.a) hp1 (Ext.refl _ _))
  have HP1:=Lib.hid (hp1.alloc (.cells #[.int .i64 1,.string x,.int .i64 t.v,.int .i64 t.a] 58))
  clear hp1 hb hpk
  have htk:=take_any HP1.out
  go_wp2_with (go_at_call 129;refine htk.mono ?_;rintro e w3 ⟨rfl,hx3,hp3⟩)
  have hse:=sees_any hp3 ⟨#[40]⟩
  have hsd:decide ((pk E s.L.tail).t=(⟨#[40]⟩ : ByteArray).data.toList)=false:=decide_eq_false HNo.out
  rw [hsd] at hse
  clear hsd
  go_wp2_with (go_at_call 181;refine hse.mono ?_;rintro e w4 ⟨rfl,hb4⟩)
  have HX4:=Lib.hid (hx3.trans (Ext.below hb4 hp3.lt)).drew
  have HP4:=Lib.hid (hp3.below hb4).drew
  have S1:Hid (∀ W,Ext B w4.drew W→W.cell? ⟨w1.heap.size,1,none⟩=some (.string x)∧W.cell? ⟨w1.heap.size,3,none⟩=some (.int .i64 t.a)):=fun W hW=>⟨(tok_box (HBox.out W (HX4.out.trans hW))).2.1,(tok_box (HBox.out W (HX4.out.trans hW))).2.2.2⟩
  have S0:Hid (w4.drew.cell? ⟨w1.heap.size,1,none⟩=some (.string x)∧w4.drew.cell? ⟨w1.heap.size,3,none⟩=some (.int .i64 t.a)):=S1.out _ (Ext.refl _ _)
  have hbn:Calls Tryz.prog 70 #[.pointer (some ⟨B,2,none⟩),.agg #[.int .i64 32,.string x,.int .i64 0,.int .i64 0,.slice none 0 0,.int .i64 t.a],.slice none 0 0] w4.drew (Ends B T E w4.drew r):=by
    have h:=build_nil HP4.out (mk 32 t.t 0 t.a) rfl (by rw [← Hrr.out];exact HR.out)
    rw [← Hrr.out] at h
    rw [Hx.out]
    exact h
  clear htk hx3 hp3 HBox hb4 hse
  go_wp2
  go_region_held3 (fun W=>W.cell? ⟨w1.heap.size,1,none⟩=some (.string x)∧W.cell? ⟨w1.heap.size,3,none⟩=some (.int .i64 t.a))
    (first | exact S0.out | exact S1.out _ hx9)
    (first | (go_at_call 70;refine hbn.mono ?_;rintro e w9 ⟨v,rfl,hd,hx9⟩))
  have HD:=Lib.hid (did_ext hd (HE1.out.trans HX4.out))
  clear hd hx9
  go_wp2
  (try go_ret)
  rw [HQ.out]
  exact HD.out

set_option maxHeartbeats 8000000 in
set_option maxRecDepth 100000 in
theorem primary_call {B T E n:Nat}(J:LtJ B T E n) (w:World) (s:S3) (h:Ps B T E w s) (hk:(pk E s.L).k=1) (hyes:(pk E s.L.tail).t=[40]) (hr:runJ E (n+1+1) .primary s≠.out) :
    Calls Tryz.prog 229 #[.pointer (some ⟨B,0,none⟩)] w (Did B T E w (runJ E (n+1+1) .primary s)):=by
  rw [primary_eq,if_neg (by rw [hk];decide),if_pos hk,if_pos hyes] at hr ⊢
  have hpk:=peek_any h
  unfold tokV at hpk
  obtain ⟨t,ht⟩ : ∃ t,t=pk E s.L:=⟨_,rfl⟩
  rw [← ht] at hpk hk hr ⊢
  obtain ⟨r,hrr⟩ : ∃ r,r=buildF (mk 33 t.t 0 t.a) [runJ E (n+1) (.list [40] [41] .expr)] { s with L:=s.L.tail }:=⟨_,rfl⟩
  rw [← hrr] at hr ⊢
  obtain ⟨Q,hQ⟩ : ∃ Q:Ending→World→Prop,Q=Did B T E w r:=⟨_,rfl⟩
  rw [← hQ]
  have HQ:=Lib.hid hQ
  have Hrr:=Lib.hid hrr
  have HR:=Lib.hid hr
  obtain ⟨x,hx⟩ : ∃ x,x=bstr t.t:=⟨_,rfl⟩
  rw [← hx,hk] at hpk
  have Hx:=Lib.hid hx
  have Hh:=Lib.hid h
  have hB:=h.lt
  have HYes:=Lib.hid hyes
  have HJ:=Lib.hid J
  clear hk hyes J
  clear hQ hr ht hx h hrr
  go_enter Tryz.func229,Tryz.ntmps229
  go_wp2_with (go_at_call 75;refine hpk.mono ?_;rintro e w1 ⟨rfl,hb⟩)
  have hp1:=Hh.out.below hb
  have HE1:=Lib.hid ((Ext.below hb hB).alloc hB (.cells #[.int .i64 1,.string x,.int .i64 t.v,.int .i64 t.a] 58))
  have HBox:=Lib.hid (box_far (t:=58) (x0:=.int .i64 1) (x1:=.string x) (x2:=.int .i64 t.v) (x3:=.int .i64 t.a) hp1 (Ext.refl _ _))
  have HP1:=Lib.hid (hp1.alloc (.cells #[.int .i64 1,.string x,.int .i64 t.v,.int .i64 t.a] 58))
  clear hp1 hb hpk
  have htk:=take_any HP1.out
  go_wp2_with (go_at_call 129;refine htk.mono ?_;rintro e w3 ⟨rfl,hx3,hp3⟩)
  have hse:=sees_any hp3 ⟨#[40]⟩
  have hsd:decide ((pk E s.L.tail).t=(⟨#[40]⟩ : ByteArray).data.toList)=true:=decide_eq_true HYes.out
  rw [hsd] at hse
  clear hsd
  go_wp2_with (go_at_call 181;refine hse.mono ?_;rintro e w4 ⟨rfl,hb4⟩)
  have HX4:=Lib.hid (hx3.trans (Ext.below hb4 hp3.lt)).drew
  have HP4:=Lib.hid (hp3.below hb4).drew
  have S1:Hid (∀ W,Ext B w4.drew W→W.cell? ⟨w1.heap.size,1,none⟩=some (.string x)∧W.cell? ⟨w1.heap.size,3,none⟩=some (.int .i64 t.a)):=fun W hW=>⟨(tok_box (HBox.out W (HX4.out.trans hW))).2.1,(tok_box (HBox.out W (HX4.out.trans hW))).2.2.2⟩
  have S0:Hid (w4.drew.cell? ⟨w1.heap.size,1,none⟩=some (.string x)∧w4.drew.cell? ⟨w1.heap.size,3,none⟩=some (.int .i64 t.a)):=S1.out _ (Ext.refl _ _)
  have N0:Hid (Now B T E { s with L:=s.L.tail } w4.drew w4.drew):=Now.refl HP4.out
  have HLs:=Lib.hid (list_now (n:=n) N0.out ⟨#[40]⟩ ⟨#[41]⟩ (o:=[40]) (en:=[41]) rfl rfl .expr 40 #[.pointer (some ⟨B,0,none⟩)] #[] enters21 (fun m hm W1 s1 _ h2 h3=>(HJ.out m (by omega)).expr W1 s1 h2 h3))
  have HN:Hid (∀ W v,Now B T E { s with L:=s.L.tail } w4.drew W→StepV B T E W v (runJ E (n+1) (.list [40] [41] .expr))→Calls Tryz.prog 70 #[.pointer (some ⟨B,2,none⟩),.agg #[.int .i64 33,.string x,.int .i64 0,.int .i64 0,.slice none 0 0,.int .i64 t.a],.slice (some ⟨W.heap.size,0,none⟩) 1 1] (W.alloc (.cells #[v] 70)) (Ends B T E w4.drew r)):=fun W v hW hv=>by
    have h:=build_now hW [v] [runJ E (n+1) (.list [40] [41] .expr)] rfl (by simp) (step1 hv) (mk 33 t.t 0 t.a) rfl (by rw [← Hrr.out];exact HR.out) 70
    rw [← Hrr.out] at h
    rw [Hx.out]
    exact h
  clear htk hx3 hp3 HBox hb4 hse
  go_wp2
  go_region_held3 (fun W=>W.cell? ⟨w1.heap.size,1,none⟩=some (.string x)∧W.cell? ⟨w1.heap.size,3,none⟩=some (.int .i64 t.a))
    (first | exact S0.out | exact S1.out _ hn5.1 | exact S1.out _ (hn5.alloc _).1 | exact S1.out _ hx9)
    (first | (go_at_call 222;refine HLs.out.mono ?_;rintro e w5 ⟨g1,g2,g3,g4,rfl,hn5,-,hs5⟩) | (go_at_call 70;refine (HN.out _ _ hn5 hs5).mono ?_;rintro e w9 ⟨v,rfl,hd,hx9⟩))
  all_goals
    have HD:=Lib.hid (did_ext hd (HE1.out.trans HX4.out))
    clear hd hx9 hs5 hn5
    go_wp2
    (try go_ret)
    rw [HQ.out]
    exact HD.out

set_option maxHeartbeats 8000000 in
set_option maxRecDepth 100000 in
theorem primary_paren {B T E n:Nat}(J:CallJ B T E n) (w:World) (s:S3) (h:Ps B T E w s) (hk:(pk E s.L).k≠2) (hk1:(pk E s.L).k≠1) (hr:runJ E (n+1) .primary s≠.out) :
    Calls Tryz.prog 229 #[.pointer (some ⟨B,0,none⟩)] w (Did B T E w (runJ E (n+1) .primary s)):=by
  rw [primary_eq,if_neg hk,if_neg hk1] at hr ⊢
  have hpk:=peek_any h
  unfold tokV at hpk
  obtain ⟨t,ht⟩ : ∃ t,t=pk E s.L:=⟨_,rfl⟩
  rw [← ht] at hpk hk hk1
  obtain ⟨r,hrr⟩ : ∃ r,r=seqF [wordF E [40],runJ E n .expr,wordF E [41]] s:=⟨_,rfl⟩
  rw [← hrr] at hr ⊢
  obtain ⟨Q,hQ⟩ : ∃ Q:Ending→World→Prop,Q=Did B T E w r:=⟨_,rfl⟩
  rw [← hQ]
  have HQ:=Lib.hid hQ
  have Hrr:=Lib.hid hrr
  have HR:=Lib.hid hr
  obtain ⟨x,hx⟩ : ∃ x,x=bstr t.t:=⟨_,rfl⟩
  rw [← hx] at hpk
  have Hx:=Lib.hid hx
  have Hh:=Lib.hid h
  have hB:=h.lt
  have HJ:=Lib.hid J
  have e2:((t.k:Int) == 2)=false:=by simpa using (show ¬ ((t.k:Int)=2) by omega)
  have e1:((t.k:Int) == 1)=false:=by simpa using (show ¬ ((t.k:Int)=1) by omega)
  clear hk hk1 J
  clear hQ hr ht hx h hrr
  go_enter Tryz.func229,Tryz.ntmps229
  go_wp2_with (go_at_call 75;refine hpk.mono ?_;rintro e w1 ⟨rfl,hb⟩)
  have hp1:=Hh.out.below hb
  have HE1:=Lib.hid ((Ext.below hb hB).alloc hB (.cells #[.int .i64 t.k,.string x,.int .i64 t.v,.int .i64 t.a] 58))
  have HBox:=Lib.hid (box_far (t:=58) (x0:=.int .i64 t.k) (x1:=.string x) (x2:=.int .i64 t.v) (x3:=.int .i64 t.a) hp1 (Ext.refl _ _))
  have HP1:=Lib.hid (hp1.alloc (.cells #[.int .i64 t.k,.string x,.int .i64 t.v,.int .i64 t.a] 58))
  clear hp1 hb hpk
  have HE1d:=Lib.hid HE1.out.drew
  have HP1d:=Lib.hid HP1.out.drew
  clear HBox HP1
  generalize w1.alloc (.cells #[.int .i64 t.k,.string x,.int .i64 t.v,.int .i64 t.a] 58)=W1 at *
  have HWa:Hid (∀ W,Now B T E s W1.drew W→Calls Tryz.prog 77 #[.pointer (some ⟨B,0,none⟩),.string ⟨#[40]⟩] W fun e w'=>∃ g1 g2,e=.returned (.func (.func 133) #[] #[.pointer (some ⟨g1,0,none⟩),.pointer (some ⟨g2,0,none⟩)]) ∧
      Now B T E s W1.drew w'∧Ext B W w'∧StepV B T E w' (.func (.func 133) #[] #[.pointer (some ⟨g1,0,none⟩),.pointer (some ⟨g2,0,none⟩)]) (wordF E [40])):=fun W hW=>word_now hW ⟨#[40]⟩
  have HWb:Hid (∀ W,Now B T E s W1.drew W→Calls Tryz.prog 77 #[.pointer (some ⟨B,0,none⟩),.string ⟨#[41]⟩] W fun e w'=>∃ g1 g2,e=.returned (.func (.func 133) #[] #[.pointer (some ⟨g1,0,none⟩),.pointer (some ⟨g2,0,none⟩)]) ∧
      Now B T E s W1.drew w'∧Ext B W w'∧StepV B T E w' (.func (.func 133) #[] #[.pointer (some ⟨g1,0,none⟩),.pointer (some ⟨g2,0,none⟩)]) (wordF E [41])):=fun W hW=>word_now hW ⟨#[41]⟩
  have HN:Hid (∀ W v1 v2,Now B T E s W1.drew W→StepV B T E W v1 (wordF E [40])→StepV B T E W v2 (wordF E [41])→Calls Tryz.prog 35 #[.slice (some ⟨W.heap.size,0,none⟩) 3 3] (W.alloc (.cells #[v1,.func (.func 40) #[.pointer (some ⟨B,0,none⟩)] #[],v2] 70)) (Ends B T E W1.drew r)):=fun W v1 v2 hW h1 h2=>by
    have h:=turn_now hW [v1,.func (.func 40) #[.pointer (some ⟨B,0,none⟩)] #[],v2] [wordF E [40],runJ E n .expr,wordF E [41]] rfl (by simp) (step3 h1 (stepExpr HJ.out W) h2) (by rw [← Hrr.out];exact HR.out) 70
    rw [← Hrr.out] at h
    exact h
  have N0:Hid (Now B T E s W1.drew W1.drew):=Now.refl HP1d.out
  go_wp2
  go_region_held3 (fun W=>True)
    (first | exact trivial)
    (first | (go_at_call 77;first | ((with_reducible refine (HWa.out _ N0.out).mono ?_);rintro e w5 ⟨g1,g2,rfl,hn5,-,hs5⟩) | ((with_reducible refine (HWb.out _ hn5).mono ?_);rintro e w6 ⟨g3,g4,rfl,hn6,hx56,hs6⟩)) | (go_at_call 35;refine (HN.out _ _ _ hn6 (hs5.ext hx56) hs6).mono ?_;rintro e w9 ⟨v,rfl,hd,hx9⟩))
  all_goals
    have HD:=Lib.hid (did_ext hd (HE1d.out))
    clear hd hx9 hs5 hn5 hs6 hn6 hx56
    go_wp2
    (try go_ret)
    rw [HQ.out]
    exact HD.out

theorem primary_step {B T E n:Nat}(J:LtJ B T E n) (w:World) (s:S3) (h:Ps B T E w s) (hr:runJ E (n+1) .primary s≠.out) :
    Calls Tryz.prog 229 #[.pointer (some ⟨B,0,none⟩)] w (Did B T E w (runJ E (n+1) .primary s)):=by
  by_cases h2:(pk E s.L).k=2
  · exact primary_num w s h h2 hr
  · by_cases h1:(pk E s.L).k=1
    · by_cases hp:(pk E s.L.tail).t=[40]
      · cases n with
        | zero=>exact absurd (by rw [primary_eq,if_neg h2,if_pos h1,if_pos hp];rfl) hr
        | succ n=>exact primary_call (fun m hm=>J m (by omega)) w s h h1 hp hr
      · exact primary_name w s h h1 hp hr
    · exact primary_paren (J n (Nat.le_refl _)) w s h h2 h1 hr
end
section
open Go.RowKit
open Tk (T4 bstr)
open Tr (Nd Blk KidsAt)

set_option maxHeartbeats 8000000 in
set_option maxRecDepth 100000 in
theorem listg_any {B T E n:Nat}{w:World}{s:S3}{gp go ge gi:Nat}{xo xe:ByteArray}{o en:List UInt8}{fam:Nat→F3}{id:FuncId}{b c:Array Value}(ho:xo.data.toList=o) (he:xe.data.toList=en)
    (hbx:∀ W,Ext B w W→W.cell? ⟨gp,0,none⟩=some (.pointer (some ⟨B,0,none⟩))∧W.cell? ⟨go,0,none⟩=some (.string xo)∧W.cell? ⟨ge,0,none⟩=some (.string xe)∧W.cell? ⟨gi,0,none⟩=some (.func (.func id) b c))
    (hen:∀ args w,(callFunc id args).run Tryz.prog w=.ok (.enter id args) w) (hit:∀ m,m<n→∀ W s1,Ext B w W→Ps B T E W s1→fam m s1≠.out→Calls Tryz.prog id (b ++ c) W (Did B T E W (fam m s1)))
    (h:Ps B T E w s) (hr:listF E o en fam n s≠.out) :
    Calls Tryz.prog 246 #[.pointer (some ⟨gp,0,none⟩),.pointer (some ⟨go,0,none⟩),.pointer (some ⟨ge,0,none⟩),.pointer (some ⟨gi,0,none⟩)] w (Did B T E w (listF E o en fam n s)):=by
  obtain ⟨r,hrr⟩ : ∃ r,r=listF E o en fam n s:=⟨_,rfl⟩
  rw [← hrr] at hr ⊢
  obtain ⟨Q,hQ⟩ : ∃ Q:Ending→World→Prop,Q=Did B T E w r:=⟨_,rfl⟩
  rw [← hQ]
  have HQ:=Lib.hid hQ
  have HR:=Lib.hid hr
  change r=((wordF E o s).bind fun s1=>if (pk E s1.L).t=en then .ok { s1 with L:=s1.L.tail } else itemsF E en fam n s1) at hrr
  have Hrr:=Lib.hid hrr
  have HBx:=Lib.hid hbx
  have HIt:=Lib.hid hit
  have Ho:=Lib.hid ho
  have He:=Lib.hid he
  have HEn:=Lib.hid hen
  have hB:=h.lt
  have hWc:=word_call (B:=B) (T:=T) (E:=E) (W0:=w.drew) (W:=w.drew) (Now.refl h.drew) xo wordF_ne
  rw [ho] at hWc
  have HX0:Hid (Ext B w w.drew):=(Ext.refl _ _).drew
  have S1:Hid (∀ W,Ext B w.drew W→W.cell? ⟨gp,0,none⟩=some (.pointer (some ⟨B,0,none⟩))∧W.cell? ⟨go,0,none⟩=some (.string xo)):=fun W hW=>⟨(HBx.out W (HX0.out.trans hW)).1,(HBx.out W (HX0.out.trans hW)).2.1⟩
  have S0:Hid (w.drew.cell? ⟨gp,0,none⟩=some (.pointer (some ⟨B,0,none⟩))∧w.drew.cell? ⟨go,0,none⟩=some (.string xo)):=S1.out _ (Ext.refl _ _)
  clear hQ hr hrr hbx hit ho he hen h
  go_enter Tryz.func246,Tryz.ntmps246
  go_wp2
  go_region_held3 (fun W=>W.cell? ⟨gp,0,none⟩=some (.pointer (some ⟨B,0,none⟩))∧W.cell? ⟨go,0,none⟩=some (.string xo))
    (first | exact S0.out | exact S1.out _ hx5 | exact S1.out _ hx6)
    (first | (go_at_call 77;refine hWc.mono ?_;rintro e w5 ⟨g1,g2,rfl,hx5,h77⟩) | (go_at_call 133;refine h77.mono ?_;rintro e w6 ⟨v,rfl,hd,hx6⟩))
  have HX6:=Lib.hid (HX0.out.trans hx6)
  have HD:=Lib.hid hd
  clear hx6 hd h77 hx5 hWc S0 S1
  cases hw:wordF E o s with
  | out=>exact absurd hw wordF_ne
  | bad c1 a1 =>
    have HD2:=HD.out
    rw [hw] at HD2
    obtain ⟨hv,_⟩:=HD2
    obtain rfl:v=errV c1 a1:=Ending.returned.inj hv
    have HRb:Hid (r=.bad c1 a1):=by have h:=Hrr.out;rw [hw] at h;exact h
    clear hv hw HD
    unfold errV
    go_wp2
    (try go_ret)
    rw [HQ.out,HRb.out]
    exact ⟨rfl,HX6.out⟩
  | ok s1 =>
    have HD2:=HD.out
    rw [hw] at HD2
    obtain ⟨hv,_,hp6⟩:=HD2
    obtain rfl:v=.nilIface:=Ending.returned.inj hv
    have HR1:Hid (r=if (pk E s1.L).t=en then .ok { s1 with L:=s1.L.tail } else itemsF E en fam n s1):=by have h:=Hrr.out;rw [hw] at h;exact h
    have HP6:=Lib.hid hp6
    clear hv hw HD hp6 Hrr
    have S4:Hid (∀ W,Ext B w6.drew W→W.cell? ⟨gp,0,none⟩=some (.pointer (some ⟨B,0,none⟩))∧W.cell? ⟨ge,0,none⟩=some (.string xe)):=fun W hW=>⟨(HBx.out W (HX6.out.drew.trans hW)).1,(HBx.out W (HX6.out.drew.trans hW)).2.2.1⟩
    have S3:Hid (w6.drew.cell? ⟨gp,0,none⟩=some (.pointer (some ⟨B,0,none⟩))∧w6.drew.cell? ⟨ge,0,none⟩=some (.string xe)):=S4.out _ (Ext.refl _ _)
    by_cases ht:(pk E s1.L).t=en
    · have htk:=took_yes HP6.out.drew xe He.out ht
      have HR2:Hid (r=.ok { s1 with L:=s1.L.tail }):=by have h:=HR1.out;rw [if_pos ht] at h;exact h
      clear ht HR1
      go_wp2
      go_region_held3 (fun W=>W.cell? ⟨gp,0,none⟩=some (.pointer (some ⟨B,0,none⟩))∧W.cell? ⟨ge,0,none⟩=some (.string xe))
        (first | exact S3.out | exact S4.out _ hx7)
        (first | (go_at_call 134;refine htk.mono ?_;rintro e w7 ⟨rfl,hx7,hp7⟩))
      have HX7:=Lib.hid (HX6.out.drew.trans hx7)
      have HP7:=Lib.hid hp7
      clear hx7 hp7 htk S3 S4
      go_wp2
      (try go_ret)
      rw [HQ.out,HR2.out]
      exact ⟨rfl,HX7.out,HP7.out⟩
    · have htk:=took_no HP6.out.drew xe He.out ht
      have HR2:Hid (r=itemsF E en fam n s1):=by have h:=HR1.out;rw [if_neg ht] at h;exact h
      clear ht HR1
      go_wp2
      go_region_held3 (fun W=>W.cell? ⟨gp,0,none⟩=some (.pointer (some ⟨B,0,none⟩))∧W.cell? ⟨ge,0,none⟩=some (.string xe))
        (first | exact S3.out | exact S4.out _ hx7)
        (first | (go_at_call 134;refine htk.mono ?_;rintro e w7 ⟨rfl,hx7,hp7⟩))
      have HX7:=Lib.hid (HX6.out.drew.trans hx7)
      have HP7:=Lib.hid hp7
      clear hx7 hp7 htk S3 S4
      go_wp2
      go_loopg [] n (fun k wr=>∃ s2,k≤n∧Hid (r=itemsF E en fam k s2)∧Ext B w wr∧Ps B T E wr s2)
      case atStart=>exact ⟨s1,Nat.le_refl _,HR2,HX7.out,HP7.out⟩
      case round =>
        obtain ⟨s2,hk,HK,hx,hp⟩:=hrel
        have HXr:=Lib.hid hx
        have HPr:=Lib.hid hp
        clear hx hp HR2 HX7 HP7
        cases gk with
        | zero=>exact absurd HK.out HR.out
        | succ m =>
          have HK2:Hid (r=(fam m s2).bind fun s3=>if (pk E s3.L).t=[44] then itemsF E en fam m { s3 with L:=s3.L.tail } else wordF E en s3):=HK.out
          have ci:=(HBx.out wr HXr.out).2.2.2
          have hne:fam m s2≠.out:=fun e=>HR.out (by rw [HK2.out,e];rfl)
          have hcall:=HIt.out m (by omega) wr s2 HXr.out HPr.out hne
          have hent:=HEn.out
          clear hne HK
          go_wp2_with (refine hcall.mono ?_)
          intro e w8 hd
          cases hf:fam m s2 with
          | out=>exact absurd (by rw [HK2.out,hf];rfl) HR.out
          | bad c1 a1 =>
            rw [hf] at hd
            obtain ⟨rfl,hx8⟩:=hd
            have HX8:=Lib.hid (HXr.out.trans hx8)
            have HRb:Hid (r=.bad c1 a1):=by have h:=HK2.out;rw [hf] at h;exact h
            clear hcall hent hf hx8 ci
            unfold errV
            go_wp2
            (try go_ret)
            rw [HQ.out,HRb.out]
            exact ⟨rfl,HX8.out⟩
          | ok s3 =>
            rw [hf] at hd
            obtain ⟨rfl,hx8,hp8⟩:=hd
            have HX8:=Lib.hid (HXr.out.trans hx8)
            have HP8:=Lib.hid hp8
            have HK3:Hid (r=if (pk E s3.L).t=[44] then itemsF E en fam m { s3 with L:=s3.L.tail } else wordF E en s3):=by have h:=HK2.out;rw [hf] at h;exact h
            have cp:=(HBx.out w8 HX8.out).1
            clear hcall hent hf hx8 hp8 ci HK2 HXr HPr
            by_cases ht:(pk E s3.L).t=[44]
            · have htk:=took_yes HP8.out ⟨#[44]⟩ rfl ht
              have HK4:Hid (r=itemsF E en fam m { s3 with L:=s3.L.tail }):=by have h:=HK3.out;rw [if_pos ht] at h;exact h
              clear ht HK3
              go_wp2_with (go_at_call 134;refine htk.mono ?_;rintro e w9 ⟨rfl,hx9,hp9⟩)
              have HX9:=Lib.hid (HX8.out.trans hx9)
              have HP9:=Lib.hid hp9
              clear hx9 hp9 htk
              go_wp2
              go_roundg m
              case rel=>exact ⟨_,by omega,HK4,HX9.out,HP9.out⟩
              case measure=>omega
            · have htk:=took_no HP8.out ⟨#[44]⟩ rfl ht
              have HK4:Hid (r=wordF E en s3):=by have h:=HK3.out;rw [if_neg ht] at h;exact h
              clear ht HK3
              go_wp2_with (go_at_call 134;refine htk.mono ?_;rintro e w9 ⟨rfl,hx9,hp9⟩)
              have HX9:=Lib.hid (HX8.out.trans hx9)
              have hWc:=word_call (B:=B) (T:=T) (E:=E) (W0:=w9.drew) (W:=w9.drew) (Now.refl hp9.drew) xe wordF_ne
              rw [He.out,← HK4.out] at hWc
              have S4:Hid (∀ W,Ext B w9.drew W→W.cell? ⟨gp,0,none⟩=some (.pointer (some ⟨B,0,none⟩))∧W.cell? ⟨ge,0,none⟩=some (.string xe)):=fun W hW=>⟨(HBx.out W (HX9.out.drew.trans hW)).1,(HBx.out W (HX9.out.drew.trans hW)).2.2.1⟩
              have S3:Hid (w9.drew.cell? ⟨gp,0,none⟩=some (.pointer (some ⟨B,0,none⟩))∧w9.drew.cell? ⟨ge,0,none⟩=some (.string xe)):=S4.out _ (Ext.refl _ _)
              clear hx9 hp9 htk cp
              go_wp2
              go_region_held3 (fun W=>W.cell? ⟨gp,0,none⟩=some (.pointer (some ⟨B,0,none⟩))∧W.cell? ⟨ge,0,none⟩=some (.string xe))
                (first | exact S3.out | exact S4.out _ hx5 | exact S4.out _ hx6)
                (first | (go_at_call 77;refine hWc.mono ?_;rintro e w5 ⟨g1,g2,rfl,hx5,h77⟩) | (go_at_call 133;refine h77.mono ?_;rintro e w10 ⟨v,rfl,hd,hx6⟩))
              have HD:=Lib.hid (did_ext hd (HX9.out.drew))
              clear hd hx6 hx5 h77 hWc S3 S4
              go_wp2
              (try go_ret)
              rw [HQ.out]
              exact HD.out
/-- what list gives -/
theorem listg_now {B T E n:Nat}{s:S3}{W0 W:World}(h:Now B T E s W0 W) (xo xe:ByteArray) {o en:List UInt8}(ho:xo.data.toList=o) (he:xe.data.toList=en) (fam:Nat→F3) (id:FuncId) (b c:Array Value)
    (hen:∀ args w,(callFunc id args).run Tryz.prog w=.ok (.enter id args) w) (hit:∀ m,m<n→∀ W1 s1,Ext B W W1→Ps B T E W1 s1→fam m s1≠.out→Calls Tryz.prog id (b ++ c) W1 (Did B T E W1 (fam m s1))) :
    Calls Tryz.prog 222 #[.pointer (some ⟨B,0,none⟩),.string xo,.func (.func id) b c,.string xe] W fun e w'=>∃ g1 g2 g3 g4,e=.returned (.func (.func 246) #[] #[.pointer (some ⟨g1,0,none⟩),.pointer (some ⟨g2,0,none⟩),.pointer (some ⟨g3,0,none⟩),.pointer (some ⟨g4,0,none⟩)]) ∧
      Now B T E s W0 w'∧Ext B W w'∧StepV B T E w' (.func (.func 246) #[] #[.pointer (some ⟨g1,0,none⟩),.pointer (some ⟨g2,0,none⟩),.pointer (some ⟨g3,0,none⟩),.pointer (some ⟨g4,0,none⟩)]) (listF E o en fam n):=by
  refine (list_lay xo xe (.func id) b c W).mono fun e w' ⟨hee,hw⟩=>⟨_,_,_,_,hee,?_⟩
  have hB:=h.2.lt
  have hb:Below W.heap.size W w':=by
    rw [hw];exact ((((Below.refl _ _).alloc (Nat.le_refl _) _).alloc (by simp) _).alloc (by simp;omega) _).alloc (by simp;omega) _
  have hE:Ext B W w':=Ext.below hb hB
  have hP:Ps B T E w' s:=h.2.below hb
  have k1:Blk w' W.heap.size 102 #[.pointer (some ⟨B,0,none⟩)]:=by rw [hw];exact (((blk_at rfl).alloc _).alloc _).alloc _
  have k2:Blk w' (W.heap.size+1) 9 #[.string xo]:=by rw [hw];exact ((blk_at (by simp)).alloc _).alloc _
  have k3:Blk w' (W.heap.size+1+1) 70 #[.func (.func id) b c]:=by rw [hw];exact (blk_at (by simp)).alloc _
  have k4:Blk w' (W.heap.size+1+1+1) 9 #[.string xe]:=by rw [hw];exact blk_at (by simp)
  have hn:∀ g,W.heap.size≤g→¬ Own B w' g:=fun g hg ho=>not_own_ge h.2 hg ((own_same (hb.block B hB) g).1 ho)
  refine ⟨⟨h.1.trans hE,hP⟩,hE,246,_,_,rfl,enters163,fun w s1 hx hp hr=>?_⟩
  exact listg_any ho he (fun W1 h1=>⟨((hx.trans h1).blk k1 (hn _ (Nat.le_refl _))).cell 0,((hx.trans h1).blk k2 (hn _ (by omega))).cell 0,((hx.trans h1).blk k4 (hn _ (by omega))).cell 0,((hx.trans h1).blk k3 (hn _ (by omega))).cell 0⟩) hen
    (fun m hm W1 s2 h1 h2 h3=>hit m hm W1 s2 (hE.trans (hx.trans h1)) h2 h3) hp hr
end
end Go.Proofs.YtdjpopebeenlmaaGreatDoor
