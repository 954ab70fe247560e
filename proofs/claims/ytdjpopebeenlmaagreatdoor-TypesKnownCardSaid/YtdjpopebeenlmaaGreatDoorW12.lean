/-
  Joined texts of this claim: Qb, Vb, Vd, Qc, Qd, Qe, Qm.
-/
import Derived.Test.YtdjpopebeenlmaaGreatDoorW00
import Derived.Test.YtdjpopebeenlmaaGreatDoorW07
import Derived.Test.YtdjpopebeenlmaaGreatDoorW10
import Derived.Laws.OwnMore
import Derived.Laws.AppendOwn
import Derived.Laws.Rows
import Derived.Test.YtdjpopebeenlmaaGreatDoorW08
import Derived.Test.YtdjpopebeenlmaaGreatDoorW02
import Derived.StillTailTactics
import Derived.Outline
import Derived.Deep.LoopGhost
set_option maxHeartbeats 40000000
set_option maxRecDepth 100000
set_option linter.unusedVariables false
set_option linter.unusedSimpArgs false
namespace Go.Proofs.YtdjpopebeenlmaaGreatDoor
section
open Go.RowKit
open Tk (T4 bstr)
open Tr (Nd Blk KidsAt)

/-- the blocks that are the parser's own -/
def Own (B:Nat) (w:World) (g:Nat):Prop :=
  g=B∨(∃ v,w.cell? ⟨B,2,none⟩=some v∧v.ownBlock=some g)∨(∃ v,w.cell? ⟨B,3,none⟩=some v∧v.ownBlock=some g)
/-- from w to w' nothing has changed but what is the parser's own -/
structure Ext (B:Nat) (w w':World):Prop where
  os:w'.os=w.os
  tape:w'.tape=w.tape
  output:w'.output=w.output
  size:w.heap.size≤w'.heap.size
  block:∀ g,g<w.heap.size→¬ Own B w g→w'.heap[g]? = w.heap[g]?
  own:∀ g,Own B w' g→Own B w g∨w.heap.size≤g
theorem Ext.refl (B:Nat) (w:World):Ext B w w:=⟨rfl,rfl,rfl,Nat.le_refl _,fun _ _ _=>rfl,fun _ h=>Or.inl h⟩
theorem Ext.trans {B:Nat}{a b c:World}(h:Ext B a b) (k:Ext B b c):Ext B a c :=
  ⟨k.os.trans h.os,k.tape.trans h.tape,k.output.trans h.output,Nat.le_trans h.size k.size,
    fun g hg hn=>(k.block g (Nat.lt_of_lt_of_le hg h.size) (fun ho=>(h.own g ho).elim hn (fun hle=>absurd hg (Nat.not_lt.2 hle)))).trans (h.block g hg hn),
    fun g ho=>(k.own g ho).elim (fun h1=>h.own g h1) (fun h1=>Or.inr (Nat.le_trans h.size h1))⟩
theorem own_same {B:Nat}{w w':World}(h:w'.heap[B]? = w.heap[B]?) (g:Nat):Own B w' g ↔ Own B w g:=by
  have e2:w'.cell? ⟨B,2,none⟩=w.cell? ⟨B,2,none⟩:=World.cell?_of_block (a:=⟨B,2,none⟩) h
  have e3:w'.cell? ⟨B,3,none⟩=w.cell? ⟨B,3,none⟩:=World.cell?_of_block (a:=⟨B,3,none⟩) h
  unfold Own;rw [e2,e3]
theorem Ext.below {B:Nat}{w w':World}(hb:Below w.heap.size w w') (hB:B<w.heap.size):Ext B w w' :=
  ⟨hb.os,hb.tape,hb.output,hb.size,fun g hg _=>hb.block g hg,fun g ho=>Or.inl ((own_same (hb.block B hB) g).1 ho)⟩
theorem Ext.alloc {B:Nat}{w w':World}(h:Ext B w w') (hB:B<w.heap.size) (o:Obj):Ext B w (w'.alloc o) :=
  h.trans (Ext.below ((Below.refl _ _).alloc (Nat.le_refl _) _) (Nat.lt_of_lt_of_le hB h.size))
theorem Ext.drew {B:Nat}{w w':World}(h:Ext B w w'):Ext B w w'.drew:=⟨h.os,h.tape,h.output,h.size,h.block,h.own⟩
theorem Ext.cell {B:Nat}{w w':World}(h:Ext B w w') {p:Addr}(hp:p.block<w.heap.size) (hn:¬ Own B w p.block):w'.cell? p=w.cell? p:=World.cell?_of_block (a:=p) (h.block p.block hp hn)

/-- words from a place on -/
def TokAt (w:World) (b o:Nat) (L:List T4):Prop:=∀ j,(h:j<L.length) →
  w.cell? ⟨b,o+j * 4,none⟩=some (.int .i64 L[j].k)∧w.cell? ⟨b,o+j * 4+1,none⟩=some (.string (bstr L[j].t))∧w.cell? ⟨b,o+j * 4+2,none⟩=some (.int .i64 L[j].v)∧w.cell? ⟨b,o+j * 4+3,none⟩=some (.int .i64 L[j].a)
def Toks (B:Nat) (w:World) (v:Value) (L:List T4):Prop :=
  ∃ p cap,v=.slice p L.length cap∧L.length≤cap∧cap≤9223372036854775807∧(0<cap→∃ b o,p=some ⟨b,o,none⟩∧b<w.heap.size∧¬ Own B w b∧TokAt w b o L)
/-- a node of the list, without where it lies -/
def bare (x:Nd):Mn:=⟨x.k,x.t.data.toList,x.n,x.z,x.c,x.a⟩
def cells6 (x:Nd):List Value:=[.int .i64 x.k,.string x.t,.int .i64 x.n,.int .i64 x.z,.slice x.p x.c.length x.cap,.int .i64 x.a]
def rowN (l:List Nd):List Value:=l.flatMap cells6
def KidF (B:Nat) (w:World) (p:Option Addr) (c:List Int):Prop :=
  0<c.length→∃ b,B<b∧p=some ⟨b,0,none⟩∧b<w.heap.size∧¬ Own B w b∧∀ j,(h:j<c.length)→w.cell? ⟨b,j,none⟩=some (.int .i64 c[j])
def intV (l:List Int):List Value:=l.map (Value.int .i64)
/-- the parser's box and what hangs on it -/
structure PS (B T E:Nat) (w:World) (s:S3) (vT vN vL:Value) (ns:List Nd):Prop where
  box:Blk w B T #[vT,.int .i64 E,vN,vL]
  tok:Toks B w vT s.L
  nod:w.ownsRow (B+1) 34 6 vN ns.length (rowN ns)
  kid:∀ i,(h:i<ns.length)→KidF B w ns[i].p ns[i].c
  loo:w.ownsRow (B+1) 3 1 vL s.O.length (intV s.O)
  sep:∀ g,vN.ownBlock=some g→vL.ownBlock≠some g
  eqN:ns.map bare=s.N
  lenO:s.O.length≤s.N.length
  lenN:s.N.length≤5000000
  lenL:s.L.length≤5000000
  kl:∀ x,x ∈ s.N→x.c.length≤5000000
  caps:∀ i,(h:i<ns.length)→ns[i].c.length≤ns[i].cap
def Ps (B T E:Nat) (w:World) (s:S3):Prop:=∃ vT vN vL ns,PS B T E w s vT vN vL ns
theorem PS.lt {B T E:Nat}{w:World}{s:S3}{vT vN vL:Value}{ns:List Nd}(h:PS B T E w s vT vN vL ns):B<w.heap.size:=h.box.lt
theorem Ps.lt {B T E:Nat}{w:World}{s:S3}(h:Ps B T E w s):B<w.heap.size:=by obtain ⟨_,_,_,_,h⟩:=h;exact h.lt
theorem TokAt.same {w w':World}{b o:Nat}{L:List T4}(h:TokAt w b o L) (hb:w'.heap[b]? = w.heap[b]?):TokAt w' b o L:=fun j hj=>by
  obtain ⟨h0,h1,h2,h3⟩:=h j hj
  exact ⟨(World.cell?_of_block (a:=⟨b,o+j * 4,none⟩) hb).trans h0,(World.cell?_of_block (a:=⟨b,o+j * 4+1,none⟩) hb).trans h1,(World.cell?_of_block (a:=⟨b,o+j * 4+2,none⟩) hb).trans h2,(World.cell?_of_block (a:=⟨b,o+j * 4+3,none⟩) hb).trans h3⟩
theorem PS.own_cases {B T E:Nat}{w:World}{s:S3}{vT vN vL:Value}{ns:List Nd}(h:PS B T E w s vT vN vL ns) (g:Nat):Own B w g ↔ (g=B∨vN.ownBlock=some g∨vL.ownBlock=some g):=by
  have e2:w.cell? ⟨B,2,none⟩=some vN:=by rw [h.box.cell];rfl
  have e3:w.cell? ⟨B,3,none⟩=some vL:=by rw [h.box.cell];rfl
  unfold Own;rw [e2,e3];simp
/-- new blocks alone: all stays -/
theorem PS.below {B T E:Nat}{w w':World}{s:S3}{vT vN vL:Value}{ns:List Nd}(h:PS B T E w s vT vN vL ns) (hb:Below w.heap.size w w'):PS B T E w' s vT vN vL ns:=by
  have hB:=h.lt
  have hO:=own_same (hb.block B hB)
  have hg:w.grownBy w' none:=⟨hb.os,hb.tape,hb.output,hb.size,fun k hk _=>hb.block k hk⟩
  refine { box:=(hb.block B hB).trans h.box,tok:=?_,nod:=h.nod.kept hg (by cases vN.ownBlock <;> simp),kid:=?_,loo:=h.loo.kept hg (by cases vL.ownBlock <;> simp),sep:=h.sep,eqN:=h.eqN,lenO:=h.lenO,lenN:=h.lenN,lenL:=h.lenL,kl:=h.kl,caps:=h.caps }
  · obtain ⟨p,cap,hv,h1,h2,h3⟩:=h.tok
    refine ⟨p,cap,hv,h1,h2,fun hc=>?_⟩
    obtain ⟨b,o,hp,hl,hn,ht⟩:=h3 hc
    exact ⟨b,o,hp,Nat.lt_of_lt_of_le hl hb.size,fun h=>hn ((hO b).1 h),ht.same (hb.block b hl)⟩
  · intro i hi h0
    obtain ⟨b,hb0,hp,hl,hn,hc⟩:=h.kid i hi h0
    exact ⟨b,hb0,hp,Nat.lt_of_lt_of_le hl hb.size,fun h=>hn ((hO b).1 h),fun j hj=>(hb.cell (p:=⟨b,j,none⟩) hl).trans (hc j hj)⟩
theorem Ps.below {B T E:Nat}{w w':World}{s:S3}(h:Ps B T E w s) (hb:Below w.heap.size w w'):Ps B T E w' s:=by
  obtain ⟨a,b,c,d,h⟩:=h;exact ⟨a,b,c,d,h.below hb⟩
theorem Ps.drew {B T E:Nat}{w:World}{s:S3}(h:Ps B T E w s):Ps B T E w.drew s:=h.below (Below.refl _ _).drew
theorem Ps.alloc {B T E:Nat}{w:World}{s:S3}(h:Ps B T E w s) (o:Obj):Ps B T E (w.alloc o) s:=h.below ((Below.refl _ _).alloc (Nat.le_refl _) _)
/-- what is wrong, as an error -/
def errV (c a:Int):Value:=.iface 97 (.agg #[.int .i64 c,.int .i64 a])
/-- what a step does -/
def Did (B T E:Nat) (w:World):R3→Ending→World→Prop
  | .ok s,e,w'=>e=.returned .nilIface∧Ext B w w'∧Ps B T E w' s
  | .bad c a,e,w'=>e=.returned (errV c a)∧Ext B w w'
  | .out,_,_=>True
end
section
open Go.RowKit
open Tk (T4 SR Scans skp fstT bstr rowOf)
open Tr (Nd Blk KidsAt)

def FewR:SR→Prop
  | .ok L=>L.length≤800
  | .bad c _=>c≠0
theorem scans_few {p:Nat}{l:List UInt8}{acc:List T4}{R:SR}(h:Scans p l acc R) (ha:acc.length≤800):FewR R:=by
  induction h with
  | done p acc=>exact ha
  | skip h k ih=>exact ih ha
  | opens h=>exact (by decide:(1:Nat)≠0)
  | much h hn hm=>exact (by decide:(10:Nat)≠0)
  | bad h hn hm hf=>exact Tk.fstT_bad hf
  | tok h hn hm hf k' ih=>exact ih (by simp;omega)
/-- the words of a text, or what is wrong with it -/
def TokR (l:List UInt8) (R:SR):Prop:=(2000<l.length∧R=.bad 2 0)∨(l.length≤2000∧Scans 0 l [] R)
def FewT (n:Nat):SR→Prop
  | .ok L=>L.length≤800∧n≤2000
  | .bad c _=>c≠0
theorem TokR.few {l:List UInt8}{R:SR}(h:TokR l R):FewT l.length R:=by
  rcases h with ⟨h,rfl⟩ | ⟨h,hs⟩
  · exact (by decide:(2:Nat)≠0)
  · have:=scans_few hs (by simp)
    cases R with
    | ok L=>exact ⟨this,h⟩
    | bad c a=>exact this
theorem TokR.det {l:List UInt8}{R R':SR}(h:TokR l R) (h':TokR l R'):R=R':=by
  rcases h with ⟨h,rfl⟩ | ⟨h,hs⟩ <;> rcases h' with ⟨h',rfl⟩ | ⟨h',hs'⟩
  · rfl
  · omega
  · omega
  · exact hs.det hs'
/-- what Scan gives -/
def ScR (R:SR) (w:World) (e:Ending) (w':World):Prop :=
  Below w.heap.size w w'∧∃ v,match R with
    | .ok L=>e=.returned (.tuple #[v,.agg #[.int .i64 0,.int .i64 0]])∧w'.ownsRow w.heap.size 58 4 v L.length (rowOf L)
    | .bad c a=>e=.returned (.tuple #[v,.agg #[.int .i64 (c:Nat),.int .i64 (a:Nat)]])∧v=.slice none 0 0
theorem scan_R {s:ByteArray}{R:SR}(hR:TokR s.data.toList R) {w:World}(hs:s.size≤140737488355328) (hsh:w.ShapedOpen Tryz.prog) {te:TypeId}{pe:Value}(hv:w.cell? ⟨4,0,none⟩=some (.iface te pe)) :
    Calls Tryz.prog 69 #[.string s] w (ScR R w):=(Tk.scan_any s w hs hsh te pe hv).mono fun e w' ⟨hb,v,c,a,he,h⟩=>by
  refine ⟨hb,v,?_⟩
  rcases h with ⟨h,rfl,rfl,rfl⟩ | ⟨h,R',hS,ho⟩
  · obtain rfl:R=.bad 2 0:=hR.det (Or.inl ⟨h,rfl⟩)
    exact ⟨he,rfl⟩
  · obtain rfl:R=R':=hR.det (Or.inr ⟨h,hS⟩)
    cases R with
    | ok L=>obtain ⟨rfl,rfl,ho⟩:=ho;exact ⟨he,ho⟩
    | bad c' a'=>obtain ⟨rfl,rfl,ho⟩:=ho;exact ⟨he,ho⟩
theorem rowOf_at (L:List T4):∀ j,(h:j<L.length)→∀ i,i<4→(rowOf L)[j * 4+i]? = (Tk.cells4 L[j])[i]?:=by
  induction L with
  | nil=>intro j h;simp at h
  | cons x L ih =>
    intro j h i hi
    have e:rowOf (x :: L)=Tk.cells4 x ++ rowOf L:=by simp [rowOf]
    rw [e]
    cases j with
    | zero =>
      rw [List.getElem?_append_left (by simp [Tk.cells4];omega)]
      simp
    | succ j =>
      rw [List.getElem?_append_right (by simp [Tk.cells4];omega)]
      have:=ih j (by simpa using h) i hi
      simp only [List.getElem_cons_succ]
      rw [← this]
      congr 1
      simp [Tk.cells4];omega
/-- the words' row, as the parser has it -/
theorem toks_row {B b:Nat}{w:World}{v:Value}{L:List T4}(h:w.ownsRow b 58 4 v L.length (rowOf L)) (hb:∀ g,b≤g→¬ Own B w g):Toks B w v L:=by
  obtain ⟨h0,h1⟩:=h
  have hc:=fun g hg=>World.ownsRow.cells (w:=w) (base:=b) (e:=58) (size:=4) (v:=v) (n:=L.length) (xs:=rowOf L) ⟨h0,h1⟩ (g:=g) hg
  rcases h1 with ⟨rfl,h2⟩ | ⟨g,cap,cur,rfl,hg,hh,hn,hm,_,_⟩
  · exact ⟨none,0,by rw [h2],by omega,by omega,fun h=>absurd h (by omega)⟩
  · unfold maxLen at hm
    by_cases hcap:0<cap
    all_goals
      refine ⟨_,cap,rfl,hn,?_,fun h0=>?_⟩
      · first | omega | exact Nat.le_trans hm (by omega)
      · first
        | omega
        | (refine ⟨g,0,rfl,lt_of_block hh,hb g hg,fun j hj=>?_⟩
           have e:∀ i,i<4→∀ u,(Tk.cells4 L[j])[i]? = some u→w.cell? ⟨g,j * 4+i,none⟩=some u:=fun i hi u hu=>by
             have:=hc g rfl (j * 4+i) u ((rowOf_at L j hj i hi).trans hu)
             have ea:((⟨g,0,none⟩ : Addr).add (j * 4+i))=⟨g,j * 4+i,none⟩:=by unfold Addr.add;split <;> simp_all
             rwa [ea] at this
           simp only [Nat.zero_add]
           exact ⟨e 0 (by omega) _ rfl,e 1 (by omega) _ rfl,e 2 (by omega) _ rfl,e 3 (by omega) _ rfl⟩)
end
section
open Go.RowKit
open Tk (T4 bstr)
open Tr

section
variable {f:Nd→Nd}(hk:∀ x,(f x).k=x.k) (hc:∀ x,(f x).c=x.c) (hf:∀ x,fieldC (f x)=fieldC x)
include hk in
theorem kindAt_map (l:List Nd):kindAt (l.map f)=kindAt l:=by
  funext j;unfold kindAt;rw [List.getElem?_map];cases l[j]? <;> simp [hk]
include hc in
theorem kidsAt_map (l:List Nd):kidsAt (l.map f)=kidsAt l:=by
  funext j;unfold kidsAt;rw [List.getElem?_map];cases l[j]? <;> simp [hc]
include hk hc in
theorem firsts_map (l:List Nd):∀ n,firsts (l.map f) n=firsts l n
  | 0=>rfl
  | n+1=>by simp only [firsts,firsts_map l n,kindAt_map hk,kidsAt_map hc]
include hc in
theorem deeps_map (l:List Nd):∀ n,deeps (l.map f) n=deeps l n
  | 0=>rfl
  | n+1=>by simp only [deeps,deeps_map l n,kidsAt_map hc]
include hk hc in
theorem St_map (l:List Nd):St (l.map f)=St l:=by funext j;unfold St;rw [firsts_map hk hc]
include hc in
theorem Dp_map (l:List Nd):Dp (l.map f)=Dp l:=by funext j;unfold Dp;rw [deeps_map hc]
include hk hc in
theorem wayOf_map (l:List Nd):wayOf (l.map f)=wayOf l:=by funext j;unfold wayOf;rw [St_map hk hc,kindAt_map hk,kidsAt_map hc]
include hk hc hf in
theorem codeAt_map (l:List Nd):codeAt (l.map f)=codeAt l:=by
  funext j;unfold codeAt;rw [List.getElem?_map]
  cases l[j]? with
  | none=>rfl
  | some x=>simp only [Option.map_some,Option.getD_some,nodeC,hk,hc,hf,wayOf_map hk hc]
include hk hc hf in
theorem CkR_map (l:List Nd) (c a:Int):CkR (l.map f) c a ↔ CkR l c a:=by
  unfold CkR;rw [List.length_map,codeAt_map hk hc hf,St_map hk hc,Dp_map hc]
end
def ndOf (x:Mn):Nd:=⟨x.k,bstr x.t,x.n,x.z,none,0,x.c,x.a⟩
theorem bstr_data (x:ByteArray):bstr x.data.toList=x:=by
  obtain ⟨⟨l⟩⟩:=x;rfl
theorem nd_bare (x:Nd):ndOf (bare x)={ x with p:=none,cap:=0 }:=by
  obtain ⟨k,t,n,z,p,cap,c,a⟩:=x
  simp only [ndOf,bare,bstr_data]
/-- what Check tells of nodes -/
def CkN (N:List Mn) (c a:Int):Prop:=CkR (N.map ndOf) c a
theorem CkR_bare (l:List Nd) (c a:Int):CkR l c a ↔ CkN (l.map bare) c a:=by
  unfold CkN
  rw [List.map_map]
  refine (CkR_map (f:=ndOf ∘ bare) (fun x=>?_) (fun x=>?_) (fun x=>?_) l c a).symm
  · show (ndOf (bare x)).k=_;rw [nd_bare]
  · show (ndOf (bare x)).c=_;rw [nd_bare]
  · show fieldC (ndOf (bare x))=_;rw [nd_bare];rfl
theorem CkN.det {N:List Mn}{c a c' a':Int}(h:CkN N c a) (h':CkN N c' a'):c=c'∧a=a':=CkR.det h h'
/-- the step that finds a tree too large -/
noncomputable def fitsF:F3:=fun s=>open Classical in if CkN s.N 0 0 then .ok s else .bad 10 0
theorem fits_yes {s:S3}(h:CkN s.N 0 0):fitsF s=.ok s:=by unfold fitsF;exact if_pos h
theorem fits_no {s:S3}(h:¬ CkN s.N 0 0):fitsF s=.bad 10 0:=by unfold fitsF;exact if_neg h
end
section
open Go.RowKit
open Tk (T4 bstr)
open Tr (Nd Blk KidsAt)

def tokV (t:T4):Value:=.agg #[.int .i64 t.k,.string (bstr t.t),.int .i64 t.v,.int .i64 t.a]

set_option maxHeartbeats 5000000 in
theorem ended_cell (B:Nat) (p:Option Addr) (n cap:Nat) (w:World) (h0:w.cell? ⟨B,0,none⟩=some (.slice p n cap)) (hn:n≤5000000) :
    Calls Tryz.prog 79 #[.pointer (some ⟨B,0,none⟩)] w fun e w'=>e=.returned (.bool (decide (n=0)))∧w=w':=by
  by_cases hz:n=0
  · subst hz
    go_enter Tryz.func79,Tryz.ntmps79
    go_wp2
    go_ret
    exact ⟨rfl,rfl⟩
  · have hd:((n:Int) == 0)=false:=by simpa using hz
    have hr:Hid (decide (n=0)=false):=by show _=_;simpa using hz
    go_enter Tryz.func79,Tryz.ntmps79
    go_wp2
    go_ret
    exact ⟨by rw [hr.out];rfl,rfl⟩
theorem ended_any {B T E:Nat}{w:World}{s:S3}(h:Ps B T E w s) :
    Calls Tryz.prog 79 #[.pointer (some ⟨B,0,none⟩)] w fun e w'=>e=.returned (.bool (decide (s.L.length=0)))∧w=w':=by
  obtain ⟨vT,vN,vL,ns,h⟩:=h
  obtain ⟨p,cap,rfl,h1,h2,h3⟩:=h.tok
  exact ended_cell B p _ cap w (by rw [h.box.cell];rfl) h.lenL

set_option maxHeartbeats 2000000 in
theorem peek_nil {B T E:Nat}{w:World}{s:S3}(h:Ps B T E w s) (hl:s.L=[]) :
    Calls Tryz.prog 75 #[.pointer (some ⟨B,0,none⟩)] w fun e w'=>e=.returned (tokV (pk E []))∧Below w.heap.size w w':=by
  obtain ⟨vT,vN,vL,ns,h⟩:=h
  obtain ⟨p,cap,rfl,h1,h2,h3⟩:=h.tok
  have hB:=h.lt
  have g0:(w.alloc (.cells #[.int .i64 0,.string ⟨#[]⟩,.int .i64 0,.int .i64 0] 58)).cell? ⟨B,0,none⟩=some (.slice p s.L.length cap):=by
    rw [World.cell?_alloc_past _ _ _ hB,h.box.cell];rfl
  have g1:(w.alloc (.cells #[.int .i64 0,.string ⟨#[]⟩,.int .i64 0,.int .i64 0] 58)).cell? ⟨B,1,none⟩=some (.int .i64 E):=by
    rw [World.cell?_alloc_past _ _ _ hB,h.box.cell];rfl
  have hc:=ended_cell B p s.L.length cap _ g0 h.lenL
  have hd:decide (s.L.length=0)=true:=by rw [hl];rfl
  rw [hd] at hc
  have HB:Hid (Below w.heap.size w (w.alloc (.cells #[.int .i64 0,.string ⟨#[]⟩,.int .i64 0,.int .i64 0] 58))):=(Below.refl _ _).alloc (Nat.le_refl _) _
  have hw:w.cell? ⟨B,1,none⟩=some (.int .i64 E):=by rw [h.box.cell];rfl
  clear h h3 h1 h2 hl hd g0 g1
  go_enter Tryz.func75,Tryz.ntmps75
  go_wp2_with (go_at_call 79;refine hc.mono ?_;rintro e w' ⟨rfl,rfl⟩)
  refine bodyPost_ret (v:=tokV (pk E [])) (by simp [results,Tryz.results75,go_sem,tokV,pk,bstr]) rfl ?_
  exact ⟨rfl,(Below.refl _ _).alloc (Nat.le_refl _) _⟩

set_option maxHeartbeats 2000000 in
theorem peek_cons {B T E:Nat}{w:World}{s:S3}(h:Ps B T E w s) {t:T4}{L:List T4}(hl:s.L=t :: L) :
    Calls Tryz.prog 75 #[.pointer (some ⟨B,0,none⟩)] w fun e w'=>e=.returned (tokV t)∧Below w.heap.size w w':=by
  obtain ⟨vT,vN,vL,ns,h⟩:=h
  obtain ⟨p,cap,rfl,h1,h2,h3⟩:=h.tok
  have hB:=h.lt
  have hlen:s.L.length=L.length+1:=by rw [hl];rfl
  obtain ⟨b,o,rfl,hb,hnb,ht⟩:=h3 (by omega)
  have ht0:=ht 0 (by omega)
  simp only [hl,List.getElem_cons_zero,Nat.zero_mul,Nat.add_zero] at ht0
  obtain ⟨t0,t1,t2,t3⟩:=ht0
  have g0:w.cell? ⟨B,0,none⟩=some (.slice (some ⟨b,o,none⟩) (L.length+1) cap):=by rw [h.box.cell,← hlen];rfl
  have hm:L.length+1≤5000000:=by have:=h.lenL;omega
  have g1:(w.alloc (.cells #[.int .i64 0,.string ⟨#[]⟩,.int .i64 0,.int .i64 0] 58)).cell? ⟨B,0,none⟩=some (.slice (some ⟨b,o,none⟩) (L.length+1) cap):=by
    rw [World.cell?_alloc_past _ _ _ hB];exact g0
  have hc:=ended_cell B (some ⟨b,o,none⟩) (L.length+1) cap _ g1 hm
  have hd:decide (L.length+1=0)=false:=by simp
  rw [hd] at hc
  clear h h3 h1 h2 hl hd g1 ht hlen
  obtain ⟨x,hx⟩ : ∃ x,x=bstr t.t:=⟨_,rfl⟩
  unfold tokV
  rw [← hx] at t1 ⊢
  clear hx
  go_enter Tryz.func75,Tryz.ntmps75
  go_wp2_with (go_at_call 79;refine hc.mono ?_;rintro e w' ⟨rfl,rfl⟩)
  refine bodyPost_ret (v:=.agg #[.int .i64 t.k,.string x,.int .i64 t.v,.int .i64 t.a]) (by simp [results,Tryz.results75,go_sem]) rfl ?_
  exact ⟨rfl,(Below.refl _ _).alloc (Nat.le_refl _) _⟩
theorem peek_any {B T E:Nat}{w:World}{s:S3}(h:Ps B T E w s) :
    Calls Tryz.prog 75 #[.pointer (some ⟨B,0,none⟩)] w fun e w'=>e=.returned (tokV (pk E s.L))∧Below w.heap.size w w':=by
  cases hl:s.L with
  | nil=>exact peek_nil h hl
  | cons t L=>exact peek_cons h hl

theorem fldT0 (x0 x1 x2 x3:Value) (w:World):(Instr.field 58 (.agg #[x0,x1,x2,x3]) 0).run Tryz.prog w=.ok x0 w:=by kernel_rfl
theorem fldT1 (x0 x1 x2 x3:Value) (w:World):(Instr.field 58 (.agg #[x0,x1,x2,x3]) 1).run Tryz.prog w=.ok x1 w:=by kernel_rfl
theorem fldT3 (x0 x1 x2 x3:Value) (w:World):(Instr.field 58 (.agg #[x0,x1,x2,x3]) 3).run Tryz.prog w=.ok x3 w:=by kernel_rfl

set_option maxHeartbeats 2000000 in
set_option maxRecDepth 100000 in
theorem sees_any {B T E:Nat}{w:World}{s:S3}(h:Ps B T E w s) (x:ByteArray) :
    Calls Tryz.prog 181 #[.pointer (some ⟨B,0,none⟩),.string x] w fun e w'=>e=.returned (.bool (decide ((pk E s.L).t=x.data.toList)))∧Below w.heap.size w w':=by
  have hp:=peek_any h
  unfold tokV at hp
  generalize pk E s.L=t at *
  obtain ⟨y,hy⟩ : ∃ y,y=bstr t.t:=⟨_,rfl⟩
  rw [← hy] at hp
  have hr:Hid (decide (t.t=x.data.toList)=(y.toList == x.toList)):=by
    show _=_
    have e1:y.toList=t.t:=by rw [Lib.toList_data,hy];rfl
    rw [e1,Lib.toList_data,Bool.eq_iff_iff];simp
  clear hy
  have hf:=fldT1
  go_enter Tryz.func181,Tryz.ntmps181
  go_wp2_with (go_at_call 75;refine hp.mono ?_;rintro e w' ⟨rfl,hb⟩)
  go_ret
  exact ⟨by rw [hr.out];rfl,hb⟩

theorem own_set0 {B T:Nat}{w:World}{x0 x1 x2 x3 v:Value}(h:Blk w B T #[x0,x1,x2,x3]) (g:Nat):Own B (w.setCell ⟨B,0,none⟩ v) g ↔ Own B w g:=by
  have h':=h.set_ 0 v
  have e2:(w.setCell ⟨B,0,none⟩ v).cell? ⟨B,2,none⟩=w.cell? ⟨B,2,none⟩:=by rw [h'.cell,h.cell];rfl
  have e3:(w.setCell ⟨B,0,none⟩ v).cell? ⟨B,3,none⟩=w.cell? ⟨B,3,none⟩:=by rw [h'.cell,h.cell];rfl
  unfold Own;rw [e2,e3]
theorem ext_set0 {B T:Nat}{w:World}{x0 x1 x2 x3:Value}(h:Blk w B T #[x0,x1,x2,x3]) (v:Value):Ext B w (w.setCell ⟨B,0,none⟩ v) :=
  ⟨rfl,rfl,rfl,by simp [World.setCell],fun g _ hn=>Below.heap_setCell _ _ _ _ (fun e=>hn (Or.inl e)),fun g ho=>Or.inl ((own_set0 h g).1 ho)⟩
theorem PS.set0 {B T E:Nat}{w:World}{s:S3}{vT vN vL:Value}{ns:List Nd}(h:PS B T E w s vT vN vL ns) {v:Value}{L:List T4}(ht:Toks B w v L) (hL:L.length≤5000000) :
    PS B T E (w.setCell ⟨B,0,none⟩ v) { s with L:=L } v vN vL ns:=by
  have hO:=own_set0 h.box (v:=v)
  have hk:∀ g,g≠B→(w.setCell ⟨B,0,none⟩ v).heap[g]? = w.heap[g]?:=fun g hg=>Below.heap_setCell _ _ _ _ hg
  refine { box:=h.box.set_ 0 v,tok:=?_,nod:=ownsRow_setCell_below h.nod (a:=⟨B,0,none⟩) (by show B<B+1;omega) v,kid:=?_,loo:=ownsRow_setCell_below h.loo (a:=⟨B,0,none⟩) (by show B<B+1;omega) v,sep:=h.sep,eqN:=h.eqN,lenO:=h.lenO,lenN:=h.lenN,lenL:=hL,kl:=h.kl,caps:=h.caps }
  · obtain ⟨p,cap,hv,h1,h2,h3⟩:=ht
    refine ⟨p,cap,hv,h1,h2,fun hc=>?_⟩
    obtain ⟨b,o,hp,hl,hn,ht⟩:=h3 hc
    exact ⟨b,o,hp,by simpa [World.setCell] using hl,fun h=>hn ((hO b).1 h),ht.same (hk b (fun e=>hn (Or.inl e)))⟩
  · intro i hi h0
    obtain ⟨b,hb0,hp,hl,hn,hc⟩:=h.kid i hi h0
    exact ⟨b,hb0,hp,by simpa [World.setCell] using hl,fun h=>hn ((hO b).1 h),fun j hj=>(World.cell?_of_block (a:=⟨b,j,none⟩) (hk b (fun e=>hn (Or.inl e)))).trans (hc j hj)⟩
theorem toks_tail {B:Nat}{w:World}{b o n cap:Nat}{t:T4}{L:List T4}(hlen:n=L.length) (h1:L.length+1≤cap) (h2:cap≤9223372036854775807) (hl:b<w.heap.size) (hn:¬ Own B w b) (ht:TokAt w b o (t :: L)) :
    Toks B w (.slice (some ⟨b,o+4,none⟩) n (cap-1)) L :=
  ⟨_,cap-1,by rw [hlen],by omega,by omega,fun _=>⟨b,o+4,rfl,hl,hn,fun j hj=>by
    have:=ht (j+1) (by simp;omega)
    rw [show o+(j+1) * 4=o+4+j * 4 by omega] at this
    exact this⟩⟩
theorem toks_none {B:Nat}{w:World}{p:Option Addr}:Toks B w (.slice p 0 0) []:=⟨p,0,rfl,Nat.le_refl _,by omega,fun h=>absurd h (by omega)⟩
end
section
open Go.RowKit
open Tk (T4 bstr)
open Tr (Nd Blk KidsAt)

theorem box4 {w:World}{g:Nat}{t:TypeId}{x0 x1 x2 x3:Value}(h:Blk w g t #[x0,x1,x2,x3]) :
    (w.cell? ⟨g,0,none⟩=some x0∧w.cell? ⟨g,1,none⟩=some x1∧w.cell? ⟨g,2,none⟩=some x2∧w.cell? ⟨g,3,none⟩=some x3) ∧
    (w.frozen? ⟨g,0,none⟩=false∧w.frozen? ⟨g,1,none⟩=false∧w.frozen? ⟨g,2,none⟩=false∧w.frozen? ⟨g,3,none⟩=false)∧g<w.heap.size :=
  ⟨⟨by rw [h.cell];rfl,by rw [h.cell];rfl,by rw [h.cell];rfl,by rw [h.cell];rfl⟩,⟨h.frozen 0,h.frozen 1,h.frozen 2,h.frozen 3⟩,h.lt⟩
/-- a token stored into a box of its kind -/
def set4 (w:World) (g:Nat) (y0 y1 y2 y3:Value):World:=(((w.setCell ⟨g,0,none⟩ y0).setCell ⟨g,1,none⟩ y1).setCell ⟨g,2,none⟩ y2).setCell ⟨g,3,none⟩ y3

set_option maxHeartbeats 4000000 in
set_option maxRecDepth 100000 in
theorem take_nil {B T E:Nat}{w:World}{s:S3}(h:Ps B T E w s) (hl:s.L=[]) :
    Calls Tryz.prog 129 #[.pointer (some ⟨B,0,none⟩)] w fun e w'=>e=.returned (tokV (pk E []))∧Below w.heap.size w w':=by
  obtain ⟨x0,hx0⟩ : ∃ x0,x0=bstr (pk E []).t:=⟨_,rfl⟩
  have hp:=peek_any (h.alloc (.cells #[.int .i64 0,.string ⟨#[]⟩,.int .i64 0,.int .i64 0] 58))
  have hB:=h.lt
  unfold tokV at hp ⊢
  rw [hl] at hp
  rw [← hx0] at hp ⊢
  generalize pk E []=t at *
  have H:=Lib.hid h
  have Hl:=Lib.hid hl
  clear h hl hx0
  go_enter Tryz.func129,Tryz.ntmps129
  go_wp2_with (go_at_call 75;refine hp.mono ?_;rintro e w1 ⟨rfl,hb⟩)
  have hb1:Below w.heap.size w w1:=((Below.refl _ _).alloc (Nat.le_refl _) _).trans (hb.mono (by simp))
  have HB:=Lib.hid hb1
  have hs1:=H.out.below hb1
  have k0:w1.heap[w.heap.size]? = some (.cells #[.int .i64 0,.string ⟨#[]⟩,.int .i64 0,.int .i64 0] 58 (0,0)):=(hb.block _ (by simp)).trans (heap_alloc_new w _)
  have K0:Hid (Blk w1 w.heap.size 58 #[.int .i64 0,.string ⟨#[]⟩,.int .i64 0,.int .i64 0]):=k0
  obtain ⟨⟨c0,c1,c2,c3⟩,⟨f0,f1,f2,f3⟩,lK⟩:=box4 K0.out
  have he:=ended_any (hs1.alloc (.cells #[.int .i64 t.k,.string x0,.int .i64 t.v,.int .i64 t.a] 58))
  have hd:decide (s.L.length=0)=true:=by rw [Hl.out];rfl
  rw [hd] at he
  clear hb hb1 hs1 k0 hd
  go_wp2_with (go_at_call 79;refine he.mono ?_;rintro e w' ⟨rfl,rfl⟩)
  refine bodyPost_ret (v:=.agg #[.int .i64 t.k,.string x0,.int .i64 t.v,.int .i64 t.a]) (by simp [results,Tryz.results129,go_sem,c0,c1,c2,c3,lK]) rfl ?_
  exact ⟨rfl,((((HB.out.setCell (p:=⟨w.heap.size,0,none⟩) (Nat.le_refl _) _).setCell (p:=⟨w.heap.size,1,none⟩) (Nat.le_refl _) _).setCell (p:=⟨w.heap.size,2,none⟩) (Nat.le_refl _) _).setCell (p:=⟨w.heap.size,3,none⟩) (Nat.le_refl _) _).alloc (by simp [World.setCell];omega) _⟩

theorem below_set {n:Nat}{w w1:World}(h:Below n w w1) (p:Addr) (v:Value):Below n (w.setCell p v) (w1.setCell p v) :=
  ⟨h.os,h.tape,h.output,by simpa [World.setCell] using h.size,fun k hk=>by simp only [World.setCell,Array.getElem?_modify];rw [h.block k hk]⟩
theorem take_close {B T E:Nat}{w w1:World}{s:S3}{vT vN vL v:Value}{ns:List Nd}{L:List T4}(h:PS B T E w s vT vN vL ns) (ht:Toks B w v L) (hL:L.length≤5000000) (hb:Below w.heap.size w w1)
    {y0 y1 y2 y3:Value} {o:Obj}:Ext B w ((((((w1.setCell ⟨B,0,none⟩ v).setCell ⟨w.heap.size,0,none⟩ y0).setCell ⟨w.heap.size,1,none⟩ y1).setCell ⟨w.heap.size,2,none⟩ y2).setCell ⟨w.heap.size,3,none⟩ y3).alloc o) ∧
      Ps B T E ((((((w1.setCell ⟨B,0,none⟩ v).setCell ⟨w.heap.size,0,none⟩ y0).setCell ⟨w.heap.size,1,none⟩ y1).setCell ⟨w.heap.size,2,none⟩ y2).setCell ⟨w.heap.size,3,none⟩ y3).alloc o) { s with L:=L }:=by
  have hW:Below (w.setCell ⟨B,0,none⟩ v).heap.size (w.setCell ⟨B,0,none⟩ v) ((((((w1.setCell ⟨B,0,none⟩ v).setCell ⟨w.heap.size,0,none⟩ y0).setCell ⟨w.heap.size,1,none⟩ y1).setCell ⟨w.heap.size,2,none⟩ y2).setCell ⟨w.heap.size,3,none⟩ y3).alloc o):=by
    have e:(w.setCell ⟨B,0,none⟩ v).heap.size=w.heap.size:=by simp [World.setCell]
    have hs:=hb.size
    rw [e]
    exact (((((below_set hb _ _).setCell (p:=⟨w.heap.size,0,none⟩) (Nat.le_refl _) _).setCell (p:=⟨w.heap.size,1,none⟩) (Nat.le_refl _) _).setCell (p:=⟨w.heap.size,2,none⟩) (Nat.le_refl _) _).setCell (p:=⟨w.heap.size,3,none⟩) (Nat.le_refl _) _).alloc (by simpa [World.setCell] using hs) _
  have hp:=h.set0 ht hL
  exact ⟨(ext_set0 h.box v).trans (Ext.below hW hp.lt),⟨_,_,_,_,hp.below hW⟩⟩

set_option maxHeartbeats 4000000 in
set_option maxRecDepth 100000 in
theorem take_cons {B T E:Nat}{w:World}{s:S3}(h:Ps B T E w s) {t:T4}{L:List T4}(hl:s.L=t :: L) :
    Calls Tryz.prog 129 #[.pointer (some ⟨B,0,none⟩)] w fun e w'=>e=.returned (tokV t)∧Ext B w w'∧Ps B T E w' { s with L:=L }:=by
  obtain ⟨x0,hx0⟩ : ∃ x0,x0=bstr t.t:=⟨_,rfl⟩
  have hp:=peek_any (h.alloc (.cells #[.int .i64 0,.string ⟨#[]⟩,.int .i64 0,.int .i64 0] 58))
  have hB:=h.lt
  unfold tokV at hp ⊢
  rw [hl] at hp
  change Calls _ _ _ _ (fun e w'=>e=.returned (.agg #[.int .i64 t.k,.string (bstr t.t),.int .i64 t.v,.int .i64 t.a])∧_) at hp
  rw [← hx0] at hp ⊢
  have H:=Lib.hid h
  have Hl:=Lib.hid hl
  clear h hl hx0
  obtain ⟨Q,hQ⟩ : ∃ Q:Ending→World→Prop,Q=fun e w'=>e=.returned (.agg #[.int .i64 t.k,.string x0,.int .i64 t.v,.int .i64 t.a])∧Ext B w w'∧Ps B T E w' { s with L:=L }:=⟨_,rfl⟩
  have HQ:=Lib.hid hQ
  rw [← hQ]
  clear hQ
  go_enter Tryz.func129,Tryz.ntmps129
  go_wp2_with (go_at_call 75;refine hp.mono ?_;rintro e w1 ⟨rfl,hb⟩)
  have hb1:Below w.heap.size w w1:=((Below.refl _ _).alloc (Nat.le_refl _) _).trans (hb.mono (by simp))
  have HB:=Lib.hid hb1
  have hs1:=H.out.below hb1
  have HS:=Lib.hid hs1
  have k0:w1.heap[w.heap.size]? = some (.cells #[.int .i64 0,.string ⟨#[]⟩,.int .i64 0,.int .i64 0] 58 (0,0)):=(hb.block _ (by simp)).trans (heap_alloc_new w _)
  have K0:Hid (Blk w1 w.heap.size 58 #[.int .i64 0,.string ⟨#[]⟩,.int .i64 0,.int .i64 0]):=k0
  obtain ⟨⟨c0,c1,c2,c3⟩,⟨f0,f1,f2,f3⟩,lK⟩:=box4 K0.out
  have he:=ended_any (hs1.alloc (.cells #[.int .i64 t.k,.string x0,.int .i64 t.v,.int .i64 t.a] 58))
  have hd:decide (s.L.length=0)=false:=by rw [Hl.out];simp
  rw [hd] at he
  obtain ⟨vT,vN,vL,ns,h1⟩:=H.out
  obtain ⟨p,cap,rfl,q1,q2,q3⟩:=h1.tok
  have hlen:s.L.length=L.length+1:=by rw [Hl.out];rfl
  obtain ⟨b,o,rfl,hlb,hnb,ht⟩:=q3 (by omega)
  have lB:B<w1.heap.size:=Nat.lt_of_lt_of_le hB HB.out.size
  have hm:=h1.lenL
  have g0:w1.cell? ⟨B,0,none⟩=some (.slice (some ⟨b,o,none⟩) (L.length+1) cap):=by rw [HB.out.cell (p:=⟨B,0,none⟩) hB,h1.box.cell,← hlen];rfl
  have gf:w1.frozen? ⟨B,0,none⟩=false:=(HB.out.frozen (p:=⟨B,0,none⟩) hB).trans (h1.box.frozen 0)
  have hne:B≠w.heap.size:=by omega
  have HP:=Lib.hid h1
  rw [hlen] at q1 hm
  have HTt:Hid (1<cap→Toks B w (.slice (some ⟨b,o+4,none⟩) L.length (cap-1)) L):=fun _=>toks_tail (t:=t) rfl q1 q2 hlb hnb (by rw [← Hl.out];exact ht)
  have Hm:Hid (L.length≤5000000):=Lib.hid (by omega)
  clear hb hb1 k0 hd h1 q3 ht hlen hnb hlb HS
  by_cases hcap:cap=1
  · subst hcap
    have hL0:L.length=0:=by omega
    have HL0:Hid (L=[]):=List.eq_nil_of_length_eq_zero hL0
    rw [hL0] at g0 q1 hm
    clear hL0 HTt
    go_wp2_with (go_at_call 79;refine he.mono ?_;rintro e w' ⟨rfl,rfl⟩)
    refine bodyPost_ret (v:=.agg #[.int .i64 t.k,.string x0,.int .i64 t.v,.int .i64 t.a]) (by simp [results,Tryz.results129,go_sem,c0,c1,c2,c3,lK,hne]) rfl ?_
    rw [HQ.out]
    exact ⟨rfl,take_close HP.out (by rw [HL0.out];exact toks_none) Hm.out HB.out⟩
  · have hc1:1<cap:=by omega
    have HT2:=Lib.hid (HTt.out hc1)
    clear HTt
    go_wp2_with (go_at_call 79;refine he.mono ?_;rintro e w' ⟨rfl,rfl⟩)
    refine bodyPost_ret (v:=.agg #[.int .i64 t.k,.string x0,.int .i64 t.v,.int .i64 t.a]) (by simp [results,Tryz.results129,go_sem,c0,c1,c2,c3,lK,hne]) rfl ?_
    rw [HQ.out]
    exact ⟨rfl,take_close HP.out HT2.out Hm.out HB.out⟩
theorem take_any {B T E:Nat}{w:World}{s:S3}(h:Ps B T E w s) :
    Calls Tryz.prog 129 #[.pointer (some ⟨B,0,none⟩)] w fun e w'=>e=.returned (tokV (pk E s.L))∧Ext B w w'∧Ps B T E w' { s with L:=s.L.tail }:=by
  cases hl:s.L with
  | nil=>exact (take_nil h hl).mono fun e w' ⟨he,hb⟩=>⟨he,Ext.below hb h.lt,by have:=h.below hb;obtain ⟨L,N,O⟩:=s;cases hl;exact this⟩
  | cons t L=>exact take_cons h hl
end
section
open Go.RowKit
open Tk (T4 bstr)
open Tr (Nd Blk KidsAt)

def TookPost (B T E:Nat) (w:World) (s:S3) (l:List UInt8) (e:Ending) (w':World):Prop :=
  Ext B w w'∧(((pk E s.L).t=l∧e=.returned (.bool true)∧Ps B T E w' { s with L:=s.L.tail })∨((pk E s.L).t≠l∧e=.returned (.bool false)∧Ps B T E w' s))
set_option maxHeartbeats 2000000 in
set_option maxRecDepth 100000 in
theorem took_any {B T E:Nat}{w:World}{s:S3}(h:Ps B T E w s) (x:ByteArray) :
    Calls Tryz.prog 134 #[.pointer (some ⟨B,0,none⟩),.string x] w (TookPost B T E w s x.data.toList):=by
  have hs:=sees_any h x
  have H:=Lib.hid h
  have hB:=h.lt
  clear h
  by_cases ht:(pk E s.L).t=x.data.toList
  · have hd:decide ((pk E s.L).t=x.data.toList)=true:=decide_eq_true ht
    rw [hd] at hs
    have Ht:=Lib.hid ht
    clear ht hd
    go_enter Tryz.func134,Tryz.ntmps134
    go_wp2_with (go_at_call 181;refine hs.mono ?_;rintro e w1 ⟨rfl,hb⟩)
    have hk:=take_any (H.out.below hb)
    have HB:=Lib.hid hb
    clear hb hs
    go_wp2_with (go_at_call 129;refine hk.mono ?_)
    rintro e w2 ⟨rfl,hx,hp⟩
    have HX:=Lib.hid hx
    have HP:=Lib.hid hp
    clear hx hp hk
    go_wp2
    go_ret
    exact ⟨(Ext.below HB.out hB).trans HX.out,Or.inl ⟨Ht.out,rfl,HP.out⟩⟩
  · have hd:decide ((pk E s.L).t=x.data.toList)=false:=decide_eq_false ht
    rw [hd] at hs
    have Ht:=Lib.hid ht
    clear ht hd
    go_enter Tryz.func134,Tryz.ntmps134
    go_wp2_with (go_at_call 181;refine hs.mono ?_;rintro e w1 ⟨rfl,hb⟩)
    go_ret
    exact ⟨Ext.below hb hB,Or.inr ⟨Ht.out,rfl,H.out.below hb⟩⟩

set_option maxHeartbeats 2000000 in
set_option maxRecDepth 100000 in
theorem wrong_any {B T E:Nat}{w:World}{s:S3}(h:Ps B T E w s) :
    Calls Tryz.prog 80 #[.pointer (some ⟨B,0,none⟩)] w fun e w'=>e=.returned (errV 1 (pk E s.L).a)∧Below w.heap.size w w':=by
  have hp:=peek_any h
  unfold tokV at hp
  have hf:=fldT3
  generalize pk E s.L=t at *
  go_enter Tryz.func80,Tryz.ntmps80
  go_wp2_with (go_at_call 75;refine hp.mono ?_;rintro e w1 ⟨rfl,hb⟩)
  go_ret
  exact ⟨rfl,hb⟩

set_option maxHeartbeats 2000000 in
set_option maxRecDepth 100000 in
theorem word_any {B:Nat}(x:ByteArray) (w:World) :
    Calls Tryz.prog 77 #[.pointer (some ⟨B,0,none⟩),.string x] w fun e w'=>e=.returned (.func (.func 133) #[] #[.pointer (some ⟨w.heap.size,0,none⟩),.pointer (some ⟨w.heap.size+1,0,none⟩)]) ∧
      w' = (w.alloc (.cells #[.pointer (some ⟨B,0,none⟩)] 95)).alloc (.cells #[.string x] 9):=by
  go_enter Tryz.func77,Tryz.ntmps77
  go_wp2
  go_ret
  exact ⟨rfl,rfl⟩

set_option maxHeartbeats 2000000 in
set_option maxRecDepth 100000 in
theorem wordc_any {B T E:Nat}{w:World}{s:S3}(h:Ps B T E w s) (g1 g2:Nat) (x:ByteArray) (h1:w.cell? ⟨g1,0,none⟩=some (.pointer (some ⟨B,0,none⟩))) (h2:w.cell? ⟨g2,0,none⟩=some (.string x)) (hn1:g1<w.heap.size) (hn2:¬ Own B w g1) :
    Calls Tryz.prog 133 #[.pointer (some ⟨g1,0,none⟩),.pointer (some ⟨g2,0,none⟩)] w (Did B T E w (wordF E x.data.toList s)):=by
  have ht:=took_any h x
  have HN1:=Lib.hid hn1
  have HN2:=Lib.hid hn2
  have H1:=Lib.hid h1
  obtain ⟨Q,hQ⟩ : ∃ Q:Ending→World→Prop,Q=Did B T E w (wordF E x.data.toList s):=⟨_,rfl⟩
  rw [← hQ]
  have HQ:=Lib.hid hQ
  clear hQ h hn1 hn2
  go_enter Tryz.func133,Tryz.ntmps133
  go_wp2_with (go_at_call 134;refine ht.mono ?_)
  rintro e w1 ⟨hx,⟨hd,rfl,hp⟩ | ⟨hd,rfl,hp⟩⟩
  · have HX:=Lib.hid hx
    have HP:=Lib.hid hp
    have HD:=Lib.hid hd
    clear hx hp hd
    go_wp2
    rw [HQ.out]
    unfold wordF
    rw [if_pos HD.out]
    exact ⟨rfl,HX.out,HP.out⟩
  · have HX:=Lib.hid hx
    have HD:=Lib.hid hd
    have hw:=wrong_any hp
    have h1':w1.cell? ⟨g1,0,none⟩=some (.pointer (some ⟨B,0,none⟩)):=(hx.cell (p:=⟨g1,0,none⟩) HN1.out HN2.out).trans H1.out
    have hB:=hp.lt
    clear hx hd hp ht
    go_wp2_with (go_at_call 80;refine hw.mono ?_)
    rintro e w2 ⟨rfl,hb⟩
    go_wp2
    rw [HQ.out]
    unfold wordF
    rw [if_neg HD.out]
    exact ⟨rfl,HX.out.trans (Ext.below hb hB)⟩

set_option maxHeartbeats 2000000 in
set_option maxRecDepth 100000 in
theorem mark_any {B T E:Nat}{w:World}{s:S3}(h:Ps B T E w s) :
    Calls Tryz.prog 73 #[.pointer (some ⟨B,2,none⟩)] w fun e w'=>e=.returned (.int .i64 s.O.length)∧w=w':=by
  obtain ⟨vT,vN,vL,ns,h⟩:=h
  have hl:=h.loo.2
  have g0:w.cell? ⟨B,3,none⟩=some vL:=by rw [h.box.cell];rfl
  have h1:=h.lenO
  have h2:=h.lenN
  obtain ⟨p,cap,rfl⟩ : ∃ p cap,vL=.slice p s.O.length cap:=by
    rcases hl with ⟨rfl,h0⟩ | ⟨g,cap,cur,hv,_⟩
    · exact ⟨none,0,by rw [h0]⟩
    · exact ⟨_,_,hv⟩
  generalize s.O.length=n at *
  clear hl h
  go_enter Tryz.func73,Tryz.ntmps73
  go_wp2
  go_ret
  exact ⟨rfl,rfl⟩
end
section
open Go.RowKit
open Tk (T4 bstr)
open Tr (Nd Blk KidsAt)

/-- a function value that does what f does, in w0 and in each world behind it -/
def StepV (B T E:Nat) (w0:World) (v:Value) (f:F3):Prop :=
  ∃ id bound caps,v=.func (.func id) bound caps∧(∀ args w,(callFunc id args).run Tryz.prog w=.ok (.enter id args) w)∧∀ w s,Ext B w0 w→Ps B T E w s→f s≠.out→Calls Tryz.prog id (bound ++ caps) w (Did B T E w (f s))
theorem StepV.ext {B T E:Nat}{w0 w1:World}{v:Value}{f:F3}(h:StepV B T E w0 v f) (hx:Ext B w0 w1):StepV B T E w1 v f:=by
  obtain ⟨id,bound,caps,hv,he,h⟩:=h
  exact ⟨id,bound,caps,hv,he,fun w s h1 h2 h3=>h w s (hx.trans h1) h2 h3⟩
/-- steps in a row of cells -/
def Steps (B T E:Nat) (w:World) (p:Option Addr) (vs:List Value) (fs:List F3):Prop :=
  vs.length=fs.length∧vs.length≤1000∧(0<vs.length→∃ g,p=some ⟨g,0,none⟩∧g<w.heap.size∧¬ Own B w g∧∀ j,(h:j<vs.length)→w.cell? ⟨g,j,none⟩=some vs[j]) ∧
  ∀ j,(h1:j<vs.length)→(h2:j<fs.length)→StepV B T E w vs[j] fs[j]

/-- the run so far, and the end that it has from here on -/
def Mid (fs:List F3) (r:R3) (k:Nat) (s1:S3):Prop:=k≤fs.length∧r=seqF (fs.drop k) s1
theorem Mid.step {fs:List F3}{r:R3}{k:Nat}{s1:S3}(h:Mid fs r k s1) (hk:k<fs.length):r=(fs[k] s1).bind (seqF (fs.drop (k+1))):=by
  rw [h.2,List.drop_eq_getElem_cons hk];rfl

set_option maxHeartbeats 4000000 in
set_option maxRecDepth 100000 in
theorem inTurn_any {B T E:Nat}{w:World}{s:S3}{p:Option Addr}{cap:Nat}{vs:List Value}{fs:List F3}(h:Ps B T E w s) (hS:Steps B T E w p vs fs) (hr:seqF fs s≠.out) :
    Calls Tryz.prog 35 #[.slice p vs.length cap] w (Did B T E w (seqF fs s)):=by
  obtain ⟨r,hrr⟩ : ∃ r,r=seqF fs s:=⟨_,rfl⟩
  rw [← hrr] at hr ⊢
  have HR0:=Lib.hid hr
  obtain ⟨Q,hQ⟩ : ∃ Q:Ending→World→Prop,Q=Did B T E w r:=⟨_,rfl⟩
  rw [← hQ]
  have HQ:=Lib.hid hQ
  clear hQ hr
  obtain ⟨hl,hm,hc,hv⟩:=hS
  obtain ⟨n,hn⟩ : ∃ n,n=vs.length:=⟨_,rfl⟩
  have H:=Lib.hid h
  have Hl:=Lib.hid hl
  have HC:=Lib.hid hc
  have HV:=Lib.hid hv
  have HM0:Hid (Mid fs r 0 s):=⟨Nat.zero_le _,by rw [hrr];rfl⟩
  rw [← hn] at hm ⊢
  have Hn:=Lib.hid hn
  clear h hl hc hv hrr hn
  go_enter Tryz.func35,Tryz.ntmps35
  go_wp2
  go_loopw [8] (fun v wr=>∃ (k:Nat) (s1:S3),k≤n∧v=.int .i64 k∧Hid (Mid fs r k s1)∧Ext B w wr∧Ps B T E wr s1) (fun v _=>n-(intOf v).toNat)
  case atStart=>exact ⟨0,s,Nat.zero_le _,rfl,HM0,Ext.refl _ _,H.out⟩
  case round =>
    obtain ⟨k,s1,hk,rfl,HM,hx,hp⟩:=hrel
    have HX:=Lib.hid hx
    have HP:=Lib.hid hp
    clear hx hp
    by_cases hlt:k<n
    · have hkv:k<vs.length:=by have:=Hn.out;omega
      have hkf:k<fs.length:=by have:=Hn.out;have:=Hl.out;omega
      obtain ⟨g,rfl,hg1,hg2,hg3⟩:=HC.out (by omega)
      have c0:wr.cell? ⟨g,k,none⟩=some vs[k]:=(HX.out.cell (p:=⟨g,k,none⟩) hg1 hg2).trans (hg3 k hkv)
      obtain ⟨id,bound,caps,hvk,hent,hst⟩:=HV.out k hkv hkf
      rw [hvk] at c0
      have hstep:=HM.out.step hkf
      have hne:fs[k] s1≠.out:=fun e=>HR0.out (by rw [hstep,e];rfl)
      have hcall:=hst wr s1 HX.out HP.out hne
      have HSt:=Lib.hid hstep
      clear hst hvk hstep hne hg3 hg1 hg2
      go_wp2_with (refine hcall.mono ?_)
      intro e w2 hd
      cases hf:fs[k] s1 with
      | out=>rw [hf] at hd;exact absurd (by rw [HSt.out,hf];rfl) HR0.out
      | bad c a =>
        rw [hf] at hd
        obtain ⟨rfl,hx2⟩:=hd
        have HX2:=Lib.hid (HX.out.trans hx2)
        have HRb:Hid (r=.bad c a):=by have h:=HSt.out;rw [hf] at h;exact h
        clear hcall hent hf hx2 c0
        unfold errV
        go_wp2
        rw [HQ.out,HRb.out]
        exact ⟨rfl,HX2.out⟩
      | ok s2 =>
        rw [hf] at hd
        obtain ⟨rfl,hx2,hp2⟩:=hd
        have HX2:=Lib.hid (HX.out.trans hx2)
        have HP2:=Lib.hid hp2
        have HM2:Hid (Mid fs r (k+1) s2):=⟨by omega,by have h:=HSt.out;rw [hf] at h;exact h⟩
        clear hcall hent hf hx2 hp2 c0
        go_wp2
        go_roundw
        case rel=>exact ⟨k+1,s2,by omega,by go_num,HM2,HX2.out,HP2.out⟩
        case measure=>simp [intOf];omega
    · have hkn:k=n:=by omega
      have HRk:Hid (r=.ok s1):=by
        have h:=HM.out.2
        rw [List.drop_eq_nil_of_le (by have:=Hn.out;have:=Hl.out;omega)] at h
        exact h
      clear HC HV
      go_wp2
      rw [HQ.out,HRk.out]
      exact ⟨rfl,HX.out,HP.out⟩
end
end Go.Proofs.YtdjpopebeenlmaaGreatDoor
