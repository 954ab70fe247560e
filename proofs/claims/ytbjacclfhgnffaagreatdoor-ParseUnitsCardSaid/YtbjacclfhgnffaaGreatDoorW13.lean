/-
  Joined texts of this claim: Qb, Vb, Vd, Ga, Qc, Gb, Qd, Gc, Qe, Qm.
-/
import Derived.Test.YtbjacclfhgnffaaGreatDoorW00
import Derived.Test.YtbjacclfhgnffaaGreatDoorW07
import Derived.Test.YtbjacclfhgnffaaGreatDoorW12
import Derived.Laws.OwnMore
import Derived.Laws.AppendOwn
import Derived.Laws.Rows
import Derived.Test.YtbjacclfhgnffaaGreatDoorW09
import Derived.Test.YtbjacclfhgnffaaGreatDoorW02
import Derived.StillTailTactics
import Derived.Outline
import Derived.Test.YtbjacclfhgnffaaGreatDoorW08
import Derived.Deep.LoopGhost
set_option maxHeartbeats 40000000
set_option maxRecDepth 100000
set_option linter.unusedVariables false
set_option linter.unusedSimpArgs false
namespace Go.Proofs.YtbjacclfhgnffaaGreatDoor
section
open Go.RowKit
open Tk (T4 bstr)
open Tr (Nd Blk KidsAt)
def Own (B:Nat) (w:World) (g:Nat):Prop :=
 g=B∨(∃ v,w.cell? ⟨B,2,none⟩=some v∧v.ownBlock=some g)∨(∃ v,w.cell? ⟨B,3,none⟩=some v∧v.ownBlock=some g)
structure Ext (B:Nat) (w w':World):Prop where
 os:w'.os=w.os
 tape:w'.tape=w.tape
 output:w'.output=w.output
 size:w.heap.size≤w'.heap.size
 block:∀ g,g<w.heap.size→¬ Own B w g→w'.heap[g]? = w.heap[g]?
 own:∀ g,Own B w' g→Own B w g∨w.heap.size≤g
theorem Ext.refl (B:Nat) (w:World):Ext B w w:=⟨rfl,rfl,rfl,Nat.le_refl _,fun _ _ _=>rfl,fun _ h=>Or.inl h⟩
theorem Ext.trans {B:Nat}{a b c:World}(h:Ext B a b) (k:Ext B b c):Ext B a c :=
 ⟨k.os.trans h.os,k.tape.trans h.tape,k.output.trans h.output,Nat.le_trans h.size k.size,
  fun g hg hn=>(k.block g (Nat.lt_of_lt_of_le hg h.size) (fun ho=>(h.own g ho).elim hn (fun hle=>absurd hg (Nat.not_lt.2 hle)))).trans (h.block g hg hn),
  fun g ho=>(k.own g ho).elim (fun h1=>h.own g h1) (fun h1=>Or.inr (Nat.le_trans h.size h1))⟩
theorem own_same {B:Nat}{w w':World}(h:w'.heap[B]? = w.heap[B]?) (g:Nat):Own B w' g ↔ Own B w g:=by
 have e2:w'.cell? ⟨B,2,none⟩=w.cell? ⟨B,2,none⟩:=World.cell?_of_block (a:=⟨B,2,none⟩) h
 have e3:w'.cell? ⟨B,3,none⟩=w.cell? ⟨B,3,none⟩:=World.cell?_of_block (a:=⟨B,3,none⟩) h
 unfold Own;rw [e2,e3]
theorem Ext.below {B:Nat}{w w':World}(hb:Below w.heap.size w w') (hB:B<w.heap.size):Ext B w w' :=
 ⟨hb.os,hb.tape,hb.output,hb.size,fun g hg _=>hb.block g hg,fun g ho=>Or.inl ((own_same (hb.block B hB) g).1 ho)⟩
theorem Ext.alloc {B:Nat}{w w':World}(h:Ext B w w') (hB:B<w.heap.size) (o:Obj):Ext B w (w'.alloc o) :=
 h.trans (Ext.below ((Below.refl _ _).alloc (Nat.le_refl _) _) (Nat.lt_of_lt_of_le hB h.size))
theorem Ext.drew {B:Nat}{w w':World}(h:Ext B w w'):Ext B w w'.drew:=⟨h.os,h.tape,h.output,h.size,h.block,h.own⟩
theorem Ext.cell {B:Nat}{w w':World}(h:Ext B w w') {p:Addr}(hp:p.block<w.heap.size) (hn:¬ Own B w p.block):w'.cell? p=w.cell? p:=World.cell?_of_block (a:=p) (h.block p.block hp hn)
def TokAt (w:World) (b o:Nat) (L:List T4):Prop:=∀ j,(h:j<L.length) →
 w.cell? ⟨b,o+j * 4,none⟩=some (.int .i64 L[j].k)∧w.cell? ⟨b,o+j * 4+1,none⟩=some (.string (bstr L[j].t))∧w.cell? ⟨b,o+j * 4+2,none⟩=some (.int .i64 L[j].v)∧w.cell? ⟨b,o+j * 4+3,none⟩=some (.int .i64 L[j].a)
def Toks (B:Nat) (w:World) (v:Value) (L:List T4):Prop :=
 ∃ p cap,v=.slice p L.length cap∧L.length≤cap∧cap≤9223372036854775807∧(0<cap→∃ b o,p=some ⟨b,o,none⟩∧b<w.heap.size∧¬ Own B w b∧TokAt w b o L)
def bare (x:Nd):Mn:=⟨x.k,x.t.data.toList,x.n,x.z,x.c,x.a⟩
def cells6 (x:Nd):List Value:=[.int .i64 x.k,.string x.t,.int .i64 x.n,.int .i64 x.z,.slice x.p x.c.length x.cap,.int .i64 x.a]
def rowN (l:List Nd):List Value:=l.flatMap cells6
def KidF (B:Nat) (w:World) (p:Option Addr) (c:List Int):Prop :=
 0<c.length→∃ b,B<b∧p=some ⟨b,0,none⟩∧b<w.heap.size∧¬ Own B w b∧∀ j,(h:j<c.length)→w.cell? ⟨b,j,none⟩=some (.int .i64 c[j])
def intV (l:List Int):List Value:=l.map (Value.int .i64)
structure PS (B T E:Nat) (w:World) (s:S3) (vT vN vL:Value) (ns:List Nd):Prop where
 box:Blk w B T #[vT,.int .i64 E,vN,vL]
 tok:Toks B w vT s.L
 nod:w.ownsRow (B+1) 36 6 vN ns.length (rowN ns)
 kid:∀ i,(h:i<ns.length)→KidF B w ns[i].p ns[i].c
 loo:w.ownsRow (B+1) 3 1 vL s.O.length (intV s.O)
 sep:∀ g,vN.ownBlock=some g→vL.ownBlock≠some g
 eqN:ns.map bare=s.N
 lenO:s.O.length≤s.N.length
 lenN:s.N.length≤5000000
 lenL:s.L.length≤5000000
 kl:∀ x,x ∈ s.N→x.c.length≤5000000
def Ps (B T E:Nat) (w:World) (s:S3):Prop:=∃ vT vN vL ns,PS B T E w s vT vN vL ns
theorem PS.lt {B T E:Nat}{w:World}{s:S3}{vT vN vL:Value}{ns:List Nd}(h:PS B T E w s vT vN vL ns):B<w.heap.size:=h.box.lt
theorem Ps.lt {B T E:Nat}{w:World}{s:S3}(h:Ps B T E w s):B<w.heap.size:=by obtain ⟨_,_,_,_,h⟩:=h;exact h.lt
theorem TokAt.same {w w':World}{b o:Nat}{L:List T4}(h:TokAt w b o L) (hb:w'.heap[b]? = w.heap[b]?):TokAt w' b o L:=fun j hj=>by
 obtain ⟨h0,h1,h2,h3⟩:=h j hj
 exact ⟨(World.cell?_of_block (a:=⟨b,o+j * 4,none⟩) hb).trans h0,(World.cell?_of_block (a:=⟨b,o+j * 4+1,none⟩) hb).trans h1,(World.cell?_of_block (a:=⟨b,o+j * 4+2,none⟩) hb).trans h2,(World.cell?_of_block (a:=⟨b,o+j * 4+3,none⟩) hb).trans h3⟩
theorem PS.own_cases {B T E:Nat}{w:World}{s:S3}{vT vN vL:Value}{ns:List Nd}(h:PS B T E w s vT vN vL ns) (g:Nat):Own B w g ↔ (g=B∨vN.ownBlock=some g∨vL.ownBlock=some g):=by
 have e2:w.cell? ⟨B,2,none⟩=some vN:=by rw [h.box.cell];rfl
 have e3:w.cell? ⟨B,3,none⟩=some vL:=by rw [h.box.cell];rfl
 unfold Own;rw [e2,e3];simp
theorem PS.below {B T E:Nat}{w w':World}{s:S3}{vT vN vL:Value}{ns:List Nd}(h:PS B T E w s vT vN vL ns) (hb:Below w.heap.size w w'):PS B T E w' s vT vN vL ns:=by
 have hB:=h.lt
 have hO:=own_same (hb.block B hB)
 have hg:w.grownBy w' none:=⟨hb.os,hb.tape,hb.output,hb.size,fun k hk _=>hb.block k hk⟩
 refine { box:=(hb.block B hB).trans h.box,tok:=?_,nod:=h.nod.kept hg (by cases vN.ownBlock <;> simp),kid:=?_,loo:=h.loo.kept hg (by cases vL.ownBlock <;> simp),sep:=h.sep,eqN:=h.eqN,lenO:=h.lenO,lenN:=h.lenN,lenL:=h.lenL,kl:=h.kl }
 ·obtain ⟨p,cap,hv,h1,h2,h3⟩:=h.tok
  refine ⟨p,cap,hv,h1,h2,fun hc=>?_⟩
  obtain ⟨b,o,hp,hl,hn,ht⟩:=h3 hc
  exact ⟨b,o,hp,Nat.lt_of_lt_of_le hl hb.size,fun h=>hn ((hO b).1 h),ht.same (hb.block b hl)⟩
 ·intro i hi h0
  obtain ⟨b,hb0,hp,hl,hn,hc⟩:=h.kid i hi h0
  exact ⟨b,hb0,hp,Nat.lt_of_lt_of_le hl hb.size,fun h=>hn ((hO b).1 h),fun j hj=>(hb.cell (p:=⟨b,j,none⟩) hl).trans (hc j hj)⟩
theorem Ps.below {B T E:Nat}{w w':World}{s:S3}(h:Ps B T E w s) (hb:Below w.heap.size w w'):Ps B T E w' s:=by
 obtain ⟨a,b,c,d,h⟩:=h;exact ⟨a,b,c,d,h.below hb⟩
theorem Ps.drew {B T E:Nat}{w:World}{s:S3}(h:Ps B T E w s):Ps B T E w.drew s:=h.below (Below.refl _ _).drew
theorem Ps.alloc {B T E:Nat}{w:World}{s:S3}(h:Ps B T E w s) (o:Obj):Ps B T E (w.alloc o) s:=h.below ((Below.refl _ _).alloc (Nat.le_refl _) _)
def errV (c a:Int):Value:=.iface 86 (.agg #[.int .i64 c,.int .i64 a])
def Did (B T E:Nat) (w:World):R3→Ending→World→Prop
 | .ok s,e,w'=>e=.returned .nilIface∧Ext B w w'∧Ps B T E w' s
 | .bad c a,e,w'=>e=.returned (errV c a)∧Ext B w w'
 | .out,_,_=>True
end
section
open Go.RowKit
open Tk (T4 SR Scans skp fstT bstr rowOf)
open Tr (Nd Blk KidsAt)

theorem skp_pos {l : List UInt8} {n : Nat} (h : skp l = .skip n) : 1 ≤ n ∧ n ≤ l.length := by
  cases l with
  | nil => simp [skp] at h
  | cons c l =>
    have hb := Tk.cmtT_bd (c :: l)
    simp only [skp] at h
    split at h
    · cases h; exact ⟨Nat.le_refl _, by simp⟩
    · split at h
      · cases h
      · split at h
        · cases h
        · cases h
          rename_i h0
          exact ⟨by omega, by omega⟩
theorem scans_total : ∀ (m : Nat) (p : Nat) (l : List UInt8) (acc : List T4), l.length ≤ m → acc.length ≤ 800 → ∃ R, Scans p l acc R := by
  intro m
  induction m with
  | zero =>
    intro p l acc hm _
    obtain rfl : l = [] := List.eq_nil_of_length_eq_zero (by omega)
    exact ⟨_, .done _ _⟩
  | succ m ih =>
    intro p l acc hm ha
    cases hl : skp l with
    | skip n =>
      obtain ⟨h1, h2⟩ := skp_pos hl
      obtain ⟨R, hR⟩ := ih (p + n) (l.drop n) acc (by simp; omega) ha
      exact ⟨R, .skip hl hR⟩
    | opens => exact ⟨_, .opens hl⟩
    | word =>
      by_cases hn : l = []
      · subst hn; exact ⟨_, .done _ _⟩
      · by_cases h8 : acc.length = 800
        · exact ⟨_, .much hl hn h8⟩
        · cases hf : fstT l with
          | bad c => exact ⟨_, .bad hl hn h8 hf⟩
          | tok k n v =>
            obtain ⟨h1, h2⟩ := Tk.fstT_tok hf
            obtain ⟨R, hR⟩ := ih (p + n) (l.drop n) (acc ++ [⟨k, l.take n, v, p⟩]) (by simp; omega) (by simp; omega)
            exact ⟨R, .tok hl hn h8 hf hR⟩
def FewR : SR → Prop
  | .ok L => L.length ≤ 800
  | .bad c _ => c ≠ 0
theorem scans_few {p : Nat} {l : List UInt8} {acc : List T4} {R : SR} (h : Scans p l acc R) (ha : acc.length ≤ 800) : FewR R := by
  induction h with
  | done p acc => exact ha
  | skip h k ih => exact ih ha
  | opens h => exact (by decide : (1 : Nat) ≠ 0)
  | much h hn hm => exact (by decide : (10 : Nat) ≠ 0)
  | bad h hn hm hf => exact Tk.fstT_bad hf
  | tok h hn hm hf k' ih => exact ih (by simp; omega)
/-- the words of a text, or what is wrong with it -/
def TokR (l : List UInt8) (R : SR) : Prop := (2000 < l.length ∧ R = .bad 2 0) ∨ (l.length ≤ 2000 ∧ Scans 0 l [] R)
theorem TokR.total (l : List UInt8) : ∃ R, TokR l R := by
  by_cases h : 2000 < l.length
  · exact ⟨_, Or.inl ⟨h, rfl⟩⟩
  · obtain ⟨R, hR⟩ := scans_total _ 0 l [] (Nat.le_refl _) (by simp)
    exact ⟨R, Or.inr ⟨by omega, hR⟩⟩
def FewT (n : Nat) : SR → Prop
  | .ok L => L.length ≤ 800 ∧ n ≤ 2000
  | .bad c _ => c ≠ 0
theorem TokR.few {l : List UInt8} {R : SR} (h : TokR l R) : FewT l.length R := by
  rcases h with ⟨h, rfl⟩ | ⟨h, hs⟩
  · exact (by decide : (2 : Nat) ≠ 0)
  · have := scans_few hs (by simp)
    cases R with
    | ok L => exact ⟨this, h⟩
    | bad c a => exact this
theorem TokR.det {l : List UInt8} {R R' : SR} (h : TokR l R) (h' : TokR l R') : R = R' := by
  rcases h with ⟨h, rfl⟩ | ⟨h, hs⟩ <;> rcases h' with ⟨h', rfl⟩ | ⟨h', hs'⟩
  · rfl
  · omega
  · omega
  · exact hs.det hs'
/-- what Scan gives -/
def ScR (R : SR) (w : World) (e : Ending) (w' : World) : Prop :=
  Below w.heap.size w w' ∧ ∃ v, match R with
    | .ok L => e = .returned (.tuple #[v, .agg #[.int .i64 0, .int .i64 0]]) ∧ w'.ownsRow w.heap.size 82 4 v L.length (rowOf L)
    | .bad c a => e = .returned (.tuple #[v, .agg #[.int .i64 (c : Nat), .int .i64 (a : Nat)]]) ∧ v = .slice none 0 0
theorem scan_R {s : ByteArray} {R : SR} (hR : TokR s.data.toList R) {w : World} (hs : s.size ≤ 140737488355328) (hsh : w.ShapedOpen Tryz.prog) {te : TypeId} {pe : Value} (hv : w.cell? ⟨4, 0, none⟩ = some (.iface te pe)) :
    Calls Tryz.prog 56 #[.string s] w (ScR R w) := (Tk.scan_any s w hs hsh te pe hv).mono fun e w' ⟨hb, v, c, a, he, h⟩ => by
  refine ⟨hb, v, ?_⟩
  rcases h with ⟨h, rfl, rfl, rfl⟩ | ⟨h, R', hS, ho⟩
  · obtain rfl : R = .bad 2 0 := hR.det (Or.inl ⟨h, rfl⟩)
    exact ⟨he, rfl⟩
  · obtain rfl : R = R' := hR.det (Or.inr ⟨h, hS⟩)
    cases R with
    | ok L => obtain ⟨rfl, rfl, ho⟩ := ho; exact ⟨he, ho⟩
    | bad c' a' => obtain ⟨rfl, rfl, ho⟩ := ho; exact ⟨he, ho⟩
theorem rowOf_at (L : List T4) : ∀ j, (h : j < L.length) → ∀ i, i < 4 → (rowOf L)[j * 4 + i]? = (Tk.cells4 L[j])[i]? := by
  induction L with
  | nil => intro j h; simp at h
  | cons x L ih =>
    intro j h i hi
    have e : rowOf (x :: L) = Tk.cells4 x ++ rowOf L := by simp [rowOf]
    rw [e]
    cases j with
    | zero =>
      rw [List.getElem?_append_left (by simp [Tk.cells4]; omega)]
      simp
    | succ j =>
      rw [List.getElem?_append_right (by simp [Tk.cells4]; omega)]
      have := ih j (by simpa using h) i hi
      simp only [List.getElem_cons_succ]
      rw [← this]
      congr 1
      simp [Tk.cells4]; omega
/-- the words' row, as the parser has it -/
theorem toks_row {B b : Nat} {w : World} {v : Value} {L : List T4} (h : w.ownsRow b 82 4 v L.length (rowOf L)) (hb : ∀ g, b ≤ g → ¬ Own B w g) : Toks B w v L := by
  obtain ⟨h0, h1⟩ := h
  have hc := fun g hg => World.ownsRow.cells (w := w) (base := b) (e := 82) (size := 4) (v := v) (n := L.length) (xs := rowOf L) ⟨h0, h1⟩ (g := g) hg
  rcases h1 with ⟨rfl, h2⟩ | ⟨g, cap, cur, rfl, hg, hh, hn, hm, _, _⟩
  · exact ⟨none, 0, by rw [h2], by omega, by omega, fun h => absurd h (by omega)⟩
  · unfold maxLen at hm
    by_cases hcap : 0 < cap
    all_goals
      refine ⟨_, cap, rfl, hn, ?_, fun h0 => ?_⟩
      · first | omega | exact Nat.le_trans hm (by omega)
      · first
        | omega
        | (refine ⟨g, 0, rfl, lt_of_block hh, hb g hg, fun j hj => ?_⟩
           have e : ∀ i, i < 4 → ∀ u, (Tk.cells4 L[j])[i]? = some u → w.cell? ⟨g, j * 4 + i, none⟩ = some u := fun i hi u hu => by
             have := hc g rfl (j * 4 + i) u ((rowOf_at L j hj i hi).trans hu)
             have ea : ((⟨g, 0, none⟩ : Addr).add (j * 4 + i)) = ⟨g, j * 4 + i, none⟩ := by unfold Addr.add; split <;> simp_all
             rwa [ea] at this
           simp only [Nat.zero_add]
           exact ⟨e 0 (by omega) _ rfl, e 1 (by omega) _ rfl, e 2 (by omega) _ rfl, e 3 (by omega) _ rfl⟩)
end
section
open Go.RowKit
open Tk (T4 bstr)
open Tr
section
variable {f:Nd→Nd}(hk:∀ x,(f x).k=x.k) (hc:∀ x,(f x).c=x.c) (hf:∀ x,fieldC (f x)=fieldC x)
include hk in
theorem kindAt_map (l:List Nd):kindAt (l.map f)=kindAt l:=by
 funext j;unfold kindAt;rw [List.getElem?_map];cases l[j]? <;> simp [hk]
include hc in
theorem kidsAt_map (l:List Nd):kidsAt (l.map f)=kidsAt l:=by
 funext j;unfold kidsAt;rw [List.getElem?_map];cases l[j]? <;> simp [hc]
include hk hc in
theorem firsts_map (l:List Nd):∀ n,firsts (l.map f) n=firsts l n
 | 0=>rfl
 | n+1=>by simp only [firsts,firsts_map l n,kindAt_map hk,kidsAt_map hc]
include hc in
theorem deeps_map (l:List Nd):∀ n,deeps (l.map f) n=deeps l n
 | 0=>rfl
 | n+1=>by simp only [deeps,deeps_map l n,kidsAt_map hc]
include hk hc in
theorem St_map (l:List Nd):St (l.map f)=St l:=by funext j;unfold St;rw [firsts_map hk hc]
include hc in
theorem Dp_map (l:List Nd):Dp (l.map f)=Dp l:=by funext j;unfold Dp;rw [deeps_map hc]
include hk hc in
theorem wayOf_map (l:List Nd):wayOf (l.map f)=wayOf l:=by funext j;unfold wayOf;rw [St_map hk hc,kindAt_map hk,kidsAt_map hc]
include hk hc hf in
theorem codeAt_map (l:List Nd):codeAt (l.map f)=codeAt l:=by
 funext j;unfold codeAt;rw [List.getElem?_map]
 cases l[j]? with
 | none=>rfl
 | some x=>simp only [Option.map_some,Option.getD_some,nodeC,hk,hc,hf,wayOf_map hk hc]
include hk hc hf in
theorem CkR_map (l:List Nd) (c a:Int):CkR (l.map f) c a ↔ CkR l c a:=by
 unfold CkR;rw [List.length_map,codeAt_map hk hc hf,St_map hk hc,Dp_map hc]
end
def ndOf (x:Mn):Nd:=⟨x.k,bstr x.t,x.n,x.z,none,0,x.c,x.a⟩
theorem bstr_data (x:ByteArray):bstr x.data.toList=x:=by
 obtain ⟨⟨l⟩⟩:=x;rfl
theorem nd_bare (x:Nd):ndOf (bare x)={ x with p:=none,cap:=0 }:=by
 obtain ⟨k,t,n,z,p,cap,c,a⟩:=x
 simp only [ndOf,bare,bstr_data]
def CkN (N:List Mn) (c a:Int):Prop:=CkR (N.map ndOf) c a
theorem CkR_bare (l:List Nd) (c a:Int):CkR l c a ↔ CkN (l.map bare) c a:=by
 unfold CkN
 rw [List.map_map]
 refine (CkR_map (f:=ndOf ∘ bare) (fun x=>?_) (fun x=>?_) (fun x=>?_) l c a).symm
 ·show (ndOf (bare x)).k=_;rw [nd_bare]
 ·show (ndOf (bare x)).c=_;rw [nd_bare]
 ·show fieldC (ndOf (bare x))=_;rw [nd_bare];rfl
theorem CkN.det {N:List Mn}{c a c' a':Int}(h:CkN N c a) (h':CkN N c' a'):c=c'∧a=a':=CkR.det h h'
noncomputable def fitsF:F3:=fun s=>open Classical in if CkN s.N 0 0 then .ok s else .bad 10 0
theorem fits_yes {s:S3}(h:CkN s.N 0 0):fitsF s=.ok s:=by unfold fitsF;exact if_pos h
theorem fits_no {s:S3}(h:¬ CkN s.N 0 0):fitsF s=.bad 10 0:=by unfold fitsF;exact if_neg h
end
section
open Go.RowKit
open Tk (T4 bstr)
open Tr
theorem kindAt_app {l r:List Nd}{j:Nat}(h:j<l.length):kindAt (l ++ r) j=kindAt l j:=by
 unfold kindAt;rw [List.getElem?_append_left h]
theorem kidsAt_app {l r:List Nd}{j:Nat}(h:j<l.length):kidsAt (l ++ r) j=kidsAt l j:=by
 unfold kidsAt;rw [List.getElem?_append_left h]
theorem walkK_cong {S S':Nat→Nat}{kd kd':Nat→Int}{k:Int}{c:List Int}{K:Nat}(hS:∀ j,S j≤j) (hE:∀ j,j<K→S' j=S j) (hD:∀ j,j<K→kd' j=kd j) :
  ∀ (i at_:Nat),at_≤K→walkK S' kd' k c i at_=walkK S kd k c i at_
 | 0,_,_=>rfl
 | i+1,at_,h=>by
  unfold walkK
  by_cases h0:at_=0
  ·rw [if_pos (Or.inl h0),if_pos (Or.inl h0)]
  ·rw [hD (at_-1) (by omega),hE (at_-1) (by omega)]
   split
   ·rfl
   ·exact walkK_cong hS hE hD i _ (by have:=hS (at_-1);omega)
theorem firsts_app (l r:List Nd):∀ n,n≤l.length→firsts (l ++ r) n=firsts l n
 | 0,_=>rfl
 | n+1,h=>by
  have hn:n<l.length:=by omega
  simp only [firsts,firsts_app l r n (by omega),kindAt_app (r:=r) hn,kidsAt_app (r:=r) hn]
  rw [walkK_cong (K:=n) (fun j=>St_le_aux l n j) (fun j _=>rfl) (fun j hj=>kindAt_app (r:=r) (by omega)) _ _ (Nat.le_refl _)]
theorem St_app {l r:List Nd}{j:Nat}(h:j<l.length):St (l ++ r) j=St l j:=by
 unfold St;rw [firsts_app l r _ (by omega)]
theorem wayOf_app {l r:List Nd}{j:Nat}(h:j<l.length):wayOf (l ++ r) j=wayOf l j:=by
 unfold wayOf
 rw [kindAt_app h,kidsAt_app h]
 exact walkK_cong (K:=j) (St_le l) (fun i hi=>St_app (by omega)) (fun i hi=>kindAt_app (by omega)) _ _ (Nat.le_refl _)
theorem codeAt_app {l r:List Nd}{j:Nat}(h:j<l.length):codeAt (l ++ r) j=codeAt l j:=by
 unfold codeAt
 rw [List.getElem?_append_left h,List.getElem?_eq_getElem h]
 simp only [Option.map_some,Option.getD_some,nodeC,wayOf_app (r:=r) h]
inductive Fo (S:Nat→Nat) (b:Nat):List Nat→Nat→Prop
 | nil:Fo S b [] b
 | snoc {os:List Nat} {e o:Nat} (h:Fo S b os e) (hs:S o=e):Fo S b (os ++ [o]) (o+1)
theorem Fo.cong {S S':Nat→Nat}{b e:Nat}{os:List Nat}(h:Fo S b os e) (hE:∀ j,j ∈ os→S' j=S j):Fo S' b os e:=by
 induction h with
 | nil=>exact .nil
 | snoc h hs ih=>exact .snoc (ih fun j hj=>hE j (by simp [hj])) (by rw [hE _ (by simp)];exact hs)
theorem Fo.last {S:Nat→Nat}{b e:Nat}{os:List Nat}(h:Fo S b os e):os=[]∧e=b∨∃ os' o,os=os' ++ [o]∧e=o+1∧Fo S b os' (S o):=by
 cases h with
 | nil=>exact Or.inl ⟨rfl,rfl⟩
 | snoc h hs=>exact Or.inr ⟨_,_,rfl,rfl,by rw [hs];exact h⟩
theorem Fo.split {S:Nat→Nat}{b e:Nat}{zs:List Nat}(h:Fo S b zs e):∀ xs ys,zs=xs ++ ys→∃ m,Fo S b xs m∧Fo S m ys e:=by
 induction h with
 | nil =>
  intro xs ys hz
  obtain ⟨rfl,rfl⟩:=List.append_eq_nil_iff.1 hz.symm
  exact ⟨b,.nil,.nil⟩
 | @snoc os e o h hs ih =>
  intro xs ys hz
  rcases List.eq_nil_or_concat ys with rfl | ⟨ys',y,rfl⟩
  ·rw [List.append_nil] at hz
   subst hz
   exact ⟨_,.snoc h hs,.nil⟩
  ·rw [List.concat_eq_append,← List.append_assoc] at hz
   obtain ⟨h1,h2⟩:=List.append_inj' hz rfl
   cases h2
   obtain ⟨m,ha,hb⟩:=ih xs ys' h1
   refine ⟨m,ha,?_⟩
   rw [List.concat_eq_append]
   exact .snoc hb hs
theorem Fo.lt {S:Nat→Nat}(hS:∀ j,S j≤j) {b e:Nat}{os:List Nat}(h:Fo S b os e):b≤e∧∀ j,j ∈ os→j<e:=by
 induction h with
 | nil=>exact ⟨Nat.le_refl _,fun j hj=>by cases hj⟩
 | @snoc os e o h hs ih =>
  have:=hS o
  refine ⟨by omega,fun j hj=>?_⟩
  rcases List.mem_append.1 hj with hj | hj
  ·have:=ih.2 j hj;omega
  ·rw [List.mem_singleton] at hj;omega
def castL (os:List Nat):List Int:=os.map Int.ofNat
theorem castL_length (os:List Nat):(castL os).length=os.length:=List.length_map ..
theorem castL_snoc (os:List Nat) (o:Nat):castL (os ++ [o])=castL os ++ [(o:Int)]:=by unfold castL;rw [List.map_append];rfl
theorem Fo.walk {S:Nat→Nat}{kd:Nat→Int}{k:Int}{b e:Nat}{os:List Nat}(h:Fo S b os e):∀ (c:List Int) (rest:List Int),c=castL os ++ rest →
  (∀ i,(hi:i<os.length)→goB k i c.length (kd os[i])=true)→walkK S kd k c os.length e=some b:=by
 induction h with
 | nil=>intro c rest _ _;rfl
 | @snoc os e o h hs ih =>
  intro c rest hc hg
  have hlen:(os ++ [o]).length=os.length+1:=by simp
  rw [hlen]
  unfold walkK
  have h1:c.getD os.length 0=(o:Int):=by
   rw [hc,castL_snoc,List.append_assoc,List.getD_eq_getElem?_getD,List.getElem?_append_right (by rw [castL_length];exact Nat.le_refl _),castL_length]
   simp
  have h2:=hg os.length (by simp)
  rw [List.getElem_append_right (by simp)] at h2
  simp only [Nat.sub_self,List.getElem_cons_zero] at h2
  have h3:o+1-1=o:=by omega
  rw [h3,h1,h2]
  rw [if_neg (by intro h;rcases h with h | h | h;omega;exact absurd (by omega) h;cases h),hs]
  refine ih c ((o:Int) :: rest) (by rw [hc,castL_snoc];simp) (fun i hi=>?_)
  have:=hg i (by simp;omega)
  rwa [List.getElem_append_left hi] at this
structure GSt (l:List Nd) (os:List Nat):Prop where
 fo:Fo (St l) 0 os l.length
 good:∀ j,j<l.length→codeAt l j=0
structure OkN (k:Int) (t:ByteArray) (n z a:Int) (ks:List Int):Prop where
 kind:kindB k=true
 low:lowV k≤ks.length
 high:(ks.length:Int)≤highV 9223372036854775807 k
 go:∀ i,(h:i<ks.length)→goB k i ks.length ks[i]=true
 field:fieldV k t n z ks.length a=0
theorem GSt.add {l:List Nd}{os1 os2:List Nat}(h:GSt l (os1 ++ os2)) {x:Nd}(hc:x.c=castL os2) (hx:OkN x.k x.t x.n x.z x.a (os2.map (kindAt l))):GSt (l ++ [x]) (os1 ++ [l.length]):=by
 obtain ⟨m,hf1,hf2⟩:=h.fo.split os1 os2 rfl
 have hlt:=h.fo.lt (St_le l)
 have hS:∀ j,j<l.length→St (l ++ [x]) j=St l j:=fun j hj=>St_app hj
 have hf1':Fo (St (l ++ [x])) 0 os1 m:=hf1.cong fun j hj=>hS j (hlt.2 j (by simp [hj]))
 have hf2':Fo (St (l ++ [x])) m os2 l.length:=hf2.cong fun j hj=>hS j (hlt.2 j (by simp [hj]))
 have hkx:kindAt (l ++ [x]) l.length=x.k:=by unfold kindAt;simp
 have hcx:kidsAt (l ++ [x]) l.length=x.c:=by unfold kidsAt;simp
 have hw:wayOf (l ++ [x]) l.length=some m:=by
  unfold wayOf
  rw [hkx,hcx]
  have hl:x.c.length=os2.length:=by rw [hc,castL_length]
  rw [hl]
  refine hf2'.walk x.c [] (by rw [hc];simp) (fun i hi=>?_)
  have hj:os2[i] < l.length:=hlt.2 _ (by simp [List.getElem_mem hi])
  rw [kindAt_app hj]
  have:=hx.go i (by simpa using hi)
  simpa [hl] using this
 have hst:St (l ++ [x]) l.length=m:=by rw [St_eq,hw];rfl
 refine ⟨?_,fun j hj=>?_⟩
 ·have:=Fo.snoc (o:=l.length) hf1' hst
  simpa using this
 ·rcases Nat.lt_or_ge j l.length with hj' | hj'
  ·rw [codeAt_app hj'];exact h.good j hj'
  ·have:j=l.length:=by simp at hj;omega
   subst this
   have hl:x.c.length=(os2.map (kindAt l)).length:=by rw [hc,castL_length,List.length_map]
   unfold codeAt
   rw [List.getElem?_append_right (Nat.le_refl _)]
   simp only [Nat.sub_self,List.getElem?_cons_zero,Option.map_some,Option.getD_some]
   unfold nodeC
   rw [if_neg (by rw [hx.kind];simp),if_neg (by rw [hl];have:=hx.low;have:=hx.high;omega),if_neg (by rw [hw];simp)]
   unfold fieldC
   rw [hl]
   exact hx.field
theorem GSt.check {l:List Nd}{o:Nat}(h:GSt l [o]):(1≤l.length∧l.length≤600∧Dp l (l.length-1)≤40∧CkR l 0 0)∨(1≤l.length∧(600<l.length∨40<Dp l (l.length-1))∧¬ CkR l 0 0):=by
 rcases h.fo.last with ⟨h1,_⟩ | ⟨os',o',h1,h2,h3⟩
 ·cases h1
 ·have:os' = []∧o' = o:=by
   cases os' with
   | nil=>simp at h1;exact ⟨rfl,h1.symm⟩
   | cons a b=>simp at h1
  obtain ⟨rfl,rfl⟩:=this
  have hs:St l o' = 0:=by
   rcases h3.last with ⟨_,h⟩ | ⟨_,_,h,_⟩
   ·exact h
   ·simp at h
  have hl:l.length-1=o':=by omega
  have h1:1≤l.length:=by omega
  by_cases h6:l.length≤600
  ·by_cases h4:Dp l (l.length-1)≤40
   ·exact Or.inl ⟨h1,h6,h4,Or.inr ⟨h1,h6,Or.inr ⟨h.good,Or.inr ⟨by rw [hl];exact hs,Or.inr ⟨h4,rfl,rfl⟩⟩⟩⟩⟩
   ·refine Or.inr ⟨h1,Or.inr (by omega),fun hc=>?_⟩
    have hx:CkR l 10 0:=Or.inr ⟨h1,h6,Or.inr ⟨h.good,Or.inr ⟨by rw [hl];exact hs,Or.inl ⟨by omega,rfl,rfl⟩⟩⟩⟩
    exact absurd (hc.det hx).1 (by decide)
  ·refine Or.inr ⟨h1,Or.inl (by omega),fun hc=>?_⟩
   have hx:CkR l 2 0:=Or.inl ⟨Or.inr (by omega),rfl,rfl⟩
   exact absurd (hc.det hx).1 (by decide)
end
section
open Go.RowKit
open Tk (T4 bstr)
open Tr (Nd Blk KidsAt)
def tokV (t:T4):Value:=.agg #[.int .i64 t.k,.string (bstr t.t),.int .i64 t.v,.int .i64 t.a]
theorem ended_cell (B:Nat) (p:Option Addr) (n cap:Nat) (w:World) (h0:w.cell? ⟨B,0,none⟩=some (.slice p n cap)) (hn:n≤5000000) :
  Calls Tryz.prog 63 #[.pointer (some ⟨B,0,none⟩)] w fun e w'=>e=.returned (.bool (decide (n=0)))∧w=w':=by
 by_cases hz:n=0
 ·subst hz
  go_enter Tryz.func63,Tryz.ntmps63
  go_wp2
  go_ret
  exact ⟨rfl,rfl⟩
 ·have hd:((n:Int) == 0)=false:=by simpa using hz
  have hr:Hid (decide (n=0)=false):=by show _=_;simpa using hz
  go_enter Tryz.func63,Tryz.ntmps63
  go_wp2
  go_ret
  exact ⟨by rw [hr.out];rfl,rfl⟩
theorem ended_any {B T E:Nat}{w:World}{s:S3}(h:Ps B T E w s) :
  Calls Tryz.prog 63 #[.pointer (some ⟨B,0,none⟩)] w fun e w'=>e=.returned (.bool (decide (s.L.length=0)))∧w=w':=by
 obtain ⟨vT,vN,vL,ns,h⟩:=h
 obtain ⟨p,cap,rfl,h1,h2,h3⟩:=h.tok
 exact ended_cell B p _ cap w (by rw [h.box.cell];rfl) h.lenL
theorem peek_nil {B T E:Nat}{w:World}{s:S3}(h:Ps B T E w s) (hl:s.L=[]) :
  Calls Tryz.prog 59 #[.pointer (some ⟨B,0,none⟩)] w fun e w'=>e=.returned (tokV (pk E []))∧Below w.heap.size w w':=by
 obtain ⟨vT,vN,vL,ns,h⟩:=h
 obtain ⟨p,cap,rfl,h1,h2,h3⟩:=h.tok
 have hB:=h.lt
 have g0:(w.alloc (.cells #[.int .i64 0,.string ⟨#[]⟩,.int .i64 0,.int .i64 0] 82)).cell? ⟨B,0,none⟩=some (.slice p s.L.length cap):=by
  rw [World.cell?_alloc_past _ _ _ hB,h.box.cell];rfl
 have g1:(w.alloc (.cells #[.int .i64 0,.string ⟨#[]⟩,.int .i64 0,.int .i64 0] 82)).cell? ⟨B,1,none⟩=some (.int .i64 E):=by
  rw [World.cell?_alloc_past _ _ _ hB,h.box.cell];rfl
 have hc:=ended_cell B p s.L.length cap _ g0 h.lenL
 have hd:decide (s.L.length=0)=true:=by rw [hl];rfl
 rw [hd] at hc
 have HB:Hid (Below w.heap.size w (w.alloc (.cells #[.int .i64 0,.string ⟨#[]⟩,.int .i64 0,.int .i64 0] 82))):=(Below.refl _ _).alloc (Nat.le_refl _) _
 have hw:w.cell? ⟨B,1,none⟩=some (.int .i64 E):=by rw [h.box.cell];rfl
 clear h h3 h1 h2 hl hd g0 g1
 go_enter Tryz.func59,Tryz.ntmps59
 go_wp2_with (go_at_call 63;refine hc.mono ?_;rintro e w' ⟨rfl,rfl⟩)
 refine bodyPost_ret (v:=tokV (pk E [])) (by simp [results,Tryz.results59,go_sem,tokV,pk,bstr]) rfl ?_
 exact ⟨rfl,(Below.refl _ _).alloc (Nat.le_refl _) _⟩
theorem peek_cons {B T E:Nat}{w:World}{s:S3}(h:Ps B T E w s) {t:T4}{L:List T4}(hl:s.L=t :: L) :
  Calls Tryz.prog 59 #[.pointer (some ⟨B,0,none⟩)] w fun e w'=>e=.returned (tokV t)∧Below w.heap.size w w':=by
 obtain ⟨vT,vN,vL,ns,h⟩:=h
 obtain ⟨p,cap,rfl,h1,h2,h3⟩:=h.tok
 have hB:=h.lt
 have hlen:s.L.length=L.length+1:=by rw [hl];rfl
 obtain ⟨b,o,rfl,hb,hnb,ht⟩:=h3 (by omega)
 have ht0:=ht 0 (by omega)
 simp only [hl,List.getElem_cons_zero,Nat.zero_mul,Nat.add_zero] at ht0
 obtain ⟨t0,t1,t2,t3⟩:=ht0
 have g0:w.cell? ⟨B,0,none⟩=some (.slice (some ⟨b,o,none⟩) (L.length+1) cap):=by rw [h.box.cell,← hlen];rfl
 have hm:L.length+1≤5000000:=by have:=h.lenL;omega
 have g1:(w.alloc (.cells #[.int .i64 0,.string ⟨#[]⟩,.int .i64 0,.int .i64 0] 82)).cell? ⟨B,0,none⟩=some (.slice (some ⟨b,o,none⟩) (L.length+1) cap):=by
  rw [World.cell?_alloc_past _ _ _ hB];exact g0
 have hc:=ended_cell B (some ⟨b,o,none⟩) (L.length+1) cap _ g1 hm
 have hd:decide (L.length+1=0)=false:=by simp
 rw [hd] at hc
 clear h h3 h1 h2 hl hd g1 ht hlen
 obtain ⟨x,hx⟩:=exE (bstr t.t)
 unfold tokV
 rw [← hx] at t1 ⊢
 clear hx
 go_enter Tryz.func59,Tryz.ntmps59
 go_wp2_with (go_at_call 63;refine hc.mono ?_;rintro e w' ⟨rfl,rfl⟩)
 refine bodyPost_ret (v:=.agg #[.int .i64 t.k,.string x,.int .i64 t.v,.int .i64 t.a]) (by simp [results,Tryz.results59,go_sem]) rfl ?_
 exact ⟨rfl,(Below.refl _ _).alloc (Nat.le_refl _) _⟩
theorem peek_any {B T E:Nat}{w:World}{s:S3}(h:Ps B T E w s) :
  Calls Tryz.prog 59 #[.pointer (some ⟨B,0,none⟩)] w fun e w'=>e=.returned (tokV (pk E s.L))∧Below w.heap.size w w':=by
 cases hl:s.L with
 | nil=>exact peek_nil h hl
 | cons t L=>exact peek_cons h hl
theorem fldT0 (x0 x1 x2 x3:Value) (w:World):(Instr.field 82 (.agg #[x0,x1,x2,x3]) 0).run Tryz.prog w=.ok x0 w:=by kernel_rfl
theorem fldT1 (x0 x1 x2 x3:Value) (w:World):(Instr.field 82 (.agg #[x0,x1,x2,x3]) 1).run Tryz.prog w=.ok x1 w:=by kernel_rfl
theorem fldT3 (x0 x1 x2 x3:Value) (w:World):(Instr.field 82 (.agg #[x0,x1,x2,x3]) 3).run Tryz.prog w=.ok x3 w:=by kernel_rfl
theorem sees_any {B T E:Nat}{w:World}{s:S3}(h:Ps B T E w s) (x:ByteArray) :
  Calls Tryz.prog 161 #[.pointer (some ⟨B,0,none⟩),.string x] w fun e w'=>e=.returned (.bool (decide ((pk E s.L).t=x.data.toList)))∧Below w.heap.size w w':=by
 have hp:=peek_any h
 unfold tokV at hp
 generalize pk E s.L=t at *
 obtain ⟨y,hy⟩:=exE (bstr t.t)
 rw [← hy] at hp
 have hr:Hid (decide (t.t=x.data.toList)=(y.toList == x.toList)):=by
  show _=_
  have e1:y.toList=t.t:=by rw [Lib.toList_data,hy];rfl
  rw [e1,Lib.toList_data,Bool.eq_iff_iff];simp
 clear hy
 have hf:=fldT1
 go_enter Tryz.func161,Tryz.ntmps161
 go_wp2_with (go_at_call 59;refine hp.mono ?_;rintro e w' ⟨rfl,hb⟩)
 go_ret
 exact ⟨by rw [hr.out];rfl,hb⟩
theorem own_set0 {B T:Nat}{w:World}{x0 x1 x2 x3 v:Value}(h:Blk w B T #[x0,x1,x2,x3]) (g:Nat):Own B (w.setCell ⟨B,0,none⟩ v) g ↔ Own B w g:=by
 have h':=h.set_ 0 v
 have e2:(w.setCell ⟨B,0,none⟩ v).cell? ⟨B,2,none⟩=w.cell? ⟨B,2,none⟩:=by rw [h'.cell,h.cell];rfl
 have e3:(w.setCell ⟨B,0,none⟩ v).cell? ⟨B,3,none⟩=w.cell? ⟨B,3,none⟩:=by rw [h'.cell,h.cell];rfl
 unfold Own;rw [e2,e3]
theorem ext_set0 {B T:Nat}{w:World}{x0 x1 x2 x3:Value}(h:Blk w B T #[x0,x1,x2,x3]) (v:Value):Ext B w (w.setCell ⟨B,0,none⟩ v) :=
 ⟨rfl,rfl,rfl,by simp [World.setCell],fun g _ hn=>Below.heap_setCell _ _ _ _ (fun e=>hn (Or.inl e)),fun g ho=>Or.inl ((own_set0 h g).1 ho)⟩
theorem PS.set0 {B T E:Nat}{w:World}{s:S3}{vT vN vL:Value}{ns:List Nd}(h:PS B T E w s vT vN vL ns) {v:Value}{L:List T4}(ht:Toks B w v L) (hL:L.length≤5000000) :
  PS B T E (w.setCell ⟨B,0,none⟩ v) { s with L:=L } v vN vL ns:=by
 have hO:=own_set0 h.box (v:=v)
 have hk:∀ g,g≠B→(w.setCell ⟨B,0,none⟩ v).heap[g]? = w.heap[g]?:=fun g hg=>Below.heap_setCell _ _ _ _ hg
 refine { box:=h.box.set_ 0 v,tok:=?_,nod:=ownsRow_setCell_below h.nod (a:=⟨B,0,none⟩) (by show B<B+1;omega) v,kid:=?_,loo:=ownsRow_setCell_below h.loo (a:=⟨B,0,none⟩) (by show B<B+1;omega) v,sep:=h.sep,eqN:=h.eqN,lenO:=h.lenO,lenN:=h.lenN,lenL:=hL,kl:=h.kl }
 ·obtain ⟨p,cap,hv,h1,h2,h3⟩:=ht
  refine ⟨p,cap,hv,h1,h2,fun hc=>?_⟩
  obtain ⟨b,o,hp,hl,hn,ht⟩:=h3 hc
  exact ⟨b,o,hp,by simpa [World.setCell] using hl,fun h=>hn ((hO b).1 h),ht.same (hk b (fun e=>hn (Or.inl e)))⟩
 ·intro i hi h0
  obtain ⟨b,hb0,hp,hl,hn,hc⟩:=h.kid i hi h0
  exact ⟨b,hb0,hp,by simpa [World.setCell] using hl,fun h=>hn ((hO b).1 h),fun j hj=>(World.cell?_of_block (a:=⟨b,j,none⟩) (hk b (fun e=>hn (Or.inl e)))).trans (hc j hj)⟩
theorem toks_tail {B:Nat}{w:World}{b o n cap:Nat}{t:T4}{L:List T4}(hlen:n=L.length) (h1:L.length+1≤cap) (h2:cap≤9223372036854775807) (hl:b<w.heap.size) (hn:¬ Own B w b) (ht:TokAt w b o (t :: L)) :
  Toks B w (.slice (some ⟨b,o+4,none⟩) n (cap-1)) L :=
 ⟨_,cap-1,by rw [hlen],by omega,by omega,fun _=>⟨b,o+4,rfl,hl,hn,fun j hj=>by
  have:=ht (j+1) (by simp;omega)
  rw [show o+(j+1) * 4=o+4+j * 4 by omega] at this
  exact this⟩⟩
theorem toks_none {B:Nat}{w:World}{p:Option Addr}:Toks B w (.slice p 0 0) []:=⟨p,0,rfl,Nat.le_refl _,by omega,fun h=>absurd h (by omega)⟩
end
section
open Go.RowKit
open Tk (T4 bstr)
open Tr
def nds (s:S3):List Nd:=s.N.map ndOf
def TokOk (x:T4):Prop:=x.k=1→nameB (bstr x.t)=true
structure InvF (s:S3) (os:List Nat):Prop where
 gs:GSt (nds s) os
 loose:s.O=castL os
 toks:∀ x,x ∈ s.L→TokOk x
structure Moved (s s':S3):Prop where
 N:s'.N=s.N
 O:s'.O=s.O
 L:∀ x,x ∈ s'.L→x ∈ s.L
theorem InvF.moved {s s':S3}{os:List Nat}(h:InvF s os) (m:Moved s s'):InvF s' os :=
 ⟨by unfold nds;rw [m.N];exact h.gs,by rw [m.O];exact h.loose,fun x hx=>h.toks x (m.L x hx)⟩
def kindsOf (s:S3) (os:List Nat):List Int:=os.map (kindAt (nds s))
structure Grew (s s':S3) (os new:List Nat):Prop where
 inv:InvF s' (os ++ new)
 more:∃ M,s'.N=s.N ++ M
theorem nds_length (s:S3):(nds s).length=s.N.length:=List.length_map ..
theorem kindsOf_grew {s s':S3}{os:List Nat}(hM:∃ M,s'.N=s.N ++ M) (h:∀ j,j ∈ os→j<s.N.length):kindsOf s' os=kindsOf s os:=by
 obtain ⟨M,hM⟩:=hM
 unfold kindsOf nds
 refine List.map_congr_left fun j hj=>?_
 rw [hM,List.map_append]
 exact kindAt_app (by rw [List.length_map];exact h j hj)
theorem InvF.lt {s:S3}{os:List Nat}(h:InvF s os):∀ j,j ∈ os→j<s.N.length:=fun j hj=>by
 have:=(h.gs.fo.lt (St_le _)).2 j hj
 rwa [nds_length] at this
def GivesAt (s:S3) (r:R3) (P:List Int→Prop):Prop:=∀ os,InvF s os→match r with
 | .ok s'=>∃ new,Grew s s' os new∧P (kindsOf s' new)
 | _=>True
def Gives (f:F3) (P:List Int→Prop):Prop:=∀ s,GivesAt s (f s) P
def Thn (P Q:List Int→Prop) (ks:List Int):Prop:=∃ a b,ks=a ++ b∧P a∧Q b
def Nil (ks:List Int):Prop:=ks=[]
def One (p:Int→Prop) (ks:List Int):Prop:=∃ k,ks=[k]∧p k
theorem GivesAt.mono {s:S3}{r:R3}{P Q:List Int→Prop}(h:GivesAt s r P) (hpq:∀ ks,P ks→Q ks):GivesAt s r Q:=by
 intro os hi
 have:=h os hi
 cases r with
 | ok s'=>obtain ⟨new,hg,hp⟩:=this;exact ⟨new,hg,hpq _ hp⟩
 | bad c a=>trivial
 | out=>trivial
theorem GivesAt.bind {s:S3}{r:R3}{f:F3}{P Q:List Int→Prop}(h:GivesAt s r P) (hf:∀ s',r=.ok s'→GivesAt s' (f s') Q):GivesAt s (r.bind f) (Thn P Q):=by
 intro os hi
 have h1:=h os hi
 cases r with
 | bad c a=>trivial
 | out=>trivial
 | ok s1 =>
  obtain ⟨new,hg,hp⟩:=h1
  have h2:=hf s1 rfl (os ++ new) hg.inv
  show match f s1 with
   | .ok s'=>∃ new,Grew s s' os new∧Thn P Q (kindsOf s' new)
   | _=>True
  cases hr:f s1 with
  | bad c a=>trivial
  | out=>trivial
  | ok s2 =>
   rw [hr] at h2
   obtain ⟨new2,hg2,hq⟩:=h2
   obtain ⟨M1,hM1⟩:=hg.more
   obtain ⟨M2,hM2⟩:=hg2.more
   refine ⟨new ++ new2,⟨by rw [← List.append_assoc];exact hg2.inv,M1 ++ M2,by rw [hM2,hM1,List.append_assoc]⟩,kindsOf s2 new,kindsOf s2 new2,by unfold kindsOf;rw [List.map_append],?_,hq⟩
   rw [kindsOf_grew hg2.more fun j hj=>hg.inv.lt j (by simp [hj])]
   exact hp
theorem GivesAt.moved {s s1:S3}{r:R3}{P:List Int→Prop}(m:Moved s s1) (h:GivesAt s1 r P):GivesAt s r P:=by
 intro os hi
 have:=h os (hi.moved m)
 cases r with
 | bad c a=>trivial
 | out=>trivial
 | ok s' =>
  obtain ⟨new,hg,hp⟩:=this
  obtain ⟨M,hM⟩:=hg.more
  exact ⟨new,⟨hg.inv,M,by rw [hM,m.N]⟩,hp⟩
theorem GivesAt.stay {s s':S3}(m:Moved s s'):GivesAt s (.ok s') Nil:=by
 intro os hi
 exact ⟨[],⟨by rw [List.append_nil];exact hi.moved m,[],by rw [List.append_nil,m.N]⟩,rfl⟩
theorem moved_refl (s:S3):Moved s s:=⟨rfl,rfl,fun _ h=>h⟩
theorem moved_tail (s:S3):Moved s { s with L:=s.L.tail }:=⟨rfl,rfl,fun _ h=>List.mem_of_mem_tail h⟩
theorem givesAt_bad (s:S3) (c a:Int) (P:List Int→Prop):GivesAt s (.bad c a) P:=fun _ _=>trivial
theorem givesAt_out (s:S3) (P:List Int→Prop):GivesAt s .out P:=fun _ _=>trivial
theorem gives_word (E:Nat) (t:List UInt8):Gives (wordF E t) Nil:=by
 intro s
 unfold wordF
 split
 ·exact .stay (moved_tail s)
 ·exact givesAt_bad _ _ _ _
theorem gives_seq_nil:Gives (seqF []) Nil:=fun s=>.stay (moved_refl s)
theorem gives_seq {f:F3}{fs:List F3}{P Q:List Int→Prop}(h:Gives f P) (h2:Gives (seqF fs) Q):Gives (seqF (f :: fs)) (Thn P Q) :=
 fun s=>(h s).bind fun s' _=>h2 s'
theorem Fo.len {S:Nat→Nat}(hS:∀ j,S j≤j) {b e:Nat}{os:List Nat}(h:Fo S b os e):os.length≤e:=by
 induction h with
 | nil=>exact Nat.zero_le _
 | @snoc os e o h hs ih =>
  have:=hS o
  rw [List.length_append,List.length_singleton]
  omega
theorem add_gives {s s':S3}{x:Mn}{os1 os2:List Nat}(h:InvF s (os1 ++ os2)) (hr:addF x os1.length s=.ok s') (hx:os2.length<5000000→OkN x.k (bstr x.t) x.n x.z x.a (kindsOf s os2)) :
  Grew s s' os1 [s.N.length]∧kindsOf s' [s.N.length]=[x.k]:=by
 unfold addF at hr
 split at hr
 ·cases hr
 ·rename_i hn
  injection hr with hr
  subst hr
  have hO:s.O=castL os1 ++ castL os2:=by rw [h.loose];unfold castL;rw [List.map_append]
  have hd:s.O.drop os1.length=castL os2:=by rw [hO,← castL_length os1,List.drop_left]
  have ht:s.O.take os1.length=castL os1:=by rw [hO,← castL_length os1,List.take_left]
  have hlen:os2.length<5000000:=by
   have h1:=h.gs.fo.len (St_le _)
   rw [nds_length,List.length_append] at h1
   omega
  have hg:=h.gs.add (x:=ndOf { x with c:=s.O.drop os1.length }) hd (hx hlen)
  rw [nds_length] at hg
  refine ⟨⟨⟨?_,?_,h.toks⟩,_,rfl⟩,?_⟩
  ·unfold nds;rw [List.map_append];exact hg
  ·show s.O.take os1.length ++ [(s.N.length:Int)]=_
   rw [ht,castL_snoc]
  ·unfold kindsOf nds
   show [kindAt (List.map ndOf (s.N ++ [_])) s.N.length]=[x.k]
   unfold kindAt
   rw [List.map_append,List.getElem?_append_right (by simp)]
   simp [ndOf]
theorem gives_build {x:Mn}{fs:List F3}{P:List Int→Prop}(h:Gives (seqF fs) P) (hx:∀ ks,P ks→ks.length<5000000→OkN x.k (bstr x.t) x.n x.z x.a ks) (s:S3):GivesAt s (buildF x fs s) (fun ks=>ks=[x.k]):=by
 intro os hi
 unfold buildF extF
 have h1:=h s os hi
 cases hs:seqF fs s with
 | bad c a=>trivial
 | out=>trivial
 | ok s1 =>
  rw [hs] at h1
  obtain ⟨new,hg,hp⟩:=h1
  have hl:s.O.length=os.length:=by rw [hi.loose,castL_length]
  show match addF x s.O.length s1 with
   | .ok s'=>∃ new,Grew s s' os new∧kindsOf s' new=[x.k]
   | _=>True
  rw [hl]
  cases ha:addF x os.length s1 with
  | bad c a=>trivial
  | out=>trivial
  | ok s2 =>
   obtain ⟨hg2,hk⟩:=add_gives hg.inv ha fun hn=>hx _ hp (by unfold kindsOf;rw [List.length_map];exact hn)
   obtain ⟨M1,hM1⟩:=hg.more
   obtain ⟨M2,hM2⟩:=hg2.more
   exact ⟨[s1.N.length],⟨hg2.inv,M1 ++ M2,by rw [hM2,hM1,List.append_assoc]⟩,hk⟩
end
section
open Go.RowKit
open Tk (T4 bstr)
open Tr (Nd Blk KidsAt)
theorem box4 {w:World}{g:Nat}{t:TypeId}{x0 x1 x2 x3:Value}(h:Blk w g t #[x0,x1,x2,x3]) :
  (w.cell? ⟨g,0,none⟩=some x0∧w.cell? ⟨g,1,none⟩=some x1∧w.cell? ⟨g,2,none⟩=some x2∧w.cell? ⟨g,3,none⟩=some x3) ∧
  (w.frozen? ⟨g,0,none⟩=false∧w.frozen? ⟨g,1,none⟩=false∧w.frozen? ⟨g,2,none⟩=false∧w.frozen? ⟨g,3,none⟩=false)∧g<w.heap.size :=
 ⟨⟨by rw [h.cell];rfl,by rw [h.cell];rfl,by rw [h.cell];rfl,by rw [h.cell];rfl⟩,⟨h.frozen 0,h.frozen 1,h.frozen 2,h.frozen 3⟩,h.lt⟩
def set4 (w:World) (g:Nat) (y0 y1 y2 y3:Value):World:=(((w.setCell ⟨g,0,none⟩ y0).setCell ⟨g,1,none⟩ y1).setCell ⟨g,2,none⟩ y2).setCell ⟨g,3,none⟩ y3
theorem take_nil {B T E:Nat}{w:World}{s:S3}(h:Ps B T E w s) (hl:s.L=[]) :
  Calls Tryz.prog 106 #[.pointer (some ⟨B,0,none⟩)] w fun e w'=>e=.returned (tokV (pk E []))∧Below w.heap.size w w':=by
 obtain ⟨x0,hx0⟩:=exE (bstr (pk E []).t)
 have hp:=peek_any (h.alloc (.cells #[.int .i64 0,.string ⟨#[]⟩,.int .i64 0,.int .i64 0] 82))
 have hB:=h.lt
 unfold tokV at hp ⊢
 rw [hl] at hp
 rw [← hx0] at hp ⊢
 generalize pk E []=t at *
 have H:=Lib.hid h
 have Hl:=Lib.hid hl
 clear h hl hx0
 go_enter Tryz.func106,Tryz.ntmps106
 go_wp2_with (go_at_call 59;refine hp.mono ?_;rintro e w1 ⟨rfl,hb⟩)
 have hb1:Below w.heap.size w w1:=((Below.refl _ _).alloc (Nat.le_refl _) _).trans (hb.mono (by simp))
 have HB:=Lib.hid hb1
 have hs1:=H.out.below hb1
 have k0:w1.heap[w.heap.size]? = some (.cells #[.int .i64 0,.string ⟨#[]⟩,.int .i64 0,.int .i64 0] 82 (0,0)):=(hb.block _ (by simp)).trans (heap_alloc_new w _)
 have K0:Hid (Blk w1 w.heap.size 82 #[.int .i64 0,.string ⟨#[]⟩,.int .i64 0,.int .i64 0]):=k0
 obtain ⟨⟨c0,c1,c2,c3⟩,⟨f0,f1,f2,f3⟩,lK⟩:=box4 K0.out
 have he:=ended_any (hs1.alloc (.cells #[.int .i64 t.k,.string x0,.int .i64 t.v,.int .i64 t.a] 82))
 have hd:decide (s.L.length=0)=true:=by rw [Hl.out];rfl
 rw [hd] at he
 clear hb hb1 hs1 k0 hd
 go_wp2_with (go_at_call 63;refine he.mono ?_;rintro e w' ⟨rfl,rfl⟩)
 refine bodyPost_ret (v:=.agg #[.int .i64 t.k,.string x0,.int .i64 t.v,.int .i64 t.a]) (by simp [results,Tryz.results106,go_sem,c0,c1,c2,c3,lK]) rfl ?_
 exact ⟨rfl,((((HB.out.setCell (p:=⟨w.heap.size,0,none⟩) (Nat.le_refl _) _).setCell (p:=⟨w.heap.size,1,none⟩) (Nat.le_refl _) _).setCell (p:=⟨w.heap.size,2,none⟩) (Nat.le_refl _) _).setCell (p:=⟨w.heap.size,3,none⟩) (Nat.le_refl _) _).alloc (by simp [World.setCell];omega) _⟩
theorem below_set {n:Nat}{w w1:World}(h:Below n w w1) (p:Addr) (v:Value):Below n (w.setCell p v) (w1.setCell p v) :=
 ⟨h.os,h.tape,h.output,by simpa [World.setCell] using h.size,fun k hk=>by simp only [World.setCell,Array.getElem?_modify];rw [h.block k hk]⟩
theorem take_close {B T E:Nat}{w w1:World}{s:S3}{vT vN vL v:Value}{ns:List Nd}{L:List T4}(h:PS B T E w s vT vN vL ns) (ht:Toks B w v L) (hL:L.length≤5000000) (hb:Below w.heap.size w w1)
  {y0 y1 y2 y3:Value} {o:Obj}:Ext B w ((((((w1.setCell ⟨B,0,none⟩ v).setCell ⟨w.heap.size,0,none⟩ y0).setCell ⟨w.heap.size,1,none⟩ y1).setCell ⟨w.heap.size,2,none⟩ y2).setCell ⟨w.heap.size,3,none⟩ y3).alloc o) ∧
   Ps B T E ((((((w1.setCell ⟨B,0,none⟩ v).setCell ⟨w.heap.size,0,none⟩ y0).setCell ⟨w.heap.size,1,none⟩ y1).setCell ⟨w.heap.size,2,none⟩ y2).setCell ⟨w.heap.size,3,none⟩ y3).alloc o) { s with L:=L }:=by
 have hW:Below (w.setCell ⟨B,0,none⟩ v).heap.size (w.setCell ⟨B,0,none⟩ v) ((((((w1.setCell ⟨B,0,none⟩ v).setCell ⟨w.heap.size,0,none⟩ y0).setCell ⟨w.heap.size,1,none⟩ y1).setCell ⟨w.heap.size,2,none⟩ y2).setCell ⟨w.heap.size,3,none⟩ y3).alloc o):=by
  have e:(w.setCell ⟨B,0,none⟩ v).heap.size=w.heap.size:=by simp [World.setCell]
  have hs:=hb.size
  rw [e]
  exact (((((below_set hb _ _).setCell (p:=⟨w.heap.size,0,none⟩) (Nat.le_refl _) _).setCell (p:=⟨w.heap.size,1,none⟩) (Nat.le_refl _) _).setCell (p:=⟨w.heap.size,2,none⟩) (Nat.le_refl _) _).setCell (p:=⟨w.heap.size,3,none⟩) (Nat.le_refl _) _).alloc (by simpa [World.setCell] using hs) _
 have hp:=h.set0 ht hL
 exact ⟨(ext_set0 h.box v).trans (Ext.below hW hp.lt),⟨_,_,_,_,hp.below hW⟩⟩
theorem take_cons {B T E:Nat}{w:World}{s:S3}(h:Ps B T E w s) {t:T4}{L:List T4}(hl:s.L=t :: L) :
  Calls Tryz.prog 106 #[.pointer (some ⟨B,0,none⟩)] w fun e w'=>e=.returned (tokV t)∧Ext B w w'∧Ps B T E w' { s with L:=L }:=by
 obtain ⟨x0,hx0⟩:=exE (bstr t.t)
 have hp:=peek_any (h.alloc (.cells #[.int .i64 0,.string ⟨#[]⟩,.int .i64 0,.int .i64 0] 82))
 have hB:=h.lt
 unfold tokV at hp ⊢
 rw [hl] at hp
 change Calls _ _ _ _ (fun e w'=>e=.returned (.agg #[.int .i64 t.k,.string (bstr t.t),.int .i64 t.v,.int .i64 t.a])∧_) at hp
 rw [← hx0] at hp ⊢
 have H:=Lib.hid h
 have Hl:=Lib.hid hl
 clear h hl hx0
 obtain ⟨Q,hQ⟩ : ∃ Q:Ending→World→Prop,Q=fun e w'=>e=.returned (.agg #[.int .i64 t.k,.string x0,.int .i64 t.v,.int .i64 t.a])∧Ext B w w'∧Ps B T E w' { s with L:=L }:=⟨_,rfl⟩
 have HQ:=Lib.hid hQ
 rw [← hQ]
 clear hQ
 go_enter Tryz.func106,Tryz.ntmps106
 go_wp2_with (go_at_call 59;refine hp.mono ?_;rintro e w1 ⟨rfl,hb⟩)
 have hb1:Below w.heap.size w w1:=((Below.refl _ _).alloc (Nat.le_refl _) _).trans (hb.mono (by simp))
 have HB:=Lib.hid hb1
 have hs1:=H.out.below hb1
 have HS:=Lib.hid hs1
 have k0:w1.heap[w.heap.size]? = some (.cells #[.int .i64 0,.string ⟨#[]⟩,.int .i64 0,.int .i64 0] 82 (0,0)):=(hb.block _ (by simp)).trans (heap_alloc_new w _)
 have K0:Hid (Blk w1 w.heap.size 82 #[.int .i64 0,.string ⟨#[]⟩,.int .i64 0,.int .i64 0]):=k0
 obtain ⟨⟨c0,c1,c2,c3⟩,⟨f0,f1,f2,f3⟩,lK⟩:=box4 K0.out
 have he:=ended_any (hs1.alloc (.cells #[.int .i64 t.k,.string x0,.int .i64 t.v,.int .i64 t.a] 82))
 have hd:decide (s.L.length=0)=false:=by rw [Hl.out];simp
 rw [hd] at he
 obtain ⟨vT,vN,vL,ns,h1⟩:=H.out
 obtain ⟨p,cap,rfl,q1,q2,q3⟩:=h1.tok
 have hlen:s.L.length=L.length+1:=by rw [Hl.out];rfl
 obtain ⟨b,o,rfl,hlb,hnb,ht⟩:=q3 (by omega)
 have lB:B<w1.heap.size:=Nat.lt_of_lt_of_le hB HB.out.size
 have hm:=h1.lenL
 have g0:w1.cell? ⟨B,0,none⟩=some (.slice (some ⟨b,o,none⟩) (L.length+1) cap):=by rw [HB.out.cell (p:=⟨B,0,none⟩) hB,h1.box.cell,← hlen];rfl
 have gf:w1.frozen? ⟨B,0,none⟩=false:=(HB.out.frozen (p:=⟨B,0,none⟩) hB).trans (h1.box.frozen 0)
 have hne:B≠w.heap.size:=by omega
 have HP:=Lib.hid h1
 rw [hlen] at q1 hm
 have HTt:Hid (1<cap→Toks B w (.slice (some ⟨b,o+4,none⟩) L.length (cap-1)) L):=fun _=>toks_tail (t:=t) rfl q1 q2 hlb hnb (by rw [← Hl.out];exact ht)
 have Hm:Hid (L.length≤5000000):=Lib.hid (by omega)
 clear hb hb1 k0 hd h1 q3 ht hlen hnb hlb HS
 by_cases hcap:cap=1
 ·subst hcap
  have hL0:L.length=0:=by omega
  have HL0:Hid (L=[]):=List.eq_nil_of_length_eq_zero hL0
  rw [hL0] at g0 q1 hm
  clear hL0 HTt
  go_wp2_with (go_at_call 63;refine he.mono ?_;rintro e w' ⟨rfl,rfl⟩)
  refine bodyPost_ret (v:=.agg #[.int .i64 t.k,.string x0,.int .i64 t.v,.int .i64 t.a]) (by simp [results,Tryz.results106,go_sem,c0,c1,c2,c3,lK,hne]) rfl ?_
  rw [HQ.out]
  exact ⟨rfl,take_close HP.out (by rw [HL0.out];exact toks_none) Hm.out HB.out⟩
 ·have hc1:1<cap:=by omega
  have HT2:=Lib.hid (HTt.out hc1)
  clear HTt
  go_wp2_with (go_at_call 63;refine he.mono ?_;rintro e w' ⟨rfl,rfl⟩)
  refine bodyPost_ret (v:=.agg #[.int .i64 t.k,.string x0,.int .i64 t.v,.int .i64 t.a]) (by simp [results,Tryz.results106,go_sem,c0,c1,c2,c3,lK,hne]) rfl ?_
  rw [HQ.out]
  exact ⟨rfl,take_close HP.out HT2.out Hm.out HB.out⟩
theorem take_any {B T E:Nat}{w:World}{s:S3}(h:Ps B T E w s) :
  Calls Tryz.prog 106 #[.pointer (some ⟨B,0,none⟩)] w fun e w'=>e=.returned (tokV (pk E s.L))∧Ext B w w'∧Ps B T E w' { s with L:=s.L.tail }:=by
 cases hl:s.L with
 | nil=>exact (take_nil h hl).mono fun e w' ⟨he,hb⟩=>⟨he,Ext.below hb h.lt,by have:=h.below hb;obtain ⟨L,N,O⟩:=s;cases hl;exact this⟩
 | cons t L=>exact take_cons h hl
end
section
open Go.RowKit
open Tk (T4 bstr)
open Tr
def EE (ks:List Int):Prop:=∀ k,k ∈ ks→exprB k=true
def OneE (ks:List Int):Prop:=∃ k,ks=[k]∧exprB k=true
theorem exprB_iff {k:Int}:exprB k=true ↔ 31≤k∧k≤40:=by unfold exprB;rw [decide_eq_true_eq]
theorem bstr_back (t:List UInt8):(bstr t).toList=t:=by
 rw [Lib.toList_data];rfl
theorem goE {k i m kid:Int}(hk:exprB k=true):goB k i m kid=exprB kid:=by
 rw [exprB_iff] at hk
 unfold goB
 rw [if_neg (by omega),if_neg (by omega),if_neg (by omega),if_neg (by omega),if_neg (by omega),if_neg (by omega),if_neg (by omega)]
theorem field_of {k:Int}{t:ByteArray}{n z:Int}{m:Nat}{a:Int}(h1:namedB k=true→nameB t=true) (h2:namedB k=false→signB k t=true) (h3:numB k n z m=true) (h4:0≤a):fieldV k t n z m a=0:=by
 unfold fieldV
 rw [if_neg (by intro h;rw [h1 h.1] at h;exact absurd h.2 (by decide)),if_neg (by intro h;rw [h2 h.1] at h;exact absurd h.2 (by decide)),if_neg (by rw [h3];intro h;rcases h with h | h;exact absurd h (by decide);omega)]
theorem okE {k:Int}{t:ByteArray}{n a:Int}{ks:List Int}(hk:exprB k=true) (lo:lowV k≤ks.length) (hi:(ks.length:Int)≤highV 9223372036854775807 k) (he:EE ks)
  (h1:namedB k=true→nameB t=true) (h2:namedB k=false→signB k t=true) (h3:numB k n 0 ks.length=true) (h4:0≤a):OkN k t n 0 a ks where
 kind:=by rw [exprB_iff] at hk;unfold kindB;rw [decide_eq_true_eq];omega
 low:=lo
 high:=hi
 go:=fun i h=>by rw [goE hk];exact he _ (List.getElem_mem h)
 field:=field_of h1 h2 h3 h4
theorem level_both {t:List UInt8}(h:levelT t=2∨levelT t=3):t ∈ bothS:=by
 unfold levelT at h
 split at h
 ·next h1=>subst h1;decide
 ·split at h
  ·next h1=>subst h1;decide
  ·exfalso;revert h;(repeat' split) <;> omega
theorem level_two {t:List UInt8}(h:4≤levelT t):t ∈ twoA ++ twoC:=by
 unfold levelT at h
 repeat' split at h
 all_goals first
  | omega
  | (next h1=>subst h1;decide)
  | (next h1=>rcases h1 with h1 | h1 <;> subst h1 <;> decide)
  | (next h1=>rcases h1 with h1 | h1 | h1 <;> subst h1 <;> decide)
  | (next h1=>rcases h1 with h1 | h1 | h1 | h1 <;> subst h1 <;> decide)
theorem levelG_le (t:List UInt8):levelT t≤11:=by
 unfold levelT
 repeat' split
 all_goals omega
theorem okPair {t:List UInt8}{a k1 k2:Int}(ht:2≤levelT t) (ha:0≤a) (h1:exprB k1=true) (h2:exprB k2=true):OkN (pairK (levelT t)) (bstr t) 0 0 a [k1,k2]:=by
 have he:EE [k1,k2]:=by intro k hk;rcases List.mem_cons.1 hk with rfl | hk;exact h1;rw [List.mem_singleton] at hk;subst hk;exact h2
 by_cases hb:levelT t=2∨levelT t=3
 ·have:pairK (levelT t)=37:=by unfold pairK;rw [if_pos hb]
  rw [this]
  refine okE (by decide) (show lowV _≤((2:Nat):Int) by decide) (show ((2:Nat):Int)≤highV _ _ by decide) he (fun h=>absurd h (by decide)) (fun _=>?_) rfl ha
  show bothB (bstr t)=true
  unfold bothB;rw [bstr_back,decide_eq_true_eq];exact level_both hb
 ·have:pairK (levelT t)=36:=by unfold pairK;rw [if_neg hb]
  rw [this]
  refine okE (by decide) (show lowV _≤((2:Nat):Int) by decide) (show ((2:Nat):Int)≤highV _ _ by decide) he (fun h=>absurd h (by decide)) (fun _=>?_) rfl ha
  show twoB (bstr t)=true
  unfold twoB;rw [bstr_back,decide_eq_true_eq];exact level_two (by omega)
theorem pairK_expr (l:Nat):exprB (pairK l)=true:=by unfold pairK;split <;> rfl
def TopR (s:S3) (os:List Nat) (r:R3):Prop:=match r with
 | .ok s'=>∃ o',Grew s s' os [o']∧exprB (kindAt (nds s') o')=true
 | _=>True
def GivesTop (mark:Nat) (s:S3) (r:R3):Prop:=∀ os o,InvF s (os ++ [o])→os.length=mark→exprB (kindAt (nds s) o)=true→TopR s os r
theorem GivesTop.stay (mark:Nat) (s:S3):GivesTop mark s (.ok s):=fun _ o h _ he=>⟨o,⟨h,[],by rw [List.append_nil]⟩,he⟩
theorem GivesTop.moved {mark:Nat}{s s1:S3}{r:R3}(m:Moved s s1) (h:GivesTop mark s1 r):GivesTop mark s r:=by
 intro os o hi hl he
 have:=h os o (hi.moved m) hl (by unfold nds;rw [m.N];exact he)
 cases r with
 | bad c a=>trivial
 | out=>trivial
 | ok s' =>
  obtain ⟨o',hg,hp⟩:=this
  obtain ⟨M,hM⟩:=hg.more
  exact ⟨o',⟨hg.inv,M,by rw [hM,m.N]⟩,hp⟩
theorem GivesTop.bind {mark:Nat}{s:S3}{r:R3}{f:F3}(h:GivesTop mark s r) (hf:∀ s',r=.ok s'→GivesTop mark s' (f s')):GivesTop mark s (r.bind f):=by
 intro os o hi hl he
 have h1:=h os o hi hl he
 cases r with
 | bad c a=>trivial
 | out=>trivial
 | ok s1 =>
  obtain ⟨o1,hg,hp⟩:=h1
  have h2:=hf s1 rfl os o1 hg.inv hl hp
  show TopR s os (f s1)
  cases hr:f s1 with
  | bad c a=>trivial
  | out=>trivial
  | ok s2 =>
   rw [hr] at h2
   obtain ⟨o2,hg2,hq⟩:=h2
   obtain ⟨M1,hM1⟩:=hg.more
   obtain ⟨M2,hM2⟩:=hg2.more
   exact ⟨o2,⟨hg2.inv,M1 ++ M2,by rw [hM2,hM1,List.append_assoc]⟩,hq⟩
theorem GivesAt.top {s:S3}{r:R3}{f:F3}(h:GivesAt s r OneE) (hf:∀ s',r=.ok s'→GivesTop s.O.length s' (f s')):GivesAt s (r.bind f) OneE:=by
 intro os hi
 have h1:=h os hi
 cases r with
 | bad c a=>trivial
 | out=>trivial
 | ok s1 =>
  obtain ⟨new,hg,k,hk,he⟩:=h1
  have hn:∃ o,new=[o]∧kindAt (nds s1) o=k:=by
   unfold kindsOf at hk
   rcases new with _ | ⟨o,_ | ⟨o2,l⟩⟩
   ·cases hk
   ·injection hk with hk;exact ⟨o,rfl,hk⟩
   ·injection hk with _ hk;cases hk
  obtain ⟨o,rfl,ho⟩:=hn
  have h2:=hf s1 rfl os o hg.inv (by rw [hi.loose,castL_length]) (by rw [ho];exact he)
  show match f s1 with
   | .ok s'=>∃ new,Grew s s' os new∧OneE (kindsOf s' new)
   | _=>True
  cases hr:f s1 with
  | bad c a=>trivial
  | out=>trivial
  | ok s2 =>
   rw [hr] at h2
   obtain ⟨o2,hg2,hq⟩:=h2
   obtain ⟨M1,hM1⟩:=hg.more
   obtain ⟨M2,hM2⟩:=hg2.more
   exact ⟨[o2],⟨hg2.inv,M1 ++ M2,by rw [hM2,hM1,List.append_assoc]⟩,_,rfl,hq⟩
theorem ext_top {x:Mn}{fs:List F3}{P:List Int→Prop}(mark:Nat) (s:S3) (h:GivesAt s (seqF fs s) P) (hx:∀ k ks,exprB k=true→P ks→OkN x.k (bstr x.t) x.n x.z x.a (k :: ks)) (hk:exprB x.k=true):GivesTop mark s (extF mark x fs s):=by
 intro os o hi hl he
 unfold extF
 have h1:=h (os ++ [o]) hi
 cases hs:seqF fs s with
 | bad c a=>trivial
 | out=>trivial
 | ok s1 =>
  rw [hs] at h1
  obtain ⟨new,hg,hp⟩:=h1
  show TopR s os (addF x mark s1)
  subst hl
  cases ha:addF x os.length s1 with
  | bad c a=>trivial
  | out=>trivial
  | ok s2 =>
   have hi1:InvF s1 (os ++ (o :: new)):=by have:=hg.inv;rwa [List.append_assoc] at this
   have hko:kindAt (nds s1) o=kindAt (nds s) o:=by
    have:=kindsOf_grew (os:=[o]) hg.more fun j hj=>hi.lt j (by simp at hj;simp [hj])
    injection this
   obtain ⟨hg2,hk2⟩:=add_gives hi1 ha fun _=>by
    show OkN x.k (bstr x.t) x.n x.z x.a (kindAt (nds s1) o :: kindsOf s1 new)
    exact hx _ _ (by rw [hko];exact he) hp
   obtain ⟨M1,hM1⟩:=hg.more
   obtain ⟨M2,hM2⟩:=hg2.more
   refine ⟨s1.N.length,⟨hg2.inv,M1 ++ M2,by rw [hM2,hM1,List.append_assoc]⟩,?_⟩
   injection hk2 with hk2
   rw [hk2];exact hk
end
section
open Go.RowKit
open Tk (T4 bstr)
open Tr (Nd Blk KidsAt)
def TookPost (B T E:Nat) (w:World) (s:S3) (l:List UInt8) (e:Ending) (w':World):Prop :=
 Ext B w w'∧(((pk E s.L).t=l∧e=.returned (.bool true)∧Ps B T E w' { s with L:=s.L.tail })∨((pk E s.L).t≠l∧e=.returned (.bool false)∧Ps B T E w' s))
theorem took_any {B T E:Nat}{w:World}{s:S3}(h:Ps B T E w s) (x:ByteArray) :
  Calls Tryz.prog 111 #[.pointer (some ⟨B,0,none⟩),.string x] w (TookPost B T E w s x.data.toList):=by
 have hs:=sees_any h x
 have H:=Lib.hid h
 have hB:=h.lt
 clear h
 by_cases ht:(pk E s.L).t=x.data.toList
 ·have hd:decide ((pk E s.L).t=x.data.toList)=true:=decide_eq_true ht
  rw [hd] at hs
  have Ht:=Lib.hid ht
  clear ht hd
  go_enter Tryz.func111,Tryz.ntmps111
  go_wp2_with (go_at_call 161;refine hs.mono ?_;rintro e w1 ⟨rfl,hb⟩)
  have hk:=take_any (H.out.below hb)
  have HB:=Lib.hid hb
  clear hb hs
  go_wp2_with (go_at_call 106;refine hk.mono ?_)
  rintro e w2 ⟨rfl,hx,hp⟩
  have HX:=Lib.hid hx
  have HP:=Lib.hid hp
  clear hx hp hk
  go_wp2
  go_ret
  exact ⟨(Ext.below HB.out hB).trans HX.out,Or.inl ⟨Ht.out,rfl,HP.out⟩⟩
 ·have hd:decide ((pk E s.L).t=x.data.toList)=false:=decide_eq_false ht
  rw [hd] at hs
  have Ht:=Lib.hid ht
  clear ht hd
  go_enter Tryz.func111,Tryz.ntmps111
  go_wp2_with (go_at_call 161;refine hs.mono ?_;rintro e w1 ⟨rfl,hb⟩)
  go_ret
  exact ⟨Ext.below hb hB,Or.inr ⟨Ht.out,rfl,H.out.below hb⟩⟩
theorem wrong_any {B T E:Nat}{w:World}{s:S3}(h:Ps B T E w s) :
  Calls Tryz.prog 64 #[.pointer (some ⟨B,0,none⟩)] w fun e w'=>e=.returned (errV 1 (pk E s.L).a)∧Below w.heap.size w w':=by
 have hp:=peek_any h
 unfold tokV at hp
 have hf:=fldT3
 generalize pk E s.L=t at *
 go_enter Tryz.func64,Tryz.ntmps64
 go_wp2_with (go_at_call 59;refine hp.mono ?_;rintro e w1 ⟨rfl,hb⟩)
 go_ret
 exact ⟨rfl,hb⟩
theorem word_any {B:Nat}(x:ByteArray) (w:World) :
  Calls Tryz.prog 61 #[.pointer (some ⟨B,0,none⟩),.string x] w fun e w'=>e=.returned (.func (.func 110) #[] #[.pointer (some ⟨w.heap.size,0,none⟩),.pointer (some ⟨w.heap.size+1,0,none⟩)]) ∧
   w' = (w.alloc (.cells #[.pointer (some ⟨B,0,none⟩)] 84)).alloc (.cells #[.string x] 9):=by
 go_enter Tryz.func61,Tryz.ntmps61
 go_wp2
 go_ret
 exact ⟨rfl,rfl⟩
theorem wordc_any {B T E:Nat}{w:World}{s:S3}(h:Ps B T E w s) (g1 g2:Nat) (x:ByteArray) (h1:w.cell? ⟨g1,0,none⟩=some (.pointer (some ⟨B,0,none⟩))) (h2:w.cell? ⟨g2,0,none⟩=some (.string x)) (hn1:g1<w.heap.size) (hn2:¬ Own B w g1) :
  Calls Tryz.prog 110 #[.pointer (some ⟨g1,0,none⟩),.pointer (some ⟨g2,0,none⟩)] w (Did B T E w (wordF E x.data.toList s)):=by
 have ht:=took_any h x
 have HN1:=Lib.hid hn1
 have HN2:=Lib.hid hn2
 have H1:=Lib.hid h1
 obtain ⟨Q,hQ⟩:=exE (Did B T E w (wordF E x.data.toList s))
 rw [← hQ]
 have HQ:=Lib.hid hQ
 clear hQ h hn1 hn2
 go_enter Tryz.func110,Tryz.ntmps110
 go_wp2_with (go_at_call 111;refine ht.mono ?_)
 rintro e w1 ⟨hx,⟨hd,rfl,hp⟩ | ⟨hd,rfl,hp⟩⟩
 ·have HX:=Lib.hid hx
  have HP:=Lib.hid hp
  have HD:=Lib.hid hd
  clear hx hp hd
  go_wp2
  rw [HQ.out]
  unfold wordF
  rw [if_pos HD.out]
  exact ⟨rfl,HX.out,HP.out⟩
 ·have HX:=Lib.hid hx
  have HD:=Lib.hid hd
  have hw:=wrong_any hp
  have h1':w1.cell? ⟨g1,0,none⟩=some (.pointer (some ⟨B,0,none⟩)):=(hx.cell (p:=⟨g1,0,none⟩) HN1.out HN2.out).trans H1.out
  have hB:=hp.lt
  clear hx hd hp ht
  go_wp2_with (go_at_call 64;refine hw.mono ?_)
  rintro e w2 ⟨rfl,hb⟩
  go_wp2
  rw [HQ.out]
  unfold wordF
  rw [if_neg HD.out]
  exact ⟨rfl,HX.out.trans (Ext.below hb hB)⟩
theorem mark_any {B T E:Nat}{w:World}{s:S3}(h:Ps B T E w s) :
  Calls Tryz.prog 57 #[.pointer (some ⟨B,2,none⟩)] w fun e w'=>e=.returned (.int .i64 s.O.length)∧w=w':=by
 obtain ⟨vT,vN,vL,ns,h⟩:=h
 have hl:=h.loo.2
 have g0:w.cell? ⟨B,3,none⟩=some vL:=by rw [h.box.cell];rfl
 have h1:=h.lenO
 have h2:=h.lenN
 obtain ⟨p,cap,rfl⟩ : ∃ p cap,vL=.slice p s.O.length cap:=by
  rcases hl with ⟨rfl,h0⟩ | ⟨g,cap,cur,hv,_⟩
  ·exact ⟨none,0,by rw [h0]⟩
  ·exact ⟨_,_,hv⟩
 generalize s.O.length=n at *
 clear hl h
 go_enter Tryz.func57,Tryz.ntmps57
 go_wp2
 go_ret
 exact ⟨rfl,rfl⟩
end
section
open Go.RowKit
open Tk (T4 bstr)
open Tr (Nd Blk KidsAt)
def StepV (B T E:Nat) (w0:World) (v:Value) (f:F3):Prop :=
 ∃ id bound caps,v=.func (.func id) bound caps∧(∀ args w,(callFunc id args).run Tryz.prog w=.ok (.enter id args) w)∧∀ w s,Ext B w0 w→Ps B T E w s→f s≠.out→Calls Tryz.prog id (bound ++ caps) w (Did B T E w (f s))
theorem StepV.ext {B T E:Nat}{w0 w1:World}{v:Value}{f:F3}(h:StepV B T E w0 v f) (hx:Ext B w0 w1):StepV B T E w1 v f:=by
 obtain ⟨id,bound,caps,hv,he,h⟩:=h
 exact ⟨id,bound,caps,hv,he,fun w s h1 h2 h3=>h w s (hx.trans h1) h2 h3⟩
def Steps (B T E:Nat) (w:World) (p:Option Addr) (vs:List Value) (fs:List F3):Prop :=
 vs.length=fs.length∧vs.length≤1000∧(0<vs.length→∃ g,p=some ⟨g,0,none⟩∧g<w.heap.size∧¬ Own B w g∧∀ j,(h:j<vs.length)→w.cell? ⟨g,j,none⟩=some vs[j]) ∧
 ∀ j,(h1:j<vs.length)→(h2:j<fs.length)→StepV B T E w vs[j] fs[j]
def Mid (fs:List F3) (r:R3) (k:Nat) (s1:S3):Prop:=k≤fs.length∧r=seqF (fs.drop k) s1
theorem Mid.step {fs:List F3}{r:R3}{k:Nat}{s1:S3}(h:Mid fs r k s1) (hk:k<fs.length):r=(fs[k] s1).bind (seqF (fs.drop (k+1))):=by
 rw [h.2,List.drop_eq_getElem_cons hk];rfl
theorem inTurn_any {B T E:Nat}{w:World}{s:S3}{p:Option Addr}{cap:Nat}{vs:List Value}{fs:List F3}(h:Ps B T E w s) (hS:Steps B T E w p vs fs) (hr:seqF fs s≠.out) :
  Calls Tryz.prog 27 #[.slice p vs.length cap] w (Did B T E w (seqF fs s)):=by
 obtain ⟨r,hrr⟩:=exE (seqF fs s)
 rw [← hrr] at hr ⊢
 have HR0:=Lib.hid hr
 obtain ⟨Q,hQ⟩:=exE (Did B T E w r)
 rw [← hQ]
 have HQ:=Lib.hid hQ
 clear hQ hr
 obtain ⟨hl,hm,hc,hv⟩:=hS
 obtain ⟨n,hn⟩:=exE (vs.length)
 have H:=Lib.hid h
 have Hl:=Lib.hid hl
 have HC:=Lib.hid hc
 have HV:=Lib.hid hv
 have HM0:Hid (Mid fs r 0 s):=⟨Nat.zero_le _,by rw [hrr];rfl⟩
 rw [← hn] at hm ⊢
 have Hn:=Lib.hid hn
 clear h hl hc hv hrr hn
 go_enter Tryz.func27,Tryz.ntmps27
 go_wp2
 go_loopw [8] (fun v wr=>∃ (k:Nat) (s1:S3),k≤n∧v=.int .i64 k∧Hid (Mid fs r k s1)∧Ext B w wr∧Ps B T E wr s1) (fun v _=>n-(intOf v).toNat)
 case atStart=>exact ⟨0,s,Nat.zero_le _,rfl,HM0,Ext.refl _ _,H.out⟩
 case round =>
  obtain ⟨k,s1,hk,rfl,HM,hx,hp⟩:=hrel
  have HX:=Lib.hid hx
  have HP:=Lib.hid hp
  clear hx hp
  by_cases hlt:k<n
  ·have hkv:k<vs.length:=by have:=Hn.out;omega
   have hkf:k<fs.length:=by have:=Hn.out;have:=Hl.out;omega
   obtain ⟨g,rfl,hg1,hg2,hg3⟩:=HC.out (by omega)
   have c0:wr.cell? ⟨g,k,none⟩=some vs[k]:=(HX.out.cell (p:=⟨g,k,none⟩) hg1 hg2).trans (hg3 k hkv)
   obtain ⟨id,bound,caps,hvk,hent,hst⟩:=HV.out k hkv hkf
   rw [hvk] at c0
   have hstep:=HM.out.step hkf
   have hne:fs[k] s1≠.out:=fun e=>HR0.out (by rw [hstep,e];rfl)
   have hcall:=hst wr s1 HX.out HP.out hne
   have HSt:=Lib.hid hstep
   clear hst hvk hstep hne hg3 hg1 hg2
   go_wp2_with (refine hcall.mono ?_)
   intro e w2 hd
   cases hf:fs[k] s1 with
   | out=>rw [hf] at hd;exact absurd (by rw [HSt.out,hf];rfl) HR0.out
   | bad c a =>
    rw [hf] at hd
    obtain ⟨rfl,hx2⟩:=hd
    have HX2:=Lib.hid (HX.out.trans hx2)
    have HRb:Hid (r=.bad c a):=by have h:=HSt.out;rw [hf] at h;exact h
    clear hcall hent hf hx2 c0
    unfold errV
    go_wp2
    rw [HQ.out,HRb.out]
    exact ⟨rfl,HX2.out⟩
   | ok s2 =>
    rw [hf] at hd
    obtain ⟨rfl,hx2,hp2⟩:=hd
    have HX2:=Lib.hid (HX.out.trans hx2)
    have HP2:=Lib.hid hp2
    have HM2:Hid (Mid fs r (k+1) s2):=⟨by omega,by have h:=HSt.out;rw [hf] at h;exact h⟩
    clear hcall hent hf hx2 hp2 c0
    go_wp2
    go_roundw
    case rel=>exact ⟨k+1,s2,by omega,by go_num,HM2,HX2.out,HP2.out⟩
    case measure=>simp [intOf];omega
  ·have hkn:k=n:=by omega
   have HRk:Hid (r=.ok s1):=by
    have h:=HM.out.2
    rw [List.drop_eq_nil_of_le (by have:=Hn.out;have:=Hl.out;omega)] at h
    exact h
   clear HC HV
   go_wp2
   rw [HQ.out,HRk.out]
   exact ⟨rfl,HX.out,HP.out⟩
end
end Go.Proofs.YtbjacclfhgnffaaGreatDoor
