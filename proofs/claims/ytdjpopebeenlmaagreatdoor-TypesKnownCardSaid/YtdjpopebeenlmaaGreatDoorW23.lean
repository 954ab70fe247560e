/-
  Joined texts of this claim: TrZa, TrZc.
-/
import Derived.Test.YtdjpopebeenlmaaGreatDoorW00
import Derived.Test.YtdjpopebeenlmaaGreatDoorW11
import Derived.Test.YtdjpopebeenlmaaGreatDoorRows
import Derived.SizedLaws
import Derived.Deep.Slices
import Derived.Deep.Fields
import Derived.ChangeSame
import Derived.Carry
import Derived.ProofKit
import Derived.OpenShut
set_option maxHeartbeats 40000000
set_option maxRecDepth 100000
set_option linter.unusedVariables false
set_option linter.unusedSimpArgs false
namespace Go.Proofs.YtdjpopebeenlmaaGreatDoor
section
namespace Tr
open Go.ChangeShapes Go.WideShapes Go.Deep Go.RowKit

section
variable {H:Type}{enc:TypeId × Value→H}{P:Program}{w:World}{base:Nat}{spare:Nat→Bool}{held:Bool}
theorem open_slice_fields {t e:TypeId}{fs:Array Field}{fuel:Nat}{cs:List Value}{x:DataW H × List MemPlace}(ht:P.underlying t=some (.slice e)) (he:P.underlying e=some (.struct fs))
    (hone:oneCellFields P fs=true) (hC:P.cellsOf e=fs.size) (h:DataW.trod enc P w base spare held fuel t cs=some x) :
    (cs=[.slice none 0 0]∧x=(.nil,[])) ∨
    ∃ (a:Addr) (len cap m:Nat) (D:Nat→DataW H) (Pl:Nat→List MemPlace),cs=[.slice (some a) len cap]∧base≤a.block∧len≤cap∧cap≤maxLen∧m=(if spare a.block then cap else len) ∧
      x=(.slice ((List.range len).map D) ((List.range (m-len)).map fun j=>D (len+j)),MemPlace.row a (m * fs.size) ++ (List.range m).flatMap Pl) ∧
      ∀ i,i<m→∃ (ys:List (DataW H × List MemPlace)) (n:Nat),D i=.agg (ys.map (·.1))∧Pl i=ys.flatMap (·.2)∧ys.length=fs.size ∧
        ∀ (j:Nat) (f:Field),fs[j]? = some f→∃ (v:Value) (y:DataW H × List MemPlace),w.cell? (a.add (i * fs.size+j))=some v∧ys[j]? = some y∧DataW.trod enc P w base spare held n f.type [v]=some y:=by
  rcases open_slice ht h with h0 | ⟨a,len,cap,m,n,D,Pl,hcs,hb,hl,hm,hmm,hx,hi⟩
  · exact .inl h0
  · refine .inr ⟨a,len,cap,m,D,Pl,hcs,hb,hl,hm,hmm,by rw [hC] at hx;exact hx,fun i him=>?_⟩
    obtain ⟨cs',hc,ht'⟩:=hi i him
    rw [hC] at hc
    obtain ⟨ys,n',hn',hy,hlen,hyl,hf⟩:=DataW.trod_struct he ht'
    obtain ⟨_,hcl,hat⟩:=World.cells?_some hc
    simp only [Prod.mk.injEq] at hy
    refine ⟨ys,n',hy.1,hy.2,hyl,fun j f hj=>?_⟩
    obtain ⟨ho,hk⟩:=hone_of hone j f hj
    have hjl:j<fs.size:=(Array.getElem?_eq_some_iff.1 hj).1
    have hcell:=hat j hjl
    have hv:cs'[j]? = some (cs'[j]'(by omega)):=List.getElem?_eq_getElem (by omega)
    have h1:=hf j f hj
    rw [ho,hk] at h1
    have hone':(cs'.drop j).take 1=[cs'[j]'(by omega)]:=by
      rw [List.drop_eq_getElem_cons (by omega)]
      rfl
    rw [hone'] at h1
    have hys:ys[j]? = some (ys[j]'(by omega)):=List.getElem?_eq_getElem (by omega)
    refine ⟨_,_,?_,hys,h1.trans hys⟩
    rw [← Go.Deep.add_add,hcell,hv]
end

theorem build_list {α:Type}{P:Nat→α→Prop}:∀ (n:Nat),(∀ i,i<n→∃ t,P i t)→∃ l:List α,l.length=n∧∀ i,(h:i<l.length)→P i l[i]:=by
  intro n
  induction n with
  | zero=>intro _;exact ⟨[],rfl,fun i h=>by simp at h⟩
  | succ n ih =>
    intro h
    obtain ⟨l,hl,hp⟩:=ih fun i hi=>h i (by omega)
    obtain ⟨t,ht⟩:=h n (by omega)
    refine ⟨l ++ [t],by simp [hl],fun i hi=>?_⟩
    by_cases e:i<l.length
    · rw [List.getElem_append_left e];exact hp i e
    · have e2:i=l.length:=by simp at hi;omega
      subst e2
      rw [List.getElem_append_right (by omega)]
      simp only [Nat.sub_self,List.getElem_cons_zero]
      rw [hl];exact ht
theorem weightsAll_mem {H:Type}{P:Program}{e:TypeId}{l:List (DataW H)}{d:DataW H}(hd:d ∈ l):∀ n ∈ d.weights P e,n ∈ DataW.weightsAll P e l:=by
  induction l with
  | nil=>cases hd
  | cons x l ih =>
    intro n hn
    simp only [DataW.weightsAll,List.mem_append]
    rcases List.mem_cons.1 hd with rfl | h
    · exact Or.inl hn
    · exact Or.inr (ih h n hn)
theorem addr_plain (b off j:Nat):((⟨b,off,none⟩ : Addr).add j)=⟨b,off+j,none⟩:=by unfold Addr.add;split <;> simp_all
theorem bulkAll_mem {H:Type}{l:List (DataW H)}{d:DataW H}(hd:d ∈ l):Rows.uptoBulk d≤Rows.uptoBulkAll l:=by
  induction l with
  | nil=>cases hd
  | cons x l ih =>
    simp only [Rows.uptoBulkAll]
    rcases List.mem_cons.1 hd with rfl | h
    · omega
    · have:=ih h;omega
theorem bulkAll_len {H:Type}{k:IntKind}(zs:List Int):(zs.length:Nat)≤Rows.uptoBulkAll (lits (H:=H) k zs):=by
  induction zs with
  | nil=>simp
  | cons x zs ih=>simp only [lits,List.map_cons,Rows.uptoBulkAll,Rows.uptoBulk,List.length_cons] at *;omega

section
variable {H:Type}{enc:TypeId × Value→H}{P:Program}{w:World}{base:Nat}{spare:Nat→Bool}{held:Bool}
theorem open_agg1 {r:Reach}{b0:Nat}{t:TypeId}{f0:Field}{v:Value}{d:DataW H}{p:List MemPlace}(hs:P.underlying t=some (.struct #[f0])) (hone:oneCellFields P #[f0]=true) (hC:P.cellsOf t=1)
    (hv:Value.okWide P w r b0 t v) (h:DataW.Trod enc P w base spare held t v d p) :
    ∃ (v0:Value) (y0:DataW H × List MemPlace) (n:Nat),v=.agg #[v0]∧d=.agg [y0.1]∧p=y0.2∧DataW.trod enc P w base spare held n f0.type [v0]=some y0:=by
  obtain ⟨cs,rfl,hsz⟩:=okWide_struct hs hv
  obtain ⟨cl⟩:=cs
  have hsz1:cl.length=1:=hsz.trans hC
  match cl,hsz1 with
  | [v0],_ =>
    obtain ⟨fuel,hf⟩:=h
    obtain ⟨y0,n,hx,_,h0⟩:=trod_struct1 hs hf
    obtain ⟨o0,k0⟩:=hone_of hone 0 f0 rfl
    simp only [Prod.mk.injEq] at hx
    exact ⟨v0,y0,n,rfl,hx.1,hx.2,by simpa [Value.cells,o0,k0] using h0⟩
end

end Tr
end
section
namespace Tr
open Go.ChangeShapes Go.WideShapes Go.Deep Go.RowKit
theorem open_kidsC {H:Type}{enc:TypeId × Value→H}{W:World}{fuel:Nat}{v:Value}{y:DataW H × List MemPlace}(h:DataW.trod enc Tryz.prog W 0 (fun _=>true) true fuel 32 [v]=some y) :
    ∃ (p:Option Addr) (cap:Nat) (c:List Int),v=.slice p c.length cap∧KidsAt W p c∧c.length≤Rows.uptoBulk y.1∧(∀ R,(∀ n ∈ y.1.weights Tryz.prog 32,n≤R)→c.length * 8≤R)∧c.length≤cap:=by
  rcases open_ints Tryz.underlying32 Tryz.underlying3 (by kernel_rfl) h with ⟨hcs,hx⟩ | ⟨a,len,cap,zs,hcs,_,hl,_,hz,hx,hc,_⟩
  · simp at hcs
    subst hcs
    exact ⟨none,0,[],rfl,fun h=>by simp at h,by simp,fun R _=>by simp,Nat.le_refl _⟩
  · simp at hcs
    subst hcs
    have hzl:zs.length=cap:=by simpa using hz
    have hlen:(zs.take len).length=len:=by rw [List.length_take];omega
    refine ⟨some a,cap,zs.take len,by rw [hlen],fun h0=>?_,?_,fun R hR=>?_,by rw [hlen];omega⟩
    · have h1:=hc 0 (by omega)
      obtain ⟨b,off,spot⟩:=a
      have hspot:spot=none:=by simpa [Addr.add] using World.cell?_spot h1
      subst hspot
      refine ⟨b,off,rfl,?_,fun j hj=>?_⟩
      · have:=World.block_lt_of_cell? W _ h1
        rw [addr_plain] at this
        exact this
      · rw [hlen] at hj
        have:=hc j (by omega)
        rw [addr_plain] at this
        rw [this]
        have hjz:j<zs.length:=by omega
        simp [hjz]
    · rw [hx]
      simp only [Rows.uptoBulk]
      have:=bulkAll_len (H:=H) (k:=.i64) (zs.take len)
      omega
    · have hb:Tryz.prog.bytesOf 3=8:=by kernel_rfl
      have:=hR _ (by rw [hx];simp only [DataW.weights,Tryz.underlying32,List.mem_cons];exact Or.inl rfl)
      rw [hb] at this
      rw [hlen]
      simp only [lits,List.length_map,List.length_take,List.length_drop] at this
      omega

set_option maxHeartbeats 2000000 in
set_option maxRecDepth 100000 in
theorem open_treeC {H:Type}{enc:TypeId × Value→H}{W:World}{base:Nat}{v:Value}{d:DataW H}{pl:List MemPlace}
    (hval:Value.okWide Tryz.prog W .any base 24 v) (h:DataW.Trod enc Tryz.prog W 0 (fun _=>true) true 24 v d pl) (hz:∀ n ∈ d.weights Tryz.prog 24,n≤reachBytes) :
    ∃ (l:List Nd) (p:Option Addr) (cap:Nat),v=.agg #[.slice p l.length cap]∧Tr W p l∧l.length≤cap∧l.length * 72≤reachBytes∧(∀ j,(h:j<l.length)→l[j].c.length * 8≤reachBytes∧l[j].t.size≤reachBytes∧l[j].c.length≤Rows.uptoBulk d)∧∀ j,(h:j<l.length)→l[j].c.length≤l[j].cap:=by
  obtain ⟨v0,y0,n,rfl,rfl,_,hf⟩:=open_agg1 Tryz.underlying24 (by kernel_rfl) (by kernel_rfl) hval h
  rcases open_slice_fields Tryz.underlying22 Tryz.underlying34 (by kernel_rfl) (by kernel_rfl) hf with ⟨hcs,hx⟩ | ⟨a,len,cap,m,D,Pl,hcs,hb,hl,hm,hmm,hx,hi⟩
  · simp at hcs
    subst hcs
    exact ⟨[],none,0,rfl,⟨fun h=>by simp at h,fun i h=>by simp at h⟩,Nat.le_refl _,by simp,fun j h=>by simp at h,fun j h=>by simp at h⟩
  · simp at hcs
    subst hcs
    have hmc:m=cap:=by simpa using hmm
    subst hmc
    have hy0:y0.1=.slice ((List.range len).map D) ((List.range (m-len)).map fun j=>D (len+j)):=by rw [hx]
    have hzs:∀ q ∈ (DataW.slice ((List.range len).map D) ((List.range (m-len)).map fun j=>D (len+j))).weights Tryz.prog 22,q≤reachBytes:=fun q hq=>hz q (by
      rw [hy0]
      simp only [DataW.weights,Tryz.underlying24]
      exact DataW.weights_mem_each (j:=0) (t:=22) rfl rfl q hq)
    have hcell:∀ i,i<len→∃ t:Nd,(W.cell? (a.add (i * 6))=some (.int .i64 t.k)∧W.cell? (a.add (i * 6+1))=some (.string t.t)∧W.cell? (a.add (i * 6+2))=some (.int .i64 t.n)∧W.cell? (a.add (i * 6+3))=some (.int .i64 t.z)∧W.cell? (a.add (i * 6+4))=some (.slice t.p t.c.length t.cap)∧W.cell? (a.add (i * 6+5))=some (.int .i64 t.a)) ∧
        KidsAt W t.p t.c∧t.c.length * 8≤reachBytes∧t.t.size≤reachBytes∧t.c.length≤Rows.uptoBulk (DataW.agg (H:=H) [y0.1])∧t.c.length≤t.cap:=by
      intro i hi2
      obtain ⟨ys,n,hD,_,hyl,hfs⟩:=hi i (by omega)
      obtain ⟨v0,y0',hc0,hy0',ht0⟩:=hfs 0 _ rfl
      obtain ⟨v1,y1,hc1,hy1,ht1⟩:=hfs 1 _ rfl
      obtain ⟨v2,y2,hc2,hy2,ht2⟩:=hfs 2 _ rfl
      obtain ⟨v3,y3,hc3,hy3,ht3⟩:=hfs 3 _ rfl
      obtain ⟨v4,y4,hc4,hy4,ht4⟩:=hfs 4 _ rfl
      obtain ⟨v5,y5,hc5,hy5,ht5⟩:=hfs 5 _ rfl
      obtain ⟨k,e0,rfl,_⟩:=DataW.trod_int Tryz.underlying3 ht0
      obtain ⟨s,e1,rfl,_⟩:=DataW.trod_string Tryz.underlying9 ht1
      obtain ⟨q,e2,rfl,_⟩:=DataW.trod_int Tryz.underlying3 ht2
      obtain ⟨r,e3,rfl,_⟩:=DataW.trod_int Tryz.underlying3 ht3
      obtain ⟨p4,cap4,c,rfl,hK,hbu,hwe,hcp⟩:=open_kidsC ht4
      obtain ⟨u,e5,rfl,_⟩:=DataW.trod_int Tryz.underlying3 ht5
      simp at e0 e1 e2 e3 e5
      subst e0;subst e1;subst e2;subst e3;subst e5
      have hmem:D i ∈ (List.range len).map D:=List.mem_map.2 ⟨i,List.mem_range.2 hi2,rfl⟩
      have hin:∀ q ∈ (D i).weights Tryz.prog 34,q≤reachBytes:=fun q hq=>hzs q (by
        simp only [DataW.weights,Tryz.underlying22,List.mem_cons,List.mem_append]
        exact Or.inr (Or.inl (weightsAll_mem hmem _ hq)))
      match ys,hyl,hy0',hy1,hy2,hy3,hy4,hy5 with
      | [z0,z1,z2,z3,z4,z5],_,hy0',hy1,hy2,hy3,hy4,hy5 =>
        simp at hy0' hy1 hy2 hy3 hy4 hy5
        subst hy0';subst hy1;subst hy2;subst hy3;subst hy4;subst hy5
        refine ⟨⟨k,s,q,r,p4,cap4,c,u⟩,⟨hc0,hc1,hc2,hc3,hc4,hc5⟩,hK,hwe _ fun q hq=>hin q ?_,?_,?_,hcp⟩
        · rw [hD]
          simp only [DataW.weights,Tryz.underlying34]
          exact DataW.weights_mem_each (j:=4) (t:=32) rfl rfl q hq
        · have:=hin s.data.toList.length (by rw [hD];simp [DataW.weights,Tryz.underlying34,DataW.weightsEach])
          rw [← Lib.size_eq] at this
          exact this
        · refine Nat.le_trans hbu ?_
          have h2:=bulkAll_mem hmem
          rw [hD] at h2
          rw [hy0]
          simp only [Rows.uptoBulk,Rows.uptoBulkAll,List.map_cons,List.map_nil] at h2 ⊢
          omega
    obtain ⟨l,hln,hlp⟩:=build_list len hcell
    have hlen47:len * 72≤reachBytes:=by
      have hb42:Tryz.prog.bytesOf 34=72:=by kernel_rfl
      have:=hzs _ (by simp only [DataW.weights,Tryz.underlying22,List.mem_cons];exact Or.inl rfl)
      rw [hb42] at this
      simp only [List.length_map,List.length_range] at this
      omega
    refine ⟨l,some a,m,by rw [hln],⟨fun h0=>?_,fun i hi=>(hlp i hi).2.1⟩,by omega,by rw [hln];exact hlen47,fun j hj=>⟨(hlp j hj).2.2.1,(hlp j hj).2.2.2.1,(hlp j hj).2.2.2.2.1⟩,fun j hj=>(hlp j hj).2.2.2.2.2⟩
    have h1:=(hlp 0 h0).1.1
    obtain ⟨b,off,spot⟩:=a
    have hspot:spot=none:=by simpa [Addr.add] using World.cell?_spot h1
    subst hspot
    refine ⟨b,off,rfl,?_,fun i hi=>?_⟩
    · have:=World.block_lt_of_cell? W _ h1
      rw [addr_plain] at this
      exact this
    · have:=(hlp i hi).1
      simp only [addr_plain,← Nat.add_assoc] at this
      exact this
end Tr
end
end Go.Proofs.YtdjpopebeenlmaaGreatDoor
