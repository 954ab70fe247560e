/-
  Joined texts of this claim: Soc, Soe, Soi, Yfa.
-/
import Derived.Test.YtdjpopebeenlmaaGreatDoorW00
import Derived.Test.YtdjpopebeenlmaaGreatDoorW26
import Derived.Test.YtdjpopebeenlmaaGreatDoorW22
import Derived.Test.YtdjpopebeenlmaaGreatDoorW11
import Derived.Test.YtdjpopebeenlmaaGreatDoorW13
set_option maxHeartbeats 40000000
set_option maxRecDepth 100000
set_option linter.unusedVariables false
set_option linter.unusedSimpArgs false
namespace Go.Proofs.YtdjpopebeenlmaaGreatDoor
section
namespace Sc
open Go.RowKit
open Tr
open Tk (bstr)

section
variable {l l':List Nd}
theorem roomF_congr (ht:tx l=tx l'):roomF l=roomF l':=by
  funext E r s;unfold roomF;rw [ht]
theorem findF_congr (ht:tx l=tx l'):findF l=findF l':=by
  funext E s n
  induction n with
  | zero=>rfl
  | succ n ih=>simp only [findF];rw [roomF_congr ht,ih]
theorem declF_congr (ht:tx l=tx l'):declF l=declF l':=by
  funext now k E;unfold declF;rw [roomF_congr ht,ht]
theorem own_congr (hk:kindAt l=kindAt l') (ht:tx l=tx l'):own l=own l':=by
  funext now k E
  unfold own nameF callF
  rw [hk,declF_congr ht,findF_congr ht,roomF_congr ht,ht]
theorem look_congr (hk:kindAt l=kindAt l') (hc:kidsAt l=kidsAt l') (ht:tx l=tx l'):look l=look l':=by
  funext f
  induction f with
  | zero=>funext now k E;rfl
  | succ f ih =>
    funext now k E
    have hkk:kidsF l (look l f)=kidsF l' (look l' f):=by funext now k E;unfold kidsF;rw [hk,hc,ih]
    simp only [look]
    rw [hk,hkk,own_congr hk ht]
theorem tops_congr (ht:tx l=tx l'):tops l=tops l':=by
  funext c
  induction c with
  | nil=>rfl
  | cons x c ih=>funext E;simp only [tops];rw [ht,declF_congr ht,ih]
theorem namesF_congr (hl:l.length=l'.length) (hk:kindAt l=kindAt l') (hc:kidsAt l=kidsAt l') (ht:tx l=tx l'):namesF l=namesF l':=by
  unfold namesF
  rw [hl,hk,hc,tops_congr ht]
  have hf:finF l=finF l':=by funext r;unfold finF;rw [hl]
  rw [hf,look_congr hk hc ht]
end
end Sc
end
section
namespace Sc
open Go.RowKit
open Tr

def inL (n a b:Int):Bool:=decide (a≤n∧n≤b)
theorem in20_any (n a b:Int) (w:World) :
    Calls Tryz.prog 20 #[.int .i64 n,.int .i64 a,.int .i64 b] w fun e w'=>e=.returned (.bool (inL n a b))∧w=w':=by
  go_enter Tryz.func20,Tryz.ntmps20
  go_wp2
  all_goals go_ret
  all_goals exact ⟨ret_bool (by go_light;rw [Bool.eq_iff_iff];simp [inL] at *;try omega),rfl⟩
end Sc
end
section
namespace Sc
open Go.RowKit
open Tr
open Go.Proofs.YtdjpopebeenlmaaGreatDoor (rowN cells6 rowN_snoc)

theorem rowN_get (l:List Nd) (i:Nat) (h:i<l.length):(rowN l)[i * 6]? = some (.int .i64 l[i].k)∧(rowN l)[i * 6+1]? = some (.string l[i].t)∧(rowN l)[i * 6+2]? = some (.int .i64 l[i].n)∧(rowN l)[i * 6+3]? = some (.int .i64 l[i].z)∧(rowN l)[i * 6+4]? = some (.slice l[i].p l[i].c.length l[i].cap)∧(rowN l)[i * 6+5]? = some (.int .i64 l[i].a):=by
  induction l generalizing i with
  | nil=>simp at h
  | cons t l ih =>
    cases i with
    | zero=>simp [rowN,cells6]
    | succ i =>
      have:=ih i (by simpa using h)
      have e:∀ j,(rowN (t :: l))[(i+1) * 6+j]? = (rowN l)[i * 6+j]?:=fun j=>by
        show (cells6 t ++ rowN l)[_]? = _
        rw [List.getElem?_append_right (by simp [cells6];omega)]
        congr 1
        simp [cells6];omega
      have e0:=e 0
      simp only [Nat.add_zero] at e0
      rw [e0,e 1,e 2,e 3,e 4,e 5]
      simpa using this
theorem tr_row {w:World}{B n cap:Nat}{p:Option Addr}{l:List Nd}(h:w.ownsRow B 34 6 (.slice p n cap) n (rowN l)) (hn:n=l.length) (hK:∀ i,(h:i<l.length)→KidsAt w l[i].p l[i].c):Tr.Tr w p l:=by
  subst hn
  refine ⟨fun h0=>?_,hK⟩
  have hlt:=h.lt
  have hcs:=fun g hg=>World.ownsRow.cells h (g:=g) hg
  rcases h.2 with ⟨hv,h1⟩ | ⟨g,cap',cur,hv,_⟩
  · omega
  · injection hv with hv
    subst hv
    refine ⟨g,0,rfl,(hlt g rfl).2,fun i hi=>?_⟩
    obtain ⟨r0,r1,r2,r3,r4,r5⟩:=rowN_get l i hi
    have e:∀ j,((⟨g,0,none⟩ : Addr).add j)=⟨g,0+j,none⟩:=fun j=>by unfold Addr.add;split <;> simp_all
    have a0:=hcs g rfl _ _ r0
    have a1:=hcs g rfl _ _ r1
    have a2:=hcs g rfl _ _ r2
    have a3:=hcs g rfl _ _ r3
    have a4:=hcs g rfl _ _ r4
    have a5:=hcs g rfl _ _ r5
    rw [e] at a0 a1 a2 a3 a4 a5
    rw [← Nat.add_assoc] at a1 a2 a3 a4 a5
    exact ⟨a0,a1,a2,a3,a4,a5⟩
theorem row_cap {w:World}{B e s n cap:Nat}{p:Option Addr}{xs:List Value}(h:w.ownsRow B e s (.slice p n cap) n xs):n≤cap:=by
  rcases h.2 with ⟨hv,h0⟩ | ⟨g,cap',cur,hv,_,_,hc,_⟩
  · injection hv with _ h1 h2;omega
  · injection hv with _ h1 h2;omega
theorem row_shape {w:World}{B e s n:Nat}{v:Value}{xs:List Value}(h:w.ownsRow B e s v n xs):∃ p cap,v=.slice p n cap:=by
  rcases h.2 with ⟨rfl,h0⟩ | ⟨g,cap,cur,hv,_⟩
  · rw [h0];exact ⟨none,0,rfl⟩
  · exact ⟨_,_,hv⟩
theorem own_far {w:World}{base e size n:Nat}{v:Value}{xs:List Value}(h:w.ownsRow base e size v n xs) {p:Addr}(hp:∀ g,v.ownBlock=some g→g≠p.block) (u:Value):(w.setCell p u).ownsRow base e size v n xs:=by
  obtain ⟨h1,h2⟩:=h
  refine ⟨h1,?_⟩
  rcases h2 with h0 | ⟨g,cap,cur,rfl,hb,hg,r⟩
  · exact Or.inl h0
  · exact Or.inr ⟨g,cap,cur,rfl,hb,(Below.heap_setCell w p u g (hp g rfl)).trans hg,r⟩
theorem news_node (w:World) (x0 x1 x2 x3 x4 x5:Value):∀ j u,[x0,x1,x2,x3,x4,x5][j]? = some u→(w.alloc (.cells #[x0,x1,x2,x3,x4,x5] 34)).cell? ((⟨w.heap.size,0,none⟩ : Addr).add j)=some u:=by
  intro j u hu
  have e:((⟨w.heap.size,0,none⟩ : Addr).add j)=⟨w.heap.size,0+j,none⟩:=by unfold Addr.add;split <;> simp_all
  rw [e,(Blk.new w 34 #[x0,x1,x2,x3,x4,x5]).cell]
  rw [Nat.zero_add,← hu]
  simp
theorem tx_tb2 {l:List Nd}{k:Nat}(hk:k<l.length) {t:ByteArray}(ht:t=l[k].t):t.toList=tx l k:=by rw [ht,Lib.toList_data];simp [tx,hk]
end Sc
end
section
namespace Ty
open Go.RowKit
open Tr Sc
open Tk (bstr)

section
variable {l l':List Nd}
/-- two trees that are alike but for where they stand -/
structure Al (l l':List Nd):Prop where
  len:l.length=l'.length
  kind:kindAt l=kindAt l'
  kids:kidsAt l=kidsAt l'
  text:tx l=tx l'
  num:numOf l=numOf l'
theorem arrB_al (h:Al l l'):arrB l=arrB l':=by funext ns k;unfold arrB;simp only [h.num]
theorem placeB_al (h:Al l l'):placeB l=placeB l':=by funext ns k;unfold placeB;simp only [h.kind,h.text,arrB_al h]
theorem memB_al (h:Al l l'):memB l=memB l':=by funext ns k;unfold memB;simp only [h.kind]
theorem oneF_al (h:Al l l'):oneF l=oneF l':=by funext ns s k x;unfold oneF;simp only [placeB_al h,memB_al h]
theorem parsF_al (h:Al l l'):parsF l=parsF l':=by funext b;unfold parsF;simp only [h.kids,h.num]
theorem calleeF_al (h:Al l l'):calleeF l=calleeF l':=by funext ns k;unfold calleeF;simp only [parsF_al h,h.num,h.text]
theorem ktF_al (h:Al l l'):ktF l=ktF l':=by funext fs k;unfold ktF;simp only [h.kids]
theorem nameT_al (h:Al l l'):nameT l=nameT l':=by funext ns k;unfold nameT;simp only [arrB_al h,h.num]
theorem exprF_al (h:Al l l'):exprF l=exprF l':=by funext ns fs k;unfold exprF;simp only [ktF_al h,h.kind,nameT_al h,calleeF_al h,oneF_al h,h.text,h.kids,placeB_al h]
theorem parN_al (h:Al l l'):parN l=parN l':=by funext n ps;unfold parN;simp only [h.kids]
theorem parF_al (h:Al l l'):parF l=parF l':=by unfold parF;simp only [parN_al h,h.len]
theorem outsF_al (h:Al l l'):outsF l=outsF l':=by funext k;unfold outsF;simp only [parF_al h,h.len]
theorem tellsF_al (h:Al l l'):tellsF l=tellsF l':=by funext k;unfold tellsF;simp only [outsF_al h,h.kind,h.num]
theorem inB_al (h:Al l l'):inB l=inB l':=by funext k c;unfold inB;simp only [outsF_al h,h.kind]
theorem condB_al (h:Al l l'):condB l=condB l':=by funext fs k i;unfold condB;simp only [h.kind,h.kids,ktF_al h]
theorem initB_al (h:Al l l'):initB l=initB l':=by funext fs k;unfold initB;simp only [ktF_al h,h.num]
theorem retB_al (h:Al l l'):retB l=retB l':=by funext fs k;unfold retB;simp only [tellsF_al h,h.kids,ktF_al h]
theorem actF_al (h:Al l l'):actF l=actF l':=by funext fs k;unfold actF;simp only [h.kind,initB_al h,condB_al h,ktF_al h,retB_al h,inB_al h]
theorem chkF_al (h:Al l l'):chkF l=chkF l':=by funext ns fs k;unfold chkF;simp only [h.kind,exprF_al h,actF_al h]
theorem runF_al (h:Al l l'):runF l=runF l':=by
  funext ns f
  induction f with
  | zero=>rfl
  | succ f ih=>funext k fs;simp only [runF,chkF_al h,ih]
theorem mainN_al (h:Al l l'):mainN l=mainN l':=by unfold mainN;simp only [h.len,h.kind,h.text]
theorem mainF_al (h:Al l l'):mainF l=mainF l':=by unfold mainF;simp only [mainN_al h,parsF_al h]
theorem typesN_al (h:Al l l'):typesN l=typesN l':=by funext ns;unfold typesN;simp only [runF_al h,mainF_al h,h.len]
theorem typesF_al (h:Al l l'):typesF l=typesF l':=by unfold typesF;rw [namesF_congr h.len h.kind h.kids h.text,typesN_al h]
end
theorem al_bare {ns:List Nd}{N:List Mn}(h:ns.map bare=N):Al ns (N.map ndOf):=by
  subst h
  refine ⟨by simp,?_,?_,?_,?_⟩
  · funext j;unfold kindAt;rw [List.getElem?_map,List.getElem?_map];cases ns[j]? <;> rfl
  · funext j;unfold kidsAt;rw [List.getElem?_map,List.getElem?_map];cases ns[j]? <;> rfl
  · funext j;unfold tx;rw [List.getElem?_map,List.getElem?_map]
    cases hj:ns[j]? with
    | none=>rfl
    | some x=>show _=(bstr x.t.data.toList).data.toList;rw [bstr_data];rfl
  · funext j;unfold numOf;rw [List.getElem?_map,List.getElem?_map];cases ns[j]? <;> rfl
theorem types_bare {ns:List Nd}{N:List Mn}(h:ns.map bare=N):typesF ns=typesF (N.map ndOf):=typesF_al (al_bare h)
def factT1 (N:List Mn):Bool:=N.length == 11 && (match typesF (N.map ndOf) with | .ok fs=>fs.length == 11 && fs[5]? == some 2 | _=>false)
def factT2 (N:List Mn):Bool:=match typesF (N.map ndOf) with | .bad c _=>c == 8 | _=>false
set_option maxRecDepth 100000 in
theorem fact_types1:∃ s,UnitOf [105,110,116,32,97,91,51,93,59,32,105,110,116,32,109,97,105,110,40,41,32,123,32,114,101,116,117,114,110,32,38,97,91,49,93,32,45,32,97,59,32,125] (.ok s)∧factT1 s.N=true∧CkN s.N 0 0:=by
  have h:((parseU [105,110,116,32,97,91,51,93,59,32,105,110,116,32,109,97,105,110,40,41,32,123,32,114,101,116,117,114,110,32,38,97,91,49,93,32,45,32,97,59,32,125]).map fun N=>factT1 N && ckB (N.map ndOf))=some true:=by decide +kernel
  cases hN:parseU [105,110,116,32,97,91,51,93,59,32,105,110,116,32,109,97,105,110,40,41,32,123,32,114,101,116,117,114,110,32,38,97,91,49,93,32,45,32,97,59,32,125] with
  | none=>rw [hN] at h;cases h
  | some N =>
    rw [hN] at h
    obtain ⟨s,hs,rfl⟩:=unitOf_eval hN (by decide)
    have h2:(factT1 s.N && ckB (s.N.map ndOf))=true:=by simpa using h
    obtain ⟨h3,h4⟩:=(Bool.and_eq_true _ _).mp h2
    exact ⟨s,hs,h3,ckB_sound h4⟩
set_option maxRecDepth 100000 in
theorem fact_types2:∃ s,UnitOf [105,110,116,32,109,97,105,110,40,41,32,123,32,114,101,116,117,114,110,32,42,49,59,32,125] (.ok s)∧factT2 s.N=true∧CkN s.N 0 0:=by
  have h:((parseU [105,110,116,32,109,97,105,110,40,41,32,123,32,114,101,116,117,114,110,32,42,49,59,32,125]).map fun N=>factT2 N && ckB (N.map ndOf))=some true:=by decide +kernel
  cases hN:parseU [105,110,116,32,109,97,105,110,40,41,32,123,32,114,101,116,117,114,110,32,42,49,59,32,125] with
  | none=>rw [hN] at h;cases h
  | some N =>
    rw [hN] at h
    obtain ⟨s,hs,rfl⟩:=unitOf_eval hN (by decide)
    have h2:(factT2 s.N && ckB (s.N.map ndOf))=true:=by simpa using h
    obtain ⟨h3,h4⟩:=(Bool.and_eq_true _ _).mp h2
    exact ⟨s,hs,h3,ckB_sound h4⟩
end Ty
end
end Go.Proofs.YtdjpopebeenlmaaGreatDoor
