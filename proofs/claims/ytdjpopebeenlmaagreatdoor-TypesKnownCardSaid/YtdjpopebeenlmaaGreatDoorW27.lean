/-
  Joined texts of this claim: Yc, Ye, Ypa, Ypb, Ypc.
-/
import Derived.Test.YtdjpopebeenlmaaGreatDoorW00
import Derived.Test.YtdjpopebeenlmaaGreatDoorW26
set_option maxHeartbeats 40000000
set_option maxRecDepth 100000
set_option linter.unusedVariables false
set_option linter.unusedSimpArgs false
namespace Go.Proofs.YtdjpopebeenlmaaGreatDoor
section
namespace Ty
open Go.RowKit
open Tr Sc

theorem iAt_set_ne {fs:List Int}{k:Nat}{v:Int}{j:Nat}(h:j≠k):iAt (fs.set k v) (j:Int)=iAt fs (j:Int):=by
  unfold iAt;simp only [List.getD_eq_getElem?_getD,Int.toNat_natCast,List.getElem?_set,if_neg (Ne.symm h)]
theorem iAt_set_eq {fs:List Int}{k:Nat}{v:Int}(h:k<fs.length):iAt (fs.set k v) (k:Int)=v:=by
  unfold iAt;simp [h]
/-- the kids of a node of a good tree are ahead of it -/
theorem kid_lt {l:List Nd}(hC:∀ j,j<l.length→codeAt l j=0) {k:Nat}(hk:k<l.length):∀ x ∈ kidsAt l k,∃ y:Nat,x=(y:Int)∧y<k:=by
  intro x hx
  obtain ⟨q,hK⟩:=kin_of hk (hC k hk)
  obtain ⟨j,hj,rfl⟩:=List.getElem_of_mem hx
  obtain ⟨c,e1,e2,_⟩:=hK.lt j hj
  exact ⟨c,e1,e2⟩
theorem kt_set {l:List Nd}(hC:∀ j,j<l.length→codeAt l j=0) {j k:Nat}{fs:List Int}{v:Int}(hj:j<l.length) (hjk:j≤k):ktF l (fs.set k v) j=ktF l fs j:=by
  unfold ktF
  refine List.map_congr_left fun x hx=>?_
  obtain ⟨y,rfl,hy⟩:=kid_lt hC hj x hx
  exact iAt_set_ne (by omega)
theorem expr_set {l:List Nd}(hC:∀ j,j<l.length→codeAt l j=0) {j k:Nat}{ns fs:List Int}{v:Int}(hj:j<l.length) (hjk:j≤k):exprF l ns (fs.set k v) j=exprF l ns fs j:=by
  unfold exprF;rw [kt_set hC hj hjk]
theorem act_set {l:List Nd}(hC:∀ j,j<l.length→codeAt l j=0) {j k:Nat}{fs:List Int}{v:Int}(hj:j<l.length) (hjk:j≤k):actF l (fs.set k v) j=actF l fs j:=by
  unfold actF initB condB retB;rw [kt_set hC hj hjk]
/-- a node is fine, and its type is there -/
def Fin (l:List Nd) (ns fs:List Int) (j:Nat):Prop :=
  if exprB (kindAt l j)=true then exprF l ns fs j=(iAt fs j,true) else iAt fs j=0∧actF l fs j=0
structure Upto (l:List Nd) (ns fs:List Int) (k:Nat):Prop where
  len:fs.length=l.length
  fin:∀ j,j<k→Fin l ns fs j
  zero:∀ j,k≤j→j<l.length→iAt fs j=0
theorem upto_zero (l:List Nd) (ns:List Int):Upto l ns (List.replicate l.length 0) 0 :=
  ⟨by simp,fun j hj=>by omega,fun j _ hj=>by simp [iAt,hj]⟩
theorem upto_step {l:List Nd}(hC:∀ j,j<l.length→codeAt l j=0) {ns fs:List Int}{k:Nat}(h:Upto l ns fs k) (hk:k<l.length) (h0:(chkF l ns fs k).1=0):Upto l ns (chkF l ns fs k).2 (k+1):=by
  unfold chkF at h0 ⊢
  by_cases he:exprB (kindAt l k)=true
  · rw [if_pos he] at h0 ⊢
    by_cases hx:(exprF l ns fs k).2=true
    · rw [if_pos hx]
      refine ⟨by simpa using h.len,fun j hj=>?_,fun j h1 h2=>?_⟩
      · unfold Fin
        rw [expr_set hC (by omega) (by omega),act_set hC (by omega) (by omega)]
        by_cases e:j=k
        · subst e
          rw [if_pos he,iAt_set_eq (by rw [h.len];exact hk)]
          exact Prod.ext rfl hx
        · rw [iAt_set_ne e]
          exact h.fin j (by omega)
      · show iAt (fs.set k _) j=0
        rw [iAt_set_ne (by omega)]
        exact h.zero j (by omega) h2
    · rw [if_neg hx] at h0;cases h0
  · rw [if_neg he] at h0 ⊢
    refine ⟨h.len,fun j hj=>?_,fun j h1 h2=>h.zero j (by omega) h2⟩
    by_cases e:j=k
    · subst e
      unfold Fin
      rw [if_neg he]
      exact ⟨h.zero j (Nat.le_refl _) hk,h0⟩
    · exact h.fin j (by omega)
theorem run_upto {l:List Nd}(hC:∀ j,j<l.length→codeAt l j=0) {ns:List Int}:∀ (f k:Nat) (fs fs':List Int),Upto l ns fs k→k+f≤l.length→runF l ns f k fs=.ok fs'→Upto l ns fs' (k+f):=by
  intro f
  induction f with
  | zero=>intro k fs fs' h _ hr;cases hr;exact h
  | succ f ih =>
    intro k fs fs' h hkf hr
    simp only [runF] at hr
    split at hr
    · cases hr
    · rename_i h0
      have:=ih (k+1) _ fs' (upto_step hC h (by omega) (by simpa using h0)) (by omega) hr
      rwa [Nat.add_right_comm] at this
/-- what a code of a run can be, and where -/
theorem act_code {l:List Nd}{fs:List Int}{k:Nat}:actF l fs k=0∨actF l fs k=8∨actF l fs k=11:=by
  unfold actF okC
  dsimp only
  repeat' split
  all_goals simp
theorem chk_code {l:List Nd}{ns fs:List Int}{k:Nat}:(chkF l ns fs k).1=0∨(chkF l ns fs k).1=8∨(chkF l ns fs k).1=11:=by
  unfold chkF
  split
  · split <;> simp
  · exact act_code
theorem types_open {l:List Nd}{fs:List Int}(h:typesF l=.ok fs):∃ ns,namesF l=.ok ns∧runF l ns l.length 0 (List.replicate l.length 0)=.ok fs∧(mainF l).1=0:=by
  unfold typesF at h
  split at h
  · cases h
  · rename_i ns hn
    unfold typesN at h
    split at h
    · cases h
    · rename_i fs' hr
      split at h
      · cases h
      · rename_i hm
        cases h
        exact ⟨ns,hn,hr,by simpa using hm⟩
/-- the types of a tree where nothing is wrong -/
structure Good (l:List Nd) (ns fs:List Int):Prop where
  len:fs.length=l.length
  fin:∀ j,j<l.length→Fin l ns fs j
theorem good_of {l:List Nd}(hC:∀ j,j<l.length→codeAt l j=0) {fs:List Int}(h:typesF l=.ok fs):∃ ns,namesF l=.ok ns∧Good l ns fs:=by
  obtain ⟨ns,hn,hr,_⟩:=types_open h
  have:=run_upto hC _ _ _ _ (upto_zero l ns) (by omega) hr
  exact ⟨ns,hn,this.len,fun j hj=>this.fin j (by omega)⟩
section
variable {l:List Nd}{ns fs:List Int}
theorem kt_get {k j:Nat}(hj:j<(kidsAt l k).length):(ktF l fs k).getD j 0=iAt fs (kidsAt l k)[j]:=by
  unfold ktF;simp [hj]
theorem two_range (s:List UInt8) (a b:Int):(twoF s a b).1=1∨(twoF s a b).1=2:=by
  unfold twoF
  repeat' split
  all_goals simp
theorem one_range (s:List UInt8) (kid:Nat) (x:Int):(oneF l ns s kid x).1=1∨(oneF l ns s kid x).1=2:=by
  unfold oneF
  repeat' split
  all_goals simp
theorem set_fst (s:List UInt8) (a b:Int) (p:Bool):(setF s a b p).1=a:=by
  unfold setF;split <;> rfl
theorem set_place {s:List UInt8}{a b:Int}{p:Bool}(h:(setF s a b p).2=true):p=true:=by
  unfold setF at h
  split at h
  · simp at h;exact h.1
  · simp at h;exact h.1.2
/-- how many kids an expression has -/
theorem kids_low {k:Nat}(hC:∀ j,j<l.length→codeAt l j=0) (hk:k<l.length):lowV (kindAt l k)≤(kidsAt l k).length:=by
  have hc:=hC k hk
  rw [codeAt_get hk] at hc
  rw [kindAt_get hk,kidsAt_get hk]
  unfold nodeC at hc
  split at hc
  · cases hc
  · split at hc
    · cases hc
    · rename_i h
      exact Int.not_lt.1 fun e=>h (Or.inl e)
/-- a name's type -/
theorem name_range (hC:∀ j,j<l.length→codeAt l j=0) {k:Nat}(hkd:∃ j:Nat,ns.getD k 0=(j:Int)∧j<l.length∧varK (kindAt l j)):nameT l ns k=1∨nameT l ns k=2:=by
  obtain ⟨j,e1,e2,e3⟩:=hkd
  have hb:byAt ns k=j:=by unfold byAt;rw [e1];rfl
  unfold nameT arrB
  rw [hb]
  have:=num_var e2 (hC j e2) e3
  split
  · exact Or.inr rfl
  · rename_i h
    simp at h
    omega
/-- of a place the type is that of a value -/
theorem place_val (hC:∀ j,j<l.length→codeAt l j=0) (hn:∀ k,k<l.length→kindAt l k=32→∃ j:Nat,ns.getD k 0=(j:Int)∧j<l.length∧varK (kindAt l j)) {k:Nat}(hk:k<l.length) (hf:Fin l ns fs k) (hp:placeB l ns k=true):iAt fs k=1∨iAt fs k=2:=by
  unfold Fin at hf
  unfold placeB at hp
  split at hp
  · rename_i h
    rw [if_pos (by rw [h];decide)] at hf
    have hx:(exprF l ns fs k).1=nameT l ns k:=by unfold exprF;dsimp only;rw [if_pos h]
    rw [hf] at hx
    have:=name_range hC (hn k hk h)
    dsimp only at hx
    rw [hx];exact this
  · split at hp
    · rename_i h
      rw [if_pos (by rw [h];decide)] at hf
      have hx:(exprF l ns fs k).1=1:=by unfold exprF;dsimp only;rw [h];rfl
      rw [hf] at hx
      exact Or.inl hx
    · split at hp
      · rename_i h
        rw [if_pos (by rw [h];decide)] at hf
        have hx:(exprF l ns fs k).1=(oneF l ns (tx l k) ((kidsAt l k).getD 0 0).toNat ((ktF l fs k).getD 0 0)).1:=by unfold exprF;dsimp only;rw [h];rfl
        rw [hf] at hx
        have:=one_range (l:=l) (ns:=ns) (tx l k) ((kidsAt l k).getD 0 0).toNat ((ktF l fs k).getD 0 0)
        dsimp only at hx
        rw [hx];exact this
      · cases hp
theorem range_any (hC:∀ j,j<l.length→codeAt l j=0) (hn:∀ k,k<l.length→(kindAt l k=32→∃ j:Nat,ns.getD k 0=(j:Int)∧j<l.length∧varK (kindAt l j))∧(kindAt l k=33→(ns.getD k 0 = -1∧libB (tx l k)=true)∨∃ j:Nat,ns.getD k 0=(j:Int)∧j<l.length∧kindAt l j=3)) {b:Nat}(hb:b≤l.length) (hG:∀ j,j<b→Fin l ns fs j) :
    ∀ k,k<b→iAt fs k=0∨iAt fs k=1∨iAt fs k=2:=by
  intro k
  induction k using Nat.strongRecOn with
  | _ k ih =>
    intro hk
    have hkl:k<l.length:=by omega
    have hf:=hG k hk
    unfold Fin at hf
    by_cases he:exprB (kindAt l k)=true
    · rw [if_pos he] at hf
      have hx:(exprF l ns fs k).1=iAt fs k:=by rw [hf]
      rw [← hx]
      have hkt:∀ i,(ktF l fs k).getD i 0=0∨(ktF l fs k).getD i 0=1∨(ktF l fs k).getD i 0=2:=fun i=>by
        by_cases hi:i<(kidsAt l k).length
        · rw [kt_get hi]
          obtain ⟨y,e,hy⟩:=kid_lt hC hkl _ (List.getElem_mem hi)
          rw [e];exact ih y hy (by omega)
        · left
          unfold ktF
          simp [List.getElem?_eq_none (show (kidsAt l k).length≤i by omega)]
      obtain ⟨h32,h33⟩:=hn k hkl
      unfold exprF
      dsimp only
      split
      · rename_i h
        exact Or.inr (name_range hC (h32 h))
      · split
        · rename_i h
          unfold calleeF
          rcases h33 h with ⟨e1,_⟩ | ⟨j,e1,e2,e3⟩
          · rw [if_neg (by omega)]
            split <;> simp
          · rw [if_pos (by omega)]
            have hbj:byAt ns k=j:=by unfold byAt;rw [e1];rfl
            dsimp only
            rw [hbj]
            exact num_fun e2 (hC j e2) e3
        · split
          · simp
          · split
            · exact Or.inr (one_range ..)
            · split
              · exact Or.inr (two_range ..)
              · split
                · simp
                · split
                  · exact hkt 1
                  · split
                    · rw [set_fst];exact hkt 0
                    · split
                      · exact hkt 0
                      · simp
    · rw [if_neg he] at hf
      exact Or.inl hf.1
/-- WHAT TYPESKNOWN WANTS of a node -/
structure Kw (l:List Nd) (fs:List Int) (k:Nat):Prop where
  range:iAt fs k=0∨iAt fs k=1∨iAt fs k=2
  not_:exprB (kindAt l k)=false→iAt fs k=0
  int_:(kindAt l k=31∨kindAt l k=34∨kindAt l k=37∨kindAt l k=35∧tx l k≠[38])→iAt fs k=1
  ptr_:kindAt l k=35→tx l k=[38]→iAt fs k=2
  set_:(kindAt l k=39∨kindAt l k=40)→1≤(kidsAt l k).length∧iAt fs k≠0∧iAt fs k=iAt fs ((kidsAt l k).getD 0 0)
  pick_:kindAt l k=38→3≤(kidsAt l k).length∧iAt fs k=iAt fs ((kidsAt l k).getD 1 0)∧iAt fs k=iAt fs ((kidsAt l k).getD 2 0)
  index_:kindAt l k=34→2≤(kidsAt l k).length∧iAt fs ((kidsAt l k).getD 0 0)=2∧iAt fs ((kidsAt l k).getD 1 0)=1
theorem known_any (hC:∀ j,j<l.length→codeAt l j=0) (hn:∀ k,k<l.length→(kindAt l k=32→∃ j:Nat,ns.getD k 0=(j:Int)∧j<l.length∧varK (kindAt l j))∧(kindAt l k=33→(ns.getD k 0 = -1∧libB (tx l k)=true)∨∃ j:Nat,ns.getD k 0=(j:Int)∧j<l.length∧kindAt l j=3)) (hG:Good l ns fs) {k:Nat}(hk:k<l.length):Kw l fs k:=by
  have hf:=hG.fin k hk
  have hlow:=kids_low hC hk
  unfold Fin at hf
  have hkt:∀ i,i<(kidsAt l k).length→(ktF l fs k).getD i 0=iAt fs ((kidsAt l k).getD i 0):=fun i hi=>by
    rw [kt_get hi];simp [hi]
  have hkid:∀ i,i<(kidsAt l k).length→((kidsAt l k).getD i 0).toNat<l.length∧iAt fs (((kidsAt l k).getD i 0).toNat:Int)=iAt fs ((kidsAt l k).getD i 0):=fun i hi=>by
    obtain ⟨y,e,hy⟩:=kid_lt hC hk _ (List.getElem_mem hi)
    have e2:(kidsAt l k).getD i 0=(y:Int):=by simp [hi,e]
    rw [e2];exact ⟨by simpa using (by omega:y<l.length),by simp⟩
  refine ⟨range_any hC hn (Nat.le_refl _) hG.fin k hk,fun h=>?_,fun h=>?_,fun h h2=>?_,fun h=>?_,fun h=>?_,fun h=>?_⟩
  · rw [if_neg (by rw [h];decide)] at hf;exact hf.1
  · have hx:(exprF l ns fs k).1=1:=by
      unfold exprF;dsimp only
      rcases h with h | h | h | ⟨h,h2⟩
      · rw [h];rfl
      · rw [h];rfl
      · rw [h];rfl
      · rw [h]
        show (oneF l ns (tx l k) _ _).1=1
        unfold oneF
        rw [if_neg h2]
        repeat' split
        all_goals rfl
    rw [if_pos (by rcases h with h | h | h | ⟨h,h2⟩ <;> rw [h] <;> decide)] at hf
    rw [hf] at hx;exact hx
  · have hx:(exprF l ns fs k).1=2:=by
      unfold exprF;dsimp only;rw [h]
      show (oneF l ns (tx l k) _ _).1=2
      unfold oneF;rw [h2];rfl
    rw [if_pos (by rw [h];decide)] at hf
    rw [hf] at hx;exact hx
  · have h1:1≤(kidsAt l k).length:=by
      rcases h with h | h <;> rw [h] at hlow <;> simp [lowV] at hlow <;> omega
    rw [if_pos (by rcases h with h | h <;> rw [h] <;> decide)] at hf
    have hx:(exprF l ns fs k).1=iAt fs ((kidsAt l k).getD 0 0)∧((exprF l ns fs k).2=true→placeB l ns ((kidsAt l k).getD 0 0).toNat=true):=by
      unfold exprF;dsimp only
      rcases h with h | h
      · rw [h]
        show (setF _ _ _ _).1=_∧((setF _ _ _ _).2=true→_)
        rw [set_fst,hkt 0 h1]
        exact ⟨rfl,fun h=>set_place h⟩
      · rw [h]
        show (ktF l fs k).getD 0 0=_∧_
        rw [hkt 0 h1]
        exact ⟨rfl,fun h=>h⟩
    rw [hf] at hx
    dsimp only at hx
    have hp:=place_val hC (fun k hk=>(hn k hk).1) (hkid 0 h1).1 (hG.fin _ (hkid 0 h1).1) (hx.2 rfl)
    rw [(hkid 0 h1).2] at hp
    exact ⟨h1,by rw [hx.1];omega,hx.1⟩
  · have h3:3≤(kidsAt l k).length:=by rw [h] at hlow;simp [lowV] at hlow;omega
    rw [if_pos (by rw [h];decide)] at hf
    have hx:exprF l ns fs k=((ktF l fs k).getD 1 0,valB ((ktF l fs k).getD 0 0) && valB ((ktF l fs k).getD 1 0) && decide ((ktF l fs k).getD 1 0=(ktF l fs k).getD 2 0)):=by unfold exprF;dsimp only;rw [h];rfl
    rw [hf,hkt 0 (by omega),hkt 1 (by omega),hkt 2 (by omega)] at hx
    injection hx with h4 h5
    simp at h5
    exact ⟨h3,h4,by rw [h4];exact h5.2⟩
  · have h3:2≤(kidsAt l k).length:=by rw [h] at hlow;simp [lowV] at hlow;omega
    rw [if_pos (by rw [h];decide)] at hf
    have hx:exprF l ns fs k=(1,decide ((ktF l fs k).getD 0 0=2) && decide ((ktF l fs k).getD 1 0=1)):=by unfold exprF;dsimp only;rw [h];rfl
    rw [hf,hkt 0 (by omega),hkt 1 (by omega)] at hx
    injection hx with h4 h5
    simp at h5
    exact ⟨h3,h5.1,h5.2⟩
end
end Ty
end
section
namespace Ty
open Go.RowKit
open Tr Sc

section
variable {l:List Nd}
theorem par_get (h0:1≤l.length) (hC:∀ j,j<l.length→codeAt l j=0) (hS:St l (l.length-1)=0):∀ y,y<l.length→(parF l).getD y (-1) = -1∨∃ z:Nat,(parF l).getD y (-1)=(z:Int)∧y<z∧z<l.length:=by
  obtain ⟨h1,h2,h3⟩:=par_facts h0 hC hS
  intro y hy
  have hd:(parF l).getD y (-1)=(parF l).getD y 0:=by simp [List.getElem?_eq_getElem (show y<(parF l).length by omega)]
  rw [hd]
  by_cases e:y+1<l.length
  · obtain ⟨z,z1,z2,z3,_⟩:=h3 y e
    exact Or.inr ⟨z,z3,z1,z2⟩
  · rw [show y=l.length-1 by omega]
    exact Or.inl h2
end
end Ty
end
section
namespace Ty
open Go.RowKit
open Tr Sc

/-- u is l without its last function k, whose part begins at fr; r is the root of l -/
structure Cut (l u:List Nd) (r k fr:Nat):Prop where
  rlen:l.length=r+1
  ulen:u.length=fr+1
  low:∀ j,j<fr→u[j]? = l[j]?
  root:∃ x,l[r]? = some x∧u[fr]? = some { x with c:=x.c.dropLast }
  two:2≤(kidsAt l r).length
  rk:kindAt l r=1
  kr:k+1=r
  kst:St l k=fr
  ktop:kindAt l k=3
  last:∃ c:List Int,kidsAt l r=c ++ [(k:Int)]
  call:∀ i,i<fr→kindAt l i=33→tx l i≠tx l k
  main:tx l k≠[109,97,105,110]
  pos:0<fr
  code:∀ j,j<l.length→codeAt l j=0
  top:St l r=0
  deep:Dp l r≤40
  few:l.length≤600
section
variable {l u:List Nd}{r k fr:Nat}
theorem Cut.frk (h:Cut l u r k fr):fr≤k:=by have:=St_le l k;rw [h.kst] at this;exact this
theorem Cut.kind (h:Cut l u r k fr) {j:Nat}(hj:j<fr):kindAt u j=kindAt l j:=by unfold kindAt;rw [h.low j hj]
theorem Cut.kids (h:Cut l u r k fr) {j:Nat}(hj:j<fr):kidsAt u j=kidsAt l j:=by unfold kidsAt;rw [h.low j hj]
theorem Cut.text (h:Cut l u r k fr) {j:Nat}(hj:j<fr):tx u j=tx l j:=by unfold tx;rw [h.low j hj]
theorem Cut.num (h:Cut l u r k fr) {j:Nat}(hj:j<fr):numOf u j=numOf l j:=by unfold numOf;rw [h.low j hj]
theorem Cut.rootKind (h:Cut l u r k fr):kindAt u fr=1:=by
  obtain ⟨x,h1,h2⟩:=h.root
  have:=h.rk
  unfold kindAt at this ⊢
  rw [h1] at this;rw [h2];exact this
theorem Cut.rootKids (h:Cut l u r k fr):kidsAt u fr=(kidsAt l r).dropLast:=by
  obtain ⟨x,h1,h2⟩:=h.root
  unfold kidsAt;rw [h1,h2];rfl
theorem walkK_two {S S':Nat→Nat}{kd kd':Nat→Int}{k:Int}{c c':List Int}{K:Nat}(hS:∀ j,S j≤j) (hE:∀ j,j<K→S' j=S j) (hD:∀ j,j<K→kd' j=kd j) :
    ∀ (i at_:Nat),at_≤K→(∀ j,j<i→c'.getD j 0=c.getD j 0)→(∀ j x,j<i→goB k j c'.length x=goB k j c.length x)→walkK S' kd' k c' i at_=walkK S kd k c i at_:=by
  intro i
  induction i with
  | zero=>intro at_ _ _ _;rfl
  | succ i ih =>
    intro at_ ha hc hg
    simp only [walkK]
    by_cases h0:at_=0
    · rw [if_pos (Or.inl h0),if_pos (Or.inl h0)]
    · have h1:at_-1<K:=by omega
      rw [hc i (by omega),hD _ h1,hg i _ (by omega),hE _ h1]
      have h2:=hS (at_-1)
      rw [ih (S (at_-1)) (by omega) (fun j hj=>hc j (by omega)) (fun j x hj=>hg j x (by omega))]
theorem Cut.way (h:Cut l u r k fr) {j:Nat}(hj:j<fr) (hs:∀ x,x<j→St u x=St l x):wayOf u j=wayOf l j:=by
  unfold wayOf
  rw [h.kind hj,h.kids hj]
  exact walkK_two (K:=j) (St_le l) hs (fun x hx=>h.kind (by omega)) _ j (Nat.le_refl _) (fun _ _=>rfl) (fun _ _ _=>rfl)
theorem Cut.start (h:Cut l u r k fr):∀ j,j<fr→St u j=St l j:=by
  intro j
  induction j using Nat.strongRecOn with
  | _ j ih =>
    intro hj
    rw [St_eq,St_eq,h.way hj (fun x hx=>ih x hx (by omega))]
theorem Cut.rootWay (h:Cut l u r k fr):wayOf u fr=some 0:=by
  have hr:r<l.length:=by have:=h.rlen;omega
  have hl:wayOf l r=some 0:=by
    have h1:=code_way hr (h.code r hr)
    have h2:=St_eq l r
    rw [h.top] at h2
    cases hw:wayOf l r with
    | none=>exact absurd hw h1
    | some z=>rw [hw] at h2;simp at h2;rw [← h2]
  obtain ⟨c,hc⟩:=h.last
  unfold wayOf at hl ⊢
  rw [h.rk,hc,List.length_append,List.length_singleton,← h.kr] at hl
  rw [h.rootKind,h.rootKids,hc,List.dropLast_concat]
  rw [walkK] at hl
  split at hl
  · cases hl
  · rw [Nat.add_sub_cancel,h.kst] at hl
    rw [← hl]
    refine walkK_two (K:=fr) (St_le l) h.start (fun x hx=>h.kind hx) _ fr (Nat.le_refl _) (fun j hj=>?_) (fun j x _=>rfl)
    simp [List.getD_eq_getElem?_getD,List.getElem?_append_left hj]
theorem Cut.rootTop (h:Cut l u r k fr):St u fr=0:=by rw [St_eq,h.rootWay];rfl
theorem Cut.codes (h:Cut l u r k fr):∀ j,j<u.length→codeAt u j=0:=by
  intro j hj
  rw [h.ulen] at hj
  have hr:r<l.length:=by have:=h.rlen;omega
  by_cases e:j<fr
  · have hc:=h.code j (by have:=h.frk;have:=h.kr;omega)
    unfold codeAt at hc ⊢
    rw [h.low j e]
    have hn:nodeC u j=nodeC l j:=by
      funext x
      unfold nodeC
      rw [h.way e (fun x hx=>h.start x (by omega))]
    rw [hn];exact hc
  · have hje:j=fr:=by omega
    subst hje
    obtain ⟨x,h1,h2⟩:=h.root
    have hc:=h.code r hr
    have hk:x.k=1:=by have:=h.rk;unfold kindAt at this;rw [h1] at this;exact this
    unfold codeAt at hc ⊢
    rw [h1] at hc
    rw [h2]
    have hc:nodeC l r x=0:=hc
    show nodeC u j { x with c:=x.c.dropLast }=0
    unfold nodeC at hc ⊢
    rw [h.rootWay]
    split at hc
    · cases hc
    · rename_i g1
      rw [if_neg (by exact g1)]
      split at hc
      · cases hc
      · rename_i g2
        have g3:¬ (((x.c.dropLast).length:Int)<lowV x.k∨highV 9223372036854775807 x.k<(x.c.dropLast).length):=by
          rw [hk] at g2 ⊢
          have e1:lowV 1=0:=rfl
          have e2:highV 9223372036854775807 1=9223372036854775807:=rfl
          rw [e1,e2] at g2 ⊢
          rw [List.length_dropLast]
          omega
        rw [if_neg (by exact g3)]
        split at hc
        · cases hc
        · rw [if_neg (by simp)]
          have e:fieldC { x with c:=x.c.dropLast }=fieldC x:=by
            unfold fieldC fieldV numB
            simp only [hk]
            rfl
          rw [e];exact hc
theorem maxI_congr {d d':Nat→Nat}:∀ (c:List Int),(∀ x ∈ c,d x.toNat=d' x.toNat)→maxI d c=maxI d' c:=by
  intro c
  induction c with
  | nil=>intro _;rfl
  | cons x c ih=>intro h;simp only [maxI];rw [h x (List.mem_cons_self ..),ih (fun y hy=>h y (List.mem_cons_of_mem _ hy))]
theorem maxI_app {d:Nat→Nat}(c:List Int) (x:Int):maxI d c≤maxI d (c ++ [x]):=by rw [maxI_snoc];omega
theorem Dp_low {l:List Nd}{j:Nat}(hk:∀ x ∈ kidsAt l j,x.toNat<j):Dp l j=maxI (Dp l) (kidsAt l j)+1:=by
  rw [Dp_eq,maxI_congr _ (fun x hx=>deeps_get l (hk x hx))]
theorem Cut.kidLow (h:Cut l u r k fr) {j:Nat}(hj:j<l.length):∀ x ∈ kidsAt l j,x.toNat<j:=by
  intro x hx
  obtain ⟨y,rfl,hy⟩:=kid_lt h.code hj x hx
  simpa using hy
theorem Cut.deeps (h:Cut l u r k fr):∀ j,j<fr→Dp u j=Dp l j:=by
  intro j
  induction j using Nat.strongRecOn with
  | _ j ih =>
    intro hj
    have hjl:j<l.length:=by have:=h.frk;have:=h.kr;have:=h.rlen;omega
    have hk:=h.kidLow hjl
    rw [Dp_low (l:=l) hk,Dp_low (l:=u) (by rw [h.kids hj];exact hk),h.kids hj,maxI_congr _ (fun x hx=>ih _ (hk x hx) (by have:=hk x hx;omega))]
/-- the kids of the root but the last one are ahead of that one's part -/
theorem Cut.topLow (h:Cut l u r k fr):∀ x ∈ (kidsAt l r).dropLast,∃ y:Nat,x=(y:Int)∧y<fr:=by
  intro x hx
  have hr:r<l.length:=by have:=h.rlen;omega
  obtain ⟨q,hK⟩:=kin_of hr (h.code r hr)
  obtain ⟨c,hc⟩:=h.last
  rw [hc,List.dropLast_concat] at hx
  obtain ⟨j,hj,rfl⟩:=List.getElem_of_mem hx
  have hlen:(kidsAt l r).length=c.length+1:=by rw [hc];simp
  obtain ⟨y,e1,e2,e3,e4⟩:=hK.lt j (by omega)
  obtain ⟨z,f1,f2,f3,f4⟩:=hK.lt c.length (by omega)
  have hz:z=k:=by
    have:(kidsAt l r)[c.length]'(by omega)=(k:Int):=by simp [hc]
    rw [f1] at this;exact_mod_cast this
  subst hz
  have:=hK.mono (j+1) c.length (by omega) (by omega)
  refine ⟨y,?_,by have:=h.kst;omega⟩
  rw [← e1];simp [hc,hj]
theorem Cut.rootDeep (h:Cut l u r k fr):Dp u fr≤Dp l r:=by
  have hr:r<l.length:=by have:=h.rlen;omega
  have ht:=h.topLow
  have hd:=h.deeps
  rw [Dp_low (l:=l) (h.kidLow hr),Dp_low (l:=u) (by rw [h.rootKids];intro x hx;obtain ⟨y,rfl,hy⟩:=ht x hx;simpa using hy),h.rootKids]
  rw [maxI_congr (d:=Dp u) (d':=Dp l) _ (fun x hx=>by obtain ⟨y,rfl,hy⟩:=ht x hx;simpa using hd y hy)]
  obtain ⟨c,hc⟩:=h.last
  rw [hc,List.dropLast_concat]
  have:=maxI_app (d:=Dp l) c (k:Int)
  omega
theorem Cut.form (h:Cut l u r k fr):CkR u 0 0:=by
  have:=h.frk;have:=h.kr;have:=h.rlen;have:=h.few;have:=h.ulen;have:=h.rootDeep;have:=h.deep
  refine Or.inr ⟨by omega,by omega,Or.inr ⟨h.codes,Or.inr ⟨?_,Or.inr ⟨?_,rfl,rfl⟩⟩⟩⟩
  · rw [h.ulen,Nat.add_sub_cancel];exact h.rootTop
  · rw [h.ulen,Nat.add_sub_cancel];omega
end
end Ty
end
section
namespace Ty
open Go.RowKit
open Tr Sc

/-- what is declared, without k -/
def flt (k:Nat) (E:Env):Env:=E.filter fun x=>decide (x.1≠k)
def EnvC (k fr:Nat) (E:Env):Prop:=∀ x ∈ E,x.1=k∨x.1<fr
theorem room_cons2 (l:List Nd) (x:Nat × Nat) (E:Env) (r:Nat) (s:List UInt8):roomF l (x :: E) r s=if (x.2 == r && tx l x.1 == s)=true then some x.1 else roomF l E r s:=by
  unfold roomF
  rw [List.find?_cons]
  cases (x.2 == r && tx l x.1 == s) <;> rfl
theorem flt_yes {k:Nat}{x:Nat × Nat}{E:Env}(h:x.1≠k):flt k (x :: E)=x :: flt k E:=by unfold flt;rw [List.filter_cons_of_pos (by simpa using h)]
theorem flt_no {k:Nat}{x:Nat × Nat}{E:Env}(h:x.1=k):flt k (x :: E)=flt k E:=by unfold flt;rw [List.filter_cons_of_neg (by simpa using h)]
theorem flt_app {k:Nat}(E E':Env):flt k (E ++ E')=flt k E ++ flt k E':=by unfold flt;rw [List.filter_append]
theorem flt_one {k i r:Nat}(h:i≠k):flt k [(i,r)]=[(i,r)]:=flt_yes (E:=[]) h
theorem flt_last {k r:Nat}:flt k [(k,r)]=[]:=flt_no (E:=[]) rfl
theorem EnvC.app {k fr i r:Nat}{E:Env}(h:EnvC k fr E) (hi:i=k∨i<fr):EnvC k fr (E ++ [(i,r)]):=fun x hx=>by
  rcases List.mem_append.1 hx with hx | hx
  · exact h x hx
  · simp only [List.mem_cons,List.not_mem_nil,or_false] at hx;subst hx;exact hi
section
variable {l u:List Nd}{r k fr:Nat}
theorem room_cut (h:Cut l u r k fr) {m:Nat}{s:List UInt8}:∀ {E:Env},EnvC k fr E→(roomF l E m s=none→roomF u (flt k E) m s=none)∧∀ j,j≠k→roomF l E m s=some j→roomF u (flt k E) m s=some j:=by
  intro E
  induction E with
  | nil=>intro _;exact ⟨fun h=>h,fun j _ h=>h⟩
  | cons x E ih =>
    intro hE
    obtain ⟨i1,i2⟩:=ih (fun y hy=>hE y (List.mem_cons_of_mem _ hy))
    rw [room_cons2]
    rcases hE x (List.mem_cons_self ..) with e | hlt
    · rw [flt_no e]
      split
      · refine ⟨fun h=>(by cases h),fun j hj h=>?_⟩
        injection h with h
        exact absurd (h.symm.trans e) hj
      · exact ⟨i1,i2⟩
    · rw [flt_yes (by have:=h.frk;omega),room_cons2,h.text hlt]
      split
      · exact ⟨fun h=>(by cases h),fun j _ h=>h⟩
      · exact ⟨i1,i2⟩
theorem find_cut (h:Cut l u r k fr) {j:Nat}{s:List UInt8}{E:Env}(hE:EnvC k fr E) (hj:j≠k):∀ {n:Nat},findF l E s n=some j→findF u (flt k E) s n=some j:=by
  intro n
  induction n with
  | zero=>intro h;cases h
  | succ n ih =>
    intro hf
    simp only [findF] at hf ⊢
    obtain ⟨i1,i2⟩:=room_cut h hE (m:=n) (s:=s)
    cases hr:roomF l E n s with
    | some i =>
      rw [hr] at hf
      injection hf with hf
      subst hf
      rw [i2 i hj hr]
    | none=>rw [hr] at hf;rw [i1 hr];exact ih hf
/-- what is written: numbers of nodes ahead -/
def WrC (fr:Nat) (W:Wr):Prop:=∀ y ∈ W,y.2<(fr:Int)
theorem WrC.one {fr i:Nat}{v:Int}(h:v<(fr:Int)):WrC fr [(i,v)]:=fun y hy=>by rw [one_mem hy];exact h
theorem WrC.app {fr:Nat}{W W':Wr}(h:WrC fr W) (h':WrC fr W'):WrC fr (W ++ W'):=fun y hy=>(List.mem_append.1 hy).elim (h y) (h' y)
theorem env_lt {E:Env}{k fr j:Nat}(hE:EnvC k fr E) (hj:j≠k) {l:List Nd}{s:List UInt8}(h:∃ x ∈ E,x.1=j∧tx l j=s):j<fr:=by
  obtain ⟨x,hx,rfl,_⟩:=h
  exact (hE x hx).resolve_left hj
theorem decl_cut (h:Cut l u r k fr) {now i:Nat}{E E':Env}{W:Wr}(ho:declF l now i E=.ok E' W) (hi:i<fr) (hE:EnvC k fr E):declF u now i (flt k E)=.ok (flt k E') W∧EnvC k fr E'∧WrC fr W:=by
  have hik:i≠k:=by have:=h.frk;omega
  unfold declF at ho ⊢
  split at ho
  · cases ho
  · rename_i hno
    cases ho
    rw [h.text hi,(room_cut h hE).1 (by simpa using hno)]
    refine ⟨?_,hE.app (Or.inr hi),WrC.one (by omega)⟩
    rw [flt_app,flt_one hik];rfl
theorem own_cut (h:Cut l u r k fr) {now i:Nat}{E E':Env}{W:Wr}(ho:own l now i E=.ok E' W) (hi:i<fr) (hE:EnvC k fr E):own u now i (flt k E)=.ok (flt k E') W∧EnvC k fr E'∧WrC fr W:=by
  unfold own at ho ⊢
  rw [h.kind hi]
  split at ho
  · rename_i h2;cases ho;rw [if_pos h2];exact ⟨rfl,hE,WrC.one (by omega)⟩
  · rename_i h2
    rw [if_neg h2]
    split at ho
    · rename_i h4
      rw [if_pos h4]
      exact decl_cut h ho hi hE
    · rename_i h4
      rw [if_neg h4]
      split at ho
      · rename_i h32
        rw [if_pos h32]
        unfold nameF at ho ⊢
        split at ho
        · rename_i j hj
          split at ho
          · cases ho
          · rename_i h3
            cases ho
            have hjk:j≠k:=fun e=>h3 (by rw [e];exact h.ktop)
            have hjf:=env_lt hE hjk (envMem_find hj)
            rw [h.text hi,find_cut h hE hjk hj]
            simp only [h.kind hjf]
            rw [if_neg h3]
            exact ⟨rfl,hE,WrC.one (by omega)⟩
        · cases ho
      · rename_i h32
        rw [if_neg h32]
        split at ho
        · rename_i h33
          rw [if_pos h33]
          unfold callF at ho ⊢
          rw [h.text hi]
          split at ho
          · rename_i hl
            cases ho
            rw [if_pos hl]
            exact ⟨rfl,hE,WrC.one (by omega)⟩
          · rename_i hl
            rw [if_neg hl]
            split at ho
            · rename_i j hj
              split at ho
              · rename_i h3
                cases ho
                have hjk:j≠k:=fun e=>by
                  obtain ⟨x,hx,e1,e2⟩:=envMem_room hj
                  rw [e] at e2
                  exact h.call i hi h33 e2.symm
                have hjf:=env_lt hE hjk (envMem_room hj)
                rw [(room_cut h hE).2 j hjk hj]
                simp only [h.kind hjf]
                rw [if_pos h3]
                exact ⟨rfl,hE,WrC.one (by omega)⟩
              · cases ho
            · cases ho
        · rename_i h33
          rw [if_neg h33]
          cases ho
          exact ⟨rfl,hE,fun y hy=>by cases hy⟩
theorem each_cut {g g':Nat→Env→Rs}:∀ (c:List Int) (E E':Env) (W:Wr),each g c E=.ok E' W→EnvC k fr E →
    (∀ x ∈ c,∀ E E' W,g x.toNat E=.ok E' W→EnvC k fr E→g' x.toNat (flt k E)=.ok (flt k E') W∧EnvC k fr E'∧WrC fr W)→each g' c (flt k E)=.ok (flt k E') W∧EnvC k fr E'∧WrC fr W:=by
  intro c
  induction c with
  | nil=>intro E E' W h hE _;cases h;exact ⟨rfl,hE,fun y hy=>by cases hy⟩
  | cons x c ih =>
    intro E E' W h hE hg
    obtain ⟨E1,W1,W2,h1,h2,rfl⟩:=bind_ok h
    obtain ⟨a1,a2,a3⟩:=hg x (List.mem_cons_self ..) _ _ _ h1 hE
    obtain ⟨b1,b2,b3⟩:=ih _ _ _ h2 a2 (fun y hy=>hg y (List.mem_cons_of_mem _ hy))
    refine ⟨?_,b2,a3.app b3⟩
    show (g' x.toNat (flt k E)).bind (each g' c)=_
    rw [a1]
    show (each g' c (flt k E1)).pre W1=_
    rw [b1];rfl
theorem look_cut (h:Cut l u r k fr):∀ (f now x:Nat) (E E':Env) (W:Wr),Sc.look l f now x E=.ok E' W→x<fr→EnvC k fr E→∀ g,x<g→Sc.look u g now x (flt k E)=.ok (flt k E') W∧EnvC k fr E'∧WrC fr W:=by
  intro f
  induction f with
  | zero=>intro now x E E' W h;cases h
  | succ f ih =>
    intro now x E E' W hl hx hE g hg
    obtain ⟨g,rfl⟩ : ∃ g',g=g' + 1:=⟨g-1,by omega⟩
    have hxl:x<l.length:=by have:=h.frk;have:=h.kr;have:=h.rlen;omega
    have hk:=h.kidLow hxl
    have hkid:∀ E E' W,kidsF l (Sc.look l f) now x E=.ok E' W→EnvC k fr E→kidsF u (Sc.look u g) now x (flt k E)=.ok (flt k E') W∧EnvC k fr E'∧WrC fr W:=by
      intro E E' W hq hE
      unfold kidsF at hq ⊢
      rw [h.kind hx,h.kids hx]
      split at hq
      · rename_i hop
        rw [if_pos hop]
        obtain ⟨rfl,E2,h2⟩:=back_ok hq
        obtain ⟨a1,a2,a3⟩:=each_cut (g':=Sc.look u g (now+1)) _ _ _ _ h2 hE (fun y hy E E' W hh hE=>ih _ _ _ _ _ hh (by have:=hk y hy;omega) hE g (by have:=hk y hy;omega))
        rw [a1]
        exact ⟨rfl,hE,a3⟩
      · rename_i hop
        rw [if_neg hop]
        exact each_cut (g':=Sc.look u g now) _ _ _ _ hq hE (fun y hy E E' W hh hE=>ih _ _ _ _ _ hh (by have:=hk y hy;omega) hE g (by have:=hk y hy;omega))
    simp only [Sc.look] at hl ⊢
    rw [h.kind hx]
    split at hl
    · rename_i h12
      rw [if_pos h12]
      obtain ⟨E1,W1,W2,h1,h2,rfl⟩:=bind_ok hl
      obtain ⟨a1,a2,a3⟩:=hkid _ _ _ h1 hE
      obtain ⟨b1,b2,b3⟩:=own_cut h h2 hx a2
      refine ⟨?_,b2,a3.app b3⟩
      rw [a1]
      show (own u now x (flt k E1)).pre W1=_
      rw [b1];rfl
    · rename_i h12
      rw [if_neg h12]
      obtain ⟨E1,W1,W2,h1,h2,rfl⟩:=bind_ok hl
      obtain ⟨a1,a2,a3⟩:=own_cut h h1 hx hE
      obtain ⟨b1,b2,b3⟩:=hkid _ _ _ h2 a2
      refine ⟨?_,b2,a3.app b3⟩
      rw [a1]
      show (kidsF u (Sc.look u g) now x (flt k E1)).pre W1=_
      rw [b1];rfl
theorem tops_cut (h:Cut l u r k fr):∀ (c:List Int) (E E':Env) (W:Wr),tops l c E=.ok E' W→(∀ x ∈ c,x.toNat<fr)→EnvC k fr E→tops u c (flt k E)=.ok (flt k E') W∧EnvC k fr E':=by
  intro c
  induction c with
  | nil=>intro E E' W h _ hE;cases h;exact ⟨rfl,hE⟩
  | cons x c ih =>
    intro E E' W ht hc hE
    have hx:=hc x (List.mem_cons_self ..)
    simp only [tops] at ht ⊢
    rw [h.text hx]
    split at ht
    · cases ht
    · rename_i hl
      rw [if_neg hl]
      obtain ⟨E1,W1,W2,h1,h2,rfl⟩:=bind_ok ht
      obtain ⟨a1,a2,_⟩:=decl_cut h h1 hx hE
      obtain ⟨b1,b2⟩:=ih _ _ _ h2 (fun y hy=>hc y (List.mem_cons_of_mem _ hy)) a2
      refine ⟨?_,b2⟩
      rw [a1]
      show (tops u c (flt k E1)).pre W1=_
      rw [b1];rfl
theorem tops_app {l:List Nd}:∀ (c d:List Int) (E E':Env) (W:Wr),tops l (c ++ d) E=.ok E' W→∃ E1 W1 W2,tops l c E=.ok E1 W1∧tops l d E1=.ok E' W2:=by
  intro c
  induction c with
  | nil=>intro d E E' W h;exact ⟨E,[],W,rfl,h⟩
  | cons x c ih =>
    intro d E E' W h
    simp only [List.cons_append,tops] at h ⊢
    split at h
    · cases h
    · rename_i hl
      obtain ⟨E1,W1,W2,h1,h2,rfl⟩:=bind_ok h
      obtain ⟨E3,W3,W4,h3,h4⟩:=ih _ _ _ _ h2
      refine ⟨E3,W1 ++ W3,W4,?_,h4⟩
      rw [if_neg hl,h1]
      show (tops l c E1).pre W1=_
      rw [h3];rfl
theorem each_app {g:Nat→Env→Rs}:∀ (c d:List Int) (E E':Env) (W:Wr),each g (c ++ d) E=.ok E' W→∃ E1 W1 W2,each g c E=.ok E1 W1∧each g d E1=.ok E' W2∧W=W1 ++ W2:=by
  intro c
  induction c with
  | nil=>intro d E E' W h;exact ⟨E,[],W,rfl,h,rfl⟩
  | cons x c ih =>
    intro d E E' W h
    obtain ⟨E1,W1,W2,h1,h2,rfl⟩:=bind_ok h
    obtain ⟨E3,W3,W4,h3,h4,rfl⟩:=ih _ _ _ _ h2
    refine ⟨E3,W1 ++ W3,W4,?_,h4,by rw [List.append_assoc]⟩
    show (g x.toNat E).bind (each g c)=_
    rw [h1]
    show (each g c E1).pre W1=_
    rw [h3];rfl
/-- from which node on something is written -/
theorem look_from {l:List Nd}(hC:∀ j,j<l.length→codeAt l j=0):∀ (f now x:Nat) (E E':Env) (W:Wr),Sc.look l f now x E=.ok E' W→x<l.length→∀ y ∈ W,St l x≤y.1:=by
  intro f
  induction f with
  | zero=>intro now x E E' W h;cases h
  | succ f ih =>
    intro now x E E' W h hx
    obtain ⟨q,hK⟩:=kin_of hx (hC x hx)
    have hle:=St_le l x
    have hown:∀ E E' W,own l now x E=.ok E' W→∀ y ∈ W,St l x≤y.1:=fun E E' W h y hy=>by
      rcases own_in h with rfl | ⟨v,rfl⟩
      · cases hy
      · rw [one_mem hy];exact hle
    have heach:∀ (now:Nat) (c:List Int),(∀ z ∈ c,z ∈ kidsAt l x)→∀ E E' W,each (Sc.look l f now) c E=.ok E' W→∀ y ∈ W,St l x≤y.1:=by
      intro now c
      induction c with
      | nil=>intro _ E E' W h y hy;cases h;cases hy
      | cons z c ihc =>
        intro hz E E' W h y hy
        obtain ⟨E1,W1,W2,h1,h2,rfl⟩:=bind_ok h
        rcases List.mem_append.1 hy with hy | hy
        · obtain ⟨j,hj,e⟩:=List.getElem_of_mem (hz z (List.mem_cons_self ..))
          obtain ⟨t,e1,e2,e3,e4⟩:=hK.lt j hj
          have ht:z.toNat=t:=by rw [← e,e1];rfl
          rw [ht] at h1
          have:=ih _ _ _ _ _ h1 (by omega) y hy
          have:=hK.mono 0 j (Nat.zero_le _) (by omega)
          rw [hK.from_] at this
          omega
        · exact ihc (fun z hz2=>hz z (List.mem_cons_of_mem _ hz2)) _ _ _ h2 y hy
    have hkid:∀ E E' W,kidsF l (Sc.look l f) now x E=.ok E' W→∀ y ∈ W,St l x≤y.1:=by
      intro E E' W h
      unfold kidsF at h
      split at h
      · obtain ⟨rfl,E2,h2⟩:=back_ok h
        exact heach _ _ (fun _ h=>h) _ _ _ h2
      · exact heach _ _ (fun _ h=>h) _ _ _ h
    simp only [Sc.look] at h
    split at h
    · obtain ⟨E1,W1,W2,h1,h2,rfl⟩:=bind_ok h
      exact fun y hy=>(List.mem_append.1 hy).elim (hkid _ _ _ h1 y) (hown _ _ _ h2 y)
    · obtain ⟨E1,W1,W2,h1,h2,rfl⟩:=bind_ok h
      exact fun y hy=>(List.mem_append.1 hy).elim (hown _ _ _ h1 y) (hkid _ _ _ h2 y)
/-- what is written stands there, in whatever list -/
theorem ov_same {W:Wr}{i:Nat}:∀ {X Y:List Int},i ∈ W.map (·.1)→i<X.length→i<Y.length→(ov W X)[i]? = (ov W Y)[i]?:=by
  induction W with
  | nil=>intro X Y h;cases h
  | cons x W ih =>
    intro X Y h hX hY
    show (ov W (X.set x.1 x.2))[i]? = (ov W (Y.set x.1 x.2))[i]?
    by_cases hm:i ∈ W.map (·.1)
    · exact ih hm (by simpa using hX) (by simpa using hY)
    · simp only [List.map_cons,List.mem_cons] at h
      have e:=h.resolve_right hm
      rw [ov_get_not hm,ov_get_not hm,List.getElem?_set,List.getElem?_set,if_pos e.symm,if_pos e.symm,if_pos (by omega),if_pos (by omega)]
/-- what names stand for, in the tree without its last function -/
structure NsC (ns ns':List Int) (r fr:Nat):Prop where
  len:ns.length=r+1
  len':ns'.length=fr+1
  same:∀ j,j<fr→ns'[j]? = ns[j]?
  low:∀ j,j<fr→(ns.getD j 0).toNat<fr
theorem names_cut (h:Cut l u r k fr) {ns:List Int}(hn:namesF l=.ok ns):∃ ns',namesF u=.ok ns'∧NsC ns ns' r fr:=by
  obtain ⟨h1,E,Wt,E',W,ht,hl,rfl⟩:=names_open hn
  have hlr:l.length-1=r:=by rw [h.rlen];rfl
  have hur:u.length-1=fr:=by rw [h.ulen];rfl
  have hfk:=h.frk
  have hkr:=h.kr
  have hrl:=h.rlen
  obtain ⟨c,hc⟩:=h.last
  rw [hlr,hc] at ht
  obtain ⟨E0,W0,W00,t1,t2⟩:=tops_app _ _ _ _ _ ht
  have htl:=h.topLow
  rw [hc,List.dropLast_concat] at htl
  have hlow:∀ x ∈ c,x.toNat<fr:=fun x hx=>by obtain ⟨y,rfl,hy⟩:=htl x hx;simpa using hy
  obtain ⟨a1,a2⟩:=tops_cut h c [] E0 W0 t1 hlow (fun x hx=>by cases hx)
  have hE:E=E0 ++ [(k,0)]:=by
    simp only [tops,Int.toNat_natCast] at t2
    split at t2
    · cases t2
    · unfold declF at t2
      split at t2
      · cases t2
      · change (Rs.ok _ _).pre _=_ at t2
        cases t2;rfl
  have hflt:flt k E=flt k E0:=by rw [hE,flt_app,flt_last,List.append_nil]
  have hEC:EnvC k fr E:=by rw [hE];exact a2.app (Or.inl rfl)
  -- the root
  rw [hlr,h.rlen] at hl
  simp only [Sc.look] at hl
  rw [if_neg (by rw [h.rk];decide)] at hl
  have hown:∀ (l:List Nd) (x now:Nat) (E:Env),kindAt l x=1→own l now x E=.ok E []:=fun l x now E hk=>by unfold own;rw [hk];rfl
  rw [hown l r 0 E h.rk] at hl
  change (kidsF l (Sc.look l r) 0 r E).pre []=_ at hl
  rw [pre_nil] at hl
  unfold kidsF at hl
  rw [if_neg (by rw [h.rk];decide),hc] at hl
  obtain ⟨E1,W1,W2,g1,g2,rfl⟩:=each_app _ _ _ _ _ hl
  obtain ⟨b1,b2,b3⟩:=each_cut (g':=Sc.look u fr 0) _ _ _ _ g1 hEC (fun x hx E E' W hh hE=>look_cut h _ _ _ _ _ _ hh (hlow x hx) hE fr (hlow x hx))
  have hW2:∀ y ∈ W2,fr≤y.1:=by
    obtain ⟨E2,W3,W4,g3,g4,rfl⟩:=bind_ok (r:=Sc.look l r 0 k E1) (f:=each (Sc.look l r 0) []) (by
      have e:each (Sc.look l r 0) [(k:Int)] E1=(Sc.look l r 0 k E1).bind (each (Sc.look l r 0) []):=by show (Sc.look l r 0 (k:Int).toNat E1).bind _=_;rw [Int.toNat_natCast]
      rw [← e];exact g2)
    cases g4
    intro y hy
    rw [List.append_nil] at hy
    have:=look_from h.code _ _ _ _ _ _ g3 (by omega) y hy
    rw [h.kst] at this
    exact this
  have hu:namesF u=.ok (ov W1 (List.replicate (fr+1) (-1))):=by
    unfold namesF
    rw [hur,h.rootKind,h.rootKids,hc,List.dropLast_concat]
    have e0:tops u c []=.ok (flt k E0) W0:=a1
    rw [e0,h.ulen,if_neg (by simp)]
    show finF u (Sc.look u (fr+1) 0 fr (flt k E0))=_
    rw [Sc.look,if_neg (by rw [h.rootKind];decide),hown u fr 0 _ h.rootKind]
    show finF u ((kidsF u (Sc.look u fr) 0 fr (flt k E0)).pre [])=_
    rw [pre_nil]
    unfold kidsF
    rw [if_neg (by rw [h.rootKind];decide),h.rootKids,hc,List.dropLast_concat,← hflt,b1]
    unfold finF
    rw [h.ulen]
  have hs:∀ j,j<fr→(ov W1 (List.replicate (fr+1) (-1)))[j]? = (ov (W1 ++ W2) (List.replicate l.length (-1)))[j]?:=fun j hj=>by
    rw [ov_app,ov_get_not (W:=W2) (by
      intro hm
      obtain ⟨y,hy,e⟩:=List.mem_map.1 hm
      have:=hW2 y hy
      omega)]
    by_cases hm:j ∈ W1.map (·.1)
    · exact ov_same hm (by simp;omega) (by simp;omega)
    · rw [ov_get_not hm,ov_get_not hm]
      rw [List.getElem?_replicate,List.getElem?_replicate,if_pos (by omega),if_pos (by omega)]
  refine ⟨_,hu,by rw [ov_len];simp [hrl],by rw [ov_len];simp,hs,fun j hj=>?_⟩
  rw [List.getD_eq_getElem?_getD,← hs j hj]
  have hp:=h.pos
  by_cases hm:j ∈ W1.map (·.1)
  · obtain ⟨y,hy,e1,e2⟩:=ov_get_mem (W:=W1) (X:=List.replicate (fr+1) (-1)) (by simp;omega) hm
    rw [e2]
    have:=b3 y hy
    show y.2.toNat<fr
    omega
  · rw [ov_get_not hm,List.getElem?_replicate,if_pos (by omega)]
    exact hp
end
end Ty
end
section
namespace Ty
open Go.RowKit
open Tr Sc

section
variable {l u:List Nd}{r k fr:Nat}{ns ns':List Int}
theorem NsC.getD (hn:NsC ns ns' r fr) {j:Nat}(hj:j<fr):ns'.getD j 0=ns.getD j 0:=by rw [List.getD_eq_getElem?_getD,List.getD_eq_getElem?_getD,hn.same j hj]
theorem by_cut (hn:NsC ns ns' r fr) {j:Nat}(hj:j<fr):byAt ns' j=byAt ns j∧byAt ns j<fr:=by
  unfold byAt;rw [hn.getD hj];exact ⟨rfl,hn.low j hj⟩
theorem arr_cut (h:Cut l u r k fr) (hn:NsC ns ns' r fr) {j:Nat}(hj:j<fr):arrB u ns' j=arrB l ns j:=by
  obtain ⟨e,e2⟩:=by_cut hn hj
  unfold arrB;rw [e,h.num e2]
theorem place_cut (h:Cut l u r k fr) (hn:NsC ns ns' r fr) {j:Nat}(hj:j<fr):placeB u ns' j=placeB l ns j:=by
  unfold placeB;rw [h.kind hj,arr_cut h hn hj,h.text hj]
theorem mem_cut (h:Cut l u r k fr) (hn:NsC ns ns' r fr) {j:Nat}(hj:j<fr):memB u ns' j=memB l ns j:=by
  obtain ⟨e,e2⟩:=by_cut hn hj
  unfold memB;rw [h.kind hj,e,h.kind e2]
theorem one_cut (h:Cut l u r k fr) (hn:NsC ns ns' r fr) {s:List UInt8}{j:Nat}{x:Int}(hj:j<fr):oneF u ns' s j x=oneF l ns s j x:=by
  unfold oneF;rw [place_cut h hn hj,mem_cut h hn hj]
theorem Cut.lt (h:Cut l u r k fr) {j:Nat}(hj:j<fr):j<l.length:=by have:=h.frk;have:=h.kr;have:=h.rlen;omega
theorem pars_cut (h:Cut l u r k fr) {j:Nat}(hj:j<fr):parsF u j=parsF l j:=by
  unfold parsF
  rw [h.kids hj]
  refine List.map_congr_left fun x hx=>?_
  have:=h.kidLow (h.lt hj) x (List.dropLast_subset _ hx)
  exact h.num (by omega)
theorem callee_cut (h:Cut l u r k fr) (hn:NsC ns ns' r fr) {j:Nat}(hj:j<fr):calleeF u ns' j=calleeF l ns j:=by
  obtain ⟨e,e2⟩:=by_cut hn hj
  unfold calleeF;rw [hn.getD hj,e,pars_cut h e2,h.num e2,h.text hj]
/-- types that are alike ahead -/
structure FsC (fs fs':List Int) (r fr:Nat):Prop where
  len:fs.length=r+1
  len':fs'.length=fr+1
  same:∀ j,j<fr→fs'[j]? = fs[j]?
theorem FsC.iAt {fs fs':List Int}(hf:FsC fs fs' r fr) {x:Int}(hx:x.toNat<fr):iAt fs' x=iAt fs x:=by
  unfold Ty.iAt;rw [List.getD_eq_getElem?_getD,List.getD_eq_getElem?_getD,hf.same _ hx]
theorem FsC.set_ {fs fs':List Int}(hf:FsC fs fs' r fr) (j:Nat) (v:Int):FsC (fs.set j v) (fs'.set j v) r fr:=by
  refine ⟨by simpa using hf.len,by simpa using hf.len',fun i hi=>?_⟩
  rw [List.getElem?_set,List.getElem?_set,hf.same i hi]
  have h1:=hf.len;have h2:=hf.len'
  by_cases e:j=i
  · rw [if_pos e,if_pos e]
    by_cases e2:j<fs'.length
    · have:=hf.same i hi
      have h3:j<fs.length:=by
        rw [List.getElem?_eq_getElem (by omega)] at this
        by_cases h4:i<fs.length
        · omega
        · rw [List.getElem?_eq_none (by omega)] at this;cases this
      rw [if_pos e2,if_pos h3]
    · omega
  · rw [if_neg e,if_neg e]
theorem kt_cut (h:Cut l u r k fr) {fs fs':List Int}(hf:FsC fs fs' r fr) {j:Nat}(hj:j<fr):ktF u fs' j=ktF l fs j:=by
  unfold ktF
  rw [h.kids hj]
  refine List.map_congr_left fun x hx=>?_
  have:=h.kidLow (h.lt hj) x hx
  exact hf.iAt (by omega)
theorem name_cut (h:Cut l u r k fr) (hn:NsC ns ns' r fr) {j:Nat}(hj:j<fr):nameT u ns' j=nameT l ns j:=by
  obtain ⟨e,e2⟩:=by_cut hn hj
  unfold nameT;rw [arr_cut h hn hj,e,h.num e2]
theorem Cut.kid0 (h:Cut l u r k fr) {j i:Nat}(hj:j<fr):((kidsAt l j).getD i 0).toNat<fr:=by
  by_cases hi:i<(kidsAt l j).length
  · have e:(kidsAt l j).getD i 0=(kidsAt l j)[i]:=by simp [hi]
    have:=h.kidLow (h.lt hj) _ (List.getElem_mem hi)
    rw [e];omega
  · have e:(kidsAt l j).getD i 0=0:=by simp [List.getElem?_eq_none (show (kidsAt l j).length≤i by omega)]
    rw [e];exact h.pos
theorem expr_cut (h:Cut l u r k fr) (hn:NsC ns ns' r fr) {fs fs':List Int}(hf:FsC fs fs' r fr) {j:Nat}(hj:j<fr):exprF u ns' fs' j=exprF l ns fs j:=by
  unfold exprF
  simp only [kt_cut h hf hj,h.kind hj,name_cut h hn hj,callee_cut h hn hj,h.kids hj,h.text hj,one_cut h hn (h.kid0 (i:=0) hj),place_cut h hn (h.kid0 (i:=0) hj)]
/-- the nodes that a node is in: the same, and the root at the end -/
theorem par_cut (h:Cut l u r k fr) {y:Nat}(hy:y<fr):(∃ z,z<fr∧y<z∧(parF l).getD y 0=(z:Int)∧(parF u).getD y 0=(z:Int))∨((parF l).getD y 0=(r:Int)∧(parF u).getD y 0=(fr:Int)):=by
  have hrl:=h.rlen
  have hul:=h.ulen
  have hfk:=h.frk
  have hkr:=h.kr
  obtain ⟨_,_,h1⟩:=par_facts (l:=l) (by omega) h.code (by rw [hrl];exact h.top)
  obtain ⟨_,_,h2⟩:=par_facts (l:=u) (by omega) h.codes (by rw [hul];exact h.rootTop)
  obtain ⟨z,a1,a2,a3,a4⟩:=h1 y (by omega)
  obtain ⟨z',b1,b2,b3,b4⟩:=h2 y (by omega)
  have hone:∀ a b:Nat,a<l.length→b<l.length→(y:Int) ∈ kidsAt l a→(y:Int) ∈ kidsAt l b→a=b:=fun a b ha hb hma hmb=>by
    rcases Nat.lt_trichotomy a b with e | e | e
    · exact (kid_once h.code hb e hma hmb).elim
    · exact e
    · exact (kid_once h.code ha e hmb hma).elim
  by_cases e:z' < fr
  · rw [h.kids e] at b4
    have:=hone z z' a2 (by omega) a4 b4
    subst this
    exact Or.inl ⟨z,e,a1,a3,b3⟩
  · have hz:z' = fr:=by omega
    subst hz
    rw [h.rootKids] at b4
    have:=hone z r a2 (by omega) a4 (List.dropLast_subset _ b4)
    subst this
    exact Or.inr ⟨a3,b3⟩
theorem outs_cut (h:Cut l u r k fr):∀ (n y f g:Nat),fr-y=n→y<fr→r+1-y≤f→fr+1-y≤g→∃ L,(∀ o ∈ L,o<fr)∧outs (parF l) f (y:Int)=L ++ [r]∧outs (parF u) g (y:Int)=L ++ [fr]:=by
  have hrl:=h.rlen
  have hul:=h.ulen
  have hfk:=h.frk
  have hkr:=h.kr
  obtain ⟨p1,p2,_⟩:=par_facts (l:=l) (by omega) h.code (by rw [hrl];exact h.top)
  obtain ⟨q1,q2,_⟩:=par_facts (l:=u) (by omega) h.codes (by rw [hul];exact h.rootTop)
  have gl:∀ y,y<l.length→(parF l).getD y (-1)=(parF l).getD y 0:=fun y hy=>by rw [List.getD_eq_getElem?_getD,List.getD_eq_getElem?_getD,List.getElem?_eq_getElem (by omega)];rfl
  have gu:∀ y,y<u.length→(parF u).getD y (-1)=(parF u).getD y 0:=fun y hy=>by rw [List.getD_eq_getElem?_getD,List.getD_eq_getElem?_getD,List.getElem?_eq_getElem (by omega)];rfl
  rw [hrl,Nat.add_sub_cancel] at p2
  rw [hul,Nat.add_sub_cancel] at q2
  intro n
  induction n using Nat.strongRecOn with
  | _ n ih =>
    intro y f g hn hy hf hg
    obtain ⟨f,rfl⟩ : ∃ f',f=f' + 1:=⟨f-1,by omega⟩
    obtain ⟨g,rfl⟩ : ∃ g',g=g' + 1:=⟨g-1,by omega⟩
    rw [outs_pos,outs_pos,gl y (by omega),gu y (by omega)]
    rcases par_cut h hy with ⟨z,z1,z2,z3,z4⟩ | ⟨z3,z4⟩
    · obtain ⟨L,h1,h2,h3⟩:=ih (fr-z) (by omega) z f g rfl z1 (by omega) (by omega)
      refine ⟨y :: L,fun o ho=>?_,by rw [z3,h2];rfl,by rw [z4,h3];rfl⟩
      rcases List.mem_cons.1 ho with rfl | ho
      · exact hy
      · exact h1 o ho
    · refine ⟨[y],fun o ho=>by simp at ho;omega,?_,?_⟩
      · obtain ⟨f,rfl⟩ : ∃ f',f=f' + 1:=⟨f-1,by omega⟩
        rw [z3,outs_pos,gl r (by omega),p2,outs_neg (by decide)];rfl
      · obtain ⟨g,rfl⟩ : ∃ g',g=g' + 1:=⟨g-1,by omega⟩
        rw [z4,outs_pos,gu fr (by omega),q2,outs_neg (by decide)];rfl
theorem outsF_cut (h:Cut l u r k fr) {y:Nat}(hy:y<fr):∃ L,(∀ o ∈ L,o<fr)∧outsF l y=L ++ [r]∧outsF u y=L ++ [fr]:=by
  have hrl:=h.rlen
  have hul:=h.ulen
  have hfk:=h.frk
  have hkr:=h.kr
  obtain ⟨p1,p2,_⟩:=par_facts (l:=l) (by omega) h.code (by rw [hrl];exact h.top)
  obtain ⟨q1,q2,_⟩:=par_facts (l:=u) (by omega) h.codes (by rw [hul];exact h.rootTop)
  obtain ⟨L,h1,h2,h3⟩:=outs_cut h (fr-y) y (r+2-y) (fr+2-y) rfl hy (by omega) (by omega)
  have e1:r+2-y=(r+1-y)+1:=by omega
  have e2:fr+2-y=(fr+1-y)+1:=by omega
  have hpy:∀ z,z<l.length→(parF l).getD z (-1) = -1∨∃ t:Nat,(parF l).getD z (-1)=(t:Int)∧z<t∧t<l.length:=fun z hz=>by
    obtain ⟨_,a1,a2⟩:=par_facts (l:=l) (by omega) h.code (by rw [hrl];exact h.top)
    have e:(parF l).getD z (-1)=(parF l).getD z 0:=by rw [List.getD_eq_getElem?_getD,List.getD_eq_getElem?_getD,List.getElem?_eq_getElem (by omega)];rfl
    by_cases h0:z+1<l.length
    · obtain ⟨t,t1,t2,t3,_⟩:=a2 z h0
      exact Or.inr ⟨t,by rw [e];exact t3,t1,t2⟩
    · have:z=l.length-1:=by omega
      subst this
      exact Or.inl (by rw [e];exact a1)
  have gl:(parF l).getD y (-1)=(parF l).getD y 0:=by rw [List.getD_eq_getElem?_getD,List.getD_eq_getElem?_getD,List.getElem?_eq_getElem (by omega)];rfl
  have gu:(parF u).getD y (-1)=(parF u).getD y 0:=by rw [List.getD_eq_getElem?_getD,List.getD_eq_getElem?_getD,List.getElem?_eq_getElem (by omega)];rfl
  unfold outsF
  rw [gl,gu]
  have gl2:∀ y,y<l.length→(parF l).getD y (-1)=(parF l).getD y 0:=fun y hy=>by rw [List.getD_eq_getElem?_getD,List.getD_eq_getElem?_getD,List.getElem?_eq_getElem (by omega)];rfl
  have gu2:∀ y,y<u.length→(parF u).getD y (-1)=(parF u).getD y 0:=fun y hy=>by rw [List.getD_eq_getElem?_getD,List.getD_eq_getElem?_getD,List.getElem?_eq_getElem (by omega)];rfl
  rw [hrl,Nat.add_sub_cancel] at p2
  rw [hul,Nat.add_sub_cancel] at q2
  rcases par_cut h hy with ⟨z,z1,z2,z3,z4⟩ | ⟨z3,z4⟩
  · obtain ⟨L,h1,h2,h3⟩:=outs_cut h (fr-z) z l.length u.length rfl z1 (by omega) (by omega)
    exact ⟨L,h1,by rw [z3];exact h2,by rw [z4];exact h3⟩
  · refine ⟨[],(fun o ho=>by cases ho),?_,?_⟩
    · rw [z3,hrl,outs_pos,gl2 r (by omega),p2,outs_neg (by decide)];rfl
    · rw [z4,hul,outs_pos,gu2 fr (by omega),q2,outs_neg (by decide)];rfl
theorem find_congr {p q:Nat→Bool}:∀ (L:List Nat),(∀ o ∈ L,p o=q o)→L.find? p=L.find? q:=by
  intro L
  induction L with
  | nil=>intro _;rfl
  | cons x L ih=>intro h;rw [List.find?_cons,List.find?_cons,h x (List.mem_cons_self ..),ih (fun y hy=>h y (List.mem_cons_of_mem _ hy))]
theorem any_congr2 {p q:Nat→Bool}:∀ (L:List Nat),(∀ o ∈ L,p o=q o)→L.any p=L.any q:=by
  intro L
  induction L with
  | nil=>intro _;rfl
  | cons x L ih=>intro h;rw [List.any_cons,List.any_cons,h x (List.mem_cons_self ..),ih (fun y hy=>h y (List.mem_cons_of_mem _ hy))]
theorem tells_cut (h:Cut l u r k fr) {j:Nat}(hj:j<fr):tellsF u j=tellsF l j:=by
  obtain ⟨L,h1,h2,h3⟩:=outsF_cut h hj
  unfold tellsF
  rw [h2,h3,List.find?_append,List.find?_append]
  have e1 : [r].find? (fun o=>decide (kindAt l o=3))=none:=by simp [h.rk]
  have e2 : [fr].find? (fun o=>decide (kindAt u o=3))=none:=by simp [h.rootKind]
  rw [e1,e2,find_congr (p:=fun o=>decide (kindAt u o=3)) (q:=fun o=>decide (kindAt l o=3)) L (fun o ho=>by rw [h.kind (h1 o ho)])]
  cases hf:L.find? (fun o=>decide (kindAt l o=3)) with
  | none=>rfl
  | some o=>exact h.num (h1 o (List.mem_of_find?_eq_some hf))
theorem in_cut (h:Cut l u r k fr) {j:Nat}{ks:List Int}(h1k:(1:Int) ∉ ks) (hj:j<fr):inB u j ks=inB l j ks:=by
  obtain ⟨L,h1,h2,h3⟩:=outsF_cut h hj
  unfold inB
  rw [h2,h3,List.any_append,List.any_append,any_congr2 (p:=fun o=>ks.contains (kindAt u o)) (q:=fun o=>ks.contains (kindAt l o)) L (fun o ho=>by rw [h.kind (h1 o ho)])]
  simp [h.rk,h.rootKind]
theorem act_cut (h:Cut l u r k fr) {fs fs':List Int}(hf:FsC fs fs' r fr) {j:Nat}(hj:j<fr):actF u fs' j=actF l fs j:=by
  have hc:∀ i,condB u fs' j i=condB l fs j i:=fun i=>by unfold condB;rw [h.kids hj,h.kind (h.kid0 hj),kt_cut h hf hj]
  have hi:initB u fs' j=initB l fs j:=by unfold initB;rw [kt_cut h hf hj,h.num hj]
  have hr:retB u fs' j=retB l fs j:=by unfold retB;rw [tells_cut h hj,h.kids hj,kt_cut h hf hj]
  unfold actF
  rw [h.kind hj,hi,hc,hc,kt_cut h hf hj,hr,in_cut h (by decide) hj,in_cut h (by decide) hj]
theorem chk_cut (h:Cut l u r k fr) (hn:NsC ns ns' r fr) {fs fs':List Int}(hf:FsC fs fs' r fr) {j:Nat}(hj:j<fr):(chkF u ns' fs' j).1=(chkF l ns fs j).1∧FsC (chkF l ns fs j).2 (chkF u ns' fs' j).2 r fr:=by
  unfold chkF
  rw [h.kind hj,expr_cut h hn hf hj,act_cut h hf hj]
  split
  · split
    · exact ⟨rfl,hf.set_ _ _⟩
    · exact ⟨rfl,hf⟩
  · exact ⟨rfl,hf⟩
theorem chk_keep {l:List Nd}{ns fs:List Int}{j i:Nat}(h:i<j):(chkF l ns fs j).2[i]? = fs[i]?:=by
  unfold chkF
  split
  · split
    · rw [List.getElem?_set,if_neg (by omega)]
    · rfl
  · rfl
theorem chk_len {l:List Nd}{ns fs:List Int}{j:Nat}:(chkF l ns fs j).2.length=fs.length:=by
  unfold chkF
  split
  · split
    · simp
    · rfl
  · rfl
theorem run_keep {l:List Nd}{ns:List Int}:∀ (f j:Nat) (fs fsE:List Int),runF l ns f j fs=.ok fsE→fsE.length=fs.length∧∀ i,i<j→fsE[i]? = fs[i]?:=by
  intro f
  induction f with
  | zero=>intro j fs fsE h;cases h;exact ⟨rfl,fun _ _=>rfl⟩
  | succ f ih =>
    intro j fs fsE h
    simp only [runF] at h
    split at h
    · cases h
    · obtain ⟨h1,h2⟩:=ih _ _ _ h
      exact ⟨h1.trans chk_len,fun i hi=>(h2 i (by omega)).trans (chk_keep hi)⟩
theorem run_cut (h:Cut l u r k fr) (hn:NsC ns ns' r fr):∀ (n f j:Nat) (fs fs' fsE:List Int),fr-j=n→j≤fr→n≤f→runF l ns f j fs=.ok fsE→FsC fs fs' r fr→∃ fsE',runF u ns' (n+1) j fs' = .ok fsE'∧FsC fsE fsE' r fr:=by
  intro n
  induction n with
  | zero =>
    intro f j fs fs' fsE hj hle _ hr hf
    have e:j=fr:=by omega
    subst e
    obtain ⟨h1,h2⟩:=run_keep _ _ _ _ hr
    have hc:chkF u ns' fs' j=(0,fs'):=by
      unfold chkF actF
      rw [h.rootKind];rfl
    refine ⟨fs',?_,h1.trans hf.len,hf.len',fun i hi=>(hf.same i hi).trans (h2 i hi).symm⟩
    simp only [runF,hc]
    rfl
  | succ n ih =>
    intro f j fs fs' fsE hj hle hnf hr hf
    obtain ⟨f,rfl⟩ : ∃ f',f=f' + 1:=⟨f-1,by omega⟩
    obtain ⟨c1,c2⟩:=chk_cut h hn hf (j:=j) (by omega)
    rw [runF] at hr
    split at hr
    · cases hr
    · rename_i h0
      obtain ⟨fsE',e1,e2⟩:=ih f (j+1) _ _ _ (by omega) (by omega) (by omega) hr c2
      refine ⟨fsE',?_,e2⟩
      rw [runF,c1,if_neg h0]
      exact e1
/-- no function stands within the part that is struck -/
theorem no_fun (h:Cut l u r k fr) {x:Nat}(h1:fr≤x) (h2:x<k):kindAt l x≠3:=by
  have hkl:k<l.length:=by have:=h.kr;have:=h.rlen;omega
  obtain ⟨z,z1,z2,z3⟩:=covered h.code k hkl x (by rw [h.kst];exact h1) h2
  have hz1:kindAt l z≠1:=by
    by_cases e:z=k
    · rw [e,h.ktop];decide
    · obtain ⟨y,y1,y2,y3⟩:=covered h.code k hkl z (by rw [h.kst];omega) (by omega)
      obtain ⟨q,hK⟩:=kin_of (show y<l.length by omega) (h.code y (by omega))
      obtain ⟨j,hj,e2⟩:=hK.mem y3
      exact hK.kidUnit j hj e2
  obtain ⟨q,hK⟩:=kin_of (show z<l.length by omega) (h.code z (by omega))
  obtain ⟨j,hj,e2⟩:=hK.mem z3
  exact fun e=>hK.kidTop hz1 j hj e2 (Or.inr e)
theorem main_cut (h:Cut l u r k fr) (hm:(mainF l).1=0):(mainF u).1=0:=by
  have hrl:=h.rlen
  have hul:=h.ulen
  have hfk:=h.frk
  have hkr:=h.kr
  unfold mainF at hm
  cases hn:mainN l with
  | none=>rw [hn] at hm;cases hm
  | some m =>
    rw [hn] at hm
    have hp:parsF l m=[]:=by
      by_cases e:parsF l m=[]
      · exact e
      · simp only [if_neg e] at hm;cases hm
    unfold mainN at hn
    rw [List.find?_range_eq_some] at hn
    obtain ⟨g1,g2,g3⟩:=hn
    have g2:m<l.length:=by simpa using g2
    have g1':kindAt l m=3∧tx l m=[109,97,105,110]:=by simpa using g1
    have hmf:m<fr:=by
      rcases Nat.lt_or_ge m fr with e | e
      · exact e
      · rcases Nat.lt_trichotomy m k with e2 | e2 | e2
        · exact absurd g1'.1 (no_fun h e e2)
        · rw [e2] at g1';exact absurd g1'.2 h.main
        · have e3:m=r:=by omega
          rw [e3,h.rk] at g1';exact absurd g1'.1 (by decide)
    have hu:mainN u=some m:=by
      unfold mainN
      rw [List.find?_range_eq_some]
      refine ⟨by rw [h.kind hmf,h.text hmf];exact g1,by simp;omega,fun j hj=>?_⟩
      rw [h.kind (by omega),h.text (by omega)]
      exact g3 j hj
    unfold mainF
    rw [hu]
    simp only [pars_cut h hmf,hp,if_true]
theorem types_cut (h:Cut l u r k fr) {fs:List Int}(ht:typesF l=.ok fs):∃ fs',typesF u=.ok fs'∧FsC fs fs' r fr:=by
  obtain ⟨ns,hn,hr,hm⟩:=types_open ht
  obtain ⟨ns',hn',hN⟩:=names_cut h hn
  have hrl:=h.rlen
  have hul:=h.ulen
  have hfk:=h.frk
  have hkr:=h.kr
  have h0:FsC (List.replicate l.length 0) (List.replicate (fr+1) 0) r fr:=⟨by simp [hrl],by simp,fun j hj=>by rw [List.getElem?_replicate,List.getElem?_replicate,if_pos (by omega),if_pos (by omega)]⟩
  obtain ⟨fs',e1,e2⟩:=run_cut h hN fr l.length 0 _ _ _ (by omega) (Nat.zero_le _) (by omega) hr h0
  refine ⟨fs',?_,e2⟩
  unfold typesF
  rw [hn']
  show typesN u ns' = _
  unfold typesN
  rw [hul,e1]
  have:=main_cut h hm
  simp [this]
end
end Ty
end
end Go.Proofs.YtdjpopebeenlmaaGreatDoor
