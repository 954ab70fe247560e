/-
  Joined texts of this claim: TrD, TrE.
-/
import Derived.Test.YtdjpopebeenlmaaGreatDoorW00
import Derived.Test.YtdjpopebeenlmaaGreatDoorW01
import Derived.Below
import Derived.Deep.QuietTactic
import Derived.BigQuiet
import Derived.RegionTactic
set_option maxHeartbeats 40000000
set_option maxRecDepth 100000
set_option linter.unusedVariables false
set_option linter.unusedSimpArgs false
namespace Go.Proofs.YtdjpopebeenlmaaGreatDoor
section
namespace Tr
open Go.RowKit

def numB (k n z:Int) (m:Nat):Bool:=if k=2∧n=3 then (decide (1≤z) && decide (z≤200) && decide ((m:Int)≤z)) else if z=0 then (if k=2 then (wordB n && decide (m≤1)) else if k=3 then (n == 0 || wordB n) else
  if k=4∨k=12 then wordB n else if k=31 then decide (0≤n) else if k=40 then (n == 0 || n == 1) else n == 0) else false

theorem below_drewN {B:Nat}{a w:World}(h:Below B a w) (n:Nat):Below B a (w.drewN n):=⟨h.os,h.tape,h.output,h.size,h.block⟩

set_option maxHeartbeats 1000000 in
theorem nums_any (k:Int) (t:ByteArray) (n z:Int) (p:Option Addr) (m cap:Nat) (a:Int) (w:World) (hm:m≤1000000000000000000) :
    Calls Tryz.prog 207 #[.agg #[.int .i64 k,.string t,.int .i64 n,.int .i64 z,.slice p m cap,.int .i64 a]] w fun e w'=>e=.returned (.bool (numB k n z m))∧Below w.heap.size w w':=by
  go_enter Tryz.func207,Tryz.ntmps207
  go_wp2_with (first | (go_at_call 239;refine (oneword_any _ _).mono ?_;rintro e w' ⟨rfl,rfl⟩))
  all_goals go_ret
  all_goals exact ⟨ret_bool (by go_light;rw [Bool.eq_iff_iff];(first | (simp_all [numB];done) | (simp_all [numB];omega))),(Below.refl _ _).alloc (Nat.le_refl _) _⟩

set_option maxHeartbeats 1000000 in
theorem takes_any (k:Int) (t:ByteArray) (n z:Int) (p:Option Addr) (m cap:Nat) (a i kid:Int) (w:World) (hm:m≤1000000000000000000) :
    Calls Tryz.prog 157 #[.agg #[.int .i64 k,.string t,.int .i64 n,.int .i64 z,.slice p m cap,.int .i64 a],.int .i64 i,.int .i64 kid] w fun e w'=>e=.returned (.bool (goB k i m kid))∧Below w.heap.size w w':=by
  go_enter Tryz.func157,Tryz.ntmps157
  go_wp2
  go_quiet (fail)
  go_wp2_with (first | (go_at_call 201;refine (expr_any _ _).mono ?_;rintro e w' ⟨rfl,rfl⟩) | (go_at_call 202;refine (act_any _ _).mono ?_;rintro e w' ⟨rfl,rfl⟩) | (go_at_call 203;refine (for_any _ _ _).mono ?_;rintro e w' ⟨rfl,rfl⟩))
  all_goals go_ret
  all_goals exact ⟨ret_bool (by go_light;rw [Bool.eq_iff_iff];simp_all [goB]),below_drewN ((Below.refl _ _).alloc (Nat.le_refl _) _) _⟩
end Tr
end
section
namespace Tr
open Go.RowKit

/-- a node: its fields, its kids as numbers, and where its list of kids lies -/
structure Nd where
  k:Int
  t:ByteArray
  n:Int
  z:Int
  p:Option Addr
  cap:Nat
  c:List Int
  a:Int
/-- the kids of a node, from the last one on: where the first of them begins -/
def walkK (S:Nat→Nat) (kd:Nat→Int) (k:Int) (c:List Int):Nat→Nat→Option Nat
  | 0,at_=>some at_
  | i+1,at_=>if at_=0∨c.getD i 0≠(at_:Int)-1∨goB k i c.length (kd (at_-1))=false then none else walkK S kd k c i (S (at_-1))
def kindAt (l:List Nd) (j:Nat):Int:=((l[j]?).map (·.k)).getD 0
def kidsAt (l:List Nd) (j:Nat):List Int:=((l[j]?).map (·.c)).getD []
/-- where the parts of the first nodes begin -/
def firsts (l:List Nd):Nat→List Nat
  | 0=>[]
  | k+1=>firsts l k ++ [(walkK (fun j=>(firsts l k).getD j 0) (kindAt l) (kindAt l k) (kidsAt l k) (kidsAt l k).length k).getD 0]
def St (l:List Nd) (j:Nat):Nat:=(firsts l (j+1)).getD j 0
def fieldV (k:Int) (t:ByteArray) (n z:Int) (m:Nat) (a:Int):Int:=if namedB k=true∧nameB t=false then 12 else if namedB k=false∧signB k t=false then 1 else if numB k n z m=false∨a<0 then 3 else 0
def fieldC (x:Nd):Int:=fieldV x.k x.t x.n x.z x.c.length x.a
def wayOf (l:List Nd) (j:Nat):Option Nat:=walkK (St l) (kindAt l) (kindAt l j) (kidsAt l j) (kidsAt l j).length j
def nodeC (l:List Nd) (j:Nat) (x:Nd):Int :=
  if kindB x.k=false then 4 else if (x.c.length:Int)<lowV x.k∨highV 9223372036854775807 x.k<x.c.length then 9 else if wayOf l j=none then 5 else fieldC x
def codeAt (l:List Nd) (j:Nat):Int:=((l[j]?).map (nodeC l j)).getD 0
/-- how deep the parts of the first nodes are -/
def maxI (d:Nat→Nat):List Int→Nat
  | []=>0
  | x :: c=>max (d x.toNat) (maxI d c)
def deeps (l:List Nd):Nat→List Nat
  | 0=>[]
  | k+1=>deeps l k ++ [maxI (fun j=>(deeps l k).getD j 0) (kidsAt l k)+1]
def Dp (l:List Nd) (j:Nat):Nat:=(deeps l (j+1)).getD j 0
/-- what Check tells of a tree -/
def CkR (l:List Nd) (c a:Int):Prop :=
  ((l.length<1∨600<l.length)∧c=2∧a=0) ∨
  (1≤l.length∧l.length≤600∧((∃ i,i<l.length∧(∀ j,j<i→codeAt l j=0)∧codeAt l i≠0∧c=codeAt l i∧a=i) ∨
    ((∀ j,j<l.length→codeAt l j=0)∧((St l (l.length-1)≠0∧c=5∧a=(l.length:Int)-1) ∨
      (St l (l.length-1)=0∧((40<Dp l (l.length-1)∧c=10∧a=0)∨(Dp l (l.length-1)≤40∧c=0∧a=0)))))))
theorem CkR.det {l:List Nd}{c a c' a':Int}(h:CkR l c a) (h':CkR l c' a'):c=c'∧a=a':=by
  rcases h with ⟨h1,rfl,rfl⟩ | ⟨h1,h2,h⟩
  · rcases h' with ⟨_,rfl,rfl⟩ | ⟨h1',h2',-⟩
    · exact ⟨rfl,rfl⟩
    · omega
  · rcases h' with ⟨h0,rfl,rfl⟩ | ⟨h1',h2',h'⟩
    · clear h;omega
    · rcases h with ⟨i,hi,hj,hne,rfl,rfl⟩ | ⟨hall,h⟩
      · rcases h' with ⟨i',hi',hj',hne',rfl,rfl⟩ | ⟨hall',_⟩
        · rcases Nat.lt_trichotomy i i' with hlt | rfl | hlt
          · exact absurd (hj' i hlt) hne
          · exact ⟨rfl,rfl⟩
          · exact absurd (hj i' hlt) hne'
        · exact absurd (hall' i hi) hne
      · rcases h' with ⟨i',hi',hj',hne',rfl,rfl⟩ | ⟨_,h'⟩
        · exact absurd (hall i' hi') hne'
        · rcases h with ⟨h3,rfl,rfl⟩ | ⟨h3,h⟩ <;> rcases h' with ⟨h4,rfl,rfl⟩ | ⟨h4,h'⟩
          · exact ⟨rfl,rfl⟩
          · exact absurd h4 h3
          · exact absurd h3 h4
          · rcases h with ⟨h5,rfl,rfl⟩ | ⟨h5,rfl,rfl⟩ <;> rcases h' with ⟨h6,rfl,rfl⟩ | ⟨h6,rfl,rfl⟩
            · exact ⟨rfl,rfl⟩
            · omega
            · omega
            · exact ⟨rfl,rfl⟩

theorem firsts_length (l:List Nd) (k:Nat):(firsts l k).length=k:=by
  induction k with
  | zero=>rfl
  | succ k ih=>simp [firsts,ih]
theorem firsts_get (l:List Nd) {j k:Nat}(h:j<k):(firsts l k).getD j 0=St l j:=by
  induction k with
  | zero=>omega
  | succ k ih =>
    by_cases e:j=k
    · subst e;rfl
    · have hj:j<k:=by omega
      rw [← ih hj]
      show (firsts l k ++ _).getD j 0=_
      simp only [List.getD]
      rw [List.getElem?_append_left (by rw [firsts_length];exact hj)]
theorem deeps_length (l:List Nd) (k:Nat):(deeps l k).length=k:=by
  induction k with
  | zero=>rfl
  | succ k ih=>simp [deeps,ih]
theorem deeps_get (l:List Nd) {j k:Nat}(h:j<k):(deeps l k).getD j 0=Dp l j:=by
  induction k with
  | zero=>omega
  | succ k ih =>
    by_cases e:j=k
    · subst e;rfl
    · have hj:j<k:=by omega
      rw [← ih hj]
      show (deeps l k ++ _).getD j 0=_
      simp only [List.getD]
      rw [List.getElem?_append_left (by rw [deeps_length];exact hj)]
/-- the walk asks only for what is told of earlier nodes -/
theorem walkK_le {S:Nat→Nat}{kd:Nat→Int}{k:Int}{c:List Int}(hS:∀ j,S j≤j):∀ (i at_ r:Nat),walkK S kd k c i at_=some r→r≤at_:=by
  intro i
  induction i with
  | zero=>intro at_ r h;simp [walkK] at h;omega
  | succ i ih =>
    intro at_ r h
    rw [walkK] at h
    split at h
    · cases h
    · have:=ih _ _ h
      have:=hS (at_-1)
      omega
theorem walkK_same {S S':Nat→Nat}{kd:Nat→Int}{k:Int}{c:List Int}{K:Nat}(hS:∀ j,S j≤j) (hE:∀ j,j<K→S' j=S j):∀ (i at_:Nat),at_≤K→walkK S' kd k c i at_=walkK S kd k c i at_:=by
  intro i
  induction i with
  | zero=>intro at_ _;rfl
  | succ i ih =>
    intro at_ h
    rw [walkK,walkK]
    split
    · rfl
    · rename_i hn
      have h0:at_≠0:=fun e=>hn (Or.inl e)
      have:=hS (at_-1)
      rw [hE (at_-1) (by omega)]
      exact ih _ (by omega)
theorem getD_le {o:Option Nat}{j:Nat}(h:∀ r,o=some r→r≤j):o.getD 0≤j:=by
  cases o with
  | none=>exact Nat.zero_le _
  | some r=>exact h r rfl
theorem St_le_aux (l:List Nd) (k:Nat):∀ j,(firsts l k).getD j 0≤j:=by
  induction k with
  | zero=>intro j;simp [firsts]
  | succ k ih =>
    intro j
    by_cases hj:j<k
    · have:=ih j
      simp only [List.getD] at this ⊢
      rw [firsts,List.getElem?_append_left (by rw [firsts_length];exact hj)]
      exact this
    · by_cases e:j=k
      · subst e
        simp only [List.getD,firsts]
        rw [List.getElem?_append_right (by rw [firsts_length];omega),firsts_length,Nat.sub_self]
        simp only [List.getElem?_cons_zero,Option.getD_some]
        exact getD_le fun r hw=>walkK_le ih _ _ _ hw
      · simp only [List.getD]
        rw [List.getElem?_eq_none (by rw [firsts_length];omega)]
        simp
theorem St_le (l:List Nd) (j:Nat):St l j≤j:=St_le_aux l (j+1) j
theorem St_eq (l:List Nd) (j:Nat):St l j=(wayOf l j).getD 0:=by
  unfold St wayOf
  simp only [List.getD,firsts]
  rw [List.getElem?_append_right (by rw [firsts_length];omega),firsts_length,Nat.sub_self]
  simp only [List.getElem?_cons_zero,Option.getD_some]
  rw [← walkK_same (K:=j) (S':=fun i=>(firsts l j)[i]?.getD 0) (S:=St l) (St_le l) (fun i hi=>firsts_get l hi) _ _ (Nat.le_refl _)]
theorem Dp_eq (l:List Nd) (j:Nat):Dp l j=maxI (fun i=>(deeps l j).getD i 0) (kidsAt l j)+1:=by
  unfold Dp
  simp only [List.getD,deeps]
  rw [List.getElem?_append_right (by rw [deeps_length];omega),deeps_length,Nat.sub_self]
  rfl
theorem kindAt_get {l:List Nd}{j:Nat}(h:j<l.length):kindAt l j=l[j].k:=by simp [kindAt,h]
theorem kidsAt_get {l:List Nd}{j:Nat}(h:j<l.length):kidsAt l j=l[j].c:=by simp [kidsAt,h]
theorem codeAt_get {l:List Nd}{j:Nat}(h:j<l.length):codeAt l j=nodeC l j l[j]:=by simp [codeAt,h]
end Tr
end
end Go.Proofs.YtdjpopebeenlmaaGreatDoor
