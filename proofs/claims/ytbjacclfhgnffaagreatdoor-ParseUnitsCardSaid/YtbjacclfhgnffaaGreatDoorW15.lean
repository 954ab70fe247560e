/-
  Joined texts of this claim: Gd, Ge, Gf, Gg, Gh, Rda, Rdb, Rdc.
-/
import Derived.Test.YtbjacclfhgnffaaGreatDoorW00
import Derived.Test.YtbjacclfhgnffaaGreatDoorW13
import Derived.Test.YtbjacclfhgnffaaGreatDoorW10
set_option maxHeartbeats 40000000
set_option maxRecDepth 100000
set_option linter.unusedVariables false
set_option linter.unusedSimpArgs false
namespace Go.Proofs.YtbjacclfhgnffaaGreatDoor
section
open Go.RowKit
open Tk (T4 bstr)
open Tr
theorem GivesAt.toks {s:S3}{r:R3}{P:List Int→Prop}(h:(∀ x,x ∈ s.L→TokOk x)→GivesAt s r P):GivesAt s r P:=fun os hi=>h hi.toks os hi
theorem pk_ok {E:Nat}{L:List T4}(h:∀ x,x ∈ L→TokOk x) (hk:(pk E L).k=1):nameB (bstr (pk E L).t)=true:=by
 cases L with
 | nil=>exact absurd (show (0:Nat)=1 from hk) (by decide)
 | cons x l=>exact h x (by simp) hk
theorem pk_a (E:Nat) (L:List T4):(0:Int)≤(pk E L).a:=Int.natCast_nonneg _
theorem ee2 {k1 k2:Int}(h1:exprB k1=true) (h2:exprB k2=true):EE [k1,k2]:=by
 intro k hk;rcases List.mem_cons.1 hk with rfl | hk;exact h1;rw [List.mem_singleton] at hk;subst hk;exact h2
theorem ee1 {k1:Int}(h1:exprB k1=true):EE [k1]:=by
 intro k hk;rw [List.mem_singleton] at hk;subst hk;exact h1
theorem ee3 {k1 k2 k3:Int}(h1:exprB k1=true) (h2:exprB k2=true) (h3:exprB k3=true):EE [k1,k2,k3]:=by
 intro k hk;rcases List.mem_cons.1 hk with rfl | hk;exact h1;exact ee2 h2 h3 k hk
theorem sign_none (k:Int) (h:signB k (bstr [])=(bstr []).toList.isEmpty):signB k (bstr [])=true:=by rw [h,bstr_back];rfl
theorem ok38 {a k1 k2 k3:Int}(ha:0≤a) (h1:exprB k1=true) (h2:exprB k2=true) (h3:exprB k3=true):OkN 38 (bstr []) 0 0 a [k1,k2,k3] :=
 okE rfl (show lowV 38≤((3:Nat):Int) by decide) (show ((3:Nat):Int)≤highV _ 38 by decide) (ee3 h1 h2 h3) (fun h=>absurd h (by decide)) (fun _=>sign_none _ rfl) rfl ha
theorem ok39 {t:List UInt8}{a k1 k2:Int}(ht:setT t=true) (ha:0≤a) (h1:exprB k1=true) (h2:exprB k2=true):OkN 39 (bstr t) 0 0 a [k1,k2] :=
 okE rfl (show lowV 39≤((2:Nat):Int) by decide) (show ((2:Nat):Int)≤highV _ 39 by decide) (ee2 h1 h2) (fun h=>absurd h (by decide))
  (fun _=>by show setB (bstr t)=true;unfold setB;rw [bstr_back];exact ht) rfl ha
theorem ok34 {a k1 k2:Int}(ha:0≤a) (h1:exprB k1=true) (h2:exprB k2=true):OkN 34 (bstr []) 0 0 a [k1,k2] :=
 okE rfl (show lowV 34≤((2:Nat):Int) by decide) (show ((2:Nat):Int)≤highV _ 34 by decide) (ee2 h1 h2) (fun h=>absurd h (by decide)) (fun _=>sign_none _ rfl) rfl ha
theorem ok40 {t:List UInt8}{n a k1:Int}(ht:t=[43,43]∨t=[45,45]) (hn:n=0∨n=1) (ha:0≤a) (h1:exprB k1=true):OkN 40 (bstr t) n 0 a [k1] :=
 okE rfl (show lowV 40≤((1:Nat):Int) by decide) (show ((1:Nat):Int)≤highV _ 40 by decide) (ee1 h1) (fun h=>absurd h (by decide))
  (fun _=>by show stepB (bstr t)=true;unfold stepB;rw [bstr_back,decide_eq_true_eq];rcases ht with rfl | rfl <;> decide) (by rcases hn with rfl | rfl <;> rfl) ha
theorem prefT_cases (t:List UInt8):prefT t=0∨prefT t=35∧t ∈ oneS∨prefT t=40∧(t=[43,43]∨t=[45,45]):=by
 unfold prefT
 split
 ·next h=>refine Or.inr (Or.inl ⟨rfl,?_⟩);rcases h with h | h | h | h | h <;> subst h <;> decide
 ·split
  ·next h=>exact Or.inr (Or.inr ⟨rfl,h⟩)
  ·exact Or.inl rfl
theorem okPref {t:List UInt8}{a k1:Int}(ht:¬ prefT t=0) (ha:0≤a) (h1:exprB k1=true):OkN (prefT t) (bstr t) 0 0 a [k1]:=by
 rcases prefT_cases t with h | ⟨h,hm⟩ | ⟨h,hm⟩
 ·exact absurd h ht
 ·rw [h]
  exact okE rfl (show lowV 35≤((1:Nat):Int) by decide) (show ((1:Nat):Int)≤highV _ 35 by decide) (ee1 h1) (fun h=>absurd h (by decide))
   (fun _=>by show oneB (bstr t)=true;unfold oneB;rw [bstr_back,decide_eq_true_eq];exact hm) rfl ha
 ·rw [h];exact ok40 hm (Or.inl rfl) ha h1
theorem pref_expr {t:List UInt8}(ht:¬ prefT t=0):exprB (prefT t)=true:=by
 rcases prefT_cases t with h | ⟨h,_⟩ | ⟨h,_⟩
 ·exact absurd h ht
 ·rw [h];rfl
 ·rw [h];rfl
theorem ok31 {n a:Int}(hn:0≤n) (ha:0≤a):OkN 31 (bstr []) n 0 a [] :=
 okE rfl (show lowV 31≤((0:Nat):Int) by decide) (show ((0:Nat):Int)≤highV _ 31 by decide) (fun k h=>by cases h) (fun h=>absurd h (by decide)) (fun _=>sign_none _ rfl)
  (by show decide (0≤n)=true;rw [decide_eq_true_eq];exact hn) ha
theorem ok32 {t:List UInt8}{a:Int}(ht:nameB (bstr t)=true) (ha:0≤a):OkN 32 (bstr t) 0 0 a [] :=
 okE rfl (show lowV 32≤((0:Nat):Int) by decide) (show ((0:Nat):Int)≤highV _ 32 by decide) (fun k h=>by cases h) (fun _=>ht) (fun h=>absurd h (by decide)) rfl ha
theorem ok33 {t:List UInt8}{a:Int}{ks:List Int}(ht:nameB (bstr t)=true) (ha:0≤a) (hk:EE ks) (hl:ks.length<5000000):OkN 33 (bstr t) 0 0 a ks :=
 okE rfl (by show (0:Int)≤_;omega) (by show _≤(9223372036854775807:Int);omega) hk (fun _=>ht) (fun h=>absurd h (by decide)) rfl ha
theorem oneE_thn {ks:List Int}(h:Thn Nil (Thn OneE (Thn Nil Nil)) ks):OneE ks:=by
 obtain ⟨a,b,rfl,ha,c,d,rfl,hc,e,f,rfl,he,hf⟩:=h
 unfold Nil at ha he hf
 subst ha;subst he;subst hf
 simpa using hc
theorem thn_nil {P:List Int→Prop}{ks:List Int}(h:Thn P Nil ks):P ks:=by
 obtain ⟨a,b,rfl,ha,hb⟩:=h
 unfold Nil at hb;subst hb;rwa [List.append_nil]
theorem nil_thn {P:List Int→Prop}{ks:List Int}(h:Thn Nil P ks):P ks:=by
 obtain ⟨a,b,rfl,ha,hb⟩:=h
 unfold Nil at ha;subst ha;exact hb
theorem EE.app {a b:List Int}(h:EE a) (h2:EE b):EE (a ++ b):=fun k hk=>by
 rcases List.mem_append.1 hk with hk | hk
 ·exact h k hk
 ·exact h2 k hk
theorem OneE.ee {ks:List Int}(h:OneE ks):EE ks:=by obtain ⟨k,rfl,hk⟩:=h;exact ee1 hk
def JobS (j:Job) (s:S3) (r:R3):Prop:=match j with
 | .pairs low=>2≤low→GivesAt s r OneE
 | .pairsL low mark=>2≤low→GivesTop mark s r
 | .postL mark=>GivesTop mark s r
 | .list _ _ item=>item=.expr→GivesAt s r EE
 | .items _ item=>item=.expr→GivesAt s r EE
 | _=>GivesAt s r OneE
theorem run_good (E:Nat):∀ n j s,JobS j s (runJ E n j s):=by
 intro n
 induction n with
 | zero =>
  intro j s
  cases j with
  | pairs low=>exact fun _=>givesAt_out s OneE
  | pairsL low mark=>exact fun _ _ _ _ _ _=>trivial
  | postL mark=>exact fun _ _ _ _ _=>trivial
  | list o e item=>exact fun _=>givesAt_out s EE
  | items e item=>exact fun _=>givesAt_out s EE
  | expr=>exact givesAt_out s OneE
  | prefixed=>exact givesAt_out s OneE
  | postfixed=>exact givesAt_out s OneE
  | primary=>exact givesAt_out s OneE
 | succ n ih =>
  have hE:Gives (runJ E n .expr) OneE:=fun s=>ih .expr s
  intro j s
  cases j with
  | expr =>
   show GivesAt s ((runJ E n (.pairs 2) s).bind _) OneE
   refine GivesAt.top (ih (.pairs 2) s (Nat.le_refl _)) fun s1 _=>?_
   split
   ·refine ext_top _ s1 (gives_seq (gives_word E _) (gives_seq hE (gives_seq (gives_word E _) (gives_seq hE gives_seq_nil))) s1) (fun k ks hk hp=>?_) rfl
    obtain ⟨a,b,rfl,⟨k1,rfl,h1⟩,hb⟩:=nil_thn hp
    obtain ⟨k2,rfl,h2⟩:=thn_nil (nil_thn hb)
    exact ok38 (pk_a _ _) hk h1 h2
   ·split
    ·next hs =>
     refine ext_top _ s1 (gives_seq (gives_word E _) (gives_seq hE gives_seq_nil) s1) (fun k ks hk hp=>?_) rfl
     obtain ⟨k1,rfl,h1⟩:=thn_nil (nil_thn hp)
     exact ok39 hs (pk_a _ _) hk h1
    ·exact .stay _ _
  | pairs low =>
   intro hlow
   show GivesAt s (if 1000<low then .out else (runJ E n .prefixed s).bind (runJ E n (.pairsL low s.O.length))) OneE
   split
   ·exact givesAt_out _ _
   ·exact GivesAt.top (ih .prefixed s) fun s1 _=>ih (.pairsL low _) s1 hlow
  | pairsL low mark =>
   intro hlow
   show GivesTop mark s (if low≤levelT (pk E s.L).t then _ else _)
   split
   ·next hl =>
    refine GivesTop.bind (GivesTop.moved (moved_tail s) (ext_top mark _ (gives_seq (fun s=>ih (.pairs _) s (by omega)) gives_seq_nil _) (fun k ks hk hp=>?_) (pairK_expr _))) fun s1 _=>ih (.pairsL low mark) s1 hlow
    obtain ⟨k1,rfl,h1⟩:=thn_nil hp
    exact okPair (by omega) (pk_a _ _) hk h1
   ·exact .stay _ _
  | prefixed =>
   show GivesAt s (if prefT (pk E s.L).t=0 then _ else _) OneE
   split
   ·exact ih .postfixed s
   ·next hp =>
    refine (gives_build (gives_seq (gives_word E _) (gives_seq (fun s=>ih .prefixed s) gives_seq_nil)) (fun ks hk _=>?_) s).mono fun ks hk=>⟨_,hk,pref_expr hp⟩
    obtain ⟨k1,rfl,h1⟩:=thn_nil (nil_thn hk)
    exact okPref hp (pk_a _ _) h1
  | postfixed=>exact GivesAt.top (ih .primary s) fun s1 _=>ih (.postL _) s1
  | postL mark =>
   show GivesTop mark s (if (pk E s.L).t=[91] then _ else if (pk E s.L).t=[43,43]∨(pk E s.L).t=[45,45] then _ else _)
   split
   ·refine GivesTop.bind (ext_top mark s (gives_seq (gives_word E _) (gives_seq hE (gives_seq (gives_word E _) gives_seq_nil)) s) (fun k ks hk hp=>?_) rfl) fun s1 _=>ih (.postL mark) s1
    obtain ⟨k1,rfl,h1⟩:=oneE_thn hp
    exact ok34 (pk_a _ _) hk h1
   ·split
    ·next ht =>
     refine GivesTop.bind (GivesTop.moved (moved_tail s) (ext_top (fs:=[]) mark _ (gives_seq_nil _) (fun k ks hk hp=>?_) rfl)) fun s1 _=>ih (.postL mark) s1
     unfold Nil at hp
     subst hp
     exact ok40 ht (Or.inr rfl) (pk_a _ _) hk
    ·exact .stay _ _
  | primary =>
   show GivesAt s (if (pk E s.L).k=2 then _ else if (pk E s.L).k=1 then (if (pk E s.L.tail).t=[40] then _ else _) else _) OneE
   split
   ·refine GivesAt.moved (moved_tail s) ((gives_build gives_seq_nil (fun ks hk _=>?_) _).mono fun ks hk=>⟨_,hk,rfl⟩)
    unfold Nil at hk;subst hk
    exact ok31 (Int.natCast_nonneg _) (pk_a _ _)
   ·split
    ·next h1 =>
     refine GivesAt.toks fun htk=>?_
     have hn:=pk_ok htk h1
     split
     ·refine GivesAt.moved (moved_tail s) ((gives_build (gives_seq (P:=EE) (fun s=>ih (.list [40] [41] .expr) s rfl) gives_seq_nil) (fun ks hk hl=>?_) _).mono fun ks hk=>⟨_,hk,rfl⟩)
      exact ok33 hn (pk_a _ _) (thn_nil hk) hl
     ·refine GivesAt.moved (moved_tail s) ((gives_build gives_seq_nil (fun ks hk _=>?_) _).mono fun ks hk=>⟨_,hk,rfl⟩)
      unfold Nil at hk;subst hk
      exact ok32 hn (pk_a _ _)
    ·exact (gives_seq (gives_word E _) (gives_seq hE (gives_seq (gives_word E _) gives_seq_nil)) s).mono fun ks hk=>oneE_thn hk
  | list o e item =>
   intro hi
   subst hi
   show GivesAt s ((wordF E o s).bind _) EE
   refine (GivesAt.bind (gives_word E o s) (Q:=EE) fun s1 _=>?_).mono fun ks hk=>nil_thn hk
   split
   ·exact (GivesAt.stay (moved_tail s1)).mono fun ks hk=>by unfold Nil at hk;subst hk;intro k h;cases h
   ·exact ih (.items e .expr) s1 rfl
  | items e item =>
   intro hi
   subst hi
   show GivesAt s ((runJ E n .expr s).bind _) EE
   refine (GivesAt.bind (hE s) (Q:=EE) fun s1 _=>?_).mono fun ks hk=>by obtain ⟨a,b,rfl,ha,hb⟩:=hk;exact ha.ee.app hb
   split
   ·exact GivesAt.moved (moved_tail s1) (ih (.items e .expr) _ rfl)
   ·exact (gives_word E e s1).mono fun ks hk=>by unfold Nil at hk;subst hk;intro k h;cases h
end
section
open Go.RowKit
open Tk (T4 bstr)
open Tr
def All (p:Int→Prop) (ks:List Int):Prop:=∀ k,k ∈ ks→p k
def OptE (ks:List Int):Prop:=ks=[]∨OneE ks
def Is (k:Int) (ks:List Int):Prop:=ks=[k]
theorem All.app {p:Int→Prop}{a b:List Int}(h:All p a) (h2:All p b):All p (a ++ b):=fun k hk=>by
 rcases List.mem_append.1 hk with hk | hk
 ·exact h k hk
 ·exact h2 k hk
theorem all_nil (p:Int→Prop):All p []:=fun k h=>by cases h
theorem One.all {p:Int→Prop}{ks:List Int}(h:One p ks):All p ks:=by
 obtain ⟨k,rfl,hk⟩:=h;intro x hx;rw [List.mem_singleton] at hx;subst hx;exact hk
theorem OptE.len {ks:List Int}(h:OptE ks):ks.length≤1∧EE ks:=by
 rcases h with rfl | h
 ·exact ⟨Nat.zero_le _,fun k h=>by cases h⟩
 ·have:=h.ee;obtain ⟨k,rfl,hk⟩:=h;exact ⟨Nat.le_refl _,this⟩
structure Dcl (x:Mn):Prop where
 name:nameB (bstr x.t)=true
 z:x.z=0
 a:0≤x.a
theorem gives_named {E:Nat}{typ:Int}{s:S3}{f:S3→Mn→R3}{P:List Int→Prop}(h:∀ s1 x,Dcl x→x.n=typ→GivesAt s1 (f s1 x) P):GivesAt s ((namedF E typ s).bind f) P :=
 GivesAt.toks fun htk=>by
  unfold namedF
  split
  ·next hk=>exact GivesAt.moved (moved_tail s) (h _ _ ⟨pk_ok htk hk,rfl,pk_a _ _⟩ rfl)
  ·exact givesAt_bad _ _ _ _
theorem gives_decl {E:Nat}{s:S3}{f:S3→Mn→R3}{P:List Int→Prop}(h:∀ s1 x,Dcl x→wordB x.n=true→GivesAt s1 (f s1 x) P):GivesAt s ((declF E s).bind f) P:=by
 unfold declF wordF
 by_cases hc:(pk E s.L).t=[105,110,116]
 ·rw [if_pos hc]
  show GivesAt s (D3.bind (if (pk E s.L.tail).t=[42] then _ else _) f) P
  split
  ·exact GivesAt.moved (moved_tail s) (GivesAt.moved (moved_tail _) (gives_named fun s1 x hd hn=>h s1 x hd (by rw [hn];rfl)))
  ·exact GivesAt.moved (moved_tail s) (gives_named fun s1 x hd hn=>h s1 x hd (by rw [hn];rfl))
 ·rw [if_neg hc];exact givesAt_bad _ _ _ _
theorem gives_listF {E:Nat}{o en:List UInt8}{fam:Nat→F3}{p:Int→Prop}(h:∀ m,Gives (fam m) (One p)) (n:Nat):Gives (listF E o en fam n) (All p):=by
 have hi:∀ m,Gives (itemsF E en fam m) (All p):=by
  intro m
  induction m with
  | zero=>exact fun s=>givesAt_out _ _
  | succ m ih =>
   intro s
   show GivesAt s ((fam m s).bind _) (All p)
   refine (GivesAt.bind (h m s) (Q:=All p) fun s1 _=>?_).mono fun ks hk=>by obtain ⟨a,b,rfl,ha,hb⟩:=hk;exact ha.all.app hb
   split
   ·exact GivesAt.moved (moved_tail s1) (ih _)
   ·exact (gives_word E en s1).mono fun ks hk=>by unfold Nil at hk;subst hk;exact all_nil p
 intro s
 show GivesAt s ((wordF E o s).bind _) (All p)
 refine (GivesAt.bind (gives_word E o s) (Q:=All p) fun s1 _=>?_).mono fun ks hk=>nil_thn hk
 split
 ·exact (GivesAt.stay (moved_tail s1)).mono fun ks hk=>by unfold Nil at hk;subst hk;exact all_nil p
 ·exact hi n s1
theorem okG {k:Int}{t:ByteArray}{n z a:Int}{ks:List Int}(hk:kindB k=true) (lo:lowV k≤ks.length) (hi:(ks.length:Int)≤highV 9223372036854775807 k) (hg:∀ i,(h:i<ks.length)→goB k i ks.length ks[i]=true)
  (h1:namedB k=true→nameB t=true) (h2:namedB k=false→signB k t=true) (h3:numB k n z ks.length=true) (h4:0≤a):OkN k t n z a ks:=⟨hk,lo,hi,hg,field_of h1 h2 h3 h4⟩
theorem okAll {k:Int}{n a:Int}{ks:List Int}{p:Int→Bool}(hk:kindB k=true) (hp:∀ i m kid,goB k i m kid=p kid) (lo:lowV k≤ks.length) (hi:(ks.length:Int)≤highV 9223372036854775807 k) (hg:All (fun x=>p x=true) ks)
  (h1:namedB k=false) (h2:signB k (bstr [])=(bstr []).toList.isEmpty) (h3:numB k n 0 ks.length=true) (h4:0≤a):OkN k (bstr []) n 0 a ks :=
 okG hk lo hi (fun i h=>by rw [hp];exact hg _ (List.getElem_mem h)) (fun h=>by rw [h1] at h;cases h) (fun _=>sign_none k h2) h3 h4
theorem ok1 {ks:List Int}(h:All (fun x=>x=2∨x=3) ks) (hl:ks.length<5000000):OkN 1 (bstr []) 0 0 0 ks :=
 okAll (p:=fun kid=>kid == 2 || kid == 3) rfl (fun _ _ _=>rfl) (by show (0:Int)≤_;omega) (by show _≤(9223372036854775807:Int);omega) (fun k hk=>by rcases h k hk with rfl | rfl <;> rfl) rfl rfl rfl (by decide)
theorem ok11 {a:Int}{ks:List Int}(ha:0≤a) (h:All (fun x=>actB x=true) ks) (hl:ks.length<5000000):OkN 11 (bstr []) 0 0 a ks :=
 okAll (p:=actB) rfl (fun _ _ _=>rfl) (by show (0:Int)≤_;omega) (by show _≤(9223372036854775807:Int);omega) h rfl rfl rfl ha
theorem ok13 {a k1:Int}(ha:0≤a) (h:exprB k1=true):OkN 13 (bstr []) 0 0 a [k1] :=
 okAll (p:=exprB) rfl (fun _ _ _=>rfl) (show lowV 13≤((1:Nat):Int) by decide) (show ((1:Nat):Int)≤highV _ 13 by decide) (ee1 h) rfl rfl rfl ha
theorem ok19 {a k1:Int}(ha:0≤a) (h:exprB k1=true):OkN 19 (bstr []) 0 0 a [k1] :=
 okAll (p:=exprB) rfl (fun _ _ _=>rfl) (show lowV 19≤((1:Nat):Int) by decide) (show ((1:Nat):Int)≤highV _ 19 by decide) (ee1 h) rfl rfl rfl ha
theorem ok23 {a:Int}{ks:List Int}(ha:0≤a) (h:OptE ks):OkN 23 (bstr []) 0 0 a ks :=
 okAll (p:=exprB) rfl (fun _ _ _=>rfl) (by show (0:Int)≤_;omega) (by show _≤(1:Int);have:=h.len.1;omega) h.len.2 rfl rfl rfl ha
theorem okBare {k a:Int}(hk:k=20∨k=21∨k=22∨k=24) (ha:0≤a):OkN k (bstr []) 0 0 a []:=by
 rcases hk with rfl | rfl | rfl | rfl <;>
 exact okG rfl (show lowV _≤((0:Nat):Int) by decide) (show ((0:Nat):Int)≤highV _ _ by decide) (fun i h=>by cases h) (fun h=>absurd h (by decide)) (fun _=>sign_none _ rfl) rfl ha
theorem ok4 {x:Mn}(hd:Dcl x) (hn:wordB x.n=true):OkN 4 (bstr x.t) x.n x.z x.a []:=by
 rw [hd.z]
 exact okG rfl (show lowV _≤((0:Nat):Int) by decide) (show ((0:Nat):Int)≤highV _ _ by decide) (fun i h=>by cases h) (fun _=>hd.name) (fun h=>absurd h (by decide)) hn hd.a
theorem ok12 {x:Mn}{ks:List Int}(hd:Dcl x) (hn:wordB x.n=true) (h:OptE ks):OkN 12 (bstr x.t) x.n x.z x.a ks:=by
 rw [hd.z]
 exact okG rfl (by show (0:Int)≤_;omega) (by show _≤(1:Int);have:=h.len.1;omega) (fun i hi=>h.len.2 _ (List.getElem_mem hi)) (fun _=>hd.name) (fun h=>absurd h (by decide)) hn hd.a
theorem ok2 {x:Mn}{ks:List Int}(hd:Dcl x) (hn:wordB x.n=true) (h:OptE ks):OkN 2 (bstr x.t) x.n x.z x.a ks:=by
 rw [hd.z]
 have h3:¬ ((2:Int)=2∧x.n=3):=by intro h;unfold wordB at hn;rw [decide_eq_true_eq] at hn;omega
 refine okG rfl (by show (0:Int)≤_;omega) (by show _≤(200:Int);have:=h.len.1;omega) (fun i hi=>h.len.2 _ (List.getElem_mem hi)) (fun _=>hd.name) (fun h=>absurd h (by decide)) ?_ hd.a
 unfold numB
 rw [if_neg h3,if_pos rfl,if_pos rfl,hn,decide_eq_true h.len.1];rfl
theorem ok2a {x:Mn}{z:Int}{ks:List Int}(hd:Dcl x) (h:EE ks) (hz:1≤z∧z≤200) (hl:(ks.length:Int)≤z):OkN 2 (bstr x.t) 3 z x.a ks:=by
 refine okG rfl (by show (0:Int)≤_;omega) (by show _≤(200:Int);omega) (fun i hi=>h _ (List.getElem_mem hi)) (fun _=>hd.name) (fun h=>absurd h (by decide)) ?_ hd.a
 unfold numB
 rw [if_pos ⟨rfl,rfl⟩,decide_eq_true hz.1,decide_eq_true hz.2,decide_eq_true hl];rfl
theorem ok3 {x:Mn}{ps:List Int}(hd:Dcl x) (hn:x.n=0∨wordB x.n=true) (h:All (· = 4) ps) (hl:(ps ++ [11]).length<5000000):OkN 3 (bstr x.t) x.n x.z x.a (ps ++ [11]):=by
 rw [hd.z]
 have hlen:(ps ++ [(11:Int)]).length=ps.length+1:=by rw [List.length_append];rfl
 refine okG rfl (by show (1:Int)≤_;omega) (by show _≤(9223372036854775807:Int);omega) (fun i hi=>?_) (fun _=>hd.name) (fun h=>absurd h (by decide)) ?_ hd.a
 ·show (if (i:Int)=(((ps ++ [(11:Int)]).length:Nat):Int)-1 then (ps ++ [11])[i] == 11 else (ps ++ [11])[i] == 4)=true
  rcases Nat.lt_or_ge i ps.length with h1 | h1
  ·rw [if_neg (by omega),List.getElem_append_left h1,h _ (List.getElem_mem h1)];rfl
  ·have:i=ps.length:=by omega
   subst this
   rw [if_pos (by omega),List.getElem_append_right (Nat.le_refl _)];simp
 ·show (x.n == 0 || wordB x.n)=true
  rcases hn with h | h
  ·rw [h];rfl
  ·rw [h,Bool.or_true]
theorem ok14 {a k0:Int}{els:List Int}(ha:0≤a) (h0:exprB k0=true) (h:els=[]∨els=[11]):OkN 14 (bstr []) 0 0 a (k0 :: 11 :: els):=by
 rcases h with rfl | rfl
 ·exact okG rfl (show lowV _≤((2:Nat):Int) by decide) (show ((2:Nat):Int)≤highV _ _ by decide) (fun i h=>by rcases i with _ | _ | i;exact h0;rfl;simp at h;omega) (fun h=>absurd h (by decide)) (fun _=>sign_none _ rfl) rfl ha
 ·exact okG rfl (show lowV _≤((3:Nat):Int) by decide) (show ((3:Nat):Int)≤highV _ _ by decide) (fun i h=>by rcases i with _ | _ | _ | i;exact h0;rfl;rfl;simp at h;omega) (fun h=>absurd h (by decide)) (fun _=>sign_none _ rfl) rfl ha
theorem ok15 {a k0:Int}(ha:0≤a) (h0:exprB k0=true):OkN 15 (bstr []) 0 0 a [k0,11] :=
 okG rfl (show lowV _≤((2:Nat):Int) by decide) (show ((2:Nat):Int)≤highV _ _ by decide) (fun i h=>by rcases i with _ | _ | i;exact h0;rfl;simp at h;omega) (fun h=>absurd h (by decide)) (fun _=>sign_none _ rfl) rfl ha
theorem ok16 {a k0:Int}(ha:0≤a) (h0:exprB k0=true):OkN 16 (bstr []) 0 0 a [11,k0] :=
 okG rfl (show lowV _≤((2:Nat):Int) by decide) (show ((2:Nat):Int)≤highV _ _ by decide) (fun i h=>by rcases i with _ | _ | i;rfl;exact h0;simp at h;omega) (fun h=>absurd h (by decide)) (fun _=>sign_none _ rfl) rfl ha
theorem ok17 {a k0 k1 k2:Int}(ha:0≤a) (h0:k0=12∨k0=13∨k0=24) (h1:exprB k1=true∨k1=24) (h2:k2=13∨k2=24):OkN 17 (bstr []) 0 0 a [k0,k1,k2,11] :=
 okG rfl (show lowV _≤((4:Nat):Int) by decide) (show ((4:Nat):Int)≤highV _ _ by decide) (fun i h=>by
  rcases i with _ | _ | _ | _ | i
  ·rcases h0 with rfl | rfl | rfl <;> rfl
  ·show (exprB k1 || k1 == 24)=true
   rcases h1 with h1 | rfl
   ·rw [h1];rfl
   ·rfl
  ·rcases h2 with rfl | rfl <;> rfl
  ·rfl
  ·simp at h;omega) (fun h=>absurd h (by decide)) (fun _=>sign_none _ rfl) rfl ha
def SwP (k:Int):Prop:=actB k=true∨k=19∨k=20
theorem ok18 {a k0:Int}{ks:List Int}(ha:0≤a) (h0:exprB k0=true) (h:All SwP ks) (hl:(k0 :: ks).length<5000000):OkN 18 (bstr []) 0 0 a (k0 :: ks):=by
 have hlen:(k0 :: ks).length=ks.length+1:=rfl
 refine okG rfl (by show (1:Int)≤_;omega) (by show _≤(9223372036854775807:Int);omega) (fun i hi=>?_) (fun h=>absurd h (by decide)) (fun _=>sign_none _ rfl) rfl ha
 show (if (i:Int)=0 then exprB (k0 :: ks)[i] else (actB (k0 :: ks)[i] || (k0 :: ks)[i] == 19 || (k0 :: ks)[i] == 20))=true
 rcases i with _ | i
 ·rw [if_pos (show ((0:Nat):Int)=0 from rfl)];exact h0
 ·rw [if_neg (by omega),List.getElem_cons_succ]
  rcases h _ (List.getElem_mem (by simpa using hi)) with h | h | h
  ·rw [h];rfl
  ·rw [h];rfl
  ·rw [h];rfl
end
section
open Go.RowKit
open Tk (T4 bstr)
open Tr
section
variable {E:Nat}{ex:F3}(hE:Gives ex OneE)
include hE
theorem gives_initial:Gives (initialF E ex) OptE:=by
 intro s
 unfold initialF
 split
 ·exact (GivesAt.moved (moved_tail s) (hE _)).mono fun ks hk=>Or.inr hk
 ·exact (GivesAt.stay (moved_refl s)).mono fun ks hk=>Or.inl hk
theorem gives_local:Gives (localF E ex) (Is 12):=fun s =>
 gives_decl fun s1 x hd hn=>gives_build (x:={ x with k:=12 }) (gives_seq (gives_initial hE) gives_seq_nil) (fun ks hk _=>ok12 (x:=x) hd hn (thn_nil hk)) s1
theorem gives_effect:Gives (effectF E ex) (Is 13):=fun s =>
 gives_build (gives_seq hE gives_seq_nil) (fun ks hk _=>by obtain ⟨k1,rfl,h1⟩:=thn_nil hk;exact ok13 (pk_a _ _) h1) s
theorem gives_condition:Gives (conditionF E ex) OneE:=fun s =>
 (gives_seq (gives_word E _) (gives_seq hE (gives_seq (gives_word E _) gives_seq_nil)) s).mono fun ks hk=>oneE_thn hk
theorem gives_told:Gives (toldF E ex) OptE:=by
 intro s
 unfold toldF
 split
 ·exact (GivesAt.stay (moved_refl s)).mono fun ks hk=>Or.inl hk
 ·exact (hE s).mono fun ks hk=>Or.inr hk
end
theorem gives_nothing (E:Nat):Gives (nothingF E) (Is 24):=fun s =>
 gives_build gives_seq_nil (fun ks hk _=>by unfold Nil at hk;subst hk;exact okBare (k:=24) (by decide) (pk_a _ _)) s
theorem gives_unless {E:Nat}{e:List UInt8}{f:F3}{p:Int→Prop}(hf:Gives f (One p)) (h24:p 24):Gives (unlessF E e f) (One p):=by
 intro s
 unfold unlessF
 split
 ·exact (gives_nothing E s).mono fun ks hk=>⟨24,hk,h24⟩
 ·exact hf s
theorem gives_start {E:Nat}{ex:F3}(hE:Gives ex OneE):Gives (startF E ex) (One fun k=>k=12∨k=13∨k=24):=by
 intro s
 unfold startF
 split
 ·exact (gives_local hE s).mono fun ks hk=>⟨12,hk,Or.inl rfl⟩
 ·exact gives_unless (fun s=>(gives_effect hE s).mono fun ks hk=>⟨13,hk,Or.inr (Or.inl rfl)⟩) (Or.inr (Or.inr rfl)) s
theorem gives_param (E:Nat):Gives (paramF E) (One (· = 4)):=fun s =>
 gives_decl fun s1 x hd hn=>(gives_build (x:={ x with k:=4 }) gives_seq_nil (fun ks hk _=>by unfold Nil at hk;subst hk;exact ok4 (x:=x) hd hn) s1).mono fun ks hk=>⟨4,hk,rfl⟩
theorem gives_values {E:Nat}{most:Int}{fam:Nat→F3}(hm:0≤most) (h:∀ m,Gives (fam m) OneE) (n:Nat):Gives (valuesF E most fam n) (fun ks=>EE ks∧(ks.length:Int)≤most):=by
 intro s
 unfold valuesF
 split
 ·refine GivesAt.moved (moved_tail s) ?_
  intro os hi
  have h1:=gives_listF (E:=E) (o:=[123]) (en:=[125]) h n _ os hi
  cases hr:listF E [123] [125] fam n { s with L:=s.L.tail } with
  | bad c a=>trivial
  | out=>trivial
  | ok s2 =>
   rw [hr] at h1
   obtain ⟨new,hg,hp⟩:=h1
   show match (if most<(s2.O.length:Int)-s.O.length then R3.bad 9 (pk E s.L.tail).a else .ok s2) with
    | .ok s'=>∃ new,Grew { s with L:=s.L.tail } s' os new∧(EE (kindsOf s' new)∧((kindsOf s' new).length:Int)≤most)
    | _=>True
   have hl:s2.O.length=s.O.length+new.length:=by
    have a1:s.O=castL os:=hi.loose
    rw [hg.inv.loose,a1,castL_length,castL_length,List.length_append]
   by_cases hm:most<(s2.O.length:Int)-s.O.length
   ·rw [if_pos hm];trivial
   ·rw [if_neg hm]
    refine ⟨new,hg,hp,?_⟩
    unfold kindsOf;rw [List.length_map];omega
 ·exact (GivesAt.stay (moved_refl s)).mono fun ks hk=>by unfold Nil at hk;subst hk;exact ⟨fun k h=>(by cases h),hm⟩
theorem gives_array {E:Nat}{x:Mn}{fam:Nat→F3}(hd:Dcl x) (h:∀ m,Gives (fam m) OneE) (n:Nat) (s:S3):GivesAt s (arrayF E x fam n s) (Is 2):=by
 unfold arrayF
 refine (GivesAt.bind (gives_word E [91] s) (Q:=Is 2) fun s1 _=>?_).mono fun ks hk=>nil_thn hk
 split
 ·split
  ·exact givesAt_bad _ _ _ _
  ·next hz =>
   refine GivesAt.moved (moved_tail s1) (gives_build (x:={ x with k:=2,n:=3,z:=(pk E s1.L).v }) (gives_seq (gives_word E _) (gives_seq (gives_values (Int.natCast_nonneg _) h n) (gives_seq (gives_word E _) gives_seq_nil))) (fun ks hk _=>?_) _)
   obtain ⟨a,b,rfl,⟨h1,h2⟩,hb⟩:=nil_thn hk
   have hb:=nil_thn hb
   unfold Nil at hb;subst hb
   rw [List.append_nil]
   exact ok2a (x:=x) (z:=(pk E s1.L).v) hd h1 (by omega) h2
 ·exact givesAt_bad _ _ _ _
def GlP (k:Int):Prop:=k=2∨k=3
def ItP (sw:Bool) (k:Int):Prop:=if sw=true then SwP k else actB k=true
def UJobS:UJob→List Int→Prop
 | .block=>Is 11
 | .body=>Is 11
 | .action=>One fun k=>actB k=true
 | .compound=>One fun k=>actB k=true
 | .inSwitch=>One SwP
 | .braces sw=>All (ItP sw)
 | .global=>One GlP
 | .globals=>All GlP
theorem itemU_job (sw:Bool):UJobS (itemU sw)=One (ItP sw):=by cases sw <;> rfl
theorem runU_good (E:Nat):∀ n j,Gives (runU E n j) (UJobS j):=by
 intro n
 induction n with
 | zero=>exact fun j s=>givesAt_out _ _
 | succ n ih =>
  have hE:∀ m,Gives (runJ E m .expr) OneE:=fun m s=>run_good E m .expr s
  have hb:Gives (runU E n .body) (Is 11):=ih .body
  intro j s
  cases j with
  | braces sw =>
   show GivesAt s (if (pk E s.L).t=[125] then _ else (runU E n (itemU sw) s).bind (runU E n (.braces sw))) (All (ItP sw))
   split
   ·exact (GivesAt.stay (moved_tail s)).mono fun ks hk=>by unfold Nil at hk;subst hk;exact all_nil _
   ·refine (GivesAt.bind (ih (itemU sw) s) fun s1 _=>ih (.braces sw) s1).mono fun ks hk=>?_
    rw [itemU_job] at hk
    obtain ⟨a,b,rfl,ha,hb⟩:=hk
    exact ha.all.app hb
  | block =>
   refine gives_build (gives_seq (P:=All (ItP false)) (fun s=>(GivesAt.bind (gives_word E [123] s) fun s1 _=>ih (.braces false) s1).mono fun ks hk=>nil_thn hk) gives_seq_nil) (fun ks hk hl=>?_) s
   exact ok11 (pk_a _ _) (thn_nil hk) hl
  | body =>
   show GivesAt s (if (pk E s.L).t=[123] then _ else _) (Is 11)
   split
   ·exact ih .block s
   ·refine gives_build (gives_seq (ih .action) gives_seq_nil) (fun ks hk hl=>?_) s
    exact ok11 (pk_a _ _) (One.all (thn_nil hk)) hl
  | action =>
   show GivesAt s (if (pk E s.L).t=[123] then _ else if (pk E s.L).t=[105,110,116] then _ else if _ then _ else if _ then _ else if _ then _ else if _ then _ else if _ then _ else _) (One fun k=>actB k=true)
   have to1:∀ (k:Int) ks,actB k=true→Is k ks→One (fun k=>actB k=true) ks:=fun k ks h hk=>⟨k,hk,h⟩
   have w1:∀ (k:Int) ks,actB k=true→Thn (Is k) (Thn Nil Nil) ks→One (fun k=>actB k=true) ks:=fun k ks h hk=>by
    obtain ⟨a,b,rfl,ha,hb⟩:=hk
    have:=nil_thn hb;unfold Nil at this;subst this
    rw [List.append_nil];exact ⟨k,ha,h⟩
   split
   ·exact (ih .block s).mono fun ks=>to1 11 ks rfl
   ·split
    ·exact (gives_seq (gives_local (hE n)) (gives_seq (gives_word E _) gives_seq_nil) s).mono fun ks=>w1 12 ks rfl
    ·split
     ·exact ih .compound s
     ·split
      ·exact (gives_build (gives_seq (gives_word E _) (gives_seq (gives_word E _) gives_seq_nil)) (fun ks hk _=>by have:=nil_thn (nil_thn hk);unfold Nil at this;subst this;exact okBare (k:=21) (by decide) (pk_a _ _)) s).mono fun ks=>to1 21 ks rfl
      ·split
       ·exact (gives_build (gives_seq (gives_word E _) (gives_seq (gives_word E _) gives_seq_nil)) (fun ks hk _=>by have:=nil_thn (nil_thn hk);unfold Nil at this;subst this;exact okBare (k:=22) (by decide) (pk_a _ _)) s).mono fun ks=>to1 22 ks rfl
       ·split
        ·exact (gives_build (gives_seq (gives_word E _) (gives_seq (gives_told (hE n)) (gives_seq (gives_word E _) gives_seq_nil))) (fun ks hk _=>ok23 (pk_a _ _) (by
          obtain ⟨a,b,rfl,ha,hb⟩:=nil_thn hk
          have:=nil_thn hb;unfold Nil at this;subst this
          rw [List.append_nil];exact ha)) s).mono fun ks=>to1 23 ks rfl
        ·split
         ·exact (gives_seq (gives_nothing E) (gives_seq (gives_word E _) gives_seq_nil) s).mono fun ks=>w1 24 ks rfl
         ·exact (gives_seq (gives_effect (hE n)) (gives_seq (gives_word E _) gives_seq_nil) s).mono fun ks=>w1 13 ks rfl
  | compound =>
   have to1:∀ (k:Int) ks,actB k=true→Is k ks→One (fun k=>actB k=true) ks:=fun k ks h hk=>⟨k,hk,h⟩
   show GivesAt s (if (pk E s.L).t=[105,102] then _ else if _ then _ else if _ then _ else if _ then _ else _) (One fun k=>actB k=true)
   split
   ·refine GivesAt.moved (moved_tail s) ((gives_build (gives_seq (gives_condition (hE n)) (gives_seq hb (gives_seq (P:=fun ks=>ks=[]∨ks=[11]) (fun s=>?_) gives_seq_nil))) (fun ks hk _=>?_) _).mono fun ks=>to1 14 ks rfl)
    ·show GivesAt s (if _ then _ else _) _
     split
     ·exact GivesAt.moved (moved_tail s) ((hb _).mono fun ks hk=>Or.inr hk)
     ·exact (GivesAt.stay (moved_refl s)).mono fun ks hk=>Or.inl hk
    ·obtain ⟨a,b,rfl,⟨k0,rfl,h0⟩,c,d,rfl,hc,hd⟩:=hk
     unfold Is at hc;subst hc
     exact ok14 (pk_a _ _) h0 (thn_nil hd)
   ·split
    ·refine GivesAt.moved (moved_tail s) ((gives_build (gives_seq (gives_condition (hE n)) (gives_seq hb gives_seq_nil)) (fun ks hk _=>?_) _).mono fun ks=>to1 15 ks rfl)
     obtain ⟨a,b,rfl,⟨k0,rfl,h0⟩,hb⟩:=hk
     have:=thn_nil hb;unfold Is at this;subst this
     exact ok15 (pk_a _ _) h0
    ·split
     ·refine GivesAt.moved (moved_tail s) ((gives_build (gives_seq hb (gives_seq (gives_word E _) (gives_seq (gives_condition (hE n)) (gives_seq (gives_word E _) gives_seq_nil)))) (fun ks hk _=>?_) _).mono fun ks=>to1 16 ks rfl)
      obtain ⟨a,b,rfl,ha,hb⟩:=hk
      unfold Is at ha;subst ha
      obtain ⟨c,d,rfl,⟨k0,rfl,h0⟩,hd⟩:=nil_thn hb
      have:=nil_thn hd;unfold Nil at this;subst this
      exact ok16 (pk_a _ _) h0
     ·split
      ·refine GivesAt.moved (moved_tail s) ((gives_build (gives_seq (gives_word E _) (gives_seq (gives_start (hE n)) (gives_seq (gives_word E _) (gives_seq (gives_unless (p:=fun k=>exprB k=true∨k=24) (fun s=>(hE n s).mono fun ks hk=>by obtain ⟨k,rfl,h⟩:=hk;exact ⟨k,rfl,Or.inl h⟩) (Or.inr rfl)) (gives_seq (gives_word E _) (gives_seq (gives_unless (p:=fun k=>k=13∨k=24) (fun s=>(gives_effect (hE n) s).mono fun ks hk=>⟨13,hk,Or.inl rfl⟩) (Or.inr rfl)) (gives_seq (gives_word E _) (gives_seq hb gives_seq_nil)))))))) (fun ks hk _=>?_) _).mono fun ks=>to1 17 ks rfl)
       obtain ⟨a,b,rfl,⟨k0,rfl,h0⟩,hb⟩:=nil_thn hk
       obtain ⟨c,d,rfl,⟨k1,rfl,h1⟩,hd⟩:=nil_thn hb
       obtain ⟨e,f,rfl,⟨k2,rfl,h2⟩,hf⟩:=nil_thn hd
       have:=thn_nil (nil_thn hf);unfold Is at this;subst this
       exact ok17 (pk_a _ _) h0 h1 h2
      ·refine GivesAt.moved (moved_tail s) ((gives_build (gives_seq (gives_condition (hE n)) (gives_seq (P:=All (ItP true)) (fun s=>(GivesAt.bind (gives_word E [123] s) fun s1 _=>ih (.braces true) s1).mono fun ks hk=>nil_thn hk) gives_seq_nil)) (fun ks hk hl=>?_) _).mono fun ks=>to1 18 ks rfl)
       obtain ⟨a,b,rfl,⟨k0,rfl,h0⟩,hb⟩:=hk
       exact ok18 (pk_a _ _) h0 (thn_nil hb) hl
  | inSwitch =>
   show GivesAt s (if (pk E s.L).t=[99,97,115,101] then _ else if _ then _ else _) (One SwP)
   split
   ·refine (gives_build (gives_seq (gives_word E _) (gives_seq (hE n) (gives_seq (gives_word E _) gives_seq_nil))) (fun ks hk _=>?_) s).mono fun ks hk=>⟨19,hk,Or.inr (Or.inl rfl)⟩
    obtain ⟨k0,rfl,h0⟩:=oneE_thn hk
    exact ok19 (pk_a _ _) h0
   ·split
    ·refine (gives_build (gives_seq (gives_word E _) (gives_seq (gives_word E _) gives_seq_nil)) (fun ks hk _=>?_) s).mono fun ks hk=>⟨20,hk,Or.inr (Or.inr rfl)⟩
     have:=nil_thn (nil_thn hk);unfold Nil at this;subst this;exact okBare (k:=20) (by decide) (pk_a _ _)
    ·refine (ih .action s).mono fun ks hk=>?_
     obtain ⟨k,rfl,h⟩:=hk
     exact ⟨k,rfl,Or.inl h⟩
  | global =>
   have hfn:∀ x s1,Dcl x→(x.n=0∨wordB x.n=true)→GivesAt s1 (buildF { x with k:=3 } [listF E [40] [41] (fun _=>paramF E) n,runU E n .block] s1) (One GlP):=by
    intro x s1 hd hn
    refine (gives_build (x:={ x with k:=3 }) (gives_seq (gives_listF (fun _=>gives_param E) n) (gives_seq (ih .block) gives_seq_nil)) (fun ks hk hl=>?_) s1).mono fun ks hk=>⟨3,hk,Or.inr rfl⟩
    obtain ⟨a,b,rfl,ha,hb⟩:=hk
    have:=thn_nil hb;unfold UJobS Is at this;subst this
    exact ok3 (x:=x) hd hn ha hl
   show GivesAt s (if (pk E s.L).t=[118,111,105,100] then _ else _) (One GlP)
   split
   ·exact GivesAt.moved (moved_tail s) (gives_named fun s1 x hd hn=>hfn x s1 hd (Or.inl hn))
   ·refine gives_decl fun s1 x hd hn=>?_
    show GivesAt s1 (if (pk E s1.L).t=[40] then _ else if _ then _ else _) (One GlP)
    split
    ·exact hfn x s1 hd (Or.inr hn)
    ·split
     ·exact (gives_array hd hE n s1).mono fun ks hk=>⟨2,hk,Or.inl rfl⟩
     ·refine (gives_build (x:={ x with k:=2 }) (gives_seq (gives_initial (hE n)) (gives_seq (gives_word E _) gives_seq_nil)) (fun ks hk _=>?_) s1).mono fun ks hk=>⟨2,hk,Or.inl rfl⟩
      obtain ⟨a,b,rfl,ha,hb⟩:=hk
      have:=nil_thn hb;unfold Nil at this;subst this
      rw [List.append_nil]
      exact ok2 (x:=x) hd hn ha
  | globals =>
   show GivesAt s (if s.L=[] then _ else (runU E n .global s).bind (runU E n .globals)) (All GlP)
   split
   ·exact (GivesAt.stay (moved_refl s)).mono fun ks hk=>by unfold Nil at hk;subst hk;exact all_nil _
   ·refine (GivesAt.bind (ih .global s) fun s1 _=>ih .globals s1).mono fun ks hk=>?_
    obtain ⟨a,b,rfl,ha,hb⟩:=hk
    exact One.all ha |>.app hb
theorem unitF_good (E n:Nat):Gives (unitF E n) (Is 1):=fun s =>
 gives_build (gives_seq (runU_good E n .globals) gives_seq_nil) (fun ks hk hl=>ok1 (thn_nil hk) hl) s
end
section
open Go.RowKit
open Tk (T4 SR Scans bstr)
open Tr (Dp)
theorem nameB_list {c:UInt8}{l:List UInt8}(hd:Tk.digB c=false) (hw:∀ x,x ∈ c :: l→Tk.wordB x=true) (hl:(c :: l).length≤12):Tr.nameB (bstr (c :: l))=true:=by
 unfold Tr.nameB
 rw [decide_eq_true_eq]
 have hs:(bstr (c :: l)).size=(c :: l).length:=rfl
 have hj:∀ j (h:j<(bstr (c :: l)).size),(bstr (c :: l))[j]=(c :: l)[j]'h:=fun j h=>rfl
 refine ⟨by rw [hs];exact Nat.succ_pos _,by rw [hs];exact hl,hd,fun j h=>?_⟩
 rw [hj j h]
 exact hw _ (List.getElem_mem _)
theorem sgnF_kind (l:List UInt8):∀ j n v,Tk.sgnF l j≠.tok 1 n v:=by
 intro j
 induction j with
 | zero=>intro n v h;unfold Tk.sgnF at h;cases h
 | succ j ih =>
  intro n v h
  unfold Tk.sgnF at h
  split at h
  ·cases h
  ·exact ih n v h
theorem numD_kind (b:Nat) (p:UInt8→Bool) (ds t:List UInt8) (n v:Nat):Tk.numD b p ds t≠.tok 1 n v:=by
 intro h
 unfold Tk.numD at h
 split at h
 ·cases h
 ·split at h <;> cases h
theorem chrT_kind (l:List UInt8) (n v:Nat):Tk.chrT l≠.tok 1 n v:=by
 intro h
 unfold Tk.chrT at h
 repeat' split at h
 all_goals cases h
theorem fst_name {l:List UInt8}{n v:Nat}(h:Tk.fstT l=.tok 1 n v):Tr.nameB (bstr (l.take n))=true:=by
 cases l with
 | nil=>cases h
 | cons c l =>
  have h:(if Tk.digB c=true then Tk.numT ((c :: l).take (Tk.preN Tk.wordB (c :: l))) else if Tk.wordB c=true then Tk.wrdT ((c :: l).take (Tk.preN Tk.wordB (c :: l))) else if c=39 then Tk.chrT (c :: l) else Tk.sgnT (c :: l))=.tok 1 n v:=h
  split at h
  ·exfalso
   unfold Tk.numT at h
   split at h
   ·split at h
    ·cases h
    ·exact numD_kind _ _ _ _ _ _ h
   ·exact numD_kind _ _ _ _ _ _ h
  ·next hd =>
   split at h
   ·next hw =>
    have ht:(c :: l).take (Tk.preN Tk.wordB (c :: l))=(c :: l).takeWhile Tk.wordB:=by
     have hp:(c :: l).takeWhile Tk.wordB <+: c :: l:=List.takeWhile_prefix _
     exact (List.prefix_iff_eq_take.1 hp).symm
    have hall:∀ x,x ∈ (c :: l).takeWhile Tk.wordB→Tk.wordB x=true:=fun x hx=>by
     have:=List.all_takeWhile (l:=c :: l) (p:=Tk.wordB)
     exact List.all_eq_true.1 this x hx
    rw [ht] at h
    have hc:(c :: l).takeWhile Tk.wordB=c :: l.takeWhile Tk.wordB:=by rw [List.takeWhile_cons,if_pos hw]
    unfold Tk.wrdT at h
    split at h
    ·cases h
    ·split at h
     ·cases h
     ·next hl =>
      injection h with _ hn _
      have hn2:(c :: l).take n=(c :: l).takeWhile Tk.wordB:=by rw [← hn];exact ht
      rw [hn2,hc]
      refine nameB_list (by simpa using hd) (fun x hx=>hall x (by rw [hc];exact hx)) ?_
      rw [hc] at hl;omega
   ·exfalso
    split at h
    ·exact chrT_kind _ _ _ h
    ·exact sgnF_kind _ _ _ _ h
theorem scans_ok {p:Nat}{l:List UInt8}{acc:List T4}{R:SR}(h:Scans p l acc R):(∀ x,x ∈ acc→TokOk x)→∀ L,R=.ok L→∀ x,x ∈ L→TokOk x:=by
 induction h with
 | done p acc=>intro ha L hL;injection hL with hL;subst hL;exact ha
 | skip h k ih=>exact ih
 | opens h=>intro _ L hL;cases hL
 | much h hn hm=>intro _ L hL;cases hL
 | bad h hn hm hf=>intro _ L hL;cases hL
 | tok h hn hm hf k' ih =>
  intro ha
  refine ih fun x hx=>?_
  rcases List.mem_append.1 hx with hx | hx
  ·exact ha x hx
  ·rw [List.mem_singleton] at hx
   subst hx
   intro hk
   have hk:_=1:=hk
   subst hk
   exact fst_name hf
theorem TokR.ok {l:List UInt8}{L:List T4}(h:TokR l (.ok L)):∀ x,x ∈ L→TokOk x:=by
 rcases h with ⟨_,h⟩ | ⟨_,h⟩
 ·cases h
 ·exact scans_ok h (fun x hx=>by cases hx) L rfl
def FitN (N:List Mn):Prop:=N.length≤600∧Dp (N.map ndOf) (N.length-1)≤40
theorem start_inv {L:List T4}(h:∀ x,x ∈ L→TokOk x):InvF ⟨L,[],[]⟩ [] :=
 ⟨⟨.nil,fun j hj=>by cases hj⟩,rfl,h⟩
theorem one_check {s s':S3}{new:List Nat}{k:Int}(hg:Grew s s' [] new) (hk:kindsOf s' new=[k]):1≤s'.N.length∧(FitN s'.N∧CkN s'.N 0 0∨¬ FitN s'.N∧¬ CkN s'.N 0 0):=by
 have hn:∃ o,new=[o]:=by
  unfold kindsOf at hk
  rcases new with _ | ⟨o,_ | ⟨o2,l⟩⟩
  ·cases hk
  ·exact ⟨o,rfl⟩
  ·injection hk with _ hk;cases hk
 obtain ⟨o,rfl⟩:=hn
 have hl:=nds_length s'
 have:=hg.inv.gs.check
 rw [hl] at this
 unfold FitN CkN
 rcases this with ⟨h1,h2,h3,h4⟩ | ⟨h1,h2,h3⟩
 ·exact ⟨h1,Or.inl ⟨⟨h2,h3⟩,h4⟩⟩
 ·exact ⟨h1,Or.inr ⟨fun h=>by rcases h2 with h2 | h2;omega;exact absurd h.2 (by unfold nds at h2;omega),h3⟩⟩
theorem unit_check {E n:Nat}{L:List T4}(h:∀ x,x ∈ L→TokOk x) {s':S3}(hr:unitF E n ⟨L,[],[]⟩=.ok s'):1≤s'.N.length∧(FitN s'.N∧CkN s'.N 0 0∨¬ FitN s'.N∧¬ CkN s'.N 0 0):=by
 have h1:=unitF_good E n ⟨L,[],[]⟩ [] (start_inv h)
 rw [hr] at h1
 obtain ⟨new,hg,hk⟩:=h1
 exact one_check hg hk
end
section
open Go.RowKit
open Tk (T4 SR Scans bstr)
theorem take_len {t l:List UInt8}(h:t <+: l):l.take t.length=t:=(List.prefix_iff_eq_take.1 h).symm
theorem fst_kind {c:UInt8}{l:List UInt8}{k n v:Nat}(h:Tk.fstT (c :: l)=.tok k n v) :
  1≤n∧((k=1∧Tk.wordB c=true∧Tk.digB c=false∧Tk.keyB ((c :: l).take n)=false)∨(k=2∧(Tk.digB c=true∨c=39))∨(k=3∧Tk.keyB ((c :: l).take n)=true)∨(k=4∧Tk.signB ((c :: l).take n)=true)):=by
 have h:(if Tk.digB c=true then Tk.numT ((c :: l).take (Tk.preN Tk.wordB (c :: l))) else if Tk.wordB c=true then Tk.wrdT ((c :: l).take (Tk.preN Tk.wordB (c :: l))) else if c=39 then Tk.chrT (c :: l) else Tk.sgnT (c :: l))=.tok k n v:=h
 have hpre:(c :: l).takeWhile Tk.wordB <+: c :: l:=List.takeWhile_prefix _
 have ht:(c :: l).take (Tk.preN Tk.wordB (c :: l))=(c :: l).takeWhile Tk.wordB:=take_len hpre
 rw [ht] at h
 have hone:Tk.wordB c=true→1≤((c :: l).takeWhile Tk.wordB).length:=fun hw=>by
  rw [List.takeWhile_cons,if_pos hw];exact Nat.succ_pos _
 split at h
 ·next hd =>
  have hw:Tk.wordB c=true:=by
   unfold Tk.digB at hd;unfold Tk.wordB;rw [decide_eq_true_eq] at hd ⊢;omega
  have hnum:∀ b p ds,Tk.numD b p ds ((c :: l).takeWhile Tk.wordB)=.tok k n v→k=2∧1≤n:=fun b p ds h=>by
   unfold Tk.numD at h
   split at h
   ·cases h
   ·split at h
    ·injection h with h1 h2 h3;exact ⟨h1.symm,by rw [← h2];exact hone hw⟩
    ·cases h
  have:k=2∧1≤n:=by
   unfold Tk.numT at h
   split at h
   ·split at h
    ·cases h
    ·exact hnum _ _ _ h
   ·exact hnum _ _ _ h
  exact ⟨this.2,Or.inr (Or.inl ⟨this.1,Or.inl hd⟩)⟩
 ·next hd =>
  split at h
  ·next hw =>
   unfold Tk.wrdT at h
   split at h
   ·next hk =>
    injection h with h1 h2 h3
    subst h2
    exact ⟨hone hw,Or.inr (Or.inr (Or.inl ⟨h1.symm,by rw [take_len hpre];exact hk⟩))⟩
   ·next hk =>
    split at h
    ·cases h
    ·injection h with h1 h2 h3
     subst h2
     exact ⟨hone hw,Or.inl ⟨h1.symm,hw,by simpa using hd,by rw [take_len hpre];simpa using hk⟩⟩
  ·split at h
   ·next h39 =>
    have:k=2∧1≤n:=by
     unfold Tk.chrT at h
     repeat' split at h
     all_goals first
      | (cases h;done)
      | (injection h with h1 h2 h3;omega)
    exact ⟨this.2,Or.inr (Or.inl ⟨this.1,Or.inr h39⟩)⟩
   ·have:∀ j,Tk.sgnF (c :: l) j=.tok k n v→1≤n∧k=4∧Tk.signB ((c :: l).take n)=true:=by
     intro j
     induction j with
     | zero=>intro h;unfold Tk.sgnF at h;cases h
     | succ j ih =>
      intro h
      unfold Tk.sgnF at h
      split at h
      ·next hs =>
       injection h with h1 h2 h3
       subst h2
       exact ⟨Nat.succ_pos _,h1.symm,hs⟩
      ·exact ih h
    obtain ⟨h1,h2,h3⟩:=this _ h
    exact ⟨h1,Or.inr (Or.inr (Or.inr ⟨h2,h3⟩))⟩
theorem signs_head:∀ s,s ∈ Tk.signs→s≠[]∧Tk.wordB (s.headD 0)=false∧s.headD 0≠39:=by decide
theorem keys_head:∀ s,s ∈ Tk.keys→s≠[]∧Tk.digB (s.headD 0)=false∧Tk.wordB (s.headD 0)=true:=by decide
structure TokK (x:T4):Prop where
 kind:x.k=1∨x.k=2∨x.k=3∨x.k=4
 sign:Tk.signB x.t=true ↔ x.k=4
 key:Tk.keyB x.t=true ↔ x.k=3
theorem sign_head {t:List UInt8}(h:Tk.signB t=true):t≠[]∧Tk.wordB (t.headD 0)=false∧t.headD 0≠39:=signs_head t (List.contains_iff_mem.1 h)
theorem key_head {t:List UInt8}(h:Tk.keyB t=true):t≠[]∧Tk.digB (t.headD 0)=false∧Tk.wordB (t.headD 0)=true:=keys_head t (List.contains_iff_mem.1 h)
theorem dig_word {c:UInt8}(h:Tk.digB c=true):Tk.wordB c=true:=by
 unfold Tk.digB at h;unfold Tk.wordB;rw [decide_eq_true_eq] at h ⊢;omega
theorem fst_tok {l:List UInt8}{k n v p:Nat}(h:Tk.fstT l=.tok k n v):TokK ⟨k,l.take n,v,p⟩:=by
 cases l with
 | nil=>cases h
 | cons c l =>
  obtain ⟨hn,h⟩:=fst_kind h
  have hh:((c :: l).take n).headD 0=c:=by
   obtain ⟨m,rfl⟩ : ∃ m,n=m+1:=⟨n-1,by omega⟩
   rfl
  have hs:Tk.signB ((c :: l).take n)=true→Tk.wordB c=false∧c≠39:=fun h=>by have:=(sign_head h).2;rwa [hh] at this
  have hk:Tk.keyB ((c :: l).take n)=true→Tk.digB c=false∧Tk.wordB c=true:=fun h=>by have:=(key_head h).2;rwa [hh] at this
  have h39:Tk.wordB 39=false:=by decide
  rcases h with ⟨rfl,hw,hd,hky⟩ | ⟨rfl,hd⟩ | ⟨rfl,hky⟩ | ⟨rfl,hsg⟩
  ·exact ⟨Or.inl rfl,⟨fun h=>absurd (hs h).1 (by rw [hw];decide),fun h=>absurd (show (1:Nat)=4 from h) (by decide)⟩,⟨fun h=>absurd (show Tk.keyB ((c :: l).take n)=true from h) (by rw [hky];decide),fun h=>absurd (show (1:Nat)=3 from h) (by decide)⟩⟩
  ·refine ⟨Or.inr (Or.inl rfl),⟨fun h=>?_,fun h=>absurd (show (2:Nat)=4 from h) (by decide)⟩,⟨fun h=>?_,fun h=>absurd (show (2:Nat)=3 from h) (by decide)⟩⟩
   ·rcases hd with hd | hd
    ·have:=(hs h).1;rw [dig_word hd] at this;cases this
    ·exact absurd hd (hs h).2
   ·rcases hd with hd | hd
    ·have:=(hk h).1;rw [hd] at this;cases this
    ·have:=(hk h).2;rw [hd,h39] at this;cases this
  ·exact ⟨Or.inr (Or.inr (Or.inl rfl)),⟨fun h=>absurd (hs h).1 (by rw [(hk hky).2];decide),fun h=>absurd (show (3:Nat)=4 from h) (by decide)⟩,⟨fun _=>rfl,fun _=>hky⟩⟩
  ·exact ⟨Or.inr (Or.inr (Or.inr rfl)),⟨fun _=>rfl,fun _=>hsg⟩,⟨fun h=>absurd (hk h).2 (by rw [(hs hsg).1];decide),fun h=>absurd (show (4:Nat)=3 from h) (by decide)⟩⟩
theorem scans_kinds {p:Nat}{l:List UInt8}{acc:List T4}{R:SR}(h:Scans p l acc R):(∀ x,x ∈ acc→TokK x)→∀ L,R=.ok L→∀ x,x ∈ L→TokK x:=by
 induction h with
 | done p acc=>intro ha L hL;injection hL with hL;subst hL;exact ha
 | skip h k ih=>exact ih
 | opens h=>intro _ L hL;cases hL
 | much h hn hm=>intro _ L hL;cases hL
 | bad h hn hm hf=>intro _ L hL;cases hL
 | tok h hn hm hf k' ih =>
  intro ha
  refine ih fun x hx=>?_
  rcases List.mem_append.1 hx with hx | hx
  ·exact ha x hx
  ·rw [List.mem_singleton] at hx
   subst hx
   exact fst_tok hf
theorem TokR.kinds {l:List UInt8}{L:List T4}(h:TokR l (.ok L)):∀ x,x ∈ L→TokK x:=by
 rcases h with ⟨_,h⟩ | ⟨_,h⟩
 ·cases h
 ·exact scans_kinds h (fun x hx=>by cases hx) L rfl
end
section
open Go.RowKit
open Tk (T4 bstr)
open Tr (Nd Blk KidsAt ret_bool)
def rdV (pn:Option Addr) (ln cn:Nat) (pl:Option Addr) (ll cl:Nat) (E:Nat) (c a top:Int):Value :=
 .agg #[.slice pn ln cn,.slice pl ll cl,.int .i64 E,.int .i64 c,.int .i64 a,.int .i64 top]
theorem rok_any (pn:Option Addr) (ln cn:Nat) (pl:Option Addr) (ll cl E:Nat) (c a top:Int) (w:World) :
  Calls Tryz.prog 38 #[rdV pn ln cn pl ll cl E c a top] w fun e w'=>e=.returned (.bool (decide (c=0)))∧Below w.heap.size w w':=by
 unfold rdV
 go_enter Tryz.func38,Tryz.ntmps38
 go_wp2
 go_ret
 exact ⟨ret_bool (by by_cases h:c=0 <;> simp [h]),(Below.refl _ _).alloc (Nat.le_refl _) _⟩
def TkRow (w:World) (p:Option Addr) (L:List T4):Prop:=0<L.length→∃ b o,p=some ⟨b,o,none⟩∧b<w.heap.size∧TokAt w b o L
theorem TkRow.below {w w':World}{p:Option Addr}{L:List T4}(h:TkRow w p L) (hb:Below w.heap.size w w'):TkRow w' p L:=fun h0=>by
 obtain ⟨b,o,rfl,hl,hc⟩:=h h0
 exact ⟨b,o,rfl,Nat.lt_of_lt_of_le hl hb.size,hc.same (hb.block b hl)⟩
theorem rpeek_nil (pn:Option Addr) (ln cn:Nat) (pl:Option Addr) (cl E:Nat) (c a top:Int) (w:World) :
  Calls Tryz.prog 68 #[rdV pn ln cn pl 0 cl E c a top] w fun e w'=>e=.returned (tokV (pk E []))∧Below w.heap.size w w':=by
 unfold rdV
 go_enter Tryz.func68,Tryz.ntmps68
 go_wp2
 refine bodyPost_ret (v:=tokV (pk E [])) (by simp [results,Tryz.results68,go_sem,tokV,pk,bstr]) rfl ?_
 exact ⟨rfl,((Below.refl _ _).alloc (Nat.le_refl _) _).alloc (Nat.le_of_lt (by rw [World.size_alloc];omega)) _⟩
theorem rpeek_cons (pn:Option Addr) (ln cn b o:Nat) (n cl E:Nat) (k v at':Int) (x:ByteArray) (c a top:Int) (w:World) (hn:n+1≤5000000) (hb:b<w.heap.size)
  (t0:w.cell? ⟨b,o,none⟩=some (.int .i64 k)) (t1:w.cell? ⟨b,o+1,none⟩=some (.string x)) (t2:w.cell? ⟨b,o+2,none⟩=some (.int .i64 v)) (t3:w.cell? ⟨b,o+3,none⟩=some (.int .i64 at')) :
  Calls Tryz.prog 68 #[rdV pn ln cn (some ⟨b,o,none⟩) (n+1) cl E c a top] w fun e w'=>e=.returned (.agg #[.int .i64 k,.string x,.int .i64 v,.int .i64 at'])∧Below w.heap.size w w':=by
 unfold rdV
 go_enter Tryz.func68,Tryz.ntmps68
 go_wp2
 refine bodyPost_ret (v:=.agg #[.int .i64 k,.string x,.int .i64 v,.int .i64 at']) (by simp [results,Tryz.results68,go_sem]) rfl ?_
 exact ⟨rfl,((Below.refl _ _).alloc (Nat.le_refl _) _).alloc (Nat.le_of_lt (by rw [World.size_alloc];omega)) _⟩
theorem rpeek_any (pn:Option Addr) (ln cn:Nat) (pl:Option Addr) (cl E:Nat) (c a top:Int) (w:World) (L:List T4) (hT:TkRow w pl L) (hl:L.length≤5000000) :
  Calls Tryz.prog 68 #[rdV pn ln cn pl L.length cl E c a top] w fun e w'=>e=.returned (tokV (pk E L))∧Below w.heap.size w w':=by
 cases L with
 | nil=>exact rpeek_nil pn ln cn pl cl E c a top w
 | cons t L =>
  obtain ⟨b,o,rfl,hb,ht⟩:=hT (Nat.succ_pos _)
  have ht0:=ht 0 (Nat.succ_pos _)
  simp only [List.getElem_cons_zero,Nat.zero_mul,Nat.add_zero] at ht0
  obtain ⟨t0,t1,t2,t3⟩:=ht0
  exact rpeek_cons pn ln cn b o L.length cl E t.k t.v t.a (bstr t.t) c a top w hl hb t0 t1 t2 t3
theorem keep1 {w w':World}{t1:TypeId}{c1:Array Value}(hb:Below (w.alloc (.cells c1 t1)).heap.size (w.alloc (.cells c1 t1)) w'):Blk w' w.heap.size t1 c1 :=
 (Blk.new w t1 c1).below hb (Blk.new w t1 c1).lt
theorem keepTwo {w w':World}{t1 t2:TypeId}{c1 c2:Array Value}(hb:Below ((w.alloc (.cells c1 t1)).alloc (.cells c2 t2)).heap.size ((w.alloc (.cells c1 t1)).alloc (.cells c2 t2)) w') :
  Blk w' w.heap.size t1 c1∧Blk w' (w.heap.size+1) t2 c2∧Below w.heap.size w w':=by
 have h2:=Blk.new (w.alloc (.cells c1 t1)) t2 c2
 have h1:=(Blk.new w t1 c1).alloc (.cells c2 t2)
 have hs:(w.alloc (.cells c1 t1)).heap.size=w.heap.size+1:=World.size_alloc ..
 have h2':=h2.below hb h2.lt
 rw [hs] at h2'
 have hs2:((w.alloc (.cells c1 t1)).alloc (.cells c2 t2)).heap.size=w.heap.size+1+1:=by rw [World.size_alloc,hs]
 have h0:Below w.heap.size w ((w.alloc (.cells c1 t1)).alloc (.cells c2 t2)):=((Below.refl _ _).alloc (Nat.le_refl _) _).alloc (by rw [hs];exact Nat.le_succ _) _
 exact ⟨h1.below hb h1.lt,h2',h0.trans (hb.mono (by rw [hs2];omega))⟩
theorem below6 {w w':World}{v0 v1 v2 v3 v4 v5:Value}(h:Below w.heap.size w w'):Below w.heap.size w ((((((w'.setCell ⟨w.heap.size+1,0,none⟩ v0).setCell ⟨w.heap.size+1,1,none⟩ v1).setCell ⟨w.heap.size+1,2,none⟩ v2).setCell ⟨w.heap.size+1,3,none⟩ v3).setCell ⟨w.heap.size+1,4,none⟩ v4).setCell ⟨w.heap.size+1,5,none⟩ v5) :=
 (((((h.setCell (Nat.le_succ _) _).setCell (Nat.le_succ _) _).setCell (Nat.le_succ _) _).setCell (Nat.le_succ _) _).setCell (Nat.le_succ _) _).setCell (Nat.le_succ _) _
theorem six {w:World}{g:Nat}{t:TypeId}{v0 v1 v2 v3 v4 v5:Value}(h:Blk w g t #[v0,v1,v2,v3,v4,v5]) :
  w.cell? ⟨g,0,none⟩=some v0∧w.cell? ⟨g,1,none⟩=some v1∧w.cell? ⟨g,2,none⟩=some v2∧w.cell? ⟨g,3,none⟩=some v3∧w.cell? ⟨g,4,none⟩=some v4∧w.cell? ⟨g,5,none⟩=some v5∧g<w.heap.size :=
 ⟨h.cell 0,h.cell 1,h.cell 2,h.cell 3,h.cell 4,h.cell 5,h.lt⟩
theorem rskip_bad (pn:Option Addr) (ln cn:Nat) (pl:Option Addr) (ll cl E:Nat) (c a top:Int) (w:World) (hc:c≠0) :
  Calls Tryz.prog 70 #[rdV pn ln cn pl ll cl E c a top] w fun e w'=>e=.returned (rdV pn ln cn pl ll cl E c a top)∧Below w.heap.size w w':=by
 have hk:=rok_any pn ln cn pl ll cl E c a top
 rw [decide_eq_false hc] at hk
 unfold rdV at hk ⊢
 go_enter Tryz.func70,Tryz.ntmps70
 go_wp2_with (go_at_call 38;refine (hk _).mono ?_;rintro e w' ⟨rfl,hb⟩;obtain ⟨b1,b2,hb3⟩:=keepTwo hb;obtain ⟨p0,p1,p2,p3,p4,p5,pl1⟩:=six b1;obtain ⟨q0,q1,q2,q3,q4,q5,ql1⟩:=six b2;have f0:=b2.frozen 0;have f1:=b2.frozen 1;have f2:=b2.frozen 2;have f3:=b2.frozen 3;have f4:=b2.frozen 4;have f5:=b2.frozen 5)
 refine bodyPost_ret (v:=.agg #[.slice pn ln cn,.slice pl ll cl,.int .i64 E,.int .i64 c,.int .i64 a,.int .i64 top]) (by simp [results,Tryz.results70,go_sem,p0,q0,q1,q2,q3,q4,q5,ql1]) rfl ?_
 exact ⟨rfl,below6 hb3⟩
theorem rskip_nil (pn:Option Addr) (ln cn:Nat) (pl:Option Addr) (cl E:Nat) (a top:Int) (w:World) :
  Calls Tryz.prog 70 #[rdV pn ln cn pl 0 cl E 0 a top] w fun e w'=>e=.returned (rdV pn ln cn pl 0 cl E 0 a top)∧Below w.heap.size w w':=by
 have hk:=rok_any pn ln cn pl 0 cl E 0 a top
 rw [decide_eq_true rfl] at hk
 unfold rdV at hk ⊢
 go_enter Tryz.func70,Tryz.ntmps70
 go_wp2_with (go_at_call 38;refine (hk _).mono ?_;rintro e w' ⟨rfl,hb⟩;obtain ⟨b1,b2,hb3⟩:=keepTwo hb;obtain ⟨p0,p1,p2,p3,p4,p5,pl1⟩:=six b1;obtain ⟨q0,q1,q2,q3,q4,q5,ql1⟩:=six b2;have e0:=b1.frozen 0;have e1:=b1.frozen 1;have e2:=b1.frozen 2;have e3:=b1.frozen 3;have e4:=b1.frozen 4;have e5:=b1.frozen 5;have f0:=b2.frozen 0;have f1:=b2.frozen 1;have f2:=b2.frozen 2;have f3:=b2.frozen 3;have f4:=b2.frozen 4;have f5:=b2.frozen 5)
 refine bodyPost_ret (v:=.agg #[.slice pn ln cn,.slice pl 0 cl,.int .i64 E,.int .i64 0,.int .i64 a,.int .i64 top]) (by simp [results,Tryz.results70,go_sem,p0,q0,q1,q2,q3,q4,q5,ql1]) rfl ?_
 exact ⟨rfl,below6 hb3⟩
theorem rskip_cons (pn:Option Addr) (ln cn b o n cl E:Nat) (a top:Int) (w:World) (hn:n+1≤5000000) (hc:n+1≤cl) (hcl:cl≤9223372036854775807) (h1:¬ cl=1) :
  Calls Tryz.prog 70 #[rdV pn ln cn (some ⟨b,o,none⟩) (n+1) cl E 0 a top] w fun e w'=>e=.returned (rdV pn ln cn (some ⟨b,o+4,none⟩) n (cl-1) E 0 a top)∧Below w.heap.size w w':=by
 have hk:=rok_any pn ln cn (some ⟨b,o,none⟩) (n+1) cl E 0 a top
 rw [decide_eq_true rfl] at hk
 unfold rdV at hk ⊢
 go_enter Tryz.func70,Tryz.ntmps70
 go_wp2_with (go_at_call 38;refine (hk _).mono ?_;rintro e w' ⟨rfl,hb⟩;obtain ⟨b1,b2,hb3⟩:=keepTwo hb;obtain ⟨p0,p1,p2,p3,p4,p5,pl1⟩:=six b1;obtain ⟨q0,q1,q2,q3,q4,q5,ql1⟩:=six b2;have e0:=b1.frozen 0;have e1:=b1.frozen 1;have e2:=b1.frozen 2;have e3:=b1.frozen 3;have e4:=b1.frozen 4;have e5:=b1.frozen 5;have f0:=b2.frozen 0;have f1:=b2.frozen 1;have f2:=b2.frozen 2;have f3:=b2.frozen 3;have f4:=b2.frozen 4;have f5:=b2.frozen 5)
 refine bodyPost_ret (v:=.agg #[.slice pn ln cn,.slice (some ⟨b,o+4,none⟩) n (cl-1),.int .i64 E,.int .i64 0,.int .i64 a,.int .i64 top]) (by simp [results,Tryz.results70,go_sem,p0,q0,q1,q2,q3,q4,q5,ql1]) rfl ?_
 exact ⟨rfl,below6 (hb3.setCell (Nat.le_refl _) _)⟩
theorem rskip_one (pn:Option Addr) (ln cn b o E:Nat) (a top:Int) (w:World) :
  Calls Tryz.prog 70 #[rdV pn ln cn (some ⟨b,o,none⟩) 1 1 E 0 a top] w fun e w'=>e=.returned (rdV pn ln cn (some ⟨b,o,none⟩) 0 0 E 0 a top)∧Below w.heap.size w w':=by
 have hk:=rok_any pn ln cn (some ⟨b,o,none⟩) 1 1 E 0 a top
 rw [decide_eq_true rfl] at hk
 unfold rdV at hk ⊢
 go_enter Tryz.func70,Tryz.ntmps70
 go_wp2_with (go_at_call 38;refine (hk _).mono ?_;rintro e w' ⟨rfl,hb⟩;obtain ⟨b1,b2,hb3⟩:=keepTwo hb;obtain ⟨p0,p1,p2,p3,p4,p5,pl1⟩:=six b1;obtain ⟨q0,q1,q2,q3,q4,q5,ql1⟩:=six b2;have e0:=b1.frozen 0;have e1:=b1.frozen 1;have e2:=b1.frozen 2;have e3:=b1.frozen 3;have e4:=b1.frozen 4;have e5:=b1.frozen 5;have f0:=b2.frozen 0;have f1:=b2.frozen 1;have f2:=b2.frozen 2;have f3:=b2.frozen 3;have f4:=b2.frozen 4;have f5:=b2.frozen 5)
 refine bodyPost_ret (v:=.agg #[.slice pn ln cn,.slice (some ⟨b,o,none⟩) 0 0,.int .i64 E,.int .i64 0,.int .i64 a,.int .i64 top]) (by simp [results,Tryz.results70,go_sem,p0,q0,q1,q2,q3,q4,q5,ql1]) rfl ?_
 exact ⟨rfl,below6 (hb3.setCell (Nat.le_refl _) _)⟩
end
section
open Go.RowKit
open Tk (T4 bstr)
open Tr (Nd Blk KidsAt ret_bool)
theorem rstop_bad (pn:Option Addr) (ln cn:Nat) (pl:Option Addr) (ll cl E:Nat) (c a top code:Int) (w:World) (hc:c≠0) :
  Calls Tryz.prog 74 #[rdV pn ln cn pl ll cl E c a top,.int .i64 code] w fun e w'=>e=.returned (rdV pn ln cn pl ll cl E c a top)∧Below w.heap.size w w':=by
 have hk:=rok_any pn ln cn pl ll cl E c a top
 rw [decide_eq_false hc] at hk
 unfold rdV at hk ⊢
 go_enter Tryz.func74,Tryz.ntmps74
 go_wp2_with (go_at_call 38;refine (hk _).mono ?_;rintro e w' ⟨rfl,hb⟩;obtain ⟨b1,b2,hb3⟩:=keepTwo hb;obtain ⟨p0,p1,p2,p3,p4,p5,pl1⟩:=six b1;obtain ⟨q0,q1,q2,q3,q4,q5,ql1⟩:=six b2;have f0:=b2.frozen 0;have f1:=b2.frozen 1;have f2:=b2.frozen 2;have f3:=b2.frozen 3;have f4:=b2.frozen 4;have f5:=b2.frozen 5)
 refine bodyPost_ret (v:=.agg #[.slice pn ln cn,.slice pl ll cl,.int .i64 E,.int .i64 c,.int .i64 a,.int .i64 top]) (by simp [results,Tryz.results74,go_sem,p0,q0,q1,q2,q3,q4,q5,ql1]) rfl ?_
 exact ⟨rfl,below6 hb3⟩
theorem rstop_ok (pn:Option Addr) (ln cn:Nat) (pl:Option Addr) (ll cl E:Nat) (a top:Int) (w:World) (x:ByteArray) (k v at' code:Int)
  (hp:∀ w2,Below w.heap.size w w2→Calls Tryz.prog 68 #[rdV pn ln cn pl ll cl E 0 a top] w2 fun e w'=>e=.returned (.agg #[.int .i64 k,.string x,.int .i64 v,.int .i64 at'])∧Below w2.heap.size w2 w') :
  Calls Tryz.prog 74 #[rdV pn ln cn pl ll cl E 0 a top,.int .i64 code] w fun e w'=>e=.returned (rdV pn ln cn pl ll cl E code at' top)∧Below w.heap.size w w':=by
 have hk:=rok_any pn ln cn pl ll cl E 0 a top
 rw [decide_eq_true rfl] at hk
 have hf:=fldT3
 unfold rdV at hk hp ⊢
 go_enter Tryz.func74,Tryz.ntmps74
 go_wp2_with (first | (go_at_call 38;refine (hk _).mono ?_;rintro e w' ⟨rfl,hb⟩;obtain ⟨b1,b2,hb3⟩:=keepTwo hb;obtain ⟨p0,p1,p2,p3,p4,p5,pl1⟩:=six b1) | (go_at_call 68;refine (hp _ (by assumption)).mono ?_;rintro e w1 ⟨rfl,hb1⟩;clear p0 p1 p2 p3 p4 p5;have B1:=b1.below hb1 pl1;have B2:=b2.below hb1 b2.lt;have hb4:=hb3.trans (hb1.mono hb3.size)) | (go_at_call 47;refine (Tk.fault_any _ _ _).mono ?_;rintro e w2 ⟨rfl,rfl⟩;obtain ⟨p0,p1,p2,p3,p4,p5,pl2⟩:=six (B1.alloc (.cells #[.int .i64 code,.int .i64 at'] 26));obtain ⟨q0,q1,q2,q3,q4,q5,ql2⟩:=six (B2.alloc (.cells #[.int .i64 code,.int .i64 at'] 26));have e3:=(B1.alloc (.cells #[.int .i64 code,.int .i64 at'] 26)).frozen 3;have e4:=(B1.alloc (.cells #[.int .i64 code,.int .i64 at'] 26)).frozen 4;have f0:=(B2.alloc (.cells #[.int .i64 code,.int .i64 at'] 26)).frozen 0;have f1:=(B2.alloc (.cells #[.int .i64 code,.int .i64 at'] 26)).frozen 1;have f2:=(B2.alloc (.cells #[.int .i64 code,.int .i64 at'] 26)).frozen 2;have f3:=(B2.alloc (.cells #[.int .i64 code,.int .i64 at'] 26)).frozen 3;have f4:=(B2.alloc (.cells #[.int .i64 code,.int .i64 at'] 26)).frozen 4;have f5:=(B2.alloc (.cells #[.int .i64 code,.int .i64 at'] 26)).frozen 5;have hb5:=hb4.alloc hb4.size (.cells #[.int .i64 code,.int .i64 at'] 26);generalize hW:w1.alloc (.cells #[.int .i64 code,.int .i64 at'] 26)=W at *))
 refine bodyPost_ret (v:=.agg #[.slice pn ln cn,.slice pl ll cl,.int .i64 E,.int .i64 code,.int .i64 at',.int .i64 top]) (by simp [results,Tryz.results74,go_sem,p0,q0,q1,q2,q3,q4,q5,ql2]) rfl ?_
 exact ⟨rfl,below6 ((hb5.setCell (Nat.le_refl _) _).setCell (Nat.le_refl _) _)⟩
theorem chain2 {w w1 w':World}{o1 o2:Obj}(h1:Below (w.alloc o1).heap.size (w.alloc o1) w1) (h2:Below (w1.alloc o2).heap.size (w1.alloc o2) w'):Below w.heap.size w w':=by
 have s1:(w.alloc o1).heap.size=w.heap.size+1:=World.size_alloc ..
 have s2:(w1.alloc o2).heap.size=w1.heap.size+1:=World.size_alloc ..
 have hs:=h1.size
 have a1:Below w.heap.size w w1:=((Below.refl _ _).alloc (Nat.le_refl _) _).trans (h1.mono (by omega))
 exact (a1.alloc a1.size _).trans (h2.mono (by omega))
theorem four {w:World}{g:Nat}{t:TypeId}{v0 v1 v2 v3:Value}(h:Blk w g t #[v0,v1,v2,v3]) :
  w.cell? ⟨g,0,none⟩=some v0∧w.cell? ⟨g,1,none⟩=some v1∧w.cell? ⟨g,2,none⟩=some v2∧w.cell? ⟨g,3,none⟩=some v3∧g<w.heap.size :=
 ⟨h.cell 0,h.cell 1,h.cell 2,h.cell 3,h.lt⟩
theorem ris_bad (pn:Option Addr) (ln cn:Nat) (pl:Option Addr) (ll cl E:Nat) (c a top:Int) (w:World) (s x:ByteArray) (k v at':Int) (hc:c≠0)
  (hp:∀ w2,Below w.heap.size w w2→Calls Tryz.prog 68 #[rdV pn ln cn pl ll cl E c a top] w2 fun e w'=>e=.returned (.agg #[.int .i64 k,.string x,.int .i64 v,.int .i64 at'])∧Below w2.heap.size w2 w') :
  Calls Tryz.prog 69 #[rdV pn ln cn pl ll cl E c a top,.string s] w fun e w'=>e=.returned (.bool false)∧Below w.heap.size w w':=by
 have hk:=rok_any pn ln cn pl ll cl E c a top
 rw [decide_eq_false hc] at hk
 have h0:=hp w (Below.refl _ _)
 unfold rdV at hk hp h0 ⊢
 go_enter Tryz.func69,Tryz.ntmps69
 go_wp2_with (first | (go_at_call 38;refine (hk _).mono ?_;rintro e w' ⟨rfl,hb⟩) | (go_at_call 68;refine (hp _ ((Below.refl _ _).alloc (Nat.le_refl _) _)).mono ?_;rintro e w1 ⟨rfl,hb1⟩;obtain ⟨p0,p1,p2,p3,p4,p5,pl1⟩:=six (keep1 hb1)))
 go_ret
 exact ⟨rfl,chain2 hb1 hb⟩
theorem ris_ok (pn:Option Addr) (ln cn:Nat) (pl:Option Addr) (ll cl E:Nat) (a top:Int) (w:World) (s x:ByteArray) (k v at':Int)
  (hp:∀ w2,Below w.heap.size w w2→Calls Tryz.prog 68 #[rdV pn ln cn pl ll cl E 0 a top] w2 fun e w'=>e=.returned (.agg #[.int .i64 k,.string x,.int .i64 v,.int .i64 at'])∧Below w2.heap.size w2 w') :
  Calls Tryz.prog 69 #[rdV pn ln cn pl ll cl E 0 a top,.string s] w fun e w'=>e=.returned (.bool (decide (k=4∨k=3) && (x.toList == s.toList)))∧Below w.heap.size w w':=by
 have hk:=rok_any pn ln cn pl ll cl E 0 a top
 rw [decide_eq_true rfl] at hk
 unfold rdV at hk hp ⊢
 by_cases h4:k=4
 ·subst h4
  go_enter Tryz.func69,Tryz.ntmps69
  go_wp2_with (first | (go_at_call 38;refine (hk _).mono ?_;rintro e w' ⟨rfl,hb⟩;obtain ⟨t0,t1,t2,t3,tl1⟩:=four (keep1 hb)) | (go_at_call 68;refine (hp _ ((Below.refl _ _).alloc (Nat.le_refl _) _)).mono ?_;rintro e w1 ⟨rfl,hb1⟩;obtain ⟨p0,p1,p2,p3,p4,p5,pl1⟩:=six (keep1 hb1)))
  go_ret
  exact ⟨rfl,chain2 hb1 hb⟩
 ·by_cases h3:k=3
  ·subst h3
   go_enter Tryz.func69,Tryz.ntmps69
   go_wp2_with (first | (go_at_call 38;refine (hk _).mono ?_;rintro e w' ⟨rfl,hb⟩;obtain ⟨t0,t1,t2,t3,tl1⟩:=four (keep1 hb)) | (go_at_call 68;refine (hp _ ((Below.refl _ _).alloc (Nat.le_refl _) _)).mono ?_;rintro e w1 ⟨rfl,hb1⟩;obtain ⟨p0,p1,p2,p3,p4,p5,pl1⟩:=six (keep1 hb1)))
   go_ret
   exact ⟨rfl,chain2 hb1 hb⟩
  ·have e4:(k == 4)=false:=beq_eq_false_iff_ne.2 h4
   have e3:(k == 3)=false:=beq_eq_false_iff_ne.2 h3
   have hr:Hid (decide (k=4∨k=3)=false):=by show _=_;simp [h4,h3]
   go_enter Tryz.func69,Tryz.ntmps69
   go_wp2_with (first | (go_at_call 38;refine (hk _).mono ?_;rintro e w' ⟨rfl,hb⟩;obtain ⟨t0,t1,t2,t3,tl1⟩:=four (keep1 hb)) | (go_at_call 68;refine (hp _ ((Below.refl _ _).alloc (Nat.le_refl _) _)).mono ?_;rintro e w1 ⟨rfl,hb1⟩;obtain ⟨p0,p1,p2,p3,p4,p5,pl1⟩:=six (keep1 hb1)))
   go_ret
   exact ⟨by rw [hr.out];rfl,chain2 hb1 hb⟩
end
section
open Go.RowKit
open Tk (T4 bstr)
open Tr (Nd Blk KidsAt ret_bool)
def RdB (w0:World) (E:Nat) (pn:Option Addr) (ln cn:Nat) (top:Int) (c a:Int) (v:Value):Prop :=
 c≠0∧∃ pl cl L,v=rdV pn ln cn pl L.length cl E c a top∧TkRow w0 pl L∧L.length≤5000000
section
variable {w0 w:World}{E:Nat}{pn:Option Addr}{ln cn:Nat}{top:Int}{L:List T4}{c a:Int}{v:Value}
theorem RdB.ok (h:RdB w0 E pn ln cn top c a v) (w:World):Calls Tryz.prog 38 #[v] w fun e w'=>e=.returned (.bool false)∧Below w.heap.size w w':=by
 obtain ⟨hc,pl,cl,L,rfl,_⟩:=h
 have:=rok_any pn ln cn pl L.length cl E c a top w
 rwa [decide_eq_false hc] at this
end
end
end Go.Proofs.YtbjacclfhgnffaaGreatDoor
