/-
  Joined texts of this claim: TkV, Pu, TkW, TkX, TkLa.
-/
import Derived.Test.YtbjacclfhgnffaaGreatDoorW00
import Derived.Test.YtbjacclfhgnffaaGreatDoorW09
import Derived.Test.YtbjacclfhgnffaaGreatDoorW07
import Derived.Test.YtbjacclfhgnffaaGreatDoorW08
import Derived.LoopTactic
set_option maxHeartbeats 40000000
set_option maxRecDepth 100000
set_option linter.unusedVariables false
set_option linter.unusedSimpArgs false
namespace Go.Proofs.YtbjacclfhgnffaaGreatDoor
section
namespace Tk
open Go.RowKit
def NxPost (r:Tk) (l:List UInt8) (w:World) (e:Ending) (w':World):Prop :=
 Below w.heap.size w w' ∧
 ((∃ kd n v,r=.tok kd n v∧e=.returned (.tuple #[.agg #[.int .i64 (kd:Nat),.string (bstr (l.take n)),.int .i64 (v:Nat),.int .i64 0],.int .i64 (n:Nat),.int .i64 0])) ∨
  (∃ (c:Nat) (a v n ec:Int) (t:ByteArray),r=.bad c∧e=.returned (.tuple #[.agg #[.int .i64 a,.string t,.int .i64 v,.int .i64 0],.int .i64 n,.int .i64 ec])∧ec≠0∧((ec=2∧c=1)∨(ec≠2∧ec=c))))
theorem nx_tok {r:Tk}{l:List UInt8}{w w':World}{kd n v:Nat}{s:ByteArray}(hr:Hid (r=.tok kd n v)) (ht:bstr (l.take n)=s) (hb:Below w.heap.size w w') :
  NxPost r l w (.returned (.tuple #[.agg #[.int .i64 kd,.string s,.int .i64 v,.int .i64 0],.int .i64 n,.int .i64 0])) w':=⟨hb,Or.inl ⟨kd,n,v,hr.out,by rw [ht]⟩⟩
theorem nx_bad {r:Tk}{l:List UInt8}{w w':World}{c:Nat}{a v n ec:Int}{t:ByteArray}(hr:Hid (r=.bad c)) (h0:ec≠0) (hc:(ec=2∧c=1)∨(ec≠2∧ec=c)) (hb:Below w.heap.size w w') :
  NxPost r l w (.returned (.tuple #[.agg #[.int .i64 a,.string t,.int .i64 v,.int .i64 0],.int .i64 n,.int .i64 ec])) w':=⟨hb,Or.inr ⟨c,a,v,n,ec,t,hr.out,rfl,h0,hc⟩⟩
theorem numD_kind {b:Nat}{p:UInt8→Bool}{ds t:List UInt8}{k n v:Nat}(h:numD b p ds t=.tok k n v):k=2:=by
 unfold numD at h
 split at h
 ·cases h
 ·split at h
  ·cases h;rfl
  ·cases h
theorem numT_kind {t:List UInt8}{k n v:Nat}(h:numT t=.tok k n v):k=2:=by
 unfold numT at h
 split at h
 ·split at h
  ·cases h
  ·exact numD_kind h
 ·exact numD_kind h
theorem numD_code {b:Nat}{p:UInt8→Bool}{ds t:List UInt8}{c:Nat}(h:numD b p ds t=.bad c):c=1∨c=3:=by
 unfold numD at h
 split at h
 ·cases h;exact Or.inl rfl
 ·split at h
  ·cases h
  ·cases h;exact Or.inr rfl
theorem numT_code {t:List UInt8}{c:Nat}(h:numT t=.bad c):c=1∨c=3:=by
 unfold numT at h
 split at h
 ·split at h
  ·cases h;exact Or.inl rfl
  ·exact numD_code h
 ·exact numD_code h
theorem preN_take_all (p:UInt8→Bool) (l:List UInt8):∀ c ∈ l.take (preN p l),p c=true:=by
 unfold preN
 induction l with
 | nil=>simp
 | cons x l ih =>
  rw [List.takeWhile_cons]
  by_cases hx:p x=true
  ·rw [if_pos hx]
   intro c hc
   rw [List.length_cons,List.take_succ_cons] at hc
   rcases List.mem_cons.1 hc with rfl | hc
   ·exact hx
   ·exact ih c hc
  ·rw [if_neg hx];simp
theorem pre_step {l:List UInt8}{n k:Nat}(h:n=k+preN wordB (l.drop k)) (hl:k<l.length) (hw:wordB l[k]=true):n=(k+1)+preN wordB (l.drop (k+1)):=h.trans (preN_drop_true hl hw)
theorem pre_stop {l:List UInt8}{n k:Nat}(h:n=k+preN wordB (l.drop k)) (hl:k<l.length) (hw:wordB l[k]=false):n=k:=h.trans (by rw [preN_drop_false hl hw];rfl)
theorem pre_end {l:List UInt8}{n k:Nat}(h:n=k+preN wordB (l.drop k)) (hl:l.length≤k):n=k:=h.trans (by rw [List.drop_eq_nil_of_le hl];rfl)
theorem not_word {c:UInt8}(hw:wordB c=false):letB c=false∧digB c=false:=by
 simp [letB,digB,wordB] at *;omega
theorem next_dig (s:ByteArray) (w:World) (hs:s.size≤140737488355328) (h0:0<s.size) (hd:digB s[0]=true) (r:Tk) (hr:r=numT (s.data.toList.take (preN wordB s.data.toList))) :
  Calls Tryz.prog 66 #[.string s] w (NxPost r s.data.toList w):=by
 have hsz:=Lib.hid (Lib.size_eq s)
 have hlf:letB s[0]=false:=by simp [digB] at hd;simp [letB];omega
 have hL:=fun w=>rlet_any s[0] w
 have hD:=fun w=>rdig_any s[0] w
 rw [hlf] at hL
 rw [hd] at hD
 obtain ⟨n,hn⟩:=exE (preN wordB s.data.toList)
 rw [← hn] at hr
 have hn1:1≤n:=by
  rw [hn]
  have hg:=getD_idx s 0 h0
  cases e:s.data.toList with
  | nil=>rw [(nil_iff s).1 e] at h0;omega
  | cons c l=>rw [e] at hg;exact preN_pos (dig_word (by rw [← hg] at hd;exact hd))
 have hnl:n≤s.data.toList.length:=by rw [hn];exact preN_le _ _
 have hns:n≤s.size:=by rw [Lib.size_eq];exact hnl
 have hN:=fun w=>rnum_any (s.extract 0 n) w (by rw [Lib.size_eq,ext0_data,List.length_take];omega) (by rw [Lib.size_eq,ext0_data,List.length_take];omega)
 rw [ext0_data] at hN
 have hfull:=numT_full (s.data.toList.take n)
 have hkind:=fun k m v=>numT_kind (t:=s.data.toList.take n) (k:=k) (n:=m) (v:=v)
 have hcode:=fun c=>numT_code (t:=s.data.toList.take n) (c:=c)
 rw [List.length_take,Nat.min_eq_left hnl] at hfull
 rw [← hr] at hN hfull hkind hcode
 clear hr hnl hd hlf
 have Hn:=Lib.hid hn
 clear hn
 go_enter Tryz.func66,Tryz.ntmps66
 go_wp2_with (first | (go_at_call 113;refine (hL _).mono ?_;rintro e w' ⟨rfl,rfl⟩) | (go_at_call 114;refine (hD _).mono ?_;rintro e w' ⟨rfl,rfl⟩))
 go_loop [5] (fun i=>∃ k:Nat,k≤s.size∧i=.int .i64 k∧Hid (n=k+preN wordB (s.data.toList.drop k))) (fun i=>s.size-(intOf i).toNat)
 case atStart=>exact ⟨0,Nat.zero_le _,rfl,by have:=Hn.out;simpa [Hid] using this⟩
 case round =>
  obtain ⟨k,hk,rfl,HK⟩:=hrel
  by_cases hst:k<s.size∧wordB (s.data.toList.getD k 0)=true
  ·obtain ⟨hlt,hw⟩:=hst
   have hl:k<s.data.toList.length:=by have:=hsz.out;omega
   rw [getD_idx s k hlt] at hw
   have hLk:=fun w=>rlet_any s[k] w
   have hDk:=fun w=>rdig_any s[k] w
   have HN:Hid (n=(k+1:Nat)+preN wordB (s.data.toList.drop (k+1))):=pre_step HK.out hl hw
   cases hlet:letB s[k] with
   | true =>
    rw [hlet] at hLk
    clear HK hw hlet
    go_wp2_with (go_at_call 113;refine (hLk _).mono ?_;rintro e w' ⟨rfl,rfl⟩)
    go_round
    case rel=>exact ⟨k+1,by omega,by go_num,HN⟩
    case measure=>simp [intOf];omega
   | false =>
    have hdk:digB s[k]=true:=(let_word.2 hw).resolve_left (by simp [hlet])
    rw [hlet] at hLk
    rw [hdk] at hDk
    clear HK hw hlet hdk
    go_wp2_with (first | (go_at_call 113;refine (hLk _).mono ?_;rintro e w' ⟨rfl,rfl⟩) | (go_at_call 114;refine (hDk _).mono ?_;rintro e w' ⟨rfl,rfl⟩))
    go_round
    case rel=>exact ⟨k+1,by omega,by go_num,HN⟩
    case measure=>simp [intOf];omega
  ·have hkn:n=k:=by
    by_cases hlt:k<s.size
    ·have hw:wordB (s.data.toList.getD k 0)=false:=by cases h:wordB (s.data.toList.getD k 0) with | false=>rfl | true=>exact absurd ⟨hlt,h⟩ hst
     rw [getD_idx s k hlt] at hw
     exact pre_stop HK.out (by have:=hsz.out;omega) hw
    ·exact pre_end HK.out (by have:=hsz.out;omega)
   have hx:¬ n<s.size∨∃ h:n<s.size,letB s[n]=false∧digB s[n]=false:=by
    subst hkn
    by_cases hlt:n<s.size
    ·have hw:wordB (s.data.toList.getD n 0)=false:=by cases h:wordB (s.data.toList.getD n 0) with | false=>rfl | true=>exact absurd ⟨hlt,h⟩ hst
     rw [getD_idx s n hlt] at hw
     exact Or.inr ⟨hlt,not_word hw⟩
    ·exact Or.inl hlt
   subst hkn
   clear hst HK
   have hx:(¬ n<s.size∧True)∨(∃ h:n<s.size,(∀ w,Calls Tryz.prog 113 #[.int .u8 s[n].toNat] w fun e w'=>e=.returned (.bool false)∧w=w')∧(∀ w,Calls Tryz.prog 114 #[.int .u8 s[n].toNat] w fun e w'=>e=.returned (.bool false)∧w=w')):=by
    rcases hx with hx | ⟨hx,hx1,hx2⟩
    ·exact Or.inl ⟨hx,trivial⟩
    ·have a:=fun w=>rlet_any s[n] w
     have b:=fun w=>rdig_any s[n] w
     rw [hx1] at a
     rw [hx2] at b
     exact Or.inr ⟨hx,a,b⟩
   cases hq:r with
   | tok kd m v =>
    have hm:=hfull kd m v hq
    have hk2:=hkind kd m v hq
    have HR:Hid (r=.tok 2 n v):=by show _=_;rw [hq,hm,hk2]
    subst hk2
    have hN2:=hN
    rw [hq] at hN2
    simp only [tkN,tkE] at hN2
    clear hN hq hfull hkind hcode hm
    rcases hx with ⟨hx,_⟩ | ⟨hx,hLn,hDn⟩
    all_goals
     go_wp2_with (first | (go_at_call 113;((with_reducible refine (hL _).mono ?_);rintro e w' ⟨rfl,rfl⟩)) | (go_at_call 113;((with_reducible refine (hLn _).mono ?_);rintro e w' ⟨rfl,rfl⟩)) | (go_at_call 114;((with_reducible refine (hD _).mono ?_);rintro e w' ⟨rfl,rfl⟩)) | (go_at_call 114;((with_reducible refine (hDn _).mono ?_);rintro e w' ⟨rfl,rfl⟩)) | (go_at_call 115;refine (hN2 _).mono ?_;rintro e w' ⟨rfl,rfl⟩))
     exact bodyPost_ret (v:=.tuple #[.agg #[.int .i64 2,.string (s.extract 0 n),.int .i64 v,.int .i64 0],.int .i64 n,.int .i64 0]) (by simp [results,Tryz.results66,go_sem]) rfl (nx_tok HR (ext0 s n) ((Below.refl _ _).alloc (Nat.le_refl _) _))
   | bad c =>
    have hc:=hcode c hq
    have HR:=Lib.hid hq
    have hN2:=hN
    rw [hq] at hN2
    simp only [tkN,tkE] at hN2
    obtain ⟨ec,hec⟩ : ∃ ec:Int,ec=(if c=1 then 2 else (c:Int)):=⟨_,rfl⟩
    rw [← hec] at hN2
    have HE:Hid (ec≠0∧((ec=2∧c=1)∨(ec≠2∧ec=c))):=by
     show _∧_
     rw [hec]
     rcases hc with rfl | rfl <;> simp
    clear hN hq hfull hkind hcode hc hec
    rcases hx with ⟨hx,_⟩ | ⟨hx,hLn,hDn⟩
    all_goals
     go_wp2_with (first | (go_at_call 113;((with_reducible refine (hL _).mono ?_);rintro e w' ⟨rfl,rfl⟩)) | (go_at_call 113;((with_reducible refine (hLn _).mono ?_);rintro e w' ⟨rfl,rfl⟩)) | (go_at_call 114;((with_reducible refine (hD _).mono ?_);rintro e w' ⟨rfl,rfl⟩)) | (go_at_call 114;((with_reducible refine (hDn _).mono ?_);rintro e w' ⟨rfl,rfl⟩)) | (go_at_call 115;refine (hN2 _).mono ?_;rintro e w' ⟨rfl,rfl⟩))
     exact bodyPost_ret (v:=.tuple #[.agg #[.int .i64 2,.string (s.extract 0 n),.int .i64 0,.int .i64 0],.int .i64 n,.int .i64 ec]) (by simp [results,Tryz.results66,go_sem]) rfl (nx_bad HR HE.out.1 HE.out.2 ((Below.refl _ _).alloc (Nat.le_refl _) _))
end Tk
end
section
open Tk (T4)
structure Part3 (c:Nat) (d:Int) (s s':S3):Prop where
 l:s'.L.length+c≤s.L.length
 n:(s'.N.length:Int)+4 * s'.L.length+d≤s.N.length+4 * s.L.length
 g:s.N.length≤s'.N.length
 o:∃ l,s'.O=s.O ++ l
theorem Part3.trans {a c:Nat}{b d:Int}{s1 s2 s3:S3}(h:Part3 a b s1 s2) (k:Part3 c d s2 s3):Part3 (a+c) (b+d) s1 s3:=by
 obtain ⟨h1,h2,h3,l,h4⟩:=h
 obtain ⟨k1,k2,k3,m,k4⟩:=k
 exact ⟨by omega,by omega,by omega,l ++ m,by rw [k4,h4];simp⟩
theorem Part3.weak {a c:Nat}{b d:Int}{s1 s2:S3}(h:Part3 a b s1 s2) (h1:c≤a) (h2:d≤b):Part3 c d s1 s2 :=
 ⟨by have:=h.l;omega,by have:=h.n;omega,h.g,h.o⟩
theorem Part3.refl (s:S3):Part3 0 0 s s:=⟨Nat.le_refl _,by omega,Nat.le_refl _,[],by simp⟩
def sz4 (s:S3):Int:=s.N.length+4 * s.L.length
def Q3 (K:Nat) (B:Int) (f:F3) (c:Nat) (d:Int):Prop:=∀ s:S3,s.L.length≤K→sz4 s≤B→Fine (f s) (Part3 c d s)
theorem Q3.weak {K K':Nat}{B B':Int}{f:F3}{c c':Nat}{d d':Int}(h:Q3 K B f c d) (hK:K'≤K) (hB:B'≤B) (hc:c'≤c) (hd:d'≤d):Q3 K' B' f c' d':=fun s h1 h2=>(h s (Nat.le_trans h1 hK) (by omega)).mono fun _ k=>k.weak hc hd
theorem Q3.low {K:Nat}{B:Int}{f:F3}{c c':Nat}{d d':Int}(h:Q3 K B f c d) (hc:c'≤c) (hd:d'≤d):Q3 K B f c' d':=h.weak (Nat.le_refl _) (Int.le_refl _) hc hd
theorem sz_le {c:Nat}{d B:Int}{s s':S3}(h:Part3 c d s s') (hs:sz4 s≤B):sz4 s'≤B-d:=by
 have h1:=h.n
 unfold sz4 at hs ⊢;omega
theorem Q3.nil {K:Nat}{B:Int}:Q3 K B (seqF []) 0 0:=fun s _ _=>Part3.refl s
theorem Q3.cons {K:Nat}{B:Int}{f:F3}{fs:List F3}{c1 c2:Nat}{d1 d2:Int}(h:Q3 K B f c1 d1) (k:c1≤K→Q3 (K-c1) (B-d1) (seqF fs) c2 d2):Q3 K B (seqF (f :: fs)) (c1+c2) (d1+d2):=fun s h1 h2=>by
 unfold seqF
 refine Fine.bind (h s h1 h2) fun s1 p=>?_
 have hl:=p.l
 exact (k (by omega) s1 (by omega) (sz_le p h2)).mono fun s2 q=>p.trans q
theorem tail_part {s:S3}(h:s.L≠[]):Part3 1 4 s { s with L:=s.L.tail }:=by
 have h1:=tail_lt h
 exact ⟨by show s.L.tail.length+1≤_;omega,by show (s.N.length:Int)+4 * s.L.tail.length+4≤_;omega,Nat.le_refl _,[],by simp⟩
theorem tail_part0 (s:S3):Part3 0 0 s { s with L:=s.L.tail }:=by
 have h1:=tail_le s.L
 exact ⟨by show s.L.tail.length+0≤_;omega,by show (s.N.length:Int)+4 * s.L.tail.length+0≤_;omega,Nat.le_refl _,[],by simp⟩
theorem Q3.word {K E:Nat}{B:Int}{t:List UInt8}(ht:t≠[]):Q3 K B (wordF E t) 1 4:=fun s _ _=>by
 refine (word_fine s ht).mono fun s1 h=>?_
 obtain ⟨rfl,h⟩:=h
 exact tail_part (fun e=>by rw [e] at h;simp at h)
theorem Q3.tail {K:Nat}{B:Int}{f:F3}{c:Nat}{d:Int}{s:S3}(h:1≤K→Q3 (K-1) (B-4) f c d) (h1:s.L.length≤K) (h2:sz4 s≤B) (hn:s.L≠[]):Fine (f { s with L:=s.L.tail }) (Part3 (1+c) (4+d) s):=by
 have hp:=tail_part hn
 have h3:=hp.l
 have h4:=tail_lt hn
 exact (h (by omega) _ (by omega) (sz_le hp h2)).mono fun s2 q=>hp.trans q
theorem Q3.expr {K E n:Nat}{B:Int}(h:10 * K+4<n) (hB:B≤4500000):Q3 K B (runJ E n .expr) 1 3:=fun s h1 h2=>by
 unfold sz4 at h2
 refine (runJ_fine E n .expr s trivial (by omega) (by show _+4<_;omega)).mono fun s1 h=>?_
 obtain ⟨⟨a,b,c⟩,d⟩:=h
 exact ⟨a,by omega,c,_,d.o⟩
theorem Q3.build {K:Nat}{B:Int}{X:S3→Mn}{fs:List F3}{c:Nat}{d:Int}(h:Q3 K B (seqF fs) c (d+1)) (hB:B-d≤4500001):Q3 K B (fun s=>buildF (X s) fs s) c d:=fun s h1 h2=>by
 show Fine (buildF (X s) fs s) _
 unfold buildF extF
 refine Fine.bind (h s h1 h2) fun s1 p=>?_
 obtain ⟨a,b,g,l,o⟩:=p
 unfold sz4 at h2
 refine (add_fine s1 (by rw [o];simp) (by omega)).mono fun s2 h=>?_
 subst h
 refine ⟨a,?_,?_,[(s1.N.length:Int)],?_⟩
 ·show ((s1.N ++ _).length:Int)+4 * s1.L.length+d≤_;simp;omega
 ·show _≤(s1.N ++ _).length;simp;omega
 ·show s1.O.take s.O.length ++ _=_;rw [o];simp
theorem Q3.buildc {K:Nat}{B:Int}{x:Mn}{fs:List F3}{c:Nat}{d:Int}(h:Q3 K B (seqF fs) c (d+1)) (hB:B-d≤4500001):Q3 K B (buildF x fs) c d:=Q3.build (X:=fun _=>x) h hB
theorem Q3.took {K E:Nat}{B:Int}{t:List UInt8}(ht:t≠[]) {f g:F3}{c:Nat}{d:Int}(h:1≤K→Q3 (K-1) (B-4) f c d) {c2:Nat}{d2:Int}(k:Q3 K B g c2 d2) (h1:c2≤c+1) (h2:d2≤d+4):Q3 K B (fun s=>if (pk E s.L).t=t then f { s with L:=s.L.tail } else g s) c2 d2:=fun s q1 q2=>by
 show Fine (if (pk E s.L).t=t then _ else _) _
 by_cases hp:(pk E s.L).t=t
 ·rw [if_pos hp]
  exact (Q3.tail h q1 q2 (pk_pos (E:=E) (by rw [hp];exact ht))).mono fun s2 q=>q.weak (by omega) (by omega)
 ·rw [if_neg hp];exact k s q1 q2
theorem Q3.ite {K:Nat}{B:Int}{p:S3→Prop}[DecidablePred p] {f g:F3}{c:Nat}{d:Int}(h:Q3 K B f c d) (k:Q3 K B g c d):Q3 K B (fun s=>if p s then f s else g s) c d:=fun s h1 h2=>by
 show Fine (if p s then f s else g s) _
 by_cases hp:p s
 ·rw [if_pos hp];exact h s h1 h2
 ·rw [if_neg hp];exact k s h1 h2
theorem Q3.ok {K:Nat}{B:Int}:Q3 K B .ok 0 0:=fun s _ _=>Part3.refl s
theorem Q3.bind {K:Nat}{B:Int}{f g:F3}{c1 c2:Nat}{d1 d2:Int}(h:Q3 K B f c1 d1) (k:c1≤K→Q3 (K-c1) (B-d1) g c2 d2):Q3 K B (fun s=>(f s).bind g) (c1+c2) (d1+d2):=fun s h1 h2=>by
 refine Fine.bind (h s h1 h2) fun s1 p=>?_
 have hl:=p.l
 exact (k (by omega) s1 (by omega) (sz_le p h2)).mono fun s2 q=>p.trans q
def FineD (r:D3) (P:S3→Prop):Prop:=match r with | .ok s _=>P s | .bad _ _=>True | .out=>False
theorem FineD.bind {r:D3}{f:S3→Mn→R3}{P Q:S3→Prop}(h:FineD r P) (k:∀ s x,P s→Fine (f s x) Q):Fine (r.bind f) Q:=by
 cases r with
 | ok s x=>exact k s x h
 | bad c a=>trivial
 | out=>exact h.elim
theorem FineD.mono {r:D3}{P Q:S3→Prop}(h:FineD r P) (k:∀ s,P s→Q s):FineD r Q:=by
 cases r with
 | ok s x=>exact k s h
 | bad c a=>trivial
 | out=>exact h.elim
theorem named_fine (E:Nat) (typ:Int) (s:S3):FineD (namedF E typ s) (Part3 1 4 s):=by
 unfold namedF
 split
 ·rename_i h
  exact tail_part (pk_kpos (E:=E) (by rw [h];simp))
 ·trivial
theorem decl_fine (E:Nat) (s:S3):FineD (declF E s) (Part3 2 8 s):=by
 unfold declF
 have h:=word_fine (E:=E) (t:=[105,110,116]) s (by simp)
 cases hw:wordF E [105,110,116] s with
 | bad c a=>trivial
 | out=>rw [hw] at h;exact h.elim
 | ok s1 =>
  rw [hw] at h
  obtain ⟨rfl,h⟩:=h
  have hn:s.L≠[]:=fun e=>by rw [e] at h;simp at h
  have hp:=tail_part hn
  show FineD (if _ then _ else _) _
  split
  ·refine (named_fine E 2 _).mono fun s2 q=>?_
   have h0:=tail_part0 { s with L:=s.L.tail }
   exact ((hp.trans h0).trans q).weak (by omega) (by omega)
  ·exact (named_fine E 1 _).mono fun s2 q=>hp.trans q
theorem Q3.decl {K E:Nat}{B:Int}{f:S3→Mn→R3}{c:Nat}{d:Int}(h:2≤K→∀ x,Q3 (K-2) (B-8) (fun s=>f s x) c d):Q3 K B (fun s=>(declF E s).bind f) (2+c) (8+d):=fun s h1 h2=>by
 refine FineD.bind (decl_fine E s) fun s1 x p=>?_
 have hl:=p.l
 exact (h (by omega) x s1 (by omega) (sz_le p h2)).mono fun s2 q=>p.trans q
section small
variable {K E n:Nat}{B:Int}
theorem Q3.initial (h:10 * K+4<n) (hB:B≤4500000):Q3 K B (initialF E (runJ E n .expr)) 0 0 :=
 Q3.took (by simp) (f:=runJ E n .expr) (g:=.ok) (c:=1) (d:=3) (fun _=>Q3.expr (by omega) (by omega)) Q3.ok (by omega) (by omega)
theorem Q3.param (hB:B≤4500000):Q3 K B (paramF E) 2 7 :=
 (Q3.decl (f:=fun s1 x=>buildF { x with k:=4 } [] s1) (c:=0) (d:=-1) fun _ x=>Q3.buildc (Q3.nil) (by omega)).low (by omega) (by omega)
theorem Q3.local (h:10 * K+4<n) (hB:B≤4500000):Q3 K B (localF E (runJ E n .expr)) 2 7 :=
 (Q3.decl (f:=fun s1 x=>buildF { x with k:=12 } [initialF E (runJ E n .expr)] s1) (c:=0) (d:=-1) fun _ x=>Q3.buildc (((Q3.initial (by omega) (by omega)).cons (fun _=>Q3.nil)).low (by omega) (by omega)) (by omega)).low (by omega) (by omega)
theorem Q3.effect (h:10 * K+4<n) (hB:B≤4500000):Q3 K B (effectF E (runJ E n .expr)) 1 2 :=
 Q3.build (X:=fun s=>mk 13 [] 0 (pk E s.L).a) (((Q3.expr h hB).cons (fun _=>Q3.nil)).low (by omega) (by omega)) (by omega)
theorem Q3.nothing (hB:B≤4500000):Q3 K B (nothingF E) 0 (-1) :=
 Q3.build (X:=fun s=>mk 24 [] 0 (pk E s.L).a) Q3.nil (by omega)
theorem Q3.condition (h:10 * K+4<n) (hB:B≤4500000):Q3 K B (conditionF E (runJ E n .expr)) 3 11 :=
 ((Q3.word (by simp)).cons fun _=>(Q3.expr (by omega) (by omega)).cons fun _=>(Q3.word (by simp)).cons fun _=>Q3.nil).low (by omega) (by omega)
theorem Q3.told (h:10 * K+4<n) (hB:B≤4500000):Q3 K B (toldF E (runJ E n .expr)) 0 0 :=
 Q3.ite (p:=fun s=>(pk E s.L).t=[59]) Q3.ok ((Q3.expr h hB).low (by omega) (by omega))
theorem Q3.unless {t:List UInt8}{f:F3}{c:Nat}{d:Int}(h:Q3 K B f c d) (hd : -1≤d) (hB:B≤4500000):Q3 K B (unlessF E t f) 0 (-1) :=
 Q3.ite (p:=fun s=>(pk E s.L).t=t) (Q3.nothing hB) (h.low (by omega) hd)
theorem Q3.start (h:10 * K+4<n) (hB:B≤4500000):Q3 K B (startF E (runJ E n .expr)) 0 (-1) :=
 Q3.ite (p:=fun s=>(pk E s.L).t=[105,110,116]) ((Q3.local h hB).low (by omega) (by omega)) (Q3.unless (Q3.effect h hB) (by omega) hB)
theorem items_all {en:List UInt8}(hen:en≠[]) {f:F3}{c:Nat}{d:Int}(hc:1≤c) (hd : -4≤d) (hf:∀ K B,B≤4500000→Q3 K B f c d):∀ n K (B:Int),B≤4500000→K<n→Q3 K B (itemsF E en (fun _=>f) n) 1 0:=by
 intro n
 induction n with
 | zero=>intro K B _ h;omega
 | succ n ih =>
  intro K B hB h
  have h1:Q3 K B (fun s=>(f s).bind fun s2=>if (pk E s2.L).t=[44] then itemsF E en (fun _=>f) n { s2 with L:=s2.L.tail } else wordF E en s2) (c+0) (d+4):=by
   refine (hf K B hB).bind (c2:=0) (d2:=4) (g:=fun s2=>if (pk E s2.L).t=[44] then itemsF E en (fun _=>f) n { s2 with L:=s2.L.tail } else wordF E en s2) fun hK=>?_
   exact Q3.took (by simp) (fun hK2=>ih (K-c-1) _ (by omega) (by omega)) ((Q3.word hen).low (by omega) (by omega)) (by omega) (by omega)
  exact h1.low (by omega) (by omega)
theorem list_all {o en:List UInt8}(ho:o≠[]) (hen:en≠[]) {f:F3}{c:Nat}{d:Int}(hc:1≤c) (hd : -4≤d) (hf:∀ K B,B≤4500000→Q3 K B f c d) (hB:B≤4500000) (h:K≤n):Q3 K B (listF E o en (fun _=>f) n) 1 4 :=
 ((Q3.word ho).bind (c2:=0) (d2:=0) (g:=fun s1=>if (pk E s1.L).t=en then .ok { s1 with L:=s1.L.tail } else itemsF E en (fun _=>f) n s1) fun _ =>
  Q3.took hen (f:=.ok) (fun _=>Q3.ok) ((items_all hen hc hd hf n _ _ (by omega) (by omega)).low (by omega) (by omega)) (by omega) (by omega)).low (by omega) (by omega)
theorem list_expr (h:10 * K<n) (hB:B≤4500000) {o en:List UInt8}(ho:o≠[]) (hen:en≠[]):Q3 K B (listF E o en (fun m=>runJ E m .expr) n) 1 0:=fun s h1 h2=>by
 unfold sz4 at h2
 have h3:=runJ_fine E (n+1) (.list o en .expr) s ⟨ho,hen,rfl⟩ (by omega) (by show _+0<_;omega)
 have e:runJ E (n+1) (.list o en .expr) s=listF E o en (fun m=>runJ E m .expr) n s:=by
  show (wordF E o s).bind (fun s1=>if (pk E s1.L).t=en then .ok { s1 with L:=s1.L.tail } else runJ E n (.items en .expr) s1)=_
  rw [items_eq];rfl
 rw [e] at h3
 refine h3.mono fun s1 h=>?_
 obtain ⟨⟨a,b,c⟩,d⟩:=h
 exact ⟨a,by omega,c,d⟩
theorem Q3.values {m:Int}(h:10 * K<n) (hB:B≤4500000):Q3 K B (valuesF E m (fun m=>runJ E m .expr) n) 0 0:=fun s h1 h2=>by
 unfold valuesF
 by_cases hp:(pk E s.L).t=[61]
 ·rw [if_pos hp]
  have hn:s.L≠[]:=pk_pos (E:=E) (by rw [hp];simp)
  refine Fine.bind (Q3.tail (f:=listF E [123] [125] (fun m=>runJ E m .expr) n) (fun _=>list_expr (by omega) (by omega) (by simp) (by simp)) h1 h2 hn) fun s2 q=>?_
  show Fine (if _ then _ else _) _
  split
  ·trivial
  ·exact q.weak (by omega) (by omega)
 ·rw [if_neg hp];exact Part3.refl s
theorem Q3.array {x:Mn}(h:10 * K<n) (hB:B≤4500000):Q3 K B (arrayF E x (fun m=>runJ E m .expr) n) 1 1:=fun s h1 h2=>by
 unfold arrayF
 have hw:Q3 K B (wordF E [91]) 1 4:=Q3.word (by simp)
 refine Fine.bind (hw s h1 h2) fun s1 p=>?_
 have hl:=p.l
 have hs:=sz_le p h2
 by_cases hk:(pk E s1.L).k=2
 ·simp only [if_pos hk]
  by_cases hr:(pk E s1.L).v<1∨200<(pk E s1.L).v
  ·simp only [if_pos hr];trivial
  ·simp only [if_neg hr]
   have hn:s1.L≠[]:=pk_kpos (E:=E) (by rw [hk];simp)
   have hb:Q3 (s1.L.length-1) (B-4-4) (buildF { x with k:=2,n:=3,z:=((pk E s1.L).v:Int) } [wordF E [93],valuesF E (pk E s1.L).v (fun m=>runJ E m .expr) n,wordF E [59]]) 2 7 :=
    Q3.buildc (((Q3.word (by simp)).cons fun _=>(Q3.values (by omega) (by omega)).cons fun _=>(Q3.word (by simp)).cons fun _=>Q3.nil).low (by omega) (by omega)) (by omega)
   have hb2:=Q3.tail (fun _=>hb) (Nat.le_refl _) hs hn
   exact hb2.mono fun s2 q=>(p.trans q).weak (by omega) (by omega)
 ·simp only [if_neg hk];trivial
end small
def rankU:UJob→Nat
 | .compound=>5
 | .block=>5
 | .action=>6
 | .inSwitch=>7
 | .body=>7
 | .braces _=>8
 | .global=>5
 | .globals=>6
def cU:UJob→Nat
 | .globals=>0
 | _=>1
def dU:UJob→Int
 | .globals=>0
 | .braces _=>0
 | .body=>2
 | .global=>1
 | _=>3
theorem runU_fine (E:Nat):∀ n job K (B:Int),B≤4500000→10 * K+rankU job<n→Q3 K B (runU E n job) (cU job) (dU job):=by
 intro n
 induction n with
 | zero=>intro job K B _ h;omega
 | succ n ih =>
  intro job K B hB hf
  show Q3 K B (stepU E n (runU E n) job) _ _
  have ihs:∀ job,(c:Nat)→(d:Int)→cU job=c→dU job=d→∀ K (B:Int),B≤4500000→10 * K+rankU job<n→Q3 K B (runU E n job) c d:=fun job c d h1 h2 K B h3 h4=>by
   subst h1;subst h2;exact ih job K B h3 h4
  cases job with
  | braces sw =>
   change 10 * K+8<n+1 at hf
   have h1:Q3 K B (runU E n (itemU sw)) 1 3:=by
    cases sw
    ·exact ihs .action 1 3 rfl rfl K B hB (by show _+6<_;omega)
    ·exact ihs .inSwitch 1 3 rfl rfl K B hB (by show _+7<_;omega)
   refine Q3.took (by simp) (f:=.ok) (g:=fun s=>(runU E n (itemU sw) s).bind (runU E n (.braces sw))) (c:=0) (d:=0) (fun _=>Q3.ok) ?_ (by show 1≤_;omega) (by show (0:Int)≤_;omega)
   exact (h1.bind (c2:=1) (d2:=0) fun hK=>ihs (.braces sw) 1 0 rfl rfl _ _ (by omega) (by show _+8<_;omega)).low (by show 1≤_;omega) (by show (0:Int)≤_;omega)
  | block =>
   change 10 * K+5<n+1 at hf
   refine Q3.build (X:=fun s=>mk 11 [] 0 (pk E s.L).a) (fs:=[fun s=>(wordF E [123] s).bind (runU E n (.braces false))]) ?_ (by show B-3≤_;omega)
   have h1:Q3 K B (fun s=>(wordF E [123] s).bind (runU E n (.braces false))) (1+1) (4+0) :=
    (Q3.word (by simp)).bind fun _=>ihs (.braces false) 1 0 rfl rfl _ _ (by omega) (by show _+8<_;omega)
   exact (h1.cons fun _=>Q3.nil).low (by show 1≤_;omega) (by show (3:Int)+1≤_;omega)
  | body =>
   change 10 * K+7<n+1 at hf
   refine Q3.ite (p:=fun s=>(pk E s.L).t=[123]) (f:=runU E n .block) (g:=fun s=>buildF (mk 11 [] 0 (pk E s.L).a) [runU E n .action] s) ?_ ?_
   ·exact (ihs .block 1 3 rfl rfl K B hB (by show _+5<_;omega)).low (by show 1≤_;omega) (by show (2:Int)≤_;omega)
   ·refine Q3.build (X:=fun s=>mk 11 [] 0 (pk E s.L).a) ?_ (by show B-2≤_;omega)
    exact ((ihs .action 1 3 rfl rfl K B hB (by show _+6<_;omega)).cons fun _=>Q3.nil).low (by show 1≤_;omega) (by show (2:Int)+1≤_;omega)
  | action =>
   change 10 * K+6<n+1 at hf
   refine Q3.ite (p:=fun s=>(pk E s.L).t=[123]) (f:=runU E n .block) ((ihs .block 1 3 rfl rfl K B hB (by show _+5<_;omega))) ?_
   refine Q3.ite (p:=fun s=>(pk E s.L).t=[105,110,116]) (f:=seqF [localF E (runJ E n .expr),wordF E [59]]) ?_ ?_
   ·exact ((Q3.local (by omega) hB).cons fun _=>(Q3.word (by simp)).cons fun _=>Q3.nil).low (by show 1≤_;omega) (by show (3:Int)≤_;omega)
   refine Q3.ite (p:=fun s=>(pk E s.L).t=[105,102]∨(pk E s.L).t=[119,104,105,108,101]∨(pk E s.L).t=[100,111]∨(pk E s.L).t=[102,111,114]∨(pk E s.L).t=[115,119,105,116,99,104]) (f:=runU E n .compound) (ihs .compound 1 3 rfl rfl K B hB (by show _+5<_;omega)) ?_
   refine Q3.ite (p:=fun s=>(pk E s.L).t=[98,114,101,97,107]) (f:=fun s=>buildF (mk 21 [] 0 (pk E s.L).a) [wordF E [98,114,101,97,107],wordF E [59]] s) ?_ ?_
   ·exact Q3.build (X:=fun s=>mk 21 [] 0 (pk E s.L).a) (((Q3.word (by simp)).cons fun _=>(Q3.word (by simp)).cons fun _=>Q3.nil).low (by show 1≤_;omega) (by show (3:Int)+1≤_;omega)) (by show B-3≤_;omega)
   refine Q3.ite (p:=fun s=>(pk E s.L).t=[99,111,110,116,105,110,117,101]) (f:=fun s=>buildF (mk 22 [] 0 (pk E s.L).a) [wordF E [99,111,110,116,105,110,117,101],wordF E [59]] s) ?_ ?_
   ·exact Q3.build (X:=fun s=>mk 22 [] 0 (pk E s.L).a) (((Q3.word (by simp)).cons fun _=>(Q3.word (by simp)).cons fun _=>Q3.nil).low (by show 1≤_;omega) (by show (3:Int)+1≤_;omega)) (by show B-3≤_;omega)
   refine Q3.ite (p:=fun s=>(pk E s.L).t=[114,101,116,117,114,110]) (f:=fun s=>buildF (mk 23 [] 0 (pk E s.L).a) [wordF E [114,101,116,117,114,110],toldF E (runJ E n .expr),wordF E [59]] s) ?_ ?_
   ·exact Q3.build (X:=fun s=>mk 23 [] 0 (pk E s.L).a) (((Q3.word (by simp)).cons fun _=>(Q3.told (by omega) (by omega)).cons fun _=>(Q3.word (by simp)).cons fun _=>Q3.nil).low (by show 1≤_;omega) (by show (3:Int)+1≤_;omega)) (by show B-3≤_;omega)
   refine Q3.ite (p:=fun s=>(pk E s.L).t=[59]) (f:=seqF [nothingF E,wordF E [59]]) (g:=seqF [effectF E (runJ E n .expr),wordF E [59]]) ?_ ?_
   ·exact ((Q3.nothing (by omega)).cons fun _=>(Q3.word (by simp)).cons fun _=>Q3.nil).low (by show 1≤_;omega) (by show (3:Int)≤_;omega)
   ·exact ((Q3.effect (by omega) hB).cons fun _=>(Q3.word (by simp)).cons fun _=>Q3.nil).low (by show 1≤_;omega) (by show (3:Int)≤_;omega)
  | compound =>
   change 10 * K+5<n+1 at hf
   have hels:∀ K (B:Int),B≤4500000→10 * K<n+1→Q3 K B (fun s=>if (pk E s.L).t=[101,108,115,101] then runU E n .body { s with L:=s.L.tail } else .ok s) 0 0:=fun K B h1 h2 =>
    Q3.took (by simp) (f:=runU E n .body) (g:=.ok) (c:=1) (d:=2) (fun _=>ihs .body 1 2 rfl rfl _ _ (by omega) (by show _+7<_;omega)) Q3.ok (by omega) (by omega)
   have hbo:∀ K (B:Int),B≤4500000→10 * K+7<n→Q3 K B (runU E n .body) 1 2:=fun K B h1 h2=>ihs .body 1 2 rfl rfl K B h1 h2
   have key:∀ (t:List UInt8),t≠[]→∀ (X:S3→Mn) (fs:List F3) (g:F3),(1≤K→Q3 (K-1) (B-4) (seqF fs) 0 0)→Q3 K B g 1 3 →
     Q3 K B (fun s=>if (pk E s.L).t=t then buildF (X s) fs { s with L:=s.L.tail } else g s) 1 3:=fun t ht X fs g h1 h2 s q1 q2=>by
    show Fine (if (pk E s.L).t=t then _ else _) _
    by_cases hp:(pk E s.L).t=t
    ·rw [if_pos hp]
     have hn:s.L≠[]:=pk_pos (E:=E) (by rw [hp];exact ht)
     exact (Q3.tail (f:=buildF (X s) fs) (c:=0) (d:=-1) (fun hK=>Q3.buildc ((h1 hK).low (Nat.le_refl _) (by omega)) (by omega)) q1 q2 hn).mono fun s2 q=>q.weak (by omega) (by omega)
    ·rw [if_neg hp];exact h2 s q1 q2
   refine key [105,102] (by simp) (fun s=>mk 14 [] 0 (pk E s.L).a) [conditionF E (runJ E n .expr),runU E n .body,_] _ (fun hK=>?_) ?_
   ·exact ((Q3.condition (by omega) (by omega)).cons fun _=>(hbo _ _ (by omega) (by omega)).cons fun _=>(hels _ _ (by omega) (by omega)).cons fun _=>Q3.nil).low (by omega) (by omega)
   refine key [119,104,105,108,101] (by simp) (fun s=>mk 15 [] 0 (pk E s.L).a) [conditionF E (runJ E n .expr),runU E n .body] _ (fun hK=>?_) ?_
   ·exact ((Q3.condition (by omega) (by omega)).cons fun _=>(hbo _ _ (by omega) (by omega)).cons fun _=>Q3.nil).low (by omega) (by omega)
   refine key [100,111] (by simp) (fun s=>mk 16 [] 0 (pk E s.L).a) [runU E n .body,wordF E [119,104,105,108,101],conditionF E (runJ E n .expr),wordF E [59]] _ (fun hK=>?_) ?_
   ·exact ((hbo _ _ (by omega) (by omega)).cons fun _=>(Q3.word (by simp)).cons fun _=>(Q3.condition (by omega) (by omega)).cons fun _=>(Q3.word (by simp)).cons fun _=>Q3.nil).low (by omega) (by omega)
   refine key [102,111,114] (by simp) (fun s=>mk 17 [] 0 (pk E s.L).a) [wordF E [40],startF E (runJ E n .expr),wordF E [59],unlessF E [59] (runJ E n .expr),wordF E [59],unlessF E [41] (effectF E (runJ E n .expr)),wordF E [41],runU E n .body] _ (fun hK=>?_) ?_
   ·exact ((Q3.word (by simp)).cons fun _=>(Q3.start (by omega) (by omega)).cons fun _=>(Q3.word (by simp)).cons fun _=>(Q3.unless (Q3.expr (by omega) (by omega)) (by omega) (by omega)).cons fun _=>(Q3.word (by simp)).cons fun _=>(Q3.unless (Q3.effect (by omega) (by omega)) (by omega) (by omega)).cons fun _=>(Q3.word (by simp)).cons fun _=>(hbo _ _ (by omega) (by omega)).cons fun _=>Q3.nil).low (by omega) (by omega)
   have hsw:Q3 K B (buildF (mk 18 [] 0 0) [conditionF E (runJ E n .expr),fun s=>(wordF E [123] s).bind (runU E n (.braces true))]) 1 3→True:=fun _=>trivial
   intro s q1 q2
   have hb:Q3 K B (buildF (mk 18 [] 0 (pk E s.L).a) [conditionF E (runJ E n .expr),fun s=>(wordF E [123] s).bind (runU E n (.braces true))]) 1 3:=by
    refine Q3.buildc ?_ (by omega)
    refine ((Q3.condition (by omega) (by omega)).cons fun _=>Q3.cons (c1:=1+1) (d1:=4+0) ((Q3.word (by simp)).bind fun _=>ihs (.braces true) 1 0 rfl rfl _ _ (by omega) (by show _+8<_;omega)) fun _=>Q3.nil).low (by omega) (by omega)
   have h0:=tail_part0 s
   have h1:=h0.l
   exact (hb { s with L:=s.L.tail } (by omega) (Int.le_trans (sz_le h0 q2) (by omega))).mono fun s2 q=>(h0.trans q).weak (by omega) (by omega)
  | inSwitch =>
   change 10 * K+7<n+1 at hf
   refine Q3.ite (p:=fun s=>(pk E s.L).t=[99,97,115,101]) (f:=fun s=>buildF (mk 19 [] 0 (pk E s.L).a) [wordF E [99,97,115,101],runJ E n .expr,wordF E [58]] s) ?_ ?_
   ·exact Q3.build (X:=fun s=>mk 19 [] 0 (pk E s.L).a) (((Q3.word (by simp)).cons fun _=>(Q3.expr (by omega) (by omega)).cons fun _=>(Q3.word (by simp)).cons fun _=>Q3.nil).low (by show 1≤_;omega) (by show (3:Int)+1≤_;omega)) (by show B-3≤_;omega)
   refine Q3.ite (p:=fun s=>(pk E s.L).t=[100,101,102,97,117,108,116]) (f:=fun s=>buildF (mk 20 [] 0 (pk E s.L).a) [wordF E [100,101,102,97,117,108,116],wordF E [58]] s) (g:=runU E n .action) ?_ ?_
   ·exact Q3.build (X:=fun s=>mk 20 [] 0 (pk E s.L).a) (((Q3.word (by simp)).cons fun _=>(Q3.word (by simp)).cons fun _=>Q3.nil).low (by show 1≤_;omega) (by show (3:Int)+1≤_;omega)) (by show B-3≤_;omega)
   ·exact ihs .action 1 3 rfl rfl K B hB (by show _+6<_;omega)
  | global =>
   change 10 * K+5<n+1 at hf
   have hfn:∀ K (B:Int),B≤4500000→10 * K<n→∀ x:Mn,Q3 K B (buildF { x with k:=3 } [listF E [40] [41] (fun _=>paramF E) n,runU E n .block]) 2 6:=fun K B h1 h2 x=>by
    refine Q3.buildc ?_ (by omega)
    exact ((list_all (by simp) (by simp) (c:=2) (d:=7) (by omega) (by omega) (fun K B h=>Q3.param h) h1 (by omega)).cons fun _=>(ihs .block 1 3 rfl rfl _ _ (by omega) (by show _+5<_;omega)).cons fun _=>Q3.nil).low (by omega) (by omega)
   refine Q3.took (by simp) (t:=[118,111,105,100]) (f:=fun s=>(namedF E 0 s).bind fun s1 x=>buildF { x with k:=3 } [listF E [40] [41] (fun _=>paramF E) n,runU E n .block] s1) (g:=fun s=>(declF E s).bind fun s1 x =>
    if (pk E s1.L).t=[40] then buildF { x with k:=3 } [listF E [40] [41] (fun _=>paramF E) n,runU E n .block] s1
    else if (pk E s1.L).t=[91]∧x.n=1 then arrayF E x (fun m=>runJ E m .expr) n s1
    else buildF { x with k:=2 } [initialF E (runJ E n .expr),wordF E [59]] s1) (c:=1+2) (d:=4+6) (fun hK s q1 q2=>?_) ?_ (by show 1≤_;omega) (by show (1:Int)≤_;omega)
   ·refine FineD.bind (named_fine E 0 s) fun s1 x p=>?_
    have hl:=p.l
    exact (hfn (K-1-1) (B-4-4) (by omega) (by omega) x s1 (by omega) (sz_le p q2)).mono fun s2 q=>p.trans q
   ·refine (Q3.decl (c:=0) (d:=0) fun hK x=>?_).low (by show 1≤_;omega) (by show (1:Int)≤_;omega)
    refine Q3.ite (p:=fun s1=>(pk E s1.L).t=[40]) (f:=buildF { x with k:=3 } [listF E [40] [41] (fun _=>paramF E) n,runU E n .block]) ((hfn _ _ (by omega) (by omega) x).low (by omega) (by omega)) ?_
    refine Q3.ite (p:=fun s1=>(pk E s1.L).t=[91]∧x.n=1) (f:=arrayF E x (fun m=>runJ E m .expr) n) (g:=buildF { x with k:=2 } [initialF E (runJ E n .expr),wordF E [59]]) ((Q3.array (by omega) (by omega)).low (by omega) (by omega)) ?_
    refine Q3.buildc ?_ (by omega)
    exact ((Q3.initial (by omega) (by omega)).cons fun _=>(Q3.word (by simp)).cons fun _=>Q3.nil).low (by omega) (by omega)
  | globals =>
   change 10 * K+6<n+1 at hf
   refine Q3.ite (p:=fun s=>s.L=[]) (f:=.ok) (g:=fun s=>(runU E n .global s).bind (runU E n .globals)) Q3.ok ?_
   exact ((ihs .global 1 1 rfl rfl K B hB (by show _+5<_;omega)).bind (c2:=0) (d2:=0) fun hK=>ihs .globals 0 0 rfl rfl _ _ (by omega) (by show _+6<_;omega)).low (by show 0≤_;omega) (by show (0:Int)≤_;omega)
theorem unit_fine (E n:Nat) (L:List T4) (hL:L.length≤1100000) (hn:10 * L.length+6<n):Fine (unitF E n ⟨L,[],[]⟩) (fun s=>s.N.length≤4500000∧∃ x,s.N.getLast? = some x∧x.k=1):=by
 unfold unitF buildF extF
 have h:=runU_fine E n .globals L.length (4 * L.length) (by omega) hn ⟨L,[],[]⟩ (Nat.le_refl _) (by unfold sz4;simp)
 refine Fine.bind (seq_fine1 h) fun s1 p=>?_
 obtain ⟨a,b,g,l,o⟩:=p
 have b':(s1.N.length:Int)+4 * s1.L.length+0≤0+4 * L.length:=b
 refine (add_fine s1 (Nat.zero_le _) (by omega)).mono fun s2 h=>?_
 subst h
 refine ⟨?_,⟨{ mk 1 [] 0 0 with c:=s1.O.drop 0 },?_,rfl⟩⟩
 ·show (s1.N ++ _).length≤_;simp;omega
 ·show (s1.N ++ _).getLast? = _;simp
end
section
namespace Tk
open Go.RowKit
theorem next_let (s:ByteArray) (w:World) (hs:s.size≤140737488355328) (h0:0<s.size) (hd:digB s[0]=false) (hl0:letB s[0]=true) (r:Tk) (hr:r=wrdT (s.data.toList.take (preN wordB s.data.toList))) :
  Calls Tryz.prog 66 #[.string s] w (NxPost r s.data.toList w):=by
 have hsz:=Lib.hid (Lib.size_eq s)
 have hL:=fun w=>rlet_any s[0] w
 have hD:=fun w=>rdig_any s[0] w
 rw [hl0] at hL
 rw [hd] at hD
 obtain ⟨n,hn⟩:=exE (preN wordB s.data.toList)
 rw [← hn] at hr
 have hn1:1≤n:=by
  rw [hn]
  have hg:=getD_idx s 0 h0
  cases e:s.data.toList with
  | nil=>rw [(nil_iff s).1 e] at h0;omega
  | cons c l=>rw [e] at hg;exact preN_pos (let_word.1 (Or.inl (by rw [← hg] at hl0;exact hl0)))
 have hnl:n≤s.data.toList.length:=by rw [hn];exact preN_le _ _
 have hns:n≤s.size:=by rw [Lib.size_eq];exact hnl
 have hxs:(s.extract 0 n).size=n:=by rw [Lib.size_eq,ext0_data,List.length_take,Nat.min_eq_left hnl]
 have hK:=fun w=>rKey_any (s.extract 0 n) w
 have hx0:(s.extract 0 n)[0]'(by omega)=s[0]:=by
  rw [← getD_idx _ 0 (by omega),← getD_idx s 0 h0,ext0_data]
  simp only [List.getD]
  rw [List.getElem?_take_of_lt (by omega)]
 have hM:=fun w=>rName_any (s.extract 0 n) w (by omega) (by omega) (by rw [hx0];exact hd) (by rw [ext0_data,hn];exact preN_take_all _ _)
 rw [hxs] at hM
 rw [ext0_data] at hK
 have hr:r=if keyB (s.data.toList.take n)=true then .tok 3 n 0 else if 12<n then .bad 12 else .tok 1 n 0:=by
  rw [hr];unfold wrdT;rw [List.length_take,Nat.min_eq_left hnl]
 clear hnl hd hl0 hx0 hxs
 have Hn:=Lib.hid hn
 clear hn
 go_enter Tryz.func66,Tryz.ntmps66
 go_wp2_with (first | (go_at_call 113;refine (hL _).mono ?_;rintro e w' ⟨rfl,rfl⟩) | (go_at_call 114;refine (hD _).mono ?_;rintro e w' ⟨rfl,rfl⟩))
 go_loop [5] (fun i=>∃ k:Nat,k≤s.size∧i=.int .i64 k∧Hid (n=k+preN wordB (s.data.toList.drop k))) (fun i=>s.size-(intOf i).toNat)
 case atStart=>exact ⟨0,Nat.zero_le _,rfl,by have:=Hn.out;simpa [Hid] using this⟩
 case round =>
  obtain ⟨k,hk,rfl,HK⟩:=hrel
  by_cases hst:k<s.size∧wordB (s.data.toList.getD k 0)=true
  ·obtain ⟨hlt,hw⟩:=hst
   have hl:k<s.data.toList.length:=by have:=hsz.out;omega
   rw [getD_idx s k hlt] at hw
   have hLk:=fun w=>rlet_any s[k] w
   have hDk:=fun w=>rdig_any s[k] w
   have HN:Hid (n=(k+1:Nat)+preN wordB (s.data.toList.drop (k+1))):=pre_step HK.out hl hw
   cases hlet:letB s[k] with
   | true =>
    rw [hlet] at hLk
    clear HK hw hlet
    go_wp2_with (go_at_call 113;refine (hLk _).mono ?_;rintro e w' ⟨rfl,rfl⟩)
    go_round
    case rel=>exact ⟨k+1,by omega,by go_num,HN⟩
    case measure=>simp [intOf];omega
   | false =>
    have hdk:digB s[k]=true:=(let_word.2 hw).resolve_left (by simp [hlet])
    rw [hlet] at hLk
    rw [hdk] at hDk
    clear HK hw hlet hdk
    go_wp2_with (first | (go_at_call 113;refine (hLk _).mono ?_;rintro e w' ⟨rfl,rfl⟩) | (go_at_call 114;refine (hDk _).mono ?_;rintro e w' ⟨rfl,rfl⟩))
    go_round
    case rel=>exact ⟨k+1,by omega,by go_num,HN⟩
    case measure=>simp [intOf];omega
  ·have hkn:n=k:=by
    by_cases hlt:k<s.size
    ·have hw:wordB (s.data.toList.getD k 0)=false:=by cases h:wordB (s.data.toList.getD k 0) with | false=>rfl | true=>exact absurd ⟨hlt,h⟩ hst
     rw [getD_idx s k hlt] at hw
     exact pre_stop HK.out (by have:=hsz.out;omega) hw
    ·exact pre_end HK.out (by have:=hsz.out;omega)
   have hx:¬ n<s.size∨∃ h:n<s.size,letB s[n]=false∧digB s[n]=false:=by
    subst hkn
    by_cases hlt:n<s.size
    ·have hw:wordB (s.data.toList.getD n 0)=false:=by cases h:wordB (s.data.toList.getD n 0) with | false=>rfl | true=>exact absurd ⟨hlt,h⟩ hst
     rw [getD_idx s n hlt] at hw
     exact Or.inr ⟨hlt,not_word hw⟩
    ·exact Or.inl hlt
   subst hkn
   clear hst HK
   have hx:(¬ n<s.size∧True)∨(∃ h:n<s.size,(∀ w,Calls Tryz.prog 113 #[.int .u8 s[n].toNat] w fun e w'=>e=.returned (.bool false)∧w=w')∧(∀ w,Calls Tryz.prog 114 #[.int .u8 s[n].toNat] w fun e w'=>e=.returned (.bool false)∧w=w')):=by
    rcases hx with hx | ⟨hx,hx1,hx2⟩
    ·exact Or.inl ⟨hx,trivial⟩
    ·have a:=fun w=>rlet_any s[n] w
     have b:=fun w=>rdig_any s[n] w
     rw [hx1] at a
     rw [hx2] at b
     exact Or.inr ⟨hx,a,b⟩
   cases hq:keyB (s.data.toList.take n) with
   | true =>
    rw [hq,if_pos rfl] at hr
    rw [hq] at hK
    have HR:=Lib.hid hr
    clear hr hq
    rcases hx with ⟨hx,_⟩ | ⟨hx,hLn,hDn⟩
    all_goals
     go_wp2_with (first | (go_at_call 113;((with_reducible refine (hL _).mono ?_);rintro e w' ⟨rfl,rfl⟩)) | (go_at_call 113;((with_reducible refine (hLn _).mono ?_);rintro e w' ⟨rfl,rfl⟩)) | (go_at_call 114;((with_reducible refine (hD _).mono ?_);rintro e w' ⟨rfl,rfl⟩)) | (go_at_call 114;((with_reducible refine (hDn _).mono ?_);rintro e w' ⟨rfl,rfl⟩)) | (go_at_call 116;refine (hK _).mono ?_;rintro e w2 ⟨rfl,hb⟩;obtain ⟨hc,hf⟩:=bcell hb;have hsz2:=hb.size;simp at hsz2) | (go_at_call 93;refine (hM _).mono ?_;rintro e w' ⟨rfl,rfl⟩))
     exact bodyPost_ret (v:=.tuple #[.agg #[.int .i64 3,.string (s.extract 0 n),.int .i64 0,.int .i64 0],.int .i64 n,.int .i64 0]) (by simp [results,Tryz.results66,go_sem,hc]) rfl (nx_tok HR (ext0 s n) (below_set4 (below_call hb) _ _ _ _))
   | false =>
    rw [hq,if_neg (by decide)] at hr
    rw [hq] at hK
    clear hq
    by_cases h12:12<n
    ·rw [if_pos h12] at hr
     have e12:decide (n≤12)=false:=decide_eq_false (by omega)
     rw [e12] at hM
     have HR:=Lib.hid hr
     clear hr h12 e12
     rcases hx with ⟨hx,_⟩ | ⟨hx,hLn,hDn⟩
     all_goals
      go_wp2_with (first | (go_at_call 113;((with_reducible refine (hL _).mono ?_);rintro e w' ⟨rfl,rfl⟩)) | (go_at_call 113;((with_reducible refine (hLn _).mono ?_);rintro e w' ⟨rfl,rfl⟩)) | (go_at_call 114;((with_reducible refine (hD _).mono ?_);rintro e w' ⟨rfl,rfl⟩)) | (go_at_call 114;((with_reducible refine (hDn _).mono ?_);rintro e w' ⟨rfl,rfl⟩)) | (go_at_call 116;refine (hK _).mono ?_;rintro e w2 ⟨rfl,hb⟩;obtain ⟨hc,hf⟩:=bcell hb;have hsz2:=hb.size;simp at hsz2) | (go_at_call 93;refine (hM _).mono ?_;rintro e w' ⟨rfl,rfl⟩))
      exact bodyPost_ret (v:=.tuple #[.agg #[.int .i64 0,.string ⟨#[]⟩,.int .i64 0,.int .i64 0],.int .i64 0,.int .i64 12]) (by simp [results,Tryz.results66,go_sem,hc]) rfl (nx_bad HR (by decide) (Or.inr ⟨by decide,rfl⟩) (below_set4 (below_call hb) _ _ _ _))
    ·rw [if_neg h12] at hr
     have e12:decide (n≤12)=true:=decide_eq_true (by omega)
     rw [e12] at hM
     have HR:=Lib.hid hr
     clear hr h12 e12
     rcases hx with ⟨hx,_⟩ | ⟨hx,hLn,hDn⟩
     all_goals
      go_wp2_with (first | (go_at_call 113;((with_reducible refine (hL _).mono ?_);rintro e w' ⟨rfl,rfl⟩)) | (go_at_call 113;((with_reducible refine (hLn _).mono ?_);rintro e w' ⟨rfl,rfl⟩)) | (go_at_call 114;((with_reducible refine (hD _).mono ?_);rintro e w' ⟨rfl,rfl⟩)) | (go_at_call 114;((with_reducible refine (hDn _).mono ?_);rintro e w' ⟨rfl,rfl⟩)) | (go_at_call 116;refine (hK _).mono ?_;rintro e w2 ⟨rfl,hb⟩;obtain ⟨hc,hf⟩:=bcell hb;have hsz2:=hb.size;simp at hsz2) | (go_at_call 93;refine (hM _).mono ?_;rintro e w' ⟨rfl,rfl⟩))
      exact bodyPost_ret (v:=.tuple #[.agg #[.int .i64 1,.string (s.extract 0 n),.int .i64 0,.int .i64 0],.int .i64 n,.int .i64 0]) (by simp [results,Tryz.results66,go_sem,hc]) rfl (nx_tok HR (ext0 s n) (below_set4 (below_call hb) _ _ _ _))
end Tk
end
section
namespace Tk
open Go.RowKit
theorem next_quo (s:ByteArray) (w:World) (hs:s.size≤140737488355328) (h0:0<s.size) (hd:digB s[0]=false) (hl0:letB s[0]=false) (h39:s[0]=39) (r:Tk) (hr:r=chrT s.data.toList) :
  Calls Tryz.prog 66 #[.string s] w (NxPost r s.data.toList w):=by
 have hL:=fun w=>rlet_any s[0] w
 have hD:=fun w=>rdig_any s[0] w
 rw [hl0] at hL
 rw [hd] at hD
 have e39:((s[0].toNat:Int) == 39)=true:=beq_of (by rw [h39];rfl)
 have hQ:=fun w=>quo_any s w hs
 rw [← hr] at hQ
 have hcs:=chrT_cases s.data.toList
 rw [← hr] at hcs
 have hsz:=Lib.hid (Lib.size_eq s)
 clear hr hd hl0 h39
 rcases hcs with hq | ⟨hl,v,hq⟩ | ⟨hl,v,hq⟩
 ·have HR:=Lib.hid hq
  rw [hq] at hQ
  clear hq
  go_enter Tryz.func66,Tryz.ntmps66
  go_wp2_with (first | (go_at_call 113;refine (hL _).mono ?_;rintro e w' ⟨rfl,rfl⟩) | (go_at_call 114;refine (hD _).mono ?_;rintro e w' ⟨rfl,rfl⟩) | (go_at_call 117;refine (hQ _).mono ?_;rintro e w' ⟨rfl,rfl⟩;simp only [tkN,tkL]))
  exact bodyPost_ret (v:=.tuple #[.agg #[.int .i64 0,.string ⟨#[]⟩,.int .i64 0,.int .i64 0],.int .i64 0,.int .i64 1]) (by simp [results,Tryz.results66,go_sem]) rfl (nx_bad HR (by decide) (Or.inr ⟨by decide,rfl⟩) ((Below.refl _ _).alloc (Nat.le_refl _) _))
 ·have HR:=Lib.hid hq
  rw [hq] at hQ
  have hl4:4≤s.size:=by have:=hsz.out;omega
  clear hq
  go_enter Tryz.func66,Tryz.ntmps66
  go_wp2_with (first | (go_at_call 113;refine (hL _).mono ?_;rintro e w' ⟨rfl,rfl⟩) | (go_at_call 114;refine (hD _).mono ?_;rintro e w' ⟨rfl,rfl⟩) | (go_at_call 117;refine (hQ _).mono ?_;rintro e w' ⟨rfl,rfl⟩;simp only [tkN,tkL]))
  exact bodyPost_ret (v:=.tuple #[.agg #[.int .i64 2,.string (s.extract 0 4),.int .i64 v,.int .i64 0],.int .i64 4,.int .i64 0]) (by simp [results,Tryz.results66,go_sem]) rfl (nx_tok HR (ext0 s 4) ((Below.refl _ _).alloc (Nat.le_refl _) _))
 ·have HR:=Lib.hid hq
  rw [hq] at hQ
  have hl4:3≤s.size:=by have:=hsz.out;omega
  clear hq
  go_enter Tryz.func66,Tryz.ntmps66
  go_wp2_with (first | (go_at_call 113;refine (hL _).mono ?_;rintro e w' ⟨rfl,rfl⟩) | (go_at_call 114;refine (hD _).mono ?_;rintro e w' ⟨rfl,rfl⟩) | (go_at_call 117;refine (hQ _).mono ?_;rintro e w' ⟨rfl,rfl⟩;simp only [tkN,tkL]))
  exact bodyPost_ret (v:=.tuple #[.agg #[.int .i64 2,.string (s.extract 0 3),.int .i64 v,.int .i64 0],.int .i64 3,.int .i64 0]) (by simp [results,Tryz.results66,go_sem]) rfl (nx_tok HR (ext0 s 3) ((Below.refl _ _).alloc (Nat.le_refl _) _))
theorem tok_block {w w2:World}(hb:Below (w.alloc (.cells #[.int .i64 0,.string ⟨#[]⟩,.int .i64 0,.int .i64 0] 82)).heap.size (w.alloc (.cells #[.int .i64 0,.string ⟨#[]⟩,.int .i64 0,.int .i64 0] 82)) w2) :
  w2.frozen? ⟨w.heap.size,0,none⟩=false∧w2.frozen? ⟨w.heap.size,1,none⟩=false∧w2.frozen? ⟨w.heap.size,2,none⟩=false∧w2.frozen? ⟨w.heap.size,3,none⟩=false ∧
  w2.cell? ⟨w.heap.size,0,none⟩=some (.int .i64 0)∧w2.cell? ⟨w.heap.size,1,none⟩=some (.string ⟨#[]⟩)∧w2.cell? ⟨w.heap.size,2,none⟩=some (.int .i64 0)∧w2.cell? ⟨w.heap.size,3,none⟩=some (.int .i64 0):=by
 have h:w2.heap[w.heap.size]? = some (.cells #[.int .i64 0,.string ⟨#[]⟩,.int .i64 0,.int .i64 0] 82 (0,0)):=by
  rw [hb.block w.heap.size (by simp)];exact heap_alloc_new w _
 refine ⟨?_,?_,?_,?_,?_,?_,?_,?_⟩ <;> simp [World.cell?,World.frozen?,h]
theorem sgnF_cap (l:List UInt8) (k:Nat):k≤l.length→sgnF l (min (k+1) l.length)=if k+1≤l.length∧signB (l.take (k+1))=true then .tok 4 (k+1) 0 else sgnF l (min k l.length):=by
 intro hk
 by_cases h:k+1≤l.length
 ·rw [Nat.min_eq_left h,Nat.min_eq_left hk]
  show (if _ then _ else _)=_
  by_cases hs:signB (l.take (k+1))=true
  ·rw [if_pos hs,if_pos ⟨h,hs⟩]
  ·rw [if_neg hs,if_neg fun h=>hs h.2]
 ·rw [if_neg fun h2=>h h2.1,Nat.min_eq_right (by omega),Nat.min_eq_right (by omega)]
theorem sgnF_step (l:List UInt8) (k:Nat):sgnF l (min (k+1) l.length)=if k+1≤l.length∧signB (l.take (k+1))=true then .tok 4 (k+1) 0 else sgnF l (min k l.length):=by
 by_cases hk:k≤l.length
 ·exact sgnF_cap l k hk
 ·rw [if_neg fun h2=>hk (by omega),Nat.min_eq_right (by omega),Nat.min_eq_right (by omega)]
theorem next_sgn (s:ByteArray) (w:World) (_hs:s.size≤140737488355328) (h0:0<s.size) (hd:digB s[0]=false) (hl0:letB s[0]=false) (h39:s[0]≠39) (r:Tk) (hr:r=sgnT s.data.toList) :
  Calls Tryz.prog 66 #[.string s] w (NxPost r s.data.toList w):=by
 have hL:=fun w=>rlet_any s[0] w
 have hD:=fun w=>rdig_any s[0] w
 rw [hl0] at hL
 rw [hd] at hD
 have e39:((s[0].toNat:Int) == 39)=false:=u8_ne h39
 have hsz:=Lib.hid (Lib.size_eq s)
 have HR:=Lib.hid hr
 clear hr hd hl0 h39
 go_enter Tryz.func66,Tryz.ntmps66
 go_wp2_with (first | (go_at_call 113;refine (hL _).mono ?_;rintro e w' ⟨rfl,rfl⟩) | (go_at_call 114;refine (hD _).mono ?_;rintro e w' ⟨rfl,rfl⟩))
 go_loopw [11] (fun v wr=>∃ k:Nat,k≤3∧v=.int .i64 k∧Hid (r=sgnF s.data.toList (min k s.data.toList.length))∧Below (w.alloc (.cells #[.int .i64 0,.string ⟨#[]⟩,.int .i64 0,.int .i64 0] 82)).heap.size (w.alloc (.cells #[.int .i64 0,.string ⟨#[]⟩,.int .i64 0,.int .i64 0] 82)) wr) (fun v _=>(intOf v).toNat)
 case atStart=>exact ⟨3,by omega,rfl,HR.out,Below.refl _ _⟩
 case round =>
  obtain ⟨k,hk3,rfl,HK,hb⟩:=hrel
  obtain ⟨hc,hf⟩:=bcell hb
  have hz:=hb.size
  simp at hz
  have HB:=Lib.hid hb
  clear hb
  cases k with
  | zero =>
   have HB2:Hid (r=.bad 1):=HK.out.trans (by rw [Nat.zero_min];rfl)
   go_wp2
   exact bodyPost_ret (v:=.tuple #[.agg #[.int .i64 0,.string ⟨#[]⟩,.int .i64 0,.int .i64 0],.int .i64 0,.int .i64 1]) (by simp [results,Tryz.results66,go_sem,hc]) rfl (nx_bad HB2 (by decide) (Or.inr ⟨by decide,rfl⟩) (below_set4 (below_call HB.out) _ _ _ _))
  | succ n =>
   have hstep:=HK.out.trans (sgnF_step s.data.toList n)
   by_cases hl:n+1≤s.size
   ·have hl2:n+1≤s.data.toList.length:=by have:=hsz.out;omega
    have hS:=fun w=>rSign_any (s.extract 0 (n+1)) w
    rw [ext0_data] at hS
    cases hq:signB (s.data.toList.take (n+1)) with
    | true =>
     rw [if_pos ⟨hl2,hq⟩] at hstep
     have HR2:=Lib.hid hstep
     rw [hq] at hS
     clear hstep HK hq hl2
     go_wp2_with (go_at_call 118;refine (hS _).mono ?_)
     rintro e w3 ⟨rfl,hb3⟩
     have hb4:=HB.out.trans (hb3.mono (by have:=HB.out.size;exact this))
     obtain ⟨f0,f1,f2,f3,c0,c1,c2,c3⟩:=tok_block hb4
     have hz3:=hb4.size
     simp at hz3
     clear hc hf hb3
     go_wp2
     exact bodyPost_ret (v:=.tuple #[.agg #[.int .i64 4,.string (s.extract 0 (n+1)),.int .i64 0,.int .i64 0],.int .i64 ((n:Int)+1),.int .i64 0]) (by simp [results,Tryz.results66,go_sem,c0,c1,c2,c3]) rfl (nx_tok HR2 (ext0 s (n+1)) (below_set4 (below_call hb4) _ _ _ _))
    | false =>
     rw [if_neg (by rw [hq];exact fun h=>by cases h.2)] at hstep
     have HR2:=Lib.hid hstep
     rw [hq] at hS
     clear hstep HK hq hl2
     go_wp2_with (go_at_call 118;refine (hS _).mono ?_)
     rintro e w3 ⟨rfl,hb3⟩
     have hb4:=HB.out.trans (hb3.mono (by have:=HB.out.size;exact this))
     clear hc hf hb3
     go_wp2
     go_roundw
     case rel=>exact ⟨n,by omega,by go_num,HR2,hb4⟩
     case measure=>simp [intOf]
   ·rw [if_neg (by have:=hsz.out;omega)] at hstep
    have HR2:=Lib.hid hstep
    clear hstep HK
    go_wp2
    go_roundw
    case rel=>exact ⟨n,by omega,by go_num,HR2,HB.out⟩
    case measure=>simp [intOf]
theorem next_any (s:ByteArray) (w:World) (hs:s.size≤140737488355328) (h0:0<s.size) :
  Calls Tryz.prog 66 #[.string s] w (NxPost (fstT s.data.toList) s.data.toList w):=by
 obtain ⟨c,l,hL⟩ : ∃ c l,s.data.toList=c :: l:=by
  cases e:s.data.toList with
  | nil=>have:=(nil_iff s).1 e;omega
  | cons c l=>exact ⟨c,l,rfl⟩
 have hc0:s[0]=c:=by have:=getD_idx s 0 h0;rw [hL] at this;exact this.symm
 have hW:fstT s.data.toList=if digB c=true then numT (s.data.toList.take (preN wordB s.data.toList)) else if wordB c=true then wrdT (s.data.toList.take (preN wordB s.data.toList)) else if c=39 then chrT s.data.toList else sgnT s.data.toList:=by
  rw [hL];rfl
 rw [← hc0] at hW
 cases h1:digB s[0] with
 | true=>rw [h1,if_pos rfl] at hW;exact next_dig s w hs h0 h1 _ hW
 | false =>
  rw [h1,if_neg (by decide)] at hW
  cases h2:wordB s[0] with
  | true =>
   rw [h2,if_pos rfl] at hW
   exact next_let s w hs h0 h1 ((let_word.2 h2).resolve_right (by simp [h1])) _ hW
  | false =>
   rw [h2,if_neg (by decide)] at hW
   have h3:=(not_word h2).1
   by_cases h39:s[0]=39
   ·rw [if_pos h39] at hW;exact next_quo s w hs h0 h1 h3 h39 _ hW
   ·rw [if_neg h39] at hW;exact next_sgn s w hs h0 h1 h3 h39 _ hW
end Tk
end
section
namespace Tk
open Go.RowKit
theorem fault_any (c a:Int) (w:World) :
  Calls Tryz.prog 47 #[.int .i64 c,.int .i64 a] w fun e w'=>e=.returned (.agg #[.int .i64 c,.int .i64 a])∧w' = w.alloc (.cells #[.int .i64 c,.int .i64 a] 26):=by
 go_enter Tryz.func47,Tryz.ntmps47
 go_wp2
 exact bodyPost_ret (v:=.agg #[.int .i64 c,.int .i64 a]) (by simp [results,Tryz.results47,go_sem]) rfl ⟨rfl,rfl⟩
theorem pre2_iff {l:List UInt8}{k:Nat}(hk:k<l.length) (x y:UInt8):Lib.hasPrefix (l.drop k) [x,y]=true ↔ l[k]=x∧∃ h:k+1<l.length,l[k+1]=y:=by
 rw [List.drop_eq_getElem_cons hk]
 by_cases h1:k+1<l.length
 ·rw [List.drop_eq_getElem_cons h1]
  show ((x == l[k]) && ((y == l[k+1]) && true))=true ↔ _
  simp only [Bool.and_true,Bool.and_eq_true,beq_iff_eq]
  exact ⟨fun ⟨a,b⟩=>⟨a.symm,h1,b.symm⟩,fun ⟨a,_,b⟩=>⟨a.symm,b.symm⟩⟩
 ·rw [List.drop_eq_nil_of_le (by omega)]
  simp [Lib.hasPrefix,h1]
theorem skp_line {l:List UInt8}{k:Nat}(hk:k<l.length) (h0:blankB l[k]=false) (h:Lib.hasPrefix (l.drop k) [47,47]=true):skp (l.drop k)=.skip (preN nlB (l.drop k))∧1≤preN nlB (l.drop k):=by
 have hc:cmtT (l.drop k)=((preN nlB (l.drop k):Int),false):=if_pos h
 have h1:=(pre2_iff hk 47 47).1 h
 have hp:1≤preN nlB (l.drop k):=by
  rw [List.drop_eq_getElem_cons hk]
  exact preN_pos (by rw [h1.1];decide)
 refine ⟨?_,hp⟩
 have e:=List.drop_eq_getElem_cons hk
 have h2:(cmtT (l[k] :: l.drop (k+1))).2=false:=by rw [← e,hc]
 have h3:(cmtT (l[k] :: l.drop (k+1))).1≠0:=by rw [← e,hc];show ((preN nlB (l.drop k):Nat):Int)≠0;omega
 have h4:=skp_more h0 h2 h3
 rw [← e,hc] at h4
 simpa using h4
theorem skp_block {l:List UInt8}{k:Nat}(hk:k<l.length) (h0:blankB l[k]=false) (h:Lib.hasPrefix (l.drop k) [47,42]=true) :
  (Lib.index (l.drop (k+2)) [42,47] < 0→skp (l.drop k)=.opens)∧(∀ i:Nat,Lib.index (l.drop (k+2)) [42,47]=i→skp (l.drop k)=.skip (i+4)):=by
 have h1:=(pre2_iff hk 47 42).1 h
 have hnl:Lib.hasPrefix (l.drop k) [47,47]=false:=by
  cases e:Lib.hasPrefix (l.drop k) [47,47] with
  | false=>rfl
  | true =>
   obtain ⟨_,h5⟩:=h1
   obtain ⟨_,h6⟩:=(pre2_iff hk 47 47).1 e
   obtain ⟨a,b⟩:=h5
   obtain ⟨_,d⟩:=h6
   rw [b] at d
   exact absurd d (by decide)
 have e:=List.drop_eq_getElem_cons hk
 have hdd:(l.drop k).drop 2=l.drop (k+2):=by rw [List.drop_drop]
 constructor
 ·intro hi
  have hc:cmtT (l.drop k)=(0,true):=by unfold cmtT;rw [if_neg (by simp [hnl]),if_neg (by simp [h]),hdd,if_pos hi]
  have h4:=skp_open (c:=l[k]) (l:=l.drop (k+1)) h0 (by rw [← e,hc])
  rw [← e] at h4
  exact h4
 ·intro i hi
  have hc:cmtT (l.drop k)=((i:Int)+4,false):=by unfold cmtT;rw [if_neg (by simp [hnl]),if_neg (by simp [h]),hdd,if_neg (by omega),hi]
  have h4:=skp_more (c:=l[k]) (l:=l.drop (k+1)) h0 (by rw [← e,hc]) (by rw [← e,hc];show (i:Int)+4≠0;omega)
  rw [← e,hc] at h4
  rw [h4]
  congr 1
theorem skp_none {l:List UInt8}{k:Nat}(hk:k<l.length) (h0:blankB l[k]=false) (h1:Lib.hasPrefix (l.drop k) [47,47]=false) (h2:Lib.hasPrefix (l.drop k) [47,42]=false):skp (l.drop k)=.word:=by
 have e:=List.drop_eq_getElem_cons hk
 have hc:cmtT (l.drop k)=(0,false):=by unfold cmtT;rw [if_neg (by simp [h1]),if_pos h2]
 have h4:=skp_word (c:=l[k]) (l:=l.drop (k+1)) h0 (by rw [← e,hc]) (by rw [← e,hc])
 rw [← e] at h4
 exact h4
theorem occ2 {l:List UInt8}{j:Nat}:Lib.occAt l [42,47] j=true ↔ l[j]? = some 42∧l[j+1]? = some 47:=by
 unfold Lib.occAt
 by_cases h:j<l.length
 ·rw [List.drop_eq_getElem_cons h]
  by_cases h1:j+1<l.length
  ·rw [List.drop_eq_getElem_cons h1]
   rw [List.getElem?_eq_getElem h,List.getElem?_eq_getElem h1]
   show ((42 == l[j]) && ((47 == l[j+1]) && true))=true ↔ _
   simp only [Bool.and_true,Bool.and_eq_true,beq_iff_eq,Option.some.injEq]
   exact ⟨fun ⟨a,b⟩=>⟨a.symm,b.symm⟩,fun ⟨a,b⟩=>⟨a.symm,b.symm⟩⟩
  ·rw [List.drop_eq_nil_of_le (by omega)]
   simp [List.getElem?_eq_none (show l.length≤j+1 by omega)]
 ·rw [List.drop_eq_nil_of_le (by omega)]
  simp [List.getElem?_eq_none (show l.length≤j by omega)]
def NoEnd (l:List UInt8) (i:Nat):Prop:=∀ j,j<i→Lib.occAt l [42,47] j=false
theorem noEnd_zero (l:List UInt8):NoEnd l 0:=fun j h=>by omega
theorem noEnd_succ {l:List UInt8}{i:Nat}(h:NoEnd l i) (hn:¬ (l[i]? = some 42∧l[i+1]? = some 47)):NoEnd l (i+1):=fun j hj=>by
 by_cases e:j=i
 ·subst e
  cases ho:Lib.occAt l [42,47] j with
  | false=>rfl
  | true=>exact absurd (occ2.1 ho) hn
 ·exact h j (by omega)
theorem noEnd_hit {l:List UInt8}{i:Nat}(h:NoEnd l i) (h1:l[i]? = some 42) (h2:l[i+1]? = some 47):Lib.index l [42,47]=i:=by
 have hl:i<l.length:=(List.getElem?_eq_some_iff.1 h1).1
 exact Lib.index_first (by omega) (occ2.2 ⟨h1,h2⟩) h
theorem noEnd_none {l:List UInt8}{i:Nat}(h:NoEnd l i) (hl:l.length≤i+1):Lib.index l [42,47] < 0:=by
 have:Lib.index l [42,47] = -1:=Lib.index_none fun j _=>by
  by_cases e:j<i
  ·exact h j e
  ·cases ho:Lib.occAt l [42,47] j with
   | false=>rfl
   | true =>
    have:=(List.getElem?_eq_some_iff.1 (occ2.1 ho).2).1
    omega
 omega
structure RInv (s:ByteArray) (w:World) (B:Nat) (v:Value) (wr:World) (k:Nat) (acc:List T4):Prop where
 kle:k≤s.size
 res:wr.heap[B]? = some (.cells #[.int .i64 0,.int .i64 0] 26 (0,0))
 own:wr.ownsRow (B+1) 82 4 v acc.length (rowOf acc)
 below:Below B w wr
 few:acc.length≤800
 rest:∀ r,Scans k (s.data.toList.drop k) acc r→Scans 0 s.data.toList [] r
theorem rInv_len {s:ByteArray}{w:World}{B:Nat}{v:Value}{wr:World}{k:Nat}{acc:List T4}(h:RInv s w B v wr k acc):∃ p cap,v=.slice p acc.length cap∧acc.length≤800:=by
 rcases h.own.2 with ⟨rfl,h0⟩ | ⟨g,cap,cur,hv,_⟩
 ·rw [h0];exact ⟨none,0,rfl,by omega⟩
 ·exact ⟨_,_,hv,h.few⟩
theorem rInv_skip {s:ByteArray}{w:World}{B:Nat}{v:Value}{wr:World}{k n:Nat}{acc:List T4}(h:RInv s w B v wr k acc) (hs:skp (s.data.toList.drop k)=.skip n) (hn:k+n≤s.size):RInv s w B v wr (k+n) acc :=
 {h with kle:=hn,rest:=fun r hr=>h.rest r (.skip hs (by rw [List.drop_drop];exact hr)) }
end Tk
end
end Go.Proofs.YtbjacclfhgnffaaGreatDoor
