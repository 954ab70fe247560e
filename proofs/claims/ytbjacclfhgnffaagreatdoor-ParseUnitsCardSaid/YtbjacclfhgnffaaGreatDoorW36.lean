/-
  Joined texts of this claim: Kh.
-/
import Derived.Test.YtbjacclfhgnffaaGreatDoorW00
import Derived.Test.YtbjacclfhgnffaaGreatDoorW21
set_option maxHeartbeats 40000000
set_option maxRecDepth 100000
set_option linter.unusedVariables false
set_option linter.unusedSimpArgs false
namespace Go.Proofs.YtbjacclfhgnffaaGreatDoor
section
open Tk (T4)
theorem blk_sim {E n:Nat}(m:Nat) (s:S3) (a0 t0:Int) (hm:4 * n+6≤m) (hs:HS s) (hp:pot s≤4000000) :
  Gv s a0 s.O ((runV E m (.all false) (wantR E [123] (rs s a0 t0))).bind fun q=>alone (addR (mk 11 [] 0 (pk E s.L).a) q.2 q.1)) (runU E n .block s):=by
 cases n with
 | zero=>trivial
 | succ n =>
  show Gv s a0 s.O _ ((((wordF E [123] s).bind (runU E n (.braces false))).bind .ok).bind (addF (mk 11 [] 0 (pk E s.L).a) s.O.length))
  rw [bind_assoc3,bind_assoc3]
  refine Gv.word (fun r=>(runV E m (.all false) r).bind fun q=>alone (addR (mk 11 [] 0 (pk E s.L).a) q.2 q.1)) hs hp (sgn _ (by decide)) (fun _ h1 p1=>?_) (fun r' hr=>by simp [badV_all hr (show 2≤m by omega),addR_bad hr,alone])
  refine GvL.bindP (all_sim (simU E n) m _ a0 t0 false (by omega) h1 p1) (k:=4000000) (runU_pot E n (.braces false) _ _ (by simp only [potU];omega)) (fun s1 new t1 h1 hO1 p1=>?_) (fun q hq=>by simp [addR_bad hq,alone])
  exact add_gv h1 _ (O0:=s.O) (ks:=new) hO1 a0 t1 s
theorem fnL_end {E:Nat}{s:S3}(hs:HS s) {m:Nat}{a0 t0:Int}{first:Bool}{out:List Int}(h:(pk E s.L).t=[41]):runV E (m+1) (.fnL first out) (rs s a0 t0)=some (rs { s with L:=s.L.tail } a0 t0,out):=by
 show (if (okR (rs s a0 t0) && !isR E [41] (rs s a0 t0))=true then _ else some (wantR E [41] (rs s a0 t0),out))=_
 rw [is_yes hs (sgn _ (by decide)) h,want_yes hs (sgn _ (by decide)) h];rfl
theorem params_sim {E:Nat}:∀ n m s a0 t0 r0 first out,n+3≤m→HS s→okR r0=true→isR E [41] r0=false→(if first=true then r0 else wantR E [44] r0)=rs s a0 t0→out.length≤s.O.length →
  GvL s a0 out (runV E m (.fnL first out) r0) (itemsF E [41] (fun _=>paramF E) n s)
 | 0,_,_,_,_,_,_,_,_,_,_,_,_,_=>trivial
 | n+1,m,s,a0,t0,r0,first,out,hm,hs,hok,his,hr0,hout=>by
  obtain ⟨k,rfl⟩ : ∃ k,m=k+2:=⟨m-2,by omega⟩
  show GvL s a0 out (if (okR r0 && !isR E [41] r0)=true then (declaredR E (runR E (k+1+6) .expr) 4 false (if first=true then r0 else wantR E [44] r0)).bind (fun q=>if 6000000≤out.length then none else runV E (k+1) (.fnL false (out ++ [q.top])) q) else _)
   ((paramF E s).bind fun s2=>if (pk E s2.L).t=[44] then itemsF E [41] (fun _=>paramF E) n { s2 with L:=s2.L.tail } else wordF E [41] s2)
  rw [if_pos (by rw [hok,his];rfl),hr0]
  have h1:=param_sim (E:=E) hs (runR E (k+1+6) .expr) a0 t0
  unfold Gv1 at h1
  have hlen:¬ 6000000≤out.length:=by have:=hs.low;have:=hs.few;omega
  cases hd:declaredR E (runR E (k+1+6) .expr) 4 false (rs s a0 t0) with
  | none =>
   rw [hd] at h1
   cases hr:paramF E s with
   | out=>trivial
   | bad c a=>rw [hr] at h1;obtain ⟨_,_,e,_⟩:=h1;cases e
   | ok s1=>rw [hr] at h1;obtain ⟨_,_,_,e⟩:=h1;cases e
  | some q =>
   rw [hd] at h1
   cases hr:paramF E s with
   | out=>trivial
   | bad c a =>
    rw [hr] at h1
    obtain ⟨hc,r',e1,rfl,rfl⟩:=h1
    injection e1 with e1;injection e1 with e1;subst e1
    refine ⟨hc,(q,out ++ [q.top]),?_,rfl,rfl⟩
    show (if 6000000≤out.length then none else runV E (k+1) (.fnL false (out ++ [q.top])) q)=_
    rw [if_neg hlen,badV_fnL hc (by omega)]
   | ok s1 =>
    rw [hr] at h1
    obtain ⟨h1,o1,hO1,e1⟩:=h1
    injection e1 with e1;injection e1 with e1;subst e1
    show GvL s a0 out (if 6000000≤out.length then none else runV E (k+1) (.fnL false (out ++ [o1])) (rs s1 a0 o1)) (if (pk E s1.L).t=[44] then itemsF E [41] (fun _=>paramF E) n { s1 with L:=s1.L.tail } else wordF E [41] s1)
    have hl1:s1.O.length=s.O.length+1:=by rw [hO1,List.length_append];rfl
    rw [if_neg hlen]
    by_cases hc:(pk E s1.L).t=[44]
    ·rw [if_pos hc]
     have hg:=params_sim n (k+1) { s1 with L:=s1.L.tail } a0 o1 (rs s1 a0 o1) false (out ++ [o1]) (by omega) h1.tail rfl (is_no h1 (sgn _ (by decide)) (by rw [hc];decide)) (by rw [want_yes h1 (sgn _ (by decide)) hc];rfl) (by rw [List.length_append];show _≤s1.O.length;simp;omega)
     cases hr2:itemsF E [41] (fun _=>paramF E) n { s1 with L:=s1.L.tail } with
     | out=>trivial
     | bad c a=>rw [hr2] at hg;exact hg
     | ok s2 =>
      rw [hr2] at hg
      obtain ⟨h2,new,t',hO2,e2⟩:=hg
      refine ⟨h2,o1 :: new,t',?_,?_⟩
      ·have hO2:s2.O=s1.O ++ new:=hO2
       rw [hO2,hO1];simp
      ·rw [e2];simp
    ·rw [if_neg hc]
     by_cases hq:(pk E s1.L).t=[41]
     ·rw [word_yes hq,fnL_end h1 hq]
      exact ⟨h1.tail,[o1],o1,hO1,rfl⟩
     ·rw [word_no hq]
      refine ⟨by decide,?_⟩
      show ∃ q,(if (okR (rs s1 a0 o1) && !isR E [41] (rs s1 a0 o1))=true then (declaredR E (runR E (k+6) .expr) 4 false (wantR E [44] (rs s1 a0 o1))).bind (fun q=>if 6000000≤(out ++ [o1]).length then none else runV E k (.fnL false (out ++ [o1] ++ [q.top])) q) else _)=some q∧_
      rw [is_no h1 (sgn _ (by decide)) hq,ok_rs,want_no h1 (sgn _ (by decide)) hc,declaredR_bad (bad1 _ _ _ _)]
      refine ⟨(⟨s1.N,s1.L,1,(pk E s1.L).a,o1⟩,out ++ [o1] ++ [o1]),?_,rfl,rfl⟩
      show (if 6000000≤(out ++ [o1]).length then none else runV E k (.fnL false (out ++ [o1] ++ [o1])) ⟨s1.N,s1.L,1,(pk E s1.L).a,o1⟩)=_
      rw [if_neg (by rw [List.length_append];show ¬ 6000000≤out.length+1;have:=hs.low;have:=hs.few;omega),badV_fnL (bad1 _ _ _ _) (by omega)]
theorem fn_sim {E n:Nat}(m:Nat) (x:Mn) (s:S3) (a0 t0:Int) (hm:4 * n+8≤m) (hs:HS s) (hp:pot s≤4000000) :
  Gv s a0 s.O (runV E m (.fn x) (rs s a0 t0)) (buildF x [listF E [40] [41] (fun _=>paramF E) n,runU E n .block] s):=by
 obtain ⟨k,rfl⟩ : ∃ k,m=k+1:=⟨m-1,by omega⟩
 show Gv s a0 s.O ((runV E k (.fnL true []) (wantR E [40] (rs s a0 t0))).bind fun p=>(runV E k (.all false) (wantR E [123] p.1)).bind fun q=>(addR (mk 11 [] 0 (pk E p.1.L).a) q.2 q.1).bind fun rb=>alone (addR x (p.2 ++ [rb.top]) rb)) _
 simp only [buildF,extF,seqF,bind_assoc3,bindOk]
 unfold listF
 rw [bind_assoc3]
 refine Gv.word (fun r=>(runV E k (.fnL true []) r).bind fun p=>(runV E k (.all false) (wantR E [123] p.1)).bind fun q=>(addR (mk 11 [] 0 (pk E p.1.L).a) q.2 q.1).bind fun rb=>alone (addR x (p.2 ++ [rb.top]) rb)) hs hp (sgn _ (by decide)) (fun _ h1 p1=>?_)
  (fun r' hr=>by simp [badV_fnL hr (show 1≤k by omega),wantR_bad hr,badV_all hr (show 2≤k by omega),addR_bad hr,alone])
 have hl:GvL { s with L:=s.L.tail } a0 [] (runV E k (.fnL true []) (rs { s with L:=s.L.tail } a0 t0)) (if (pk E s.L.tail).t=[41] then .ok { s with L:=s.L.tail.tail } else itemsF E [41] (fun _=>paramF E) n { s with L:=s.L.tail }):=by
  by_cases hq:(pk E s.L.tail).t=[41]
  ·obtain ⟨k',rfl⟩ : ∃ k',k=k' + 1:=⟨k-1,by omega⟩
   rw [if_pos hq,fnL_end h1 hq]
   exact ⟨h1.tail,[],t0,by simp,rfl⟩
  ·rw [if_neg hq]
   exact params_sim n k _ a0 t0 _ true [] (by omega) h1 rfl (is_no h1 (sgn _ (by decide)) hq) rfl (Nat.zero_le _)
 have hrt:Rt (if (pk E s.L.tail).t=[41] then .ok { s with L:=s.L.tail.tail } else itemsF E [41] (fun _=>paramF E) n { s with L:=s.L.tail }) 4000000:=by
  split
  ·exact rt_ok (Int.le_trans (pot_tail_le { s with L:=s.L.tail } s.O) p1)
  ·exact rt_items (by simp) (fun m s k h=>rt_param (by omega)) n _ _ p1
 refine GvL.bindP hl hrt (fun s2 new t2 h2 hO2 p2=>?_) (fun q hq=>by simp [wantR_bad hq,badV_all hq (show 2≤k by omega),addR_bad hq,alone])
 have e:((runV E k (.all false) (wantR E [123] (rs s2 a0 t2))).bind fun q=>(addR (mk 11 [] 0 (pk E (rs s2 a0 t2).L).a) q.2 q.1).bind fun rb=>alone (addR x (new ++ [rb.top]) rb))
   = ((runV E k (.all false) (wantR E [123] (rs s2 a0 t2))).bind fun q=>alone (addR (mk 11 [] 0 (pk E s2.L).a) q.2 q.1)).bind fun q=>alone (addR x (new ++ [q.1.top]) q.1):=by
  rw [Option.bind_assoc]
  refine congrArg _ (funext fun q=>?_)
  show (addR (mk 11 [] 0 (pk E s2.L).a) q.2 q.1).bind _=(alone (addR (mk 11 [] 0 (pk E s2.L).a) q.2 q.1)).bind _
  cases addR (mk 11 [] 0 (pk E s2.L).a) q.2 q.1 <;> rfl
 rw [e]
 refine Gv.bind (blk_sim k s2 a0 t2 (by omega) h2 p2) (fun s3 o3 h3 hO3=>?_) (fun r' hr=>by simp [addR_bad hr,alone])
 have hO2:s2.O=s.O ++ new:=hO2
 exact add_gv h3 _ (O0:=s.O) (ks:=new ++ [o3]) (by rw [hO3,hO2];simp) a0 o3 s
theorem listF_eq (E:Nat) (o en:List UInt8) (n:Nat):listF E o en (fun m=>runJ E m .expr) n=runJ E (n+1) (.list o en .expr):=by
 funext s
 show (wordF E o s).bind _=(wordF E o s).bind _
 refine congrArg _ (funext fun s1=>?_)
 rw [items_eq]
theorem badE_list {E m:Nat}{r:Rs}(hr:r.c≠0) (hm:2≤m) (e:List UInt8):runR E m (.list e) r=some (r,[]):=by
 obtain ⟨k,rfl⟩ : ∃ k,m=k+2:=⟨m-2,by omega⟩
 show runR E (k+1) (.listL e true []) r=_
 exact bad_listL hr _ _ _ _
theorem values_sim {E n m:Nat}(hm:n+1≤m) (size:Int) (s:S3) (a0 t0:Int) (hs:HS s) :
  GvL s a0 [] (valuesV E (fun e=>runR E (m+6) (.list e)) size (rs s a0 t0)) (valuesF E size (fun m=>runJ E m .expr) n s):=by
 unfold valuesV valuesF
 by_cases he:(pk E s.L).t=[61]
 ·rw [if_pos (is_yes hs (sgn _ (by decide)) he),if_pos he,skip_rs,listF_eq]
  by_cases hb:(pk E s.L.tail).t=[123]
  ·rw [want_yes (s:={ s with L:=s.L.tail }) hs.tail (sgn _ (by decide)) hb]
   have hg:=list_sim (E:=E) (n:=n+1) (m:=m) hm [123] [125] { s with L:=s.L.tail } a0 t0 hs.tail (by decide) (sgn _ (by decide)) hb
   cases hr:runJ E (n+1) (.list [123] [125] .expr) { s with L:=s.L.tail } with
   | out=>trivial
   | bad c a =>
    rw [hr] at hg
    obtain ⟨hc,q,e,rfl,rfl⟩:=hg
    refine ⟨hc,q,?_,rfl,rfl⟩
    show ((runR E (m+6) (.list [125]) _).bind _)=_
    rw [e]
    show (if (okR q.1 && _)=true then _ else _)=_
    rw [okR_bad hc];rfl
   | ok s2 =>
    rw [hr] at hg
    obtain ⟨h2,new,t',hO,e⟩:=hg
    have hO:s2.O=s.O ++ new:=hO
    have hl:(s2.O.length:Int)-s.O.length=new.length:=by rw [hO,List.length_append];omega
    show GvL s a0 [] ((runR E (m+6) (.list [125]) _).bind _) (if size<(s2.O.length:Int)-s.O.length then .bad 9 (pk E s.L.tail).a else .ok s2)
    rw [e,hl]
    show GvL s a0 [] (if (okR (rs s2 a0 t') && decide (size<((([]:List Int) ++ new).length:Int)))=true then some ({ rs s2 a0 t' with c:=9,a:=(pk E s.L.tail).a },[] ++ new) else some (rs s2 a0 t',[] ++ new)) _
    rw [ok_rs,Bool.true_and,List.nil_append]
    by_cases hsz:size<(new.length:Int)
    ·rw [if_pos (decide_eq_true hsz),if_pos hsz]
     exact ⟨by decide,_,rfl,rfl,rfl⟩
    ·rw [if_neg (by rw [decide_eq_false hsz];decide),if_neg hsz]
     exact ⟨h2,new,t',hO,rfl⟩
  ·rw [want_no (s:={ s with L:=s.L.tail }) hs.tail (sgn _ (by decide)) hb]
   show GvL s a0 [] ((runR E (m+6) (.list [125]) _).bind _) (((wordF E [123] { s with L:=s.L.tail }).bind _).bind _)
   rw [word_no (s:={ s with L:=s.L.tail }) hb,badE_list (bad1 _ _ _ _) (by omega)]
   exact ⟨by decide,_,rfl,rfl,rfl⟩
 ·rw [if_neg (by rw [is_no hs (sgn _ (by decide)) he];decide),if_neg he]
  exact ⟨hs,[],t0,by simp,rfl⟩
theorem kind_ne (E:Nat) (r:Rs):(kindR E false r).2≠0:=by
 unfold kindR
 split
 ·split
  ·exact (by decide:(2:Int)≠0)
  ·exact (by decide:(1:Int)≠0)
 ·split
  ·next h=>simp at h
  ·exact (by decide:(-1:Int)≠0)
theorem valuesV_bad {E m:Nat}{r:Rs}(hr:r.c≠0) (size:Int) (li:List UInt8→Rs→Option RL):valuesV E li size r=some (r,[]):=by unfold valuesV;rw [isR_bad hr];rfl
theorem top_sim {E n:Nat}(m:Nat) (s:S3) (a0 t0:Int) (hm:4 * n+9≤m) (hs:HS s) (hp:pot s≤4000000):Gv s a0 s.O (runV E m .top (rs s a0 t0)) (runU E (n+1) .global s):=by
 obtain ⟨k,rfl⟩ : ∃ k,m=k+1:=⟨m-1,by omega⟩
 show Gv s a0 s.O (stepV E (runR E (k+6) .expr) (fun e=>runR E (k+6) (.list e)) (runV E k) .top (rs s a0 t0)) (stepU E n (runU E n) .global s)
 simp only [stepV,stepU]
 by_cases hv:(pk E s.L).t=[118,111,105,100]
 ·rw [if_pos hv]
  have hk:kindR E true (rs s a0 t0)=(rs { s with L:=s.L.tail } a0 t0,0):=by
   unfold kindR
   rw [if_neg (by rw [is_t hs a0 t0 hv (key _ (by decide))];decide),if_pos (by rw [is_t hs a0 t0 hv (key _ (by decide))];decide),skip_rs]
  rw [hk]
  have hn:=name_sim (E:=E) (s:={ s with L:=s.L.tail }) hs.tail a0 t0 0
  show Gv s a0 s.O (if isR E [40] (nameR E (rs { s with L:=s.L.tail } a0 t0)).1=true then runV E k (.fn (mk 3 (nameR E (rs { s with L:=s.L.tail } a0 t0)).2.t 0 (nameR E (rs { s with L:=s.L.tail } a0 t0)).2.a)) (nameR E (rs { s with L:=s.L.tail } a0 t0)).1 else some (stopR E 1 (nameR E (rs { s with L:=s.L.tail } a0 t0)).1,[])) _
  generalize nameR E (rs { s with L:=s.L.tail } a0 t0)=q at *
  have hpd:RtD (namedF E 0 { s with L:=s.L.tail }) 4000000:=rd_named (Int.le_trans (pot_tail_le s s.O) (by omega))
  cases hf:namedF E 0 { s with L:=s.L.tail } with
  | out=>trivial
  | bad c a =>
   rw [hf] at hn
   obtain ⟨hc,rfl,rfl⟩:=hn
   rw [if_neg (by rw [isR_bad hc];decide),stopR_bad hc]
   exact Gv.bad hc rfl
  | ok s1 x =>
   rw [hf] at hn hpd
   obtain ⟨h1,hO,hq,rfl⟩:=hn
   have p1:=hpd s1 _ rfl
   have hO:s1.O=s.O:=hO
   rw [hq]
   show Gv s a0 s.O _ (buildF (mk 3 q.2.t 0 q.2.a) [listF E [40] [41] (fun _=>paramF E) n,runU E n .block] s1)
   by_cases hb:(pk E s1.L).t=[40]
   ·rw [if_pos (is_yes h1 (sgn _ (by decide)) hb),← hO]
    have:=fn_sim (E:=E) (n:=n) k (mk 3 q.2.t 0 q.2.a) s1 a0 t0 (by omega) h1 p1
    exact this
   ·rw [if_neg (by rw [is_no h1 (sgn _ (by decide)) hb];decide),stop_rs]
    show Gv s a0 s.O _ ((R3.bind ((wordF E [40] s1).bind _) _).bind _)
    rw [word_no hb]
    exact Gv.wrong (s0:=s1) (r':=⟨s1.N,s1.L,1,(pk E s1.L).a,t0⟩) rfl rfl
 ·rw [if_neg hv]
  have hk:kindR E true (rs s a0 t0)=kindR E false (rs s a0 t0):=by
   unfold kindR
   rw [is_no hs (key [118,111,105,100] (by decide)) hv];rfl
  rw [hk]
  have hd:=decl_sim (E:=E) hs a0 t0
  have hne:=kind_ne E (rs s a0 t0)
  generalize (kindR E false (rs s a0 t0)).2=kd at *
  generalize nameR E (kindR E false (rs s a0 t0)).1=q at *
  have hpd:RtD (declF E s) 4000000:=rd_decl (by omega)
  cases hf:declF E s with
  | out=>trivial
  | bad c a =>
   rw [hf] at hd
   obtain ⟨hc,rfl,rfl⟩:=hd
   rw [if_neg (by rw [isR_bad hc];decide),if_neg hne,if_neg (by rw [isR_bad hc,Bool.and_false];decide),if_neg (by rw [isR_bad hc];decide),wantR_bad hc,addR_bad hc]
   exact Gv.bad hc rfl
  | ok s1 x =>
   rw [hf] at hd hpd
   obtain ⟨h1,hO,hq,rfl⟩:=hd
   have p1:=hpd s1 _ rfl
   have hO:s1.O=s.O:=hO
   have hlO:s1.O.length=s.O.length:=by rw [hO]
   rw [hq]
   by_cases hb:(pk E s1.L).t=[40]
   ·rw [if_pos (is_yes h1 (sgn _ (by decide)) hb),← hO]
    show Gv s a0 s1.O _ (if (pk E s1.L).t=[40] then _ else _)
    rw [if_pos hb]
    have:=fn_sim (E:=E) (n:=n) k (mk 3 q.2.t kd q.2.a) s1 a0 t0 (by omega) h1 p1
    exact this
   ·rw [if_neg (by rw [is_no h1 (sgn _ (by decide)) hb];decide),if_neg hne]
    show Gv s a0 s.O _ (if (pk E s1.L).t=[40] then _ else if (pk E s1.L).t=[91]∧kd=1 then _ else _)
    rw [if_neg hb]
    by_cases ha:(pk E s1.L).t=[91]∧kd=1
    ·rw [if_pos ha,if_pos (by rw [is_yes h1 (sgn _ (by decide)) ha.1,decide_eq_true ha.2];rfl),skip_rs]
     obtain ⟨ha,rfl⟩:=ha
     unfold arrayF
     rw [word_yes ha,bindOk]
     show Gv s a0 s.O (if (pk E s1.L.tail).k≠2 then _ else if (pk E s1.L.tail).v<1∨200<(pk E s1.L.tail).v then _ else _) (if (pk E s1.L.tail).k=2 then (if (pk E s1.L.tail).v<1∨200<(pk E s1.L.tail).v then _ else _) else _)
     by_cases hn:(pk E s1.L.tail).k=2
     ·rw [if_neg (not_not_intro hn),if_pos hn]
      by_cases hv:(pk E s1.L.tail).v<1∨200<(pk E s1.L.tail).v
      ·rw [if_pos hv,if_pos hv,stop_rs]
       exact ⟨by decide,_,rfl,rfl,rfl⟩
      ·rw [if_neg hv,if_neg hv,skip_rs]
       have h2:HS { s1 with L:=s1.L.tail.tail }:=h1.tail.tail
       have p2:pot { s1 with L:=s1.L.tail.tail }≤4000000:=Int.le_trans (pot_tail_le { s1 with L:=s1.L.tail } s1.O) (Int.le_trans (pot_tail_le s1 s1.O) p1)
       show Gv s a0 s.O ((valuesV E (fun e=>runR E (k+6) (.list e)) (pk E s1.L.tail).v (wantR E [93] (rs { s1 with L:=s1.L.tail.tail } a0 t0))).bind fun q_1=>alone (addR { mk 2 q.2.t 3 q.2.a with z:=(pk E s1.L.tail).v } q_1.2 (wantR E [59] q_1.1)))
        (((wordF E [93] { s1 with L:=s1.L.tail.tail }).bind (seqF [valuesF E (pk E s1.L.tail).v (fun m=>runJ E m .expr) n,wordF E [59]])).bind (addF { mk 2 q.2.t 3 q.2.a with z:=(pk E s1.L.tail).v } s1.O.length))
       rw [bind_assoc3,hlO]
       refine Gv.word (fun r=>(valuesV E (fun e=>runR E (k+6) (.list e)) (pk E s1.L.tail).v r).bind fun q_1=>alone (addR { mk 2 q.2.t 3 q.2.a with z:=(pk E s1.L.tail).v } q_1.2 (wantR E [59] q_1.1))) h2 p2 (sgn _ (by decide)) (fun _ h3 p3=>?_)
        (fun r' hr=>by simp [valuesV_bad (m:=0) hr,wantR_bad hr,addR_bad hr,alone])
       simp only [seqF,bind_assoc3,bindOk]
       refine GvL.bindP (values_sim (by omega) _ _ a0 t0 h3) (k:=4000000) (rt_values p3) (fun s4 new t4 h4 hO4 p4=>?_) (fun q hq=>by simp [wantR_bad hq,addR_bad hq,alone])
       have hO4:s4.O=s1.O ++ new:=hO4
       exact Gv.word (fun r=>alone (addR { mk 2 q.2.t 3 q.2.a with z:=(pk E s1.L.tail).v } new r)) h4 p4 (sgn _ (by decide)) (fun _ h5 _=>add_gv h5 _ (O0:=s.O) (ks:=new) (by show s4.O=_;rw [hO4,hO]) a0 t4 s) (fun r' hr=>by simp [addR_bad hr,alone])
     ·rw [if_pos hn,if_neg hn,stop_rs]
      exact ⟨by decide,_,rfl,rfl,rfl⟩
    ·rw [if_neg ha,if_neg (by rw [is_rs h1 a0 t0 (sgn _ (by decide)),Bool.and_eq_true,decide_eq_true_eq,decide_eq_true_eq];exact fun h=>ha ⟨h.2,h.1⟩)]
     show Gv s a0 s.O _ (((if (pk E s1.L).t=[61] then runJ E n .expr { s1 with L:=s1.L.tail } else .ok s1).bind (seqF [wordF E [59]])).bind (addF (mk 2 q.2.t kd q.2.a) s1.O.length))
     rw [hlO]
     by_cases he:(pk E s1.L).t=[61]
     ·rw [if_pos he,if_pos (is_yes h1 (sgn _ (by decide)) he),skip_rs]
      simp only [seqF,bind_assoc3,bindOk]
      refine Gv.bindP (ex_sim (m:=k) (by omega) _ a0 t0 h1.tail) (k:=4000000) (rt_expr (by have:=pot_tail_le s1 s1.O;omega)) (fun s2 o2 h2 hO2 p2=>?_) (fun r' hr=>by simp [wantR_bad hr,addR_bad hr,alone])
      have hO2:s2.O=s1.O ++ [o2]:=hO2
      exact Gv.word (fun r=>alone (addR (mk 2 q.2.t kd q.2.a) [o2] r)) h2 p2 (sgn _ (by decide)) (fun _ h5 _=>add_gv h5 _ (O0:=s.O) (ks:=[o2]) (by show s2.O=_;rw [hO2,hO]) a0 o2 s) (fun r' hr=>by simp [addR_bad hr,alone])
     ·rw [if_neg he,if_neg (by rw [is_no h1 (sgn _ (by decide)) he];decide)]
      simp only [seqF,bind_assoc3,bindOk]
      exact Gv.word (fun r=>alone (addR (mk 2 q.2.t kd q.2.a) [] r)) h1 p1 (sgn _ (by decide)) (fun _ h5 _=>add_gv h5 _ (O0:=s.O) (ks:=[]) (by show s1.O=_;rw [hO];simp) a0 t0 s) (fun r' hr=>by simp [addR_bad hr,alone])
theorem tops_sim {E:Nat}:∀ n m s a0 t0 out,4 * n+9≤m→HS s→pot s≤4000000→out.length≤s.O.length→GvL s a0 out (runV E m (.topsL out) (rs s a0 t0)) (runU E n .globals s)
 | 0,_,_,_,_,_,_,_,_,_=>trivial
 | n+1,m,s,a0,t0,out,hm,hs,hp,hout=>by
  obtain ⟨k,rfl⟩ : ∃ k,m=k+1:=⟨m-1,by omega⟩
  have hlen:¬ 6000000≤out.length:=by have:=hs.low;have:=hs.few;omega
  show GvL s a0 out (if (okR (rs s a0 t0) && decide (0<s.L.length))=true then (runV E k .top (rs s a0 t0)).bind (fun q=>if 6000000≤out.length then none else runV E k (.topsL (out ++ [q.1.top])) q.1) else some (rs s a0 t0,out))
   (if s.L=[] then .ok s else (runU E n .global s).bind (runU E n .globals))
  rw [ok_rs,Bool.true_and]
  by_cases hL:s.L=[]
  ·rw [if_pos hL,if_neg (by rw [hL];decide)]
   exact ⟨hs,[],t0,by simp,by simp⟩
  ·have hL2:0<s.L.length:=List.length_pos_iff.2 hL
   rw [if_neg hL,if_pos (decide_eq_true hL2)]
   cases n with
   | zero=>trivial
   | succ n =>
    have hi:=top_sim (E:=E) (n:=n) k s a0 t0 (by omega) hs hp
    have hq:Rt (runU E (n+1) .global s) 4000000:=runU_pot E (n+1) .global s _ (by simp only [potU];omega)
    cases hr:runU E (n+1) .global s with
    | out=>trivial
    | bad c a =>
     rw [hr] at hi
     obtain ⟨hc,r',e,rfl,rfl⟩:=hi
     rw [e]
     refine ⟨hc,(r',out ++ [r'.top]),?_,rfl,rfl⟩
     show (if 6000000≤out.length then none else runV E k (.topsL (out ++ [r'.top])) r')=_
     rw [if_neg hlen,badV_topsL hc (by omega)]
    | ok s1 =>
     rw [hr] at hi hq
     obtain ⟨h1,o1,hO1,e⟩:=hi
     rw [e]
     show GvL s a0 out (if 6000000≤out.length then none else runV E k (.topsL (out ++ [o1])) (rs s1 a0 o1)) (runU E (n+1) .globals s1)
     rw [if_neg hlen]
     have hg:=tops_sim (E:=E) (n+1) k s1 a0 o1 (out ++ [o1]) (by omega) h1 (hq s1 rfl) (by rw [hO1,List.length_append,List.length_append];simp;exact hout)
     cases hr2:runU E (n+1) .globals s1 with
     | out=>trivial
     | bad c a=>rw [hr2] at hg;exact hg
     | ok s2 =>
      rw [hr2] at hg
      obtain ⟨h2,new,t',hO2,e2⟩:=hg
      refine ⟨h2,o1 :: new,t',?_,?_⟩
      ·rw [hO2,hO1];simp
      ·rw [e2];simp
def unitV (E m:Nat) (r:Rs):Option RL:=(runV E m (.topsL []) r).bind fun q=>alone (addR (mk 1 [] 0 0) q.2 q.1)
theorem unit_sim {E n:Nat}(m:Nat) (s:S3) (a0 t0:Int) (hm:4 * n+9≤m) (hs:HS s) (hp:pot s≤4000000):Gv s a0 s.O (unitV E m (rs s a0 t0)) (unitF E n s):=by
 unfold unitV unitF
 simp only [buildF,extF,seqF,bind_assoc3,bindOk]
 exact GvL.bindP (tops_sim n m s a0 t0 [] hm hs hp (Nat.zero_le _)) (k:=4000000) (runU_pot E n .globals s _ (by simp only [potU];omega)) (fun s1 new t1 h1 hO1 p1=>add_gv h1 _ (O0:=s.O) (ks:=new) hO1 a0 t1 s) (fun q hq=>by simp [addR_bad hq,alone])
end
end Go.Proofs.YtbjacclfhgnffaaGreatDoor
