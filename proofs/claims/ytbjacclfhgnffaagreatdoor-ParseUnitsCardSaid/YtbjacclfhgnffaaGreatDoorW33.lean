/-
  Joined texts of this claim: Mf, Lp, Mh, Mi, Mj.
-/
import Derived.Test.YtbjacclfhgnffaaGreatDoorW00
import Derived.Test.YtbjacclfhgnffaaGreatDoorW32
import Derived.Test.YtbjacclfhgnffaaGreatDoorW30
import Derived.Test.YtbjacclfhgnffaaGreatDoorW31
import Derived.Test.YtbjacclfhgnffaaGreatDoorW07
import Derived.Test.YtbjacclfhgnffaaGreatDoorW10
set_option maxHeartbeats 40000000
set_option maxRecDepth 100000
set_option linter.unusedVariables false
set_option linter.unusedSimpArgs false
namespace Go.Proofs.YtbjacclfhgnffaaGreatDoor
section
open Go.RowKit
open Tk (T4 bstr)
theorem declared_true {E:Nat}{ex:Rs→Option RL}(hex:FnB E 34 #[] ex) (kind:Int):FnA E 123 #[.int .i64 kind,.bool true] (declaredR E ex kind true):=by
 intro A w r q v hA h hf
 have H:Hid (_=some q):=Lib.hid ((declared_eq E ex kind true r).symm.trans hf)
 clear hf
 obtain ⟨_,_,_,_,_,_,_,_,rfl⟩:=h.parts
 have F:=frN hA h;have R0:=rdN h
 clear hA h
 go_enter Tryz.func123,Tryz.ntmps123
 go_wp2_with (go_at_call 78;refine (kiC (kind_false E) F R0).mono ?_)
 rintro e u ⟨_,_,_,_,_,_,_,_,rfl,R1,b⟩;replace F:=frC F b;clear R0;clear b
 have c:=F.all
 have B2:=t6Ne (g:=u.heap.size) F R1 (by simp [st6,World.setCell]);have N2:=B2.n
 replace F:=frAdB (g:=u.heap.size) F R1 (by simp [st6,World.setCell]);replace R1:=rdAdB (g:=u.heap.size) R1 (by simp [st6,World.setCell])
 go_wp2_with (go_at_call 79;refine (naC (name_R E) F R1).mono ?_)
 rintro e u ⟨p3,l3,m3,n3,o3,s3,z3,a3,k3,x3,y3,t3,rfl,R3,T3,b⟩;replace F:=frC F b;replace B2:=tbC B2 b;replace R1:=rdC R1 b;clear b
 replace c:=F.all;have cB2:=B2.all6;have fB2:=B2.frz6
 have NQ:=B2.n;replace F:=frQ F NQ R3;clear R1;replace B2:=tbQ B2 R3;replace R3:=rdQ R3;clear NQ
 have M4B2:=B2.ltE (h:=u.heap.size) (by simp [st6,World.setCell])
 have B4:=tbNe (g:=u.heap.size) F k3 y3 t3 x3 (by simp [st6,World.setCell]);have N4:=B4.n
 replace F:=frA F (.cells #[.int .i64 k3,.string x3,.int .i64 y3,.int .i64 t3] 82);replace B2:=tbA B2 (.cells #[.int .i64 k3,.string x3,.int .i64 y3,.int .i64 t3] 82);replace R3:=rdA R3 (.cells #[.int .i64 k3,.string x3,.int .i64 y3,.int .i64 t3] 82)
 by_cases i6:isR E [61] (nameR E (kindR E false r).1).1=true
 ·skip
  replace H:=ifT H (by rw [i6];rfl)
  go_wp2_with (go_at_call 69;refine (isC R3 ⟨#[61]⟩ i6).mono ?_)
  rintro e u ⟨rfl,b⟩;replace F:=frC F b;replace B2:=tbC B2 b;replace B4:=tbC B4 b;replace R3:=rdC R3 b;clear b
  replace c:=F.all;replace cB2:=B2.all6;replace fB2:=B2.frz6;have cB4:=B4.all
  go_wp2_with (go_at_call 70;refine (skC R3).mono ?_)
  rintro e u ⟨_,_,_,_,_,_,_,_,rfl,R8,b⟩;replace F:=frC F b;replace B2:=tbC B2 b;replace B4:=tbC B4 b;replace R3:=rdC R3 b;clear b
  replace c:=F.all;replace cB2:=B2.all6;replace fB2:=B2.frz6;replace cB4:=B4.all
  replace H:=bnd H;obtain ⟨q9,h9,H⟩:=H
  go_wp2_with (go_at_call 34;refine (fbC hex F R8 h9).mono ?_)
  rintro e u ⟨_,_,_,_,_,_,_,_,rfl,R9,b⟩;replace F:=frC F b;clear R8;replace B2:=tbC B2 b;replace B4:=tbC B4 b;replace R3:=rdC R3 b;clear b
  replace c:=F.all;replace cB2:=B2.all6;replace fB2:=B2.frz6;replace cB4:=B4.all
  have NQ:=B2.n;replace B4:=tbQo B4 B2 (by omega) R9;replace F:=frQ F NQ R9;clear R3;replace B2:=tbQ B2 R9;replace R9:=rdQ R9;clear NQ
  go_wp2_with (go_at_call 82;refine (oneC F _).mono ?_)
  rintro e u ⟨p10,rfl,L10,b⟩;replace F:=frC F b;replace B2:=tbC B2 b;replace B4:=tbC B4 b;replace R9:=rdC R9 b;clear b
  replace c:=F.all;replace cB2:=B2.all6;replace fB2:=B2.frz6;replace cB4:=B4.all
  go_wp2_with (go_at_call 40;refine (adC F R9 L10 kind (kindR E false r).2 0 _ x3 (tx_ T3) rfl (ta_ T3) H).mono ?_)
  rintro e u ⟨_,_,_,_,_,_,_,_,rfl,R11,b⟩;replace F:=frC F b;clear R9;clear L10;replace B2:=tbC B2 b;replace B4:=tbC B4 b;clear b
  replace c:=F.all;replace cB2:=B2.all6;replace fB2:=B2.frz6;replace cB4:=B4.all
  replace B2:=tbS B2 R11;replace B4:=tbS B4 R11;replace F:=frS F R11;replace R11:=rdS R11
  go_wp2
  refine (rdOff R11).fin (frOff F) ?_ rfl
  simp [results,Tryz.results123,go_sem,st6,c,cB2,cB4]
 ·skip
  replace i6:=bfalse i6
  replace H:=ifF H (by rw [i6];rfl)
  go_wp2_with (go_at_call 69;refine (isC R3 ⟨#[61]⟩ i6).mono ?_)
  rintro e u ⟨rfl,b⟩;replace F:=frC F b;replace B2:=tbC B2 b;replace B4:=tbC B4 b;replace R3:=rdC R3 b;clear b
  replace c:=F.all;replace cB2:=B2.all6;replace fB2:=B2.frz6;have cB4:=B4.all
  go_wp2_with (go_at_call 40;refine (adC F R3 (nilL _ _ _) kind (kindR E false r).2 0 _ x3 (tx_ T3) rfl (ta_ T3) H).mono ?_)
  rintro e u ⟨_,_,_,_,_,_,_,_,rfl,R8,b⟩;replace F:=frC F b;clear R3;replace B2:=tbC B2 b;replace B4:=tbC B4 b;clear b
  replace c:=F.all;replace cB2:=B2.all6;replace fB2:=B2.frz6;replace cB4:=B4.all
  replace B2:=tbS B2 R8;replace B4:=tbS B4 R8;replace F:=frS F R8;replace R8:=rdS R8
  go_wp2
  refine (rdOff R8).fin (frOff F) ?_ rfl
  simp [results,Tryz.results123,go_sem,st6,c,cB2,cB4]
theorem declared_false {E:Nat}{ex:Rs→Option RL}(hex:FnB E 34 #[] ex) (kind:Int):FnA E 123 #[.int .i64 kind,.bool false] (declaredR E ex kind false):=by
 intro A w r q v hA h hf
 have H:Hid (_=some q):=Lib.hid ((declared_eq E ex kind false r).symm.trans hf)
 replace H:=ifF H rfl
 clear hf
 obtain ⟨_,_,_,_,_,_,_,_,rfl⟩:=h.parts
 have F:=frN hA h;have R0:=rdN h
 clear hA h
 go_enter Tryz.func123,Tryz.ntmps123
 go_wp2_with (go_at_call 78;refine (kiC (kind_false E) F R0).mono ?_)
 rintro e u ⟨_,_,_,_,_,_,_,_,rfl,R1,b⟩;replace F:=frC F b;clear R0;clear b
 have c:=F.all
 have B2:=t6Ne (g:=u.heap.size) F R1 (by simp [st6,World.setCell]);have N2:=B2.n
 replace F:=frAdB (g:=u.heap.size) F R1 (by simp [st6,World.setCell]);replace R1:=rdAdB (g:=u.heap.size) R1 (by simp [st6,World.setCell])
 go_wp2_with (go_at_call 79;refine (naC (name_R E) F R1).mono ?_)
 rintro e u ⟨p3,l3,m3,n3,o3,s3,z3,a3,k3,x3,y3,t3,rfl,R3,T3,b⟩;replace F:=frC F b;replace B2:=tbC B2 b;replace R1:=rdC R1 b;clear b
 replace c:=F.all;have cB2:=B2.all6;have fB2:=B2.frz6
 have NQ:=B2.n;replace F:=frQ F NQ R3;clear R1;replace B2:=tbQ B2 R3;replace R3:=rdQ R3;clear NQ
 have M4B2:=B2.ltE (h:=u.heap.size) (by simp [st6,World.setCell])
 have B4:=tbNe (g:=u.heap.size) F k3 y3 t3 x3 (by simp [st6,World.setCell]);have N4:=B4.n
 replace F:=frA F (.cells #[.int .i64 k3,.string x3,.int .i64 y3,.int .i64 t3] 82);replace B2:=tbA B2 (.cells #[.int .i64 k3,.string x3,.int .i64 y3,.int .i64 t3] 82);replace R3:=rdA R3 (.cells #[.int .i64 k3,.string x3,.int .i64 y3,.int .i64 t3] 82)
 go_wp2_with (go_at_call 40;refine (adC F R3 (nilL _ _ _) kind (kindR E false r).2 0 _ x3 (tx_ T3) rfl (ta_ T3) H).mono ?_)
 rintro e u ⟨_,_,_,_,_,_,_,_,rfl,R5,b⟩;replace F:=frC F b;clear R3;replace B2:=tbC B2 b;replace B4:=tbC B4 b;clear b
 replace c:=F.all;replace cB2:=B2.all6;replace fB2:=B2.frz6;have cB4:=B4.all
 replace B2:=tbS B2 R5;replace B4:=tbS B4 R5;replace F:=frS F R5;replace R5:=rdS R5
 go_wp2
 refine (rdOff R5).fin (frOff F) ?_ rfl
 simp [results,Tryz.results123,go_sem,st6,c,cB2,cB4]
end
section
open Go.RowKit
open Tk (T4 bstr)
open Tr (Nd Blk KidsAt NodeAt ret_bool)
def topR (E:Nat) (ex:Rs→Option RL) (li:List UInt8→Rs→Option RL) (rec:VJ→Rs→Option RL) (k:Int) (t:List UInt8) (a:Int) (r:Rs):Option RL :=
 if isR E [40] r=true then rec (.fn ⟨3,t,k,0,[],a⟩) r
 else if k=0 then some (stopR E 1 r,[])
 else if (decide (k=1) && isR E [91] r)=true then
  if (pk E (skipR r).L).k=2 then
   if (pk E (skipR r).L).v<1∨200<(pk E (skipR r).L).v then some (stopR E 3 (skipR r),[])
   else (valuesV E li (pk E (skipR r).L).v (wantR E [93] (skipR (skipR r)))).bind fun q=>alone (addR ⟨2,t,3,(pk E (skipR r).L).v,[],a⟩ q.2 (wantR E [59] q.1))
  else some (stopR E 1 (skipR r),[])
 else if isR E [61] r=true then (ex (skipR r)).bind fun q=>alone (addR ⟨2,t,k,0,[],a⟩ [q.1.top] (wantR E [59] q.1))
 else alone (addR ⟨2,t,k,0,[],a⟩ [] (wantR E [59] r))
theorem top_eq (E:Nat) (ex:Rs→Option RL) (li:List UInt8→Rs→Option RL) (rec:VJ→Rs→Option RL) (r:Rs):stepV E ex li rec .top r =
  topR E ex li rec (kindR E true r).2 (pk E (kindR E true r).1.L).t (pk E (kindR E true r).1.L).a (nameR E (kindR E true r).1).1:=by
 have e:(nameR E (kindR E true r).1).2=pk E (kindR E true r).1.L:=name_tok E _
 unfold topR
 simp only [stepV,e]
 simp only [ite_not]
 rfl
section
variable {E g g' n h:Nat}{A:Nat→Prop}{w W W':World}{cr cs ct:Array Value}{q q':Rs}{v u x0 x1 x2 x3 x4 x5 y y0 y1 y2 y3 y4 y5:Value}{l:List Int}
theorem ifYes {α:Type}{c:Prop}[Decidable c] {a b x:α}(h:Hid ((if c then a else b)=x)) (hc:c):Hid (a=x):=by rw [if_pos hc] at h;exact h
theorem ifNo {α:Type}{c:Prop}[Decidable c] {a b x:α}(h:Hid ((if c then a else b)=x)) (hc:¬ c):Hid (b=x):=by rw [if_neg hc] at h;exact h
def KxP (E:Nat) (A:Nat→Prop) (w w0:World) (p:Rs × Int) (e:Ending) (w':World):Prop :=
 ∃ pn ln cn pl ll cl c a k,e=.returned (.tuple #[.agg #[.slice pn ln cn,.slice pl ll cl,.int .i64 E,.int .i64 c,.int .i64 a,.int .i64 p.1.top],.int .i64 k]) ∧
  Rd E A w w' p.1 (.agg #[.slice pn ln cn,.slice pl ll cl,.int .i64 E,.int .i64 c,.int .i64 a,.int .i64 p.1.top])∧Hid (p.2=k)∧Below w0.heap.size w0 w'
theorem kxC {id:Nat}{ex:Array Value}{f:Rs→Rs × Int}(hf:FnK E id ex f) (F:Fr A w W cr cs) (R:Rd E A w W q v):Calls Tryz.prog id (#[v] ++ ex) W (KxP E A w W (f q)) :=
 (kiC hf F R).mono fun _ _ ⟨pn,ln,cn,pl,ll,cl,c,a,he,hr,hb⟩=>⟨pn,ln,cn,pl,ll,cl,c,a,_,he,hr,Lib.hid rfl,hb⟩
theorem inC (W:World) {n a b:Int}{t:Bool}(h:decide (a≤n∧n≤b)=t):Calls Tryz.prog 42 #[.int .i64 n,.int .i64 a,.int .i64 b] W (BlP t W):=(Tk.rin_any n a b W).mono fun _ _ ⟨he,hw⟩=>⟨h ▸ he,hw ▸ Below.refl _ _⟩
def FtP (c a:Int) (w:World) (e:Ending) (w':World):Prop:=e=.returned (.agg #[.int .i64 c,.int .i64 a])∧Below w.heap.size w w'
theorem ftC (W:World) (c a:Int):Calls Tryz.prog 47 #[.int .i64 c,.int .i64 a] W (FtP c a W):=(Tk.fault_any c a W).mono fun _ _ ⟨he,hw⟩=>⟨he,hw ▸ (Below.refl _ _).alloc (Nat.le_refl _) _⟩
theorem tbNg (F:Fr A w W cr cs) (cn:Array Value) (t:TypeId) (e:W.heap.size=g):Tb w (W.alloc (.cells cn t)) g cn:=e ▸ ⟨⟨_,Blk.new _ _ _⟩,F.lt⟩
theorem frAdO (F:Fr A w W cr cs) (o:Obj) (e:W.heap.size=g):Fr (Ad A g) w (W.alloc o) cr cs :=
 ⟨F.r.alloc _,F.s.imp fun _ h=>h.alloc _,F.x.alloc F.x.size _,fun b hb=>by
  rw [World.size_alloc]
  rcases hb with hb | rfl
  ·exact Nat.lt_succ_of_lt (F.i b hb)
  ·omega⟩
theorem rdAdO (R:Rd E A w W q v) (o:Obj) (e:W.heap.size=g):Rd E (Ad A g) w (W.alloc o) q v:=rdA (rd_ad R e) o
theorem tbMq {cb:Array Value}(T:Tb w W g' ct) (B:Tb w W g cb) (n:g'≠g) (i:Nat) (y:Value):Tb w (W.setCell ⟨g,i,none⟩ y) g' ct:=tbMo T n i y
theorem tb60 (T:Tb w W g #[y0,y1,y2,y3,y4,y5]) (y:Value):Tb w (W.setCell ⟨g,0,none⟩ y) g #[y,y1,y2,y3,y4,y5]:=tbM T 0 y
theorem tb62 (T:Tb w W g #[y0,y1,y2,y3,y4,y5]) (y:Value):Tb w (W.setCell ⟨g,2,none⟩ y) g #[y0,y1,y,y3,y4,y5]:=tbM T 2 y
theorem tb63 (T:Tb w W g #[y0,y1,y2,y3,y4,y5]) (y:Value):Tb w (W.setCell ⟨g,3,none⟩ y) g #[y0,y1,y2,y,y4,y5]:=tbM T 3 y
theorem frW (F:Fr A w W #[y0,y1,y2,y3,y4,y5] cs) (x y:Value):Fr A w ((W.setCell ⟨w.heap.size,3,none⟩ x).setCell ⟨w.heap.size,4,none⟩ y) #[y0,y1,y2,x,y,y5] cs :=
 ⟨(F.r.set_ 3 x).set_ 4 y,F.s.imp fun _ h=>(h.far (p:=⟨w.heap.size,3,none⟩) (by show w.heap.size+1≠w.heap.size;omega) x).far (p:=⟨w.heap.size,4,none⟩) (by show w.heap.size+1≠w.heap.size;omega) y,
  F.x.trans (((Below.refl _ _).setCell (p:=⟨w.heap.size,3,none⟩) (Nat.le_refl _) x).setCell (p:=⟨w.heap.size,4,none⟩) (Nat.le_refl _) y),
  fun b hb=>by rw [show ((W.setCell ⟨w.heap.size,3,none⟩ x).setCell ⟨w.heap.size,4,none⟩ y).heap.size=W.heap.size by simp [World.setCell]];exact F.i b hb⟩
theorem agW (A:Nat→Prop) (W:World) (u:Nat) (x y:Value):Agr (Two A u) W ((W.setCell ⟨u,3,none⟩ x).setCell ⟨u,4,none⟩ y):=((Agr.refl _ _).setCell (p:=⟨u,3,none⟩) (Or.inr (Or.inl rfl)) x).setCell (p:=⟨u,4,none⟩) (Or.inr (Or.inl rfl)) y
theorem rdW (R:Rd E A w W q (.agg #[x0,x1,x2,x3,x4,x5])) (c a:Int):Rd E A w ((W.setCell ⟨w.heap.size,3,none⟩ (.int .i64 c)).setCell ⟨w.heap.size,4,none⟩ (.int .i64 a)) { q with c:=c,a:=a } (.agg #[x0,x1,x2,.int .i64 c,.int .i64 a,x5]):=⟨by
 obtain ⟨pn,cn,pl,cl,ns,e,k⟩:=R.out.agr (agW A W w.heap.size (.int .i64 c) (.int .i64 a))
 unfold rdV at e
 cases e
 exact ⟨pn,cn,pl,cl,ns,rfl,k⟩⟩
theorem lsW (L:Ls A w W l v) (x y:Value):Ls A w ((W.setCell ⟨w.heap.size,3,none⟩ x).setCell ⟨w.heap.size,4,none⟩ y) l v:=⟨L.out.agr (agW _ _ _ _ _)⟩
theorem tbW (T:Tb w W g ct) (x y:Value):Tb w ((W.setCell ⟨w.heap.size,3,none⟩ x).setCell ⟨w.heap.size,4,none⟩ y) g ct:=⟨T.t.imp fun _ h=>(h.far (p:=⟨w.heap.size,3,none⟩) (by show g≠w.heap.size;have:=T.n;omega) x).far (p:=⟨w.heap.size,4,none⟩) (by show g≠w.heap.size;have:=T.n;omega) y,T.n⟩
theorem lsLen {p:Option Addr}{kl kc:Nat}(L:Ls A w W l (.slice p kl kc)):l.length=kl:=by
 obtain ⟨p',cap,e,_⟩:=L.out
 cases e;rfl
end
end
section
open Go.RowKit
open Tk (T4 bstr)
theorem fnL_len {E:Nat}:∀ {n:Nat}{fb:Bool}{out:List Int}{r:Rs}{q:RL},out.length≤6000000→runV E n (.fnL fb out) r=some q→q.2.length≤6000000
 | 0,_,_,_,_,_,h=>by cases h
 | n+1,fb,out,r,q,ho,h=>by
  have H:Hid (stepV E (runR E (n+6) .expr) (fun e=>runR E (n+6) (.list e)) (runV E n) (.fnL fb out) r=some q):=Lib.hid h
  cases hc:(okR r && !isR E [41] r) with
  | true =>
   obtain ⟨p,_,H⟩:=bnd (ifT H hc)
   obtain ⟨hl,H⟩:=ifN H
   exact fnL_len (by rw [List.length_append];show out.length+1≤_;omega) H.out
  | false =>
   obtain rfl:=sm (ifF H hc)
   exact ho
theorem function_step {E n:Nat}(hex:∀ m,m<n→FnB E 34 #[] (runR E (m+6) .expr)) (hal:FnL E 124 #[.bool false] (runV E n (.all false))) (nk nn nz na:Int) (nt:ByteArray):FnB E 80 #[.agg #[.int .i64 nk,.string nt,.int .i64 nn,.int .i64 nz,.slice none 0 0,.int .i64 na]] (runV E (n+1) (.fn ⟨nk,nt.data.toList,nn,nz,[],na⟩)):=by
 intro A w r q v hA h hf
 have H:Hid (stepV E (runR E (n+6) .expr) (fun e=>runR E (n+6) (.list e)) (runV E n) (.fn ⟨nk,nt.data.toList,nn,nz,[],na⟩) r=some q):=Lib.hid hf
 clear hf
 have f3:=fldT3
 have HA:=Lib.hid hA
 obtain ⟨p0,l0,m0,n0,o0,s0,z0,a0,rfl⟩:=h.parts
 have F:=frF hA h #[.int .i64 nk,.string nt,.int .i64 nn,.int .i64 nz,.slice none 0 0,.int .i64 na] 36 (.cells #[.slice none 0 0,.slice none 0 0,.int .i64 0,.int .i64 0,.int .i64 0,.int .i64 0] 63);have R0:=rdF h (.cells #[.int .i64 nk,.string nt,.int .i64 nn,.int .i64 nz,.slice none 0 0,.int .i64 na] 36) (.cells #[.slice none 0 0,.slice none 0 0,.int .i64 0,.int .i64 0,.int .i64 0,.int .i64 0] 63);have B0:=tbF w (.cells #[.slice p0 l0 m0,.slice n0 o0 s0,.int .i64 E,.int .i64 z0,.int .i64 a0,.int .i64 r.top] 63) (.cells #[.int .i64 nk,.string nt,.int .i64 nn,.int .i64 nz,.slice none 0 0,.int .i64 na] 36) #[.slice none 0 0,.slice none 0 0,.int .i64 0,.int .i64 0,.int .i64 0,.int .i64 0] 63
 clear hA h
 go_enter Tryz.func80,Tryz.ntmps80
 go_wp2_with (go_at_call 71;refine (waC R0 ⟨#[40]⟩ (l:=[40]) rfl).mono ?_)
 rintro e u ⟨_,_,_,_,_,_,_,_,rfl,R1,b⟩;replace F:=frC F b;replace B0:=tbC B0 b;replace R0:=rdC R0 b;clear b
 have c:=F.all;have cB0:=B0.all6;have fB0:=B0.frz6
 replace B0:=tbR B0 R1;clear R0;replace F:=frR F R1;replace R1:=rdR R1
 replace H:=bnd H;obtain ⟨p0,hp,H⟩:=H;have hlen:=fnL_len (Nat.zero_le _) hp.out
 go_wp2
 clear c cB0 fB0
 go_loopg [5,6] n (fun k vo vf wr=>k≤n∧∃ fb,vf=.bool fb∧LwF E A w (w.heap.size+1+1) #[.int .i64 nk,.string nt,.int .i64 nn,.int .i64 nz,.slice none 0 0,.int .i64 na] #[.slice none 0 0,.slice none 0 0,.int .i64 0,.int .i64 0,.int .i64 0,.int .i64 0] (fun rho out=>Hid (runV E k (.fnL fb out) rho=some p0)) vo wr)
 case atStart=>exact ⟨Nat.le_refl _,true,rfl,_,_,_,_,_,_,_,_,_,[],none,0,0,rfl,hp,frO F,rdO R1,owN _ _,B0,lt0N _⟩
 clear F R1 hp B0
 obtain ⟨hk,fb,rfl,rho,p2,l2,m2,n2,o2,s2,z2,a2,out,kp,kl,kc,rfl,hp,F,R2,O,B0,D⟩:=hrel
 cases gk with
 | zero=>cases hp.out
 | succ m =>
  have c:=F.all;have cB0:=B0.all6;have fB0:=B0.frz6
  by_cases i4:okR rho=true
  ·skip
   go_wp2_with (go_at_call 38;refine (okC R2 i4).mono ?_)
   rintro e u ⟨rfl,b⟩;replace F:=frC F b;replace B0:=tbC B0 b;replace R2:=rdC R2 b;replace O:=owC O b;clear b
   replace c:=F.all;replace cB0:=B0.all6;replace fB0:=B0.frz6
   by_cases i7:isR E [41] rho=true
   ·skip
    replace hp:=ifF hp (by rw [i4,i7];rfl)
    go_wp2_with (go_at_call 69;refine (isC R2 ⟨#[41]⟩ i7).mono ?_)
    rintro e u ⟨rfl,b⟩;replace F:=frC F b;replace B0:=tbC B0 b;replace R2:=rdC R2 b;replace O:=owC O b;clear b
    replace c:=F.all;replace cB0:=B0.all6;replace fB0:=B0.frz6
    obtain rfl:=sm hp;dsimp only at H hlen;clear hp
    go_wp2_with (go_at_call 71;refine (waC R2 ⟨#[41]⟩ (l:=[41]) rfl).mono ?_)
    rintro e u ⟨_,_,_,_,_,_,_,_,rfl,R9,b⟩;replace F:=frC F b;replace B0:=tbC B0 b;replace R2:=rdC R2 b;replace O:=owC O b;clear b
    replace c:=F.all;replace cB0:=B0.all6;replace fB0:=B0.frz6
    replace B0:=tbR B0 R9;clear R2;replace O:=owR O R9;replace F:=frR F R9;replace R9:=rdR R9
    go_wp2_with (go_at_call 68;refine (pkC R9).mono ?_)
    rintro e u ⟨k10,x10,y10,t10,rfl,T10,b⟩;replace F:=frC F b;replace B0:=tbC B0 b;replace R9:=rdC R9 b;replace O:=owC O b;clear b
    replace c:=F.all;replace cB0:=B0.all6;replace fB0:=B0.frz6
    go_wp2_with (go_at_call 71;refine (waC R9 ⟨#[123]⟩ (l:=[123]) rfl).mono ?_)
    rintro e u ⟨_,_,_,_,_,_,_,_,rfl,R11,b⟩;replace F:=frC F b;clear R9;replace B0:=tbC B0 b;replace O:=owC O b;clear b
    replace c:=F.all;replace cB0:=B0.all6;replace fB0:=B0.frz6
    replace H:=bnd H;obtain ⟨q12,h12,H⟩:=H
    go_wp2_with (go_at_call 124;refine (flC hal F R11 h12).mono ?_)
    rintro e u ⟨_,_,_,_,_,_,_,_,_,_,_,rfl,R12,L12,b⟩;replace F:=frC F b;clear R11;replace B0:=tbC B0 b;replace O:=owC O b;clear b
    replace c:=F.all;replace cB0:=B0.all6;replace fB0:=B0.frz6
    have E8:=O.ne (g:=u.heap.size) (by simp [st6,World.setCell]);have M8:=B0.ltE (h:=u.heap.size) (by simp [st6,World.setCell])
    have B8:=t6Ne (g:=u.heap.size) F R12 (by simp [st6,World.setCell]);have N8:=B8.n
    replace F:=swFr (frAdB (g:=u.heap.size) F R12 (by simp [st6,World.setCell]));replace B0:=tbB B0 R12;replace L12:=swL (lsAdB (g:=u.heap.size) L12 R12 (by simp [st6,World.setCell]));replace O:=owB O R12;replace R12:=swR (rdAdB (g:=u.heap.size) R12 (by simp [st6,World.setCell]))
    replace H:=bnd H;obtain ⟨q14,h14,H⟩:=H
    go_wp2_with (go_at_call 40;refine (adC F R12 L12 11 0 0 _ ⟨#[]⟩ rfl rfl (ta_ T10) h14).mono ?_)
    rintro e u ⟨_,_,_,_,_,_,_,_,rfl,R14,b⟩;replace F:=frC F b;clear L12;replace B0:=tbC B0 b;replace B8:=tbC B8 b;replace R12:=rdC R12 b;replace O:=owC O b;clear b
    replace c:=F.all;replace cB0:=B0.all6;replace fB0:=B0.frz6;have cB8:=B8.all6;have fB8:=B8.frz6
    replace B0:=tbQo B0 B8 (by omega) R14;replace F:=frQ F N8 R14;replace O:=owM O E8 R14;clear R12;replace B8:=tbQ B8 R14;replace R14:=rdQw R14
    go_wp2
    replace F:=frD F;replace B0:=tbD B0;replace B8:=tbD B8;replace R14:=rdD R14;replace O:=owD O
    refine rg 8 (S:=fun W=>Q6 _ _ _ _ _ _ _ W∧Q6 _ _ _ _ _ _ _ W) ⟨F.heldS,B8.held6⟩ fun hW=>?_
    refine tks hW [0,1,2,3,4] (n:=4) (by kernel_rfl) ?_
    iterate 5 (refine ⟨?_,_,rfl,rfl,fun W hW=>?_,?_⟩;rotate_left;· (simp only [Q6,Q4] at hW;go_simp;(try with_reducible rfl)))
    refine rdy 5 (by kernel_rfl) rfl fun K hK=>?_
    go_simp
    refine hK.out _ _ ⟨(frA F (.cells #[.int .i64 (q14.top)] 3)).heldS,(tbA B8 (.cells #[.int .i64 (q14.top)] 3)).held6⟩ fun hW=>?_
    clear hK K
    obtain ⟨g1,c1,u,hx,F2,R2,O2,G2,D2⟩:=apN F R14 O (by omega) (q14.top) (h:=u.heap.size) (by simp [st6,World.setCell,World.drew])
    have D3:=D2 _ (B0.ltE rfl) D;replace B0:=tbG (tbA B0 (.cells #[.int .i64 (q14.top)] 3)) G2 D.ne;replace B8:=tbG (tbA B8 (.cells #[.int .i64 (q14.top)] 3)) G2 E8
    refine rdy 6 (by kernel_rfl) rfl fun K hK=>?_
    refine apR rfl _ _ rfl rfl rfl rfl hx ?_
    clear F R14 O D D2 G2 hx;have F:=frOff (frX F2);have R14:=rdOff (rdX R2);have L15:=lsXd HA O2 D3;clear F2 R2 O2 D3
    replace c:=F.all;replace cB0:=B0.all6;replace fB0:=B0.frz6;replace cB8:=B8.all6;replace fB8:=B8.frz6
    refine hK.out _ _ ⟨F.heldS,B8.held6⟩ fun hW=>?_
    clear hK K
    replace H:=aln H;obtain ⟨q16,h16,rfl⟩:=H
    refine rdy 7 (by kernel_rfl) rfl fun K hK=>?_
    go_simp
    refine (adC F R14 L15 nk nn nz _ _ rfl rfl rfl h16).mono ?_
    rintro e u ⟨_,_,_,_,_,_,_,_,rfl,R16,b⟩;replace F:=frC F b;clear R14;clear L15;replace B0:=tbC B0 b;replace B8:=tbC B8 b;clear b
    replace c:=F.all;replace cB0:=B0.all6;replace fB0:=B0.frz6;replace cB8:=B8.all6;replace fB8:=B8.frz6
    (try go_wp2_with fail)
    refine hK.out _ _ ⟨F.heldS,B8.held6⟩ fun hW=>?_
    clear hK K
    refine rdl (by kernel_rfl) (by kernel_rfl) rfl fun K hK=>?_
    go_simp
    have NQ:=B0.n;clear B8 cB8 fB8;replace F:=frQ F NQ R16;replace B0:=tbQ B0 R16;replace R16:=rdQ R16;clear NQ
    refine hK.out _ _ ?_
    clear hK K
    go_wp2
    refine (rdOff R16).fin (frOff F) ?_ rfl
    simp [results,Tryz.results80,go_sem,st6,c,cB0]
   ·skip
    replace i7:=bfalse i7
    replace hp:=ifT hp (by rw [i4,i7];rfl)
    go_wp2_with (go_at_call 69;refine (isC R2 ⟨#[41]⟩ i7).mono ?_)
    rintro e u ⟨rfl,b⟩;replace F:=frC F b;replace B0:=tbC B0 b;replace R2:=rdC R2 b;replace O:=owC O b;clear b
    replace c:=F.all;replace cB0:=B0.all6;replace fB0:=B0.frz6
    cases fb
    ·skip
     go_wp2_with (go_at_call 71;refine (waC R2 ⟨#[44]⟩ (l:=[44]) rfl).mono ?_)
     rintro e u ⟨_,_,_,_,_,_,_,_,rfl,R9,b⟩;replace F:=frC F b;replace B0:=tbC B0 b;replace R2:=rdC R2 b;replace O:=owC O b;clear b
     replace c:=F.all;replace cB0:=B0.all6;replace fB0:=B0.frz6
     replace B0:=tbR B0 R9;clear R2;replace O:=owR O R9;replace F:=frR F R9;replace R9:=rdR R9
     replace hp:=bnd hp;obtain ⟨q10,h10,hp⟩:=hp
     go_wp2_with (go_at_call 123;refine (faC (declared_false (hex m (by omega)) 4) F R9 h10).mono ?_)
     rintro e u ⟨_,_,_,_,_,_,_,_,rfl,R10,b⟩;replace F:=frC F b;replace B0:=tbC B0 b;replace R9:=rdC R9 b;replace O:=owC O b;clear b
     replace c:=F.all;replace cB0:=B0.all6;replace fB0:=B0.frz6
     replace B0:=tbR B0 R10;clear R9;replace O:=owR O R10;replace F:=frR F R10;replace R10:=rdR R10
     replace hp:=ifN hp;obtain ⟨hl,hp⟩:=hp
     obtain ⟨g1,c1,u,hx,F2,R2,O2,G2,D2⟩:=apN F R10 O (by omega) (q10.top) (h:=u.heap.size) (by simp [st6,World.setCell])
     have D3:=D2 _ (B0.ltE rfl) D;replace B0:=tbG (tbA B0 (.cells #[.int .i64 (q10.top)] 3)) G2 D.ne
     clear F R10 O D D2 G2;have F:=F2;have R10:=R2;have O:=O2;have D:=D3;clear F2 R2 O2 D3;have c2:=F.all
     go_wp2_with (at_builtin;refine apW rfl _ _ rfl rfl rfl rfl hx ?_)
     clear hx c2
     replace c:=F.all;replace cB0:=B0.all6;replace fB0:=B0.frz6
     go_wp2
     go_roundg m
     case rel=>exact ⟨by omega,false,rfl,_,_,_,_,_,_,_,_,_,_,_,_,_,rfl,hp,F,R10,O,B0,D⟩
     case measure=>omega
    ·skip
     replace hp:=bnd hp;obtain ⟨q9,h9,hp⟩:=hp
     go_wp2_with (go_at_call 123;refine (faC (declared_false (hex m (by omega)) 4) F R2 h9).mono ?_)
     rintro e u ⟨_,_,_,_,_,_,_,_,rfl,R9,b⟩;replace F:=frC F b;replace B0:=tbC B0 b;replace R2:=rdC R2 b;replace O:=owC O b;clear b
     replace c:=F.all;replace cB0:=B0.all6;replace fB0:=B0.frz6
     replace B0:=tbR B0 R9;clear R2;replace O:=owR O R9;replace F:=frR F R9;replace R9:=rdR R9
     replace hp:=ifN hp;obtain ⟨hl,hp⟩:=hp
     obtain ⟨g1,c1,u,hx,F2,R2,O2,G2,D2⟩:=apN F R9 O (by omega) (q9.top) (h:=u.heap.size) (by simp [st6,World.setCell])
     have D3:=D2 _ (B0.ltE rfl) D;replace B0:=tbG (tbA B0 (.cells #[.int .i64 (q9.top)] 3)) G2 D.ne
     clear F R9 O D D2 G2;have F:=F2;have R9:=R2;have O:=O2;have D:=D3;clear F2 R2 O2 D3;have c2:=F.all
     go_wp2_with (at_builtin;refine apW rfl _ _ rfl rfl rfl rfl hx ?_)
     clear hx c2
     replace c:=F.all;replace cB0:=B0.all6;replace fB0:=B0.frz6
     go_wp2
     go_roundg m
     case rel=>exact ⟨by omega,false,rfl,_,_,_,_,_,_,_,_,_,_,_,_,_,rfl,hp,F,R9,O,B0,D⟩
     case measure=>omega
  ·skip
   replace i4:=bfalse i4
   replace hp:=ifF hp (by rw [i4];rfl)
   go_wp2_with (go_at_call 38;refine (okC R2 i4).mono ?_)
   rintro e u ⟨rfl,b⟩;replace F:=frC F b;replace B0:=tbC B0 b;replace R2:=rdC R2 b;replace O:=owC O b;clear b
   replace c:=F.all;replace cB0:=B0.all6;replace fB0:=B0.frz6
   obtain rfl:=sm hp;dsimp only at H hlen;clear hp
   go_wp2_with (go_at_call 71;refine (waC R2 ⟨#[41]⟩ (l:=[41]) rfl).mono ?_)
   rintro e u ⟨_,_,_,_,_,_,_,_,rfl,R6,b⟩;replace F:=frC F b;replace B0:=tbC B0 b;replace R2:=rdC R2 b;replace O:=owC O b;clear b
   replace c:=F.all;replace cB0:=B0.all6;replace fB0:=B0.frz6
   replace B0:=tbR B0 R6;clear R2;replace O:=owR O R6;replace F:=frR F R6;replace R6:=rdR R6
   go_wp2_with (go_at_call 68;refine (pkC R6).mono ?_)
   rintro e u ⟨k7,x7,y7,t7,rfl,T7,b⟩;replace F:=frC F b;replace B0:=tbC B0 b;replace R6:=rdC R6 b;replace O:=owC O b;clear b
   replace c:=F.all;replace cB0:=B0.all6;replace fB0:=B0.frz6
   go_wp2_with (go_at_call 71;refine (waC R6 ⟨#[123]⟩ (l:=[123]) rfl).mono ?_)
   rintro e u ⟨_,_,_,_,_,_,_,_,rfl,R8,b⟩;replace F:=frC F b;clear R6;replace B0:=tbC B0 b;replace O:=owC O b;clear b
   replace c:=F.all;replace cB0:=B0.all6;replace fB0:=B0.frz6
   replace H:=bnd H;obtain ⟨q9,h9,H⟩:=H
   go_wp2_with (go_at_call 124;refine (flC hal F R8 h9).mono ?_)
   rintro e u ⟨_,_,_,_,_,_,_,_,_,_,_,rfl,R9,L9,b⟩;replace F:=frC F b;clear R8;replace B0:=tbC B0 b;replace O:=owC O b;clear b
   replace c:=F.all;replace cB0:=B0.all6;replace fB0:=B0.frz6
   have E8:=O.ne (g:=u.heap.size) (by simp [st6,World.setCell]);have M8:=B0.ltE (h:=u.heap.size) (by simp [st6,World.setCell])
   have B8:=t6Ne (g:=u.heap.size) F R9 (by simp [st6,World.setCell]);have N8:=B8.n
   replace F:=swFr (frAdB (g:=u.heap.size) F R9 (by simp [st6,World.setCell]));replace B0:=tbB B0 R9;replace L9:=swL (lsAdB (g:=u.heap.size) L9 R9 (by simp [st6,World.setCell]));replace O:=owB O R9;replace R9:=swR (rdAdB (g:=u.heap.size) R9 (by simp [st6,World.setCell]))
   replace H:=bnd H;obtain ⟨q11,h11,H⟩:=H
   go_wp2_with (go_at_call 40;refine (adC F R9 L9 11 0 0 _ ⟨#[]⟩ rfl rfl (ta_ T7) h11).mono ?_)
   rintro e u ⟨_,_,_,_,_,_,_,_,rfl,R11,b⟩;replace F:=frC F b;clear L9;replace B0:=tbC B0 b;replace B8:=tbC B8 b;replace R9:=rdC R9 b;replace O:=owC O b;clear b
   replace c:=F.all;replace cB0:=B0.all6;replace fB0:=B0.frz6;have cB8:=B8.all6;have fB8:=B8.frz6
   replace B0:=tbQo B0 B8 (by omega) R11;replace F:=frQ F N8 R11;replace O:=owM O E8 R11;clear R9;replace B8:=tbQ B8 R11;replace R11:=rdQw R11
   go_wp2
   replace F:=frD F;replace B0:=tbD B0;replace B8:=tbD B8;replace R11:=rdD R11;replace O:=owD O
   refine rg 8 (S:=fun W=>Q6 _ _ _ _ _ _ _ W∧Q6 _ _ _ _ _ _ _ W) ⟨F.heldS,B8.held6⟩ fun hW=>?_
   refine tks hW [0,1,2,3,4] (n:=4) (by kernel_rfl) ?_
   iterate 5 (refine ⟨?_,_,rfl,rfl,fun W hW=>?_,?_⟩;rotate_left;· (simp only [Q6,Q4] at hW;go_simp;(try with_reducible rfl)))
   refine rdy 5 (by kernel_rfl) rfl fun K hK=>?_
   go_simp
   refine hK.out _ _ ⟨(frA F (.cells #[.int .i64 (q11.top)] 3)).heldS,(tbA B8 (.cells #[.int .i64 (q11.top)] 3)).held6⟩ fun hW=>?_
   clear hK K
   obtain ⟨g1,c1,u,hx,F2,R2,O2,G2,D2⟩:=apN F R11 O (by omega) (q11.top) (h:=u.heap.size) (by simp [st6,World.setCell,World.drew])
   have D3:=D2 _ (B0.ltE rfl) D;replace B0:=tbG (tbA B0 (.cells #[.int .i64 (q11.top)] 3)) G2 D.ne;replace B8:=tbG (tbA B8 (.cells #[.int .i64 (q11.top)] 3)) G2 E8
   refine rdy 6 (by kernel_rfl) rfl fun K hK=>?_
   refine apR rfl _ _ rfl rfl rfl rfl hx ?_
   clear F R11 O D D2 G2 hx;have F:=frOff (frX F2);have R11:=rdOff (rdX R2);have L12:=lsXd HA O2 D3;clear F2 R2 O2 D3
   replace c:=F.all;replace cB0:=B0.all6;replace fB0:=B0.frz6;replace cB8:=B8.all6;replace fB8:=B8.frz6
   refine hK.out _ _ ⟨F.heldS,B8.held6⟩ fun hW=>?_
   clear hK K
   replace H:=aln H;obtain ⟨q13,h13,rfl⟩:=H
   refine rdy 7 (by kernel_rfl) rfl fun K hK=>?_
   go_simp
   refine (adC F R11 L12 nk nn nz _ _ rfl rfl rfl h13).mono ?_
   rintro e u ⟨_,_,_,_,_,_,_,_,rfl,R13,b⟩;replace F:=frC F b;clear R11;clear L12;replace B0:=tbC B0 b;replace B8:=tbC B8 b;clear b
   replace c:=F.all;replace cB0:=B0.all6;replace fB0:=B0.frz6;replace cB8:=B8.all6;replace fB8:=B8.frz6
   (try go_wp2_with fail)
   refine hK.out _ _ ⟨F.heldS,B8.held6⟩ fun hW=>?_
   clear hK K
   refine rdl (by kernel_rfl) (by kernel_rfl) rfl fun K hK=>?_
   go_simp
   have NQ:=B0.n;clear B8 cB8 fB8;replace F:=frQ F NQ R13;replace B0:=tbQ B0 R13;replace R13:=rdQ R13;clear NQ
   refine hK.out _ _ ?_
   clear hK K
   go_wp2
   refine (rdOff R13).fin (frOff F) ?_ rfl
   simp [results,Tryz.results80,go_sem,st6,c,cB0]
end
section
open Go.RowKit
open Tk (T4 bstr)
theorem top_step {E n:Nat}(hex:FnB E 34 #[] (runR E (n+6) .expr)) (hli:FnL E 81 #[.string ⟨#[125]⟩] (runR E (n+6) (.list [125]))) (hfn:∀ (nk nn nz na:Int) (nt:ByteArray),FnB E 80 #[.agg #[.int .i64 nk,.string nt,.int .i64 nn,.int .i64 nz,.slice none 0 0,.int .i64 na]] (runV E n (.fn ⟨nk,nt.data.toList,nn,nz,[],na⟩))):FnB E 39 #[] (runV E (n+1) .top):=by
 intro A w r q v hA h hf
 have H:Hid (topR E (runR E (n+6) .expr) (fun e=>runR E (n+6) (.list e)) (runV E n) (kindR E true r).2 (pk E (kindR E true r).1.L).t (pk E (kindR E true r).1.L).a (nameR E (kindR E true r).1).1=some q):=Lib.hid ((top_eq _ _ _ _ _).symm.trans hf)
 clear hf
 have f3:=fldT3
 obtain ⟨_,_,_,_,_,_,_,_,rfl⟩:=h.parts
 have F:=frN hA h;have R0:=rdN h
 clear hA h
 go_enter Tryz.func39,Tryz.ntmps39
 go_wp2_with (go_at_call 78;refine (kxC (kind_true E) F R0).mono ?_)
 rintro e u ⟨p1,l1,m1,n1,o1,s1,z1,a1,kd,rfl,R1,HK,b⟩;replace F:=frC F b;replace R0:=rdC R0 b;clear b
 have c:=F.all
 rw [HK.out] at H;clear HK
 clear R0;replace F:=frR F R1;replace R1:=rdR R1
 go_wp2_with (go_at_call 79;refine (naC (name_R E) F R1).mono ?_)
 rintro e u ⟨p2,l2,m2,n2,o2,s2,z2,a2,k2,x2,y2,t2,rfl,R2,T2,b⟩;replace F:=frC F b;replace R1:=rdC R1 b;clear b
 replace c:=F.all
 rw [← tx_ T2,← ta_ T2] at H
 clear R1;replace F:=frR F R2;replace R2:=rdR R2
 have B3:=tbNe (g:=u.heap.size) F k2 y2 t2 x2 (by simp [st6,World.setCell]);have N3:=B3.n
 replace F:=frA F (.cells #[.int .i64 k2,.string x2,.int .i64 y2,.int .i64 t2] 82);replace R2:=rdA R2 (.cells #[.int .i64 k2,.string x2,.int .i64 y2,.int .i64 t2] 82)
 have B5:=tbNg F #[.int .i64 2,.string x2,.int .i64 kd,.int .i64 0,.slice none 0 0,.int .i64 t2] 36 (g:=u.heap.size+1) (by simp [st6,World.setCell]);have N5:=B5.n
 clear B3;replace F:=frAdO F (.cells #[.int .i64 2,.string x2,.int .i64 kd,.int .i64 0,.slice none 0 0,.int .i64 t2] 36) (g:=u.heap.size+1) (by simp [st6,World.setCell]);replace R2:=rdAdO R2 (.cells #[.int .i64 2,.string x2,.int .i64 kd,.int .i64 0,.slice none 0 0,.int .i64 t2] 36) (g:=u.heap.size+1) (by simp [st6,World.setCell])
 by_cases i6:isR E [40] (nameR E (kindR E true r).1).1=true
 ·skip
  replace H:=ifT H i6
  go_wp2_with (go_at_call 69;refine (isC R2 ⟨#[40]⟩ i6).mono ?_)
  rintro e u ⟨rfl,b⟩;replace F:=frC F b;replace B5:=tbC B5 b;replace R2:=rdC R2 b;clear b
  replace c:=F.all;have cB5:=B5.all6;have fB5:=B5.frz6
  replace F:=frM F N5 0 (.int .i64 3);replace B5:=tb60 B5 (.int .i64 3);replace R2:=rdM R2 0 (.int .i64 3)
  go_wp2_with (go_at_call 80;refine (fbC (hfn 3 kd 0 t2 x2) F R2 H).mono ?_)
  rintro e u ⟨_,_,_,_,_,_,_,_,rfl,R8,b⟩;replace F:=frC F b;replace B5:=tbC B5 b;replace R2:=rdC R2 b;clear b
  replace c:=F.all;replace cB5:=B5.all6;replace fB5:=B5.frz6
  replace B5:=tbS B5 R8;replace R2:=rdSo R2 R8;replace F:=frS F R8;replace R8:=rdS R8
  go_wp2
  refine (rdOff R8).fin (frOff F) ?_ rfl
  simp [results,Tryz.results39,go_sem,st6,c,cB5]
 ·skip
  replace i6:=bfalse i6
  replace H:=ifF H i6
  go_wp2_with (go_at_call 69;refine (isC R2 ⟨#[40]⟩ i6).mono ?_)
  rintro e u ⟨rfl,b⟩;replace F:=frC F b;replace B5:=tbC B5 b;replace R2:=rdC R2 b;clear b
  replace c:=F.all;have cB5:=B5.all6;have fB5:=B5.frz6
  by_cases i8:kd=0
  ·skip
   have e7:(kd == 0)=true:=by simp [i8]
   replace H:=ifYes H i8
   go_wp2_with (go_at_call 74;refine (stC R2 1).mono ?_)
   rintro e u ⟨_,_,_,_,_,_,_,_,rfl,R9,b⟩;replace F:=frC F b;replace B5:=tbC B5 b;replace R2:=rdC R2 b;clear b
   replace c:=F.all;replace cB5:=B5.all6;replace fB5:=B5.frz6
   replace B5:=tbS B5 R9;replace R2:=rdSo R2 R9;replace F:=frS F R9;replace R9:=rdS R9
   obtain rfl:=sm H
   go_wp2
   refine (rdOff R9).fin (frOff F) ?_ rfl
   simp [results,Tryz.results39,go_sem,st6,c,cB5]
  ·skip
   have e7:(kd == 0)=false:=by simp [i8]
   replace H:=ifNo H i8
   by_cases i9:kd=1
   ·skip
    have e10:(kd == 1)=true:=by simp [i9]
    replace i9:=Lib.hid i9
    by_cases i11:isR E [91] (nameR E (kindR E true r).1).1=true
    ·skip
     replace H:=ifT H (by rw [decide_eq_true i9.out,i11];rfl)
     go_wp2_with (go_at_call 69;refine (isC R2 ⟨#[91]⟩ i11).mono ?_)
     rintro e u ⟨rfl,b⟩;replace F:=frC F b;replace B5:=tbC B5 b;replace R2:=rdC R2 b;clear b
     replace c:=F.all;replace cB5:=B5.all6;replace fB5:=B5.frz6
     go_wp2_with (go_at_call 70;refine (skC R2).mono ?_)
     rintro e u ⟨_,_,_,_,_,_,_,_,rfl,R13,b⟩;replace F:=frC F b;replace B5:=tbC B5 b;replace R2:=rdC R2 b;clear b
     replace c:=F.all;replace cB5:=B5.all6;replace fB5:=B5.frz6
     replace B5:=tbR B5 R13;clear R2;replace F:=frR F R13;replace R13:=rdR R13
     go_wp2_with (go_at_call 68;refine (pkC R13).mono ?_)
     rintro e u ⟨k14,x14,y14,t14,rfl,T14,b⟩;replace F:=frC F b;replace B5:=tbC B5 b;replace R13:=rdC R13 b;clear b
     replace c:=F.all;replace cB5:=B5.all6;replace fB5:=B5.frz6
     have M15B5:=B5.ltE (h:=u.heap.size) (by simp [st6,World.setCell])
     have B15:=tbNe (g:=u.heap.size) F k14 y14 t14 x14 (by simp [st6,World.setCell]);have N15:=B15.n
     replace F:=frA F (.cells #[.int .i64 k14,.string x14,.int .i64 y14,.int .i64 t14] 82);replace B5:=tbA B5 (.cells #[.int .i64 k14,.string x14,.int .i64 y14,.int .i64 t14] 82);replace R13:=rdA R13 (.cells #[.int .i64 k14,.string x14,.int .i64 y14,.int .i64 t14] 82)
     by_cases i16:(pk E (skipR (nameR E (kindR E true r).1).1).L).k=2
     ·skip
      have k16q:=kdT T14 (z:=2) rfl i16
      replace H:=ifYes H i16
      rw [← tv_ T14] at H;by_cases i17:y14<1∨200<y14
      ·skip
       replace H:=ifYes H (by have:=tv_ T14;omega)
       go_wp2_with (go_at_call 42;refine (inC _ (n:=y14) (a:=1) (b:=200) (t:=false) (by simp;omega)).mono ?_)
       rintro e u ⟨rfl,b⟩;replace F:=frC F b;replace B5:=tbC B5 b;replace B15:=tbC B15 b;replace R13:=rdC R13 b;clear b
       replace c:=F.all;replace cB5:=B5.all6;replace fB5:=B5.frz6;have cB15:=B15.all
       go_wp2_with (go_at_call 74;refine (stC R13 3).mono ?_)
       rintro e u ⟨_,_,_,_,_,_,_,_,rfl,R19,b⟩;replace F:=frC F b;replace B5:=tbC B5 b;replace B15:=tbC B15 b;replace R13:=rdC R13 b;clear b
       replace c:=F.all;replace cB5:=B5.all6;replace fB5:=B5.frz6;replace cB15:=B15.all
       replace B5:=tbS B5 R19;replace B15:=tbS B15 R19;replace R13:=rdSo R13 R19;replace F:=frS F R19;replace R19:=rdS R19
       obtain rfl:=sm H
       go_wp2
       refine (rdOff R19).fin (frOff F) ?_ rfl
       simp [results,Tryz.results39,go_sem,st6,c,cB5,cB15]
      ·skip
       replace H:=ifNo H (by have:=tv_ T14;omega)
       go_wp2_with (go_at_call 42;refine (inC _ (n:=y14) (a:=1) (b:=200) (t:=true) (by simp;omega)).mono ?_)
       rintro e u ⟨rfl,b⟩;replace F:=frC F b;replace B5:=tbC B5 b;replace B15:=tbC B15 b;replace R13:=rdC R13 b;clear b
       replace c:=F.all;replace cB5:=B5.all6;replace fB5:=B5.frz6;have cB15:=B15.all
       replace B15:=tbMq B15 B5 (by omega) 2 (.int .i64 3);replace F:=frM F N5 2 (.int .i64 3);replace B5:=tb62 B5 (.int .i64 3);replace R13:=rdM R13 2 (.int .i64 3)
       replace B15:=tbMq B15 B5 (by omega) 3 (.int .i64 y14);replace F:=frM F N5 3 (.int .i64 y14);replace B5:=tb63 B5 (.int .i64 y14);replace R13:=rdM R13 3 (.int .i64 y14)
       go_wp2_with (go_at_call 70;refine (skC R13).mono ?_)
       rintro e u ⟨_,_,_,_,_,_,_,_,rfl,R19,b⟩;replace F:=frC F b;clear B15 cB15;replace B5:=tbC B5 b;replace R13:=rdC R13 b;clear b
       replace c:=F.all;replace cB5:=B5.all6;replace fB5:=B5.frz6
       go_wp2_with (go_at_call 71;refine (waC R19 ⟨#[93]⟩ (l:=[93]) rfl).mono ?_)
       rintro e u ⟨_,_,_,_,_,_,_,_,rfl,R20,b⟩;replace F:=frC F b;clear R19;replace B5:=tbC B5 b;replace R13:=rdC R13 b;clear b
       replace c:=F.all;replace cB5:=B5.all6;replace fB5:=B5.frz6
       replace B5:=tbR B5 R20;clear R13;replace F:=frR F R20;replace R20:=rdR R20
       by_cases i22:isR E [61] (wantR E [93] (skipR (skipR (nameR E (kindR E true r).1).1)))=true
       ·skip
        replace H:=bnd H;obtain ⟨qv,hv,H⟩:=H;replace hv:=ifT hv i22
        go_wp2_with (go_at_call 69;refine (isC R20 ⟨#[61]⟩ i22).mono ?_)
        rintro e u ⟨rfl,b⟩;replace F:=frC F b;replace B5:=tbC B5 b;replace R20:=rdC R20 b;clear b
        replace c:=F.all;replace cB5:=B5.all6;replace fB5:=B5.frz6
        go_wp2_with (go_at_call 70;refine (skC R20).mono ?_)
        rintro e u ⟨_,_,_,_,_,_,_,_,rfl,R24,b⟩;replace F:=frC F b;replace B5:=tbC B5 b;replace R20:=rdC R20 b;clear b
        replace c:=F.all;replace cB5:=B5.all6;replace fB5:=B5.frz6
        replace B5:=tbR B5 R24;clear R20;replace F:=frR F R24;replace R24:=rdR R24
        go_wp2_with (go_at_call 68;refine (pkC R24).mono ?_)
        rintro e u ⟨k25,x25,y25,t25,rfl,T25,b⟩;replace F:=frC F b;replace B5:=tbC B5 b;replace R24:=rdC R24 b;clear b
        replace c:=F.all;replace cB5:=B5.all6;replace fB5:=B5.frz6
        go_wp2_with (go_at_call 71;refine (waC R24 ⟨#[123]⟩ (l:=[123]) rfl).mono ?_)
        rintro e u ⟨_,_,_,_,_,_,_,_,rfl,R26,b⟩;replace F:=frC F b;replace B5:=tbC B5 b;replace R24:=rdC R24 b;clear b
        replace c:=F.all;replace cB5:=B5.all6;replace fB5:=B5.frz6
        replace hv:=bnd hv;obtain ⟨q27,h27,hv⟩:=hv
        go_wp2_with (go_at_call 81;refine (flC hli F R26 h27).mono ?_)
        rintro e u ⟨_,_,_,_,_,_,_,_,_,kl27,_,rfl,R27,L27,b⟩;replace F:=frC F b;clear R26;replace B5:=tbC B5 b;replace R24:=rdC R24 b;clear b
        replace c:=F.all;replace cB5:=B5.all6;replace fB5:=B5.frz6
        replace B5:=tbR B5 R27;clear R24;replace L27:=lsR L27 R27;replace F:=frR F R27;replace R27:=rdR R27
        replace F:=frB F R27;replace B5:=tbB B5 R27;replace L27:=lsB L27 R27;replace R27:=rdB R27
        by_cases i29:okR q27.1=true
        ·skip
         go_wp2_with (go_at_call 38;refine (okC R27 i29).mono ?_)
         rintro e u ⟨rfl,b⟩;replace F:=frC F b;replace B5:=tbC B5 b;replace R27:=rdC R27 b;replace L27:=lsC L27 b;clear b
         replace c:=F.all;replace cB5:=B5.all6;replace fB5:=B5.frz6
         by_cases i31:y14<(kl27:Int)
         ·skip
          have e26:decide (y14<(kl27:Int))=true:=decide_eq_true i31
          replace hv:=ifT hv (by rw [i29,Bool.true_and,lsLen L27];exact e26);obtain rfl:=sm hv;(try dsimp only at H);clear hv
          go_wp2_with (go_at_call 47;refine (ftC _ 9 t25).mono ?_)
          rintro e u ⟨rfl,b⟩;replace F:=frC F b;replace B5:=tbC B5 b;replace R27:=rdC R27 b;replace L27:=lsC L27 b;clear b
          replace c:=F.all;replace cB5:=B5.all6;replace fB5:=B5.frz6
          replace B5:=tbW B5 (.int .i64 9) (.int .i64 t25);replace L27:=lsW L27 (.int .i64 9) (.int .i64 t25);replace F:=frW F (.int .i64 9) (.int .i64 t25);replace R27:=rdW R27 9 t25;rw [← ta_ T25] at H
          go_wp2
          replace F:=frD F;replace B5:=tbD B5;replace R27:=rdD R27;replace L27:=lsD L27
          refine rg 5 (S:=fun W=>Q6 _ _ _ _ _ _ _ W∧Q6 _ _ _ _ _ _ _ W) ⟨F.held,B5.held6⟩ fun hW=>?_
          refine tks hW [0,2,3] (n:=3) (by kernel_rfl) ?_
          iterate 3 (refine ⟨?_,_,rfl,rfl,fun W hW=>?_,?_⟩;rotate_left;· (simp only [Q6,Q4] at hW;go_simp;(try with_reducible rfl)))
          refine rdy 1 (by kernel_rfl) rfl fun K hK=>?_
          go_simp
          refine (waC R27 ⟨#[59]⟩ (l:=[59]) rfl).mono ?_
          rintro e u ⟨_,_,_,_,_,_,_,_,rfl,R33,b⟩;replace F:=frC F b;clear R27;replace B5:=tbC B5 b;replace L27:=lsC L27 b;clear b
          replace c:=F.all;replace cB5:=B5.all6;replace fB5:=B5.frz6
          (try go_wp2_with fail)
          refine hK.out _ _ ⟨F.held,B5.held6⟩ fun hW=>?_
          clear hK K
          replace H:=aln H;obtain ⟨q34,h34,rfl⟩:=H
          refine rdy 4 (by kernel_rfl) rfl fun K hK=>?_
          go_simp
          refine (adC F R33 L27 2 3 y14 _ _ rfl rfl rfl h34).mono ?_
          rintro e u ⟨_,_,_,_,_,_,_,_,rfl,R34,b⟩;replace F:=frC F b;clear R33;clear L27;replace B5:=tbC B5 b;clear b
          replace c:=F.all;replace cB5:=B5.all6;replace fB5:=B5.frz6
          (try go_wp2_with fail)
          refine hK.out _ _ ⟨F.held,B5.held6⟩ fun hW=>?_
          clear hK K
          refine rdl (by kernel_rfl) (by kernel_rfl) rfl fun K hK=>?_
          go_simp
          replace B5:=tbS B5 R34;replace F:=frS F R34;replace R34:=rdS R34
          refine hK.out _ _ ?_
          clear hK K
          go_wp2
          refine (rdOff R34).fin (frOff F) ?_ rfl
          simp [results,Tryz.results39,go_sem,st6,c,cB5]
         ·skip
          have e26:decide (y14<(kl27:Int))=false:=decide_eq_false i31
          replace hv:=ifF hv (by rw [i29,Bool.true_and,lsLen L27];exact e26);obtain rfl:=sm hv;(try dsimp only at H);clear hv
          go_wp2
          replace F:=frD F;replace B5:=tbD B5;replace R27:=rdD R27;replace L27:=lsD L27
          refine rg 5 (S:=fun W=>Q6 _ _ _ _ _ _ _ W∧Q6 _ _ _ _ _ _ _ W) ⟨F.held,B5.held6⟩ fun hW=>?_
          refine tks hW [0,2,3] (n:=3) (by kernel_rfl) ?_
          iterate 3 (refine ⟨?_,_,rfl,rfl,fun W hW=>?_,?_⟩;rotate_left;· (simp only [Q6,Q4] at hW;go_simp;(try with_reducible rfl)))
          refine rdy 1 (by kernel_rfl) rfl fun K hK=>?_
          go_simp
          refine (waC R27 ⟨#[59]⟩ (l:=[59]) rfl).mono ?_
          rintro e u ⟨_,_,_,_,_,_,_,_,rfl,R32,b⟩;replace F:=frC F b;clear R27;replace B5:=tbC B5 b;replace L27:=lsC L27 b;clear b
          replace c:=F.all;replace cB5:=B5.all6;replace fB5:=B5.frz6
          (try go_wp2_with fail)
          refine hK.out _ _ ⟨F.held,B5.held6⟩ fun hW=>?_
          clear hK K
          replace H:=aln H;obtain ⟨q33,h33,rfl⟩:=H
          refine rdy 4 (by kernel_rfl) rfl fun K hK=>?_
          go_simp
          refine (adC F R32 L27 2 3 y14 _ _ rfl rfl rfl h33).mono ?_
          rintro e u ⟨_,_,_,_,_,_,_,_,rfl,R33,b⟩;replace F:=frC F b;clear R32;clear L27;replace B5:=tbC B5 b;clear b
          replace c:=F.all;replace cB5:=B5.all6;replace fB5:=B5.frz6
          (try go_wp2_with fail)
          refine hK.out _ _ ⟨F.held,B5.held6⟩ fun hW=>?_
          clear hK K
          refine rdl (by kernel_rfl) (by kernel_rfl) rfl fun K hK=>?_
          go_simp
          replace B5:=tbS B5 R33;replace F:=frS F R33;replace R33:=rdS R33
          refine hK.out _ _ ?_
          clear hK K
          go_wp2
          refine (rdOff R33).fin (frOff F) ?_ rfl
          simp [results,Tryz.results39,go_sem,st6,c,cB5]
        ·skip
         replace i29:=bfalse i29
         replace hv:=ifF hv (by rw [i29];rfl);obtain rfl:=sm hv;(try dsimp only at H);clear hv
         go_wp2_with (go_at_call 38;refine (okC R27 i29).mono ?_)
         rintro e u ⟨rfl,b⟩;replace F:=frC F b;replace B5:=tbC B5 b;replace R27:=rdC R27 b;replace L27:=lsC L27 b;clear b
         replace c:=F.all;replace cB5:=B5.all6;replace fB5:=B5.frz6
         go_wp2
         replace F:=frD F;replace B5:=tbD B5;replace R27:=rdD R27;replace L27:=lsD L27
         refine rg 5 (S:=fun W=>Q6 _ _ _ _ _ _ _ W∧Q6 _ _ _ _ _ _ _ W) ⟨F.held,B5.held6⟩ fun hW=>?_
         refine tks hW [0,2,3] (n:=3) (by kernel_rfl) ?_
         iterate 3 (refine ⟨?_,_,rfl,rfl,fun W hW=>?_,?_⟩;rotate_left;· (simp only [Q6,Q4] at hW;go_simp;(try with_reducible rfl)))
         refine rdy 1 (by kernel_rfl) rfl fun K hK=>?_
         go_simp
         refine (waC R27 ⟨#[59]⟩ (l:=[59]) rfl).mono ?_
         rintro e u ⟨_,_,_,_,_,_,_,_,rfl,R31,b⟩;replace F:=frC F b;clear R27;replace B5:=tbC B5 b;replace L27:=lsC L27 b;clear b
         replace c:=F.all;replace cB5:=B5.all6;replace fB5:=B5.frz6
         (try go_wp2_with fail)
         refine hK.out _ _ ⟨F.held,B5.held6⟩ fun hW=>?_
         clear hK K
         replace H:=aln H;obtain ⟨q32,h32,rfl⟩:=H
         refine rdy 4 (by kernel_rfl) rfl fun K hK=>?_
         go_simp
         refine (adC F R31 L27 2 3 y14 _ _ rfl rfl rfl h32).mono ?_
         rintro e u ⟨_,_,_,_,_,_,_,_,rfl,R32,b⟩;replace F:=frC F b;clear R31;clear L27;replace B5:=tbC B5 b;clear b
         replace c:=F.all;replace cB5:=B5.all6;replace fB5:=B5.frz6
         (try go_wp2_with fail)
         refine hK.out _ _ ⟨F.held,B5.held6⟩ fun hW=>?_
         clear hK K
         refine rdl (by kernel_rfl) (by kernel_rfl) rfl fun K hK=>?_
         go_simp
         replace B5:=tbS B5 R32;replace F:=frS F R32;replace R32:=rdS R32
         refine hK.out _ _ ?_
         clear hK K
         go_wp2
         refine (rdOff R32).fin (frOff F) ?_ rfl
         simp [results,Tryz.results39,go_sem,st6,c,cB5]
       ·skip
        replace i22:=bfalse i22
        replace H:=bnd H;obtain ⟨qv,hv,H⟩:=H;replace hv:=ifF hv i22
        obtain rfl:=sm hv;(try dsimp only at H);clear hv
        go_wp2_with (go_at_call 69;refine (isC R20 ⟨#[61]⟩ i22).mono ?_)
        rintro e u ⟨rfl,b⟩;replace F:=frC F b;replace B5:=tbC B5 b;replace R20:=rdC R20 b;clear b
        replace c:=F.all;replace cB5:=B5.all6;replace fB5:=B5.frz6
        go_wp2
        replace F:=frD F;replace B5:=tbD B5;replace R20:=rdD R20
        refine rg 5 (S:=fun W=>Q6 _ _ _ _ _ _ _ W∧Q6 _ _ _ _ _ _ _ W) ⟨F.held,B5.held6⟩ fun hW=>?_
        refine tks hW [0,2,3] (n:=3) (by kernel_rfl) ?_
        iterate 3 (refine ⟨?_,_,rfl,rfl,fun W hW=>?_,?_⟩;rotate_left;· (simp only [Q6,Q4] at hW;go_simp;(try with_reducible rfl)))
        refine rdy 1 (by kernel_rfl) rfl fun K hK=>?_
        go_simp
        refine (waC R20 ⟨#[59]⟩ (l:=[59]) rfl).mono ?_
        rintro e u ⟨_,_,_,_,_,_,_,_,rfl,R24,b⟩;replace F:=frC F b;clear R20;replace B5:=tbC B5 b;clear b
        replace c:=F.all;replace cB5:=B5.all6;replace fB5:=B5.frz6
        (try go_wp2_with fail)
        refine hK.out _ _ ⟨F.held,B5.held6⟩ fun hW=>?_
        clear hK K
        replace H:=aln H;obtain ⟨q25,h25,rfl⟩:=H
        refine rdy 4 (by kernel_rfl) rfl fun K hK=>?_
        go_simp
        refine (adC F R24 (nilL _ _ _) 2 3 y14 _ _ rfl rfl rfl h25).mono ?_
        rintro e u ⟨_,_,_,_,_,_,_,_,rfl,R25,b⟩;replace F:=frC F b;clear R24;replace B5:=tbC B5 b;clear b
        replace c:=F.all;replace cB5:=B5.all6;replace fB5:=B5.frz6
        (try go_wp2_with fail)
        refine hK.out _ _ ⟨F.held,B5.held6⟩ fun hW=>?_
        clear hK K
        refine rdl (by kernel_rfl) (by kernel_rfl) rfl fun K hK=>?_
        go_simp
        replace B5:=tbS B5 R25;replace F:=frS F R25;replace R25:=rdS R25
        refine hK.out _ _ ?_
        clear hK K
        go_wp2
        refine (rdOff R25).fin (frOff F) ?_ rfl
        simp [results,Tryz.results39,go_sem,st6,c,cB5]
     ·skip
      have k16q:=kdF T14 (z:=2) rfl i16
      replace H:=ifNo H i16
      go_wp2_with (go_at_call 74;refine (stC R13 1).mono ?_)
      rintro e u ⟨_,_,_,_,_,_,_,_,rfl,R17,b⟩;replace F:=frC F b;replace B5:=tbC B5 b;replace B15:=tbC B15 b;replace R13:=rdC R13 b;clear b
      replace c:=F.all;replace cB5:=B5.all6;replace fB5:=B5.frz6;have cB15:=B15.all
      replace B5:=tbS B5 R17;replace B15:=tbS B15 R17;replace R13:=rdSo R13 R17;replace F:=frS F R17;replace R17:=rdS R17
      obtain rfl:=sm H
      go_wp2
      refine (rdOff R17).fin (frOff F) ?_ rfl
      simp [results,Tryz.results39,go_sem,st6,c,cB5,cB15]
    ·skip
     replace i11:=bfalse i11
     replace H:=ifF H (by rw [decide_eq_true i9.out,i11];rfl)
     go_wp2_with (go_at_call 69;refine (isC R2 ⟨#[91]⟩ i11).mono ?_)
     rintro e u ⟨rfl,b⟩;replace F:=frC F b;replace B5:=tbC B5 b;replace R2:=rdC R2 b;clear b
     replace c:=F.all;replace cB5:=B5.all6;replace fB5:=B5.frz6
     by_cases i14:isR E [61] (nameR E (kindR E true r).1).1=true
     ·skip
      replace H:=ifT H i14
      go_wp2_with (go_at_call 69;refine (isC R2 ⟨#[61]⟩ i14).mono ?_)
      rintro e u ⟨rfl,b⟩;replace F:=frC F b;replace B5:=tbC B5 b;replace R2:=rdC R2 b;clear b
      replace c:=F.all;replace cB5:=B5.all6;replace fB5:=B5.frz6
      go_wp2_with (go_at_call 70;refine (skC R2).mono ?_)
      rintro e u ⟨_,_,_,_,_,_,_,_,rfl,R16,b⟩;replace F:=frC F b;replace B5:=tbC B5 b;replace R2:=rdC R2 b;clear b
      replace c:=F.all;replace cB5:=B5.all6;replace fB5:=B5.frz6
      replace H:=bnd H;obtain ⟨q17,h17,H⟩:=H
      go_wp2_with (go_at_call 34;refine (fbC hex F R16 h17).mono ?_)
      rintro e u ⟨_,_,_,_,_,_,_,_,rfl,R17,b⟩;replace F:=frC F b;clear R16;replace B5:=tbC B5 b;replace R2:=rdC R2 b;clear b
      replace c:=F.all;replace cB5:=B5.all6;replace fB5:=B5.frz6
      replace B5:=tbR B5 R17;clear R2;replace F:=frR F R17;replace R17:=rdR R17
      go_wp2_with (go_at_call 82;refine (oneC F _).mono ?_)
      rintro e u ⟨p18,rfl,L18,b⟩;replace F:=frC F b;replace B5:=tbC B5 b;replace R17:=rdC R17 b;clear b
      replace c:=F.all;replace cB5:=B5.all6;replace fB5:=B5.frz6
      go_wp2
      replace F:=frD F;replace B5:=tbD B5;replace R17:=rdD R17;replace L18:=lsD L18
      refine rg 5 (S:=fun W=>Q6 _ _ _ _ _ _ _ W∧Q6 _ _ _ _ _ _ _ W) ⟨F.held,B5.held6⟩ fun hW=>?_
      refine tks hW [0,2,3] (n:=3) (by kernel_rfl) ?_
      iterate 3 (refine ⟨?_,_,rfl,rfl,fun W hW=>?_,?_⟩;rotate_left;· (simp only [Q6,Q4] at hW;go_simp;(try with_reducible rfl)))
      refine rdy 1 (by kernel_rfl) rfl fun K hK=>?_
      go_simp
      refine (waC R17 ⟨#[59]⟩ (l:=[59]) rfl).mono ?_
      rintro e u ⟨_,_,_,_,_,_,_,_,rfl,R19,b⟩;replace F:=frC F b;clear R17;replace B5:=tbC B5 b;replace L18:=lsC L18 b;clear b
      replace c:=F.all;replace cB5:=B5.all6;replace fB5:=B5.frz6
      (try go_wp2_with fail)
      refine hK.out _ _ ⟨F.held,B5.held6⟩ fun hW=>?_
      clear hK K
      replace H:=aln H;obtain ⟨q20,h20,rfl⟩:=H
      refine rdy 4 (by kernel_rfl) rfl fun K hK=>?_
      go_simp
      refine (adC F R19 L18 2 kd 0 _ _ rfl rfl rfl h20).mono ?_
      rintro e u ⟨_,_,_,_,_,_,_,_,rfl,R20,b⟩;replace F:=frC F b;clear R19;clear L18;replace B5:=tbC B5 b;clear b
      replace c:=F.all;replace cB5:=B5.all6;replace fB5:=B5.frz6
      (try go_wp2_with fail)
      refine hK.out _ _ ⟨F.held,B5.held6⟩ fun hW=>?_
      clear hK K
      refine rdl (by kernel_rfl) (by kernel_rfl) rfl fun K hK=>?_
      go_simp
      replace B5:=tbS B5 R20;replace F:=frS F R20;replace R20:=rdS R20
      refine hK.out _ _ ?_
      clear hK K
      go_wp2
      refine (rdOff R20).fin (frOff F) ?_ rfl
      simp [results,Tryz.results39,go_sem,st6,c,cB5]
     ·skip
      replace i14:=bfalse i14
      replace H:=ifF H i14
      go_wp2_with (go_at_call 69;refine (isC R2 ⟨#[61]⟩ i14).mono ?_)
      rintro e u ⟨rfl,b⟩;replace F:=frC F b;replace B5:=tbC B5 b;replace R2:=rdC R2 b;clear b
      replace c:=F.all;replace cB5:=B5.all6;replace fB5:=B5.frz6
      go_wp2
      replace F:=frD F;replace B5:=tbD B5;replace R2:=rdD R2
      refine rg 5 (S:=fun W=>Q6 _ _ _ _ _ _ _ W∧Q6 _ _ _ _ _ _ _ W) ⟨F.held,B5.held6⟩ fun hW=>?_
      refine tks hW [0,2,3] (n:=3) (by kernel_rfl) ?_
      iterate 3 (refine ⟨?_,_,rfl,rfl,fun W hW=>?_,?_⟩;rotate_left;· (simp only [Q6,Q4] at hW;go_simp;(try with_reducible rfl)))
      refine rdy 1 (by kernel_rfl) rfl fun K hK=>?_
      go_simp
      refine (waC R2 ⟨#[59]⟩ (l:=[59]) rfl).mono ?_
      rintro e u ⟨_,_,_,_,_,_,_,_,rfl,R16,b⟩;replace F:=frC F b;clear R2;replace B5:=tbC B5 b;clear b
      replace c:=F.all;replace cB5:=B5.all6;replace fB5:=B5.frz6
      (try go_wp2_with fail)
      refine hK.out _ _ ⟨F.held,B5.held6⟩ fun hW=>?_
      clear hK K
      replace H:=aln H;obtain ⟨q17,h17,rfl⟩:=H
      refine rdy 4 (by kernel_rfl) rfl fun K hK=>?_
      go_simp
      refine (adC F R16 (nilL _ _ _) 2 kd 0 _ _ rfl rfl rfl h17).mono ?_
      rintro e u ⟨_,_,_,_,_,_,_,_,rfl,R17,b⟩;replace F:=frC F b;clear R16;replace B5:=tbC B5 b;clear b
      replace c:=F.all;replace cB5:=B5.all6;replace fB5:=B5.frz6
      (try go_wp2_with fail)
      refine hK.out _ _ ⟨F.held,B5.held6⟩ fun hW=>?_
      clear hK K
      refine rdl (by kernel_rfl) (by kernel_rfl) rfl fun K hK=>?_
      go_simp
      replace B5:=tbS B5 R17;replace F:=frS F R17;replace R17:=rdS R17
      refine hK.out _ _ ?_
      clear hK K
      go_wp2
      refine (rdOff R17).fin (frOff F) ?_ rfl
      simp [results,Tryz.results39,go_sem,st6,c,cB5]
   ·skip
    have e10:(kd == 1)=false:=by simp [i9]
    replace i9:=Lib.hid i9
    replace H:=ifF H (by rw [decide_eq_false i9.out];rfl)
    by_cases i11:isR E [61] (nameR E (kindR E true r).1).1=true
    ·skip
     replace H:=ifT H i11
     go_wp2_with (go_at_call 69;refine (isC R2 ⟨#[61]⟩ i11).mono ?_)
     rintro e u ⟨rfl,b⟩;replace F:=frC F b;replace B5:=tbC B5 b;replace R2:=rdC R2 b;clear b
     replace c:=F.all;replace cB5:=B5.all6;replace fB5:=B5.frz6
     go_wp2_with (go_at_call 70;refine (skC R2).mono ?_)
     rintro e u ⟨_,_,_,_,_,_,_,_,rfl,R13,b⟩;replace F:=frC F b;replace B5:=tbC B5 b;replace R2:=rdC R2 b;clear b
     replace c:=F.all;replace cB5:=B5.all6;replace fB5:=B5.frz6
     replace H:=bnd H;obtain ⟨q14,h14,H⟩:=H
     go_wp2_with (go_at_call 34;refine (fbC hex F R13 h14).mono ?_)
     rintro e u ⟨_,_,_,_,_,_,_,_,rfl,R14,b⟩;replace F:=frC F b;clear R13;replace B5:=tbC B5 b;replace R2:=rdC R2 b;clear b
     replace c:=F.all;replace cB5:=B5.all6;replace fB5:=B5.frz6
     replace B5:=tbR B5 R14;clear R2;replace F:=frR F R14;replace R14:=rdR R14
     go_wp2_with (go_at_call 82;refine (oneC F _).mono ?_)
     rintro e u ⟨p15,rfl,L15,b⟩;replace F:=frC F b;replace B5:=tbC B5 b;replace R14:=rdC R14 b;clear b
     replace c:=F.all;replace cB5:=B5.all6;replace fB5:=B5.frz6
     go_wp2
     replace F:=frD F;replace B5:=tbD B5;replace R14:=rdD R14;replace L15:=lsD L15
     refine rg 5 (S:=fun W=>Q6 _ _ _ _ _ _ _ W∧Q6 _ _ _ _ _ _ _ W) ⟨F.held,B5.held6⟩ fun hW=>?_
     refine tks hW [0,2,3] (n:=3) (by kernel_rfl) ?_
     iterate 3 (refine ⟨?_,_,rfl,rfl,fun W hW=>?_,?_⟩;rotate_left;· (simp only [Q6,Q4] at hW;go_simp;(try with_reducible rfl)))
     refine rdy 1 (by kernel_rfl) rfl fun K hK=>?_
     go_simp
     refine (waC R14 ⟨#[59]⟩ (l:=[59]) rfl).mono ?_
     rintro e u ⟨_,_,_,_,_,_,_,_,rfl,R16,b⟩;replace F:=frC F b;clear R14;replace B5:=tbC B5 b;replace L15:=lsC L15 b;clear b
     replace c:=F.all;replace cB5:=B5.all6;replace fB5:=B5.frz6
     (try go_wp2_with fail)
     refine hK.out _ _ ⟨F.held,B5.held6⟩ fun hW=>?_
     clear hK K
     replace H:=aln H;obtain ⟨q17,h17,rfl⟩:=H
     refine rdy 4 (by kernel_rfl) rfl fun K hK=>?_
     go_simp
     refine (adC F R16 L15 2 kd 0 _ _ rfl rfl rfl h17).mono ?_
     rintro e u ⟨_,_,_,_,_,_,_,_,rfl,R17,b⟩;replace F:=frC F b;clear R16;clear L15;replace B5:=tbC B5 b;clear b
     replace c:=F.all;replace cB5:=B5.all6;replace fB5:=B5.frz6
     (try go_wp2_with fail)
     refine hK.out _ _ ⟨F.held,B5.held6⟩ fun hW=>?_
     clear hK K
     refine rdl (by kernel_rfl) (by kernel_rfl) rfl fun K hK=>?_
     go_simp
     replace B5:=tbS B5 R17;replace F:=frS F R17;replace R17:=rdS R17
     refine hK.out _ _ ?_
     clear hK K
     go_wp2
     refine (rdOff R17).fin (frOff F) ?_ rfl
     simp [results,Tryz.results39,go_sem,st6,c,cB5]
    ·skip
     replace i11:=bfalse i11
     replace H:=ifF H i11
     go_wp2_with (go_at_call 69;refine (isC R2 ⟨#[61]⟩ i11).mono ?_)
     rintro e u ⟨rfl,b⟩;replace F:=frC F b;replace B5:=tbC B5 b;replace R2:=rdC R2 b;clear b
     replace c:=F.all;replace cB5:=B5.all6;replace fB5:=B5.frz6
     go_wp2
     replace F:=frD F;replace B5:=tbD B5;replace R2:=rdD R2
     refine rg 5 (S:=fun W=>Q6 _ _ _ _ _ _ _ W∧Q6 _ _ _ _ _ _ _ W) ⟨F.held,B5.held6⟩ fun hW=>?_
     refine tks hW [0,2,3] (n:=3) (by kernel_rfl) ?_
     iterate 3 (refine ⟨?_,_,rfl,rfl,fun W hW=>?_,?_⟩;rotate_left;· (simp only [Q6,Q4] at hW;go_simp;(try with_reducible rfl)))
     refine rdy 1 (by kernel_rfl) rfl fun K hK=>?_
     go_simp
     refine (waC R2 ⟨#[59]⟩ (l:=[59]) rfl).mono ?_
     rintro e u ⟨_,_,_,_,_,_,_,_,rfl,R13,b⟩;replace F:=frC F b;clear R2;replace B5:=tbC B5 b;clear b
     replace c:=F.all;replace cB5:=B5.all6;replace fB5:=B5.frz6
     (try go_wp2_with fail)
     refine hK.out _ _ ⟨F.held,B5.held6⟩ fun hW=>?_
     clear hK K
     replace H:=aln H;obtain ⟨q14,h14,rfl⟩:=H
     refine rdy 4 (by kernel_rfl) rfl fun K hK=>?_
     go_simp
     refine (adC F R13 (nilL _ _ _) 2 kd 0 _ _ rfl rfl rfl h14).mono ?_
     rintro e u ⟨_,_,_,_,_,_,_,_,rfl,R14,b⟩;replace F:=frC F b;clear R13;replace B5:=tbC B5 b;clear b
     replace c:=F.all;replace cB5:=B5.all6;replace fB5:=B5.frz6
     (try go_wp2_with fail)
     refine hK.out _ _ ⟨F.held,B5.held6⟩ fun hW=>?_
     clear hK K
     refine rdl (by kernel_rfl) (by kernel_rfl) rfl fun K hK=>?_
     go_simp
     replace B5:=tbS B5 R14;replace F:=frS F R14;replace R14:=rdS R14
     refine hK.out _ _ ?_
     clear hK K
     go_wp2
     refine (rdOff R14).fin (frOff F) ?_ rfl
     simp [results,Tryz.results39,go_sem,st6,c,cB5]
end
section
open Go.RowKit
open Tk (T4 bstr)
structure FV (E n:Nat):Prop where
 body:FnB E 209 #[] (runV E n .body)
 stmt:FnB E 173 #[] (runV E n .stmt)
 all:∀ b:Bool,FnL E 124 #[.bool b] (runV E n (.all b))
 round:∀ a:Int,FnB E 210 #[.int .i64 a] (runV E n (.round a))
 short:∀ a:Int,FnB E 211 #[.int .i64 a] (runV E n (.short a))
 fn:∀ (nk nn nz na:Int) (nt:ByteArray),FnB E 80 #[.agg #[.int .i64 nk,.string nt,.int .i64 nn,.int .i64 nz,.slice none 0 0,.int .i64 na]] (runV E n (.fn ⟨nk,nt.data.toList,nn,nz,[],na⟩))
 top:FnB E 39 #[] (runV E n .top)
theorem fv_all (E:Nat):∀ n,FV E n
 | 0=>⟨fun _ _ _ _ _ _ _ h=>(by cases h),fun _ _ _ _ _ _ _ h=>(by cases h),fun _ _ _ _ _ _ _ _ h=>(by cases h),fun _ _ _ _ _ _ _ _ h=>(by cases h),fun _ _ _ _ _ _ _ _ h=>(by cases h),fun _ _ _ _ _ _ _ _ _ _ _ _ h=>(by cases h),fun _ _ _ _ _ _ _ h=>(by cases h)⟩
 | n+1=>by
  have ih:∀ m,m<n+1→FV E m:=fun m hm=>fv_all E m
  have hx:∀ m,FnB E 34 #[] (runR E (m+6) .expr):=fun m=>(fj_all E (m+6)).expr
  have k:=ih n (Nat.lt_succ_self n)
  have hde:=declared_true (hx n) 12
  refine ⟨body_step k.stmt,stmt_step (hx n) k.all k.body k.round k.short,fun b=>?_,fun a=>round_step (hx n) k.body hde a,fun a=>short_step (hx n) k.body hde a,
   fun nk nn nz na nt=>function_step (fun m _=>hx m) (k.all false) nk nn nz na nt,top_step (hx n) ((fj_all E (n+6)).list ⟨#[125]⟩) k.fn⟩
  cases b
  ·exact all_false (fun m _=>hx m) fun m hm=>(ih m (by omega)).stmt
  ·exact all_true (fun m _=>hx m) fun m hm=>(ih m (by omega)).stmt
termination_by n=>n
end
end Go.Proofs.YtbjacclfhgnffaaGreatDoor
