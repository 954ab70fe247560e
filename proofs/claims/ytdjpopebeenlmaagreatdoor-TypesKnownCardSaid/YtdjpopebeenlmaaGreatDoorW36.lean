/-
  Joined texts of this claim: Yzd.
-/
import Derived.Test.YtdjpopebeenlmaaGreatDoorW00
import Derived.Test.YtdjpopebeenlmaaGreatDoorW35
import Derived.Test.YtdjpopebeenlmaaGreatDoorW30
import Derived.Test.YtdjpopebeenlmaaGreatDoorW33
import Derived.Test.YtdjpopebeenlmaaGreatDoorW26
set_option maxHeartbeats 40000000
set_option maxRecDepth 100000
set_option linter.unusedVariables false
set_option linter.unusedSimpArgs false
namespace Go.Proofs.YtdjpopebeenlmaaGreatDoor
section
namespace Ty
open Go.RowKit
open Tr Sc

section
variable {w:World}{l:List Nd}{p:Option Addr}{cap:Nat}
def TyIs (l:List Nd) (w:World):Ts→Ending→World→Prop
  | .bad c a,e,w'=>e=.returned (.tuple #[.slice none 0 0,.agg #[.int .i64 c,.int .i64 a]])∧Below w.heap.size w w'
  | .ok fs,e,w'=>∃ F,w.heap.size≤F∧e=.returned (.tuple #[.slice (some ⟨F,0,none⟩) l.length l.length,.agg #[.int .i64 0,.int .i64 0]])∧Below w.heap.size w w'∧Blk w' F 3 (intA fs)∧fs.length=l.length
def TyPost (l:List Nd) (w:World) (e:Ending) (w':World):Prop :=
  ∃ c a:Int,CkR l c a∧((c≠0∧TyIs l w (.bad c a) e w')∨(c=0∧TyIs l w (typesF l) e w'))
/-- where the checker lies, its types and its parents -/
structure Os (w3 W:World) (l:List Nd) (n:Nat) (p:Option Addr) (cap C N P T:Nat):Prop where
  chk:Blk W C 77 #[.slice p n cap,.slice (some ⟨N,0,none⟩) n n,.slice (some ⟨P,0,none⟩) n n,.slice (some ⟨T,0,none⟩) n n]
  typ:Blk W T 3 (numC n [])
  par:Blk W P 3 (intA (parF l))
  bel:Below w3.heap.size w3 W
  lt:w3.heap.size≤T
  lc:w3.heap.size≤C
  pt:P≠T
theorem blk4 {W:World}{B:Nat}{t:TypeId}{a b c d:Value}(h:Blk W B t #[a,b,c,d]) (x y z u:Value):Blk ((((W.setCell ⟨B,0,none⟩ x).setCell ⟨B,1,none⟩ y).setCell ⟨B,2,none⟩ z).setCell ⟨B,3,none⟩ u) B t #[x,y,z,u]:=by
  have:=(((h.set_ 0 x).set_ 1 y).set_ 2 z).set_ 3 u
  simpa using this
theorem far4 {W:World}{B C:Nat}{t:TypeId}{cs:Array Value}(h:Blk W B t cs) (hne:B≠C) (x y z u:Value):Blk ((((W.setCell ⟨C,0,none⟩ x).setCell ⟨C,1,none⟩ y).setCell ⟨C,2,none⟩ z).setCell ⟨C,3,none⟩ u) B t cs :=
  (((h.far (p:=⟨C,0,none⟩) hne x).far (p:=⟨C,1,none⟩) hne y).far (p:=⟨C,2,none⟩) hne z).far (p:=⟨C,3,none⟩) hne u
theorem zero_intA (n:Nat):intA (List.replicate n 0)=numC n []:=by unfold intA numC;simp
theorem main_code (l:List Nd):((mainF l).1=0∧(mainF l).2=0)∨((mainF l).1=5∨(mainF l).1=6):=by
  unfold mainF
  split
  · exact Or.inr (Or.inr rfl)
  · split
    · exact Or.inl ⟨rfl,rfl⟩
    · exact Or.inr (Or.inl rfl)
theorem check_any {w0 V:World}{C N P T:Nat}{ns fs:List Int}(h:Ck V l p cap C N P T ns fs) (hs:Sep w0 V l p N P T) (h0:1≤l.length) (hC:∀ j,j<l.length→codeAt l j=0) (hS:St l (l.length-1)=0) (hnm:NmOk l ns) (hl:l.length≤600) {k:Nat}(hk:k<l.length) (hup:Upto l ns fs k) :
    Calls Tryz.prog 46 #[.pointer (some ⟨C,0,none⟩),.int .i64 k] V (CkPost w0 V l p cap C N P T ns (chkF l ns fs k)):=by
  cases he:exprB (kindAt l k) with
  | false=>exact check_act h hs hC (par_get h0 hC hS) hl hk he
  | true =>
    refine check_expr h hs hC hl hnm hk he fun h34=>?_
    have hlow:=kids_low hC hk
    rw [h34] at hlow
    have hkl:0<(kidsAt l k).length:=by simp [lowV] at hlow;omega
    rw [kt_get hkl]
    obtain ⟨y,e,hy⟩:=kid_lt hC hk _ (List.getElem_mem hkl)
    rw [e]
    exact range_any hC hnm (by omega) (fun j hj=>hup.fin j hj) y hy
theorem bel4 {n C:Nat}{a V:World}(h:Below n a V) (hC:n≤C) (x y z u:Value):Below n a ((((V.setCell ⟨C,0,none⟩ x).setCell ⟨C,1,none⟩ y).setCell ⟨C,2,none⟩ z).setCell ⟨C,3,none⟩ u) :=
  (((h.setCell (p:=⟨C,0,none⟩) hC _).setCell (p:=⟨C,1,none⟩) hC _).setCell (p:=⟨C,2,none⟩) hC _).setCell (p:=⟨C,3,none⟩) hC _
set_option maxHeartbeats 8000000 in
set_option maxRecDepth 100000 in
theorem of_good (hT:Tr w p l) (hf:Fit l cap) (hcaps:∀ k,(h:k<l.length)→l[k].c.length≤l[k].cap) {ns:List Int}(h0:1≤l.length) (hl:l.length≤600) (hC:∀ j,j<l.length→codeAt l j=0) (hS:St l (l.length-1)=0) (hn:namesF l=.ok ns) (hlen:ns.length=l.length)
    (hNM:Calls Tryz.prog 44 #[.agg #[.slice p l.length cap]] ((w.alloc (.cells #[.slice p l.length cap] 24)).alloc (.cells #[.int .i64 0,.int .i64 0] 26)) fun e w'=>∃ F,w.heap.size+2≤F∧e=.returned (.tuple #[.slice (some ⟨F,0,none⟩) l.length l.length,.agg #[.int .i64 0,.int .i64 0]])∧Below (w.heap.size+2) ((w.alloc (.cells #[.slice p l.length cap] 24)).alloc (.cells #[.int .i64 0,.int .i64 0] 26)) w'∧Blk w' F 3 (intA ns)) :
    Calls Tryz.prog 19 #[.agg #[.slice p l.length cap]] w (TyIs l w (typesN l ns)):=by
  have H1:Hid (Below w.heap.size w ((w.alloc (.cells #[.slice p l.length cap] 24)).alloc (.cells #[.int .i64 0,.int .i64 0] 26))):=Lib.hid (((Below.refl _ _).alloc (Nat.le_refl _) _).alloc (by simp) _)
  have HX1:Hid (Blk ((w.alloc (.cells #[.slice p l.length cap] 24)).alloc (.cells #[.int .i64 0,.int .i64 0] 26)) w.heap.size 24 #[.slice p l.length cap]):=Lib.hid ((Blk.new _ _ _).alloc _)
  have HX2:Hid (Blk ((w.alloc (.cells #[.slice p l.length cap] 24)).alloc (.cells #[.int .i64 0,.int .i64 0] 26)) (w.heap.size+1) 26 #[.int .i64 0,.int .i64 0]):=Lib.hid (by have:=Blk.new (w.alloc (.cells #[.slice p l.length cap] 24)) 26 #[.int .i64 0,.int .i64 0];rw [World.size_alloc] at this;exact this)
  have HTr:=Lib.hid hT
  have HPAR:Hid (∀ V,Below w.heap.size w V→Calls Tryz.prog 45 #[.slice p l.length cap] V (PaPost V l)):=Lib.hid (fun V hV=>parents_any (hT.below hV) h0 hl hC)
  obtain ⟨Q,hQ⟩ : ∃ Q:Ending→World→Prop,Q=TyIs l w (typesN l ns):=⟨_,rfl⟩
  rw [← hQ]
  have HQ:=Lib.hid hQ
  have hmk:∀ V:World,(Instr.makeSlice 32 (.int .i64 (l.length:Int)) (.int .i64 (l.length:Int))).run Tryz.prog V=.ok (.slice (some ⟨V.heap.size,0,none⟩) l.length l.length) (V.alloc (.cells (numC l.length []) 3)):=fun V=>make_ints l.length V (by omega)
  obtain ⟨n,hnn⟩ : ∃ n,n=l.length:=⟨_,rfl⟩
  rw [← hnn] at hmk hNM HX1 HX2 H1 HPAR ⊢
  have HNN:=Lib.hid hnn
  have HP0:Hid (∀ V,Below w.heap.size w V→Calls Tryz.prog 45 #[.slice p n cap] V fun e w'=>∃ P,e=.returned (.slice (some ⟨P,0,none⟩) n n)∧Below V.heap.size V w'∧V.heap.size≤P∧Blk w' P 3 (intA (parF l))):=Lib.hid (fun V hV=>(HPAR.out V hV).mono fun e w' he=>by obtain ⟨P,a,b,c,d⟩:=he;exact ⟨P,by rw [hnn];exact b,c,a,d⟩)
  have HLEN:=Lib.hid hlen
  have HNS:=Lib.hid hn
  have HCC:=Lib.hid hC
  have HSS:=Lib.hid hS
  have HCP:=Lib.hid hcaps
  have HFIT:=Lib.hid hf
  have h0n:1≤n:=by omega
  have HL1:=Lib.hid h0
  have HNMOK:Hid (NmOk l ns):=Lib.hid (kd_facts h0 hC hS hn).2
  have hln:n≤600:=by omega
  clear hT hQ HPAR hnn hlen hn hC hS hcaps hf h0 hl
  go_enter Tryz.func19,Tryz.ntmps19
  go_wp2_with (go_at_call 44;go_loud (refine hNM.mono ?_))
  rintro e w2 ⟨N,hNw,rfl,hb2,hN2⟩
  have HN2:=Lib.hid hN2
  have hBt:=(HX1.out.below hb2 (by omega))
  have hBf:=(HX2.out.below hb2 (by omega))
  have hz2:w2.cell? ⟨w.heap.size,0,none⟩=some (.slice p n cap):=by rw [hBt.cell];rfl
  have hlt2:w.heap.size<w2.heap.size:=hBt.lt
  have HBT:=Lib.hid hBt
  have HBF:=Lib.hid hBf
  have HB2:=Lib.hid (H1.out.trans (hb2.mono (by omega)))
  clear hb2 hBt hBf hN2
  go_wp2
  have HF5:Hid (Blk (w2.alloc (.cells #[.int .i64 0,.int .i64 0] 26)) w2.heap.size 26 #[.int .i64 0,.int .i64 0]):=Lib.hid (Blk.new _ _ _)
  have HBE:Hid (Below w2.heap.size w2 (w2.alloc (.cells #[.int .i64 0,.int .i64 0] 26))):=Lib.hid ((Below.refl _ _).alloc (Nat.le_refl _) _)
  generalize hw3:w2.alloc (.cells #[.int .i64 0,.int .i64 0] 26)=w3 at HF5 HBE ⊢
  have HW3:=Lib.hid (HB2.out.trans (HBE.out.mono HB2.out.size))
  have HT3:=Lib.hid (HBT.out.below HBE.out HBT.out.lt)
  have HG3:=Lib.hid (HBF.out.below HBE.out HBF.out.lt)
  have HN3:=Lib.hid (HN2.out.below HBE.out HN2.out.lt)
  have SK:Hid (∀ V,Below w3.heap.size w3 V→V.cell? ⟨w.heap.size,0,none⟩=some (.slice p n cap)):=Lib.hid (fun V hV=>by rw [(HT3.out.below hV HT3.out.lt).cell];rfl)
  have HE0:Hid (Below w3.heap.size w3 w3.drew):=(Below.refl _ _).drew
  have hws:w.heap.size≤w3.heap.size:=HW3.out.size
  clear hw3 hz2 hlt2 HB2 HBT HBF HN2 HBE
  go_region_held3 (fun V=>V.cell? ⟨w.heap.size,0,none⟩=some (.slice p n cap))
    (first | with_reducible exact SK.out _ HE0.out | with_reducible exact SK.out _ (((Below.refl w3.heap.size w3).alloc (Nat.le_refl _) _).drew) | with_reducible exact SK.out _ ((((Below.refl w3.heap.size w3).alloc (Nat.le_refl _) _).alloc (by simp) _).drew) | with_reducible exact SK.out _ HBQ.out | with_reducible exact SK.out _ (HBQ.out.alloc HBQ.out.size _) | with_reducible exact SK.out _ ((HBQ.out.alloc HBQ.out.size _).alloc (by have:=HBQ.out.size;simp;omega) _) | with_reducible exact SK.out _ (bel4 HBQ.out (by have:=HBQ.out.size;first | omega | (simp;done) | (simp;omega)) _ _ _ _) | with_reducible exact SK.out _ (bel4 (HBQ.out.alloc HBQ.out.size _) (by have:=HBQ.out.size;first | omega | (simp;done) | (simp;omega)) _ _ _ _) | with_reducible exact SK.out _ (bel4 ((HBQ.out.alloc HBQ.out.size _).alloc (by have:=HBQ.out.size;simp;omega) _) (by have:=HBQ.out.size;first | omega | (simp;done) | (simp;omega)) _ _ _ _) | with_reducible exact SK.out _ ((bel4 HBQ.out (by have:=HBQ.out.size;first | omega | (simp;done) | (simp;omega)) _ _ _ _).alloc (bel4 HBQ.out (by have:=HBQ.out.size;first | omega | (simp;done) | (simp;omega)) _ _ _ _).size _) | fail)
    (first | (go_at_call 45;refine (HP0.out w3.drew HW3.out.drew).mono ?_;rintro e w4 ⟨P,rfl,hb4,hP4,hPb⟩;have HBQ:=Lib.hid (HE0.out.trans (hb4.mono (Nat.le_refl _)));have HP4:=Lib.hid hP4;have HPB:=Lib.hid hPb;clear hb4 hP4 hPb) | (go_at_call 45;refine (HP0.out _ ((HW3.out.alloc HW3.out.size _).drew)).mono ?_;rintro e w4 ⟨P,rfl,hb4,hP4,hPb⟩;have HBQ:=Lib.hid ((((Below.refl w3.heap.size w3).alloc (Nat.le_refl _) _).drew).trans (hb4.mono (by simp [World.drew])));have hXB:=((Blk.new w3 _ _).drew.below hb4 (by simp [World.drew]));(try have uhXB0:w4.cell? ⟨w3.heap.size,0,none⟩=some (.slice none 0 0):=hXB.cell 0);(try have uhXB1:w4.cell? ⟨w3.heap.size,1,none⟩=some (.slice none 0 0):=hXB.cell 1);(try have uhXB2:w4.cell? ⟨w3.heap.size,2,none⟩=some (.slice none 0 0):=hXB.cell 2);(try have uhXB3:w4.cell? ⟨w3.heap.size,3,none⟩=some (.slice none 0 0):=hXB.cell 3);have vhXB0:w4.frozen? ⟨w3.heap.size,0,none⟩=false:=hXB.frozen 0;have vhXB1:w4.frozen? ⟨w3.heap.size,1,none⟩=false:=hXB.frozen 1;have vhXB2:w4.frozen? ⟨w3.heap.size,2,none⟩=false:=hXB.frozen 2;have vhXB3:w4.frozen? ⟨w3.heap.size,3,none⟩=false:=hXB.frozen 3;have lhXB:w3.heap.size<w4.heap.size:=hXB.lt;have HXB:=Lib.hid hXB;clear hXB;have HP4:=Lib.hid hP4;have HPB:=Lib.hid hPb;clear hb4 hP4 hPb) | (go_at_call 45;refine (HP0.out _ (((HW3.out.alloc HW3.out.size _).alloc (by have:=HW3.out.size;simp;omega) _).drew)).mono ?_;rintro e w4 ⟨P,rfl,hb4,hP4,hPb⟩;have HBQ:=Lib.hid (((((Below.refl w3.heap.size w3).alloc (Nat.le_refl _) _).alloc (by simp) _).drew).trans (hb4.mono (by simp [World.drew];omega)));have hXA:=(((Blk.new w3 _ _).alloc _).drew.below hb4 (by simp [World.drew];omega));(try have uhXA0:w4.cell? ⟨w3.heap.size,0,none⟩=some (.slice none 0 0):=hXA.cell 0);(try have uhXA1:w4.cell? ⟨w3.heap.size,1,none⟩=some (.slice none 0 0):=hXA.cell 1);(try have uhXA2:w4.cell? ⟨w3.heap.size,2,none⟩=some (.slice none 0 0):=hXA.cell 2);(try have uhXA3:w4.cell? ⟨w3.heap.size,3,none⟩=some (.slice none 0 0):=hXA.cell 3);have vhXA0:w4.frozen? ⟨w3.heap.size,0,none⟩=false:=hXA.frozen 0;have vhXA1:w4.frozen? ⟨w3.heap.size,1,none⟩=false:=hXA.frozen 1;have vhXA2:w4.frozen? ⟨w3.heap.size,2,none⟩=false:=hXA.frozen 2;have vhXA3:w4.frozen? ⟨w3.heap.size,3,none⟩=false:=hXA.frozen 3;have lhXA:w3.heap.size<w4.heap.size:=hXA.lt;have HXA:=Lib.hid hXA;clear hXA;have hXB:=((Blk.new (w3.alloc _) _ _).drew.below hb4 (by simp [World.drew]));rw [World.size_alloc] at hXB;(try have uhXB0:w4.cell? ⟨w3.heap.size+1,0,none⟩=some (.slice none 0 0):=hXB.cell 0);(try have uhXB1:w4.cell? ⟨w3.heap.size+1,1,none⟩=some (.slice none 0 0):=hXB.cell 1);(try have uhXB2:w4.cell? ⟨w3.heap.size+1,2,none⟩=some (.slice none 0 0):=hXB.cell 2);(try have uhXB3:w4.cell? ⟨w3.heap.size+1,3,none⟩=some (.slice none 0 0):=hXB.cell 3);have vhXB0:w4.frozen? ⟨w3.heap.size+1,0,none⟩=false:=hXB.frozen 0;have vhXB1:w4.frozen? ⟨w3.heap.size+1,1,none⟩=false:=hXB.frozen 1;have vhXB2:w4.frozen? ⟨w3.heap.size+1,2,none⟩=false:=hXB.frozen 2;have vhXB3:w4.frozen? ⟨w3.heap.size+1,3,none⟩=false:=hXB.frozen 3;have lhXB:(w3.heap.size+1)<w4.heap.size:=hXB.lt;have HXB:=Lib.hid hXB;clear hXB;have HP4:=Lib.hid hP4;have HPB:=Lib.hid hPb;clear hb4 hP4 hPb))
  · have hPlt:=HPB.out.lt
    have hPge:=HP4.out
    have hsz:=HBQ.out.size
    have HS0:Hid (Os w3 ((w4.alloc (.cells (numC n []) 3)).alloc (.cells #[.slice p n cap,.slice (some ⟨N,0,none⟩) n n,.slice (some ⟨P,0,none⟩) n n,.slice (some ⟨w4.heap.size,0,none⟩) n n] 77)) l n p cap (w4.heap.size+1) N P (w4.heap.size)):=Lib.hid ⟨(by have:=Blk.new (w4.alloc (.cells (numC n []) 3)) 77 #[.slice p n cap,.slice (some ⟨N,0,none⟩) n n,.slice (some ⟨P,0,none⟩) n n,.slice (some ⟨w4.heap.size,0,none⟩) n n];rw [World.size_alloc] at this;exact this),((Blk.new w4 _ _).alloc _),((HPB.out.alloc _).alloc _),((HBQ.out.alloc HBQ.out.size _).alloc (by have:=HBQ.out.size;simp;omega) _),(by first | omega | (simp at hPge;omega)),(by first | omega | (simp at hPge;omega)),(by first | omega | (simp at hPge;omega))⟩
    generalize hW5:((w4.alloc (.cells (numC n []) 3)).alloc (.cells #[.slice p n cap,.slice (some ⟨N,0,none⟩) n n,.slice (some ⟨P,0,none⟩) n n,.slice (some ⟨w4.heap.size,0,none⟩) n n] 77))=w5 at HS0 ⊢
    generalize hC5:(w4.heap.size+1)=C at HS0 ⊢
    generalize hT5:(w4.heap.size)=T at HS0 ⊢
    clear hC5 hT5 hW5 hPlt hPge hsz
    (try clear HXB)
    (try clear HXA)
    have HWW:Hid (Below w.heap.size w w5):=Lib.hid (HW3.out.trans (HS0.out.bel.mono HW3.out.size))
    have HCK:Hid (Ck w5 l p cap C N P T ns (List.replicate l.length 0)):=Lib.hid { tr:=HTr.out.below HWW.out,caps:=HCP.out,chk:=by rw [← HNN.out];exact HS0.out.chk,nms:=HN3.out.below HS0.out.bel HN3.out.lt,par:=HS0.out.par,typ:=by rw [zero_intA,← HNN.out];exact HS0.out.typ,nlen:=HLEN.out,plen:=(par_facts HL1.out HCC.out HSS.out).1,tlen:=by simp }
    have HSP:Hid (Sep w w5 l p N P T):=Lib.hid ⟨HTr.out,HWW.out,Nat.le_trans HW3.out.size HS0.out.lt,fun e=>by have h1:=HN3.out.lt;have h2:=HS0.out.lt;omega,HS0.out.pt⟩
    have HT5:=Lib.hid (HT3.out.below HS0.out.bel HT3.out.lt)
    have HG5:=Lib.hid (HG3.out.below HS0.out.bel HG3.out.lt)
    have hTlt:=HS0.out.lt
    have hGlt:=HG3.out.lt
    have hTBT:w.heap.size≠T:=by have:=HT3.out.lt;omega
    have hGT:w.heap.size+1≠T:=by omega
    have z5:w5.cell? ⟨w.heap.size,0,none⟩=some (.slice p n cap):=by rw [HT5.out.cell];rfl
    clear HPB HP4 HBQ SK HE0 HS0 hTlt HN3 HT3 HG3 HW3 HP0
    go_wp2
    go_loopw [33] (fun v wr=>∃ k:Nat,k≤n∧v=.int .i64 k∧Hid (∃ fs,Ck wr l p cap C N P T ns fs∧Chg T T w5 wr∧Upto l ns fs k∧runF l ns l.length 0 (List.replicate l.length 0)=runF l ns (l.length-k) k fs)) (fun v _=>n-(intOf v).toNat)
    case atStart=>exact ⟨0,Nat.zero_le _,rfl,Lib.hid ⟨_,HCK.out,Chg.refl _ _ _,upto_zero l ns,rfl⟩⟩
    case round =>
      obtain ⟨k,hk,rfl,HR⟩:=hrel
      obtain ⟨fs,hck,hcg,hup,hrun⟩:=HR.out
      have hbelw:Below w.heap.size w5 wr:=hcg.to_below HWW.out.size HSP.out.lo HSP.out.lo
      have hsep:Sep w wr l p N P T:={ HSP.out with bel:=HSP.out.bel.trans hbelw }
      have HT6:=Lib.hid (hcg.blk HT5.out hTBT hTBT)
      have HG6:=Lib.hid (hcg.blk HG5.out hGT hGT)
      have HCKw:=Lib.hid hck
      have HCG:=Lib.hid hcg
      have HUP:=Lib.hid hup
      have HRUN:=Lib.hid hrun
      have HSPW:=Lib.hid hsep
      by_cases hlt:k<n
      · have hkl:k<l.length:=by have:=HNN.out;omega
        have hchk:Hid (Calls Tryz.prog 46 #[.pointer (some ⟨C,0,none⟩),.int .i64 k] wr (CkPost w wr l p cap C N P T ns (chkF l ns fs k))):=Lib.hid (check_any hck hsep HL1.out HCC.out HSS.out HNMOK.out (by have:=HNN.out;omega) hkl hup)
        have hcode:=chk_code (l:=l) (ns:=ns) (fs:=fs) (k:=k)
        have HSTEP:Hid ((chkF l ns fs k).1=0→Upto l ns (chkF l ns fs k).2 (k+1)):=Lib.hid (fun h=>upto_step HCC.out hup hkl h)
        have HRN:Hid (runF l ns (l.length-k) k fs=if (chkF l ns fs k).1≠0 then .bad (chkF l ns fs k).1 k else runF l ns (l.length-(k+1)) (k+1) (chkF l ns fs k).2):=Lib.hid (by rw [show l.length-k=(l.length-(k+1))+1 by omega];rfl)
        obtain ⟨r,hr⟩ : ∃ r,r=chkF l ns fs k:=⟨_,rfl⟩
        rw [← hr] at hchk hcode HSTEP HRN
        obtain ⟨c,fs2⟩:=r
        have HCH:=Lib.hid hchk.out
        clear hck hcg hup hrun hsep hr HR hchk hbelw
        go_wp2_with (go_at_call 46;refine HCH.out.mono ?_)
        rintro e w6 ⟨rfl,hck6,hcg6⟩
        have HCK6:=Lib.hid hck6
        have HCG6:=Lib.hid (HCG.out.trans hcg6)
        have hG7:=HCG6.out.blk HG5.out hGT hGT
        have y0:w6.cell? ⟨w.heap.size+1,0,none⟩=some (.int .i64 0):=by rw [hG7.cell];rfl
        have y1:w6.cell? ⟨w.heap.size+1,1,none⟩=some (.int .i64 0):=by rw [hG7.cell];rfl
        have g0:=hG7.frozen 0
        have g1:=hG7.frozen 1
        have lG:=hG7.lt
        have HG7:=Lib.hid hG7
        clear hck6 hcg6 hG7
        rcases hcode with hc | hc | hc
        · obtain rfl:c=0:=hc
          have HNX:Hid (∃ fs,Ck w6 l p cap C N P T ns fs∧Chg T T w5 w6∧Upto l ns fs (k+1)∧runF l ns l.length 0 (List.replicate l.length 0)=runF l ns (l.length-(k+1)) (k+1) fs):=Lib.hid ⟨fs2,HCK6.out,HCG6.out,HSTEP.out rfl,by rw [HRUN.out,HRN.out];rfl⟩
          go_wp2
          go_roundw
          case rel=>exact ⟨k+1,by omega,by go_num,HNX⟩
          case measure=>simp [intOf];omega
        all_goals
          have HBAD:Hid (typesN l ns=.bad c k):=Lib.hid (by unfold typesN;rw [HRUN.out,HRN.out];(try dsimp only);rw [if_pos (by rw [hc];decide)])
          have HBW:=Lib.hid (HCG6.out.to_below HWW.out.size HSP.out.lo HSP.out.lo)
          obtain ⟨c0,hc0⟩ : ∃ c0:Int,c0=c:=⟨_,rfl⟩
          have HC0:=Lib.hid hc0
          have hz:=set2 HG7.out (.int .i64 c) (.int .i64 k)
          rw [hc] at hz
          have Z0:=Lib.hid (hz.cell 0)
          have Z1:=Lib.hid (hz.cell 1)
          clear hz hc0
          subst hc
          go_wp2
          have z0:=Z0.out
          have z1:=Z1.out
          refine bodyPost_ret (v:=.tuple #[.slice none 0 0,.agg #[_,.int .i64 k]]) (by simp [results,Tryz.results19,go_sem,z0,z1];rfl) rfl ?_
          rw [HQ.out,HBAD.out]
          exact ⟨rfl,((HWW.out.trans HBW.out).setCell (p:=⟨w.heap.size+1,0,none⟩) (by simp) _).setCell (p:=⟨w.heap.size+1,1,none⟩) (by simp) _⟩
      · have hkn:k=l.length:=by have:=HNN.out;omega
        have HEND:Hid (typesN l ns=if (mainF l).1≠0 then .bad (mainF l).1 (mainF l).2 else .ok fs):=Lib.hid (by unfold typesN;rw [hrun,hkn,Nat.sub_self];rfl)
        have HMN:=Lib.hid (checkMain_any hck HCC.out HL1.out (by have:=HNN.out;omega))
        have hmc:=main_code l
        have HBW:=Lib.hid (HWW.out.trans hbelw)
        have HFL:=Lib.hid hup.len
        have HTB:=Lib.hid hck.typ
        have HCB:=Lib.hid hck.chk
        have t6:wr.cell? ⟨w.heap.size,0,none⟩=some (.slice p n cap):=by rw [HT6.out.cell];rfl
        obtain ⟨r,hr⟩ : ∃ r,r=mainF l:=⟨_,rfl⟩
        rw [← hr] at HEND HMN hmc
        obtain ⟨a,b⟩:=r
        have HCH:=Lib.hid HMN.out
        clear hck hcg hup hrun hsep hr HR hbelw HMN hkn
        go_wp2_with (go_at_call 47;refine HCH.out.mono ?_)
        rintro e w7 ⟨rfl,hb7⟩
        have HB7:=Lib.hid (HBW.out.trans (hb7.mono HBW.out.size))
        have hG8:=HG6.out.below hb7 HG6.out.lt
        have HC8:=Lib.hid (HCB.out.below hb7 HCB.out.lt)
        have HT8:=Lib.hid (HTB.out.below hb7 HTB.out.lt)
        have y0:w7.cell? ⟨w.heap.size+1,0,none⟩=some (.int .i64 0):=by rw [hG8.cell];rfl
        have y1:w7.cell? ⟨w.heap.size+1,1,none⟩=some (.int .i64 0):=by rw [hG8.cell];rfl
        have g0:=hG8.frozen 0
        have g1:=hG8.frozen 1
        have lG:=hG8.lt
        have x3:w7.cell? ⟨C,3,none⟩=some (.slice (some ⟨T,0,none⟩) n n):=by rw [HC8.out.cell,HNN.out];rfl
        have lC:=HC8.out.lt
        have hz:=(set2 hG8 (.int .i64 a) (.int .i64 b)).alloc (.cells #[.int .i64 a,.int .i64 b] 26)
        have hzz:=(set2 hG8 (.int .i64 0) (.int .i64 0)).alloc (.cells #[.int .i64 a,.int .i64 b] 26)
        have Z0:=Lib.hid (hz.cell 0)
        have Z1:=Lib.hid (hz.cell 1)
        have Y0:=Lib.hid (hzz.cell 0)
        have Y1:=Lib.hid (hzz.cell 1)
        have HTF:=Lib.hid (((HT8.out.far (p:=⟨w.heap.size+1,0,none⟩) (fun e=>hGT e.symm) (.int .i64 0)).far (p:=⟨w.heap.size+1,1,none⟩) (fun e=>hGT e.symm) (.int .i64 0)).alloc (.cells #[.int .i64 a,.int .i64 b] 26))
        clear hz hzz hb7 hG8
        rcases hmc with ⟨rfl,rfl⟩ | hmc
        · have HE2:Hid (typesN l ns=.ok fs):=Lib.hid (by rw [HEND.out];rfl)
          go_wp2
          have z0:=Y0.out
          have z1:=Y1.out
          refine bodyPost_ret (v:=.tuple #[.slice (some ⟨T,0,none⟩) n n,.agg #[.int .i64 0,.int .i64 0]]) (by simp [results,Tryz.results19,go_sem,z0,z1]) rfl ?_
          rw [HQ.out,HE2.out]
          exact ⟨T,HSP.out.lo,by rw [HNN.out],((HB7.out.setCell (p:=⟨w.heap.size+1,0,none⟩) (by simp) _).setCell (p:=⟨w.heap.size+1,1,none⟩) (by simp) _).alloc (by have:=HB7.out.size;simp;omega) _,HTF.out,HFL.out⟩
        · have HE2:Hid (typesN l ns=.bad a b):=Lib.hid (by rw [HEND.out];rcases hmc with h | h <;> ((try dsimp only);rw [if_pos (by rw [h];decide)]))
          rcases hmc with rfl | rfl
          all_goals
            go_wp2
            go_region
            all_goals
              go_wp2
              have z0:=Z0.out
              have z1:=Z1.out
              refine bodyPost_ret (v:=.tuple #[.slice none 0 0,.agg #[_,.int .i64 b]]) (by simp [results,Tryz.results19,go_sem,z0,z1];rfl) rfl ?_
              rw [HQ.out,HE2.out]
              exact ⟨rfl,(((HB7.out.setCell (p:=⟨w.heap.size+1,0,none⟩) (by simp) _).setCell (p:=⟨w.heap.size+1,1,none⟩) (by simp) _).alloc (by have:=HB7.out.size;simp;omega) _).drew⟩
  · have hPlt:=HPB.out.lt
    have hPge:=HP4.out
    have hsz:=HBQ.out.size
    have HS0:Hid (Os w3 ((w4.alloc (.cells #[.slice p n cap,.slice (some ⟨N,0,none⟩) n n,.slice (some ⟨P,0,none⟩) n n,.slice (some ⟨w4.heap.size+1,0,none⟩) n n] 77)).alloc (.cells (numC n []) 3)) l n p cap (w4.heap.size) N P (w4.heap.size+1)):=Lib.hid ⟨((Blk.new w4 _ _).alloc _),(by have:=Blk.new (w4.alloc (.cells #[.slice p n cap,.slice (some ⟨N,0,none⟩) n n,.slice (some ⟨P,0,none⟩) n n,.slice (some ⟨w4.heap.size+1,0,none⟩) n n] 77)) 3 (numC n []);rw [World.size_alloc] at this;exact this),((HPB.out.alloc _).alloc _),((HBQ.out.alloc HBQ.out.size _).alloc (by have:=HBQ.out.size;simp;omega) _),(by first | omega | (simp at hPge;omega)),(by first | omega | (simp at hPge;omega)),(by first | omega | (simp at hPge;omega))⟩
    generalize hW5:((w4.alloc (.cells #[.slice p n cap,.slice (some ⟨N,0,none⟩) n n,.slice (some ⟨P,0,none⟩) n n,.slice (some ⟨w4.heap.size+1,0,none⟩) n n] 77)).alloc (.cells (numC n []) 3))=w5 at HS0 ⊢
    generalize hT5:(w4.heap.size+1)=T at HS0 ⊢
    generalize hC5:(w4.heap.size)=C at HS0 ⊢
    clear hC5 hT5 hW5 hPlt hPge hsz
    (try clear HXB)
    (try clear HXA)
    have HWW:Hid (Below w.heap.size w w5):=Lib.hid (HW3.out.trans (HS0.out.bel.mono HW3.out.size))
    have HCK:Hid (Ck w5 l p cap C N P T ns (List.replicate l.length 0)):=Lib.hid { tr:=HTr.out.below HWW.out,caps:=HCP.out,chk:=by rw [← HNN.out];exact HS0.out.chk,nms:=HN3.out.below HS0.out.bel HN3.out.lt,par:=HS0.out.par,typ:=by rw [zero_intA,← HNN.out];exact HS0.out.typ,nlen:=HLEN.out,plen:=(par_facts HL1.out HCC.out HSS.out).1,tlen:=by simp }
    have HSP:Hid (Sep w w5 l p N P T):=Lib.hid ⟨HTr.out,HWW.out,Nat.le_trans HW3.out.size HS0.out.lt,fun e=>by have h1:=HN3.out.lt;have h2:=HS0.out.lt;omega,HS0.out.pt⟩
    have HT5:=Lib.hid (HT3.out.below HS0.out.bel HT3.out.lt)
    have HG5:=Lib.hid (HG3.out.below HS0.out.bel HG3.out.lt)
    have hTlt:=HS0.out.lt
    have hGlt:=HG3.out.lt
    have hTBT:w.heap.size≠T:=by have:=HT3.out.lt;omega
    have hGT:w.heap.size+1≠T:=by omega
    have z5:w5.cell? ⟨w.heap.size,0,none⟩=some (.slice p n cap):=by rw [HT5.out.cell];rfl
    clear HPB HP4 HBQ SK HE0 HS0 hTlt HN3 HT3 HG3 HW3 HP0
    go_wp2
    go_loopw [33] (fun v wr=>∃ k:Nat,k≤n∧v=.int .i64 k∧Hid (∃ fs,Ck wr l p cap C N P T ns fs∧Chg T T w5 wr∧Upto l ns fs k∧runF l ns l.length 0 (List.replicate l.length 0)=runF l ns (l.length-k) k fs)) (fun v _=>n-(intOf v).toNat)
    case atStart=>exact ⟨0,Nat.zero_le _,rfl,Lib.hid ⟨_,HCK.out,Chg.refl _ _ _,upto_zero l ns,rfl⟩⟩
    case round =>
      obtain ⟨k,hk,rfl,HR⟩:=hrel
      obtain ⟨fs,hck,hcg,hup,hrun⟩:=HR.out
      have hbelw:Below w.heap.size w5 wr:=hcg.to_below HWW.out.size HSP.out.lo HSP.out.lo
      have hsep:Sep w wr l p N P T:={ HSP.out with bel:=HSP.out.bel.trans hbelw }
      have HT6:=Lib.hid (hcg.blk HT5.out hTBT hTBT)
      have HG6:=Lib.hid (hcg.blk HG5.out hGT hGT)
      have HCKw:=Lib.hid hck
      have HCG:=Lib.hid hcg
      have HUP:=Lib.hid hup
      have HRUN:=Lib.hid hrun
      have HSPW:=Lib.hid hsep
      by_cases hlt:k<n
      · have hkl:k<l.length:=by have:=HNN.out;omega
        have hchk:Hid (Calls Tryz.prog 46 #[.pointer (some ⟨C,0,none⟩),.int .i64 k] wr (CkPost w wr l p cap C N P T ns (chkF l ns fs k))):=Lib.hid (check_any hck hsep HL1.out HCC.out HSS.out HNMOK.out (by have:=HNN.out;omega) hkl hup)
        have hcode:=chk_code (l:=l) (ns:=ns) (fs:=fs) (k:=k)
        have HSTEP:Hid ((chkF l ns fs k).1=0→Upto l ns (chkF l ns fs k).2 (k+1)):=Lib.hid (fun h=>upto_step HCC.out hup hkl h)
        have HRN:Hid (runF l ns (l.length-k) k fs=if (chkF l ns fs k).1≠0 then .bad (chkF l ns fs k).1 k else runF l ns (l.length-(k+1)) (k+1) (chkF l ns fs k).2):=Lib.hid (by rw [show l.length-k=(l.length-(k+1))+1 by omega];rfl)
        obtain ⟨r,hr⟩ : ∃ r,r=chkF l ns fs k:=⟨_,rfl⟩
        rw [← hr] at hchk hcode HSTEP HRN
        obtain ⟨c,fs2⟩:=r
        have HCH:=Lib.hid hchk.out
        clear hck hcg hup hrun hsep hr HR hchk hbelw
        go_wp2_with (go_at_call 46;refine HCH.out.mono ?_)
        rintro e w6 ⟨rfl,hck6,hcg6⟩
        have HCK6:=Lib.hid hck6
        have HCG6:=Lib.hid (HCG.out.trans hcg6)
        have hG7:=HCG6.out.blk HG5.out hGT hGT
        have y0:w6.cell? ⟨w.heap.size+1,0,none⟩=some (.int .i64 0):=by rw [hG7.cell];rfl
        have y1:w6.cell? ⟨w.heap.size+1,1,none⟩=some (.int .i64 0):=by rw [hG7.cell];rfl
        have g0:=hG7.frozen 0
        have g1:=hG7.frozen 1
        have lG:=hG7.lt
        have HG7:=Lib.hid hG7
        clear hck6 hcg6 hG7
        rcases hcode with hc | hc | hc
        · obtain rfl:c=0:=hc
          have HNX:Hid (∃ fs,Ck w6 l p cap C N P T ns fs∧Chg T T w5 w6∧Upto l ns fs (k+1)∧runF l ns l.length 0 (List.replicate l.length 0)=runF l ns (l.length-(k+1)) (k+1) fs):=Lib.hid ⟨fs2,HCK6.out,HCG6.out,HSTEP.out rfl,by rw [HRUN.out,HRN.out];rfl⟩
          go_wp2
          go_roundw
          case rel=>exact ⟨k+1,by omega,by go_num,HNX⟩
          case measure=>simp [intOf];omega
        all_goals
          have HBAD:Hid (typesN l ns=.bad c k):=Lib.hid (by unfold typesN;rw [HRUN.out,HRN.out];(try dsimp only);rw [if_pos (by rw [hc];decide)])
          have HBW:=Lib.hid (HCG6.out.to_below HWW.out.size HSP.out.lo HSP.out.lo)
          obtain ⟨c0,hc0⟩ : ∃ c0:Int,c0=c:=⟨_,rfl⟩
          have HC0:=Lib.hid hc0
          have hz:=set2 HG7.out (.int .i64 c) (.int .i64 k)
          rw [hc] at hz
          have Z0:=Lib.hid (hz.cell 0)
          have Z1:=Lib.hid (hz.cell 1)
          clear hz hc0
          subst hc
          go_wp2
          have z0:=Z0.out
          have z1:=Z1.out
          refine bodyPost_ret (v:=.tuple #[.slice none 0 0,.agg #[_,.int .i64 k]]) (by simp [results,Tryz.results19,go_sem,z0,z1];rfl) rfl ?_
          rw [HQ.out,HBAD.out]
          exact ⟨rfl,((HWW.out.trans HBW.out).setCell (p:=⟨w.heap.size+1,0,none⟩) (by simp) _).setCell (p:=⟨w.heap.size+1,1,none⟩) (by simp) _⟩
      · have hkn:k=l.length:=by have:=HNN.out;omega
        have HEND:Hid (typesN l ns=if (mainF l).1≠0 then .bad (mainF l).1 (mainF l).2 else .ok fs):=Lib.hid (by unfold typesN;rw [hrun,hkn,Nat.sub_self];rfl)
        have HMN:=Lib.hid (checkMain_any hck HCC.out HL1.out (by have:=HNN.out;omega))
        have hmc:=main_code l
        have HBW:=Lib.hid (HWW.out.trans hbelw)
        have HFL:=Lib.hid hup.len
        have HTB:=Lib.hid hck.typ
        have HCB:=Lib.hid hck.chk
        have t6:wr.cell? ⟨w.heap.size,0,none⟩=some (.slice p n cap):=by rw [HT6.out.cell];rfl
        obtain ⟨r,hr⟩ : ∃ r,r=mainF l:=⟨_,rfl⟩
        rw [← hr] at HEND HMN hmc
        obtain ⟨a,b⟩:=r
        have HCH:=Lib.hid HMN.out
        clear hck hcg hup hrun hsep hr HR hbelw HMN hkn
        go_wp2_with (go_at_call 47;refine HCH.out.mono ?_)
        rintro e w7 ⟨rfl,hb7⟩
        have HB7:=Lib.hid (HBW.out.trans (hb7.mono HBW.out.size))
        have hG8:=HG6.out.below hb7 HG6.out.lt
        have HC8:=Lib.hid (HCB.out.below hb7 HCB.out.lt)
        have HT8:=Lib.hid (HTB.out.below hb7 HTB.out.lt)
        have y0:w7.cell? ⟨w.heap.size+1,0,none⟩=some (.int .i64 0):=by rw [hG8.cell];rfl
        have y1:w7.cell? ⟨w.heap.size+1,1,none⟩=some (.int .i64 0):=by rw [hG8.cell];rfl
        have g0:=hG8.frozen 0
        have g1:=hG8.frozen 1
        have lG:=hG8.lt
        have x3:w7.cell? ⟨C,3,none⟩=some (.slice (some ⟨T,0,none⟩) n n):=by rw [HC8.out.cell,HNN.out];rfl
        have lC:=HC8.out.lt
        have hz:=(set2 hG8 (.int .i64 a) (.int .i64 b)).alloc (.cells #[.int .i64 a,.int .i64 b] 26)
        have hzz:=(set2 hG8 (.int .i64 0) (.int .i64 0)).alloc (.cells #[.int .i64 a,.int .i64 b] 26)
        have Z0:=Lib.hid (hz.cell 0)
        have Z1:=Lib.hid (hz.cell 1)
        have Y0:=Lib.hid (hzz.cell 0)
        have Y1:=Lib.hid (hzz.cell 1)
        have HTF:=Lib.hid (((HT8.out.far (p:=⟨w.heap.size+1,0,none⟩) (fun e=>hGT e.symm) (.int .i64 0)).far (p:=⟨w.heap.size+1,1,none⟩) (fun e=>hGT e.symm) (.int .i64 0)).alloc (.cells #[.int .i64 a,.int .i64 b] 26))
        clear hz hzz hb7 hG8
        rcases hmc with ⟨rfl,rfl⟩ | hmc
        · have HE2:Hid (typesN l ns=.ok fs):=Lib.hid (by rw [HEND.out];rfl)
          go_wp2
          have z0:=Y0.out
          have z1:=Y1.out
          refine bodyPost_ret (v:=.tuple #[.slice (some ⟨T,0,none⟩) n n,.agg #[.int .i64 0,.int .i64 0]]) (by simp [results,Tryz.results19,go_sem,z0,z1]) rfl ?_
          rw [HQ.out,HE2.out]
          exact ⟨T,HSP.out.lo,by rw [HNN.out],((HB7.out.setCell (p:=⟨w.heap.size+1,0,none⟩) (by simp) _).setCell (p:=⟨w.heap.size+1,1,none⟩) (by simp) _).alloc (by have:=HB7.out.size;simp;omega) _,HTF.out,HFL.out⟩
        · have HE2:Hid (typesN l ns=.bad a b):=Lib.hid (by rw [HEND.out];rcases hmc with h | h <;> ((try dsimp only);rw [if_pos (by rw [h];decide)]))
          rcases hmc with rfl | rfl
          all_goals
            go_wp2
            go_region
            all_goals
              go_wp2
              have z0:=Z0.out
              have z1:=Z1.out
              refine bodyPost_ret (v:=.tuple #[.slice none 0 0,.agg #[_,.int .i64 b]]) (by simp [results,Tryz.results19,go_sem,z0,z1];rfl) rfl ?_
              rw [HQ.out,HE2.out]
              exact ⟨rfl,(((HB7.out.setCell (p:=⟨w.heap.size+1,0,none⟩) (by simp) _).setCell (p:=⟨w.heap.size+1,1,none⟩) (by simp) _).alloc (by have:=HB7.out.size;simp;omega) _).drew⟩
  · have hPlt:=HPB.out.lt
    have hPge:=HP4.out
    have hsz:=HBQ.out.size
    have HS0:Hid (Os w3 (w4.alloc (.cells #[.slice p n cap,.slice (some ⟨N,0,none⟩) n n,.slice (some ⟨P,0,none⟩) n n,.slice (some ⟨w3.heap.size,0,none⟩) n n] 77)) l n p cap (w4.heap.size) N P (w3.heap.size)):=Lib.hid ⟨(Blk.new w4 _ _),(HXB.out.alloc _),(HPB.out.alloc _),(HBQ.out.alloc HBQ.out.size _),(by first | omega | (simp at hPge;omega)),(by first | omega | (simp at hPge;omega)),(by first | omega | (simp at hPge;omega))⟩
    generalize hW5:(w4.alloc (.cells #[.slice p n cap,.slice (some ⟨N,0,none⟩) n n,.slice (some ⟨P,0,none⟩) n n,.slice (some ⟨w3.heap.size,0,none⟩) n n] 77))=w5 at HS0 ⊢
    generalize hT5:(w3.heap.size)=T at HS0 ⊢
    generalize hC5:(w4.heap.size)=C at HS0 ⊢
    clear hC5 hT5 hW5 hPlt hPge hsz
    (try clear HXB)
    (try clear HXA)
    have HWW:Hid (Below w.heap.size w w5):=Lib.hid (HW3.out.trans (HS0.out.bel.mono HW3.out.size))
    have HCK:Hid (Ck w5 l p cap C N P T ns (List.replicate l.length 0)):=Lib.hid { tr:=HTr.out.below HWW.out,caps:=HCP.out,chk:=by rw [← HNN.out];exact HS0.out.chk,nms:=HN3.out.below HS0.out.bel HN3.out.lt,par:=HS0.out.par,typ:=by rw [zero_intA,← HNN.out];exact HS0.out.typ,nlen:=HLEN.out,plen:=(par_facts HL1.out HCC.out HSS.out).1,tlen:=by simp }
    have HSP:Hid (Sep w w5 l p N P T):=Lib.hid ⟨HTr.out,HWW.out,Nat.le_trans HW3.out.size HS0.out.lt,fun e=>by have h1:=HN3.out.lt;have h2:=HS0.out.lt;omega,HS0.out.pt⟩
    have HT5:=Lib.hid (HT3.out.below HS0.out.bel HT3.out.lt)
    have HG5:=Lib.hid (HG3.out.below HS0.out.bel HG3.out.lt)
    have hTlt:=HS0.out.lt
    have hGlt:=HG3.out.lt
    have hTBT:w.heap.size≠T:=by have:=HT3.out.lt;omega
    have hGT:w.heap.size+1≠T:=by omega
    have z5:w5.cell? ⟨w.heap.size,0,none⟩=some (.slice p n cap):=by rw [HT5.out.cell];rfl
    clear HPB HP4 HBQ SK HE0 HS0 hTlt HN3 HT3 HG3 HW3 HP0
    go_wp2
    go_loopw [33] (fun v wr=>∃ k:Nat,k≤n∧v=.int .i64 k∧Hid (∃ fs,Ck wr l p cap C N P T ns fs∧Chg T T w5 wr∧Upto l ns fs k∧runF l ns l.length 0 (List.replicate l.length 0)=runF l ns (l.length-k) k fs)) (fun v _=>n-(intOf v).toNat)
    case atStart=>exact ⟨0,Nat.zero_le _,rfl,Lib.hid ⟨_,HCK.out,Chg.refl _ _ _,upto_zero l ns,rfl⟩⟩
    case round =>
      obtain ⟨k,hk,rfl,HR⟩:=hrel
      obtain ⟨fs,hck,hcg,hup,hrun⟩:=HR.out
      have hbelw:Below w.heap.size w5 wr:=hcg.to_below HWW.out.size HSP.out.lo HSP.out.lo
      have hsep:Sep w wr l p N P T:={ HSP.out with bel:=HSP.out.bel.trans hbelw }
      have HT6:=Lib.hid (hcg.blk HT5.out hTBT hTBT)
      have HG6:=Lib.hid (hcg.blk HG5.out hGT hGT)
      have HCKw:=Lib.hid hck
      have HCG:=Lib.hid hcg
      have HUP:=Lib.hid hup
      have HRUN:=Lib.hid hrun
      have HSPW:=Lib.hid hsep
      by_cases hlt:k<n
      · have hkl:k<l.length:=by have:=HNN.out;omega
        have hchk:Hid (Calls Tryz.prog 46 #[.pointer (some ⟨C,0,none⟩),.int .i64 k] wr (CkPost w wr l p cap C N P T ns (chkF l ns fs k))):=Lib.hid (check_any hck hsep HL1.out HCC.out HSS.out HNMOK.out (by have:=HNN.out;omega) hkl hup)
        have hcode:=chk_code (l:=l) (ns:=ns) (fs:=fs) (k:=k)
        have HSTEP:Hid ((chkF l ns fs k).1=0→Upto l ns (chkF l ns fs k).2 (k+1)):=Lib.hid (fun h=>upto_step HCC.out hup hkl h)
        have HRN:Hid (runF l ns (l.length-k) k fs=if (chkF l ns fs k).1≠0 then .bad (chkF l ns fs k).1 k else runF l ns (l.length-(k+1)) (k+1) (chkF l ns fs k).2):=Lib.hid (by rw [show l.length-k=(l.length-(k+1))+1 by omega];rfl)
        obtain ⟨r,hr⟩ : ∃ r,r=chkF l ns fs k:=⟨_,rfl⟩
        rw [← hr] at hchk hcode HSTEP HRN
        obtain ⟨c,fs2⟩:=r
        have HCH:=Lib.hid hchk.out
        clear hck hcg hup hrun hsep hr HR hchk hbelw
        go_wp2_with (go_at_call 46;refine HCH.out.mono ?_)
        rintro e w6 ⟨rfl,hck6,hcg6⟩
        have HCK6:=Lib.hid hck6
        have HCG6:=Lib.hid (HCG.out.trans hcg6)
        have hG7:=HCG6.out.blk HG5.out hGT hGT
        have y0:w6.cell? ⟨w.heap.size+1,0,none⟩=some (.int .i64 0):=by rw [hG7.cell];rfl
        have y1:w6.cell? ⟨w.heap.size+1,1,none⟩=some (.int .i64 0):=by rw [hG7.cell];rfl
        have g0:=hG7.frozen 0
        have g1:=hG7.frozen 1
        have lG:=hG7.lt
        have HG7:=Lib.hid hG7
        clear hck6 hcg6 hG7
        rcases hcode with hc | hc | hc
        · obtain rfl:c=0:=hc
          have HNX:Hid (∃ fs,Ck w6 l p cap C N P T ns fs∧Chg T T w5 w6∧Upto l ns fs (k+1)∧runF l ns l.length 0 (List.replicate l.length 0)=runF l ns (l.length-(k+1)) (k+1) fs):=Lib.hid ⟨fs2,HCK6.out,HCG6.out,HSTEP.out rfl,by rw [HRUN.out,HRN.out];rfl⟩
          go_wp2
          go_roundw
          case rel=>exact ⟨k+1,by omega,by go_num,HNX⟩
          case measure=>simp [intOf];omega
        all_goals
          have HBAD:Hid (typesN l ns=.bad c k):=Lib.hid (by unfold typesN;rw [HRUN.out,HRN.out];(try dsimp only);rw [if_pos (by rw [hc];decide)])
          have HBW:=Lib.hid (HCG6.out.to_below HWW.out.size HSP.out.lo HSP.out.lo)
          obtain ⟨c0,hc0⟩ : ∃ c0:Int,c0=c:=⟨_,rfl⟩
          have HC0:=Lib.hid hc0
          have hz:=set2 HG7.out (.int .i64 c) (.int .i64 k)
          rw [hc] at hz
          have Z0:=Lib.hid (hz.cell 0)
          have Z1:=Lib.hid (hz.cell 1)
          clear hz hc0
          subst hc
          go_wp2
          have z0:=Z0.out
          have z1:=Z1.out
          refine bodyPost_ret (v:=.tuple #[.slice none 0 0,.agg #[_,.int .i64 k]]) (by simp [results,Tryz.results19,go_sem,z0,z1];rfl) rfl ?_
          rw [HQ.out,HBAD.out]
          exact ⟨rfl,((HWW.out.trans HBW.out).setCell (p:=⟨w.heap.size+1,0,none⟩) (by simp) _).setCell (p:=⟨w.heap.size+1,1,none⟩) (by simp) _⟩
      · have hkn:k=l.length:=by have:=HNN.out;omega
        have HEND:Hid (typesN l ns=if (mainF l).1≠0 then .bad (mainF l).1 (mainF l).2 else .ok fs):=Lib.hid (by unfold typesN;rw [hrun,hkn,Nat.sub_self];rfl)
        have HMN:=Lib.hid (checkMain_any hck HCC.out HL1.out (by have:=HNN.out;omega))
        have hmc:=main_code l
        have HBW:=Lib.hid (HWW.out.trans hbelw)
        have HFL:=Lib.hid hup.len
        have HTB:=Lib.hid hck.typ
        have HCB:=Lib.hid hck.chk
        have t6:wr.cell? ⟨w.heap.size,0,none⟩=some (.slice p n cap):=by rw [HT6.out.cell];rfl
        obtain ⟨r,hr⟩ : ∃ r,r=mainF l:=⟨_,rfl⟩
        rw [← hr] at HEND HMN hmc
        obtain ⟨a,b⟩:=r
        have HCH:=Lib.hid HMN.out
        clear hck hcg hup hrun hsep hr HR hbelw HMN hkn
        go_wp2_with (go_at_call 47;refine HCH.out.mono ?_)
        rintro e w7 ⟨rfl,hb7⟩
        have HB7:=Lib.hid (HBW.out.trans (hb7.mono HBW.out.size))
        have hG8:=HG6.out.below hb7 HG6.out.lt
        have HC8:=Lib.hid (HCB.out.below hb7 HCB.out.lt)
        have HT8:=Lib.hid (HTB.out.below hb7 HTB.out.lt)
        have y0:w7.cell? ⟨w.heap.size+1,0,none⟩=some (.int .i64 0):=by rw [hG8.cell];rfl
        have y1:w7.cell? ⟨w.heap.size+1,1,none⟩=some (.int .i64 0):=by rw [hG8.cell];rfl
        have g0:=hG8.frozen 0
        have g1:=hG8.frozen 1
        have lG:=hG8.lt
        have x3:w7.cell? ⟨C,3,none⟩=some (.slice (some ⟨T,0,none⟩) n n):=by rw [HC8.out.cell,HNN.out];rfl
        have lC:=HC8.out.lt
        have hz:=(set2 hG8 (.int .i64 a) (.int .i64 b)).alloc (.cells #[.int .i64 a,.int .i64 b] 26)
        have hzz:=(set2 hG8 (.int .i64 0) (.int .i64 0)).alloc (.cells #[.int .i64 a,.int .i64 b] 26)
        have Z0:=Lib.hid (hz.cell 0)
        have Z1:=Lib.hid (hz.cell 1)
        have Y0:=Lib.hid (hzz.cell 0)
        have Y1:=Lib.hid (hzz.cell 1)
        have HTF:=Lib.hid (((HT8.out.far (p:=⟨w.heap.size+1,0,none⟩) (fun e=>hGT e.symm) (.int .i64 0)).far (p:=⟨w.heap.size+1,1,none⟩) (fun e=>hGT e.symm) (.int .i64 0)).alloc (.cells #[.int .i64 a,.int .i64 b] 26))
        clear hz hzz hb7 hG8
        rcases hmc with ⟨rfl,rfl⟩ | hmc
        · have HE2:Hid (typesN l ns=.ok fs):=Lib.hid (by rw [HEND.out];rfl)
          go_wp2
          have z0:=Y0.out
          have z1:=Y1.out
          refine bodyPost_ret (v:=.tuple #[.slice (some ⟨T,0,none⟩) n n,.agg #[.int .i64 0,.int .i64 0]]) (by simp [results,Tryz.results19,go_sem,z0,z1]) rfl ?_
          rw [HQ.out,HE2.out]
          exact ⟨T,HSP.out.lo,by rw [HNN.out],((HB7.out.setCell (p:=⟨w.heap.size+1,0,none⟩) (by simp) _).setCell (p:=⟨w.heap.size+1,1,none⟩) (by simp) _).alloc (by have:=HB7.out.size;simp;omega) _,HTF.out,HFL.out⟩
        · have HE2:Hid (typesN l ns=.bad a b):=Lib.hid (by rw [HEND.out];rcases hmc with h | h <;> ((try dsimp only);rw [if_pos (by rw [h];decide)]))
          rcases hmc with rfl | rfl
          all_goals
            go_wp2
            go_region
            all_goals
              go_wp2
              have z0:=Z0.out
              have z1:=Z1.out
              refine bodyPost_ret (v:=.tuple #[.slice none 0 0,.agg #[_,.int .i64 b]]) (by simp [results,Tryz.results19,go_sem,z0,z1];rfl) rfl ?_
              rw [HQ.out,HE2.out]
              exact ⟨rfl,(((HB7.out.setCell (p:=⟨w.heap.size+1,0,none⟩) (by simp) _).setCell (p:=⟨w.heap.size+1,1,none⟩) (by simp) _).alloc (by have:=HB7.out.size;simp;omega) _).drew⟩
  · have hPlt:=HPB.out.lt
    have hPge:=HP4.out
    have hsz:=HBQ.out.size
    have HS0:Hid (Os w3 ((((w4.setCell ⟨w3.heap.size+1,0,none⟩ (.slice p n cap)).setCell ⟨w3.heap.size+1,1,none⟩ (.slice (some ⟨N,0,none⟩) n n)).setCell ⟨w3.heap.size+1,2,none⟩ (.slice (some ⟨P,0,none⟩) n n)).setCell ⟨w3.heap.size+1,3,none⟩ (.slice (some ⟨w3.heap.size,0,none⟩) n n)) l n p cap (w3.heap.size+1) N P (w3.heap.size)):=Lib.hid ⟨(blk4 HXB.out _ _ _ _),(far4 HXA.out (by omega) _ _ _ _),(far4 HPB.out (by have:=HP4.out;simp at this;omega) _ _ _ _),(bel4 HBQ.out (by have:=HBQ.out.size;first | omega | (simp;done) | (simp;omega)) _ _ _ _),(by first | omega | (simp at hPge;omega)),(by first | omega | (simp at hPge;omega)),(by first | omega | (simp at hPge;omega))⟩
    generalize hW5:((((w4.setCell ⟨w3.heap.size+1,0,none⟩ (.slice p n cap)).setCell ⟨w3.heap.size+1,1,none⟩ (.slice (some ⟨N,0,none⟩) n n)).setCell ⟨w3.heap.size+1,2,none⟩ (.slice (some ⟨P,0,none⟩) n n)).setCell ⟨w3.heap.size+1,3,none⟩ (.slice (some ⟨w3.heap.size,0,none⟩) n n))=w5 at HS0 ⊢
    generalize hC5:(w3.heap.size+1)=C at HS0 ⊢
    generalize hT5:(w3.heap.size)=T at HS0 ⊢
    clear hC5 hT5 hW5 hPlt hPge hsz
    (try clear HXB)
    (try clear HXA)
    have HWW:Hid (Below w.heap.size w w5):=Lib.hid (HW3.out.trans (HS0.out.bel.mono HW3.out.size))
    have HCK:Hid (Ck w5 l p cap C N P T ns (List.replicate l.length 0)):=Lib.hid { tr:=HTr.out.below HWW.out,caps:=HCP.out,chk:=by rw [← HNN.out];exact HS0.out.chk,nms:=HN3.out.below HS0.out.bel HN3.out.lt,par:=HS0.out.par,typ:=by rw [zero_intA,← HNN.out];exact HS0.out.typ,nlen:=HLEN.out,plen:=(par_facts HL1.out HCC.out HSS.out).1,tlen:=by simp }
    have HSP:Hid (Sep w w5 l p N P T):=Lib.hid ⟨HTr.out,HWW.out,Nat.le_trans HW3.out.size HS0.out.lt,fun e=>by have h1:=HN3.out.lt;have h2:=HS0.out.lt;omega,HS0.out.pt⟩
    have HT5:=Lib.hid (HT3.out.below HS0.out.bel HT3.out.lt)
    have HG5:=Lib.hid (HG3.out.below HS0.out.bel HG3.out.lt)
    have hTlt:=HS0.out.lt
    have hGlt:=HG3.out.lt
    have hTBT:w.heap.size≠T:=by have:=HT3.out.lt;omega
    have hGT:w.heap.size+1≠T:=by omega
    have z5:w5.cell? ⟨w.heap.size,0,none⟩=some (.slice p n cap):=by rw [HT5.out.cell];rfl
    clear HPB HP4 HBQ SK HE0 HS0 hTlt HN3 HT3 HG3 HW3 HP0
    go_wp2
    go_loopw [33] (fun v wr=>∃ k:Nat,k≤n∧v=.int .i64 k∧Hid (∃ fs,Ck wr l p cap C N P T ns fs∧Chg T T w5 wr∧Upto l ns fs k∧runF l ns l.length 0 (List.replicate l.length 0)=runF l ns (l.length-k) k fs)) (fun v _=>n-(intOf v).toNat)
    case atStart=>exact ⟨0,Nat.zero_le _,rfl,Lib.hid ⟨_,HCK.out,Chg.refl _ _ _,upto_zero l ns,rfl⟩⟩
    case round =>
      obtain ⟨k,hk,rfl,HR⟩:=hrel
      obtain ⟨fs,hck,hcg,hup,hrun⟩:=HR.out
      have hbelw:Below w.heap.size w5 wr:=hcg.to_below HWW.out.size HSP.out.lo HSP.out.lo
      have hsep:Sep w wr l p N P T:={ HSP.out with bel:=HSP.out.bel.trans hbelw }
      have HT6:=Lib.hid (hcg.blk HT5.out hTBT hTBT)
      have HG6:=Lib.hid (hcg.blk HG5.out hGT hGT)
      have HCKw:=Lib.hid hck
      have HCG:=Lib.hid hcg
      have HUP:=Lib.hid hup
      have HRUN:=Lib.hid hrun
      have HSPW:=Lib.hid hsep
      by_cases hlt:k<n
      · have hkl:k<l.length:=by have:=HNN.out;omega
        have hchk:Hid (Calls Tryz.prog 46 #[.pointer (some ⟨C,0,none⟩),.int .i64 k] wr (CkPost w wr l p cap C N P T ns (chkF l ns fs k))):=Lib.hid (check_any hck hsep HL1.out HCC.out HSS.out HNMOK.out (by have:=HNN.out;omega) hkl hup)
        have hcode:=chk_code (l:=l) (ns:=ns) (fs:=fs) (k:=k)
        have HSTEP:Hid ((chkF l ns fs k).1=0→Upto l ns (chkF l ns fs k).2 (k+1)):=Lib.hid (fun h=>upto_step HCC.out hup hkl h)
        have HRN:Hid (runF l ns (l.length-k) k fs=if (chkF l ns fs k).1≠0 then .bad (chkF l ns fs k).1 k else runF l ns (l.length-(k+1)) (k+1) (chkF l ns fs k).2):=Lib.hid (by rw [show l.length-k=(l.length-(k+1))+1 by omega];rfl)
        obtain ⟨r,hr⟩ : ∃ r,r=chkF l ns fs k:=⟨_,rfl⟩
        rw [← hr] at hchk hcode HSTEP HRN
        obtain ⟨c,fs2⟩:=r
        have HCH:=Lib.hid hchk.out
        clear hck hcg hup hrun hsep hr HR hchk hbelw
        go_wp2_with (go_at_call 46;refine HCH.out.mono ?_)
        rintro e w6 ⟨rfl,hck6,hcg6⟩
        have HCK6:=Lib.hid hck6
        have HCG6:=Lib.hid (HCG.out.trans hcg6)
        have hG7:=HCG6.out.blk HG5.out hGT hGT
        have y0:w6.cell? ⟨w.heap.size+1,0,none⟩=some (.int .i64 0):=by rw [hG7.cell];rfl
        have y1:w6.cell? ⟨w.heap.size+1,1,none⟩=some (.int .i64 0):=by rw [hG7.cell];rfl
        have g0:=hG7.frozen 0
        have g1:=hG7.frozen 1
        have lG:=hG7.lt
        have HG7:=Lib.hid hG7
        clear hck6 hcg6 hG7
        rcases hcode with hc | hc | hc
        · obtain rfl:c=0:=hc
          have HNX:Hid (∃ fs,Ck w6 l p cap C N P T ns fs∧Chg T T w5 w6∧Upto l ns fs (k+1)∧runF l ns l.length 0 (List.replicate l.length 0)=runF l ns (l.length-(k+1)) (k+1) fs):=Lib.hid ⟨fs2,HCK6.out,HCG6.out,HSTEP.out rfl,by rw [HRUN.out,HRN.out];rfl⟩
          go_wp2
          go_roundw
          case rel=>exact ⟨k+1,by omega,by go_num,HNX⟩
          case measure=>simp [intOf];omega
        all_goals
          have HBAD:Hid (typesN l ns=.bad c k):=Lib.hid (by unfold typesN;rw [HRUN.out,HRN.out];(try dsimp only);rw [if_pos (by rw [hc];decide)])
          have HBW:=Lib.hid (HCG6.out.to_below HWW.out.size HSP.out.lo HSP.out.lo)
          obtain ⟨c0,hc0⟩ : ∃ c0:Int,c0=c:=⟨_,rfl⟩
          have HC0:=Lib.hid hc0
          have hz:=set2 HG7.out (.int .i64 c) (.int .i64 k)
          rw [hc] at hz
          have Z0:=Lib.hid (hz.cell 0)
          have Z1:=Lib.hid (hz.cell 1)
          clear hz hc0
          subst hc
          go_wp2
          have z0:=Z0.out
          have z1:=Z1.out
          refine bodyPost_ret (v:=.tuple #[.slice none 0 0,.agg #[_,.int .i64 k]]) (by simp [results,Tryz.results19,go_sem,z0,z1];rfl) rfl ?_
          rw [HQ.out,HBAD.out]
          exact ⟨rfl,((HWW.out.trans HBW.out).setCell (p:=⟨w.heap.size+1,0,none⟩) (by simp) _).setCell (p:=⟨w.heap.size+1,1,none⟩) (by simp) _⟩
      · have hkn:k=l.length:=by have:=HNN.out;omega
        have HEND:Hid (typesN l ns=if (mainF l).1≠0 then .bad (mainF l).1 (mainF l).2 else .ok fs):=Lib.hid (by unfold typesN;rw [hrun,hkn,Nat.sub_self];rfl)
        have HMN:=Lib.hid (checkMain_any hck HCC.out HL1.out (by have:=HNN.out;omega))
        have hmc:=main_code l
        have HBW:=Lib.hid (HWW.out.trans hbelw)
        have HFL:=Lib.hid hup.len
        have HTB:=Lib.hid hck.typ
        have HCB:=Lib.hid hck.chk
        have t6:wr.cell? ⟨w.heap.size,0,none⟩=some (.slice p n cap):=by rw [HT6.out.cell];rfl
        obtain ⟨r,hr⟩ : ∃ r,r=mainF l:=⟨_,rfl⟩
        rw [← hr] at HEND HMN hmc
        obtain ⟨a,b⟩:=r
        have HCH:=Lib.hid HMN.out
        clear hck hcg hup hrun hsep hr HR hbelw HMN hkn
        go_wp2_with (go_at_call 47;refine HCH.out.mono ?_)
        rintro e w7 ⟨rfl,hb7⟩
        have HB7:=Lib.hid (HBW.out.trans (hb7.mono HBW.out.size))
        have hG8:=HG6.out.below hb7 HG6.out.lt
        have HC8:=Lib.hid (HCB.out.below hb7 HCB.out.lt)
        have HT8:=Lib.hid (HTB.out.below hb7 HTB.out.lt)
        have y0:w7.cell? ⟨w.heap.size+1,0,none⟩=some (.int .i64 0):=by rw [hG8.cell];rfl
        have y1:w7.cell? ⟨w.heap.size+1,1,none⟩=some (.int .i64 0):=by rw [hG8.cell];rfl
        have g0:=hG8.frozen 0
        have g1:=hG8.frozen 1
        have lG:=hG8.lt
        have x3:w7.cell? ⟨C,3,none⟩=some (.slice (some ⟨T,0,none⟩) n n):=by rw [HC8.out.cell,HNN.out];rfl
        have lC:=HC8.out.lt
        have hz:=(set2 hG8 (.int .i64 a) (.int .i64 b)).alloc (.cells #[.int .i64 a,.int .i64 b] 26)
        have hzz:=(set2 hG8 (.int .i64 0) (.int .i64 0)).alloc (.cells #[.int .i64 a,.int .i64 b] 26)
        have Z0:=Lib.hid (hz.cell 0)
        have Z1:=Lib.hid (hz.cell 1)
        have Y0:=Lib.hid (hzz.cell 0)
        have Y1:=Lib.hid (hzz.cell 1)
        have HTF:=Lib.hid (((HT8.out.far (p:=⟨w.heap.size+1,0,none⟩) (fun e=>hGT e.symm) (.int .i64 0)).far (p:=⟨w.heap.size+1,1,none⟩) (fun e=>hGT e.symm) (.int .i64 0)).alloc (.cells #[.int .i64 a,.int .i64 b] 26))
        clear hz hzz hb7 hG8
        rcases hmc with ⟨rfl,rfl⟩ | hmc
        · have HE2:Hid (typesN l ns=.ok fs):=Lib.hid (by rw [HEND.out];rfl)
          go_wp2
          have z0:=Y0.out
          have z1:=Y1.out
          refine bodyPost_ret (v:=.tuple #[.slice (some ⟨T,0,none⟩) n n,.agg #[.int .i64 0,.int .i64 0]]) (by simp [results,Tryz.results19,go_sem,z0,z1]) rfl ?_
          rw [HQ.out,HE2.out]
          exact ⟨T,HSP.out.lo,by rw [HNN.out],((HB7.out.setCell (p:=⟨w.heap.size+1,0,none⟩) (by simp) _).setCell (p:=⟨w.heap.size+1,1,none⟩) (by simp) _).alloc (by have:=HB7.out.size;simp;omega) _,HTF.out,HFL.out⟩
        · have HE2:Hid (typesN l ns=.bad a b):=Lib.hid (by rw [HEND.out];rcases hmc with h | h <;> ((try dsimp only);rw [if_pos (by rw [h];decide)]))
          rcases hmc with rfl | rfl
          all_goals
            go_wp2
            go_region
            all_goals
              go_wp2
              have z0:=Z0.out
              have z1:=Z1.out
              refine bodyPost_ret (v:=.tuple #[.slice none 0 0,.agg #[_,.int .i64 b]]) (by simp [results,Tryz.results19,go_sem,z0,z1];rfl) rfl ?_
              rw [HQ.out,HE2.out]
              exact ⟨rfl,(((HB7.out.setCell (p:=⟨w.heap.size+1,0,none⟩) (by simp) _).setCell (p:=⟨w.heap.size+1,1,none⟩) (by simp) _).alloc (by have:=HB7.out.size;simp;omega) _).drew⟩
  · have hPlt:=HPB.out.lt
    have hPge:=HP4.out
    have hsz:=HBQ.out.size
    have HS0:Hid (Os w3 (((((w4.setCell ⟨w3.heap.size,0,none⟩ (.slice p n cap)).setCell ⟨w3.heap.size,1,none⟩ (.slice (some ⟨N,0,none⟩) n n)).setCell ⟨w3.heap.size,2,none⟩ (.slice (some ⟨P,0,none⟩) n n)).setCell ⟨w3.heap.size,3,none⟩ (.slice (some ⟨w4.heap.size,0,none⟩) n n)).alloc (.cells (numC n []) 3)) l n p cap (w3.heap.size) N P (w4.heap.size)):=Lib.hid ⟨((blk4 HXB.out _ _ _ _).alloc _),(by have:=Blk.new ((((w4.setCell ⟨w3.heap.size,0,none⟩ (.slice p n cap)).setCell ⟨w3.heap.size,1,none⟩ (.slice (some ⟨N,0,none⟩) n n)).setCell ⟨w3.heap.size,2,none⟩ (.slice (some ⟨P,0,none⟩) n n)).setCell ⟨w3.heap.size,3,none⟩ (.slice (some ⟨w4.heap.size,0,none⟩) n n)) 3 (numC n []);simpa [World.setCell] using this),((far4 HPB.out (by have:=HP4.out;simp at this;omega) _ _ _ _).alloc _),((bel4 HBQ.out (by have:=HBQ.out.size;first | omega | (simp;done) | (simp;omega)) _ _ _ _).alloc (bel4 HBQ.out (by have:=HBQ.out.size;first | omega | (simp;done) | (simp;omega)) _ _ _ _).size _),(by first | omega | (simp at hPge;omega)),(by first | omega | (simp at hPge;omega)),(by first | omega | (simp at hPge;omega))⟩
    generalize hW5:(((((w4.setCell ⟨w3.heap.size,0,none⟩ (.slice p n cap)).setCell ⟨w3.heap.size,1,none⟩ (.slice (some ⟨N,0,none⟩) n n)).setCell ⟨w3.heap.size,2,none⟩ (.slice (some ⟨P,0,none⟩) n n)).setCell ⟨w3.heap.size,3,none⟩ (.slice (some ⟨w4.heap.size,0,none⟩) n n)).alloc (.cells (numC n []) 3))=w5 at HS0 ⊢
    generalize hT5:(w4.heap.size)=T at HS0 ⊢
    generalize hC5:(w3.heap.size)=C at HS0 ⊢
    clear hC5 hT5 hW5 hPlt hPge hsz
    (try clear HXB)
    (try clear HXA)
    have HWW:Hid (Below w.heap.size w w5):=Lib.hid (HW3.out.trans (HS0.out.bel.mono HW3.out.size))
    have HCK:Hid (Ck w5 l p cap C N P T ns (List.replicate l.length 0)):=Lib.hid { tr:=HTr.out.below HWW.out,caps:=HCP.out,chk:=by rw [← HNN.out];exact HS0.out.chk,nms:=HN3.out.below HS0.out.bel HN3.out.lt,par:=HS0.out.par,typ:=by rw [zero_intA,← HNN.out];exact HS0.out.typ,nlen:=HLEN.out,plen:=(par_facts HL1.out HCC.out HSS.out).1,tlen:=by simp }
    have HSP:Hid (Sep w w5 l p N P T):=Lib.hid ⟨HTr.out,HWW.out,Nat.le_trans HW3.out.size HS0.out.lt,fun e=>by have h1:=HN3.out.lt;have h2:=HS0.out.lt;omega,HS0.out.pt⟩
    have HT5:=Lib.hid (HT3.out.below HS0.out.bel HT3.out.lt)
    have HG5:=Lib.hid (HG3.out.below HS0.out.bel HG3.out.lt)
    have hTlt:=HS0.out.lt
    have hGlt:=HG3.out.lt
    have hTBT:w.heap.size≠T:=by have:=HT3.out.lt;omega
    have hGT:w.heap.size+1≠T:=by omega
    have z5:w5.cell? ⟨w.heap.size,0,none⟩=some (.slice p n cap):=by rw [HT5.out.cell];rfl
    clear HPB HP4 HBQ SK HE0 HS0 hTlt HN3 HT3 HG3 HW3 HP0
    go_wp2
    go_loopw [33] (fun v wr=>∃ k:Nat,k≤n∧v=.int .i64 k∧Hid (∃ fs,Ck wr l p cap C N P T ns fs∧Chg T T w5 wr∧Upto l ns fs k∧runF l ns l.length 0 (List.replicate l.length 0)=runF l ns (l.length-k) k fs)) (fun v _=>n-(intOf v).toNat)
    case atStart=>exact ⟨0,Nat.zero_le _,rfl,Lib.hid ⟨_,HCK.out,Chg.refl _ _ _,upto_zero l ns,rfl⟩⟩
    case round =>
      obtain ⟨k,hk,rfl,HR⟩:=hrel
      obtain ⟨fs,hck,hcg,hup,hrun⟩:=HR.out
      have hbelw:Below w.heap.size w5 wr:=hcg.to_below HWW.out.size HSP.out.lo HSP.out.lo
      have hsep:Sep w wr l p N P T:={ HSP.out with bel:=HSP.out.bel.trans hbelw }
      have HT6:=Lib.hid (hcg.blk HT5.out hTBT hTBT)
      have HG6:=Lib.hid (hcg.blk HG5.out hGT hGT)
      have HCKw:=Lib.hid hck
      have HCG:=Lib.hid hcg
      have HUP:=Lib.hid hup
      have HRUN:=Lib.hid hrun
      have HSPW:=Lib.hid hsep
      by_cases hlt:k<n
      · have hkl:k<l.length:=by have:=HNN.out;omega
        have hchk:Hid (Calls Tryz.prog 46 #[.pointer (some ⟨C,0,none⟩),.int .i64 k] wr (CkPost w wr l p cap C N P T ns (chkF l ns fs k))):=Lib.hid (check_any hck hsep HL1.out HCC.out HSS.out HNMOK.out (by have:=HNN.out;omega) hkl hup)
        have hcode:=chk_code (l:=l) (ns:=ns) (fs:=fs) (k:=k)
        have HSTEP:Hid ((chkF l ns fs k).1=0→Upto l ns (chkF l ns fs k).2 (k+1)):=Lib.hid (fun h=>upto_step HCC.out hup hkl h)
        have HRN:Hid (runF l ns (l.length-k) k fs=if (chkF l ns fs k).1≠0 then .bad (chkF l ns fs k).1 k else runF l ns (l.length-(k+1)) (k+1) (chkF l ns fs k).2):=Lib.hid (by rw [show l.length-k=(l.length-(k+1))+1 by omega];rfl)
        obtain ⟨r,hr⟩ : ∃ r,r=chkF l ns fs k:=⟨_,rfl⟩
        rw [← hr] at hchk hcode HSTEP HRN
        obtain ⟨c,fs2⟩:=r
        have HCH:=Lib.hid hchk.out
        clear hck hcg hup hrun hsep hr HR hchk hbelw
        go_wp2_with (go_at_call 46;refine HCH.out.mono ?_)
        rintro e w6 ⟨rfl,hck6,hcg6⟩
        have HCK6:=Lib.hid hck6
        have HCG6:=Lib.hid (HCG.out.trans hcg6)
        have hG7:=HCG6.out.blk HG5.out hGT hGT
        have y0:w6.cell? ⟨w.heap.size+1,0,none⟩=some (.int .i64 0):=by rw [hG7.cell];rfl
        have y1:w6.cell? ⟨w.heap.size+1,1,none⟩=some (.int .i64 0):=by rw [hG7.cell];rfl
        have g0:=hG7.frozen 0
        have g1:=hG7.frozen 1
        have lG:=hG7.lt
        have HG7:=Lib.hid hG7
        clear hck6 hcg6 hG7
        rcases hcode with hc | hc | hc
        · obtain rfl:c=0:=hc
          have HNX:Hid (∃ fs,Ck w6 l p cap C N P T ns fs∧Chg T T w5 w6∧Upto l ns fs (k+1)∧runF l ns l.length 0 (List.replicate l.length 0)=runF l ns (l.length-(k+1)) (k+1) fs):=Lib.hid ⟨fs2,HCK6.out,HCG6.out,HSTEP.out rfl,by rw [HRUN.out,HRN.out];rfl⟩
          go_wp2
          go_roundw
          case rel=>exact ⟨k+1,by omega,by go_num,HNX⟩
          case measure=>simp [intOf];omega
        all_goals
          have HBAD:Hid (typesN l ns=.bad c k):=Lib.hid (by unfold typesN;rw [HRUN.out,HRN.out];(try dsimp only);rw [if_pos (by rw [hc];decide)])
          have HBW:=Lib.hid (HCG6.out.to_below HWW.out.size HSP.out.lo HSP.out.lo)
          obtain ⟨c0,hc0⟩ : ∃ c0:Int,c0=c:=⟨_,rfl⟩
          have HC0:=Lib.hid hc0
          have hz:=set2 HG7.out (.int .i64 c) (.int .i64 k)
          rw [hc] at hz
          have Z0:=Lib.hid (hz.cell 0)
          have Z1:=Lib.hid (hz.cell 1)
          clear hz hc0
          subst hc
          go_wp2
          have z0:=Z0.out
          have z1:=Z1.out
          refine bodyPost_ret (v:=.tuple #[.slice none 0 0,.agg #[_,.int .i64 k]]) (by simp [results,Tryz.results19,go_sem,z0,z1];rfl) rfl ?_
          rw [HQ.out,HBAD.out]
          exact ⟨rfl,((HWW.out.trans HBW.out).setCell (p:=⟨w.heap.size+1,0,none⟩) (by simp) _).setCell (p:=⟨w.heap.size+1,1,none⟩) (by simp) _⟩
      · have hkn:k=l.length:=by have:=HNN.out;omega
        have HEND:Hid (typesN l ns=if (mainF l).1≠0 then .bad (mainF l).1 (mainF l).2 else .ok fs):=Lib.hid (by unfold typesN;rw [hrun,hkn,Nat.sub_self];rfl)
        have HMN:=Lib.hid (checkMain_any hck HCC.out HL1.out (by have:=HNN.out;omega))
        have hmc:=main_code l
        have HBW:=Lib.hid (HWW.out.trans hbelw)
        have HFL:=Lib.hid hup.len
        have HTB:=Lib.hid hck.typ
        have HCB:=Lib.hid hck.chk
        have t6:wr.cell? ⟨w.heap.size,0,none⟩=some (.slice p n cap):=by rw [HT6.out.cell];rfl
        obtain ⟨r,hr⟩ : ∃ r,r=mainF l:=⟨_,rfl⟩
        rw [← hr] at HEND HMN hmc
        obtain ⟨a,b⟩:=r
        have HCH:=Lib.hid HMN.out
        clear hck hcg hup hrun hsep hr HR hbelw HMN hkn
        go_wp2_with (go_at_call 47;refine HCH.out.mono ?_)
        rintro e w7 ⟨rfl,hb7⟩
        have HB7:=Lib.hid (HBW.out.trans (hb7.mono HBW.out.size))
        have hG8:=HG6.out.below hb7 HG6.out.lt
        have HC8:=Lib.hid (HCB.out.below hb7 HCB.out.lt)
        have HT8:=Lib.hid (HTB.out.below hb7 HTB.out.lt)
        have y0:w7.cell? ⟨w.heap.size+1,0,none⟩=some (.int .i64 0):=by rw [hG8.cell];rfl
        have y1:w7.cell? ⟨w.heap.size+1,1,none⟩=some (.int .i64 0):=by rw [hG8.cell];rfl
        have g0:=hG8.frozen 0
        have g1:=hG8.frozen 1
        have lG:=hG8.lt
        have x3:w7.cell? ⟨C,3,none⟩=some (.slice (some ⟨T,0,none⟩) n n):=by rw [HC8.out.cell,HNN.out];rfl
        have lC:=HC8.out.lt
        have hz:=(set2 hG8 (.int .i64 a) (.int .i64 b)).alloc (.cells #[.int .i64 a,.int .i64 b] 26)
        have hzz:=(set2 hG8 (.int .i64 0) (.int .i64 0)).alloc (.cells #[.int .i64 a,.int .i64 b] 26)
        have Z0:=Lib.hid (hz.cell 0)
        have Z1:=Lib.hid (hz.cell 1)
        have Y0:=Lib.hid (hzz.cell 0)
        have Y1:=Lib.hid (hzz.cell 1)
        have HTF:=Lib.hid (((HT8.out.far (p:=⟨w.heap.size+1,0,none⟩) (fun e=>hGT e.symm) (.int .i64 0)).far (p:=⟨w.heap.size+1,1,none⟩) (fun e=>hGT e.symm) (.int .i64 0)).alloc (.cells #[.int .i64 a,.int .i64 b] 26))
        clear hz hzz hb7 hG8
        rcases hmc with ⟨rfl,rfl⟩ | hmc
        · have HE2:Hid (typesN l ns=.ok fs):=Lib.hid (by rw [HEND.out];rfl)
          go_wp2
          have z0:=Y0.out
          have z1:=Y1.out
          refine bodyPost_ret (v:=.tuple #[.slice (some ⟨T,0,none⟩) n n,.agg #[.int .i64 0,.int .i64 0]]) (by simp [results,Tryz.results19,go_sem,z0,z1]) rfl ?_
          rw [HQ.out,HE2.out]
          exact ⟨T,HSP.out.lo,by rw [HNN.out],((HB7.out.setCell (p:=⟨w.heap.size+1,0,none⟩) (by simp) _).setCell (p:=⟨w.heap.size+1,1,none⟩) (by simp) _).alloc (by have:=HB7.out.size;simp;omega) _,HTF.out,HFL.out⟩
        · have HE2:Hid (typesN l ns=.bad a b):=Lib.hid (by rw [HEND.out];rcases hmc with h | h <;> ((try dsimp only);rw [if_pos (by rw [h];decide)]))
          rcases hmc with rfl | rfl
          all_goals
            go_wp2
            go_region
            all_goals
              go_wp2
              have z0:=Z0.out
              have z1:=Z1.out
              refine bodyPost_ret (v:=.tuple #[.slice none 0 0,.agg #[_,.int .i64 b]]) (by simp [results,Tryz.results19,go_sem,z0,z1];rfl) rfl ?_
              rw [HQ.out,HE2.out]
              exact ⟨rfl,(((HB7.out.setCell (p:=⟨w.heap.size+1,0,none⟩) (by simp) _).setCell (p:=⟨w.heap.size+1,1,none⟩) (by simp) _).alloc (by have:=HB7.out.size;simp;omega) _).drew⟩
  · have hPlt:=HPB.out.lt
    have hPge:=HP4.out
    have hsz:=HBQ.out.size
    have HS0:Hid (Os w3 ((((w4.setCell ⟨w3.heap.size,0,none⟩ (.slice p n cap)).setCell ⟨w3.heap.size,1,none⟩ (.slice (some ⟨N,0,none⟩) n n)).setCell ⟨w3.heap.size,2,none⟩ (.slice (some ⟨P,0,none⟩) n n)).setCell ⟨w3.heap.size,3,none⟩ (.slice (some ⟨w3.heap.size+1,0,none⟩) n n)) l n p cap (w3.heap.size) N P (w3.heap.size+1)):=Lib.hid ⟨(blk4 HXA.out _ _ _ _),(far4 HXB.out (by omega) _ _ _ _),(far4 HPB.out (by have:=HP4.out;simp at this;omega) _ _ _ _),(bel4 HBQ.out (by have:=HBQ.out.size;first | omega | (simp;done) | (simp;omega)) _ _ _ _),(by first | omega | (simp at hPge;omega)),(by first | omega | (simp at hPge;omega)),(by first | omega | (simp at hPge;omega))⟩
    generalize hW5:((((w4.setCell ⟨w3.heap.size,0,none⟩ (.slice p n cap)).setCell ⟨w3.heap.size,1,none⟩ (.slice (some ⟨N,0,none⟩) n n)).setCell ⟨w3.heap.size,2,none⟩ (.slice (some ⟨P,0,none⟩) n n)).setCell ⟨w3.heap.size,3,none⟩ (.slice (some ⟨w3.heap.size+1,0,none⟩) n n))=w5 at HS0 ⊢
    generalize hT5:(w3.heap.size+1)=T at HS0 ⊢
    generalize hC5:(w3.heap.size)=C at HS0 ⊢
    clear hC5 hT5 hW5 hPlt hPge hsz
    (try clear HXB)
    (try clear HXA)
    have HWW:Hid (Below w.heap.size w w5):=Lib.hid (HW3.out.trans (HS0.out.bel.mono HW3.out.size))
    have HCK:Hid (Ck w5 l p cap C N P T ns (List.replicate l.length 0)):=Lib.hid { tr:=HTr.out.below HWW.out,caps:=HCP.out,chk:=by rw [← HNN.out];exact HS0.out.chk,nms:=HN3.out.below HS0.out.bel HN3.out.lt,par:=HS0.out.par,typ:=by rw [zero_intA,← HNN.out];exact HS0.out.typ,nlen:=HLEN.out,plen:=(par_facts HL1.out HCC.out HSS.out).1,tlen:=by simp }
    have HSP:Hid (Sep w w5 l p N P T):=Lib.hid ⟨HTr.out,HWW.out,Nat.le_trans HW3.out.size HS0.out.lt,fun e=>by have h1:=HN3.out.lt;have h2:=HS0.out.lt;omega,HS0.out.pt⟩
    have HT5:=Lib.hid (HT3.out.below HS0.out.bel HT3.out.lt)
    have HG5:=Lib.hid (HG3.out.below HS0.out.bel HG3.out.lt)
    have hTlt:=HS0.out.lt
    have hGlt:=HG3.out.lt
    have hTBT:w.heap.size≠T:=by have:=HT3.out.lt;omega
    have hGT:w.heap.size+1≠T:=by omega
    have z5:w5.cell? ⟨w.heap.size,0,none⟩=some (.slice p n cap):=by rw [HT5.out.cell];rfl
    clear HPB HP4 HBQ SK HE0 HS0 hTlt HN3 HT3 HG3 HW3 HP0
    go_wp2
    go_loopw [33] (fun v wr=>∃ k:Nat,k≤n∧v=.int .i64 k∧Hid (∃ fs,Ck wr l p cap C N P T ns fs∧Chg T T w5 wr∧Upto l ns fs k∧runF l ns l.length 0 (List.replicate l.length 0)=runF l ns (l.length-k) k fs)) (fun v _=>n-(intOf v).toNat)
    case atStart=>exact ⟨0,Nat.zero_le _,rfl,Lib.hid ⟨_,HCK.out,Chg.refl _ _ _,upto_zero l ns,rfl⟩⟩
    case round =>
      obtain ⟨k,hk,rfl,HR⟩:=hrel
      obtain ⟨fs,hck,hcg,hup,hrun⟩:=HR.out
      have hbelw:Below w.heap.size w5 wr:=hcg.to_below HWW.out.size HSP.out.lo HSP.out.lo
      have hsep:Sep w wr l p N P T:={ HSP.out with bel:=HSP.out.bel.trans hbelw }
      have HT6:=Lib.hid (hcg.blk HT5.out hTBT hTBT)
      have HG6:=Lib.hid (hcg.blk HG5.out hGT hGT)
      have HCKw:=Lib.hid hck
      have HCG:=Lib.hid hcg
      have HUP:=Lib.hid hup
      have HRUN:=Lib.hid hrun
      have HSPW:=Lib.hid hsep
      by_cases hlt:k<n
      · have hkl:k<l.length:=by have:=HNN.out;omega
        have hchk:Hid (Calls Tryz.prog 46 #[.pointer (some ⟨C,0,none⟩),.int .i64 k] wr (CkPost w wr l p cap C N P T ns (chkF l ns fs k))):=Lib.hid (check_any hck hsep HL1.out HCC.out HSS.out HNMOK.out (by have:=HNN.out;omega) hkl hup)
        have hcode:=chk_code (l:=l) (ns:=ns) (fs:=fs) (k:=k)
        have HSTEP:Hid ((chkF l ns fs k).1=0→Upto l ns (chkF l ns fs k).2 (k+1)):=Lib.hid (fun h=>upto_step HCC.out hup hkl h)
        have HRN:Hid (runF l ns (l.length-k) k fs=if (chkF l ns fs k).1≠0 then .bad (chkF l ns fs k).1 k else runF l ns (l.length-(k+1)) (k+1) (chkF l ns fs k).2):=Lib.hid (by rw [show l.length-k=(l.length-(k+1))+1 by omega];rfl)
        obtain ⟨r,hr⟩ : ∃ r,r=chkF l ns fs k:=⟨_,rfl⟩
        rw [← hr] at hchk hcode HSTEP HRN
        obtain ⟨c,fs2⟩:=r
        have HCH:=Lib.hid hchk.out
        clear hck hcg hup hrun hsep hr HR hchk hbelw
        go_wp2_with (go_at_call 46;refine HCH.out.mono ?_)
        rintro e w6 ⟨rfl,hck6,hcg6⟩
        have HCK6:=Lib.hid hck6
        have HCG6:=Lib.hid (HCG.out.trans hcg6)
        have hG7:=HCG6.out.blk HG5.out hGT hGT
        have y0:w6.cell? ⟨w.heap.size+1,0,none⟩=some (.int .i64 0):=by rw [hG7.cell];rfl
        have y1:w6.cell? ⟨w.heap.size+1,1,none⟩=some (.int .i64 0):=by rw [hG7.cell];rfl
        have g0:=hG7.frozen 0
        have g1:=hG7.frozen 1
        have lG:=hG7.lt
        have HG7:=Lib.hid hG7
        clear hck6 hcg6 hG7
        rcases hcode with hc | hc | hc
        · obtain rfl:c=0:=hc
          have HNX:Hid (∃ fs,Ck w6 l p cap C N P T ns fs∧Chg T T w5 w6∧Upto l ns fs (k+1)∧runF l ns l.length 0 (List.replicate l.length 0)=runF l ns (l.length-(k+1)) (k+1) fs):=Lib.hid ⟨fs2,HCK6.out,HCG6.out,HSTEP.out rfl,by rw [HRUN.out,HRN.out];rfl⟩
          go_wp2
          go_roundw
          case rel=>exact ⟨k+1,by omega,by go_num,HNX⟩
          case measure=>simp [intOf];omega
        all_goals
          have HBAD:Hid (typesN l ns=.bad c k):=Lib.hid (by unfold typesN;rw [HRUN.out,HRN.out];(try dsimp only);rw [if_pos (by rw [hc];decide)])
          have HBW:=Lib.hid (HCG6.out.to_below HWW.out.size HSP.out.lo HSP.out.lo)
          obtain ⟨c0,hc0⟩ : ∃ c0:Int,c0=c:=⟨_,rfl⟩
          have HC0:=Lib.hid hc0
          have hz:=set2 HG7.out (.int .i64 c) (.int .i64 k)
          rw [hc] at hz
          have Z0:=Lib.hid (hz.cell 0)
          have Z1:=Lib.hid (hz.cell 1)
          clear hz hc0
          subst hc
          go_wp2
          have z0:=Z0.out
          have z1:=Z1.out
          refine bodyPost_ret (v:=.tuple #[.slice none 0 0,.agg #[_,.int .i64 k]]) (by simp [results,Tryz.results19,go_sem,z0,z1];rfl) rfl ?_
          rw [HQ.out,HBAD.out]
          exact ⟨rfl,((HWW.out.trans HBW.out).setCell (p:=⟨w.heap.size+1,0,none⟩) (by simp) _).setCell (p:=⟨w.heap.size+1,1,none⟩) (by simp) _⟩
      · have hkn:k=l.length:=by have:=HNN.out;omega
        have HEND:Hid (typesN l ns=if (mainF l).1≠0 then .bad (mainF l).1 (mainF l).2 else .ok fs):=Lib.hid (by unfold typesN;rw [hrun,hkn,Nat.sub_self];rfl)
        have HMN:=Lib.hid (checkMain_any hck HCC.out HL1.out (by have:=HNN.out;omega))
        have hmc:=main_code l
        have HBW:=Lib.hid (HWW.out.trans hbelw)
        have HFL:=Lib.hid hup.len
        have HTB:=Lib.hid hck.typ
        have HCB:=Lib.hid hck.chk
        have t6:wr.cell? ⟨w.heap.size,0,none⟩=some (.slice p n cap):=by rw [HT6.out.cell];rfl
        obtain ⟨r,hr⟩ : ∃ r,r=mainF l:=⟨_,rfl⟩
        rw [← hr] at HEND HMN hmc
        obtain ⟨a,b⟩:=r
        have HCH:=Lib.hid HMN.out
        clear hck hcg hup hrun hsep hr HR hbelw HMN hkn
        go_wp2_with (go_at_call 47;refine HCH.out.mono ?_)
        rintro e w7 ⟨rfl,hb7⟩
        have HB7:=Lib.hid (HBW.out.trans (hb7.mono HBW.out.size))
        have hG8:=HG6.out.below hb7 HG6.out.lt
        have HC8:=Lib.hid (HCB.out.below hb7 HCB.out.lt)
        have HT8:=Lib.hid (HTB.out.below hb7 HTB.out.lt)
        have y0:w7.cell? ⟨w.heap.size+1,0,none⟩=some (.int .i64 0):=by rw [hG8.cell];rfl
        have y1:w7.cell? ⟨w.heap.size+1,1,none⟩=some (.int .i64 0):=by rw [hG8.cell];rfl
        have g0:=hG8.frozen 0
        have g1:=hG8.frozen 1
        have lG:=hG8.lt
        have x3:w7.cell? ⟨C,3,none⟩=some (.slice (some ⟨T,0,none⟩) n n):=by rw [HC8.out.cell,HNN.out];rfl
        have lC:=HC8.out.lt
        have hz:=(set2 hG8 (.int .i64 a) (.int .i64 b)).alloc (.cells #[.int .i64 a,.int .i64 b] 26)
        have hzz:=(set2 hG8 (.int .i64 0) (.int .i64 0)).alloc (.cells #[.int .i64 a,.int .i64 b] 26)
        have Z0:=Lib.hid (hz.cell 0)
        have Z1:=Lib.hid (hz.cell 1)
        have Y0:=Lib.hid (hzz.cell 0)
        have Y1:=Lib.hid (hzz.cell 1)
        have HTF:=Lib.hid (((HT8.out.far (p:=⟨w.heap.size+1,0,none⟩) (fun e=>hGT e.symm) (.int .i64 0)).far (p:=⟨w.heap.size+1,1,none⟩) (fun e=>hGT e.symm) (.int .i64 0)).alloc (.cells #[.int .i64 a,.int .i64 b] 26))
        clear hz hzz hb7 hG8
        rcases hmc with ⟨rfl,rfl⟩ | hmc
        · have HE2:Hid (typesN l ns=.ok fs):=Lib.hid (by rw [HEND.out];rfl)
          go_wp2
          have z0:=Y0.out
          have z1:=Y1.out
          refine bodyPost_ret (v:=.tuple #[.slice (some ⟨T,0,none⟩) n n,.agg #[.int .i64 0,.int .i64 0]]) (by simp [results,Tryz.results19,go_sem,z0,z1]) rfl ?_
          rw [HQ.out,HE2.out]
          exact ⟨T,HSP.out.lo,by rw [HNN.out],((HB7.out.setCell (p:=⟨w.heap.size+1,0,none⟩) (by simp) _).setCell (p:=⟨w.heap.size+1,1,none⟩) (by simp) _).alloc (by have:=HB7.out.size;simp;omega) _,HTF.out,HFL.out⟩
        · have HE2:Hid (typesN l ns=.bad a b):=Lib.hid (by rw [HEND.out];rcases hmc with h | h <;> ((try dsimp only);rw [if_pos (by rw [h];decide)]))
          rcases hmc with rfl | rfl
          all_goals
            go_wp2
            go_region
            all_goals
              go_wp2
              have z0:=Z0.out
              have z1:=Z1.out
              refine bodyPost_ret (v:=.tuple #[.slice none 0 0,.agg #[_,.int .i64 b]]) (by simp [results,Tryz.results19,go_sem,z0,z1];rfl) rfl ?_
              rw [HQ.out,HE2.out]
              exact ⟨rfl,(((HB7.out.setCell (p:=⟨w.heap.size+1,0,none⟩) (by simp) _).setCell (p:=⟨w.heap.size+1,1,none⟩) (by simp) _).alloc (by have:=HB7.out.size;simp;omega) _).drew⟩
end
end Ty
end
end Go.Proofs.YtdjpopebeenlmaaGreatDoor
