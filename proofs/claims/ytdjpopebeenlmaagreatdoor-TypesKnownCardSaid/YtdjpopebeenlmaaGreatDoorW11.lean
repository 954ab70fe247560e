/-
  Joined texts of this claim: TrL, Su, Sd, TrM, Soa, Se, TrUi, Sf, TrU, TrV, TrW.
-/
import Derived.Test.YtdjpopebeenlmaaGreatDoorW00
import Derived.Test.YtdjpopebeenlmaaGreatDoorW10
set_option maxHeartbeats 40000000
set_option maxRecDepth 100000
set_option linter.unusedVariables false
set_option linter.unusedSimpArgs false
namespace Go.Proofs.YtdjpopebeenlmaaGreatDoor
section
namespace Tr
open Go.RowKit

theorem firsts_succ (l:List Nd) (k:Nat):firsts l (k+1)=firsts l k ++ [St l k]:=by
  have h:=firsts_get l (Nat.lt_succ_self k)
  show firsts l k ++ [_]=_
  unfold St
  simp only [List.getD,firsts]
  rw [List.getElem?_append_right (by rw [firsts_length];omega),firsts_length,Nat.sub_self]
  rfl
/-- what begins tells of a tree -/
def BsPost (l:List Nd) (w:World) (e:Ending) (w':World):Prop :=
  Below w.heap.size w w'∧∃ (v:Value) (c a:Int),e=.returned (.tuple #[v,.agg #[.int .i64 c,.int .i64 a]])∧CkR l c a ∧
    (c=0→∃ B,v=.slice (some ⟨B,0,none⟩) l.length l.length∧w.heap.size≤B∧B<w'.heap.size∧∀ j,j<l.length→w'.cell? ⟨B,j,none⟩=some (.int .i64 (St l j)))

set_option maxHeartbeats 8000000 in
set_option maxRecDepth 100000 in
theorem begins_count (l:List Nd) (p:Option Addr) (cap:Nat) (w:World) (hlen:l.length≤140737488355328) (hbad:l.length<1∨600<l.length) :
    Calls Tryz.prog 48 #[.agg #[.slice p l.length cap]] w (BsPost l w):=by
  have HR:Hid (CkR l 2 0):=Or.inl ⟨hbad,rfl,rfl⟩
  obtain ⟨Q,hQ⟩ : ∃ Q:Ending→World→Prop,Q=BsPost l w:=⟨_,rfl⟩
  have HQ:=Lib.hid hQ
  rw [← hQ]
  clear hQ
  generalize l.length=n at *
  by_cases h1:n<1
  · clear hbad
    go_enter Tryz.func48,Tryz.ntmps48
    go_wp2
    refine bodyPost_ret (v:=.tuple #[.slice none 0 0,.agg #[.int .i64 2,.int .i64 0]]) (by simp [results,Tryz.results48,go_sem]) rfl ?_
    rw [HQ.out]
    exact ⟨((Below.refl _ _).alloc (Nat.le_refl _) _).alloc (by simp) _,_,2,0,rfl,HR.out,fun h=>by cases h⟩
  · have h2:600<n:=by omega
    clear hbad
    go_enter Tryz.func48,Tryz.ntmps48
    go_wp2
    refine bodyPost_ret (v:=.tuple #[.slice none 0 0,.agg #[.int .i64 2,.int .i64 0]]) (by simp [results,Tryz.results48,go_sem]) rfl ?_
    rw [HQ.out]
    exact ⟨((Below.refl _ _).alloc (Nat.le_refl _) _).alloc (by simp) _,_,2,0,rfl,HR.out,fun h=>by cases h⟩

set_option maxHeartbeats 8000000 in
set_option maxRecDepth 100000 in
theorem begins_main (l:List Nd) (b o cap:Nat) (w:World) (h1:1≤l.length) (h600:l.length≤600) (hcap:l.length≤cap) (hb:b<w.heap.size) (hN:∀ j,(h:j<l.length)→NodeAt w b (o+j * 6) l[j]) (hK:∀ j,(h:j<l.length)→KidsAt w l[j].p l[j].c)
    (hm:∀ j,(h:j<l.length)→l[j].c.length≤1000000000000000000) :
    Calls Tryz.prog 48 #[.agg #[.slice (some ⟨b,o,none⟩) l.length cap]] w (BsPost l w):=by
  have HN:=Lib.hid hN
  have HK:=Lib.hid hK
  have HM:=Lib.hid hm
  clear hN hK hm
  obtain ⟨Q,hQ⟩ : ∃ Q:Ending→World→Prop,Q=BsPost l w:=⟨_,rfl⟩
  have HQ:=Lib.hid hQ
  rw [← hQ]
  clear hQ
  obtain ⟨n,hn⟩ : ∃ n,n=l.length:=⟨_,rfl⟩
  rw [← hn] at h1 h600 hcap ⊢
  have Hn:=Lib.hid hn
  clear hn
  have hmk:=make_ints n ((w.alloc (.cells #[.slice (some ⟨b,o,none⟩) n cap] 24)).alloc (.cells #[.int .i64 0,.int .i64 0] 26)) (by omega)
  simp only [World.size_alloc] at hmk
  go_enter Tryz.func48,Tryz.ntmps48
  go_wp2
  clear hmk
  go_loopw [24] (fun v wr=>∃ k:Nat,k≤n∧v=.int .i64 k∧Blk wr w.heap.size 24 #[.slice (some ⟨b,o,none⟩) n cap]∧Blk wr (w.heap.size+1) 26 #[.int .i64 0,.int .i64 0]∧Blk wr (w.heap.size+1+1) 3 (numC n (firsts l k))∧Hid (∀ j,j<k→codeAt l j=0)∧Below w.heap.size w wr) (fun v _=>n-(intOf v).toNat)
  case atStart =>
    exact ⟨0,Nat.zero_le _,rfl,((Blk.new _ _ _).alloc _).alloc _,by have:=Blk.new (w.alloc (.cells #[.slice (some ⟨b,o,none⟩) n cap] 24)) 26 #[.int .i64 0,.int .i64 0];rw [World.size_alloc] at this;exact this.alloc _,
      by have:=Blk.new ((w.alloc (.cells #[.slice (some ⟨b,o,none⟩) n cap] 24)).alloc (.cells #[.int .i64 0,.int .i64 0] 26)) 3 (numC n []);rw [World.size_alloc,World.size_alloc] at this;exact this,fun j h=>by omega,
      (((Below.refl _ _).alloc (Nat.le_refl _) _).alloc (by simp) _).alloc (by simp;omega) _⟩
  case round =>
    obtain ⟨k,hk,rfl,hX,hY,hF,HC,hbel⟩:=hrel
    have x0:wr.cell? ⟨w.heap.size,0,none⟩=some (.slice (some ⟨b,o,none⟩) n cap):=by rw [hX.cell];rfl
    have HB:=Lib.hid hbel
    have lF:=hF.lt
    have lY:=hY.lt
    have HX:=Lib.hid hX
    have HY:=Lib.hid hY
    have HF:=Lib.hid hF
    clear hbel hX hY hF
    by_cases hlt:k<n
    · have hkl:k<l.length:=by have:=Hn.out;omega
      have hbg:=begin_any l k hkl b o cap (w.heap.size+1+1) n wr (by have:=Hn.out;omega) (Nat.lt_of_lt_of_le hb HB.out.size) (fun j hj=>(HN.out j hj).below HB.out hb) ((HK.out k hkl).below HB.out) lF (by omega)
        (fun j hj=>by rw [HF.out.cell];have h:=numC_get (n:=n) (j:=j) (xs:=firsts l k) (by rw [firsts_length];exact hj);rw [firsts_get l hj] at h;exact h) (HM.out k hkl)
      have hkc:k+1≤cap:=by omega
      go_wp2_with (go_at_call 88;refine hbg.mono ?_)
      intro e w3 hp
      obtain ⟨hb3,⟨hc,rfl⟩ | ⟨hc,rfl⟩⟩:=hp
      · have hF3:=HF.out.below hb3 lF
        have HX3:=Lib.hid (HX.out.below hb3 (by omega))
        have HY3:=Lib.hid (HY.out.below hb3 lY)
        have HB3:=Lib.hid (HB.out.trans (hb3.mono (by omega)))
        have lF3:=hF3.lt
        have f2:=hF3.frozen k
        have f0:w3.cell? ⟨w.heap.size+1+1,k,none⟩=some (.int .i64 0):=by
          rw [hF3.cell];exact numC_zero (by rw [firsts_length];exact Nat.le_refl _) hlt
        have HC2:Hid (∀ j,j<k+1→codeAt l j=0):=fun j hj=>by
          by_cases e:j=k
          · subst e;exact hc
          · exact HC.out j (by omega)
        have hset:Hid (Blk (w3.setCell ⟨w.heap.size+1+1,k,none⟩ (.int .i64 ((St l k:Nat):Int))) (w.heap.size+1+1) 3 (numC n (firsts l (k+1)))):=by
          show Blk _ _ _ _
          have h:=hF3.set_ (firsts l k).length (.int .i64 ((St l k:Nat):Int))
          rw [numC_snoc (St l k) (by rw [firsts_length];exact hlt),firsts_length,← firsts_succ] at h
          exact h
        clear hF3 hb3 hbg hc HC
        go_wp2
        go_roundw
        case rel=>exact ⟨k+1,by omega,by go_num,HX3.out.far (by simp;omega) _,HY3.out.far (by simp) _,hset.out,HC2,HB3.out.setCell (p:=⟨w.heap.size+1+1,k,none⟩) (by simp;omega) _⟩
        case measure=>simp [intOf];try omega
      · have HY3:=HY.out.below hb3 lY
        have HB3:=Lib.hid (HB.out.trans (hb3.mono (by omega)))
        have y0:w3.cell? ⟨w.heap.size+1,0,none⟩=some (.int .i64 0):=by rw [HY3.cell];rfl
        have y1:w3.cell? ⟨w.heap.size+1,1,none⟩=some (.int .i64 0):=by rw [HY3.cell];rfl
        have g0:=HY3.frozen 0
        have g1:=HY3.frozen 1
        have HR:Hid (CkR l (codeAt l k) k):=Or.inr ⟨by have:=Hn.out;omega,by have:=Hn.out;omega,Or.inl ⟨k,hkl,HC.out,hc,rfl,rfl⟩⟩
        have hc0:=Lib.hid hc
        have c1:(codeAt l k != 0)=true:=by simpa using hc
        have lY3:=HY3.lt
        clear hb3 hbg hc HC HY3
        generalize codeAt l k=c at *
        go_wp2
        refine bodyPost_ret (v:=.tuple #[.slice none 0 0,.agg #[.int .i64 c,.int .i64 k]]) (by simp [results,Tryz.results48,go_sem,y0,y1]) rfl ?_
        rw [HQ.out]
        exact ⟨(HB3.out.setCell (p:=⟨w.heap.size+1,0,none⟩) (by simp) _).setCell (p:=⟨w.heap.size+1,1,none⟩) (by simp) _,_,c,k,rfl,HR.out,fun h=>absurd h hc0.out⟩
    · have hkn:k=n:=by omega
      subst hkn
      have hall:Hid (∀ j,j<l.length→codeAt l j=0):=fun j hj=>HC.out j (by have:=Hn.out;omega)
      have f0:wr.cell? ⟨w.heap.size+1+1,k-1,none⟩=some (.int .i64 ((St l (l.length-1):Nat):Int)):=by
        have h:=numC_get (n:=k) (j:=k-1) (xs:=firsts l k) (by rw [firsts_length];omega)
        rw [firsts_get l (by omega)] at h
        rw [HF.out.cell,← Hn.out];exact h
      have e1:(k:Int)-1=((k-1:Nat):Int):=by omega
      have HF2:Hid (∀ j,j<l.length→wr.cell? ⟨w.heap.size+1+1,j,none⟩=some (.int .i64 (St l j))):=fun j hj=>by
        have h:=numC_get (n:=k) (j:=j) (xs:=firsts l k) (by rw [firsts_length];have:=Hn.out;omega)
        rw [firsts_get l (by have:=Hn.out;omega)] at h
        rw [HF.out.cell];exact h
      have y0:wr.cell? ⟨w.heap.size+1,0,none⟩=some (.int .i64 0):=by rw [HY.out.cell];rfl
      have y1:wr.cell? ⟨w.heap.size+1,1,none⟩=some (.int .i64 0):=by rw [HY.out.cell];rfl
      have g0:=HY.out.frozen 0
      have g1:=HY.out.frozen 1
      by_cases hs:St l (l.length-1)=0
      · have hdp:=depth_any l b o cap wr (by have:=Hn.out;omega) (by have:=Hn.out;omega) (Nat.lt_of_lt_of_le hb HB.out.size) (fun j hj=>(HN.out j hj).below HB.out hb) (fun j hj=>(HK.out j hj).below HB.out) hall.out
        have Hs:=Lib.hid hs
        rw [hs] at f0
        clear hs HF HC
        obtain ⟨d,hd⟩ : ∃ d,d=Dp l (l.length-1):=⟨_,rfl⟩
        rw [← hd,← Hn.out] at hdp
        have Hd:=Lib.hid hd
        clear hd
        have lR:=HY.out.lt
        by_cases h40:40<d
        · have HR:Hid (CkR l 10 0):=Or.inr ⟨by have:=Hn.out;omega,by have:=Hn.out;omega,Or.inr ⟨hall.out,Or.inr ⟨Hs.out,Or.inl ⟨by rw [← Hd.out];exact h40,rfl,rfl⟩⟩⟩⟩
          go_wp2_with (go_at_call 89;refine hdp.mono ?_)
          first | rintro e w3 rfl hb3 | rintro e w3 ⟨rfl,hb3⟩
          have HY3:=HY.out.below hb3 lR
          have HB3:=Lib.hid (HB.out.trans (hb3.mono (by omega)))
          have y0:w3.cell? ⟨w.heap.size+1,0,none⟩=some (.int .i64 0):=by rw [HY3.cell];rfl
          have y1:w3.cell? ⟨w.heap.size+1,1,none⟩=some (.int .i64 0):=by rw [HY3.cell];rfl
          have g0:=HY3.frozen 0
          have g1:=HY3.frozen 1
          have lY3:=HY3.lt
          clear hb3 hdp HY3
          go_wp2
          refine bodyPost_ret (v:=.tuple #[.slice none 0 0,.agg #[.int .i64 10,.int .i64 0]]) (by simp [results,Tryz.results48,go_sem,y0,y1]) rfl ?_
          rw [HQ.out]
          exact ⟨(HB3.out.setCell (p:=⟨w.heap.size+1,0,none⟩) (by simp) _).setCell (p:=⟨w.heap.size+1,1,none⟩) (by simp) _,_,10,0,rfl,HR.out,fun h=>by cases h⟩
        · have HR:Hid (CkR l 0 0):=Or.inr ⟨by have:=Hn.out;omega,by have:=Hn.out;omega,Or.inr ⟨hall.out,Or.inr ⟨Hs.out,Or.inr ⟨by rw [← Hd.out];omega,rfl,rfl⟩⟩⟩⟩
          go_wp2_with (go_at_call 89;refine hdp.mono ?_)
          first | rintro e w3 rfl hb3 | rintro e w3 ⟨rfl,hb3⟩
          have HY3:=HY.out.below hb3 lR
          have HB3:=Lib.hid (HB.out.trans (hb3.mono (by omega)))
          have y0:w3.cell? ⟨w.heap.size+1,0,none⟩=some (.int .i64 0):=by rw [HY3.cell];rfl
          have y1:w3.cell? ⟨w.heap.size+1,1,none⟩=some (.int .i64 0):=by rw [HY3.cell];rfl
          have g0:=HY3.frozen 0
          have g1:=HY3.frozen 1
          have lY3:=HY3.lt
          have hF3:Hid (∀ j,j<l.length→w3.cell? ⟨w.heap.size+1+1,j,none⟩=some (.int .i64 (St l j))):=fun j hj=>(hb3.cell (p:=⟨w.heap.size+1+1,j,none⟩) lF).trans (HF2.out j hj)
          have lF3:w.heap.size+1+1<w3.heap.size:=Nat.lt_of_lt_of_le lF hb3.size
          clear hb3 hdp HY3
          go_wp2
          refine bodyPost_ret (v:=.tuple #[.slice (some ⟨w.heap.size+1+1,0,none⟩) k k,.agg #[.int .i64 0,.int .i64 0]]) (by simp [results,Tryz.results48,go_sem,y0,y1]) rfl ?_
          rw [HQ.out]
          refine ⟨(HB3.out.setCell (p:=⟨w.heap.size+1,0,none⟩) (by simp) _).setCell (p:=⟨w.heap.size+1,1,none⟩) (by simp) _,_,0,0,rfl,HR.out,fun _=>⟨w.heap.size+1+1,by rw [← Hn.out],by omega,by simpa using lF3,fun j hj=>?_⟩⟩
          rw [World.cell?_setCell_other _ _ _ _ (by simp),World.cell?_setCell_other _ _ _ _ (by simp)]
          exact hF3.out j hj
      · have HR:Hid (CkR l 5 ((k:Int)-1)):=Or.inr ⟨by have:=Hn.out;omega,by have:=Hn.out;omega,Or.inr ⟨hall.out,Or.inl ⟨hs,rfl,by rw [← Hn.out]⟩⟩⟩
        clear HF HC
        generalize St l (l.length-1)=s at *
        have c1:((s:Int) != 0)=true:=by simpa using hs
        have c2:((s:Int) == 0)=false:=by simpa using hs
        clear hs
        rw [e1] at HR
        go_wp2
        refine bodyPost_ret (v:=.tuple #[.slice none 0 0,.agg #[.int .i64 5,.int .i64 ((k-1:Nat):Int)]]) (by simp [results,Tryz.results48,go_sem,y0,y1]) rfl ?_
        rw [HQ.out]
        exact ⟨(HB.out.setCell (p:=⟨w.heap.size+1,0,none⟩) (by simp) _).setCell (p:=⟨w.heap.size+1,1,none⟩) (by simp) _,_,5,_,rfl,HR.out,fun h=>by cases h⟩
end Tr
end
section
namespace Sc
open Go.RowKit
open Tr

theorem goB_top {k i m kid:Int}(h:goB k i m kid=true) (hk:k≠1):kid≠2∧kid≠3:=by
  have h2:∀ x,exprB x=true→31≤x∧x≤40:=fun x h=>of_decide_eq_true h
  have h3:∀ x,actB x=true→(11≤x∧x≤18)∨(21≤x∧x≤24):=fun x h=>of_decide_eq_true h
  unfold goB forB at h
  rw [if_neg hk] at h
  repeat' split at h
  all_goals (try simp at h)
  all_goals (constructor <;> (intro e;subst e;revert h;simp [exprB,actB]))
theorem goB_unit {k i m kid:Int}(h:goB k i m kid=true):kid≠1:=by
  intro e;subst e
  unfold goB forB at h
  repeat' split at h
  all_goals (revert h;simp [exprB,actB])
theorem Kin.kidUnit {l:List Nd}{k:Nat}{q:Nat→Nat}(h:Kin l k q) (j:Nat) (hj:j<(kidsAt l k).length) {x:Nat}(hx:(kidsAt l k)[j]=(x:Int)):kindAt l x≠1:=by
  obtain ⟨a,b,c,d⟩:=h.kid j hj
  have e:q (j+1)-1=x:=by omega
  rw [e] at d
  exact goB_unit d
theorem Kin.mem {l:List Nd}{k:Nat}{q:Nat→Nat}(_h:Kin l k q) {x:Nat}(hx:(x:Int) ∈ kidsAt l k):∃ j,∃ hj:j<(kidsAt l k).length,(kidsAt l k)[j]=(x:Int):=by
  obtain ⟨j,hj,e⟩:=List.getElem_of_mem hx
  exact ⟨j,hj,e⟩
theorem Kin.kidTop {l:List Nd}{k:Nat}{q:Nat→Nat}(h:Kin l k q) (hk:kindAt l k≠1) (j:Nat) (hj:j<(kidsAt l k).length) {x:Nat}(hx:(kidsAt l k)[j]=(x:Int)):¬ (kindAt l x=2∨kindAt l x=3):=by
  obtain ⟨a,b,c,d⟩:=h.kid j hj
  have e:q (j+1)-1=x:=by omega
  rw [e] at d
  have:=goB_top d hk
  omega
end Sc
end
section
namespace Sc
open Go.RowKit
open Tr

theorem zeroI (w:World):(zeroValue 3).run Tryz.prog w=.ok (.int .i64 0) w:=by kernel_rfl
theorem lawS:Maps.Keyed Tryz.prog 9:=Maps.string_keyed Tryz.underlying9
section
variable (w:World) {ops:Array Oper}{rest:List Oper}{o:Oper}{a:Act}{Q:Exit→Act→World→Prop}
theorem look_some {b n:Nat}{f:List UInt8→Option Nat}(h:MapIs w b n f) {s:ByteArray}(hs:s.size≤maxLen) {v:Nat}(hv:f s.data.toList=some v)
    (hg:o.guard=none) (m x:Operand) (hop:o.op=Op.lookup 190 m x true) (hm:a.eval m=.map (some b)) (hx:a.eval x=.string s)
    (hK:wpList Tryz.prog ops Q rest (a.put o.dst (.tuple #[.int .i64 v,.bool true])) w):wpList Tryz.prog ops Q (o :: rest) a w:=by
  obtain ⟨D,hown,hD⟩:=h
  obtain ⟨h1,h2⟩:=hD s.data.toList
  rw [hv] at h1
  refine wpList_lookup_own_ok_int w hg m x 190 hop 9 3 .i64 lawS Tryz.underlying190 Tryz.underlying3 (zeroI _) b n D hm hown _ _ hx (WideMaps.keyOf_string_mk Tryz.underlying9 hs) (fun c hat _=>?_)
  rw [h2 v hv] at hat
  cases hat
  rw [h1]
  exact hK
theorem look_none {b n:Nat}{f:List UInt8→Option Nat}(h:MapIs w b n f) {s:ByteArray}(hs:s.size≤maxLen) (hv:f s.data.toList=none)
    (hg:o.guard=none) (m x:Operand) (hop:o.op=Op.lookup 190 m x true) (hm:a.eval m=.map (some b)) (hx:a.eval x=.string s)
    (hK:wpList Tryz.prog ops Q rest (a.put o.dst (.tuple #[.int .i64 0,.bool false])) w):wpList Tryz.prog ops Q (o :: rest) a w:=by
  obtain ⟨D,hown,hD⟩:=h
  obtain ⟨h1,_⟩:=hD s.data.toList
  rw [hv] at h1
  refine wpList_lookup_own_ok_int w hg m x 190 hop 9 3 .i64 lawS Tryz.underlying190 Tryz.underlying3 (zeroI _) b n D hm hown _ _ hx (WideMaps.keyOf_string_mk Tryz.underlying9 hs) (fun c hat _=>?_)
  rw [Maps.atKey_of_not_has h1] at hat
  cases hat
  rw [h1]
  exact hK
end

set_option maxHeartbeats 400000 in
theorem opens_any (k:Int) (w:World) :
    Calls Tryz.prog 190 #[.int .i64 k] w fun e w'=>e=.returned (.bool (opB k))∧w=w':=by
  go_enter Tryz.func190,Tryz.ntmps190
  go_wp2
  all_goals go_ret
  all_goals exact ⟨ret_bool (by go_light;rw [Bool.eq_iff_iff];simp [opB] at *;try omega),rfl⟩

set_option maxHeartbeats 400000 in
theorem lib_any (s:ByteArray) (w:World) :
    Calls Tryz.prog 136 #[.string s] w fun e w'=>e=.returned (.bool (libB s.data.toList))∧w=w':=by
  have hl:Hid (s.toList=s.data.toList):=Lib.hid (Lib.toList_data s)
  go_enter Tryz.func136,Tryz.ntmps136
  go_wp2
  all_goals go_ret
  all_goals exact ⟨ret_bool (by have:=hl.out;go_light;simp_all [libB]),rfl⟩

set_option maxHeartbeats 400000 in
theorem inside_any (v:Value) (q:Option Addr) (hv:v=.pointer q) (w:World) :
    Calls Tryz.prog 135 #[v] w fun e w'=>e=.returned (.pointer (some ⟨w.heap.size+1,0,none⟩))∧w' = (w.alloc (.map #[] 0)).alloc (.cells #[v,.map (some w.heap.size)] 192):=by
  have hmm:=@run_makeMap Tryz.prog
  subst hv
  go_enter Tryz.func135,Tryz.ntmps135
  go_wp2
  go_ret
  exact ⟨rfl,rfl⟩

section
variable {w0 w:World}{l:List Nd}{p:Option Addr}{cap R F:Nat}{ch:Ch}{E:Env}{fs:List Int}
set_option maxHeartbeats 1000000 in
set_option maxRecDepth 100000 in
theorem declare_no (h:Sm w0 w l p cap R F ch E fs) {now k g m:Nat}(hg:ch[now]? = some (g,m)) (s:ByteArray) (hs:s.size≤maxLen) (ht:s.data.toList=tx l k) (hn:(roomF l E now (tx l k)).isSome=true) :
    Calls Tryz.prog 137 #[.pointer (some ⟨g,0,none⟩),.string s,.int .i64 k] w fun e w'=>e=.returned (.bool false)∧w=w':=by
  have hlt:now<ch.length:=(List.getElem?_eq_some_iff.1 hg).1
  have hgm:ch[now]=(g,m):=by rw [List.getElem?_eq_getElem hlt] at hg;exact Option.some.inj hg
  have hb:=h.one now hlt
  obtain ⟨n,_,hM⟩:=h.map now hlt
  rw [hgm] at hb hM
  have c1:w.cell? ⟨g,1,none⟩=some (.map (some m)):=by rw [hb.cell];rfl
  obtain ⟨v,hv⟩:=Option.isSome_iff_exists.1 hn
  rw [← ht] at hv
  have HM:=Lib.hid hM
  have HV:=Lib.hid hv
  have HS:=Lib.hid hs
  clear h hg hgm hb hM hv ht hn hs hlt
  go_enter Tryz.func137,Tryz.ntmps137
  go_wp2_with (at_lookup;refine look_some _ HM.out HS.out HV.out rfl _ _ rfl rfl rfl ?_)
  go_ret
  exact ⟨rfl,rfl⟩
set_option maxHeartbeats 1000000 in
set_option maxRecDepth 100000 in
theorem declare_yes (h:Sm w0 w l p cap R F ch E fs) {now k g m:Nat}(hch:ch.length=now+1) (hg:ch[now]? = some (g,m)) (hk:k<l.length) (hkm:k≤1000000) (hE:E.length≤1000000) (s:ByteArray) (hs:s.size≤maxLen) (ht:s.data.toList=tx l k) (hn:(roomF l E now (tx l k)).isSome=false) :
    Calls Tryz.prog 137 #[.pointer (some ⟨g,0,none⟩),.string s,.int .i64 k] w fun e w'=>e=.returned (.bool true)∧Chg F m w w'∧Sm w0 w' l p cap R F ch (E ++ [(k,now)]) fs:=by
  have hlt:now<ch.length:=by omega
  have hgm:ch[now]=(g,m):=by rw [List.getElem?_eq_getElem hlt] at hg;exact Option.some.inj hg
  have hb:=h.one now hlt
  obtain ⟨n,hnE,hM⟩:=h.map now hlt
  rw [hgm] at hb hM
  have c1:w.cell? ⟨g,1,none⟩=some (.map (some m)):=by rw [hb.cell];rfl
  have hv:roomF l E now s.data.toList=none:=by rw [ht];cases hr:roomF l E now (tx l k) with
    | none=>rfl
    | some v=>rw [hr] at hn;cases hn
  have HM:=Lib.hid hM
  have HV:=Lib.hid hv
  have HS:=Lib.hid hs
  have H:=Lib.hid h
  have HD:Hid (∀ (w':World) (D:DataW Unit),(∀ s,Maps.has D (.string s)=(roomF l E now s).isSome∧∀ v,roomF l E now s=some v→D.atKey (.string s) (.lit (.int .i64 0))=.lit (.int .i64 v))→Maps.IsMap D→w.grownBy w' (some m)→w'.ownsMap Tryz.prog 9 (plainElem Tryz.prog 3) m (n+1) (D.put (.string s.data.toList) (.lit (.int .i64 k)))→Sm w0 w' l p cap R F ch (E ++ [(k,now)]) fs) :=
    fun w' D hD hMap hgr hw=>h.decl hch hg hk hn hgr hnE hD hMap (by rw [← ht];exact hw)
  have hn2:n<maxLen:=by unfold maxLen;omega
  have HN:=Lib.hid hn2
  have hwf:(Lit.int .i64 (k:Int)).wf=true:=WalkArith.wf_i64 (by omega)
  have HW:=Lib.hid hwf
  clear h hg hgm hb hM hv ht hn hs hlt hch hk hnE hn2 hwf
  obtain ⟨D,hown,hD⟩:=HM.out
  have HO:=Lib.hid hown
  have HDD:=Lib.hid hD
  clear hown hD
  go_enter Tryz.func137,Tryz.ntmps137
  go_wp2_with (first | (at_lookup;refine look_none _ HM.out HS.out HV.out rfl _ _ rfl rfl rfl ?_) | (at_mapUpdate;refine wpList_mapUpdate_own _ rfl _ _ _ 190 rfl 9 3 lawS Tryz.underlying190 _ m n D rfl HO.out HN.out _ _ _ rfl rfl (WideMaps.keyOf_string_mk Tryz.underlying9 HS.out) _ [] (plainElem_int Tryz.underlying3 HW.out) ?_;intro w1 hown1 hgrow1))
  have HG:=Lib.hid hgrow1
  have HO1:=Lib.hid hown1
  clear hgrow1 hown1
  go_wp2
  go_ret
  exact ⟨rfl,Chg.grown HG.out,HD.out _ _ HDD.out HO.out.isMap HG.out HO1.out⟩

set_option maxHeartbeats 1000000 in
set_option maxRecDepth 100000 in
theorem find_any (h:Sm w0 w l p cap R F ch E fs) {now:Nat}(hch:ch.length=now+1) (hm:now≤1000000) (s:ByteArray) (hs:s.size≤maxLen) :
    Calls Tryz.prog 230 #[upV ch (now+1),.string s] w fun e w'=>e=.returned (.tuple #[.int .i64 ((findF l E s.data.toList (now+1)).getD 0:Nat),.bool (findF l E s.data.toList (now+1)).isSome])∧w=w':=by
  obtain ⟨r0,hr0⟩ : ∃ r0,r0=findF l E s.data.toList (now+1):=⟨_,rfl⟩
  obtain ⟨Q,hQ⟩ : ∃ Q:Ending→World→Prop,Q=fun e w'=>e=.returned (.tuple #[.int .i64 ((findF l E s.data.toList (now+1)).getD 0:Nat),.bool (findF l E s.data.toList (now+1)).isSome])∧w=w':=⟨_,rfl⟩
  rw [← hQ]
  have HQ:=Lib.hid hQ
  have HR:=Lib.hid hr0
  have H:=Lib.hid h
  have HC:=Lib.hid hch
  have HS:=Lib.hid hs
  clear h hr0 hch hs hQ
  obtain ⟨v,hv⟩ : ∃ v,v=upV ch (now+1):=⟨_,rfl⟩
  rw [← hv]
  have HV:=Lib.hid hv
  clear hv
  go_enter Tryz.func230,Tryz.ntmps230
  go_wp2
  go_loopg [0] (now+1) (fun r v wr=>r≤now+1∧Hid (v=upV ch r)∧Hid (r0=findF l E s.data.toList r)∧Hid (w=wr))
  case atStart=>exact ⟨Nat.le_refl _,HV.out,HR.out,rfl⟩
  clear HV
  obtain ⟨hr,HV,HF,HW⟩:=hrel
  obtain rfl:=HW.out
  cases gk with
  | zero =>
    obtain rfl:u0=.pointer none:=HV.out
    clear HV HW
    go_wp2
    (try go_ret2)
    rw [HQ.out,← HR.out,HF.out]
    exact ⟨rfl,rfl⟩
  | succ r =>
    have hlt:r<ch.length:=by have:=HC.out;omega
    have hb:=H.out.one r hlt
    obtain ⟨n,_,hM⟩:=H.out.map r hlt
    have HM:=Lib.hid hM
    obtain ⟨g,hg⟩ : ∃ g,g=(ch[r]).1:=⟨_,rfl⟩
    obtain ⟨m,hm2⟩ : ∃ m,m=(ch[r]).2:=⟨_,rfl⟩
    rw [← hg,← hm2] at hb
    rw [← hm2] at HM
    have c0:w.cell? ⟨g,0,none⟩=some (upV ch r):=by rw [hb.cell];rfl
    have c1:w.cell? ⟨g,1,none⟩=some (.map (some m)):=by rw [hb.cell];rfl
    have hu:u0=.pointer (some ⟨g,0,none⟩):=by
      have:=HV.out
      rw [this,hg]
      simp only [upV,List.getElem?_eq_getElem hlt]
      rfl
    subst hu
    obtain ⟨x,hx⟩ : ∃ x,x=upV ch r:=⟨_,rfl⟩
    rw [← hx] at c0
    have HX:=Lib.hid hx
    clear hb hM hg hm2 HV hx hlt HW
    cases hf:roomF l E r s.data.toList with
    | some j =>
      have HJ:=Lib.hid hf
      clear hf c0
      go_wp2_with (at_lookup;refine look_some _ HM.out HS.out HJ.out rfl _ _ rfl rfl rfl ?_)
      (try go_ret2)
      have h0:r0=some j:=by rw [HF.out];simp only [findF,HJ.out]
      rw [HQ.out,← HR.out,h0]
      exact ⟨rfl,rfl⟩
    | none =>
      have HJ:=Lib.hid hf
      clear hf
      go_wp2_with (at_lookup;refine look_none _ HM.out HS.out HJ.out rfl _ _ rfl rfl rfl ?_)
      go_roundg r
      case rel=>exact ⟨by omega,HX.out,(show r0=findF l E s.data.toList r by rw [HF.out];simp only [findF,HJ.out]),(by first | exact rfl | exact trivial)⟩
      case measure=>omega
end
end Sc
end
section
namespace Tr
open Go.RowKit

/-- what is asked of a tree's lengths -/
def Fit (l:List Nd) (cap:Nat):Prop:=l.length≤cap∧l.length≤140737488355328∧∀ j,(h:j<l.length)→l[j].c.length≤1000000000000000000
theorem begins_any (l:List Nd) (p:Option Addr) (cap:Nat) (w:World) (hT:Tr w p l) (hf:Fit l cap):Calls Tryz.prog 48 #[.agg #[.slice p l.length cap]] w (BsPost l w):=by
  by_cases h:l.length<1∨600<l.length
  · exact begins_count l p cap w hf.2.1 h
  · obtain ⟨b,o,rfl,hb,hN⟩:=hT.1 (by omega)
    exact begins_main l b o cap w (by omega) (by omega) hf.1 hb hN hT.2 hf.2.2

/-- what Check tells of a tree -/
def CkPost (l:List Nd) (w:World) (e:Ending) (w':World):Prop :=
  Below w.heap.size w w'∧∃ c a:Int,e=.returned (.agg #[.int .i64 c,.int .i64 a])∧CkR l c a


theorem fault_set {w:World}{g:Nat}{x0 x1:Value}(h:Blk w g 26 #[x0,x1]) (c a:Value) (o:Obj):Blk (((w.setCell ⟨g,0,none⟩ c).setCell ⟨g,1,none⟩ a).alloc o) g 26 #[c,a]:=by
  have h1:=((h.set_ 0 c).set_ 1 a).alloc o
  simpa using h1

set_option maxHeartbeats 4000000 in
set_option maxRecDepth 100000 in
theorem check_any (l:List Nd) (p:Option Addr) (cap:Nat) (w:World) (hT:Tr w p l) (hf:Fit l cap):Calls Tryz.prog 22 #[.agg #[.slice p l.length cap]] w (CkPost l w):=by
  have h1:Below w.heap.size w ((w.alloc (.cells #[.slice p l.length cap] 24)).alloc (.cells #[.int .i64 0,.int .i64 0] 26)):=((Below.refl _ _).alloc (Nat.le_refl _) _).alloc (by simp) _
  have hbg:=begins_any l p cap ((w.alloc (.cells #[.slice p l.length cap] 24)).alloc (.cells #[.int .i64 0,.int .i64 0] 26)) (hT.below h1) hf
  have H1:=Lib.hid h1
  clear h1
  obtain ⟨Q,hQ⟩ : ∃ Q:Ending→World→Prop,Q=CkPost l w:=⟨_,rfl⟩
  have HQ:=Lib.hid hQ
  rw [← hQ]
  clear hQ
  generalize l.length=n at *
  go_enter Tryz.func22,Tryz.ntmps22
  go_wp2_with (go_at_call 48;refine hbg.mono ?_)
  intro e w3 hp
  obtain ⟨hb3,v,c,a,rfl,hr,-⟩:=hp
  have HR:=Lib.hid hr
  have hY:Blk w3 (w.heap.size+1) 26 #[.int .i64 0,.int .i64 0]:=by
    have h:=Blk.new (w.alloc (.cells #[.slice p n cap] 24)) 26 #[.int .i64 0,.int .i64 0]
    rw [World.size_alloc] at h
    exact h.below hb3 (by simp)
  have HB3:=Lib.hid (H1.out.trans (hb3.mono (by simp;omega)))
  have y0:w3.cell? ⟨w.heap.size+1,0,none⟩=some (.int .i64 0):=by rw [hY.cell];rfl
  have y1:w3.cell? ⟨w.heap.size+1,1,none⟩=some (.int .i64 0):=by rw [hY.cell];rfl
  have g0:=hY.frozen 0
  have g1:=hY.frozen 1
  have lY:=hY.lt
  have hZ:=fault_set hY (.int .i64 c) (.int .i64 a) (.cells #[.int .i64 c,.int .i64 a] 26)
  have z0:=hZ.cell 0
  have z1:=hZ.cell 1
  have Z0:=Lib.hid z0
  have Z1:=Lib.hid z1
  clear hr hb3 hbg hY hZ z0 z1
  go_wp2
  have z0:=Z0.out
  have z1:=Z1.out
  refine bodyPost_ret (v:=.agg #[.int .i64 c,.int .i64 a]) (by simp [results,Tryz.results22,go_sem,z0,z1]) rfl ?_
  rw [HQ.out]
  exact ⟨((HB3.out.setCell (p:=⟨w.heap.size+1,0,none⟩) (by simp) _).setCell (p:=⟨w.heap.size+1,1,none⟩) (by simp) _).alloc (by simp;omega) _,c,a,rfl,HR.out⟩
end Tr
end
section
namespace Sc
open Go.RowKit
open Tr

/-- a node that declares -/
def decK (k:Int):Prop:=k=2∨k=3∨k=4∨k=12
/-- what is declared: nodes that declare; a local among them is ahead of b -/
def EnvOk (l:List Nd) (b:Nat) (E:Env):Prop:=∀ x ∈ E,x.1<l.length∧decK (kindAt l x.1)∧(kindAt l x.1=12→x.1<b)
/-- what is written of a node is right -/
def Snd (l:List Nd) (y:Nat × Int):Prop:=y.1<l.length∧(decK (kindAt l y.1)→y.2=(y.1:Int))∧(kindAt l y.1=32→0≤y.2) ∧
  (y.2 = -1∨∃ j:Nat,y.2=(j:Int)∧j<l.length∧tx l j=tx l y.1∧decK (kindAt l j)∧(kindAt l j=12→j≤y.1))
theorem EnvOk.mono {l:List Nd}{b b':Nat}{E:Env}(h:EnvOk l b E) (hb:b≤b'):EnvOk l b' E:=fun x hx=>⟨(h x hx).1,(h x hx).2.1,fun e=>Nat.lt_of_lt_of_le ((h x hx).2.2 e) hb⟩
theorem envMem_room {l:List Nd}{E:Env}{r:Nat}{s:List UInt8}{j:Nat}(h:roomF l E r s=some j):∃ x ∈ E,x.1=j∧tx l j=s:=by
  unfold roomF at h
  cases h2:E.find? fun p=>p.2 == r && tx l p.1 == s with
  | none=>rw [h2] at h;cases h
  | some x =>
    rw [h2] at h
    have h3:=List.find?_some h2
    have h4:=List.mem_of_find?_eq_some h2
    simp at h3 h
    exact ⟨x,h4,h,by rw [← h];exact h3.2⟩
theorem envMem_find {l:List Nd}{E:Env}{s:List UInt8}{j:Nat}:∀ {n:Nat},findF l E s n=some j→∃ x ∈ E,x.1=j∧tx l j=s:=by
  intro n
  induction n with
  | zero=>intro h;cases h
  | succ n ih =>
    intro h
    simp only [findF] at h
    cases hr:roomF l E n s with
    | some i=>rw [hr] at h;cases h;exact envMem_room hr
    | none=>rw [hr] at h;exact ih h
theorem snd_self {l:List Nd}{k:Nat}(hk:k<l.length) (hd:decK (kindAt l k)):Snd l (k,(k:Int)) :=
  ⟨hk,fun _=>rfl,fun _=>Int.natCast_nonneg _,Or.inr ⟨k,rfl,hk,rfl,hd,fun _=>Nat.le_refl _⟩⟩
theorem snd_other {l:List Nd}{k b j:Nat}{E:Env}(hk:k<l.length) (hE:EnvOk l b E) (hb:b≤k) (hn:¬ decK (kindAt l k)) (hj:∃ x ∈ E,x.1=j∧tx l j=tx l k):Snd l (k,(j:Int)):=by
  obtain ⟨x,hx,rfl,ht⟩:=hj
  obtain ⟨h1,h2,h3⟩:=hE x hx
  exact ⟨hk,fun h=>absurd h hn,fun _=>Int.natCast_nonneg _,Or.inr ⟨x.1,rfl,h1,ht,h2,fun e=>by have:=h3 e;show x.1≤k;omega⟩⟩
theorem one_mem {y:Nat × Int}{k:Nat}{v:Int}(h:y ∈ [(k,v)]):y=(k,v):=by simpa using h
theorem decl_snd {l:List Nd}{now k b:Nat}{E E':Env}{W:Wr}(h:declF l now k E=.ok E' W) (hk:k<l.length) (hd:decK (kindAt l k)) (hE:EnvOk l b E) (hb:b≤k):EnvOk l (k+1) E'∧(kindAt l k≠12→EnvOk l b E')∧∀ y ∈ W,Snd l y:=by
  unfold declF at h
  split at h
  · cases h
  · cases h
    refine ⟨fun x hx=>?_,fun hn x hx=>?_,fun y hy=>by rw [one_mem hy];exact snd_self hk hd⟩
    · rcases List.mem_append.1 hx with hx | hx
      · exact (hE.mono (by omega)) x hx
      · simp only [List.mem_cons,List.not_mem_nil,or_false] at hx;subst hx
        exact ⟨hk,hd,fun _=>Nat.lt_succ_self _⟩
    · rcases List.mem_append.1 hx with hx | hx
      · exact hE x hx
      · simp only [List.mem_cons,List.not_mem_nil,or_false] at hx;subst hx
        exact ⟨hk,hd,fun e=>absurd e hn⟩
theorem own_snd {l:List Nd}{now k b:Nat}{E E':Env}{W:Wr}(h:own l now k E=.ok E' W) (hk:k<l.length) (hE:EnvOk l b E) (hb:b≤k):EnvOk l (k+1) E'∧(kindAt l k≠12→EnvOk l b E')∧∀ y ∈ W,Snd l y:=by
  unfold own at h
  split at h
  · rename_i h2
    cases h
    exact ⟨hE.mono (by omega),fun _=>hE,fun y hy=>by rw [one_mem hy];exact snd_self hk (h2.elim Or.inl (fun h=>Or.inr (Or.inl h)))⟩
  · rename_i h2
    split at h
    · rename_i h4
      exact decl_snd h hk (h4.elim (fun h=>Or.inr (Or.inr (Or.inl h))) (fun h=>Or.inr (Or.inr (Or.inr h)))) hE hb
    · rename_i h4
      have hnd:¬ decK (kindAt l k):=fun hd=>by unfold decK at hd;omega
      split at h
      · unfold nameF at h
        split at h
        · rename_i j hj
          split at h
          · cases h
          · cases h
            exact ⟨hE.mono (by omega),fun _=>hE,fun y hy=>by rw [one_mem hy];exact snd_other hk hE hb hnd (envMem_find hj)⟩
        · cases h
      · rename_i h32
        split at h
        · unfold callF at h
          split at h
          · cases h
            exact ⟨hE.mono (by omega),fun _=>hE,fun y hy=>by rw [one_mem hy];exact ⟨hk,fun hd=>absurd hd hnd,fun e=>absurd e h32,Or.inl rfl⟩⟩
          · split at h
            · rename_i j hj
              split at h
              · cases h
                exact ⟨hE.mono (by omega),fun _=>hE,fun y hy=>by rw [one_mem hy];exact snd_other hk hE hb hnd (envMem_room hj)⟩
              · cases h
            · cases h
        · cases h
          exact ⟨hE.mono (by omega),fun _=>hE,fun y hy=>by cases hy⟩
theorem each_snd {l:List Nd}{k:Nat}{q:Nat→Nat}(hK:Kin l k q) {g:Nat→Env→Rs}(hg:∀ x,x<k→∀ E E' W,g x E=.ok E' W→EnvOk l (St l x) E→EnvOk l (x+1) E'∧∀ y ∈ W,Snd l y) :
    ∀ n i E E' W,(kidsAt l k).length-i=n→i≤(kidsAt l k).length→each g ((kidsAt l k).drop i) E=.ok E' W→EnvOk l (q i) E→EnvOk l k E'∧∀ y ∈ W,Snd l y:=by
  intro n
  induction n with
  | zero =>
    intro i E E' W hn hi h hE
    rw [each_end (by omega)] at h
    cases h
    have:i=(kidsAt l k).length:=by omega
    subst this
    rw [hK.to_] at hE
    exact ⟨hE,fun y hy=>by cases hy⟩
  | succ n ih =>
    intro i E E' W hn hi h hE
    have hil:i<(kidsAt l k).length:=by omega
    obtain ⟨x,h1,h2,h3,h4⟩:=hK.lt i hil
    rw [each_drop hil,h1,Int.toNat_natCast] at h
    obtain ⟨E1,W1,W2,g1,g2,rfl⟩:=bind_ok h
    obtain ⟨e1,e2⟩:=hg x h2 _ _ _ g1 (by rw [h4];exact hE)
    rw [h3] at e1
    obtain ⟨e3,e4⟩:=ih (i+1) _ _ _ (by omega) (by omega) g2 e1
    exact ⟨e3,fun y hy=>(List.mem_append.1 hy).elim (e2 y) (e4 y)⟩
theorem look_snd {l:List Nd}(hC:∀ j,j<l.length→codeAt l j=0):∀ (f now k:Nat) (E E':Env) (W:Wr),look l f now k E=.ok E' W→k<l.length→EnvOk l (St l k) E→EnvOk l (k+1) E'∧∀ y ∈ W,Snd l y:=by
  intro f
  induction f with
  | zero=>intro now k E E' W h;cases h
  | succ f ih =>
    intro now k E E' W h hk hE
    obtain ⟨q,hK⟩:=kin_of hk (hC k hk)
    have hle:=St_le l k
    have hkid:∀ E E' W,kidsF l (look l f) now k E=.ok E' W→EnvOk l (St l k) E→EnvOk l k E'∧∀ y ∈ W,Snd l y:=by
      intro E E' W h hE
      unfold kidsF at h
      split at h
      · obtain ⟨rfl,E2,h2⟩:=back_ok h
        have:=each_snd hK (g:=look l f (now+1)) (fun x hx E E' W h=>ih _ _ _ _ _ h (by omega)) _ 0 E' E2 W rfl (Nat.zero_le _) h2 (by rw [hK.from_];exact hE)
        exact ⟨hE.mono hle,this.2⟩
      · exact each_snd hK (g:=look l f now) (fun x hx E E' W h=>ih _ _ _ _ _ h (by omega)) _ 0 E E' W rfl (Nat.zero_le _) h (by rw [hK.from_];exact hE)
    simp only [look] at h
    split at h
    · obtain ⟨E1,W1,W2,h1,h2,rfl⟩:=bind_ok h
      obtain ⟨e1,e2⟩:=hkid _ _ _ h1 hE
      obtain ⟨e3,_,e4⟩:=own_snd h2 hk e1 (Nat.le_refl _)
      exact ⟨e3,fun y hy=>(List.mem_append.1 hy).elim (e2 y) (e4 y)⟩
    · rename_i h12
      obtain ⟨E1,W1,W2,h1,h2,rfl⟩:=bind_ok h
      obtain ⟨_,e3,e4⟩:=own_snd h1 hk hE hle
      obtain ⟨e1,e2⟩:=hkid _ _ _ h2 (e3 h12)
      exact ⟨e1.mono (by omega),fun y hy=>(List.mem_append.1 hy).elim (e4 y) (e2 y)⟩
theorem ov_get_mem {W:Wr}{i:Nat}:∀ {X:List Int},i<X.length→i ∈ W.map (·.1)→∃ y ∈ W,y.1=i∧(ov W X)[i]? = some y.2:=by
  induction W with
  | nil=>intro X _ h;cases h
  | cons x W ih =>
    intro X hl h
    by_cases hm:i ∈ W.map (·.1)
    · obtain ⟨y,h1,h2,h3⟩:=ih (X:=X.set x.1 x.2) (by simpa using hl) hm
      exact ⟨y,List.mem_cons_of_mem _ h1,h2,h3⟩
    · simp only [List.map_cons,List.mem_cons] at h
      rcases h with h | h
      · refine ⟨x,List.mem_cons_self ..,h.symm,?_⟩
        show (ov W (X.set x.1 x.2))[i]? = _
        have hno:∀ {W:Wr} {X:List Int},i ∉ W.map (·.1)→(ov W X)[i]? = X[i]?:=by
          intro W
          induction W with
          | nil=>intro X _;rfl
          | cons z W ih2 =>
            intro X hz
            simp only [List.map_cons,List.mem_cons,not_or] at hz
            show (ov W (X.set z.1 z.2))[i]? = _
            rw [ih2 hz.2,List.getElem?_set,if_neg (fun e=>hz.1 e.symm)]
        rw [hno hm,List.getElem?_set,if_pos h.symm,if_pos (by rw [← h];exact hl)]
      · exact absurd h hm
theorem ov_get_not {W:Wr}{i:Nat}:∀ {X:List Int},i ∉ W.map (·.1)→(ov W X)[i]? = X[i]?:=by
  induction W with
  | nil=>intro X _;rfl
  | cons x W ih =>
    intro X h
    simp only [List.map_cons,List.mem_cons,not_or] at h
    show (ov W (X.set x.1 x.2))[i]? = _
    rw [ih h.2,List.getElem?_set,if_neg (fun e=>h.1 e.symm)]
end Sc
end
section
namespace Sc
open Go.RowKit
open Tr

theorem tx_get {l:List Nd}{k:Nat}(hk:k<l.length):tx l k=l[k].t.data.toList:=by simp [tx,hk]
theorem nameB_size {s:ByteArray}(h:nameB s=true):s.size≤12:=by
  have:=of_decide_eq_true h
  exact this.2.1
theorem text_size {l:List Nd}{k:Nat}(hk:k<l.length) (hc:codeAt l k=0) (hn:namedB (kindAt l k)=true):l[k].t.size≤maxLen:=by
  rw [codeAt_get hk] at hc
  rw [kindAt_get hk] at hn
  unfold nodeC at hc
  split at hc
  · cases hc
  · split at hc
    · cases hc
    · split at hc
      · cases hc
      · unfold fieldC fieldV at hc
        have:nameB l[k].t=true:=by
          cases hb:nameB l[k].t with
          | true=>rfl
          | false=>rw [if_pos ⟨hn,hb⟩] at hc;cases hc
        have:=nameB_size this
        unfold maxLen;omega
section
variable {w0 w w2:World}{l:List Nd}{p:Option Addr}{cap R F:Nat}{ch:Ch}{E:Env}{fs:List Int}
/-- where a node lies -/
theorem Sm.node (h:Sm w0 w l p cap R F ch E fs) {k:Nat}(hk:k<l.length):∃ b o,p=some ⟨b,o,none⟩∧b<w0.heap.size∧NodeAt w0 b (o+k * 6) l[k]∧∀ w',Below w0.heap.size w0 w'→NodeAt w' b (o+k * 6) l[k]:=by
  obtain ⟨b,o,hp,hb,hN⟩:=h.tr0.1 (by omega)
  exact ⟨b,o,hp,hb,hN k hk,fun w' hb'=>(hN k hk).below hb' hb⟩
theorem set2 {B:Nat}{x y:Value}(hB:Blk w B 26 #[x,y]) (c a:Value):Blk ((w.setCell ⟨B,0,none⟩ c).setCell ⟨B,1,none⟩ a) B 26 #[c,a]:=by
  have h1:=(hB.set_ 0 c).set_ 1 a
  simpa using h1
theorem Sm.box2 (h:Sm w0 w l p cap R F ch E fs) {B:Nat}{x y:Value}(hB:Blk w B 26 #[x,y]) (h0:w0.heap.size≤B) (c a:Value):Sm w0 ((w.setCell ⟨B,0,none⟩ c).setCell ⟨B,1,none⟩ a) l p cap R F ch E fs :=
  (h.box hB h0 (by decide) (by decide) (by decide) 0 c).box (hB.set_ 0 c) h0 (by decide) (by decide) (by decide) 1 a
theorem Chg.box2 {m B:Nat}(h:Chg F m w w2) (hB:w.heap.size≤B) (c a:Value):Chg F m w ((w2.setCell ⟨B,0,none⟩ c).setCell ⟨B,1,none⟩ a):=(h.box hB 0 c).box hB 1 a
theorem Sm.m_lt (h:Sm w0 w l p cap R F ch E fs) {now g m:Nat}(hg:ch[now]? = some (g,m)):m<w.heap.size∧w0.heap.size≤m∧g<w.heap.size:=by
  have hlt:now<ch.length:=(List.getElem?_eq_some_iff.1 hg).1
  have hgm:ch[now]=(g,m):=by rw [List.getElem?_eq_getElem hlt] at hg;exact Option.some.inj hg
  obtain ⟨n,_,hM⟩:=h.map now hlt
  have h2:=h.old.2 now hlt
  have h3:=(h.one now hlt).lt
  rw [hgm] at hM h2 h3
  exact ⟨hM.lt,h2,h3⟩

/-- what a store of what a node stands for wants -/
theorem Sm.wants (h:Sm w0 w l p cap R F ch E fs) {k:Nat}(hk:k<l.length):w.cell? ⟨R,2,none⟩=some (.slice (some ⟨F,0,none⟩) l.length l.length)∧w.cell? ⟨R,0,none⟩=some (.slice p l.length cap)∧w.frozen? ⟨F,k,none⟩=false∧(∃ v:Int,w.cell? ⟨F,k,none⟩=some (.int .i64 v))∧F<w.heap.size∧R<w.heap.size:=by
  refine ⟨by rw [h.res.cell];rfl,by rw [h.res.cell];rfl,h.fnd.frozen k,?_,h.fnd.lt,h.res.lt⟩
  have hk2:k<fs.length:=by rw [h.len];exact hk
  exact ⟨fs[k],by rw [h.fnd.cell];unfold intA;simp [hk2]⟩
/-- the end of a step where all is well -/
theorem Dn.fine {m:Nat}{W:Wr}{E':Env}{fs':List Int}(hc:Chg F m w w2) (h:Sm w0 w2 l p cap R F ch E' fs') (hw:w0.heap.size≤w.heap.size) {B:Nat}{x y:Value}(hB:Blk w2 B 26 #[x,y]) (hBw:w.heap.size≤B) (hfs:fs' = ov W fs) :
    Dn w0 w l p cap R F ch m fs (.ok E' W) (.returned (.agg #[.int .i64 0,.int .i64 0])) ((w2.setCell ⟨B,0,none⟩ (.int .i64 0)).setCell ⟨B,1,none⟩ (.int .i64 0)) :=
  ⟨rfl,hc.box2 hBw _ _,by rw [← hfs];exact h.box2 hB (Nat.le_trans hw hBw) _ _⟩

set_option maxHeartbeats 4000000 in
set_option maxRecDepth 100000 in
theorem local_any (h:Sm w0 w l p cap R F ch E fs) {now k g m:Nat}(hch:ch.length=now+1) (hg:ch[now]? = some (g,m)) (hk:k<l.length) (hl:l.length≤600) (hE:E.length≤1000000) (hs:l[k].t.size≤maxLen) :
    Calls Tryz.prog 191 #[.pointer (some ⟨R,0,none⟩),.int .i64 k,.pointer (some ⟨g,0,none⟩)] w (Dn w0 w l p cap R F ch m fs (declF l now k E)):=by
  obtain ⟨hm1,hm2,hg1⟩:=h.m_lt hg
  have hF:=h.fnd.lt
  have ha:=h.alloc (.cells #[.int .i64 0,.int .i64 0] 26)
  have hY:=Blk.new w 26 #[.int .i64 0,.int .i64 0]
  obtain ⟨b,o,rfl,hb,hN,hN2⟩:=h.node hk
  have hlt:=(tx_get hk).symm
  obtain ⟨c0,c1,c2,c3,c4,c5⟩:=hN2 w h.bel
  have r0:w.cell? ⟨R,0,none⟩=some (.slice (some ⟨b,o,none⟩) l.length cap):=by rw [h.res.cell];rfl
  obtain ⟨Q,hQ⟩ : ∃ Q:Ending→World→Prop,Q=Dn w0 w l (some ⟨b,o,none⟩) cap R F ch m fs (declF l now k E):=⟨_,rfl⟩
  rw [← hQ]
  have HQ:=Lib.hid hQ
  have HL:=Lib.hid h.bel.size
  have hbR:R<w.heap.size:=h.res.lt
  have hbb:b<w.heap.size:=Nat.lt_of_lt_of_le hb h.bel.size
  have HY:=Lib.hid hY
  clear c0 c2 c3 c4 c5 hQ hY hN hN2
  obtain ⟨t,ht⟩ : ∃ t,t=l[k].t:=⟨_,rfl⟩
  obtain ⟨n,hn⟩ : ∃ n,n=l.length:=⟨_,rfl⟩
  rw [← ht] at c1 hlt hs
  rw [← hn] at r0
  have hl':n≤600:=by omega
  have hkn:k<n:=by omega
  have HN:=Lib.hid hn
  have HK:=Lib.hid hk
  have HH:=Lib.hid h
  cases hd:(roomF l E now (tx l k)).isSome with
  | true =>
    have hdec:=declare_no ha hg t hs hlt hd
    have HR:Hid (declF l now k E=.bad 7 k):=by unfold declF;rw [hd];rfl
    clear h ha hlt hd hn hk ht hg hch hl
    go_enter Tryz.func191,Tryz.ntmps191
    go_wp2_with (go_at_call 137;refine hdec.mono ?_;rintro e w' ⟨rfl,rfl⟩)
    refine bodyPost_ret (v:=.agg #[.int .i64 7,.int .i64 k]) (by simp [results,Tryz.results191,go_sem]) rfl ?_
    rw [HQ.out,HR.out]
    exact ⟨rfl,(Chg.refl _ _ _).alloc _⟩
  | false =>
    have hdec:=declare_yes ha hch hg hk (by omega) hE t hs hlt hd
    have HR:Hid (declF l now k E=.ok (E ++ [(k,now)]) [(k,k)]):=by unfold declF;rw [hd];rfl
    clear h ha hlt hd hn hk ht hg hch hl
    go_enter Tryz.func191,Tryz.ntmps191
    go_wp2_with (go_at_call 137;refine hdec.mono ?_)
    rintro e w2 ⟨rfl,hc2,h2⟩
    have hY2:=hc2.blk HY.out (by omega) (by omega)
    obtain ⟨q2,q0,qf,⟨v,qv⟩,qF,qR⟩:=h2.wants HK.out
    rw [← HN.out] at q2 q0
    have y0:w2.cell? ⟨w.heap.size,0,none⟩=some (.int .i64 0):=by rw [hY2.cell];rfl
    have y1:w2.cell? ⟨w.heap.size,1,none⟩=some (.int .i64 0):=by rw [hY2.cell];rfl
    have g0:=hY2.frozen 0
    have g1:=hY2.frozen 1
    have lY:=hY2.lt
    have nF:w.heap.size≠F:=by omega
    have HC2:=Lib.hid hc2
    have H2:=Lib.hid h2
    have HY2:=Lib.hid hY2
    have HZ:=Lib.hid ((hY2.far (p:=⟨F,k,none⟩) nF (.int .i64 k)))
    clear hc2 h2 hY2 hdec
    go_wp2
    have hz:=set2 HZ.out (.int .i64 0) (.int .i64 0)
    have z0:=hz.cell 0
    have z1:=hz.cell 1
    refine bodyPost_ret (v:=.agg #[.int .i64 0,.int .i64 0]) (by simp [results,Tryz.results191,go_sem,z0,z1]) rfl ?_
    rw [HQ.out,HR.out]
    exact Dn.fine ((((Chg.refl _ _ _).alloc _).trans HC2.out).set k _) (H2.out.put k k) HL.out HZ.out (Nat.le_refl _) rfl
end
end Sc
end
section
namespace Tr
open Go.RowKit

theorem list_ne {c c':List Int}{k:Nat}(h:k<c.length) (h':k<c'.length) (hne:c[k]≠c'[k]):decide (c=c')=false:=decide_eq_false (fun e=>by subst e;exact hne rfl)
theorem list_len {c c':List Int}(h:c.length≠c'.length):decide (c=c')=false:=decide_eq_false (fun e=>h (by rw [e]))
theorem list_all {c c':List Int}(h:c.length=c'.length) (ha:∀ j,(h1:j<c.length)→(h2:j<c'.length)→c[j]=c'[j]):decide (c=c')=true:=decide_eq_true (List.ext_getElem h ha)

set_option maxHeartbeats 4000000 in
set_option maxRecDepth 100000 in
theorem rints_any (c c':List Int) (p p':Option Addr) (cap cap':Nat) (w:World) (hK:KidsAt w p c) (hK':KidsAt w p' c') (hm:c.length≤1000000000000000000) (hm':c'.length≤1000000000000000000) :
    Calls Tryz.prog 21 #[.slice p c.length cap,.slice p' c'.length cap'] w fun e w'=>e=.returned (.bool (decide (c=c')))∧Below w.heap.size w w':=by
  have HK:=Lib.hid hK
  have HK':=Lib.hid hK'
  clear hK hK'
  obtain ⟨r,hr⟩ : ∃ r,r=decide (c=c'):=⟨_,rfl⟩
  rw [← hr]
  have HR:=Lib.hid hr
  clear hr
  obtain ⟨n,hn⟩ : ∃ n,n=c.length:=⟨_,rfl⟩
  obtain ⟨n',hn'⟩ : ∃ n,n=c'.length:=⟨_,rfl⟩
  rw [← hn] at hm ⊢
  rw [← hn'] at hm' ⊢
  have Hn:=Lib.hid hn
  have Hn':=Lib.hid hn'
  clear hn hn'
  by_cases hl:n=n'
  · subst hl
    go_enter Tryz.func21,Tryz.ntmps21
    go_wp2
    go_loopw [5] (fun v wr=>∃ k:Nat,k≤n∧v=.int .i64 k∧Hid (∀ j,(h1:j<c.length)→(h2:j<c'.length)→j<k→c[j]=c'[j])∧Below w.heap.size w wr) (fun v _=>n-(intOf v).toNat)
    case atStart=>exact ⟨0,Nat.zero_le _,rfl,fun j _ _ h=>by omega,Below.refl _ _⟩
    case round =>
      obtain ⟨k,hk,rfl,HE,hb⟩:=hrel
      have HB:=Lib.hid hb
      clear hb
      by_cases hlt:k<n
      · have h1:k<c.length:=by have:=Hn.out;omega
        have h2:k<c'.length:=by have:=Hn'.out;omega
        obtain ⟨b,o,rfl,hbl,hc⟩:=HK.out (by omega)
        obtain ⟨b',o',rfl,hbl',hc'⟩:=HK'.out (by omega)
        have e0:=(HB.out.cell (p:=⟨b,o+k,none⟩) hbl).trans (hc k h1)
        have e1:=(HB.out.cell (p:=⟨b',o' + k,none⟩) hbl').trans (hc' k h2)
        have hki:(k:Int)<(n:Int):=by omega
        have hF:c[k]≠c'[k]→Hid (r=false):=fun h=>HR.out.trans (list_ne h1 h2 h)
        have hN:c[k]=c'[k]→Hid (∀ j,(h1:j<c.length)→(h2:j<c'.length)→j<k+1→c[j]=c'[j]):=fun h j g1 g2 hj=>by
          by_cases e:j=k
          · subst e;exact h
          · exact HE.out j g1 g2 (by omega)
        clear hc hc'
        generalize c[k]=x at *
        generalize c'[k]=y at *
        by_cases hxy:x=y
        · have HN:=hN hxy
          subst hxy
          clear hF hN
          have q1:(x != x)=false:=by simp
          have q2:(x == x)=true:=by simp
          go_wp2
          go_quiet (fail)
          go_wp2
          go_roundw
          case rel=>exact ⟨k+1,by omega,by go_num,HN,below_drewN HB.out _⟩
          case measure=>simp [intOf];try omega
        · have HF:=hF hxy
          have q1:(x != y)=true:=by simpa using hxy
          have q2:(x == y)=false:=by simpa using hxy
          clear hF hN hxy
          go_wp2
          go_quiet (fail)
          go_wp2
          go_ret
          exact ⟨by rw [HF.out];rfl,below_drewN HB.out _⟩
      · have HT:Hid (r=true):=HR.out.trans (list_all (by rw [← Hn.out,← Hn'.out]) fun j g1 g2=>HE.out j g1 g2 (by have:=Hn.out;omega))
        go_wp2
        go_ret
        exact ⟨by rw [HT.out];rfl,HB.out⟩
  · have HF:Hid (r=false):=HR.out.trans (list_len (by rw [← Hn.out,← Hn'.out];exact hl))
    have q1:((n:Int) != (n':Int))=true:=by rw [bne_iff_ne];omega
    have q2:((n:Int) == (n':Int))=false:=by rw [beq_eq_false_iff_ne];omega
    go_enter Tryz.func21,Tryz.ntmps21
    go_wp2
    go_ret
    exact ⟨by rw [HF.out];rfl,Below.refl _ _⟩
end Tr
end
section
namespace Sc
open Go.RowKit
open Tr

section
variable {w0 w w2:World}{l:List Nd}{p:Option Addr}{cap R F:Nat}{ch:Ch}{E:Env}{fs:List Int}
theorem roomF_mem {r:Nat}{s:List UInt8}{j:Nat}(h:roomF l E r s=some j):∃ x ∈ E,x.1=j∧x.2=r∧tx l j=s:=by
  unfold roomF at h
  cases h2:E.find? fun p=>p.2 == r && tx l p.1 == s with
  | none=>rw [h2] at h;cases h
  | some x =>
    rw [h2] at h
    have h3:=List.find?_some h2
    have h4:=List.mem_of_find?_eq_some h2
    simp at h3 h
    exact ⟨x,h4,h,h3.1,by rw [← h];exact h3.2⟩
theorem findF_mem {s:List UInt8}{j:Nat}:∀ {n:Nat},findF l E s n=some j→∃ x ∈ E,x.1=j∧x.2<n∧tx l j=s:=by
  intro n
  induction n with
  | zero=>intro h;cases h
  | succ n ih =>
    intro h
    simp only [findF] at h
    cases hr:roomF l E n s with
    | some i =>
      rw [hr] at h
      cases h
      obtain ⟨x,h1,h2,h3,h4⟩:=roomF_mem hr
      exact ⟨x,h1,h2,by omega,h4⟩
    | none =>
      rw [hr] at h
      obtain ⟨x,h1,h2,h3,h4⟩:=ih h
      exact ⟨x,h1,h2,by omega,h4⟩
theorem upV_in {now g m:Nat}(hg:ch[now]? = some (g,m)):upV ch (now+1)=.pointer (some ⟨g,0,none⟩):=by simp only [upV,hg];rfl

set_option maxHeartbeats 4000000 in
set_option maxRecDepth 100000 in
theorem name_any (h:Sm w0 w l p cap R F ch E fs) {now k g m:Nat}(hch:ch.length=now+1) (hg:ch[now]? = some (g,m)) (hk:k<l.length) (hl:l.length≤600) (hnow:now≤1000000) (hs:l[k].t.size≤maxLen) :
    Calls Tryz.prog 192 #[.pointer (some ⟨R,0,none⟩),.int .i64 k,.pointer (some ⟨g,0,none⟩)] w (Dn w0 w l p cap R F ch m fs (nameF l now k E)):=by
  have ha:=h.alloc (.cells #[.int .i64 0,.int .i64 0] 26)
  have hY:=Blk.new w 26 #[.int .i64 0,.int .i64 0]
  obtain ⟨b,o,rfl,hb,hN,hN2⟩:=h.node hk
  have hlt:=(tx_get hk).symm
  obtain ⟨c0,c1,c2,c3,c4,c5⟩:=hN2 w h.bel
  obtain ⟨q2,r0,qf,⟨v,qv⟩,qF,qR⟩:=h.wants hk
  obtain ⟨Q,hQ⟩ : ∃ Q:Ending→World→Prop,Q=Dn w0 w l (some ⟨b,o,none⟩) cap R F ch m fs (nameF l now k E):=⟨_,rfl⟩
  rw [← hQ]
  have HQ:=Lib.hid hQ
  have HL:=Lib.hid h.bel.size
  have hbb:b<w.heap.size:=Nat.lt_of_lt_of_le hb h.bel.size
  have HY:=Lib.hid hY
  clear c0 c2 c3 c4 c5 hQ hY hN hN2
  obtain ⟨t,ht⟩ : ∃ t,t=l[k].t:=⟨_,rfl⟩
  obtain ⟨n,hn⟩ : ∃ n,n=l.length:=⟨_,rfl⟩
  rw [← ht] at c1 hlt hs
  rw [← hn] at r0 q2
  have hl':n≤600:=by omega
  have hkn:k<n:=by omega
  have HN:=Lib.hid hn
  have HK:=Lib.hid hk
  have HH:=Lib.hid h
  have hf:=find_any ha hch hnow t hs
  rw [upV_in hg,hlt] at hf
  cases hd:findF l E (tx l k) (now+1) with
  | none =>
    rw [hd] at hf
    have HR:Hid (nameF l now k E=.bad 6 k):=by unfold nameF;rw [hd];rfl
    simp only [Option.getD_none,Option.isSome_none] at hf
    clear h ha hlt hd hn hk ht hg hch hl
    go_enter Tryz.func192,Tryz.ntmps192
    go_wp2_with (go_at_call 230;refine hf.mono ?_;rintro e w' ⟨rfl,rfl⟩)
    refine bodyPost_ret (v:=.agg #[.int .i64 6,.int .i64 k]) (by simp [results,Tryz.results192,go_sem]) rfl ?_
    rw [HQ.out,HR.out]
    exact ⟨rfl,(Chg.refl _ _ _).alloc _⟩
  | some j =>
    rw [hd] at hf
    simp only [Option.getD_some,Option.isSome_some] at hf
    obtain ⟨x,hx1,hx2,hx3,hx4⟩:=findF_mem hd
    have hj:j<l.length:=by rw [← hx2];exact (h.env x hx1).1
    have hjn:j<n:=by omega
    obtain ⟨b',o',hp',hz1,hz2,hN2⟩:=h.node hj
    have e:b' = b∧o' = o:=by cases hp';exact ⟨rfl,rfl⟩
    obtain ⟨rfl,rfl⟩:=e
    obtain ⟨d0,d1,d2,d3,d4,d5⟩:=hN2 w h.bel
    have hkj:=kindAt_get hj
    rw [← hkj] at d0
    obtain ⟨kd,hkd⟩ : ∃ kd,kd=kindAt l j:=⟨_,rfl⟩
    rw [← hkd] at d0
    by_cases h3:kd=3
    · have HR:=Lib.hid (show nameF l now k E=.bad 6 k by unfold nameF;rw [hd];simp only;rw [if_pos (by rw [← hkd,h3])])
      subst h3
      clear h ha hlt hd hn hk ht hg hch hl hx1 hx2 hx3 hx4 hj hN2 hp' hz1 hz2 d1 d2 d3 d4 d5 hkj hkd
      go_enter Tryz.func192,Tryz.ntmps192
      go_wp2_with (go_at_call 230;refine hf.mono ?_;rintro e w' ⟨rfl,rfl⟩)
      refine bodyPost_ret (v:=.agg #[.int .i64 6,.int .i64 k]) (by simp [results,Tryz.results192,go_sem]) rfl ?_
      rw [HQ.out,HR.out]
      exact ⟨rfl,(Chg.refl _ _ _).alloc _⟩
    · have HR:=Lib.hid (show nameF l now k E=.ok E [(k,(j:Int))] by unfold nameF;rw [hd];simp only;rw [if_neg (by rw [← hkd];exact h3)])
      have h3':(kd == 3)=false:=by simpa using h3
      have HA:=Lib.hid ha
      clear h ha hlt hd hn hk ht hg hch hl hx1 hx2 hx3 hx4 hj hN2 hp' hz1 hz2 d1 d2 d3 d4 d5 hkj hkd
      go_enter Tryz.func192,Tryz.ntmps192
      go_wp2_with (go_at_call 230;refine hf.mono ?_;rintro e w' ⟨rfl,rfl⟩)
      refine bodyPost_ret (v:=.agg #[.int .i64 0,.int .i64 0]) (by simp [results,Tryz.results192,go_sem]) rfl ?_
      rw [HQ.out,HR.out]
      exact ⟨rfl,((Chg.refl _ _ _).set k _).alloc _,(HH.out.put k j).alloc _⟩
end
end Sc
end
section
namespace Tr
open Go.RowKit



end Tr
end
section
namespace Tr
open Go.RowKit


end Tr
end
section
namespace Tr
open Go.RowKit

theorem CkR.zero {l:List Nd}{a:Int}(h:CkR l 0 a):a=0:=by
  rcases h with ⟨_,h,_⟩ | ⟨_,_,h⟩
  · cases h
  · rcases h with ⟨i,_,_,hne,h,_⟩ | ⟨_,h⟩
    · exact absurd h.symm hne
    · rcases h with ⟨_,h,_⟩ | ⟨_,⟨_,h,_⟩ | ⟨_,_,h⟩⟩
      · cases h
      · cases h
      · exact h

end Tr
end
end Go.Proofs.YtdjpopebeenlmaaGreatDoor
