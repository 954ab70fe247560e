/-
  Joined texts of this claim: TkK, TkT, Ke, TkU.
-/
import Derived.Test.YtbjacclfhgnffaaGreatDoorW00
import Derived.Test.YtbjacclfhgnffaaGreatDoorW08
import Derived.Test.YtbjacclfhgnffaaGreatDoorW07
set_option maxHeartbeats 40000000
set_option maxRecDepth 100000
set_option linter.unusedVariables false
set_option linter.unusedSimpArgs false
namespace Go.Proofs.YtbjacclfhgnffaaGreatDoor
section
namespace Tk
open Go.RowKit
theorem cutter_any (s:ByteArray) (w:World) :
  Calls Tryz.prog 103 #[.string s] w fun e w'=>e=.returned (.tuple #[.func (.func 155) #[] #[.pointer (some ⟨w.heap.size,0,none⟩),.pointer (some ⟨w.heap.size+1,0,none⟩)],.func (.func 157) #[] #[.pointer (some ⟨w.heap.size,0,none⟩),.pointer (some ⟨w.heap.size+1,0,none⟩)]]) ∧
   w' = (w.alloc (.cells #[.string s] 9)).alloc (.cells #[.int .i64 0] 3):=by
 go_enter Tryz.func103,Tryz.ntmps103
 go_wp2
 go_ret2
 exact ⟨rfl,rfl⟩
def cells4 (t:T4):List Value:=[.int .i64 t.k,.string (bstr t.t),.int .i64 t.v,.int .i64 t.a]
def rowOf (l:List T4):List Value:=l.flatMap cells4
theorem rowOf_snoc (l:List T4) (t:T4):rowOf (l ++ [t])=rowOf l ++ cells4 t:=by simp [rowOf]
def ScOut:SR→Value→Int→Int→Nat→World→Prop
 | .ok l,v,c,a,B,w=>c=0∧a=0∧w.ownsRow B 82 4 v l.length (rowOf l)
 | .bad c' a',v,c,a,_,_=>c=c'∧a=a'∧v=.slice none 0 0
def ScPost (l:List UInt8) (w:World) (e:Ending) (w':World):Prop :=
 Below w.heap.size w w'∧∃ v c a,e=.returned (.tuple #[v,.agg #[.int .i64 c,.int .i64 a]]) ∧
  ((2000<l.length∧v=.slice none 0 0∧c=2∧a=0)∨(l.length≤2000∧∃ R,Scans 0 l [] R∧ScOut R v c a w.heap.size w'))
theorem ownsRow_base {w:World}{b b':Nat}{e:TypeId}{size:Nat}{v:Value}{n:Nat}{xs:List Value}(h:w.ownsRow b e size v n xs) (hb:b'≤b):w.ownsRow b' e size v n xs:=by
 obtain ⟨h1,h2⟩:=h
 refine ⟨h1,?_⟩
 rcases h2 with h2 | ⟨g,cap,cur,hv,hg,r⟩
 ·exact Or.inl h2
 ·exact Or.inr ⟨g,cap,cur,hv,Nat.le_trans hb hg,r⟩
theorem info36:(Tryz.prog.info? 82).map (fun i=>(i.zero,i.size,i.bytes))=some (some (.agg #[.int .i64 0,.string ⟨#[]⟩,.int .i64 0,.int .i64 0]),4,40):=by kernel_rfl
def lenOf:Value→Nat | .slice _ n _=>n | _=>0
structure ScInv (s:ByteArray) (w:World) (B:Nat) (v:Value) (wr:World) (k:Nat) (acc:List T4):Prop where
 kle:k≤s.size
 res:wr.heap[B]? = some (.cells #[.int .i64 0,.int .i64 0] 26 (0,0))
 txt:wr.heap[B+1]? = some (.cells #[.string s] 9 (0,0))
 at':wr.heap[B+1+1]? = some (.cells #[.int .i64 k] 3 (0,0))
 own:wr.ownsRow (B+1+1+1) 82 4 v acc.length (rowOf acc)
 below:Below B w wr
 few:acc.length≤800
 rest:∀ r,Scans k (s.data.toList.drop k) acc r→Scans 0 s.data.toList [] r
theorem scInv_len {s:ByteArray}{w:World}{B:Nat}{v:Value}{wr:World}{k:Nat}{acc:List T4}(h:ScInv s w B v wr k acc):∃ p cap,v=.slice p acc.length cap∧acc.length≤800:=by
 rcases h.own.2 with ⟨rfl,h0⟩ | ⟨g,cap,cur,hv,_⟩
 ·rw [h0];exact ⟨none,0,rfl,by omega⟩
 ·exact ⟨_,_,hv,h.few⟩
theorem grown_keep {w w':World}{x b:Nat}{o:Obj}(h:w.grownBy w' (some x)) (hb:w.heap[b]? = some o) (hx:b≠x):w'.heap[b]? = some o :=
 (h.block b (lt_of_block hb) (fun e=>hx (Option.some.inj e))).trans hb
theorem own_keep {w w':World}{x B e size n:Nat}{v:Value}{xs:List Value}(h:w.ownsRow B e size v n xs) (hg:w.grownBy w' (some x)) (hx:x<B):w'.ownsRow B e size v n xs:=by
 refine h.kept hg ?_
 cases hv:v.ownBlock with
 | none=>exact Or.inl rfl
 | some g =>
  have:=(h.lt g hv).1
  exact Or.inr (fun e=>by cases e;omega)
theorem news_cells (w:World) (xs:List Value) (t:TypeId) (n:Nat) (hn:n=w.heap.size):∀ j u,xs[j]? = some u→(w.alloc (.cells xs.toArray t)).cell? ((⟨n,0,none⟩ : Addr).add j)=some u:=by
 intro j u h
 subst hn
 have:((⟨w.heap.size,0,none⟩ : Addr).add j)=⟨w.heap.size,j,none⟩:=by unfold Addr.add;split <;> simp_all
 rw [this,World.cell?_alloc_new]
 simpa using h
theorem below_res {B:Nat}{a w2:World}(h:Below B a w2) (hB:B≤w2.heap.size) (x y:Value) (o:Obj):Below B a (((w2.setCell ⟨B,0,none⟩ x).setCell ⟨B,1,none⟩ y).alloc o):=by
 refine Below.alloc ((h.setCell (p:=⟨B,0,none⟩) (Nat.le_refl _) x).setCell (p:=⟨B,1,none⟩) (Nat.le_refl _) y) ?_ o
 simp [World.setCell];exact hB
theorem own_res {B b e size n:Nat}{w2:World}{v:Value}{xs:List Value}(h:w2.ownsRow b e size v n xs) (hb:B<b) (x y:Value) (o:Obj):(((w2.setCell ⟨B,0,none⟩ x).setCell ⟨B,1,none⟩ y).alloc o).ownsRow b e size v n xs :=
 (ownsRow_setCell_below (ownsRow_setCell_below h (a:=⟨B,0,none⟩) hb x) (a:=⟨B,1,none⟩) hb y).alloc o
theorem scanIn (s:ByteArray) (w:World) (hs:s.size≤2000) (hsh:w.ShapedOpen Tryz.prog) (te:TypeId) (pe:Value) (hv:w.cell? ⟨4,0,none⟩=some (.iface te pe)) :
  Calls Tryz.prog 56 #[.string s] w (ScPost s.data.toList w):=by
 have hsz:=Lib.hid (Lib.size_eq s)
 have hng:¬ 2000<s.size:=by omega
 go_enter Tryz.func56,Tryz.ntmps56
 go_wp2_with (go_at_call 103;refine (cutter_any _ _).mono ?_;rintro e w' ⟨rfl,rfl⟩)
 go_loopw [6] (fun v wr=>∃ k acc,ScInv s w w.heap.size v wr k acc) (fun v _=>801-lenOf v)
 case atStart =>
  refine ⟨0,[],Nat.zero_le _,?_,?_,?_,World.ownsRow_nil _ _ _ _,?_,by simp,fun r h=>h⟩
  ·rw [Below.heap_alloc _ _ _ (by simp;omega),Below.heap_alloc _ _ _ (by simp)];exact heap_alloc_new w _
  ·rw [Below.heap_alloc _ _ _ (by simp)]
   have:=heap_alloc_new (w.alloc (.cells #[.int .i64 0,.int .i64 0] 26)) (.cells #[.string s] 9)
   simpa using this
  ·have:=heap_alloc_new ((w.alloc (.cells #[.int .i64 0,.int .i64 0] 26)).alloc (.cells #[.string s] 9)) (.cells #[.int .i64 0] 3)
   simpa using this
  ·exact (((Below.refl _ _).alloc (Nat.le_refl _) _).alloc (by simp) _).alloc (by simp;omega) _
 case round =>
  obtain ⟨k,acc,hI⟩:=hrel
  obtain ⟨p,cap,rfl,hfew⟩:=scInv_len hI
  have hsh2:wr.ShapedOpen Tryz.prog:=sh_below hsh hI.below
  have hv2:wr.cell? ⟨4,0,none⟩=some (.iface te pe):=(hI.below.cell (p:=⟨4,0,none⟩) (Lib.lt_of_cell hv)).trans hv
  have hSk:=skip_any s k _ _ wr hs hI.kle hsh2 hI.txt hI.at'
  have HI:=Lib.hid hI
  clear hI
  go_wp2_with (go_at_call 155;refine hSk.mono ?_)
  rintro e w2 ⟨n,o,rfl,hg,hgr,hA2⟩
  have hkn:k+n≤s.size:=by have:=hg.1;rw [List.length_drop] at this;have:=hsz.out;have:=HI.out.kle;omega
  have hT2:=grown_keep hgr HI.out.txt (by omega)
  have hR2:=grown_keep hgr HI.out.res (by omega)
  have hO2:=own_keep HI.out.own hgr (by omega)
  have hB2:Below w.heap.size w w2:=HI.out.below.grown hgr HI.out.below.size (fun k h=>by cases h;omega)
  have c0:w2.cell? ⟨w.heap.size,0,none⟩=some (.int .i64 0):=by simp [World.cell?,hR2]
  have c1:w2.cell? ⟨w.heap.size,1,none⟩=some (.int .i64 0):=by simp [World.cell?,hR2]
  have f0:w2.frozen? ⟨w.heap.size,0,none⟩=false:=by simp [World.frozen?,hR2]
  have f1:w2.frozen? ⟨w.heap.size,1,none⟩=false:=by simp [World.frozen?,hR2]
  have lR:=lt_of_block hR2
  have HT2:=Lib.hid hT2
  have HR2:=Lib.hid hR2
  have HA2:=Lib.hid hA2
  have HO2:=Lib.hid hO2
  have HG:=Lib.hid hg
  have HB2:=Lib.hid hB2
  clear hT2 hR2 hA2 hO2 hg hgr hB2 hSk
  cases o with
  | true =>
   simp only [if_true]
   go_wp2
   go_region
   all_goals go_wp2
   refine bodyPost_ret (v:=.tuple #[.slice none 0 0,.agg #[.int .i64 1,.int .i64 (k+n)]]) (by simp [results,Tryz.results56,go_sem,c0,c1,lR]) rfl ?_
   refine ⟨?_,_,_,_,rfl,Or.inr ⟨by have:=hsz.out;omega,.bad 1 (k+n),HI.out.rest _ (HG.out.2.1 _ _ _ (.opens (HG.out.2.2.1 rfl))),rfl,by simp,rfl⟩⟩
   exact (below_res HB2.out (Nat.le_of_lt lR) _ _ _).drew
  | false =>
   simp only [Bool.false_eq_true,if_false]
   by_cases hend:k+n=s.size
   ·have hend2:((k:Int)+n == s.size)=true:=beq_of (by omega)
    go_wp2
    refine bodyPost_ret (v:=.tuple #[.slice p acc.length cap,.agg #[.int .i64 0,.int .i64 0]]) (by simp [results,Tryz.results56,go_sem,c0,c1,lR]) rfl ?_
    refine ⟨?_,_,_,_,rfl,Or.inr ⟨by have:=hsz.out;omega,.ok acc,HI.out.rest _ (HG.out.2.1 _ _ _ (by rw [List.drop_drop,List.drop_eq_nil_of_le (by have:=hsz.out;omega)];exact .done _ _)),rfl,rfl,?_⟩⟩
    ·exact below_res HB2.out (Nat.le_of_lt lR) _ _ _
    ·exact ownsRow_base (own_res HO2.out (by omega) _ _ _) (by omega)
   ·have hend2:((k:Int)+n == s.size)=false:=beq_of_ne (by omega)
    have hne:s.data.toList.drop (k+n)≠[]:=fun h=>by
     have:=congrArg List.length h
     rw [List.length_drop] at this
     have:=hsz.out
     simp at *;omega
    have hword:skp (s.data.toList.drop (k+n))=.word:=by
     have:=HG.out.2.2.2 rfl
     rw [List.drop_drop] at this
     exact this.resolve_left hne
    have hgo:∀ r,Scans (k+n) (s.data.toList.drop (k+n)) acc r→Scans 0 s.data.toList [] r:=fun r h=>HI.out.rest _ (HG.out.2.1 _ _ _ (by rw [List.drop_drop];exact h))
    have Hgo:=Lib.hid hgo
    have Hword:=Lib.hid hword
    have Hne:=Lib.hid hne
    clear hgo hword hne hend HG
    by_cases h800:acc.length=800
    ·have H8:=Lib.hid h800
     have h8:((acc.length:Int) == 800)=true:=beq_of (by omega)
     clear h800
     go_wp2
     refine bodyPost_ret (v:=.tuple #[.slice none 0 0,.agg #[.int .i64 10,.int .i64 (k+n)]]) (by simp [results,Tryz.results56,go_sem,c0,c1,lR]) rfl ?_
     refine ⟨?_,_,_,_,rfl,Or.inr ⟨by have:=hsz.out;omega,.bad 10 (k+n),Hgo.out _ (.much Hword.out Hne.out H8.out),rfl,by simp,rfl⟩⟩
     exact below_res HB2.out (Nat.le_of_lt lR) _ _ _
    ·have H8:=Lib.hid h800
     have h8:((acc.length:Int) == 800)=false:=beq_of_ne (by omega)
     clear h800
     have hlt2:4<w2.heap.size:=Nat.lt_of_lt_of_le (Lib.lt_of_cell hv) HB2.out.size
     have hv3:w2.cell? ⟨4,0,none⟩=some (.iface te pe):=(HB2.out.cell (p:=⟨4,0,none⟩) (Lib.lt_of_cell hv)).trans hv
     have hTk:=take_any s (k+n) (w.heap.size+1) (w.heap.size+1+1) (w2.alloc (.cells #[.int .i64 0,.int .i64 0] 26)) hs hkn te pe (hv_alloc hv3 _)
      ((Below.heap_alloc _ _ _ (lt_of_block HT2.out)).trans HT2.out) ((Below.heap_alloc _ _ _ (lt_of_block HA2.out)).trans HA2.out)
     clear hv3 hlt2
     go_wp2_with (go_at_call 157;refine hTk.mono ?_)
     rintro e w4 ⟨hgr4,hcase⟩
     have lT:=lt_of_block HT2.out
     have lA:=lt_of_block HA2.out
     have hT4:=grown_keep hgr4 ((Below.heap_alloc _ _ _ lT).trans HT2.out) (by omega)
     have hR4:=grown_keep hgr4 ((Below.heap_alloc _ _ _ lR).trans HR2.out) (by omega)
     have hF4:=grown_keep hgr4 (heap_alloc_new w2 (.cells #[.int .i64 0,.int .i64 0] 26)) (by omega)
     have hO4:=own_keep (HO2.out.alloc (.cells #[.int .i64 0,.int .i64 0] 26)) hgr4 (by omega)
     have hB4:Below w.heap.size w w4:=(HB2.out.alloc (by omega) _).grown hgr4 (by simp;omega) (fun k h=>by cases h;omega)
     have d0:w4.cell? ⟨w.heap.size,0,none⟩=some (.int .i64 0):=by simp [World.cell?,hR4]
     have d1:w4.cell? ⟨w.heap.size,1,none⟩=some (.int .i64 0):=by simp [World.cell?,hR4]
     have g0:w4.frozen? ⟨w.heap.size,0,none⟩=false:=by simp [World.frozen?,hR4]
     have g1:w4.frozen? ⟨w.heap.size,1,none⟩=false:=by simp [World.frozen?,hR4]
     have d2:w4.cell? ⟨w2.heap.size,0,none⟩=some (.int .i64 0):=by simp [World.cell?,hF4]
     have d3:w4.cell? ⟨w2.heap.size,1,none⟩=some (.int .i64 0):=by simp [World.cell?,hF4]
     have g2:w4.frozen? ⟨w2.heap.size,0,none⟩=false:=by simp [World.frozen?,hF4]
     have g3:w4.frozen? ⟨w2.heap.size,1,none⟩=false:=by simp [World.frozen?,hF4]
     have lR4:=lt_of_block hR4
     have lF4:=lt_of_block hF4
     have HT4:=Lib.hid hT4
     have HR4:=Lib.hid hR4
     have HO4:=Lib.hid hO4
     have HB4:=Lib.hid hB4
     clear hT4 hR4 hF4 hO4 hgr4 hB4 hTk c0 c1 f0 f1
     rcases hcase with ⟨c,hc,rfl,hA4⟩ | ⟨kd,m,v,hc,rfl,hA4⟩
     ·have hcn:((c:Int) != 0)=true:=by have:=fstT_bad hc;simpa using this
      have Hc:=Lib.hid hc
      clear hc hA4
      go_wp2
      go_region
      all_goals go_wp2
      refine bodyPost_ret (v:=.tuple #[.slice none 0 0,.agg #[.int .i64 c,.int .i64 (k+n)]]) (by simp [results,Tryz.results56,go_sem,d0,d1,lR4]) rfl ?_
      refine ⟨?_,_,_,_,rfl,Or.inr ⟨by have:=hsz.out;omega,.bad c (k+n),Hgo.out _ (.bad Hword.out Hne.out H8.out Hc.out),rfl,by simp,rfl⟩⟩
      exact (below_res (((HB4.out.setCell (p:=⟨w2.heap.size,0,none⟩) (Nat.le_of_lt lR) _).setCell (p:=⟨w2.heap.size,1,none⟩) (Nat.le_of_lt lR) _)) (by simp [World.setCell];omega) _ _ _).drew
     ·obtain ⟨hm1,hm2⟩:=fstT_tok hc
      have hkm:k+n+m≤s.size:=by rw [List.length_drop] at hm2;have:=hsz.out;omega
      have Hc:=Lib.hid hc
      have HA4:=Lib.hid hA4
      obtain ⟨x,hx⟩:=exE (bstr ((s.data.toList.drop (k+n)).take m))
      rw [← hx]
      have Hx:=Lib.hid hx
      clear hc hA4 hx hm2
      have hob:(Value.slice p acc.length cap).ownBlock≠some w2.heap.size:=fun h=>by have:=(HO2.out.lt _ h).2;omega
      have hO5:((((w4.setCell ⟨w2.heap.size,0,none⟩ (.int .i64 0)).setCell ⟨w2.heap.size,1,none⟩ (.int .i64 0)).alloc (.cells #[.int .i64 kd,.string x,.int .i64 v,.int .i64 (k+n)] 82)).alloc (.cells #[.int .i64 kd,.string x,.int .i64 v,.int .i64 (k+n)] 82)).ownsRow (w.heap.size+1+1+1) 82 4 (.slice p acc.length cap) acc.length (rowOf acc) :=
       ((ownsRow_setCell_other (ownsRow_setCell_other HO4.out (a:=⟨w2.heap.size,0,none⟩) hob _) (a:=⟨w2.heap.size,1,none⟩) hob _).alloc _).alloc _
      have HO5:=Lib.hid hO5
      clear hO5
      obtain ⟨i0,hi,hz0,hz1,hz2⟩:=info_parts info36
      go_wp2_with (at_builtin;refine wpList_append_own _ rfl _ _ 47 rfl (w.heap.size+1+1+1) 82 i0 (.agg #[.int .i64 0,.string ⟨#[]⟩,.int .i64 0,.int .i64 0]) 4 40 Tryz.underlying47 hi hz0 hz1 hz2 rfl (by decide) _ acc.length (rowOf acc) rfl HO5.out ⟨w4.heap.size+1,0,none⟩ 1 1 [.int .i64 kd,.string x,.int .i64 v,.int .i64 (k+n)] rfl rfl ?c1 ?c2 ?c3 ?c4 ?c5 ?_)
      case c1=>exact news_cells _ [.int .i64 kd,.string x,.int .i64 v,.int .i64 (k+n)] 82 _ (by simp [World.setCell])
      case c2=>intro u hu;simp at hu;rcases hu with rfl | rfl | rfl | rfl <;> rfl
      case c3=>unfold maxLen;omega
      case c4=>omega
      case c5=>simp [World.setCell];omega
      intro v' w1 hown' hgrow _
      have hW5:∀ (b:Nat) (o1 o2:Obj) (x1 x2:Value),b<w4.heap.size→b≠w2.heap.size→((((w4.setCell ⟨w2.heap.size,0,none⟩ x1).setCell ⟨w2.heap.size,1,none⟩ x2).alloc o1).alloc o2).heap[b]? = w4.heap[b]?:=fun b o1 o2 x1 x2 h1 h2=>by
       rw [Below.heap_alloc _ _ _ (by simp [World.setCell];omega),Below.heap_alloc _ _ _ (by simp [World.setCell];omega),Below.heap_setCell _ _ _ _ h2,Below.heap_setCell _ _ _ _ h2]
      have hold:∀ (b:Nat) (o:Obj),b<w.heap.size+1+1+1→w4.heap[b]? = some o→w1.heap[b]? = some o:=fun b o h1 h2=>by
       have hb4:=lt_of_block h2
       rw [hgrow.block b (by simp [World.setCell];omega) (fun e=>by have:=(HO5.out.lt b e.symm).1;omega),hW5 b _ _ _ _ hb4 (by omega)]
       exact h2
      have hbel:Below w.heap.size w w1:=by
       refine Below.grown ?_ hgrow ?_ (fun g h=>by have:=(HO5.out.lt g h).1;omega)
       ·refine Below.alloc (Below.alloc ((HB4.out.setCell (p:=⟨w2.heap.size,0,none⟩) (Nat.le_of_lt lR) _).setCell (p:=⟨w2.heap.size,1,none⟩) (Nat.le_of_lt lR) _) ?_ _) ?_ _
        ·simp [World.setCell];omega
        ·simp [World.setCell];omega
       ·simp [World.setCell];omega
      have hInv:ScInv s w w.heap.size v' w1 (k+n+m) (acc ++ [⟨kd,(s.data.toList.drop (k+n)).take m,v,k+n⟩]) :=
       {kle:=hkm
        res:=hold _ _ (by omega) HR4.out
        txt:=hold _ _ (by omega) HT4.out
        at':=hold _ _ (by omega) HA4.out
        own:=by
         rw [rowOf_snoc,List.length_append]
         show w1.ownsRow _ 82 4 v' (acc.length+1) (rowOf acc ++ [.int .i64 kd,.string (bstr ((s.data.toList.drop (k+n)).take m)),.int .i64 v,.int .i64 ((k+n:Nat):Int)])
         rw [← Hx.out,Int.natCast_add]
         exact hown'
        below:=hbel
        few:=by rw [List.length_append];have:=H8.out;simp;omega
        rest:=fun r h=>Hgo.out r (.tok Hword.out Hne.out H8.out Hc.out (by rw [List.drop_drop];exact h)) }
      have hlen:lenOf v' = acc.length+1:=by
       obtain ⟨p',cap',rfl,_⟩:=scInv_len hInv
       simp [lenOf]
      have Hlen:=Lib.hid hlen
      have HInv:=Lib.hid hInv
      clear hW5 hold hbel hInv hlen hown' hgrow
      go_wp2
      go_roundw
      case rel=>exact ⟨_,_,HInv.out⟩
      case measure =>
       have:=Hlen.out
       simp only [lenOf] at *
       omega
theorem scan_any (s:ByteArray) (w:World) (hs:s.size≤140737488355328) (hsh:w.ShapedOpen Tryz.prog) (te:TypeId) (pe:Value) (hv:w.cell? ⟨4,0,none⟩=some (.iface te pe)) :
  Calls Tryz.prog 56 #[.string s] w (ScPost s.data.toList w):=by
 by_cases h:s.size≤2000
 ·exact scanIn s w h hsh te pe hv
 ·have hg:2000<s.size:=by omega
  have hsz:=Lib.hid (Lib.size_eq s)
  go_enter Tryz.func56,Tryz.ntmps56
  go_wp2
  refine bodyPost_ret (v:=.tuple #[.slice none 0 0,.agg #[.int .i64 2,.int .i64 0]]) (by simp [results,Tryz.results56,go_sem]) rfl ?_
  exact ⟨(Below.refl _ _).alloc (Nat.le_refl _) _,_,_,_,rfl,Or.inl ⟨by have:=hsz.out;omega,rfl,rfl,rfl⟩⟩
end Tk
end
section
namespace Tk
open Go.RowKit
theorem rnum_dec1 (s:ByteArray) (t:List UInt8) (w:World) (hs:s.size≤140737488355328) (h0:s.size≠0) (h1:¬ 1<s.size) :
  Calls Tryz.prog 115 #[.string s] w fun e w'=>e=.returned (.tuple #[.int .i64 (tkN (numD 10 digB s.data.toList t)),.int .i64 (tkE (numD 10 digB s.data.toList t))])∧w=w':=by
 obtain ⟨ds,hds⟩:=exE (s.data.toList)
 rw [← hds]
 have hlen:ds.length=s.size:=by rw [hds,Lib.size_eq]
 have hne:ds≠[]:=fun h=>by rw [h] at hlen;simp at hlen;omega
 have hget:∀ j,(h:j<ds.length)→(h2:j<s.size)→s[j]=ds[j]:=by
  intro j h h2
  rw [← getD_idx s (j) h2]
  simp only [hds,List.getD]
  rw [List.getElem?_eq_getElem (by have:=Lib.size_eq s;omega)];simp
 have Hlen:=Lib.hid hlen
 have Hne:=Lib.hid hne
 have Hget:=Lib.hid hget
 clear hlen hne hget hds
 have h12:¬ 2<s.size:=by omega
 go_enter Tryz.func115,Tryz.ntmps115
 go_wp2
 go_loop [6,7,8] (fun vn vb vi=>∃ (j:Nat) (a:Int) (big:Bool),j≤s.size∧vn=.int .i64 a∧vb=.bool big∧vi=.int .i64 (j:Nat)∧0≤a∧a≤9223372036854775807∧Hid (NumInv 10 digB ds j a big)) (fun _ _ vi=>s.size-(intOf vi).toNat)
 case atStart=>exact ⟨0,0,false,by omega,rfl,rfl,rfl,by decide,by decide,numInv_zero _ _ _⟩
 case round =>
  obtain ⟨j,a,big,hj,rfl,rfl,rfl,ha0,ha1,HK⟩:=hrel
  by_cases hlt:j<s.size
  ·have hjl:j<ds.length:=by have:=Hlen.out;omega
   have hsj:=Hget.out j hjl hlt
   have hV:=fun w=>val_any s[j] w
   rw [hsj] at hV
   have hval:=val_dec ds[j]
   have Hs:=Lib.hid hsj
   clear hsj
   cases hp:digB ds[j] with
   | false =>
    rw [hp] at hval
    have hval:valV ds[j] < 0∨10≤valV ds[j]:=hval
    have HR:Hid (numD 10 digB ds t=.bad 1):=numInv_bad HK.out hjl hp
    clear HK hp
    generalize valV ds[j]=x at *
    rcases hval with hx | hx
    ·rw [← Hs.out] at hV
     go_wp2_with (go_at_call 166;refine (hV _).mono ?_;rintro e w' ⟨rfl,rfl⟩)
     go_ret2
     exact ⟨by rw [HR.out];rfl,rfl⟩
    ·have hx0:¬ x<0:=by omega
     rw [← Hs.out] at hV
     go_wp2_with (go_at_call 166;refine (hV _).mono ?_;rintro e w' ⟨rfl,rfl⟩)
     go_ret2
     exact ⟨by rw [HR.out];rfl,rfl⟩
   | true =>
    rw [hp] at hval
    have hval:valV ds[j]=dv ds[j]∧dv ds[j] < 10:=hval
    have hB:(big=true∨9223372036854775807<a * 10+dv ds[j])→Hid (NumInv 10 digB ds (j+1) a true):=fun h=>numInv_big (by decide) HK.out hjl hp h
    have hO:big=false→a * 10+dv ds[j]≤9223372036854775807→Hid (NumInv 10 digB ds (j+1) (a * 10+dv ds[j]) false):=fun h1 h2=>by subst h1;exact numInv_add HK.out hjl hp h2
    clear HK hp
    rw [hval.1] at hV
    have hd:=hval.2
    clear hval
    obtain ⟨x,hx⟩ : ∃ x:Int,x=(dv ds[j]:Int):=⟨_,rfl⟩
    rw [← hx] at hV hB hO
    rw [← Hs.out] at hV
    clear Hs
    have hx0:0≤x:=by omega
    have hx1:x<10:=by omega
    clear hx hd
    cases big with
    | true =>
     have HN:=hB (Or.inl rfl)
     clear hB hO
     go_wp2_with (go_at_call 166;refine (hV _).mono ?_;rintro e w' ⟨rfl,rfl⟩)
     go_round
     case rel=>exact ⟨j+1,a,true,by omega,rfl,rfl,by go_num,ha0,ha1,HN⟩
     case measure=>simp [intOf];omega
    | false =>
     by_cases hov:9223372036854775807<a * 10+x
     ·have HN:=hB (Or.inr hov)
      have hq:(9223372036854775807-x) / 10<a:=by omega
      clear hB hO
      go_wp2_with (go_at_call 166;refine (hV _).mono ?_;rintro e w' ⟨rfl,rfl⟩)
      go_round
      case rel=>exact ⟨j+1,a,true,by omega,rfl,rfl,by go_num,ha0,ha1,HN⟩
      case measure=>simp [intOf];omega
     ·have HN:=hO rfl (by omega)
      have hq:¬ (9223372036854775807-x) / 10<a:=by omega
      have hov2:a * 10+x≤9223372036854775807:=by omega
      clear hB hO hov
      go_wp2_with (go_at_call 166;refine (hV _).mono ?_;rintro e w' ⟨rfl,rfl⟩)
      go_round
      case rel=>exact ⟨j+1,a * 10+x,false,by omega,rfl,rfl,by go_num,by omega,hov2,HN⟩
      case measure=>simp [intOf];omega
  ·have hjl:ds.length≤j:=by have:=Hlen.out;omega
   cases big with
   | true =>
    have HR:Hid (numD 10 digB ds t=.bad 3):=numInv_end_big HK.out hjl Hne.out
    clear HK
    go_wp2
    go_ret2
    exact ⟨by rw [HR.out];rfl,rfl⟩
   | false =>
    obtain ⟨v,hv,hR⟩:=numInv_end_ok (t:=t) HK.out hjl Hne.out
    have HR:=Lib.hid hR
    subst hv
    clear HK hR
    go_wp2
    go_ret2
    exact ⟨by rw [HR.out];rfl,rfl⟩
theorem rnum_dec2a (s:ByteArray) (t:List UInt8) (w:World) (hs:s.size≤140737488355328) (h1:1<s.size) (h3:2<s.size) (h2:((s[0].toNat:Int) == 48)=false) :
  Calls Tryz.prog 115 #[.string s] w fun e w'=>e=.returned (.tuple #[.int .i64 (tkN (numD 10 digB s.data.toList t)),.int .i64 (tkE (numD 10 digB s.data.toList t))])∧w=w':=by
 obtain ⟨ds,hds⟩:=exE (s.data.toList)
 rw [← hds]
 have hlen:ds.length=s.size:=by rw [hds,Lib.size_eq]
 have hne:ds≠[]:=fun h=>by rw [h] at hlen;simp at hlen;omega
 have hget:∀ j,(h:j<ds.length)→(h2:j<s.size)→s[j]=ds[j]:=by
  intro j h h2
  rw [← getD_idx s (j) h2]
  simp only [hds,List.getD]
  rw [List.getElem?_eq_getElem (by have:=Lib.size_eq s;omega)];simp
 have Hlen:=Lib.hid hlen
 have Hne:=Lib.hid hne
 have Hget:=Lib.hid hget
 clear hlen hne hget hds
 go_enter Tryz.func115,Tryz.ntmps115
 go_wp2
 go_loop [6,7,8] (fun vn vb vi=>∃ (j:Nat) (a:Int) (big:Bool),j≤s.size∧vn=.int .i64 a∧vb=.bool big∧vi=.int .i64 (j:Nat)∧0≤a∧a≤9223372036854775807∧Hid (NumInv 10 digB ds j a big)) (fun _ _ vi=>s.size-(intOf vi).toNat)
 case atStart=>exact ⟨0,0,false,by omega,rfl,rfl,rfl,by decide,by decide,numInv_zero _ _ _⟩
 case round =>
  obtain ⟨j,a,big,hj,rfl,rfl,rfl,ha0,ha1,HK⟩:=hrel
  by_cases hlt:j<s.size
  ·have hjl:j<ds.length:=by have:=Hlen.out;omega
   have hsj:=Hget.out j hjl hlt
   have hV:=fun w=>val_any s[j] w
   rw [hsj] at hV
   have hval:=val_dec ds[j]
   have Hs:=Lib.hid hsj
   clear hsj
   cases hp:digB ds[j] with
   | false =>
    rw [hp] at hval
    have hval:valV ds[j] < 0∨10≤valV ds[j]:=hval
    have HR:Hid (numD 10 digB ds t=.bad 1):=numInv_bad HK.out hjl hp
    clear HK hp
    generalize valV ds[j]=x at *
    rcases hval with hx | hx
    ·rw [← Hs.out] at hV
     go_wp2_with (go_at_call 166;refine (hV _).mono ?_;rintro e w' ⟨rfl,rfl⟩)
     go_ret2
     exact ⟨by rw [HR.out];rfl,rfl⟩
    ·have hx0:¬ x<0:=by omega
     rw [← Hs.out] at hV
     go_wp2_with (go_at_call 166;refine (hV _).mono ?_;rintro e w' ⟨rfl,rfl⟩)
     go_ret2
     exact ⟨by rw [HR.out];rfl,rfl⟩
   | true =>
    rw [hp] at hval
    have hval:valV ds[j]=dv ds[j]∧dv ds[j] < 10:=hval
    have hB:(big=true∨9223372036854775807<a * 10+dv ds[j])→Hid (NumInv 10 digB ds (j+1) a true):=fun h=>numInv_big (by decide) HK.out hjl hp h
    have hO:big=false→a * 10+dv ds[j]≤9223372036854775807→Hid (NumInv 10 digB ds (j+1) (a * 10+dv ds[j]) false):=fun h1 h2=>by subst h1;exact numInv_add HK.out hjl hp h2
    clear HK hp
    rw [hval.1] at hV
    have hd:=hval.2
    clear hval
    obtain ⟨x,hx⟩ : ∃ x:Int,x=(dv ds[j]:Int):=⟨_,rfl⟩
    rw [← hx] at hV hB hO
    rw [← Hs.out] at hV
    clear Hs
    have hx0:0≤x:=by omega
    have hx1:x<10:=by omega
    clear hx hd
    cases big with
    | true =>
     have HN:=hB (Or.inl rfl)
     clear hB hO
     go_wp2_with (go_at_call 166;refine (hV _).mono ?_;rintro e w' ⟨rfl,rfl⟩)
     go_round
     case rel=>exact ⟨j+1,a,true,by omega,rfl,rfl,by go_num,ha0,ha1,HN⟩
     case measure=>simp [intOf];omega
    | false =>
     by_cases hov:9223372036854775807<a * 10+x
     ·have HN:=hB (Or.inr hov)
      have hq:(9223372036854775807-x) / 10<a:=by omega
      clear hB hO
      go_wp2_with (go_at_call 166;refine (hV _).mono ?_;rintro e w' ⟨rfl,rfl⟩)
      go_round
      case rel=>exact ⟨j+1,a,true,by omega,rfl,rfl,by go_num,ha0,ha1,HN⟩
      case measure=>simp [intOf];omega
     ·have HN:=hO rfl (by omega)
      have hq:¬ (9223372036854775807-x) / 10<a:=by omega
      have hov2:a * 10+x≤9223372036854775807:=by omega
      clear hB hO hov
      go_wp2_with (go_at_call 166;refine (hV _).mono ?_;rintro e w' ⟨rfl,rfl⟩)
      go_round
      case rel=>exact ⟨j+1,a * 10+x,false,by omega,rfl,rfl,by go_num,by omega,hov2,HN⟩
      case measure=>simp [intOf];omega
  ·have hjl:ds.length≤j:=by have:=Hlen.out;omega
   cases big with
   | true =>
    have HR:Hid (numD 10 digB ds t=.bad 3):=numInv_end_big HK.out hjl Hne.out
    clear HK
    go_wp2
    go_ret2
    exact ⟨by rw [HR.out];rfl,rfl⟩
   | false =>
    obtain ⟨v,hv,hR⟩:=numInv_end_ok (t:=t) HK.out hjl Hne.out
    have HR:=Lib.hid hR
    subst hv
    clear HK hR
    go_wp2
    go_ret2
    exact ⟨by rw [HR.out];rfl,rfl⟩
theorem rnum_dec2b (s:ByteArray) (t:List UInt8) (w:World) (hs:s.size≤140737488355328) (h1:1<s.size) (h3:¬ 2<s.size) (h2:((s[0].toNat:Int) == 48)=false) :
  Calls Tryz.prog 115 #[.string s] w fun e w'=>e=.returned (.tuple #[.int .i64 (tkN (numD 10 digB s.data.toList t)),.int .i64 (tkE (numD 10 digB s.data.toList t))])∧w=w':=by
 obtain ⟨ds,hds⟩:=exE (s.data.toList)
 rw [← hds]
 have hlen:ds.length=s.size:=by rw [hds,Lib.size_eq]
 have hne:ds≠[]:=fun h=>by rw [h] at hlen;simp at hlen;omega
 have hget:∀ j,(h:j<ds.length)→(h2:j<s.size)→s[j]=ds[j]:=by
  intro j h h2
  rw [← getD_idx s (j) h2]
  simp only [hds,List.getD]
  rw [List.getElem?_eq_getElem (by have:=Lib.size_eq s;omega)];simp
 have Hlen:=Lib.hid hlen
 have Hne:=Lib.hid hne
 have Hget:=Lib.hid hget
 clear hlen hne hget hds
 go_enter Tryz.func115,Tryz.ntmps115
 go_wp2
 go_loop [6,7,8] (fun vn vb vi=>∃ (j:Nat) (a:Int) (big:Bool),j≤s.size∧vn=.int .i64 a∧vb=.bool big∧vi=.int .i64 (j:Nat)∧0≤a∧a≤9223372036854775807∧Hid (NumInv 10 digB ds j a big)) (fun _ _ vi=>s.size-(intOf vi).toNat)
 case atStart=>exact ⟨0,0,false,by omega,rfl,rfl,rfl,by decide,by decide,numInv_zero _ _ _⟩
 case round =>
  obtain ⟨j,a,big,hj,rfl,rfl,rfl,ha0,ha1,HK⟩:=hrel
  by_cases hlt:j<s.size
  ·have hjl:j<ds.length:=by have:=Hlen.out;omega
   have hsj:=Hget.out j hjl hlt
   have hV:=fun w=>val_any s[j] w
   rw [hsj] at hV
   have hval:=val_dec ds[j]
   have Hs:=Lib.hid hsj
   clear hsj
   cases hp:digB ds[j] with
   | false =>
    rw [hp] at hval
    have hval:valV ds[j] < 0∨10≤valV ds[j]:=hval
    have HR:Hid (numD 10 digB ds t=.bad 1):=numInv_bad HK.out hjl hp
    clear HK hp
    generalize valV ds[j]=x at *
    rcases hval with hx | hx
    ·rw [← Hs.out] at hV
     go_wp2_with (go_at_call 166;refine (hV _).mono ?_;rintro e w' ⟨rfl,rfl⟩)
     go_ret2
     exact ⟨by rw [HR.out];rfl,rfl⟩
    ·have hx0:¬ x<0:=by omega
     rw [← Hs.out] at hV
     go_wp2_with (go_at_call 166;refine (hV _).mono ?_;rintro e w' ⟨rfl,rfl⟩)
     go_ret2
     exact ⟨by rw [HR.out];rfl,rfl⟩
   | true =>
    rw [hp] at hval
    have hval:valV ds[j]=dv ds[j]∧dv ds[j] < 10:=hval
    have hB:(big=true∨9223372036854775807<a * 10+dv ds[j])→Hid (NumInv 10 digB ds (j+1) a true):=fun h=>numInv_big (by decide) HK.out hjl hp h
    have hO:big=false→a * 10+dv ds[j]≤9223372036854775807→Hid (NumInv 10 digB ds (j+1) (a * 10+dv ds[j]) false):=fun h1 h2=>by subst h1;exact numInv_add HK.out hjl hp h2
    clear HK hp
    rw [hval.1] at hV
    have hd:=hval.2
    clear hval
    obtain ⟨x,hx⟩ : ∃ x:Int,x=(dv ds[j]:Int):=⟨_,rfl⟩
    rw [← hx] at hV hB hO
    rw [← Hs.out] at hV
    clear Hs
    have hx0:0≤x:=by omega
    have hx1:x<10:=by omega
    clear hx hd
    cases big with
    | true =>
     have HN:=hB (Or.inl rfl)
     clear hB hO
     go_wp2_with (go_at_call 166;refine (hV _).mono ?_;rintro e w' ⟨rfl,rfl⟩)
     go_round
     case rel=>exact ⟨j+1,a,true,by omega,rfl,rfl,by go_num,ha0,ha1,HN⟩
     case measure=>simp [intOf];omega
    | false =>
     by_cases hov:9223372036854775807<a * 10+x
     ·have HN:=hB (Or.inr hov)
      have hq:(9223372036854775807-x) / 10<a:=by omega
      clear hB hO
      go_wp2_with (go_at_call 166;refine (hV _).mono ?_;rintro e w' ⟨rfl,rfl⟩)
      go_round
      case rel=>exact ⟨j+1,a,true,by omega,rfl,rfl,by go_num,ha0,ha1,HN⟩
      case measure=>simp [intOf];omega
     ·have HN:=hO rfl (by omega)
      have hq:¬ (9223372036854775807-x) / 10<a:=by omega
      have hov2:a * 10+x≤9223372036854775807:=by omega
      clear hB hO hov
      go_wp2_with (go_at_call 166;refine (hV _).mono ?_;rintro e w' ⟨rfl,rfl⟩)
      go_round
      case rel=>exact ⟨j+1,a * 10+x,false,by omega,rfl,rfl,by go_num,by omega,hov2,HN⟩
      case measure=>simp [intOf];omega
  ·have hjl:ds.length≤j:=by have:=Hlen.out;omega
   cases big with
   | true =>
    have HR:Hid (numD 10 digB ds t=.bad 3):=numInv_end_big HK.out hjl Hne.out
    clear HK
    go_wp2
    go_ret2
    exact ⟨by rw [HR.out];rfl,rfl⟩
   | false =>
    obtain ⟨v,hv,hR⟩:=numInv_end_ok (t:=t) HK.out hjl Hne.out
    have HR:=Lib.hid hR
    subst hv
    clear HK hR
    go_wp2
    go_ret2
    exact ⟨by rw [HR.out];rfl,rfl⟩
theorem rnum_hex1 (s:ByteArray) (t:List UInt8) (w:World) (hs:s.size≤140737488355328) (h1:2<s.size) (h2:((s[0].toNat:Int) == 48)=true) (hx:((s[1].toNat:Int) == 120)=true) :
  Calls Tryz.prog 115 #[.string s] w fun e w'=>e=.returned (.tuple #[.int .i64 (tkN (numD 16 hexB (s.data.toList.drop 2) t)),.int .i64 (tkE (numD 16 hexB (s.data.toList.drop 2) t))])∧w=w':=by
 obtain ⟨ds,hds⟩ : ∃ ds,ds=(s.data.toList.drop 2):=⟨_,rfl⟩
 rw [← hds]
 have hlen:ds.length+2=s.size:=by rw [hds,Lib.size_eq];rw [List.length_drop];have:=Lib.size_eq s;omega
 have hne:ds≠[]:=fun h=>by rw [h] at hlen;simp at hlen;omega
 have hget:∀ j,(h:j<ds.length)→(h2:j+2<s.size)→s[j+2]=ds[j]:=by
  intro j h h2
  rw [← getD_idx s (j+2) h2]
  simp only [hds,List.getD]
  rw [List.getElem_drop];rw [List.getElem?_eq_getElem (by have:=Lib.size_eq s;omega)];simp [Nat.add_comm]
 have Hlen:=Lib.hid hlen
 have Hne:=Lib.hid hne
 have Hget:=Lib.hid hget
 clear hlen hne hget hds
 go_enter Tryz.func115,Tryz.ntmps115
 go_wp2
 go_loop [6,7,8] (fun vn vb vi=>∃ (j:Nat) (a:Int) (big:Bool),j+2≤s.size∧vn=.int .i64 a∧vb=.bool big∧vi=.int .i64 (j+2:Nat)∧0≤a∧a≤9223372036854775807∧Hid (NumInv 16 hexB ds j a big)) (fun _ _ vi=>s.size-(intOf vi).toNat)
 case atStart=>exact ⟨0,0,false,by omega,rfl,rfl,rfl,by decide,by decide,numInv_zero _ _ _⟩
 case round =>
  obtain ⟨j,a,big,hj,rfl,rfl,rfl,ha0,ha1,HK⟩:=hrel
  by_cases hlt:j+2<s.size
  ·have hjl:j<ds.length:=by have:=Hlen.out;omega
   have hsj:=Hget.out j hjl hlt
   have hV:=fun w=>val_any s[j+2] w
   rw [hsj] at hV
   have hval:=val_hex ds[j]
   have Hs:=Lib.hid hsj
   clear hsj
   cases hp:hexB ds[j] with
   | false =>
    rw [hp] at hval
    have hval:valV ds[j] < 0∨16≤valV ds[j]:=hval
    have HR:Hid (numD 16 hexB ds t=.bad 1):=numInv_bad HK.out hjl hp
    clear HK hp
    generalize valV ds[j]=x at *
    rcases hval with hx | hx
    ·rw [← Hs.out] at hV
     go_wp2_with (go_at_call 166;refine (hV _).mono ?_;rintro e w' ⟨rfl,rfl⟩)
     go_ret2
     exact ⟨by rw [HR.out];rfl,rfl⟩
    ·have hx0:¬ x<0:=by omega
     rw [← Hs.out] at hV
     go_wp2_with (go_at_call 166;refine (hV _).mono ?_;rintro e w' ⟨rfl,rfl⟩)
     go_ret2
     exact ⟨by rw [HR.out];rfl,rfl⟩
   | true =>
    rw [hp] at hval
    have hval:valV ds[j]=dv ds[j]∧dv ds[j] < 16:=hval
    have hB:(big=true∨9223372036854775807<a * 16+dv ds[j])→Hid (NumInv 16 hexB ds (j+1) a true):=fun h=>numInv_big (by decide) HK.out hjl hp h
    have hO:big=false→a * 16+dv ds[j]≤9223372036854775807→Hid (NumInv 16 hexB ds (j+1) (a * 16+dv ds[j]) false):=fun h1 h2=>by subst h1;exact numInv_add HK.out hjl hp h2
    clear HK hp
    rw [hval.1] at hV
    have hd:=hval.2
    clear hval
    obtain ⟨x,hx⟩ : ∃ x:Int,x=(dv ds[j]:Int):=⟨_,rfl⟩
    rw [← hx] at hV hB hO
    rw [← Hs.out] at hV
    clear Hs
    have hx0:0≤x:=by omega
    have hx1:x<16:=by omega
    clear hx hd
    cases big with
    | true =>
     have HN:=hB (Or.inl rfl)
     clear hB hO
     go_wp2_with (go_at_call 166;refine (hV _).mono ?_;rintro e w' ⟨rfl,rfl⟩)
     go_round
     case rel=>exact ⟨j+1,a,true,by omega,rfl,rfl,by go_num,ha0,ha1,HN⟩
     case measure=>simp [intOf];omega
    | false =>
     by_cases hov:9223372036854775807<a * 16+x
     ·have HN:=hB (Or.inr hov)
      have hq:(9223372036854775807-x) / 16<a:=by omega
      clear hB hO
      go_wp2_with (go_at_call 166;refine (hV _).mono ?_;rintro e w' ⟨rfl,rfl⟩)
      go_round
      case rel=>exact ⟨j+1,a,true,by omega,rfl,rfl,by go_num,ha0,ha1,HN⟩
      case measure=>simp [intOf];omega
     ·have HN:=hO rfl (by omega)
      have hq:¬ (9223372036854775807-x) / 16<a:=by omega
      have hov2:a * 16+x≤9223372036854775807:=by omega
      clear hB hO hov
      go_wp2_with (go_at_call 166;refine (hV _).mono ?_;rintro e w' ⟨rfl,rfl⟩)
      go_round
      case rel=>exact ⟨j+1,a * 16+x,false,by omega,rfl,rfl,by go_num,by omega,hov2,HN⟩
      case measure=>simp [intOf];omega
  ·have hjl:ds.length≤j:=by have:=Hlen.out;omega
   cases big with
   | true =>
    have HR:Hid (numD 16 hexB ds t=.bad 3):=numInv_end_big HK.out hjl Hne.out
    clear HK
    go_wp2
    go_ret2
    exact ⟨by rw [HR.out];rfl,rfl⟩
   | false =>
    obtain ⟨v,hv,hR⟩:=numInv_end_ok (t:=t) HK.out hjl Hne.out
    have HR:=Lib.hid hR
    subst hv
    clear HK hR
    go_wp2
    go_ret2
    exact ⟨by rw [HR.out];rfl,rfl⟩
theorem rnum_hex2 (s:ByteArray) (t:List UInt8) (w:World) (hs:s.size≤140737488355328) (h1:2<s.size) (h2:((s[0].toNat:Int) == 48)=true) (hx:((s[1].toNat:Int) == 120)=false) (hy:((s[1].toNat:Int) == 88)=true) :
  Calls Tryz.prog 115 #[.string s] w fun e w'=>e=.returned (.tuple #[.int .i64 (tkN (numD 16 hexB (s.data.toList.drop 2) t)),.int .i64 (tkE (numD 16 hexB (s.data.toList.drop 2) t))])∧w=w':=by
 obtain ⟨ds,hds⟩ : ∃ ds,ds=(s.data.toList.drop 2):=⟨_,rfl⟩
 rw [← hds]
 have hlen:ds.length+2=s.size:=by rw [hds,Lib.size_eq];rw [List.length_drop];have:=Lib.size_eq s;omega
 have hne:ds≠[]:=fun h=>by rw [h] at hlen;simp at hlen;omega
 have hget:∀ j,(h:j<ds.length)→(h2:j+2<s.size)→s[j+2]=ds[j]:=by
  intro j h h2
  rw [← getD_idx s (j+2) h2]
  simp only [hds,List.getD]
  rw [List.getElem_drop];rw [List.getElem?_eq_getElem (by have:=Lib.size_eq s;omega)];simp [Nat.add_comm]
 have Hlen:=Lib.hid hlen
 have Hne:=Lib.hid hne
 have Hget:=Lib.hid hget
 clear hlen hne hget hds
 go_enter Tryz.func115,Tryz.ntmps115
 go_wp2
 go_loop [6,7,8] (fun vn vb vi=>∃ (j:Nat) (a:Int) (big:Bool),j+2≤s.size∧vn=.int .i64 a∧vb=.bool big∧vi=.int .i64 (j+2:Nat)∧0≤a∧a≤9223372036854775807∧Hid (NumInv 16 hexB ds j a big)) (fun _ _ vi=>s.size-(intOf vi).toNat)
 case atStart=>exact ⟨0,0,false,by omega,rfl,rfl,rfl,by decide,by decide,numInv_zero _ _ _⟩
 case round =>
  obtain ⟨j,a,big,hj,rfl,rfl,rfl,ha0,ha1,HK⟩:=hrel
  by_cases hlt:j+2<s.size
  ·have hjl:j<ds.length:=by have:=Hlen.out;omega
   have hsj:=Hget.out j hjl hlt
   have hV:=fun w=>val_any s[j+2] w
   rw [hsj] at hV
   have hval:=val_hex ds[j]
   have Hs:=Lib.hid hsj
   clear hsj
   cases hp:hexB ds[j] with
   | false =>
    rw [hp] at hval
    have hval:valV ds[j] < 0∨16≤valV ds[j]:=hval
    have HR:Hid (numD 16 hexB ds t=.bad 1):=numInv_bad HK.out hjl hp
    clear HK hp
    generalize valV ds[j]=x at *
    rcases hval with hx | hx
    ·rw [← Hs.out] at hV
     go_wp2_with (go_at_call 166;refine (hV _).mono ?_;rintro e w' ⟨rfl,rfl⟩)
     go_ret2
     exact ⟨by rw [HR.out];rfl,rfl⟩
    ·have hx0:¬ x<0:=by omega
     rw [← Hs.out] at hV
     go_wp2_with (go_at_call 166;refine (hV _).mono ?_;rintro e w' ⟨rfl,rfl⟩)
     go_ret2
     exact ⟨by rw [HR.out];rfl,rfl⟩
   | true =>
    rw [hp] at hval
    have hval:valV ds[j]=dv ds[j]∧dv ds[j] < 16:=hval
    have hB:(big=true∨9223372036854775807<a * 16+dv ds[j])→Hid (NumInv 16 hexB ds (j+1) a true):=fun h=>numInv_big (by decide) HK.out hjl hp h
    have hO:big=false→a * 16+dv ds[j]≤9223372036854775807→Hid (NumInv 16 hexB ds (j+1) (a * 16+dv ds[j]) false):=fun h1 h2=>by subst h1;exact numInv_add HK.out hjl hp h2
    clear HK hp
    rw [hval.1] at hV
    have hd:=hval.2
    clear hval
    obtain ⟨x,hx⟩ : ∃ x:Int,x=(dv ds[j]:Int):=⟨_,rfl⟩
    rw [← hx] at hV hB hO
    rw [← Hs.out] at hV
    clear Hs
    have hx0:0≤x:=by omega
    have hx1:x<16:=by omega
    clear hx hd
    cases big with
    | true =>
     have HN:=hB (Or.inl rfl)
     clear hB hO
     go_wp2_with (go_at_call 166;refine (hV _).mono ?_;rintro e w' ⟨rfl,rfl⟩)
     go_round
     case rel=>exact ⟨j+1,a,true,by omega,rfl,rfl,by go_num,ha0,ha1,HN⟩
     case measure=>simp [intOf];omega
    | false =>
     by_cases hov:9223372036854775807<a * 16+x
     ·have HN:=hB (Or.inr hov)
      have hq:(9223372036854775807-x) / 16<a:=by omega
      clear hB hO
      go_wp2_with (go_at_call 166;refine (hV _).mono ?_;rintro e w' ⟨rfl,rfl⟩)
      go_round
      case rel=>exact ⟨j+1,a,true,by omega,rfl,rfl,by go_num,ha0,ha1,HN⟩
      case measure=>simp [intOf];omega
     ·have HN:=hO rfl (by omega)
      have hq:¬ (9223372036854775807-x) / 16<a:=by omega
      have hov2:a * 16+x≤9223372036854775807:=by omega
      clear hB hO hov
      go_wp2_with (go_at_call 166;refine (hV _).mono ?_;rintro e w' ⟨rfl,rfl⟩)
      go_round
      case rel=>exact ⟨j+1,a * 16+x,false,by omega,rfl,rfl,by go_num,by omega,hov2,HN⟩
      case measure=>simp [intOf];omega
  ·have hjl:ds.length≤j:=by have:=Hlen.out;omega
   cases big with
   | true =>
    have HR:Hid (numD 16 hexB ds t=.bad 3):=numInv_end_big HK.out hjl Hne.out
    clear HK
    go_wp2
    go_ret2
    exact ⟨by rw [HR.out];rfl,rfl⟩
   | false =>
    obtain ⟨v,hv,hR⟩:=numInv_end_ok (t:=t) HK.out hjl Hne.out
    have HR:=Lib.hid hR
    subst hv
    clear HK hR
    go_wp2
    go_ret2
    exact ⟨by rw [HR.out];rfl,rfl⟩
theorem rnum_no (s:ByteArray) (w:World) (hs:s.size≤140737488355328) (h1:1<s.size) (h2:((s[0].toNat:Int) == 48)=true)
  (hx:¬ 2<s.size∨(((s[1].toNat:Int) == 120)=false∧((s[1].toNat:Int) == 88)=false)) :
  Calls Tryz.prog 115 #[.string s] w fun e w'=>e=.returned (.tuple #[.int .i64 0,.int .i64 2])∧w=w':=by
 rcases hx with hx | ⟨hx,hy⟩
 ·go_enter Tryz.func115,Tryz.ntmps115
  go_wp2
  go_ret2
  exact ⟨rfl,rfl⟩
 ·by_cases h3:2<s.size
  ·go_enter Tryz.func115,Tryz.ntmps115
   go_wp2
   go_ret2
   exact ⟨rfl,rfl⟩
  ·go_enter Tryz.func115,Tryz.ntmps115
   go_wp2
   go_ret2
   exact ⟨rfl,rfl⟩
end Tk
end
section
open Tk (T4)
def RtD (d:D3) (k:Int):Prop:=∀ s1 x,d=.ok s1 x→pot s1≤k
theorem RtD.bind {d:D3}{f:S3→Mn→R3}{k k':Int}(h:RtD d k) (hf:∀ s1 x,pot s1≤k→Rt (f s1 x) k'):Rt (d.bind f) k':=by
 cases d with
 | ok s1 x=>exact hf s1 x (h s1 x rfl)
 | bad c a=>exact rt_bad _ _ _
 | out=>exact rt_out _
theorem pot_tail_le (s:S3) (O:List Int):pot { s with L:=s.L.tail,O:=O }≤pot s:=by
 obtain ⟨L,N,O'⟩:=s
 cases L with
 | nil=>exact Int.le_refl _
 | cons x L=>simp [pot];omega
theorem rd_named {E:Nat}{typ:Int}{s:S3}{k:Int}(h:pot s≤k+4):RtD (namedF E typ s) k:=by
 unfold namedF
 split
 ·next e =>
  have hp:=pot_tail (E:=E) (s:=s) (O:=s.O) (Or.inr (by rw [e];decide))
  intro s1 x he
  injection he with h1 h2
  subst h1
  omega
 ·intro s1 x he;cases he
theorem rd_decl {E:Nat}{s:S3}{k:Int}(h:pot s≤k+8):RtD (declF E s) k:=by
 unfold declF
 have hw:Rt (wordF E [105,110,116] s) (k+4):=rt_word (by simp) (by omega)
 cases hr:wordF E [105,110,116] s with
 | bad c a=>intro s1 x he;cases he
 | out=>intro s1 x he;cases he
 | ok s1 =>
  have h1:=hw s1 hr
  show RtD (if (pk E s1.L).t=[42] then namedF E 2 { s1 with L:=s1.L.tail } else namedF E 1 s1) k
  have h2:=pot_tail_le s1 s1.O
  split
  ·exact rd_named (by omega)
  ·exact rd_named (by omega)
theorem rt_param {E:Nat}{s:S3}{k:Int}(h:pot s≤k+7):Rt (paramF E s) k:=by
 unfold paramF
 exact (rd_decl (k:=k-1) (by omega)).bind fun s1 x h1=>rt_build (rt_nil (by omega))
theorem rt_expr {E n:Nat}{s:S3}{k:Int}(h:pot s≤k+3):Rt (runJ E n .expr s) k:=runJ_pot E n .expr s k trivial (by simp only [dJ];omega)
theorem rt_local {E n:Nat}{s:S3}{k:Int}(h:pot s≤k+7):Rt (localF E (runJ E n .expr) s) k:=by
 unfold localF
 refine (rd_decl (k:=k-1) (by omega)).bind fun s1 x h1=>rt_build ?_
 simp only [seqF]
 refine Rt.bind (k:=k-1) ?_ fun s2 h2=>rt_ok (by omega)
 unfold initialF
 have h2:=pot_tail_le s1 s1.O
 split
 ·exact rt_expr (by omega)
 ·exact rt_ok (by omega)
theorem rt_effect {E n:Nat}{s:S3}{k:Int}(h:pot s≤k+2):Rt (effectF E (runJ E n .expr) s) k:=by
 unfold effectF
 refine rt_build ?_
 simp only [seqF]
 exact (rt_expr (k:=k-1) (by omega)).bind fun s2 h2=>rt_ok (by omega)
theorem rt_nothing {E:Nat}{s:S3}{k:Int}(h:pot s≤k-1):Rt (nothingF E s) k:=by
 unfold nothingF
 exact rt_build (rt_nil (by omega))
theorem rt_cond {E n:Nat}{s:S3}{k:Int}(h:pot s≤k+11):Rt (conditionF E (runJ E n .expr) s) k:=by
 unfold conditionF
 simp only [seqF]
 exact (rt_word (k:=k+7) (by simp) (by omega)).bind fun s1 h1=>(rt_expr (k:=k+4) (by omega)).bind fun s2 h2=>(rt_word (k:=k) (by simp) (by omega)).bind fun s3 h3=>rt_ok h3
theorem rt_items {E:Nat}{en:List UInt8}{fam:Nat→F3}(he:en≠[]) (hf:∀ m s k,pot s≤k→Rt (fam m s) k):∀ n s k,pot s≤k→Rt (itemsF E en fam n s) k
 | 0,_,_,_=>rt_out _
 | n+1,s,k,h=>by
  show Rt ((fam n s).bind fun s2=>if (pk E s2.L).t=[44] then itemsF E en fam n { s2 with L:=s2.L.tail } else wordF E en s2) k
  refine (hf n s k h).bind fun s2 h2=>?_
  have h3:=pot_tail_le s2 s2.O
  split
  ·exact rt_items he hf n _ k (by omega)
  ·exact rt_word he (by omega)
theorem rt_list {E n:Nat}{o en:List UInt8}{fam:Nat→F3}{s:S3}{k:Int}(ho:o≠[]) (he:en≠[]) (hf:∀ m s k,pot s≤k→Rt (fam m s) k) (h:pot s≤k+4):Rt (listF E o en fam n s) k:=by
 unfold listF
 refine (rt_word (k:=k) ho (by omega)).bind fun s1 h1=>?_
 have h3:=pot_tail_le s1 s1.O
 split
 ·exact rt_ok (by omega)
 ·exact rt_items he hf n _ k h1
theorem rt_values {E n:Nat}{most:Int}{s:S3}{k:Int}(h:pot s≤k):Rt (valuesF E most (fun m=>runJ E m .expr) n s) k:=by
 unfold valuesF
 have h3:=pot_tail_le s s.O
 split
 ·refine (rt_list (k:=k) (by simp) (by simp) (fun m s k h=>rt_expr (by omega)) (by omega)).bind fun s2 h2=>?_
  split
  ·exact rt_bad _ _ _
  ·exact rt_ok h2
 ·exact rt_ok h
theorem rt_array {E n:Nat}{x:Mn}{s:S3}{k:Int}(h:pot s≤k+3):Rt (arrayF E x (fun m=>runJ E m .expr) n s) k:=by
 unfold arrayF
 refine (rt_word (k:=k-1) (by simp) (by omega)).bind fun s1 h1=>?_
 have h3:=pot_tail_le s1 s1.O
 split
 ·split
  ·exact rt_bad _ _ _
  ·refine rt_build ?_
   simp only [seqF]
   exact (rt_word (k:=k-1) (by simp) (by omega)).bind fun s2 h2=>(rt_values (k:=k-1) (by omega)).bind fun s3 h3=>(rt_word (k:=k-1) (by simp) (by omega)).bind fun s4 h4=>rt_ok (by omega)
 ·exact rt_bad _ _ _
def potU:UJob→Int
 | .block=>3
 | .action=>3
 | .body=>2
 | .compound=>3
 | .inSwitch=>3
 | .braces _=>0
 | .global=>3
 | .globals=>0
theorem runU_pot (E:Nat):∀ n j s k,pot s≤k+potU j→Rt (runU E n j s) k:=by
 intro n
 induction n with
 | zero=>intro j s k _;exact rt_out _
 | succ n ih =>
  intro j s k hk
  have ib:∀ {s k},pot s≤k+3→Rt (runU E n .block s) k:=fun h=>ih .block _ _ h
  have ia:∀ {s k},pot s≤k+3→Rt (runU E n .action s) k:=fun h=>ih .action _ _ h
  have iy:∀ {s k},pot s≤k+2→Rt (runU E n .body s) k:=fun h=>ih .body _ _ h
  have ic:∀ {s k},pot s≤k+3→Rt (runU E n .compound s) k:=fun h=>ih .compound _ _ h
  have ir:∀ {sw s k},pot s≤k→Rt (runU E n (.braces sw) s) k:=fun h=>ih (.braces _) _ _ (by simp only [potU];omega)
  have itl:=pot_tail_le s s.O
  show Rt (stepU E n (runU E n) j s) k
  cases j with
  | braces sw =>
   simp only [stepU,potU] at hk ⊢
   split
   ·exact rt_ok (by omega)
   ·refine Rt.bind (k:=k) ?_ fun s1 h1=>ir h1
    cases sw with
    | true=>exact ih .inSwitch _ _ (by simp only [potU];omega)
    | false=>exact ih .action _ _ (by simp only [potU];omega)
  | block =>
   simp only [stepU,potU] at hk ⊢
   refine rt_build ?_
   simp only [seqF]
   exact Rt.bind (k:=k-1) ((rt_word (k:=k-1) (by simp) (by omega)).bind fun s1 h1=>ir h1) fun s2 h2=>rt_ok (by omega)
  | body =>
   simp only [stepU,potU] at hk ⊢
   split
   ·exact ib (by omega)
   ·refine rt_build ?_
    simp only [seqF]
    exact (ia (k:=k-1) (by omega)).bind fun s1 h1=>rt_ok (by omega)
  | action =>
   simp only [stepU,potU] at hk ⊢
   split
   ·exact ib hk
   split
   ·simp only [seqF]
    exact (rt_local (k:=k) (by omega)).bind fun s1 h1=>(rt_word (k:=k) (by simp) (by omega)).bind fun s2 h2=>rt_ok h2
   split
   ·exact ic hk
   split
   ·refine rt_build ?_
    simp only [seqF]
    exact (rt_word (k:=k-1) (by simp) (by omega)).bind fun s1 h1=>(rt_word (k:=k-1) (by simp) (by omega)).bind fun s2 h2=>rt_ok h2
   split
   ·refine rt_build ?_
    simp only [seqF]
    exact (rt_word (k:=k-1) (by simp) (by omega)).bind fun s1 h1=>(rt_word (k:=k-1) (by simp) (by omega)).bind fun s2 h2=>rt_ok h2
   split
   ·refine rt_build ?_
    simp only [seqF]
    refine (rt_word (k:=k-1) (by simp) (by omega)).bind fun s1 h1=>Rt.bind (k:=k-1) ?_ fun s2 h2=>(rt_word (k:=k-1) (by simp) (by omega)).bind fun s3 h3=>rt_ok h3
    unfold toldF
    split
    ·exact rt_ok h1
    ·exact rt_expr (by omega)
   split
   ·simp only [seqF]
    exact (rt_nothing (k:=k+4) (by omega)).bind fun s1 h1=>(rt_word (k:=k) (by simp) (by omega)).bind fun s2 h2=>rt_ok h2
   ·simp only [seqF]
    exact (rt_effect (k:=k+1) (by omega)).bind fun s1 h1=>(rt_word (k:=k) (by simp) (by omega)).bind fun s2 h2=>rt_ok h2
  | compound =>
   simp only [stepU,potU] at hk ⊢
   split
   ·refine rt_build ?_
    simp only [seqF]
    refine (rt_cond (k:=k-4) (by omega)).bind fun s1 h1=>(iy (k:=k-6) (by omega)).bind fun s2 h2=>Rt.bind (k:=k-1) ?_ fun s3 h3=>rt_ok h3
    have:=pot_tail_le s2 s2.O
    split
    ·exact iy (by omega)
    ·exact rt_ok (by omega)
   split
   ·refine rt_build ?_
    simp only [seqF]
    exact (rt_cond (k:=k-4) (by omega)).bind fun s1 h1=>(iy (k:=k-6) (by omega)).bind fun s2 h2=>rt_ok (by omega)
   split
   ·refine rt_build ?_
    simp only [seqF]
    exact (iy (k:=k+1) (by omega)).bind fun s1 h1=>(rt_word (k:=k-3) (by simp) (by omega)).bind fun s2 h2=>(rt_cond (k:=k-3) (by omega)).bind fun s3 h3=>(rt_word (k:=k-3) (by simp) (by omega)).bind fun s4 h4=>rt_ok (by omega)
   split
   ·refine rt_build ?_
    simp only [seqF]
    refine (rt_word (k:=k-1) (by simp) (by omega)).bind fun s1 h1=>Rt.bind (k:=k) ?_ fun s2 h2=>(rt_word (k:=k-4) (by simp) (by omega)).bind fun s3 h3=>Rt.bind (k:=k-3) ?_ fun s4 h4 =>
     (rt_word (k:=k-7) (by simp) (by omega)).bind fun s5 h5=>Rt.bind (k:=k-6) ?_ fun s6 h6=>(rt_word (k:=k-10) (by simp) (by omega)).bind fun s7 h7=>(iy (k:=k-12) (by omega)).bind fun s8 h8=>rt_ok (by omega)
    ·unfold startF
     split
     ·exact rt_local (by omega)
     ·unfold unlessF
      split
      ·exact rt_nothing (by omega)
      ·exact rt_effect (by omega)
    ·unfold unlessF
     split
     ·exact rt_nothing (by omega)
     ·exact rt_expr (by omega)
    ·unfold unlessF
     split
     ·exact rt_nothing (by omega)
     ·exact rt_effect (by omega)
   ·refine rt_build ?_
    simp only [seqF]
    exact (rt_cond (k:=k-4) (by omega)).bind fun s1 h1=>Rt.bind (k:=k-8) ((rt_word (k:=k-8) (by simp) (by omega)).bind fun s2 h2=>ir h2) fun s3 h3=>rt_ok (by omega)
  | inSwitch =>
   simp only [stepU,potU] at hk ⊢
   split
   ·refine rt_build ?_
    simp only [seqF]
    exact (rt_word (k:=k-1) (by simp) (by omega)).bind fun s1 h1=>(rt_expr (k:=k-4) (by omega)).bind fun s2 h2=>(rt_word (k:=k-8) (by simp) (by omega)).bind fun s3 h3=>rt_ok (by omega)
   split
   ·refine rt_build ?_
    simp only [seqF]
    exact (rt_word (k:=k-1) (by simp) (by omega)).bind fun s1 h1=>(rt_word (k:=k-5) (by simp) (by omega)).bind fun s3 h3=>rt_ok (by omega)
   ·exact ia hk
  | global =>
   simp only [stepU,potU] at hk ⊢
   have fn:∀ (x:Mn) (s1:S3),pot s1≤k→Rt (buildF { x with k:=3 } [listF E [40] [41] (fun _=>paramF E) n,runU E n .block] s1) k:=fun x s1 h1=>by
    refine rt_build ?_
    simp only [seqF]
    exact (rt_list (k:=k-4) (by simp) (by simp) (fun m s k h=>rt_param (by omega)) (by omega)).bind fun s2 h2=>(ib (k:=k-7) (by omega)).bind fun s3 h3=>rt_ok (by omega)
   split
   ·exact (rd_named (k:=k) (by omega)).bind fun s1 x h1=>fn x s1 h1
   ·refine (rd_decl (k:=k-5) (by omega)).bind fun s1 x h1=>?_
    split
    ·exact fn x s1 (by omega)
    split
    ·exact rt_array (by omega)
    ·refine rt_build ?_
     simp only [seqF]
     refine Rt.bind (k:=k-5) ?_ fun s2 h2=>(rt_word (k:=k-9) (by simp) (by omega)).bind fun s3 h3=>rt_ok (by omega)
     unfold initialF
     have:=pot_tail_le s1 s1.O
     split
     ·exact rt_expr (by omega)
     ·exact rt_ok h1
  | globals =>
   simp only [stepU,potU] at hk ⊢
   split
   ·exact rt_ok (by omega)
   ·exact Rt.bind (k:=k) (ih .global _ _ (by simp only [potU];omega)) fun s1 h1=>ih .globals _ _ (by simp only [potU];omega)
end
section
namespace Tk
open Go.RowKit
theorem rnum_any (s:ByteArray) (w:World) (hs:s.size≤140737488355328) (h0:s.size≠0) :
  Calls Tryz.prog 115 #[.string s] w fun e w'=>e=.returned (.tuple #[.int .i64 (tkN (numT s.data.toList)),.int .i64 (tkE (numT s.data.toList))])∧w=w':=by
 have hsz:=Lib.size_eq s
 by_cases h1:1<s.size
 ·have g0:=getD_idx s 0 (by omega)
  have g1:=getD_idx s 1 h1
  by_cases h2:s[0]=48
  ·have hp:1<s.data.toList.length∧s.data.toList.getD 0 0=48:=⟨by omega,by rw [g0,h2]⟩
   have e0:((s[0].toNat:Int) == 48)=true:=beq_of (by rw [h2];rfl)
   by_cases hx:s[1]=120∨s[1]=88
   ·have hT:numT s.data.toList=numD 16 hexB (s.data.toList.drop 2) s.data.toList:=by
     unfold numT;rw [if_pos hp,if_neg (by rw [g1];rcases hx with hx | hx <;> rw [hx] <;> decide)]
    by_cases h3:2<s.size
    ·rw [hT]
     by_cases hx':s[1]=120
     ·exact rnum_hex1 s _ w hs h3 e0 (beq_of (by rw [hx'];rfl))
     ·have hy:=hx.resolve_left hx'
      exact rnum_hex2 s _ w hs h3 e0 (u8_ne hx') (beq_of (by rw [hy];rfl))
    ·have hB:numT s.data.toList=.bad 1:=by
      rw [hT];unfold numD;rw [if_pos (Or.inl (List.drop_eq_nil_of_le (by omega)))]
     rw [hB]
     exact rnum_no s w hs h1 e0 (Or.inl h3)
   ·have hB:numT s.data.toList=.bad 1:=by
     unfold numT;rw [if_pos hp,if_pos (by rw [g1];exact ⟨fun h=>hx (Or.inl h),fun h=>hx (Or.inr h)⟩)]
    rw [hB]
    exact rnum_no s w hs h1 e0 (Or.inr ⟨u8_ne fun h=>hx (Or.inl h),u8_ne fun h=>hx (Or.inr h)⟩)
  ·have hT:numT s.data.toList=numD 10 digB s.data.toList s.data.toList:=by
    unfold numT;rw [if_neg (by rw [g0];exact fun h=>h2 h.2)]
   rw [hT]
   have e0:((s[0].toNat:Int) == 48)=false:=u8_ne h2
   by_cases h3:2<s.size
   ·exact rnum_dec2a s _ w hs h1 h3 e0
   ·exact rnum_dec2b s _ w hs h1 h3 e0
 ·have hT:numT s.data.toList=numD 10 digB s.data.toList s.data.toList:=by
   unfold numT;rw [if_neg (by omega)]
  rw [hT]
  exact rnum_dec1 s _ w hs h0 h1
theorem escV_cases (c:UInt8):(c=110∧escV c=10)∨(c=48∧escV c=0)∨(c=92∧escV c=92)∨(c=39∧escV c=39)∨(c≠110∧c≠48∧c≠92∧c≠39∧escV c<0):=by
 have:∀ n:Fin 256,(UInt8.ofNat n.val=110∧escV (UInt8.ofNat n.val)=10)∨(UInt8.ofNat n.val=48∧escV (UInt8.ofNat n.val)=0)∨(UInt8.ofNat n.val=92∧escV (UInt8.ofNat n.val)=92)∨(UInt8.ofNat n.val=39∧escV (UInt8.ofNat n.val)=39)∨(UInt8.ofNat n.val≠110∧UInt8.ofNat n.val≠48∧UInt8.ofNat n.val≠92∧UInt8.ofNat n.val≠39∧escV (UInt8.ofNat n.val)<0):=by decide +kernel
 have h2:=this ⟨c.toNat,c.toNat_lt⟩
 simpa using h2
def QPost (r:Tk) (w:World) (e:Ending) (w':World):Prop:=e=.returned (.tuple #[.int .i64 (tkN r),.int .i64 (tkL r)])∧w=w'
theorem qpost {r r':Tk}{w:World}(h:Hid (r=r')):QPost r w (.returned (.tuple #[.int .i64 (tkN r'),.int .i64 (tkL r')])) w:=by rw [h.out];exact ⟨rfl,rfl⟩
theorem quo_any (s:ByteArray) (w:World) (hs:s.size≤140737488355328) :
  Calls Tryz.prog 117 #[.string s] w (QPost (chrT s.data.toList) w):=by
 obtain ⟨r,hr⟩:=exE (chrT s.data.toList)
 rw [← hr]
 unfold chrT at hr
 by_cases h3:s.size<3
 ·rw [if_pos (by have:=Lib.size_eq s;omega)] at hr
  have HR:=Lib.hid hr
  have h4:¬ 2<s.size:=by omega
  have h5:¬ 3<s.size:=by omega
  clear hr
  go_enter Tryz.func117,Tryz.ntmps117
  go_wp2
  go_ret2
  exact qpost HR
 ·rw [if_neg (by have:=Lib.size_eq s;omega),getD_idx s 1 (by omega),getD_idx s 2 (by omega)] at hr
  have h2s:2<s.size:=by omega
  have hb1:s[1].toNat<256:=s[1].toNat_lt
  have hb2:s[2].toNat<256:=s[2].toNat_lt
  by_cases h92:s[1]=92
  ·rw [if_pos h92] at hr
   have e1:((s[1].toNat:Int) == 92)=true:=beq_of (by rw [h92];rfl)
   have n1:=u8_nb e1
   have v1:(s[1].toNat:Int)=92:=by rw [h92];rfl
   have V1:(32:Int)≤s[1].toNat:=by omega
   have V2:(s[1].toNat:Int)<127:=by omega
   clear v1 h92
   have eG:∀ (b:Bool),((s[2].toNat:Int) == 39)=b→True:=fun _ _=>trivial
   by_cases h4:s.size<4
   ·rw [if_pos (Or.inr (Or.inl (by have:=Lib.size_eq s;omega)))] at hr
    have HR:=Lib.hid hr
    have h5:¬ 3<s.size:=by omega
    clear hr
    cases e2:((s[2].toNat:Int) == 39) <;>
    ·go_enter Tryz.func117,Tryz.ntmps117
     go_wp2
     go_ret2
     exact qpost HR
   ·have h5:3<s.size:=by omega
    rw [getD_idx s 3 (by omega)] at hr
    by_cases h39:s[3]=39
    ·have e3:((s[3].toNat:Int) == 39)=true:=beq_of (by rw [h39];rfl)
     have hl4:¬ s.data.toList.length<4:=by have:=Lib.size_eq s;omega
     rcases escV_cases s[2] with ⟨hc,hv⟩ | ⟨hc,hv⟩ | ⟨hc,hv⟩ | ⟨hc,hv⟩ | ⟨hc1,hc2,hc3,hc4,hv⟩
     ·rw [hv,if_neg (by rintro (h | h | h);exact absurd h (by decide);exact hl4 h;exact h h39)] at hr
      have HR:=Lib.hid hr
      have g1:((s[2].toNat:Int) == 110)=true:=beq_of (by rw [hc];rfl)
      have g4:((s[2].toNat:Int) == 39)=false:=beq_of_ne (by rw [hc];decide)
      clear hr hc h39
      go_enter Tryz.func117,Tryz.ntmps117
      go_wp2
      go_ret2
      exact qpost HR
     ·rw [hv,if_neg (by rintro (h | h | h);exact absurd h (by decide);exact hl4 h;exact h h39)] at hr
      have HR:=Lib.hid hr
      have g1:((s[2].toNat:Int) == 110)=false:=beq_of_ne (by rw [hc];decide)
      have g2:((s[2].toNat:Int) == 48)=true:=beq_of (by rw [hc];rfl)
      have g4:((s[2].toNat:Int) == 39)=false:=beq_of_ne (by rw [hc];decide)
      clear hr hc h39
      go_enter Tryz.func117,Tryz.ntmps117
      go_wp2
      go_ret2
      exact qpost HR
     ·rw [hv,if_neg (by rintro (h | h | h);exact absurd h (by decide);exact hl4 h;exact h h39)] at hr
      have HR:=Lib.hid hr
      have g1:((s[2].toNat:Int) == 110)=false:=beq_of_ne (by rw [hc];decide)
      have g2:((s[2].toNat:Int) == 48)=false:=beq_of_ne (by rw [hc];decide)
      have g3:((s[2].toNat:Int) == 92)=true:=beq_of (by rw [hc];rfl)
      have g4:((s[2].toNat:Int) == 39)=false:=beq_of_ne (by rw [hc];decide)
      have gv:(s[2].toNat:Int)=92:=by rw [hc];rfl
      clear hr hc h39
      go_enter Tryz.func117,Tryz.ntmps117
      go_wp2
      go_ret2
      exact qpost HR
     ·rw [hv,if_neg (by rintro (h | h | h);exact absurd h (by decide);exact hl4 h;exact h h39)] at hr
      have HR:=Lib.hid hr
      have g1:((s[2].toNat:Int) == 110)=false:=beq_of_ne (by rw [hc];decide)
      have g2:((s[2].toNat:Int) == 48)=false:=beq_of_ne (by rw [hc];decide)
      have g3:((s[2].toNat:Int) == 92)=false:=beq_of_ne (by rw [hc];decide)
      have g4:((s[2].toNat:Int) == 39)=true:=beq_of (by rw [hc];rfl)
      have gv:(s[2].toNat:Int)=39:=by rw [hc];rfl
      clear hr hc h39
      go_enter Tryz.func117,Tryz.ntmps117
      go_wp2
      go_ret2
      exact qpost HR
     ·rw [if_pos (Or.inl hv)] at hr
      have HR:=Lib.hid hr
      have g1:((s[2].toNat:Int) == 110)=false:=u8_ne hc1
      have g2:((s[2].toNat:Int) == 48)=false:=u8_ne hc2
      have g3:((s[2].toNat:Int) == 92)=false:=u8_ne hc3
      have g4:((s[2].toNat:Int) == 39)=false:=u8_ne hc4
      clear hr hc1 hc2 hc3 hc4 h39 hv
      go_enter Tryz.func117,Tryz.ntmps117
      go_wp2
      go_ret2
      exact qpost HR
    ·rw [if_pos (Or.inr (Or.inr h39))] at hr
     have HR:=Lib.hid hr
     have e3:((s[3].toNat:Int) == 39)=false:=u8_ne h39
     clear hr h39
     cases e2:((s[2].toNat:Int) == 39) <;>
     ·go_enter Tryz.func117,Tryz.ntmps117
      go_wp2
      go_ret2
      exact qpost HR
  ·rw [if_neg h92] at hr
   have e1:((s[1].toNat:Int) == 92)=false:=u8_ne h92
   have n1:=u8_nb e1
   cases hp:plainB s[1] with
   | true =>
    rw [hp,if_pos rfl] at hr
    have hpl:32≤s[1].toNat∧s[1].toNat≤126∧s[1].toNat≠39∧s[1].toNat≠92:=by simpa [plainB] using hp
    have V1:(32:Int)≤s[1].toNat:=by omega
    have V2:(s[1].toNat:Int)<127:=by omega
    have e4:((s[1].toNat:Int) == 39)=false:=beq_of_ne (by omega)
    have n4:=u8_nb e4
    clear hpl hp h92
    by_cases h39:s[2]=39
    ·rw [if_neg (by simp [h39])] at hr
     have HR:=Lib.hid hr
     have e2:((s[2].toNat:Int) == 39)=true:=beq_of (by rw [h39];rfl)
     clear hr h39
     go_enter Tryz.func117,Tryz.ntmps117
     go_wp2
     go_ret2
     exact qpost HR
    ·rw [if_pos h39] at hr
     have HR:=Lib.hid hr
     have e2:((s[2].toNat:Int) == 39)=false:=u8_ne h39
     clear hr h39
     by_cases h5:3<s.size
     ·cases e3:((s[3].toNat:Int) == 39) <;>
      ·go_enter Tryz.func117,Tryz.ntmps117
       go_wp2
       go_ret2
       exact qpost HR
     ·go_enter Tryz.func117,Tryz.ntmps117
      go_wp2
      go_ret2
      exact qpost HR
   | false =>
    rw [hp,if_neg (by decide)] at hr
    have HR:=Lib.hid hr
    have hpl:s[1].toNat<32∨(32≤s[1].toNat∧127≤s[1].toNat)∨(32≤s[1].toNat∧s[1].toNat<127∧s[1].toNat=39):=by
     have h92':s[1].toNat≠92:=fun h=>h92 (UInt8.toNat_inj.1 h)
     simp [plainB] at hp
     omega
    clear hr hp h92
    have hq:∀ b:Bool,b=true∨b=false:=by decide
    by_cases h5:3<s.size
    ·cases e3:((s[3].toNat:Int) == 39) <;> cases e2:((s[2].toNat:Int) == 39) <;> rcases hpl with h | ⟨h,h'⟩ | ⟨h,h',h''⟩ <;>
     ·(try have e4:((s[1].toNat:Int) == 39)=true:=beq_of (by omega))
      (try have n4:=u8_nb e4)
      (try have V1:(32:Int)≤s[1].toNat:=by omega)
      (try have V2:¬ (s[1].toNat:Int)<127:=by omega)
      (try clear h'')
      go_enter Tryz.func117,Tryz.ntmps117
      go_wp2
      go_ret2
      exact qpost HR
    ·cases e2:((s[2].toNat:Int) == 39) <;> rcases hpl with h | ⟨h,h'⟩ | ⟨h,h',h''⟩ <;>
     ·(try have e4:((s[1].toNat:Int) == 39)=true:=beq_of (by omega))
      (try have n4:=u8_nb e4)
      (try have V1:(32:Int)≤s[1].toNat:=by omega)
      (try have V2:¬ (s[1].toNat:Int)<127:=by omega)
      (try clear h'')
      go_enter Tryz.func117,Tryz.ntmps117
      go_wp2
      go_ret2
      exact qpost HR
end Tk
end
end Go.Proofs.YtbjacclfhgnffaaGreatDoor
