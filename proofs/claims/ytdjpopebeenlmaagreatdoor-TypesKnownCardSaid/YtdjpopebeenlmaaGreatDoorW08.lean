/-
  Joined texts of this claim: TkJ, Qf, Ua, Pz, Pu, TkK.
-/
import Derived.Test.YtdjpopebeenlmaaGreatDoorW00
import Derived.Test.YtdjpopebeenlmaaGreatDoorW07
import Derived.Test.YtdjpopebeenlmaaGreatDoorW01
set_option maxHeartbeats 40000000
set_option maxRecDepth 100000
set_option linter.unusedVariables false
set_option linter.unusedSimpArgs false
namespace Go.Proofs.YtdjpopebeenlmaaGreatDoor
section
namespace Tk
open Go.RowKit

theorem gb_set6 {x B:Nat}{a w:World}(h:GB x B a w) (a0 a1 a2 a3 a4 a5:Value):GB x B a ((((((w.setCell ⟨B,0,none⟩ a0).setCell ⟨B,1,none⟩ a1).setCell ⟨B,2,none⟩ a2).setCell ⟨B,3,none⟩ a3).setCell ⟨B+1,0,none⟩ a4).setCell ⟨B+1,1,none⟩ a5) :=
  (((((h.setCell (p:=⟨B,0,none⟩) (Or.inr (Nat.le_refl _)) a0).setCell (p:=⟨B,1,none⟩) (Or.inr (Nat.le_refl _)) a1).setCell (p:=⟨B,2,none⟩) (Or.inr (Nat.le_refl _)) a2).setCell (p:=⟨B,3,none⟩) (Or.inr (Nat.le_refl _)) a3).setCell (p:=⟨B+1,0,none⟩) (Or.inr (Nat.le_succ _)) a4).setCell (p:=⟨B+1,1,none⟩) (Or.inr (Nat.le_succ _)) a5
theorem heap_set6 {B k:Nat}(w:World) (h0:k≠B) (h1:k≠B+1) (a0 a1 a2 a3 a4 a5:Value):((((((w.setCell ⟨B,0,none⟩ a0).setCell ⟨B,1,none⟩ a1).setCell ⟨B,2,none⟩ a2).setCell ⟨B,3,none⟩ a3).setCell ⟨B+1,0,none⟩ a4).setCell ⟨B+1,1,none⟩ a5).heap[k]? = w.heap[k]?:=by
  rw [Below.heap_setCell _ _ _ _ (by simpa using h1),Below.heap_setCell _ _ _ _ (by simpa using h1),Below.heap_setCell _ _ _ _ (by simpa using h0),Below.heap_setCell _ _ _ _ (by simpa using h0),Below.heap_setCell _ _ _ _ (by simpa using h0),Below.heap_setCell _ _ _ _ (by simpa using h0)]
theorem size_set6 {B:Nat}(w:World) (a0 a1 a2 a3 a4 a5:Value):((((((w.setCell ⟨B,0,none⟩ a0).setCell ⟨B,1,none⟩ a1).setCell ⟨B,2,none⟩ a2).setCell ⟨B,3,none⟩ a3).setCell ⟨B+1,0,none⟩ a4).setCell ⟨B+1,1,none⟩ a5).heap.size=w.heap.size:=by simp [World.setCell]

set_option maxHeartbeats 4000000 in
theorem take_any (s:ByteArray) (k bt ba:Nat) (w:World) (hs:s.size≤2000) (hk:k≤s.size) (te:TypeId) (pe:Value) (hv:w.cell? ⟨4,0,none⟩=some (.iface te pe))
    (hT:w.heap[bt]? = some (.cells #[.string s] 9 (0,0))) (hA:w.heap[ba]? = some (.cells #[.int .i64 k] 3 (0,0))) :
    Calls Tryz.prog 176 #[.pointer (some ⟨bt,0,none⟩),.pointer (some ⟨ba,0,none⟩)] w (TakePost (s.data.toList.drop k) k ba w):=by
  have hbt:=lt_of_block hT
  have hba:=lt_of_block hA
  have cT:=cell_of_one hT
  have cA:=cell_of_one hA
  have fA:=free_of_one hA
  have hF:=fun w hv=>fst_any (s.extract k s.size) w (by rw [extE_size];omega) te pe hv
  rw [extE_data] at hF
  have hsz:=Lib.hid (Lib.size_eq s)
  have HA:=Lib.hid hA
  clear hT hA
  go_enter Tryz.func176,Tryz.ntmps176
  go_wp2_with (go_at_call 110;refine (hF _ (hv_alloc (hv_alloc hv _) _)).mono ?_)
  rintro e w2 ⟨rfl,hb⟩
  have hA2:w2.heap[ba]? = some (.cells #[.int .i64 (k:Int)] 3 (0,0)):=by
    rw [hb.block ba (by simp;omega),Below.heap_alloc _ _ _ (by simp;omega),Below.heap_alloc _ _ _ (by omega)];exact HA.out
  have cA2:=cell_of_one hA2
  have fA2:=free_of_one hA2
  have HA2:=Lib.hid hA2
  clear hA2
  have hz:=hb.size
  simp at hz
  have h2:w2.heap[w.heap.size]? = some (.cells #[.int .i64 0,.string ⟨#[]⟩,.int .i64 0,.int .i64 0] 58 (0,0)):=by
    rw [hb.block w.heap.size (by simp;omega),Below.heap_alloc _ _ _ (by simp)];exact heap_alloc_new w _
  have h3:w2.heap[w.heap.size+1]? = some (.cells #[.int .i64 0,.int .i64 0] 26 (0,0)):=by
    rw [hb.block (w.heap.size+1) (by simp)]
    have:=heap_alloc_new (w.alloc (.cells #[.int .i64 0,.string ⟨#[]⟩,.int .i64 0,.int .i64 0] 58)) (.cells #[.int .i64 0,.int .i64 0] 26)
    simpa using this
  have c20:w2.cell? ⟨w.heap.size,0,none⟩=some (.int .i64 0):=by simp [World.cell?,h2]
  have c21:w2.cell? ⟨w.heap.size,1,none⟩=some (.string ⟨#[]⟩):=by simp [World.cell?,h2]
  have c22:w2.cell? ⟨w.heap.size,2,none⟩=some (.int .i64 0):=by simp [World.cell?,h2]
  have c23:w2.cell? ⟨w.heap.size,3,none⟩=some (.int .i64 0):=by simp [World.cell?,h2]
  have f20:w2.frozen? ⟨w.heap.size,0,none⟩=false:=by simp [World.frozen?,h2]
  have f21:w2.frozen? ⟨w.heap.size,1,none⟩=false:=by simp [World.frozen?,h2]
  have f22:w2.frozen? ⟨w.heap.size,2,none⟩=false:=by simp [World.frozen?,h2]
  have f23:w2.frozen? ⟨w.heap.size,3,none⟩=false:=by simp [World.frozen?,h2]
  have c30:w2.cell? ⟨w.heap.size+1,0,none⟩=some (.int .i64 0):=by simp [World.cell?,h3]
  have c31:w2.cell? ⟨w.heap.size+1,1,none⟩=some (.int .i64 0):=by simp [World.cell?,h3]
  have f30:w2.frozen? ⟨w.heap.size+1,0,none⟩=false:=by simp [World.frozen?,h3]
  have f31:w2.frozen? ⟨w.heap.size+1,1,none⟩=false:=by simp [World.frozen?,h3]
  have l1:w.heap.size<w2.heap.size:=by omega
  have l2:w.heap.size+1<w2.heap.size:=by omega
  have l3:ba<w2.heap.size:=by omega
  have l4:bt<w2.heap.size:=by omega
  have l5:w.heap.size≠ba:=by omega
  have l6:w.heap.size+1≠ba:=by omega
  have H2:=Lib.hid h2
  have H3:=Lib.hid h3
  clear h2 h3
  have hG2:GB ba w.heap.size w w2:=(((GB.refl _ _ _).alloc (Nat.le_refl _) _).alloc (by simp) _).below hb (by simp;omega)
  cases hr:fstT (s.data.toList.drop k) with
  | bad c =>
    have hc0:(c:Int)≠0:=by have:=fstT_bad hr;omega
    have hc1:((c:Int) != 0)=true:=by simpa using hc0
    have Hr:=Lib.hid hr
    clear hr
    simp only [tkV,tkCode]
    go_wp2
    go_region
    all_goals go_wp2
    refine bodyPost_ret (v:=.tuple #[.agg #[.int .i64 0,.string ⟨#[]⟩,.int .i64 0,.int .i64 0],.agg #[.int .i64 c,.int .i64 k]]) (by simp [results,Tryz.results176,go_sem,c20,c21,c22,c23,c30,c31,l1,l2]) rfl ?_
    refine ⟨GB.grown (GB.drew (GB.alloc (gb_set6 hG2 _ _ _ _ _ _) (by rw [size_set6];omega) _)),Or.inl ⟨c,Hr.out,rfl,?_⟩⟩
    exact (Below.heap_alloc _ _ _ (by rw [size_set6];omega)).trans ((heap_set6 w2 (Ne.symm l5) (Ne.symm l6) _ _ _ _ _ _).trans HA2.out)
  | tok kd n v =>
    obtain ⟨hn1,hn2⟩:=fstT_tok hr
    have Hr:=Lib.hid hr
    clear hr
    simp only [tkV,tkCode]
    obtain ⟨x,hx⟩ : ∃ x,x=bstr ((s.data.toList.drop k).take n):=⟨_,rfl⟩
    rw [← hx]
    have hxn:x.size=n:=by rw [hx,Lib.size_eq];show (List.take n _).length=n;rw [List.length_take,Nat.min_eq_left hn2]
    have hks:k+n≤s.size:=by rw [List.length_drop] at hn2;have:=hsz.out;omega
    have hkx:k+x.size≤2000:=by omega
    have Hx:=Lib.hid hx
    have Hxn:=Lib.hid hxn
    clear hx hxn hn1 hn2
    go_wp2_with (go_at_call 177;refine (clone_any _ _ (by omega)).mono ?_)
    rintro e w4 ⟨rfl,hb4⟩
    have h2':w4.heap[w.heap.size]? = some (.cells #[.int .i64 0,.string ⟨#[]⟩,.int .i64 0,.int .i64 0] 58 (0,0)):=by
      rw [hb4.block _ (by simp [World.setCell];omega),Below.heap_alloc _ _ _ (by simp [World.setCell];omega),Below.heap_setCell _ _ _ _ (by simp;omega)];exact H2.out
    have h3':w4.heap[w.heap.size+1]? = some (.cells #[.int .i64 0,.int .i64 0] 26 (0,0)):=by
      rw [hb4.block _ (by simp [World.setCell];omega),Below.heap_alloc _ _ _ (by simp [World.setCell];omega),Below.heap_setCell _ _ _ _ (by simp;omega)];exact H3.out
    have h4':w4.heap[w2.heap.size]? = some (.cells #[.int .i64 kd,.string x,.int .i64 v,.int .i64 k] 58 (0,0)):=by
      rw [hb4.block _ (by simp [World.setCell])]
      have:=heap_alloc_new (w2.setCell ⟨ba,0,none⟩ (.int .i64 (k+x.size))) (.cells #[.int .i64 kd,.string x,.int .i64 v,.int .i64 k] 58)
      simpa [World.setCell] using this
    have hA4:w4.heap[ba]? = some (.cells #[.int .i64 ((k+n:Nat):Int)] 3 (0,0)):=by
      rw [hb4.block _ (by simp [World.setCell];omega),Below.heap_alloc _ _ _ (by simp [World.setCell];omega),one_setCell HA2.out,Hxn.out]
      rfl
    have hz4:=hb4.size
    simp [World.setCell] at hz4
    have hG4:GB ba w.heap.size w w4:=((hG2.setCell (p:=⟨ba,0,none⟩) (Or.inl rfl) _).alloc (by simp [World.setCell];omega) _).below hb4 (by simp [World.setCell];omega)
    have d20:w4.cell? ⟨w.heap.size,0,none⟩=some (.int .i64 0):=by simp [World.cell?,h2']
    have d21:w4.cell? ⟨w.heap.size,1,none⟩=some (.string ⟨#[]⟩):=by simp [World.cell?,h2']
    have d22:w4.cell? ⟨w.heap.size,2,none⟩=some (.int .i64 0):=by simp [World.cell?,h2']
    have d23:w4.cell? ⟨w.heap.size,3,none⟩=some (.int .i64 0):=by simp [World.cell?,h2']
    have e20:w4.frozen? ⟨w.heap.size,0,none⟩=false:=by simp [World.frozen?,h2']
    have e21:w4.frozen? ⟨w.heap.size,1,none⟩=false:=by simp [World.frozen?,h2']
    have e22:w4.frozen? ⟨w.heap.size,2,none⟩=false:=by simp [World.frozen?,h2']
    have e23:w4.frozen? ⟨w.heap.size,3,none⟩=false:=by simp [World.frozen?,h2']
    have d30:w4.cell? ⟨w.heap.size+1,0,none⟩=some (.int .i64 0):=by simp [World.cell?,h3']
    have d31:w4.cell? ⟨w.heap.size+1,1,none⟩=some (.int .i64 0):=by simp [World.cell?,h3']
    have e30:w4.frozen? ⟨w.heap.size+1,0,none⟩=false:=by simp [World.frozen?,h3']
    have e31:w4.frozen? ⟨w.heap.size+1,1,none⟩=false:=by simp [World.frozen?,h3']
    have d40:w4.cell? ⟨w2.heap.size,0,none⟩=some (.int .i64 kd):=by simp [World.cell?,h4']
    have d41:w4.cell? ⟨w2.heap.size,1,none⟩=some (.string x):=by simp [World.cell?,h4']
    have d42:w4.cell? ⟨w2.heap.size,2,none⟩=some (.int .i64 v):=by simp [World.cell?,h4']
    have d43:w4.cell? ⟨w2.heap.size,3,none⟩=some (.int .i64 k):=by simp [World.cell?,h4']
    have e41:w4.frozen? ⟨w2.heap.size,1,none⟩=false:=by simp [World.frozen?,h4']
    have HA4:=Lib.hid hA4
    have l9:ba≠(⟨w2.heap.size,1,none⟩ : Addr).block:=Nat.ne_of_lt l3
    clear h2' h3' h4' hA4 c20 c21 c22 c23 f20 f21 f22 f23 c30 c31 f30 f31 hb hb4
    go_wp2
    refine bodyPost_ret (v:=.tuple #[.agg #[.int .i64 kd,.string x,.int .i64 v,.int .i64 k],.agg #[.int .i64 0,.int .i64 0]]) (by simp [results,Tryz.results176,go_sem,d20,d21,d22,d23,d30,d31]) rfl ?_
    refine ⟨GB.grown (gb_set6 (hG4.setCell (p:=⟨w2.heap.size,1,none⟩) (Or.inr (Nat.le_of_lt l1)) _) _ _ _ _ _ _),Or.inr ⟨kd,n,v,Hr.out,by rw [Hx.out],?_⟩⟩
    exact (heap_set6 _ (Ne.symm l5) (Ne.symm l6) _ _ _ _ _ _).trans ((Below.heap_setCell _ _ _ _ l9).trans HA4.out)
end Tk
end
section
open Go.RowKit
open Tk (T4 bstr)

theorem bstr_list (t:List UInt8):(bstr t).toList=t:=by rw [Lib.toList_data];rfl
theorem ret_int {k:IntKind}{a b:Int}(h:a=b):Ending.returned (.int k a)=.returned (.int k b):=by rw [h]
theorem ret_bool {a b:Bool}(h:a=b):Ending.returned (.bool a)=.returned (.bool b):=by rw [h]

set_option maxHeartbeats 4000000 in
set_option maxRecDepth 100000 in
theorem level_any (t:List UInt8) (w:World) :
    Calls Tryz.prog 128 #[.string (bstr t)] w fun e w'=>e=.returned (.int .i64 (levelT t))∧w=w':=by
  have hl:Hid ((bstr t).toList=t):=Lib.hid (bstr_list t)
  generalize bstr t=s at *
  go_enter Tryz.func128,Tryz.ntmps128
  go_wp2
  all_goals go_ret
  all_goals (have h2:=hl.out;clear hl;exact ⟨ret_int (by subst h2;go_light;simp_all [levelT]),rfl⟩)

set_option maxHeartbeats 4000000 in
set_option maxRecDepth 100000 in
theorem pref_any (t:List UInt8) (w:World) :
    Calls Tryz.prog 188 #[.string (bstr t)] w fun e w'=>e=.returned (.int .i64 (prefT t))∧w=w':=by
  have hl:Hid ((bstr t).toList=t):=Lib.hid (bstr_list t)
  generalize bstr t=s at *
  go_enter Tryz.func188,Tryz.ntmps188
  go_wp2
  all_goals go_ret
  all_goals (have h2:=hl.out;clear hl;exact ⟨ret_int (by subst h2;go_light;simp_all [prefT]),rfl⟩)

set_option maxHeartbeats 4000000 in
set_option maxRecDepth 100000 in
theorem isSet_any (t:List UInt8) (w:World) :
    Calls Tryz.prog 78 #[.string (bstr t)] w fun e w'=>e=.returned (.bool (setT t))∧w=w':=by
  have hl:Hid ((bstr t).toList=t):=Lib.hid (bstr_list t)
  generalize bstr t=s at *
  go_enter Tryz.func78,Tryz.ntmps78
  go_wp2
  all_goals go_ret
  all_goals (have h2:=hl.out;clear hl;exact ⟨ret_bool (by subst h2;go_light;simp_all [setT]),rfl⟩)

set_option maxHeartbeats 5000000 in
theorem pairK_any (l:Nat) (w:World) (h:l≤1000) :
    Calls Tryz.prog 130 #[.int .i64 l] w fun e w'=>e=.returned (.int .i64 (pairK l))∧w=w':=by
  by_cases h2:l=2
  · subst h2
    go_enter Tryz.func130,Tryz.ntmps130
    go_wp2
    go_ret
    exact ⟨rfl,rfl⟩
  · by_cases h3:l=3
    · subst h3
      go_enter Tryz.func130,Tryz.ntmps130
      go_wp2
      go_ret
      exact ⟨rfl,rfl⟩
    · have e2:((l:Int) == 2)=false:=by simp;omega
      have e3:((l:Int) == 3)=false:=by simp;omega
      have hr:Hid (pairK l=36):=by show _=_;unfold pairK;rw [if_neg (by omega)]
      clear h2 h3
      go_enter Tryz.func130,Tryz.ntmps130
      go_wp2
      go_ret
      exact ⟨by rw [hr.out];rfl,rfl⟩
end
section
open Tk (T4)

inductive D3 where
  | ok (s:S3) (x:Mn)
  | bad (c a:Int)
  | out
def D3.bind (d:D3) (f:S3→Mn→R3):R3:=match d with | .ok s x=>f s x | .bad c a=>.bad c a | .out=>.out
def namedF (E:Nat) (typ:Int) (s:S3):D3:=if (pk E s.L).k=1 then .ok { s with L:=s.L.tail } (mk 0 (pk E s.L).t typ (pk E s.L).a) else .bad 1 (pk E s.L).a
def declF (E:Nat) (s:S3):D3:=match wordF E [105,110,116] s with
  | .ok s1=>if (pk E s1.L).t=[42] then namedF E 2 { s1 with L:=s1.L.tail } else namedF E 1 s1
  | .bad c a=>.bad c a
  | .out=>.out
def initialF (E:Nat) (ex:F3):F3:=fun s=>if (pk E s.L).t=[61] then ex { s with L:=s.L.tail } else .ok s
def paramF (E:Nat):F3:=fun s=>(declF E s).bind fun s1 x=>buildF { x with k:=4 } [] s1
def localF (E:Nat) (ex:F3):F3:=fun s=>(declF E s).bind fun s1 x=>buildF { x with k:=12 } [initialF E ex] s1
def effectF (E:Nat) (ex:F3):F3:=fun s=>buildF (mk 13 [] 0 (pk E s.L).a) [ex] s
def nothingF (E:Nat):F3:=fun s=>buildF (mk 24 [] 0 (pk E s.L).a) [] s
def conditionF (E:Nat) (ex:F3):F3:=seqF [wordF E [40],ex,wordF E [41]]
def toldF (E:Nat) (ex:F3):F3:=fun s=>if (pk E s.L).t=[59] then .ok s else ex s
def unlessF (E:Nat) (e:List UInt8) (f:F3):F3:=fun s=>if (pk E s.L).t=e then nothingF E s else f s
def startF (E:Nat) (ex:F3):F3:=fun s=>if (pk E s.L).t=[105,110,116] then localF E ex s else unlessF E [59] (effectF E ex) s
def itemsF (E:Nat) (en:List UInt8) (fam:Nat→F3):Nat→F3
  | 0=>fun _=>.out
  | m+1=>fun s=>(fam m s).bind fun s2=>if (pk E s2.L).t=[44] then itemsF E en fam m { s2 with L:=s2.L.tail } else wordF E en s2
def listF (E:Nat) (o en:List UInt8) (fam:Nat→F3) (n:Nat):F3:=fun s=>(wordF E o s).bind fun s1=>if (pk E s1.L).t=en then .ok { s1 with L:=s1.L.tail } else itemsF E en fam n s1
def bracesF (E:Nat) (fam:Nat→F3):Nat→F3
  | 0=>fun _=>.out
  | m+1=>fun s=>if (pk E s.L).t=[125] then .ok { s with L:=s.L.tail } else (fam m s).bind (bracesF E fam m)
def bracedF (E:Nat) (fam:Nat→F3) (n:Nat):F3:=fun s=>(wordF E [123] s).bind (bracesF E fam n)
def valuesF (E:Nat) (most:Int) (fam:Nat→F3) (n:Nat):F3:=fun s =>
  if (pk E s.L).t=[61] then (listF E [123] [125] fam n { s with L:=s.L.tail }).bind fun s2=>if most<(s2.O.length:Int)-s.O.length then .bad 9 (pk E s.L.tail).a else .ok s2 else .ok s
def arrayF (E:Nat) (x:Mn) (fam:Nat→F3) (n:Nat):F3:=fun s=>(wordF E [91] s).bind fun s1 =>
  if (pk E s1.L).k=2 then
    if (pk E s1.L).v<1∨200<(pk E s1.L).v then .bad 3 (pk E s1.L).a
    else buildF { x with k:=2,n:=3,z:=(pk E s1.L).v } [wordF E [93],valuesF E (pk E s1.L).v fam n,wordF E [59]] { s1 with L:=s1.L.tail }
  else .bad 1 (pk E s1.L).a

inductive UJob where
  | block
  | action
  | body
  | compound
  | inSwitch
  | braces (sw:Bool)
  | global
  | globals
def itemU (sw:Bool):UJob:=if sw then .inSwitch else .action
def stepU (E n:Nat) (rec:UJob→F3):UJob→F3
  | .braces sw=>fun s=>if (pk E s.L).t=[125] then .ok { s with L:=s.L.tail } else (rec (itemU sw) s).bind (rec (.braces sw))
  | .block=>fun s=>buildF (mk 11 [] 0 (pk E s.L).a) [fun s=>(wordF E [123] s).bind (rec (.braces false))] s
  | .body=>fun s=>if (pk E s.L).t=[123] then rec .block s else buildF (mk 11 [] 0 (pk E s.L).a) [rec .action] s
  | .action=>fun s =>
      let t:=(pk E s.L).t
      let a:=(pk E s.L).a
      let ex:=runJ E n .expr
      if t=[123] then rec .block s
      else if t=[105,110,116] then seqF [localF E ex,wordF E [59]] s
      else if t=[105,102]∨t=[119,104,105,108,101]∨t=[100,111]∨t=[102,111,114]∨t=[115,119,105,116,99,104] then rec .compound s
      else if t=[98,114,101,97,107] then buildF (mk 21 [] 0 a) [wordF E [98,114,101,97,107],wordF E [59]] s
      else if t=[99,111,110,116,105,110,117,101] then buildF (mk 22 [] 0 a) [wordF E [99,111,110,116,105,110,117,101],wordF E [59]] s
      else if t=[114,101,116,117,114,110] then buildF (mk 23 [] 0 a) [wordF E [114,101,116,117,114,110],toldF E ex,wordF E [59]] s
      else if t=[59] then seqF [nothingF E,wordF E [59]] s
      else seqF [effectF E ex,wordF E [59]] s
  | .compound=>fun s =>
      let t:=(pk E s.L).t
      let a:=(pk E s.L).a
      let ex:=runJ E n .expr
      let s1:S3:={ s with L:=s.L.tail }
      let els:F3:=fun s=>if (pk E s.L).t=[101,108,115,101] then rec .body { s with L:=s.L.tail } else .ok s
      if t=[105,102] then buildF (mk 14 [] 0 a) [conditionF E ex,rec .body,els] s1
      else if t=[119,104,105,108,101] then buildF (mk 15 [] 0 a) [conditionF E ex,rec .body] s1
      else if t=[100,111] then buildF (mk 16 [] 0 a) [rec .body,wordF E [119,104,105,108,101],conditionF E ex,wordF E [59]] s1
      else if t=[102,111,114] then buildF (mk 17 [] 0 a) [wordF E [40],startF E ex,wordF E [59],unlessF E [59] ex,wordF E [59],unlessF E [41] (effectF E ex),wordF E [41],rec .body] s1
      else buildF (mk 18 [] 0 a) [conditionF E ex,fun s=>(wordF E [123] s).bind (rec (.braces true))] s1
  | .inSwitch=>fun s =>
      let t:=(pk E s.L).t
      let a:=(pk E s.L).a
      if t=[99,97,115,101] then buildF (mk 19 [] 0 a) [wordF E [99,97,115,101],runJ E n .expr,wordF E [58]] s
      else if t=[100,101,102,97,117,108,116] then buildF (mk 20 [] 0 a) [wordF E [100,101,102,97,117,108,116],wordF E [58]] s
      else rec .action s
  | .global=>fun s =>
      let fn:Mn→F3:=fun x=>buildF { x with k:=3 } [listF E [40] [41] (fun _=>paramF E) n,rec .block]
      if (pk E s.L).t=[118,111,105,100] then (namedF E 0 { s with L:=s.L.tail }).bind fun s1 x=>fn x s1
      else (declF E s).bind fun s1 x =>
        if (pk E s1.L).t=[40] then fn x s1
        else if (pk E s1.L).t=[91]∧x.n=1 then arrayF E x (fun m=>runJ E m .expr) n s1
        else buildF { x with k:=2 } [initialF E (runJ E n .expr),wordF E [59]] s1
  | .globals=>fun s=>if s.L=[] then .ok s else (rec .global s).bind (rec .globals)
def runU (E:Nat):Nat→UJob→F3
  | 0=>fun _ _=>.out
  | n+1=>stepU E n (runU E n)
def unitF (E n:Nat):F3:=buildF (mk 1 [] 0 0) [runU E n .globals]
theorem braces_eq (E:Nat) (sw:Bool):∀ n,runU E n (.braces sw)=bracesF E (fun m=>runU E m (itemU sw)) n
  | 0=>rfl
  | n+1=>by
    funext s
    show (if (pk E s.L).t=[125] then R3.ok { s with L:=s.L.tail } else (runU E n (itemU sw) s).bind (runU E n (.braces sw)))=_
    rw [braces_eq E sw n];rfl
end
section
open Tk (T4)

def Nz (r:R3):Prop:=∀ c a,r=.bad c a→c≠0
def NzF (f:F3):Prop:=∀ s,Nz (f s)
theorem nz_ok (s:S3):Nz (.ok s):=fun c a h=>by cases h
theorem nz_out:Nz .out:=fun c a h=>by cases h
theorem nz_bad {c a:Int}(hc:c≠0):Nz (.bad c a):=fun c' a' h=>by cases h;exact hc
theorem Nz.bind {r:R3}{f:F3}(h:Nz r) (k:NzF f):Nz (r.bind f):=by
  cases r with
  | ok s=>exact k s
  | bad c a=>exact fun c' a' e=>by cases e;exact h c a rfl
  | out=>exact nz_out
theorem Nz.ite {p:Prop}[Decidable p] {x y:R3}(h:Nz x) (k:Nz y):Nz (if p then x else y):=by split <;> assumption
theorem nz_seq:∀ (fs:List F3),(∀ f,f ∈ fs→NzF f)→NzF (seqF fs)
  | [],_=>fun s=>nz_ok s
  | f :: fs,h=>fun s=>Nz.bind (h f (by simp) s) (nz_seq fs (fun g hg=>h g (by simp [hg])))
theorem nz_wrong (E:Nat):NzF (wrongF E):=fun s=>nz_bad (by decide)
theorem nz_word (E:Nat) (t:List UInt8):NzF (wordF E t):=fun s=>Nz.ite (nz_ok _) (nz_wrong E s)
theorem nz_add (x:Mn) (m:Nat):NzF (addF x m):=fun s=>Nz.ite nz_out (nz_ok _)
theorem nz_ext (m:Nat) (x:Mn) {fs:List F3}(h:∀ f,f ∈ fs→NzF f):NzF (extF m x fs):=fun s=>Nz.bind (nz_seq fs h s) (nz_add x m)
theorem nz_build (x:Mn) {fs:List F3}(h:∀ f,f ∈ fs→NzF f):NzF (buildF x fs):=fun s=>nz_ext _ x h s
theorem nz1 {f:F3}(h:NzF f):∀ g,g ∈ [f]→NzF g:=fun g hg=>by simp at hg;subst hg;exact h
theorem nz2 {f g:F3}(h:NzF f) (k:NzF g):∀ x,x ∈ [f,g]→NzF x:=fun x hx=>by
  simp at hx;rcases hx with rfl | rfl <;> assumption
theorem nz3 {f g i:F3}(h:NzF f) (k:NzF g) (l:NzF i):∀ x,x ∈ [f,g,i]→NzF x:=fun x hx=>by
  simp at hx;rcases hx with rfl | rfl | rfl <;> assumption
theorem nz4 {f g i j:F3}(h:NzF f) (k:NzF g) (l:NzF i) (m:NzF j):∀ x,x ∈ [f,g,i,j]→NzF x:=fun x hx=>by
  simp at hx;rcases hx with rfl | rfl | rfl | rfl <;> assumption
theorem nz_nil:∀ g:F3,g ∈ ([]:List F3)→NzF g:=fun g hg=>by simp at hg
theorem nz_step (E:Nat) {rec:Job→F3}(h:∀ j,NzF (rec j)):∀ j,NzF (stepJ E rec j):=by
  intro j
  cases j with
  | expr=>exact fun s=>(h _ s).bind fun s1=>Nz.ite (nz_ext _ _ (nz4 (nz_word _ _) (h _) (nz_word _ _) (h _)) _) (Nz.ite (nz_ext _ _ (nz2 (nz_word _ _) (h _)) _) (nz_ok _))
  | pairs low=>exact fun s=>Nz.ite nz_out ((h _ s).bind (h _))
  | pairsL low mark=>exact fun s=>Nz.ite ((nz_ext _ _ (nz1 (h _)) _).bind (h _)) (nz_ok _)
  | prefixed=>exact fun s=>Nz.ite (h _ s) (nz_build _ (nz2 (nz_word _ _) (h _)) _)
  | postfixed=>exact fun s=>(h _ s).bind (h _)
  | postL mark=>exact fun s=>Nz.ite ((nz_ext _ _ (nz3 (nz_word _ _) (h _) (nz_word _ _)) _).bind (h _)) (Nz.ite ((nz_add _ _ _).bind (h _)) (nz_ok _))
  | primary=>exact fun s=>Nz.ite (nz_build _ nz_nil _) (Nz.ite (Nz.ite (nz_build _ (nz1 (h _)) _) (nz_build _ nz_nil _)) (nz_seq _ (nz3 (nz_word _ _) (h _) (nz_word _ _)) _))
  | list o e i=>exact fun s=>(nz_word _ _ s).bind fun s1=>Nz.ite (nz_ok _) (h _ s1)
  | items e i=>exact fun s=>(h _ s).bind fun s1=>Nz.ite (h _ _) (nz_word _ _ s1)
theorem nz_run (E:Nat):∀ n j,NzF (runJ E n j)
  | 0,_=>fun _=>nz_out
  | n+1,j=>nz_step E (nz_run E n) j

def NzD (d:D3):Prop:=∀ c a,d=.bad c a→c≠0
theorem NzD.bind {d:D3}{f:S3→Mn→R3}(h:NzD d) (k:∀ s x,Nz (f s x)):Nz (d.bind f):=by
  cases d with
  | ok s x=>exact k s x
  | bad c a=>exact fun c' a' e=>by cases e;exact h c a rfl
  | out=>exact nz_out
theorem nz_named (E:Nat) (typ:Int) (s:S3):NzD (namedF E typ s):=fun c a h=>by
  unfold namedF at h;split at h <;> cases h;decide
theorem nz_decl (E:Nat) (s:S3):NzD (declF E s):=fun c a h=>by
  unfold declF at h
  have hw:=nz_word E [105,110,116] s
  split at h
  · split at h
    · exact nz_named _ _ _ c a h
    · exact nz_named _ _ _ c a h
  · rename_i e;cases h;exact hw _ _ e
  · cases h
theorem nz_initial (E:Nat) {ex:F3}(h:NzF ex):NzF (initialF E ex):=fun s=>Nz.ite (h _) (nz_ok _)
theorem nz_param (E:Nat):NzF (paramF E):=fun s=>(nz_decl E s).bind fun s1 x=>nz_build _ nz_nil _
theorem nz_local (E:Nat) {ex:F3}(h:NzF ex):NzF (localF E ex):=fun s=>(nz_decl E s).bind fun s1 x=>nz_build _ (nz1 (nz_initial E h)) _
theorem nz_effect (E:Nat) {ex:F3}(h:NzF ex):NzF (effectF E ex):=fun s=>nz_build _ (nz1 h) _
theorem nz_nothing (E:Nat):NzF (nothingF E):=fun s=>nz_build _ nz_nil _
theorem nz_condition (E:Nat) {ex:F3}(h:NzF ex):NzF (conditionF E ex):=nz_seq _ (nz3 (nz_word _ _) h (nz_word _ _))
theorem nz_told (E:Nat) {ex:F3}(h:NzF ex):NzF (toldF E ex):=fun s=>Nz.ite (nz_ok _) (h _)
theorem nz_unless (E:Nat) (e:List UInt8) {f:F3}(h:NzF f):NzF (unlessF E e f):=fun s=>Nz.ite (nz_nothing E s) (h _)
theorem nz_start (E:Nat) {ex:F3}(h:NzF ex):NzF (startF E ex):=fun s=>Nz.ite (nz_local E h _) (nz_unless E _ (nz_effect E h) _)
theorem nz_items (E:Nat) (en:List UInt8) {fam:Nat→F3}(h:∀ m,NzF (fam m)):∀ n,NzF (itemsF E en fam n)
  | 0=>fun _=>nz_out
  | m+1=>fun s=>(h m s).bind fun s2=>Nz.ite (nz_items E en h m _) (nz_word _ _ _)
theorem nz_list (E:Nat) (o en:List UInt8) {fam:Nat→F3}(h:∀ m,NzF (fam m)) (n:Nat):NzF (listF E o en fam n):=fun s=>(nz_word _ _ s).bind fun s1=>Nz.ite (nz_ok _) (nz_items E en h n _)
theorem nz_values (E:Nat) (most:Int) {fam:Nat→F3}(h:∀ m,NzF (fam m)) (n:Nat):NzF (valuesF E most fam n):=fun s =>
  Nz.ite ((nz_list E _ _ h n _).bind fun s2=>Nz.ite (nz_bad (by decide)) (nz_ok _)) (nz_ok _)
theorem nz_array (E:Nat) (x:Mn) {fam:Nat→F3}(h:∀ m,NzF (fam m)) (n:Nat):NzF (arrayF E x fam n):=fun s=>(nz_word _ _ s).bind fun s1 =>
  Nz.ite (Nz.ite (nz_bad (by decide)) (nz_build _ (nz3 (nz_word _ _) (nz_values E _ h n) (nz_word _ _)) _)) (nz_bad (by decide))
theorem nz_else (E:Nat) {f:F3}(h:NzF f):NzF (fun s=>if (pk E s.L).t=[101,108,115,101] then f { s with L:=s.L.tail } else .ok s):=fun s=>Nz.ite (h _) (nz_ok _)
theorem nz8 {a b c d e f g h:F3}(h1:NzF a) (h2:NzF b) (h3:NzF c) (h4:NzF d) (h5:NzF e) (h6:NzF f) (h7:NzF g) (h8:NzF h):∀ x,x ∈ [a,b,c,d,e,f,g,h]→NzF x:=fun x hx=>by
  simp at hx;rcases hx with rfl | rfl | rfl | rfl | rfl | rfl | rfl | rfl <;> assumption
theorem nz_stepU (E n:Nat) {rec:UJob→F3}(h:∀ j,NzF (rec j)):∀ j,NzF (stepU E n rec j):=by
  have hx:=fun n=>nz_run E n .expr
  have hw:=nz_word E
  have hf:∀ x:Mn,NzF (fun s=>buildF { x with k:=3 } [listF E [40] [41] (fun _=>paramF E) n,rec .block] s):=fun x s=>nz_build _ (nz2 (nz_list E _ _ (fun _=>nz_param E) n) (h _)) _
  intro j
  cases j with
  | braces sw=>exact fun s=>Nz.ite (nz_ok _) ((h _ s).bind (h _))
  | block=>exact fun s=>nz_build _ (nz1 fun s=>(hw _ s).bind (h _)) _
  | body=>exact fun s=>Nz.ite (h _ _) (nz_build _ (nz1 (h _)) _)
  | action=>exact fun s=>Nz.ite (h _ _) (Nz.ite (nz_seq _ (nz2 (nz_local E (hx n)) (hw _)) _) (Nz.ite (h _ _) (Nz.ite (nz_build _ (nz2 (hw _) (hw _)) _) (Nz.ite (nz_build _ (nz2 (hw _) (hw _)) _)
      (Nz.ite (nz_build _ (nz3 (hw _) (nz_told E (hx n)) (hw _)) _) (Nz.ite (nz_seq _ (nz2 (nz_nothing E) (hw _)) _) (nz_seq _ (nz2 (nz_effect E (hx n)) (hw _)) _)))))))
  | compound=>exact fun s=>Nz.ite (nz_build _ (nz3 (nz_condition E (hx n)) (h _) (nz_else E (h _))) _) (Nz.ite (nz_build _ (nz2 (nz_condition E (hx n)) (h _)) _) (Nz.ite (nz_build _ (nz4 (h _) (hw _) (nz_condition E (hx n)) (hw _)) _)
      (Nz.ite (nz_build _ (nz8 (hw _) (nz_start E (hx n)) (hw _) (nz_unless E _ (hx n)) (hw _) (nz_unless E _ (nz_effect E (hx n))) (hw _) (h _)) _) (nz_build _ (nz2 (nz_condition E (hx n)) (fun s=>(hw _ s).bind (h _))) _))))
  | inSwitch=>exact fun s=>Nz.ite (nz_build _ (nz3 (hw _) (hx n) (hw _)) _) (Nz.ite (nz_build _ (nz2 (hw _) (hw _)) _) (h _ _))
  | global=>exact fun s=>Nz.ite ((nz_named E _ _).bind fun s1 x=>hf x s1) ((nz_decl E s).bind fun s1 x=>Nz.ite (hf x s1) (Nz.ite (nz_array E x (fun m=>hx m) n _) (nz_build _ (nz2 (nz_initial E (hx n)) (hw _)) _)))
  | globals=>exact fun s=>Nz.ite (nz_ok _) ((h _ s).bind (h _))
theorem nz_runU (E:Nat):∀ n j,NzF (runU E n j)
  | 0,_=>fun _=>nz_out
  | n+1,j=>nz_stepU E n (nz_runU E n) j
theorem nz_unit (E n:Nat):NzF (unitF E n):=nz_build _ (nz1 (nz_runU E n _))
end
section
open Tk (T4)

/-- so many words at least have gone, and the nodes have not grown by more than four a word -/
structure Part3 (c:Nat) (d:Int) (s s':S3):Prop where
  l:s'.L.length+c≤s.L.length
  n:(s'.N.length:Int)+4 * s'.L.length+d≤s.N.length+4 * s.L.length
  g:s.N.length≤s'.N.length
  o:∃ l,s'.O=s.O ++ l
theorem Part3.trans {a c:Nat}{b d:Int}{s1 s2 s3:S3}(h:Part3 a b s1 s2) (k:Part3 c d s2 s3):Part3 (a+c) (b+d) s1 s3:=by
  obtain ⟨h1,h2,h3,l,h4⟩:=h
  obtain ⟨k1,k2,k3,m,k4⟩:=k
  exact ⟨by omega,by omega,by omega,l ++ m,by rw [k4,h4];simp⟩
theorem Part3.weak {a c:Nat}{b d:Int}{s1 s2:S3}(h:Part3 a b s1 s2) (h1:c≤a) (h2:d≤b):Part3 c d s1 s2 :=
  ⟨by have:=h.l;omega,by have:=h.n;omega,h.g,h.o⟩
theorem Part3.refl (s:S3):Part3 0 0 s s:=⟨Nat.le_refl _,by omega,Nat.le_refl _,[],by simp⟩
def sz4 (s:S3):Int:=s.N.length+4 * s.L.length
/-- ends well at so many words, or goes wrong -/
def Q3 (K:Nat) (B:Int) (f:F3) (c:Nat) (d:Int):Prop:=∀ s:S3,s.L.length≤K→sz4 s≤B→Fine (f s) (Part3 c d s)
theorem Q3.weak {K K':Nat}{B B':Int}{f:F3}{c c':Nat}{d d':Int}(h:Q3 K B f c d) (hK:K'≤K) (hB:B'≤B) (hc:c'≤c) (hd:d'≤d):Q3 K' B' f c' d':=fun s h1 h2=>(h s (Nat.le_trans h1 hK) (by omega)).mono fun _ k=>k.weak hc hd
theorem Q3.low {K:Nat}{B:Int}{f:F3}{c c':Nat}{d d':Int}(h:Q3 K B f c d) (hc:c'≤c) (hd:d'≤d):Q3 K B f c' d':=h.weak (Nat.le_refl _) (Int.le_refl _) hc hd
theorem sz_le {c:Nat}{d B:Int}{s s':S3}(h:Part3 c d s s') (hs:sz4 s≤B):sz4 s'≤B-d:=by
  have h1:=h.n
  unfold sz4 at hs ⊢;omega
theorem tail_part {s:S3}(h:s.L≠[]):Part3 1 4 s { s with L:=s.L.tail }:=by
  have h1:=tail_lt h
  exact ⟨by show s.L.tail.length+1≤_;omega,by show (s.N.length:Int)+4 * s.L.tail.length+4≤_;omega,Nat.le_refl _,[],by simp⟩
theorem Q3.word {K E:Nat}{B:Int}{t:List UInt8}(ht:t≠[]):Q3 K B (wordF E t) 1 4:=fun s _ _=>by
  refine (word_fine s ht).mono fun s1 h=>?_
  obtain ⟨rfl,h⟩:=h
  exact tail_part (fun e=>by rw [e] at h;simp at h)
/-- behind a word that was taken -/
theorem Q3.tail {K:Nat}{B:Int}{f:F3}{c:Nat}{d:Int}{s:S3}(h:1≤K→Q3 (K-1) (B-4) f c d) (h1:s.L.length≤K) (h2:sz4 s≤B) (hn:s.L≠[]):Fine (f { s with L:=s.L.tail }) (Part3 (1+c) (4+d) s):=by
  have hp:=tail_part hn
  have h3:=hp.l
  have h4:=tail_lt hn
  exact (h (by omega) _ (by omega) (sz_le hp h2)).mono fun s2 q=>hp.trans q
/-- takes a word and goes on, or does the other -/
theorem Q3.took {K E:Nat}{B:Int}{t:List UInt8}(ht:t≠[]) {f g:F3}{c:Nat}{d:Int}(h:1≤K→Q3 (K-1) (B-4) f c d) {c2:Nat}{d2:Int}(k:Q3 K B g c2 d2) (h1:c2≤c+1) (h2:d2≤d+4):Q3 K B (fun s=>if (pk E s.L).t=t then f { s with L:=s.L.tail } else g s) c2 d2:=fun s q1 q2=>by
  show Fine (if (pk E s.L).t=t then _ else _) _
  by_cases hp:(pk E s.L).t=t
  · rw [if_pos hp]
    exact (Q3.tail h q1 q2 (pk_pos (E:=E) (by rw [hp];exact ht))).mono fun s2 q=>q.weak (by omega) (by omega)
  · rw [if_neg hp];exact k s q1 q2
theorem Q3.ok {K:Nat}{B:Int}:Q3 K B .ok 0 0:=fun s _ _=>Part3.refl s
theorem Q3.bind {K:Nat}{B:Int}{f g:F3}{c1 c2:Nat}{d1 d2:Int}(h:Q3 K B f c1 d1) (k:c1≤K→Q3 (K-c1) (B-d1) g c2 d2):Q3 K B (fun s=>(f s).bind g) (c1+c2) (d1+d2):=fun s h1 h2=>by
  refine Fine.bind (h s h1 h2) fun s1 p=>?_
  have hl:=p.l
  exact (k (by omega) s1 (by omega) (sz_le p h2)).mono fun s2 q=>p.trans q
section small
variable {K E n:Nat}{B:Int}
theorem items_all {en:List UInt8}(hen:en≠[]) {f:F3}{c:Nat}{d:Int}(hc:1≤c) (hd : -4≤d) (hf:∀ K B,B≤4500000→Q3 K B f c d):∀ n K (B:Int),B≤4500000→K<n→Q3 K B (itemsF E en (fun _=>f) n) 1 0:=by
  intro n
  induction n with
  | zero=>intro K B _ h;omega
  | succ n ih =>
    intro K B hB h
    have h1:Q3 K B (fun s=>(f s).bind fun s2=>if (pk E s2.L).t=[44] then itemsF E en (fun _=>f) n { s2 with L:=s2.L.tail } else wordF E en s2) (c+0) (d+4):=by
      refine (hf K B hB).bind (c2:=0) (d2:=4) (g:=fun s2=>if (pk E s2.L).t=[44] then itemsF E en (fun _=>f) n { s2 with L:=s2.L.tail } else wordF E en s2) fun hK=>?_
      exact Q3.took (by simp) (fun hK2=>ih (K-c-1) _ (by omega) (by omega)) ((Q3.word hen).low (by omega) (by omega)) (by omega) (by omega)
    exact h1.low (by omega) (by omega)
theorem list_all {o en:List UInt8}(ho:o≠[]) (hen:en≠[]) {f:F3}{c:Nat}{d:Int}(hc:1≤c) (hd : -4≤d) (hf:∀ K B,B≤4500000→Q3 K B f c d) (hB:B≤4500000) (h:K≤n):Q3 K B (listF E o en (fun _=>f) n) 1 4 :=
  ((Q3.word ho).bind (c2:=0) (d2:=0) (g:=fun s1=>if (pk E s1.L).t=en then .ok { s1 with L:=s1.L.tail } else itemsF E en (fun _=>f) n s1) fun _ =>
    Q3.took hen (f:=.ok) (fun _=>Q3.ok) ((items_all hen hc hd hf n _ _ (by omega) (by omega)).low (by omega) (by omega)) (by omega) (by omega)).low (by omega) (by omega)
end small
end
section
namespace Tk
open Go.RowKit

set_option maxHeartbeats 1000000 in
theorem cutter_any (s:ByteArray) (w:World) :
    Calls Tryz.prog 124 #[.string s] w fun e w'=>e=.returned (.tuple #[.func (.func 174) #[] #[.pointer (some ⟨w.heap.size,0,none⟩),.pointer (some ⟨w.heap.size+1,0,none⟩)],.func (.func 176) #[] #[.pointer (some ⟨w.heap.size,0,none⟩),.pointer (some ⟨w.heap.size+1,0,none⟩)]]) ∧
      w' = (w.alloc (.cells #[.string s] 9)).alloc (.cells #[.int .i64 0] 3):=by
  go_enter Tryz.func124,Tryz.ntmps124
  go_wp2
  go_ret2
  exact ⟨rfl,rfl⟩

def cells4 (t:T4):List Value:=[.int .i64 t.k,.string (bstr t.t),.int .i64 t.v,.int .i64 t.a]
def rowOf (l:List T4):List Value:=l.flatMap cells4
theorem rowOf_snoc (l:List T4) (t:T4):rowOf (l ++ [t])=rowOf l ++ cells4 t:=by simp [rowOf]
def ScOut:SR→Value→Int→Int→Nat→World→Prop
  | .ok l,v,c,a,B,w=>c=0∧a=0∧w.ownsRow B 58 4 v l.length (rowOf l)
  | .bad c' a',v,c,a,_,_=>c=c'∧a=a'∧v=.slice none 0 0
def ScPost (l:List UInt8) (w:World) (e:Ending) (w':World):Prop :=
  Below w.heap.size w w'∧∃ v c a,e=.returned (.tuple #[v,.agg #[.int .i64 c,.int .i64 a]]) ∧
    ((2000<l.length∧v=.slice none 0 0∧c=2∧a=0)∨(l.length≤2000∧∃ R,Scans 0 l [] R∧ScOut R v c a w.heap.size w'))
theorem ownsRow_base {w:World}{b b':Nat}{e:TypeId}{size:Nat}{v:Value}{n:Nat}{xs:List Value}(h:w.ownsRow b e size v n xs) (hb:b'≤b):w.ownsRow b' e size v n xs:=by
  obtain ⟨h1,h2⟩:=h
  refine ⟨h1,?_⟩
  rcases h2 with h2 | ⟨g,cap,cur,hv,hg,r⟩
  · exact Or.inl h2
  · exact Or.inr ⟨g,cap,cur,hv,Nat.le_trans hb hg,r⟩
theorem info36:(Tryz.prog.info? 58).map (fun i=>(i.zero,i.size,i.bytes))=some (some (.agg #[.int .i64 0,.string ⟨#[]⟩,.int .i64 0,.int .i64 0]),4,40):=by kernel_rfl
def lenOf:Value→Nat | .slice _ n _=>n | _=>0
/-- what holds at the head of each round of Scan -/
structure ScInv (s:ByteArray) (w:World) (B:Nat) (v:Value) (wr:World) (k:Nat) (acc:List T4):Prop where
  kle:k≤s.size
  res:wr.heap[B]? = some (.cells #[.int .i64 0,.int .i64 0] 26 (0,0))
  txt:wr.heap[B+1]? = some (.cells #[.string s] 9 (0,0))
  at':wr.heap[B+1+1]? = some (.cells #[.int .i64 k] 3 (0,0))
  own:wr.ownsRow (B+1+1+1) 58 4 v acc.length (rowOf acc)
  below:Below B w wr
  few:acc.length≤800
  rest:∀ r,Scans k (s.data.toList.drop k) acc r→Scans 0 s.data.toList [] r
theorem scInv_len {s:ByteArray}{w:World}{B:Nat}{v:Value}{wr:World}{k:Nat}{acc:List T4}(h:ScInv s w B v wr k acc):∃ p cap,v=.slice p acc.length cap∧acc.length≤800:=by
  rcases h.own.2 with ⟨rfl,h0⟩ | ⟨g,cap,cur,hv,_⟩
  · rw [h0];exact ⟨none,0,rfl,by omega⟩
  · exact ⟨_,_,hv,h.few⟩

theorem grown_keep {w w':World}{x b:Nat}{o:Obj}(h:w.grownBy w' (some x)) (hb:w.heap[b]? = some o) (hx:b≠x):w'.heap[b]? = some o :=
  (h.block b (lt_of_block hb) (fun e=>hx (Option.some.inj e))).trans hb
theorem own_keep {w w':World}{x B e size n:Nat}{v:Value}{xs:List Value}(h:w.ownsRow B e size v n xs) (hg:w.grownBy w' (some x)) (hx:x<B):w'.ownsRow B e size v n xs:=by
  refine h.kept hg ?_
  cases hv:v.ownBlock with
  | none=>exact Or.inl rfl
  | some g =>
    have:=(h.lt g hv).1
    exact Or.inr (fun e=>by cases e;omega)

theorem news_cells (w:World) (xs:List Value) (t:TypeId) (n:Nat) (hn:n=w.heap.size):∀ j u,xs[j]? = some u→(w.alloc (.cells xs.toArray t)).cell? ((⟨n,0,none⟩ : Addr).add j)=some u:=by
  intro j u h
  subst hn
  have:((⟨w.heap.size,0,none⟩ : Addr).add j)=⟨w.heap.size,j,none⟩:=by unfold Addr.add;split <;> simp_all
  rw [this,World.cell?_alloc_new]
  simpa using h
theorem below_res {B:Nat}{a w2:World}(h:Below B a w2) (hB:B≤w2.heap.size) (x y:Value) (o:Obj):Below B a (((w2.setCell ⟨B,0,none⟩ x).setCell ⟨B,1,none⟩ y).alloc o):=by
  refine Below.alloc ((h.setCell (p:=⟨B,0,none⟩) (Nat.le_refl _) x).setCell (p:=⟨B,1,none⟩) (Nat.le_refl _) y) ?_ o
  simp [World.setCell];exact hB
theorem own_res {B b e size n:Nat}{w2:World}{v:Value}{xs:List Value}(h:w2.ownsRow b e size v n xs) (hb:B<b) (x y:Value) (o:Obj):(((w2.setCell ⟨B,0,none⟩ x).setCell ⟨B,1,none⟩ y).alloc o).ownsRow b e size v n xs :=
  (ownsRow_setCell_below (ownsRow_setCell_below h (a:=⟨B,0,none⟩) hb x) (a:=⟨B,1,none⟩) hb y).alloc o

set_option maxHeartbeats 8000000 in
set_option maxRecDepth 100000 in
theorem scanIn (s:ByteArray) (w:World) (hs:s.size≤2000) (hsh:w.ShapedOpen Tryz.prog) (te:TypeId) (pe:Value) (hv:w.cell? ⟨4,0,none⟩=some (.iface te pe)) :
    Calls Tryz.prog 69 #[.string s] w (ScPost s.data.toList w):=by
  have hsz:=Lib.hid (Lib.size_eq s)
  have hng:¬ 2000<s.size:=by omega
  go_enter Tryz.func69,Tryz.ntmps69
  go_wp2_with (go_at_call 124;refine (cutter_any _ _).mono ?_;rintro e w' ⟨rfl,rfl⟩)
  go_loopw [6] (fun v wr=>∃ k acc,ScInv s w w.heap.size v wr k acc) (fun v _=>801-lenOf v)
  case atStart =>
    refine ⟨0,[],Nat.zero_le _,?_,?_,?_,World.ownsRow_nil _ _ _ _,?_,by simp,fun r h=>h⟩
    · rw [Below.heap_alloc _ _ _ (by simp;omega),Below.heap_alloc _ _ _ (by simp)];exact heap_alloc_new w _
    · rw [Below.heap_alloc _ _ _ (by simp)]
      have:=heap_alloc_new (w.alloc (.cells #[.int .i64 0,.int .i64 0] 26)) (.cells #[.string s] 9)
      simpa using this
    · have:=heap_alloc_new ((w.alloc (.cells #[.int .i64 0,.int .i64 0] 26)).alloc (.cells #[.string s] 9)) (.cells #[.int .i64 0] 3)
      simpa using this
    · exact (((Below.refl _ _).alloc (Nat.le_refl _) _).alloc (by simp) _).alloc (by simp;omega) _
  case round =>
    obtain ⟨k,acc,hI⟩:=hrel
    obtain ⟨p,cap,rfl,hfew⟩:=scInv_len hI
    have hsh2:wr.ShapedOpen Tryz.prog:=sh_below hsh hI.below
    have hv2:wr.cell? ⟨4,0,none⟩=some (.iface te pe):=(hI.below.cell (p:=⟨4,0,none⟩) (Lib.lt_of_cell hv)).trans hv
    have hSk:=skip_any s k _ _ wr hs hI.kle hsh2 hI.txt hI.at'
    have HI:=Lib.hid hI
    clear hI
    go_wp2_with (go_at_call 174;refine hSk.mono ?_)
    rintro e w2 ⟨n,o,rfl,hg,hgr,hA2⟩
    have hkn:k+n≤s.size:=by have:=hg.1;rw [List.length_drop] at this;have:=hsz.out;have:=HI.out.kle;omega
    have hT2:=grown_keep hgr HI.out.txt (by omega)
    have hR2:=grown_keep hgr HI.out.res (by omega)
    have hO2:=own_keep HI.out.own hgr (by omega)
    have hB2:Below w.heap.size w w2:=HI.out.below.grown hgr HI.out.below.size (fun k h=>by cases h;omega)
    have c0:w2.cell? ⟨w.heap.size,0,none⟩=some (.int .i64 0):=by simp [World.cell?,hR2]
    have c1:w2.cell? ⟨w.heap.size,1,none⟩=some (.int .i64 0):=by simp [World.cell?,hR2]
    have f0:w2.frozen? ⟨w.heap.size,0,none⟩=false:=by simp [World.frozen?,hR2]
    have f1:w2.frozen? ⟨w.heap.size,1,none⟩=false:=by simp [World.frozen?,hR2]
    have lR:=lt_of_block hR2
    have HT2:=Lib.hid hT2
    have HR2:=Lib.hid hR2
    have HA2:=Lib.hid hA2
    have HO2:=Lib.hid hO2
    have HG:=Lib.hid hg
    have HB2:=Lib.hid hB2
    clear hT2 hR2 hA2 hO2 hg hgr hB2 hSk
    cases o with
    | true =>
      simp only [if_true]
      go_wp2
      go_region
      all_goals go_wp2
      refine bodyPost_ret (v:=.tuple #[.slice none 0 0,.agg #[.int .i64 1,.int .i64 (k+n)]]) (by simp [results,Tryz.results69,go_sem,c0,c1,lR]) rfl ?_
      refine ⟨?_,_,_,_,rfl,Or.inr ⟨by have:=hsz.out;omega,.bad 1 (k+n),HI.out.rest _ (HG.out.2.1 _ _ _ (.opens (HG.out.2.2.1 rfl))),rfl,by simp,rfl⟩⟩
      exact (below_res HB2.out (Nat.le_of_lt lR) _ _ _).drew
    | false =>
      simp only [Bool.false_eq_true,if_false]
      by_cases hend:k+n=s.size
      · have hend2:((k:Int)+n == s.size)=true:=beq_of (by omega)
        go_wp2
        refine bodyPost_ret (v:=.tuple #[.slice p acc.length cap,.agg #[.int .i64 0,.int .i64 0]]) (by simp [results,Tryz.results69,go_sem,c0,c1,lR]) rfl ?_
        refine ⟨?_,_,_,_,rfl,Or.inr ⟨by have:=hsz.out;omega,.ok acc,HI.out.rest _ (HG.out.2.1 _ _ _ (by rw [List.drop_drop,List.drop_eq_nil_of_le (by have:=hsz.out;omega)];exact .done _ _)),rfl,rfl,?_⟩⟩
        · exact below_res HB2.out (Nat.le_of_lt lR) _ _ _
        · exact ownsRow_base (own_res HO2.out (by omega) _ _ _) (by omega)
      · have hend2:((k:Int)+n == s.size)=false:=beq_of_ne (by omega)
        have hne:s.data.toList.drop (k+n)≠[]:=fun h=>by
          have:=congrArg List.length h
          rw [List.length_drop] at this
          have:=hsz.out
          simp at *;omega
        have hword:skp (s.data.toList.drop (k+n))=.word:=by
          have:=HG.out.2.2.2 rfl
          rw [List.drop_drop] at this
          exact this.resolve_left hne
        have hgo:∀ r,Scans (k+n) (s.data.toList.drop (k+n)) acc r→Scans 0 s.data.toList [] r:=fun r h=>HI.out.rest _ (HG.out.2.1 _ _ _ (by rw [List.drop_drop];exact h))
        have Hgo:=Lib.hid hgo
        have Hword:=Lib.hid hword
        have Hne:=Lib.hid hne
        clear hgo hword hne hend HG
        by_cases h800:acc.length=800
        · have H8:=Lib.hid h800
          have h8:((acc.length:Int) == 800)=true:=beq_of (by omega)
          clear h800
          go_wp2
          refine bodyPost_ret (v:=.tuple #[.slice none 0 0,.agg #[.int .i64 10,.int .i64 (k+n)]]) (by simp [results,Tryz.results69,go_sem,c0,c1,lR]) rfl ?_
          refine ⟨?_,_,_,_,rfl,Or.inr ⟨by have:=hsz.out;omega,.bad 10 (k+n),Hgo.out _ (.much Hword.out Hne.out H8.out),rfl,by simp,rfl⟩⟩
          exact below_res HB2.out (Nat.le_of_lt lR) _ _ _
        · have H8:=Lib.hid h800
          have h8:((acc.length:Int) == 800)=false:=beq_of_ne (by omega)
          clear h800
          have hlt2:4<w2.heap.size:=Nat.lt_of_lt_of_le (Lib.lt_of_cell hv) HB2.out.size
          have hv3:w2.cell? ⟨4,0,none⟩=some (.iface te pe):=(HB2.out.cell (p:=⟨4,0,none⟩) (Lib.lt_of_cell hv)).trans hv
          have hTk:=take_any s (k+n) (w.heap.size+1) (w.heap.size+1+1) (w2.alloc (.cells #[.int .i64 0,.int .i64 0] 26)) hs hkn te pe (hv_alloc hv3 _)
            ((Below.heap_alloc _ _ _ (lt_of_block HT2.out)).trans HT2.out) ((Below.heap_alloc _ _ _ (lt_of_block HA2.out)).trans HA2.out)
          clear hv3 hlt2
          go_wp2_with (go_at_call 176;refine hTk.mono ?_)
          rintro e w4 ⟨hgr4,hcase⟩
          have lT:=lt_of_block HT2.out
          have lA:=lt_of_block HA2.out
          have hT4:=grown_keep hgr4 ((Below.heap_alloc _ _ _ lT).trans HT2.out) (by omega)
          have hR4:=grown_keep hgr4 ((Below.heap_alloc _ _ _ lR).trans HR2.out) (by omega)
          have hF4:=grown_keep hgr4 (heap_alloc_new w2 (.cells #[.int .i64 0,.int .i64 0] 26)) (by omega)
          have hO4:=own_keep (HO2.out.alloc (.cells #[.int .i64 0,.int .i64 0] 26)) hgr4 (by omega)
          have hB4:Below w.heap.size w w4:=(HB2.out.alloc (by omega) _).grown hgr4 (by simp;omega) (fun k h=>by cases h;omega)
          have d0:w4.cell? ⟨w.heap.size,0,none⟩=some (.int .i64 0):=by simp [World.cell?,hR4]
          have d1:w4.cell? ⟨w.heap.size,1,none⟩=some (.int .i64 0):=by simp [World.cell?,hR4]
          have g0:w4.frozen? ⟨w.heap.size,0,none⟩=false:=by simp [World.frozen?,hR4]
          have g1:w4.frozen? ⟨w.heap.size,1,none⟩=false:=by simp [World.frozen?,hR4]
          have d2:w4.cell? ⟨w2.heap.size,0,none⟩=some (.int .i64 0):=by simp [World.cell?,hF4]
          have d3:w4.cell? ⟨w2.heap.size,1,none⟩=some (.int .i64 0):=by simp [World.cell?,hF4]
          have g2:w4.frozen? ⟨w2.heap.size,0,none⟩=false:=by simp [World.frozen?,hF4]
          have g3:w4.frozen? ⟨w2.heap.size,1,none⟩=false:=by simp [World.frozen?,hF4]
          have lR4:=lt_of_block hR4
          have lF4:=lt_of_block hF4
          have HT4:=Lib.hid hT4
          have HR4:=Lib.hid hR4
          have HO4:=Lib.hid hO4
          have HB4:=Lib.hid hB4
          clear hT4 hR4 hF4 hO4 hgr4 hB4 hTk c0 c1 f0 f1
          rcases hcase with ⟨c,hc,rfl,hA4⟩ | ⟨kd,m,v,hc,rfl,hA4⟩
          · have hcn:((c:Int) != 0)=true:=by have:=fstT_bad hc;simpa using this
            have Hc:=Lib.hid hc
            clear hc hA4
            go_wp2
            go_region
            all_goals go_wp2
            refine bodyPost_ret (v:=.tuple #[.slice none 0 0,.agg #[.int .i64 c,.int .i64 (k+n)]]) (by simp [results,Tryz.results69,go_sem,d0,d1,lR4]) rfl ?_
            refine ⟨?_,_,_,_,rfl,Or.inr ⟨by have:=hsz.out;omega,.bad c (k+n),Hgo.out _ (.bad Hword.out Hne.out H8.out Hc.out),rfl,by simp,rfl⟩⟩
            exact (below_res (((HB4.out.setCell (p:=⟨w2.heap.size,0,none⟩) (Nat.le_of_lt lR) _).setCell (p:=⟨w2.heap.size,1,none⟩) (Nat.le_of_lt lR) _)) (by simp [World.setCell];omega) _ _ _).drew
          · obtain ⟨hm1,hm2⟩:=fstT_tok hc
            have hkm:k+n+m≤s.size:=by rw [List.length_drop] at hm2;have:=hsz.out;omega
            have Hc:=Lib.hid hc
            have HA4:=Lib.hid hA4
            obtain ⟨x,hx⟩ : ∃ x,x=bstr ((s.data.toList.drop (k+n)).take m):=⟨_,rfl⟩
            rw [← hx]
            have Hx:=Lib.hid hx
            clear hc hA4 hx hm2
            have hob:(Value.slice p acc.length cap).ownBlock≠some w2.heap.size:=fun h=>by have:=(HO2.out.lt _ h).2;omega
            have hO5:((((w4.setCell ⟨w2.heap.size,0,none⟩ (.int .i64 0)).setCell ⟨w2.heap.size,1,none⟩ (.int .i64 0)).alloc (.cells #[.int .i64 kd,.string x,.int .i64 v,.int .i64 (k+n)] 58)).alloc (.cells #[.int .i64 kd,.string x,.int .i64 v,.int .i64 (k+n)] 58)).ownsRow (w.heap.size+1+1+1) 58 4 (.slice p acc.length cap) acc.length (rowOf acc) :=
              ((ownsRow_setCell_other (ownsRow_setCell_other HO4.out (a:=⟨w2.heap.size,0,none⟩) hob _) (a:=⟨w2.heap.size,1,none⟩) hob _).alloc _).alloc _
            have HO5:=Lib.hid hO5
            clear hO5
            obtain ⟨i0,hi,hz0,hz1,hz2⟩:=info_parts info36
            go_wp2_with (at_builtin;refine wpList_append_own _ rfl _ _ 52 rfl (w.heap.size+1+1+1) 58 i0 (.agg #[.int .i64 0,.string ⟨#[]⟩,.int .i64 0,.int .i64 0]) 4 40 Tryz.underlying52 hi hz0 hz1 hz2 rfl (by decide) _ acc.length (rowOf acc) rfl HO5.out ⟨w4.heap.size+1,0,none⟩ 1 1 [.int .i64 kd,.string x,.int .i64 v,.int .i64 (k+n)] rfl rfl ?c1 ?c2 ?c3 ?c4 ?c5 ?_)
            case c1=>exact news_cells _ [.int .i64 kd,.string x,.int .i64 v,.int .i64 (k+n)] 58 _ (by simp [World.setCell])
            case c2=>intro u hu;simp at hu;rcases hu with rfl | rfl | rfl | rfl <;> rfl
            case c3=>unfold maxLen;omega
            case c4=>omega
            case c5=>simp [World.setCell];omega
            intro v' w1 hown' hgrow _
            have hW5:∀ (b:Nat) (o1 o2:Obj) (x1 x2:Value),b<w4.heap.size→b≠w2.heap.size→((((w4.setCell ⟨w2.heap.size,0,none⟩ x1).setCell ⟨w2.heap.size,1,none⟩ x2).alloc o1).alloc o2).heap[b]? = w4.heap[b]?:=fun b o1 o2 x1 x2 h1 h2=>by
              rw [Below.heap_alloc _ _ _ (by simp [World.setCell];omega),Below.heap_alloc _ _ _ (by simp [World.setCell];omega),Below.heap_setCell _ _ _ _ h2,Below.heap_setCell _ _ _ _ h2]
            have hold:∀ (b:Nat) (o:Obj),b<w.heap.size+1+1+1→w4.heap[b]? = some o→w1.heap[b]? = some o:=fun b o h1 h2=>by
              have hb4:=lt_of_block h2
              rw [hgrow.block b (by simp [World.setCell];omega) (fun e=>by have:=(HO5.out.lt b e.symm).1;omega),hW5 b _ _ _ _ hb4 (by omega)]
              exact h2
            have hbel:Below w.heap.size w w1:=by
              refine Below.grown ?_ hgrow ?_ (fun g h=>by have:=(HO5.out.lt g h).1;omega)
              · refine Below.alloc (Below.alloc ((HB4.out.setCell (p:=⟨w2.heap.size,0,none⟩) (Nat.le_of_lt lR) _).setCell (p:=⟨w2.heap.size,1,none⟩) (Nat.le_of_lt lR) _) ?_ _) ?_ _
                · simp [World.setCell];omega
                · simp [World.setCell];omega
              · simp [World.setCell];omega
            have hInv:ScInv s w w.heap.size v' w1 (k+n+m) (acc ++ [⟨kd,(s.data.toList.drop (k+n)).take m,v,k+n⟩]) :=
              { kle:=hkm
                res:=hold _ _ (by omega) HR4.out
                txt:=hold _ _ (by omega) HT4.out
                at':=hold _ _ (by omega) HA4.out
                own:=by
                  rw [rowOf_snoc,List.length_append]
                  show w1.ownsRow _ 58 4 v' (acc.length+1) (rowOf acc ++ [.int .i64 kd,.string (bstr ((s.data.toList.drop (k+n)).take m)),.int .i64 v,.int .i64 ((k+n:Nat):Int)])
                  rw [← Hx.out,Int.natCast_add]
                  exact hown'
                below:=hbel
                few:=by rw [List.length_append];have:=H8.out;simp;omega
                rest:=fun r h=>Hgo.out r (.tok Hword.out Hne.out H8.out Hc.out (by rw [List.drop_drop];exact h)) }
            have hlen:lenOf v' = acc.length+1:=by
              obtain ⟨p',cap',rfl,_⟩:=scInv_len hInv
              simp [lenOf]
            have Hlen:=Lib.hid hlen
            have HInv:=Lib.hid hInv
            clear hW5 hold hbel hInv hlen hown' hgrow
            go_wp2
            go_roundw
            case rel=>exact ⟨_,_,HInv.out⟩
            case measure =>
              have:=Hlen.out
              simp only [lenOf] at *
              omega

/-- Scan, whatever the text -/
theorem scan_any (s:ByteArray) (w:World) (hs:s.size≤140737488355328) (hsh:w.ShapedOpen Tryz.prog) (te:TypeId) (pe:Value) (hv:w.cell? ⟨4,0,none⟩=some (.iface te pe)) :
    Calls Tryz.prog 69 #[.string s] w (ScPost s.data.toList w):=by
  by_cases h:s.size≤2000
  · exact scanIn s w h hsh te pe hv
  · have hg:2000<s.size:=by omega
    have hsz:=Lib.hid (Lib.size_eq s)
    go_enter Tryz.func69,Tryz.ntmps69
    go_wp2
    refine bodyPost_ret (v:=.tuple #[.slice none 0 0,.agg #[.int .i64 2,.int .i64 0]]) (by simp [results,Tryz.results69,go_sem]) rfl ?_
    exact ⟨(Below.refl _ _).alloc (Nat.le_refl _) _,_,_,_,rfl,Or.inl ⟨by have:=hsz.out;omega,rfl,rfl,rfl⟩⟩
end Tk
end
end Go.Proofs.YtdjpopebeenlmaaGreatDoor
