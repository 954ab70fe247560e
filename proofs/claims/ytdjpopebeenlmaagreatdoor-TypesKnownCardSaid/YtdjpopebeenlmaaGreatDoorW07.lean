/-
  Joined texts of this claim: TkD, TkE, TkF, TkG, TkH, Qa, TkI, Pa.
-/
import Derived.Test.YtdjpopebeenlmaaGreatDoorW00
import Derived.Test.YtdjpopebeenlmaaGreatDoorW04
import Derived.Test.YtdjpopebeenlmaaGreatDoorW06
import Derived.Lib.IndexMore
import Derived.OneCell
import Derived.RegionTactic
import Derived.ChangeAlike
import Derived.ChangeAgain
set_option maxHeartbeats 40000000
set_option maxRecDepth 100000
set_option linter.unusedVariables false
set_option linter.unusedSimpArgs false
namespace Go.Proofs.YtdjpopebeenlmaaGreatDoor
section
namespace Tk
open Go.RowKit

/-- the string of bytes -/
def bstr (l:List UInt8):ByteArray:=⟨l.toArray⟩
/-- what one word is: a fault, or its kind, its length, its number -/
inductive Tk where
  | bad (code:Nat)
  | tok (kind len n:Nat)
def tkCode:Tk→Int | .bad c=>c | .tok _ _ _=>0
def tkV (l:List UInt8):Tk→Value
  | .bad _=>.agg #[.int .i64 0,.string ⟨#[]⟩,.int .i64 0,.int .i64 0]
  | .tok k n v=>.agg #[.int .i64 k,.string (bstr (l.take n)),.int .i64 v,.int .i64 0]
def TkPost (r:Tk) (l:List UInt8) (w:World) (e:Ending) (w':World):Prop :=
  e=.returned (.tuple #[tkV l r,.int .i64 (tkCode r)])∧Below w.heap.size w w'

def wrdT (t:List UInt8):Tk:=if keyB t=true then .tok 3 t.length 0 else if 12<t.length then .bad 12 else .tok 1 t.length 0

theorem bstr_all (s:ByteArray):bstr (s.data.toList.take s.data.toList.length)=s:=by
  rw [List.take_length];exact Lib.mk_data s
theorem post_tok {r:Tk}{l:List UInt8}{w w':World}{k n v:Nat}{s:ByteArray}(hr:Hid (r=.tok k n v)) (ht:bstr (l.take n)=s) (hb:Below w.heap.size w w') :
    TkPost r l w (.returned (.tuple #[.agg #[.int .i64 k,.string s,.int .i64 v,.int .i64 0],.int .i64 0])) w':=by
  subst ht
  have:=hr.out
  subst this
  exact ⟨rfl,hb⟩
theorem post_bad {r:Tk}{l:List UInt8}{w w':World}{c:Nat}(hr:Hid (r=.bad c)) (hb:Below w.heap.size w w') :
    TkPost r l w (.returned (.tuple #[.agg #[.int .i64 0,.string ⟨#[]⟩,.int .i64 0,.int .i64 0],.int .i64 c])) w':=by
  have:=hr.out
  subst this
  exact ⟨rfl,hb⟩
/-- the cells and marks of a world that a call left -/
theorem bcell {W w1:World}(hb:Below W.heap.size W w1):(∀ b o,b<W.heap.size→w1.cell? ⟨b,o,none⟩=W.cell? ⟨b,o,none⟩)∧(∀ b o,b<W.heap.size→w1.frozen? ⟨b,o,none⟩=W.frozen? ⟨b,o,none⟩) :=
  ⟨fun b o h=>hb.cell (p:=⟨b,o,none⟩) h,fun b o h=>hb.frozen (p:=⟨b,o,none⟩) h⟩

set_option maxHeartbeats 1000000 in
theorem wrd_any (s:ByteArray) (w:World) (hs:s.size≤maxLen) :
    Calls Tryz.prog 168 #[.string s] w (TkPost (wrdT s.data.toList) s.data.toList w):=by
  unfold maxLen at hs
  have hsz:=Lib.hid (Lib.size_eq s)
  cases hk:keyB s.data.toList with
  | true =>
    have HR:Hid (wrdT s.data.toList=.tok 3 s.data.toList.length 0):=if_pos hk
    go_enter Tryz.func168,Tryz.ntmps168
    go_wp2_with (go_at_call 212;refine (isKey_any _ _).mono ?_;rintro e w' ⟨rfl,rfl⟩)
    exact bodyPost_ret (v:=.tuple #[.agg #[.int .i64 3,.string s,.int .i64 0,.int .i64 0],.int .i64 0]) (by simp [results,Tryz.results168,go_sem]) rfl (post_tok HR (bstr_all s) ((Below.refl _ _).alloc (Nat.le_refl _) _))
  | false =>
    by_cases hl:12<s.size
    · have HR:Hid (wrdT s.data.toList=.bad 12):=by show _=_;unfold wrdT;rw [if_neg (by simp [hk]),if_pos (by have:=hsz.out;omega)]
      go_enter Tryz.func168,Tryz.ntmps168
      go_wp2_with (go_at_call 212;refine (isKey_any _ _).mono ?_;rintro e w' ⟨rfl,rfl⟩)
      exact bodyPost_ret (v:=.tuple #[.agg #[.int .i64 0,.string ⟨#[]⟩,.int .i64 0,.int .i64 0],.int .i64 12]) (by simp [results,Tryz.results168,go_sem]) rfl (post_bad HR ((Below.refl _ _).alloc (Nat.le_refl _) _))
    · have HR:Hid (wrdT s.data.toList=.tok 1 s.data.toList.length 0):=by show _=_;unfold wrdT;rw [if_neg (by simp [hk]),if_neg (by have:=hsz.out;omega)]
      go_enter Tryz.func168,Tryz.ntmps168
      go_wp2_with (go_at_call 212;refine (isKey_any _ _).mono ?_;rintro e w' ⟨rfl,rfl⟩)
      exact bodyPost_ret (v:=.tuple #[.agg #[.int .i64 1,.string s,.int .i64 0,.int .i64 0],.int .i64 0]) (by simp [results,Tryz.results168,go_sem]) rfl (post_tok HR (bstr_all s) ((Below.refl _ _).alloc (Nat.le_refl _) _))

/-- digits of a base: the number that they spell, or a fault -/
def numD (b:Nat) (p:UInt8→Bool) (ds t:List UInt8):Tk :=
  if ds=[]∨preN p ds<ds.length then .bad 1 else if numN b 0 ds<9223372036854775808 then .tok 2 t.length (numN b 0 ds) else .bad 3
def numT (t:List UInt8):Tk :=
  if 1<t.length∧t.getD 0 0=48 then (if t.getD 1 0≠120∧t.getD 1 0≠88 then .bad 1 else numD 16 hexB (t.drop 2) t) else numD 10 digB t t

theorem preN_all {p:UInt8→Bool}{l:List UInt8}(h:¬ preN p l<l.length):∀ c ∈ l,p c=true:=by
  unfold preN at h
  induction l with
  | nil=>simp
  | cons c r ih =>
    rw [List.takeWhile_cons] at h
    by_cases hc:p c=true
    · rw [if_pos hc] at h
      intro x hx
      rcases List.mem_cons.1 hx with rfl | hx
      · exact hc
      · exact ih (by simpa using h) x hx
    · rw [if_neg hc] at h;simp at h

theorem hv_alloc {w:World}{te:TypeId}{pe:Value}(hv:w.cell? ⟨4,0,none⟩=some (.iface te pe)) (o:Obj):(w.alloc o).cell? ⟨4,0,none⟩=some (.iface te pe) :=
  (((Below.refl w.heap.size w).alloc (Nat.le_refl _) o).cell (p:=⟨4,0,none⟩) (Lib.lt_of_cell hv)).trans hv
theorem below_call {w W2:World}{o:Obj}(hb:Below (w.alloc o).heap.size (w.alloc o) W2):Below w.heap.size w W2 :=
  ((Below.refl _ _).alloc (Nat.le_refl _) _).trans (hb.mono (by simp))
theorem below_set4 {a w:World}(h:Below a.heap.size a w) (x0 x1 x2 x3:Value):Below a.heap.size a ((((w.setCell ⟨a.heap.size,0,none⟩ x0).setCell ⟨a.heap.size,1,none⟩ x1).setCell ⟨a.heap.size,2,none⟩ x2).setCell ⟨a.heap.size,3,none⟩ x3) :=
  (((h.setCell (p:=⟨a.heap.size,0,none⟩) (Nat.le_refl _) x0).setCell (p:=⟨a.heap.size,1,none⟩) (Nat.le_refl _) x1).setCell (p:=⟨a.heap.size,2,none⟩) (Nat.le_refl _) x2).setCell (p:=⟨a.heap.size,3,none⟩) (Nat.le_refl _) x3
theorem nil_iff (s:ByteArray):s.data.toList=[] ↔ s.size=0:=by
  rw [Lib.size_eq];exact List.length_eq_zero_iff.symm
theorem emp_true {s:ByteArray}(h:s.size=0):s.toList.isEmpty=true:=by rw [Lib.toList_data,(nil_iff s).2 h];rfl
theorem emp_false {s:ByteArray}(h:s.size≠0):s.toList.isEmpty=false:=by
  rw [Lib.toList_data]
  cases e:s.data.toList with
  | nil=>exact absurd ((nil_iff s).1 e) h
  | cons=>rfl
/-- where the decimal road is taken -/
def DecRoad (s:ByteArray):Prop:=(¬ 1<s.size)∨(∃ h:1<s.size,((s[0].toNat:Int) == 48)=false)

set_option maxHeartbeats 4000000 in
set_option maxRecDepth 100000 in
theorem num_dec (s:ByteArray) (w:World) (hs:s.size≤140737488355328) (te:TypeId) (pe:Value) (hv:w.cell? ⟨4,0,none⟩=some (.iface te pe))
    (hz:DecRoad s) (r:Tk) (hr:numD 10 digB s.data.toList s.data.toList=r) :
    Calls Tryz.prog 165 #[.string s] w (TkPost r s.data.toList w):=by
  have hsz:=Lib.hid (Lib.size_eq s)
  by_cases h0:s.size=0
  · have HR:Hid (r=.bad 1):=by
      show _=_;rw [← hr];exact if_pos (Or.inl ((nil_iff s).2 h0))
    have hemp:=emp_true h0
    clear hr
    rcases hz with h1 | ⟨h1,_⟩
    · go_enter Tryz.func165,Tryz.ntmps165
      go_wp2
      exact bodyPost_ret (v:=.tuple #[.agg #[.int .i64 0,.string ⟨#[]⟩,.int .i64 0,.int .i64 0],.int .i64 1]) (by simp [results,Tryz.results165,go_sem]) rfl (post_bad HR ((Below.refl _ _).alloc (Nat.le_refl _) _))
    · omega
  · have hemp:=emp_false h0
    by_cases hp:preN digB s.data.toList<s.data.toList.length
    · have HR:Hid (r=.bad 1):=by
        show _=_;rw [← hr];exact if_pos (Or.inr hp)
      have hp':(preN digB s.data.toList:Int)<s.size:=by have:=hsz.out;omega
      clear hr hp
      rcases hz with h1 | ⟨h1,h2⟩
      all_goals
        go_enter Tryz.func165,Tryz.ntmps165
        go_wp2_with (go_at_call 166;refine (pre_dig _ _ (by unfold maxLen;omega)).mono ?_;rintro e w' ⟨rfl,rfl⟩)
        exact bodyPost_ret (v:=.tuple #[.agg #[.int .i64 0,.string ⟨#[]⟩,.int .i64 0,.int .i64 0],.int .i64 1]) (by simp [results,Tryz.results165,go_sem]) rfl (post_bad HR ((Below.refl _ _).alloc (Nat.le_refl _) _))
    · have hall:=preN_all hp
      have hp':¬ (preN digB s.data.toList:Int)<s.size:=by have:=hsz.out;omega
      have hN:¬ (s.data.toList=[]∨preN digB s.data.toList<s.data.toList.length):=fun h=>h.elim (fun h=>h0 ((nil_iff s).1 h)) hp
      have hPI:=fun w2 hv2=>pI_10 s h0 (by omega) hall w2 te pe hv2
      clear hp hall
      by_cases hlt:numN 10 0 s.data.toList<9223372036854775808
      · have HR:Hid (r=.tok 2 s.data.toList.length (numN 10 0 s.data.toList)):=by
          show _=_;rw [← hr];unfold numD;rw [if_neg hN,if_pos hlt]
        clear hr hN
        generalize numN 10 0 s.data.toList=n at *
        have Hlt:=Lib.hid hlt
        clear hlt
        rcases hz with h1 | ⟨h1,h2⟩
        all_goals
          go_enter Tryz.func165,Tryz.ntmps165
          go_wp2_with (first | (go_at_call 166;refine (pre_dig _ _ (by unfold maxLen;omega)).mono ?_;rintro e w' ⟨rfl,rfl⟩) | (go_at_call 211;refine (hPI _ (hv_alloc hv _)).mono ?_))
          rintro e W2 ⟨ha,_,hb⟩
          obtain rfl:=ha Hlt.out
          obtain ⟨hc,hf⟩:=bcell hb
          have hsz2:=hb.size
          simp at hsz2
          clear ha
          go_wp2
          refine bodyPost_ret (v:=.tuple #[.agg #[.int .i64 2,.string s,.int .i64 n,.int .i64 0],.int .i64 0]) (by simp [results,Tryz.results165,go_sem,hc]) rfl (post_tok HR (bstr_all s) (below_set4 (below_call hb) _ _ _ _))
      · have HR:Hid (r=.bad 3):=by
          show _=_;rw [← hr];unfold numD;rw [if_neg hN,if_neg hlt]
        clear hr hN
        generalize numN 10 0 s.data.toList=n at *
        have Hlt:=Lib.hid hlt
        clear hlt
        rcases hz with h1 | ⟨h1,h2⟩
        all_goals
          go_enter Tryz.func165,Tryz.ntmps165
          go_wp2_with (first | (go_at_call 166;refine (pre_dig _ _ (by unfold maxLen;omega)).mono ?_;rintro e w' ⟨rfl,rfl⟩) | (go_at_call 211;refine (hPI _ (hv_alloc hv _)).mono ?_))
          rintro e W2 ⟨_,ha,hb⟩
          obtain ⟨x,te2,pe2,rfl⟩:=ha Hlt.out
          obtain ⟨hc,hf⟩:=bcell hb
          have hsz2:=hb.size
          simp at hsz2
          clear ha
          go_wp2
          exact bodyPost_ret (v:=.tuple #[.agg #[.int .i64 0,.string ⟨#[]⟩,.int .i64 0,.int .i64 0],.int .i64 3]) (by simp [results,Tryz.results165,go_sem,hc]) rfl (post_bad HR (below_set4 (below_call hb) _ _ _ _))

set_option maxHeartbeats 4000000 in
set_option maxRecDepth 100000 in
theorem num_hex (s:ByteArray) (w:World) (hs:s.size≤140737488355328) (te:TypeId) (pe:Value) (hv:w.cell? ⟨4,0,none⟩=some (.iface te pe))
    (h1:1<s.size) (h2:((s[0].toNat:Int) == 48)=true) (hx:((s[1].toNat:Int) == 120)=true∨((s[1].toNat:Int) == 120)=false∧((s[1].toNat:Int) == 88)=true) (r:Tk) (hr:numD 16 hexB (s.data.toList.drop 2) s.data.toList=r) :
    Calls Tryz.prog 165 #[.string s] w (TkPost r s.data.toList w):=by
  have hd:(s.extract 2 s.size).data.toList=s.data.toList.drop 2:=by
    rw [Lib.extract_data,List.take_of_length_le (by rw [List.length_drop,Lib.size_eq];omega)]
  have hds:(s.extract 2 s.size).size=s.size-2:=by rw [Lib.size_eq,hd,List.length_drop,← Lib.size_eq]
  have hsl:∀ W,(Instr.slice 9 (.string s) (some (.int .i64 2)) none none).run Tryz.prog W=.ok (.string (s.extract 2 s.size)) W:=fun W=>by
    rw [run_slice_string_from_if W 9 s .i64 _ Tryz.underlying9,if_pos ⟨by omega,by omega⟩]
    rfl
  rw [← hd] at hr
  have Hds:=Lib.hid hds
  clear hd hds
  generalize s.extract 2 s.size=d at *
  have hsz:=Lib.hid (Lib.size_eq d)
  have hn1:((s[1].toNat:Int) != 120) = !((s[1].toNat:Int) == 120):=rfl
  have hn2:((s[1].toNat:Int) != 88) = !((s[1].toNat:Int) == 88):=rfl
  by_cases h0:d.size=0
  · have HR:Hid (r=.bad 1):=by
      show _=_;rw [← hr];exact if_pos (Or.inl ((nil_iff d).2 h0))
    have hemp:=emp_true h0
    clear hr h0
    rcases hx with hx | ⟨hy,hx⟩
    all_goals
      (try rw [hx] at hn1) <;> (try rw [hy] at hn1) <;> (try rw [hx] at hn2)
      go_enter Tryz.func165,Tryz.ntmps165
      go_wp2
      exact bodyPost_ret (v:=.tuple #[.agg #[.int .i64 0,.string ⟨#[]⟩,.int .i64 0,.int .i64 0],.int .i64 1]) (by simp [results,Tryz.results165,go_sem]) rfl (post_bad HR ((Below.refl _ _).alloc (Nat.le_refl _) _))
  · have hemp:=emp_false h0
    by_cases hp:preN hexB d.data.toList<d.data.toList.length
    · have HR:Hid (r=.bad 1):=by
        show _=_;rw [← hr];exact if_pos (Or.inr hp)
      have hp':(preN hexB d.data.toList:Int)<d.size:=by have:=hsz.out;omega
      clear hr hp h0
      rcases hx with hx | ⟨hy,hx⟩
      all_goals
        (try rw [hx] at hn1) <;> (try rw [hy] at hn1) <;> (try rw [hx] at hn2)
        go_enter Tryz.func165,Tryz.ntmps165
        go_wp2_with (go_at_call 166;refine (pre_hex _ _ (by have:=Hds.out;unfold maxLen;omega)).mono ?_;rintro e w' ⟨rfl,rfl⟩)
        exact bodyPost_ret (v:=.tuple #[.agg #[.int .i64 0,.string ⟨#[]⟩,.int .i64 0,.int .i64 0],.int .i64 1]) (by simp [results,Tryz.results165,go_sem]) rfl (post_bad HR ((Below.refl _ _).alloc (Nat.le_refl _) _))
    · have hall:=preN_all hp
      have hp':¬ (preN hexB d.data.toList:Int)<d.size:=by have:=hsz.out;omega
      have hN:¬ (d.data.toList=[]∨preN hexB d.data.toList<d.data.toList.length):=fun h=>h.elim (fun h=>h0 ((nil_iff d).1 h)) hp
      have hPI:=fun w2 hv2=>pI_16 d h0 (by have:=Hds.out;omega) hall w2 te pe hv2
      clear hp hall h0
      by_cases hlt:numN 16 0 d.data.toList<9223372036854775808
      · have HR:Hid (r=.tok 2 s.data.toList.length (numN 16 0 d.data.toList)):=by
          show _=_;rw [← hr];unfold numD;rw [if_neg hN,if_pos hlt]
        clear hr hN
        generalize numN 16 0 d.data.toList=n at *
        have Hlt:=Lib.hid hlt
        clear hlt
        rcases hx with hx | ⟨hy,hx⟩
        all_goals
          (try rw [hx] at hn1) <;> (try rw [hy] at hn1) <;> (try rw [hx] at hn2)
          go_enter Tryz.func165,Tryz.ntmps165
          go_wp2_with (first | (go_at_call 166;refine (pre_hex _ _ (by have:=Hds.out;unfold maxLen;omega)).mono ?_;rintro e w' ⟨rfl,rfl⟩) | (go_at_call 211;refine (hPI _ (hv_alloc hv _)).mono ?_))
          rintro e W2 ⟨ha,_,hb⟩
          obtain rfl:=ha Hlt.out
          obtain ⟨hc,hf⟩:=bcell hb
          have hsz2:=hb.size
          simp at hsz2
          clear ha
          go_wp2
          exact bodyPost_ret (v:=.tuple #[.agg #[.int .i64 2,.string s,.int .i64 n,.int .i64 0],.int .i64 0]) (by simp [results,Tryz.results165,go_sem,hc]) rfl (post_tok HR (bstr_all s) (below_set4 (below_call hb) _ _ _ _))
      · have HR:Hid (r=.bad 3):=by
          show _=_;rw [← hr];unfold numD;rw [if_neg hN,if_neg hlt]
        clear hr hN
        generalize numN 16 0 d.data.toList=n at *
        have Hlt:=Lib.hid hlt
        clear hlt
        rcases hx with hx | ⟨hy,hx⟩
        all_goals
          (try rw [hx] at hn1) <;> (try rw [hy] at hn1) <;> (try rw [hx] at hn2)
          go_enter Tryz.func165,Tryz.ntmps165
          go_wp2_with (first | (go_at_call 166;refine (pre_hex _ _ (by have:=Hds.out;unfold maxLen;omega)).mono ?_;rintro e w' ⟨rfl,rfl⟩) | (go_at_call 211;refine (hPI _ (hv_alloc hv _)).mono ?_))
          rintro e W2 ⟨_,ha,hb⟩
          obtain ⟨x,te2,pe2,rfl⟩:=ha Hlt.out
          obtain ⟨hc,hf⟩:=bcell hb
          have hsz2:=hb.size
          simp at hsz2
          clear ha
          go_wp2
          exact bodyPost_ret (v:=.tuple #[.agg #[.int .i64 0,.string ⟨#[]⟩,.int .i64 0,.int .i64 0],.int .i64 3]) (by simp [results,Tryz.results165,go_sem,hc]) rfl (post_bad HR (below_set4 (below_call hb) _ _ _ _))

set_option maxHeartbeats 4000000 in
theorem num_no (s:ByteArray) (w:World) (hs:s.size≤140737488355328)
    (h1:1<s.size) (h2:((s[0].toNat:Int) == 48)=true) (hx:((s[1].toNat:Int) == 120)=false) (hy:((s[1].toNat:Int) == 88)=false) (r:Tk) (hr:r=.bad 1) :
    Calls Tryz.prog 165 #[.string s] w (TkPost r s.data.toList w):=by
  have HR:=Lib.hid hr
  clear hr
  have hn1:((s[1].toNat:Int) != 120)=true:=by show (!((s[1].toNat:Int) == 120))=true;rw [hx];rfl
  have hn2:((s[1].toNat:Int) != 88)=true:=by show (!((s[1].toNat:Int) == 88))=true;rw [hy];rfl
  go_enter Tryz.func165,Tryz.ntmps165
  go_wp2
  exact bodyPost_ret (v:=.tuple #[.agg #[.int .i64 0,.string ⟨#[]⟩,.int .i64 0,.int .i64 0],.int .i64 1]) (by simp [results,Tryz.results165,go_sem]) rfl (post_bad HR ((Below.refl _ _).alloc (Nat.le_refl _) _))
theorem getD_idx (s:ByteArray) (k:Nat) (h:k<s.size):s.data.toList.getD k 0=s[k]:=by
  have h2:k<s.data.toList.length:=by have:=Lib.size_eq s;omega
  simp [List.getD,h]
  rfl
theorem beq_of {a b:Int}(h:a=b):(a == b)=true:=by simpa using h
theorem beq_of_ne {a b:Int}(h:a≠b):(a == b)=false:=by simpa using h
/-- number: what the digits spell -/
theorem num_any (s:ByteArray) (w:World) (hs:s.size≤140737488355328) (te:TypeId) (pe:Value) (hv:w.cell? ⟨4,0,none⟩=some (.iface te pe)) :
    Calls Tryz.prog 165 #[.string s] w (TkPost (numT s.data.toList) s.data.toList w):=by
  have hsz:=Lib.size_eq s
  by_cases h1:1<s.size
  · have g0:=getD_idx s 0 (by omega)
    have g1:=getD_idx s 1 h1
    by_cases h2:s[0]=48
    · have hp:1<s.data.toList.length∧s.data.toList.getD 0 0=48:=⟨by omega,by rw [g0,h2]⟩
      have e0:((s[0].toNat:Int) == 48)=true:=beq_of (by rw [h2];rfl)
      by_cases hx:s[1]=120
      · have hT:numT s.data.toList=numD 16 hexB (s.data.toList.drop 2) s.data.toList:=by
          unfold numT;rw [if_pos hp,if_neg (by rw [g1,hx];decide)]
        exact num_hex s w hs te pe hv h1 e0 (Or.inl (beq_of (by rw [hx];rfl))) _ hT.symm
      · have ex:((s[1].toNat:Int) == 120)=false:=beq_of_ne fun h=>hx (UInt8.toNat_inj.1 (by show s[1].toNat=120;omega))
        by_cases hy:s[1]=88
        · have hT:numT s.data.toList=numD 16 hexB (s.data.toList.drop 2) s.data.toList:=by
            unfold numT;rw [if_pos hp,if_neg (by rw [g1,hy];decide)]
          exact num_hex s w hs te pe hv h1 e0 (Or.inr ⟨ex,beq_of (by rw [hy];rfl)⟩) _ hT.symm
        · have ey:((s[1].toNat:Int) == 88)=false:=beq_of_ne fun h=>hy (UInt8.toNat_inj.1 (by show s[1].toNat=88;omega))
          exact num_no s w hs h1 e0 ex ey _ (by unfold numT;rw [if_pos hp,if_pos (by rw [g1];exact ⟨hx,hy⟩)])
    · have hT:numT s.data.toList=numD 10 digB s.data.toList s.data.toList:=by
        unfold numT;rw [if_neg (by rw [g0];exact fun h=>h2 h.2)]
      exact num_dec s w hs te pe hv (Or.inr ⟨h1,beq_of_ne fun h=>h2 (UInt8.toNat_inj.1 (by show s[0].toNat=48;omega))⟩) _ hT.symm
  · have hT:numT s.data.toList=numD 10 digB s.data.toList s.data.toList:=by
      unfold numT;rw [if_neg (by omega)]
    exact num_dec s w hs te pe hv (Or.inl h1) _ hT.symm
end Tk
end
section
namespace Tk
open Go.RowKit

def chrT (l:List UInt8):Tk :=
  if l.length<3 then .bad 1
  else if l.getD 1 0=92 then (if escV (l.getD 2 0)<0∨l.length<4∨l.getD 3 0≠39 then .bad 1 else .tok 2 4 (escV (l.getD 2 0)).toNat)
  else if plainB (l.getD 1 0)=true then (if l.getD 2 0≠39 then .bad 1 else .tok 2 3 (l.getD 1 0).toNat)
  else .bad 1
theorem ext0 (s:ByteArray) (n:Nat):bstr (s.data.toList.take n)=s.extract 0 n:=by
  rw [Lib.extract_eq];rfl
theorem u8_ne {c d:UInt8}(h:c≠d):((c.toNat:Int) == (d.toNat:Int))=false:=beq_of_ne fun e=>h (UInt8.toNat_inj.1 (by omega))
theorem u8_nb {c:UInt8}{n:Int}{b:Bool}(h:((c.toNat:Int) == n)=b):((c.toNat:Int) != n) = !b:=by rw [← h];rfl

set_option maxHeartbeats 4000000 in
theorem chr_any (s:ByteArray) (w:World) (hs:s.size≤140737488355328) :
    Calls Tryz.prog 169 #[.string s] w (TkPost (chrT s.data.toList) s.data.toList w):=by
  obtain ⟨r,hr⟩ : ∃ r,r=chrT s.data.toList:=⟨_,rfl⟩
  rw [← hr]
  unfold chrT at hr
  by_cases h3:s.size<3
  · rw [if_pos (by have:=Lib.size_eq s;omega)] at hr
    have HR:=Lib.hid hr
    clear hr
    go_enter Tryz.func169,Tryz.ntmps169
    go_wp2
    exact bodyPost_ret (v:=.tuple #[.agg #[.int .i64 0,.string ⟨#[]⟩,.int .i64 0,.int .i64 0],.int .i64 1]) (by simp [results,Tryz.results169,go_sem]) rfl (post_bad HR ((Below.refl _ _).alloc (Nat.le_refl _) _))
  · rw [if_neg (by have:=Lib.size_eq s;omega),getD_idx s 1 (by omega),getD_idx s 2 (by omega)] at hr
    by_cases h92:s[1]=92
    · rw [if_pos h92] at hr
      have e1:((s[1].toNat:Int) == 92)=true:=beq_of (by rw [h92];rfl)
      have hE:=fun w=>esc_any s[2] w
      clear h92
      generalize escV s[2]=x at hE hr
      by_cases hx:x<0
      · rw [if_pos (Or.inl hx)] at hr
        have HR:=Lib.hid hr
        clear hr
        go_enter Tryz.func169,Tryz.ntmps169
        go_wp2_with (go_at_call 213;refine (hE _).mono ?_;rintro e w' ⟨rfl,rfl⟩)
        exact bodyPost_ret (v:=.tuple #[.agg #[.int .i64 0,.string ⟨#[]⟩,.int .i64 0,.int .i64 0],.int .i64 1]) (by simp [results,Tryz.results169,go_sem]) rfl (post_bad HR ((Below.refl _ _).alloc (Nat.le_refl _) _))
      · by_cases h4:s.size<4
        · rw [if_pos (Or.inr (Or.inl (by have:=Lib.size_eq s;omega)))] at hr
          have HR:=Lib.hid hr
          clear hr
          go_enter Tryz.func169,Tryz.ntmps169
          go_wp2_with (go_at_call 213;refine (hE _).mono ?_;rintro e w' ⟨rfl,rfl⟩)
          exact bodyPost_ret (v:=.tuple #[.agg #[.int .i64 0,.string ⟨#[]⟩,.int .i64 0,.int .i64 0],.int .i64 1]) (by simp [results,Tryz.results169,go_sem]) rfl (post_bad HR ((Below.refl _ _).alloc (Nat.le_refl _) _))
        · rw [getD_idx s 3 (by omega)] at hr
          by_cases h39:s[3]=39
          · rw [if_neg (by intro h;rcases h with h | h | h;exact hx h;exact h4 (by have:=Lib.size_eq s;omega);exact h h39)] at hr
            have e3:((s[3].toNat:Int) == 39)=true:=beq_of (by rw [h39];rfl)
            have n3:=u8_nb e3
            clear h39
            obtain ⟨n,rfl⟩ : ∃ n:Nat,x=n:=⟨x.toNat,by omega⟩
            rw [Int.toNat_natCast] at hr
            have HR:=Lib.hid hr
            clear hr
            go_enter Tryz.func169,Tryz.ntmps169
            go_wp2_with (go_at_call 213;refine (hE _).mono ?_;rintro e w' ⟨rfl,rfl⟩)
            exact bodyPost_ret (v:=.tuple #[.agg #[.int .i64 2,.string (s.extract 0 4),.int .i64 n,.int .i64 0],.int .i64 0]) (by simp [results,Tryz.results169,go_sem]) rfl (post_tok HR (ext0 s 4) ((Below.refl _ _).alloc (Nat.le_refl _) _))
          · rw [if_pos (Or.inr (Or.inr h39))] at hr
            have e3:((s[3].toNat:Int) == 39)=false:=u8_ne h39
            have n3:=u8_nb e3
            clear h39
            have HR:=Lib.hid hr
            clear hr
            go_enter Tryz.func169,Tryz.ntmps169
            go_wp2_with (go_at_call 213;refine (hE _).mono ?_;rintro e w' ⟨rfl,rfl⟩)
            exact bodyPost_ret (v:=.tuple #[.agg #[.int .i64 0,.string ⟨#[]⟩,.int .i64 0,.int .i64 0],.int .i64 1]) (by simp [results,Tryz.results169,go_sem]) rfl (post_bad HR ((Below.refl _ _).alloc (Nat.le_refl _) _))
    · rw [if_neg h92] at hr
      have e1:((s[1].toNat:Int) == 92)=false:=u8_ne h92
      clear h92
      have hP:=fun w=>plain_any s[1] w
      have hb1:s[1].toNat<256:=s[1].toNat_lt
      cases hp:plainB s[1] with
      | false =>
        rw [hp] at hr hP
        rw [if_neg (by decide)] at hr
        have HR:=Lib.hid hr
        clear hr hp
        go_enter Tryz.func169,Tryz.ntmps169
        go_wp2_with (go_at_call 214;refine (hP _).mono ?_;rintro e w' ⟨rfl,rfl⟩)
        exact bodyPost_ret (v:=.tuple #[.agg #[.int .i64 0,.string ⟨#[]⟩,.int .i64 0,.int .i64 0],.int .i64 1]) (by simp [results,Tryz.results169,go_sem]) rfl (post_bad HR ((Below.refl _ _).alloc (Nat.le_refl _) _))
      | true =>
        rw [hp] at hr hP
        rw [if_pos rfl] at hr
        clear hp
        by_cases h39:s[2]=39
        · rw [if_neg (by simp [h39])] at hr
          have e3:((s[2].toNat:Int) == 39)=true:=beq_of (by rw [h39];rfl)
          have n3:=u8_nb e3
          clear h39
          have HR:=Lib.hid hr
          clear hr
          go_enter Tryz.func169,Tryz.ntmps169
          go_wp2_with (go_at_call 214;refine (hP _).mono ?_;rintro e w' ⟨rfl,rfl⟩)
          exact bodyPost_ret (v:=.tuple #[.agg #[.int .i64 2,.string (s.extract 0 3),.int .i64 s[1].toNat,.int .i64 0],.int .i64 0]) (by simp [results,Tryz.results169,go_sem]) rfl (post_tok HR (ext0 s 3) ((Below.refl _ _).alloc (Nat.le_refl _) _))
        · rw [if_pos h39] at hr
          have e3:((s[2].toNat:Int) == 39)=false:=u8_ne h39
          have n3:=u8_nb e3
          clear h39
          have HR:=Lib.hid hr
          clear hr
          go_enter Tryz.func169,Tryz.ntmps169
          go_wp2_with (go_at_call 214;refine (hP _).mono ?_;rintro e w' ⟨rfl,rfl⟩)
          exact bodyPost_ret (v:=.tuple #[.agg #[.int .i64 0,.string ⟨#[]⟩,.int .i64 0,.int .i64 0],.int .i64 1]) (by simp [results,Tryz.results169,go_sem]) rfl (post_bad HR ((Below.refl _ _).alloc (Nat.le_refl _) _))

def sgnF (l:List UInt8):Nat→Tk
  | 0=>.bad 1
  | n+1=>if signB (l.take (n+1))=true then .tok 4 (n+1) 0 else sgnF l n
def sgnT (l:List UInt8):Tk:=sgnF l (min 3 l.length)

theorem ext0_data (s:ByteArray) (n:Nat):(s.extract 0 n).data.toList=s.data.toList.take n:=by
  rw [Lib.extract_data,List.drop_zero,Nat.sub_zero]

set_option maxHeartbeats 4000000 in
theorem sgn_any (s:ByteArray) (w:World) (hs:s.size≤140737488355328) :
    Calls Tryz.prog 170 #[.string s] w (TkPost (sgnT s.data.toList) s.data.toList w):=by
  obtain ⟨r,hr⟩ : ∃ r,r=sgnT s.data.toList:=⟨_,rfl⟩
  rw [← hr]
  have H0:Hid (r=sgnF s.data.toList (min 3 s.size)):=by show _=_;rw [hr,sgnT,Lib.size_eq]
  clear hr
  have hm:(min 3 s.size:Nat)≤3∧min 3 s.size≤s.size:=⟨by omega,by omega⟩
  go_enter Tryz.func170,Tryz.ntmps170
  go_wp2
  go_loop [4] (fun v=>∃ k:Nat,k≤3∧k≤s.size∧v=.int .i64 k∧Hid (r=sgnF s.data.toList k)) (fun v=>(intOf v).toNat)
  case atStart=>exact ⟨min 3 s.size,hm.1,hm.2,by congr 1;omega,H0⟩
  case round =>
    obtain ⟨k,hk3,hks,rfl,HK⟩:=hrel
    cases k with
    | zero =>
      go_wp2
      exact bodyPost_ret (v:=.tuple #[.agg #[.int .i64 0,.string ⟨#[]⟩,.int .i64 0,.int .i64 0],.int .i64 1]) (by simp [results,Tryz.results170,go_sem]) rfl (post_bad HK ((Below.refl _ _).alloc (Nat.le_refl _) _))
    | succ n =>
      have hS:=fun w=>isSign_any (s.extract 0 (n+1)) w
      rw [ext0_data] at hS
      cases hb:signB (s.data.toList.take (n+1)) with
      | true =>
        have HR:Hid (r=.tok 4 (n+1) 0):=HK.out.trans (if_pos hb)
        rw [hb] at hS
        clear HK hb
        go_wp2_with (go_at_call 215;refine (hS _).mono ?_;rintro e w' ⟨rfl,rfl⟩)
        exact bodyPost_ret (v:=.tuple #[.agg #[.int .i64 4,.string (s.extract 0 (n+1)),.int .i64 0,.int .i64 0],.int .i64 0]) (by simp [results,Tryz.results170,go_sem]) rfl (post_tok HR (ext0 s (n+1)) ((Below.refl _ _).alloc (Nat.le_refl _) _))
      | false =>
        have HR:Hid (r=sgnF s.data.toList n):=HK.out.trans (if_neg (by simp [hb]))
        rw [hb] at hS
        clear HK hb
        go_wp2_with (go_at_call 215;refine (hS _).mono ?_;rintro e w' ⟨rfl,rfl⟩)
        go_round
        case rel=>exact ⟨n,by omega,by omega,by go_num,HR⟩
        case measure=>simp [intOf]
end Tk
end
section
namespace Tk
open Go.RowKit

def fstT:List UInt8→Tk
  | []=>.bad 1
  | c :: l=>if digB c=true then numT ((c :: l).take (preN wordB (c :: l))) else if wordB c=true then wrdT ((c :: l).take (preN wordB (c :: l))) else if c=39 then chrT (c :: l) else sgnT (c :: l)

theorem tk_open {r:Tk}{l:List UInt8}{w w':World}{e:Ending}(h:TkPost r l w e w') :
    ∃ (k v c:Int) (t:ByteArray),e=.returned (.tuple #[.agg #[.int .i64 k,.string t,.int .i64 v,.int .i64 0],.int .i64 c])∧Hid (tkV l r=.agg #[.int .i64 k,.string t,.int .i64 v,.int .i64 0]∧tkCode r=c)∧Below w.heap.size w w':=by
  obtain ⟨rfl,hb⟩:=h
  cases r with
  | bad c=>exact ⟨_,_,_,_,rfl,⟨rfl,rfl⟩,hb⟩
  | tok k n v=>exact ⟨_,_,_,_,rfl,⟨rfl,rfl⟩,hb⟩
theorem post_open {r:Tk}{l:List UInt8}{w w':World}{k v c:Int}{t:ByteArray}
    (h:Hid (tkV l r=.agg #[.int .i64 k,.string t,.int .i64 v,.int .i64 0]∧tkCode r=c)) (hb:Below w.heap.size w w') :
    TkPost r l w (.returned (.tuple #[.agg #[.int .i64 k,.string t,.int .i64 v,.int .i64 0],.int .i64 c])) w':=by
  obtain ⟨h1,h2⟩:=h.out
  exact ⟨by rw [h1,h2],hb⟩
/-- a word that is the whole of its own text -/
def Full (r:Tk) (n:Nat):Prop:=∀ k m v,r=.tok k m v→m=n
theorem wrdT_full (t:List UInt8):Full (wrdT t) t.length:=by
  intro k m v h
  unfold wrdT at h
  split at h
  · cases h;rfl
  · split at h
    · cases h
    · cases h;rfl
theorem numD_full (b:Nat) (p:UInt8→Bool) (ds t:List UInt8):Full (numD b p ds t) t.length:=by
  intro k m v h
  unfold numD at h
  split at h
  · cases h
  · split at h
    · cases h;rfl
    · cases h
theorem numT_full (t:List UInt8):Full (numT t) t.length:=by
  intro k m v h
  unfold numT at h
  split at h
  · split at h
    · cases h
    · exact numD_full _ _ _ _ k m v h
  · exact numD_full _ _ _ _ k m v h
theorem full_tkV {r:Tk}{l:List UInt8}{n:Nat}(hn:n≤l.length) (h:Full r (l.take n).length):tkV (l.take n) r=tkV l r:=by
  cases r with
  | bad c=>rfl
  | tok k m v =>
    have:=h k m v rfl
    rw [List.length_take,Nat.min_eq_left hn] at this
    subst this
    simp only [tkV,List.take_take,Nat.min_self]
set_option maxHeartbeats 4000000 in
theorem fst_any (s:ByteArray) (w:World) (hs:s.size≤140737488355328) (te:TypeId) (pe:Value) (hv:w.cell? ⟨4,0,none⟩=some (.iface te pe)) :
    Calls Tryz.prog 110 #[.string s] w (TkPost (fstT s.data.toList) s.data.toList w):=by
  by_cases h0:s.size=0
  · have hemp:=emp_true h0
    have HR:Hid (fstT s.data.toList=.bad 1):=by show _=_;rw [(nil_iff s).2 h0];rfl
    go_enter Tryz.func110,Tryz.ntmps110
    go_wp2
    exact bodyPost_ret (v:=.tuple #[.agg #[.int .i64 0,.string ⟨#[]⟩,.int .i64 0,.int .i64 0],.int .i64 1]) (by simp [results,Tryz.results110,go_sem]) rfl (post_bad HR ((Below.refl _ _).alloc (Nat.le_refl _) _))
  · have hemp:=emp_false h0
    have hpos:0<s.size:=by omega
    obtain ⟨c,l,hL⟩ : ∃ c l,s.data.toList=c :: l:=by
      cases e:s.data.toList with
      | nil=>exact absurd ((nil_iff s).1 e) h0
      | cons c l=>exact ⟨c,l,rfl⟩
    have hc0:s[0]=c:=by have:=getD_idx s 0 hpos;rw [hL] at this;exact this.symm
    obtain ⟨n,hn⟩ : ∃ n,n=preN wordB s.data.toList:=⟨_,rfl⟩
    have hnle:n≤s.data.toList.length:=by rw [hn];exact preN_le _ _
    have hnsz:n≤s.size:=by rw [Lib.size_eq];exact hnle
    have hpre:=fun w=>pre_word s w (by unfold maxLen;omega)
    rw [← hn] at hpre
    have hd:(s.extract 0 n).data.toList=s.data.toList.take n:=ext0_data s n
    have hds:(s.extract 0 n).size≤140737488355328:=by rw [Lib.size_eq,hd,List.length_take];omega
    have hW:fstT s.data.toList=if digB c=true then numT (s.data.toList.take n) else if wordB c=true then wrdT (s.data.toList.take n) else if c=39 then chrT s.data.toList else sgnT s.data.toList:=by
      rw [hn,hL];rfl
    have hdg:=fun w=>dig_any s[0] w
    have hwd:=fun w=>word_any s[0] w
    rw [hc0] at hdg hwd
    rw [hW]
    clear hW hn hL h0
    cases h1:digB c with
    | true =>
      rw [h1] at hdg
      rw [if_pos rfl]
      have hN:=fun w hv=>num_any (s.extract 0 n) w hds te pe hv
      rw [hd] at hN
      have hT:=Lib.hid (full_tkV hnle (numT_full (s.data.toList.take n)))
      clear hd h1 hwd hnle
      generalize s.data.toList.take n=t at *
      generalize numT t=r at *
      go_enter Tryz.func110,Tryz.ntmps110
      go_wp2_with (first | (go_at_call 164;refine (hdg _).mono ?_;rintro e w' ⟨rfl,rfl⟩) | (go_at_call 166;refine (hpre _).mono ?_;rintro e w' ⟨rfl,rfl⟩) | (go_at_call 165;refine (hN _ (hv_alloc hv _)).mono ?_))
      intro e W2 hp
      obtain ⟨k,v,cd,x,rfl,HH,hb⟩:=tk_open hp
      obtain ⟨hc,hf⟩:=bcell hb
      have hsz2:=hb.size
      simp at hsz2
      clear hp
      go_wp2
      have HH2:Hid (tkV s.data.toList r=.agg #[.int .i64 k,.string x,.int .i64 v,.int .i64 0]∧tkCode r=cd):=⟨hT.out ▸ HH.out.1,HH.out.2⟩
      exact bodyPost_ret (v:=.tuple #[.agg #[.int .i64 k,.string x,.int .i64 v,.int .i64 0],.int .i64 cd]) (by simp [results,Tryz.results110,go_sem,hc]) rfl (post_open HH2 (below_set4 (below_call hb) _ _ _ _))
    | false =>
      rw [h1] at hdg
      rw [if_neg (by decide)]
      cases h2:wordB c with
      | true =>
        rw [h2] at hwd
        rw [if_pos rfl]
        have hN:=fun w=>wrd_any (s.extract 0 n) w (by unfold maxLen;omega)
        rw [hd] at hN
        have hT:=Lib.hid (full_tkV hnle (wrdT_full (s.data.toList.take n)))
        clear hd h1 h2 hnle
        generalize s.data.toList.take n=t at *
        generalize wrdT t=r at *
        go_enter Tryz.func110,Tryz.ntmps110
        go_wp2_with (first | (go_at_call 164;refine (hdg _).mono ?_;rintro e w' ⟨rfl,rfl⟩) | (go_at_call 167;refine (hwd _).mono ?_;rintro e w' ⟨rfl,rfl⟩) | (go_at_call 166;refine (hpre _).mono ?_;rintro e w' ⟨rfl,rfl⟩) | (go_at_call 168;refine (hN _).mono ?_))
        intro e W2 hp
        obtain ⟨k,v,cd,x,rfl,HH,hb⟩:=tk_open hp
        obtain ⟨hc,hf⟩:=bcell hb
        have hsz2:=hb.size
        simp at hsz2
        clear hp
        go_wp2
        have HH2:Hid (tkV s.data.toList r=.agg #[.int .i64 k,.string x,.int .i64 v,.int .i64 0]∧tkCode r=cd):=⟨hT.out ▸ HH.out.1,HH.out.2⟩
        exact bodyPost_ret (v:=.tuple #[.agg #[.int .i64 k,.string x,.int .i64 v,.int .i64 0],.int .i64 cd]) (by simp [results,Tryz.results110,go_sem,hc]) rfl (post_open HH2 (below_set4 (below_call hb) _ _ _ _))
      | false =>
        rw [h2] at hwd
        rw [if_neg (by decide)]
        by_cases h39:c=39
        · rw [if_pos h39]
          have e3:((s[0].toNat:Int) == 39)=true:=beq_of (by rw [hc0,h39];rfl)
          have hN:=fun w=>chr_any s w hs
          rw [← hc0] at hdg hwd
          clear h39 hd h1 h2 hnle hc0 hpre
          generalize chrT s.data.toList=r at *
          go_enter Tryz.func110,Tryz.ntmps110
          go_wp2_with (first | (go_at_call 164;refine (hdg _).mono ?_;rintro e w' ⟨rfl,rfl⟩) | (go_at_call 167;refine (hwd _).mono ?_;rintro e w' ⟨rfl,rfl⟩) | (go_at_call 169;refine (hN _).mono ?_))
          intro e W2 hp
          obtain ⟨k,v,cd,x,rfl,HH,hb⟩:=tk_open hp
          obtain ⟨hc,hf⟩:=bcell hb
          have hsz2:=hb.size
          simp at hsz2
          clear hp
          go_wp2
          exact bodyPost_ret (v:=.tuple #[.agg #[.int .i64 k,.string x,.int .i64 v,.int .i64 0],.int .i64 cd]) (by simp [results,Tryz.results110,go_sem,hc]) rfl (post_open HH (below_set4 (below_call hb) _ _ _ _))
        · rw [if_neg h39]
          have e3:((s[0].toNat:Int) == 39)=false:=by rw [hc0];exact u8_ne h39
          have hN:=fun w=>sgn_any s w hs
          rw [← hc0] at hdg hwd
          clear h39 hd h1 h2 hnle hc0 hpre
          generalize sgnT s.data.toList=r at *
          go_enter Tryz.func110,Tryz.ntmps110
          go_wp2_with (first | (go_at_call 164;refine (hdg _).mono ?_;rintro e w' ⟨rfl,rfl⟩) | (go_at_call 167;refine (hwd _).mono ?_;rintro e w' ⟨rfl,rfl⟩) | (go_at_call 170;refine (hN _).mono ?_))
          intro e W2 hp
          obtain ⟨k,v,cd,x,rfl,HH,hb⟩:=tk_open hp
          obtain ⟨hc,hf⟩:=bcell hb
          have hsz2:=hb.size
          simp at hsz2
          clear hp
          go_wp2
          exact bodyPost_ret (v:=.tuple #[.agg #[.int .i64 k,.string x,.int .i64 v,.int .i64 0],.int .i64 cd]) (by simp [results,Tryz.results110,go_sem,hc]) rfl (post_open HH (below_set4 (below_call hb) _ _ _ _))
end Tk
end
section
namespace Tk
open Go.RowKit

def cmtT (l:List UInt8):Int × Bool :=
  if Lib.hasPrefix l [47,47]=true then (preN nlB l,false)
  else if Lib.hasPrefix l [47,42]=false then (0,false)
  else if Lib.index (l.drop 2) [42,47] < 0 then (0,true)
  else (Lib.index (l.drop 2) [42,47] + 4,false)
inductive Skp where
  | skip (n:Nat)
  | opens
  | word
def skp:List UInt8→Skp
  | []=>.word
  | c :: l=>if blankB c=true then .skip 1 else if (cmtT (c :: l)).2=true then .opens else if (cmtT (c :: l)).1=0 then .word else .skip (cmtT (c :: l)).1.toNat
structure T4 where
  k:Nat
  t:List UInt8
  v:Nat
  a:Nat
inductive SR where
  | ok (l:List T4)
  | bad (code at':Nat)
inductive Scans:Nat→List UInt8→List T4→SR→Prop
  | done (p:Nat) (acc:List T4):Scans p [] acc (.ok acc)
  | skip {p:Nat} {l:List UInt8} {acc:List T4} {r:SR} {n:Nat} (h:skp l=.skip n) (k:Scans (p+n) (l.drop n) acc r):Scans p l acc r
  | opens {p:Nat} {l:List UInt8} {acc:List T4} (h:skp l=.opens):Scans p l acc (.bad 1 p)
  | much {p:Nat} {l:List UInt8} {acc:List T4} (h:skp l=.word) (hn:l≠[]) (hm:acc.length=800):Scans p l acc (.bad 10 p)
  | bad {p:Nat} {l:List UInt8} {acc:List T4} {c:Nat} (h:skp l=.word) (hn:l≠[]) (hm:acc.length≠800) (hf:fstT l=.bad c):Scans p l acc (.bad c p)
  | tok {p:Nat} {l:List UInt8} {acc:List T4} {r:SR} {k n v:Nat} (h:skp l=.word) (hn:l≠[]) (hm:acc.length≠800) (hf:fstT l=.tok k n v)
      (k':Scans (p+n) (l.drop n) (acc ++ [⟨k,l.take n,v,p⟩]) r):Scans p l acc r
theorem skp_nil:skp []=.word:=rfl
theorem Scans.det {p:Nat}{l:List UInt8}{acc:List T4}{r r':SR}(h:Scans p l acc r) (h':Scans p l acc r'):r=r':=by
  induction h generalizing r' with
  | done p acc =>
    cases h' with
    | done=>rfl
    | skip h=>simp [skp_nil] at h
    | opens h=>simp [skp_nil] at h
    | much h hn=>exact absurd rfl hn
    | bad h hn=>exact absurd rfl hn
    | tok h hn=>exact absurd rfl hn
  | skip h k ih =>
    cases h' with
    | done=>simp [skp_nil] at h
    | skip h2 k2=>rw [h] at h2;cases h2;exact ih k2
    | opens h2=>rw [h] at h2;cases h2
    | much h2=>rw [h] at h2;cases h2
    | bad h2=>rw [h] at h2;cases h2
    | tok h2=>rw [h] at h2;cases h2
  | opens h =>
    cases h' with
    | done=>simp [skp_nil] at h
    | skip h2 k2=>rw [h] at h2;cases h2
    | opens h2=>rfl
    | much h2=>rw [h] at h2;cases h2
    | bad h2=>rw [h] at h2;cases h2
    | tok h2=>rw [h] at h2;cases h2
  | much h hn hm =>
    cases h' with
    | done=>exact absurd rfl hn
    | skip h2 k2=>rw [h] at h2;cases h2
    | opens h2=>rw [h] at h2;cases h2
    | much=>rfl
    | bad _ _ hm2=>exact absurd hm hm2
    | tok _ _ hm2=>exact absurd hm hm2
  | bad h hn hm hf =>
    cases h' with
    | done=>exact absurd rfl hn
    | skip h2 k2=>rw [h] at h2;cases h2
    | opens h2=>rw [h] at h2;cases h2
    | much _ _ hm2=>exact absurd hm2 hm
    | bad _ _ _ hf2=>rw [hf] at hf2;cases hf2;rfl
    | tok _ _ _ hf2=>rw [hf] at hf2;cases hf2
  | tok h hn hm hf k' ih =>
    cases h' with
    | done=>exact absurd rfl hn
    | skip h2 k2=>rw [h] at h2;cases h2
    | opens h2=>rw [h] at h2;cases h2
    | much _ _ hm2=>exact absurd hm2 hm
    | bad _ _ _ hf2=>rw [hf] at hf2;cases hf2
    | tok _ _ _ hf2 k2=>rw [hf] at hf2;cases hf2;exact ih k2

theorem cmtT_bd (l:List UInt8):0≤(cmtT l).1∧(cmtT l).1≤l.length∧((cmtT l).2=true→(cmtT l).1=0):=by
  unfold cmtT
  split
  · exact ⟨by simp,by have:=preN_le nlB l;simp;omega,by simp⟩
  · split
    · simp
    · split
      · simp
      · rename_i h1 h2 h3
        have:=Lib.index_room (l.drop 2) [42,47] (by omega)
        simp at this
        have h42:2≤l.length:=by
          simp [Lib.hasPrefix] at h2
          have:=h2.length_le
          simpa using this
        exact ⟨by simp;omega,by simp;omega,by simp⟩

set_option maxHeartbeats 4000000 in
theorem cmt_any (s:ByteArray) (w:World) (hs:s.size<4294967281) (hsh:w.ShapedOpen Tryz.prog) :
    Calls Tryz.prog 219 #[.string s] w fun e w'=>e=.returned (.tuple #[.int .i64 (cmtT s.data.toList).1,.bool (cmtT s.data.toList).2])∧w=w':=by
  obtain ⟨r,hr⟩ : ∃ r,r=cmtT s.data.toList:=⟨_,rfl⟩
  rw [← hr]
  unfold cmtT at hr
  have hp1:=fun w=>Tryz.strings_HasPrefix s ⟨#[47,47]⟩ w
  have hp2:=fun w=>Tryz.strings_HasPrefix s ⟨#[47,42]⟩ w
  have hi:=fun w h h2=>Tryz.strings_Index_shaped (s.extract 2 s.size) ⟨#[42,47]⟩ w h h2
  have e1:(⟨#[47,47]⟩ : ByteArray).data.toList=[47,47]:=rfl
  have e2:(⟨#[47,42]⟩ : ByteArray).data.toList=[47,42]:=rfl
  have e3:(⟨#[42,47]⟩ : ByteArray).data.toList=[42,47]:=rfl
  rw [e1] at hp1
  rw [e2] at hp2
  rw [e3] at hi
  clear e1 e2 e3
  cases h1:Lib.hasPrefix s.data.toList [47,47] with
  | true =>
    rw [if_pos h1] at hr
    rw [h1] at hp1
    have hN:=fun w=>pre_nl s w (by unfold maxLen;omega)
    have HR:=Lib.hid hr
    clear hr h1 hp2 hi
    generalize preN nlB s.data.toList=n at *
    go_enter Tryz.func219,Tryz.ntmps219
    go_wp2_with (first | (go_at_call 243;refine (hp1 _).mono ?_;rintro e w' ⟨rfl,rfl⟩) | (go_at_call 166;refine (hN _).mono ?_;rintro e w' ⟨rfl,rfl⟩))
    go_ret2
    exact ⟨by rw [HR.out];rfl,rfl⟩
  | false =>
    rw [if_neg (by simp [h1])] at hr
    rw [h1] at hp1
    cases h2:Lib.hasPrefix s.data.toList [47,42] with
    | false =>
      rw [if_pos h2] at hr
      rw [h2] at hp2
      have HR:=Lib.hid hr
      clear hr h1 h2 hi
      go_enter Tryz.func219,Tryz.ntmps219
      go_wp2_with (first | (go_at_call 243;first | ((with_reducible refine (hp1 _).mono ?_);rintro e w' ⟨rfl,rfl⟩) | ((with_reducible refine (hp2 _).mono ?_);rintro e w' ⟨rfl,rfl⟩)))
      go_ret2
      exact ⟨by rw [HR.out];rfl,rfl⟩
    | true =>
      rw [if_neg (by simp [h2])] at hr
      rw [h2] at hp2
      have hd:(s.extract 2 s.size).data.toList=s.data.toList.drop 2:=by
        rw [Lib.extract_data,List.take_of_length_le (by rw [List.length_drop,Lib.size_eq];omega)]
      have hds:(s.extract 2 s.size).size<4294967281:=by rw [Lib.size_eq,hd,List.length_drop,← Lib.size_eq];omega
      have h2s:2≤s.size:=by
        simp [Lib.hasPrefix] at h2
        have:=h2.length_le
        rw [Lib.size_eq];simpa using this
      have hx1:=Lib.index_ge (s.data.toList.drop 2) [42,47]
      have hx2:Lib.index (s.data.toList.drop 2) [42,47]≤s.size:=by
        by_cases h:0≤Lib.index (s.data.toList.drop 2) [42,47]
        · have:=Lib.index_room (s.data.toList.drop 2) [42,47] h
          rw [List.length_drop,← Lib.size_eq] at this;omega
        · omega
      rw [hd] at hi
      clear h1 h2 hd
      generalize Lib.index (s.data.toList.drop 2) [42,47]=x at *
      by_cases hx:x<0
      · rw [if_pos hx] at hr
        have HR:=Lib.hid hr
        clear hr
        go_enter Tryz.func219,Tryz.ntmps219
        go_wp2_with (first | (go_at_call 243;first | ((with_reducible refine (hp1 _).mono ?_);rintro e w' ⟨rfl,rfl⟩) | ((with_reducible refine (hp2 _).mono ?_);rintro e w' ⟨rfl,rfl⟩)) | (go_at_call 245;refine (hi _ hsh hds).mono ?_;rintro e w' ⟨rfl,rfl⟩))
        go_ret2
        exact ⟨by rw [HR.out];rfl,rfl⟩
      · rw [if_neg hx] at hr
        have HR:=Lib.hid hr
        clear hr
        go_enter Tryz.func219,Tryz.ntmps219
        go_wp2_with (first | (go_at_call 243;first | ((with_reducible refine (hp1 _).mono ?_);rintro e w' ⟨rfl,rfl⟩) | ((with_reducible refine (hp2 _).mono ?_);rintro e w' ⟨rfl,rfl⟩)) | (go_at_call 245;refine (hi _ hsh hds).mono ?_;rintro e w' ⟨rfl,rfl⟩))
        go_ret2
        exact ⟨by rw [HR.out];rfl,rfl⟩

end Tk
end
section
namespace Tk
open Go.RowKit

/-- n bytes are left out; behind them a comment opens that does not close, or a word begins, or the text is at its end -/
def Gap (l:List UInt8) (n:Nat) (o:Bool):Prop :=
  n≤l.length∧(∀ p acc r,Scans (p+n) (l.drop n) acc r→Scans p l acc r)∧(o=true→skp (l.drop n)=.opens)∧(o=false→l.drop n=[]∨skp (l.drop n)=.word)
def GapR (l:List UInt8) (n:Nat):Prop:=n≤l.length∧(∀ p acc r,Scans (p+n) (l.drop n) acc r→Scans p l acc r)
theorem gapR_zero (l:List UInt8):GapR l 0:=⟨Nat.zero_le _,fun _ _ _ h=>h⟩
theorem gapR_skip {l:List UInt8}{n m:Nat}(h:GapR l n) (hs:skp (l.drop n)=.skip m) (hm:n+m≤l.length):GapR l (n+m) :=
  ⟨hm,fun p acc r hr=>h.2 p acc r (.skip hs (by rw [List.drop_drop];rw [Nat.add_assoc];exact hr))⟩
theorem skp_blank {c:UInt8}{l:List UInt8}(h:blankB c=true):skp (c :: l)=.skip 1:=if_pos h
theorem skp_open {c:UInt8}{l:List UInt8}(h:blankB c=false) (h2:(cmtT (c :: l)).2=true):skp (c :: l)=.opens:=by
  simp only [skp];rw [if_neg (by simp [h]),if_pos h2]
theorem skp_word {c:UInt8}{l:List UInt8}(h:blankB c=false) (h2:(cmtT (c :: l)).2=false) (h3:(cmtT (c :: l)).1=0):skp (c :: l)=.word:=by
  simp only [skp];rw [if_neg (by simp [h]),if_neg (by simp [h2]),if_pos h3]
theorem skp_more {c:UInt8}{l:List UInt8}(h:blankB c=false) (h2:(cmtT (c :: l)).2=false) (h3:(cmtT (c :: l)).1≠0):skp (c :: l)=.skip (cmtT (c :: l)).1.toNat:=by
  simp only [skp];rw [if_neg (by simp [h]),if_neg (by simp [h2]),if_neg h3]
theorem extE_data (s:ByteArray) (k:Nat):(s.extract k s.size).data.toList=s.data.toList.drop k:=by
  rw [Lib.extract_data,List.take_of_length_le (by rw [List.length_drop,Lib.size_eq];omega)]
theorem extE_size (s:ByteArray) (k:Nat):(s.extract k s.size).size=s.size-k:=by
  rw [Lib.size_eq,extE_data,List.length_drop,← Lib.size_eq]
def GapPost (s:ByteArray) (w:World) (e:Ending) (w':World):Prop :=
  ∃ n o,e=.returned (.tuple #[.int .i64 (n:Nat),.bool o])∧Gap s.data.toList n o∧w=w'

set_option maxHeartbeats 4000000 in
theorem gap_any (s:ByteArray) (w:World) (hs:s.size<4294967281) (hsh:w.ShapedOpen Tryz.prog) :
    Calls Tryz.prog 175 #[.string s] w (GapPost s w):=by
  have hsz:=Lib.hid (Lib.size_eq s)
  go_enter Tryz.func175,Tryz.ntmps175
  go_wp2
  go_loop [2,3] (fun v o=>∃ k:Nat,k≤s.size∧v=.int .i64 k∧o=.bool false∧Hid (GapR s.data.toList k)) (fun v _=>s.size-(intOf v).toNat)
  case atStart=>exact ⟨0,Nat.zero_le _,rfl,rfl,gapR_zero _⟩
  case round =>
    obtain ⟨k,hk,rfl,rfl,HK⟩:=hrel
    by_cases hlt:k<s.size
    · have hl:k<s.data.toList.length:=by have:=hsz.out;omega
      have hdrop:s.data.toList.drop k=s[k] :: s.data.toList.drop (k+1):=List.drop_eq_getElem_cons hl
      have hB:=fun w=>blank_any s[k] w
      cases hb:blankB s[k] with
      | true =>
        have HN:Hid (GapR s.data.toList (k+1)):=gapR_skip HK.out (by rw [hdrop];exact skp_blank hb) (by omega)
        rw [hb] at hB
        clear HK hb hdrop
        go_wp2_with (go_at_call 218;refine (hB _).mono ?_;rintro e w' ⟨rfl,rfl⟩)
        go_round
        case rel=>exact ⟨k+1,by omega,by go_num,rfl,HN⟩
        case measure=>simp [intOf];omega
      | false =>
        rw [hb] at hB
        have hC:=fun w h=>cmt_any (s.extract k s.size) w (by rw [extE_size];omega) h
        rw [extE_data] at hC
        obtain ⟨b0,b1,b2⟩:=cmtT_bd (s.data.toList.drop k)
        rw [List.length_drop] at b1
        have ho:=fun h2=>(congrArg skp hdrop).trans (skp_open hb (l:=s.data.toList.drop (k+1)) h2)
        have hw:=fun h2 h3=>(congrArg skp hdrop).trans (skp_word hb (l:=s.data.toList.drop (k+1)) h2 h3)
        have hm:=fun h2 h3=>(congrArg skp hdrop).trans (skp_more hb (l:=s.data.toList.drop (k+1)) h2 h3)
        rw [← hdrop] at ho hw hm
        clear hb hdrop
        generalize cmtT (s.data.toList.drop k)=q at *
        obtain ⟨x,o⟩:=q
        simp only at b0 b1 b2 ho hw hm hC
        have hxs:x≤s.size:=by have:=hsz.out;omega
        cases o with
        | true =>
          have hx0:=b2 rfl
          have HG:Hid (Gap s.data.toList k true):=⟨HK.out.1,HK.out.2,fun _=>ho rfl,(fun h=>by cases h)⟩
          subst hx0
          clear HK ho hw hm b1 b2
          go_wp2_with (first | (go_at_call 218;refine (hB _).mono ?_;rintro e w' ⟨rfl,rfl⟩) | (go_at_call 219;refine (hC _ hsh).mono ?_;rintro e w' ⟨rfl,rfl⟩))
          go_ret2
          exact ⟨k,true,rfl,HG.out,rfl⟩
        | false =>
          by_cases hx0:x=0
          · have HG:Hid (Gap s.data.toList k false):=⟨HK.out.1,HK.out.2,(fun h=>by cases h),fun _=>Or.inr (hw rfl hx0)⟩
            subst hx0
            clear HK ho hw hm b1 b2
            go_wp2_with (first | (go_at_call 218;refine (hB _).mono ?_;rintro e w' ⟨rfl,rfl⟩) | (go_at_call 219;refine (hC _ hsh).mono ?_;rintro e w' ⟨rfl,rfl⟩))
            go_ret2
            exact ⟨k,false,rfl,HG.out,rfl⟩
          · obtain ⟨m,rfl⟩ : ∃ m:Nat,x=m:=⟨x.toNat,by omega⟩
            have hmk:k+m≤s.size:=by have:=hsz.out;omega
            have HN:Hid (GapR s.data.toList (k+m)):=gapR_skip HK.out (by have:=hm rfl hx0;simpa using this) (by omega)
            have hm1:1≤m:=by omega
            have hx1:((m:Int) == 0)=false:=beq_of_ne hx0
            clear HK ho hw hm b1 b2 hx0
            go_wp2_with (first | (go_at_call 218;refine (hB _).mono ?_;rintro e w' ⟨rfl,rfl⟩) | (go_at_call 219;refine (hC _ hsh).mono ?_;rintro e w' ⟨rfl,rfl⟩))
            go_round
            case rel=>exact ⟨k+m,by omega,by go_num,rfl,HN⟩
            case measure=>simp [intOf];omega
    · have HG:Hid (Gap s.data.toList k false):=⟨HK.out.1,HK.out.2,(fun h=>by cases h),fun _=>Or.inl (List.drop_eq_nil_of_le (by have:=hsz.out;omega))⟩
      clear HK
      go_wp2
      go_ret2
      exact ⟨k,false,rfl,HG.out,rfl⟩
end Tk
end
section
open Tk (T4)

/-- a node, without where it lies -/
structure Mn where
  k:Int
  t:List UInt8
  n:Int
  z:Int
  c:List Int
  a:Int
/-- the words that are left, the nodes, those that are kids of none -/
structure S3 where
  L:List T4
  N:List Mn
  O:List Int
inductive R3 where
  | ok (s:S3)
  | bad (c a:Int)
  | out
abbrev F3:=S3→R3
def pk (E:Nat):List T4→T4
  | []=>⟨0,[],0,E⟩
  | x :: _=>x
def R3.bind (r:R3) (f:F3):R3:=match r with | .ok s=>f s | .bad c a=>.bad c a | .out=>.out
def seqF:List F3→F3
  | []=>.ok
  | f :: fs=>fun s=>(f s).bind (seqF fs)
def wrongF (E:Nat):F3:=fun s=>.bad 1 (pk E s.L).a
def wordF (E:Nat) (t:List UInt8):F3:=fun s=>if (pk E s.L).t=t then .ok { s with L:=s.L.tail } else wrongF E s
def addF (x:Mn) (mark:Nat):F3:=fun s =>
  if s.O.length<mark∨5000000≤s.N.length then .out else .ok { s with N:=s.N ++ [{ x with c:=s.O.drop mark }],O:=s.O.take mark ++ [(s.N.length:Int)] }
def extF (mark:Nat) (x:Mn) (fs:List F3):F3:=fun s=>(seqF fs s).bind (addF x mark)
def buildF (x:Mn) (fs:List F3):F3:=fun s=>extF s.O.length x fs s

def levelT (t:List UInt8):Nat :=
  if t=[124,124] then 2 else if t=[38,38] then 3 else if t=[124] then 4 else if t=[94] then 5 else if t=[38] then 6
  else if t=[61,61]∨t=[33,61] then 7 else if t=[60]∨t=[60,61]∨t=[62]∨t=[62,61] then 8 else if t=[60,60]∨t=[62,62] then 9
  else if t=[43]∨t=[45] then 10 else if t=[42]∨t=[47]∨t=[37] then 11 else 0
def pairK (l:Nat):Int:=if l=2∨l=3 then 37 else 36
def prefT (t:List UInt8):Int:=if t=[45]∨t=[33]∨t=[126]∨t=[42]∨t=[38] then 35 else if t=[43,43]∨t=[45,45] then 40 else 0
def setT (t:List UInt8):Bool:=decide (t ∈ [[61],[43,61],[45,61],[42,61],[47,61],[37,61],[38,61],[124,61],[94,61],[60,60,61],[62,62,61]])

/-- a node of a kind, with a text, at a place -/
def mk (k:Int) (t:List UInt8) (n:Int) (a:Int):Mn:=⟨k,t,n,0,[],a⟩

inductive Job where
  | expr
  | pairs (low:Nat)
  | pairsL (low mark:Nat)
  | prefixed
  | postfixed
  | postL (mark:Nat)
  | primary
  | list (open_ end_:List UInt8) (item:Job)
  | items (end_:List UInt8) (item:Job)

def stepJ (E:Nat) (rec:Job→F3):Job→F3
  | .expr=>fun s=>(rec (.pairs 2) s).bind fun s1 =>
      if (pk E s1.L).t=[63] then extF s.O.length (mk 38 [] 0 (pk E s1.L).a) [wordF E [63],rec .expr,wordF E [58],rec .expr] s1
      else if setT (pk E s1.L).t=true then extF s.O.length (mk 39 (pk E s1.L).t 0 (pk E s1.L).a) [wordF E (pk E s1.L).t,rec .expr] s1
      else .ok s1
  | .pairs low=>fun s=>if 1000<low then .out else (rec .prefixed s).bind (rec (.pairsL low s.O.length))
  | .pairsL low mark=>fun s=>if low≤levelT (pk E s.L).t then
      (extF mark (mk (pairK (levelT (pk E s.L).t)) (pk E s.L).t 0 (pk E s.L).a) [rec (.pairs (levelT (pk E s.L).t+1))] { s with L:=s.L.tail }).bind (rec (.pairsL low mark)) else .ok s
  | .prefixed=>fun s=>if prefT (pk E s.L).t=0 then rec .postfixed s else buildF (mk (prefT (pk E s.L).t) (pk E s.L).t 0 (pk E s.L).a) [wordF E (pk E s.L).t,rec .prefixed] s
  | .postfixed=>fun s=>(rec .primary s).bind (rec (.postL s.O.length))
  | .postL mark=>fun s =>
      if (pk E s.L).t=[91] then (extF mark (mk 34 [] 0 (pk E s.L).a) [wordF E [91],rec .expr,wordF E [93]] s).bind (rec (.postL mark))
      else if (pk E s.L).t=[43,43]∨(pk E s.L).t=[45,45] then (addF (mk 40 (pk E s.L).t 1 (pk E s.L).a) mark { s with L:=s.L.tail }).bind (rec (.postL mark))
      else .ok s
  | .primary=>fun s =>
      if (pk E s.L).k=2 then buildF (mk 31 [] (pk E s.L).v (pk E s.L).a) [] { s with L:=s.L.tail }
      else if (pk E s.L).k=1 then
        if (pk E s.L.tail).t=[40] then buildF (mk 33 (pk E s.L).t 0 (pk E s.L).a) [rec (.list [40] [41] .expr)] { s with L:=s.L.tail }
        else buildF (mk 32 (pk E s.L).t 0 (pk E s.L).a) [] { s with L:=s.L.tail }
      else seqF [wordF E [40],rec .expr,wordF E [41]] s
  | .list o e item=>fun s=>(wordF E o s).bind fun s1=>if (pk E s1.L).t=e then .ok { s1 with L:=s1.L.tail } else rec (.items e item) s1
  | .items e item=>fun s=>(rec item s).bind fun s1=>if (pk E s1.L).t=[44] then rec (.items e item) { s1 with L:=s1.L.tail } else wordF E e s1
def runJ (E:Nat):Nat→Job→F3
  | 0=>fun _ _=>.out
  | n+1=>stepJ E (runJ E n)
end
section
namespace Tk
open Go.RowKit

theorem sh_below {w w':World}(h:w.ShapedOpen Tryz.prog) (hb:Below w.heap.size w w'):w'.ShapedOpen Tryz.prog :=
  h.keptBut (may:=fun _=>False) (hb.frame _) (fun _ f=>f.elim)
theorem sh_alloc {w:World}(h:w.ShapedOpen Tryz.prog) (o:Obj):(w.alloc o).ShapedOpen Tryz.prog:=sh_below h ((Below.refl _ _).alloc (Nat.le_refl _) _)

/-- below block B, but for block x, the world is as it was -/
structure GB (x B:Nat) (w w':World):Prop where
  os:w'.os=w.os
  tape:w'.tape=w.tape
  output:w'.output=w.output
  size:w.heap.size≤w'.heap.size
  block:∀ k,k<B→k≠x→w'.heap[k]? = w.heap[k]?
theorem GB.refl (x B:Nat) (w:World):GB x B w w:=⟨rfl,rfl,rfl,Nat.le_refl _,fun _ _ _=>rfl⟩
theorem GB.trans {x B:Nat}{a b c:World}(h:GB x B a b) (k:GB x B b c):GB x B a c :=
  ⟨k.os.trans h.os,k.tape.trans h.tape,k.output.trans h.output,Nat.le_trans h.size k.size,fun i hi hx=>(k.block i hi hx).trans (h.block i hi hx)⟩
theorem GB.below {x B C:Nat}{a b c:World}(h:GB x B a b) (k:Below C b c) (hC:B≤C):GB x B a c :=
  h.trans ⟨k.os,k.tape,k.output,k.size,fun i hi _=>k.block i (by omega)⟩
theorem GB.drew {x B:Nat}{a w:World}(h:GB x B a w):GB x B a w.drew:=⟨h.os,h.tape,h.output,h.size,h.block⟩
theorem GB.alloc {x B:Nat}{a w:World}(h:GB x B a w) (hB:B≤w.heap.size) (o:Obj):GB x B a (w.alloc o) :=
  h.below ((Below.refl w.heap.size w).alloc (Nat.le_refl _) o) hB
theorem GB.setCell {x B:Nat}{a w:World}(h:GB x B a w) {p:Addr}(hp:p.block=x∨B≤p.block) (u:Value):GB x B a (w.setCell p u) :=
  h.trans ⟨rfl,rfl,rfl,by simp [World.setCell],fun k hk hx=>Below.heap_setCell _ _ _ _ (by rcases hp with h | h <;> omega)⟩
theorem gb_set_alloc (w:World) (x:Nat) (u:Value) (o:Obj):GB x w.heap.size w ((w.setCell ⟨x,0,none⟩ u).alloc o):=by
  refine GB.alloc (GB.setCell (p:=⟨x,0,none⟩) (GB.refl _ _ _) (Or.inl rfl) _) ?_ _
  simp [World.setCell]
theorem one_set_alloc {w:World}{b:Nat}{v u:Value}{t:TypeId}(h:w.heap[b]? = some (.cells #[v] t (0,0))) (o:Obj):((w.setCell ⟨b,0,none⟩ u).alloc o).heap[b]? = some (.cells #[u] t (0,0)):=by
  rw [Below.heap_alloc _ _ _ (by simpa [World.setCell] using lt_of_block h)];exact one_setCell h
theorem GB.grown {x:Nat}{w w':World}(h:GB x w.heap.size w w'):w.grownBy w' (some x) :=
  ⟨h.os,h.tape,h.output,h.size,fun k hk hx=>h.block k hk (fun e=>hx (by rw [e]))⟩

/-- what skip leaves: the place has gone on by n bytes -/
def SkipPost (s:ByteArray) (k ba:Nat) (w:World) (e:Ending) (w':World):Prop :=
  ∃ n o,e=.returned (.tuple #[.int .i64 (if o=true then 0 else ((k+n:Nat):Int)),.agg #[.int .i64 (if o=true then 1 else 0),.int .i64 (if o=true then ((k+n:Nat):Int) else 0)]])∧Gap (s.data.toList.drop k) n o∧w.grownBy w' (some ba)∧w'.heap[ba]? = some (.cells #[.int .i64 ((k+n:Nat):Int)] 3 (0,0))

set_option maxHeartbeats 4000000 in
theorem skip_any (s:ByteArray) (k bt ba:Nat) (w:World) (hs:s.size≤2000) (hk:k≤s.size) (hsh:w.ShapedOpen Tryz.prog)
    (hT:w.heap[bt]? = some (.cells #[.string s] 9 (0,0))) (hA:w.heap[ba]? = some (.cells #[.int .i64 k] 3 (0,0))) :
    Calls Tryz.prog 174 #[.pointer (some ⟨bt,0,none⟩),.pointer (some ⟨ba,0,none⟩)] w (SkipPost s k ba w):=by
  have hbt:=lt_of_block hT
  have hba:=lt_of_block hA
  have cT:=cell_of_one hT
  have cA:=cell_of_one hA
  have fA:=free_of_one hA
  have hG:=fun w h=>gap_any (s.extract k s.size) w (by rw [extE_size];omega) h
  have hgl:=Lib.hid (extE_data s k)
  have hsz:=Lib.hid (Lib.size_eq s)
  have HA:=Lib.hid hA
  clear hT hA
  go_enter Tryz.func174,Tryz.ntmps174
  go_wp2_with (go_at_call 175;refine (hG _ (sh_alloc hsh _)).mono ?_)
  rintro e w2 ⟨n,o,rfl,hg,rfl⟩
  rw [hgl.out] at hg
  have hn:k+n≤s.size:=by have:=hg.1;rw [List.length_drop] at this;have:=hsz.out;omega
  have Hg:=Lib.hid hg
  clear hg
  cases o with
  | false =>
    go_wp2
    refine bodyPost_ret (v:=.tuple #[.int .i64 (k+n),.agg #[.int .i64 0,.int .i64 0]]) (by simp [results,Tryz.results174,go_sem]) rfl ?_
    exact ⟨n,false,rfl,Hg.out,GB.grown (gb_set_alloc _ _ _ _),one_set_alloc HA.out _⟩
  | true =>
    go_wp2
    go_region
    all_goals go_wp2
    refine bodyPost_ret (v:=.tuple #[.int .i64 0,.agg #[.int .i64 1,.int .i64 (k+n)]]) (by simp [results,Tryz.results174,go_sem]) rfl ?_
    exact ⟨n,true,rfl,Hg.out,GB.grown (gb_set_alloc _ _ _ _).drew,one_set_alloc HA.out _⟩

set_option maxHeartbeats 400000 in
theorem clone_any (s:ByteArray) (w:World) (hlim:s.size≤281474976710656) :
    Calls Tryz.prog 177 #[.string s] w fun e w'=>e=.returned (.string s)∧Below w.heap.size w w':=by
  go_enter Tryz.func177,Tryz.ntmps177
  go_wp2_with (go_at_call 220;refine (Tryz.stringslite_Clone _ _ hlim).mono ?_;rintro e w' ⟨rfl,hb⟩)
  go_ret
  exact ⟨rfl,hb⟩

theorem preN_pos {p:UInt8→Bool}{c:UInt8}{l:List UInt8}(h:p c=true):1≤preN p (c :: l):=by
  unfold preN;rw [List.takeWhile_cons,if_pos h];simp
theorem dig_word {c:UInt8}(h:digB c=true):wordB c=true:=by simp [digB,wordB] at *;omega
theorem sgnF_bad {l:List UInt8}{m c:Nat}(h:sgnF l m=.bad c):c≠0:=by
  induction m with
  | zero=>cases h;decide
  | succ n ih =>
    unfold sgnF at h
    split at h
    · cases h
    · exact ih h
theorem sgnF_tok {l:List UInt8}{m k n v:Nat}(h:sgnF l m=.tok k n v):1≤n∧n≤m:=by
  induction m with
  | zero=>cases h
  | succ j ih =>
    unfold sgnF at h
    split at h
    · cases h;omega
    · have:=ih h;omega
theorem numD_bad {b:Nat}{p:UInt8→Bool}{ds t:List UInt8}{c:Nat}(h:numD b p ds t=.bad c):c≠0:=by
  unfold numD at h
  split at h
  · cases h;decide
  · split at h
    · cases h
    · cases h;decide
theorem numT_bad {t:List UInt8}{c:Nat}(h:numT t=.bad c):c≠0:=by
  unfold numT at h
  split at h
  · split at h
    · cases h;decide
    · exact numD_bad h
  · exact numD_bad h
theorem chrT_cases (l:List UInt8):chrT l=.bad 1∨(4≤l.length∧∃ v,chrT l=.tok 2 4 v)∨(3≤l.length∧∃ v,chrT l=.tok 2 3 v):=by
  unfold chrT
  split
  · exact Or.inl rfl
  · split
    · split
      · exact Or.inl rfl
      · exact Or.inr (Or.inl ⟨by omega,_,rfl⟩)
    · split
      · split
        · exact Or.inl rfl
        · exact Or.inr (Or.inr ⟨by omega,_,rfl⟩)
      · exact Or.inl rfl
theorem fstT_bad {l:List UInt8}{c:Nat}(h:fstT l=.bad c):c≠0:=by
  cases l with
  | nil=>cases h;decide
  | cons x l =>
    simp only [fstT] at h
    split at h
    · exact numT_bad h
    · split at h
      · unfold wrdT at h
        split at h
        · cases h
        · split at h
          · cases h;decide
          · cases h
      · split at h
        · rcases chrT_cases (x :: l) with e | ⟨_,v,e⟩ | ⟨_,v,e⟩ <;> rw [e] at h <;> cases h
          decide
        · exact sgnF_bad h
theorem fstT_tok {l:List UInt8}{k n v:Nat}(h:fstT l=.tok k n v):1≤n∧n≤l.length:=by
  cases l with
  | nil=>cases h
  | cons x l =>
    have hle:=preN_le wordB (x :: l)
    simp only [fstT] at h
    split at h
    · rename_i hd
      have:=numT_full _ _ _ _ h
      have hp:=preN_pos (l:=l) (dig_word hd)
      rw [List.length_take] at this;omega
    · split at h
      · rename_i hd
        have:=wrdT_full _ _ _ _ h
        have hp:=preN_pos (l:=l) hd
        rw [List.length_take] at this;omega
      · split at h
        · rcases chrT_cases (x :: l) with e | ⟨_,v,e⟩ | ⟨_,v,e⟩ <;> rw [e] at h <;> cases h <;> omega
        · have:=sgnF_tok h;omega

/-- what take leaves: the word that stands there, and the place behind it -/
def TakePost (l:List UInt8) (k ba:Nat) (w:World) (e:Ending) (w':World):Prop :=
  w.grownBy w' (some ba) ∧
  ((∃ c,fstT l=.bad c∧e=.returned (.tuple #[.agg #[.int .i64 0,.string ⟨#[]⟩,.int .i64 0,.int .i64 0],.agg #[.int .i64 (c:Nat),.int .i64 k]])∧w'.heap[ba]? = some (.cells #[.int .i64 (k:Int)] 3 (0,0))) ∨
   (∃ kd n v,fstT l=.tok kd n v∧e=.returned (.tuple #[.agg #[.int .i64 (kd:Nat),.string (bstr (l.take n)),.int .i64 (v:Nat),.int .i64 k],.agg #[.int .i64 0,.int .i64 0]])∧w'.heap[ba]? = some (.cells #[.int .i64 ((k+n:Nat):Int)] 3 (0,0))))

end Tk
end
section
open Tk (T4)

/-- ends, and where it ends well this holds -/
def Fine (r:R3) (P:S3→Prop):Prop:=match r with | .ok s=>P s | .bad _ _=>True | .out=>False
theorem Fine.bind {r:R3}{f:F3}{P Q:S3→Prop}(h:Fine r P) (k:∀ s,P s→Fine (f s) Q):Fine (r.bind f) Q:=by
  cases r with
  | ok s=>exact k s h
  | bad c a=>trivial
  | out=>exact h.elim
theorem Fine.mono {r:R3}{P Q:S3→Prop}(h:Fine r P) (k:∀ s,P s→Q s):Fine r Q:=by
  cases r with
  | ok s=>exact k s h
  | bad c a=>trivial
  | out=>exact h.elim
theorem pk_pos {E:Nat}{L:List T4}(h:(pk E L).t≠[]):L≠[]:=fun e=>h (by rw [e];rfl)
theorem tail_lt {L:List T4}(h:L≠[]):L.tail.length+1=L.length:=by
  cases L with
  | nil=>exact absurd rfl h
  | cons a b=>simp
theorem word_fine {E:Nat}{t:List UInt8}(s:S3) (ht:t≠[]):Fine (wordF E t s) (fun s'=>s' = { s with L:=s.L.tail }∧s.L.tail.length+1=s.L.length):=by
  unfold wordF
  split
  · rename_i h
    exact ⟨rfl,tail_lt (pk_pos (E:=E) (by rw [h];exact ht))⟩
  · trivial
theorem bind_ok (s:S3) (f:F3):(R3.ok s).bind f=f s:=rfl
end
end Go.Proofs.YtdjpopebeenlmaaGreatDoor
