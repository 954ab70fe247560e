/-
  Joined texts of this claim: TkB, TrF, TkC.
-/
import Derived.Test.YtdjpopebeenlmaaGreatDoorW00
import Derived.Test.YtdjpopebeenlmaaGreatDoorW03
import Derived.Lib.Strings
import Derived.Lib.Hide
import Derived.Deep.Light
import Derived.Test.YtdjpopebeenlmaaGreatDoorW01
set_option maxHeartbeats 40000000
set_option maxRecDepth 100000
set_option linter.unusedVariables false
set_option linter.unusedSimpArgs false
namespace Go.Proofs.YtdjpopebeenlmaaGreatDoor
section
namespace Tk
open Go.RowKit

def keys:List (List UInt8):=[[105,110,116],[118,111,105,100],[105,102],[101,108,115,101],[119,104,105,108,101],[100,111],[102,111,114],[115,119,105,116,99,104],[99,97,115,101],[100,101,102,97,117,108,116],[98,114,101,97,107],[99,111,110,116,105,110,117,101],[114,101,116,117,114,110]]
def keyB (l:List UInt8):Bool:=keys.contains l

def signs:List (List UInt8):=[[60,60,61],[62,62,61],[60,60],[62,62],[60,61],[62,61],[61,61],[33,61],[38,38],[124,124],[43,61],[45,61],[42,61],[47,61],[37,61],[38,61],[94,61],[124,61],[43,43],[45,45],[43],[45],[42],[47],[37],[38],[124],[94],[126],[33],[60],[62],[61],[63],[58],[59],[44],[40],[41],[91],[93],[123],[125]]
def signB (l:List UInt8):Bool:=signs.contains l

set_option maxHeartbeats 1000000 in
theorem isKey_any (s:ByteArray) (w:World) :
    Calls Tryz.prog 212 #[.string s] w fun e w'=>e=.returned (.bool (keyB s.data.toList))∧w=w':=by
  have hl:Hid (s.toList=s.data.toList):=Lib.hid (Lib.toList_data s)
  go_enter Tryz.func212,Tryz.ntmps212
  go_wp2
  all_goals go_ret
  all_goals (have h2:=hl.out;clear hl;exact ⟨ret_bool (by rw [← h2];clear h2;go_light;simp_all [keyB,keys]),rfl⟩)

set_option maxHeartbeats 4000000 in
set_option maxRecDepth 10000 in
theorem isSign_any (s:ByteArray) (w:World) :
    Calls Tryz.prog 215 #[.string s] w fun e w'=>e=.returned (.bool (signB s.data.toList))∧w=w':=by
  have hl:Hid (s.toList=s.data.toList):=Lib.hid (Lib.toList_data s)
  go_enter Tryz.func215,Tryz.ntmps215
  go_wp2
  all_goals go_ret
  all_goals (have h2:=hl.out;clear hl;exact ⟨ret_bool (by rw [← h2];clear h2;go_light;simp_all [signB,signs]),rfl⟩)
end Tk
end
section
namespace Tr
open Go.RowKit

theorem nameB_yes {s:ByteArray}(h0:0<s.size) (h1:s.size≤12) (h2:digB s[0]=false) (h3:∀ j,(hj:j<s.size)→byteB s[j]=true):nameB s=true:=decide_eq_true ⟨h0,h1,h2,h3⟩
theorem nameB_empty {s:ByteArray}(h:s.size=0):nameB s=false:=decide_eq_false (by rintro ⟨h0,_⟩;omega)
theorem nameB_long {s:ByteArray}(h:12<s.size):nameB s=false:=decide_eq_false (by rintro ⟨_,h0,_⟩;omega)
theorem nameB_dig {s:ByteArray}(h0:0<s.size) (h:digB s[0]=true):nameB s=false:=decide_eq_false (by rintro ⟨_,_,h2,_⟩;rw [h] at h2;cases h2)
theorem nameB_byte {s:ByteArray}{j:Nat}(hj:j<s.size) (h:byteB s[j]=false):nameB s=false:=decide_eq_false (by rintro ⟨_,_,_,h2⟩;rw [h2 j hj] at h;cases h)
theorem byte_cases (c:UInt8):(byteB c=true∧digB c=true)∨(byteB c=true∧digB c=false∧letB c=true)∨(byteB c=true∧digB c=false∧letB c=false∧((c.toNat:Int) != 95)=false∧((c.toNat:Int) == 95)=true)∨(byteB c=false∧digB c=false∧letB c=false∧((c.toNat:Int) != 95)=true∧((c.toNat:Int) == 95)=false):=by
  simp only [byteB,digB,letB,decide_eq_true_eq,decide_eq_false_iff_not,bne_iff_ne,beq_iff_eq,ne_eq,bne_eq_false_iff_eq,beq_eq_false_iff_ne];omega
theorem toList_nil {s:ByteArray}(h:s.size=0):s.toList=[]:=by
  rw [Lib.toList_data];apply List.eq_nil_of_length_eq_zero;rw [← Lib.size_eq];exact h
theorem toList_ne {s:ByteArray}(h:0<s.size):s.toList.isEmpty=false:=by
  rw [Lib.toList_data]
  cases hd:s.data.toList with
  | nil=>have:=Lib.size_eq s;rw [hd,List.length_nil] at this;omega
  | cons _ _=>rfl

set_option maxHeartbeats 800000 in
theorem name_any (s:ByteArray) (w:World) :
    Calls Tryz.prog 205 #[.string s] w fun e w'=>e=.returned (.bool (nameB s))∧w=w':=by
  by_cases h0:s.size=0
  · have HR:=Lib.hid (nameB_empty h0)
    have he:=toList_nil h0
    clear h0
    go_enter Tryz.func205,Tryz.ntmps205
    go_wp2
    go_ret
    exact ⟨ret_bool HR.out.symm,rfl⟩
  · have hp:0<s.size:=by omega
    have he:=toList_ne hp
    clear h0
    by_cases hl:12<s.size
    · have HR:=Lib.hid (nameB_long hl)
      go_enter Tryz.func205,Tryz.ntmps205
      go_wp2
      go_ret
      exact ⟨ret_bool HR.out.symm,rfl⟩
    · cases hd:digB s[0] with
      | true =>
        have HR:=Lib.hid (nameB_dig hp hd)
        go_enter Tryz.func205,Tryz.ntmps205
        go_wp2_with (go_at_call 234;refine (dig_any _ _).mono ?_;rintro e w' ⟨rfl,rfl⟩)
        go_ret
        exact ⟨ret_bool HR.out.symm,rfl⟩
      | false =>
        go_enter Tryz.func205,Tryz.ntmps205
        go_wp2_with (go_at_call 234;refine (dig_any _ _).mono ?_;rintro e w' ⟨rfl,rfl⟩)
        have HD:=Lib.hid hd
        clear hd
        go_loop [19] (fun i=>∃ k:Nat,k≤s.size∧i=.int .i64 k∧Hid (∀ j,(hj:j<s.size)→j<k→byteB s[j]=true)) (fun i=>s.size-(intOf i).toNat)
        case atStart=>exact ⟨0,by omega,rfl,fun j _ h=>by omega⟩
        case round =>
          obtain ⟨k,hk,rfl,HK⟩:=hrel
          by_cases hlt:k<s.size
          · rcases byte_cases s[k] with ⟨hb,hd⟩ | ⟨hb,hd,hl⟩ | ⟨hb,hd,hl,hc,hc2⟩ | ⟨hb,hd,hl,hc,hc2⟩
            all_goals have HB:=Lib.hid hb
            all_goals clear hb
            · go_wp2_with (first | (go_at_call 234;refine (dig_any _ _).mono ?_;rintro e w' ⟨rfl,rfl⟩) | (go_at_call 235;refine (let_any _ _).mono ?_;rintro e w' ⟨rfl,rfl⟩))
              go_round
              case rel=>exact ⟨k+1,by omega,by go_num,fun j hj hjk=>by
                by_cases e:j=k
                · subst e;exact HB.out
                · exact HK.out j hj (by omega)⟩
              case measure=>simp [intOf];omega
            · go_wp2_with (first | (go_at_call 234;refine (dig_any _ _).mono ?_;rintro e w' ⟨rfl,rfl⟩) | (go_at_call 235;refine (let_any _ _).mono ?_;rintro e w' ⟨rfl,rfl⟩))
              go_round
              case rel=>exact ⟨k+1,by omega,by go_num,fun j hj hjk=>by
                by_cases e:j=k
                · subst e;exact HB.out
                · exact HK.out j hj (by omega)⟩
              case measure=>simp [intOf];omega
            · go_wp2_with (first | (go_at_call 234;refine (dig_any _ _).mono ?_;rintro e w' ⟨rfl,rfl⟩) | (go_at_call 235;refine (let_any _ _).mono ?_;rintro e w' ⟨rfl,rfl⟩))
              go_round
              case rel=>exact ⟨k+1,by omega,by go_num,fun j hj hjk=>by
                by_cases e:j=k
                · subst e;exact HB.out
                · exact HK.out j hj (by omega)⟩
              case measure=>simp [intOf];omega
            · go_wp2_with (first | (go_at_call 234;refine (dig_any _ _).mono ?_;rintro e w' ⟨rfl,rfl⟩) | (go_at_call 235;refine (let_any _ _).mono ?_;rintro e w' ⟨rfl,rfl⟩))
              go_ret
              exact ⟨ret_bool (nameB_byte hlt HB.out).symm,rfl⟩
          · go_wp2
            go_ret
            exact ⟨ret_bool (nameB_yes hp (by omega) HD.out fun j hj=>HK.out j hj (by omega)).symm,rfl⟩
end Tr
end
section
namespace Tk
open Go.RowKit

/-- how many bytes at the start are so -/
def preN (p:UInt8→Bool) (l:List UInt8):Nat:=(l.takeWhile p).length

theorem preN_le (p:UInt8→Bool) (l:List UInt8):preN p l≤l.length:=by
  unfold preN
  induction l with
  | nil=>simp
  | cons c r ih=>rw [List.takeWhile_cons];split <;> simp_all
theorem preN_drop_true {p:UInt8→Bool}{l:List UInt8}{k:Nat}(hk:k<l.length) (h:p l[k]=true):k+preN p (l.drop k)=k+1+preN p (l.drop (k+1)):=by
  rw [List.drop_eq_getElem_cons hk]
  unfold preN
  rw [List.takeWhile_cons,if_pos h]
  simp;omega
theorem preN_drop_false {p:UInt8→Bool}{l:List UInt8}{k:Nat}(hk:k<l.length) (h:p l[k]=false):preN p (l.drop k)=0:=by
  rw [List.drop_eq_getElem_cons hk]
  unfold preN
  rw [List.takeWhile_cons,if_neg (by simp [h])]
  rfl

set_option maxHeartbeats 1000000 in
theorem pre_word (s:ByteArray) (w:World) (hs:s.size≤maxLen) :
    Calls Tryz.prog 166 #[.string s,.func (.func 167) #[] #[]] w fun e w'=>e=.returned (.int .i64 (preN wordB s.data.toList))∧w=w':=by
  unfold maxLen at hs
  have hsz:=Lib.hid (Lib.size_eq s)
  go_enter Tryz.func166,Tryz.ntmps166
  go_wp2
  go_loop [5] (fun i=>∃ k:Nat,k≤s.size∧i=.int .i64 k∧Hid (preN wordB s.data.toList=k+preN wordB (s.data.toList.drop k))) (fun i=>s.size-(intOf i).toNat)
  case atStart=>exact ⟨0,Nat.zero_le _,rfl,by simp [Hid]⟩
  case round =>
    obtain ⟨k,hk,rfl,HK⟩:=hrel
    by_cases hlt:k<s.size
    · have hl:k<s.data.toList.length:=by have:=hsz.out;omega
      cases hp:wordB s[k] with
      | true =>
        have HN:Hid (preN wordB s.data.toList=(k+1:Nat)+preN wordB (s.data.toList.drop (k+1))):=by
          have:=preN_drop_true hl (p:=wordB) hp
          exact HK.out.trans this
        clear HK
        go_wp2_with (go_at_call 167;refine (word_any _ _).mono ?_;rintro e w' ⟨rfl,rfl⟩)
        go_round
        case rel=>exact ⟨k+1,by omega,by go_num,HN⟩
        case measure=>simp [intOf];omega
      | false =>
        have HN:Hid (preN wordB s.data.toList=k):=by
          have:=preN_drop_false hl (p:=wordB) hp
          exact HK.out.trans (by rw [this];rfl)
        clear HK
        go_wp2_with (go_at_call 167;refine (word_any _ _).mono ?_;rintro e w' ⟨rfl,rfl⟩)
        go_ret
        exact ⟨ret_int (by rw [HN.out]),rfl⟩
    · have HN:Hid (preN wordB s.data.toList=k):=by
        have e0:s.data.toList.drop k=[]:=List.drop_eq_nil_of_le (by have:=hsz.out;omega)
        exact HK.out.trans (by rw [e0];rfl)
      clear HK
      go_wp2
      go_ret
      exact ⟨ret_int (by rw [HN.out]),rfl⟩

set_option maxHeartbeats 1000000 in
theorem pre_dig (s:ByteArray) (w:World) (hs:s.size≤maxLen) :
    Calls Tryz.prog 166 #[.string s,.func (.func 164) #[] #[]] w fun e w'=>e=.returned (.int .i64 (preN digB s.data.toList))∧w=w':=by
  unfold maxLen at hs
  have hsz:=Lib.hid (Lib.size_eq s)
  go_enter Tryz.func166,Tryz.ntmps166
  go_wp2
  go_loop [5] (fun i=>∃ k:Nat,k≤s.size∧i=.int .i64 k∧Hid (preN digB s.data.toList=k+preN digB (s.data.toList.drop k))) (fun i=>s.size-(intOf i).toNat)
  case atStart=>exact ⟨0,Nat.zero_le _,rfl,by simp [Hid]⟩
  case round =>
    obtain ⟨k,hk,rfl,HK⟩:=hrel
    by_cases hlt:k<s.size
    · have hl:k<s.data.toList.length:=by have:=hsz.out;omega
      cases hp:digB s[k] with
      | true =>
        have HN:Hid (preN digB s.data.toList=(k+1:Nat)+preN digB (s.data.toList.drop (k+1))):=by
          have:=preN_drop_true hl (p:=digB) hp
          exact HK.out.trans this
        clear HK
        go_wp2_with (go_at_call 164;refine (dig_any _ _).mono ?_;rintro e w' ⟨rfl,rfl⟩)
        go_round
        case rel=>exact ⟨k+1,by omega,by go_num,HN⟩
        case measure=>simp [intOf];omega
      | false =>
        have HN:Hid (preN digB s.data.toList=k):=by
          have:=preN_drop_false hl (p:=digB) hp
          exact HK.out.trans (by rw [this];rfl)
        clear HK
        go_wp2_with (go_at_call 164;refine (dig_any _ _).mono ?_;rintro e w' ⟨rfl,rfl⟩)
        go_ret
        exact ⟨ret_int (by rw [HN.out]),rfl⟩
    · have HN:Hid (preN digB s.data.toList=k):=by
        have e0:s.data.toList.drop k=[]:=List.drop_eq_nil_of_le (by have:=hsz.out;omega)
        exact HK.out.trans (by rw [e0];rfl)
      clear HK
      go_wp2
      go_ret
      exact ⟨ret_int (by rw [HN.out]),rfl⟩

set_option maxHeartbeats 1000000 in
theorem pre_hex (s:ByteArray) (w:World) (hs:s.size≤maxLen) :
    Calls Tryz.prog 166 #[.string s,.func (.func 210) #[] #[]] w fun e w'=>e=.returned (.int .i64 (preN hexB s.data.toList))∧w=w':=by
  unfold maxLen at hs
  have hsz:=Lib.hid (Lib.size_eq s)
  go_enter Tryz.func166,Tryz.ntmps166
  go_wp2
  go_loop [5] (fun i=>∃ k:Nat,k≤s.size∧i=.int .i64 k∧Hid (preN hexB s.data.toList=k+preN hexB (s.data.toList.drop k))) (fun i=>s.size-(intOf i).toNat)
  case atStart=>exact ⟨0,Nat.zero_le _,rfl,by simp [Hid]⟩
  case round =>
    obtain ⟨k,hk,rfl,HK⟩:=hrel
    by_cases hlt:k<s.size
    · have hl:k<s.data.toList.length:=by have:=hsz.out;omega
      cases hp:hexB s[k] with
      | true =>
        have HN:Hid (preN hexB s.data.toList=(k+1:Nat)+preN hexB (s.data.toList.drop (k+1))):=by
          have:=preN_drop_true hl (p:=hexB) hp
          exact HK.out.trans this
        clear HK
        go_wp2_with (go_at_call 210;refine (hex_any _ _).mono ?_;rintro e w' ⟨rfl,rfl⟩)
        go_round
        case rel=>exact ⟨k+1,by omega,by go_num,HN⟩
        case measure=>simp [intOf];omega
      | false =>
        have HN:Hid (preN hexB s.data.toList=k):=by
          have:=preN_drop_false hl (p:=hexB) hp
          exact HK.out.trans (by rw [this];rfl)
        clear HK
        go_wp2_with (go_at_call 210;refine (hex_any _ _).mono ?_;rintro e w' ⟨rfl,rfl⟩)
        go_ret
        exact ⟨ret_int (by rw [HN.out]),rfl⟩
    · have HN:Hid (preN hexB s.data.toList=k):=by
        have e0:s.data.toList.drop k=[]:=List.drop_eq_nil_of_le (by have:=hsz.out;omega)
        exact HK.out.trans (by rw [e0];rfl)
      clear HK
      go_wp2
      go_ret
      exact ⟨ret_int (by rw [HN.out]),rfl⟩

set_option maxHeartbeats 1000000 in
theorem pre_nl (s:ByteArray) (w:World) (hs:s.size≤maxLen) :
    Calls Tryz.prog 166 #[.string s,.func (.func 244) #[] #[]] w fun e w'=>e=.returned (.int .i64 (preN nlB s.data.toList))∧w=w':=by
  unfold maxLen at hs
  have hsz:=Lib.hid (Lib.size_eq s)
  go_enter Tryz.func166,Tryz.ntmps166
  go_wp2
  go_loop [5] (fun i=>∃ k:Nat,k≤s.size∧i=.int .i64 k∧Hid (preN nlB s.data.toList=k+preN nlB (s.data.toList.drop k))) (fun i=>s.size-(intOf i).toNat)
  case atStart=>exact ⟨0,Nat.zero_le _,rfl,by simp [Hid]⟩
  case round =>
    obtain ⟨k,hk,rfl,HK⟩:=hrel
    by_cases hlt:k<s.size
    · have hl:k<s.data.toList.length:=by have:=hsz.out;omega
      cases hp:nlB s[k] with
      | true =>
        have HN:Hid (preN nlB s.data.toList=(k+1:Nat)+preN nlB (s.data.toList.drop (k+1))):=by
          have:=preN_drop_true hl (p:=nlB) hp
          exact HK.out.trans this
        clear HK
        go_wp2_with (go_at_call 244;refine (nl_any _ _).mono ?_;rintro e w' ⟨rfl,rfl⟩)
        go_round
        case rel=>exact ⟨k+1,by omega,by go_num,HN⟩
        case measure=>simp [intOf];omega
      | false =>
        have HN:Hid (preN nlB s.data.toList=k):=by
          have:=preN_drop_false hl (p:=nlB) hp
          exact HK.out.trans (by rw [this];rfl)
        clear HK
        go_wp2_with (go_at_call 244;refine (nl_any _ _).mono ?_;rintro e w' ⟨rfl,rfl⟩)
        go_ret
        exact ⟨ret_int (by rw [HN.out]),rfl⟩
    · have HN:Hid (preN nlB s.data.toList=k):=by
        have e0:s.data.toList.drop k=[]:=List.drop_eq_nil_of_le (by have:=hsz.out;omega)
        exact HK.out.trans (by rw [e0];rfl)
      clear HK
      go_wp2
      go_ret
      exact ⟨ret_int (by rw [HN.out]),rfl⟩

end Tk
end
end Go.Proofs.YtdjpopebeenlmaaGreatDoor
