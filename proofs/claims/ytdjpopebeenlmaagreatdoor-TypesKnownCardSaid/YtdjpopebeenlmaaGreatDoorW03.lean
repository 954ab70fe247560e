/-
  Joined texts of this claim: TkA.
-/
import Derived.Test.YtdjpopebeenlmaaGreatDoorW00
import Derived.Test.YtdjpopebeenlmaaGreatDoorProg
import Derived.WalkKit
import Derived.WalkSpells
import Derived.WalkLawsBesides
set_option maxHeartbeats 40000000
set_option maxRecDepth 100000
set_option linter.unusedVariables false
set_option linter.unusedSimpArgs false
namespace Go.Proofs.YtdjpopebeenlmaaGreatDoor
section
namespace Tk
open Go.RowKit

def digB (c:UInt8):Bool:=decide (48≤c.toNat∧c.toNat≤57)
def wordB (c:UInt8):Bool:=decide ((48≤c.toNat∧c.toNat≤57)∨(97≤c.toNat∧c.toNat≤122)∨(65≤c.toNat∧c.toNat≤90)∨c.toNat=95)
def hexB (c:UInt8):Bool:=decide ((48≤c.toNat∧c.toNat≤57)∨(97≤c.toNat∧c.toNat≤102)∨(65≤c.toNat∧c.toNat≤70))
def blankB (c:UInt8):Bool:=decide (c.toNat=32∨c.toNat=9∨c.toNat=10)
def letB (c:UInt8):Bool:=decide ((97≤c.toNat∧c.toNat≤122)∨(65≤c.toNat∧c.toNat≤90)∨c.toNat=95)
def plainB (c:UInt8):Bool:=decide (32≤c.toNat∧c.toNat≤126∧c.toNat≠39∧c.toNat≠92)
def escV (c:UInt8):Int:=if c.toNat=110 then 10 else if c.toNat=48 then 0 else if c.toNat=92 then 92 else if c.toNat=39 then 39 else -1
def nlB (c:UInt8):Bool:=decide (c.toNat≠10)

theorem ret_bool {a b:Bool}(h:a=b):Ending.returned (.bool a)=.returned (.bool b):=by rw [h]
theorem ret_int {k:IntKind}{a b:Int}(h:a=b):Ending.returned (.int k a)=.returned (.int k b):=by rw [h]


set_option maxHeartbeats 400000 in
theorem dig_any (c:UInt8) (w:World) :
    Calls Tryz.prog 164 #[.int .u8 c.toNat] w fun e w'=>e=.returned (.bool (digB c))∧w=w':=by
  have hc:c.toNat<256:=c.toNat_lt
  go_enter Tryz.func164,Tryz.ntmps164
  go_wp2
  all_goals go_ret
  all_goals exact ⟨ret_bool (by rw [Bool.eq_iff_iff];simp [digB];try omega),rfl⟩

set_option maxHeartbeats 400000 in
theorem blank_any (c:UInt8) (w:World) :
    Calls Tryz.prog 218 #[.int .u8 c.toNat] w fun e w'=>e=.returned (.bool (blankB c))∧w=w':=by
  have hc:c.toNat<256:=c.toNat_lt
  go_enter Tryz.func218,Tryz.ntmps218
  go_wp2
  all_goals go_ret
  all_goals exact ⟨ret_bool (by rw [Bool.eq_iff_iff];simp [blankB];try omega),rfl⟩



set_option maxHeartbeats 400000 in
theorem plain_any (c:UInt8) (w:World) :
    Calls Tryz.prog 214 #[.int .u8 c.toNat] w fun e w'=>e=.returned (.bool (plainB c))∧w=w':=by
  have hc:c.toNat<256:=c.toNat_lt
  go_enter Tryz.func214,Tryz.ntmps214
  go_wp2
  all_goals go_ret
  all_goals exact ⟨ret_bool (by rw [Bool.eq_iff_iff];simp [plainB];try omega),rfl⟩

set_option maxHeartbeats 400000 in
theorem esc_any (c:UInt8) (w:World) :
    Calls Tryz.prog 213 #[.int .u8 c.toNat] w fun e w'=>e=.returned (.int .i64 (escV c))∧w=w':=by
  have hc:c.toNat<256:=c.toNat_lt
  go_enter Tryz.func213,Tryz.ntmps213
  go_wp2
  all_goals go_ret
  all_goals exact ⟨ret_int (by simp only [escV,beq_iff_eq,beq_eq_false_iff_ne,ne_eq] at *;repeat (first | rw [if_pos (by omega)] | rw [if_neg (by omega)]);try omega),rfl⟩

set_option maxHeartbeats 400000 in
theorem nl_any (c:UInt8) (w:World) :
    Calls Tryz.prog 244 #[.int .u8 c.toNat] w fun e w'=>e=.returned (.bool (nlB c))∧w=w':=by
  have hc:c.toNat<256:=c.toNat_lt
  go_enter Tryz.func244,Tryz.ntmps244
  go_wp2
  all_goals go_ret
  all_goals exact ⟨ret_bool (by rw [Bool.eq_iff_iff];simp [nlB];try omega),rfl⟩

set_option maxHeartbeats 400000 in
theorem word_any (c:UInt8) (w:World) :
    Calls Tryz.prog 167 #[.int .u8 c.toNat] w fun e w'=>e=.returned (.bool (wordB c))∧w=w':=by
  have hc:c.toNat<256:=c.toNat_lt
  go_enter Tryz.func167,Tryz.ntmps167
  go_wp2_with (first | (go_at_call 164;refine (dig_any _ _).mono ?_;rintro e w' ⟨rfl,rfl⟩))
  all_goals go_ret
  all_goals exact ⟨ret_bool (by rw [Bool.eq_iff_iff];simp [wordB,digB] at *;try omega),rfl⟩

set_option maxHeartbeats 400000 in
theorem hex_any (c:UInt8) (w:World) :
    Calls Tryz.prog 210 #[.int .u8 c.toNat] w fun e w'=>e=.returned (.bool (hexB c))∧w=w':=by
  have hc:c.toNat<256:=c.toNat_lt
  go_enter Tryz.func210,Tryz.ntmps210
  go_wp2_with (first | (go_at_call 164;refine (dig_any _ _).mono ?_;rintro e w' ⟨rfl,rfl⟩))
  all_goals go_ret
  all_goals exact ⟨ret_bool (by rw [Bool.eq_iff_iff];simp [hexB,digB] at *;try omega),rfl⟩


end Tk
end
end Go.Proofs.YtdjpopebeenlmaaGreatDoor
