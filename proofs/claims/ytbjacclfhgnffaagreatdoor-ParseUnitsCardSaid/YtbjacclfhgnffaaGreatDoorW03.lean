/-
  Joined texts of this claim: TkA.
-/
import Derived.Test.YtbjacclfhgnffaaGreatDoorW00
import Derived.Test.YtbjacclfhgnffaaGreatDoorProg
import Derived.WalkKit
import Derived.WalkSpells
import Derived.WalkLawsBesides
set_option maxHeartbeats 40000000
set_option maxRecDepth 100000
set_option linter.unusedVariables false
set_option linter.unusedSimpArgs false
namespace Go.Proofs.YtbjacclfhgnffaaGreatDoor
section
namespace Tk
open Go.RowKit
def digB (c:UInt8):Bool:=decide (48≤c.toNat∧c.toNat≤57)
def wordB (c:UInt8):Bool:=decide ((48≤c.toNat∧c.toNat≤57)∨(97≤c.toNat∧c.toNat≤122)∨(65≤c.toNat∧c.toNat≤90)∨c.toNat=95)
def hexB (c:UInt8):Bool:=decide ((48≤c.toNat∧c.toNat≤57)∨(97≤c.toNat∧c.toNat≤102)∨(65≤c.toNat∧c.toNat≤70))
def blankB (c:UInt8):Bool:=decide (c.toNat=32∨c.toNat=9∨c.toNat=10)
def letB (c:UInt8):Bool:=decide ((97≤c.toNat∧c.toNat≤122)∨(65≤c.toNat∧c.toNat≤90)∨c.toNat=95)
def plainB (c:UInt8):Bool:=decide (32≤c.toNat∧c.toNat≤126∧c.toNat≠39∧c.toNat≠92)
def escV (c:UInt8):Int:=if c.toNat=110 then 10 else if c.toNat=48 then 0 else if c.toNat=92 then 92 else if c.toNat=39 then 39 else -1
def nlB (c:UInt8):Bool:=decide (c.toNat≠10)
def valV (c:UInt8):Int:=if 48≤c.toNat∧c.toNat≤57 then c.toNat-48 else if 97≤c.toNat∧c.toNat≤102 then c.toNat-87 else if 65≤c.toNat∧c.toNat≤70 then c.toNat-55 else -1
theorem ret_bool {a b:Bool}(h:a=b):Ending.returned (.bool a)=.returned (.bool b):=by rw [h]
theorem ret_int {k:IntKind}{a b:Int}(h:a=b):Ending.returned (.int k a)=.returned (.int k b):=by rw [h]
theorem dig_any (c:UInt8) (w:World) :
  Calls Tryz.prog 186 #[.int .u8 c.toNat] w fun e w'=>e=.returned (.bool (digB c))∧w=w':=by
 have hc:c.toNat<256:=c.toNat_lt
 go_enter Tryz.func186,Tryz.ntmps186
 go_wp2
 all_goals go_ret
 all_goals exact ⟨ret_bool (by rw [Bool.eq_iff_iff];simp [digB];try omega),rfl⟩
theorem blank_any (c:UInt8) (w:World) :
  Calls Tryz.prog 195 #[.int .u8 c.toNat] w fun e w'=>e=.returned (.bool (blankB c))∧w=w':=by
 have hc:c.toNat<256:=c.toNat_lt
 go_enter Tryz.func195,Tryz.ntmps195
 go_wp2
 all_goals go_ret
 all_goals exact ⟨ret_bool (by rw [Bool.eq_iff_iff];simp [blankB];try omega),rfl⟩
theorem rdig_any (c:UInt8) (w:World) :
  Calls Tryz.prog 114 #[.int .u8 c.toNat] w fun e w'=>e=.returned (.bool (digB c))∧w=w':=by
 have hc:c.toNat<256:=c.toNat_lt
 go_enter Tryz.func114,Tryz.ntmps114
 go_wp2
 all_goals go_ret
 all_goals exact ⟨ret_bool (by rw [Bool.eq_iff_iff];simp [digB];try omega),rfl⟩
theorem rlet_any (c:UInt8) (w:World) :
  Calls Tryz.prog 113 #[.int .u8 c.toNat] w fun e w'=>e=.returned (.bool (letB c))∧w=w':=by
 have hc:c.toNat<256:=c.toNat_lt
 go_enter Tryz.func113,Tryz.ntmps113
 go_wp2
 all_goals go_ret
 all_goals exact ⟨ret_bool (by rw [Bool.eq_iff_iff];simp [letB];try omega),rfl⟩
theorem plain_any (c:UInt8) (w:World) :
  Calls Tryz.prog 224 #[.int .u8 c.toNat] w fun e w'=>e=.returned (.bool (plainB c))∧w=w':=by
 have hc:c.toNat<256:=c.toNat_lt
 go_enter Tryz.func224,Tryz.ntmps224
 go_wp2
 all_goals go_ret
 all_goals exact ⟨ret_bool (by rw [Bool.eq_iff_iff];simp [plainB];try omega),rfl⟩
theorem esc_any (c:UInt8) (w:World) :
  Calls Tryz.prog 223 #[.int .u8 c.toNat] w fun e w'=>e=.returned (.int .i64 (escV c))∧w=w':=by
 have hc:c.toNat<256:=c.toNat_lt
 go_enter Tryz.func223,Tryz.ntmps223
 go_wp2
 all_goals go_ret
 all_goals exact ⟨ret_int (by simp only [escV,beq_iff_eq,beq_eq_false_iff_ne,ne_eq] at *;repeat (first | rw [if_pos (by omega)] | rw [if_neg (by omega)]);try omega),rfl⟩
theorem nl_any (c:UInt8) (w:World) :
  Calls Tryz.prog 229 #[.int .u8 c.toNat] w fun e w'=>e=.returned (.bool (nlB c))∧w=w':=by
 have hc:c.toNat<256:=c.toNat_lt
 go_enter Tryz.func229,Tryz.ntmps229
 go_wp2
 all_goals go_ret
 all_goals exact ⟨ret_bool (by rw [Bool.eq_iff_iff];simp [nlB];try omega),rfl⟩
theorem word_any (c:UInt8) (w:World) :
  Calls Tryz.prog 189 #[.int .u8 c.toNat] w fun e w'=>e=.returned (.bool (wordB c))∧w=w':=by
 have hc:c.toNat<256:=c.toNat_lt
 go_enter Tryz.func189,Tryz.ntmps189
 go_wp2_with (first | (go_at_call 186;refine (dig_any _ _).mono ?_;rintro e w' ⟨rfl,rfl⟩))
 all_goals go_ret
 all_goals exact ⟨ret_bool (by rw [Bool.eq_iff_iff];simp [wordB,digB] at *;try omega),rfl⟩
theorem hex_any (c:UInt8) (w:World) :
  Calls Tryz.prog 220 #[.int .u8 c.toNat] w fun e w'=>e=.returned (.bool (hexB c))∧w=w':=by
 have hc:c.toNat<256:=c.toNat_lt
 go_enter Tryz.func220,Tryz.ntmps220
 go_wp2_with (first | (go_at_call 186;refine (dig_any _ _).mono ?_;rintro e w' ⟨rfl,rfl⟩))
 all_goals go_ret
 all_goals exact ⟨ret_bool (by rw [Bool.eq_iff_iff];simp [hexB,digB] at *;try omega),rfl⟩
theorem val_any (c:UInt8) (w:World) :
  Calls Tryz.prog 166 #[.int .u8 c.toNat] w fun e w'=>e=.returned (.int .i64 (valV c))∧w=w':=by
 have hc:c.toNat<256:=c.toNat_lt
 go_enter Tryz.func166,Tryz.ntmps166
 go_wp2_with (first | (go_at_call 114;refine (rdig_any _ _).mono ?_;rintro e w' ⟨rfl,rfl⟩))
 all_goals go_ret
 all_goals exact ⟨ret_int (by simp only [valV,digB,decide_eq_true_eq,decide_eq_false_iff_not] at *;repeat (first | rw [if_pos (by omega)] | rw [if_neg (by omega)])),rfl⟩
end Tk
end
end Go.Proofs.YtbjacclfhgnffaaGreatDoor
