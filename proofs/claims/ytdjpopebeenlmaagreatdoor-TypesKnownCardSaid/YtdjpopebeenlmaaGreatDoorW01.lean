/-
  Joined texts of this claim: TrA, TrB, TrC.
-/
import Derived.Test.YtdjpopebeenlmaaGreatDoorW00
import Derived.Test.YtdjpopebeenlmaaGreatDoorProg
import Derived.WalkKit
import Derived.WalkSpells
import Derived.WalkLawsBesides
import Derived.Lib.Hide
import Derived.Deep.Light
set_option maxHeartbeats 40000000
set_option maxRecDepth 100000
set_option linter.unusedVariables false
set_option linter.unusedSimpArgs false
namespace Go.Proofs.YtdjpopebeenlmaaGreatDoor
section
namespace Tr
open Go.RowKit

def exprB (k:Int):Bool:=decide (31≤k∧k≤40)
def actB (k:Int):Bool:=decide ((11≤k∧k≤18)∨(21≤k∧k≤24))
def kindB (k:Int):Bool:=decide ((1≤k∧k≤4)∨(11≤k∧k≤24)∨(31≤k∧k≤40))
def inB (n a b:Int):Bool:=decide (a≤n∧n≤b)
def namedB (k:Int):Bool:=decide (k=2∨k=3∨k=4∨k=12∨k=32∨k=33)
def wordB (n:Int):Bool:=decide (n=1∨n=2)
def forB (i kid:Int):Bool:=if i=0 then (kid == 12 || kid == 13 || kid == 24) else if i=1 then (exprB kid || kid == 24) else if i=2 then (kid == 13 || kid == 24) else kid == 11
def lowV (k:Int):Int:=if k=3∨k=18∨k=13∨k=19∨k=35∨k=40 then 1 else if k=14∨k=15∨k=16∨k=34∨k=36∨k=37∨k=39 then 2 else if k=38 then 3 else if k=17 then 4 else 0
def highV (M k:Int):Int:=if k=1∨k=11∨k=33∨k=3∨k=18 then M else if k=2 then 200 else if k=12∨k=23∨k=13∨k=19∨k=35∨k=40 then 1 else if k=15∨k=16∨k=34∨k=36∨k=37∨k=39 then 2 else if k=14∨k=38 then 3 else if k=17 then 4 else 0
def goB (k i m kid:Int):Bool:=if k=1 then (kid == 2 || kid == 3) else if k=3 then (if i=m-1 then kid == 11 else kid == 4) else if k=11 then actB kid else
  if k=14∨k=15 then (if i=0 then exprB kid else kid == 11) else if k=16 then (if i=0 then kid == 11 else exprB kid) else if k=17 then forB i kid else
  if k=18 then (if i=0 then exprB kid else (actB kid || kid == 19 || kid == 20)) else exprB kid

theorem ret_bool {a b:Bool}(h:a=b):Ending.returned (.bool a)=.returned (.bool b):=by rw [h]
theorem ret_int {k:IntKind}{a b:Int}(h:a=b):Ending.returned (.int k a)=.returned (.int k b):=by rw [h]
theorem ret_pair {a b c d:Int}(h:a=b) (h2:c=d):Ending.returned (.tuple #[.int .i64 a,.int .i64 c])=.returned (.tuple #[.int .i64 b,.int .i64 d]):=by rw [h,h2]

set_option maxHeartbeats 400000 in
theorem expr_any (k:Int) (w:World) :
    Calls Tryz.prog 201 #[.int .i64 k] w fun e w'=>e=.returned (.bool (exprB k))∧w=w':=by
  go_enter Tryz.func201,Tryz.ntmps201
  go_wp2
  all_goals go_ret
  all_goals exact ⟨ret_bool (by go_light;rw [Bool.eq_iff_iff];simp [exprB];try omega),rfl⟩

set_option maxHeartbeats 400000 in
theorem act_any (k:Int) (w:World) :
    Calls Tryz.prog 202 #[.int .i64 k] w fun e w'=>e=.returned (.bool (actB k))∧w=w':=by
  go_enter Tryz.func202,Tryz.ntmps202
  go_wp2
  all_goals go_ret
  all_goals exact ⟨ret_bool (by go_light;rw [Bool.eq_iff_iff];simp [actB];try omega),rfl⟩

set_option maxHeartbeats 400000 in
theorem kind_any (k:Int) (w:World) :
    Calls Tryz.prog 155 #[.int .i64 k] w fun e w'=>e=.returned (.bool (kindB k))∧w=w':=by
  go_enter Tryz.func155,Tryz.ntmps155
  go_wp2_with (first | (go_at_call 201;refine (expr_any _ _).mono ?_;rintro e w' ⟨rfl,rfl⟩))
  all_goals go_ret
  all_goals exact ⟨ret_bool (by go_light;rw [Bool.eq_iff_iff];simp [kindB,exprB] at *;try omega),rfl⟩

set_option maxHeartbeats 400000 in
theorem named_any (k:Int) (w:World) :
    Calls Tryz.prog 204 #[.int .i64 k] w fun e w'=>e=.returned (.bool (namedB k))∧w=w':=by
  go_enter Tryz.func204,Tryz.ntmps204
  go_wp2
  all_goals go_ret
  all_goals exact ⟨ret_bool (by go_light;rw [Bool.eq_iff_iff];simp [namedB] at *;try omega),rfl⟩

set_option maxHeartbeats 400000 in
theorem oneword_any (k:Int) (w:World) :
    Calls Tryz.prog 239 #[.int .i64 k] w fun e w'=>e=.returned (.bool (wordB k))∧w=w':=by
  go_enter Tryz.func239,Tryz.ntmps239
  go_wp2
  all_goals go_ret
  all_goals exact ⟨ret_bool (by go_light;rw [Bool.eq_iff_iff];simp [wordB] at *;try omega),rfl⟩

set_option maxHeartbeats 400000 in
theorem for_any (i k:Int) (w:World) :
    Calls Tryz.prog 203 #[.int .i64 i,.int .i64 k] w fun e w'=>e=.returned (.bool (forB i k))∧w=w':=by
  go_enter Tryz.func203,Tryz.ntmps203
  go_wp2_with (first | (go_at_call 201;refine (expr_any _ _).mono ?_;rintro e w' ⟨rfl,rfl⟩))
  all_goals go_ret
  all_goals exact ⟨ret_bool (by go_light;rw [Bool.eq_iff_iff];simp_all [forB]),rfl⟩

set_option maxHeartbeats 400000 in
theorem sizes_any (k:Int) (w:World) :
    Calls Tryz.prog 156 #[.int .i64 k] w fun e w'=>e=.returned (.tuple #[.int .i64 (lowV k),.int .i64 (highV 9223372036854775807 k)])∧w=w':=by
  go_enter Tryz.func156,Tryz.ntmps156
  go_wp2
  all_goals go_ret2
  all_goals exact ⟨ret_pair (by go_light;simp at *;unfold lowV;omega) (by go_light;simp at *;unfold highV;omega),rfl⟩


end Tr
end
section
namespace Tr
open Go.RowKit

set_option maxHeartbeats 400000 in
theorem in18_any (n a b:Int) (w:World) :
    Calls Tryz.prog 25 #[.int .i64 n,.int .i64 a,.int .i64 b] w fun e w'=>e=.returned (.bool (inB n a b))∧w=w':=by
  go_enter Tryz.func25,Tryz.ntmps25
  go_wp2
  all_goals go_ret
  all_goals exact ⟨ret_bool (by go_light;rw [Bool.eq_iff_iff];simp [inB] at *;try omega),rfl⟩

set_option maxHeartbeats 400000 in
theorem rexpr_any (k:Int) (w:World) :
    Calls Tryz.prog 12 #[.int .i64 k] w fun e w'=>e=.returned (.bool (exprB k))∧w=w':=by
  go_enter Tryz.func12,Tryz.ntmps12
  go_wp2_with (first | (go_at_call 25;refine (in18_any _ _ _ _).mono ?_;rintro e w' ⟨rfl,rfl⟩))
  all_goals go_ret
  all_goals exact ⟨ret_bool (by go_light;rw [Bool.eq_iff_iff];simp [exprB,inB] at *;try omega),rfl⟩





end Tr
end
section
namespace Tr
open Go.RowKit

def digB (c:UInt8):Bool:=decide (48≤c.toNat∧c.toNat≤57)
def letB (c:UInt8):Bool:=decide ((97≤c.toNat∧c.toNat≤122)∨(65≤c.toNat∧c.toNat≤90))
def byteB (c:UInt8):Bool:=decide ((48≤c.toNat∧c.toNat≤57)∨(97≤c.toNat∧c.toNat≤122)∨(65≤c.toNat∧c.toNat≤90)∨c.toNat=95)
def nameB (s:ByteArray):Bool:=decide (∃ h:0<s.size,s.size≤12∧digB s[0]=false∧∀ j,(hj:j<s.size)→byteB s[j]=true)
def oneS:List (List UInt8):=[[45],[33],[126],[42],[38]]
def twoA:List (List UInt8):=[[43],[45],[42],[47],[37],[38],[124],[94],[60,60],[62,62]]
def twoC:List (List UInt8):=[[61,61],[33,61],[60],[60,61],[62],[62,61]]
def bothS:List (List UInt8):=[[38,38],[124,124]]
def setS:List (List UInt8):=[[61],[43,61],[45,61],[42,61],[47,61],[37,61],[38,61],[124,61],[94,61],[60,60,61],[62,62,61]]
def stepS:List (List UInt8):=[[43,43],[45,45]]
def oneB (s:ByteArray):Bool:=decide (s.toList ∈ oneS)
def twoB (s:ByteArray):Bool:=decide (s.toList ∈ twoA ++ twoC)
def bothB (s:ByteArray):Bool:=decide (s.toList ∈ bothS)
def setB (s:ByteArray):Bool:=decide (s.toList ∈ setS)
def stepB (s:ByteArray):Bool:=decide (s.toList ∈ stepS)
def signB (k:Int) (s:ByteArray):Bool:=if k=35 then oneB s else if k=36 then twoB s else if k=37 then bothB s else if k=39 then setB s else if k=40 then stepB s else s.toList.isEmpty

set_option maxHeartbeats 400000 in
theorem dig_any (c:UInt8) (w:World) :
    Calls Tryz.prog 234 #[.int .u8 c.toNat] w fun e w'=>e=.returned (.bool (digB c))∧w=w':=by
  have hc:c.toNat<256:=c.toNat_lt
  go_enter Tryz.func234,Tryz.ntmps234
  go_wp2
  all_goals go_ret
  all_goals exact ⟨ret_bool (by go_light;rw [Bool.eq_iff_iff];simp [digB] at *;try omega),rfl⟩

set_option maxHeartbeats 400000 in
theorem let_any (c:UInt8) (w:World) :
    Calls Tryz.prog 235 #[.int .u8 c.toNat] w fun e w'=>e=.returned (.bool (letB c))∧w=w':=by
  have hc:c.toNat<256:=c.toNat_lt
  go_enter Tryz.func235,Tryz.ntmps235
  go_wp2
  all_goals go_ret
  all_goals exact ⟨ret_bool (by go_light;rw [Bool.eq_iff_iff];simp [letB] at *;try omega),rfl⟩

set_option maxHeartbeats 400000 in
theorem one_any (s:ByteArray) (w:World) :
    Calls Tryz.prog 236 #[.string s] w fun e w'=>e=.returned (.bool (oneB s))∧w=w':=by
  go_enter Tryz.func236,Tryz.ntmps236
  go_wp2
  all_goals go_ret
  all_goals exact ⟨ret_bool (by go_light;simp_all [oneB,oneS]),rfl⟩

set_option maxHeartbeats 400000 in
theorem two_any (s:ByteArray) (w:World) :
    Calls Tryz.prog 237 #[.string s] w fun e w'=>e=.returned (.bool (twoB s))∧w=w':=by
  go_enter Tryz.func237,Tryz.ntmps237
  go_wp2
  all_goals go_ret
  all_goals exact ⟨ret_bool (by go_light;simp_all [twoB,twoA,twoC]),rfl⟩

set_option maxHeartbeats 400000 in
theorem set_any (s:ByteArray) (w:World) :
    Calls Tryz.prog 238 #[.string s] w fun e w'=>e=.returned (.bool (setB s))∧w=w':=by
  go_enter Tryz.func238,Tryz.ntmps238
  go_wp2
  all_goals go_ret
  all_goals exact ⟨ret_bool (by go_light;simp_all [setB,setS]),rfl⟩

set_option maxHeartbeats 800000 in
theorem sign_any (k:Int) (s:ByteArray) (w:World) :
    Calls Tryz.prog 206 #[.int .i64 k,.string s] w fun e w'=>e=.returned (.bool (signB k s))∧w=w':=by
  go_enter Tryz.func206,Tryz.ntmps206
  go_wp2_with (first | (go_at_call 236;refine (one_any _ _).mono ?_;rintro e w' ⟨rfl,rfl⟩) | (go_at_call 237;refine (two_any _ _).mono ?_;rintro e w' ⟨rfl,rfl⟩) | (go_at_call 238;refine (set_any _ _).mono ?_;rintro e w' ⟨rfl,rfl⟩))
  all_goals go_ret
  all_goals exact ⟨ret_bool (by go_light;rw [Bool.eq_iff_iff];simp_all [signB,bothB,bothS,stepB,stepS]),rfl⟩
end Tr
end
end Go.Proofs.YtdjpopebeenlmaaGreatDoor
