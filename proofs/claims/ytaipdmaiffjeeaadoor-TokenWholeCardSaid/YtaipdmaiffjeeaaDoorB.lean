/-
  Contracts of the functions that ask whether a text is a keyword or an operator.
-/
import Derived.Test.YtaipdmaiffjeeaaDoorA
import Derived.Lib.Strings
import Derived.Lib.Hide
import Derived.Deep.Light
namespace Go.Proofs.YtaipdmaiffjeeaaDoor
open Go.RowKit

def keys : List (List UInt8) := [[105, 110, 116], [118, 111, 105, 100], [105, 102], [101, 108, 115, 101], [119, 104, 105, 108, 101], [100, 111], [102, 111, 114], [115, 119, 105, 116, 99, 104], [99, 97, 115, 101], [100, 101, 102, 97, 117, 108, 116], [98, 114, 101, 97, 107], [99, 111, 110, 116, 105, 110, 117, 101], [114, 101, 116, 117, 114, 110]]
def keyB (l : List UInt8) : Bool := keys.contains l

def signs : List (List UInt8) := [[60, 60, 61], [62, 62, 61], [60, 60], [62, 62], [60, 61], [62, 61], [61, 61], [33, 61], [38, 38], [124, 124], [43, 61], [45, 61], [42, 61], [47, 61], [37, 61], [38, 61], [94, 61], [124, 61], [43, 43], [45, 45], [43], [45], [42], [47], [37], [38], [124], [94], [126], [33], [60], [62], [61], [63], [58], [59], [44], [40], [41], [91], [93], [123], [125]]
def signB (l : List UInt8) : Bool := signs.contains l

set_option maxHeartbeats 1000000 in
theorem isKey_any (s : ByteArray) (w : World) :
    Calls Tryd.prog 58 #[.string s] w fun e w' => e = .returned (.bool (keyB s.data.toList)) ∧ w = w' := by
  have hl : Hid (s.toList = s.data.toList) := Lib.hid (Lib.toList_data s)
  go_enter Tryd.func58, Tryd.ntmps58
  go_wp2
  all_goals go_ret
  all_goals (have h2 := hl.out; clear hl; exact ⟨ret_bool (by rw [← h2]; clear h2; go_light; simp_all [keyB, keys]), rfl⟩)

set_option maxHeartbeats 4000000 in
set_option maxRecDepth 10000 in
theorem isSign_any (s : ByteArray) (w : World) :
    Calls Tryd.prog 61 #[.string s] w fun e w' => e = .returned (.bool (signB s.data.toList)) ∧ w = w' := by
  have hl : Hid (s.toList = s.data.toList) := Lib.hid (Lib.toList_data s)
  go_enter Tryd.func61, Tryd.ntmps61
  go_wp2
  all_goals go_ret
  all_goals (have h2 := hl.out; clear hl; exact ⟨ret_bool (by rw [← h2]; clear h2; go_light; simp_all [signB, signs]), rfl⟩)
end Go.Proofs.YtaipdmaiffjeeaaDoor
