/-
  Joined texts of this claim: Ra, Rb.
-/
import Derived.Test.YtfimoadkfccbkaaGreatDoorX08
import Derived.Test.YtfimoadkfccbkaaGreatDoorX11
import Derived.Laws.Rows
import Derived.Laws.Tables
import Derived.Stop.Asserts
import Derived.Outline
set_option linter.unusedVariables false
set_option linter.unusedSimpArgs false
namespace Go.Proofs.YtfimoadkfccbkaaGreatDoor
open Go.RowKit
theorem e105a (a : Option Addr) (w : World) : (callFunc 105 #[.iface 115 (.pointer a)]).run Tryz.prog w = .ok (.value (.agg #[typeHandle Tryz.prog 115, .pointer (some ⟨w.heap.size, 0, none⟩), .int .u64 150])) (w.alloc (.cells #[.pointer a] 115)) := by kernel_rfl
theorem e105b (c a : Value) (w : World) : (callFunc 105 #[.iface 73 (.agg #[c, a])]).run Tryz.prog w = .ok (.value (.agg #[typeHandle Tryz.prog 73, .pointer (some ⟨w.heap.size, 0, none⟩), .int .u64 153])) (w.alloc (.cells #[c, a] 73)) := by kernel_rfl
def hd (t : Nat) : Value := .pointer (some ⟨7, t, none⟩)
theorem hd_eq (t : Nat) : typeHandle Tryz.prog t = hd t := by kernel_rfl
theorem e106 (p : Addr) (w : World) : (callFunc 106 #[.agg #[hd 115, .pointer (some p), .int .u64 150]]).run Tryz.prog w = .ok (.value (.iface 150 (.agg #[hd 115]))) w := by kernel_rfl
theorem ld115 (p q : Addr) (w : World) (h : w.cell? p = some (.pointer (some q))) : (loadVar 115 p).run Tryz.prog w = .ok (.pointer (some q)) w := by
  simp [loadVar, Sem.run_bind, Tryz.isAgg115, h]
theorem e107' (p : Addr) (w : World) : (callFunc 107 #[.agg #[hd 115, .pointer (some p), .int .u64 150]]).run Tryz.prog w = Sem.run Tryz.prog (Extern.ReflectliteValue.isNil 115 p 150 22 >>= fun v => pure (Next.value v)) w := by kernel_rfl
theorem e107 (p q : Addr) (w : World) (h : w.cell? p = some (.pointer (some q))) : (callFunc 107 #[.agg #[hd 115, .pointer (some p), .int .u64 150]]).run Tryz.prog w = .ok (.value (.bool false)) w := by
  rw [e107', Sem.run_bind]
  unfold Extern.ReflectliteValue.isNil
  simp [Sem.run_bind, ld115 p q w h, Result.andThen]
theorem e135 (x : Value) (w : World) : (callFunc 135 #[.iface 73 x]).run Tryz.prog w = .ok (.value (.iface 150 (.agg #[hd 73]))) w := by kernel_rfl
theorem e136' (p : Addr) (w : World) : (callFunc 136 #[.agg #[hd 115, .pointer (some p), .int .u64 150]]).run Tryz.prog w = Sem.run Tryz.prog (Extern.ReflectliteValue.elem 115 p 150 22 >>= fun v => pure (Next.value v)) w := by kernel_rfl
theorem el115 (w : World) : (Extern.Rtype.elem? 115).run Tryz.prog w = .ok (some 73) w := by kernel_rfl
theorem mk73 (q : Addr) (w : World) : (Extern.ReflectliteValue.mk 73 q Extern.ReflectliteValue.flagAddr).run Tryz.prog w = .ok (.agg #[hd 73, .pointer (some q), .int .u64 409]) w := by kernel_rfl
theorem e136 (p q : Addr) (w : World) (h : w.cell? p = some (.pointer (some q))) : (callFunc 136 #[.agg #[hd 115, .pointer (some p), .int .u64 150]]).run Tryz.prog w = .ok (.value (.agg #[hd 73, .pointer (some q), .int .u64 409])) w := by
  rw [e136', Sem.run_bind]
  unfold Extern.ReflectliteValue.elem
  simp [Sem.run_bind, ld115 p q w h, el115, mk73, Result.andThen]
theorem e137' (b q : Addr) (w : World) : (callFunc 137 #[.agg #[hd 73, .pointer (some q), .int .u64 409], .agg #[hd 73, .pointer (some b), .int .u64 153]]).run Tryz.prog w = Sem.run Tryz.prog (loadVar 73 b >>= fun v => storeVar 73 q v >>= fun _ => pure (Next.value (.tuple #[]))) w := by kernel_rfl
theorem ld73 (b : Nat) (c a : Value) (w : World) (h : Tr.Blk w b 73 #[c, a]) : (loadVar 73 ⟨b, 0, none⟩).run Tryz.prog w = .ok (.agg #[c, a]) w :=
  run_loadVar_row w b 73 73 #[c, a] (0, 0) _ h Tryz.underlying73 rfl (by kernel_rfl)
end Go.Proofs.YtfimoadkfccbkaaGreatDoor
/-
  errors.As at an error of the parser's own.
-/
namespace Go.Proofs.YtfimoadkfccbkaaGreatDoor
open Go.RowKit

theorem m1 (w : World) : (method 334 150 (.agg #[hd 115]) "Kind").run Tryz.prog w = .ok (228, hd 115) w := by kernel_rfl
theorem m2 (w : World) : (method 334 150 (.agg #[hd 73]) "Kind").run Tryz.prog w = .ok (228, hd 73) w := by kernel_rfl
theorem k1 (w : World) : (callFunc 228 #[hd 115]).run Tryz.prog w = .ok (.value (.int .u8 22)) w := by kernel_rfl
theorem k2 (w : World) : (callFunc 228 #[hd 73]).run Tryz.prog w = .ok (.value (.int .u8 25)) w := by kernel_rfl
theorem m3 (w : World) : (method 334 150 (.agg #[hd 115]) "Elem").run Tryz.prog w = .ok (238, .agg #[hd 115]) w := by kernel_rfl
theorem k3 (w : World) : (callFunc 238 #[.agg #[hd 115]]).run Tryz.prog w = .ok (.value (.iface 150 (.agg #[hd 73]))) w := by kernel_rfl
theorem m4 (w : World) : (method 334 150 (.agg #[hd 73]) "Implements").run Tryz.prog w = .ok (239, .agg #[hd 73]) w := by kernel_rfl
theorem k4 (w : World) : (callFunc 239 #[.agg #[hd 73], .iface 150 (.agg #[hd 52])]).run Tryz.prog w = .ok (.value (.bool true)) w := by kernel_rfl
theorem m5 (w : World) : (method 334 150 (.agg #[hd 73]) "AssignableTo").run Tryz.prog w = .ok (236, .agg #[hd 73]) w := by kernel_rfl
theorem k5 (w : World) : (callFunc 236 #[.agg #[hd 73], .iface 150 (.agg #[hd 73])]).run Tryz.prog w = .ok (.value (.bool true)) w := by kernel_rfl
end Go.Proofs.YtfimoadkfccbkaaGreatDoor
