/-
  Joined texts of this claim: Ra, Rb.
-/
import Derived.Test.YtmghjfphlneblaaGreatDoorW00
import Derived.Test.YtmghjfphlneblaaGreatDoorW07
import Derived.Test.YtmghjfphlneblaaGreatDoorW11
import Derived.Laws.Rows
import Derived.Laws.Tables
import Derived.Stop.Asserts
import Derived.Outline
set_option maxHeartbeats 40000000
set_option maxRecDepth 100000
set_option linter.unusedVariables false
set_option linter.unusedSimpArgs false
namespace Go.Proofs.YtmghjfphlneblaaGreatDoor
section
open Go.RowKit
theorem e105a (a : Option Addr) (w : World) : (callFunc 167 #[.iface 147 (.pointer a)]).run Tryz.prog w = .ok (.value (.agg #[typeHandle Tryz.prog 147, .pointer (some ⟨w.heap.size, 0, none⟩), .int .u64 150])) (w.alloc (.cells #[.pointer a] 147)) := by kernel_rfl
theorem e105b (c a : Value) (w : World) : (callFunc 167 #[.iface 100 (.agg #[c, a])]).run Tryz.prog w = .ok (.value (.agg #[typeHandle Tryz.prog 100, .pointer (some ⟨w.heap.size, 0, none⟩), .int .u64 153])) (w.alloc (.cells #[c, a] 100)) := by kernel_rfl
def hd (t : Nat) : Value := .pointer (some ⟨7, t, none⟩)
theorem hd_eq (t : Nat) : typeHandle Tryz.prog t = hd t := by kernel_rfl
theorem e106 (p : Addr) (w : World) : (callFunc 168 #[.agg #[hd 147, .pointer (some p), .int .u64 150]]).run Tryz.prog w = .ok (.value (.iface 190 (.agg #[hd 147]))) w := by kernel_rfl
theorem ld115 (p q : Addr) (w : World) (h : w.cell? p = some (.pointer (some q))) : (loadVar 147 p).run Tryz.prog w = .ok (.pointer (some q)) w := by
  simp [loadVar, Sem.run_bind, Tryz.isAgg84, h]
theorem e107' (p : Addr) (w : World) : (callFunc 169 #[.agg #[hd 147, .pointer (some p), .int .u64 150]]).run Tryz.prog w = Sem.run Tryz.prog (Extern.ReflectliteValue.isNil 147 p 150 22 >>= fun v => pure (Next.value v)) w := by kernel_rfl
theorem e107 (p q : Addr) (w : World) (h : w.cell? p = some (.pointer (some q))) : (callFunc 169 #[.agg #[hd 147, .pointer (some p), .int .u64 150]]).run Tryz.prog w = .ok (.value (.bool false)) w := by
  rw [e107', Sem.run_bind]
  unfold Extern.ReflectliteValue.isNil
  simp [Sem.run_bind, ld115 p q w h, Result.andThen]
theorem e135 (x : Value) (w : World) : (callFunc 199 #[.iface 100 x]).run Tryz.prog w = .ok (.value (.iface 190 (.agg #[hd 100]))) w := by kernel_rfl
theorem e136' (p : Addr) (w : World) : (callFunc 200 #[.agg #[hd 147, .pointer (some p), .int .u64 150]]).run Tryz.prog w = Sem.run Tryz.prog (Extern.ReflectliteValue.elem 147 p 150 22 >>= fun v => pure (Next.value v)) w := by kernel_rfl
theorem el115 (w : World) : (Extern.Rtype.elem? 147).run Tryz.prog w = .ok (some 100) w := by kernel_rfl
theorem mk73 (q : Addr) (w : World) : (Extern.ReflectliteValue.mk 100 q Extern.ReflectliteValue.flagAddr).run Tryz.prog w = .ok (.agg #[hd 100, .pointer (some q), .int .u64 409]) w := by kernel_rfl
theorem e136 (p q : Addr) (w : World) (h : w.cell? p = some (.pointer (some q))) : (callFunc 200 #[.agg #[hd 147, .pointer (some p), .int .u64 150]]).run Tryz.prog w = .ok (.value (.agg #[hd 100, .pointer (some q), .int .u64 409])) w := by
  rw [e136', Sem.run_bind]
  unfold Extern.ReflectliteValue.elem
  simp [Sem.run_bind, ld115 p q w h, el115, mk73, Result.andThen]
theorem e137' (b q : Addr) (w : World) : (callFunc 201 #[.agg #[hd 100, .pointer (some q), .int .u64 409], .agg #[hd 100, .pointer (some b), .int .u64 153]]).run Tryz.prog w = Sem.run Tryz.prog (loadVar 100 b >>= fun v => storeVar 100 q v >>= fun _ => pure (Next.value (.tuple #[]))) w := by kernel_rfl
theorem ld73 (b : Nat) (c a : Value) (w : World) (h : Tr.Blk w b 100 #[c, a]) : (loadVar 100 ⟨b, 0, none⟩).run Tryz.prog w = .ok (.agg #[c, a]) w :=
  run_loadVar_row w b 100 100 #[c, a] (0, 0) _ h Tryz.underlying100 rfl (by kernel_rfl)
end
section
open Go.RowKit

theorem m1 (w : World) : (method 365 190 (.agg #[hd 147]) "Kind").run Tryz.prog w = .ok (273, hd 147) w := by kernel_rfl
theorem m2 (w : World) : (method 365 190 (.agg #[hd 100]) "Kind").run Tryz.prog w = .ok (273, hd 100) w := by kernel_rfl
theorem k1 (w : World) : (callFunc 273 #[hd 147]).run Tryz.prog w = .ok (.value (.int .u8 22)) w := by kernel_rfl
theorem k2 (w : World) : (callFunc 273 #[hd 100]).run Tryz.prog w = .ok (.value (.int .u8 25)) w := by kernel_rfl
theorem m3 (w : World) : (method 365 190 (.agg #[hd 147]) "Elem").run Tryz.prog w = .ok (284, .agg #[hd 147]) w := by kernel_rfl
theorem k3 (w : World) : (callFunc 284 #[.agg #[hd 147]]).run Tryz.prog w = .ok (.value (.iface 190 (.agg #[hd 100]))) w := by kernel_rfl
theorem m4 (w : World) : (method 365 190 (.agg #[hd 100]) "Implements").run Tryz.prog w = .ok (285, .agg #[hd 100]) w := by kernel_rfl
theorem k4 (w : World) : (callFunc 285 #[.agg #[hd 100], .iface 190 (.agg #[hd 69])]).run Tryz.prog w = .ok (.value (.bool true)) w := by kernel_rfl
theorem m5 (w : World) : (method 365 190 (.agg #[hd 100]) "AssignableTo").run Tryz.prog w = .ok (282, .agg #[hd 100]) w := by kernel_rfl
theorem k5 (w : World) : (callFunc 282 #[.agg #[hd 100], .iface 190 (.agg #[hd 100])]).run Tryz.prog w = .ok (.value (.bool true)) w := by kernel_rfl
end
end Go.Proofs.YtmghjfphlneblaaGreatDoor
