/-
  Joined texts of this claim: Ra, Rb.
-/
import Derived.Test.YtdjpopebeenlmaaGreatDoorW00
import Derived.Test.YtdjpopebeenlmaaGreatDoorW08
import Derived.Test.YtdjpopebeenlmaaGreatDoorW10
import Derived.Laws.Rows
import Derived.Laws.Tables
import Derived.Stop.Asserts
import Derived.Outline
set_option maxHeartbeats 40000000
set_option maxRecDepth 100000
set_option linter.unusedVariables false
set_option linter.unusedSimpArgs false
namespace Go.Proofs.YtdjpopebeenlmaaGreatDoor
section
open Go.RowKit
theorem e105a (a:Option Addr) (w:World):(callFunc 184 #[.iface 153 (.pointer a)]).run Tryz.prog w=.ok (.value (.agg #[typeHandle Tryz.prog 153,.pointer (some ⟨w.heap.size,0,none⟩),.int .u64 150])) (w.alloc (.cells #[.pointer a] 153)):=by kernel_rfl
theorem e105b (c a:Value) (w:World):(callFunc 184 #[.iface 97 (.agg #[c,a])]).run Tryz.prog w=.ok (.value (.agg #[typeHandle Tryz.prog 97,.pointer (some ⟨w.heap.size,0,none⟩),.int .u64 153])) (w.alloc (.cells #[c,a] 97)):=by kernel_rfl
def hd (t:Nat):Value:=.pointer (some ⟨7,t,none⟩)
theorem hd_eq (t:Nat):typeHandle Tryz.prog t=hd t:=by kernel_rfl
theorem e106 (p:Addr) (w:World):(callFunc 185 #[.agg #[hd 153,.pointer (some p),.int .u64 150]]).run Tryz.prog w=.ok (.value (.iface 209 (.agg #[hd 153]))) w:=by kernel_rfl
theorem ld115 (p q:Addr) (w:World) (h:w.cell? p=some (.pointer (some q))):(loadVar 153 p).run Tryz.prog w=.ok (.pointer (some q)) w:=by
  simp [loadVar,Sem.run_bind,Tryz.isAgg81,h]
theorem e107' (p:Addr) (w:World):(callFunc 186 #[.agg #[hd 153,.pointer (some p),.int .u64 150]]).run Tryz.prog w=Sem.run Tryz.prog (Extern.ReflectliteValue.isNil 153 p 150 22 >>= fun v=>pure (Next.value v)) w:=by kernel_rfl
theorem e107 (p q:Addr) (w:World) (h:w.cell? p=some (.pointer (some q))):(callFunc 186 #[.agg #[hd 153,.pointer (some p),.int .u64 150]]).run Tryz.prog w=.ok (.value (.bool false)) w:=by
  rw [e107',Sem.run_bind]
  unfold Extern.ReflectliteValue.isNil
  simp [Sem.run_bind,ld115 p q w h,Result.andThen]
theorem e135 (x:Value) (w:World):(callFunc 226 #[.iface 97 x]).run Tryz.prog w=.ok (.value (.iface 209 (.agg #[hd 97]))) w:=by kernel_rfl
theorem e136' (p:Addr) (w:World):(callFunc 227 #[.agg #[hd 153,.pointer (some p),.int .u64 150]]).run Tryz.prog w=Sem.run Tryz.prog (Extern.ReflectliteValue.elem 153 p 150 22 >>= fun v=>pure (Next.value v)) w:=by kernel_rfl
theorem el115 (w:World):(Extern.Rtype.elem? 153).run Tryz.prog w=.ok (some 97) w:=by kernel_rfl
theorem mk73 (q:Addr) (w:World):(Extern.ReflectliteValue.mk 97 q Extern.ReflectliteValue.flagAddr).run Tryz.prog w=.ok (.agg #[hd 97,.pointer (some q),.int .u64 409]) w:=by kernel_rfl
theorem e136 (p q:Addr) (w:World) (h:w.cell? p=some (.pointer (some q))):(callFunc 227 #[.agg #[hd 153,.pointer (some p),.int .u64 150]]).run Tryz.prog w=.ok (.value (.agg #[hd 97,.pointer (some q),.int .u64 409])) w:=by
  rw [e136',Sem.run_bind]
  unfold Extern.ReflectliteValue.elem
  simp [Sem.run_bind,ld115 p q w h,el115,mk73,Result.andThen]
theorem e137' (b q:Addr) (w:World):(callFunc 228 #[.agg #[hd 97,.pointer (some q),.int .u64 409],.agg #[hd 97,.pointer (some b),.int .u64 153]]).run Tryz.prog w=Sem.run Tryz.prog (loadVar 97 b >>= fun v=>storeVar 97 q v >>= fun _=>pure (Next.value (.tuple #[]))) w:=by kernel_rfl
theorem ld73 (b:Nat) (c a:Value) (w:World) (h:Tr.Blk w b 97 #[c,a]):(loadVar 97 ⟨b,0,none⟩).run Tryz.prog w=.ok (.agg #[c,a]) w :=
  run_loadVar_row w b 97 97 #[c,a] (0,0) _ h Tryz.underlying97 rfl (by kernel_rfl)
end
section
open Go.RowKit

theorem m1 (w : World) : (method 385 209 (.agg #[hd 153]) "Kind").run Tryz.prog w = .ok (305, hd 153) w := by kernel_rfl
theorem m2 (w : World) : (method 385 209 (.agg #[hd 97]) "Kind").run Tryz.prog w = .ok (305, hd 97) w := by kernel_rfl
theorem k1 (w:World):(callFunc 305 #[hd 153]).run Tryz.prog w=.ok (.value (.int .u8 22)) w:=by kernel_rfl
theorem k2 (w:World):(callFunc 305 #[hd 97]).run Tryz.prog w=.ok (.value (.int .u8 25)) w:=by kernel_rfl
theorem m3 (w : World) : (method 385 209 (.agg #[hd 153]) "Elem").run Tryz.prog w = .ok (316, .agg #[hd 153]) w := by kernel_rfl
theorem k3 (w:World):(callFunc 316 #[.agg #[hd 153]]).run Tryz.prog w=.ok (.value (.iface 209 (.agg #[hd 97]))) w:=by kernel_rfl
theorem m4 (w : World) : (method 385 209 (.agg #[hd 97]) "Implements").run Tryz.prog w = .ok (317, .agg #[hd 97]) w := by kernel_rfl
theorem k4 (w:World):(callFunc 317 #[.agg #[hd 97],.iface 209 (.agg #[hd 68])]).run Tryz.prog w=.ok (.value (.bool true)) w:=by kernel_rfl
theorem m5 (w : World) : (method 385 209 (.agg #[hd 97]) "AssignableTo").run Tryz.prog w = .ok (314, .agg #[hd 97]) w := by kernel_rfl
theorem k5 (w:World):(callFunc 314 #[.agg #[hd 97],.iface 209 (.agg #[hd 97])]).run Tryz.prog w=.ok (.value (.bool true)) w:=by kernel_rfl
end
end Go.Proofs.YtdjpopebeenlmaaGreatDoor
