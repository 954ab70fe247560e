/-
  Contracts of the library's ParseInt at the bases 10 and 16 over texts of valid digits.
-/
import Derived.Test.YtaipdmaiffjeeaaDoorN
import Derived.Lib.AtoiErrMem
namespace Go.Proofs.YtaipdmaiffjeeaaDoor
open Go.RowKit

def iT (n : Nat) : Value := if n < 9223372036854775808 then .tuple #[.int .i64 n, .nilIface] else .tuple #[.int .i64 9223372036854775807, .iface 85 (.int .i64 1)]
theorem iT_big {n : Nat} (h : 9223372036854775808 ≤ n) : iT n = .tuple #[.int .i64 9223372036854775807, .iface 85 (.int .i64 1)] := if_neg (by omega)
theorem iT_small {n : Nat} (h : n < 9223372036854775808) : iT n = .tuple #[.int .i64 n, .nilIface] := if_pos h
/-- what ParseInt gives for a number: the number, or some error -/
def PI (n : Nat) (w : World) (e : Ending) (w' : World) : Prop :=
  (n < 9223372036854775808 → e = .returned (.tuple #[.int .i64 n, .nilIface])) ∧ (¬ n < 9223372036854775808 → ∃ x te pe, e = .returned (.tuple #[.int .i64 x, .iface te pe])) ∧ Below w.heap.size w w'

set_option maxHeartbeats 8000000 in
set_option maxRecDepth 100000 in
theorem pi_10 (s : ByteArray) (hne : s.size ≠ 0) (hmax : s.size ≤ 9223372036854775806) (hAll : ∀ c ∈ s.data.toList, digB c = true) (w : World) :
    Calls Tryd.prog 66 #[.string s, .int .i64 10, .int .i64 64] w fun e w' => e = .returned (iT (numN 10 0 s.data.toList)) ∧ w' = Lib.bytesWorld w 5 s := by
  have hemp : s.toList.isEmpty = false := by
    rw [← decide_eq_emptyBytes]
    exact decide_eq_false (fun h => hne (by rw [h]; rfl))
  have hpos : 0 < s.size := by omega
  have hq1 : ∀ W, (binOp .neq 65 (.iface 85 (.int .i64 1)) (.iface 85 (.int .i64 1))).run Tryd.prog W = .ok (.bool false) W := fun W => Lib.run_neq_iface_int W 1 1 Tryd.underlying65 (by kernel_rfl) Tryd.underlying85
  have hU := pu_10 s hne hmax hAll w
  have h0 : digB (s[0]'hpos) = true := hAll _ (by rw [Array.mem_toList_iff]; exact Array.getElem_mem _)
  have hn43 : (((s[0]'hpos).toNat : Int) == 43) = false := by
    rw [beq_eq_false_iff_ne]; intro h; have h2 : (s[0]'hpos).toNat = 43 := by omega
    simp [digB, h2] at h0
  have hn45 : (((s[0]'hpos).toNat : Int) == 45) = false := by
    rw [beq_eq_false_iff_ne]; intro h; have h2 : (s[0]'hpos).toNat = 45 := by omega
    simp [digB, h2] at h0
  obtain ⟨n, hn⟩ : ∃ n, n = numN 10 0 s.data.toList := ⟨_, rfl⟩
  rw [← hn] at hU ⊢
  clear hAll h0 hn
  obtain ⟨W1, hW1⟩ : ∃ W1, W1 = Lib.bytesWorld w 5 s := ⟨_, rfl⟩
  rw [← hW1] at hU ⊢
  clear hW1
  by_cases hout : n < 9223372036854775808
  · obtain ⟨a, ha⟩ : ∃ a : Int, a = (n : Int) := ⟨_, rfl⟩
    rw [uT_small (by omega), ← ha] at hU
    have HR : Hid (iT n = .tuple #[.int .i64 a, .nilIface]) := by rw [ha]; exact iT_small hout
    have a0 : 0 ≤ a := by omega
    have a1 : a < 9223372036854775808 := by omega
    clear ha hout
    go_enter Tryd.func66, Tryd.ntmps66
    go_wp2_with (go_at_call 72; refine hU.mono ?_; rintro e w1 ⟨rfl, rfl⟩)
    go_wp2
    go_ret2
    exact ⟨by rw [HR.out]; rfl, rfl⟩
  · have HR : Hid (iT n = .tuple #[.int .i64 9223372036854775807, .iface 85 (.int .i64 1)]) := iT_big (by omega)
    by_cases hbig : n < 18446744073709551616
    · obtain ⟨a, ha⟩ : ∃ a : Int, a = (n : Int) := ⟨_, rfl⟩
      rw [uT_small (by omega), ← ha] at hU
      have a0 : 9223372036854775808 ≤ a := by omega
      have a1 : a < 18446744073709551616 := by omega
      clear ha hout hbig
      go_enter Tryd.func66, Tryd.ntmps66
      go_wp2_with (go_at_call 72; refine hU.mono ?_; rintro e w1 ⟨rfl, rfl⟩)
      go_wp2
      go_ret2
      exact ⟨by rw [HR.out]; rfl, rfl⟩
    · rw [uT_big (by omega)] at hU
      clear hout hbig
      go_enter Tryd.func66, Tryd.ntmps66
      go_wp2_with (go_at_call 72; refine hU.mono ?_; rintro e w1 ⟨rfl, rfl⟩)
      go_wp2
      go_ret2
      exact ⟨by rw [HR.out]; rfl, rfl⟩

set_option maxHeartbeats 8000000 in
set_option maxRecDepth 100000 in
theorem pI_10 (s : ByteArray) (hne : s.size ≠ 0) (hlim : s.size ≤ 281474976710656) (hAll : ∀ c ∈ s.data.toList, digB c = true) (w : World) (te : TypeId) (pe : Value) (hv : w.cell? ⟨2, 0, none⟩ = some (.iface te pe)) :
    Calls Tryd.prog 57 #[.string s, .int .i64 10, .int .i64 64] w fun e w' => PI (numN 10 0 s.data.toList) w e w' := by
  have hI := pi_10 s hne (by omega) hAll w
  obtain ⟨n, hn⟩ : ∃ n, n = numN 10 0 s.data.toList := ⟨_, rfl⟩
  rw [← hn] at hI ⊢
  clear hAll hn
  have hb1 := Lib.bytesWorld_below w 5 s
  obtain ⟨W1, hW1⟩ : ∃ W1, W1 = Lib.bytesWorld w 5 s := ⟨_, rfl⟩
  rw [← hW1] at hI hb1
  clear hW1
  have hv1 : W1.cell? ⟨2, 0, none⟩ = some (.iface te pe) := (hb1.cell (show (⟨2, 0, none⟩ : Addr).block < w.heap.size from Lib.lt_of_cell hv)).trans hv
  by_cases hout : n < 9223372036854775808
  · rw [iT_small hout] at hI
    go_enter Tryd.func57, Tryd.ntmps57
    go_wp2_with (go_at_call 66; refine hI.mono ?_; rintro e w1 ⟨rfl, rfl⟩)
    go_wp2
    go_ret2
    exact ⟨fun _ => rfl, fun h => absurd hout h, hb1⟩
  · rw [iT_big (by omega)] at hI
    go_enter Tryd.func57, Tryd.ntmps57
    go_wp2_with (go_at_call 66; refine hI.mono ?_; rintro e w1 ⟨rfl, rfl⟩)
    go_wp2_with (go_at_call 67; refine (Tryd.strconv_toError_range ⟨#[80, 97, 114, 115, 101, 73, 110, 116]⟩ s 10 64 (.iface te pe) _ hlim ?_ (Or.inr ⟨te, pe, rfl⟩)).mono ?_)
    · exact hv1
    rintro e W2 ⟨N, rfl, h1, h2, h3⟩
    clear h1 h2
    go_wp2
    go_ret2
    exact ⟨fun h => absurd h hout, fun _ => ⟨_, _, _, rfl⟩, hb1.trans (h3.mono hb1.size)⟩

set_option maxHeartbeats 8000000 in
set_option maxRecDepth 100000 in
theorem pi_16 (s : ByteArray) (hne : s.size ≠ 0) (hmax : s.size ≤ 9223372036854775806) (hAll : ∀ c ∈ s.data.toList, hexB c = true) (w : World) :
    Calls Tryd.prog 66 #[.string s, .int .i64 16, .int .i64 64] w fun e w' => e = .returned (iT (numN 16 0 s.data.toList)) ∧ w' = Lib.bytesWorld w 5 s := by
  have hemp : s.toList.isEmpty = false := by
    rw [← decide_eq_emptyBytes]
    exact decide_eq_false (fun h => hne (by rw [h]; rfl))
  have hpos : 0 < s.size := by omega
  have hq1 : ∀ W, (binOp .neq 65 (.iface 85 (.int .i64 1)) (.iface 85 (.int .i64 1))).run Tryd.prog W = .ok (.bool false) W := fun W => Lib.run_neq_iface_int W 1 1 Tryd.underlying65 (by kernel_rfl) Tryd.underlying85
  have hU := pu_16 s hne hmax hAll w
  have h0 : hexB (s[0]'hpos) = true := hAll _ (by rw [Array.mem_toList_iff]; exact Array.getElem_mem _)
  have hn43 : (((s[0]'hpos).toNat : Int) == 43) = false := by
    rw [beq_eq_false_iff_ne]; intro h; have h2 : (s[0]'hpos).toNat = 43 := by omega
    simp [hexB, h2] at h0
  have hn45 : (((s[0]'hpos).toNat : Int) == 45) = false := by
    rw [beq_eq_false_iff_ne]; intro h; have h2 : (s[0]'hpos).toNat = 45 := by omega
    simp [hexB, h2] at h0
  obtain ⟨n, hn⟩ : ∃ n, n = numN 16 0 s.data.toList := ⟨_, rfl⟩
  rw [← hn] at hU ⊢
  clear hAll h0 hn
  obtain ⟨W1, hW1⟩ : ∃ W1, W1 = Lib.bytesWorld w 5 s := ⟨_, rfl⟩
  rw [← hW1] at hU ⊢
  clear hW1
  by_cases hout : n < 9223372036854775808
  · obtain ⟨a, ha⟩ : ∃ a : Int, a = (n : Int) := ⟨_, rfl⟩
    rw [uT_small (by omega), ← ha] at hU
    have HR : Hid (iT n = .tuple #[.int .i64 a, .nilIface]) := by rw [ha]; exact iT_small hout
    have a0 : 0 ≤ a := by omega
    have a1 : a < 9223372036854775808 := by omega
    clear ha hout
    go_enter Tryd.func66, Tryd.ntmps66
    go_wp2_with (go_at_call 72; refine hU.mono ?_; rintro e w1 ⟨rfl, rfl⟩)
    go_wp2
    go_ret2
    exact ⟨by rw [HR.out]; rfl, rfl⟩
  · have HR : Hid (iT n = .tuple #[.int .i64 9223372036854775807, .iface 85 (.int .i64 1)]) := iT_big (by omega)
    by_cases hbig : n < 18446744073709551616
    · obtain ⟨a, ha⟩ : ∃ a : Int, a = (n : Int) := ⟨_, rfl⟩
      rw [uT_small (by omega), ← ha] at hU
      have a0 : 9223372036854775808 ≤ a := by omega
      have a1 : a < 18446744073709551616 := by omega
      clear ha hout hbig
      go_enter Tryd.func66, Tryd.ntmps66
      go_wp2_with (go_at_call 72; refine hU.mono ?_; rintro e w1 ⟨rfl, rfl⟩)
      go_wp2
      go_ret2
      exact ⟨by rw [HR.out]; rfl, rfl⟩
    · rw [uT_big (by omega)] at hU
      clear hout hbig
      go_enter Tryd.func66, Tryd.ntmps66
      go_wp2_with (go_at_call 72; refine hU.mono ?_; rintro e w1 ⟨rfl, rfl⟩)
      go_wp2
      go_ret2
      exact ⟨by rw [HR.out]; rfl, rfl⟩

set_option maxHeartbeats 8000000 in
set_option maxRecDepth 100000 in
theorem pI_16 (s : ByteArray) (hne : s.size ≠ 0) (hlim : s.size ≤ 281474976710656) (hAll : ∀ c ∈ s.data.toList, hexB c = true) (w : World) (te : TypeId) (pe : Value) (hv : w.cell? ⟨2, 0, none⟩ = some (.iface te pe)) :
    Calls Tryd.prog 57 #[.string s, .int .i64 16, .int .i64 64] w fun e w' => PI (numN 16 0 s.data.toList) w e w' := by
  have hI := pi_16 s hne (by omega) hAll w
  obtain ⟨n, hn⟩ : ∃ n, n = numN 16 0 s.data.toList := ⟨_, rfl⟩
  rw [← hn] at hI ⊢
  clear hAll hn
  have hb1 := Lib.bytesWorld_below w 5 s
  obtain ⟨W1, hW1⟩ : ∃ W1, W1 = Lib.bytesWorld w 5 s := ⟨_, rfl⟩
  rw [← hW1] at hI hb1
  clear hW1
  have hv1 : W1.cell? ⟨2, 0, none⟩ = some (.iface te pe) := (hb1.cell (show (⟨2, 0, none⟩ : Addr).block < w.heap.size from Lib.lt_of_cell hv)).trans hv
  by_cases hout : n < 9223372036854775808
  · rw [iT_small hout] at hI
    go_enter Tryd.func57, Tryd.ntmps57
    go_wp2_with (go_at_call 66; refine hI.mono ?_; rintro e w1 ⟨rfl, rfl⟩)
    go_wp2
    go_ret2
    exact ⟨fun _ => rfl, fun h => absurd hout h, hb1⟩
  · rw [iT_big (by omega)] at hI
    go_enter Tryd.func57, Tryd.ntmps57
    go_wp2_with (go_at_call 66; refine hI.mono ?_; rintro e w1 ⟨rfl, rfl⟩)
    go_wp2_with (go_at_call 67; refine (Tryd.strconv_toError_range ⟨#[80, 97, 114, 115, 101, 73, 110, 116]⟩ s 16 64 (.iface te pe) _ hlim ?_ (Or.inr ⟨te, pe, rfl⟩)).mono ?_)
    · exact hv1
    rintro e W2 ⟨N, rfl, h1, h2, h3⟩
    clear h1 h2
    go_wp2
    go_ret2
    exact ⟨fun h => absurd h hout, fun _ => ⟨_, _, _, rfl⟩, hb1.trans (h3.mono hb1.size)⟩

end Go.Proofs.YtaipdmaiffjeeaaDoor
