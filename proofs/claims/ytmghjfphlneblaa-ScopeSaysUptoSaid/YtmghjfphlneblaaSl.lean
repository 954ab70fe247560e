/-
  Contracts of nothing and unitScope: what nodes stand for at first, and what is declared at the top.
-/
import Derived.Test.YtmghjfphlneblaaSk
import Derived.Test.YtmghjfphlneblaaTrM
namespace Go.Proofs.Ytmghjfphlneblaa.Sc
open Go.RowKit
open Tr

theorem declare_low_no {w : World} {g m n : Nat} {u : Value} {f : List UInt8 → Option Nat} (hb : Blk w g 58 #[u, .map (some m)]) (hM : MapIs w m n f) (k : Nat) (s : ByteArray) (hs : s.size ≤ maxLen) {v : Nat} (hv : f s.data.toList = some v) :
    Calls Try.prog 18 #[.pointer (some ⟨g, 0, none⟩), .string s, .int .i64 k] w fun e w' => e = .returned (.bool false) ∧ w = w' := by
  have c1 : w.cell? ⟨g, 1, none⟩ = some (.map (some m)) := by rw [hb.cell]; rfl
  have HM := Lib.hid hM
  have HV := Lib.hid hv
  have HS := Lib.hid hs
  clear hb hM hv hs
  go_enter Try.func18, Try.ntmps18
  go_wp2_with (at_lookup; refine look_some _ HM.out HS.out HV.out rfl _ _ rfl rfl rfl ?_)
  go_ret
  exact ⟨rfl, rfl⟩
set_option maxHeartbeats 1000000 in
set_option maxRecDepth 100000 in
theorem declare_low_yes {w : World} {g m n k : Nat} {u : Value} {l : List Nd} {E : Env} (hb : Blk w g 58 #[u, .map (some m)]) (hM : MapIs w m n (roomF l E 0)) (hkm : k ≤ 1000000) (hn : n ≤ 1000000) (s : ByteArray) (hs : s.size ≤ maxLen) (ht : s.data.toList = tx l k) (hv : (roomF l E 0 (tx l k)).isSome = false) :
    Calls Try.prog 18 #[.pointer (some ⟨g, 0, none⟩), .string s, .int .i64 k] w fun e w' => e = .returned (.bool true) ∧ w.grownBy w' (some m) ∧ MapIs w' m (n + 1) (roomF l (E ++ [(k, 0)]) 0) := by
  have c1 : w.cell? ⟨g, 1, none⟩ = some (.map (some m)) := by rw [hb.cell]; rfl
  have hv2 : roomF l E 0 s.data.toList = none := by rw [ht]; cases hr : roomF l E 0 (tx l k) with
    | none => rfl
    | some v => rw [hr] at hv; cases hv
  have HV := Lib.hid hv2
  have HS := Lib.hid hs
  have HM := Lib.hid hM
  have HV0 := Lib.hid hv
  have HT := Lib.hid ht
  have hn2 : n < maxLen := by unfold maxLen; omega
  have HN := Lib.hid hn2
  have hwf : (Lit.int .i64 (k : Int)).wf = true := WalkArith.wf_i64 (by omega)
  have HW := Lib.hid hwf
  obtain ⟨D, hown, hD⟩ := hM
  have HO := Lib.hid hown
  have HDD := Lib.hid hD
  clear hb hown hD hv hv2 hs ht hn2 hwf
  go_enter Try.func18, Try.ntmps18
  go_wp2_with (first | (at_lookup; refine look_none _ HM.out HS.out HV.out rfl _ _ rfl rfl rfl ?_) | (at_mapUpdate; refine wpList_mapUpdate_own _ rfl _ _ _ 56 rfl 9 3 lawS Try.underlying56 _ m n D rfl HO.out HN.out _ _ _ rfl rfl (WideMaps.keyOf_string_mk Try.underlying9 HS.out) _ [] (plainElem_int Try.underlying3 HW.out) ?_; intro w1 hown1 hgrow1))
  have HG := Lib.hid hgrow1
  have HO1 := Lib.hid hown1
  clear hgrow1 hown1
  go_wp2
  go_ret
  refine ⟨rfl, HG.out, _, HO1.out, fun s' => ?_⟩
  have hMap := HO.out.isMap
  by_cases e : s' = tx l k
  · subst e
    rw [roomF_same HV0.out, HT.out]
    have hk : WideAt.IsKeyLit (.string (tx l k)) := trivial
    exact ⟨Maps.has_put_same hMap hk _, fun v hv => by cases hv; exact Maps.atKey_put_same hMap hk _ _⟩
  · have hne : Lit.string s' ≠ Lit.string s.data.toList := fun e2 => e (by cases e2; exact HT.out)
    rw [Maps.has_put_other hne, Maps.atKey_put_other hne, roomF_other (fun hc => e hc.2.symm)]
    exact HDD.out s'

def negA (n k : Nat) : Array Value := (List.replicate k (Value.int .i64 (-1)) ++ List.replicate (n - k) (Value.int .i64 0)).toArray
theorem negA_zero (n : Nat) : numC n [] = negA n 0 := by simp [numC, negA]
theorem negA_end (n : Nat) : negA n n = intA (List.replicate n (-1)) := by simp [negA, intA]
theorem negA_set {n k : Nat} (h : k < n) : (negA n k).setIfInBounds k (.int .i64 (-1)) = negA n (k + 1) := by
  apply Array.ext'
  unfold negA
  rw [Array.toList_setIfInBounds]
  simp only
  rw [List.set_append, if_neg (by simp), List.length_replicate, Nat.sub_self]
  obtain ⟨r, hr⟩ : ∃ r, n - k = r + 1 := ⟨n - k - 1, by omega⟩
  rw [hr, show n - (k + 1) = r by omega, List.replicate_succ, List.set_cons_zero, List.replicate_succ', List.append_assoc]
  rfl
theorem negA_get {n k : Nat} (h : k < n) : (negA n k)[k]? = some (.int .i64 0) := by
  unfold negA
  rw [List.getElem?_toArray, List.getElem?_append_right (by simp), List.length_replicate, Nat.sub_self, List.getElem?_replicate, if_pos (by omega)]
set_option maxHeartbeats 4000000 in
set_option maxRecDepth 100000 in
theorem nothing_any (n : Nat) (hn : n ≤ 600) (w : World) :
    Calls Try.prog 9 #[.int .i64 n] w fun e w' => e = .returned (.slice (some ⟨w.heap.size, 0, none⟩) n n) ∧ Below w.heap.size w w' ∧ Blk w' w.heap.size 3 (intA (List.replicate n (-1))) := by
  have hmk := make_ints n w (by omega)
  rw [negA_zero] at hmk
  go_enter Try.func9, Try.ntmps9
  go_wp2
  have HMK := Lib.hid hmk
  clear hmk
  go_loopw [9] (fun v wr => ∃ k : Nat, k ≤ n ∧ v = .int .i64 k ∧ Blk wr w.heap.size 3 (negA n k) ∧ Below w.heap.size w wr) (fun v _ => n - (intOf v).toNat)
  case atStart => exact ⟨0, Nat.zero_le _, rfl, Blk.new _ _ _, (Below.refl _ _).alloc (Nat.le_refl _) _⟩
  obtain ⟨k, hk, rfl, hB, hbel⟩ := hrel
  have HBe := Lib.hid hbel
  by_cases hlt : k < n
  · have x0 : wr.cell? ⟨w.heap.size, k, none⟩ = some (.int .i64 0) := by rw [hB.cell]; exact negA_get hlt
    have g0 := hB.frozen k
    have lB := hB.lt
    have HB := Lib.hid hB
    clear hB hbel
    go_wp2
    go_roundw
    case rel => exact ⟨k + 1, by omega, by go_num, by have := HB.out.set_ k (.int .i64 (-1)); rw [negA_set hlt] at this; exact this, HBe.out.setCell (p := ⟨w.heap.size, k, none⟩) (Nat.le_refl _) _⟩
    case measure => simp [intOf]; omega
  · have e : k = n := by omega
    have HB := Lib.hid (show Blk wr w.heap.size 3 (intA (List.replicate n (-1))) by rw [← negA_end, ← e]; rw [e] at hB ⊢; exact hB)
    clear hB hbel
    go_wp2
    go_ret
    exact ⟨rfl, HBe.out, HB.out⟩
end Go.Proofs.Ytmghjfphlneblaa.Sc
