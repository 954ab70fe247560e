/-
  Contracts of the small functions of package scope: which nodes open a scope, the names that are there already, a new scope, a name declared, a name looked for.
-/
import Derived.Test.YtmghjfphlneblaaSb
namespace Go.Proofs.Ytmghjfphlneblaa.Sc
open Go.RowKit
open Tr

theorem zeroI (w : World) : (zeroValue 3).run Try.prog w = .ok (.int .i64 0) w := by kernel_rfl
theorem lawS : Maps.Keyed Try.prog 9 := Maps.string_keyed Try.underlying9
section
variable (w : World) {ops : Array Oper} {rest : List Oper} {o : Oper} {a : Act} {Q : Exit → Act → World → Prop}
theorem look_some {b n : Nat} {f : List UInt8 → Option Nat} (h : MapIs w b n f) {s : ByteArray} (hs : s.size ≤ maxLen) {v : Nat} (hv : f s.data.toList = some v)
    (hg : o.guard = none) (m x : Operand) (hop : o.op = Op.lookup 56 m x true) (hm : a.eval m = .map (some b)) (hx : a.eval x = .string s)
    (hK : wpList Try.prog ops Q rest (a.put o.dst (.tuple #[.int .i64 v, .bool true])) w) : wpList Try.prog ops Q (o :: rest) a w := by
  obtain ⟨D, hown, hD⟩ := h
  obtain ⟨h1, h2⟩ := hD s.data.toList
  rw [hv] at h1
  refine wpList_lookup_own_ok_int w hg m x 56 hop 9 3 .i64 lawS Try.underlying56 Try.underlying3 (zeroI _) b n D hm hown _ _ hx (WideMaps.keyOf_string_mk Try.underlying9 hs) (fun c hat _ => ?_)
  rw [h2 v hv] at hat
  cases hat
  rw [h1]
  exact hK
theorem look_none {b n : Nat} {f : List UInt8 → Option Nat} (h : MapIs w b n f) {s : ByteArray} (hs : s.size ≤ maxLen) (hv : f s.data.toList = none)
    (hg : o.guard = none) (m x : Operand) (hop : o.op = Op.lookup 56 m x true) (hm : a.eval m = .map (some b)) (hx : a.eval x = .string s)
    (hK : wpList Try.prog ops Q rest (a.put o.dst (.tuple #[.int .i64 0, .bool false])) w) : wpList Try.prog ops Q (o :: rest) a w := by
  obtain ⟨D, hown, hD⟩ := h
  obtain ⟨h1, _⟩ := hD s.data.toList
  rw [hv] at h1
  refine wpList_lookup_own_ok_int w hg m x 56 hop 9 3 .i64 lawS Try.underlying56 Try.underlying3 (zeroI _) b n D hm hown _ _ hx (WideMaps.keyOf_string_mk Try.underlying9 hs) (fun c hat _ => ?_)
  rw [Maps.atKey_of_not_has h1] at hat
  cases hat
  rw [h1]
  exact hK
end

set_option maxHeartbeats 400000 in
theorem opens_any (k : Int) (w : World) :
    Calls Try.prog 29 #[.int .i64 k] w fun e w' => e = .returned (.bool (opB k)) ∧ w = w' := by
  go_enter Try.func29, Try.ntmps29
  go_wp2
  all_goals go_ret
  all_goals exact ⟨ret_bool (by go_light; rw [Bool.eq_iff_iff]; simp [opB] at *; try omega), rfl⟩

set_option maxHeartbeats 400000 in
theorem lib_any (s : ByteArray) (w : World) :
    Calls Try.prog 17 #[.string s] w fun e w' => e = .returned (.bool (libB s.data.toList)) ∧ w = w' := by
  have hl : Hid (s.toList = s.data.toList) := Lib.hid (Lib.toList_data s)
  go_enter Try.func17, Try.ntmps17
  go_wp2
  all_goals go_ret
  all_goals exact ⟨ret_bool (by have := hl.out; go_light; simp_all [libB]), rfl⟩

set_option maxHeartbeats 400000 in
theorem inside_any (v : Value) (q : Option Addr) (hv : v = .pointer q) (w : World) :
    Calls Try.prog 16 #[v] w fun e w' => e = .returned (.pointer (some ⟨w.heap.size + 1, 0, none⟩)) ∧ w' = (w.alloc (.map #[] 0)).alloc (.cells #[v, .map (some w.heap.size)] 58) := by
  have hmm := @run_makeMap Try.prog
  subst hv
  go_enter Try.func16, Try.ntmps16
  go_wp2
  go_ret
  exact ⟨rfl, rfl⟩

section
variable {w0 w : World} {l : List Nd} {p : Option Addr} {cap R F : Nat} {ch : Ch} {E : Env} {fs : List Int}
set_option maxHeartbeats 1000000 in
set_option maxRecDepth 100000 in
theorem declare_no (h : Sm w0 w l p cap R F ch E fs) {now k g m : Nat} (hg : ch[now]? = some (g, m)) (s : ByteArray) (hs : s.size ≤ maxLen) (ht : s.data.toList = tx l k) (hn : (roomF l E now (tx l k)).isSome = true) :
    Calls Try.prog 18 #[.pointer (some ⟨g, 0, none⟩), .string s, .int .i64 k] w fun e w' => e = .returned (.bool false) ∧ w = w' := by
  have hlt : now < ch.length := (List.getElem?_eq_some_iff.1 hg).1
  have hgm : ch[now] = (g, m) := by rw [List.getElem?_eq_getElem hlt] at hg; exact Option.some.inj hg
  have hb := h.one now hlt
  obtain ⟨n, _, hM⟩ := h.map now hlt
  rw [hgm] at hb hM
  have c1 : w.cell? ⟨g, 1, none⟩ = some (.map (some m)) := by rw [hb.cell]; rfl
  obtain ⟨v, hv⟩ := Option.isSome_iff_exists.1 hn
  rw [← ht] at hv
  have HM := Lib.hid hM
  have HV := Lib.hid hv
  have HS := Lib.hid hs
  clear h hg hgm hb hM hv ht hn hs hlt
  go_enter Try.func18, Try.ntmps18
  go_wp2_with (at_lookup; refine look_some _ HM.out HS.out HV.out rfl _ _ rfl rfl rfl ?_)
  go_ret
  exact ⟨rfl, rfl⟩
set_option maxHeartbeats 1000000 in
set_option maxRecDepth 100000 in
theorem declare_yes (h : Sm w0 w l p cap R F ch E fs) {now k g m : Nat} (hch : ch.length = now + 1) (hg : ch[now]? = some (g, m)) (hk : k < l.length) (hkm : k ≤ 1000000) (hE : E.length ≤ 1000000) (s : ByteArray) (hs : s.size ≤ maxLen) (ht : s.data.toList = tx l k) (hn : (roomF l E now (tx l k)).isSome = false) :
    Calls Try.prog 18 #[.pointer (some ⟨g, 0, none⟩), .string s, .int .i64 k] w fun e w' => e = .returned (.bool true) ∧ Chg F m w w' ∧ Sm w0 w' l p cap R F ch (E ++ [(k, now)]) fs := by
  have hlt : now < ch.length := by omega
  have hgm : ch[now] = (g, m) := by rw [List.getElem?_eq_getElem hlt] at hg; exact Option.some.inj hg
  have hb := h.one now hlt
  obtain ⟨n, hnE, hM⟩ := h.map now hlt
  rw [hgm] at hb hM
  have c1 : w.cell? ⟨g, 1, none⟩ = some (.map (some m)) := by rw [hb.cell]; rfl
  have hv : roomF l E now s.data.toList = none := by rw [ht]; cases hr : roomF l E now (tx l k) with
    | none => rfl
    | some v => rw [hr] at hn; cases hn
  have HM := Lib.hid hM
  have HV := Lib.hid hv
  have HS := Lib.hid hs
  have H := Lib.hid h
  have HD : Hid (∀ (w' : World) (D : DataW Unit), (∀ s, Maps.has D (.string s) = (roomF l E now s).isSome ∧ ∀ v, roomF l E now s = some v → D.atKey (.string s) (.lit (.int .i64 0)) = .lit (.int .i64 v)) → Maps.IsMap D → w.grownBy w' (some m) → w'.ownsMap Try.prog 9 (plainElem Try.prog 3) m (n + 1) (D.put (.string s.data.toList) (.lit (.int .i64 k))) → Sm w0 w' l p cap R F ch (E ++ [(k, now)]) fs) :=
    fun w' D hD hMap hgr hw => h.decl hch hg hk hn hgr hnE hD hMap (by rw [← ht]; exact hw)
  have hn2 : n < maxLen := by unfold maxLen; omega
  have HN := Lib.hid hn2
  have hwf : (Lit.int .i64 (k : Int)).wf = true := WalkArith.wf_i64 (by omega)
  have HW := Lib.hid hwf
  clear h hg hgm hb hM hv ht hn hs hlt hch hk hnE hn2 hwf
  obtain ⟨D, hown, hD⟩ := HM.out
  have HO := Lib.hid hown
  have HDD := Lib.hid hD
  clear hown hD
  go_enter Try.func18, Try.ntmps18
  go_wp2_with (first | (at_lookup; refine look_none _ HM.out HS.out HV.out rfl _ _ rfl rfl rfl ?_) | (at_mapUpdate; refine wpList_mapUpdate_own _ rfl _ _ _ 56 rfl 9 3 lawS Try.underlying56 _ m n D rfl HO.out HN.out _ _ _ rfl rfl (WideMaps.keyOf_string_mk Try.underlying9 HS.out) _ [] (plainElem_int Try.underlying3 HW.out) ?_; intro w1 hown1 hgrow1))
  have HG := Lib.hid hgrow1
  have HO1 := Lib.hid hown1
  clear hgrow1 hown1
  go_wp2
  go_ret
  exact ⟨rfl, Chg.grown HG.out, HD.out _ _ HDD.out HO.out.isMap HG.out HO1.out⟩

set_option maxHeartbeats 1000000 in
set_option maxRecDepth 100000 in
theorem find_any (h : Sm w0 w l p cap R F ch E fs) {now : Nat} (hch : ch.length = now + 1) (hm : now ≤ 1000000) (s : ByteArray) (hs : s.size ≤ maxLen) :
    Calls Try.prog 45 #[upV ch (now + 1), .string s] w fun e w' => e = .returned (.tuple #[.int .i64 ((findF l E s.data.toList (now + 1)).getD 0 : Nat), .bool (findF l E s.data.toList (now + 1)).isSome]) ∧ w = w' := by
  obtain ⟨r0, hr0⟩ : ∃ r0, r0 = findF l E s.data.toList (now + 1) := ⟨_, rfl⟩
  obtain ⟨Q, hQ⟩ : ∃ Q : Ending → World → Prop, Q = fun e w' => e = .returned (.tuple #[.int .i64 ((findF l E s.data.toList (now + 1)).getD 0 : Nat), .bool (findF l E s.data.toList (now + 1)).isSome]) ∧ w = w' := ⟨_, rfl⟩
  rw [← hQ]
  have HQ := Lib.hid hQ
  have HR := Lib.hid hr0
  have H := Lib.hid h
  have HC := Lib.hid hch
  have HS := Lib.hid hs
  clear h hr0 hch hs hQ
  obtain ⟨v, hv⟩ : ∃ v, v = upV ch (now + 1) := ⟨_, rfl⟩
  rw [← hv]
  have HV := Lib.hid hv
  clear hv
  go_enter Try.func45, Try.ntmps45
  go_wp2
  go_loopg [0] (now + 1) (fun r v wr => r ≤ now + 1 ∧ Hid (v = upV ch r) ∧ Hid (r0 = findF l E s.data.toList r) ∧ Hid (w = wr))
  case atStart => exact ⟨Nat.le_refl _, HV.out, HR.out, rfl⟩
  clear HV
  obtain ⟨hr, HV, HF, HW⟩ := hrel
  obtain rfl := HW.out
  cases gk with
  | zero =>
    obtain rfl : u0 = .pointer none := HV.out
    clear HV HW
    go_wp2
    (try go_ret2)
    rw [HQ.out, ← HR.out, HF.out]
    exact ⟨rfl, rfl⟩
  | succ r =>
    have hlt : r < ch.length := by have := HC.out; omega
    have hb := H.out.one r hlt
    obtain ⟨n, _, hM⟩ := H.out.map r hlt
    have HM := Lib.hid hM
    obtain ⟨g, hg⟩ : ∃ g, g = (ch[r]).1 := ⟨_, rfl⟩
    obtain ⟨m, hm2⟩ : ∃ m, m = (ch[r]).2 := ⟨_, rfl⟩
    rw [← hg, ← hm2] at hb
    rw [← hm2] at HM
    have c0 : w.cell? ⟨g, 0, none⟩ = some (upV ch r) := by rw [hb.cell]; rfl
    have c1 : w.cell? ⟨g, 1, none⟩ = some (.map (some m)) := by rw [hb.cell]; rfl
    have hu : u0 = .pointer (some ⟨g, 0, none⟩) := by
      have := HV.out
      rw [this, hg]
      simp only [upV, List.getElem?_eq_getElem hlt]
      rfl
    subst hu
    obtain ⟨x, hx⟩ : ∃ x, x = upV ch r := ⟨_, rfl⟩
    rw [← hx] at c0
    have HX := Lib.hid hx
    clear hb hM hg hm2 HV hx hlt HW
    cases hf : roomF l E r s.data.toList with
    | some j =>
      have HJ := Lib.hid hf
      clear hf c0
      go_wp2_with (at_lookup; refine look_some _ HM.out HS.out HJ.out rfl _ _ rfl rfl rfl ?_)
      (try go_ret2)
      have h0 : r0 = some j := by rw [HF.out]; simp only [findF, HJ.out]
      rw [HQ.out, ← HR.out, h0]
      exact ⟨rfl, rfl⟩
    | none =>
      have HJ := Lib.hid hf
      clear hf
      go_wp2_with (at_lookup; refine look_none _ HM.out HS.out HJ.out rfl _ _ rfl rfl rfl ?_)
      go_roundg r
      case rel => exact ⟨by omega, HX.out, (show r0 = findF l E s.data.toList r by rw [HF.out]; simp only [findF, HJ.out]), (by first | exact rfl | exact trivial)⟩
      case measure => omega
end
end Go.Proofs.Ytmghjfphlneblaa.Sc
