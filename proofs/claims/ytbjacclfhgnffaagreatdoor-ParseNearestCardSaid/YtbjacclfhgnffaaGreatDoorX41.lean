/-
  Joined texts of this claim: Vj, Fa, Fb.
-/
import Derived.Test.YtbjacclfhgnffaaGreatDoorX30
import Derived.Test.YtbjacclfhgnffaaGreatDoorX32
import Derived.Test.YtbjacclfhgnffaaGreatDoorX34
import Derived.Test.YtbjacclfhgnffaaGreatDoorX40
import Derived.Test.YtbjacclfhgnffaaGreatDoorX01
set_option linter.unusedVariables false
set_option linter.unusedSimpArgs false
/-
  What Unit gives of a text, and the contract by it.
-/
namespace Go.Proofs.YtbjacclfhgnffaaGreatDoor
open Go.RowKit
open Tk (T4 SR Scans bstr rowOf)
open Tr (Nd Blk KidsAt Fit)

theorem nz_unitW {l : List UInt8} {E n : Nat} {R : SR} (h : TokR l R) : Nz (unitW E n R) := nz_seq _ (nz3 (nz_read h) (nz_unit E n) nz_fits) _
/-- what Unit gives of a text -/
def UnitOf (l : List UInt8) (r : R3) : Prop := ∃ n R, TokR l R ∧ unitW l.length n R = r ∧ r ≠ .out
theorem punit_of {s : ByteArray} {r : R3} (h : UnitOf s.data.toList r) {w : World} (hE : Env w) (hs47 : s.size ≤ 140737488355328) : Calls Tryz.prog 14 #[.string s] w (ParR r w) := by
  obtain ⟨n, R, hR, hr, ho⟩ := h
  obtain ⟨te, pe, hv⟩ := hE.v3
  rw [← Lib.size_eq] at hr
  have := punit_any (n := n) (fun B => fnUnit B 68 s.size n) hR w hs47 hE.sh hv hE.v0 (by rw [hr]; exact ho) (nz_unitW hR)
  rwa [hr] at this
/-- where it is well: a tree in its form, and the last node is a unit -/
def GoodU (r : R3) : Prop := ∀ s, r = .ok s → CkN s.N 0 0 ∧ ∃ x, s.N.getLast? = some x ∧ x.k = 1
theorem unitW_ok (E n : Nat) (L : List T4) : unitW E n (.ok L) = (unitF E n ⟨L, [], []⟩).bind (seqF [fitsF]) := rfl
theorem seq_fits_ok {s s1 : S3} (h : seqF [fitsF] s = .ok s1) : s1 = s ∧ CkN s.N 0 0 := by
  obtain ⟨s3, h4, h5⟩ := bindF_ok h
  obtain ⟨rfl, hc⟩ := fits_ok h4
  cases h5
  exact ⟨rfl, hc⟩
theorem unitOf_total (l : List UInt8) : ∃ r, UnitOf l r ∧ GoodU r := by
  obtain ⟨R, hR⟩ := TokR.total l
  have hf := hR.few
  cases R with
  | bad c a => exact ⟨.bad c a, ⟨0, .bad c a, hR, rfl, by simp⟩, fun s h => by cases h⟩
  | ok L =>
    obtain ⟨h8, -⟩ := hf
    have hfine := unit_fine l.length 8100 L (by omega) (by omega)
    refine ⟨unitW l.length 8100 (.ok L), ⟨8100, .ok L, hR, rfl, ?_⟩, fun s hs => ?_⟩
    · rw [unitW_ok]; exact bind_ne hfine.ne (fun s => bind_ne (fits_ne s) (fun s => by simp [seqF]))
    · rw [unitW_ok] at hs
      obtain ⟨s1, h1, h2⟩ := bindF_ok hs
      obtain ⟨rfl, hc⟩ := seq_fits_ok h2
      exact ⟨hc, (hfine.ok h1).2⟩
def finU (r : R3) : Option (List Mn) := match r with
  | .ok s => if ckB (s.N.map ndOf) then some s.N else none
  | _ => none
def parseU (l : List UInt8) : Option (List Mn) := match scanF 300 0 l [] with
  | some (.ok L) => finU (unitF l.length 200 ⟨L, [], []⟩)
  | _ => none
theorem unitOf_eval {l : List UInt8} {N : List Mn} (h : parseU l = some N) (hl : l.length ≤ 2000) : ∃ s, UnitOf l (.ok s) ∧ s.N = N := by
  unfold parseU at h
  split at h
  · rename_i L hs
    unfold finU at h
    split at h
    · rename_i s hr
      split at h
      · rename_i hc
        cases h
        refine ⟨s, ⟨200, .ok L, Or.inr ⟨hl, scanF_sound _ _ _ _ _ hs⟩, ?_, by simp⟩, rfl⟩
        rw [unitW_ok, hr]
        show (fitsF s).bind (seqF []) = _
        rw [fits_yes (ckB_sound hc)]
        rfl
      · cases h
    · cases h
  · cases h
set_option maxRecDepth 100000 in
theorem fact_expr : ∃ s, ExprOf [97, 32, 43, 32, 98, 32, 42, 32, 99] (.ok s) ∧ s.N.length = 5 ∧ ∃ x, s.N[4]? = some x ∧ x.t = [43] := by
  have h : ((parseB [97, 32, 43, 32, 98, 32, 42, 32, 99]).bind fun N => if N.length = 5 then (N[4]?).map (·.t) else none) = some [43] := by decide +kernel
  cases hN : parseB [97, 32, 43, 32, 98, 32, 42, 32, 99] with
  | none => rw [hN] at h; cases h
  | some N =>
    rw [hN] at h
    obtain ⟨s, hs, rfl⟩ := exprOf_eval hN (by decide)
    simp only [Option.bind_some] at h
    split at h
    · rename_i h5
      refine ⟨s, hs, h5, ?_⟩
      cases hx : s.N[4]? with
      | none => rw [hx] at h; cases h
      | some x => rw [hx] at h; simp at h; exact ⟨x, rfl, h⟩
    · cases h
set_option maxRecDepth 100000 in
theorem fact_unit : ∃ s, UnitOf [105, 110, 116, 32, 102, 40, 105, 110, 116, 32, 120, 41, 32, 123, 32, 114, 101, 116, 117, 114, 110, 32, 120, 59, 32, 125] (.ok s) ∧ s.N.length = 6 := by
  have h : ((parseU [105, 110, 116, 32, 102, 40, 105, 110, 116, 32, 120, 41, 32, 123, 32, 114, 101, 116, 117, 114, 110, 32, 120, 59, 32, 125]).map fun N => N.length) = some 6 := by decide +kernel
  cases hN : parseU [105, 110, 116, 32, 102, 40, 105, 110, 116, 32, 120, 41, 32, 123, 32, 114, 101, 116, 117, 114, 110, 32, 120, 59, 32, 125] with
  | none => rw [hN] at h; cases h
  | some N =>
    rw [hN] at h
    obtain ⟨s, hs, rfl⟩ := unitOf_eval hN (by decide)
    exact ⟨s, hs, by simpa using h⟩
end Go.Proofs.YtbjacclfhgnffaaGreatDoor
/-
  The contract of the closed fact.
-/
namespace Go.Proofs.YtbjacclfhgnffaaGreatDoor
open Go.RowKit
open Tk (T4 SR Scans bstr rowOf)
open Tr (Nd Blk KidsAt Fit)

theorem fact1 {w : World} (hE : Env w) : Calls Tryz.prog 11 #[.string ⟨#[97, 32, 43, 32, 98, 32, 42, 32, 99]⟩] w fun e w' => Below w.heap.size w w' ∧ ∃ b o cap x, e = .returned (.tuple #[.agg #[.slice (some ⟨b, o, none⟩) 5 cap], .agg #[.int .i64 0, .int .i64 0]]) ∧
    b < w'.heap.size ∧ w'.cell? ⟨b, o + 24 + 1, none⟩ = some (.string x) ∧ (x.toList == [43]) = true := by
  obtain ⟨s, hs, h5, x, hx, ht⟩ := fact_expr
  refine (pexpr_of (s := ⟨#[97, 32, 43, 32, 98, 32, 42, 32, 99]⟩) hs hE (by decide)).mono fun e w' ⟨hb, p, cap, ns, he, hT, hF, hl, hN, _⟩ => ⟨hb, ?_⟩
  have hlen : ns.length = 5 := by rw [← h5, ← hN]; simp
  obtain ⟨b, o, rfl, hbs, hc⟩ := hT.1 (by omega)
  obtain ⟨-, h1, -⟩ := hc 4 (by omega)
  rw [hlen] at he
  refine ⟨b, o, cap, _, he, hbs, h1, ?_⟩
  have e1 : s.N[4]? = some (bare ns[4]) := by rw [← hN]; simp [hlen]
  rw [hx] at e1
  have e2 : x = bare ns[4] := Option.some.inj e1
  rw [Lib.toList_data]
  have e3 : ns[4].t.data.toList = x.t := by rw [e2]; rfl
  rw [e3, ht]
  rfl
theorem fact2 {w : World} (hE : Env w) : Calls Tryz.prog 14 #[.string ⟨#[105, 110, 116, 32, 102, 40, 105, 110, 116, 32, 120, 41, 32, 123, 32, 114, 101, 116, 117, 114, 110, 32, 120, 59, 32, 125]⟩] w fun e w' => Below w.heap.size w w' ∧ ∃ p cap, e = .returned (.tuple #[.agg #[.slice p 6 cap], .agg #[.int .i64 0, .int .i64 0]]) := by
  obtain ⟨s, hs, h6⟩ := fact_unit
  refine (punit_of (s := ⟨#[105, 110, 116, 32, 102, 40, 105, 110, 116, 32, 120, 41, 32, 123, 32, 114, 101, 116, 117, 114, 110, 32, 120, 59, 32, 125]⟩) hs hE (by decide)).mono fun e w' ⟨hb, p, cap, ns, he, hT, hF, hl, hN, _⟩ => ⟨hb, p, cap, ?_⟩
  have hlen : ns.length = 6 := by rw [← h6, ← hN]; simp
  rw [hlen] at he
  exact he

set_option maxHeartbeats 4000000 in
set_option maxRecDepth 100000 in
theorem fact_any {w : World} (hE : Env w) : Calls Tryz.prog 16 #[] w fun e w' => e = .returned (.bool true) ∧ Below w.heap.size w w' := by
  have h1 := fact1 hE
  have HE := Lib.hid hE
  clear hE
  go_enter Tryz.func16, Tryz.ntmps16
  go_wp2_with (go_at_call 11; refine h1.mono ?_)
  rintro e w1 ⟨hb1, b, o, cap, x, rfl, hbl, hc, hx⟩
  have hb2 : Below w.heap.size w ((w1.alloc (.cells #[.slice (some ⟨b, o, none⟩) 5 cap] 24)).alloc (.cells #[.int .i64 0, .int .i64 0] 26)) := (hb1.alloc hb1.size _).alloc (by simp; have := hb1.size; omega) _
  have h2 := fact2 (HE.out.below hb2)
  have HB2 := Lib.hid hb2
  have HC := Lib.hid hc
  have HBL := Lib.hid hbl
  have Hx := Lib.hid hx
  clear h1 hb1 hb2 hc hx hbl
  go_wp2_with (go_at_call 14; refine h2.mono ?_)
  rintro e w2 ⟨hb3, p2, cap2, rfl⟩
  have HB3 := Lib.hid (HB2.out.trans (hb3.mono HB2.out.size))
  have k1 : Blk w2 w1.heap.size 24 #[.slice (some ⟨b, o, none⟩) 5 cap] := ((Blk.new _ _ _).alloc _).below hb3 (by simp; omega)
  have k2 : Blk w2 (w1.heap.size + 1) 26 #[.int .i64 0, .int .i64 0] := by
    have h := Blk.new (w1.alloc (.cells #[.slice (some ⟨b, o, none⟩) 5 cap] 24)) 26 #[.int .i64 0, .int .i64 0]
    rw [World.size_alloc] at h
    exact h.below hb3 (by simp)
  have c0 : w2.cell? ⟨w1.heap.size, 0, none⟩ = some (.slice (some ⟨b, o, none⟩) 5 cap) := by rw [k1.cell]; rfl
  have c1 : w2.cell? ⟨w1.heap.size + 1, 0, none⟩ = some (.int .i64 0) := by rw [k2.cell]; rfl
  have l1 := k1.lt
  have l2 := k2.lt
  have c3 : w2.cell? ⟨b, o + 24 + 1, none⟩ = some (.string x) := by
    have hl := HBL.out
    rw [hb3.cell (p := ⟨b, o + 24 + 1, none⟩) (by show b < _; simp; omega), World.cell?_alloc_past _ _ _ (by show b < _; simp; omega), World.cell?_alloc_past _ _ _ hl]
    exact HC.out
  have l3 : b < w2.heap.size := by have := HBL.out; have := hb3.size; simp at this; omega
  have hx := Hx.out
  clear h2 hb3 k1 k2
  go_wp2
  (try go_ret)
  exact ⟨rfl, (HB3.out.alloc HB3.out.size _).alloc (by simp; have := HB3.out.size; omega) _⟩
end Go.Proofs.YtbjacclfhgnffaaGreatDoor
/-
  The walk of ParseFits.
-/
namespace Go.Proofs.YtbjacclfhgnffaaGreatDoor
open Go.RowKit
open Tk (T4 SR Scans bstr rowOf)
open Tr (Nd Blk KidsAt Fit CkPost)

set_option maxHeartbeats 1000000 in
theorem none_any (p : Option Addr) (n cap : Nat) (hn : n ≤ 5000000) (w : World) : Calls Tryz.prog 17 #[.agg #[.slice p n cap]] w fun e w' => e = .returned (.bool (decide (n = 0))) ∧ Below w.heap.size w w' := by
  by_cases hz : n = 0
  · subst hz
    go_enter Tryz.func17, Tryz.ntmps17
    go_wp2
    go_ret
    exact ⟨rfl, (Below.refl _ _).alloc (Nat.le_refl _) _⟩
  · have hd : ((n : Int) == 0) = false := by simpa using hz
    have hr : Hid (decide (n = 0) = false) := by show _ = _; simpa using hz
    go_enter Tryz.func17, Tryz.ntmps17
    go_wp2
    go_ret
    exact ⟨by rw [hr.out]; rfl, (Below.refl _ _).alloc (Nat.le_refl _) _⟩
/-- the last node's kind -/
theorem last_kind {w : World} {p : Option Addr} {ns : List Nd} {N : List Mn} {x : Mn} (hT : Tr.Tr w p ns) (hN : ns.map bare = N) (hx : N.getLast? = some x) :
    ∃ m b o, ns.length = m + 1 ∧ p = some ⟨b, o, none⟩ ∧ b < w.heap.size ∧ w.cell? ⟨b, o + m * 6, none⟩ = some (.int .i64 x.k) := by
  subst hN
  have hpos : 0 < ns.length := by cases ns with | nil => cases hx | cons a l => simp
  obtain ⟨b, o, hp, hb, hc⟩ := hT.1 hpos
  refine ⟨ns.length - 1, b, o, by omega, hp, hb, ?_⟩
  obtain ⟨h0, -⟩ := hc (ns.length - 1) (by omega)
  rw [h0]
  have e1 : (ns.map bare).getLast? = some (bare ns[ns.length - 1]) := by
    rw [List.getLast?_eq_getElem?, List.getElem?_map, List.length_map, List.getElem?_eq_getElem (by omega)]; rfl
  rw [hx] at e1
  have e2 : x = bare ns[ns.length - 1] := Option.some.inj e1
  rw [e2]; rfl
/-- what Expr and Unit give: what is wrong, or a tree in its form whose last node is of such a kind -/
def PView (K : Int → Prop) (w : World) (e : Ending) (w' : World) : Prop := Below w.heap.size w w' ∧
  ((∃ c a : Int, c ≠ 0 ∧ e = .returned (.tuple #[.agg #[.slice none 0 0], .agg #[.int .i64 c, .int .i64 a]])) ∨
   (∃ (ns : List Nd) (m b o cap : Nat) (k : Int), K k ∧ ns.length = m + 1 ∧ m ≤ 4999999 ∧ e = .returned (.tuple #[.agg #[.slice (some ⟨b, o, none⟩) (m + 1) cap], .agg #[.int .i64 0, .int .i64 0]]) ∧
     Tr.Tr w' (some ⟨b, o, none⟩) ns ∧ Fit ns cap ∧ Tr.CkR ns 0 0 ∧ b < w'.heap.size ∧ w'.cell? ⟨b, o + m * 6, none⟩ = some (.int .i64 k) ∧ Hi w.heap.size (some ⟨b, o, none⟩) ns))
theorem pview_of {K : Int → Prop} {r : R3} {w : World} {e : Ending} {w' : World} (hr : r ≠ .out) (hz : Nz r) (hg : ∀ s, r = .ok s → CkN s.N 0 0 ∧ ∃ x, s.N.getLast? = some x ∧ K x.k) (h : ParR r w e w') : PView K w e w' := by
  obtain ⟨hb, h⟩ := h
  refine ⟨hb, ?_⟩
  cases r with
  | out => exact absurd rfl hr
  | bad c a => exact Or.inl ⟨c, a, hz c a rfl, h⟩
  | ok s =>
    obtain ⟨p, cap, ns, rfl, hT, hF, hl, hN, hH⟩ := h
    obtain ⟨hc, x, hx, hk⟩ := hg s rfl
    obtain ⟨m, b, o, hm, rfl, hbs, hcell⟩ := last_kind hT hN hx
    refine Or.inr ⟨ns, m, b, o, cap, x.k, hk, hm, by omega, by rw [hm], hT, hF, ?_, hbs, hcell, hH⟩
    rw [CkR_bare, hN]; exact hc
theorem unit_view {s : ByteArray} {w : World} (hE : Env w) (hs : s.size ≤ 140737488355328) : Calls Tryz.prog 14 #[.string s] w (PView (· = 1) w) := by
  obtain ⟨r, hr, hg⟩ := unitOf_total s.data.toList
  obtain ⟨n, R, hR, he, ho⟩ := hr
  exact (punit_of ⟨n, R, hR, he, ho⟩ hE hs).mono fun e w' h => pview_of ho (by rw [← he]; exact nz_unitW hR) hg h
theorem expr_view {s : ByteArray} {w : World} (hE : Env w) (hs : s.size ≤ 140737488355328) : Calls Tryz.prog 11 #[.string s] w (PView (fun k => Tr.exprB k = true) w) := by
  obtain ⟨r, hr, hg⟩ := exprOf_total s.data.toList
  obtain ⟨n, R, hR, he, ho⟩ := hr
  exact (pexpr_of ⟨n, R, hR, he, ho⟩ hE hs).mono fun e w' h => pview_of ho (by rw [← he]; exact nz_exprW hR) (fun s hs => ⟨(hg s hs).1, by obtain ⟨x, hx, h1, h2⟩ := (hg s hs).2; exact ⟨x, hx, by simp [Tr.exprB]; omega⟩⟩) h
theorem check0 {ns : List Nd} {p : Option Addr} {cap m : Nat} {w : World} (hT : Tr.Tr w p ns) (hf : Fit ns cap) (hc : Tr.CkR ns 0 0) (hm : ns.length = m) : Calls Tryz.prog 18 #[.agg #[.slice p m cap]] w fun e w' => e = .returned (.agg #[.int .i64 0, .int .i64 0]) ∧ Below w.heap.size w w' := by
  subst hm
  refine (Tr.check_any ns p cap w hT hf).mono fun e w' ⟨hb, c, a, he, hr⟩ => ⟨?_, hb⟩
  obtain ⟨rfl, rfl⟩ := hc.det hr
  exact he
theorem fld26 (x0 x1 : Value) (w : World) : (Instr.field 26 (.agg #[x0, x1]) 0).run Tryz.prog w = .ok x0 w := by kernel_rfl

set_option maxHeartbeats 8000000 in
set_option maxRecDepth 100000 in
theorem pfits_walk (s t : ByteArray) (w : World) (hE : Env w) (hs : s.size ≤ 140737488355328) (ht : t.size ≤ 140737488355328) :
    Calls Tryz.prog 5 #[.string s, .string t] w fun e w' => e = .returned (.bool true) ∧ Below w.heap.size w w' := by
  have hfa := fact_any hE
  have HE := Lib.hid hE
  have hfl := fld26
  clear hE
  go_enter Tryz.func5, Tryz.ntmps5
  go_wp2_with (go_at_call 16; refine hfa.mono ?_; rintro e w1 ⟨rfl, hb1⟩)
  have huv := unit_view (HE.out.below hb1) hs
  have HB1 := Lib.hid hb1
  clear hfa hb1
  refine huv.mono ?_
  rintro e w2 ⟨hb2, ⟨c, a, hc, rfl⟩ | ⟨ns, m, b, o, cap, k, rfl, hm, hm5, rfl, hT, hF, hC, hbs, hcell, -⟩⟩
  · have hb3 : Below w.heap.size w w2 := HB1.out.trans (hb2.mono HB1.out.size)
    have HG : Hid (w.heap.size ≤ w2.heap.size) := hb3.size
    have q0 : (c != 0) = true := by simpa using hc
    have hx1 : Below w2.heap.size w2 ((w2.alloc (.cells #[.slice none 0 0] 24)).alloc (.cells #[.int .i64 c, .int .i64 a] 26)) := ((Below.refl _ _).alloc (Nat.le_refl _) _).alloc (by simp) _
    have K1 : Hid (Blk ((w2.alloc (.cells #[.slice none 0 0] 24)).alloc (.cells #[.int .i64 c, .int .i64 a] 26)) w2.heap.size 24 #[.slice none 0 0]) := (Blk.new _ _ _).alloc _
    have K2 : Hid (Blk ((w2.alloc (.cells #[.slice none 0 0] 24)).alloc (.cells #[.int .i64 c, .int .i64 a] 26)) (w2.heap.size + 1) 26 #[.int .i64 c, .int .i64 a]) := by
      have h := Blk.new (w2.alloc (.cells #[.slice none 0 0] 24)) 26 #[.int .i64 c, .int .i64 a]
      rw [World.size_alloc] at h
      exact h
    have HB3 := Lib.hid (hb3.trans (hx1.mono hb3.size))
    clear hb2 hb3 hc huv hx1
    go_wp2_with (go_at_call 17; refine (none_any none 0 0 (by omega) _).mono ?_; rintro e w3 ⟨rfl, hb4⟩)
    have HBW := Lib.hid (HB3.out.trans (hb4.mono HB3.out.size))
    have KA := Lib.hid (K1.out.below hb4 K1.out.lt)
    have KB := Lib.hid (K2.out.below hb4 K2.out.lt)
    clear hb4 K1 K2 HB3 HB1
    have hev := expr_view (HE.out.below HBW.out) ht
    refine hev.mono ?_
    rintro e w5 ⟨hb5, ⟨c', a', hc', rfl⟩ | ⟨ns', m', b', o', cap', k', hk', hm', hm5', rfl, hT', hF', hC', hbs', hcell', hH'⟩⟩
    · have KA5 := Lib.hid (KA.out.below hb5 KA.out.lt)
      have KB5 := Lib.hid (KB.out.below hb5 KB.out.lt)
      have q : (c' != 0) = true := by simpa using hc'
      have HB5 := Lib.hid (HBW.out.trans (hb5.mono HBW.out.size))
      have a0 : w5.cell? ⟨w2.heap.size, 0, none⟩ = some (.slice none 0 0) := by rw [KA5.out.cell]; rfl
      have a0f := KA5.out.frozen 0
      have b0 : w5.cell? ⟨w2.heap.size + 1, 0, none⟩ = some (.int .i64 c) := by rw [KB5.out.cell]; rfl
      have b1 : w5.cell? ⟨w2.heap.size + 1, 1, none⟩ = some (.int .i64 a) := by rw [KB5.out.cell]; rfl
      have b0f := KB5.out.frozen 0
      have b1f := KB5.out.frozen 1
      have lA := KA5.out.lt
      have lB := KB5.out.lt
      clear hev hb5 hc'
      go_wp2_with (go_at_call 17; refine (none_any none 0 0 (by omega) _).mono ?_; rintro e w6 ⟨rfl, hb6⟩)
      (try go_ret)
      have hz := (((HB5.out.setCell (p := ⟨w2.heap.size, 0, none⟩) HG.out (.slice none 0 0)).setCell (p := ⟨w2.heap.size + 1, 0, none⟩) (Nat.le_succ_of_le HG.out) (.int .i64 c')).setCell (p := ⟨w2.heap.size + 1, 1, none⟩) (Nat.le_succ_of_le HG.out) (.int .i64 a'))
      exact ⟨rfl, hz.trans (hb6.mono hz.size)⟩
    · have KA5 := Lib.hid (KA.out.below hb5 KA.out.lt)
      have KB5 := Lib.hid (KB.out.below hb5 KB.out.lt)
      have HB5 := Lib.hid (HBW.out.trans (hb5.mono HBW.out.size))
      have hGA := KA.out.lt
      have hGB := KB.out.lt
      have hTs : Tr.Tr (((w5.setCell ⟨w2.heap.size, 0, none⟩ (.slice (some ⟨b', o', none⟩) (m' + 1) cap')).setCell ⟨w2.heap.size + 1, 0, none⟩ (.int .i64 0)).setCell ⟨w2.heap.size + 1, 1, none⟩ (.int .i64 0)) (some ⟨b', o', none⟩) ns' :=
        tr_hi hT' hH' (fun b hb _ => ((Below.heap_setCell _ _ _ _ (by show b ≠ w2.heap.size + 1; omega)).trans (Below.heap_setCell _ _ _ _ (by show b ≠ w2.heap.size + 1; omega))).trans (Below.heap_setCell _ _ _ _ (by show b ≠ w2.heap.size; omega))) (by simp [World.setCell])
      have hle : w3.heap.size ≤ b' := hH'.1 (by omega) b' o' rfl
      have hcs : (((w5.setCell ⟨w2.heap.size, 0, none⟩ (.slice (some ⟨b', o', none⟩) (m' + 1) cap')).setCell ⟨w2.heap.size + 1, 0, none⟩ (.int .i64 0)).setCell ⟨w2.heap.size + 1, 1, none⟩ (.int .i64 0)).cell? ⟨b', o' + m' * 6, none⟩ = some (.int .i64 k') :=
        (World.cell?_of_block (a := ⟨b', o' + m' * 6, none⟩) (((Below.heap_setCell _ _ _ _ (by show b' ≠ w2.heap.size + 1; omega)).trans (Below.heap_setCell _ _ _ _ (by show b' ≠ w2.heap.size + 1; omega))).trans (Below.heap_setCell _ _ _ _ (by show b' ≠ w2.heap.size; omega)))).trans hcell'
      have hks : Blk (((w5.setCell ⟨w2.heap.size, 0, none⟩ (.slice (some ⟨b', o', none⟩) (m' + 1) cap')).setCell ⟨w2.heap.size + 1, 0, none⟩ (.int .i64 0)).setCell ⟨w2.heap.size + 1, 1, none⟩ (.int .i64 0)) w2.heap.size 24 #[.slice (some ⟨b', o', none⟩) (m' + 1) cap'] := by
        have h := KA5.out.set_ 0 (.slice (some ⟨b', o', none⟩) (m' + 1) cap')
        have h2 : Blk (w5.setCell ⟨w2.heap.size, 0, none⟩ (.slice (some ⟨b', o', none⟩) (m' + 1) cap')) w2.heap.size 24 #[.slice (some ⟨b', o', none⟩) (m' + 1) cap'] := by simpa using h
        exact ((Below.heap_setCell _ _ _ _ (by show w2.heap.size ≠ w2.heap.size + 1; omega)).trans (Below.heap_setCell _ _ _ _ (by show w2.heap.size ≠ w2.heap.size + 1; omega))).trans h2
      have hck := check0 hTs hF' hC' hm'
      have hxk : ∀ w, Calls Tryz.prog 19 #[.int .i64 k'] w fun e w' => e = .returned (.bool true) ∧ w = w' := fun w => by have h := Tr.rexpr_any k' w; rwa [hk'] at h
      have hz := (((HB5.out.setCell (p := ⟨w2.heap.size, 0, none⟩) HG.out (.slice (some ⟨b', o', none⟩) (m' + 1) cap')).setCell (p := ⟨w2.heap.size + 1, 0, none⟩) (Nat.le_succ_of_le HG.out) (.int .i64 0)).setCell (p := ⟨w2.heap.size + 1, 1, none⟩) (Nat.le_succ_of_le HG.out) (.int .i64 0))
      have HZ := Lib.hid hz
      have HCS := Lib.hid hcs
      have HKS := Lib.hid hks
      have hbz : b' < (((w5.setCell ⟨w2.heap.size, 0, none⟩ (.slice (some ⟨b', o', none⟩) (m' + 1) cap')).setCell ⟨w2.heap.size + 1, 0, none⟩ (.int .i64 0)).setCell ⟨w2.heap.size + 1, 1, none⟩ (.int .i64 0)).heap.size := by simpa [World.setCell] using hbs'
      have HBZ := Lib.hid hbz
      have a0 : w5.cell? ⟨w2.heap.size, 0, none⟩ = some (.slice none 0 0) := by rw [KA5.out.cell]; rfl
      have a0f := KA5.out.frozen 0
      have b0 : w5.cell? ⟨w2.heap.size + 1, 0, none⟩ = some (.int .i64 c) := by rw [KB5.out.cell]; rfl
      have b1 : w5.cell? ⟨w2.heap.size + 1, 1, none⟩ = some (.int .i64 a) := by rw [KB5.out.cell]; rfl
      have b0f := KB5.out.frozen 0
      have b1f := KB5.out.frozen 1
      have lA := KA5.out.lt
      have lB := KB5.out.lt
      clear hev hb5 hT' hF' hC' hbs' hcell' hH' hTs hle hcs hks hz hbz hk' hGA hGB hm'
      go_wp2_with (first | (go_at_call 18; refine hck.mono ?_; rintro e w6 ⟨rfl, hb6⟩; have c0 : w6.cell? ⟨w2.heap.size, 0, none⟩ = some (.slice (some ⟨b', o', none⟩) (m' + 1) cap') := (by rw [(HKS.out.below hb6 HKS.out.lt).cell]; rfl); have cc : w6.cell? ⟨b', o' + m' * 6, none⟩ = some (.int .i64 k') := ((hb6.cell (p := ⟨b', o' + m' * 6, none⟩) HBZ.out).trans HCS.out)) | (go_at_call 19; refine (hxk _).mono ?_; rintro e w' ⟨rfl, rfl⟩))
      (try go_ret)
      exact ⟨rfl, HZ.out.trans (hb6.mono HZ.out.size)⟩
  · have hb3 : Below w.heap.size w w2 := HB1.out.trans (hb2.mono HB1.out.size)
    have HG : Hid (w.heap.size ≤ w2.heap.size) := hb3.size
    have hx1 : Below w2.heap.size w2 ((w2.alloc (.cells #[.slice (some ⟨b, o, none⟩) (m + 1) cap] 24)).alloc (.cells #[.int .i64 0, .int .i64 0] 26)) := ((Below.refl _ _).alloc (Nat.le_refl _) _).alloc (by simp) _
    have hck := check0 (hT.below hx1) hF hC hm
    have K1 : Hid (Blk ((w2.alloc (.cells #[.slice (some ⟨b, o, none⟩) (m + 1) cap] 24)).alloc (.cells #[.int .i64 0, .int .i64 0] 26)) w2.heap.size 24 #[.slice (some ⟨b, o, none⟩) (m + 1) cap]) := (Blk.new _ _ _).alloc _
    have K2 : Hid (Blk ((w2.alloc (.cells #[.slice (some ⟨b, o, none⟩) (m + 1) cap] 24)).alloc (.cells #[.int .i64 0, .int .i64 0] 26)) (w2.heap.size + 1) 26 #[.int .i64 0, .int .i64 0]) := by
      have h := Blk.new (w2.alloc (.cells #[.slice (some ⟨b, o, none⟩) (m + 1) cap] 24)) 26 #[.int .i64 0, .int .i64 0]
      rw [World.size_alloc] at h
      exact h
    have HB3 := Lib.hid (hb3.trans (hx1.mono hb3.size))
    have HC := Lib.hid hcell
    have HX := Lib.hid hx1
    clear hb2 hb3 hT hF hC hcell huv hx1 hm
    go_wp2_with (go_at_call 18; refine hck.mono ?_; rintro e w3 ⟨rfl, hb4⟩; have c0 : w3.cell? ⟨w2.heap.size, 0, none⟩ = some (.slice (some ⟨b, o, none⟩) (m + 1) cap) := (by rw [(K1.out.below hb4 K1.out.lt).cell]; rfl); have cc : w3.cell? ⟨b, o + m * 6, none⟩ = some (.int .i64 1) := (((HX.out.trans (hb4.mono HX.out.size)).cell (p := ⟨b, o + m * 6, none⟩) hbs).trans HC.out))
    have HBW := Lib.hid (HB3.out.trans (hb4.mono HB3.out.size))
    have KA := Lib.hid (K1.out.below hb4 K1.out.lt)
    have KB := Lib.hid (K2.out.below hb4 K2.out.lt)
    clear hb4 K1 K2 HB3 HB1 c0 cc hbs hck HC HX
    have hev := expr_view (HE.out.below HBW.out) ht
    refine hev.mono ?_
    rintro e w5 ⟨hb5, ⟨c', a', hc', rfl⟩ | ⟨ns', m', b', o', cap', k', hk', hm', hm5', rfl, hT', hF', hC', hbs', hcell', hH'⟩⟩
    · have KA5 := Lib.hid (KA.out.below hb5 KA.out.lt)
      have KB5 := Lib.hid (KB.out.below hb5 KB.out.lt)
      have q : (c' != 0) = true := by simpa using hc'
      have HB5 := Lib.hid (HBW.out.trans (hb5.mono HBW.out.size))
      have a0 : w5.cell? ⟨w2.heap.size, 0, none⟩ = some (.slice (some ⟨b, o, none⟩) (m + 1) cap) := by rw [KA5.out.cell]; rfl
      have a0f := KA5.out.frozen 0
      have b0 : w5.cell? ⟨w2.heap.size + 1, 0, none⟩ = some (.int .i64 0) := by rw [KB5.out.cell]; rfl
      have b1 : w5.cell? ⟨w2.heap.size + 1, 1, none⟩ = some (.int .i64 0) := by rw [KB5.out.cell]; rfl
      have b0f := KB5.out.frozen 0
      have b1f := KB5.out.frozen 1
      have lA := KA5.out.lt
      have lB := KB5.out.lt
      clear hev hb5 hc'
      go_wp2_with (go_at_call 17; refine (none_any none 0 0 (by omega) _).mono ?_; rintro e w6 ⟨rfl, hb6⟩)
      (try go_ret)
      have hz := (((HB5.out.setCell (p := ⟨w2.heap.size, 0, none⟩) HG.out (.slice none 0 0)).setCell (p := ⟨w2.heap.size + 1, 0, none⟩) (Nat.le_succ_of_le HG.out) (.int .i64 c')).setCell (p := ⟨w2.heap.size + 1, 1, none⟩) (Nat.le_succ_of_le HG.out) (.int .i64 a'))
      exact ⟨rfl, hz.trans (hb6.mono hz.size)⟩
    · have KA5 := Lib.hid (KA.out.below hb5 KA.out.lt)
      have KB5 := Lib.hid (KB.out.below hb5 KB.out.lt)
      have HB5 := Lib.hid (HBW.out.trans (hb5.mono HBW.out.size))
      have hGA := KA.out.lt
      have hGB := KB.out.lt
      have hTs : Tr.Tr (((w5.setCell ⟨w2.heap.size, 0, none⟩ (.slice (some ⟨b', o', none⟩) (m' + 1) cap')).setCell ⟨w2.heap.size + 1, 0, none⟩ (.int .i64 0)).setCell ⟨w2.heap.size + 1, 1, none⟩ (.int .i64 0)) (some ⟨b', o', none⟩) ns' :=
        tr_hi hT' hH' (fun b hb _ => ((Below.heap_setCell _ _ _ _ (by show b ≠ w2.heap.size + 1; omega)).trans (Below.heap_setCell _ _ _ _ (by show b ≠ w2.heap.size + 1; omega))).trans (Below.heap_setCell _ _ _ _ (by show b ≠ w2.heap.size; omega))) (by simp [World.setCell])
      have hle : w3.heap.size ≤ b' := hH'.1 (by omega) b' o' rfl
      have hcs : (((w5.setCell ⟨w2.heap.size, 0, none⟩ (.slice (some ⟨b', o', none⟩) (m' + 1) cap')).setCell ⟨w2.heap.size + 1, 0, none⟩ (.int .i64 0)).setCell ⟨w2.heap.size + 1, 1, none⟩ (.int .i64 0)).cell? ⟨b', o' + m' * 6, none⟩ = some (.int .i64 k') :=
        (World.cell?_of_block (a := ⟨b', o' + m' * 6, none⟩) (((Below.heap_setCell _ _ _ _ (by show b' ≠ w2.heap.size + 1; omega)).trans (Below.heap_setCell _ _ _ _ (by show b' ≠ w2.heap.size + 1; omega))).trans (Below.heap_setCell _ _ _ _ (by show b' ≠ w2.heap.size; omega)))).trans hcell'
      have hks : Blk (((w5.setCell ⟨w2.heap.size, 0, none⟩ (.slice (some ⟨b', o', none⟩) (m' + 1) cap')).setCell ⟨w2.heap.size + 1, 0, none⟩ (.int .i64 0)).setCell ⟨w2.heap.size + 1, 1, none⟩ (.int .i64 0)) w2.heap.size 24 #[.slice (some ⟨b', o', none⟩) (m' + 1) cap'] := by
        have h := KA5.out.set_ 0 (.slice (some ⟨b', o', none⟩) (m' + 1) cap')
        have h2 : Blk (w5.setCell ⟨w2.heap.size, 0, none⟩ (.slice (some ⟨b', o', none⟩) (m' + 1) cap')) w2.heap.size 24 #[.slice (some ⟨b', o', none⟩) (m' + 1) cap'] := by simpa using h
        exact ((Below.heap_setCell _ _ _ _ (by show w2.heap.size ≠ w2.heap.size + 1; omega)).trans (Below.heap_setCell _ _ _ _ (by show w2.heap.size ≠ w2.heap.size + 1; omega))).trans h2
      have hck := check0 hTs hF' hC' hm'
      have hxk : ∀ w, Calls Tryz.prog 19 #[.int .i64 k'] w fun e w' => e = .returned (.bool true) ∧ w = w' := fun w => by have h := Tr.rexpr_any k' w; rwa [hk'] at h
      have hz := (((HB5.out.setCell (p := ⟨w2.heap.size, 0, none⟩) HG.out (.slice (some ⟨b', o', none⟩) (m' + 1) cap')).setCell (p := ⟨w2.heap.size + 1, 0, none⟩) (Nat.le_succ_of_le HG.out) (.int .i64 0)).setCell (p := ⟨w2.heap.size + 1, 1, none⟩) (Nat.le_succ_of_le HG.out) (.int .i64 0))
      have HZ := Lib.hid hz
      have HCS := Lib.hid hcs
      have HKS := Lib.hid hks
      have hbz : b' < (((w5.setCell ⟨w2.heap.size, 0, none⟩ (.slice (some ⟨b', o', none⟩) (m' + 1) cap')).setCell ⟨w2.heap.size + 1, 0, none⟩ (.int .i64 0)).setCell ⟨w2.heap.size + 1, 1, none⟩ (.int .i64 0)).heap.size := by simpa [World.setCell] using hbs'
      have HBZ := Lib.hid hbz
      have a0 : w5.cell? ⟨w2.heap.size, 0, none⟩ = some (.slice (some ⟨b, o, none⟩) (m + 1) cap) := by rw [KA5.out.cell]; rfl
      have a0f := KA5.out.frozen 0
      have b0 : w5.cell? ⟨w2.heap.size + 1, 0, none⟩ = some (.int .i64 0) := by rw [KB5.out.cell]; rfl
      have b1 : w5.cell? ⟨w2.heap.size + 1, 1, none⟩ = some (.int .i64 0) := by rw [KB5.out.cell]; rfl
      have b0f := KB5.out.frozen 0
      have b1f := KB5.out.frozen 1
      have lA := KA5.out.lt
      have lB := KB5.out.lt
      clear hev hb5 hT' hF' hC' hbs' hcell' hH' hTs hle hcs hks hz hbz hk' hGA hGB hm'
      go_wp2_with (first | (go_at_call 18; refine hck.mono ?_; rintro e w6 ⟨rfl, hb6⟩; have c0 : w6.cell? ⟨w2.heap.size, 0, none⟩ = some (.slice (some ⟨b', o', none⟩) (m' + 1) cap') := (by rw [(HKS.out.below hb6 HKS.out.lt).cell]; rfl); have cc : w6.cell? ⟨b', o' + m' * 6, none⟩ = some (.int .i64 k') := ((hb6.cell (p := ⟨b', o' + m' * 6, none⟩) HBZ.out).trans HCS.out)) | (go_at_call 19; refine (hxk _).mono ?_; rintro e w' ⟨rfl, rfl⟩))
      (try go_ret)
      exact ⟨rfl, HZ.out.trans (hb6.mono HZ.out.size)⟩
end Go.Proofs.YtbjacclfhgnffaaGreatDoor
