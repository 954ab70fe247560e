/-
  Joined texts of this claim: Vj, Soc, Sod, Soe, Sof.
-/
import Derived.Test.YtmghjfphlneblaaGreatDoorW00
import Derived.Test.YtmghjfphlneblaaGreatDoorW23
import Derived.Test.YtmghjfphlneblaaGreatDoorW09
import Derived.Test.YtmghjfphlneblaaGreatDoorW26
import Derived.Test.YtmghjfphlneblaaGreatDoorW21
set_option maxHeartbeats 40000000
set_option maxRecDepth 100000
set_option linter.unusedVariables false
set_option linter.unusedSimpArgs false
namespace Go.Proofs.YtmghjfphlneblaaGreatDoor
section
open Go.RowKit
open Tk (T4 SR Scans bstr rowOf)
open Tr (Nd Blk KidsAt Fit)

theorem nz_unitW {l : List UInt8} {E n : Nat} {R : SR} (h : TokR l R) : Nz (unitW E n R) := nz_seq _ (nz3 (nz_read h) (nz_unit E n) nz_fits) _
/-- what Unit gives of a text -/
def UnitOf (l : List UInt8) (r : R3) : Prop := ∃ n R, TokR l R ∧ unitW l.length n R = r ∧ r ≠ .out
theorem punit_of {s : ByteArray} {r : R3} (h : UnitOf s.data.toList r) {w : World} (hE : Env w) (hs47 : s.size ≤ 140737488355328) : Calls Tryz.prog 13 #[.string s] w (ParR r w) := by
  obtain ⟨n, R, hR, hr, ho⟩ := h
  obtain ⟨te, pe, hv⟩ := hE.v3
  rw [← Lib.size_eq] at hr
  have := punit_any (n := n) (fun B => fnUnit B 67 s.size n) hR w hs47 hE.sh hv hE.v0 (by rw [hr]; exact ho) (nz_unitW hR)
  rwa [hr] at this
/-- where it is well: a tree in its form, and the last node is a unit -/
def GoodU (r : R3) : Prop := ∀ s, r = .ok s → CkN s.N 0 0 ∧ ∃ x, s.N.getLast? = some x ∧ x.k = 1
theorem unitW_ok (E n : Nat) (L : List T4) : unitW E n (.ok L) = (unitF E n ⟨L, [], []⟩).bind (seqF [fitsF]) := rfl
theorem seq_fits_ok {s s1 : S3} (h : seqF [fitsF] s = .ok s1) : s1 = s ∧ CkN s.N 0 0 := by
  obtain ⟨s3, h4, h5⟩ := bindF_ok h
  obtain ⟨rfl, hc⟩ := fits_ok h4
  cases h5
  exact ⟨rfl, hc⟩
theorem unitOf_total (l : List UInt8) : ∃ r, UnitOf l r ∧ GoodU r := by
  obtain ⟨R, hR⟩ := TokR.total l
  have hf := hR.few
  cases R with
  | bad c a => exact ⟨.bad c a, ⟨0, .bad c a, hR, rfl, by simp⟩, fun s h => by cases h⟩
  | ok L =>
    obtain ⟨h8, -⟩ := hf
    have hfine := unit_fine l.length 8100 L (by omega) (by omega)
    refine ⟨unitW l.length 8100 (.ok L), ⟨8100, .ok L, hR, rfl, ?_⟩, fun s hs => ?_⟩
    · rw [unitW_ok]; exact bind_ne hfine.ne (fun s => bind_ne (fits_ne s) (fun s => by simp [seqF]))
    · rw [unitW_ok] at hs
      obtain ⟨s1, h1, h2⟩ := bindF_ok hs
      obtain ⟨rfl, hc⟩ := seq_fits_ok h2
      exact ⟨hc, (hfine.ok h1).2⟩
def finU (r : R3) : Option (List Mn) := match r with
  | .ok s => if ckB (s.N.map ndOf) then some s.N else none
  | _ => none
def parseU (l : List UInt8) : Option (List Mn) := match scanF 300 0 l [] with
  | some (.ok L) => finU (unitF l.length 200 ⟨L, [], []⟩)
  | _ => none
theorem unitOf_eval {l : List UInt8} {N : List Mn} (h : parseU l = some N) (hl : l.length ≤ 2000) : ∃ s, UnitOf l (.ok s) ∧ s.N = N := by
  unfold parseU at h
  split at h
  · rename_i L hs
    unfold finU at h
    split at h
    · rename_i s hr
      split at h
      · rename_i hc
        cases h
        refine ⟨s, ⟨200, .ok L, Or.inr ⟨hl, scanF_sound _ _ _ _ _ hs⟩, ?_, by simp⟩, rfl⟩
        rw [unitW_ok, hr]
        show (fitsF s).bind (seqF []) = _
        rw [fits_yes (ckB_sound hc)]
        rfl
      · cases h
    · cases h
  · cases h
set_option maxRecDepth 100000 in
theorem fact_expr : ∃ s, ExprOf [97, 32, 43, 32, 98, 32, 42, 32, 99] (.ok s) ∧ s.N.length = 5 ∧ ∃ x, s.N[4]? = some x ∧ x.t = [43] := by
  have h : ((parseB [97, 32, 43, 32, 98, 32, 42, 32, 99]).bind fun N => if N.length = 5 then (N[4]?).map (·.t) else none) = some [43] := by decide +kernel
  cases hN : parseB [97, 32, 43, 32, 98, 32, 42, 32, 99] with
  | none => rw [hN] at h; cases h
  | some N =>
    rw [hN] at h
    obtain ⟨s, hs, rfl⟩ := exprOf_eval hN (by decide)
    simp only [Option.bind_some] at h
    split at h
    · rename_i h5
      refine ⟨s, hs, h5, ?_⟩
      cases hx : s.N[4]? with
      | none => rw [hx] at h; cases h
      | some x => rw [hx] at h; simp at h; exact ⟨x, rfl, h⟩
    · cases h
set_option maxRecDepth 100000 in
theorem fact_unit : ∃ s, UnitOf [105, 110, 116, 32, 102, 40, 105, 110, 116, 32, 120, 41, 32, 123, 32, 114, 101, 116, 117, 114, 110, 32, 120, 59, 32, 125] (.ok s) ∧ s.N.length = 6 := by
  have h : ((parseU [105, 110, 116, 32, 102, 40, 105, 110, 116, 32, 120, 41, 32, 123, 32, 114, 101, 116, 117, 114, 110, 32, 120, 59, 32, 125]).map fun N => N.length) = some 6 := by decide +kernel
  cases hN : parseU [105, 110, 116, 32, 102, 40, 105, 110, 116, 32, 120, 41, 32, 123, 32, 114, 101, 116, 117, 114, 110, 32, 120, 59, 32, 125] with
  | none => rw [hN] at h; cases h
  | some N =>
    rw [hN] at h
    obtain ⟨s, hs, rfl⟩ := unitOf_eval hN (by decide)
    exact ⟨s, hs, by simpa using h⟩
end
section
namespace Sc
open Go.RowKit
open Tr
open Tk (bstr)

section
variable {l l' : List Nd}
theorem roomF_congr (ht : tx l = tx l') : roomF l = roomF l' := by
  funext E r s; unfold roomF; rw [ht]
theorem findF_congr (ht : tx l = tx l') : findF l = findF l' := by
  funext E s n
  induction n with
  | zero => rfl
  | succ n ih => simp only [findF]; rw [roomF_congr ht, ih]
theorem declF_congr (ht : tx l = tx l') : declF l = declF l' := by
  funext now k E; unfold declF; rw [roomF_congr ht, ht]
theorem own_congr (hk : kindAt l = kindAt l') (ht : tx l = tx l') : own l = own l' := by
  funext now k E
  unfold own nameF callF
  rw [hk, declF_congr ht, findF_congr ht, roomF_congr ht, ht]
theorem look_congr (hk : kindAt l = kindAt l') (hc : kidsAt l = kidsAt l') (ht : tx l = tx l') : look l = look l' := by
  funext f
  induction f with
  | zero => funext now k E; rfl
  | succ f ih =>
    funext now k E
    have hkk : kidsF l (look l f) = kidsF l' (look l' f) := by funext now k E; unfold kidsF; rw [hk, hc, ih]
    simp only [look]
    rw [hk, hkk, own_congr hk ht]
theorem tops_congr (ht : tx l = tx l') : tops l = tops l' := by
  funext c
  induction c with
  | nil => rfl
  | cons x c ih => funext E; simp only [tops]; rw [ht, declF_congr ht, ih]
theorem namesF_congr (hl : l.length = l'.length) (hk : kindAt l = kindAt l') (hc : kidsAt l = kidsAt l') (ht : tx l = tx l') : namesF l = namesF l' := by
  unfold namesF
  rw [hl, hk, hc, tops_congr ht]
  have hf : finF l = finF l' := by funext r; unfold finF; rw [hl]
  rw [hf, look_congr hk hc ht]
end
theorem names_bare {ns : List Nd} {N : List Mn} (h : ns.map bare = N) : namesF ns = namesF (N.map ndOf) := by
  subst h
  refine namesF_congr (by simp) ?_ ?_ ?_
  · funext j; unfold kindAt; rw [List.getElem?_map, List.getElem?_map]; cases ns[j]? <;> rfl
  · funext j; unfold kidsAt; rw [List.getElem?_map, List.getElem?_map]; cases ns[j]? <;> rfl
  · funext j; unfold tx; rw [List.getElem?_map, List.getElem?_map]
    cases hj : ns[j]? with
    | none => rfl
    | some x => show _ = (bstr x.t.data.toList).data.toList; rw [bstr_data]; rfl
def factB (N : List Mn) : Bool := N.length == 6 && (match namesF (N.map ndOf) with | .ok fs => fs.length == 6 && fs[1]? == some 0 && fs[2]? == some 2 | _ => false)
set_option maxRecDepth 100000 in
theorem fact_scope : ∃ s, UnitOf [105, 110, 116, 32, 120, 59, 32, 118, 111, 105, 100, 32, 109, 97, 105, 110, 40, 41, 32, 123, 32, 105, 110, 116, 32, 120, 32, 61, 32, 120, 59, 32, 125] (.ok s) ∧ factB s.N = true ∧ CkN s.N 0 0 := by
  have h : ((parseU [105, 110, 116, 32, 120, 59, 32, 118, 111, 105, 100, 32, 109, 97, 105, 110, 40, 41, 32, 123, 32, 105, 110, 116, 32, 120, 32, 61, 32, 120, 59, 32, 125]).map fun N => factB N && ckB (N.map ndOf)) = some true := by decide +kernel
  cases hN : parseU [105, 110, 116, 32, 120, 59, 32, 118, 111, 105, 100, 32, 109, 97, 105, 110, 40, 41, 32, 123, 32, 105, 110, 116, 32, 120, 32, 61, 32, 120, 59, 32, 125] with
  | none => rw [hN] at h; cases h
  | some N =>
    rw [hN] at h
    obtain ⟨s, hs, rfl⟩ := unitOf_eval hN (by decide)
    have h2 : (factB s.N && ckB (s.N.map ndOf)) = true := by simpa using h
    obtain ⟨h3, h4⟩ := (Bool.and_eq_true _ _).mp h2
    exact ⟨s, hs, h3, ckB_sound h4⟩
end Sc
end
section
namespace Sc
open Go.RowKit
open Tr

theorem sfact1 {w : World} (hE : Go.Proofs.YtmghjfphlneblaaGreatDoor.Env w) : Calls Tryz.prog 13 #[.string ⟨#[105, 110, 116, 32, 120, 59, 32, 118, 111, 105, 100, 32, 109, 97, 105, 110, 40, 41, 32, 123, 32, 105, 110, 116, 32, 120, 32, 61, 32, 120, 59, 32, 125]⟩] w fun e w' => Below w.heap.size w w' ∧ ∃ p cap ns fs, e = .returned (.tuple #[.agg #[.slice p ns.length cap], .agg #[.int .i64 0, .int .i64 0]]) ∧
    Tr.Tr w' p ns ∧ Fit ns cap ∧ ns.length = 6 ∧ namesF ns = .ok fs ∧ fs[1]? = some 0 ∧ fs[2]? = some 2 ∧ CkR ns 0 0 := by
  obtain ⟨s, hs, hf, hc⟩ := fact_scope
  refine (punit_of (s := ⟨#[105, 110, 116, 32, 120, 59, 32, 118, 111, 105, 100, 32, 109, 97, 105, 110, 40, 41, 32, 123, 32, 105, 110, 116, 32, 120, 32, 61, 32, 120, 59, 32, 125]⟩) hs hE (by decide)).mono fun e w' ⟨hb, p, cap, ns, he, hT, hF, hl, hN, _⟩ => ⟨hb, ?_⟩
  unfold factB at hf
  obtain ⟨h6, hf⟩ := (Bool.and_eq_true _ _).mp hf
  rw [← names_bare hN] at hf
  have hlen : ns.length = 6 := by rw [← hN] at h6; simpa using h6
  cases hn : namesF ns with
  | bad c a => rw [hn] at hf; cases hf
  | ok fs =>
    rw [hn] at hf
    obtain ⟨hf1, hf3⟩ := (Bool.and_eq_true _ _).mp hf
    obtain ⟨_, hf2⟩ := (Bool.and_eq_true _ _).mp hf1
    exact ⟨p, cap, ns, fs, he, hT, hF, hlen, hn, eq_of_beq hf2, eq_of_beq hf3, (CkR_bare ns 0 0).2 (by rw [hN]; exact hc)⟩
theorem sfact2 {w : World} {p : Option Addr} {cap : Nat} {ns : List Nd} {fs : List Int} (hT : Tr.Tr w p ns) (hF : Fit ns cap) (h6 : ns.length = 6) (hn : namesF ns = .ok fs) (h1 : fs[1]? = some 0) (h2 : fs[2]? = some 2) (hc : CkR ns 0 0) :
    Calls Tryz.prog 19 #[.agg #[.slice p 6 cap]] w fun e w' => Below w.heap.size w w' ∧ ∃ F, e = .returned (.tuple #[.slice (some ⟨F, 0, none⟩) 6 6, .agg #[.int .i64 0, .int .i64 0]]) ∧ F < w'.heap.size ∧ w'.cell? ⟨F, 1, none⟩ = some (.int .i64 0) ∧ w'.cell? ⟨F, 2, none⟩ = some (.int .i64 2) := by
  have h := names_any ns p cap w hT hF
  rw [h6] at h
  refine h.mono fun e w' hp => ?_
  obtain ⟨c, a, hca, hp⟩ := hp
  obtain ⟨rfl, rfl⟩ := hc.det hca
  rcases hp with ⟨h0, _⟩ | ⟨_, hp⟩
  · exact absurd rfl h0
  · rw [hn] at hp
    obtain ⟨F, _, he, hb, hB, hl⟩ := hp
    rw [h6] at he
    refine ⟨hb, F, he, hB.lt, ?_, ?_⟩
    · rw [hB.cell]; simp [intA, h1]
    · rw [hB.cell]; simp [intA, h2]
set_option maxHeartbeats 4000000 in
set_option maxRecDepth 100000 in
theorem sfact_any {w : World} (hE : Go.Proofs.YtmghjfphlneblaaGreatDoor.Env w) : Calls Tryz.prog 18 #[] w fun e w' => e = .returned (.bool true) ∧ Below w.heap.size w w' := by
  have h1 := sfact1 hE
  clear hE
  go_enter Tryz.func18, Tryz.ntmps18
  go_wp2_with (go_at_call 13; refine h1.mono ?_)
  intro e w1 hb1 p cap ns he hT hF h6 fs hn q1 q2 hc
  subst he
  rw [h6]
  have hb2 : Below w.heap.size w ((w1.alloc (.cells #[.slice p 6 cap] 24)).alloc (.cells #[.int .i64 0, .int .i64 0] 26)) := (hb1.alloc hb1.size _).alloc (by simp; have := hb1.size; omega) _
  have hb12 : Below w1.heap.size w1 ((w1.alloc (.cells #[.slice p 6 cap] 24)).alloc (.cells #[.int .i64 0, .int .i64 0] 26)) := ((Below.refl _ _).alloc (Nat.le_refl _) _).alloc (by simp) _
  have h2 := sfact2 (hT.below hb12) hF h6 hn q1 q2 hc
  have HB2 := Lib.hid hb2
  clear h1 hb1 hb2 hb12 hT hF h6 hn q1 q2 hc
  go_wp2_with (go_at_call 19; refine h2.mono ?_)
  rintro e w2 ⟨hb3, F, rfl, lF, c1, c2⟩
  have HB3 := Lib.hid (HB2.out.trans (hb3.mono HB2.out.size))
  have k2 : Blk w2 (w1.heap.size + 1) 26 #[.int .i64 0, .int .i64 0] := by
    have h := Blk.new (w1.alloc (.cells #[.slice p 6 cap] 24)) 26 #[.int .i64 0, .int .i64 0]
    rw [World.size_alloc] at h
    exact h.below hb3 (by simp)
  have c0 : w2.cell? ⟨w1.heap.size + 1, 0, none⟩ = some (.int .i64 0) := by rw [k2.cell]; rfl
  have l2 := k2.lt
  clear hb3 k2 h2
  go_wp2
  go_ret
  exact ⟨rfl, HB3.out.alloc HB3.out.size _⟩
end Sc
end
section
namespace Sc
open Go.RowKit
open Tr

theorem namesF_code {l : List Nd} {c a : Int} (h0 : 1 ≤ l.length) (hC : ∀ j, j < l.length → codeAt l j = 0) (h : namesF l = .bad c a) : c ≠ 0 := by
  unfold namesF at h
  split at h
  · cases h; decide
  · split at h
    · rename_i E Wt ht
      have hfin := fine_look hC l.length 0 (l.length - 1) E.length E (by omega) (by omega) (by omega)
      cases hl : look l l.length 0 (l.length - 1) E with
      | ok E' W => rw [hl] at h; cases h
      | bad c1 a1 => rw [hl] at h hfin; cases h; rcases hfin with rfl | rfl <;> decide
      | out => rw [hl] at hfin; exact hfin.elim
    · rename_i ht; cases h; rcases tops_code _ _ _ _ _ ht with rfl | rfl <;> decide
    · rename_i ht; exact absurd ht (tops_out _ _ _)
def inL (n a b : Int) : Bool := decide (a ≤ n ∧ n ≤ b)
theorem in20_any (n a b : Int) (w : World) :
    Calls Tryz.prog 20 #[.int .i64 n, .int .i64 a, .int .i64 b] w fun e w' => e = .returned (.bool (inL n a b)) ∧ w = w' := by
  go_enter Tryz.func20, Tryz.ntmps20
  go_wp2
  all_goals go_ret
  all_goals exact ⟨ret_bool (by go_light; rw [Bool.eq_iff_iff]; simp [inL] at *; try omega), rfl⟩
/-- what Names tells, for the laws -/
def NmGood (l : List Nd) (w : World) (e : Ending) (w' : World) : Prop := Below w.heap.size w w' ∧
  ((∃ c a : Int, c ≠ 0 ∧ e = .returned (.tuple #[.slice none 0 0, .agg #[.int .i64 c, .int .i64 a]])) ∨
   (∃ F fs, e = .returned (.tuple #[.slice (some ⟨F, 0, none⟩) l.length l.length, .agg #[.int .i64 0, .int .i64 0]]) ∧ w.heap.size ≤ F ∧ F < w'.heap.size ∧ Blk w' F 3 (intA fs) ∧ fs.length = l.length ∧ namesF l = .ok fs ∧ CkR l 0 0 ∧ ∀ k, k < l.length → OwnP l fs k))
theorem names_good (l : List Nd) (p : Option Addr) (cap : Nat) (w : World) (hT : Tr.Tr w p l) (hf : Fit l cap) : Calls Tryz.prog 19 #[.agg #[.slice p l.length cap]] w (NmGood l w) := by
  refine (names_any l p cap w hT hf).mono fun e w' hp => ?_
  obtain ⟨c, a, hc, ⟨h0, h1, h2⟩ | ⟨rfl, h1⟩⟩ := hp
  · exact ⟨h2, Or.inl ⟨c, a, h0, h1⟩⟩
  · have hz := ckr_zero hc
    cases hn : namesF l with
    | bad c1 a1 =>
      rw [hn] at h1
      obtain ⟨h1, h2⟩ := h1
      exact ⟨h2, Or.inl ⟨c1, a1, namesF_code hz.1 hz.2.2.1 hn, h1⟩⟩
    | ok fs =>
      rw [hn] at h1
      obtain ⟨F, h2, h3, h4, h5, h6⟩ := h1
      have ha : a = 0 := by
        rcases hc with ⟨_, e, _⟩ | ⟨_, _, ⟨i, _, _, hne, e, _⟩ | ⟨_, ⟨_, e, _⟩ | ⟨_, ⟨_, e, _⟩ | ⟨_, _, e⟩⟩⟩⟩
        · cases e
        · exact absurd e.symm hne
        · cases e
        · cases e
        · exact e
      subst ha
      exact ⟨h4, Or.inr ⟨F, fs, h3, h2, h5.lt, h5, h6, hn, hc, (own_facts hz.1 hz.2.2.1 hz.2.2.2.1 hn).2⟩⟩
end Sc
end
section
namespace Sc
open Go.RowKit
open Tr

theorem tx_tb {l : List Nd} {k : Nat} (hk : k < l.length) {t : ByteArray} (ht : t = l[k].t) : t.toList = tx l k := by rw [ht, Lib.toList_data]; simp [tx, hk]
set_option maxHeartbeats 16000000 in
set_option maxRecDepth 100000 in
theorem own_walk (l : List Nd) (p : Option Addr) (cap : Nat) (w : World) (hE : Go.Proofs.YtmghjfphlneblaaGreatDoor.Env w) (hT : Tr.Tr w p l) (hf : Fit l cap) :
    Calls Tryz.prog 6 #[.agg #[.slice p l.length cap]] w fun e w' => e = .returned (.bool true) ∧ Below w.heap.size w w' := by
  have HW : Hid (Below w.heap.size w (w.alloc (.cells #[.slice p l.length cap] 24))) := (Below.refl _ _).alloc (Nat.le_refl _) _
  have hfa := sfact_any (hE.below HW.out)
  have HNM : Hid (∀ W, Below w.heap.size w W → Calls Tryz.prog 19 #[.agg #[.slice p l.length cap]] W (NmGood l W)) := fun W hW => names_good l p cap W (hT.below hW) hf
  have HT := Lib.hid hT
  have hn47 := hf.2.1
  obtain ⟨n, hn⟩ : ∃ n, n = l.length := ⟨_, rfl⟩
  rw [← hn] at HW hfa HNM hn47 ⊢
  have HN := Lib.hid hn
  have HX : Hid (Blk (w.alloc (.cells #[.slice p n cap] 24)) w.heap.size 24 #[.slice p n cap]) := Blk.new _ _ _
  clear hE hT hf hn
  go_enter Tryz.func6, Tryz.ntmps6
  go_wp2_with (go_at_call 18; refine hfa.mono ?_)
  first | rintro e w2 ⟨rfl, hb2⟩ | (intro e w2 he hb2; subst he)
  have HB2 := Lib.hid (HW.out.trans (hb2.mono (by simp; try omega)))
  have HX2 := Lib.hid (HX.out.below hb2 (by simp; try omega))
  have x2 : w2.cell? ⟨w.heap.size, 0, none⟩ = some (.slice p n cap) := by rw [HX2.out.cell]; rfl
  have l2 := HX2.out.lt
  have hnm := HNM.out w2 HB2.out
  clear hb2 hfa HX
  go_wp2_with (go_at_call 19; refine hnm.mono ?_)
  intro e w3 hp
  obtain ⟨hb3, ⟨c, a, hc, rfl⟩ | ⟨F, fs, rfl, hF0, hF1, hFB, hfl, hnn, hck, hown⟩⟩ := hp
  · have hc' : (c != 0) = true := by simpa using hc
    have HB3 := Lib.hid ((HB2.out.trans (hb3.mono HB2.out.size)).alloc (by have := HB2.out.size; have := hb3.size; omega) (.cells #[.int .i64 c, .int .i64 a] 26))
    clear hb3 hc hnm
    go_wp2
    go_ret
    exact ⟨rfl, HB3.out⟩
  · have HB3 := Lib.hid (HB2.out.trans (hb3.mono HB2.out.size))
    have HX3 := Lib.hid (HX2.out.below hb3 HX2.out.lt)
    have x3 : w3.cell? ⟨w.heap.size, 0, none⟩ = some (.slice p n cap) := by rw [HX3.out.cell]; rfl
    have l3 := HX3.out.lt
    rw [← HN.out]
    obtain ⟨w4, hw4⟩ : ∃ w4, w4 = w3.alloc (.cells #[.int .i64 0, .int .i64 0] 26) := ⟨_, rfl⟩
    have hb34 : Below w3.heap.size w3 w4 := by rw [hw4]; exact (Below.refl _ _).alloc (Nat.le_refl _) _
    have HB4 := Lib.hid (HB3.out.trans (hb34.mono HB3.out.size))
    have HX4 := Lib.hid (HX3.out.below hb34 HX3.out.lt)
    have HFB := Lib.hid (hFB.below hb34 hF1)
    have HOWN := Lib.hid hown
    have HFL := Lib.hid hfl
    have HW4 := Lib.hid hw4
    clear hb3 hnm hb34 hw4 hFB hown hfl hck hnn x2 l2
    go_wp2
    rw [← HW4.out]
    clear HW4 x3 l3
    go_loopw [6] (fun v wr => ∃ i : Nat, i ≤ n ∧ v = .int .i64 i ∧ Hid (Below w4.heap.size w4 wr)) (fun v _ => n - (intOf v).toNat)
    case atStart => exact ⟨0, Nat.zero_le _, rfl, Below.refl _ _⟩
    obtain ⟨i, hi, rfl, HBE⟩ := hrel
    have hbe := HBE.out
    have hX := HX4.out.below hbe HX4.out.lt
    have hF := HFB.out.below hbe HFB.out.lt
    have x4 : wr.cell? ⟨w.heap.size, 0, none⟩ = some (.slice p n cap) := by rw [hX.cell]; rfl
    have lx := hX.lt
    have lF := hF.lt
    by_cases hlt : i < n
    · have hil : i < l.length := by have := HN.out; omega
      obtain ⟨b, o, rfl, hb, hN⟩ := HT.out.1 (by omega)
      have hbw := HB4.out.trans (hbe.mono HB4.out.size)
      have hbl : b < wr.heap.size := Nat.lt_of_lt_of_le hb hbw.size
      obtain ⟨c0, c1, hc2, hc3, hc4, hc5⟩ := (hN i hil).below hbw hb
      obtain ⟨nn, zz, aa, cp, cn, kc, c2, c3, c4, c5⟩ : ∃ (nn zz aa : Int) (cp : Option Addr) (cn kc : Nat), wr.cell? ⟨b, o + i * 6 + 2, none⟩ = some (.int .i64 nn) ∧ wr.cell? ⟨b, o + i * 6 + 3, none⟩ = some (.int .i64 zz) ∧ wr.cell? ⟨b, o + i * 6 + 4, none⟩ = some (.slice cp cn kc) ∧ wr.cell? ⟨b, o + i * 6 + 5, none⟩ = some (.int .i64 aa) := ⟨_, _, _, _, _, _, hc2, hc3, hc4, hc5⟩
      clear hc2 hc3 hc4 hc5
      obtain ⟨v, hv, h1, h2, h3⟩ := HOWN.out i hil
      have hFi : wr.cell? ⟨F, i, none⟩ = some (.int .i64 v) := by rw [hF.cell]; simp [intA, hv]
      rw [← kindAt_get hil] at c0
      obtain ⟨kd, hkd⟩ : ∃ kd, kd = kindAt l i := ⟨_, rfl⟩
      rw [← hkd] at c0 h1 h2
      have hin := fun W => in20_any kd 2 4 W
      have hcs : (inL kd 2 4 = true ∧ (v != (i : Int)) = false ∧ (kd == 32) = false ∧ decide (v < 0) = false) ∨ (inL kd 2 4 = false ∧ (kd == 12) = true ∧ (v != (i : Int)) = false ∧ (kd == 32) = false ∧ decide (v < 0) = false) ∨
          (inL kd 2 4 = false ∧ (kd == 12) = false ∧ (kd == 32) = true ∧ decide (v < 0) = false) ∨ (inL kd 2 4 = false ∧ (kd == 12) = false ∧ (kd == 32) = false) := by
        by_cases e1 : 2 ≤ kd ∧ kd ≤ 4
        · have hv1 := h1 (by unfold decK; omega)
          exact Or.inl ⟨decide_eq_true e1, by rw [hv1]; simp, by simp; omega, by rw [hv1]; simp⟩
        · by_cases e2 : kd = 12
          · have hv1 := h1 (by unfold decK; omega)
            exact Or.inr (Or.inl ⟨decide_eq_false e1, by simpa using e2, by rw [hv1]; simp, by simp; omega, by rw [hv1]; simp⟩)
          · by_cases e3 : kd = 32
            · exact Or.inr (Or.inr (Or.inl ⟨decide_eq_false e1, by simpa using e2, by simpa using e3, decide_eq_false (by have := h2 e3; omega)⟩))
            · exact Or.inr (Or.inr (Or.inr ⟨decide_eq_false e1, by simpa using e2, by simpa using e3⟩))
      obtain ⟨t, ht⟩ : ∃ t, t = l[i].t := ⟨_, rfl⟩
      rw [← ht] at c1
      have HTI := Lib.hid (tx_tb hil ht)
      have HIL := Lib.hid hil
      have HBE2 := Lib.hid hbe
      rcases h3 with hvm | ⟨j, hvj, j1, j2, j3, j4⟩
      · have dn : decide (v < 0) = true := decide_eq_true (by omega)
        have hk2 : inL kd 2 4 = false ∧ (kd == 12) = false ∧ (kd == 32) = false := by
          rcases hcs with ⟨_, _, _, h⟩ | ⟨_, _, _, _, h⟩ | ⟨_, _, _, h⟩ | h
          · rw [dn] at h; cases h
          · rw [dn] at h; cases h
          · rw [dn] at h; cases h
          · exact h
        obtain ⟨k1, k2, k3⟩ := hk2
        clear hcs hvm h1 h2 hv hkd hN ht hil hX hF hbw hbe
        go_wp2_with (go_at_call 20; refine (hin _).mono ?_; rw [k1]; rintro e w' ⟨rfl, rfl⟩)
        go_roundw
        case rel => exact ⟨i + 1, by omega, by go_num, HBE2.out.alloc HBE2.out.size _⟩
        case measure => simp [intOf]; omega
      · subst hvj
        have hjn : j < n := by have := HN.out; omega
        have hin2 : ∀ W, Calls Tryz.prog 20 #[.int .i64 j, .int .i64 0, .int .i64 ((n : Int) - 1)] W fun e w' => e = .returned (.bool true) ∧ W = w' := fun W => by
          have h := in20_any j 0 ((n : Int) - 1) W
          rwa [show inL j 0 ((n : Int) - 1) = true from decide_eq_true (by omega)] at h
        have hFj : wr.cell? ⟨F, j, none⟩ = some (.int .i64 j) := by rw [hF.cell]; simp [intA, j3]
        obtain ⟨d0, d1, hd⟩ := (hN j j1).below hbw hb
        rw [← kindAt_get j1] at d0
        obtain ⟨t2, ht2⟩ : ∃ t2, t2 = l[j].t := ⟨_, rfl⟩
        rw [← ht2] at d1
        have et : (t2.toList == t.toList) = true := by rw [tx_tb j1 ht2, tx_tb hil ht, j2]; simp
        obtain ⟨kj, hkj⟩ : ∃ kj, kj = kindAt l j := ⟨_, rfl⟩
        rw [← hkj] at d0 j4
        have hgt : (kj == 12) = false ∨ ((kj == 12) = true ∧ decide (i < j) = false) := by
          by_cases e : kj = 12
          · exact Or.inr ⟨by simpa using e, decide_eq_false (by have := j4 e; omega)⟩
          · exact Or.inl (by simpa using e)
        have hq2 : ∀ W, Calls Tryz.prog 20 #[.int .i64 j, .int .i64 0, .int .i64 ((n : Int) - 1)] W fun e w' => e = .returned (.bool true) ∧ w' = W := fun W => (hin2 W).mono fun _ _ ⟨h1, h2⟩ => ⟨h1, h2.symm⟩
        have et2 : (t2.toList != t.toList) = false := by rw [bne, et]; rfl
        clear hin2
        have dn0 : decide ((j : Int) < 0) = false := decide_eq_false (by omega)
        have ei : ((j : Int) != (j : Int)) = false := by simp
        clear hd h1 h2 hv hkd hN ht ht2 hkj hil hX hF hbw hbe j1 j2 j3 j4
        rcases hcs with ⟨k1, k2, k3, k4⟩ | ⟨k1, k2, k3, k4, k5⟩ | ⟨k1, k2, k3, k4⟩ | ⟨k1, k2, k3⟩
        all_goals (rcases hgt with g1 | ⟨g1, g2⟩)
        all_goals go_wp2_with (go_at_call 20; refine (hin _).mono ?_; rw [k1]; rintro e w' ⟨rfl, rfl⟩)
        all_goals go_quiet ((go_at_call 20; exact Calls.quiet_of_same (hq2 _)))
        all_goals go_wp2
        all_goals go_quiet (fail)
        all_goals go_wp2
        all_goals go_roundw
        all_goals first | exact ⟨i + 1, by omega, by go_num, (by first | exact below_drewN (HBE2.out.alloc HBE2.out.size _) _ | exact below_drewN (below_drewN (HBE2.out.alloc HBE2.out.size _) _) _)⟩ | (simp [intOf]; omega) | skip
    · have HB5 := Lib.hid (HB4.out.trans (hbe.mono HB4.out.size))
      clear hbe hX hF
      go_wp2
      go_ret
      exact ⟨rfl, HB5.out⟩
end Sc
end
end Go.Proofs.YtmghjfphlneblaaGreatDoor
