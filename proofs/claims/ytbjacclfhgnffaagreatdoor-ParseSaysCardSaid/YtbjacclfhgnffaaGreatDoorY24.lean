/-
  Joined texts of this claim: Vb, Gg, Gh, Rda.
-/
import Derived.Test.YtbjacclfhgnffaaGreatDoorY23
import Derived.Test.YtbjacclfhgnffaaGreatDoorY12
import Derived.Test.YtbjacclfhgnffaaGreatDoorY15
set_option linter.unusedVariables false
set_option linter.unusedSimpArgs false
/-
  Plain: each text has its words, or what is wrong with it; and how these lie in memory.
-/
namespace Go.Proofs.YtbjacclfhgnffaaGreatDoor
open Go.RowKit
open Tk (T4 SR Scans skp fstT bstr rowOf)
open Tr (Nd Blk KidsAt)

theorem skp_pos {l : List UInt8} {n : Nat} (h : skp l = .skip n) : 1 ≤ n ∧ n ≤ l.length := by
  cases l with
  | nil => simp [skp] at h
  | cons c l =>
    have hb := Tk.cmtT_bd (c :: l)
    simp only [skp] at h
    split at h
    · cases h; exact ⟨Nat.le_refl _, by simp⟩
    · split at h
      · cases h
      · split at h
        · cases h
        · cases h
          rename_i h0
          exact ⟨by omega, by omega⟩
theorem scans_total : ∀ (m : Nat) (p : Nat) (l : List UInt8) (acc : List T4), l.length ≤ m → acc.length ≤ 800 → ∃ R, Scans p l acc R := by
  intro m
  induction m with
  | zero =>
    intro p l acc hm _
    obtain rfl : l = [] := List.eq_nil_of_length_eq_zero (by omega)
    exact ⟨_, .done _ _⟩
  | succ m ih =>
    intro p l acc hm ha
    cases hl : skp l with
    | skip n =>
      obtain ⟨h1, h2⟩ := skp_pos hl
      obtain ⟨R, hR⟩ := ih (p + n) (l.drop n) acc (by simp; omega) ha
      exact ⟨R, .skip hl hR⟩
    | opens => exact ⟨_, .opens hl⟩
    | word =>
      by_cases hn : l = []
      · subst hn; exact ⟨_, .done _ _⟩
      · by_cases h8 : acc.length = 800
        · exact ⟨_, .much hl hn h8⟩
        · cases hf : fstT l with
          | bad c => exact ⟨_, .bad hl hn h8 hf⟩
          | tok k n v =>
            obtain ⟨h1, h2⟩ := Tk.fstT_tok hf
            obtain ⟨R, hR⟩ := ih (p + n) (l.drop n) (acc ++ [⟨k, l.take n, v, p⟩]) (by simp; omega) (by simp; omega)
            exact ⟨R, .tok hl hn h8 hf hR⟩
def FewR : SR → Prop
  | .ok L => L.length ≤ 800
  | .bad c _ => c ≠ 0
theorem scans_few {p : Nat} {l : List UInt8} {acc : List T4} {R : SR} (h : Scans p l acc R) (ha : acc.length ≤ 800) : FewR R := by
  induction h with
  | done p acc => exact ha
  | skip h k ih => exact ih ha
  | opens h => exact (by decide : (1 : Nat) ≠ 0)
  | much h hn hm => exact (by decide : (10 : Nat) ≠ 0)
  | bad h hn hm hf => exact Tk.fstT_bad hf
  | tok h hn hm hf k' ih => exact ih (by simp; omega)
/-- the words of a text, or what is wrong with it -/
def TokR (l : List UInt8) (R : SR) : Prop := (2000 < l.length ∧ R = .bad 2 0) ∨ (l.length ≤ 2000 ∧ Scans 0 l [] R)
theorem TokR.total (l : List UInt8) : ∃ R, TokR l R := by
  by_cases h : 2000 < l.length
  · exact ⟨_, Or.inl ⟨h, rfl⟩⟩
  · obtain ⟨R, hR⟩ := scans_total _ 0 l [] (Nat.le_refl _) (by simp)
    exact ⟨R, Or.inr ⟨by omega, hR⟩⟩
def FewT (n : Nat) : SR → Prop
  | .ok L => L.length ≤ 800 ∧ n ≤ 2000
  | .bad c _ => c ≠ 0
theorem TokR.few {l : List UInt8} {R : SR} (h : TokR l R) : FewT l.length R := by
  rcases h with ⟨h, rfl⟩ | ⟨h, hs⟩
  · exact (by decide : (2 : Nat) ≠ 0)
  · have := scans_few hs (by simp)
    cases R with
    | ok L => exact ⟨this, h⟩
    | bad c a => exact this
theorem TokR.det {l : List UInt8} {R R' : SR} (h : TokR l R) (h' : TokR l R') : R = R' := by
  rcases h with ⟨h, rfl⟩ | ⟨h, hs⟩ <;> rcases h' with ⟨h', rfl⟩ | ⟨h', hs'⟩
  · rfl
  · omega
  · omega
  · exact hs.det hs'
/-- what Scan gives -/
def ScR (R : SR) (w : World) (e : Ending) (w' : World) : Prop :=
  Below w.heap.size w w' ∧ ∃ v, match R with
    | .ok L => e = .returned (.tuple #[v, .agg #[.int .i64 0, .int .i64 0]]) ∧ w'.ownsRow w.heap.size 82 4 v L.length (rowOf L)
    | .bad c a => e = .returned (.tuple #[v, .agg #[.int .i64 (c : Nat), .int .i64 (a : Nat)]]) ∧ v = .slice none 0 0
theorem scan_R {s : ByteArray} {R : SR} (hR : TokR s.data.toList R) {w : World} (hs : s.size ≤ 140737488355328) (hsh : w.ShapedOpen Tryz.prog) {te : TypeId} {pe : Value} (hv : w.cell? ⟨4, 0, none⟩ = some (.iface te pe)) :
    Calls Tryz.prog 56 #[.string s] w (ScR R w) := (Tk.scan_any s w hs hsh te pe hv).mono fun e w' ⟨hb, v, c, a, he, h⟩ => by
  refine ⟨hb, v, ?_⟩
  rcases h with ⟨h, rfl, rfl, rfl⟩ | ⟨h, R', hS, ho⟩
  · obtain rfl : R = .bad 2 0 := hR.det (Or.inl ⟨h, rfl⟩)
    exact ⟨he, rfl⟩
  · obtain rfl : R = R' := hR.det (Or.inr ⟨h, hS⟩)
    cases R with
    | ok L => obtain ⟨rfl, rfl, ho⟩ := ho; exact ⟨he, ho⟩
    | bad c' a' => obtain ⟨rfl, rfl, ho⟩ := ho; exact ⟨he, ho⟩
theorem rowOf_at (L : List T4) : ∀ j, (h : j < L.length) → ∀ i, i < 4 → (rowOf L)[j * 4 + i]? = (Tk.cells4 L[j])[i]? := by
  induction L with
  | nil => intro j h; simp at h
  | cons x L ih =>
    intro j h i hi
    have e : rowOf (x :: L) = Tk.cells4 x ++ rowOf L := by simp [rowOf]
    rw [e]
    cases j with
    | zero =>
      rw [List.getElem?_append_left (by simp [Tk.cells4]; omega)]
      simp
    | succ j =>
      rw [List.getElem?_append_right (by simp [Tk.cells4]; omega)]
      have := ih j (by simpa using h) i hi
      simp only [List.getElem_cons_succ]
      rw [← this]
      congr 1
      simp [Tk.cells4]; omega
/-- the words' row, as the parser has it -/
theorem toks_row {B b : Nat} {w : World} {v : Value} {L : List T4} (h : w.ownsRow b 82 4 v L.length (rowOf L)) (hb : ∀ g, b ≤ g → ¬ Own B w g) : Toks B w v L := by
  obtain ⟨h0, h1⟩ := h
  have hc := fun g hg => World.ownsRow.cells (w := w) (base := b) (e := 82) (size := 4) (v := v) (n := L.length) (xs := rowOf L) ⟨h0, h1⟩ (g := g) hg
  rcases h1 with ⟨rfl, h2⟩ | ⟨g, cap, cur, rfl, hg, hh, hn, hm, _, _⟩
  · exact ⟨none, 0, by rw [h2], by omega, by omega, fun h => absurd h (by omega)⟩
  · unfold maxLen at hm
    by_cases hcap : 0 < cap
    all_goals
      refine ⟨_, cap, rfl, hn, ?_, fun h0 => ?_⟩
      · first | omega | exact Nat.le_trans hm (by omega)
      · first
        | omega
        | (refine ⟨g, 0, rfl, lt_of_block hh, hb g hg, fun j hj => ?_⟩
           have e : ∀ i, i < 4 → ∀ u, (Tk.cells4 L[j])[i]? = some u → w.cell? ⟨g, j * 4 + i, none⟩ = some u := fun i hi u hu => by
             have := hc g rfl (j * 4 + i) u ((rowOf_at L j hj i hi).trans hu)
             have ea : ((⟨g, 0, none⟩ : Addr).add (j * 4 + i)) = ⟨g, j * 4 + i, none⟩ := by unfold Addr.add; split <;> simp_all
             rwa [ea] at this
           simp only [Nat.zero_add]
           exact ⟨e 0 (by omega) _ rfl, e 1 (by omega) _ rfl, e 2 (by omega) _ rfl, e 3 (by omega) _ rfl⟩)
end Go.Proofs.YtbjacclfhgnffaaGreatDoor
/-
  Plain: the words of a text bear names that are names; so what the parser gives of a text is in its form, or too large.
-/
namespace Go.Proofs.YtbjacclfhgnffaaGreatDoor
open Go.RowKit
open Tk (T4 SR Scans bstr)
open Tr (Dp)

theorem nameB_list {c : UInt8} {l : List UInt8} (hd : Tk.digB c = false) (hw : ∀ x, x ∈ c :: l → Tk.wordB x = true) (hl : (c :: l).length ≤ 12) : Tr.nameB (bstr (c :: l)) = true := by
  unfold Tr.nameB
  rw [decide_eq_true_eq]
  have hs : (bstr (c :: l)).size = (c :: l).length := rfl
  have hj : ∀ j (h : j < (bstr (c :: l)).size), (bstr (c :: l))[j] = (c :: l)[j]'h := fun j h => rfl
  refine ⟨by rw [hs]; exact Nat.succ_pos _, by rw [hs]; exact hl, hd, fun j h => ?_⟩
  rw [hj j h]
  exact hw _ (List.getElem_mem _)
theorem sgnF_kind (l : List UInt8) : ∀ j n v, Tk.sgnF l j ≠ .tok 1 n v := by
  intro j
  induction j with
  | zero => intro n v h; unfold Tk.sgnF at h; cases h
  | succ j ih =>
    intro n v h
    unfold Tk.sgnF at h
    split at h
    · cases h
    · exact ih n v h
theorem numD_kind (b : Nat) (p : UInt8 → Bool) (ds t : List UInt8) (n v : Nat) : Tk.numD b p ds t ≠ .tok 1 n v := by
  intro h
  unfold Tk.numD at h
  split at h
  · cases h
  · split at h <;> cases h
theorem chrT_kind (l : List UInt8) (n v : Nat) : Tk.chrT l ≠ .tok 1 n v := by
  intro h
  unfold Tk.chrT at h
  repeat' split at h
  all_goals cases h
theorem fst_name {l : List UInt8} {n v : Nat} (h : Tk.fstT l = .tok 1 n v) : Tr.nameB (bstr (l.take n)) = true := by
  cases l with
  | nil => cases h
  | cons c l =>
    have h : (if Tk.digB c = true then Tk.numT ((c :: l).take (Tk.preN Tk.wordB (c :: l))) else if Tk.wordB c = true then Tk.wrdT ((c :: l).take (Tk.preN Tk.wordB (c :: l))) else if c = 39 then Tk.chrT (c :: l) else Tk.sgnT (c :: l)) = .tok 1 n v := h
    split at h
    · exfalso
      unfold Tk.numT at h
      split at h
      · split at h
        · cases h
        · exact numD_kind _ _ _ _ _ _ h
      · exact numD_kind _ _ _ _ _ _ h
    · next hd =>
      split at h
      · next hw =>
        have ht : (c :: l).take (Tk.preN Tk.wordB (c :: l)) = (c :: l).takeWhile Tk.wordB := by
          have hp : (c :: l).takeWhile Tk.wordB <+: c :: l := List.takeWhile_prefix _
          exact (List.prefix_iff_eq_take.1 hp).symm
        have hall : ∀ x, x ∈ (c :: l).takeWhile Tk.wordB → Tk.wordB x = true := fun x hx => by
          have := List.all_takeWhile (l := c :: l) (p := Tk.wordB)
          exact List.all_eq_true.1 this x hx
        rw [ht] at h
        have hc : (c :: l).takeWhile Tk.wordB = c :: l.takeWhile Tk.wordB := by rw [List.takeWhile_cons, if_pos hw]
        unfold Tk.wrdT at h
        split at h
        · cases h
        · split at h
          · cases h
          · next hl =>
            injection h with _ hn _
            have hn2 : (c :: l).take n = (c :: l).takeWhile Tk.wordB := by rw [← hn]; exact ht
            rw [hn2, hc]
            refine nameB_list (by simpa using hd) (fun x hx => hall x (by rw [hc]; exact hx)) ?_
            rw [hc] at hl; omega
      · exfalso
        split at h
        · exact chrT_kind _ _ _ h
        · exact sgnF_kind _ _ _ _ h
theorem scans_ok {p : Nat} {l : List UInt8} {acc : List T4} {R : SR} (h : Scans p l acc R) : (∀ x, x ∈ acc → TokOk x) → ∀ L, R = .ok L → ∀ x, x ∈ L → TokOk x := by
  induction h with
  | done p acc => intro ha L hL; injection hL with hL; subst hL; exact ha
  | skip h k ih => exact ih
  | opens h => intro _ L hL; cases hL
  | much h hn hm => intro _ L hL; cases hL
  | bad h hn hm hf => intro _ L hL; cases hL
  | tok h hn hm hf k' ih =>
    intro ha
    refine ih fun x hx => ?_
    rcases List.mem_append.1 hx with hx | hx
    · exact ha x hx
    · rw [List.mem_singleton] at hx
      subst hx
      intro hk
      have hk : _ = 1 := hk
      subst hk
      exact fst_name hf
theorem TokR.ok {l : List UInt8} {L : List T4} (h : TokR l (.ok L)) : ∀ x, x ∈ L → TokOk x := by
  rcases h with ⟨_, h⟩ | ⟨_, h⟩
  · cases h
  · exact scans_ok h (fun x hx => by cases hx) L rfl
/-- not too large -/
def FitN (N : List Mn) : Prop := N.length ≤ 600 ∧ Dp (N.map ndOf) (N.length - 1) ≤ 40
theorem start_inv {L : List T4} (h : ∀ x, x ∈ L → TokOk x) : InvF ⟨L, [], []⟩ [] :=
  ⟨⟨.nil, fun j hj => by cases hj⟩, rfl, h⟩
/-- what the parser of expressions gives of words is a tree, which fits or is too large -/
theorem one_check {s s' : S3} {new : List Nat} {k : Int} (hg : Grew s s' [] new) (hk : kindsOf s' new = [k]) : 1 ≤ s'.N.length ∧ (FitN s'.N ∧ CkN s'.N 0 0 ∨ ¬ FitN s'.N ∧ ¬ CkN s'.N 0 0) := by
  have hn : ∃ o, new = [o] := by
    unfold kindsOf at hk
    rcases new with _ | ⟨o, _ | ⟨o2, l⟩⟩
    · cases hk
    · exact ⟨o, rfl⟩
    · injection hk with _ hk; cases hk
  obtain ⟨o, rfl⟩ := hn
  have hl := nds_length s'
  have := hg.inv.gs.check
  rw [hl] at this
  unfold FitN CkN
  rcases this with ⟨h1, h2, h3, h4⟩ | ⟨h1, h2, h3⟩
  · exact ⟨h1, Or.inl ⟨⟨h2, h3⟩, h4⟩⟩
  · exact ⟨h1, Or.inr ⟨fun h => by rcases h2 with h2 | h2; omega; exact absurd h.2 (by unfold nds at h2; omega), h3⟩⟩
theorem expr_check {E n : Nat} {L : List T4} (h : ∀ x, x ∈ L → TokOk x) {s' : S3} (hr : runJ E n .expr ⟨L, [], []⟩ = .ok s') : 1 ≤ s'.N.length ∧ (FitN s'.N ∧ CkN s'.N 0 0 ∨ ¬ FitN s'.N ∧ ¬ CkN s'.N 0 0) := by
  have h1 := run_good E n .expr ⟨L, [], []⟩ [] (start_inv h)
  rw [hr] at h1
  obtain ⟨new, hg, k, hk, _⟩ := h1
  exact one_check hg hk
theorem unit_check {E n : Nat} {L : List T4} (h : ∀ x, x ∈ L → TokOk x) {s' : S3} (hr : unitF E n ⟨L, [], []⟩ = .ok s') : 1 ≤ s'.N.length ∧ (FitN s'.N ∧ CkN s'.N 0 0 ∨ ¬ FitN s'.N ∧ ¬ CkN s'.N 0 0) := by
  have h1 := unitF_good E n ⟨L, [], []⟩ [] (start_inv h)
  rw [hr] at h1
  obtain ⟨new, hg, hk⟩ := h1
  exact one_check hg hk
end Go.Proofs.YtbjacclfhgnffaaGreatDoor
/-
  Plain: a word that reads as a sign or as a key is of that kind.
-/
namespace Go.Proofs.YtbjacclfhgnffaaGreatDoor
open Go.RowKit
open Tk (T4 SR Scans bstr)

theorem take_len {t l : List UInt8} (h : t <+: l) : l.take t.length = t := (List.prefix_iff_eq_take.1 h).symm
theorem fst_kind {c : UInt8} {l : List UInt8} {k n v : Nat} (h : Tk.fstT (c :: l) = .tok k n v) :
    1 ≤ n ∧ ((k = 1 ∧ Tk.wordB c = true ∧ Tk.digB c = false ∧ Tk.keyB ((c :: l).take n) = false) ∨ (k = 2 ∧ (Tk.digB c = true ∨ c = 39)) ∨ (k = 3 ∧ Tk.keyB ((c :: l).take n) = true) ∨ (k = 4 ∧ Tk.signB ((c :: l).take n) = true)) := by
  have h : (if Tk.digB c = true then Tk.numT ((c :: l).take (Tk.preN Tk.wordB (c :: l))) else if Tk.wordB c = true then Tk.wrdT ((c :: l).take (Tk.preN Tk.wordB (c :: l))) else if c = 39 then Tk.chrT (c :: l) else Tk.sgnT (c :: l)) = .tok k n v := h
  have hpre : (c :: l).takeWhile Tk.wordB <+: c :: l := List.takeWhile_prefix _
  have ht : (c :: l).take (Tk.preN Tk.wordB (c :: l)) = (c :: l).takeWhile Tk.wordB := take_len hpre
  rw [ht] at h
  have hone : Tk.wordB c = true → 1 ≤ ((c :: l).takeWhile Tk.wordB).length := fun hw => by
    rw [List.takeWhile_cons, if_pos hw]; exact Nat.succ_pos _
  split at h
  · next hd =>
    have hw : Tk.wordB c = true := by
      unfold Tk.digB at hd; unfold Tk.wordB; rw [decide_eq_true_eq] at hd ⊢; omega
    have hnum : ∀ b p ds, Tk.numD b p ds ((c :: l).takeWhile Tk.wordB) = .tok k n v → k = 2 ∧ 1 ≤ n := fun b p ds h => by
      unfold Tk.numD at h
      split at h
      · cases h
      · split at h
        · injection h with h1 h2 h3; exact ⟨h1.symm, by rw [← h2]; exact hone hw⟩
        · cases h
    have : k = 2 ∧ 1 ≤ n := by
      unfold Tk.numT at h
      split at h
      · split at h
        · cases h
        · exact hnum _ _ _ h
      · exact hnum _ _ _ h
    exact ⟨this.2, Or.inr (Or.inl ⟨this.1, Or.inl hd⟩)⟩
  · next hd =>
    split at h
    · next hw =>
      unfold Tk.wrdT at h
      split at h
      · next hk =>
        injection h with h1 h2 h3
        subst h2
        exact ⟨hone hw, Or.inr (Or.inr (Or.inl ⟨h1.symm, by rw [take_len hpre]; exact hk⟩))⟩
      · next hk =>
        split at h
        · cases h
        · injection h with h1 h2 h3
          subst h2
          exact ⟨hone hw, Or.inl ⟨h1.symm, hw, by simpa using hd, by rw [take_len hpre]; simpa using hk⟩⟩
    · split at h
      · next h39 =>
        have : k = 2 ∧ 1 ≤ n := by
          unfold Tk.chrT at h
          repeat' split at h
          all_goals first
            | (cases h; done)
            | (injection h with h1 h2 h3; omega)
        exact ⟨this.2, Or.inr (Or.inl ⟨this.1, Or.inr h39⟩)⟩
      · have : ∀ j, Tk.sgnF (c :: l) j = .tok k n v → 1 ≤ n ∧ k = 4 ∧ Tk.signB ((c :: l).take n) = true := by
          intro j
          induction j with
          | zero => intro h; unfold Tk.sgnF at h; cases h
          | succ j ih =>
            intro h
            unfold Tk.sgnF at h
            split at h
            · next hs =>
              injection h with h1 h2 h3
              subst h2
              exact ⟨Nat.succ_pos _, h1.symm, hs⟩
            · exact ih h
        obtain ⟨h1, h2, h3⟩ := this _ h
        exact ⟨h1, Or.inr (Or.inr (Or.inr ⟨h2, h3⟩))⟩
theorem signs_head : ∀ s, s ∈ Tk.signs → s ≠ [] ∧ Tk.wordB (s.headD 0) = false ∧ s.headD 0 ≠ 39 := by decide
theorem keys_head : ∀ s, s ∈ Tk.keys → s ≠ [] ∧ Tk.digB (s.headD 0) = false ∧ Tk.wordB (s.headD 0) = true := by decide
/-- what a word's kind tells of its text -/
structure TokK (x : T4) : Prop where
  kind : x.k = 1 ∨ x.k = 2 ∨ x.k = 3 ∨ x.k = 4
  sign : Tk.signB x.t = true ↔ x.k = 4
  key : Tk.keyB x.t = true ↔ x.k = 3
theorem sign_head {t : List UInt8} (h : Tk.signB t = true) : t ≠ [] ∧ Tk.wordB (t.headD 0) = false ∧ t.headD 0 ≠ 39 := signs_head t (List.contains_iff_mem.1 h)
theorem key_head {t : List UInt8} (h : Tk.keyB t = true) : t ≠ [] ∧ Tk.digB (t.headD 0) = false ∧ Tk.wordB (t.headD 0) = true := keys_head t (List.contains_iff_mem.1 h)
theorem dig_word {c : UInt8} (h : Tk.digB c = true) : Tk.wordB c = true := by
  unfold Tk.digB at h; unfold Tk.wordB; rw [decide_eq_true_eq] at h ⊢; omega
theorem fst_tok {l : List UInt8} {k n v p : Nat} (h : Tk.fstT l = .tok k n v) : TokK ⟨k, l.take n, v, p⟩ := by
  cases l with
  | nil => cases h
  | cons c l =>
    obtain ⟨hn, h⟩ := fst_kind h
    have hh : ((c :: l).take n).headD 0 = c := by
      obtain ⟨m, rfl⟩ : ∃ m, n = m + 1 := ⟨n - 1, by omega⟩
      rfl
    have hs : Tk.signB ((c :: l).take n) = true → Tk.wordB c = false ∧ c ≠ 39 := fun h => by have := (sign_head h).2; rwa [hh] at this
    have hk : Tk.keyB ((c :: l).take n) = true → Tk.digB c = false ∧ Tk.wordB c = true := fun h => by have := (key_head h).2; rwa [hh] at this
    have h39 : Tk.wordB 39 = false := by decide
    rcases h with ⟨rfl, hw, hd, hky⟩ | ⟨rfl, hd⟩ | ⟨rfl, hky⟩ | ⟨rfl, hsg⟩
    · exact ⟨Or.inl rfl, ⟨fun h => absurd (hs h).1 (by rw [hw]; decide), fun h => absurd (show (1 : Nat) = 4 from h) (by decide)⟩, ⟨fun h => absurd (show Tk.keyB ((c :: l).take n) = true from h) (by rw [hky]; decide), fun h => absurd (show (1 : Nat) = 3 from h) (by decide)⟩⟩
    · refine ⟨Or.inr (Or.inl rfl), ⟨fun h => ?_, fun h => absurd (show (2 : Nat) = 4 from h) (by decide)⟩, ⟨fun h => ?_, fun h => absurd (show (2 : Nat) = 3 from h) (by decide)⟩⟩
      · rcases hd with hd | hd
        · have := (hs h).1; rw [dig_word hd] at this; cases this
        · exact absurd hd (hs h).2
      · rcases hd with hd | hd
        · have := (hk h).1; rw [hd] at this; cases this
        · have := (hk h).2; rw [hd, h39] at this; cases this
    · exact ⟨Or.inr (Or.inr (Or.inl rfl)), ⟨fun h => absurd (hs h).1 (by rw [(hk hky).2]; decide), fun h => absurd (show (3 : Nat) = 4 from h) (by decide)⟩, ⟨fun _ => rfl, fun _ => hky⟩⟩
    · exact ⟨Or.inr (Or.inr (Or.inr rfl)), ⟨fun _ => rfl, fun _ => hsg⟩, ⟨fun h => absurd (hk h).2 (by rw [(hs hsg).1]; decide), fun h => absurd (show (4 : Nat) = 3 from h) (by decide)⟩⟩
theorem scans_kinds {p : Nat} {l : List UInt8} {acc : List T4} {R : SR} (h : Scans p l acc R) : (∀ x, x ∈ acc → TokK x) → ∀ L, R = .ok L → ∀ x, x ∈ L → TokK x := by
  induction h with
  | done p acc => intro ha L hL; injection hL with hL; subst hL; exact ha
  | skip h k ih => exact ih
  | opens h => intro _ L hL; cases hL
  | much h hn hm => intro _ L hL; cases hL
  | bad h hn hm hf => intro _ L hL; cases hL
  | tok h hn hm hf k' ih =>
    intro ha
    refine ih fun x hx => ?_
    rcases List.mem_append.1 hx with hx | hx
    · exact ha x hx
    · rw [List.mem_singleton] at hx
      subst hx
      exact fst_tok hf
theorem TokR.kinds {l : List UInt8} {L : List T4} (h : TokR l (.ok L)) : ∀ x, x ∈ L → TokK x := by
  rcases h with ⟨_, h⟩ | ⟨_, h⟩
  · cases h
  · exact scans_kinds h (fun x hx => by cases hx) L rfl
end Go.Proofs.YtbjacclfhgnffaaGreatDoor
/-
  Contracts of the document's reader's own functions: what is wrong, the next word, going on.
-/
namespace Go.Proofs.YtbjacclfhgnffaaGreatDoor
open Go.RowKit
open Tk (T4 bstr)
open Tr (Nd Blk KidsAt ret_bool)

/-- a reader, as it is handed on -/
def rdV (pn : Option Addr) (ln cn : Nat) (pl : Option Addr) (ll cl : Nat) (E : Nat) (c a top : Int) : Value :=
  .agg #[.slice pn ln cn, .slice pl ll cl, .int .i64 E, .int .i64 c, .int .i64 a, .int .i64 top]
set_option maxHeartbeats 2000000 in
set_option maxRecDepth 4000 in
theorem rok_any (pn : Option Addr) (ln cn : Nat) (pl : Option Addr) (ll cl E : Nat) (c a top : Int) (w : World) :
    Calls Tryz.prog 38 #[rdV pn ln cn pl ll cl E c a top] w fun e w' => e = .returned (.bool (decide (c = 0))) ∧ Below w.heap.size w w' := by
  unfold rdV
  go_enter Tryz.func38, Tryz.ntmps38
  go_wp2
  go_ret
  exact ⟨ret_bool (by by_cases h : c = 0 <;> simp [h]), (Below.refl _ _).alloc (Nat.le_refl _) _⟩

/-- words in memory, read alone -/
def TkRow (w : World) (p : Option Addr) (L : List T4) : Prop := 0 < L.length → ∃ b o, p = some ⟨b, o, none⟩ ∧ b < w.heap.size ∧ TokAt w b o L
theorem TkRow.below {w w' : World} {p : Option Addr} {L : List T4} (h : TkRow w p L) (hb : Below w.heap.size w w') : TkRow w' p L := fun h0 => by
  obtain ⟨b, o, rfl, hl, hc⟩ := h h0
  exact ⟨b, o, rfl, Nat.lt_of_lt_of_le hl hb.size, hc.same (hb.block b hl)⟩
set_option maxHeartbeats 2000000 in
set_option maxRecDepth 4000 in
theorem rpeek_nil (pn : Option Addr) (ln cn : Nat) (pl : Option Addr) (cl E : Nat) (c a top : Int) (w : World) :
    Calls Tryz.prog 68 #[rdV pn ln cn pl 0 cl E c a top] w fun e w' => e = .returned (tokV (pk E [])) ∧ Below w.heap.size w w' := by
  unfold rdV
  go_enter Tryz.func68, Tryz.ntmps68
  go_wp2
  refine bodyPost_ret (v := tokV (pk E [])) (by simp [results, Tryz.results68, go_sem, tokV, pk, bstr]) rfl ?_
  exact ⟨rfl, ((Below.refl _ _).alloc (Nat.le_refl _) _).alloc (Nat.le_of_lt (by rw [World.size_alloc]; omega)) _⟩
set_option maxHeartbeats 2000000 in
set_option maxRecDepth 4000 in
theorem rpeek_cons (pn : Option Addr) (ln cn b o : Nat) (n cl E : Nat) (k v at' : Int) (x : ByteArray) (c a top : Int) (w : World) (hn : n + 1 ≤ 5000000) (hb : b < w.heap.size)
    (t0 : w.cell? ⟨b, o, none⟩ = some (.int .i64 k)) (t1 : w.cell? ⟨b, o + 1, none⟩ = some (.string x)) (t2 : w.cell? ⟨b, o + 2, none⟩ = some (.int .i64 v)) (t3 : w.cell? ⟨b, o + 3, none⟩ = some (.int .i64 at')) :
    Calls Tryz.prog 68 #[rdV pn ln cn (some ⟨b, o, none⟩) (n + 1) cl E c a top] w fun e w' => e = .returned (.agg #[.int .i64 k, .string x, .int .i64 v, .int .i64 at']) ∧ Below w.heap.size w w' := by
  unfold rdV
  go_enter Tryz.func68, Tryz.ntmps68
  go_wp2
  refine bodyPost_ret (v := .agg #[.int .i64 k, .string x, .int .i64 v, .int .i64 at']) (by simp [results, Tryz.results68, go_sem]) rfl ?_
  exact ⟨rfl, ((Below.refl _ _).alloc (Nat.le_refl _) _).alloc (Nat.le_of_lt (by rw [World.size_alloc]; omega)) _⟩
theorem rpeek_any (pn : Option Addr) (ln cn : Nat) (pl : Option Addr) (cl E : Nat) (c a top : Int) (w : World) (L : List T4) (hT : TkRow w pl L) (hl : L.length ≤ 5000000) :
    Calls Tryz.prog 68 #[rdV pn ln cn pl L.length cl E c a top] w fun e w' => e = .returned (tokV (pk E L)) ∧ Below w.heap.size w w' := by
  cases L with
  | nil => exact rpeek_nil pn ln cn pl cl E c a top w
  | cons t L =>
    obtain ⟨b, o, rfl, hb, ht⟩ := hT (Nat.succ_pos _)
    have ht0 := ht 0 (Nat.succ_pos _)
    simp only [List.getElem_cons_zero, Nat.zero_mul, Nat.add_zero] at ht0
    obtain ⟨t0, t1, t2, t3⟩ := ht0
    exact rpeek_cons pn ln cn b o L.length cl E t.k t.v t.a (bstr t.t) c a top w hl hb t0 t1 t2 t3
theorem keep1 {w w' : World} {t1 : TypeId} {c1 : Array Value} (hb : Below (w.alloc (.cells c1 t1)).heap.size (w.alloc (.cells c1 t1)) w') : Blk w' w.heap.size t1 c1 :=
  (Blk.new w t1 c1).below hb (Blk.new w t1 c1).lt
theorem keepTwo {w w' : World} {t1 t2 : TypeId} {c1 c2 : Array Value} (hb : Below ((w.alloc (.cells c1 t1)).alloc (.cells c2 t2)).heap.size ((w.alloc (.cells c1 t1)).alloc (.cells c2 t2)) w') :
    Blk w' w.heap.size t1 c1 ∧ Blk w' (w.heap.size + 1) t2 c2 ∧ Below w.heap.size w w' := by
  have h2 := Blk.new (w.alloc (.cells c1 t1)) t2 c2
  have h1 := (Blk.new w t1 c1).alloc (.cells c2 t2)
  have hs : (w.alloc (.cells c1 t1)).heap.size = w.heap.size + 1 := World.size_alloc ..
  have h2' := h2.below hb h2.lt
  rw [hs] at h2'
  have hs2 : ((w.alloc (.cells c1 t1)).alloc (.cells c2 t2)).heap.size = w.heap.size + 1 + 1 := by rw [World.size_alloc, hs]
  have h0 : Below w.heap.size w ((w.alloc (.cells c1 t1)).alloc (.cells c2 t2)) := ((Below.refl _ _).alloc (Nat.le_refl _) _).alloc (by rw [hs]; exact Nat.le_succ _) _
  exact ⟨h1.below hb h1.lt, h2', h0.trans (hb.mono (by rw [hs2]; omega))⟩
theorem below6 {w w' : World} {v0 v1 v2 v3 v4 v5 : Value} (h : Below w.heap.size w w') : Below w.heap.size w ((((((w'.setCell ⟨w.heap.size + 1, 0, none⟩ v0).setCell ⟨w.heap.size + 1, 1, none⟩ v1).setCell ⟨w.heap.size + 1, 2, none⟩ v2).setCell ⟨w.heap.size + 1, 3, none⟩ v3).setCell ⟨w.heap.size + 1, 4, none⟩ v4).setCell ⟨w.heap.size + 1, 5, none⟩ v5) :=
  (((((h.setCell (Nat.le_succ _) _).setCell (Nat.le_succ _) _).setCell (Nat.le_succ _) _).setCell (Nat.le_succ _) _).setCell (Nat.le_succ _) _).setCell (Nat.le_succ _) _
theorem six {w : World} {g : Nat} {t : TypeId} {v0 v1 v2 v3 v4 v5 : Value} (h : Blk w g t #[v0, v1, v2, v3, v4, v5]) :
    w.cell? ⟨g, 0, none⟩ = some v0 ∧ w.cell? ⟨g, 1, none⟩ = some v1 ∧ w.cell? ⟨g, 2, none⟩ = some v2 ∧ w.cell? ⟨g, 3, none⟩ = some v3 ∧ w.cell? ⟨g, 4, none⟩ = some v4 ∧ w.cell? ⟨g, 5, none⟩ = some v5 ∧ g < w.heap.size :=
  ⟨h.cell 0, h.cell 1, h.cell 2, h.cell 3, h.cell 4, h.cell 5, h.lt⟩
set_option maxHeartbeats 2000000 in
set_option maxRecDepth 4000 in
theorem rskip_bad (pn : Option Addr) (ln cn : Nat) (pl : Option Addr) (ll cl E : Nat) (c a top : Int) (w : World) (hc : c ≠ 0) :
    Calls Tryz.prog 70 #[rdV pn ln cn pl ll cl E c a top] w fun e w' => e = .returned (rdV pn ln cn pl ll cl E c a top) ∧ Below w.heap.size w w' := by
  have hk := rok_any pn ln cn pl ll cl E c a top
  rw [decide_eq_false hc] at hk
  unfold rdV at hk ⊢
  go_enter Tryz.func70, Tryz.ntmps70
  go_wp2_with (go_at_call 38; refine (hk _).mono ?_; rintro e w' ⟨rfl, hb⟩; obtain ⟨b1, b2, hb3⟩ := keepTwo hb; obtain ⟨p0, p1, p2, p3, p4, p5, pl1⟩ := six b1; obtain ⟨q0, q1, q2, q3, q4, q5, ql1⟩ := six b2; have f0 := b2.frozen 0; have f1 := b2.frozen 1; have f2 := b2.frozen 2; have f3 := b2.frozen 3; have f4 := b2.frozen 4; have f5 := b2.frozen 5)
  refine bodyPost_ret (v := .agg #[.slice pn ln cn, .slice pl ll cl, .int .i64 E, .int .i64 c, .int .i64 a, .int .i64 top]) (by simp [results, Tryz.results70, go_sem, p0, q0, q1, q2, q3, q4, q5, ql1]) rfl ?_
  exact ⟨rfl, below6 hb3⟩
set_option maxHeartbeats 2000000 in
set_option maxRecDepth 4000 in
theorem rskip_nil (pn : Option Addr) (ln cn : Nat) (pl : Option Addr) (cl E : Nat) (a top : Int) (w : World) :
    Calls Tryz.prog 70 #[rdV pn ln cn pl 0 cl E 0 a top] w fun e w' => e = .returned (rdV pn ln cn pl 0 cl E 0 a top) ∧ Below w.heap.size w w' := by
  have hk := rok_any pn ln cn pl 0 cl E 0 a top
  rw [decide_eq_true rfl] at hk
  unfold rdV at hk ⊢
  go_enter Tryz.func70, Tryz.ntmps70
  go_wp2_with (go_at_call 38; refine (hk _).mono ?_; rintro e w' ⟨rfl, hb⟩; obtain ⟨b1, b2, hb3⟩ := keepTwo hb; obtain ⟨p0, p1, p2, p3, p4, p5, pl1⟩ := six b1; obtain ⟨q0, q1, q2, q3, q4, q5, ql1⟩ := six b2; have e0 := b1.frozen 0; have e1 := b1.frozen 1; have e2 := b1.frozen 2; have e3 := b1.frozen 3; have e4 := b1.frozen 4; have e5 := b1.frozen 5; have f0 := b2.frozen 0; have f1 := b2.frozen 1; have f2 := b2.frozen 2; have f3 := b2.frozen 3; have f4 := b2.frozen 4; have f5 := b2.frozen 5)
  refine bodyPost_ret (v := .agg #[.slice pn ln cn, .slice pl 0 cl, .int .i64 E, .int .i64 0, .int .i64 a, .int .i64 top]) (by simp [results, Tryz.results70, go_sem, p0, q0, q1, q2, q3, q4, q5, ql1]) rfl ?_
  exact ⟨rfl, below6 hb3⟩
set_option maxHeartbeats 2000000 in
set_option maxRecDepth 4000 in
theorem rskip_cons (pn : Option Addr) (ln cn b o n cl E : Nat) (a top : Int) (w : World) (hn : n + 1 ≤ 5000000) (hc : n + 1 ≤ cl) (hcl : cl ≤ 9223372036854775807) (h1 : ¬ cl = 1) :
    Calls Tryz.prog 70 #[rdV pn ln cn (some ⟨b, o, none⟩) (n + 1) cl E 0 a top] w fun e w' => e = .returned (rdV pn ln cn (some ⟨b, o + 4, none⟩) n (cl - 1) E 0 a top) ∧ Below w.heap.size w w' := by
  have hk := rok_any pn ln cn (some ⟨b, o, none⟩) (n + 1) cl E 0 a top
  rw [decide_eq_true rfl] at hk
  unfold rdV at hk ⊢
  go_enter Tryz.func70, Tryz.ntmps70
  go_wp2_with (go_at_call 38; refine (hk _).mono ?_; rintro e w' ⟨rfl, hb⟩; obtain ⟨b1, b2, hb3⟩ := keepTwo hb; obtain ⟨p0, p1, p2, p3, p4, p5, pl1⟩ := six b1; obtain ⟨q0, q1, q2, q3, q4, q5, ql1⟩ := six b2; have e0 := b1.frozen 0; have e1 := b1.frozen 1; have e2 := b1.frozen 2; have e3 := b1.frozen 3; have e4 := b1.frozen 4; have e5 := b1.frozen 5; have f0 := b2.frozen 0; have f1 := b2.frozen 1; have f2 := b2.frozen 2; have f3 := b2.frozen 3; have f4 := b2.frozen 4; have f5 := b2.frozen 5)
  refine bodyPost_ret (v := .agg #[.slice pn ln cn, .slice (some ⟨b, o + 4, none⟩) n (cl - 1), .int .i64 E, .int .i64 0, .int .i64 a, .int .i64 top]) (by simp [results, Tryz.results70, go_sem, p0, q0, q1, q2, q3, q4, q5, ql1]) rfl ?_
  exact ⟨rfl, below6 (hb3.setCell (Nat.le_refl _) _)⟩
set_option maxHeartbeats 2000000 in
set_option maxRecDepth 4000 in
theorem rskip_one (pn : Option Addr) (ln cn b o E : Nat) (a top : Int) (w : World) :
    Calls Tryz.prog 70 #[rdV pn ln cn (some ⟨b, o, none⟩) 1 1 E 0 a top] w fun e w' => e = .returned (rdV pn ln cn (some ⟨b, o, none⟩) 0 0 E 0 a top) ∧ Below w.heap.size w w' := by
  have hk := rok_any pn ln cn (some ⟨b, o, none⟩) 1 1 E 0 a top
  rw [decide_eq_true rfl] at hk
  unfold rdV at hk ⊢
  go_enter Tryz.func70, Tryz.ntmps70
  go_wp2_with (go_at_call 38; refine (hk _).mono ?_; rintro e w' ⟨rfl, hb⟩; obtain ⟨b1, b2, hb3⟩ := keepTwo hb; obtain ⟨p0, p1, p2, p3, p4, p5, pl1⟩ := six b1; obtain ⟨q0, q1, q2, q3, q4, q5, ql1⟩ := six b2; have e0 := b1.frozen 0; have e1 := b1.frozen 1; have e2 := b1.frozen 2; have e3 := b1.frozen 3; have e4 := b1.frozen 4; have e5 := b1.frozen 5; have f0 := b2.frozen 0; have f1 := b2.frozen 1; have f2 := b2.frozen 2; have f3 := b2.frozen 3; have f4 := b2.frozen 4; have f5 := b2.frozen 5)
  refine bodyPost_ret (v := .agg #[.slice pn ln cn, .slice (some ⟨b, o, none⟩) 0 0, .int .i64 E, .int .i64 0, .int .i64 a, .int .i64 top]) (by simp [results, Tryz.results70, go_sem, p0, q0, q1, q2, q3, q4, q5, ql1]) rfl ?_
  exact ⟨rfl, below6 (hb3.setCell (Nat.le_refl _) _)⟩
/-- going on: the first word is gone; the words lie where they lay at first -/
theorem rskip_any {w0 : World} (pn : Option Addr) (ln cn : Nat) (pl : Option Addr) (cl E : Nat) (a top : Int) (w : World) (L : List T4) (hT : TkRow w0 pl L) (hl : L.length ≤ 5000000) (hc : L.length ≤ cl) (hcl : cl ≤ 9223372036854775807) :
    Calls Tryz.prog 70 #[rdV pn ln cn pl L.length cl E 0 a top] w fun e w' => ∃ pl' cl', e = .returned (rdV pn ln cn pl' L.tail.length cl' E 0 a top) ∧ TkRow w0 pl' L.tail ∧ L.tail.length ≤ cl' ∧ cl' ≤ 9223372036854775807 ∧ Below w.heap.size w w' := by
  cases L with
  | nil => exact (rskip_nil pn ln cn pl cl E a top w).mono fun e w' ⟨he, hb⟩ => ⟨pl, cl, he, fun h => absurd h (Nat.lt_irrefl _), hc, hcl, hb⟩
  | cons t L =>
    obtain ⟨b, o, rfl, hb, ht⟩ := hT (Nat.succ_pos _)
    by_cases h1 : cl = 1
    · subst h1
      have : L = [] := List.eq_nil_of_length_eq_zero (Nat.le_zero.1 (Nat.le_of_succ_le_succ hc))
      subst this
      exact (rskip_one pn ln cn b o E a top w).mono fun e w' ⟨he, hb⟩ => ⟨_, _, he, fun h => absurd h (Nat.lt_irrefl _), Nat.le_refl _, Nat.zero_le _, hb⟩
    · refine (rskip_cons pn ln cn b o L.length cl E a top w hl hc hcl h1).mono fun e w' ⟨he, hbw⟩ => ⟨_, _, he, fun _ => ⟨b, o + 4, rfl, hb, fun j hj => ?_⟩, Nat.le_sub_of_add_le hc, Nat.le_trans (Nat.sub_le _ _) hcl, hbw⟩
      have := ht (j + 1) (Nat.succ_lt_succ hj)
      simp only [List.getElem_cons_succ] at this
      have e : o + (j + 1) * 4 = o + 4 + j * 4 := by omega
      rw [e] at this
      exact this
end Go.Proofs.YtbjacclfhgnffaaGreatDoor
