/-
  Joined texts of this claim: Vb.
-/
import Derived.Test.YtbjacclfhgnffaaGreatDoorX25
import Derived.Test.YtbjacclfhgnffaaGreatDoorX12
set_option linter.unusedVariables false
set_option linter.unusedSimpArgs false
/-
  Plain: each text has its words, or what is wrong with it; and how these lie in memory.
-/
namespace Go.Proofs.YtbjacclfhgnffaaGreatDoor
open Go.RowKit
open Tk (T4 SR Scans skp fstT bstr rowOf)
open Tr (Nd Blk KidsAt)

theorem skp_pos {l : List UInt8} {n : Nat} (h : skp l = .skip n) : 1 ≤ n ∧ n ≤ l.length := by
  cases l with
  | nil => simp [skp] at h
  | cons c l =>
    have hb := Tk.cmtT_bd (c :: l)
    simp only [skp] at h
    split at h
    · cases h; exact ⟨Nat.le_refl _, by simp⟩
    · split at h
      · cases h
      · split at h
        · cases h
        · cases h
          rename_i h0
          exact ⟨by omega, by omega⟩
theorem scans_total : ∀ (m : Nat) (p : Nat) (l : List UInt8) (acc : List T4), l.length ≤ m → acc.length ≤ 800 → ∃ R, Scans p l acc R := by
  intro m
  induction m with
  | zero =>
    intro p l acc hm _
    obtain rfl : l = [] := List.eq_nil_of_length_eq_zero (by omega)
    exact ⟨_, .done _ _⟩
  | succ m ih =>
    intro p l acc hm ha
    cases hl : skp l with
    | skip n =>
      obtain ⟨h1, h2⟩ := skp_pos hl
      obtain ⟨R, hR⟩ := ih (p + n) (l.drop n) acc (by simp; omega) ha
      exact ⟨R, .skip hl hR⟩
    | opens => exact ⟨_, .opens hl⟩
    | word =>
      by_cases hn : l = []
      · subst hn; exact ⟨_, .done _ _⟩
      · by_cases h8 : acc.length = 800
        · exact ⟨_, .much hl hn h8⟩
        · cases hf : fstT l with
          | bad c => exact ⟨_, .bad hl hn h8 hf⟩
          | tok k n v =>
            obtain ⟨h1, h2⟩ := Tk.fstT_tok hf
            obtain ⟨R, hR⟩ := ih (p + n) (l.drop n) (acc ++ [⟨k, l.take n, v, p⟩]) (by simp; omega) (by simp; omega)
            exact ⟨R, .tok hl hn h8 hf hR⟩
def FewR : SR → Prop
  | .ok L => L.length ≤ 800
  | .bad c _ => c ≠ 0
theorem scans_few {p : Nat} {l : List UInt8} {acc : List T4} {R : SR} (h : Scans p l acc R) (ha : acc.length ≤ 800) : FewR R := by
  induction h with
  | done p acc => exact ha
  | skip h k ih => exact ih ha
  | opens h => exact (by decide : (1 : Nat) ≠ 0)
  | much h hn hm => exact (by decide : (10 : Nat) ≠ 0)
  | bad h hn hm hf => exact Tk.fstT_bad hf
  | tok h hn hm hf k' ih => exact ih (by simp; omega)
/-- the words of a text, or what is wrong with it -/
def TokR (l : List UInt8) (R : SR) : Prop := (2000 < l.length ∧ R = .bad 2 0) ∨ (l.length ≤ 2000 ∧ Scans 0 l [] R)
theorem TokR.total (l : List UInt8) : ∃ R, TokR l R := by
  by_cases h : 2000 < l.length
  · exact ⟨_, Or.inl ⟨h, rfl⟩⟩
  · obtain ⟨R, hR⟩ := scans_total _ 0 l [] (Nat.le_refl _) (by simp)
    exact ⟨R, Or.inr ⟨by omega, hR⟩⟩
def FewT (n : Nat) : SR → Prop
  | .ok L => L.length ≤ 800 ∧ n ≤ 2000
  | .bad c _ => c ≠ 0
theorem TokR.few {l : List UInt8} {R : SR} (h : TokR l R) : FewT l.length R := by
  rcases h with ⟨h, rfl⟩ | ⟨h, hs⟩
  · exact (by decide : (2 : Nat) ≠ 0)
  · have := scans_few hs (by simp)
    cases R with
    | ok L => exact ⟨this, h⟩
    | bad c a => exact this
theorem TokR.det {l : List UInt8} {R R' : SR} (h : TokR l R) (h' : TokR l R') : R = R' := by
  rcases h with ⟨h, rfl⟩ | ⟨h, hs⟩ <;> rcases h' with ⟨h', rfl⟩ | ⟨h', hs'⟩
  · rfl
  · omega
  · omega
  · exact hs.det hs'
/-- what Scan gives -/
def ScR (R : SR) (w : World) (e : Ending) (w' : World) : Prop :=
  Below w.heap.size w w' ∧ ∃ v, match R with
    | .ok L => e = .returned (.tuple #[v, .agg #[.int .i64 0, .int .i64 0]]) ∧ w'.ownsRow w.heap.size 82 4 v L.length (rowOf L)
    | .bad c a => e = .returned (.tuple #[v, .agg #[.int .i64 (c : Nat), .int .i64 (a : Nat)]]) ∧ v = .slice none 0 0
theorem scan_R {s : ByteArray} {R : SR} (hR : TokR s.data.toList R) {w : World} (hs : s.size ≤ 140737488355328) (hsh : w.ShapedOpen Tryz.prog) {te : TypeId} {pe : Value} (hv : w.cell? ⟨4, 0, none⟩ = some (.iface te pe)) :
    Calls Tryz.prog 56 #[.string s] w (ScR R w) := (Tk.scan_any s w hs hsh te pe hv).mono fun e w' ⟨hb, v, c, a, he, h⟩ => by
  refine ⟨hb, v, ?_⟩
  rcases h with ⟨h, rfl, rfl, rfl⟩ | ⟨h, R', hS, ho⟩
  · obtain rfl : R = .bad 2 0 := hR.det (Or.inl ⟨h, rfl⟩)
    exact ⟨he, rfl⟩
  · obtain rfl : R = R' := hR.det (Or.inr ⟨h, hS⟩)
    cases R with
    | ok L => obtain ⟨rfl, rfl, ho⟩ := ho; exact ⟨he, ho⟩
    | bad c' a' => obtain ⟨rfl, rfl, ho⟩ := ho; exact ⟨he, ho⟩
theorem rowOf_at (L : List T4) : ∀ j, (h : j < L.length) → ∀ i, i < 4 → (rowOf L)[j * 4 + i]? = (Tk.cells4 L[j])[i]? := by
  induction L with
  | nil => intro j h; simp at h
  | cons x L ih =>
    intro j h i hi
    have e : rowOf (x :: L) = Tk.cells4 x ++ rowOf L := by simp [rowOf]
    rw [e]
    cases j with
    | zero =>
      rw [List.getElem?_append_left (by simp [Tk.cells4]; omega)]
      simp
    | succ j =>
      rw [List.getElem?_append_right (by simp [Tk.cells4]; omega)]
      have := ih j (by simpa using h) i hi
      simp only [List.getElem_cons_succ]
      rw [← this]
      congr 1
      simp [Tk.cells4]; omega
/-- the words' row, as the parser has it -/
theorem toks_row {B b : Nat} {w : World} {v : Value} {L : List T4} (h : w.ownsRow b 82 4 v L.length (rowOf L)) (hb : ∀ g, b ≤ g → ¬ Own B w g) : Toks B w v L := by
  obtain ⟨h0, h1⟩ := h
  have hc := fun g hg => World.ownsRow.cells (w := w) (base := b) (e := 82) (size := 4) (v := v) (n := L.length) (xs := rowOf L) ⟨h0, h1⟩ (g := g) hg
  rcases h1 with ⟨rfl, h2⟩ | ⟨g, cap, cur, rfl, hg, hh, hn, hm, _, _⟩
  · exact ⟨none, 0, by rw [h2], by omega, by omega, fun h => absurd h (by omega)⟩
  · unfold maxLen at hm
    by_cases hcap : 0 < cap
    all_goals
      refine ⟨_, cap, rfl, hn, ?_, fun h0 => ?_⟩
      · first | omega | exact Nat.le_trans hm (by omega)
      · first
        | omega
        | (refine ⟨g, 0, rfl, lt_of_block hh, hb g hg, fun j hj => ?_⟩
           have e : ∀ i, i < 4 → ∀ u, (Tk.cells4 L[j])[i]? = some u → w.cell? ⟨g, j * 4 + i, none⟩ = some u := fun i hi u hu => by
             have := hc g rfl (j * 4 + i) u ((rowOf_at L j hj i hi).trans hu)
             have ea : ((⟨g, 0, none⟩ : Addr).add (j * 4 + i)) = ⟨g, j * 4 + i, none⟩ := by unfold Addr.add; split <;> simp_all
             rwa [ea] at this
           simp only [Nat.zero_add]
           exact ⟨e 0 (by omega) _ rfl, e 1 (by omega) _ rfl, e 2 (by omega) _ rfl, e 3 (by omega) _ rfl⟩)
end Go.Proofs.YtbjacclfhgnffaaGreatDoor
