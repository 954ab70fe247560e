/-
  Joined texts of this claim: TkK, Pu.
-/
import Derived.Test.YtmghjfphlneblaaGreatDoorW00
import Derived.Test.YtmghjfphlneblaaGreatDoorW08
set_option maxHeartbeats 40000000
set_option maxRecDepth 100000
set_option linter.unusedVariables false
set_option linter.unusedSimpArgs false
namespace Go.Proofs.YtmghjfphlneblaaGreatDoor
section
namespace Tk
open Go.RowKit

set_option maxHeartbeats 1000000 in
theorem cutter_any (s : ByteArray) (w : World) :
    Calls Tryz.prog 123 #[.string s] w fun e w' => e = .returned (.tuple #[.func (.func 157) #[] #[.pointer (some ⟨w.heap.size, 0, none⟩), .pointer (some ⟨w.heap.size + 1, 0, none⟩)], .func (.func 159) #[] #[.pointer (some ⟨w.heap.size, 0, none⟩), .pointer (some ⟨w.heap.size + 1, 0, none⟩)]]) ∧
      w' = (w.alloc (.cells #[.string s] 9)).alloc (.cells #[.int .i64 0] 3) := by
  go_enter Tryz.func123, Tryz.ntmps123
  go_wp2
  go_ret2
  exact ⟨rfl, rfl⟩

def cells4 (t : T4) : List Value := [.int .i64 t.k, .string (bstr t.t), .int .i64 t.v, .int .i64 t.a]
def rowOf (l : List T4) : List Value := l.flatMap cells4
theorem rowOf_snoc (l : List T4) (t : T4) : rowOf (l ++ [t]) = rowOf l ++ cells4 t := by simp [rowOf]
def ScOut : SR → Value → Int → Int → Nat → World → Prop
  | .ok l, v, c, a, B, w => c = 0 ∧ a = 0 ∧ w.ownsRow B 59 4 v l.length (rowOf l)
  | .bad c' a', v, c, a, _, _ => c = c' ∧ a = a' ∧ v = .slice none 0 0
def ScPost (l : List UInt8) (w : World) (e : Ending) (w' : World) : Prop :=
  Below w.heap.size w w' ∧ ∃ v c a, e = .returned (.tuple #[v, .agg #[.int .i64 c, .int .i64 a]]) ∧
    ((2000 < l.length ∧ v = .slice none 0 0 ∧ c = 2 ∧ a = 0) ∨ (l.length ≤ 2000 ∧ ∃ R, Scans 0 l [] R ∧ ScOut R v c a w.heap.size w'))
theorem ownsRow_base {w : World} {b b' : Nat} {e : TypeId} {size : Nat} {v : Value} {n : Nat} {xs : List Value} (h : w.ownsRow b e size v n xs) (hb : b' ≤ b) : w.ownsRow b' e size v n xs := by
  obtain ⟨h1, h2⟩ := h
  refine ⟨h1, ?_⟩
  rcases h2 with h2 | ⟨g, cap, cur, hv, hg, r⟩
  · exact Or.inl h2
  · exact Or.inr ⟨g, cap, cur, hv, Nat.le_trans hb hg, r⟩
theorem info36 : (Tryz.prog.info? 59).map (fun i => (i.zero, i.size, i.bytes)) = some (some (.agg #[.int .i64 0, .string ⟨#[]⟩, .int .i64 0, .int .i64 0]), 4, 40) := by kernel_rfl
def lenOf : Value → Nat | .slice _ n _ => n | _ => 0
/-- what holds at the head of each round of Scan -/
structure ScInv (s : ByteArray) (w : World) (B : Nat) (v : Value) (wr : World) (k : Nat) (acc : List T4) : Prop where
  kle : k ≤ s.size
  res : wr.heap[B]? = some (.cells #[.int .i64 0, .int .i64 0] 26 (0, 0))
  txt : wr.heap[B + 1]? = some (.cells #[.string s] 9 (0, 0))
  at' : wr.heap[B + 1 + 1]? = some (.cells #[.int .i64 k] 3 (0, 0))
  own : wr.ownsRow (B + 1 + 1 + 1) 59 4 v acc.length (rowOf acc)
  below : Below B w wr
  few : acc.length ≤ 800
  rest : ∀ r, Scans k (s.data.toList.drop k) acc r → Scans 0 s.data.toList [] r
theorem scInv_len {s : ByteArray} {w : World} {B : Nat} {v : Value} {wr : World} {k : Nat} {acc : List T4} (h : ScInv s w B v wr k acc) : ∃ p cap, v = .slice p acc.length cap ∧ acc.length ≤ 800 := by
  rcases h.own.2 with ⟨rfl, h0⟩ | ⟨g, cap, cur, hv, _⟩
  · rw [h0]; exact ⟨none, 0, rfl, by omega⟩
  · exact ⟨_, _, hv, h.few⟩

theorem grown_keep {w w' : World} {x b : Nat} {o : Obj} (h : w.grownBy w' (some x)) (hb : w.heap[b]? = some o) (hx : b ≠ x) : w'.heap[b]? = some o :=
  (h.block b (lt_of_block hb) (fun e => hx (Option.some.inj e))).trans hb
theorem own_keep {w w' : World} {x B e size n : Nat} {v : Value} {xs : List Value} (h : w.ownsRow B e size v n xs) (hg : w.grownBy w' (some x)) (hx : x < B) : w'.ownsRow B e size v n xs := by
  refine h.kept hg ?_
  cases hv : v.ownBlock with
  | none => exact Or.inl rfl
  | some g =>
    have := (h.lt g hv).1
    exact Or.inr (fun e => by cases e; omega)

theorem news_cells (w : World) (xs : List Value) (t : TypeId) (n : Nat) (hn : n = w.heap.size) : ∀ j u, xs[j]? = some u → (w.alloc (.cells xs.toArray t)).cell? ((⟨n, 0, none⟩ : Addr).add j) = some u := by
  intro j u h
  subst hn
  have : ((⟨w.heap.size, 0, none⟩ : Addr).add j) = ⟨w.heap.size, j, none⟩ := by unfold Addr.add; split <;> simp_all
  rw [this, World.cell?_alloc_new]
  simpa using h
theorem below_res {B : Nat} {a w2 : World} (h : Below B a w2) (hB : B ≤ w2.heap.size) (x y : Value) (o : Obj) : Below B a (((w2.setCell ⟨B, 0, none⟩ x).setCell ⟨B, 1, none⟩ y).alloc o) := by
  refine Below.alloc ((h.setCell (p := ⟨B, 0, none⟩) (Nat.le_refl _) x).setCell (p := ⟨B, 1, none⟩) (Nat.le_refl _) y) ?_ o
  simp [World.setCell]; exact hB
theorem own_res {B b e size n : Nat} {w2 : World} {v : Value} {xs : List Value} (h : w2.ownsRow b e size v n xs) (hb : B < b) (x y : Value) (o : Obj) : (((w2.setCell ⟨B, 0, none⟩ x).setCell ⟨B, 1, none⟩ y).alloc o).ownsRow b e size v n xs :=
  (ownsRow_setCell_below (ownsRow_setCell_below h (a := ⟨B, 0, none⟩) hb x) (a := ⟨B, 1, none⟩) hb y).alloc o

set_option maxHeartbeats 8000000 in
set_option maxRecDepth 100000 in
theorem scanIn (s : ByteArray) (w : World) (hs : s.size ≤ 2000) (hsh : w.ShapedOpen Tryz.prog) (te : TypeId) (pe : Value) (hv : w.cell? ⟨4, 0, none⟩ = some (.iface te pe)) :
    Calls Tryz.prog 68 #[.string s] w (ScPost s.data.toList w) := by
  have hsz := Lib.hid (Lib.size_eq s)
  have hng : ¬ 2000 < s.size := by omega
  go_enter Tryz.func68, Tryz.ntmps68
  go_wp2_with (go_at_call 123; refine (cutter_any _ _).mono ?_; rintro e w' ⟨rfl, rfl⟩)
  go_loopw [6] (fun v wr => ∃ k acc, ScInv s w w.heap.size v wr k acc) (fun v _ => 801 - lenOf v)
  case atStart =>
    refine ⟨0, [], Nat.zero_le _, ?_, ?_, ?_, World.ownsRow_nil _ _ _ _, ?_, by simp, fun r h => h⟩
    · rw [Below.heap_alloc _ _ _ (by simp; omega), Below.heap_alloc _ _ _ (by simp)]; exact heap_alloc_new w _
    · rw [Below.heap_alloc _ _ _ (by simp)]
      have := heap_alloc_new (w.alloc (.cells #[.int .i64 0, .int .i64 0] 26)) (.cells #[.string s] 9)
      simpa using this
    · have := heap_alloc_new ((w.alloc (.cells #[.int .i64 0, .int .i64 0] 26)).alloc (.cells #[.string s] 9)) (.cells #[.int .i64 0] 3)
      simpa using this
    · exact (((Below.refl _ _).alloc (Nat.le_refl _) _).alloc (by simp) _).alloc (by simp; omega) _
  case round =>
    obtain ⟨k, acc, hI⟩ := hrel
    obtain ⟨p, cap, rfl, hfew⟩ := scInv_len hI
    have hsh2 : wr.ShapedOpen Tryz.prog := sh_below hsh hI.below
    have hv2 : wr.cell? ⟨4, 0, none⟩ = some (.iface te pe) := (hI.below.cell (p := ⟨4, 0, none⟩) (Lib.lt_of_cell hv)).trans hv
    have hSk := skip_any s k _ _ wr hs hI.kle hsh2 hI.txt hI.at'
    have HI := Lib.hid hI
    clear hI
    go_wp2_with (go_at_call 157; refine hSk.mono ?_)
    rintro e w2 ⟨n, o, rfl, hg, hgr, hA2⟩
    have hkn : k + n ≤ s.size := by have := hg.1; rw [List.length_drop] at this; have := hsz.out; have := HI.out.kle; omega
    have hT2 := grown_keep hgr HI.out.txt (by omega)
    have hR2 := grown_keep hgr HI.out.res (by omega)
    have hO2 := own_keep HI.out.own hgr (by omega)
    have hB2 : Below w.heap.size w w2 := HI.out.below.grown hgr HI.out.below.size (fun k h => by cases h; omega)
    have c0 : w2.cell? ⟨w.heap.size, 0, none⟩ = some (.int .i64 0) := by simp [World.cell?, hR2]
    have c1 : w2.cell? ⟨w.heap.size, 1, none⟩ = some (.int .i64 0) := by simp [World.cell?, hR2]
    have f0 : w2.frozen? ⟨w.heap.size, 0, none⟩ = false := by simp [World.frozen?, hR2]
    have f1 : w2.frozen? ⟨w.heap.size, 1, none⟩ = false := by simp [World.frozen?, hR2]
    have lR := lt_of_block hR2
    have HT2 := Lib.hid hT2
    have HR2 := Lib.hid hR2
    have HA2 := Lib.hid hA2
    have HO2 := Lib.hid hO2
    have HG := Lib.hid hg
    have HB2 := Lib.hid hB2
    clear hT2 hR2 hA2 hO2 hg hgr hB2 hSk
    cases o with
    | true =>
      simp only [if_true]
      go_wp2
      go_region
      all_goals go_wp2
      refine bodyPost_ret (v := .tuple #[.slice none 0 0, .agg #[.int .i64 1, .int .i64 (k + n)]]) (by simp [results, Tryz.results68, go_sem, c0, c1, lR]) rfl ?_
      refine ⟨?_, _, _, _, rfl, Or.inr ⟨by have := hsz.out; omega, .bad 1 (k + n), HI.out.rest _ (HG.out.2.1 _ _ _ (.opens (HG.out.2.2.1 rfl))), rfl, by simp, rfl⟩⟩
      exact (below_res HB2.out (Nat.le_of_lt lR) _ _ _).drew
    | false =>
      simp only [Bool.false_eq_true, if_false]
      by_cases hend : k + n = s.size
      · have hend2 : ((k : Int) + n == s.size) = true := beq_of (by omega)
        go_wp2
        refine bodyPost_ret (v := .tuple #[.slice p acc.length cap, .agg #[.int .i64 0, .int .i64 0]]) (by simp [results, Tryz.results68, go_sem, c0, c1, lR]) rfl ?_
        refine ⟨?_, _, _, _, rfl, Or.inr ⟨by have := hsz.out; omega, .ok acc, HI.out.rest _ (HG.out.2.1 _ _ _ (by rw [List.drop_drop, List.drop_eq_nil_of_le (by have := hsz.out; omega)]; exact .done _ _)), rfl, rfl, ?_⟩⟩
        · exact below_res HB2.out (Nat.le_of_lt lR) _ _ _
        · exact ownsRow_base (own_res HO2.out (by omega) _ _ _) (by omega)
      · have hend2 : ((k : Int) + n == s.size) = false := beq_of_ne (by omega)
        have hne : s.data.toList.drop (k + n) ≠ [] := fun h => by
          have := congrArg List.length h
          rw [List.length_drop] at this
          have := hsz.out
          simp at *; omega
        have hword : skp (s.data.toList.drop (k + n)) = .word := by
          have := HG.out.2.2.2 rfl
          rw [List.drop_drop] at this
          exact this.resolve_left hne
        have hgo : ∀ r, Scans (k + n) (s.data.toList.drop (k + n)) acc r → Scans 0 s.data.toList [] r := fun r h => HI.out.rest _ (HG.out.2.1 _ _ _ (by rw [List.drop_drop]; exact h))
        have Hgo := Lib.hid hgo
        have Hword := Lib.hid hword
        have Hne := Lib.hid hne
        clear hgo hword hne hend HG
        by_cases h800 : acc.length = 800
        · have H8 := Lib.hid h800
          have h8 : ((acc.length : Int) == 800) = true := beq_of (by omega)
          clear h800
          go_wp2
          refine bodyPost_ret (v := .tuple #[.slice none 0 0, .agg #[.int .i64 10, .int .i64 (k + n)]]) (by simp [results, Tryz.results68, go_sem, c0, c1, lR]) rfl ?_
          refine ⟨?_, _, _, _, rfl, Or.inr ⟨by have := hsz.out; omega, .bad 10 (k + n), Hgo.out _ (.much Hword.out Hne.out H8.out), rfl, by simp, rfl⟩⟩
          exact below_res HB2.out (Nat.le_of_lt lR) _ _ _
        · have H8 := Lib.hid h800
          have h8 : ((acc.length : Int) == 800) = false := beq_of_ne (by omega)
          clear h800
          have hlt2 : 4 < w2.heap.size := Nat.lt_of_lt_of_le (Lib.lt_of_cell hv) HB2.out.size
          have hv3 : w2.cell? ⟨4, 0, none⟩ = some (.iface te pe) := (HB2.out.cell (p := ⟨4, 0, none⟩) (Lib.lt_of_cell hv)).trans hv
          have hTk := take_any s (k + n) (w.heap.size + 1) (w.heap.size + 1 + 1) (w2.alloc (.cells #[.int .i64 0, .int .i64 0] 26)) hs hkn te pe (hv_alloc hv3 _)
            ((Below.heap_alloc _ _ _ (lt_of_block HT2.out)).trans HT2.out) ((Below.heap_alloc _ _ _ (lt_of_block HA2.out)).trans HA2.out)
          clear hv3 hlt2
          go_wp2_with (go_at_call 159; refine hTk.mono ?_)
          rintro e w4 ⟨hgr4, hcase⟩
          have lT := lt_of_block HT2.out
          have lA := lt_of_block HA2.out
          have hT4 := grown_keep hgr4 ((Below.heap_alloc _ _ _ lT).trans HT2.out) (by omega)
          have hR4 := grown_keep hgr4 ((Below.heap_alloc _ _ _ lR).trans HR2.out) (by omega)
          have hF4 := grown_keep hgr4 (heap_alloc_new w2 (.cells #[.int .i64 0, .int .i64 0] 26)) (by omega)
          have hO4 := own_keep (HO2.out.alloc (.cells #[.int .i64 0, .int .i64 0] 26)) hgr4 (by omega)
          have hB4 : Below w.heap.size w w4 := (HB2.out.alloc (by omega) _).grown hgr4 (by simp; omega) (fun k h => by cases h; omega)
          have d0 : w4.cell? ⟨w.heap.size, 0, none⟩ = some (.int .i64 0) := by simp [World.cell?, hR4]
          have d1 : w4.cell? ⟨w.heap.size, 1, none⟩ = some (.int .i64 0) := by simp [World.cell?, hR4]
          have g0 : w4.frozen? ⟨w.heap.size, 0, none⟩ = false := by simp [World.frozen?, hR4]
          have g1 : w4.frozen? ⟨w.heap.size, 1, none⟩ = false := by simp [World.frozen?, hR4]
          have d2 : w4.cell? ⟨w2.heap.size, 0, none⟩ = some (.int .i64 0) := by simp [World.cell?, hF4]
          have d3 : w4.cell? ⟨w2.heap.size, 1, none⟩ = some (.int .i64 0) := by simp [World.cell?, hF4]
          have g2 : w4.frozen? ⟨w2.heap.size, 0, none⟩ = false := by simp [World.frozen?, hF4]
          have g3 : w4.frozen? ⟨w2.heap.size, 1, none⟩ = false := by simp [World.frozen?, hF4]
          have lR4 := lt_of_block hR4
          have lF4 := lt_of_block hF4
          have HT4 := Lib.hid hT4
          have HR4 := Lib.hid hR4
          have HO4 := Lib.hid hO4
          have HB4 := Lib.hid hB4
          clear hT4 hR4 hF4 hO4 hgr4 hB4 hTk c0 c1 f0 f1
          rcases hcase with ⟨c, hc, rfl, hA4⟩ | ⟨kd, m, v, hc, rfl, hA4⟩
          · have hcn : ((c : Int) != 0) = true := by have := fstT_bad hc; simpa using this
            have Hc := Lib.hid hc
            clear hc hA4
            go_wp2
            go_region
            all_goals go_wp2
            refine bodyPost_ret (v := .tuple #[.slice none 0 0, .agg #[.int .i64 c, .int .i64 (k + n)]]) (by simp [results, Tryz.results68, go_sem, d0, d1, lR4]) rfl ?_
            refine ⟨?_, _, _, _, rfl, Or.inr ⟨by have := hsz.out; omega, .bad c (k + n), Hgo.out _ (.bad Hword.out Hne.out H8.out Hc.out), rfl, by simp, rfl⟩⟩
            exact (below_res (((HB4.out.setCell (p := ⟨w2.heap.size, 0, none⟩) (Nat.le_of_lt lR) _).setCell (p := ⟨w2.heap.size, 1, none⟩) (Nat.le_of_lt lR) _)) (by simp [World.setCell]; omega) _ _ _).drew
          · obtain ⟨hm1, hm2⟩ := fstT_tok hc
            have hkm : k + n + m ≤ s.size := by rw [List.length_drop] at hm2; have := hsz.out; omega
            have Hc := Lib.hid hc
            have HA4 := Lib.hid hA4
            obtain ⟨x, hx⟩ : ∃ x, x = bstr ((s.data.toList.drop (k + n)).take m) := ⟨_, rfl⟩
            rw [← hx]
            have Hx := Lib.hid hx
            clear hc hA4 hx hm2
            have hob : (Value.slice p acc.length cap).ownBlock ≠ some w2.heap.size := fun h => by have := (HO2.out.lt _ h).2; omega
            have hO5 : ((((w4.setCell ⟨w2.heap.size, 0, none⟩ (.int .i64 0)).setCell ⟨w2.heap.size, 1, none⟩ (.int .i64 0)).alloc (.cells #[.int .i64 kd, .string x, .int .i64 v, .int .i64 (k + n)] 59)).alloc (.cells #[.int .i64 kd, .string x, .int .i64 v, .int .i64 (k + n)] 59)).ownsRow (w.heap.size + 1 + 1 + 1) 59 4 (.slice p acc.length cap) acc.length (rowOf acc) :=
              ((ownsRow_setCell_other (ownsRow_setCell_other HO4.out (a := ⟨w2.heap.size, 0, none⟩) hob _) (a := ⟨w2.heap.size, 1, none⟩) hob _).alloc _).alloc _
            have HO5 := Lib.hid hO5
            clear hO5
            obtain ⟨i0, hi, hz0, hz1, hz2⟩ := info_parts info36
            go_wp2_with (at_builtin; refine wpList_append_own _ rfl _ _ 53 rfl (w.heap.size + 1 + 1 + 1) 59 i0 (.agg #[.int .i64 0, .string ⟨#[]⟩, .int .i64 0, .int .i64 0]) 4 40 Tryz.underlying53 hi hz0 hz1 hz2 rfl (by decide) _ acc.length (rowOf acc) rfl HO5.out ⟨w4.heap.size + 1, 0, none⟩ 1 1 [.int .i64 kd, .string x, .int .i64 v, .int .i64 (k + n)] rfl rfl ?c1 ?c2 ?c3 ?c4 ?c5 ?_)
            case c1 => exact news_cells _ [.int .i64 kd, .string x, .int .i64 v, .int .i64 (k + n)] 59 _ (by simp [World.setCell])
            case c2 => intro u hu; simp at hu; rcases hu with rfl | rfl | rfl | rfl <;> rfl
            case c3 => unfold maxLen; omega
            case c4 => omega
            case c5 => simp [World.setCell]; omega
            intro v' w1 hown' hgrow _
            have hW5 : ∀ (b : Nat) (o1 o2 : Obj) (x1 x2 : Value), b < w4.heap.size → b ≠ w2.heap.size → ((((w4.setCell ⟨w2.heap.size, 0, none⟩ x1).setCell ⟨w2.heap.size, 1, none⟩ x2).alloc o1).alloc o2).heap[b]? = w4.heap[b]? := fun b o1 o2 x1 x2 h1 h2 => by
              rw [Below.heap_alloc _ _ _ (by simp [World.setCell]; omega), Below.heap_alloc _ _ _ (by simp [World.setCell]; omega), Below.heap_setCell _ _ _ _ h2, Below.heap_setCell _ _ _ _ h2]
            have hold : ∀ (b : Nat) (o : Obj), b < w.heap.size + 1 + 1 + 1 → w4.heap[b]? = some o → w1.heap[b]? = some o := fun b o h1 h2 => by
              have hb4 := lt_of_block h2
              rw [hgrow.block b (by simp [World.setCell]; omega) (fun e => by have := (HO5.out.lt b e.symm).1; omega), hW5 b _ _ _ _ hb4 (by omega)]
              exact h2
            have hbel : Below w.heap.size w w1 := by
              refine Below.grown ?_ hgrow ?_ (fun g h => by have := (HO5.out.lt g h).1; omega)
              · refine Below.alloc (Below.alloc ((HB4.out.setCell (p := ⟨w2.heap.size, 0, none⟩) (Nat.le_of_lt lR) _).setCell (p := ⟨w2.heap.size, 1, none⟩) (Nat.le_of_lt lR) _) ?_ _) ?_ _
                · simp [World.setCell]; omega
                · simp [World.setCell]; omega
              · simp [World.setCell]; omega
            have hInv : ScInv s w w.heap.size v' w1 (k + n + m) (acc ++ [⟨kd, (s.data.toList.drop (k + n)).take m, v, k + n⟩]) :=
              { kle := hkm
                res := hold _ _ (by omega) HR4.out
                txt := hold _ _ (by omega) HT4.out
                at' := hold _ _ (by omega) HA4.out
                own := by
                  rw [rowOf_snoc, List.length_append]
                  show w1.ownsRow _ 59 4 v' (acc.length + 1) (rowOf acc ++ [.int .i64 kd, .string (bstr ((s.data.toList.drop (k + n)).take m)), .int .i64 v, .int .i64 ((k + n : Nat) : Int)])
                  rw [← Hx.out, Int.natCast_add]
                  exact hown'
                below := hbel
                few := by rw [List.length_append]; have := H8.out; simp; omega
                rest := fun r h => Hgo.out r (.tok Hword.out Hne.out H8.out Hc.out (by rw [List.drop_drop]; exact h)) }
            have hlen : lenOf v' = acc.length + 1 := by
              obtain ⟨p', cap', rfl, _⟩ := scInv_len hInv
              simp [lenOf]
            have Hlen := Lib.hid hlen
            have HInv := Lib.hid hInv
            clear hW5 hold hbel hInv hlen hown' hgrow
            go_wp2
            go_roundw
            case rel => exact ⟨_, _, HInv.out⟩
            case measure =>
              have := Hlen.out
              simp only [lenOf] at *
              omega

/-- Scan, whatever the text -/
theorem scan_any (s : ByteArray) (w : World) (hs : s.size ≤ 140737488355328) (hsh : w.ShapedOpen Tryz.prog) (te : TypeId) (pe : Value) (hv : w.cell? ⟨4, 0, none⟩ = some (.iface te pe)) :
    Calls Tryz.prog 68 #[.string s] w (ScPost s.data.toList w) := by
  by_cases h : s.size ≤ 2000
  · exact scanIn s w h hsh te pe hv
  · have hg : 2000 < s.size := by omega
    have hsz := Lib.hid (Lib.size_eq s)
    go_enter Tryz.func68, Tryz.ntmps68
    go_wp2
    refine bodyPost_ret (v := .tuple #[.slice none 0 0, .agg #[.int .i64 2, .int .i64 0]]) (by simp [results, Tryz.results68, go_sem]) rfl ?_
    exact ⟨(Below.refl _ _).alloc (Nat.le_refl _) _, _, _, _, rfl, Or.inl ⟨by have := hsz.out; omega, rfl, rfl, rfl⟩⟩
end Tk
end
section
open Tk (T4)

/-- so many words at least have gone, and the nodes have not grown by more than four a word -/
structure Part3 (c : Nat) (d : Int) (s s' : S3) : Prop where
  l : s'.L.length + c ≤ s.L.length
  n : (s'.N.length : Int) + 4 * s'.L.length + d ≤ s.N.length + 4 * s.L.length
  g : s.N.length ≤ s'.N.length
  o : ∃ l, s'.O = s.O ++ l
theorem Part3.trans {a c : Nat} {b d : Int} {s1 s2 s3 : S3} (h : Part3 a b s1 s2) (k : Part3 c d s2 s3) : Part3 (a + c) (b + d) s1 s3 := by
  obtain ⟨h1, h2, h3, l, h4⟩ := h
  obtain ⟨k1, k2, k3, m, k4⟩ := k
  exact ⟨by omega, by omega, by omega, l ++ m, by rw [k4, h4]; simp⟩
theorem Part3.weak {a c : Nat} {b d : Int} {s1 s2 : S3} (h : Part3 a b s1 s2) (h1 : c ≤ a) (h2 : d ≤ b) : Part3 c d s1 s2 :=
  ⟨by have := h.l; omega, by have := h.n; omega, h.g, h.o⟩
theorem Part3.refl (s : S3) : Part3 0 0 s s := ⟨Nat.le_refl _, by omega, Nat.le_refl _, [], by simp⟩
def sz4 (s : S3) : Int := s.N.length + 4 * s.L.length
/-- ends well at so many words, or goes wrong -/
def Q3 (K : Nat) (B : Int) (f : F3) (c : Nat) (d : Int) : Prop := ∀ s : S3, s.L.length ≤ K → sz4 s ≤ B → Fine (f s) (Part3 c d s)
theorem Q3.weak {K K' : Nat} {B B' : Int} {f : F3} {c c' : Nat} {d d' : Int} (h : Q3 K B f c d) (hK : K' ≤ K) (hB : B' ≤ B) (hc : c' ≤ c) (hd : d' ≤ d) : Q3 K' B' f c' d' := fun s h1 h2 => (h s (Nat.le_trans h1 hK) (by omega)).mono fun _ k => k.weak hc hd
theorem Q3.low {K : Nat} {B : Int} {f : F3} {c c' : Nat} {d d' : Int} (h : Q3 K B f c d) (hc : c' ≤ c) (hd : d' ≤ d) : Q3 K B f c' d' := h.weak (Nat.le_refl _) (Int.le_refl _) hc hd
theorem sz_le {c : Nat} {d B : Int} {s s' : S3} (h : Part3 c d s s') (hs : sz4 s ≤ B) : sz4 s' ≤ B - d := by
  have h1 := h.n
  unfold sz4 at hs ⊢; omega
theorem Q3.nil {K : Nat} {B : Int} : Q3 K B (seqF []) 0 0 := fun s _ _ => Part3.refl s
theorem Q3.cons {K : Nat} {B : Int} {f : F3} {fs : List F3} {c1 c2 : Nat} {d1 d2 : Int} (h : Q3 K B f c1 d1) (k : c1 ≤ K → Q3 (K - c1) (B - d1) (seqF fs) c2 d2) : Q3 K B (seqF (f :: fs)) (c1 + c2) (d1 + d2) := fun s h1 h2 => by
  unfold seqF
  refine Fine.bind (h s h1 h2) fun s1 p => ?_
  have hl := p.l
  exact (k (by omega) s1 (by omega) (sz_le p h2)).mono fun s2 q => p.trans q
theorem tail_part {s : S3} (h : s.L ≠ []) : Part3 1 4 s { s with L := s.L.tail } := by
  have h1 := tail_lt h
  exact ⟨by show s.L.tail.length + 1 ≤ _; omega, by show (s.N.length : Int) + 4 * s.L.tail.length + 4 ≤ _; omega, Nat.le_refl _, [], by simp⟩
theorem tail_part0 (s : S3) : Part3 0 0 s { s with L := s.L.tail } := by
  have h1 := tail_le s.L
  exact ⟨by show s.L.tail.length + 0 ≤ _; omega, by show (s.N.length : Int) + 4 * s.L.tail.length + 0 ≤ _; omega, Nat.le_refl _, [], by simp⟩
theorem Q3.word {K E : Nat} {B : Int} {t : List UInt8} (ht : t ≠ []) : Q3 K B (wordF E t) 1 4 := fun s _ _ => by
  refine (word_fine s ht).mono fun s1 h => ?_
  obtain ⟨rfl, h⟩ := h
  exact tail_part (fun e => by rw [e] at h; simp at h)
/-- behind a word that was taken -/
theorem Q3.tail {K : Nat} {B : Int} {f : F3} {c : Nat} {d : Int} {s : S3} (h : 1 ≤ K → Q3 (K - 1) (B - 4) f c d) (h1 : s.L.length ≤ K) (h2 : sz4 s ≤ B) (hn : s.L ≠ []) : Fine (f { s with L := s.L.tail }) (Part3 (1 + c) (4 + d) s) := by
  have hp := tail_part hn
  have h3 := hp.l
  have h4 := tail_lt hn
  exact (h (by omega) _ (by omega) (sz_le hp h2)).mono fun s2 q => hp.trans q
theorem Q3.expr {K E n : Nat} {B : Int} (h : 10 * K + 4 < n) (hB : B ≤ 4500000) : Q3 K B (runJ E n .expr) 1 3 := fun s h1 h2 => by
  unfold sz4 at h2
  refine (runJ_fine E n .expr s trivial (by omega) (by show _ + 4 < _; omega)).mono fun s1 h => ?_
  obtain ⟨⟨a, b, c⟩, d⟩ := h
  exact ⟨a, by omega, c, _, d.o⟩
theorem Q3.build {K : Nat} {B : Int} {X : S3 → Mn} {fs : List F3} {c : Nat} {d : Int} (h : Q3 K B (seqF fs) c (d + 1)) (hB : B - d ≤ 4500001) : Q3 K B (fun s => buildF (X s) fs s) c d := fun s h1 h2 => by
  show Fine (buildF (X s) fs s) _
  unfold buildF extF
  refine Fine.bind (h s h1 h2) fun s1 p => ?_
  obtain ⟨a, b, g, l, o⟩ := p
  unfold sz4 at h2
  refine (add_fine s1 (by rw [o]; simp) (by omega)).mono fun s2 h => ?_
  subst h
  refine ⟨a, ?_, ?_, [(s1.N.length : Int)], ?_⟩
  · show ((s1.N ++ _).length : Int) + 4 * s1.L.length + d ≤ _; simp; omega
  · show _ ≤ (s1.N ++ _).length; simp; omega
  · show s1.O.take s.O.length ++ _ = _; rw [o]; simp
theorem Q3.buildc {K : Nat} {B : Int} {x : Mn} {fs : List F3} {c : Nat} {d : Int} (h : Q3 K B (seqF fs) c (d + 1)) (hB : B - d ≤ 4500001) : Q3 K B (buildF x fs) c d := Q3.build (X := fun _ => x) h hB
/-- takes a word and goes on, or does the other -/
theorem Q3.took {K E : Nat} {B : Int} {t : List UInt8} (ht : t ≠ []) {f g : F3} {c : Nat} {d : Int} (h : 1 ≤ K → Q3 (K - 1) (B - 4) f c d) {c2 : Nat} {d2 : Int} (k : Q3 K B g c2 d2) (h1 : c2 ≤ c + 1) (h2 : d2 ≤ d + 4) : Q3 K B (fun s => if (pk E s.L).t = t then f { s with L := s.L.tail } else g s) c2 d2 := fun s q1 q2 => by
  show Fine (if (pk E s.L).t = t then _ else _) _
  by_cases hp : (pk E s.L).t = t
  · rw [if_pos hp]
    exact (Q3.tail h q1 q2 (pk_pos (E := E) (by rw [hp]; exact ht))).mono fun s2 q => q.weak (by omega) (by omega)
  · rw [if_neg hp]; exact k s q1 q2
theorem Q3.ite {K : Nat} {B : Int} {p : S3 → Prop} [DecidablePred p] {f g : F3} {c : Nat} {d : Int} (h : Q3 K B f c d) (k : Q3 K B g c d) : Q3 K B (fun s => if p s then f s else g s) c d := fun s h1 h2 => by
  show Fine (if p s then f s else g s) _
  by_cases hp : p s
  · rw [if_pos hp]; exact h s h1 h2
  · rw [if_neg hp]; exact k s h1 h2
theorem Q3.ok {K : Nat} {B : Int} : Q3 K B .ok 0 0 := fun s _ _ => Part3.refl s
theorem Q3.bind {K : Nat} {B : Int} {f g : F3} {c1 c2 : Nat} {d1 d2 : Int} (h : Q3 K B f c1 d1) (k : c1 ≤ K → Q3 (K - c1) (B - d1) g c2 d2) : Q3 K B (fun s => (f s).bind g) (c1 + c2) (d1 + d2) := fun s h1 h2 => by
  refine Fine.bind (h s h1 h2) fun s1 p => ?_
  have hl := p.l
  exact (k (by omega) s1 (by omega) (sz_le p h2)).mono fun s2 q => p.trans q
/-- of what is declared -/
def FineD (r : D3) (P : S3 → Prop) : Prop := match r with | .ok s _ => P s | .bad _ _ => True | .out => False
theorem FineD.bind {r : D3} {f : S3 → Mn → R3} {P Q : S3 → Prop} (h : FineD r P) (k : ∀ s x, P s → Fine (f s x) Q) : Fine (r.bind f) Q := by
  cases r with
  | ok s x => exact k s x h
  | bad c a => trivial
  | out => exact h.elim
theorem FineD.mono {r : D3} {P Q : S3 → Prop} (h : FineD r P) (k : ∀ s, P s → Q s) : FineD r Q := by
  cases r with
  | ok s x => exact k s h
  | bad c a => trivial
  | out => exact h.elim
theorem named_fine (E : Nat) (typ : Int) (s : S3) : FineD (namedF E typ s) (Part3 1 4 s) := by
  unfold namedF
  split
  · rename_i h
    exact tail_part (pk_kpos (E := E) (by rw [h]; simp))
  · trivial
theorem decl_fine (E : Nat) (s : S3) : FineD (declF E s) (Part3 2 8 s) := by
  unfold declF
  have h := word_fine (E := E) (t := [105, 110, 116]) s (by simp)
  cases hw : wordF E [105, 110, 116] s with
  | bad c a => trivial
  | out => rw [hw] at h; exact h.elim
  | ok s1 =>
    rw [hw] at h
    obtain ⟨rfl, h⟩ := h
    have hn : s.L ≠ [] := fun e => by rw [e] at h; simp at h
    have hp := tail_part hn
    show FineD (if _ then _ else _) _
    split
    · refine (named_fine E 2 _).mono fun s2 q => ?_
      have h0 := tail_part0 { s with L := s.L.tail }
      exact ((hp.trans h0).trans q).weak (by omega) (by omega)
    · exact (named_fine E 1 _).mono fun s2 q => hp.trans q
theorem Q3.decl {K E : Nat} {B : Int} {f : S3 → Mn → R3} {c : Nat} {d : Int} (h : 2 ≤ K → ∀ x, Q3 (K - 2) (B - 8) (fun s => f s x) c d) : Q3 K B (fun s => (declF E s).bind f) (2 + c) (8 + d) := fun s h1 h2 => by
  refine FineD.bind (decl_fine E s) fun s1 x p => ?_
  have hl := p.l
  exact (h (by omega) x s1 (by omega) (sz_le p h2)).mono fun s2 q => p.trans q
section small
variable {K E n : Nat} {B : Int}
theorem Q3.initial (h : 10 * K + 4 < n) (hB : B ≤ 4500000) : Q3 K B (initialF E (runJ E n .expr)) 0 0 :=
  Q3.took (by simp) (f := runJ E n .expr) (g := .ok) (c := 1) (d := 3) (fun _ => Q3.expr (by omega) (by omega)) Q3.ok (by omega) (by omega)
theorem Q3.param (hB : B ≤ 4500000) : Q3 K B (paramF E) 2 7 :=
  (Q3.decl (f := fun s1 x => buildF { x with k := 4 } [] s1) (c := 0) (d := -1) fun _ x => Q3.buildc (Q3.nil) (by omega)).low (by omega) (by omega)
theorem Q3.local (h : 10 * K + 4 < n) (hB : B ≤ 4500000) : Q3 K B (localF E (runJ E n .expr)) 2 7 :=
  (Q3.decl (f := fun s1 x => buildF { x with k := 12 } [initialF E (runJ E n .expr)] s1) (c := 0) (d := -1) fun _ x => Q3.buildc (((Q3.initial (by omega) (by omega)).cons (fun _ => Q3.nil)).low (by omega) (by omega)) (by omega)).low (by omega) (by omega)
theorem Q3.effect (h : 10 * K + 4 < n) (hB : B ≤ 4500000) : Q3 K B (effectF E (runJ E n .expr)) 1 2 :=
  Q3.build (X := fun s => mk 13 [] 0 (pk E s.L).a) (((Q3.expr h hB).cons (fun _ => Q3.nil)).low (by omega) (by omega)) (by omega)
theorem Q3.nothing (hB : B ≤ 4500000) : Q3 K B (nothingF E) 0 (-1) :=
  Q3.build (X := fun s => mk 24 [] 0 (pk E s.L).a) Q3.nil (by omega)
theorem Q3.condition (h : 10 * K + 4 < n) (hB : B ≤ 4500000) : Q3 K B (conditionF E (runJ E n .expr)) 3 11 :=
  ((Q3.word (by simp)).cons fun _ => (Q3.expr (by omega) (by omega)).cons fun _ => (Q3.word (by simp)).cons fun _ => Q3.nil).low (by omega) (by omega)
theorem Q3.told (h : 10 * K + 4 < n) (hB : B ≤ 4500000) : Q3 K B (toldF E (runJ E n .expr)) 0 0 :=
  Q3.ite (p := fun s => (pk E s.L).t = [59]) Q3.ok ((Q3.expr h hB).low (by omega) (by omega))
theorem Q3.unless {t : List UInt8} {f : F3} {c : Nat} {d : Int} (h : Q3 K B f c d) (hd : -1 ≤ d) (hB : B ≤ 4500000) : Q3 K B (unlessF E t f) 0 (-1) :=
  Q3.ite (p := fun s => (pk E s.L).t = t) (Q3.nothing hB) (h.low (by omega) hd)
theorem Q3.start (h : 10 * K + 4 < n) (hB : B ≤ 4500000) : Q3 K B (startF E (runJ E n .expr)) 0 (-1) :=
  Q3.ite (p := fun s => (pk E s.L).t = [105, 110, 116]) ((Q3.local h hB).low (by omega) (by omega)) (Q3.unless (Q3.effect h hB) (by omega) hB)
theorem items_all {en : List UInt8} (hen : en ≠ []) {f : F3} {c : Nat} {d : Int} (hc : 1 ≤ c) (hd : -4 ≤ d) (hf : ∀ K B, B ≤ 4500000 → Q3 K B f c d) : ∀ n K (B : Int), B ≤ 4500000 → K < n → Q3 K B (itemsF E en (fun _ => f) n) 1 0 := by
  intro n
  induction n with
  | zero => intro K B _ h; omega
  | succ n ih =>
    intro K B hB h
    have h1 : Q3 K B (fun s => (f s).bind fun s2 => if (pk E s2.L).t = [44] then itemsF E en (fun _ => f) n { s2 with L := s2.L.tail } else wordF E en s2) (c + 0) (d + 4) := by
      refine (hf K B hB).bind (c2 := 0) (d2 := 4) (g := fun s2 => if (pk E s2.L).t = [44] then itemsF E en (fun _ => f) n { s2 with L := s2.L.tail } else wordF E en s2) fun hK => ?_
      exact Q3.took (by simp) (fun hK2 => ih (K - c - 1) _ (by omega) (by omega)) ((Q3.word hen).low (by omega) (by omega)) (by omega) (by omega)
    exact h1.low (by omega) (by omega)
theorem list_all {o en : List UInt8} (ho : o ≠ []) (hen : en ≠ []) {f : F3} {c : Nat} {d : Int} (hc : 1 ≤ c) (hd : -4 ≤ d) (hf : ∀ K B, B ≤ 4500000 → Q3 K B f c d) (hB : B ≤ 4500000) (h : K ≤ n) : Q3 K B (listF E o en (fun _ => f) n) 1 4 :=
  ((Q3.word ho).bind (c2 := 0) (d2 := 0) (g := fun s1 => if (pk E s1.L).t = en then .ok { s1 with L := s1.L.tail } else itemsF E en (fun _ => f) n s1) fun _ =>
    Q3.took hen (f := .ok) (fun _ => Q3.ok) ((items_all hen hc hd hf n _ _ (by omega) (by omega)).low (by omega) (by omega)) (by omega) (by omega)).low (by omega) (by omega)
theorem list_expr (h : 10 * K < n) (hB : B ≤ 4500000) {o en : List UInt8} (ho : o ≠ []) (hen : en ≠ []) : Q3 K B (listF E o en (fun m => runJ E m .expr) n) 1 0 := fun s h1 h2 => by
  unfold sz4 at h2
  have h3 := runJ_fine E (n + 1) (.list o en .expr) s ⟨ho, hen, rfl⟩ (by omega) (by show _ + 0 < _; omega)
  have e : runJ E (n + 1) (.list o en .expr) s = listF E o en (fun m => runJ E m .expr) n s := by
    show (wordF E o s).bind (fun s1 => if (pk E s1.L).t = en then .ok { s1 with L := s1.L.tail } else runJ E n (.items en .expr) s1) = _
    rw [items_eq]; rfl
  rw [e] at h3
  refine h3.mono fun s1 h => ?_
  obtain ⟨⟨a, b, c⟩, d⟩ := h
  exact ⟨a, by omega, c, d⟩
theorem Q3.values {m : Int} (h : 10 * K < n) (hB : B ≤ 4500000) : Q3 K B (valuesF E m (fun m => runJ E m .expr) n) 0 0 := fun s h1 h2 => by
  unfold valuesF
  by_cases hp : (pk E s.L).t = [61]
  · rw [if_pos hp]
    have hn : s.L ≠ [] := pk_pos (E := E) (by rw [hp]; simp)
    refine Fine.bind (Q3.tail (f := listF E [123] [125] (fun m => runJ E m .expr) n) (fun _ => list_expr (by omega) (by omega) (by simp) (by simp)) h1 h2 hn) fun s2 q => ?_
    show Fine (if _ then _ else _) _
    split
    · trivial
    · exact q.weak (by omega) (by omega)
  · rw [if_neg hp]; exact Part3.refl s
theorem Q3.array {x : Mn} (h : 10 * K < n) (hB : B ≤ 4500000) : Q3 K B (arrayF E x (fun m => runJ E m .expr) n) 1 1 := fun s h1 h2 => by
  unfold arrayF
  have hw : Q3 K B (wordF E [91]) 1 4 := Q3.word (by simp)
  refine Fine.bind (hw s h1 h2) fun s1 p => ?_
  have hl := p.l
  have hs := sz_le p h2
  by_cases hk : (pk E s1.L).k = 2
  · simp only [if_pos hk]
    by_cases hr : (pk E s1.L).v < 1 ∨ 200 < (pk E s1.L).v
    · simp only [if_pos hr]; trivial
    · simp only [if_neg hr]
      have hn : s1.L ≠ [] := pk_kpos (E := E) (by rw [hk]; simp)
      have hb : Q3 (s1.L.length - 1) (B - 4 - 4) (buildF { x with k := 2, n := 3, z := ((pk E s1.L).v : Int) } [wordF E [93], valuesF E (pk E s1.L).v (fun m => runJ E m .expr) n, wordF E [59]]) 2 7 :=
        Q3.buildc (((Q3.word (by simp)).cons fun _ => (Q3.values (by omega) (by omega)).cons fun _ => (Q3.word (by simp)).cons fun _ => Q3.nil).low (by omega) (by omega)) (by omega)
      have hb2 := Q3.tail (fun _ => hb) (Nat.le_refl _) hs hn
      exact hb2.mono fun s2 q => (p.trans q).weak (by omega) (by omega)
  · simp only [if_neg hk]; trivial
end small
def rankU : UJob → Nat
  | .compound => 5
  | .block => 5
  | .action => 6
  | .inSwitch => 7
  | .body => 7
  | .braces _ => 8
  | .global => 5
  | .globals => 6
def cU : UJob → Nat
  | .globals => 0
  | _ => 1
def dU : UJob → Int
  | .globals => 0
  | .braces _ => 0
  | .body => 2
  | .global => 1
  | _ => 3
theorem runU_fine (E : Nat) : ∀ n job K (B : Int), B ≤ 4500000 → 10 * K + rankU job < n → Q3 K B (runU E n job) (cU job) (dU job) := by
  intro n
  induction n with
  | zero => intro job K B _ h; omega
  | succ n ih =>
    intro job K B hB hf
    show Q3 K B (stepU E n (runU E n) job) _ _
    have ihs : ∀ job, (c : Nat) → (d : Int) → cU job = c → dU job = d → ∀ K (B : Int), B ≤ 4500000 → 10 * K + rankU job < n → Q3 K B (runU E n job) c d := fun job c d h1 h2 K B h3 h4 => by
      subst h1; subst h2; exact ih job K B h3 h4
    cases job with
    | braces sw =>
      change 10 * K + 8 < n + 1 at hf
      have h1 : Q3 K B (runU E n (itemU sw)) 1 3 := by
        cases sw
        · exact ihs .action 1 3 rfl rfl K B hB (by show _ + 6 < _; omega)
        · exact ihs .inSwitch 1 3 rfl rfl K B hB (by show _ + 7 < _; omega)
      refine Q3.took (by simp) (f := .ok) (g := fun s => (runU E n (itemU sw) s).bind (runU E n (.braces sw))) (c := 0) (d := 0) (fun _ => Q3.ok) ?_ (by show 1 ≤ _; omega) (by show (0 : Int) ≤ _; omega)
      exact (h1.bind (c2 := 1) (d2 := 0) fun hK => ihs (.braces sw) 1 0 rfl rfl _ _ (by omega) (by show _ + 8 < _; omega)).low (by show 1 ≤ _; omega) (by show (0 : Int) ≤ _; omega)
    | block =>
      change 10 * K + 5 < n + 1 at hf
      refine Q3.build (X := fun s => mk 11 [] 0 (pk E s.L).a) (fs := [fun s => (wordF E [123] s).bind (runU E n (.braces false))]) ?_ (by show B - 3 ≤ _; omega)
      have h1 : Q3 K B (fun s => (wordF E [123] s).bind (runU E n (.braces false))) (1 + 1) (4 + 0) :=
        (Q3.word (by simp)).bind fun _ => ihs (.braces false) 1 0 rfl rfl _ _ (by omega) (by show _ + 8 < _; omega)
      exact (h1.cons fun _ => Q3.nil).low (by show 1 ≤ _; omega) (by show (3 : Int) + 1 ≤ _; omega)
    | body =>
      change 10 * K + 7 < n + 1 at hf
      refine Q3.ite (p := fun s => (pk E s.L).t = [123]) (f := runU E n .block) (g := fun s => buildF (mk 11 [] 0 (pk E s.L).a) [runU E n .action] s) ?_ ?_
      · exact (ihs .block 1 3 rfl rfl K B hB (by show _ + 5 < _; omega)).low (by show 1 ≤ _; omega) (by show (2 : Int) ≤ _; omega)
      · refine Q3.build (X := fun s => mk 11 [] 0 (pk E s.L).a) ?_ (by show B - 2 ≤ _; omega)
        exact ((ihs .action 1 3 rfl rfl K B hB (by show _ + 6 < _; omega)).cons fun _ => Q3.nil).low (by show 1 ≤ _; omega) (by show (2 : Int) + 1 ≤ _; omega)
    | action =>
      change 10 * K + 6 < n + 1 at hf
      refine Q3.ite (p := fun s => (pk E s.L).t = [123]) (f := runU E n .block) ((ihs .block 1 3 rfl rfl K B hB (by show _ + 5 < _; omega))) ?_
      refine Q3.ite (p := fun s => (pk E s.L).t = [105, 110, 116]) (f := seqF [localF E (runJ E n .expr), wordF E [59]]) ?_ ?_
      · exact ((Q3.local (by omega) hB).cons fun _ => (Q3.word (by simp)).cons fun _ => Q3.nil).low (by show 1 ≤ _; omega) (by show (3 : Int) ≤ _; omega)
      refine Q3.ite (p := fun s => (pk E s.L).t = [105, 102] ∨ (pk E s.L).t = [119, 104, 105, 108, 101] ∨ (pk E s.L).t = [100, 111] ∨ (pk E s.L).t = [102, 111, 114] ∨ (pk E s.L).t = [115, 119, 105, 116, 99, 104]) (f := runU E n .compound) (ihs .compound 1 3 rfl rfl K B hB (by show _ + 5 < _; omega)) ?_
      refine Q3.ite (p := fun s => (pk E s.L).t = [98, 114, 101, 97, 107]) (f := fun s => buildF (mk 21 [] 0 (pk E s.L).a) [wordF E [98, 114, 101, 97, 107], wordF E [59]] s) ?_ ?_
      · exact Q3.build (X := fun s => mk 21 [] 0 (pk E s.L).a) (((Q3.word (by simp)).cons fun _ => (Q3.word (by simp)).cons fun _ => Q3.nil).low (by show 1 ≤ _; omega) (by show (3 : Int) + 1 ≤ _; omega)) (by show B - 3 ≤ _; omega)
      refine Q3.ite (p := fun s => (pk E s.L).t = [99, 111, 110, 116, 105, 110, 117, 101]) (f := fun s => buildF (mk 22 [] 0 (pk E s.L).a) [wordF E [99, 111, 110, 116, 105, 110, 117, 101], wordF E [59]] s) ?_ ?_
      · exact Q3.build (X := fun s => mk 22 [] 0 (pk E s.L).a) (((Q3.word (by simp)).cons fun _ => (Q3.word (by simp)).cons fun _ => Q3.nil).low (by show 1 ≤ _; omega) (by show (3 : Int) + 1 ≤ _; omega)) (by show B - 3 ≤ _; omega)
      refine Q3.ite (p := fun s => (pk E s.L).t = [114, 101, 116, 117, 114, 110]) (f := fun s => buildF (mk 23 [] 0 (pk E s.L).a) [wordF E [114, 101, 116, 117, 114, 110], toldF E (runJ E n .expr), wordF E [59]] s) ?_ ?_
      · exact Q3.build (X := fun s => mk 23 [] 0 (pk E s.L).a) (((Q3.word (by simp)).cons fun _ => (Q3.told (by omega) (by omega)).cons fun _ => (Q3.word (by simp)).cons fun _ => Q3.nil).low (by show 1 ≤ _; omega) (by show (3 : Int) + 1 ≤ _; omega)) (by show B - 3 ≤ _; omega)
      refine Q3.ite (p := fun s => (pk E s.L).t = [59]) (f := seqF [nothingF E, wordF E [59]]) (g := seqF [effectF E (runJ E n .expr), wordF E [59]]) ?_ ?_
      · exact ((Q3.nothing (by omega)).cons fun _ => (Q3.word (by simp)).cons fun _ => Q3.nil).low (by show 1 ≤ _; omega) (by show (3 : Int) ≤ _; omega)
      · exact ((Q3.effect (by omega) hB).cons fun _ => (Q3.word (by simp)).cons fun _ => Q3.nil).low (by show 1 ≤ _; omega) (by show (3 : Int) ≤ _; omega)
    | compound =>
      change 10 * K + 5 < n + 1 at hf
      have hels : ∀ K (B : Int), B ≤ 4500000 → 10 * K < n + 1 → Q3 K B (fun s => if (pk E s.L).t = [101, 108, 115, 101] then runU E n .body { s with L := s.L.tail } else .ok s) 0 0 := fun K B h1 h2 =>
        Q3.took (by simp) (f := runU E n .body) (g := .ok) (c := 1) (d := 2) (fun _ => ihs .body 1 2 rfl rfl _ _ (by omega) (by show _ + 7 < _; omega)) Q3.ok (by omega) (by omega)
      have hbo : ∀ K (B : Int), B ≤ 4500000 → 10 * K + 7 < n → Q3 K B (runU E n .body) 1 2 := fun K B h1 h2 => ihs .body 1 2 rfl rfl K B h1 h2
      have key : ∀ (t : List UInt8), t ≠ [] → ∀ (X : S3 → Mn) (fs : List F3) (g : F3), (1 ≤ K → Q3 (K - 1) (B - 4) (seqF fs) 0 0) → Q3 K B g 1 3 →
          Q3 K B (fun s => if (pk E s.L).t = t then buildF (X s) fs { s with L := s.L.tail } else g s) 1 3 := fun t ht X fs g h1 h2 s q1 q2 => by
        show Fine (if (pk E s.L).t = t then _ else _) _
        by_cases hp : (pk E s.L).t = t
        · rw [if_pos hp]
          have hn : s.L ≠ [] := pk_pos (E := E) (by rw [hp]; exact ht)
          exact (Q3.tail (f := buildF (X s) fs) (c := 0) (d := -1) (fun hK => Q3.buildc ((h1 hK).low (Nat.le_refl _) (by omega)) (by omega)) q1 q2 hn).mono fun s2 q => q.weak (by omega) (by omega)
        · rw [if_neg hp]; exact h2 s q1 q2
      refine key [105, 102] (by simp) (fun s => mk 14 [] 0 (pk E s.L).a) [conditionF E (runJ E n .expr), runU E n .body, _] _ (fun hK => ?_) ?_
      · exact ((Q3.condition (by omega) (by omega)).cons fun _ => (hbo _ _ (by omega) (by omega)).cons fun _ => (hels _ _ (by omega) (by omega)).cons fun _ => Q3.nil).low (by omega) (by omega)
      refine key [119, 104, 105, 108, 101] (by simp) (fun s => mk 15 [] 0 (pk E s.L).a) [conditionF E (runJ E n .expr), runU E n .body] _ (fun hK => ?_) ?_
      · exact ((Q3.condition (by omega) (by omega)).cons fun _ => (hbo _ _ (by omega) (by omega)).cons fun _ => Q3.nil).low (by omega) (by omega)
      refine key [100, 111] (by simp) (fun s => mk 16 [] 0 (pk E s.L).a) [runU E n .body, wordF E [119, 104, 105, 108, 101], conditionF E (runJ E n .expr), wordF E [59]] _ (fun hK => ?_) ?_
      · exact ((hbo _ _ (by omega) (by omega)).cons fun _ => (Q3.word (by simp)).cons fun _ => (Q3.condition (by omega) (by omega)).cons fun _ => (Q3.word (by simp)).cons fun _ => Q3.nil).low (by omega) (by omega)
      refine key [102, 111, 114] (by simp) (fun s => mk 17 [] 0 (pk E s.L).a) [wordF E [40], startF E (runJ E n .expr), wordF E [59], unlessF E [59] (runJ E n .expr), wordF E [59], unlessF E [41] (effectF E (runJ E n .expr)), wordF E [41], runU E n .body] _ (fun hK => ?_) ?_
      · exact ((Q3.word (by simp)).cons fun _ => (Q3.start (by omega) (by omega)).cons fun _ => (Q3.word (by simp)).cons fun _ => (Q3.unless (Q3.expr (by omega) (by omega)) (by omega) (by omega)).cons fun _ => (Q3.word (by simp)).cons fun _ => (Q3.unless (Q3.effect (by omega) (by omega)) (by omega) (by omega)).cons fun _ => (Q3.word (by simp)).cons fun _ => (hbo _ _ (by omega) (by omega)).cons fun _ => Q3.nil).low (by omega) (by omega)
      have hsw : Q3 K B (buildF (mk 18 [] 0 0) [conditionF E (runJ E n .expr), fun s => (wordF E [123] s).bind (runU E n (.braces true))]) 1 3 → True := fun _ => trivial
      intro s q1 q2
      have hb : Q3 K B (buildF (mk 18 [] 0 (pk E s.L).a) [conditionF E (runJ E n .expr), fun s => (wordF E [123] s).bind (runU E n (.braces true))]) 1 3 := by
        refine Q3.buildc ?_ (by omega)
        refine ((Q3.condition (by omega) (by omega)).cons fun _ => Q3.cons (c1 := 1 + 1) (d1 := 4 + 0) ((Q3.word (by simp)).bind fun _ => ihs (.braces true) 1 0 rfl rfl _ _ (by omega) (by show _ + 8 < _; omega)) fun _ => Q3.nil).low (by omega) (by omega)
      have h0 := tail_part0 s
      have h1 := h0.l
      exact (hb { s with L := s.L.tail } (by omega) (Int.le_trans (sz_le h0 q2) (by omega))).mono fun s2 q => (h0.trans q).weak (by omega) (by omega)
    | inSwitch =>
      change 10 * K + 7 < n + 1 at hf
      refine Q3.ite (p := fun s => (pk E s.L).t = [99, 97, 115, 101]) (f := fun s => buildF (mk 19 [] 0 (pk E s.L).a) [wordF E [99, 97, 115, 101], runJ E n .expr, wordF E [58]] s) ?_ ?_
      · exact Q3.build (X := fun s => mk 19 [] 0 (pk E s.L).a) (((Q3.word (by simp)).cons fun _ => (Q3.expr (by omega) (by omega)).cons fun _ => (Q3.word (by simp)).cons fun _ => Q3.nil).low (by show 1 ≤ _; omega) (by show (3 : Int) + 1 ≤ _; omega)) (by show B - 3 ≤ _; omega)
      refine Q3.ite (p := fun s => (pk E s.L).t = [100, 101, 102, 97, 117, 108, 116]) (f := fun s => buildF (mk 20 [] 0 (pk E s.L).a) [wordF E [100, 101, 102, 97, 117, 108, 116], wordF E [58]] s) (g := runU E n .action) ?_ ?_
      · exact Q3.build (X := fun s => mk 20 [] 0 (pk E s.L).a) (((Q3.word (by simp)).cons fun _ => (Q3.word (by simp)).cons fun _ => Q3.nil).low (by show 1 ≤ _; omega) (by show (3 : Int) + 1 ≤ _; omega)) (by show B - 3 ≤ _; omega)
      · exact ihs .action 1 3 rfl rfl K B hB (by show _ + 6 < _; omega)
    | global =>
      change 10 * K + 5 < n + 1 at hf
      have hfn : ∀ K (B : Int), B ≤ 4500000 → 10 * K < n → ∀ x : Mn, Q3 K B (buildF { x with k := 3 } [listF E [40] [41] (fun _ => paramF E) n, runU E n .block]) 2 6 := fun K B h1 h2 x => by
        refine Q3.buildc ?_ (by omega)
        exact ((list_all (by simp) (by simp) (c := 2) (d := 7) (by omega) (by omega) (fun K B h => Q3.param h) h1 (by omega)).cons fun _ => (ihs .block 1 3 rfl rfl _ _ (by omega) (by show _ + 5 < _; omega)).cons fun _ => Q3.nil).low (by omega) (by omega)
      refine Q3.took (by simp) (t := [118, 111, 105, 100]) (f := fun s => (namedF E 0 s).bind fun s1 x => buildF { x with k := 3 } [listF E [40] [41] (fun _ => paramF E) n, runU E n .block] s1) (g := fun s => (declF E s).bind fun s1 x =>
        if (pk E s1.L).t = [40] then buildF { x with k := 3 } [listF E [40] [41] (fun _ => paramF E) n, runU E n .block] s1
        else if (pk E s1.L).t = [91] ∧ x.n = 1 then arrayF E x (fun m => runJ E m .expr) n s1
        else buildF { x with k := 2 } [initialF E (runJ E n .expr), wordF E [59]] s1) (c := 1 + 2) (d := 4 + 6) (fun hK s q1 q2 => ?_) ?_ (by show 1 ≤ _; omega) (by show (1 : Int) ≤ _; omega)
      · refine FineD.bind (named_fine E 0 s) fun s1 x p => ?_
        have hl := p.l
        exact (hfn (K - 1 - 1) (B - 4 - 4) (by omega) (by omega) x s1 (by omega) (sz_le p q2)).mono fun s2 q => p.trans q
      · refine (Q3.decl (c := 0) (d := 0) fun hK x => ?_).low (by show 1 ≤ _; omega) (by show (1 : Int) ≤ _; omega)
        refine Q3.ite (p := fun s1 => (pk E s1.L).t = [40]) (f := buildF { x with k := 3 } [listF E [40] [41] (fun _ => paramF E) n, runU E n .block]) ((hfn _ _ (by omega) (by omega) x).low (by omega) (by omega)) ?_
        refine Q3.ite (p := fun s1 => (pk E s1.L).t = [91] ∧ x.n = 1) (f := arrayF E x (fun m => runJ E m .expr) n) (g := buildF { x with k := 2 } [initialF E (runJ E n .expr), wordF E [59]]) ((Q3.array (by omega) (by omega)).low (by omega) (by omega)) ?_
        refine Q3.buildc ?_ (by omega)
        exact ((Q3.initial (by omega) (by omega)).cons fun _ => (Q3.word (by simp)).cons fun _ => Q3.nil).low (by omega) (by omega)
    | globals =>
      change 10 * K + 6 < n + 1 at hf
      refine Q3.ite (p := fun s => s.L = []) (f := .ok) (g := fun s => (runU E n .global s).bind (runU E n .globals)) Q3.ok ?_
      exact ((ihs .global 1 1 rfl rfl K B hB (by show _ + 5 < _; omega)).bind (c2 := 0) (d2 := 0) fun hK => ihs .globals 0 0 rfl rfl _ _ (by omega) (by show _ + 6 < _; omega)).low (by show 0 ≤ _; omega) (by show (0 : Int) ≤ _; omega)
theorem unit_fine (E n : Nat) (L : List T4) (hL : L.length ≤ 1100000) (hn : 10 * L.length + 6 < n) : Fine (unitF E n ⟨L, [], []⟩) (fun s => s.N.length ≤ 4500000 ∧ ∃ x, s.N.getLast? = some x ∧ x.k = 1) := by
  unfold unitF buildF extF
  have h := runU_fine E n .globals L.length (4 * L.length) (by omega) hn ⟨L, [], []⟩ (Nat.le_refl _) (by unfold sz4; simp)
  refine Fine.bind (seq_fine1 h) fun s1 p => ?_
  obtain ⟨a, b, g, l, o⟩ := p
  have b' : (s1.N.length : Int) + 4 * s1.L.length + 0 ≤ 0 + 4 * L.length := b
  refine (add_fine s1 (Nat.zero_le _) (by omega)).mono fun s2 h => ?_
  subst h
  refine ⟨?_, ⟨{ mk 1 [] 0 0 with c := s1.O.drop 0 }, ?_, rfl⟩⟩
  · show (s1.N ++ _).length ≤ _; simp; omega
  · show (s1.N ++ _).getLast? = _; simp
theorem expr_fine (E n : Nat) (L : List T4) (hL : L.length ≤ 1100000) (hn : 10 * L.length + 4 < n) : Fine (runJ E n .expr ⟨L, [], []⟩) (fun s => s.N.length ≤ 4500000 ∧ LastE s.N) := by
  refine (runJ_fine E n .expr ⟨L, [], []⟩ trivial (by show 0 + L.length ≤ _; omega) hn).mono fun s1 p => ?_
  obtain ⟨⟨a, b, g⟩, o, k⟩ := p
  have b' : s1.N.length + s1.L.length ≤ 0 + L.length := b
  exact ⟨by omega, k⟩
end
end Go.Proofs.YtmghjfphlneblaaGreatDoor
