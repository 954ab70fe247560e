/-
  Joined texts of this claim: TkK.
-/
import Derived.Test.YtbjacclfhgnffaaGreatDoorY09
set_option linter.unusedVariables false
set_option linter.unusedSimpArgs false
/-
  Contract of the program's Scan: it gives what the plain relation tells.
-/
namespace Go.Proofs.YtbjacclfhgnffaaGreatDoor.Tk
open Go.RowKit

set_option maxHeartbeats 1000000 in
theorem cutter_any (s : ByteArray) (w : World) :
    Calls Tryz.prog 103 #[.string s] w fun e w' => e = .returned (.tuple #[.func (.func 155) #[] #[.pointer (some ⟨w.heap.size, 0, none⟩), .pointer (some ⟨w.heap.size + 1, 0, none⟩)], .func (.func 157) #[] #[.pointer (some ⟨w.heap.size, 0, none⟩), .pointer (some ⟨w.heap.size + 1, 0, none⟩)]]) ∧
      w' = (w.alloc (.cells #[.string s] 9)).alloc (.cells #[.int .i64 0] 3) := by
  go_enter Tryz.func103, Tryz.ntmps103
  go_wp2
  go_ret2
  exact ⟨rfl, rfl⟩

def cells4 (t : T4) : List Value := [.int .i64 t.k, .string (bstr t.t), .int .i64 t.v, .int .i64 t.a]
def rowOf (l : List T4) : List Value := l.flatMap cells4
theorem rowOf_snoc (l : List T4) (t : T4) : rowOf (l ++ [t]) = rowOf l ++ cells4 t := by simp [rowOf]
def ScOut : SR → Value → Int → Int → Nat → World → Prop
  | .ok l, v, c, a, B, w => c = 0 ∧ a = 0 ∧ w.ownsRow B 82 4 v l.length (rowOf l)
  | .bad c' a', v, c, a, _, _ => c = c' ∧ a = a' ∧ v = .slice none 0 0
def ScPost (l : List UInt8) (w : World) (e : Ending) (w' : World) : Prop :=
  Below w.heap.size w w' ∧ ∃ v c a, e = .returned (.tuple #[v, .agg #[.int .i64 c, .int .i64 a]]) ∧
    ((2000 < l.length ∧ v = .slice none 0 0 ∧ c = 2 ∧ a = 0) ∨ (l.length ≤ 2000 ∧ ∃ R, Scans 0 l [] R ∧ ScOut R v c a w.heap.size w'))
theorem ownsRow_base {w : World} {b b' : Nat} {e : TypeId} {size : Nat} {v : Value} {n : Nat} {xs : List Value} (h : w.ownsRow b e size v n xs) (hb : b' ≤ b) : w.ownsRow b' e size v n xs := by
  obtain ⟨h1, h2⟩ := h
  refine ⟨h1, ?_⟩
  rcases h2 with h2 | ⟨g, cap, cur, hv, hg, r⟩
  · exact Or.inl h2
  · exact Or.inr ⟨g, cap, cur, hv, Nat.le_trans hb hg, r⟩
theorem info36 : (Tryz.prog.info? 82).map (fun i => (i.zero, i.size, i.bytes)) = some (some (.agg #[.int .i64 0, .string ⟨#[]⟩, .int .i64 0, .int .i64 0]), 4, 40) := by kernel_rfl
def lenOf : Value → Nat | .slice _ n _ => n | _ => 0
/-- what holds at the head of each round of Scan -/
structure ScInv (s : ByteArray) (w : World) (B : Nat) (v : Value) (wr : World) (k : Nat) (acc : List T4) : Prop where
  kle : k ≤ s.size
  res : wr.heap[B]? = some (.cells #[.int .i64 0, .int .i64 0] 26 (0, 0))
  txt : wr.heap[B + 1]? = some (.cells #[.string s] 9 (0, 0))
  at' : wr.heap[B + 1 + 1]? = some (.cells #[.int .i64 k] 3 (0, 0))
  own : wr.ownsRow (B + 1 + 1 + 1) 82 4 v acc.length (rowOf acc)
  below : Below B w wr
  few : acc.length ≤ 800
  rest : ∀ r, Scans k (s.data.toList.drop k) acc r → Scans 0 s.data.toList [] r
theorem scInv_len {s : ByteArray} {w : World} {B : Nat} {v : Value} {wr : World} {k : Nat} {acc : List T4} (h : ScInv s w B v wr k acc) : ∃ p cap, v = .slice p acc.length cap ∧ acc.length ≤ 800 := by
  rcases h.own.2 with ⟨rfl, h0⟩ | ⟨g, cap, cur, hv, _⟩
  · rw [h0]; exact ⟨none, 0, rfl, by omega⟩
  · exact ⟨_, _, hv, h.few⟩

theorem grown_keep {w w' : World} {x b : Nat} {o : Obj} (h : w.grownBy w' (some x)) (hb : w.heap[b]? = some o) (hx : b ≠ x) : w'.heap[b]? = some o :=
  (h.block b (lt_of_block hb) (fun e => hx (Option.some.inj e))).trans hb
theorem own_keep {w w' : World} {x B e size n : Nat} {v : Value} {xs : List Value} (h : w.ownsRow B e size v n xs) (hg : w.grownBy w' (some x)) (hx : x < B) : w'.ownsRow B e size v n xs := by
  refine h.kept hg ?_
  cases hv : v.ownBlock with
  | none => exact Or.inl rfl
  | some g =>
    have := (h.lt g hv).1
    exact Or.inr (fun e => by cases e; omega)

theorem news_cells (w : World) (xs : List Value) (t : TypeId) (n : Nat) (hn : n = w.heap.size) : ∀ j u, xs[j]? = some u → (w.alloc (.cells xs.toArray t)).cell? ((⟨n, 0, none⟩ : Addr).add j) = some u := by
  intro j u h
  subst hn
  have : ((⟨w.heap.size, 0, none⟩ : Addr).add j) = ⟨w.heap.size, j, none⟩ := by unfold Addr.add; split <;> simp_all
  rw [this, World.cell?_alloc_new]
  simpa using h
theorem below_res {B : Nat} {a w2 : World} (h : Below B a w2) (hB : B ≤ w2.heap.size) (x y : Value) (o : Obj) : Below B a (((w2.setCell ⟨B, 0, none⟩ x).setCell ⟨B, 1, none⟩ y).alloc o) := by
  refine Below.alloc ((h.setCell (p := ⟨B, 0, none⟩) (Nat.le_refl _) x).setCell (p := ⟨B, 1, none⟩) (Nat.le_refl _) y) ?_ o
  simp [World.setCell]; exact hB
theorem own_res {B b e size n : Nat} {w2 : World} {v : Value} {xs : List Value} (h : w2.ownsRow b e size v n xs) (hb : B < b) (x y : Value) (o : Obj) : (((w2.setCell ⟨B, 0, none⟩ x).setCell ⟨B, 1, none⟩ y).alloc o).ownsRow b e size v n xs :=
  (ownsRow_setCell_below (ownsRow_setCell_below h (a := ⟨B, 0, none⟩) hb x) (a := ⟨B, 1, none⟩) hb y).alloc o

set_option maxHeartbeats 8000000 in
set_option maxRecDepth 100000 in
theorem scanIn (s : ByteArray) (w : World) (hs : s.size ≤ 2000) (hsh : w.ShapedOpen Tryz.prog) (te : TypeId) (pe : Value) (hv : w.cell? ⟨4, 0, none⟩ = some (.iface te pe)) :
    Calls Tryz.prog 56 #[.string s] w (ScPost s.data.toList w) := by
  have hsz := Lib.hid (Lib.size_eq s)
  have hng : ¬ 2000 < s.size := by omega
  go_enter Tryz.func56, Tryz.ntmps56
  go_wp2_with (go_at_call 103; refine (cutter_any _ _).mono ?_; rintro e w' ⟨rfl, rfl⟩)
  go_loopw [6] (fun v wr => ∃ k acc, ScInv s w w.heap.size v wr k acc) (fun v _ => 801 - lenOf v)
  case atStart =>
    refine ⟨0, [], Nat.zero_le _, ?_, ?_, ?_, World.ownsRow_nil _ _ _ _, ?_, by simp, fun r h => h⟩
    · rw [Below.heap_alloc _ _ _ (by simp; omega), Below.heap_alloc _ _ _ (by simp)]; exact heap_alloc_new w _
    · rw [Below.heap_alloc _ _ _ (by simp)]
      have := heap_alloc_new (w.alloc (.cells #[.int .i64 0, .int .i64 0] 26)) (.cells #[.string s] 9)
      simpa using this
    · have := heap_alloc_new ((w.alloc (.cells #[.int .i64 0, .int .i64 0] 26)).alloc (.cells #[.string s] 9)) (.cells #[.int .i64 0] 3)
      simpa using this
    · exact (((Below.refl _ _).alloc (Nat.le_refl _) _).alloc (by simp) _).alloc (by simp; omega) _
  case round =>
    obtain ⟨k, acc, hI⟩ := hrel
    obtain ⟨p, cap, rfl, hfew⟩ := scInv_len hI
    have hsh2 : wr.ShapedOpen Tryz.prog := sh_below hsh hI.below
    have hv2 : wr.cell? ⟨4, 0, none⟩ = some (.iface te pe) := (hI.below.cell (p := ⟨4, 0, none⟩) (Lib.lt_of_cell hv)).trans hv
    have hSk := skip_any s k _ _ wr hs hI.kle hsh2 hI.txt hI.at'
    have HI := Lib.hid hI
    clear hI
    go_wp2_with (go_at_call 155; refine hSk.mono ?_)
    rintro e w2 ⟨n, o, rfl, hg, hgr, hA2⟩
    have hkn : k + n ≤ s.size := by have := hg.1; rw [List.length_drop] at this; have := hsz.out; have := HI.out.kle; omega
    have hT2 := grown_keep hgr HI.out.txt (by omega)
    have hR2 := grown_keep hgr HI.out.res (by omega)
    have hO2 := own_keep HI.out.own hgr (by omega)
    have hB2 : Below w.heap.size w w2 := HI.out.below.grown hgr HI.out.below.size (fun k h => by cases h; omega)
    have c0 : w2.cell? ⟨w.heap.size, 0, none⟩ = some (.int .i64 0) := by simp [World.cell?, hR2]
    have c1 : w2.cell? ⟨w.heap.size, 1, none⟩ = some (.int .i64 0) := by simp [World.cell?, hR2]
    have f0 : w2.frozen? ⟨w.heap.size, 0, none⟩ = false := by simp [World.frozen?, hR2]
    have f1 : w2.frozen? ⟨w.heap.size, 1, none⟩ = false := by simp [World.frozen?, hR2]
    have lR := lt_of_block hR2
    have HT2 := Lib.hid hT2
    have HR2 := Lib.hid hR2
    have HA2 := Lib.hid hA2
    have HO2 := Lib.hid hO2
    have HG := Lib.hid hg
    have HB2 := Lib.hid hB2
    clear hT2 hR2 hA2 hO2 hg hgr hB2 hSk
    cases o with
    | true =>
      simp only [if_true]
      go_wp2
      go_region
      all_goals go_wp2
      refine bodyPost_ret (v := .tuple #[.slice none 0 0, .agg #[.int .i64 1, .int .i64 (k + n)]]) (by simp [results, Tryz.results56, go_sem, c0, c1, lR]) rfl ?_
      refine ⟨?_, _, _, _, rfl, Or.inr ⟨by have := hsz.out; omega, .bad 1 (k + n), HI.out.rest _ (HG.out.2.1 _ _ _ (.opens (HG.out.2.2.1 rfl))), rfl, by simp, rfl⟩⟩
      exact (below_res HB2.out (Nat.le_of_lt lR) _ _ _).drew
    | false =>
      simp only [Bool.false_eq_true, if_false]
      by_cases hend : k + n = s.size
      · have hend2 : ((k : Int) + n == s.size) = true := beq_of (by omega)
        go_wp2
        refine bodyPost_ret (v := .tuple #[.slice p acc.length cap, .agg #[.int .i64 0, .int .i64 0]]) (by simp [results, Tryz.results56, go_sem, c0, c1, lR]) rfl ?_
        refine ⟨?_, _, _, _, rfl, Or.inr ⟨by have := hsz.out; omega, .ok acc, HI.out.rest _ (HG.out.2.1 _ _ _ (by rw [List.drop_drop, List.drop_eq_nil_of_le (by have := hsz.out; omega)]; exact .done _ _)), rfl, rfl, ?_⟩⟩
        · exact below_res HB2.out (Nat.le_of_lt lR) _ _ _
        · exact ownsRow_base (own_res HO2.out (by omega) _ _ _) (by omega)
      · have hend2 : ((k : Int) + n == s.size) = false := beq_of_ne (by omega)
        have hne : s.data.toList.drop (k + n) ≠ [] := fun h => by
          have := congrArg List.length h
          rw [List.length_drop] at this
          have := hsz.out
          simp at *; omega
        have hword : skp (s.data.toList.drop (k + n)) = .word := by
          have := HG.out.2.2.2 rfl
          rw [List.drop_drop] at this
          exact this.resolve_left hne
        have hgo : ∀ r, Scans (k + n) (s.data.toList.drop (k + n)) acc r → Scans 0 s.data.toList [] r := fun r h => HI.out.rest _ (HG.out.2.1 _ _ _ (by rw [List.drop_drop]; exact h))
        have Hgo := Lib.hid hgo
        have Hword := Lib.hid hword
        have Hne := Lib.hid hne
        clear hgo hword hne hend HG
        by_cases h800 : acc.length = 800
        · have H8 := Lib.hid h800
          have h8 : ((acc.length : Int) == 800) = true := beq_of (by omega)
          clear h800
          go_wp2
          refine bodyPost_ret (v := .tuple #[.slice none 0 0, .agg #[.int .i64 10, .int .i64 (k + n)]]) (by simp [results, Tryz.results56, go_sem, c0, c1, lR]) rfl ?_
          refine ⟨?_, _, _, _, rfl, Or.inr ⟨by have := hsz.out; omega, .bad 10 (k + n), Hgo.out _ (.much Hword.out Hne.out H8.out), rfl, by simp, rfl⟩⟩
          exact below_res HB2.out (Nat.le_of_lt lR) _ _ _
        · have H8 := Lib.hid h800
          have h8 : ((acc.length : Int) == 800) = false := beq_of_ne (by omega)
          clear h800
          have hlt2 : 4 < w2.heap.size := Nat.lt_of_lt_of_le (Lib.lt_of_cell hv) HB2.out.size
          have hv3 : w2.cell? ⟨4, 0, none⟩ = some (.iface te pe) := (HB2.out.cell (p := ⟨4, 0, none⟩) (Lib.lt_of_cell hv)).trans hv
          have hTk := take_any s (k + n) (w.heap.size + 1) (w.heap.size + 1 + 1) (w2.alloc (.cells #[.int .i64 0, .int .i64 0] 26)) hs hkn te pe (hv_alloc hv3 _)
            ((Below.heap_alloc _ _ _ (lt_of_block HT2.out)).trans HT2.out) ((Below.heap_alloc _ _ _ (lt_of_block HA2.out)).trans HA2.out)
          clear hv3 hlt2
          go_wp2_with (go_at_call 157; refine hTk.mono ?_)
          rintro e w4 ⟨hgr4, hcase⟩
          have lT := lt_of_block HT2.out
          have lA := lt_of_block HA2.out
          have hT4 := grown_keep hgr4 ((Below.heap_alloc _ _ _ lT).trans HT2.out) (by omega)
          have hR4 := grown_keep hgr4 ((Below.heap_alloc _ _ _ lR).trans HR2.out) (by omega)
          have hF4 := grown_keep hgr4 (heap_alloc_new w2 (.cells #[.int .i64 0, .int .i64 0] 26)) (by omega)
          have hO4 := own_keep (HO2.out.alloc (.cells #[.int .i64 0, .int .i64 0] 26)) hgr4 (by omega)
          have hB4 : Below w.heap.size w w4 := (HB2.out.alloc (by omega) _).grown hgr4 (by simp; omega) (fun k h => by cases h; omega)
          have d0 : w4.cell? ⟨w.heap.size, 0, none⟩ = some (.int .i64 0) := by simp [World.cell?, hR4]
          have d1 : w4.cell? ⟨w.heap.size, 1, none⟩ = some (.int .i64 0) := by simp [World.cell?, hR4]
          have g0 : w4.frozen? ⟨w.heap.size, 0, none⟩ = false := by simp [World.frozen?, hR4]
          have g1 : w4.frozen? ⟨w.heap.size, 1, none⟩ = false := by simp [World.frozen?, hR4]
          have d2 : w4.cell? ⟨w2.heap.size, 0, none⟩ = some (.int .i64 0) := by simp [World.cell?, hF4]
          have d3 : w4.cell? ⟨w2.heap.size, 1, none⟩ = some (.int .i64 0) := by simp [World.cell?, hF4]
          have g2 : w4.frozen? ⟨w2.heap.size, 0, none⟩ = false := by simp [World.frozen?, hF4]
          have g3 : w4.frozen? ⟨w2.heap.size, 1, none⟩ = false := by simp [World.frozen?, hF4]
          have lR4 := lt_of_block hR4
          have lF4 := lt_of_block hF4
          have HT4 := Lib.hid hT4
          have HR4 := Lib.hid hR4
          have HO4 := Lib.hid hO4
          have HB4 := Lib.hid hB4
          clear hT4 hR4 hF4 hO4 hgr4 hB4 hTk c0 c1 f0 f1
          rcases hcase with ⟨c, hc, rfl, hA4⟩ | ⟨kd, m, v, hc, rfl, hA4⟩
          · have hcn : ((c : Int) != 0) = true := by have := fstT_bad hc; simpa using this
            have Hc := Lib.hid hc
            clear hc hA4
            go_wp2
            go_region
            all_goals go_wp2
            refine bodyPost_ret (v := .tuple #[.slice none 0 0, .agg #[.int .i64 c, .int .i64 (k + n)]]) (by simp [results, Tryz.results56, go_sem, d0, d1, lR4]) rfl ?_
            refine ⟨?_, _, _, _, rfl, Or.inr ⟨by have := hsz.out; omega, .bad c (k + n), Hgo.out _ (.bad Hword.out Hne.out H8.out Hc.out), rfl, by simp, rfl⟩⟩
            exact (below_res (((HB4.out.setCell (p := ⟨w2.heap.size, 0, none⟩) (Nat.le_of_lt lR) _).setCell (p := ⟨w2.heap.size, 1, none⟩) (Nat.le_of_lt lR) _)) (by simp [World.setCell]; omega) _ _ _).drew
          · obtain ⟨hm1, hm2⟩ := fstT_tok hc
            have hkm : k + n + m ≤ s.size := by rw [List.length_drop] at hm2; have := hsz.out; omega
            have Hc := Lib.hid hc
            have HA4 := Lib.hid hA4
            obtain ⟨x, hx⟩ : ∃ x, x = bstr ((s.data.toList.drop (k + n)).take m) := ⟨_, rfl⟩
            rw [← hx]
            have Hx := Lib.hid hx
            clear hc hA4 hx hm2
            have hob : (Value.slice p acc.length cap).ownBlock ≠ some w2.heap.size := fun h => by have := (HO2.out.lt _ h).2; omega
            have hO5 : ((((w4.setCell ⟨w2.heap.size, 0, none⟩ (.int .i64 0)).setCell ⟨w2.heap.size, 1, none⟩ (.int .i64 0)).alloc (.cells #[.int .i64 kd, .string x, .int .i64 v, .int .i64 (k + n)] 82)).alloc (.cells #[.int .i64 kd, .string x, .int .i64 v, .int .i64 (k + n)] 82)).ownsRow (w.heap.size + 1 + 1 + 1) 82 4 (.slice p acc.length cap) acc.length (rowOf acc) :=
              ((ownsRow_setCell_other (ownsRow_setCell_other HO4.out (a := ⟨w2.heap.size, 0, none⟩) hob _) (a := ⟨w2.heap.size, 1, none⟩) hob _).alloc _).alloc _
            have HO5 := Lib.hid hO5
            clear hO5
            obtain ⟨i0, hi, hz0, hz1, hz2⟩ := info_parts info36
            go_wp2_with (at_builtin; refine wpList_append_own _ rfl _ _ 47 rfl (w.heap.size + 1 + 1 + 1) 82 i0 (.agg #[.int .i64 0, .string ⟨#[]⟩, .int .i64 0, .int .i64 0]) 4 40 Tryz.underlying47 hi hz0 hz1 hz2 rfl (by decide) _ acc.length (rowOf acc) rfl HO5.out ⟨w4.heap.size + 1, 0, none⟩ 1 1 [.int .i64 kd, .string x, .int .i64 v, .int .i64 (k + n)] rfl rfl ?c1 ?c2 ?c3 ?c4 ?c5 ?_)
            case c1 => exact news_cells _ [.int .i64 kd, .string x, .int .i64 v, .int .i64 (k + n)] 82 _ (by simp [World.setCell])
            case c2 => intro u hu; simp at hu; rcases hu with rfl | rfl | rfl | rfl <;> rfl
            case c3 => unfold maxLen; omega
            case c4 => omega
            case c5 => simp [World.setCell]; omega
            intro v' w1 hown' hgrow _
            have hW5 : ∀ (b : Nat) (o1 o2 : Obj) (x1 x2 : Value), b < w4.heap.size → b ≠ w2.heap.size → ((((w4.setCell ⟨w2.heap.size, 0, none⟩ x1).setCell ⟨w2.heap.size, 1, none⟩ x2).alloc o1).alloc o2).heap[b]? = w4.heap[b]? := fun b o1 o2 x1 x2 h1 h2 => by
              rw [Below.heap_alloc _ _ _ (by simp [World.setCell]; omega), Below.heap_alloc _ _ _ (by simp [World.setCell]; omega), Below.heap_setCell _ _ _ _ h2, Below.heap_setCell _ _ _ _ h2]
            have hold : ∀ (b : Nat) (o : Obj), b < w.heap.size + 1 + 1 + 1 → w4.heap[b]? = some o → w1.heap[b]? = some o := fun b o h1 h2 => by
              have hb4 := lt_of_block h2
              rw [hgrow.block b (by simp [World.setCell]; omega) (fun e => by have := (HO5.out.lt b e.symm).1; omega), hW5 b _ _ _ _ hb4 (by omega)]
              exact h2
            have hbel : Below w.heap.size w w1 := by
              refine Below.grown ?_ hgrow ?_ (fun g h => by have := (HO5.out.lt g h).1; omega)
              · refine Below.alloc (Below.alloc ((HB4.out.setCell (p := ⟨w2.heap.size, 0, none⟩) (Nat.le_of_lt lR) _).setCell (p := ⟨w2.heap.size, 1, none⟩) (Nat.le_of_lt lR) _) ?_ _) ?_ _
                · simp [World.setCell]; omega
                · simp [World.setCell]; omega
              · simp [World.setCell]; omega
            have hInv : ScInv s w w.heap.size v' w1 (k + n + m) (acc ++ [⟨kd, (s.data.toList.drop (k + n)).take m, v, k + n⟩]) :=
              { kle := hkm
                res := hold _ _ (by omega) HR4.out
                txt := hold _ _ (by omega) HT4.out
                at' := hold _ _ (by omega) HA4.out
                own := by
                  rw [rowOf_snoc, List.length_append]
                  show w1.ownsRow _ 82 4 v' (acc.length + 1) (rowOf acc ++ [.int .i64 kd, .string (bstr ((s.data.toList.drop (k + n)).take m)), .int .i64 v, .int .i64 ((k + n : Nat) : Int)])
                  rw [← Hx.out, Int.natCast_add]
                  exact hown'
                below := hbel
                few := by rw [List.length_append]; have := H8.out; simp; omega
                rest := fun r h => Hgo.out r (.tok Hword.out Hne.out H8.out Hc.out (by rw [List.drop_drop]; exact h)) }
            have hlen : lenOf v' = acc.length + 1 := by
              obtain ⟨p', cap', rfl, _⟩ := scInv_len hInv
              simp [lenOf]
            have Hlen := Lib.hid hlen
            have HInv := Lib.hid hInv
            clear hW5 hold hbel hInv hlen hown' hgrow
            go_wp2
            go_roundw
            case rel => exact ⟨_, _, HInv.out⟩
            case measure =>
              have := Hlen.out
              simp only [lenOf] at *
              omega

/-- Scan, whatever the text -/
theorem scan_any (s : ByteArray) (w : World) (hs : s.size ≤ 140737488355328) (hsh : w.ShapedOpen Tryz.prog) (te : TypeId) (pe : Value) (hv : w.cell? ⟨4, 0, none⟩ = some (.iface te pe)) :
    Calls Tryz.prog 56 #[.string s] w (ScPost s.data.toList w) := by
  by_cases h : s.size ≤ 2000
  · exact scanIn s w h hsh te pe hv
  · have hg : 2000 < s.size := by omega
    have hsz := Lib.hid (Lib.size_eq s)
    go_enter Tryz.func56, Tryz.ntmps56
    go_wp2
    refine bodyPost_ret (v := .tuple #[.slice none 0 0, .agg #[.int .i64 2, .int .i64 0]]) (by simp [results, Tryz.results56, go_sem]) rfl ?_
    exact ⟨(Below.refl _ _).alloc (Nat.le_refl _) _, _, _, _, rfl, Or.inl ⟨by have := hsz.out; omega, rfl, rfl, rfl⟩⟩
end Go.Proofs.YtbjacclfhgnffaaGreatDoor.Tk
