/-
  Joined texts of this claim: TrL, TrM, TrU, TrV.
-/
import Derived.Test.YtbjacclfhgnffaaGreatDoorY11
set_option linter.unusedVariables false
set_option linter.unusedSimpArgs false
/-
  The contract of begins, and of Check.
-/
namespace Go.Proofs.YtbjacclfhgnffaaGreatDoor.Tr
open Go.RowKit

theorem firsts_succ (l : List Nd) (k : Nat) : firsts l (k + 1) = firsts l k ++ [St l k] := by
  have h := firsts_get l (Nat.lt_succ_self k)
  show firsts l k ++ [_] = _
  unfold St
  simp only [List.getD, firsts]
  rw [List.getElem?_append_right (by rw [firsts_length]; omega), firsts_length, Nat.sub_self]
  rfl
/-- what begins tells of a tree -/
def BsPost (l : List Nd) (w : World) (e : Ending) (w' : World) : Prop :=
  Below w.heap.size w w' ∧ ∃ (v : Value) (c a : Int), e = .returned (.tuple #[v, .agg #[.int .i64 c, .int .i64 a]]) ∧ CkR l c a ∧
    (c = 0 → ∃ B, v = .slice (some ⟨B, 0, none⟩) l.length l.length ∧ w.heap.size ≤ B ∧ B < w'.heap.size ∧ ∀ j, j < l.length → w'.cell? ⟨B, j, none⟩ = some (.int .i64 (St l j)))

set_option maxHeartbeats 8000000 in
set_option maxRecDepth 100000 in
theorem begins_count (l : List Nd) (p : Option Addr) (cap : Nat) (w : World) (hlen : l.length ≤ 140737488355328) (hbad : l.length < 1 ∨ 600 < l.length) :
    Calls Tryz.prog 41 #[.agg #[.slice p l.length cap]] w (BsPost l w) := by
  have HR : Hid (CkR l 2 0) := Or.inl ⟨hbad, rfl, rfl⟩
  obtain ⟨Q, hQ⟩ : ∃ Q : Ending → World → Prop, Q = BsPost l w := ⟨_, rfl⟩
  have HQ := Lib.hid hQ
  rw [← hQ]
  clear hQ
  generalize l.length = n at *
  by_cases h1 : n < 1
  · clear hbad
    go_enter Tryz.func41, Tryz.ntmps41
    go_wp2
    refine bodyPost_ret (v := .tuple #[.slice none 0 0, .agg #[.int .i64 2, .int .i64 0]]) (by simp [results, Tryz.results41, go_sem]) rfl ?_
    rw [HQ.out]
    exact ⟨((Below.refl _ _).alloc (Nat.le_refl _) _).alloc (by simp) _, _, 2, 0, rfl, HR.out, fun h => by cases h⟩
  · have h2 : 600 < n := by omega
    clear hbad
    go_enter Tryz.func41, Tryz.ntmps41
    go_wp2
    refine bodyPost_ret (v := .tuple #[.slice none 0 0, .agg #[.int .i64 2, .int .i64 0]]) (by simp [results, Tryz.results41, go_sem]) rfl ?_
    rw [HQ.out]
    exact ⟨((Below.refl _ _).alloc (Nat.le_refl _) _).alloc (by simp) _, _, 2, 0, rfl, HR.out, fun h => by cases h⟩

set_option maxHeartbeats 8000000 in
set_option maxRecDepth 100000 in
theorem begins_main (l : List Nd) (b o cap : Nat) (w : World) (h1 : 1 ≤ l.length) (h600 : l.length ≤ 600) (hcap : l.length ≤ cap) (hb : b < w.heap.size) (hN : ∀ j, (h : j < l.length) → NodeAt w b (o + j * 6) l[j]) (hK : ∀ j, (h : j < l.length) → KidsAt w l[j].p l[j].c)
    (hm : ∀ j, (h : j < l.length) → l[j].c.length ≤ 1000000000000000000) :
    Calls Tryz.prog 41 #[.agg #[.slice (some ⟨b, o, none⟩) l.length cap]] w (BsPost l w) := by
  have HN := Lib.hid hN
  have HK := Lib.hid hK
  have HM := Lib.hid hm
  clear hN hK hm
  obtain ⟨Q, hQ⟩ : ∃ Q : Ending → World → Prop, Q = BsPost l w := ⟨_, rfl⟩
  have HQ := Lib.hid hQ
  rw [← hQ]
  clear hQ
  obtain ⟨n, hn⟩ : ∃ n, n = l.length := ⟨_, rfl⟩
  rw [← hn] at h1 h600 hcap ⊢
  have Hn := Lib.hid hn
  clear hn
  have hmk := make_ints n ((w.alloc (.cells #[.slice (some ⟨b, o, none⟩) n cap] 24)).alloc (.cells #[.int .i64 0, .int .i64 0] 26)) (by omega)
  simp only [World.size_alloc] at hmk
  go_enter Tryz.func41, Tryz.ntmps41
  go_wp2
  clear hmk
  go_loopw [24] (fun v wr => ∃ k : Nat, k ≤ n ∧ v = .int .i64 k ∧ Blk wr w.heap.size 24 #[.slice (some ⟨b, o, none⟩) n cap] ∧ Blk wr (w.heap.size + 1) 26 #[.int .i64 0, .int .i64 0] ∧ Blk wr (w.heap.size + 1 + 1) 3 (numC n (firsts l k)) ∧ Hid (∀ j, j < k → codeAt l j = 0) ∧ Below w.heap.size w wr) (fun v _ => n - (intOf v).toNat)
  case atStart =>
    exact ⟨0, Nat.zero_le _, rfl, ((Blk.new _ _ _).alloc _).alloc _, by have := Blk.new (w.alloc (.cells #[.slice (some ⟨b, o, none⟩) n cap] 24)) 26 #[.int .i64 0, .int .i64 0]; rw [World.size_alloc] at this; exact this.alloc _,
      by have := Blk.new ((w.alloc (.cells #[.slice (some ⟨b, o, none⟩) n cap] 24)).alloc (.cells #[.int .i64 0, .int .i64 0] 26)) 3 (numC n []); rw [World.size_alloc, World.size_alloc] at this; exact this, fun j h => by omega,
      (((Below.refl _ _).alloc (Nat.le_refl _) _).alloc (by simp) _).alloc (by simp; omega) _⟩
  case round =>
    obtain ⟨k, hk, rfl, hX, hY, hF, HC, hbel⟩ := hrel
    have x0 : wr.cell? ⟨w.heap.size, 0, none⟩ = some (.slice (some ⟨b, o, none⟩) n cap) := by rw [hX.cell]; rfl
    have HB := Lib.hid hbel
    have lF := hF.lt
    have lY := hY.lt
    have HX := Lib.hid hX
    have HY := Lib.hid hY
    have HF := Lib.hid hF
    clear hbel hX hY hF
    by_cases hlt : k < n
    · have hkl : k < l.length := by have := Hn.out; omega
      have hbg := begin_any l k hkl b o cap (w.heap.size + 1 + 1) n wr (by have := Hn.out; omega) (Nat.lt_of_lt_of_le hb HB.out.size) (fun j hj => (HN.out j hj).below HB.out hb) ((HK.out k hkl).below HB.out) lF (by omega)
        (fun j hj => by rw [HF.out.cell]; have h := numC_get (n := n) (j := j) (xs := firsts l k) (by rw [firsts_length]; exact hj); rw [firsts_get l hj] at h; exact h) (HM.out k hkl)
      have hkc : k + 1 ≤ cap := by omega
      go_wp2_with (go_at_call 83; refine hbg.mono ?_)
      intro e w3 hp
      obtain ⟨hb3, ⟨hc, rfl⟩ | ⟨hc, rfl⟩⟩ := hp
      · have hF3 := HF.out.below hb3 lF
        have HX3 := Lib.hid (HX.out.below hb3 (by omega))
        have HY3 := Lib.hid (HY.out.below hb3 lY)
        have HB3 := Lib.hid (HB.out.trans (hb3.mono (by omega)))
        have lF3 := hF3.lt
        have f2 := hF3.frozen k
        have f0 : w3.cell? ⟨w.heap.size + 1 + 1, k, none⟩ = some (.int .i64 0) := by
          rw [hF3.cell]; exact numC_zero (by rw [firsts_length]; exact Nat.le_refl _) hlt
        have HC2 : Hid (∀ j, j < k + 1 → codeAt l j = 0) := fun j hj => by
          by_cases e : j = k
          · subst e; exact hc
          · exact HC.out j (by omega)
        have hset : Hid (Blk (w3.setCell ⟨w.heap.size + 1 + 1, k, none⟩ (.int .i64 ((St l k : Nat) : Int))) (w.heap.size + 1 + 1) 3 (numC n (firsts l (k + 1)))) := by
          show Blk _ _ _ _
          have h := hF3.set_ (firsts l k).length (.int .i64 ((St l k : Nat) : Int))
          rw [numC_snoc (St l k) (by rw [firsts_length]; exact hlt), firsts_length, ← firsts_succ] at h
          exact h
        clear hF3 hb3 hbg hc HC
        go_wp2
        go_roundw
        case rel => exact ⟨k + 1, by omega, by go_num, HX3.out.far (by simp; omega) _, HY3.out.far (by simp) _, hset.out, HC2, HB3.out.setCell (p := ⟨w.heap.size + 1 + 1, k, none⟩) (by simp; omega) _⟩
        case measure => simp [intOf]; try omega
      · have HY3 := HY.out.below hb3 lY
        have HB3 := Lib.hid (HB.out.trans (hb3.mono (by omega)))
        have y0 : w3.cell? ⟨w.heap.size + 1, 0, none⟩ = some (.int .i64 0) := by rw [HY3.cell]; rfl
        have y1 : w3.cell? ⟨w.heap.size + 1, 1, none⟩ = some (.int .i64 0) := by rw [HY3.cell]; rfl
        have g0 := HY3.frozen 0
        have g1 := HY3.frozen 1
        have HR : Hid (CkR l (codeAt l k) k) := Or.inr ⟨by have := Hn.out; omega, by have := Hn.out; omega, Or.inl ⟨k, hkl, HC.out, hc, rfl, rfl⟩⟩
        have hc0 := Lib.hid hc
        have c1 : (codeAt l k != 0) = true := by simpa using hc
        have lY3 := HY3.lt
        clear hb3 hbg hc HC HY3
        generalize codeAt l k = c at *
        go_wp2
        refine bodyPost_ret (v := .tuple #[.slice none 0 0, .agg #[.int .i64 c, .int .i64 k]]) (by simp [results, Tryz.results41, go_sem, y0, y1]) rfl ?_
        rw [HQ.out]
        exact ⟨(HB3.out.setCell (p := ⟨w.heap.size + 1, 0, none⟩) (by simp) _).setCell (p := ⟨w.heap.size + 1, 1, none⟩) (by simp) _, _, c, k, rfl, HR.out, fun h => absurd h hc0.out⟩
    · have hkn : k = n := by omega
      subst hkn
      have hall : Hid (∀ j, j < l.length → codeAt l j = 0) := fun j hj => HC.out j (by have := Hn.out; omega)
      have f0 : wr.cell? ⟨w.heap.size + 1 + 1, k - 1, none⟩ = some (.int .i64 ((St l (l.length - 1) : Nat) : Int)) := by
        have h := numC_get (n := k) (j := k - 1) (xs := firsts l k) (by rw [firsts_length]; omega)
        rw [firsts_get l (by omega)] at h
        rw [HF.out.cell, ← Hn.out]; exact h
      have e1 : (k : Int) - 1 = ((k - 1 : Nat) : Int) := by omega
      have HF2 : Hid (∀ j, j < l.length → wr.cell? ⟨w.heap.size + 1 + 1, j, none⟩ = some (.int .i64 (St l j))) := fun j hj => by
        have h := numC_get (n := k) (j := j) (xs := firsts l k) (by rw [firsts_length]; have := Hn.out; omega)
        rw [firsts_get l (by have := Hn.out; omega)] at h
        rw [HF.out.cell]; exact h
      have y0 : wr.cell? ⟨w.heap.size + 1, 0, none⟩ = some (.int .i64 0) := by rw [HY.out.cell]; rfl
      have y1 : wr.cell? ⟨w.heap.size + 1, 1, none⟩ = some (.int .i64 0) := by rw [HY.out.cell]; rfl
      have g0 := HY.out.frozen 0
      have g1 := HY.out.frozen 1
      by_cases hs : St l (l.length - 1) = 0
      · have hdp := depth_any l b o cap wr (by have := Hn.out; omega) (by have := Hn.out; omega) (Nat.lt_of_lt_of_le hb HB.out.size) (fun j hj => (HN.out j hj).below HB.out hb) (fun j hj => (HK.out j hj).below HB.out) hall.out
        have Hs := Lib.hid hs
        rw [hs] at f0
        clear hs HF HC
        obtain ⟨d, hd⟩ : ∃ d, d = Dp l (l.length - 1) := ⟨_, rfl⟩
        rw [← hd, ← Hn.out] at hdp
        have Hd := Lib.hid hd
        clear hd
        have lR := HY.out.lt
        by_cases h40 : 40 < d
        · have HR : Hid (CkR l 10 0) := Or.inr ⟨by have := Hn.out; omega, by have := Hn.out; omega, Or.inr ⟨hall.out, Or.inr ⟨Hs.out, Or.inl ⟨by rw [← Hd.out]; exact h40, rfl, rfl⟩⟩⟩⟩
          go_wp2_with (go_at_call 84; refine hdp.mono ?_)
          first | rintro e w3 rfl hb3 | rintro e w3 ⟨rfl, hb3⟩
          have HY3 := HY.out.below hb3 lR
          have HB3 := Lib.hid (HB.out.trans (hb3.mono (by omega)))
          have y0 : w3.cell? ⟨w.heap.size + 1, 0, none⟩ = some (.int .i64 0) := by rw [HY3.cell]; rfl
          have y1 : w3.cell? ⟨w.heap.size + 1, 1, none⟩ = some (.int .i64 0) := by rw [HY3.cell]; rfl
          have g0 := HY3.frozen 0
          have g1 := HY3.frozen 1
          have lY3 := HY3.lt
          clear hb3 hdp HY3
          go_wp2
          refine bodyPost_ret (v := .tuple #[.slice none 0 0, .agg #[.int .i64 10, .int .i64 0]]) (by simp [results, Tryz.results41, go_sem, y0, y1]) rfl ?_
          rw [HQ.out]
          exact ⟨(HB3.out.setCell (p := ⟨w.heap.size + 1, 0, none⟩) (by simp) _).setCell (p := ⟨w.heap.size + 1, 1, none⟩) (by simp) _, _, 10, 0, rfl, HR.out, fun h => by cases h⟩
        · have HR : Hid (CkR l 0 0) := Or.inr ⟨by have := Hn.out; omega, by have := Hn.out; omega, Or.inr ⟨hall.out, Or.inr ⟨Hs.out, Or.inr ⟨by rw [← Hd.out]; omega, rfl, rfl⟩⟩⟩⟩
          go_wp2_with (go_at_call 84; refine hdp.mono ?_)
          first | rintro e w3 rfl hb3 | rintro e w3 ⟨rfl, hb3⟩
          have HY3 := HY.out.below hb3 lR
          have HB3 := Lib.hid (HB.out.trans (hb3.mono (by omega)))
          have y0 : w3.cell? ⟨w.heap.size + 1, 0, none⟩ = some (.int .i64 0) := by rw [HY3.cell]; rfl
          have y1 : w3.cell? ⟨w.heap.size + 1, 1, none⟩ = some (.int .i64 0) := by rw [HY3.cell]; rfl
          have g0 := HY3.frozen 0
          have g1 := HY3.frozen 1
          have lY3 := HY3.lt
          have hF3 : Hid (∀ j, j < l.length → w3.cell? ⟨w.heap.size + 1 + 1, j, none⟩ = some (.int .i64 (St l j))) := fun j hj => (hb3.cell (p := ⟨w.heap.size + 1 + 1, j, none⟩) lF).trans (HF2.out j hj)
          have lF3 : w.heap.size + 1 + 1 < w3.heap.size := Nat.lt_of_lt_of_le lF hb3.size
          clear hb3 hdp HY3
          go_wp2
          refine bodyPost_ret (v := .tuple #[.slice (some ⟨w.heap.size + 1 + 1, 0, none⟩) k k, .agg #[.int .i64 0, .int .i64 0]]) (by simp [results, Tryz.results41, go_sem, y0, y1]) rfl ?_
          rw [HQ.out]
          refine ⟨(HB3.out.setCell (p := ⟨w.heap.size + 1, 0, none⟩) (by simp) _).setCell (p := ⟨w.heap.size + 1, 1, none⟩) (by simp) _, _, 0, 0, rfl, HR.out, fun _ => ⟨w.heap.size + 1 + 1, by rw [← Hn.out], by omega, by simpa using lF3, fun j hj => ?_⟩⟩
          rw [World.cell?_setCell_other _ _ _ _ (by simp), World.cell?_setCell_other _ _ _ _ (by simp)]
          exact hF3.out j hj
      · have HR : Hid (CkR l 5 ((k : Int) - 1)) := Or.inr ⟨by have := Hn.out; omega, by have := Hn.out; omega, Or.inr ⟨hall.out, Or.inl ⟨hs, rfl, by rw [← Hn.out]⟩⟩⟩
        clear HF HC
        generalize St l (l.length - 1) = s at *
        have c1 : ((s : Int) != 0) = true := by simpa using hs
        have c2 : ((s : Int) == 0) = false := by simpa using hs
        clear hs
        rw [e1] at HR
        go_wp2
        refine bodyPost_ret (v := .tuple #[.slice none 0 0, .agg #[.int .i64 5, .int .i64 ((k - 1 : Nat) : Int)]]) (by simp [results, Tryz.results41, go_sem, y0, y1]) rfl ?_
        rw [HQ.out]
        exact ⟨(HB.out.setCell (p := ⟨w.heap.size + 1, 0, none⟩) (by simp) _).setCell (p := ⟨w.heap.size + 1, 1, none⟩) (by simp) _, _, 5, _, rfl, HR.out, fun h => by cases h⟩
end Go.Proofs.YtbjacclfhgnffaaGreatDoor.Tr
/-
  The contract of begins at every tree, and of Check.
-/
namespace Go.Proofs.YtbjacclfhgnffaaGreatDoor.Tr
open Go.RowKit

/-- what is asked of a tree's lengths -/
def Fit (l : List Nd) (cap : Nat) : Prop := l.length ≤ cap ∧ l.length ≤ 140737488355328 ∧ ∀ j, (h : j < l.length) → l[j].c.length ≤ 1000000000000000000
theorem begins_any (l : List Nd) (p : Option Addr) (cap : Nat) (w : World) (hT : Tr w p l) (hf : Fit l cap) : Calls Tryz.prog 41 #[.agg #[.slice p l.length cap]] w (BsPost l w) := by
  by_cases h : l.length < 1 ∨ 600 < l.length
  · exact begins_count l p cap w hf.2.1 h
  · obtain ⟨b, o, rfl, hb, hN⟩ := hT.1 (by omega)
    exact begins_main l b o cap w (by omega) (by omega) hf.1 hb hN hT.2 hf.2.2

/-- what Check tells of a tree -/
def CkPost (l : List Nd) (w : World) (e : Ending) (w' : World) : Prop :=
  Below w.heap.size w w' ∧ ∃ c a : Int, e = .returned (.agg #[.int .i64 c, .int .i64 a]) ∧ CkR l c a

theorem box_one {w w' : World} {x0 : Value} {t : TypeId} (hb : Below (w.alloc (.cells #[x0] t)).heap.size (w.alloc (.cells #[x0] t)) w') : Blk w' w.heap.size t #[x0] :=
  (Blk.new w t #[x0]).below hb (by simp)

theorem fault_set {w : World} {g : Nat} {x0 x1 : Value} (h : Blk w g 26 #[x0, x1]) (c a : Value) (o : Obj) : Blk (((w.setCell ⟨g, 0, none⟩ c).setCell ⟨g, 1, none⟩ a).alloc o) g 26 #[c, a] := by
  have h1 := ((h.set_ 0 c).set_ 1 a).alloc o
  simpa using h1

set_option maxHeartbeats 4000000 in
set_option maxRecDepth 100000 in
theorem check_any (l : List Nd) (p : Option Addr) (cap : Nat) (w : World) (hT : Tr w p l) (hf : Fit l cap) : Calls Tryz.prog 18 #[.agg #[.slice p l.length cap]] w (CkPost l w) := by
  have h1 : Below w.heap.size w ((w.alloc (.cells #[.slice p l.length cap] 24)).alloc (.cells #[.int .i64 0, .int .i64 0] 26)) := ((Below.refl _ _).alloc (Nat.le_refl _) _).alloc (by simp) _
  have hbg := begins_any l p cap ((w.alloc (.cells #[.slice p l.length cap] 24)).alloc (.cells #[.int .i64 0, .int .i64 0] 26)) (hT.below h1) hf
  have H1 := Lib.hid h1
  clear h1
  obtain ⟨Q, hQ⟩ : ∃ Q : Ending → World → Prop, Q = CkPost l w := ⟨_, rfl⟩
  have HQ := Lib.hid hQ
  rw [← hQ]
  clear hQ
  generalize l.length = n at *
  go_enter Tryz.func18, Tryz.ntmps18
  go_wp2_with (go_at_call 41; refine hbg.mono ?_)
  intro e w3 hp
  obtain ⟨hb3, v, c, a, rfl, hr, -⟩ := hp
  have HR := Lib.hid hr
  have hY : Blk w3 (w.heap.size + 1) 26 #[.int .i64 0, .int .i64 0] := by
    have h := Blk.new (w.alloc (.cells #[.slice p n cap] 24)) 26 #[.int .i64 0, .int .i64 0]
    rw [World.size_alloc] at h
    exact h.below hb3 (by simp)
  have HB3 := Lib.hid (H1.out.trans (hb3.mono (by simp; omega)))
  have y0 : w3.cell? ⟨w.heap.size + 1, 0, none⟩ = some (.int .i64 0) := by rw [hY.cell]; rfl
  have y1 : w3.cell? ⟨w.heap.size + 1, 1, none⟩ = some (.int .i64 0) := by rw [hY.cell]; rfl
  have g0 := hY.frozen 0
  have g1 := hY.frozen 1
  have lY := hY.lt
  have hZ := fault_set hY (.int .i64 c) (.int .i64 a) (.cells #[.int .i64 c, .int .i64 a] 26)
  have z0 := hZ.cell 0
  have z1 := hZ.cell 1
  have Z0 := Lib.hid z0
  have Z1 := Lib.hid z1
  clear hr hb3 hbg hY hZ z0 z1
  go_wp2
  have z0 := Z0.out
  have z1 := Z1.out
  refine bodyPost_ret (v := .agg #[.int .i64 c, .int .i64 a]) (by simp [results, Tryz.results18, go_sem, z0, z1]) rfl ?_
  rw [HQ.out]
  exact ⟨((HB3.out.setCell (p := ⟨w.heap.size + 1, 0, none⟩) (by simp) _).setCell (p := ⟨w.heap.size + 1, 1, none⟩) (by simp) _).alloc (by simp; omega) _, c, a, rfl, HR.out⟩
end Go.Proofs.YtbjacclfhgnffaaGreatDoor.Tr
/-
  The contracts of comparisons: of lists of numbers, of nodes.
-/
namespace Go.Proofs.YtbjacclfhgnffaaGreatDoor.Tr
open Go.RowKit

theorem list_ne {c c' : List Int} {k : Nat} (h : k < c.length) (h' : k < c'.length) (hne : c[k] ≠ c'[k]) : decide (c = c') = false := decide_eq_false (fun e => by subst e; exact hne rfl)
theorem list_len {c c' : List Int} (h : c.length ≠ c'.length) : decide (c = c') = false := decide_eq_false (fun e => h (by rw [e]))
theorem list_all {c c' : List Int} (h : c.length = c'.length) (ha : ∀ j, (h1 : j < c.length) → (h2 : j < c'.length) → c[j] = c'[j]) : decide (c = c') = true := decide_eq_true (List.ext_getElem h ha)

set_option maxHeartbeats 4000000 in
set_option maxRecDepth 100000 in
theorem eqints_any (c c' : List Int) (p p' : Option Addr) (cap cap' : Nat) (w : World) (hK : KidsAt w p c) (hK' : KidsAt w p' c') (hm : c.length ≤ 1000000000000000000) (hm' : c'.length ≤ 1000000000000000000) :
    Calls Tryz.prog 85 #[.slice p c.length cap, .slice p' c'.length cap'] w fun e w' => e = .returned (.bool (decide (c = c'))) ∧ Below w.heap.size w w' := by
  have HK := Lib.hid hK
  have HK' := Lib.hid hK'
  clear hK hK'
  obtain ⟨r, hr⟩ : ∃ r, r = decide (c = c') := ⟨_, rfl⟩
  rw [← hr]
  have HR := Lib.hid hr
  clear hr
  obtain ⟨n, hn⟩ : ∃ n, n = c.length := ⟨_, rfl⟩
  obtain ⟨n', hn'⟩ : ∃ n, n = c'.length := ⟨_, rfl⟩
  rw [← hn] at hm ⊢
  rw [← hn'] at hm' ⊢
  have Hn := Lib.hid hn
  have Hn' := Lib.hid hn'
  clear hn hn'
  by_cases hl : n = n'
  · subst hl
    go_enter Tryz.func85, Tryz.ntmps85
    go_wp2
    go_loopw [13] (fun v wr => ∃ k : Nat, k ≤ n ∧ v = .int .i64 k ∧ Hid (∀ j, (h1 : j < c.length) → (h2 : j < c'.length) → j < k → c[j] = c'[j]) ∧ Below w.heap.size w wr) (fun v _ => n - (intOf v).toNat)
    case atStart => exact ⟨0, Nat.zero_le _, rfl, fun j _ _ h => by omega, Below.refl _ _⟩
    case round =>
      obtain ⟨k, hk, rfl, HE, hb⟩ := hrel
      have HB := Lib.hid hb
      clear hb
      by_cases hlt : k < n
      · have h1 : k < c.length := by have := Hn.out; omega
        have h2 : k < c'.length := by have := Hn'.out; omega
        obtain ⟨b, o, rfl, hbl, hc⟩ := HK.out (by omega)
        obtain ⟨b', o', rfl, hbl', hc'⟩ := HK'.out (by omega)
        have e0 := (HB.out.cell (p := ⟨b, o + k, none⟩) hbl).trans (hc k h1)
        have e1 := (HB.out.cell (p := ⟨b', o' + k, none⟩) hbl').trans (hc' k h2)
        have hki : (k : Int) < (n : Int) := by omega
        have hF : c[k] ≠ c'[k] → Hid (r = false) := fun h => HR.out.trans (list_ne h1 h2 h)
        have hN : c[k] = c'[k] → Hid (∀ j, (h1 : j < c.length) → (h2 : j < c'.length) → j < k + 1 → c[j] = c'[j]) := fun h j g1 g2 hj => by
          by_cases e : j = k
          · subst e; exact h
          · exact HE.out j g1 g2 (by omega)
        clear hc hc'
        generalize c[k] = x at *
        generalize c'[k] = y at *
        by_cases hxy : x = y
        · have HN := hN hxy
          subst hxy
          clear hF hN
          have q1 : (x != x) = false := by simp
          have q2 : (x == x) = true := by simp
          go_wp2
          go_quiet (fail)
          go_wp2
          go_roundw
          case rel => exact ⟨k + 1, by omega, by go_num, HN, below_drewN HB.out _⟩
          case measure => simp [intOf]; try omega
        · have HF := hF hxy
          have q1 : (x != y) = true := by simpa using hxy
          have q2 : (x == y) = false := by simpa using hxy
          clear hF hN hxy
          go_wp2
          go_quiet (fail)
          go_wp2
          go_ret
          exact ⟨by rw [HF.out]; rfl, below_drewN HB.out _⟩
      · have HT : Hid (r = true) := HR.out.trans (list_all (by rw [← Hn.out, ← Hn'.out]) fun j g1 g2 => HE.out j g1 g2 (by have := Hn.out; omega))
        go_wp2
        go_ret
        exact ⟨by rw [HT.out]; rfl, HB.out⟩
  · have HF : Hid (r = false) := HR.out.trans (list_len (by rw [← Hn.out, ← Hn'.out]; exact hl))
    have q1 : ((n : Int) != (n' : Int)) = true := by rw [bne_iff_ne]; omega
    have q2 : ((n : Int) == (n' : Int)) = false := by rw [beq_eq_false_iff_ne]; omega
    go_enter Tryz.func85, Tryz.ntmps85
    go_wp2
    go_ret
    exact ⟨by rw [HF.out]; rfl, Below.refl _ _⟩

set_option maxHeartbeats 4000000 in
set_option maxRecDepth 100000 in
theorem rints_any (c c' : List Int) (p p' : Option Addr) (cap cap' : Nat) (w : World) (hK : KidsAt w p c) (hK' : KidsAt w p' c') (hm : c.length ≤ 1000000000000000000) (hm' : c'.length ≤ 1000000000000000000) :
    Calls Tryz.prog 75 #[.slice p c.length cap, .slice p' c'.length cap'] w fun e w' => e = .returned (.bool (decide (c = c'))) ∧ Below w.heap.size w w' := by
  have HK := Lib.hid hK
  have HK' := Lib.hid hK'
  clear hK hK'
  obtain ⟨r, hr⟩ : ∃ r, r = decide (c = c') := ⟨_, rfl⟩
  rw [← hr]
  have HR := Lib.hid hr
  clear hr
  obtain ⟨n, hn⟩ : ∃ n, n = c.length := ⟨_, rfl⟩
  obtain ⟨n', hn'⟩ : ∃ n, n = c'.length := ⟨_, rfl⟩
  rw [← hn] at hm ⊢
  rw [← hn'] at hm' ⊢
  have Hn := Lib.hid hn
  have Hn' := Lib.hid hn'
  clear hn hn'
  by_cases hl : n = n'
  · subst hl
    go_enter Tryz.func75, Tryz.ntmps75
    go_wp2
    go_loopw [5] (fun v wr => ∃ k : Nat, k ≤ n ∧ v = .int .i64 k ∧ Hid (∀ j, (h1 : j < c.length) → (h2 : j < c'.length) → j < k → c[j] = c'[j]) ∧ Below w.heap.size w wr) (fun v _ => n - (intOf v).toNat)
    case atStart => exact ⟨0, Nat.zero_le _, rfl, fun j _ _ h => by omega, Below.refl _ _⟩
    case round =>
      obtain ⟨k, hk, rfl, HE, hb⟩ := hrel
      have HB := Lib.hid hb
      clear hb
      by_cases hlt : k < n
      · have h1 : k < c.length := by have := Hn.out; omega
        have h2 : k < c'.length := by have := Hn'.out; omega
        obtain ⟨b, o, rfl, hbl, hc⟩ := HK.out (by omega)
        obtain ⟨b', o', rfl, hbl', hc'⟩ := HK'.out (by omega)
        have e0 := (HB.out.cell (p := ⟨b, o + k, none⟩) hbl).trans (hc k h1)
        have e1 := (HB.out.cell (p := ⟨b', o' + k, none⟩) hbl').trans (hc' k h2)
        have hki : (k : Int) < (n : Int) := by omega
        have hF : c[k] ≠ c'[k] → Hid (r = false) := fun h => HR.out.trans (list_ne h1 h2 h)
        have hN : c[k] = c'[k] → Hid (∀ j, (h1 : j < c.length) → (h2 : j < c'.length) → j < k + 1 → c[j] = c'[j]) := fun h j g1 g2 hj => by
          by_cases e : j = k
          · subst e; exact h
          · exact HE.out j g1 g2 (by omega)
        clear hc hc'
        generalize c[k] = x at *
        generalize c'[k] = y at *
        by_cases hxy : x = y
        · have HN := hN hxy
          subst hxy
          clear hF hN
          have q1 : (x != x) = false := by simp
          have q2 : (x == x) = true := by simp
          go_wp2
          go_quiet (fail)
          go_wp2
          go_roundw
          case rel => exact ⟨k + 1, by omega, by go_num, HN, below_drewN HB.out _⟩
          case measure => simp [intOf]; try omega
        · have HF := hF hxy
          have q1 : (x != y) = true := by simpa using hxy
          have q2 : (x == y) = false := by simpa using hxy
          clear hF hN hxy
          go_wp2
          go_quiet (fail)
          go_wp2
          go_ret
          exact ⟨by rw [HF.out]; rfl, below_drewN HB.out _⟩
      · have HT : Hid (r = true) := HR.out.trans (list_all (by rw [← Hn.out, ← Hn'.out]) fun j g1 g2 => HE.out j g1 g2 (by have := Hn.out; omega))
        go_wp2
        go_ret
        exact ⟨by rw [HT.out]; rfl, HB.out⟩
  · have HF : Hid (r = false) := HR.out.trans (list_len (by rw [← Hn.out, ← Hn'.out]; exact hl))
    have q1 : ((n : Int) != (n' : Int)) = true := by rw [bne_iff_ne]; omega
    have q2 : ((n : Int) == (n' : Int)) = false := by rw [beq_eq_false_iff_ne]; omega
    go_enter Tryz.func75, Tryz.ntmps75
    go_wp2
    go_ret
    exact ⟨by rw [HF.out]; rfl, Below.refl _ _⟩


def sameV (k k' : Int) (t t' : ByteArray) (n n' z z' : Int) (c c' : List Int) : Bool := decide (k = k' ∧ t.toList = t'.toList ∧ n = n' ∧ z = z' ∧ c = c')
def sameB (x y : Nd) : Bool := sameV x.k y.k x.t y.t x.n y.n x.z y.z x.c y.c

set_option maxHeartbeats 4000000 in
set_option maxRecDepth 100000 in
theorem same_any (x y : Nd) (w : World) (hK : KidsAt w x.p x.c) (hK' : KidsAt w y.p y.c) (hm : x.c.length ≤ 1000000000000000000) (hm' : y.c.length ≤ 1000000000000000000) :
    Calls Tryz.prog 44 #[.agg #[.int .i64 x.k, .string x.t, .int .i64 x.n, .int .i64 x.z, .slice x.p x.c.length x.cap, .int .i64 x.a], .agg #[.int .i64 y.k, .string y.t, .int .i64 y.n, .int .i64 y.z, .slice y.p y.c.length y.cap, .int .i64 y.a]] w
      fun e w' => e = .returned (.bool (sameB x y)) ∧ Below w.heap.size w w' := by
  obtain ⟨k, t, n, z, p, cap, c, a⟩ := x
  obtain ⟨k', t', n', z', p', cap', c', a'⟩ := y
  simp only at hK hK' hm hm' ⊢
  have hW : Below w.heap.size w ((w.alloc (.cells #[.int .i64 k, .string t, .int .i64 n, .int .i64 z, .slice p c.length cap, .int .i64 a] 36)).alloc (.cells #[.int .i64 k', .string t', .int .i64 n', .int .i64 z', .slice p' c'.length cap', .int .i64 a'] 36)) := ((Below.refl _ _).alloc (Nat.le_refl _) _).alloc (by simp) _
  have hE := eqints_any c c' p p' cap cap' _ (hK.below hW) (hK'.below hW) hm hm'
  have HW := Lib.hid hW
  obtain ⟨r, hr⟩ : ∃ r, r = sameV k k' t t' n n' z z' c c' := ⟨_, rfl⟩
  show Calls _ _ _ _ fun e w' => e = .returned (.bool (sameV k k' t t' n n' z z' c c')) ∧ Below w.heap.size w w'
  rw [← hr]
  unfold sameV at hr
  clear hW hK hK' hm hm'
  by_cases q1 : k = k'
  · by_cases q2 : t.toList = t'.toList
    · by_cases q3 : n = n'
      · by_cases q4 : z = z'
        · have HR : Hid (r = decide (c = c')) := by show _ = _; rw [hr]; simp [q1, q2, q3, q4]
          have b1 : (k == k') = true := by simpa using q1
          have b2 : (t.toList == t'.toList) = true := by simpa using q2
          have b3 : (n == n') = true := by simpa using q3
          have b4 : (z == z') = true := by simpa using q4
          clear hr q1 q2 q3 q4
          generalize decide (c = c') = d at *
          go_enter Tryz.func44, Tryz.ntmps44
          go_wp2_with (go_at_call 85; refine hE.mono ?_)
          first | rintro e w3 rfl hb3 | rintro e w3 ⟨rfl, hb3⟩
          have HB3 := Lib.hid (HW.out.trans (hb3.mono (by simp; omega)))
          clear hb3 hE
          go_wp2
          go_ret
          exact ⟨by rw [HR.out]; rfl, HB3.out⟩
        · have HR : Hid (r = false) := by show _ = _; rw [hr]; simp [q4]
          have b1 : (k == k') = true := by simpa using q1
          have b2 : (t.toList == t'.toList) = true := by simpa using q2
          have b3 : (n == n') = true := by simpa using q3
          have b4 : (z == z') = false := by simpa using q4
          clear hr q1 q2 q3 q4 hE
          go_enter Tryz.func44, Tryz.ntmps44
          go_wp2
          go_ret
          exact ⟨by rw [HR.out]; rfl, HW.out⟩
      · have HR : Hid (r = false) := by show _ = _; rw [hr]; simp [q3]
        have b1 : (k == k') = true := by simpa using q1
        have b2 : (t.toList == t'.toList) = true := by simpa using q2
        have b3 : (n == n') = false := by simpa using q3
        clear hr q1 q2 q3 hE
        go_enter Tryz.func44, Tryz.ntmps44
        go_wp2
        go_ret
        exact ⟨by rw [HR.out]; rfl, HW.out⟩
    · have HR : Hid (r = false) := by show _ = _; rw [hr]; simp [q2]
      have b1 : (k == k') = true := by simpa using q1
      have b2 : (t.toList == t'.toList) = false := by simpa using q2
      clear hr q1 q2 hE
      go_enter Tryz.func44, Tryz.ntmps44
      go_wp2
      go_ret
      exact ⟨by rw [HR.out]; rfl, HW.out⟩
  · have HR : Hid (r = false) := by show _ = _; rw [hr]; simp [q1]
    have b1 : (k == k') = false := by simpa using q1
    clear hr q1 hE
    go_enter Tryz.func44, Tryz.ntmps44
    go_wp2
    go_ret
    exact ⟨by rw [HR.out]; rfl, HW.out⟩

/-- two nodes that are told to be the same by the document's comparison -/
def Like (x y : Nd) : Prop := x.k = y.k ∧ x.t = y.t ∧ x.n = y.n ∧ x.z = y.z ∧ x.c = y.c ∧ x.a = y.a
set_option maxHeartbeats 4000000 in
set_option maxRecDepth 100000 in
theorem nodes_eq (x y : Nd) (w : World) (hL : Like x y) (hK : KidsAt w x.p x.c) (hK' : KidsAt w y.p y.c) (hm : x.c.length ≤ 1000000000000000000) :
    Calls Tryz.prog 36 #[.agg #[.int .i64 x.k, .string x.t, .int .i64 x.n, .int .i64 x.z, .slice x.p x.c.length x.cap, .int .i64 x.a], .agg #[.int .i64 y.k, .string y.t, .int .i64 y.n, .int .i64 y.z, .slice y.p y.c.length y.cap, .int .i64 y.a]] w
      fun e w' => e = .returned (.bool true) ∧ Below w.heap.size w w' := by
  obtain ⟨k, t, n, z, p, cap, c, a⟩ := x
  obtain ⟨k', t', n', z', p', cap', c', a'⟩ := y
  obtain ⟨l1, l2, l3, l4, l5, l6⟩ := hL
  simp only at l1 l2 l3 l4 l5 l6 hK hK' hm ⊢
  subst l1; subst l2; subst l3; subst l4; subst l5; subst l6
  have hW : Below w.heap.size w ((w.alloc (.cells #[.int .i64 k, .string t, .int .i64 n, .int .i64 z, .slice p c.length cap, .int .i64 a] 36)).alloc (.cells #[.int .i64 k, .string t, .int .i64 n, .int .i64 z, .slice p' c.length cap', .int .i64 a] 36)) := ((Below.refl _ _).alloc (Nat.le_refl _) _).alloc (by simp) _
  have hE := rints_any c c p p' cap cap' _ (hK.below hW) (hK'.below hW) hm hm
  rw [show decide (c = c) = true from decide_eq_true rfl] at hE
  have HW := Lib.hid hW
  clear hW hK hK' hm
  have b1 : (k == k) = true := by simp
  have b2 : (t.toList == t.toList) = true := by simp
  go_enter Tryz.func36, Tryz.ntmps36
  go_wp2_with (go_at_call 75; refine hE.mono ?_)
  first | rintro e w3 rfl hb3 | rintro e w3 ⟨rfl, hb3⟩
  have HB3 := Lib.hid (HW.out.trans (hb3.mono (by simp; omega)))
  clear hb3 hE
  go_wp2
  go_ret
  exact ⟨rfl, HB3.out⟩
end Go.Proofs.YtbjacclfhgnffaaGreatDoor.Tr
/-
  The contracts of the comparison of lists of nodes, and of Same.
-/
namespace Go.Proofs.YtbjacclfhgnffaaGreatDoor.Tr
open Go.RowKit

def sameL (l l' : List Nd) : Bool := decide (l.length = l'.length ∧ ∀ j, (h : j < l.length) → (h' : j < l'.length) → sameB l[j] l'[j] = true)
theorem sameL_len {l l' : List Nd} (h : l.length ≠ l'.length) : sameL l l' = false := decide_eq_false (fun e => h e.1)
theorem sameL_at {l l' : List Nd} {k : Nat} (h : k < l.length) (h' : k < l'.length) (hne : sameB l[k] l'[k] = false) : sameL l l' = false := decide_eq_false (fun e => by rw [e.2 k h h'] at hne; cases hne)
theorem sameL_all {l l' : List Nd} (h : l.length = l'.length) (ha : ∀ j, (h1 : j < l.length) → (h2 : j < l'.length) → sameB l[j] l'[j] = true) : sameL l l' = true := decide_eq_true ⟨h, ha⟩

set_option maxHeartbeats 4000000 in
set_option maxRecDepth 100000 in
theorem eqfunc_any (l l' : List Nd) (p p' : Option Addr) (cap cap' : Nat) (w : World) (hT : Tr w p l) (hT' : Tr w p' l') (hf : Fit l cap) (hf' : Fit l' cap') :
    Calls Tryz.prog 43 #[.slice p l.length cap, .slice p' l'.length cap', .func (.func 44) #[] #[]] w fun e w' => e = .returned (.bool (sameL l l')) ∧ Below w.heap.size w w' := by
  have HT := Lib.hid hT
  have HT' := Lib.hid hT'
  have HF := Lib.hid hf
  have HF' := Lib.hid hf'
  have hn47 := hf.2.1
  have hn47' := hf'.2.1
  clear hT hT' hf hf'
  obtain ⟨r, hr⟩ : ∃ r, r = sameL l l' := ⟨_, rfl⟩
  rw [← hr]
  have HR := Lib.hid hr
  clear hr
  obtain ⟨n, hn⟩ : ∃ n, n = l.length := ⟨_, rfl⟩
  obtain ⟨n', hn'⟩ : ∃ n, n = l'.length := ⟨_, rfl⟩
  rw [← hn] at hn47 ⊢
  rw [← hn'] at hn47' ⊢
  have Hn := Lib.hid hn
  have Hn' := Lib.hid hn'
  clear hn hn'
  by_cases hl : n = n'
  · subst hl
    go_enter Tryz.func43, Tryz.ntmps43
    go_wp2
    go_loopw [17] (fun v wr => ∃ k : Nat, k ≤ n ∧ v = .int .i64 k ∧ Hid (∀ j, (h1 : j < l.length) → (h2 : j < l'.length) → j < k → sameB l[j] l'[j] = true) ∧ Below w.heap.size w wr) (fun v _ => n - (intOf v).toNat)
    case atStart => exact ⟨0, Nat.zero_le _, rfl, fun j _ _ h => by omega, Below.refl _ _⟩
    case round =>
      obtain ⟨k, hk, rfl, HE, hb⟩ := hrel
      have HB := Lib.hid hb
      clear hb
      by_cases hlt : k < n
      · have h1 : k < l.length := by have := Hn.out; omega
        have h2 : k < l'.length := by have := Hn'.out; omega
        obtain ⟨b, o, rfl, hbl, hc⟩ := HT.out.1 (by omega)
        obtain ⟨b', o', rfl, hbl', hc'⟩ := HT'.out.1 (by omega)
        obtain ⟨x0, x1, x2, x3, x4, x5⟩ := (hc k h1).below HB.out hbl
        have lb' : b' < wr.heap.size := Nat.lt_of_lt_of_le hbl' HB.out.size
        have hBa : Below w.heap.size w (wr.alloc (.cells #[.int .i64 l[k].k, .string l[k].t, .int .i64 l[k].n, .int .i64 l[k].z, .slice l[k].p l[k].c.length l[k].cap, .int .i64 l[k].a] 36)) := HB.out.alloc HB.out.size _
        obtain ⟨y0, y1, y2, y3, y4, y5⟩ := (hc' k h2).below hBa hbl'
        have hBb : Below w.heap.size w ((wr.alloc (.cells #[.int .i64 l[k].k, .string l[k].t, .int .i64 l[k].n, .int .i64 l[k].z, .slice l[k].p l[k].c.length l[k].cap, .int .i64 l[k].a] 36)).alloc (.cells #[.int .i64 l'[k].k, .string l'[k].t, .int .i64 l'[k].n, .int .i64 l'[k].z, .slice l'[k].p l'[k].c.length l'[k].cap, .int .i64 l'[k].a] 36)) := hBa.alloc hBa.size _
        have hS := same_any l[k] l'[k] _ ((HT.out.2 k h1).below hBb) ((HT'.out.2 k h2).below hBb) (HF.out.2.2 k h1) (HF'.out.2.2 k h2)
        have hF : sameB l[k] l'[k] = false → Hid (r = false) := fun h => HR.out.trans (sameL_at h1 h2 h)
        have hN : sameB l[k] l'[k] = true → Hid (∀ j, (h1 : j < l.length) → (h2 : j < l'.length) → j < k + 1 → sameB l[j] l'[j] = true) := fun h j g1 g2 hj => by
          by_cases e : j = k
          · subst e; exact h
          · exact HE.out j g1 g2 (by omega)
        have HBb := Lib.hid hBb
        clear hc hc' hBa hBb
        generalize l[k] = x at *
        generalize l'[k] = y at *
        obtain ⟨xk, xt, xn, xz, xp, xcap, xc, xa⟩ := x
        obtain ⟨yk, yt, yn, yz, yp, ycap, yc, ya⟩ := y
        simp only at x0 x1 x2 x3 x4 x5 y0 y1 y2 y3 y4 y5 hS HBb
        cases hs : sameB ⟨xk, xt, xn, xz, xp, xcap, xc, xa⟩ ⟨yk, yt, yn, yz, yp, ycap, yc, ya⟩ with
        | true =>
          have HN := hN hs
          rw [hs] at hS
          clear hF hN hs
          go_wp2_with (go_at_call 44; refine hS.mono ?_)
          first | rintro e w3 rfl hb3 | rintro e w3 ⟨rfl, hb3⟩
          have HB3 := Lib.hid (HBb.out.trans (hb3.mono HBb.out.size))
          clear hb3 hS
          go_wp2
          go_roundw
          case rel => exact ⟨k + 1, by omega, by go_num, HN, HB3.out⟩
          case measure => simp [intOf]; try omega
        | false =>
          have HF0 := hF hs
          rw [hs] at hS
          clear hF hN hs
          go_wp2_with (go_at_call 44; refine hS.mono ?_)
          first | rintro e w3 rfl hb3 | rintro e w3 ⟨rfl, hb3⟩
          have HB3 := Lib.hid (HBb.out.trans (hb3.mono HBb.out.size))
          clear hb3 hS
          go_wp2
          go_ret
          exact ⟨by rw [HF0.out]; rfl, HB3.out⟩
      · have HT0 : Hid (r = true) := HR.out.trans (sameL_all (by rw [← Hn.out, ← Hn'.out]) fun j g1 g2 => HE.out j g1 g2 (by have := Hn.out; omega))
        go_wp2
        go_ret
        exact ⟨by rw [HT0.out]; rfl, HB.out⟩
  · have HF0 : Hid (r = false) := HR.out.trans (sameL_len (by rw [← Hn.out, ← Hn'.out]; exact hl))
    have q1 : ((n : Int) != (n' : Int)) = true := by rw [bne_iff_ne]; omega
    have q2 : ((n : Int) == (n' : Int)) = false := by rw [beq_eq_false_iff_ne]; omega
    go_enter Tryz.func43, Tryz.ntmps43
    go_wp2
    go_ret
    exact ⟨by rw [HF0.out]; rfl, Below.refl _ _⟩
end Go.Proofs.YtbjacclfhgnffaaGreatDoor.Tr
