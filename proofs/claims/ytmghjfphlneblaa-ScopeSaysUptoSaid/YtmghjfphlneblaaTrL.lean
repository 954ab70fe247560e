/-
  The contract of begins, and of Check.
-/
import Derived.Test.YtmghjfphlneblaaTrK
namespace Go.Proofs.Ytmghjfphlneblaa.Tr
open Go.RowKit

theorem firsts_succ (l : List Nd) (k : Nat) : firsts l (k + 1) = firsts l k ++ [St l k] := by
  have h := firsts_get l (Nat.lt_succ_self k)
  show firsts l k ++ [_] = _
  unfold St
  simp only [List.getD, firsts]
  rw [List.getElem?_append_right (by rw [firsts_length]; omega), firsts_length, Nat.sub_self]
  rfl
/-- what begins tells of a tree -/
def BsPost (l : List Nd) (w : World) (e : Ending) (w' : World) : Prop :=
  Below w.heap.size w w' ∧ ∃ (v : Value) (c a : Int), e = .returned (.tuple #[v, .agg #[.int .i64 c, .int .i64 a]]) ∧ CkR l c a ∧
    (c = 0 → ∃ B, v = .slice (some ⟨B, 0, none⟩) l.length l.length ∧ w.heap.size ≤ B ∧ B < w'.heap.size ∧ ∀ j, j < l.length → w'.cell? ⟨B, j, none⟩ = some (.int .i64 (St l j)))

set_option maxHeartbeats 8000000 in
set_option maxRecDepth 100000 in
theorem begins_count (l : List Nd) (p : Option Addr) (cap : Nat) (w : World) (hlen : l.length ≤ 140737488355328) (hbad : l.length < 1 ∨ 600 < l.length) :
    Calls Try.prog 15 #[.agg #[.slice p l.length cap]] w (BsPost l w) := by
  have HR : Hid (CkR l 2 0) := Or.inl ⟨hbad, rfl, rfl⟩
  obtain ⟨Q, hQ⟩ : ∃ Q : Ending → World → Prop, Q = BsPost l w := ⟨_, rfl⟩
  have HQ := Lib.hid hQ
  rw [← hQ]
  clear hQ
  generalize l.length = n at *
  by_cases h1 : n < 1
  · clear hbad
    go_enter Try.func15, Try.ntmps15
    go_wp2
    refine bodyPost_ret (v := .tuple #[.slice none 0 0, .agg #[.int .i64 2, .int .i64 0]]) (by simp [results, Try.results15, go_sem]) rfl ?_
    rw [HQ.out]
    exact ⟨((Below.refl _ _).alloc (Nat.le_refl _) _).alloc (by simp) _, _, 2, 0, rfl, HR.out, fun h => by cases h⟩
  · have h2 : 600 < n := by omega
    clear hbad
    go_enter Try.func15, Try.ntmps15
    go_wp2
    refine bodyPost_ret (v := .tuple #[.slice none 0 0, .agg #[.int .i64 2, .int .i64 0]]) (by simp [results, Try.results15, go_sem]) rfl ?_
    rw [HQ.out]
    exact ⟨((Below.refl _ _).alloc (Nat.le_refl _) _).alloc (by simp) _, _, 2, 0, rfl, HR.out, fun h => by cases h⟩

set_option maxHeartbeats 8000000 in
set_option maxRecDepth 100000 in
theorem begins_main (l : List Nd) (b o cap : Nat) (w : World) (h1 : 1 ≤ l.length) (h600 : l.length ≤ 600) (hcap : l.length ≤ cap) (hb : b < w.heap.size) (hN : ∀ j, (h : j < l.length) → NodeAt w b (o + j * 6) l[j]) (hK : ∀ j, (h : j < l.length) → KidsAt w l[j].p l[j].c)
    (hm : ∀ j, (h : j < l.length) → l[j].c.length ≤ 1000000000000000000) :
    Calls Try.prog 15 #[.agg #[.slice (some ⟨b, o, none⟩) l.length cap]] w (BsPost l w) := by
  have HN := Lib.hid hN
  have HK := Lib.hid hK
  have HM := Lib.hid hm
  clear hN hK hm
  obtain ⟨Q, hQ⟩ : ∃ Q : Ending → World → Prop, Q = BsPost l w := ⟨_, rfl⟩
  have HQ := Lib.hid hQ
  rw [← hQ]
  clear hQ
  obtain ⟨n, hn⟩ : ∃ n, n = l.length := ⟨_, rfl⟩
  rw [← hn] at h1 h600 hcap ⊢
  have Hn := Lib.hid hn
  clear hn
  have hmk := make_ints n ((w.alloc (.cells #[.slice (some ⟨b, o, none⟩) n cap] 24)).alloc (.cells #[.int .i64 0, .int .i64 0] 27)) (by omega)
  simp only [World.size_alloc] at hmk
  go_enter Try.func15, Try.ntmps15
  go_wp2
  clear hmk
  go_loopw [24] (fun v wr => ∃ k : Nat, k ≤ n ∧ v = .int .i64 k ∧ Blk wr w.heap.size 24 #[.slice (some ⟨b, o, none⟩) n cap] ∧ Blk wr (w.heap.size + 1) 27 #[.int .i64 0, .int .i64 0] ∧ Blk wr (w.heap.size + 1 + 1) 3 (numC n (firsts l k)) ∧ Hid (∀ j, j < k → codeAt l j = 0) ∧ Below w.heap.size w wr) (fun v _ => n - (intOf v).toNat)
  case atStart =>
    exact ⟨0, Nat.zero_le _, rfl, ((Blk.new _ _ _).alloc _).alloc _, by have := Blk.new (w.alloc (.cells #[.slice (some ⟨b, o, none⟩) n cap] 24)) 27 #[.int .i64 0, .int .i64 0]; rw [World.size_alloc] at this; exact this.alloc _,
      by have := Blk.new ((w.alloc (.cells #[.slice (some ⟨b, o, none⟩) n cap] 24)).alloc (.cells #[.int .i64 0, .int .i64 0] 27)) 3 (numC n []); rw [World.size_alloc, World.size_alloc] at this; exact this, fun j h => by omega,
      (((Below.refl _ _).alloc (Nat.le_refl _) _).alloc (by simp) _).alloc (by simp; omega) _⟩
  case round =>
    obtain ⟨k, hk, rfl, hX, hY, hF, HC, hbel⟩ := hrel
    have x0 : wr.cell? ⟨w.heap.size, 0, none⟩ = some (.slice (some ⟨b, o, none⟩) n cap) := by rw [hX.cell]; rfl
    have HB := Lib.hid hbel
    have lF := hF.lt
    have lY := hY.lt
    have HX := Lib.hid hX
    have HY := Lib.hid hY
    have HF := Lib.hid hF
    clear hbel hX hY hF
    by_cases hlt : k < n
    · have hkl : k < l.length := by have := Hn.out; omega
      have hbg := begin_any l k hkl b o cap (w.heap.size + 1 + 1) n wr (by have := Hn.out; omega) (Nat.lt_of_lt_of_le hb HB.out.size) (fun j hj => (HN.out j hj).below HB.out hb) ((HK.out k hkl).below HB.out) lF (by omega)
        (fun j hj => by rw [HF.out.cell]; have h := numC_get (n := n) (j := j) (xs := firsts l k) (by rw [firsts_length]; exact hj); rw [firsts_get l hj] at h; exact h) (HM.out k hkl)
      have hkc : k + 1 ≤ cap := by omega
      go_wp2_with (go_at_call 27; refine hbg.mono ?_)
      intro e w3 hp
      obtain ⟨hb3, ⟨hc, rfl⟩ | ⟨hc, rfl⟩⟩ := hp
      · have hF3 := HF.out.below hb3 lF
        have HX3 := Lib.hid (HX.out.below hb3 (by omega))
        have HY3 := Lib.hid (HY.out.below hb3 lY)
        have HB3 := Lib.hid (HB.out.trans (hb3.mono (by omega)))
        have lF3 := hF3.lt
        have f2 := hF3.frozen k
        have f0 : w3.cell? ⟨w.heap.size + 1 + 1, k, none⟩ = some (.int .i64 0) := by
          rw [hF3.cell]; exact numC_zero (by rw [firsts_length]; exact Nat.le_refl _) hlt
        have HC2 : Hid (∀ j, j < k + 1 → codeAt l j = 0) := fun j hj => by
          by_cases e : j = k
          · subst e; exact hc
          · exact HC.out j (by omega)
        have hset : Hid (Blk (w3.setCell ⟨w.heap.size + 1 + 1, k, none⟩ (.int .i64 ((St l k : Nat) : Int))) (w.heap.size + 1 + 1) 3 (numC n (firsts l (k + 1)))) := by
          show Blk _ _ _ _
          have h := hF3.set_ (firsts l k).length (.int .i64 ((St l k : Nat) : Int))
          rw [numC_snoc (St l k) (by rw [firsts_length]; exact hlt), firsts_length, ← firsts_succ] at h
          exact h
        clear hF3 hb3 hbg hc HC
        go_wp2
        go_roundw
        case rel => exact ⟨k + 1, by omega, by go_num, HX3.out.far (by simp; omega) _, HY3.out.far (by simp) _, hset.out, HC2, HB3.out.setCell (p := ⟨w.heap.size + 1 + 1, k, none⟩) (by simp; omega) _⟩
        case measure => simp [intOf]; try omega
      · have HY3 := HY.out.below hb3 lY
        have HB3 := Lib.hid (HB.out.trans (hb3.mono (by omega)))
        have y0 : w3.cell? ⟨w.heap.size + 1, 0, none⟩ = some (.int .i64 0) := by rw [HY3.cell]; rfl
        have y1 : w3.cell? ⟨w.heap.size + 1, 1, none⟩ = some (.int .i64 0) := by rw [HY3.cell]; rfl
        have g0 := HY3.frozen 0
        have g1 := HY3.frozen 1
        have HR : Hid (CkR l (codeAt l k) k) := Or.inr ⟨by have := Hn.out; omega, by have := Hn.out; omega, Or.inl ⟨k, hkl, HC.out, hc, rfl, rfl⟩⟩
        have hc0 := Lib.hid hc
        have c1 : (codeAt l k != 0) = true := by simpa using hc
        have lY3 := HY3.lt
        clear hb3 hbg hc HC HY3
        generalize codeAt l k = c at *
        go_wp2
        refine bodyPost_ret (v := .tuple #[.slice none 0 0, .agg #[.int .i64 c, .int .i64 k]]) (by simp [results, Try.results15, go_sem, y0, y1]) rfl ?_
        rw [HQ.out]
        exact ⟨(HB3.out.setCell (p := ⟨w.heap.size + 1, 0, none⟩) (by simp) _).setCell (p := ⟨w.heap.size + 1, 1, none⟩) (by simp) _, _, c, k, rfl, HR.out, fun h => absurd h hc0.out⟩
    · have hkn : k = n := by omega
      subst hkn
      have hall : Hid (∀ j, j < l.length → codeAt l j = 0) := fun j hj => HC.out j (by have := Hn.out; omega)
      have f0 : wr.cell? ⟨w.heap.size + 1 + 1, k - 1, none⟩ = some (.int .i64 ((St l (l.length - 1) : Nat) : Int)) := by
        have h := numC_get (n := k) (j := k - 1) (xs := firsts l k) (by rw [firsts_length]; omega)
        rw [firsts_get l (by omega)] at h
        rw [HF.out.cell, ← Hn.out]; exact h
      have e1 : (k : Int) - 1 = ((k - 1 : Nat) : Int) := by omega
      have HF2 : Hid (∀ j, j < l.length → wr.cell? ⟨w.heap.size + 1 + 1, j, none⟩ = some (.int .i64 (St l j))) := fun j hj => by
        have h := numC_get (n := k) (j := j) (xs := firsts l k) (by rw [firsts_length]; have := Hn.out; omega)
        rw [firsts_get l (by have := Hn.out; omega)] at h
        rw [HF.out.cell]; exact h
      have y0 : wr.cell? ⟨w.heap.size + 1, 0, none⟩ = some (.int .i64 0) := by rw [HY.out.cell]; rfl
      have y1 : wr.cell? ⟨w.heap.size + 1, 1, none⟩ = some (.int .i64 0) := by rw [HY.out.cell]; rfl
      have g0 := HY.out.frozen 0
      have g1 := HY.out.frozen 1
      by_cases hs : St l (l.length - 1) = 0
      · have hdp := depth_any l b o cap wr (by have := Hn.out; omega) (by have := Hn.out; omega) (Nat.lt_of_lt_of_le hb HB.out.size) (fun j hj => (HN.out j hj).below HB.out hb) (fun j hj => (HK.out j hj).below HB.out) hall.out
        have Hs := Lib.hid hs
        rw [hs] at f0
        clear hs HF HC
        obtain ⟨d, hd⟩ : ∃ d, d = Dp l (l.length - 1) := ⟨_, rfl⟩
        rw [← hd, ← Hn.out] at hdp
        have Hd := Lib.hid hd
        clear hd
        have lR := HY.out.lt
        by_cases h40 : 40 < d
        · have HR : Hid (CkR l 10 0) := Or.inr ⟨by have := Hn.out; omega, by have := Hn.out; omega, Or.inr ⟨hall.out, Or.inr ⟨Hs.out, Or.inl ⟨by rw [← Hd.out]; exact h40, rfl, rfl⟩⟩⟩⟩
          go_wp2_with (go_at_call 28; refine hdp.mono ?_)
          first | rintro e w3 rfl hb3 | rintro e w3 ⟨rfl, hb3⟩
          have HY3 := HY.out.below hb3 lR
          have HB3 := Lib.hid (HB.out.trans (hb3.mono (by omega)))
          have y0 : w3.cell? ⟨w.heap.size + 1, 0, none⟩ = some (.int .i64 0) := by rw [HY3.cell]; rfl
          have y1 : w3.cell? ⟨w.heap.size + 1, 1, none⟩ = some (.int .i64 0) := by rw [HY3.cell]; rfl
          have g0 := HY3.frozen 0
          have g1 := HY3.frozen 1
          have lY3 := HY3.lt
          clear hb3 hdp HY3
          go_wp2
          refine bodyPost_ret (v := .tuple #[.slice none 0 0, .agg #[.int .i64 10, .int .i64 0]]) (by simp [results, Try.results15, go_sem, y0, y1]) rfl ?_
          rw [HQ.out]
          exact ⟨(HB3.out.setCell (p := ⟨w.heap.size + 1, 0, none⟩) (by simp) _).setCell (p := ⟨w.heap.size + 1, 1, none⟩) (by simp) _, _, 10, 0, rfl, HR.out, fun h => by cases h⟩
        · have HR : Hid (CkR l 0 0) := Or.inr ⟨by have := Hn.out; omega, by have := Hn.out; omega, Or.inr ⟨hall.out, Or.inr ⟨Hs.out, Or.inr ⟨by rw [← Hd.out]; omega, rfl, rfl⟩⟩⟩⟩
          go_wp2_with (go_at_call 28; refine hdp.mono ?_)
          first | rintro e w3 rfl hb3 | rintro e w3 ⟨rfl, hb3⟩
          have HY3 := HY.out.below hb3 lR
          have HB3 := Lib.hid (HB.out.trans (hb3.mono (by omega)))
          have y0 : w3.cell? ⟨w.heap.size + 1, 0, none⟩ = some (.int .i64 0) := by rw [HY3.cell]; rfl
          have y1 : w3.cell? ⟨w.heap.size + 1, 1, none⟩ = some (.int .i64 0) := by rw [HY3.cell]; rfl
          have g0 := HY3.frozen 0
          have g1 := HY3.frozen 1
          have lY3 := HY3.lt
          have hF3 : Hid (∀ j, j < l.length → w3.cell? ⟨w.heap.size + 1 + 1, j, none⟩ = some (.int .i64 (St l j))) := fun j hj => (hb3.cell (p := ⟨w.heap.size + 1 + 1, j, none⟩) lF).trans (HF2.out j hj)
          have lF3 : w.heap.size + 1 + 1 < w3.heap.size := Nat.lt_of_lt_of_le lF hb3.size
          clear hb3 hdp HY3
          go_wp2
          refine bodyPost_ret (v := .tuple #[.slice (some ⟨w.heap.size + 1 + 1, 0, none⟩) k k, .agg #[.int .i64 0, .int .i64 0]]) (by simp [results, Try.results15, go_sem, y0, y1]) rfl ?_
          rw [HQ.out]
          refine ⟨(HB3.out.setCell (p := ⟨w.heap.size + 1, 0, none⟩) (by simp) _).setCell (p := ⟨w.heap.size + 1, 1, none⟩) (by simp) _, _, 0, 0, rfl, HR.out, fun _ => ⟨w.heap.size + 1 + 1, by rw [← Hn.out], by omega, by simpa using lF3, fun j hj => ?_⟩⟩
          rw [World.cell?_setCell_other _ _ _ _ (by simp), World.cell?_setCell_other _ _ _ _ (by simp)]
          exact hF3.out j hj
      · have HR : Hid (CkR l 5 ((k : Int) - 1)) := Or.inr ⟨by have := Hn.out; omega, by have := Hn.out; omega, Or.inr ⟨hall.out, Or.inl ⟨hs, rfl, by rw [← Hn.out]⟩⟩⟩
        clear HF HC
        generalize St l (l.length - 1) = s at *
        have c1 : ((s : Int) != 0) = true := by simpa using hs
        have c2 : ((s : Int) == 0) = false := by simpa using hs
        clear hs
        rw [e1] at HR
        go_wp2
        refine bodyPost_ret (v := .tuple #[.slice none 0 0, .agg #[.int .i64 5, .int .i64 ((k - 1 : Nat) : Int)]]) (by simp [results, Try.results15, go_sem, y0, y1]) rfl ?_
        rw [HQ.out]
        exact ⟨(HB.out.setCell (p := ⟨w.heap.size + 1, 0, none⟩) (by simp) _).setCell (p := ⟨w.heap.size + 1, 1, none⟩) (by simp) _, _, 5, _, rfl, HR.out, fun h => by cases h⟩
end Go.Proofs.Ytmghjfphlneblaa.Tr
