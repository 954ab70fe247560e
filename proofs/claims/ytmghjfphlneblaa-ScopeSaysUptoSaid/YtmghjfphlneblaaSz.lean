/-
  The walk of the law ScopeSays: it returns true, and nothing that was there has turned.
-/
import Derived.Test.YtmghjfphlneblaaSyb
import Derived.Test.YtmghjfphlneblaaTrUi
import Derived.Laws.StructEq
import Derived.Deep.RegionHeld3
namespace Go.Proofs.Ytmghjfphlneblaa.Sc
open Go.RowKit
open Tr

/-- what both say -/
def OutF (l : List Nd) (c a : Int) (fs : List Int) : Prop :=
  ∃ c0 a0 : Int, CkR l c0 a0 ∧ ((c0 ≠ 0 ∧ c = c0 ∧ a = a0 ∧ fs = []) ∨ (c0 = 0 ∧ ((namesF l = .bad c a ∧ fs = []) ∨ (namesF l = .ok fs ∧ c = 0 ∧ a = 0))))
theorem OutF.det {l : List Nd} {c a c' a' : Int} {fs fs' : List Int} (h : OutF l c a fs) (h' : OutF l c' a' fs') : c = c' ∧ a = a' ∧ fs = fs' := by
  obtain ⟨c0, a0, h1, h2⟩ := h
  obtain ⟨c1, a1, g1, g2⟩ := h'
  obtain ⟨rfl, rfl⟩ := h1.det g1
  rcases h2 with ⟨h2, rfl, rfl, rfl⟩ | ⟨h2, h3⟩
  · rcases g2 with ⟨_, rfl, rfl, rfl⟩ | ⟨g2, _⟩
    · exact ⟨rfl, rfl, rfl⟩
    · exact absurd g2 h2
  · rcases g2 with ⟨g2, _⟩ | ⟨_, g3⟩
    · exact absurd h2 g2
    · rcases h3 with ⟨h3, rfl⟩ | ⟨h3, rfl, rfl⟩
      · rcases g3 with ⟨g3, rfl⟩ | ⟨g3, _⟩
        · rw [h3] at g3; cases g3; exact ⟨rfl, rfl, rfl⟩
        · rw [h3] at g3; cases g3
      · rcases g3 with ⟨g3, _⟩ | ⟨g3, rfl, rfl⟩
        · rw [h3] at g3; cases g3
        · rw [h3] at g3; cases g3; exact ⟨rfl, rfl, rfl⟩
/-- an answer -/
def AnsIs (l : List Nd) (w : World) (e : Ending) (w' : World) : Prop :=
  ∃ (p : Option Addr) (cap : Nat) (c a : Int) (fs : List Int), e = .returned (.tuple #[.slice p fs.length cap, .agg #[.int .i64 c, .int .i64 a]]) ∧ Below w.heap.size w w' ∧ KidsAt w' p fs ∧ OutF l c a fs ∧ fs.length ≤ 600
theorem kids_nil (w : World) (p : Option Addr) : KidsAt w p [] := fun h => absurd h (by simp)
theorem fs_len {l : List Nd} {fs : List Int} {a : Int} (h : CkR l 0 a) (hl : fs.length = l.length) : fs.length ≤ 600 := by
  obtain ⟨_, h2, _⟩ := ckr_zero h
  omega
theorem ans_prog {l : List Nd} {w : World} {e : Ending} {w' : World} (h : NmPost l w e w') : AnsIs l w e w' := by
  obtain ⟨c, a, hc, ⟨h1, h2, h3⟩ | ⟨h1, h2⟩⟩ := h
  · exact ⟨none, 0, c, a, [], h2, h3, kids_nil _ _, ⟨c, a, hc, Or.inl ⟨h1, rfl, rfl, rfl⟩⟩, by simp⟩
  · cases hn : namesF l with
    | bad c1 a1 =>
      rw [hn] at h2
      obtain ⟨h2, h3⟩ := h2
      exact ⟨none, 0, c1, a1, [], h2, h3, kids_nil _ _, ⟨c, a, hc, Or.inr ⟨h1, Or.inl ⟨hn, rfl⟩⟩⟩, by simp⟩
    | ok fs =>
      rw [hn] at h2
      obtain ⟨F, h4, h5, h6, h7, h8⟩ := h2
      subst h1
      refine ⟨some ⟨F, 0, none⟩, l.length, 0, 0, fs, by rw [h8]; exact h5, h6, fun _ => ⟨F, 0, rfl, h7.lt, fun j hj => ?_⟩, ⟨0, a, hc, Or.inr ⟨rfl, Or.inr ⟨hn, rfl, rfl⟩⟩⟩, fs_len hc h8⟩
      rw [Nat.zero_add, h7.cell]
      simp [intA, hj]
theorem ans_doc {l : List Nd} {w : World} {e : Ending} {w' : World} (h : RnPost l w e w') : AnsIs l w e w' := by
  obtain ⟨c, a, hc, ⟨h1, h2, h3⟩ | ⟨h1, h2⟩⟩ := h
  · exact ⟨none, 0, c, a, [], h2, h3, kids_nil _ _, ⟨c, a, hc, Or.inl ⟨h1, rfl, rfl, rfl⟩⟩, by simp⟩
  · cases hn : namesF l with
    | bad c1 a1 =>
      rw [hn] at h2
      obtain ⟨h2, h3⟩ := h2
      exact ⟨none, 0, c1, a1, [], h2, h3, kids_nil _ _, ⟨c, a, hc, Or.inr ⟨h1, Or.inl ⟨hn, rfl⟩⟩⟩, by simp⟩
    | ok fs =>
      rw [hn] at h2
      obtain ⟨O, oc, h5, h6, h7⟩ := h2
      subst h1
      have h8 : fs.length = l.length := by have := h7.1; rw [intV_len] at this; omega
      refine ⟨some ⟨O, 0, none⟩, oc, 0, 0, fs, by rw [h8]; exact h5, h6, fun h0 => ?_, ⟨0, a, hc, Or.inr ⟨rfl, Or.inr ⟨hn, rfl, rfl⟩⟩⟩, fs_len hc h8⟩
      obtain ⟨g, e, _, hg, _, _, _, hj⟩ := row_at h7 (by omega)
      cases e
      exact ⟨O, 0, rfl, hg, fun j hjl => by rw [Nat.zero_add]; exact (hj j hjl).1⟩
set_option maxHeartbeats 8000000 in
set_option maxRecDepth 100000 in
theorem says_walk (l : List Nd) (p : Option Addr) (cap : Nat) (w : World) (hT : Tr w p l) (hf : Fit l cap) (hg : Fit2 l) :
    Calls Try.prog 3 #[.agg #[.slice p l.length cap]] w fun e w' => e = .returned (.bool true) ∧ Below w.heap.size w w' := by
  have HC : Hid (∀ W, Below w.heap.size w W → Calls Try.prog 4 #[.agg #[.slice p l.length cap]] W (AnsIs l W)) := fun W hW => (names_any l p cap W (hT.below hW) hf).mono fun e w' => ans_prog
  have HR1 : Hid (∀ W, Below w.heap.size w W → Calls Try.prog 5 #[.agg #[.slice p l.length cap]] W (AnsIs l W)) := fun W hW => (rnames_any l p cap W (hT.below hW) hf hg).mono fun e w' => ans_doc
  have hn47 := hf.2.1
  clear hT hf hg
  obtain ⟨n, hn⟩ : ∃ n, n = l.length := ⟨_, rfl⟩
  rw [← hn] at HR1 HC hn47 ⊢
  clear hn
  have HW : Hid (Below w.heap.size w (w.alloc (.cells #[.slice p n cap] 24))) := (Below.refl _ _).alloc (Nat.le_refl _) _
  by_cases hbig : 700 < n
  · go_enter Try.func3, Try.ntmps3
    go_wp2
    go_ret
    exact ⟨rfl, HW.out⟩
  · have hc := HC.out _ HW.out
    have HX : Hid (Blk (w.alloc (.cells #[.slice p n cap] 24)) w.heap.size 24 #[.slice p n cap]) := Blk.new _ _ _
    go_enter Try.func3, Try.ntmps3
    go_wp2_with (go_at_call 4; refine hc.mono ?_)
    intro e w1 hp
    obtain ⟨p1, k1, c, a, fs, rfl, hb1, hK1, ho1, hl1⟩ := hp
    have HO1 := Lib.hid ho1
    have HK1 := Lib.hid hK1
    have HB1 := Lib.hid (HW.out.trans (hb1.mono (by simp; try omega)))
    have HX1 := Lib.hid (HX.out.below hb1 (by simp; try omega))
    have l1 := HX1.out.lt
    have x1 : w1.cell? ⟨w.heap.size, 0, none⟩ = some (.slice p n cap) := by rw [HX1.out.cell]; rfl
    have HBa := Lib.hid (HB1.out.alloc HB1.out.size (.cells #[.int .i64 c, .int .i64 a] 27))
    have HFa : Hid (Blk (w1.alloc (.cells #[.int .i64 c, .int .i64 a] 27)) w1.heap.size 27 #[.int .i64 c, .int .i64 a]) := Blk.new _ _ _
    have HKa := Lib.hid (HK1.out.below ((Below.refl w1.heap.size w1).alloc (Nat.le_refl _) (.cells #[.int .i64 c, .int .i64 a] 27)))
    have hr := HR1.out _ HBa.out
    clear hb1 hK1 ho1 hc HX
    go_wp2_with (go_at_call 5; refine hr.mono ?_)
    intro e w2 hp
    obtain ⟨p2, k2, c', a', fs', rfl, hb2, hK2, ho2, hl2⟩ := hp
    obtain ⟨rfl, rfl, rfl⟩ := HO1.out.det ho2
    have HB2 := Lib.hid (HBa.out.trans (hb2.mono HBa.out.size))
    have HF2 := Lib.hid (HFa.out.below hb2 HFa.out.lt)
    have HKb := Lib.hid (HKa.out.below hb2)
    have HK2 := Lib.hid hK2
    have m2 := HF2.out.lt
    have f0 : w2.cell? ⟨w1.heap.size, 0, none⟩ = some (.int .i64 c) := by rw [HF2.out.cell]; rfl
    have f1 : w2.cell? ⟨w1.heap.size, 1, none⟩ = some (.int .i64 a) := by rw [HF2.out.cell]; rfl
    have HBb := Lib.hid (HB2.out.alloc HB2.out.size (.cells #[.int .i64 c, .int .i64 a] 27))
    have hi := fun W (hW : Below w2.heap.size w2 W) => rints_any fs fs p1 p2 k1 k2 W (HKb.out.below hW) (HK2.out.below hW) (by omega) (by omega)
    have HI := Lib.hid (hi _ ((Below.refl w2.heap.size w2).alloc (Nat.le_refl _) (.cells #[.int .i64 c, .int .i64 a] 27)))
    have q3 : (c == c) = true := by simp
    have q4 : (a == a) = true := by simp
    clear hb2 hK2 ho2 hr hi x1
    have hi := HI.out
    simp only [decide_true] at hi
    obtain ⟨n1, hn1⟩ : ∃ n1, n1 = fs.length := ⟨_, rfl⟩
    rw [← hn1] at hi hl1 hl2 ⊢
    clear hn1
    go_wp2_with (go_at_call 6; refine hi.mono ?_)
    first | rintro e w5 rfl hb5 | rintro e w5 ⟨rfl, hb5⟩
    have HB5 := Lib.hid (HBb.out.trans (hb5.mono HBb.out.size))
    clear hb5 hi
    go_wp2
    go_ret
    exact ⟨rfl, HB5.out⟩
end Go.Proofs.Ytmghjfphlneblaa.Sc
