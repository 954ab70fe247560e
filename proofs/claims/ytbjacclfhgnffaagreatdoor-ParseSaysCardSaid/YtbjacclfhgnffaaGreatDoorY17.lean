/-
  Joined texts of this claim: Qj, Qk, Ql, Qn, Qo.
-/
import Derived.Test.YtbjacclfhgnffaaGreatDoorY16
import Derived.Test.YtbjacclfhgnffaaGreatDoorY15
import Derived.Deep.RegionWith
import Derived.Test.YtbjacclfhgnffaaGreatDoorY08
import Derived.Deep.RegionHeld3
set_option linter.unusedVariables false
set_option linter.unusedSimpArgs false
/-
  The contract of add, where no loose node is behind the mark; and at every state.
-/
namespace Go.Proofs.YtbjacclfhgnffaaGreatDoor
open Go.RowKit
open Tk (T4 bstr)
open Tr (Nd Blk KidsAt)

set_option maxHeartbeats 8000000 in
set_option maxRecDepth 100000 in
theorem add_full {B T E : Nat} {w : World} {s : S3} {vT vN : Value} {ns : List Nd} {g cap mark : Nat} (h : PS B T E w s vT vN (Value.slice (some ⟨g, 0, none⟩) mark cap) ns) (hn : mark = s.O.length) (hc : mark = cap) (hN : s.N.length < 5000000) (k nn z a : Int) (x : Mn) (t : ByteArray) (htt : t.data.toList = x.t) :
    Calls Tryz.prog 109 #[.pointer (some ⟨B, 2, none⟩), .agg #[.int .i64 k, .string t, .int .i64 nn, .int .i64 z, .slice none 0 0, .int .i64 a], .int .i64 mark] w (AddPost B T E w (addF ⟨k, x.t, nn, z, [], a⟩ mark s)) := by
  obtain ⟨Q, hQ⟩ : ∃ Q : Ending → World → Prop, Q = AddPost B T E w (addF ⟨k, x.t, nn, z, [], a⟩ mark s) := ⟨_, rfl⟩
  rw [← hQ]
  have HQ := Lib.hid hQ
  clear hQ
  have Ht := Lib.hid htt
  clear htt
  have hB := h.lt
  have hO2 := h.lenO
  have hN2 := h.lenN
  rw [← hn] at hO2
  have c3 : w.cell? ⟨B, 3, none⟩ = some (Value.slice (some ⟨g, 0, none⟩) mark cap) := by rw [h.box.cell]; rfl
  have c2 : w.cell? ⟨B, 2, none⟩ = some vN := by rw [h.box.cell]; rfl
  have hloo := h.loo
  rw [← hn] at hloo
  have hcap : mark ≤ cap := by
    rcases hloo.2 with ⟨h, _⟩ | ⟨g', cap', cur, h, _, _, h2, _⟩
    · cases h
    · cases h; exact h2
  subst hc
  have hg : B + 1 ≤ g ∧ g < w.heap.size := hloo.lt g rfl
  have HLoo := Lib.hid hloo
  clear hloo
  have HP := Lib.hid h
  have Hn := Lib.hid hn
  obtain ⟨i0, hi, hz0, hz1, hz2⟩ := info_parts info3
  have hd0 : s.O.drop mark = [] := List.drop_eq_nil_of_le (by omega)
  have HD0 := Lib.hid hd0
  clear h hn hd0
  have hb2 : Below w.heap.size w (w.alloc (.cells #[.int .i64 k, .string t, .int .i64 nn, .int .i64 z, .slice none 0 0, .int .i64 a] 36)) := (Below.refl _ _).alloc (Nat.le_refl _) _
  have k2 : Blk (w.alloc (.cells #[.int .i64 k, .string t, .int .i64 nn, .int .i64 z, .slice none 0 0, .int .i64 a] 36)) w.heap.size 36 #[.int .i64 k, .string t, .int .i64 nn, .int .i64 z, .slice none 0 0, .int .i64 a] := heap_alloc_new w _
  have hkid : KidK w (w.alloc (.cells #[.int .i64 k, .string t, .int .i64 nn, .int .i64 z, .slice none 0 0, .int .i64 a] 36)) none (s.O.drop mark) := fun h0 => by rw [HD0.out] at h0; exact absurd h0 (by simp)

  have HK2 := Lib.hid k2
  have HB2 := Lib.hid hb2
  have HKid := Lib.hid hkid
  clear hb2 k2 hkid
  go_enter Tryz.func109, Tryz.ntmps109
  go_wp2
  generalize w.alloc (.cells #[.int .i64 k, .string t, .int .i64 nn, .int .i64 z, .slice none 0 0, .int .i64 a] 36) = w2 at *
  have c3' : w2.cell? ⟨B, 3, none⟩ = some (Value.slice (some ⟨g, 0, none⟩) mark mark) := (HB2.out.cell (p := ⟨B, 3, none⟩) hB).trans c3
  have c2' : w2.cell? ⟨B, 2, none⟩ = some vN := (HB2.out.cell (p := ⟨B, 2, none⟩) hB).trans c2
  have lB' : B < w2.heap.size := Nat.lt_of_lt_of_le hB HB2.out.size
  obtain ⟨pN, kN, hvN⟩ : ∃ pN kN, vN = .slice pN ns.length kN := by
    rcases HP.out.nod.2 with ⟨h, h0⟩ | ⟨g', cap', cur, h, _⟩
    · exact ⟨none, 0, by rw [h, h0]⟩
    · exact ⟨_, _, h⟩
  subst hvN
  obtain ⟨m, hmN⟩ : ∃ m, m = ns.length := ⟨_, rfl⟩
  have hmS : m = s.N.length := by rw [hmN, ← HP.out.eqN, List.length_map]
  have hNl : m ≤ 5000000 := by have := HP.out.lenN; omega
  rw [← hmN] at c2'
  have HmN := Lib.hid hmN
  have HmS := Lib.hid hmS
  have HBx2 : Hid (Blk w2 B T #[vT, .int .i64 E, .slice pN m kN, (Value.slice (some ⟨g, 0, none⟩) mark mark)]) := by
    have h1 := HB2.out.block B hB
    have h2 := HP.out.box
    rw [← hmN] at h2
    exact h1.trans h2
  have HOw : Hid (∀ W, Below w2.heap.size w2 W → W.ownsRow (B + 1) 3 1 (Value.slice (some ⟨g, 0, none⟩) mark mark) mark (intV (s.O.take mark))) := fun W hW => by
    rw [intV_take]
    have hs := HB2.out.size
    exact own_pre HLoo.out (Nat.le_refl _) ((hW.block g (by omega)).trans (HB2.out.block g hg.2))
  clear hmN hmS c2 c3
  go_region_law (refine step_append_lies _ rfl (.tmp 20) (.tmp 26) 34 rfl (B + 1) 3 i0 (.int .i64 0) 1 8 Tryz.underlying34 hi hz0 hz1 hz2 rfl (by decide) (Value.slice (some ⟨g, 0, none⟩) mark mark) mark (intV (s.O.take mark)) (by simp [Act.eval, Act.put]) (HOw.out _ ((Below.refl _ _).alloc (Nat.le_refl _) _).drew) ⟨w2.heap.size, 0, none⟩ 1 1 [.int .i64 m] (by simp [Act.eval, Act.put]) rfl (news_drew (Tr.Blk.new _ _ _)) (by intro u hu; simp at hu; subst hu; rfl) (by omega) (by unfold maxLen; omega) (by omega) (by simp; omega) (w2.heap.size + 1) (by simp) ?_; intro gL capL w4 hown4 hgrow4 hwhere4 hlt4; have hb4 := blk_grown hgrow4 HBx2.out (fun e => by have h1 : g = B := Option.some.inj e; omega); have d3 := hb4.cell 3; have f3 := hb4.frozen 3; have lB4 := hb4.lt)
  all_goals
    have HG5 : Hid (GS B (Value.slice (some ⟨g, 0, none⟩) mark mark).ownBlock w2 (w4.setCell ⟨B, 3, none⟩ (.slice (some ⟨gL, 0, none⟩) (mark + 1) capL))) := Lib.hid (gs_of hgrow4 3 _)
    have HB5 : Hid (Blk (w4.setCell ⟨B, 3, none⟩ (.slice (some ⟨gL, 0, none⟩) (mark + 1) capL)) B T #[vT, .int .i64 E, .slice pN m kN, .slice (some ⟨gL, 0, none⟩) (mark + 1) capL]) := by
      have h1 := (blk_grown hgrow4 HBx2.out (fun e => by have h1 : g = B := Option.some.inj e; omega)).set_ 3 (.slice (some ⟨gL, 0, none⟩) (mark + 1) capL)
      exact h1
    have HO5 := Lib.hid (ownsRow_setCell_below hown4 (a := ⟨B, 3, none⟩) (by show B < B + 1; omega) (.slice (some ⟨gL, 0, none⟩) (mark + 1) capL))
    have HL5 : Hid (∀ g', (Value.slice (some ⟨gL, 0, none⟩) (mark + 1) capL).ownBlock = some g' → (Value.slice (some ⟨g, 0, none⟩) mark mark).ownBlock = some g' ∨ w2.heap.size ≤ g') := fun g' hg' => by
      obtain rfl : gL = g' := Option.some.inj hg'
      rcases hwhere4 with h1 | h1
      · exact Or.inl h1
      · exact Or.inr (by omega)
    have HK5 : Hid (Blk (w4.setCell ⟨B, 3, none⟩ (.slice (some ⟨gL, 0, none⟩) (mark + 1) capL)) w.heap.size 36 #[.int .i64 k, .string t, .int .i64 nn, .int .i64 z, (.slice none 0 0), .int .i64 a]) :=
      (HG5.out.block _ HK2.out.lt (Nat.ne_of_gt hB) (fun e => by have h1 : g = w.heap.size := Option.some.inj e; omega)).trans HK2.out
    clear hown4 hgrow4 hwhere4
    generalize w4.setCell ⟨B, 3, none⟩ (.slice (some ⟨gL, 0, none⟩) (mark + 1) capL) = w5 at *
    clear hlt4 c2' c3'
    have lB5 := HB5.out.lt
    have c2' := HB5.out.cell 2
    have e0 := HK5.out.cell 0
    have e1 := HK5.out.cell 1
    have e2 := HK5.out.cell 2
    have e3 := HK5.out.cell 3
    have e4 := HK5.out.cell 4
    have e5 := HK5.out.cell 5
    have lK5 := HK5.out.lt
    obtain ⟨j0, hj, hy0, hy1, hy2⟩ := info_parts info36
    go_wp2
    have hNb : (Value.slice pN m kN).ownBlock ≠ some B := fun e => by
      have h1 := HP.out.nod
      rw [← HmN.out] at h1
      have := (h1.lt B e).1; omega
    have HOn : Hid (∀ W, Below w5.heap.size w5 W → W.ownsRow (B + 1) 36 6 (.slice pN m kN) m (rowN ns)) := fun W hW => by
      have h1 := HP.out.nod
      rw [← HmN.out] at h1
      refine ⟨h1.1, ?_⟩
      rcases h1.2 with h2 | ⟨g', cap', cur, hv, hg', hh, r⟩
      · exact Or.inl h2
      · have hob : (Value.slice pN m kN).ownBlock = some g' := by rw [hv]; rfl
        have hlt := (h1.lt g' hob).2
        have hs2 := HB2.out.size
        have hs5 := HG5.out.size
        refine Or.inr ⟨g', cap', cur, hv, hg', ?_, r⟩
        rw [hW.block g' (by omega), HG5.out.block g' (by omega) (by omega) (HP.out.sep g' (by rw [← HmN.out]; exact hob)), HB2.out.block g' hlt]
        exact hh
    go_region_law (refine step_append_lies _ rfl (.tmp 34) (.tmp 36) 22 rfl (B + 1) 36 j0 (.agg #[.int .i64 0, .string ⟨#[]⟩, .int .i64 0, .int .i64 0, .slice none 0 0, .int .i64 0]) 6 72 Tryz.underlying22 hj hy0 hy1 hy2 rfl (by decide) (.slice pN m kN) m (rowN ns) (by simp [Act.eval, Act.put]) (HOn.out _ ((Below.refl _ _).alloc (Nat.le_refl _) _).drew) ⟨w5.heap.size, 0, none⟩ 1 1 [.int .i64 k, .string t, .int .i64 nn, .int .i64 z, (.slice none 0 0), .int .i64 a] (by simp [Act.eval, Act.put]) rfl (news_drew (Tr.Blk.new _ _ _)) (by intro u hu; simp at hu; rcases hu with rfl | rfl | rfl | rfl | rfl | rfl <;> rfl) (by omega) (by unfold maxLen; omega) (by omega) (by simp; omega) (w5.heap.size + 1) (by simp) ?_; intro gN capN w7 hown7 hgrow7 hwhere7 hlt7; have hb7 := blk_grown hgrow7 HB5.out hNb; have d2 := hb7.cell 2; have f2 := hb7.frozen 2; have lB7 := hb7.lt)
    all_goals
      have HG8 : Hid (GS B (Value.slice pN m kN).ownBlock w5 (w7.setCell ⟨B, 2, none⟩ (.slice (some ⟨gN, 0, none⟩) (m + 1) capN))) := Lib.hid (gs_of hgrow7 2 _)
      have HB8 : Hid (Blk (w7.setCell ⟨B, 2, none⟩ (.slice (some ⟨gN, 0, none⟩) (m + 1) capN)) B T #[vT, .int .i64 E, .slice (some ⟨gN, 0, none⟩) (m + 1) capN, .slice (some ⟨gL, 0, none⟩) (mark + 1) capL]) := by
        have h1 := (blk_grown hgrow7 HB5.out hNb).set_ 2 (.slice (some ⟨gN, 0, none⟩) (m + 1) capN)
        exact h1
      have HO8 := Lib.hid (ownsRow_setCell_below hown7 (a := ⟨B, 2, none⟩) (by show B < B + 1; omega) (.slice (some ⟨gN, 0, none⟩) (m + 1) capN))
      have HL8 : Hid (∀ g', (Value.slice (some ⟨gN, 0, none⟩) (m + 1) capN).ownBlock = some g' → (Value.slice pN m kN).ownBlock = some g' ∨ w5.heap.size ≤ g') := fun g' hg' => by
        obtain rfl : gN = g' := Option.some.inj hg'
        rcases hwhere7 with h1 | h1
        · exact Or.inl h1
        · exact Or.inr (by omega)
      clear hown7 hgrow7 hwhere7
      go_end0
      rw [HQ.out]
      have hmk : mark ≤ s.O.length := by have := Hn.out; omega
      have hend := add_end (x := ⟨k, x.t, nn, z, [], a⟩) (kc := 0) (p := none) HP.out HB2.out HKid.out Ht.out HG5.out (by rw [← HmS.out]; exact HO5.out) HL5.out (by rw [← HmN.out]; exact HG8.out) HB8.out (by rw [HD0.out, ← HmN.out]; exact HO8.out) (by rw [← HmN.out]; exact HL8.out) hmk hN
      exact addPost (s := s) (x := ⟨k, x.t, nn, z, [], a⟩) (mark := mark) hmk hN ⟨hend.1, _, _, _, _, hend.2⟩
end Go.Proofs.YtbjacclfhgnffaaGreatDoor
/-
  The contract of add, where no loose node is behind the mark; and at every state.
-/
namespace Go.Proofs.YtbjacclfhgnffaaGreatDoor
open Go.RowKit
open Tk (T4 bstr)
open Tr (Nd Blk KidsAt)

set_option maxHeartbeats 8000000 in
set_option maxRecDepth 100000 in
theorem add_nil {B T E : Nat} {w : World} {s : S3} {vT vN : Value} {ns : List Nd} {mark : Nat} (h : PS B T E w s vT vN (Value.slice none 0 0) ns) (hn : mark = s.O.length) (hN : s.N.length < 5000000) (k nn z a : Int) (x : Mn) (t : ByteArray) (htt : t.data.toList = x.t) :
    Calls Tryz.prog 109 #[.pointer (some ⟨B, 2, none⟩), .agg #[.int .i64 k, .string t, .int .i64 nn, .int .i64 z, .slice none 0 0, .int .i64 a], .int .i64 mark] w (AddPost B T E w (addF ⟨k, x.t, nn, z, [], a⟩ mark s)) := by
  obtain ⟨Q, hQ⟩ : ∃ Q : Ending → World → Prop, Q = AddPost B T E w (addF ⟨k, x.t, nn, z, [], a⟩ mark s) := ⟨_, rfl⟩
  rw [← hQ]
  have HQ := Lib.hid hQ
  clear hQ
  have Ht := Lib.hid htt
  clear htt
  have hB := h.lt
  have hO2 := h.lenO
  have hN2 := h.lenN
  rw [← hn] at hO2
  have c3 : w.cell? ⟨B, 3, none⟩ = some (Value.slice none 0 0) := by rw [h.box.cell]; rfl
  have c2 : w.cell? ⟨B, 2, none⟩ = some vN := by rw [h.box.cell]; rfl
  have hm0 : mark = 0 := by
    rcases h.loo.2 with ⟨_, h0⟩ | ⟨g', cap', cur, h, _⟩
    · rw [hn]; exact h0
    · cases h
  subst hm0
  have HP := Lib.hid h
  have Hn := Lib.hid hn
  obtain ⟨i0, hi, hz0, hz1, hz2⟩ := info_parts info3
  have hd0 : s.O.drop 0 = [] := List.drop_eq_nil_of_le (by omega)
  have HD0 := Lib.hid hd0
  clear h hn hd0
  have hb2 : Below w.heap.size w (w.alloc (.cells #[.int .i64 k, .string t, .int .i64 nn, .int .i64 z, .slice none 0 0, .int .i64 a] 36)) := (Below.refl _ _).alloc (Nat.le_refl _) _
  have k2 : Blk (w.alloc (.cells #[.int .i64 k, .string t, .int .i64 nn, .int .i64 z, .slice none 0 0, .int .i64 a] 36)) w.heap.size 36 #[.int .i64 k, .string t, .int .i64 nn, .int .i64 z, .slice none 0 0, .int .i64 a] := heap_alloc_new w _
  have hkid : KidK w (w.alloc (.cells #[.int .i64 k, .string t, .int .i64 nn, .int .i64 z, .slice none 0 0, .int .i64 a] 36)) none (s.O.drop 0) := fun h0 => by rw [HD0.out] at h0; exact absurd h0 (by simp)

  have HK2 := Lib.hid k2
  have HB2 := Lib.hid hb2
  have HKid := Lib.hid hkid
  clear hb2 k2 hkid
  rw [show (((0 : Nat) : Int)) = (0 : Int) from rfl]
  go_enter Tryz.func109, Tryz.ntmps109
  go_wp2
  generalize w.alloc (.cells #[.int .i64 k, .string t, .int .i64 nn, .int .i64 z, .slice none 0 0, .int .i64 a] 36) = w2 at *
  have c3' : w2.cell? ⟨B, 3, none⟩ = some (Value.slice none 0 0) := (HB2.out.cell (p := ⟨B, 3, none⟩) hB).trans c3
  have c2' : w2.cell? ⟨B, 2, none⟩ = some vN := (HB2.out.cell (p := ⟨B, 2, none⟩) hB).trans c2
  have lB' : B < w2.heap.size := Nat.lt_of_lt_of_le hB HB2.out.size
  obtain ⟨pN, kN, hvN⟩ : ∃ pN kN, vN = .slice pN ns.length kN := by
    rcases HP.out.nod.2 with ⟨h, h0⟩ | ⟨g', cap', cur, h, _⟩
    · exact ⟨none, 0, by rw [h, h0]⟩
    · exact ⟨_, _, h⟩
  subst hvN
  obtain ⟨m, hmN⟩ : ∃ m, m = ns.length := ⟨_, rfl⟩
  have hmS : m = s.N.length := by rw [hmN, ← HP.out.eqN, List.length_map]
  have hNl : m ≤ 5000000 := by have := HP.out.lenN; omega
  rw [← hmN] at c2'
  have HmN := Lib.hid hmN
  have HmS := Lib.hid hmS
  have HBx2 : Hid (Blk w2 B T #[vT, .int .i64 E, .slice pN m kN, (Value.slice none 0 0)]) := by
    have h1 := HB2.out.block B hB
    have h2 := HP.out.box
    rw [← hmN] at h2
    exact h1.trans h2
  have HOw : Hid (∀ W, Below w2.heap.size w2 W → W.ownsRow (B + 1) 3 1 (Value.slice none 0 0) 0 (intV (s.O.take 0))) := fun W hW => by have e : s.O.take 0 = [] := List.take_zero; rw [e]; exact World.ownsRow_nil _ _ _ _
  clear hmN hmS c2 c3
  go_region_law (refine step_append_lies _ rfl (.tmp 20) (.tmp 26) 34 rfl (B + 1) 3 i0 (.int .i64 0) 1 8 Tryz.underlying34 hi hz0 hz1 hz2 rfl (by decide) (Value.slice none 0 0) 0 (intV (s.O.take 0)) (by simp [Act.eval, Act.put]) (HOw.out _ ((Below.refl _ _).alloc (Nat.le_refl _) _).drew) ⟨w2.heap.size, 0, none⟩ 1 1 [.int .i64 m] (by simp [Act.eval, Act.put]) rfl (news_drew (Tr.Blk.new _ _ _)) (by intro u hu; simp at hu; subst hu; rfl) (by omega) (by unfold maxLen; omega) (by omega) (by simp; omega) (w2.heap.size + 1) (by simp) ?_; intro gL capL w4 hown4 hgrow4 hwhere4 hlt4; have hb4 := blk_grown hgrow4 HBx2.out (by simp [Value.ownBlock]); have d3 := hb4.cell 3; have f3 := hb4.frozen 3; have lB4 := hb4.lt)
  all_goals
    have HG5 : Hid (GS B (Value.slice none 0 0).ownBlock w2 (w4.setCell ⟨B, 3, none⟩ (.slice (some ⟨gL, 0, none⟩) (0 + 1) capL))) := Lib.hid (gs_of hgrow4 3 _)
    have HB5 : Hid (Blk (w4.setCell ⟨B, 3, none⟩ (.slice (some ⟨gL, 0, none⟩) (0 + 1) capL)) B T #[vT, .int .i64 E, .slice pN m kN, .slice (some ⟨gL, 0, none⟩) (0 + 1) capL]) := by
      have h1 := (blk_grown hgrow4 HBx2.out (by simp [Value.ownBlock])).set_ 3 (.slice (some ⟨gL, 0, none⟩) (0 + 1) capL)
      exact h1
    have HO5 := Lib.hid (ownsRow_setCell_below hown4 (a := ⟨B, 3, none⟩) (by show B < B + 1; omega) (.slice (some ⟨gL, 0, none⟩) (0 + 1) capL))
    have HL5 : Hid (∀ g', (Value.slice (some ⟨gL, 0, none⟩) (0 + 1) capL).ownBlock = some g' → (Value.slice none 0 0).ownBlock = some g' ∨ w2.heap.size ≤ g') := fun g' hg' => by
      obtain rfl : gL = g' := Option.some.inj hg'
      rcases hwhere4 with h1 | h1
      · exact Or.inl h1
      · exact Or.inr (by omega)
    have HK5 : Hid (Blk (w4.setCell ⟨B, 3, none⟩ (.slice (some ⟨gL, 0, none⟩) (0 + 1) capL)) w.heap.size 36 #[.int .i64 k, .string t, .int .i64 nn, .int .i64 z, (.slice none 0 0), .int .i64 a]) :=
      (HG5.out.block _ HK2.out.lt (Nat.ne_of_gt hB) (by simp [Value.ownBlock])).trans HK2.out
    clear hown4 hgrow4 hwhere4
    generalize w4.setCell ⟨B, 3, none⟩ (.slice (some ⟨gL, 0, none⟩) (0 + 1) capL) = w5 at *
    clear hlt4 c2' c3'
    have lB5 := HB5.out.lt
    have c2' := HB5.out.cell 2
    have e0 := HK5.out.cell 0
    have e1 := HK5.out.cell 1
    have e2 := HK5.out.cell 2
    have e3 := HK5.out.cell 3
    have e4 := HK5.out.cell 4
    have e5 := HK5.out.cell 5
    have lK5 := HK5.out.lt
    obtain ⟨j0, hj, hy0, hy1, hy2⟩ := info_parts info36
    go_wp2
    have hNb : (Value.slice pN m kN).ownBlock ≠ some B := fun e => by
      have h1 := HP.out.nod
      rw [← HmN.out] at h1
      have := (h1.lt B e).1; omega
    have HOn : Hid (∀ W, Below w5.heap.size w5 W → W.ownsRow (B + 1) 36 6 (.slice pN m kN) m (rowN ns)) := fun W hW => by
      have h1 := HP.out.nod
      rw [← HmN.out] at h1
      refine ⟨h1.1, ?_⟩
      rcases h1.2 with h2 | ⟨g', cap', cur, hv, hg', hh, r⟩
      · exact Or.inl h2
      · have hob : (Value.slice pN m kN).ownBlock = some g' := by rw [hv]; rfl
        have hlt := (h1.lt g' hob).2
        have hs2 := HB2.out.size
        have hs5 := HG5.out.size
        refine Or.inr ⟨g', cap', cur, hv, hg', ?_, r⟩
        rw [hW.block g' (by omega), HG5.out.block g' (by omega) (by omega) (HP.out.sep g' (by rw [← HmN.out]; exact hob)), HB2.out.block g' hlt]
        exact hh
    go_region_law (refine step_append_lies _ rfl (.tmp 34) (.tmp 36) 22 rfl (B + 1) 36 j0 (.agg #[.int .i64 0, .string ⟨#[]⟩, .int .i64 0, .int .i64 0, .slice none 0 0, .int .i64 0]) 6 72 Tryz.underlying22 hj hy0 hy1 hy2 rfl (by decide) (.slice pN m kN) m (rowN ns) (by simp [Act.eval, Act.put]) (HOn.out _ ((Below.refl _ _).alloc (Nat.le_refl _) _).drew) ⟨w5.heap.size, 0, none⟩ 1 1 [.int .i64 k, .string t, .int .i64 nn, .int .i64 z, (.slice none 0 0), .int .i64 a] (by simp [Act.eval, Act.put]) rfl (news_drew (Tr.Blk.new _ _ _)) (by intro u hu; simp at hu; rcases hu with rfl | rfl | rfl | rfl | rfl | rfl <;> rfl) (by omega) (by unfold maxLen; omega) (by omega) (by simp; omega) (w5.heap.size + 1) (by simp) ?_; intro gN capN w7 hown7 hgrow7 hwhere7 hlt7; have hb7 := blk_grown hgrow7 HB5.out hNb; have d2 := hb7.cell 2; have f2 := hb7.frozen 2; have lB7 := hb7.lt)
    all_goals
      have HG8 : Hid (GS B (Value.slice pN m kN).ownBlock w5 (w7.setCell ⟨B, 2, none⟩ (.slice (some ⟨gN, 0, none⟩) (m + 1) capN))) := Lib.hid (gs_of hgrow7 2 _)
      have HB8 : Hid (Blk (w7.setCell ⟨B, 2, none⟩ (.slice (some ⟨gN, 0, none⟩) (m + 1) capN)) B T #[vT, .int .i64 E, .slice (some ⟨gN, 0, none⟩) (m + 1) capN, .slice (some ⟨gL, 0, none⟩) (0 + 1) capL]) := by
        have h1 := (blk_grown hgrow7 HB5.out hNb).set_ 2 (.slice (some ⟨gN, 0, none⟩) (m + 1) capN)
        exact h1
      have HO8 := Lib.hid (ownsRow_setCell_below hown7 (a := ⟨B, 2, none⟩) (by show B < B + 1; omega) (.slice (some ⟨gN, 0, none⟩) (m + 1) capN))
      have HL8 : Hid (∀ g', (Value.slice (some ⟨gN, 0, none⟩) (m + 1) capN).ownBlock = some g' → (Value.slice pN m kN).ownBlock = some g' ∨ w5.heap.size ≤ g') := fun g' hg' => by
        obtain rfl : gN = g' := Option.some.inj hg'
        rcases hwhere7 with h1 | h1
        · exact Or.inl h1
        · exact Or.inr (by omega)
      clear hown7 hgrow7 hwhere7
      go_end0
      rw [HQ.out]
      have hmk : 0 ≤ s.O.length := by have := Hn.out; omega
      have hend := add_end (x := ⟨k, x.t, nn, z, [], a⟩) (kc := 0) (p := none) HP.out HB2.out HKid.out Ht.out HG5.out (by rw [← HmS.out]; exact HO5.out) HL5.out (by rw [← HmN.out]; exact HG8.out) HB8.out (by rw [HD0.out, ← HmN.out]; exact HO8.out) (by rw [← HmN.out]; exact HL8.out) hmk hN
      exact addPost (s := s) (x := ⟨k, x.t, nn, z, [], a⟩) (mark := 0) hmk hN ⟨hend.1, _, _, _, _, hend.2⟩
end Go.Proofs.YtbjacclfhgnffaaGreatDoor
/-
  The contract of add, where no loose node is behind the mark; and at every state.
-/
namespace Go.Proofs.YtbjacclfhgnffaaGreatDoor
open Go.RowKit
open Tk (T4 bstr)
open Tr (Nd Blk KidsAt)

theorem add_any {B T E : Nat} {w : World} {s : S3} (h : Ps B T E w s) (x : Mn) (hx : x.c = []) (mark : Nat) (hr : addF x mark s ≠ .out) :
    Calls Tryz.prog 109 #[.pointer (some ⟨B, 2, none⟩), nodeV x, .int .i64 mark] w (AddPost B T E w (addF x mark s)) := by
  have h0 : ¬ (s.O.length < mark ∨ 5000000 ≤ s.N.length) := fun e => hr (if_pos e)
  have hx2 : x = ⟨x.k, x.t, x.n, x.z, [], x.a⟩ := by rw [← hx]
  have ht : (bstr x.t).data.toList = x.t := rfl
  rw [hx2]
  obtain ⟨vT, vN, vL, ns, h⟩ := h
  rcases h.loo.2 with ⟨hv, hl⟩ | ⟨g, cap, cur, hv, _, _, hcap, _⟩
  · subst hv
    exact add_nil h (by omega) (by omega) x.k x.n x.z x.a x _ ht
  · subst hv
    by_cases hm : mark < s.O.length
    · exact add_some h rfl mark hm (by omega) x.k x.n x.z x.a x _ ht
    · have e : mark = s.O.length := by omega
      rw [← e] at h hcap
      by_cases hc : mark < cap
      · exact add_room h e hc (by omega) x.k x.n x.z x.a x _ ht
      · exact add_full h e (by omega) (by omega) x.k x.n x.z x.a x _ ht
end Go.Proofs.YtbjacclfhgnffaaGreatDoor
/-
  The contracts of extend and build.
-/
namespace Go.Proofs.YtbjacclfhgnffaaGreatDoor
open Go.RowKit
open Tk (T4 bstr)
open Tr (Nd Blk KidsAt)

theorem did_ret {B T E : Nat} {w w' : World} {r : R3} {e : Ending} (h : Did B T E w r e w') (hr : r ≠ .out) : ∃ v, e = .returned v ∧ Did B T E w r (.returned v) w' := by
  cases r with
  | out => exact absurd rfl hr
  | ok s => obtain ⟨rfl, h2⟩ := h; exact ⟨_, rfl, rfl, h2⟩
  | bad c a => obtain ⟨rfl, h2⟩ := h; exact ⟨_, rfl, rfl, h2⟩
theorem did_ext {B T E : Nat} {w w1 w2 : World} {r : R3} {e : Ending} (h : Did B T E w1 r e w2) (hx : Ext B w w1) : Did B T E w r e w2 := by
  cases r with
  | out => trivial
  | ok s => exact ⟨h.1, hx.trans h.2.1, h.2.2⟩
  | bad c a => exact ⟨h.1, hx.trans h.2⟩
theorem not_own_new {B : Nat} {w : World} (hB : ∃ T E s, Ps B T E w s) : ¬ Own B w w.heap.size := by
  obtain ⟨T, E, s, vT, vN, vL, ns, h⟩ := hB
  intro ho
  rcases (h.own_cases _).1 ho with h1 | h1 | h1
  · have := h.lt; omega
  · have := (h.nod.lt _ h1).2; omega
  · have := (h.loo.lt _ h1).2; omega
theorem Ext.notOwn {B : Nat} {w w' : World} (h : Ext B w w') {g : Nat} (hg : g < w.heap.size) (hn : ¬ Own B w g) : ¬ Own B w' g := fun ho => (h.own g ho).elim hn (fun hle => by omega)
theorem Ext.blk {B g t : Nat} {cs : Array Value} {w w' : World} (h : Ext B w w') (hb : Blk w g t cs) (hn : ¬ Own B w g) : Blk w' g t cs := (h.block g hb.lt hn).trans hb
theorem Steps.ext {B T E : Nat} {w w' : World} {p : Option Addr} {vs : List Value} {fs : List F3} (h : Steps B T E w p vs fs) (hx : Ext B w w') : Steps B T E w' p vs fs := by
  obtain ⟨h1, h2, h3, h4⟩ := h
  refine ⟨h1, h2, fun h0 => ?_, fun j a b => (h4 j a b).ext hx⟩
  obtain ⟨g, hp, hg, hn, hc⟩ := h3 h0
  exact ⟨g, hp, Nat.lt_of_lt_of_le hg hx.size, hx.notOwn hg hn, fun j hj => (hx.cell (p := ⟨g, j, none⟩) hg hn).trans (hc j hj)⟩
theorem own_alloc {B : Nat} {w : World} (hB : B < w.heap.size) (o : Obj) (g : Nat) : Own B (w.alloc o) g ↔ Own B w g := own_same (Below.heap_alloc _ _ _ hB) g
theorem box6 {w : World} {g : Nat} {t : TypeId} {x0 x1 x2 x3 x4 x5 : Value} (h : Blk w g t #[x0, x1, x2, x3, x4, x5]) :
    (w.cell? ⟨g, 0, none⟩ = some x0 ∧ w.cell? ⟨g, 1, none⟩ = some x1 ∧ w.cell? ⟨g, 2, none⟩ = some x2 ∧ w.cell? ⟨g, 3, none⟩ = some x3 ∧ w.cell? ⟨g, 4, none⟩ = some x4 ∧ w.cell? ⟨g, 5, none⟩ = some x5) ∧ g < w.heap.size :=
  ⟨⟨by rw [h.cell]; rfl, by rw [h.cell]; rfl, by rw [h.cell]; rfl, by rw [h.cell]; rfl, by rw [h.cell]; rfl, by rw [h.cell]; rfl⟩, h.lt⟩

set_option maxHeartbeats 4000000 in
set_option maxRecDepth 100000 in
theorem extend_any {B T E : Nat} {w : World} {s : S3} {p : Option Addr} {cap : Nat} {vs : List Value} {fs : List F3} (h : Ps B T E w s) (hS : Steps B T E w p vs fs) (x : Mn) (hx : x.c = []) (mark : Nat) (hr : extF mark x fs s ≠ .out) :
    Calls Tryz.prog 60 #[.pointer (some ⟨B, 2, none⟩), .int .i64 mark, nodeV x, .slice p vs.length cap] w (Did B T E w (extF mark x fs s)) := by
  obtain ⟨Q, hQ⟩ : ∃ Q : Ending → World → Prop, Q = Did B T E w (extF mark x fs s) := ⟨_, rfl⟩
  rw [← hQ]
  have HQ := Lib.hid hQ
  clear hQ
  have hB := h.lt
  unfold extF at hr HQ
  have hne : seqF fs s ≠ .out := fun e => hr (by rw [e]; rfl)
  obtain ⟨y, hy⟩ : ∃ y, y = bstr x.t := ⟨_, rfl⟩
  have Hy := Lib.hid hy
  have Hx := Lib.hid hx
  have hno := not_own_new ⟨T, E, s, h⟩
  have hn1 : ¬ Own B (w.alloc (.cells #[.int .i64 x.k, .string y, .int .i64 x.n, .int .i64 x.z, .slice none 0 0, .int .i64 x.a] 36)) w.heap.size := fun ho => hno ((own_alloc hB _ _).1 ho)
  have hE1 : Ext B w (w.alloc (.cells #[.int .i64 x.k, .string y, .int .i64 x.n, .int .i64 x.z, .slice none 0 0, .int .i64 x.a] 36)) := (Ext.refl _ _).alloc hB _
  have hin := inTurn_any (cap := cap) (h.alloc (.cells #[.int .i64 x.k, .string y, .int .i64 x.n, .int .i64 x.z, .slice none 0 0, .int .i64 x.a] 36)) (hS.ext hE1) hne
  have HR := Lib.hid hr
  have HE1 := Lib.hid hE1
  have HN1 := Lib.hid hn1
  unfold nodeV
  rw [← hy]
  clear hy hx hr hne hS h hno hE1 hn1
  generalize vs.length = n at *
  go_enter Tryz.func60, Tryz.ntmps60
  go_wp2_with (go_at_call 27; refine hin.mono ?_)
  intro e w2 hd
  cases hf : seqF fs s with
  | out => exact absurd (by rw [hf]; rfl) HR.out
  | bad c a =>
    rw [hf] at hd
    obtain ⟨rfl, hx2⟩ := hd
    have HX2 := Lib.hid (HE1.out.trans hx2)
    have Hf := Lib.hid hf
    clear hin hf hx2
    unfold errV
    go_wp2
    rw [HQ.out, Hf.out]
    exact ⟨rfl, HX2.out⟩
  | ok s2 =>
    rw [hf] at hd
    obtain ⟨rfl, hx2, hp2⟩ := hd
    have HX2 := Lib.hid (HE1.out.trans hx2)
    have Hf := Lib.hid hf
    have hbx := hx2.blk (heap_alloc_new w _) HN1.out
    obtain ⟨⟨c0, c1, c2, c3, c4, c5⟩, lb⟩ := box6 hbx
    have hra : addF x mark s2 ≠ .out := fun e => HR.out (by rw [Hf.out]; exact e)
    have hadd := add_any hp2 x Hx.out mark hra
    unfold nodeV at hadd
    rw [← Hy.out] at hadd
    clear hin hf hx2 hp2 hbx hra
    go_wp2_with (go_at_call 109; refine hadd.mono ?_)
    rintro e w3 ⟨rfl, s3, hs3, hx3, hp3⟩
    have HX3 := Lib.hid (HX2.out.trans hx3)
    have HP3 := Lib.hid hp3
    have Hs3 := Lib.hid hs3
    clear hadd hs3 hx3 hp3
    go_wp2
    rw [HQ.out, Hf.out]
    show Did B T E w (addF x mark s2) _ _
    rw [Hs3.out]
    exact ⟨rfl, HX3.out, HP3.out⟩

set_option maxHeartbeats 4000000 in
set_option maxRecDepth 100000 in
theorem build_any {B T E : Nat} {w : World} {s : S3} {p : Option Addr} {cap : Nat} {vs : List Value} {fs : List F3} (h : Ps B T E w s) (hS : Steps B T E w p vs fs) (x : Mn) (hx : x.c = []) (hr : buildF x fs s ≠ .out) :
    Calls Tryz.prog 76 #[.pointer (some ⟨B, 2, none⟩), nodeV x, .slice p vs.length cap] w (Did B T E w (buildF x fs s)) := by
  obtain ⟨Q, hQ⟩ : ∃ Q : Ending → World → Prop, Q = Did B T E w (buildF x fs s) := ⟨_, rfl⟩
  rw [← hQ]
  have HQ := Lib.hid hQ
  clear hQ
  have hB := h.lt
  unfold buildF at hr HQ
  obtain ⟨y, hy⟩ : ∃ y, y = bstr x.t := ⟨_, rfl⟩
  have hE1 : Ext B w (w.alloc (.cells #[.int .i64 x.k, .string y, .int .i64 x.n, .int .i64 x.z, .slice none 0 0, .int .i64 x.a] 36)).drew := ((Ext.refl _ _).alloc hB _).drew
  have hp1 := (h.alloc (.cells #[.int .i64 x.k, .string y, .int .i64 x.n, .int .i64 x.z, .slice none 0 0, .int .i64 x.a] 36)).drew
  have hmk := mark_any hp1
  have hext := extend_any (cap := cap) hp1 (hS.ext hE1) x hx s.O.length hr
  have HE1 := Lib.hid hE1
  have HR := Lib.hid hr
  unfold nodeV at hext ⊢
  rw [← hy] at hext ⊢
  clear hy hx hS h hE1 hp1 hr
  generalize vs.length = n at *
  generalize extF s.O.length x fs s = r at *
  generalize s.O.length = mk at *
  go_enter Tryz.func76, Tryz.ntmps76
  go_wp2
  go_region_with (first | (go_at_call 57; refine hmk.mono ?_; rintro e w' ⟨rfl, rfl⟩) | (go_at_call 60; refine hext.mono ?_; intro e w2 hd; obtain ⟨v, rfl, hd⟩ := did_ret hd HR.out))
  all_goals
    go_wp2
    (try go_ret)
    rw [HQ.out]
    exact did_ext hd HE1.out
end Go.Proofs.YtbjacclfhgnffaaGreatDoor
/-
  What the walks of the parser's own functions share: steps, rows of steps, and the calls that are to be shown.
-/
namespace Go.Proofs.YtbjacclfhgnffaaGreatDoor
open Go.RowKit
open Tk (T4 bstr)
open Tr (Nd Blk KidsAt)

/-- behind W0, with the parser in the state s -/
def Now (B T E : Nat) (s : S3) (W0 W : World) : Prop := Ext B W0 W ∧ Ps B T E W s
theorem Now.alloc {B T E : Nat} {s : S3} {W0 W : World} (h : Now B T E s W0 W) (o : Obj) : Now B T E s W0 (W.alloc o) :=
  ⟨h.1.trans ((Ext.refl _ _).alloc h.2.lt _), h.2.alloc _⟩
theorem Now.refl {B T E : Nat} {s : S3} {W : World} (h : Ps B T E W s) : Now B T E s W W := ⟨Ext.refl _ _, h⟩
theorem enters77 (args : Array Value) (w : World) : (callFunc 110 args).run Tryz.prog w = .ok (.enter 110 args) w := by kernel_rfl
theorem enters21 (args : Array Value) (w : World) : (callFunc 29 args).run Tryz.prog w = .ok (.enter 29 args) w := by kernel_rfl
theorem enters71 (args : Array Value) (w : World) : (callFunc 104 args).run Tryz.prog w = .ok (.enter 104 args) w := by kernel_rfl
theorem enters75 (args : Array Value) (w : World) : (callFunc 108 args).run Tryz.prog w = .ok (.enter 108 args) w := by kernel_rfl
theorem enters163 (args : Array Value) (w : World) : (callFunc 231 args).run Tryz.prog w = .ok (.enter 231 args) w := by kernel_rfl
/-- what word gives -/
theorem word_now {B T E : Nat} {s : S3} {W0 W : World} (h : Now B T E s W0 W) (x : ByteArray) :
    Calls Tryz.prog 61 #[.pointer (some ⟨B, 0, none⟩), .string x] W fun e w' => ∃ g1 g2, e = .returned (.func (.func 110) #[] #[.pointer (some ⟨g1, 0, none⟩), .pointer (some ⟨g2, 0, none⟩)]) ∧
      Now B T E s W0 w' ∧ Ext B W w' ∧ StepV B T E w' (.func (.func 110) #[] #[.pointer (some ⟨g1, 0, none⟩), .pointer (some ⟨g2, 0, none⟩)]) (wordF E x.data.toList) := by
  refine (word_any x W).mono fun e w' ⟨he, hw⟩ => ⟨_, _, he, ?_⟩
  have hB := h.2.lt
  have hE : Ext B W w' := by rw [hw]; exact ((Ext.refl _ _).alloc hB _).alloc hB _
  have hP : Ps B T E w' s := by rw [hw]; exact (h.2.alloc _).alloc _
  have k1 : Blk w' W.heap.size 84 #[.pointer (some ⟨B, 0, none⟩)] := by rw [hw]; exact (Blk.new _ _ _).alloc _
  have k2 : Blk w' (W.heap.size + 1) 9 #[.string x] := by
    rw [hw]
    have := Blk.new (W.alloc (.cells #[.pointer (some ⟨B, 0, none⟩)] 84)) 9 #[.string x]
    rwa [World.size_alloc] at this
  have n1 : ¬ Own B w' W.heap.size := fun ho => (hE.own _ ho).elim (not_own_new ⟨T, E, s, h.2⟩) (fun _ => by
    have h1 := (own_same (B := B) (w := W) (w' := w') (by rw [hw, Below.heap_alloc _ _ _ (by simp; omega), Below.heap_alloc _ _ _ hB]) W.heap.size).1 ho
    exact not_own_new ⟨T, E, s, h.2⟩ h1)
  have n2 : ¬ Own B w' (W.heap.size + 1) := fun ho => by
    have h1 := (own_same (B := B) (w := W) (w' := w') (by rw [hw, Below.heap_alloc _ _ _ (by simp; omega), Below.heap_alloc _ _ _ hB]) (W.heap.size + 1)).1 ho
    obtain ⟨vT, vN, vL, ns, hp⟩ := h.2
    rcases (hp.own_cases _).1 h1 with h2 | h2 | h2
    · omega
    · have := (hp.nod.lt _ h2).2; omega
    · have := (hp.loo.lt _ h2).2; omega
  refine ⟨⟨h.1.trans hE, hP⟩, hE, 110, _, _, rfl, enters77, fun w s1 hx hp _ => ?_⟩
  have c1 := (hx.blk k1 n1).cell 0
  have c2 := (hx.blk k2 n2).cell 0
  exact wordc_any hp W.heap.size (W.heap.size + 1) x c1 c2 (Nat.lt_of_lt_of_le k1.lt hx.size) (hx.notOwn k1.lt n1)

/-- a row of steps that was just laid -/
theorem steps_new {B T E : Nat} {s : S3} {W0 W : World} (h : Now B T E s W0 W) (vs : List Value) (fs : List F3) (hl : vs.length = fs.length) (hm : vs.length ≤ 1000) (hs : ∀ j, (h1 : j < vs.length) → (h2 : j < fs.length) → StepV B T E W vs[j] fs[j]) (t : TypeId) :
    Steps B T E (W.alloc (.cells vs.toArray t)) (some ⟨W.heap.size, 0, none⟩) vs fs := by
  have hE : Ext B W (W.alloc (.cells vs.toArray t)) := (Ext.refl _ _).alloc h.2.lt _
  refine ⟨hl, hm, fun _ => ⟨W.heap.size, rfl, by simp, fun ho => not_own_new ⟨T, E, s, h.2⟩ ((own_alloc h.2.lt _ _).1 ho), fun j hj => ?_⟩, fun j h1 h2 => (hs j h1 h2).ext hE⟩
  rw [(Blk.new W t vs.toArray).cell]
  simp [hj]
/-- what a call of extend, or of build, or of inTurn gives over a row that was just laid -/
def Ends (B T E : Nat) (W0 : World) (r : R3) (e : Ending) (w' : World) : Prop := ∃ v, e = .returned v ∧ Did B T E W0 r (.returned v) w' ∧ Ext B W0 w'
theorem did_x {B T E : Nat} {w w' : World} {r : R3} {e : Ending} (h : Did B T E w r e w') (hr : r ≠ .out) : Ext B w w' := by
  cases r with
  | out => exact absurd rfl hr
  | ok s => exact h.2.1
  | bad c a => exact h.2
theorem ends_of {B T E : Nat} {W0 W w' : World} {r : R3} {e : Ending} (h : Did B T E W r e w') (hr : r ≠ .out) (hx : Ext B W0 W) : Ends B T E W0 r e w' := by
  obtain ⟨v, rfl, hd⟩ := did_ret h hr
  exact ⟨v, rfl, did_ext hd hx, hx.trans (did_x h hr)⟩
theorem build_now {B T E : Nat} {s : S3} {W0 W : World} (h : Now B T E s W0 W) (vs : List Value) (fs : List F3) (hl : vs.length = fs.length) (hm : vs.length ≤ 1000) (hs : ∀ j, (h1 : j < vs.length) → (h2 : j < fs.length) → StepV B T E W vs[j] fs[j]) (x : Mn) (hx : x.c = []) (hr : buildF x fs s ≠ .out) (t : TypeId) :
    Calls Tryz.prog 76 #[.pointer (some ⟨B, 2, none⟩), nodeV x, .slice (some ⟨W.heap.size, 0, none⟩) vs.length vs.length] (W.alloc (.cells vs.toArray t)) (Ends B T E W0 (buildF x fs s)) :=
  (build_any (h.alloc _).2 (steps_new h vs fs hl hm hs t) x hx hr).mono fun e w' hd => ends_of hd hr (h.alloc _).1
theorem extend_now {B T E : Nat} {s : S3} {W0 W : World} (h : Now B T E s W0 W) (vs : List Value) (fs : List F3) (hl : vs.length = fs.length) (hm : vs.length ≤ 1000) (hs : ∀ j, (h1 : j < vs.length) → (h2 : j < fs.length) → StepV B T E W vs[j] fs[j]) (x : Mn) (hx : x.c = []) (mark : Nat) (hr : extF mark x fs s ≠ .out) (t : TypeId) :
    Calls Tryz.prog 60 #[.pointer (some ⟨B, 2, none⟩), .int .i64 mark, nodeV x, .slice (some ⟨W.heap.size, 0, none⟩) vs.length vs.length] (W.alloc (.cells vs.toArray t)) (Ends B T E W0 (extF mark x fs s)) :=
  (extend_any (h.alloc _).2 (steps_new h vs fs hl hm hs t) x hx mark hr).mono fun e w' hd => ends_of hd hr (h.alloc _).1
theorem turn_now {B T E : Nat} {s : S3} {W0 W : World} (h : Now B T E s W0 W) (vs : List Value) (fs : List F3) (hl : vs.length = fs.length) (hm : vs.length ≤ 1000) (hs : ∀ j, (h1 : j < vs.length) → (h2 : j < fs.length) → StepV B T E W vs[j] fs[j]) (hr : seqF fs s ≠ .out) (t : TypeId) :
    Calls Tryz.prog 27 #[.slice (some ⟨W.heap.size, 0, none⟩) vs.length vs.length] (W.alloc (.cells vs.toArray t)) (Ends B T E W0 (seqF fs s)) :=
  (inTurn_any (h.alloc _).2 (steps_new h vs fs hl hm hs t) hr).mono fun e w' hd => ends_of hd hr (h.alloc _).1
theorem step1 {B T E : Nat} {W : World} {v1 : Value} {f1 : F3} (h1 : StepV B T E W v1 f1) : ∀ j, (a : j < [v1].length) → (b : j < [f1].length) → StepV B T E W [v1][j] [f1][j] := fun j a b => by
  match j, a, b with
  | 0, _, _ => exact h1
theorem step2 {B T E : Nat} {W : World} {v1 v2 : Value} {f1 f2 : F3} (h1 : StepV B T E W v1 f1) (h2 : StepV B T E W v2 f2) : ∀ j, (a : j < [v1, v2].length) → (b : j < [f1, f2].length) → StepV B T E W [v1, v2][j] [f1, f2][j] := fun j a b => by
  match j, a, b with
  | 0, _, _ => exact h1
  | 1, _, _ => exact h2
theorem step3 {B T E : Nat} {W : World} {v1 v2 v3 : Value} {f1 f2 f3 : F3} (h1 : StepV B T E W v1 f1) (h2 : StepV B T E W v2 f2) (h3 : StepV B T E W v3 f3) : ∀ j, (a : j < [v1, v2, v3].length) → (b : j < [f1, f2, f3].length) → StepV B T E W [v1, v2, v3][j] [f1, f2, f3][j] := fun j a b => by
  match j, a, b with
  | 0, _, _ => exact h1
  | 1, _, _ => exact h2
  | 2, _, _ => exact h3
theorem step4 {B T E : Nat} {W : World} {v1 v2 v3 v4 : Value} {f1 f2 f3 f4 : F3} (h1 : StepV B T E W v1 f1) (h2 : StepV B T E W v2 f2) (h3 : StepV B T E W v3 f3) (h4 : StepV B T E W v4 f4) : ∀ j, (a : j < [v1, v2, v3, v4].length) → (b : j < [f1, f2, f3, f4].length) → StepV B T E W [v1, v2, v3, v4][j] [f1, f2, f3, f4][j] := fun j a b => by
  match j, a, b with
  | 0, _, _ => exact h1
  | 1, _, _ => exact h2
  | 2, _, _ => exact h3
  | 3, _, _ => exact h4

/-- the calls of the parser's own functions, for so many steps of the plain parser -/
structure CallJ (B T E : Nat) (n : Nat) : Prop where
  expr : ∀ w s, Ps B T E w s → runJ E n .expr s ≠ .out → Calls Tryz.prog 29 #[.pointer (some ⟨B, 0, none⟩)] w (Did B T E w (runJ E n .expr s))
  pairs : ∀ (low : Nat) w s, Ps B T E w s → runJ E n (.pairs low) s ≠ .out → Calls Tryz.prog 58 #[.pointer (some ⟨B, 0, none⟩), .int .i64 low] w (Did B T E w (runJ E n (.pairs low) s))
  prefixed : ∀ w s, Ps B T E w s → runJ E n .prefixed s ≠ .out → Calls Tryz.prog 104 #[.pointer (some ⟨B, 0, none⟩)] w (Did B T E w (runJ E n .prefixed s))
  postfixed : ∀ w s, Ps B T E w s → runJ E n .postfixed s ≠ .out → Calls Tryz.prog 160 #[.pointer (some ⟨B, 0, none⟩)] w (Did B T E w (runJ E n .postfixed s))
  primary : ∀ w s, Ps B T E w s → runJ E n .primary s ≠ .out → Calls Tryz.prog 198 #[.pointer (some ⟨B, 0, none⟩)] w (Did B T E w (runJ E n .primary s))
theorem stepExpr {B T E n : Nat} (h : CallJ B T E n) (w : World) : StepV B T E w (.func (.func 29) #[.pointer (some ⟨B, 0, none⟩)] #[]) (runJ E n .expr) :=
  ⟨29, _, _, rfl, enters21, fun w' s _ hp hr => h.expr w' s hp hr⟩
theorem stepPrefixed {B T E n : Nat} (h : CallJ B T E n) (w : World) : StepV B T E w (.func (.func 104) #[.pointer (some ⟨B, 0, none⟩)] #[]) (runJ E n .prefixed) :=
  ⟨104, _, _, rfl, enters71, fun w' s _ hp hr => h.prefixed w' s hp hr⟩
end Go.Proofs.YtbjacclfhgnffaaGreatDoor
