/-
  Joined texts of this claim: Qj, Qk, Ql.
-/
import Derived.Test.YtbjacclfhgnffaaGreatDoorX14
set_option linter.unusedVariables false
set_option linter.unusedSimpArgs false
/-
  The contract of add, where no loose node is behind the mark; and at every state.
-/
namespace Go.Proofs.YtbjacclfhgnffaaGreatDoor
open Go.RowKit
open Tk (T4 bstr)
open Tr (Nd Blk KidsAt)

set_option maxHeartbeats 8000000 in
set_option maxRecDepth 100000 in
theorem add_full {B T E : Nat} {w : World} {s : S3} {vT vN : Value} {ns : List Nd} {g cap mark : Nat} (h : PS B T E w s vT vN (Value.slice (some ⟨g, 0, none⟩) mark cap) ns) (hn : mark = s.O.length) (hc : mark = cap) (hN : s.N.length < 5000000) (k nn z a : Int) (x : Mn) (t : ByteArray) (htt : t.data.toList = x.t) :
    Calls Tryz.prog 109 #[.pointer (some ⟨B, 2, none⟩), .agg #[.int .i64 k, .string t, .int .i64 nn, .int .i64 z, .slice none 0 0, .int .i64 a], .int .i64 mark] w (AddPost B T E w (addF ⟨k, x.t, nn, z, [], a⟩ mark s)) := by
  obtain ⟨Q, hQ⟩ : ∃ Q : Ending → World → Prop, Q = AddPost B T E w (addF ⟨k, x.t, nn, z, [], a⟩ mark s) := ⟨_, rfl⟩
  rw [← hQ]
  have HQ := Lib.hid hQ
  clear hQ
  have Ht := Lib.hid htt
  clear htt
  have hB := h.lt
  have hO2 := h.lenO
  have hN2 := h.lenN
  rw [← hn] at hO2
  have c3 : w.cell? ⟨B, 3, none⟩ = some (Value.slice (some ⟨g, 0, none⟩) mark cap) := by rw [h.box.cell]; rfl
  have c2 : w.cell? ⟨B, 2, none⟩ = some vN := by rw [h.box.cell]; rfl
  have hloo := h.loo
  rw [← hn] at hloo
  have hcap : mark ≤ cap := by
    rcases hloo.2 with ⟨h, _⟩ | ⟨g', cap', cur, h, _, _, h2, _⟩
    · cases h
    · cases h; exact h2
  subst hc
  have hg : B + 1 ≤ g ∧ g < w.heap.size := hloo.lt g rfl
  have HLoo := Lib.hid hloo
  clear hloo
  have HP := Lib.hid h
  have Hn := Lib.hid hn
  obtain ⟨i0, hi, hz0, hz1, hz2⟩ := info_parts info3
  have hd0 : s.O.drop mark = [] := List.drop_eq_nil_of_le (by omega)
  have HD0 := Lib.hid hd0
  clear h hn hd0
  have hb2 : Below w.heap.size w (w.alloc (.cells #[.int .i64 k, .string t, .int .i64 nn, .int .i64 z, .slice none 0 0, .int .i64 a] 36)) := (Below.refl _ _).alloc (Nat.le_refl _) _
  have k2 : Blk (w.alloc (.cells #[.int .i64 k, .string t, .int .i64 nn, .int .i64 z, .slice none 0 0, .int .i64 a] 36)) w.heap.size 36 #[.int .i64 k, .string t, .int .i64 nn, .int .i64 z, .slice none 0 0, .int .i64 a] := heap_alloc_new w _
  have hkid : KidK w (w.alloc (.cells #[.int .i64 k, .string t, .int .i64 nn, .int .i64 z, .slice none 0 0, .int .i64 a] 36)) none (s.O.drop mark) := fun h0 => by rw [HD0.out] at h0; exact absurd h0 (by simp)

  have HK2 := Lib.hid k2
  have HB2 := Lib.hid hb2
  have HKid := Lib.hid hkid
  clear hb2 k2 hkid
  go_enter Tryz.func109, Tryz.ntmps109
  go_wp2
  generalize w.alloc (.cells #[.int .i64 k, .string t, .int .i64 nn, .int .i64 z, .slice none 0 0, .int .i64 a] 36) = w2 at *
  have c3' : w2.cell? ⟨B, 3, none⟩ = some (Value.slice (some ⟨g, 0, none⟩) mark mark) := (HB2.out.cell (p := ⟨B, 3, none⟩) hB).trans c3
  have c2' : w2.cell? ⟨B, 2, none⟩ = some vN := (HB2.out.cell (p := ⟨B, 2, none⟩) hB).trans c2
  have lB' : B < w2.heap.size := Nat.lt_of_lt_of_le hB HB2.out.size
  obtain ⟨pN, kN, hvN⟩ : ∃ pN kN, vN = .slice pN ns.length kN := by
    rcases HP.out.nod.2 with ⟨h, h0⟩ | ⟨g', cap', cur, h, _⟩
    · exact ⟨none, 0, by rw [h, h0]⟩
    · exact ⟨_, _, h⟩
  subst hvN
  obtain ⟨m, hmN⟩ : ∃ m, m = ns.length := ⟨_, rfl⟩
  have hmS : m = s.N.length := by rw [hmN, ← HP.out.eqN, List.length_map]
  have hNl : m ≤ 5000000 := by have := HP.out.lenN; omega
  rw [← hmN] at c2'
  have HmN := Lib.hid hmN
  have HmS := Lib.hid hmS
  have HBx2 : Hid (Blk w2 B T #[vT, .int .i64 E, .slice pN m kN, (Value.slice (some ⟨g, 0, none⟩) mark mark)]) := by
    have h1 := HB2.out.block B hB
    have h2 := HP.out.box
    rw [← hmN] at h2
    exact h1.trans h2
  have HOw : Hid (∀ W, Below w2.heap.size w2 W → W.ownsRow (B + 1) 3 1 (Value.slice (some ⟨g, 0, none⟩) mark mark) mark (intV (s.O.take mark))) := fun W hW => by
    rw [intV_take]
    have hs := HB2.out.size
    exact own_pre HLoo.out (Nat.le_refl _) ((hW.block g (by omega)).trans (HB2.out.block g hg.2))
  clear hmN hmS c2 c3
  go_region_law (refine step_append_lies _ rfl (.tmp 20) (.tmp 26) 34 rfl (B + 1) 3 i0 (.int .i64 0) 1 8 Tryz.underlying34 hi hz0 hz1 hz2 rfl (by decide) (Value.slice (some ⟨g, 0, none⟩) mark mark) mark (intV (s.O.take mark)) (by simp [Act.eval, Act.put]) (HOw.out _ ((Below.refl _ _).alloc (Nat.le_refl _) _).drew) ⟨w2.heap.size, 0, none⟩ 1 1 [.int .i64 m] (by simp [Act.eval, Act.put]) rfl (news_drew (Tr.Blk.new _ _ _)) (by intro u hu; simp at hu; subst hu; rfl) (by omega) (by unfold maxLen; omega) (by omega) (by simp; omega) (w2.heap.size + 1) (by simp) ?_; intro gL capL w4 hown4 hgrow4 hwhere4 hlt4; have hb4 := blk_grown hgrow4 HBx2.out (fun e => by have h1 : g = B := Option.some.inj e; omega); have d3 := hb4.cell 3; have f3 := hb4.frozen 3; have lB4 := hb4.lt)
  all_goals
    have HG5 : Hid (GS B (Value.slice (some ⟨g, 0, none⟩) mark mark).ownBlock w2 (w4.setCell ⟨B, 3, none⟩ (.slice (some ⟨gL, 0, none⟩) (mark + 1) capL))) := Lib.hid (gs_of hgrow4 3 _)
    have HB5 : Hid (Blk (w4.setCell ⟨B, 3, none⟩ (.slice (some ⟨gL, 0, none⟩) (mark + 1) capL)) B T #[vT, .int .i64 E, .slice pN m kN, .slice (some ⟨gL, 0, none⟩) (mark + 1) capL]) := by
      have h1 := (blk_grown hgrow4 HBx2.out (fun e => by have h1 : g = B := Option.some.inj e; omega)).set_ 3 (.slice (some ⟨gL, 0, none⟩) (mark + 1) capL)
      exact h1
    have HO5 := Lib.hid (ownsRow_setCell_below hown4 (a := ⟨B, 3, none⟩) (by show B < B + 1; omega) (.slice (some ⟨gL, 0, none⟩) (mark + 1) capL))
    have HL5 : Hid (∀ g', (Value.slice (some ⟨gL, 0, none⟩) (mark + 1) capL).ownBlock = some g' → (Value.slice (some ⟨g, 0, none⟩) mark mark).ownBlock = some g' ∨ w2.heap.size ≤ g') := fun g' hg' => by
      obtain rfl : gL = g' := Option.some.inj hg'
      rcases hwhere4 with h1 | h1
      · exact Or.inl h1
      · exact Or.inr (by omega)
    have HK5 : Hid (Blk (w4.setCell ⟨B, 3, none⟩ (.slice (some ⟨gL, 0, none⟩) (mark + 1) capL)) w.heap.size 36 #[.int .i64 k, .string t, .int .i64 nn, .int .i64 z, (.slice none 0 0), .int .i64 a]) :=
      (HG5.out.block _ HK2.out.lt (Nat.ne_of_gt hB) (fun e => by have h1 : g = w.heap.size := Option.some.inj e; omega)).trans HK2.out
    clear hown4 hgrow4 hwhere4
    generalize w4.setCell ⟨B, 3, none⟩ (.slice (some ⟨gL, 0, none⟩) (mark + 1) capL) = w5 at *
    clear hlt4 c2' c3'
    have lB5 := HB5.out.lt
    have c2' := HB5.out.cell 2
    have e0 := HK5.out.cell 0
    have e1 := HK5.out.cell 1
    have e2 := HK5.out.cell 2
    have e3 := HK5.out.cell 3
    have e4 := HK5.out.cell 4
    have e5 := HK5.out.cell 5
    have lK5 := HK5.out.lt
    obtain ⟨j0, hj, hy0, hy1, hy2⟩ := info_parts info36
    go_wp2
    have hNb : (Value.slice pN m kN).ownBlock ≠ some B := fun e => by
      have h1 := HP.out.nod
      rw [← HmN.out] at h1
      have := (h1.lt B e).1; omega
    have HOn : Hid (∀ W, Below w5.heap.size w5 W → W.ownsRow (B + 1) 36 6 (.slice pN m kN) m (rowN ns)) := fun W hW => by
      have h1 := HP.out.nod
      rw [← HmN.out] at h1
      refine ⟨h1.1, ?_⟩
      rcases h1.2 with h2 | ⟨g', cap', cur, hv, hg', hh, r⟩
      · exact Or.inl h2
      · have hob : (Value.slice pN m kN).ownBlock = some g' := by rw [hv]; rfl
        have hlt := (h1.lt g' hob).2
        have hs2 := HB2.out.size
        have hs5 := HG5.out.size
        refine Or.inr ⟨g', cap', cur, hv, hg', ?_, r⟩
        rw [hW.block g' (by omega), HG5.out.block g' (by omega) (by omega) (HP.out.sep g' (by rw [← HmN.out]; exact hob)), HB2.out.block g' hlt]
        exact hh
    go_region_law (refine step_append_lies _ rfl (.tmp 34) (.tmp 36) 22 rfl (B + 1) 36 j0 (.agg #[.int .i64 0, .string ⟨#[]⟩, .int .i64 0, .int .i64 0, .slice none 0 0, .int .i64 0]) 6 72 Tryz.underlying22 hj hy0 hy1 hy2 rfl (by decide) (.slice pN m kN) m (rowN ns) (by simp [Act.eval, Act.put]) (HOn.out _ ((Below.refl _ _).alloc (Nat.le_refl _) _).drew) ⟨w5.heap.size, 0, none⟩ 1 1 [.int .i64 k, .string t, .int .i64 nn, .int .i64 z, (.slice none 0 0), .int .i64 a] (by simp [Act.eval, Act.put]) rfl (news_drew (Tr.Blk.new _ _ _)) (by intro u hu; simp at hu; rcases hu with rfl | rfl | rfl | rfl | rfl | rfl <;> rfl) (by omega) (by unfold maxLen; omega) (by omega) (by simp; omega) (w5.heap.size + 1) (by simp) ?_; intro gN capN w7 hown7 hgrow7 hwhere7 hlt7; have hb7 := blk_grown hgrow7 HB5.out hNb; have d2 := hb7.cell 2; have f2 := hb7.frozen 2; have lB7 := hb7.lt)
    all_goals
      have HG8 : Hid (GS B (Value.slice pN m kN).ownBlock w5 (w7.setCell ⟨B, 2, none⟩ (.slice (some ⟨gN, 0, none⟩) (m + 1) capN))) := Lib.hid (gs_of hgrow7 2 _)
      have HB8 : Hid (Blk (w7.setCell ⟨B, 2, none⟩ (.slice (some ⟨gN, 0, none⟩) (m + 1) capN)) B T #[vT, .int .i64 E, .slice (some ⟨gN, 0, none⟩) (m + 1) capN, .slice (some ⟨gL, 0, none⟩) (mark + 1) capL]) := by
        have h1 := (blk_grown hgrow7 HB5.out hNb).set_ 2 (.slice (some ⟨gN, 0, none⟩) (m + 1) capN)
        exact h1
      have HO8 := Lib.hid (ownsRow_setCell_below hown7 (a := ⟨B, 2, none⟩) (by show B < B + 1; omega) (.slice (some ⟨gN, 0, none⟩) (m + 1) capN))
      have HL8 : Hid (∀ g', (Value.slice (some ⟨gN, 0, none⟩) (m + 1) capN).ownBlock = some g' → (Value.slice pN m kN).ownBlock = some g' ∨ w5.heap.size ≤ g') := fun g' hg' => by
        obtain rfl : gN = g' := Option.some.inj hg'
        rcases hwhere7 with h1 | h1
        · exact Or.inl h1
        · exact Or.inr (by omega)
      clear hown7 hgrow7 hwhere7
      go_end0
      rw [HQ.out]
      have hmk : mark ≤ s.O.length := by have := Hn.out; omega
      have hend := add_end (x := ⟨k, x.t, nn, z, [], a⟩) (kc := 0) (p := none) HP.out HB2.out HKid.out Ht.out HG5.out (by rw [← HmS.out]; exact HO5.out) HL5.out (by rw [← HmN.out]; exact HG8.out) HB8.out (by rw [HD0.out, ← HmN.out]; exact HO8.out) (by rw [← HmN.out]; exact HL8.out) hmk hN
      exact addPost (s := s) (x := ⟨k, x.t, nn, z, [], a⟩) (mark := mark) hmk hN ⟨hend.1, _, _, _, _, hend.2⟩
end Go.Proofs.YtbjacclfhgnffaaGreatDoor
/-
  The contract of add, where no loose node is behind the mark; and at every state.
-/
namespace Go.Proofs.YtbjacclfhgnffaaGreatDoor
open Go.RowKit
open Tk (T4 bstr)
open Tr (Nd Blk KidsAt)

set_option maxHeartbeats 8000000 in
set_option maxRecDepth 100000 in
theorem add_nil {B T E : Nat} {w : World} {s : S3} {vT vN : Value} {ns : List Nd} {mark : Nat} (h : PS B T E w s vT vN (Value.slice none 0 0) ns) (hn : mark = s.O.length) (hN : s.N.length < 5000000) (k nn z a : Int) (x : Mn) (t : ByteArray) (htt : t.data.toList = x.t) :
    Calls Tryz.prog 109 #[.pointer (some ⟨B, 2, none⟩), .agg #[.int .i64 k, .string t, .int .i64 nn, .int .i64 z, .slice none 0 0, .int .i64 a], .int .i64 mark] w (AddPost B T E w (addF ⟨k, x.t, nn, z, [], a⟩ mark s)) := by
  obtain ⟨Q, hQ⟩ : ∃ Q : Ending → World → Prop, Q = AddPost B T E w (addF ⟨k, x.t, nn, z, [], a⟩ mark s) := ⟨_, rfl⟩
  rw [← hQ]
  have HQ := Lib.hid hQ
  clear hQ
  have Ht := Lib.hid htt
  clear htt
  have hB := h.lt
  have hO2 := h.lenO
  have hN2 := h.lenN
  rw [← hn] at hO2
  have c3 : w.cell? ⟨B, 3, none⟩ = some (Value.slice none 0 0) := by rw [h.box.cell]; rfl
  have c2 : w.cell? ⟨B, 2, none⟩ = some vN := by rw [h.box.cell]; rfl
  have hm0 : mark = 0 := by
    rcases h.loo.2 with ⟨_, h0⟩ | ⟨g', cap', cur, h, _⟩
    · rw [hn]; exact h0
    · cases h
  subst hm0
  have HP := Lib.hid h
  have Hn := Lib.hid hn
  obtain ⟨i0, hi, hz0, hz1, hz2⟩ := info_parts info3
  have hd0 : s.O.drop 0 = [] := List.drop_eq_nil_of_le (by omega)
  have HD0 := Lib.hid hd0
  clear h hn hd0
  have hb2 : Below w.heap.size w (w.alloc (.cells #[.int .i64 k, .string t, .int .i64 nn, .int .i64 z, .slice none 0 0, .int .i64 a] 36)) := (Below.refl _ _).alloc (Nat.le_refl _) _
  have k2 : Blk (w.alloc (.cells #[.int .i64 k, .string t, .int .i64 nn, .int .i64 z, .slice none 0 0, .int .i64 a] 36)) w.heap.size 36 #[.int .i64 k, .string t, .int .i64 nn, .int .i64 z, .slice none 0 0, .int .i64 a] := heap_alloc_new w _
  have hkid : KidK w (w.alloc (.cells #[.int .i64 k, .string t, .int .i64 nn, .int .i64 z, .slice none 0 0, .int .i64 a] 36)) none (s.O.drop 0) := fun h0 => by rw [HD0.out] at h0; exact absurd h0 (by simp)

  have HK2 := Lib.hid k2
  have HB2 := Lib.hid hb2
  have HKid := Lib.hid hkid
  clear hb2 k2 hkid
  rw [show (((0 : Nat) : Int)) = (0 : Int) from rfl]
  go_enter Tryz.func109, Tryz.ntmps109
  go_wp2
  generalize w.alloc (.cells #[.int .i64 k, .string t, .int .i64 nn, .int .i64 z, .slice none 0 0, .int .i64 a] 36) = w2 at *
  have c3' : w2.cell? ⟨B, 3, none⟩ = some (Value.slice none 0 0) := (HB2.out.cell (p := ⟨B, 3, none⟩) hB).trans c3
  have c2' : w2.cell? ⟨B, 2, none⟩ = some vN := (HB2.out.cell (p := ⟨B, 2, none⟩) hB).trans c2
  have lB' : B < w2.heap.size := Nat.lt_of_lt_of_le hB HB2.out.size
  obtain ⟨pN, kN, hvN⟩ : ∃ pN kN, vN = .slice pN ns.length kN := by
    rcases HP.out.nod.2 with ⟨h, h0⟩ | ⟨g', cap', cur, h, _⟩
    · exact ⟨none, 0, by rw [h, h0]⟩
    · exact ⟨_, _, h⟩
  subst hvN
  obtain ⟨m, hmN⟩ : ∃ m, m = ns.length := ⟨_, rfl⟩
  have hmS : m = s.N.length := by rw [hmN, ← HP.out.eqN, List.length_map]
  have hNl : m ≤ 5000000 := by have := HP.out.lenN; omega
  rw [← hmN] at c2'
  have HmN := Lib.hid hmN
  have HmS := Lib.hid hmS
  have HBx2 : Hid (Blk w2 B T #[vT, .int .i64 E, .slice pN m kN, (Value.slice none 0 0)]) := by
    have h1 := HB2.out.block B hB
    have h2 := HP.out.box
    rw [← hmN] at h2
    exact h1.trans h2
  have HOw : Hid (∀ W, Below w2.heap.size w2 W → W.ownsRow (B + 1) 3 1 (Value.slice none 0 0) 0 (intV (s.O.take 0))) := fun W hW => by have e : s.O.take 0 = [] := List.take_zero; rw [e]; exact World.ownsRow_nil _ _ _ _
  clear hmN hmS c2 c3
  go_region_law (refine step_append_lies _ rfl (.tmp 20) (.tmp 26) 34 rfl (B + 1) 3 i0 (.int .i64 0) 1 8 Tryz.underlying34 hi hz0 hz1 hz2 rfl (by decide) (Value.slice none 0 0) 0 (intV (s.O.take 0)) (by simp [Act.eval, Act.put]) (HOw.out _ ((Below.refl _ _).alloc (Nat.le_refl _) _).drew) ⟨w2.heap.size, 0, none⟩ 1 1 [.int .i64 m] (by simp [Act.eval, Act.put]) rfl (news_drew (Tr.Blk.new _ _ _)) (by intro u hu; simp at hu; subst hu; rfl) (by omega) (by unfold maxLen; omega) (by omega) (by simp; omega) (w2.heap.size + 1) (by simp) ?_; intro gL capL w4 hown4 hgrow4 hwhere4 hlt4; have hb4 := blk_grown hgrow4 HBx2.out (by simp [Value.ownBlock]); have d3 := hb4.cell 3; have f3 := hb4.frozen 3; have lB4 := hb4.lt)
  all_goals
    have HG5 : Hid (GS B (Value.slice none 0 0).ownBlock w2 (w4.setCell ⟨B, 3, none⟩ (.slice (some ⟨gL, 0, none⟩) (0 + 1) capL))) := Lib.hid (gs_of hgrow4 3 _)
    have HB5 : Hid (Blk (w4.setCell ⟨B, 3, none⟩ (.slice (some ⟨gL, 0, none⟩) (0 + 1) capL)) B T #[vT, .int .i64 E, .slice pN m kN, .slice (some ⟨gL, 0, none⟩) (0 + 1) capL]) := by
      have h1 := (blk_grown hgrow4 HBx2.out (by simp [Value.ownBlock])).set_ 3 (.slice (some ⟨gL, 0, none⟩) (0 + 1) capL)
      exact h1
    have HO5 := Lib.hid (ownsRow_setCell_below hown4 (a := ⟨B, 3, none⟩) (by show B < B + 1; omega) (.slice (some ⟨gL, 0, none⟩) (0 + 1) capL))
    have HL5 : Hid (∀ g', (Value.slice (some ⟨gL, 0, none⟩) (0 + 1) capL).ownBlock = some g' → (Value.slice none 0 0).ownBlock = some g' ∨ w2.heap.size ≤ g') := fun g' hg' => by
      obtain rfl : gL = g' := Option.some.inj hg'
      rcases hwhere4 with h1 | h1
      · exact Or.inl h1
      · exact Or.inr (by omega)
    have HK5 : Hid (Blk (w4.setCell ⟨B, 3, none⟩ (.slice (some ⟨gL, 0, none⟩) (0 + 1) capL)) w.heap.size 36 #[.int .i64 k, .string t, .int .i64 nn, .int .i64 z, (.slice none 0 0), .int .i64 a]) :=
      (HG5.out.block _ HK2.out.lt (Nat.ne_of_gt hB) (by simp [Value.ownBlock])).trans HK2.out
    clear hown4 hgrow4 hwhere4
    generalize w4.setCell ⟨B, 3, none⟩ (.slice (some ⟨gL, 0, none⟩) (0 + 1) capL) = w5 at *
    clear hlt4 c2' c3'
    have lB5 := HB5.out.lt
    have c2' := HB5.out.cell 2
    have e0 := HK5.out.cell 0
    have e1 := HK5.out.cell 1
    have e2 := HK5.out.cell 2
    have e3 := HK5.out.cell 3
    have e4 := HK5.out.cell 4
    have e5 := HK5.out.cell 5
    have lK5 := HK5.out.lt
    obtain ⟨j0, hj, hy0, hy1, hy2⟩ := info_parts info36
    go_wp2
    have hNb : (Value.slice pN m kN).ownBlock ≠ some B := fun e => by
      have h1 := HP.out.nod
      rw [← HmN.out] at h1
      have := (h1.lt B e).1; omega
    have HOn : Hid (∀ W, Below w5.heap.size w5 W → W.ownsRow (B + 1) 36 6 (.slice pN m kN) m (rowN ns)) := fun W hW => by
      have h1 := HP.out.nod
      rw [← HmN.out] at h1
      refine ⟨h1.1, ?_⟩
      rcases h1.2 with h2 | ⟨g', cap', cur, hv, hg', hh, r⟩
      · exact Or.inl h2
      · have hob : (Value.slice pN m kN).ownBlock = some g' := by rw [hv]; rfl
        have hlt := (h1.lt g' hob).2
        have hs2 := HB2.out.size
        have hs5 := HG5.out.size
        refine Or.inr ⟨g', cap', cur, hv, hg', ?_, r⟩
        rw [hW.block g' (by omega), HG5.out.block g' (by omega) (by omega) (HP.out.sep g' (by rw [← HmN.out]; exact hob)), HB2.out.block g' hlt]
        exact hh
    go_region_law (refine step_append_lies _ rfl (.tmp 34) (.tmp 36) 22 rfl (B + 1) 36 j0 (.agg #[.int .i64 0, .string ⟨#[]⟩, .int .i64 0, .int .i64 0, .slice none 0 0, .int .i64 0]) 6 72 Tryz.underlying22 hj hy0 hy1 hy2 rfl (by decide) (.slice pN m kN) m (rowN ns) (by simp [Act.eval, Act.put]) (HOn.out _ ((Below.refl _ _).alloc (Nat.le_refl _) _).drew) ⟨w5.heap.size, 0, none⟩ 1 1 [.int .i64 k, .string t, .int .i64 nn, .int .i64 z, (.slice none 0 0), .int .i64 a] (by simp [Act.eval, Act.put]) rfl (news_drew (Tr.Blk.new _ _ _)) (by intro u hu; simp at hu; rcases hu with rfl | rfl | rfl | rfl | rfl | rfl <;> rfl) (by omega) (by unfold maxLen; omega) (by omega) (by simp; omega) (w5.heap.size + 1) (by simp) ?_; intro gN capN w7 hown7 hgrow7 hwhere7 hlt7; have hb7 := blk_grown hgrow7 HB5.out hNb; have d2 := hb7.cell 2; have f2 := hb7.frozen 2; have lB7 := hb7.lt)
    all_goals
      have HG8 : Hid (GS B (Value.slice pN m kN).ownBlock w5 (w7.setCell ⟨B, 2, none⟩ (.slice (some ⟨gN, 0, none⟩) (m + 1) capN))) := Lib.hid (gs_of hgrow7 2 _)
      have HB8 : Hid (Blk (w7.setCell ⟨B, 2, none⟩ (.slice (some ⟨gN, 0, none⟩) (m + 1) capN)) B T #[vT, .int .i64 E, .slice (some ⟨gN, 0, none⟩) (m + 1) capN, .slice (some ⟨gL, 0, none⟩) (0 + 1) capL]) := by
        have h1 := (blk_grown hgrow7 HB5.out hNb).set_ 2 (.slice (some ⟨gN, 0, none⟩) (m + 1) capN)
        exact h1
      have HO8 := Lib.hid (ownsRow_setCell_below hown7 (a := ⟨B, 2, none⟩) (by show B < B + 1; omega) (.slice (some ⟨gN, 0, none⟩) (m + 1) capN))
      have HL8 : Hid (∀ g', (Value.slice (some ⟨gN, 0, none⟩) (m + 1) capN).ownBlock = some g' → (Value.slice pN m kN).ownBlock = some g' ∨ w5.heap.size ≤ g') := fun g' hg' => by
        obtain rfl : gN = g' := Option.some.inj hg'
        rcases hwhere7 with h1 | h1
        · exact Or.inl h1
        · exact Or.inr (by omega)
      clear hown7 hgrow7 hwhere7
      go_end0
      rw [HQ.out]
      have hmk : 0 ≤ s.O.length := by have := Hn.out; omega
      have hend := add_end (x := ⟨k, x.t, nn, z, [], a⟩) (kc := 0) (p := none) HP.out HB2.out HKid.out Ht.out HG5.out (by rw [← HmS.out]; exact HO5.out) HL5.out (by rw [← HmN.out]; exact HG8.out) HB8.out (by rw [HD0.out, ← HmN.out]; exact HO8.out) (by rw [← HmN.out]; exact HL8.out) hmk hN
      exact addPost (s := s) (x := ⟨k, x.t, nn, z, [], a⟩) (mark := 0) hmk hN ⟨hend.1, _, _, _, _, hend.2⟩
end Go.Proofs.YtbjacclfhgnffaaGreatDoor
/-
  The contract of add, where no loose node is behind the mark; and at every state.
-/
namespace Go.Proofs.YtbjacclfhgnffaaGreatDoor
open Go.RowKit
open Tk (T4 bstr)
open Tr (Nd Blk KidsAt)

theorem add_any {B T E : Nat} {w : World} {s : S3} (h : Ps B T E w s) (x : Mn) (hx : x.c = []) (mark : Nat) (hr : addF x mark s ≠ .out) :
    Calls Tryz.prog 109 #[.pointer (some ⟨B, 2, none⟩), nodeV x, .int .i64 mark] w (AddPost B T E w (addF x mark s)) := by
  have h0 : ¬ (s.O.length < mark ∨ 5000000 ≤ s.N.length) := fun e => hr (if_pos e)
  have hx2 : x = ⟨x.k, x.t, x.n, x.z, [], x.a⟩ := by rw [← hx]
  have ht : (bstr x.t).data.toList = x.t := rfl
  rw [hx2]
  obtain ⟨vT, vN, vL, ns, h⟩ := h
  rcases h.loo.2 with ⟨hv, hl⟩ | ⟨g, cap, cur, hv, _, _, hcap, _⟩
  · subst hv
    exact add_nil h (by omega) (by omega) x.k x.n x.z x.a x _ ht
  · subst hv
    by_cases hm : mark < s.O.length
    · exact add_some h rfl mark hm (by omega) x.k x.n x.z x.a x _ ht
    · have e : mark = s.O.length := by omega
      rw [← e] at h hcap
      by_cases hc : mark < cap
      · exact add_room h e hc (by omega) x.k x.n x.z x.a x _ ht
      · exact add_full h e (by omega) (by omega) x.k x.n x.z x.a x _ ht
end Go.Proofs.YtbjacclfhgnffaaGreatDoor
