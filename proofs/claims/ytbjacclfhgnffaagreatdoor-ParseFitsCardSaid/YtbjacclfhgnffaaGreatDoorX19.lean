/-
  Joined texts of this claim: Qr, Qs.
-/
import Derived.Test.YtbjacclfhgnffaaGreatDoorX18
set_option linter.unusedVariables false
set_option linter.unusedSimpArgs false
/-
  The contract of the closure that list gives.
-/
namespace Go.Proofs.YtbjacclfhgnffaaGreatDoor
open Go.RowKit
open Tk (T4 bstr)
open Tr (Nd Blk KidsAt)

set_option maxHeartbeats 8000000 in
set_option maxRecDepth 100000 in
theorem listc_any {B T E n : Nat} {w : World} {s : S3} {gp go ge gi : Nat} {xo xe : ByteArray} {o en : List UInt8} {item : Job} {id : FuncId} {b c : Array Value} (ho : xo.data.toList = o) (he : xe.data.toList = en)
    (hbx : ∀ W, Ext B w W → W.cell? ⟨gp, 0, none⟩ = some (.pointer (some ⟨B, 0, none⟩)) ∧ W.cell? ⟨go, 0, none⟩ = some (.string xo) ∧ W.cell? ⟨ge, 0, none⟩ = some (.string xe) ∧ W.cell? ⟨gi, 0, none⟩ = some (.func (.func id) b c))
    (hen : ∀ args w, (callFunc id args).run Tryz.prog w = .ok (.enter id args) w) (hit : ∀ m, m < n → ∀ W s1, Ext B w W → Ps B T E W s1 → runJ E m item s1 ≠ .out → Calls Tryz.prog id (b ++ c) W (Did B T E W (runJ E m item s1)))
    (h : Ps B T E w s) (hr : runJ E (n + 1) (.list o en item) s ≠ .out) :
    Calls Tryz.prog 231 #[.pointer (some ⟨gp, 0, none⟩), .pointer (some ⟨go, 0, none⟩), .pointer (some ⟨ge, 0, none⟩), .pointer (some ⟨gi, 0, none⟩)] w (Did B T E w (runJ E (n + 1) (.list o en item) s)) := by
  obtain ⟨r, hrr⟩ : ∃ r, r = runJ E (n + 1) (.list o en item) s := ⟨_, rfl⟩
  rw [← hrr] at hr ⊢
  obtain ⟨Q, hQ⟩ : ∃ Q : Ending → World → Prop, Q = Did B T E w r := ⟨_, rfl⟩
  rw [← hQ]
  have HQ := Lib.hid hQ
  have HR := Lib.hid hr
  change r = ((wordF E o s).bind fun s1 => if (pk E s1.L).t = en then .ok { s1 with L := s1.L.tail } else runJ E n (.items en item) s1) at hrr
  have Hrr := Lib.hid hrr
  have HBx := Lib.hid hbx
  have HIt := Lib.hid hit
  have Ho := Lib.hid ho
  have He := Lib.hid he
  have HEn := Lib.hid hen
  have hB := h.lt
  have hWc := word_call (B := B) (T := T) (E := E) (W0 := w.drew) (W := w.drew) (Now.refl h.drew) xo wordF_ne
  rw [ho] at hWc
  have HX0 : Hid (Ext B w w.drew) := (Ext.refl _ _).drew
  have S1 : Hid (∀ W, Ext B w.drew W → W.cell? ⟨gp, 0, none⟩ = some (.pointer (some ⟨B, 0, none⟩)) ∧ W.cell? ⟨go, 0, none⟩ = some (.string xo)) := fun W hW => ⟨(HBx.out W (HX0.out.trans hW)).1, (HBx.out W (HX0.out.trans hW)).2.1⟩
  have S0 : Hid (w.drew.cell? ⟨gp, 0, none⟩ = some (.pointer (some ⟨B, 0, none⟩)) ∧ w.drew.cell? ⟨go, 0, none⟩ = some (.string xo)) := S1.out _ (Ext.refl _ _)
  clear hQ hr hrr hbx hit ho he hen h
  go_enter Tryz.func231, Tryz.ntmps231
  go_wp2
  go_region_held3 (fun W => W.cell? ⟨gp, 0, none⟩ = some (.pointer (some ⟨B, 0, none⟩)) ∧ W.cell? ⟨go, 0, none⟩ = some (.string xo))
    (first | exact S0.out | exact S1.out _ hx5 | exact S1.out _ hx6)
    (first | (go_at_call 61; refine hWc.mono ?_; rintro e w5 ⟨g1, g2, rfl, hx5, h77⟩) | (go_at_call 110; refine h77.mono ?_; rintro e w6 ⟨v, rfl, hd, hx6⟩))
  have HX6 := Lib.hid (HX0.out.trans hx6)
  have HD := Lib.hid hd
  clear hx6 hd h77 hx5 hWc S0 S1
  cases hw : wordF E o s with
  | out => exact absurd hw wordF_ne
  | bad c1 a1 =>
    have HD2 := HD.out
    rw [hw] at HD2
    obtain ⟨hv, _⟩ := HD2
    obtain rfl : v = errV c1 a1 := Ending.returned.inj hv
    have HRb : Hid (r = .bad c1 a1) := by have h := Hrr.out; rw [hw] at h; exact h
    clear hv hw HD
    unfold errV
    go_wp2
    (try go_ret)
    rw [HQ.out, HRb.out]
    exact ⟨rfl, HX6.out⟩
  | ok s1 =>
    have HD2 := HD.out
    rw [hw] at HD2
    obtain ⟨hv, _, hp6⟩ := HD2
    obtain rfl : v = .nilIface := Ending.returned.inj hv
    have HR1 : Hid (r = if (pk E s1.L).t = en then .ok { s1 with L := s1.L.tail } else runJ E n (.items en item) s1) := by have h := Hrr.out; rw [hw] at h; exact h
    have HP6 := Lib.hid hp6
    clear hv hw HD hp6 Hrr
    have S4 : Hid (∀ W, Ext B w6.drew W → W.cell? ⟨gp, 0, none⟩ = some (.pointer (some ⟨B, 0, none⟩)) ∧ W.cell? ⟨ge, 0, none⟩ = some (.string xe)) := fun W hW => ⟨(HBx.out W (HX6.out.drew.trans hW)).1, (HBx.out W (HX6.out.drew.trans hW)).2.2.1⟩
    have S3 : Hid (w6.drew.cell? ⟨gp, 0, none⟩ = some (.pointer (some ⟨B, 0, none⟩)) ∧ w6.drew.cell? ⟨ge, 0, none⟩ = some (.string xe)) := S4.out _ (Ext.refl _ _)
    by_cases ht : (pk E s1.L).t = en
    · have htk := took_yes HP6.out.drew xe He.out ht
      have HR2 : Hid (r = .ok { s1 with L := s1.L.tail }) := by have h := HR1.out; rw [if_pos ht] at h; exact h
      clear ht HR1
      go_wp2
      go_region_held3 (fun W => W.cell? ⟨gp, 0, none⟩ = some (.pointer (some ⟨B, 0, none⟩)) ∧ W.cell? ⟨ge, 0, none⟩ = some (.string xe))
        (first | exact S3.out | exact S4.out _ hx7)
        (first | (go_at_call 111; refine htk.mono ?_; rintro e w7 ⟨rfl, hx7, hp7⟩))
      have HX7 := Lib.hid (HX6.out.drew.trans hx7)
      have HP7 := Lib.hid hp7
      clear hx7 hp7 htk S3 S4
      go_wp2
      (try go_ret)
      rw [HQ.out, HR2.out]
      exact ⟨rfl, HX7.out, HP7.out⟩
    · have htk := took_no HP6.out.drew xe He.out ht
      have HR2 : Hid (r = runJ E n (.items en item) s1) := by have h := HR1.out; rw [if_neg ht] at h; exact h
      clear ht HR1
      go_wp2
      go_region_held3 (fun W => W.cell? ⟨gp, 0, none⟩ = some (.pointer (some ⟨B, 0, none⟩)) ∧ W.cell? ⟨ge, 0, none⟩ = some (.string xe))
        (first | exact S3.out | exact S4.out _ hx7)
        (first | (go_at_call 111; refine htk.mono ?_; rintro e w7 ⟨rfl, hx7, hp7⟩))
      have HX7 := Lib.hid (HX6.out.drew.trans hx7)
      have HP7 := Lib.hid hp7
      clear hx7 hp7 htk S3 S4
      go_wp2
      go_loopg [] n (fun k wr => ∃ s2, k ≤ n ∧ Hid (r = runJ E k (.items en item) s2) ∧ Ext B w wr ∧ Ps B T E wr s2)
      case atStart => exact ⟨s1, Nat.le_refl _, HR2, HX7.out, HP7.out⟩
      case round =>
        obtain ⟨s2, hk, HK, hx, hp⟩ := hrel
        have HXr := Lib.hid hx
        have HPr := Lib.hid hp
        clear hx hp HR2 HX7 HP7
        cases gk with
        | zero => exact absurd HK.out HR.out
        | succ m =>
          have HK2 : Hid (r = (runJ E m item s2).bind fun s3 => if (pk E s3.L).t = [44] then runJ E m (.items en item) { s3 with L := s3.L.tail } else wordF E en s3) := HK.out
          have ci := (HBx.out wr HXr.out).2.2.2
          have hne : runJ E m item s2 ≠ .out := fun e => HR.out (by rw [HK2.out, e]; rfl)
          have hcall := HIt.out m (by omega) wr s2 HXr.out HPr.out hne
          have hent := HEn.out
          clear hne HK
          go_wp2_with (refine hcall.mono ?_)
          intro e w8 hd
          cases hf : runJ E m item s2 with
          | out => exact absurd (by rw [HK2.out, hf]; rfl) HR.out
          | bad c1 a1 =>
            rw [hf] at hd
            obtain ⟨rfl, hx8⟩ := hd
            have HX8 := Lib.hid (HXr.out.trans hx8)
            have HRb : Hid (r = .bad c1 a1) := by have h := HK2.out; rw [hf] at h; exact h
            clear hcall hent hf hx8 ci
            unfold errV
            go_wp2
            (try go_ret)
            rw [HQ.out, HRb.out]
            exact ⟨rfl, HX8.out⟩
          | ok s3 =>
            rw [hf] at hd
            obtain ⟨rfl, hx8, hp8⟩ := hd
            have HX8 := Lib.hid (HXr.out.trans hx8)
            have HP8 := Lib.hid hp8
            have HK3 : Hid (r = if (pk E s3.L).t = [44] then runJ E m (.items en item) { s3 with L := s3.L.tail } else wordF E en s3) := by have h := HK2.out; rw [hf] at h; exact h
            have cp := (HBx.out w8 HX8.out).1
            clear hcall hent hf hx8 hp8 ci HK2 HXr HPr
            by_cases ht : (pk E s3.L).t = [44]
            · have htk := took_yes HP8.out ⟨#[44]⟩ rfl ht
              have HK4 : Hid (r = runJ E m (.items en item) { s3 with L := s3.L.tail }) := by have h := HK3.out; rw [if_pos ht] at h; exact h
              clear ht HK3
              go_wp2_with (go_at_call 111; refine htk.mono ?_; rintro e w9 ⟨rfl, hx9, hp9⟩)
              have HX9 := Lib.hid (HX8.out.trans hx9)
              have HP9 := Lib.hid hp9
              clear hx9 hp9 htk
              go_wp2
              go_roundg m
              case rel => exact ⟨_, by omega, HK4, HX9.out, HP9.out⟩
              case measure => omega
            · have htk := took_no HP8.out ⟨#[44]⟩ rfl ht
              have HK4 : Hid (r = wordF E en s3) := by have h := HK3.out; rw [if_neg ht] at h; exact h
              clear ht HK3
              go_wp2_with (go_at_call 111; refine htk.mono ?_; rintro e w9 ⟨rfl, hx9, hp9⟩)
              have HX9 := Lib.hid (HX8.out.trans hx9)
              have hWc := word_call (B := B) (T := T) (E := E) (W0 := w9.drew) (W := w9.drew) (Now.refl hp9.drew) xe wordF_ne
              rw [He.out, ← HK4.out] at hWc
              have S4 : Hid (∀ W, Ext B w9.drew W → W.cell? ⟨gp, 0, none⟩ = some (.pointer (some ⟨B, 0, none⟩)) ∧ W.cell? ⟨ge, 0, none⟩ = some (.string xe)) := fun W hW => ⟨(HBx.out W (HX9.out.drew.trans hW)).1, (HBx.out W (HX9.out.drew.trans hW)).2.2.1⟩
              have S3 : Hid (w9.drew.cell? ⟨gp, 0, none⟩ = some (.pointer (some ⟨B, 0, none⟩)) ∧ w9.drew.cell? ⟨ge, 0, none⟩ = some (.string xe)) := S4.out _ (Ext.refl _ _)
              clear hx9 hp9 htk cp
              go_wp2
              go_region_held3 (fun W => W.cell? ⟨gp, 0, none⟩ = some (.pointer (some ⟨B, 0, none⟩)) ∧ W.cell? ⟨ge, 0, none⟩ = some (.string xe))
                (first | exact S3.out | exact S4.out _ hx5 | exact S4.out _ hx6)
                (first | (go_at_call 61; refine hWc.mono ?_; rintro e w5 ⟨g1, g2, rfl, hx5, h77⟩) | (go_at_call 110; refine h77.mono ?_; rintro e w10 ⟨v, rfl, hd, hx6⟩))
              have HD := Lib.hid (did_ext hd (HX9.out.drew))
              clear hd hx6 hx5 h77 hWc S3 S4
              go_wp2
              (try go_ret)
              rw [HQ.out]
              exact HD.out
end Go.Proofs.YtbjacclfhgnffaaGreatDoor
/-
  The contract of primary, by those at fewer steps.
-/
namespace Go.Proofs.YtbjacclfhgnffaaGreatDoor
open Go.RowKit
open Tk (T4 bstr)
open Tr (Nd Blk KidsAt)

theorem blk_at {w : World} {g : Nat} {t : TypeId} {cs : Array Value} (h : g = w.heap.size) : Blk (w.alloc (.cells cs t)) g t cs := by subst h; exact Blk.new _ _ _
theorem not_own_ge {B T E : Nat} {w : World} {s : S3} (h : Ps B T E w s) {g : Nat} (hg : w.heap.size ≤ g) : ¬ Own B w g := fun ho => by
  obtain ⟨vT, vN, vL, ns, hp⟩ := h
  rcases (hp.own_cases _).1 ho with h2 | h2 | h2
  · have := hp.lt; omega
  · have := (hp.nod.lt _ h2).2; omega
  · have := (hp.loo.lt _ h2).2; omega
/-- what list gives -/
theorem list_now {B T E n : Nat} {s : S3} {W0 W : World} (h : Now B T E s W0 W) (xo xe : ByteArray) {o en : List UInt8} (ho : xo.data.toList = o) (he : xe.data.toList = en) (item : Job) (id : FuncId) (b c : Array Value)
    (hen : ∀ args w, (callFunc id args).run Tryz.prog w = .ok (.enter id args) w) (hit : ∀ m, m < n → ∀ W1 s1, Ext B W W1 → Ps B T E W1 s1 → runJ E m item s1 ≠ .out → Calls Tryz.prog id (b ++ c) W1 (Did B T E W1 (runJ E m item s1))) :
    Calls Tryz.prog 204 #[.pointer (some ⟨B, 0, none⟩), .string xo, .func (.func id) b c, .string xe] W fun e w' => ∃ g1 g2 g3 g4, e = .returned (.func (.func 231) #[] #[.pointer (some ⟨g1, 0, none⟩), .pointer (some ⟨g2, 0, none⟩), .pointer (some ⟨g3, 0, none⟩), .pointer (some ⟨g4, 0, none⟩)]) ∧
      Now B T E s W0 w' ∧ Ext B W w' ∧ StepV B T E w' (.func (.func 231) #[] #[.pointer (some ⟨g1, 0, none⟩), .pointer (some ⟨g2, 0, none⟩), .pointer (some ⟨g3, 0, none⟩), .pointer (some ⟨g4, 0, none⟩)]) (runJ E (n + 1) (.list o en item)) := by
  refine (list_lay xo xe (.func id) b c W).mono fun e w' ⟨hee, hw⟩ => ⟨_, _, _, _, hee, ?_⟩
  have hB := h.2.lt
  have hb : Below W.heap.size W w' := by
    rw [hw]; exact ((((Below.refl _ _).alloc (Nat.le_refl _) _).alloc (by simp) _).alloc (by simp; omega) _).alloc (by simp; omega) _
  have hE : Ext B W w' := Ext.below hb hB
  have hP : Ps B T E w' s := h.2.below hb
  have k1 : Blk w' W.heap.size 87 #[.pointer (some ⟨B, 0, none⟩)] := by rw [hw]; exact (((blk_at rfl).alloc _).alloc _).alloc _
  have k2 : Blk w' (W.heap.size + 1) 9 #[.string xo] := by rw [hw]; exact ((blk_at (by simp)).alloc _).alloc _
  have k3 : Blk w' (W.heap.size + 1 + 1) 57 #[.func (.func id) b c] := by rw [hw]; exact (blk_at (by simp)).alloc _
  have k4 : Blk w' (W.heap.size + 1 + 1 + 1) 9 #[.string xe] := by rw [hw]; exact blk_at (by simp)
  have hn : ∀ g, W.heap.size ≤ g → ¬ Own B w' g := fun g hg ho => not_own_ge h.2 hg ((own_same (hb.block B hB) g).1 ho)
  refine ⟨⟨h.1.trans hE, hP⟩, hE, 231, _, _, rfl, enters163, fun w s1 hx hp hr => ?_⟩
  exact listc_any ho he (fun W1 h1 => ⟨((hx.trans h1).blk k1 (hn _ (Nat.le_refl _))).cell 0, ((hx.trans h1).blk k2 (hn _ (by omega))).cell 0, ((hx.trans h1).blk k4 (hn _ (by omega))).cell 0, ((hx.trans h1).blk k3 (hn _ (by omega))).cell 0⟩) hen
    (fun m hm W1 s2 h1 h2 h3 => hit m hm W1 s2 (hE.trans (hx.trans h1)) h2 h3) hp hr

theorem steps_nil {B T E : Nat} {w : World} : Steps B T E w none [] [] := ⟨rfl, by simp, fun h => absurd h (by simp), fun j h => absurd h (by simp)⟩
theorem build_nil {B T E : Nat} {w : World} {s : S3} (h : Ps B T E w s) (x : Mn) (hx : x.c = []) (hr : buildF x [] s ≠ .out) :
    Calls Tryz.prog 76 #[.pointer (some ⟨B, 2, none⟩), nodeV x, .slice none 0 0] w (Ends B T E w (buildF x [] s)) :=
  (build_any (cap := 0) h steps_nil x hx hr).mono fun e w' hd => ends_of hd hr (Ext.refl _ _)

/-- by smaller numbers -/
def LtJ (B T E n : Nat) : Prop := ∀ m, m ≤ n → CallJ B T E m
theorem primary_eq (E n : Nat) (s : S3) : runJ E (n + 1) .primary s =
      (if (pk E s.L).k = 2 then buildF (mk 31 [] (pk E s.L).v (pk E s.L).a) [] { s with L := s.L.tail }
      else if (pk E s.L).k = 1 then
        if (pk E s.L.tail).t = [40] then buildF (mk 33 (pk E s.L).t 0 (pk E s.L).a) [runJ E n (.list [40] [41] .expr)] { s with L := s.L.tail }
        else buildF (mk 32 (pk E s.L).t 0 (pk E s.L).a) [] { s with L := s.L.tail }
      else seqF [wordF E [40], runJ E n .expr, wordF E [41]] s) := rfl



set_option maxHeartbeats 8000000 in
set_option maxRecDepth 100000 in
theorem primary_num {B T E n : Nat} (w : World) (s : S3) (h : Ps B T E w s) (hk : (pk E s.L).k = 2) (hr : runJ E (n + 1) .primary s ≠ .out) :
    Calls Tryz.prog 198 #[.pointer (some ⟨B, 0, none⟩)] w (Did B T E w (runJ E (n + 1) .primary s)) := by
  rw [primary_eq, if_pos hk] at hr ⊢
  have hpk := peek_any h
  unfold tokV at hpk
  obtain ⟨t, ht⟩ : ∃ t, t = pk E s.L := ⟨_, rfl⟩
  rw [← ht] at hpk hk hr ⊢
  obtain ⟨r, hrr⟩ : ∃ r, r = buildF (Go.Proofs.YtbjacclfhgnffaaGreatDoor.mk 31 [] t.v t.a) [] { s with L := s.L.tail } := ⟨_, rfl⟩
  rw [← hrr] at hr ⊢
  obtain ⟨Q, hQ⟩ : ∃ Q : Ending → World → Prop, Q = Did B T E w r := ⟨_, rfl⟩
  rw [← hQ]
  have HQ := Lib.hid hQ
  have Hrr := Lib.hid hrr
  have HR := Lib.hid hr
  obtain ⟨x, hx⟩ : ∃ x, x = bstr t.t := ⟨_, rfl⟩
  rw [← hx, hk] at hpk
  have Hx := Lib.hid hx
  have Hh := Lib.hid h
  have hB := h.lt
  clear hk
  clear hQ hr ht hx h hrr
  go_enter Tryz.func198, Tryz.ntmps198
  go_wp2_with (go_at_call 59; refine hpk.mono ?_; rintro e w1 ⟨rfl, hb⟩)
  have hp1 := Hh.out.below hb
  have HE1 := Lib.hid ((Ext.below hb hB).alloc hB (.cells #[.int .i64 2, .string x, .int .i64 t.v, .int .i64 t.a] 82))
  have HBox := Lib.hid (box_far (t := 82) (x0 := .int .i64 2) (x1 := .string x) (x2 := .int .i64 t.v) (x3 := .int .i64 t.a) hp1 (Ext.refl _ _))
  have HP1 := Lib.hid (hp1.alloc (.cells #[.int .i64 2, .string x, .int .i64 t.v, .int .i64 t.a] 82))
  clear hp1 hb hpk
  have htk := take_any HP1.out
  refine htk.mono ?_
  rintro e w3 ⟨rfl, hx3, hp3⟩
  have HX3 := Lib.hid hx3.drew
  have hbn : Calls Tryz.prog 76 #[.pointer (some ⟨B, 2, none⟩), .agg #[.int .i64 31, .string ⟨#[]⟩, .int .i64 t.v, .int .i64 0, .slice none 0 0, .int .i64 t.a], .slice none 0 0] w3.drew (Ends B T E w3.drew r) := by
    have h := build_nil hp3.drew (mk 31 [] t.v t.a) rfl (by rw [← Hrr.out]; exact HR.out)
    rw [← Hrr.out] at h
    exact h
  have S1 : Hid (∀ W, Ext B w3.drew W → W.cell? ⟨w1.heap.size, 2, none⟩ = some (.int .i64 t.v) ∧ W.cell? ⟨w1.heap.size, 3, none⟩ = some (.int .i64 t.a)) := fun W hW => ⟨(tok_box (HBox.out W (HX3.out.trans hW))).2.2.1, (tok_box (HBox.out W (HX3.out.trans hW))).2.2.2⟩
  have S0 : Hid (w3.drew.cell? ⟨w1.heap.size, 2, none⟩ = some (.int .i64 t.v) ∧ w3.drew.cell? ⟨w1.heap.size, 3, none⟩ = some (.int .i64 t.a)) := S1.out _ (Ext.refl _ _)
  clear htk hx3 hp3 HBox
  go_wp2
  go_region_held3 (fun W => W.cell? ⟨w1.heap.size, 2, none⟩ = some (.int .i64 t.v) ∧ W.cell? ⟨w1.heap.size, 3, none⟩ = some (.int .i64 t.a))
    (first | exact S0.out | exact S1.out _ hx9)
    (first | (go_at_call 76; refine hbn.mono ?_; rintro e w9 ⟨v, rfl, hd, hx9⟩))
  have HD := Lib.hid (did_ext hd (HE1.out.trans HX3.out))
  clear hd hx9
  go_wp2
  (try go_ret)
  rw [HQ.out]
  exact HD.out

set_option maxHeartbeats 8000000 in
set_option maxRecDepth 100000 in
theorem primary_name {B T E n : Nat} (w : World) (s : S3) (h : Ps B T E w s) (hk : (pk E s.L).k = 1) (hno : (pk E s.L.tail).t ≠ [40]) (hr : runJ E (n + 1) .primary s ≠ .out) :
    Calls Tryz.prog 198 #[.pointer (some ⟨B, 0, none⟩)] w (Did B T E w (runJ E (n + 1) .primary s)) := by
  rw [primary_eq, if_neg (by rw [hk]; decide), if_pos hk, if_neg hno] at hr ⊢
  have hpk := peek_any h
  unfold tokV at hpk
  obtain ⟨t, ht⟩ : ∃ t, t = pk E s.L := ⟨_, rfl⟩
  rw [← ht] at hpk hk hr ⊢
  obtain ⟨r, hrr⟩ : ∃ r, r = buildF (Go.Proofs.YtbjacclfhgnffaaGreatDoor.mk 32 t.t 0 t.a) [] { s with L := s.L.tail } := ⟨_, rfl⟩
  rw [← hrr] at hr ⊢
  obtain ⟨Q, hQ⟩ : ∃ Q : Ending → World → Prop, Q = Did B T E w r := ⟨_, rfl⟩
  rw [← hQ]
  have HQ := Lib.hid hQ
  have Hrr := Lib.hid hrr
  have HR := Lib.hid hr
  obtain ⟨x, hx⟩ : ∃ x, x = bstr t.t := ⟨_, rfl⟩
  rw [← hx, hk] at hpk
  have Hx := Lib.hid hx
  have Hh := Lib.hid h
  have hB := h.lt
  have HNo := Lib.hid hno
  clear hk hno
  clear hQ hr ht hx h hrr
  go_enter Tryz.func198, Tryz.ntmps198
  go_wp2_with (go_at_call 59; refine hpk.mono ?_; rintro e w1 ⟨rfl, hb⟩)
  have hp1 := Hh.out.below hb
  have HE1 := Lib.hid ((Ext.below hb hB).alloc hB (.cells #[.int .i64 1, .string x, .int .i64 t.v, .int .i64 t.a] 82))
  have HBox := Lib.hid (box_far (t := 82) (x0 := .int .i64 1) (x1 := .string x) (x2 := .int .i64 t.v) (x3 := .int .i64 t.a) hp1 (Ext.refl _ _))
  have HP1 := Lib.hid (hp1.alloc (.cells #[.int .i64 1, .string x, .int .i64 t.v, .int .i64 t.a] 82))
  clear hp1 hb hpk
  have htk := take_any HP1.out
  go_wp2_with (go_at_call 106; refine htk.mono ?_; rintro e w3 ⟨rfl, hx3, hp3⟩)
  have hse := sees_any hp3 ⟨#[40]⟩
  have hsd : decide ((pk E s.L.tail).t = (⟨#[40]⟩ : ByteArray).data.toList) = false := decide_eq_false HNo.out
  rw [hsd] at hse
  clear hsd
  go_wp2_with (go_at_call 161; refine hse.mono ?_; rintro e w4 ⟨rfl, hb4⟩)
  have HX4 := Lib.hid (hx3.trans (Ext.below hb4 hp3.lt)).drew
  have HP4 := Lib.hid (hp3.below hb4).drew
  have S1 : Hid (∀ W, Ext B w4.drew W → W.cell? ⟨w1.heap.size, 1, none⟩ = some (.string x) ∧ W.cell? ⟨w1.heap.size, 3, none⟩ = some (.int .i64 t.a)) := fun W hW => ⟨(tok_box (HBox.out W (HX4.out.trans hW))).2.1, (tok_box (HBox.out W (HX4.out.trans hW))).2.2.2⟩
  have S0 : Hid (w4.drew.cell? ⟨w1.heap.size, 1, none⟩ = some (.string x) ∧ w4.drew.cell? ⟨w1.heap.size, 3, none⟩ = some (.int .i64 t.a)) := S1.out _ (Ext.refl _ _)
  have hbn : Calls Tryz.prog 76 #[.pointer (some ⟨B, 2, none⟩), .agg #[.int .i64 32, .string x, .int .i64 0, .int .i64 0, .slice none 0 0, .int .i64 t.a], .slice none 0 0] w4.drew (Ends B T E w4.drew r) := by
    have h := build_nil HP4.out (mk 32 t.t 0 t.a) rfl (by rw [← Hrr.out]; exact HR.out)
    rw [← Hrr.out] at h
    rw [Hx.out]
    exact h
  clear htk hx3 hp3 HBox hb4 hse
  go_wp2
  go_region_held3 (fun W => W.cell? ⟨w1.heap.size, 1, none⟩ = some (.string x) ∧ W.cell? ⟨w1.heap.size, 3, none⟩ = some (.int .i64 t.a))
    (first | exact S0.out | exact S1.out _ hx9)
    (first | (go_at_call 76; refine hbn.mono ?_; rintro e w9 ⟨v, rfl, hd, hx9⟩))
  have HD := Lib.hid (did_ext hd (HE1.out.trans HX4.out))
  clear hd hx9
  go_wp2
  (try go_ret)
  rw [HQ.out]
  exact HD.out

set_option maxHeartbeats 8000000 in
set_option maxRecDepth 100000 in
theorem primary_call {B T E n : Nat} (J : LtJ B T E n) (w : World) (s : S3) (h : Ps B T E w s) (hk : (pk E s.L).k = 1) (hyes : (pk E s.L.tail).t = [40]) (hr : runJ E (n + 1 + 1) .primary s ≠ .out) :
    Calls Tryz.prog 198 #[.pointer (some ⟨B, 0, none⟩)] w (Did B T E w (runJ E (n + 1 + 1) .primary s)) := by
  rw [primary_eq, if_neg (by rw [hk]; decide), if_pos hk, if_pos hyes] at hr ⊢
  have hpk := peek_any h
  unfold tokV at hpk
  obtain ⟨t, ht⟩ : ∃ t, t = pk E s.L := ⟨_, rfl⟩
  rw [← ht] at hpk hk hr ⊢
  obtain ⟨r, hrr⟩ : ∃ r, r = buildF (mk 33 t.t 0 t.a) [runJ E (n + 1) (.list [40] [41] .expr)] { s with L := s.L.tail } := ⟨_, rfl⟩
  rw [← hrr] at hr ⊢
  obtain ⟨Q, hQ⟩ : ∃ Q : Ending → World → Prop, Q = Did B T E w r := ⟨_, rfl⟩
  rw [← hQ]
  have HQ := Lib.hid hQ
  have Hrr := Lib.hid hrr
  have HR := Lib.hid hr
  obtain ⟨x, hx⟩ : ∃ x, x = bstr t.t := ⟨_, rfl⟩
  rw [← hx, hk] at hpk
  have Hx := Lib.hid hx
  have Hh := Lib.hid h
  have hB := h.lt
  have HYes := Lib.hid hyes
  have HJ := Lib.hid J
  clear hk hyes J
  clear hQ hr ht hx h hrr
  go_enter Tryz.func198, Tryz.ntmps198
  go_wp2_with (go_at_call 59; refine hpk.mono ?_; rintro e w1 ⟨rfl, hb⟩)
  have hp1 := Hh.out.below hb
  have HE1 := Lib.hid ((Ext.below hb hB).alloc hB (.cells #[.int .i64 1, .string x, .int .i64 t.v, .int .i64 t.a] 82))
  have HBox := Lib.hid (box_far (t := 82) (x0 := .int .i64 1) (x1 := .string x) (x2 := .int .i64 t.v) (x3 := .int .i64 t.a) hp1 (Ext.refl _ _))
  have HP1 := Lib.hid (hp1.alloc (.cells #[.int .i64 1, .string x, .int .i64 t.v, .int .i64 t.a] 82))
  clear hp1 hb hpk
  have htk := take_any HP1.out
  go_wp2_with (go_at_call 106; refine htk.mono ?_; rintro e w3 ⟨rfl, hx3, hp3⟩)
  have hse := sees_any hp3 ⟨#[40]⟩
  have hsd : decide ((pk E s.L.tail).t = (⟨#[40]⟩ : ByteArray).data.toList) = true := decide_eq_true HYes.out
  rw [hsd] at hse
  clear hsd
  go_wp2_with (go_at_call 161; refine hse.mono ?_; rintro e w4 ⟨rfl, hb4⟩)
  have HX4 := Lib.hid (hx3.trans (Ext.below hb4 hp3.lt)).drew
  have HP4 := Lib.hid (hp3.below hb4).drew
  have S1 : Hid (∀ W, Ext B w4.drew W → W.cell? ⟨w1.heap.size, 1, none⟩ = some (.string x) ∧ W.cell? ⟨w1.heap.size, 3, none⟩ = some (.int .i64 t.a)) := fun W hW => ⟨(tok_box (HBox.out W (HX4.out.trans hW))).2.1, (tok_box (HBox.out W (HX4.out.trans hW))).2.2.2⟩
  have S0 : Hid (w4.drew.cell? ⟨w1.heap.size, 1, none⟩ = some (.string x) ∧ w4.drew.cell? ⟨w1.heap.size, 3, none⟩ = some (.int .i64 t.a)) := S1.out _ (Ext.refl _ _)
  have N0 : Hid (Now B T E { s with L := s.L.tail } w4.drew w4.drew) := Now.refl HP4.out
  have HLs := Lib.hid (list_now (n := n) N0.out ⟨#[40]⟩ ⟨#[41]⟩ (o := [40]) (en := [41]) rfl rfl .expr 29 #[.pointer (some ⟨B, 0, none⟩)] #[] enters21 (fun m hm W1 s1 _ h2 h3 => (HJ.out m (by omega)).expr W1 s1 h2 h3))
  have HN : Hid (∀ W v, Now B T E { s with L := s.L.tail } w4.drew W → StepV B T E W v (runJ E (n + 1) (.list [40] [41] .expr)) → Calls Tryz.prog 76 #[.pointer (some ⟨B, 2, none⟩), .agg #[.int .i64 33, .string x, .int .i64 0, .int .i64 0, .slice none 0 0, .int .i64 t.a], .slice (some ⟨W.heap.size, 0, none⟩) 1 1] (W.alloc (.cells #[v] 57)) (Ends B T E w4.drew r)) := fun W v hW hv => by
    have h := build_now hW [v] [runJ E (n + 1) (.list [40] [41] .expr)] rfl (by simp) (step1 hv) (mk 33 t.t 0 t.a) rfl (by rw [← Hrr.out]; exact HR.out) 57
    rw [← Hrr.out] at h
    rw [Hx.out]
    exact h
  clear htk hx3 hp3 HBox hb4 hse
  go_wp2
  go_region_held3 (fun W => W.cell? ⟨w1.heap.size, 1, none⟩ = some (.string x) ∧ W.cell? ⟨w1.heap.size, 3, none⟩ = some (.int .i64 t.a))
    (first | exact S0.out | exact S1.out _ hn5.1 | exact S1.out _ (hn5.alloc _).1 | exact S1.out _ hx9)
    (first | (go_at_call 204; refine HLs.out.mono ?_; rintro e w5 ⟨g1, g2, g3, g4, rfl, hn5, -, hs5⟩) | (go_at_call 76; refine (HN.out _ _ hn5 hs5).mono ?_; rintro e w9 ⟨v, rfl, hd, hx9⟩))
  all_goals
    have HD := Lib.hid (did_ext hd (HE1.out.trans HX4.out))
    clear hd hx9 hs5 hn5
    go_wp2
    (try go_ret)
    rw [HQ.out]
    exact HD.out

set_option maxHeartbeats 8000000 in
set_option maxRecDepth 100000 in
theorem primary_paren {B T E n : Nat} (J : CallJ B T E n) (w : World) (s : S3) (h : Ps B T E w s) (hk : (pk E s.L).k ≠ 2) (hk1 : (pk E s.L).k ≠ 1) (hr : runJ E (n + 1) .primary s ≠ .out) :
    Calls Tryz.prog 198 #[.pointer (some ⟨B, 0, none⟩)] w (Did B T E w (runJ E (n + 1) .primary s)) := by
  rw [primary_eq, if_neg hk, if_neg hk1] at hr ⊢
  have hpk := peek_any h
  unfold tokV at hpk
  obtain ⟨t, ht⟩ : ∃ t, t = pk E s.L := ⟨_, rfl⟩
  rw [← ht] at hpk hk hk1
  obtain ⟨r, hrr⟩ : ∃ r, r = seqF [wordF E [40], runJ E n .expr, wordF E [41]] s := ⟨_, rfl⟩
  rw [← hrr] at hr ⊢
  obtain ⟨Q, hQ⟩ : ∃ Q : Ending → World → Prop, Q = Did B T E w r := ⟨_, rfl⟩
  rw [← hQ]
  have HQ := Lib.hid hQ
  have Hrr := Lib.hid hrr
  have HR := Lib.hid hr
  obtain ⟨x, hx⟩ : ∃ x, x = bstr t.t := ⟨_, rfl⟩
  rw [← hx] at hpk
  have Hx := Lib.hid hx
  have Hh := Lib.hid h
  have hB := h.lt
  have HJ := Lib.hid J
  have e2 : ((t.k : Int) == 2) = false := by simpa using (show ¬ ((t.k : Int) = 2) by omega)
  have e1 : ((t.k : Int) == 1) = false := by simpa using (show ¬ ((t.k : Int) = 1) by omega)
  clear hk hk1 J
  clear hQ hr ht hx h hrr
  go_enter Tryz.func198, Tryz.ntmps198
  go_wp2_with (go_at_call 59; refine hpk.mono ?_; rintro e w1 ⟨rfl, hb⟩)
  have hp1 := Hh.out.below hb
  have HE1 := Lib.hid ((Ext.below hb hB).alloc hB (.cells #[.int .i64 t.k, .string x, .int .i64 t.v, .int .i64 t.a] 82))
  have HBox := Lib.hid (box_far (t := 82) (x0 := .int .i64 t.k) (x1 := .string x) (x2 := .int .i64 t.v) (x3 := .int .i64 t.a) hp1 (Ext.refl _ _))
  have HP1 := Lib.hid (hp1.alloc (.cells #[.int .i64 t.k, .string x, .int .i64 t.v, .int .i64 t.a] 82))
  clear hp1 hb hpk
  have HE1d := Lib.hid HE1.out.drew
  have HP1d := Lib.hid HP1.out.drew
  clear HBox HP1
  generalize w1.alloc (.cells #[.int .i64 t.k, .string x, .int .i64 t.v, .int .i64 t.a] 82) = W1 at *
  have HWa : Hid (∀ W, Now B T E s W1.drew W → Calls Tryz.prog 61 #[.pointer (some ⟨B, 0, none⟩), .string ⟨#[40]⟩] W fun e w' => ∃ g1 g2, e = .returned (.func (.func 110) #[] #[.pointer (some ⟨g1, 0, none⟩), .pointer (some ⟨g2, 0, none⟩)]) ∧
      Now B T E s W1.drew w' ∧ Ext B W w' ∧ StepV B T E w' (.func (.func 110) #[] #[.pointer (some ⟨g1, 0, none⟩), .pointer (some ⟨g2, 0, none⟩)]) (wordF E [40])) := fun W hW => word_now hW ⟨#[40]⟩
  have HWb : Hid (∀ W, Now B T E s W1.drew W → Calls Tryz.prog 61 #[.pointer (some ⟨B, 0, none⟩), .string ⟨#[41]⟩] W fun e w' => ∃ g1 g2, e = .returned (.func (.func 110) #[] #[.pointer (some ⟨g1, 0, none⟩), .pointer (some ⟨g2, 0, none⟩)]) ∧
      Now B T E s W1.drew w' ∧ Ext B W w' ∧ StepV B T E w' (.func (.func 110) #[] #[.pointer (some ⟨g1, 0, none⟩), .pointer (some ⟨g2, 0, none⟩)]) (wordF E [41])) := fun W hW => word_now hW ⟨#[41]⟩
  have HN : Hid (∀ W v1 v2, Now B T E s W1.drew W → StepV B T E W v1 (wordF E [40]) → StepV B T E W v2 (wordF E [41]) → Calls Tryz.prog 27 #[.slice (some ⟨W.heap.size, 0, none⟩) 3 3] (W.alloc (.cells #[v1, .func (.func 29) #[.pointer (some ⟨B, 0, none⟩)] #[], v2] 57)) (Ends B T E W1.drew r)) := fun W v1 v2 hW h1 h2 => by
    have h := turn_now hW [v1, .func (.func 29) #[.pointer (some ⟨B, 0, none⟩)] #[], v2] [wordF E [40], runJ E n .expr, wordF E [41]] rfl (by simp) (step3 h1 (stepExpr HJ.out W) h2) (by rw [← Hrr.out]; exact HR.out) 57
    rw [← Hrr.out] at h
    exact h
  have N0 : Hid (Now B T E s W1.drew W1.drew) := Now.refl HP1d.out
  go_wp2
  go_region_held3 (fun W => True)
    (first | exact trivial)
    (first | (go_at_call 61; first | ((with_reducible refine (HWa.out _ N0.out).mono ?_); rintro e w5 ⟨g1, g2, rfl, hn5, -, hs5⟩) | ((with_reducible refine (HWb.out _ hn5).mono ?_); rintro e w6 ⟨g3, g4, rfl, hn6, hx56, hs6⟩)) | (go_at_call 27; refine (HN.out _ _ _ hn6 (hs5.ext hx56) hs6).mono ?_; rintro e w9 ⟨v, rfl, hd, hx9⟩))
  all_goals
    have HD := Lib.hid (did_ext hd (HE1d.out))
    clear hd hx9 hs5 hn5 hs6 hn6 hx56
    go_wp2
    (try go_ret)
    rw [HQ.out]
    exact HD.out

theorem primary_step {B T E n : Nat} (J : LtJ B T E n) (w : World) (s : S3) (h : Ps B T E w s) (hr : runJ E (n + 1) .primary s ≠ .out) :
    Calls Tryz.prog 198 #[.pointer (some ⟨B, 0, none⟩)] w (Did B T E w (runJ E (n + 1) .primary s)) := by
  by_cases h2 : (pk E s.L).k = 2
  · exact primary_num w s h h2 hr
  · by_cases h1 : (pk E s.L).k = 1
    · by_cases hp : (pk E s.L.tail).t = [40]
      · cases n with
        | zero => exact absurd (by rw [primary_eq, if_neg h2, if_pos h1, if_pos hp]; rfl) hr
        | succ n => exact primary_call (fun m hm => J m (by omega)) w s h h1 hp hr
      · exact primary_name w s h h1 hp hr
    · exact primary_paren (J n (Nat.le_refl _)) w s h h2 h1 hr
end Go.Proofs.YtbjacclfhgnffaaGreatDoor
