/-
  Joined texts of this claim: Uc, Ud, Ue, Uf, Ug.
-/
import Derived.Test.YtmghjfphlneblaaGreatDoorW00
import Derived.Test.YtmghjfphlneblaaGreatDoorW17
set_option maxHeartbeats 40000000
set_option maxRecDepth 100000
set_option linter.unusedVariables false
set_option linter.unusedSimpArgs false
namespace Go.Proofs.YtmghjfphlneblaaGreatDoor
section
open Go.RowKit
open Tk (T4 bstr)
open Tr (Nd Blk KidsAt)

/-- a function of the parser does what f does -/
def FnC (B T E : Nat) (id : FuncId) (f : F3) : Prop := ∀ w s, Ps B T E w s → f s ≠ .out → Calls Tryz.prog id #[.pointer (some ⟨B, 0, none⟩)] w (Did B T E w (f s))
def Ent (id : FuncId) : Prop := ∀ (args : Array Value) (w : World), (callFunc id args).run Tryz.prog w = .ok (.enter id args) w
theorem stepFn {B T E : Nat} {id : FuncId} {f : F3} (h : FnC B T E id f) (he : Ent id) (W : World) : StepV B T E W (.func (.func id) #[.pointer (some ⟨B, 0, none⟩)] #[]) f :=
  ⟨id, _, _, rfl, he, fun w s _ hp hr => h w s hp hr⟩
theorem fnExpr (B T E n : Nat) : FnC B T E 40 (runJ E n .expr) := fun w s hp hr => (callJ n).expr w s hp hr
theorem ent21 : Ent 40 := enters21
theorem ent61 : Ent 70 := fun args w => by kernel_rfl
theorem ent115 : Ent 166 := fun args w => by kernel_rfl
theorem ent141 : Ent 196 := fun args w => by kernel_rfl
theorem ent142 : Ent 197 := fun args w => by kernel_rfl
theorem ent165 : Ent 217 := fun args w => by kernel_rfl
theorem ent166 : Ent 218 := fun args w => by kernel_rfl
theorem ent173 : Ent 230 := fun args w => by kernel_rfl
theorem ent174 : Ent 231 := fun args w => by kernel_rfl
theorem ent176 : Ent 233 := fun args w => by kernel_rfl
theorem ent177 : Ent 234 := fun args w => by kernel_rfl
theorem ent178 : Ent 235 := fun args w => by kernel_rfl
theorem ent188 : Ent 248 := fun args w => by kernel_rfl
theorem ent189 : Ent 249 := fun args w => by kernel_rfl
theorem ent190 : Ent 250 := fun args w => by kernel_rfl
theorem ent191 : Ent 251 := fun args w => by kernel_rfl
theorem ent193 : Ent 253 := fun args w => by kernel_rfl
theorem ent200 : Ent 258 := fun args w => by kernel_rfl
theorem ent22 : Ent 41 := fun args w => by kernel_rfl
theorem ent23 : Ent 38 := fun args w => by kernel_rfl
theorem ent29 : Ent 37 := fun args w => by kernel_rfl
theorem ent37 : Ent 67 := fun args w => by kernel_rfl
theorem peek_now {B T E : Nat} {s : S3} {W0 W : World} (h : Now B T E s W0 W) :
    Calls Tryz.prog 74 #[.pointer (some ⟨B, 0, none⟩)] W fun e w' => e = .returned (.agg #[.int .i64 (pk E s.L).k, .string (bstr (pk E s.L).t), .int .i64 (pk E s.L).v, .int .i64 (pk E s.L).a]) ∧ Now B T E s W0 w' ∧ Ext B W w' :=
  (peek_any h.2).mono fun e w' ⟨he, hb⟩ => ⟨he, ⟨h.1.trans (Ext.below hb h.2.lt), h.2.below hb⟩, Ext.below hb h.2.lt⟩

set_option maxHeartbeats 2000000 in
set_option maxRecDepth 100000 in
theorem braced_lay {B : Nat} (fn : Fn) (b c : Array Value) (w : World) :
    Calls Tryz.prog 216 #[.pointer (some ⟨B, 0, none⟩), .func fn b c] w fun e w' =>
      e = .returned (.func (.func 230) #[] #[.pointer (some ⟨w.heap.size, 0, none⟩), .pointer (some ⟨w.heap.size + 1, 0, none⟩)]) ∧
      w' = (w.alloc (.cells #[.pointer (some ⟨B, 0, none⟩)] 101)).alloc (.cells #[.func fn b c] 71) := by
  go_enter Tryz.func216, Tryz.ntmps216
  go_wp2
  go_ret
  exact ⟨rfl, rfl⟩
set_option maxHeartbeats 2000000 in
set_option maxRecDepth 100000 in
theorem unless_lay {B : Nat} (x : ByteArray) (fn : Fn) (b c : Array Value) (w : World) :
    Calls Tryz.prog 252 #[.pointer (some ⟨B, 0, none⟩), .string x, .func fn b c] w fun e w' =>
      e = .returned (.func (.func 258) #[] #[.pointer (some ⟨w.heap.size, 0, none⟩), .pointer (some ⟨w.heap.size + 1, 0, none⟩), .pointer (some ⟨w.heap.size + 1 + 1, 0, none⟩)]) ∧
      w' = ((w.alloc (.cells #[.pointer (some ⟨B, 0, none⟩)] 101)).alloc (.cells #[.string x] 9)).alloc (.cells #[.func fn b c] 71) := by
  go_enter Tryz.func252, Tryz.ntmps252
  go_wp2
  go_ret
  exact ⟨rfl, rfl⟩
set_option maxHeartbeats 2000000 in
set_option maxRecDepth 100000 in
theorem values_lay {B : Nat} (m : Int) (w : World) :
    Calls Tryz.prog 198 #[.pointer (some ⟨B, 0, none⟩), .int .i64 m] w fun e w' =>
      e = .returned (.func (.func 218) #[] #[.pointer (some ⟨w.heap.size, 0, none⟩), .pointer (some ⟨w.heap.size + 1, 0, none⟩)]) ∧
      w' = (w.alloc (.cells #[.pointer (some ⟨B, 0, none⟩)] 101)).alloc (.cells #[.int .i64 m] 3) := by
  go_enter Tryz.func198, Tryz.ntmps198
  go_wp2
  go_ret
  exact ⟨rfl, rfl⟩

set_option maxHeartbeats 8000000 in
set_option maxRecDepth 100000 in
theorem bracedc_any {B T E n : Nat} {w : World} {s : S3} {gp gi : Nat} {fam : Nat → F3} {id : FuncId} {b c : Array Value}
    (hbx : ∀ W, Ext B w W → W.cell? ⟨gp, 0, none⟩ = some (.pointer (some ⟨B, 0, none⟩)) ∧ W.cell? ⟨gi, 0, none⟩ = some (.func (.func id) b c))
    (hen : Ent id) (hit : ∀ m, m < n → ∀ W s1, Ext B w W → Ps B T E W s1 → fam m s1 ≠ .out → Calls Tryz.prog id (b ++ c) W (Did B T E W (fam m s1)))
    (h : Ps B T E w s) (hr : bracedF E fam n s ≠ .out) :
    Calls Tryz.prog 230 #[.pointer (some ⟨gp, 0, none⟩), .pointer (some ⟨gi, 0, none⟩)] w (Did B T E w (bracedF E fam n s)) := by
  obtain ⟨r, hrr⟩ : ∃ r, r = bracedF E fam n s := ⟨_, rfl⟩
  rw [← hrr] at hr ⊢
  obtain ⟨Q, hQ⟩ : ∃ Q : Ending → World → Prop, Q = Did B T E w r := ⟨_, rfl⟩
  rw [← hQ]
  have HQ := Lib.hid hQ
  have HR := Lib.hid hr
  change r = ((wordF E [123] s).bind (bracesF E fam n)) at hrr
  have Hrr := Lib.hid hrr
  have HBx := Lib.hid hbx
  have HIt := Lib.hid hit
  have HEn := Lib.hid hen
  have hB := h.lt
  have hWc : Calls Tryz.prog 76 #[.pointer (some ⟨B, 0, none⟩), .string ⟨#[123]⟩] w fun e w' => ∃ g1 g2, e = .returned (.func (.func 132) #[] #[.pointer (some ⟨g1, 0, none⟩), .pointer (some ⟨g2, 0, none⟩)]) ∧
      Ext B w w' ∧ Calls Tryz.prog 132 #[.pointer (some ⟨g1, 0, none⟩), .pointer (some ⟨g2, 0, none⟩)] w' (Ends B T E w (wordF E [123] s)) := word_call (B := B) (T := T) (E := E) (W0 := w) (W := w) (Now.refl h) ⟨#[123]⟩ wordF_ne
  have cp := (hbx w (Ext.refl _ _)).1
  clear hQ hr hrr hbx hit hen h
  go_enter Tryz.func230, Tryz.ntmps230
  go_wp2_with (go_at_call 76; refine hWc.mono ?_; rintro e w5 ⟨g1, g2, rfl, hx5, h77⟩)
  refine h77.mono ?_
  rintro e w6 ⟨v, rfl, hd, hx6⟩
  have HX6 := Lib.hid hx6
  have HD := Lib.hid hd
  clear hx6 hd h77 hx5 hWc cp
  cases hw : wordF E [123] s with
  | out => exact absurd hw wordF_ne
  | bad c1 a1 =>
    have HD2 := HD.out
    rw [hw] at HD2
    obtain ⟨hv, _⟩ := HD2
    obtain rfl : v = errV c1 a1 := Ending.returned.inj hv
    have HRb : Hid (r = .bad c1 a1) := by have h := Hrr.out; rw [hw] at h; exact h
    clear hv hw HD
    unfold errV
    go_wp2
    (try go_ret)
    rw [HQ.out, HRb.out]
    exact ⟨rfl, HX6.out⟩
  | ok s1 =>
    have HD2 := HD.out
    rw [hw] at HD2
    obtain ⟨hv, _, hp6⟩ := HD2
    obtain rfl : v = .nilIface := Ending.returned.inj hv
    have HR1 : Hid (r = bracesF E fam n s1) := by have h := Hrr.out; rw [hw] at h; exact h
    have HP6 := Lib.hid hp6
    clear hv hw HD hp6 Hrr
    go_wp2
    go_loopg [] n (fun k wr => ∃ s2, k ≤ n ∧ Hid (r = bracesF E fam k s2) ∧ Ext B w wr ∧ Ps B T E wr s2)
    case atStart => exact ⟨s1, Nat.le_refl _, HR1, HX6.out, HP6.out⟩
    case round =>
      obtain ⟨s2, hk, HK, hx, hp⟩ := hrel
      have HXr := Lib.hid hx
      have HPr := Lib.hid hp
      have cp := (HBx.out wr hx).1
      clear hx hp HR1 HX6 HP6
      cases gk with
      | zero => exact absurd HK.out HR.out
      | succ m =>
        have HK2 : Hid (r = if (pk E s2.L).t = [125] then .ok { s2 with L := s2.L.tail } else (fam m s2).bind (bracesF E fam m)) := HK.out
        clear HK
        by_cases ht : (pk E s2.L).t = [125]
        · have htk := took_yes HPr.out ⟨#[125]⟩ rfl ht
          have HR2 : Hid (r = .ok { s2 with L := s2.L.tail }) := by have h := HK2.out; rw [if_pos ht] at h; exact h
          clear ht HK2
          go_wp2_with (go_at_call 133; refine htk.mono ?_; rintro e w7 ⟨rfl, hx7, hp7⟩)
          have HX7 := Lib.hid (HXr.out.trans hx7)
          have HP7 := Lib.hid hp7
          clear hx7 hp7 htk
          (try go_wp2)
          (try go_ret)
          rw [HQ.out, HR2.out]
          exact ⟨rfl, HX7.out, HP7.out⟩
        · have htk := took_no HPr.out ⟨#[125]⟩ rfl ht
          have HK3 : Hid (r = (fam m s2).bind (bracesF E fam m)) := by have h := HK2.out; rw [if_neg ht] at h; exact h
          have hne : fam m s2 ≠ .out := fun e => HR.out (by rw [HK3.out, e]; rfl)
          have HNe := Lib.hid hne
          clear ht HK2 hne
          go_wp2_with (go_at_call 133; refine htk.mono ?_; rintro e w7 ⟨rfl, hx7, hp7⟩; have ci := (HBx.out w7 (HXr.out.trans hx7)).2; have hent := HEn.out; unfold Ent at hent)
          have HX7 := Lib.hid (HXr.out.trans hx7)
          have hcall := HIt.out m (by omega) w7 s2 HX7.out hp7 HNe.out
          clear hx7 hp7 htk
          refine hcall.mono ?_
          intro e w8 hd
          cases hf : fam m s2 with
          | out => exact absurd hf HNe.out
          | bad c1 a1 =>
            rw [hf] at hd
            obtain ⟨rfl, hx8⟩ := hd
            have HX8 := Lib.hid (HX7.out.trans hx8)
            have HRb : Hid (r = .bad c1 a1) := by have h := HK3.out; rw [hf] at h; exact h
            clear hcall hent hf hx8 ci cp
            unfold errV
            go_wp2
            (try go_ret)
            rw [HQ.out, HRb.out]
            exact ⟨rfl, HX8.out⟩
          | ok s3 =>
            rw [hf] at hd
            obtain ⟨rfl, hx8, hp8⟩ := hd
            have HX8 := Lib.hid (HX7.out.trans hx8)
            have HP8 := Lib.hid hp8
            have HK5 : Hid (r = bracesF E fam m s3) := by have h := HK3.out; rw [hf] at h; exact h
            clear hcall hent hf hx8 hp8 ci cp HK3 HX7
            go_wp2
            go_roundg m
            case rel => exact ⟨s3, by omega, HK5, HX8.out, HP8.out⟩
            case measure => omega
end
section
open Go.RowKit
open Tk (T4 bstr)
open Tr (Nd Blk KidsAt)

theorem sees_yes {B T E : Nat} {w : World} {s : S3} (h : Ps B T E w s) (x : ByteArray) {l : List UInt8} (hl : x.data.toList = l) (ht : (pk E s.L).t = l) :
    Calls Tryz.prog 164 #[.pointer (some ⟨B, 0, none⟩), .string x] w fun e w' => e = .returned (.bool true) ∧ Ext B w w' ∧ Ps B T E w' s := by
  refine (sees_any h x).mono fun e w' ⟨he, hb⟩ => ⟨?_, Ext.below hb h.lt, h.below hb⟩
  rw [he, hl, decide_eq_true ht]
theorem sees_no {B T E : Nat} {w : World} {s : S3} (h : Ps B T E w s) (x : ByteArray) {l : List UInt8} (hl : x.data.toList = l) (ht : (pk E s.L).t ≠ l) :
    Calls Tryz.prog 164 #[.pointer (some ⟨B, 0, none⟩), .string x] w fun e w' => e = .returned (.bool false) ∧ Ext B w w' ∧ Ps B T E w' s := by
  refine (sees_any h x).mono fun e w' ⟨he, hb⟩ => ⟨?_, Ext.below hb h.lt, h.below hb⟩
  rw [he, hl, decide_eq_false ht]

theorem braced_now {B T E n : Nat} {s : S3} {W0 W : World} (h : Now B T E s W0 W) (fam : Nat → F3) (id : FuncId) (hen : Ent id) (hit : ∀ m, m < n → FnC B T E id (fam m)) :
    Calls Tryz.prog 216 #[.pointer (some ⟨B, 0, none⟩), .func (.func id) #[.pointer (some ⟨B, 0, none⟩)] #[]] W fun e w' => ∃ g1 g2, e = .returned (.func (.func 230) #[] #[.pointer (some ⟨g1, 0, none⟩), .pointer (some ⟨g2, 0, none⟩)]) ∧
      Now B T E s W0 w' ∧ Ext B W w' ∧ StepV B T E w' (.func (.func 230) #[] #[.pointer (some ⟨g1, 0, none⟩), .pointer (some ⟨g2, 0, none⟩)]) (bracedF E fam n) := by
  refine (braced_lay (.func id) #[.pointer (some ⟨B, 0, none⟩)] #[] W).mono fun e w' ⟨hee, hw⟩ => ⟨_, _, hee, ?_⟩
  have hB := h.2.lt
  have hb : Below W.heap.size W w' := by
    rw [hw]; exact ((Below.refl _ _).alloc (Nat.le_refl _) _).alloc (by simp) _
  have hE : Ext B W w' := Ext.below hb hB
  have hP : Ps B T E w' s := h.2.below hb
  have k1 : Blk w' W.heap.size 101 #[.pointer (some ⟨B, 0, none⟩)] := by rw [hw]; exact (blk_at rfl).alloc _
  have k2 : Blk w' (W.heap.size + 1) 71 #[.func (.func id) #[.pointer (some ⟨B, 0, none⟩)] #[]] := by rw [hw]; exact blk_at (by simp)
  have hn : ∀ g, W.heap.size ≤ g → ¬ Own B w' g := fun g hg ho => not_own_ge h.2 hg ((own_same (hb.block B hB) g).1 ho)
  refine ⟨⟨h.1.trans hE, hP⟩, hE, 230, _, _, rfl, ent173, fun w s1 hx hp hr => ?_⟩
  exact bracedc_any (fun W1 h1 => ⟨((hx.trans h1).blk k1 (hn _ (Nat.le_refl _))).cell 0, ((hx.trans h1).blk k2 (hn _ (by omega))).cell 0⟩) hen
    (fun m hm W1 s2 _ h2 h3 => hit m hm W1 s2 h2 h3) hp hr

set_option maxHeartbeats 8000000 in
set_option maxRecDepth 100000 in
theorem unlessc_any {B T E : Nat} {w : World} {s : S3} {gp ge gi : Nat} {x : ByteArray} {en : List UInt8} {f : F3} {id : FuncId} (he : x.data.toList = en)
    (hbx : ∀ W, Ext B w W → W.cell? ⟨gp, 0, none⟩ = some (.pointer (some ⟨B, 0, none⟩)) ∧ W.cell? ⟨ge, 0, none⟩ = some (.string x) ∧ W.cell? ⟨gi, 0, none⟩ = some (.func (.func id) #[.pointer (some ⟨B, 0, none⟩)] #[]))
    (hen : Ent id) (hit : FnC B T E id f) (hno : FnC B T E 234 (nothingF E))
    (h : Ps B T E w s) (hr : unlessF E en f s ≠ .out) :
    Calls Tryz.prog 258 #[.pointer (some ⟨gp, 0, none⟩), .pointer (some ⟨ge, 0, none⟩), .pointer (some ⟨gi, 0, none⟩)] w (Did B T E w (unlessF E en f s)) := by
  obtain ⟨r, hrr⟩ : ∃ r, r = unlessF E en f s := ⟨_, rfl⟩
  rw [← hrr] at hr ⊢
  obtain ⟨Q, hQ⟩ : ∃ Q : Ending → World → Prop, Q = Did B T E w r := ⟨_, rfl⟩
  rw [← hQ]
  have HQ := Lib.hid hQ
  have HR := Lib.hid hr
  change r = (if (pk E s.L).t = en then nothingF E s else f s) at hrr
  have Hrr := Lib.hid hrr
  have HBx := Lib.hid hbx
  have HIt := Lib.hid hit
  have HNo := Lib.hid hno
  have HEn := Lib.hid hen
  have hB := h.lt
  have hpd := h.drew
  have HX0 : Hid (Ext B w w.drew) := (Ext.refl _ _).drew
  have S1 : Hid (∀ W, Ext B w.drew W → W.cell? ⟨gp, 0, none⟩ = some (.pointer (some ⟨B, 0, none⟩)) ∧ W.cell? ⟨ge, 0, none⟩ = some (.string x)) := fun W hW => ⟨(HBx.out W (HX0.out.trans hW)).1, (HBx.out W (HX0.out.trans hW)).2.1⟩
  have S0 : Hid (w.drew.cell? ⟨gp, 0, none⟩ = some (.pointer (some ⟨B, 0, none⟩)) ∧ w.drew.cell? ⟨ge, 0, none⟩ = some (.string x)) := S1.out _ (Ext.refl _ _)
  by_cases ht : (pk E s.L).t = en
  · have hse := sees_yes hpd x he ht
    have HR2 : Hid (r = nothingF E s) := by have h := Hrr.out; rw [if_pos ht] at h; exact h
    clear hQ hr hrr hbx hit hno hen h hpd ht he
    go_enter Tryz.func258, Tryz.ntmps258
    go_wp2
    go_region_held3 (fun W => W.cell? ⟨gp, 0, none⟩ = some (.pointer (some ⟨B, 0, none⟩)) ∧ W.cell? ⟨ge, 0, none⟩ = some (.string x))
      (first | exact S0.out | exact S1.out _ hx5)
      (first | (go_at_call 164; refine hse.mono ?_; rintro e w5 ⟨rfl, hx5, hp5⟩))
    have hcall := HNo.out w5 s hp5 (by rw [← HR2.out]; exact HR.out)
    rw [← HR2.out] at hcall
    have HX5 := Lib.hid (HX0.out.trans hx5)
    have cp := (HBx.out w5 HX5.out).1
    clear hx5 hp5 hse S0 S1
    go_wp2_with (go_at_call 234; refine hcall.mono ?_)
    intro e w6 hd
    obtain ⟨v, rfl, hd⟩ := did_ret hd HR.out
    have HD := Lib.hid (did_ext hd HX5.out)
    clear hd hcall
    go_wp2
    (try go_ret)
    rw [HQ.out]
    exact HD.out
  · have hse := sees_no hpd x he ht
    have HR2 : Hid (r = f s) := by have h := Hrr.out; rw [if_neg ht] at h; exact h
    clear hQ hr hrr hbx hit hno hen h hpd ht he
    go_enter Tryz.func258, Tryz.ntmps258
    go_wp2
    go_region_held3 (fun W => W.cell? ⟨gp, 0, none⟩ = some (.pointer (some ⟨B, 0, none⟩)) ∧ W.cell? ⟨ge, 0, none⟩ = some (.string x))
      (first | exact S0.out | exact S1.out _ hx5)
      (first | (go_at_call 164; refine hse.mono ?_; rintro e w5 ⟨rfl, hx5, hp5⟩))
    have hcall := HIt.out w5 s hp5 (by rw [← HR2.out]; exact HR.out)
    rw [← HR2.out] at hcall
    have HX5 := Lib.hid (HX0.out.trans hx5)
    have ci := (HBx.out w5 HX5.out).2.2
    have hent := HEn.out
    unfold Ent at hent
    clear hx5 hp5 hse S0 S1
    go_wp2_with (refine hcall.mono ?_)
    intro e w6 hd
    obtain ⟨v, rfl, hd⟩ := did_ret hd HR.out
    have HD := Lib.hid (did_ext hd HX5.out)
    clear hd hcall hent ci
    go_wp2
    (try go_ret)
    rw [HQ.out]
    exact HD.out
theorem unless_now {B T E : Nat} {s : S3} {W0 W : World} (h : Now B T E s W0 W) (x : ByteArray) {en : List UInt8} (he : x.data.toList = en) (f : F3) (id : FuncId) (hen : Ent id) (hit : FnC B T E id f) (hno : FnC B T E 234 (nothingF E)) :
    Calls Tryz.prog 252 #[.pointer (some ⟨B, 0, none⟩), .string x, .func (.func id) #[.pointer (some ⟨B, 0, none⟩)] #[]] W fun e w' => ∃ g1 g2 g3, e = .returned (.func (.func 258) #[] #[.pointer (some ⟨g1, 0, none⟩), .pointer (some ⟨g2, 0, none⟩), .pointer (some ⟨g3, 0, none⟩)]) ∧
      Now B T E s W0 w' ∧ Ext B W w' ∧ StepV B T E w' (.func (.func 258) #[] #[.pointer (some ⟨g1, 0, none⟩), .pointer (some ⟨g2, 0, none⟩), .pointer (some ⟨g3, 0, none⟩)]) (unlessF E en f) := by
  refine (unless_lay x (.func id) #[.pointer (some ⟨B, 0, none⟩)] #[] W).mono fun e w' ⟨hee, hw⟩ => ⟨_, _, _, hee, ?_⟩
  have hB := h.2.lt
  have hb : Below W.heap.size W w' := by
    rw [hw]; exact (((Below.refl _ _).alloc (Nat.le_refl _) _).alloc (by simp) _).alloc (by simp; omega) _
  have hE : Ext B W w' := Ext.below hb hB
  have hP : Ps B T E w' s := h.2.below hb
  have k1 : Blk w' W.heap.size 101 #[.pointer (some ⟨B, 0, none⟩)] := by rw [hw]; exact ((blk_at rfl).alloc _).alloc _
  have k2 : Blk w' (W.heap.size + 1) 9 #[.string x] := by rw [hw]; exact (blk_at (by simp)).alloc _
  have k3 : Blk w' (W.heap.size + 1 + 1) 71 #[.func (.func id) #[.pointer (some ⟨B, 0, none⟩)] #[]] := by rw [hw]; exact blk_at (by simp)
  have hn : ∀ g, W.heap.size ≤ g → ¬ Own B w' g := fun g hg ho => not_own_ge h.2 hg ((own_same (hb.block B hB) g).1 ho)
  refine ⟨⟨h.1.trans hE, hP⟩, hE, 258, _, _, rfl, ent200, fun w s1 hx hp hr => ?_⟩
  exact unlessc_any he (fun W1 h1 => ⟨((hx.trans h1).blk k1 (hn _ (Nat.le_refl _))).cell 0, ((hx.trans h1).blk k2 (hn _ (by omega))).cell 0, ((hx.trans h1).blk k3 (hn _ (by omega))).cell 0⟩) hen hit hno hp hr
end
section
open Go.RowKit
open Tk (T4 bstr)
open Tr (Nd Blk KidsAt)

set_option maxHeartbeats 16000000 in
set_option maxRecDepth 100000 in
theorem nothing_fn {B T E : Nat} : FnC B T E 234 (nothingF E) := fun w s h hr => by
  obtain ⟨r, hrr⟩ : ∃ r, r = nothingF E s := ⟨_, rfl⟩
  rw [← hrr] at hr ⊢
  obtain ⟨Q, hQ⟩ : ∃ Q : Ending → World → Prop, Q = Did B T E w r := ⟨_, rfl⟩
  rw [← hQ]
  have HQ := Lib.hid hQ
  have HR := Lib.hid hr
  have hB := h.lt
  clear hQ hr
  obtain ⟨t, ht⟩ : ∃ t, t = pk E s.L := ⟨_, rfl⟩
  obtain ⟨x, hx⟩ : ∃ x, x = bstr t.t := ⟨_, rfl⟩
  have hpk : ∀ W, Now B T E s w.drew W → Calls Tryz.prog 74 #[.pointer (some ⟨B, 0, none⟩)] W fun e w' => e = .returned (.agg #[.int .i64 t.k, .string x, .int .i64 t.v, .int .i64 t.a]) ∧ Now B T E s w.drew w' ∧ Ext B W w' := fun W hW => by
    have h := peek_now hW
    rw [← ht, ← hx] at h
    exact h
  change r = buildF (mk 24 [] 0 (pk E s.L).a) [] s at hrr
  rw [← ht] at hrr
  have Hrr := Lib.hid hrr
  have HX0 : Hid (Ext B w w.drew) := (Ext.refl _ _).drew
  have N0 : Hid (Now B T E s w.drew w.drew) := Now.refl h.drew
  have hf := fldT3
  clear hrr ht hx h
  go_enter Tryz.func234, Tryz.ntmps234
  go_wp2
  have HW0 : Hid (∀ W, Now B T E s w.drew W → Calls Tryz.prog 74 #[.pointer (some ⟨B, 0, none⟩)] W fun e w' => e = .returned (.agg #[.int .i64 t.k, .string x, .int .i64 t.v, .int .i64 t.a]) ∧ Now B T E s w.drew w' ∧ Ext B W w') := hpk
  have HN : Hid (∀ W, Now B T E s w.drew W → Calls Tryz.prog 69 #[.pointer (some ⟨B, 2, none⟩), .agg #[.int .i64 24, .string ⟨#[]⟩, .int .i64 0, .int .i64 0, .slice none 0 0, .int .i64 t.a], .slice none 0 0] W (Ends B T E w.drew r)) := fun W hW => by
      have h := (build_nil hW.2 (mk 24 [] 0 t.a) rfl (by rw [← Hrr.out]; exact HR.out)).mono fun e w1 he => (show Ends B T E w.drew _ e w1 from by obtain ⟨v, rfl, hd, hx⟩ := he; exact ⟨v, rfl, did_ext hd hW.1, hW.1.trans hx⟩)
      rw [← Hrr.out] at h
      exact h
  go_region_held3 (fun W => True)
    (first | exact trivial)
    (first | (go_at_call 74; first | ((with_reducible refine (HW0.out _ N0.out).mono ?_); rintro e w0_ ⟨rfl, hn0, hx0⟩)) | (go_at_call 69; refine (HN.out _  hn0).mono ?_; rintro e w9 ⟨v, rfl, hd, hx9⟩))
  all_goals
    have HD := Lib.hid (did_ext hd HX0.out)
    clear hd hx9
    go_wp2
    (try go_ret)
    rw [HQ.out]
    exact HD.out

set_option maxHeartbeats 16000000 in
set_option maxRecDepth 100000 in
theorem effect_fn {B T E : Nat} {ex : F3} (hex : FnC B T E 40 ex) : FnC B T E 235 (effectF E ex) := fun w s h hr => by
  obtain ⟨r, hrr⟩ : ∃ r, r = effectF E ex s := ⟨_, rfl⟩
  rw [← hrr] at hr ⊢
  obtain ⟨Q, hQ⟩ : ∃ Q : Ending → World → Prop, Q = Did B T E w r := ⟨_, rfl⟩
  rw [← hQ]
  have HQ := Lib.hid hQ
  have HR := Lib.hid hr
  have hB := h.lt
  clear hQ hr
  obtain ⟨t, ht⟩ : ∃ t, t = pk E s.L := ⟨_, rfl⟩
  obtain ⟨x, hx⟩ : ∃ x, x = bstr t.t := ⟨_, rfl⟩
  have hpk : ∀ W, Now B T E s w.drew W → Calls Tryz.prog 74 #[.pointer (some ⟨B, 0, none⟩)] W fun e w' => e = .returned (.agg #[.int .i64 t.k, .string x, .int .i64 t.v, .int .i64 t.a]) ∧ Now B T E s w.drew w' ∧ Ext B W w' := fun W hW => by
    have h := peek_now hW
    rw [← ht, ← hx] at h
    exact h
  change r = buildF (mk 13 [] 0 (pk E s.L).a) [ex] s at hrr
  rw [← ht] at hrr
  have Hrr := Lib.hid hrr
  have HX0 : Hid (Ext B w w.drew) := (Ext.refl _ _).drew
  have N0 : Hid (Now B T E s w.drew w.drew) := Now.refl h.drew
  have hf := fldT3
  clear hrr ht hx h
  go_enter Tryz.func235, Tryz.ntmps235
  go_wp2
  have HW0 : Hid (∀ W, Now B T E s w.drew W → Calls Tryz.prog 74 #[.pointer (some ⟨B, 0, none⟩)] W fun e w' => e = .returned (.agg #[.int .i64 t.k, .string x, .int .i64 t.v, .int .i64 t.a]) ∧ Now B T E s w.drew w' ∧ Ext B W w') := hpk
  have HN : Hid (∀ W, Now B T E s w.drew W → Calls Tryz.prog 69 #[.pointer (some ⟨B, 2, none⟩), .agg #[.int .i64 13, .string ⟨#[]⟩, .int .i64 0, .int .i64 0, .slice none 0 0, .int .i64 t.a], .slice (some ⟨W.heap.size, 0, none⟩) 1 1] (W.alloc (.cells #[.func (.func 40) #[.pointer (some ⟨B, 0, none⟩)] #[]] 71)) (Ends B T E w.drew r)) := fun W hW => by
      have h := build_now hW [.func (.func 40) #[.pointer (some ⟨B, 0, none⟩)] #[]] [ex] rfl (by simp) (step1 (stepFn hex ent21 W)) (mk 13 [] 0 t.a) rfl (by rw [← Hrr.out]; exact HR.out) 71
      rw [← Hrr.out] at h
      exact h
  have HE : Hid (∀ W W1, Now B T E s w.drew W → Now B T E s w.drew W1 → Ext B (W.alloc (.cells #[.func (.func 40) #[.pointer (some ⟨B, 0, none⟩)] #[]] 71)) W1 → Calls Tryz.prog 69 #[.pointer (some ⟨B, 2, none⟩), .agg #[.int .i64 13, .string ⟨#[]⟩, .int .i64 0, .int .i64 0, .slice none 0 0, .int .i64 t.a], .slice (some ⟨W.heap.size, 0, none⟩) 1 1] W1 (Ends B T E w.drew r)) := fun W W1 hW hW1 hx => by
      have h := (build_any (cap := 1) hW1.2 ((steps_new hW [.func (.func 40) #[.pointer (some ⟨B, 0, none⟩)] #[]] [ex] rfl (by simp) (step1 (stepFn hex ent21 W)) 71).ext hx) (mk 13 [] 0 t.a) rfl (by rw [← Hrr.out]; exact HR.out)).mono fun e w9 hd => ends_of hd (by rw [← Hrr.out]; exact HR.out) hW1.1
      rw [← Hrr.out] at h
      exact h
  go_region_held3 (fun W => True)
    (first | exact trivial)
    (first | (go_at_call 74; first | ((with_reducible refine (HW0.out _ N0.out).mono ?_); rintro e w0_ ⟨rfl, hn0, hx0⟩) | (refine (HW0.out _ (N0.out.alloc _)).mono ?_; rintro e w0_ ⟨rfl, hn0, hx0⟩)) | (go_at_call 69; first | ((with_reducible refine (HN.out _ hn0).mono ?_); rintro e w9 ⟨v, rfl, hd, hx9⟩) | (refine (HE.out _ _ N0.out hn0 hx0).mono ?_; rintro e w9 ⟨v, rfl, hd, hx9⟩)))
  all_goals
    have HD := Lib.hid (did_ext hd HX0.out)
    clear hd hx9
    go_wp2
    (try go_ret)
    rw [HQ.out]
    exact HD.out

set_option maxHeartbeats 16000000 in
set_option maxRecDepth 100000 in
theorem condition_fn {B T E : Nat} {ex : F3} (hex : FnC B T E 40 ex) : FnC B T E 248 (conditionF E ex) := fun w s h hr => by
  obtain ⟨r, hrr⟩ : ∃ r, r = conditionF E ex s := ⟨_, rfl⟩
  rw [← hrr] at hr ⊢
  obtain ⟨Q, hQ⟩ : ∃ Q : Ending → World → Prop, Q = Did B T E w r := ⟨_, rfl⟩
  rw [← hQ]
  have HQ := Lib.hid hQ
  have HR := Lib.hid hr
  have hB := h.lt
  clear hQ hr
  have Hrr : Hid (r = seqF [wordF E [40], ex, wordF E [41]] s) := hrr
  have HX0 : Hid (Ext B w w.drew) := (Ext.refl _ _).drew
  have N0 : Hid (Now B T E s w.drew w.drew) := Now.refl h.drew
  clear hrr h
  go_enter Tryz.func248, Tryz.ntmps248
  go_wp2
  have HW0 : Hid (∀ W, Now B T E s w.drew W → Calls Tryz.prog 76 #[.pointer (some ⟨B, 0, none⟩), .string ⟨#[40]⟩] W fun e w' => ∃ g1 g2, e = .returned (.func (.func 132) #[] #[.pointer (some ⟨g1, 0, none⟩), .pointer (some ⟨g2, 0, none⟩)]) ∧ Now B T E s w.drew w' ∧ Ext B W w' ∧ StepV B T E w' (.func (.func 132) #[] #[.pointer (some ⟨g1, 0, none⟩), .pointer (some ⟨g2, 0, none⟩)]) (wordF E [40])) := fun W hW => word_now hW ⟨#[40]⟩
  have HW1 : Hid (∀ W, Now B T E s w.drew W → Calls Tryz.prog 76 #[.pointer (some ⟨B, 0, none⟩), .string ⟨#[41]⟩] W fun e w' => ∃ g1 g2, e = .returned (.func (.func 132) #[] #[.pointer (some ⟨g1, 0, none⟩), .pointer (some ⟨g2, 0, none⟩)]) ∧ Now B T E s w.drew w' ∧ Ext B W w' ∧ StepV B T E w' (.func (.func 132) #[] #[.pointer (some ⟨g1, 0, none⟩), .pointer (some ⟨g2, 0, none⟩)]) (wordF E [41])) := fun W hW => word_now hW ⟨#[41]⟩
  have HN : Hid (∀ W v0 v2, Now B T E s w.drew W → StepV B T E W v0 (wordF E [40]) → StepV B T E W v2 (wordF E [41]) → Calls Tryz.prog 35 #[.slice (some ⟨W.heap.size, 0, none⟩) 3 3] (W.alloc (.cells #[v0, .func (.func 40) #[.pointer (some ⟨B, 0, none⟩)] #[], v2] 71)) (Ends B T E w.drew r)) := fun W v0 v2 hW h0 h2 => by
      have h := turn_now hW [v0, .func (.func 40) #[.pointer (some ⟨B, 0, none⟩)] #[], v2] [wordF E [40], ex, wordF E [41]] rfl (by simp) (step3 (h0) (stepFn hex ent21 W) (h2)) (by rw [← Hrr.out]; exact HR.out) 71
      rw [← Hrr.out] at h
      exact h
  go_region_held3 (fun W => True)
    (first | exact trivial)
    (first | (go_at_call 76; first | ((with_reducible refine (HW0.out _ N0.out).mono ?_); rintro e w0_ ⟨q00, q01, rfl, hn0, hx0, hs0⟩) | ((with_reducible refine (HW1.out _ hn0).mono ?_); rintro e w1_ ⟨q10, q11, rfl, hn1, hx1, hs1⟩)) | (go_at_call 35; refine (HN.out _ _ _ hn1 (StepV.ext hs0 hx1) hs1).mono ?_; rintro e w9 ⟨v, rfl, hd, hx9⟩))
  all_goals
    have HD := Lib.hid (did_ext hd HX0.out)
    clear hd hx9
    go_wp2
    (try go_ret)
    rw [HQ.out]
    exact HD.out

set_option maxHeartbeats 16000000 in
set_option maxRecDepth 100000 in
theorem told_fn {B T E : Nat} {ex : F3} (hex : FnC B T E 40 ex) : FnC B T E 233 (toldF E ex) := fun w s h hr => by
  obtain ⟨r, hrr⟩ : ∃ r, r = toldF E ex s := ⟨_, rfl⟩
  rw [← hrr] at hr ⊢
  obtain ⟨Q, hQ⟩ : ∃ Q : Ending → World → Prop, Q = Did B T E w r := ⟨_, rfl⟩
  rw [← hQ]
  have HQ := Lib.hid hQ
  have HR := Lib.hid hr
  have hB := h.lt
  clear hQ hr
  have Hrr : Hid (r = if (pk E s.L).t = [59] then .ok s else ex s) := hrr
  have Hh := Lib.hid h
  clear hrr
  by_cases ht : (pk E s.L).t = [59]
  · have htk := sees_yes Hh.out ⟨#[59]⟩ rfl ht
    have HR2 : Hid (r = .ok s) := by have h := Hrr.out; rw [if_pos ht] at h; exact h
    clear ht h
    go_enter Tryz.func233, Tryz.ntmps233
    go_wp2_with (go_at_call 164; refine htk.mono ?_; rintro e w1 ⟨rfl, hx1, hp1⟩)
    have HX1 := Lib.hid hx1
    have HP1 := Lib.hid hp1
    clear hx1 hp1 htk
    (try go_wp2)
    (try go_ret)
    rw [HQ.out, HR2.out]
    exact ⟨rfl, HX1.out, HP1.out⟩
  · have htk := sees_no Hh.out ⟨#[59]⟩ rfl ht
    have HR2 : Hid (r = ex s) := by have h := Hrr.out; rw [if_neg ht] at h; exact h
    clear ht h
    go_enter Tryz.func233, Tryz.ntmps233
    go_wp2_with (go_at_call 164; refine htk.mono ?_; rintro e w1 ⟨rfl, hx1, hp1⟩)
    have hcall := hex w1 _ hp1 (by rw [← HR2.out]; exact HR.out)
    rw [← HR2.out] at hcall
    have HX1 := Lib.hid hx1
    clear hx1 hp1 htk
    refine hcall.mono ?_
    intro e w2 hd
    obtain ⟨v, rfl, hd⟩ := did_ret hd HR.out
    have HD := Lib.hid (did_ext hd HX1.out)
    clear hd hcall
    go_wp2
    (try go_ret)
    rw [HQ.out]
    exact HD.out

set_option maxHeartbeats 16000000 in
set_option maxRecDepth 100000 in
theorem initial_fn {B T E : Nat} {ex : F3} (hex : FnC B T E 40 ex) : FnC B T E 166 (initialF E ex) := fun w s h hr => by
  obtain ⟨r, hrr⟩ : ∃ r, r = initialF E ex s := ⟨_, rfl⟩
  rw [← hrr] at hr ⊢
  obtain ⟨Q, hQ⟩ : ∃ Q : Ending → World → Prop, Q = Did B T E w r := ⟨_, rfl⟩
  rw [← hQ]
  have HQ := Lib.hid hQ
  have HR := Lib.hid hr
  have hB := h.lt
  clear hQ hr
  have Hrr : Hid (r = if (pk E s.L).t = [61] then ex { s with L := s.L.tail } else .ok s) := hrr
  have Hh := Lib.hid h
  clear hrr
  by_cases ht : (pk E s.L).t = [61]
  · have htk := took_yes Hh.out ⟨#[61]⟩ rfl ht
    have HR2 : Hid (r = ex { s with L := s.L.tail }) := by have h := Hrr.out; rw [if_pos ht] at h; exact h
    clear ht h
    go_enter Tryz.func166, Tryz.ntmps166
    go_wp2_with (go_at_call 133; refine htk.mono ?_; rintro e w1 ⟨rfl, hx1, hp1⟩)
    have hcall := hex w1 _ hp1 (by rw [← HR2.out]; exact HR.out)
    rw [← HR2.out] at hcall
    have HX1 := Lib.hid hx1
    clear hx1 hp1 htk
    refine hcall.mono ?_
    intro e w2 hd
    obtain ⟨v, rfl, hd⟩ := did_ret hd HR.out
    have HD := Lib.hid (did_ext hd HX1.out)
    clear hd hcall
    go_wp2
    (try go_ret)
    rw [HQ.out]
    exact HD.out
  · have htk := took_no Hh.out ⟨#[61]⟩ rfl ht
    have HR2 : Hid (r = .ok s) := by have h := Hrr.out; rw [if_neg ht] at h; exact h
    clear ht h
    go_enter Tryz.func166, Tryz.ntmps166
    go_wp2_with (go_at_call 133; refine htk.mono ?_; rintro e w1 ⟨rfl, hx1, hp1⟩)
    have HX1 := Lib.hid hx1
    have HP1 := Lib.hid hp1
    clear hx1 hp1 htk
    (try go_wp2)
    (try go_ret)
    rw [HQ.out, HR2.out]
    exact ⟨rfl, HX1.out, HP1.out⟩

set_option maxHeartbeats 16000000 in
set_option maxRecDepth 100000 in
theorem else_fn {B T E : Nat} {bo : F3} (hbo : FnC B T E 249 bo) : FnC B T E 250 (fun s : S3 => if (pk E s.L).t = [101, 108, 115, 101] then bo { s with L := s.L.tail } else .ok s) := fun w s h hr => by
  obtain ⟨r, hrr⟩ : ∃ r, r = (fun s : S3 => if (pk E s.L).t = [101, 108, 115, 101] then bo { s with L := s.L.tail } else .ok s) s := ⟨_, rfl⟩
  rw [← hrr] at hr ⊢
  obtain ⟨Q, hQ⟩ : ∃ Q : Ending → World → Prop, Q = Did B T E w r := ⟨_, rfl⟩
  rw [← hQ]
  have HQ := Lib.hid hQ
  have HR := Lib.hid hr
  have hB := h.lt
  clear hQ hr
  have Hrr : Hid (r = if (pk E s.L).t = [101, 108, 115, 101] then bo { s with L := s.L.tail } else .ok s) := hrr
  have Hh := Lib.hid h
  clear hrr
  by_cases ht : (pk E s.L).t = [101, 108, 115, 101]
  · have htk := took_yes Hh.out ⟨#[101, 108, 115, 101]⟩ rfl ht
    have HR2 : Hid (r = bo { s with L := s.L.tail }) := by have h := Hrr.out; rw [if_pos ht] at h; exact h
    clear ht h
    go_enter Tryz.func250, Tryz.ntmps250
    go_wp2_with (go_at_call 133; refine htk.mono ?_; rintro e w1 ⟨rfl, hx1, hp1⟩)
    have hcall := hbo w1 _ hp1 (by rw [← HR2.out]; exact HR.out)
    rw [← HR2.out] at hcall
    have HX1 := Lib.hid hx1
    clear hx1 hp1 htk
    refine hcall.mono ?_
    intro e w2 hd
    obtain ⟨v, rfl, hd⟩ := did_ret hd HR.out
    have HD := Lib.hid (did_ext hd HX1.out)
    clear hd hcall
    go_wp2
    (try go_ret)
    rw [HQ.out]
    exact HD.out
  · have htk := took_no Hh.out ⟨#[101, 108, 115, 101]⟩ rfl ht
    have HR2 : Hid (r = .ok s) := by have h := Hrr.out; rw [if_neg ht] at h; exact h
    clear ht h
    go_enter Tryz.func250, Tryz.ntmps250
    go_wp2_with (go_at_call 133; refine htk.mono ?_; rintro e w1 ⟨rfl, hx1, hp1⟩)
    have HX1 := Lib.hid hx1
    have HP1 := Lib.hid hp1
    clear hx1 hp1 htk
    (try go_wp2)
    (try go_ret)
    rw [HQ.out, HR2.out]
    exact ⟨rfl, HX1.out, HP1.out⟩
end
section
open Go.RowKit
open Tk (T4 bstr)
open Tr (Nd Blk KidsAt)

theorem box6f {w : World} {g : Nat} {t : TypeId} {x0 x1 x2 x3 x4 x5 : Value} (h : Blk w g t #[x0, x1, x2, x3, x4, x5]) :
    w.cell? ⟨g, 0, none⟩ = some x0 ∧ w.cell? ⟨g, 1, none⟩ = some x1 ∧ w.cell? ⟨g, 2, none⟩ = some x2 ∧ w.cell? ⟨g, 3, none⟩ = some x3 ∧ w.cell? ⟨g, 4, none⟩ = some x4 ∧ w.cell? ⟨g, 5, none⟩ = some x5 ∧ w.frozen? ⟨g, 0, none⟩ = false ∧ w.frozen? ⟨g, 1, none⟩ = false ∧ w.frozen? ⟨g, 2, none⟩ = false ∧ w.frozen? ⟨g, 3, none⟩ = false ∧ w.frozen? ⟨g, 4, none⟩ = false ∧ w.frozen? ⟨g, 5, none⟩ = false ∧ g < w.heap.size :=
  ⟨by rw [h.cell]; rfl, by rw [h.cell]; rfl, by rw [h.cell]; rfl, by rw [h.cell]; rfl, by rw [h.cell]; rfl, by rw [h.cell]; rfl, h.frozen 0, h.frozen 1, h.frozen 2, h.frozen 3, h.frozen 4, h.frozen 5, h.lt⟩
/-- the words lie in the block where they lay -/
def TB (v v' : Value) : Prop := ∀ p n cap, v' = .slice p n cap → 0 < cap → ∀ b o, p = some ⟨b, o, none⟩ → ∃ o' n' cap', v = .slice (some ⟨b, o', none⟩) n' cap' ∧ 0 < cap'
theorem TB.refl (v : Value) : TB v v := fun p n cap h h0 b o hp => ⟨o, n, cap, by rw [h, hp], h0⟩
theorem TB.trans {a b c : Value} (h : TB a b) (k : TB b c) : TB a c := fun p n cap e e0 bb o hp => by
  obtain ⟨o1, n1, c1, e1, h1⟩ := k p n cap e e0 bb o hp
  exact h _ _ _ e1 h1 bb o1 rfl
structure Mv (B T E : Nat) (w : World) (s : S3) (w' : World) (s' : S3) : Prop where
  ext : Ext B w w'
  ps : ∀ vT vN vL ns, PS B T E w s vT vN vL ns → ∃ vT', PS B T E w' s' vT' vN vL ns ∧ TB vT vT'
theorem Mv.of {B T E : Nat} {w w' : World} {s s' : S3} (h : Mv B T E w s w' s') (hp : Ps B T E w s) : Ps B T E w' s' := by
  obtain ⟨a, b, c, d, hp⟩ := hp
  obtain ⟨e, hp, _⟩ := h.ps _ _ _ _ hp
  exact ⟨_, _, _, _, hp⟩
theorem Mv.trans {B T E : Nat} {w w1 w2 : World} {s s1 s2 : S3} (h : Mv B T E w s w1 s1) (k : Mv B T E w1 s1 w2 s2) : Mv B T E w s w2 s2 :=
  ⟨h.ext.trans k.ext, fun vT vN vL ns hp => by
    obtain ⟨v1, h1, t1⟩ := h.ps _ _ _ _ hp
    obtain ⟨v2, h2, t2⟩ := k.ps _ _ _ _ h1
    exact ⟨v2, h2, t1.trans t2⟩⟩
theorem Mv.below {B T E : Nat} {w w' : World} {s : S3} (h : Ps B T E w s) (hb : Below w.heap.size w w') : Mv B T E w s w' s :=
  ⟨Ext.below hb h.lt, fun vT _ _ _ hp => ⟨vT, hp.below hb, TB.refl _⟩⟩
theorem Mv.alloc {B T E : Nat} {w : World} {s : S3} (h : Ps B T E w s) (o : Obj) : Mv B T E w s (w.alloc o) s := Mv.below h ((Below.refl _ _).alloc (Nat.le_refl _) _)
/-- a cell of a block that was new -/
theorem Mv.set {B T E : Nat} {w W : World} {s s' : S3} (h : Mv B T E w s W s') (hp : Ps B T E w s) {g o : Nat} (hg : w.heap.size ≤ g) (hn : ¬ Own B W g) (v : Value) : Mv B T E w s (W.setCell ⟨g, o, none⟩ v) s' := by
  have hBg : B ≠ g := fun e => hn (Or.inl e.symm)
  have hk : ∀ b, b ≠ g → (W.setCell ⟨g, o, none⟩ v).heap[b]? = W.heap[b]? := fun b hb => Below.heap_setCell _ _ _ _ hb
  have hO : ∀ b, Own B (W.setCell ⟨g, o, none⟩ v) b ↔ Own B W b := own_same (hk B hBg)
  have hsz : (W.setCell ⟨g, o, none⟩ v).heap.size = W.heap.size := by simp [World.setCell]
  refine ⟨⟨h.ext.os, h.ext.tape, h.ext.output, by rw [hsz]; exact h.ext.size, fun b hb hnb => (hk b (by omega)).trans (h.ext.block b hb hnb), fun b ho => h.ext.own b ((hO b).1 ho)⟩, fun vT vN vL ns hps => ?_⟩
  obtain ⟨vT', hq, ht⟩ := h.ps _ _ _ _ hps
  refine ⟨vT', ?_, ht⟩
  have hNg : vN.ownBlock ≠ some g := fun e => hn ((hq.own_cases g).2 (Or.inr (Or.inl e)))
  have hLg : vL.ownBlock ≠ some g := fun e => hn ((hq.own_cases g).2 (Or.inr (Or.inr e)))
  have hgr : W.grownBy (W.setCell ⟨g, o, none⟩ v) (some g) := ⟨rfl, rfl, rfl, by rw [hsz]; exact Nat.le_refl _, fun k hk1 hk2 => hk k (by intro e; exact hk2 (by rw [e]))⟩
  refine { box := (hk B hBg).trans hq.box, tok := ?_, nod := hq.nod.kept hgr (Or.inr hNg), kid := ?_, loo := hq.loo.kept hgr (Or.inr hLg), sep := hq.sep, eqN := hq.eqN, lenO := hq.lenO, lenN := hq.lenN, lenL := hq.lenL, kl := hq.kl }
  · obtain ⟨p, cap, hv, h1, h2, h3⟩ := hq.tok
    refine ⟨p, cap, hv, h1, h2, fun hc => ?_⟩
    obtain ⟨b, o', hp', hl, hn', ht'⟩ := h3 hc
    obtain ⟨o1, n1, c1, hv1, hc1⟩ := ht p _ cap hv hc b o' hp'
    obtain ⟨p0, cap0, hv0, k1, k2, k3⟩ := hps.tok
    rw [hv1] at hv0
    cases hv0
    obtain ⟨b0, o0, hp0, hl0, _, _⟩ := k3 hc1
    cases hp0
    exact ⟨b, o', hp', by rw [hsz]; exact hl, fun ho => hn' ((hO b).1 ho), ht'.same (hk b (by omega))⟩
  · intro i hi h0
    obtain ⟨b, hb0, hp', hl, hn', hc⟩ := hq.kid i hi h0
    obtain ⟨b0, _, hp0, hl0, _, _⟩ := hps.kid i hi h0
    rw [hp'] at hp0
    cases hp0
    exact ⟨b, hb0, hp', by rw [hsz]; exact hl, fun ho => hn' ((hO b).1 ho), fun j hj => (World.cell?_of_block (a := ⟨b, j, none⟩) (hk b (by omega))).trans (hc j hj)⟩
theorem take_close2 {B T E : Nat} {w w1 : World} {s : S3} {vT vN vL v : Value} {ns : List Nd} {L : List T4} (h : PS B T E w s vT vN vL ns) (ht : Toks B w v L) (hv : TB vT v) (hL : L.length ≤ 5000000) (hb : Below w.heap.size w w1)
    {y0 y1 y2 y3 : Value} {o : Obj} : Mv B T E w s ((((((w1.setCell ⟨B, 0, none⟩ v).setCell ⟨w.heap.size, 0, none⟩ y0).setCell ⟨w.heap.size, 1, none⟩ y1).setCell ⟨w.heap.size, 2, none⟩ y2).setCell ⟨w.heap.size, 3, none⟩ y3).alloc o) { s with L := L } := by
  have hW : Below (w.setCell ⟨B, 0, none⟩ v).heap.size (w.setCell ⟨B, 0, none⟩ v) ((((((w1.setCell ⟨B, 0, none⟩ v).setCell ⟨w.heap.size, 0, none⟩ y0).setCell ⟨w.heap.size, 1, none⟩ y1).setCell ⟨w.heap.size, 2, none⟩ y2).setCell ⟨w.heap.size, 3, none⟩ y3).alloc o) := by
    have e : (w.setCell ⟨B, 0, none⟩ v).heap.size = w.heap.size := by simp [World.setCell]
    have hs := hb.size
    rw [e]
    exact (((((below_set hb _ _).setCell (p := ⟨w.heap.size, 0, none⟩) (Nat.le_refl _) _).setCell (p := ⟨w.heap.size, 1, none⟩) (Nat.le_refl _) _).setCell (p := ⟨w.heap.size, 2, none⟩) (Nat.le_refl _) _).setCell (p := ⟨w.heap.size, 3, none⟩) (Nat.le_refl _) _).alloc (by simpa [World.setCell] using hs) _
  have hp := h.set0 ht hL
  refine ⟨(ext_set0 h.box v).trans (Ext.below hW hp.lt), fun vT2 vN2 vL2 ns2 h2 => ⟨v, (h2.set0 ht hL).below hW, ?_⟩⟩
  have e : vT2 = vT := by
    have e0 : w.cell? ⟨B, 0, none⟩ = some vT := by rw [h.box.cell]; rfl
    have e1 : w.cell? ⟨B, 0, none⟩ = some vT2 := by rw [h2.box.cell]; rfl
    rw [e0] at e1; exact (Option.some.inj e1).symm
  rw [e]; exact hv

set_option maxHeartbeats 4000000 in
set_option maxRecDepth 100000 in
theorem take_cons2 {B T E : Nat} {w : World} {s : S3} (h : Ps B T E w s) {t : T4} {L : List T4} (hl : s.L = t :: L) :
    Calls Tryz.prog 128 #[.pointer (some ⟨B, 0, none⟩)] w fun e w' => e = .returned (tokV t) ∧ Mv B T E w s w' { s with L := L } := by
  obtain ⟨x0, hx0⟩ : ∃ x0, x0 = bstr t.t := ⟨_, rfl⟩
  have hp := peek_any (h.alloc (.cells #[.int .i64 0, .string ⟨#[]⟩, .int .i64 0, .int .i64 0] 59))
  have hB := h.lt
  unfold tokV at hp ⊢
  rw [hl] at hp
  change Calls _ _ _ _ (fun e w' => e = .returned (.agg #[.int .i64 t.k, .string (bstr t.t), .int .i64 t.v, .int .i64 t.a]) ∧ _) at hp
  rw [← hx0] at hp ⊢
  have H := Lib.hid h
  have Hl := Lib.hid hl
  clear h hl hx0
  obtain ⟨Q, hQ⟩ : ∃ Q : Ending → World → Prop, Q = fun e w' => e = .returned (.agg #[.int .i64 t.k, .string x0, .int .i64 t.v, .int .i64 t.a]) ∧ Mv B T E w s w' { s with L := L } := ⟨_, rfl⟩
  have HQ := Lib.hid hQ
  rw [← hQ]
  clear hQ
  go_enter Tryz.func128, Tryz.ntmps128
  go_wp2_with (go_at_call 74; refine hp.mono ?_; rintro e w1 ⟨rfl, hb⟩)
  have hb1 : Below w.heap.size w w1 := ((Below.refl _ _).alloc (Nat.le_refl _) _).trans (hb.mono (by simp))
  have HB := Lib.hid hb1
  have hs1 := H.out.below hb1
  have HS := Lib.hid hs1
  have k0 : w1.heap[w.heap.size]? = some (.cells #[.int .i64 0, .string ⟨#[]⟩, .int .i64 0, .int .i64 0] 59 (0, 0)) := (hb.block _ (by simp)).trans (heap_alloc_new w _)
  have K0 : Hid (Blk w1 w.heap.size 59 #[.int .i64 0, .string ⟨#[]⟩, .int .i64 0, .int .i64 0]) := k0
  obtain ⟨⟨c0, c1, c2, c3⟩, ⟨f0, f1, f2, f3⟩, lK⟩ := box4 K0.out
  have he := ended_any (hs1.alloc (.cells #[.int .i64 t.k, .string x0, .int .i64 t.v, .int .i64 t.a] 59))
  have hd : decide (s.L.length = 0) = false := by rw [Hl.out]; simp
  rw [hd] at he
  obtain ⟨vT, vN, vL, ns, h1⟩ := H.out
  obtain ⟨p, cap, rfl, q1, q2, q3⟩ := h1.tok
  have hlen : s.L.length = L.length + 1 := by rw [Hl.out]; rfl
  obtain ⟨b, o, rfl, hlb, hnb, ht⟩ := q3 (by omega)
  have lB : B < w1.heap.size := Nat.lt_of_lt_of_le hB HB.out.size
  have hm := h1.lenL
  have g0 : w1.cell? ⟨B, 0, none⟩ = some (.slice (some ⟨b, o, none⟩) (L.length + 1) cap) := by rw [HB.out.cell (p := ⟨B, 0, none⟩) hB, h1.box.cell, ← hlen]; rfl
  have gf : w1.frozen? ⟨B, 0, none⟩ = false := (HB.out.frozen (p := ⟨B, 0, none⟩) hB).trans (h1.box.frozen 0)
  have hne : B ≠ w.heap.size := by omega
  have HP := Lib.hid h1
  rw [hlen] at q1 hm
  have HTt : Hid (1 < cap → Toks B w (.slice (some ⟨b, o + 4, none⟩) L.length (cap - 1)) L) := fun _ => toks_tail (t := t) rfl q1 q2 hlb hnb (by rw [← Hl.out]; exact ht)
  have Hm : Hid (L.length ≤ 5000000) := Lib.hid (by omega)
  clear hb hb1 k0 hd h1 q3 ht hlen hnb hlb HS
  by_cases hcap : cap = 1
  · subst hcap
    have hL0 : L.length = 0 := by omega
    have HL0 : Hid (L = []) := List.eq_nil_of_length_eq_zero hL0
    rw [hL0] at g0 q1 hm
    clear hL0 HTt
    go_wp2_with (go_at_call 78; refine he.mono ?_; rintro e w' ⟨rfl, rfl⟩)
    refine bodyPost_ret (v := .agg #[.int .i64 t.k, .string x0, .int .i64 t.v, .int .i64 t.a]) (by simp [results, Tryz.results128, go_sem, c0, c1, c2, c3, lK, hne]) rfl ?_
    rw [HQ.out]
    exact ⟨rfl, take_close2 HP.out (by rw [HL0.out]; exact toks_none) (fun _ _ _ e1 e2 => by cases e1; omega) Hm.out HB.out⟩
  · have hc1 : 1 < cap := by omega
    have HT2 := Lib.hid (HTt.out hc1)
    clear HTt
    go_wp2_with (go_at_call 78; refine he.mono ?_; rintro e w' ⟨rfl, rfl⟩)
    refine bodyPost_ret (v := .agg #[.int .i64 t.k, .string x0, .int .i64 t.v, .int .i64 t.a]) (by simp [results, Tryz.results128, go_sem, c0, c1, c2, c3, lK, hne]) rfl ?_
    rw [HQ.out]
    exact ⟨rfl, take_close2 HP.out HT2.out (fun _ _ _ e1 e2 b o e3 => by cases e1; cases e3; exact ⟨_, _, _, rfl, by omega⟩) Hm.out HB.out⟩
theorem take_any2 {B T E : Nat} {w : World} {s : S3} (h : Ps B T E w s) :
    Calls Tryz.prog 128 #[.pointer (some ⟨B, 0, none⟩)] w fun e w' => e = .returned (tokV (pk E s.L)) ∧ Mv B T E w s w' { s with L := s.L.tail } := by
  cases hl : s.L with
  | nil => exact (take_nil h hl).mono fun e w' ⟨he, hb⟩ => ⟨he, by have := Mv.below h hb; obtain ⟨L, N, O⟩ := s; cases hl; exact this⟩
  | cons t L => exact take_cons2 h hl
end
section
open Go.RowKit
open Tk (T4 bstr)
open Tr (Nd Blk KidsAt)

/-- a new block that is none of the parser's own stays as it is -/
theorem new_blk {B T E : Nat} {w w' : World} {s : S3} (h : Ps B T E w s) (t : TypeId) (cs : Array Value) (hx : Ext B (w.alloc (.cells cs t)) w') : Blk w' w.heap.size t cs ∧ ¬ Own B w' w.heap.size := by
  have hno : ¬ Own B (w.alloc (.cells cs t)) w.heap.size := fun ho => not_own_new ⟨T, E, s, h⟩ ((own_alloc h.lt _ _).1 ho)
  exact ⟨hx.blk (heap_alloc_new w _) hno, hx.notOwn (by simp) hno⟩
theorem own_setCell {B : Nat} {W : World} {g o : Nat} (hn : ¬ Own B W g) (v : Value) (b : Nat) : Own B (W.setCell ⟨g, o, none⟩ v) b ↔ Own B W b := own_same (Below.heap_setCell _ _ _ _ (fun e : B = g => hn (Or.inl e.symm))) b
theorem Mv.set4 {B T E : Nat} {w W : World} {s s' : S3} (h : Mv B T E w s W s') (hp : Ps B T E w s) {g : Nat} (hg : w.heap.size ≤ g) (hn : ¬ Own B W g) (y0 y1 y2 y3 : Value) :
    Mv B T E w s ((((W.setCell ⟨g, 0, none⟩ y0).setCell ⟨g, 1, none⟩ y1).setCell ⟨g, 2, none⟩ y2).setCell ⟨g, 3, none⟩ y3) s' := by
  have h1 := h.set (o := 0) hp hg hn y0
  have n1 : ¬ Own B (W.setCell ⟨g, 0, none⟩ y0) g := fun ho => hn ((own_setCell hn _ _).1 ho)
  have h2 := h1.set (o := 1) hp hg n1 y1
  have n2 : ¬ Own B ((W.setCell ⟨g, 0, none⟩ y0).setCell ⟨g, 1, none⟩ y1) g := fun ho => n1 ((own_setCell n1 _ _).1 ho)
  have h3 := h2.set (o := 2) hp hg n2 y2
  have n3 : ¬ Own B (((W.setCell ⟨g, 0, none⟩ y0).setCell ⟨g, 1, none⟩ y1).setCell ⟨g, 2, none⟩ y2) g := fun ho => n2 ((own_setCell n2 _ _).1 ho)
  exact h3.set (o := 3) hp hg n3 y3
theorem Mv.set6 {B T E : Nat} {w W : World} {s s' : S3} (h : Mv B T E w s W s') (hp : Ps B T E w s) {g : Nat} (hg : w.heap.size ≤ g) (hn : ¬ Own B W g) (y0 y1 y2 y3 y4 y5 : Value) :
    Mv B T E w s ((((((W.setCell ⟨g, 0, none⟩ y0).setCell ⟨g, 1, none⟩ y1).setCell ⟨g, 2, none⟩ y2).setCell ⟨g, 3, none⟩ y3).setCell ⟨g, 4, none⟩ y4).setCell ⟨g, 5, none⟩ y5) s' := by
  have h4 := h.set4 hp hg hn y0 y1 y2 y3
  have n1 : ¬ Own B (W.setCell ⟨g, 0, none⟩ y0) g := fun ho => hn ((own_setCell hn _ _).1 ho)
  have n2 : ¬ Own B ((W.setCell ⟨g, 0, none⟩ y0).setCell ⟨g, 1, none⟩ y1) g := fun ho => n1 ((own_setCell n1 _ _).1 ho)
  have n3 : ¬ Own B (((W.setCell ⟨g, 0, none⟩ y0).setCell ⟨g, 1, none⟩ y1).setCell ⟨g, 2, none⟩ y2) g := fun ho => n2 ((own_setCell n2 _ _).1 ho)
  have n4 : ¬ Own B ((((W.setCell ⟨g, 0, none⟩ y0).setCell ⟨g, 1, none⟩ y1).setCell ⟨g, 2, none⟩ y2).setCell ⟨g, 3, none⟩ y3) g := fun ho => n3 ((own_setCell n3 _ _).1 ho)
  have h5 := h4.set (o := 4) hp hg n4 y4
  have n5 : ¬ Own B (((((W.setCell ⟨g, 0, none⟩ y0).setCell ⟨g, 1, none⟩ y1).setCell ⟨g, 2, none⟩ y2).setCell ⟨g, 3, none⟩ y3).setCell ⟨g, 4, none⟩ y4) g := fun ho => n4 ((own_setCell n4 _ _).1 ho)
  exact h5.set (o := 5) hp hg n5 y5

def noTok : Value := .agg #[.int .i64 0, .string ⟨#[]⟩, .int .i64 0, .int .i64 0]
set_option maxHeartbeats 4000000 in
set_option maxRecDepth 100000 in
theorem kind_no {B T E : Nat} {w : World} {s : S3} (h : Ps B T E w s) (k : Int) (hk : ((pk E s.L).k : Int) ≠ k) :
    Calls Tryz.prog 194 #[.pointer (some ⟨B, 0, none⟩), .int .i64 k] w fun e w' =>
      e = .returned (.tuple #[noTok, errV 1 (pk E s.L).a]) ∧ Mv B T E w s w' s := by
  have hM0 := Mv.alloc h (.cells #[.int .i64 0, .string ⟨#[]⟩, .int .i64 0, .int .i64 0] 59)
  have hp0 := h.alloc (.cells #[.int .i64 0, .string ⟨#[]⟩, .int .i64 0, .int .i64 0] 59)
  have hpk := peek_any hp0
  have HP0 := Lib.hid hp0
  have HM0 := Lib.hid hM0
  have H := Lib.hid h
  unfold tokV at hpk
  obtain ⟨t, ht⟩ : ∃ t, t = pk E s.L := ⟨_, rfl⟩
  have HT := Lib.hid ht
  rw [← ht] at hpk hk ⊢
  obtain ⟨x, hx⟩ : ∃ x, x = bstr t.t := ⟨_, rfl⟩
  rw [← hx] at hpk
  have hd : ((t.k : Int) == k) = false := by simpa using hk
  have hf := fldT0
  clear hx h hp0 hM0 ht
  go_enter Tryz.func194, Tryz.ntmps194
  go_wp2_with (go_at_call 74; refine hpk.mono ?_; rintro e w1 ⟨rfl, hb⟩)
  have hw := wrong_any (HP0.out.below hb)
  rw [← HT.out] at hw
  have HB := Lib.hid hb
  clear hpk hb
  go_wp2_with (go_at_call 79; refine hw.mono ?_)
  rintro e w2 ⟨rfl, hb2⟩
  have hM2 := HM0.out.trans ((Mv.below HP0.out HB.out).trans (Mv.below (HP0.out.below HB.out) hb2))
  obtain ⟨hk2, hn2⟩ := new_blk H.out 59 _ ((Mv.below HP0.out HB.out).trans (Mv.below (HP0.out.below HB.out) hb2)).ext
  obtain ⟨⟨d0, d1, d2, d3⟩, ⟨f0, f1, f2, f3⟩, l0⟩ := box4 hk2
  have HM2 := Lib.hid hM2
  have HN2 := Lib.hid hn2
  clear hw hb2 hM2 hn2 hk2
  unfold errV
  go_wp2
  refine bodyPost_ret (v := .tuple #[noTok, errV 1 t.a]) (by simp [results, Tryz.results194, go_sem, d0, d1, d2, d3, l0, errV, noTok]) rfl ?_
  exact ⟨rfl, HM2.out.set4 H.out (Nat.le_refl _) HN2.out _ _ _ _⟩
set_option maxHeartbeats 4000000 in
set_option maxRecDepth 100000 in
theorem kind_yes {B T E : Nat} {w : World} {s : S3} (h : Ps B T E w s) (k : Int) (hk : ((pk E s.L).k : Int) = k) :
    Calls Tryz.prog 194 #[.pointer (some ⟨B, 0, none⟩), .int .i64 k] w fun e w' =>
      e = .returned (.tuple #[tokV (pk E s.L), .nilIface]) ∧ Mv B T E w s w' { s with L := s.L.tail } := by
  have hM0 := Mv.alloc h (.cells #[.int .i64 0, .string ⟨#[]⟩, .int .i64 0, .int .i64 0] 59)
  have hp0 := h.alloc (.cells #[.int .i64 0, .string ⟨#[]⟩, .int .i64 0, .int .i64 0] 59)
  have hpk := peek_any hp0
  have HP0 := Lib.hid hp0
  have HM0 := Lib.hid hM0
  have H := Lib.hid h
  subst hk
  unfold tokV at hpk ⊢
  obtain ⟨t, ht⟩ : ∃ t, t = pk E s.L := ⟨_, rfl⟩
  have HT := Lib.hid ht
  rw [← ht] at hpk ⊢
  obtain ⟨x, hx⟩ : ∃ x, x = bstr t.t := ⟨_, rfl⟩
  have Hx := Lib.hid hx
  rw [← hx] at hpk ⊢
  have hf := fldT0
  clear hx h hp0 hM0 ht
  go_enter Tryz.func194, Tryz.ntmps194
  go_wp2_with (go_at_call 74; refine hpk.mono ?_; rintro e w1 ⟨rfl, hb⟩)
  have hw := take_any2 (HP0.out.below hb)
  unfold tokV at hw
  rw [← HT.out, ← Hx.out] at hw
  have HB := Lib.hid hb
  clear hpk hb
  go_wp2_with (go_at_call 128; refine hw.mono ?_)
  rintro e w2 ⟨rfl, hm2⟩
  have hM2 := HM0.out.trans ((Mv.below HP0.out HB.out).trans hm2)
  obtain ⟨hk2, hn2⟩ := new_blk H.out 59 _ ((Mv.below HP0.out HB.out).trans hm2).ext
  obtain ⟨⟨d0, d1, d2, d3⟩, ⟨f0, f1, f2, f3⟩, l0⟩ := box4 hk2
  have HM2 := Lib.hid hM2
  have HN2 := Lib.hid hn2
  clear hw hm2 hM2 hn2 hk2
  go_wp2
  refine bodyPost_ret (v := .tuple #[.agg #[.int .i64 t.k, .string x, .int .i64 t.v, .int .i64 t.a], .nilIface]) (by simp [results, Tryz.results194, go_sem, d0, d1, d2, d3, l0]) rfl ?_
  exact ⟨rfl, HM2.out.set4 H.out (Nat.le_refl _) HN2.out _ _ _ _⟩
end
end Go.Proofs.YtmghjfphlneblaaGreatDoor
