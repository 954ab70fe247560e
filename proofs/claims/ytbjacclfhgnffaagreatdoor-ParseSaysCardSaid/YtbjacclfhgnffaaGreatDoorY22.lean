/-
  Joined texts of this claim: Qv, Uc.
-/
import Derived.Test.YtbjacclfhgnffaaGreatDoorY21
set_option linter.unusedVariables false
set_option linter.unusedSimpArgs false
/-
  The contract of expr, by those at fewer steps; and of all five.
-/
namespace Go.Proofs.YtbjacclfhgnffaaGreatDoor
open Go.RowKit
open Tk (T4 bstr)
open Tr (Nd Blk KidsAt)

theorem expr_eq (E n : Nat) (s : S3) : runJ E (n + 1) .expr s = ((runJ E n (.pairs 2) s).bind fun s1 =>
      if (pk E s1.L).t = [63] then extF s.O.length (mk 38 [] 0 (pk E s1.L).a) [wordF E [63], runJ E n .expr, wordF E [58], runJ E n .expr] s1
      else if setT (pk E s1.L).t = true then extF s.O.length (mk 39 (pk E s1.L).t 0 (pk E s1.L).a) [wordF E (pk E s1.L).t, runJ E n .expr] s1
      else .ok s1) := rfl

set_option maxHeartbeats 16000000 in
set_option maxRecDepth 100000 in
theorem expr_step {B T E n : Nat} (J : LtJ B T E n) (w : World) (s : S3) (h : Ps B T E w s) (hr : runJ E (n + 1) .expr s ≠ .out) :
    Calls Tryz.prog 29 #[.pointer (some ⟨B, 0, none⟩)] w (Did B T E w (runJ E (n + 1) .expr s)) := by
  obtain ⟨r, hrr⟩ : ∃ r, r = runJ E (n + 1) .expr s := ⟨_, rfl⟩
  rw [← hrr] at hr ⊢
  obtain ⟨Q, hQ⟩ : ∃ Q : Ending → World → Prop, Q = Did B T E w r := ⟨_, rfl⟩
  rw [← hQ]
  have HQ := Lib.hid hQ
  have HR := Lib.hid hr
  rw [expr_eq] at hrr
  have Hrr := Lib.hid hrr
  have hB := h.lt
  have hmk := mark_any h
  have hne : runJ E n (.pairs 2) s ≠ .out := fun e => hr (by rw [hrr, e]; rfl)
  have hpre : Calls Tryz.prog 58 #[.pointer (some ⟨B, 0, none⟩), .int .i64 2] w (Did B T E w (runJ E n (.pairs 2) s)) := (J n (Nat.le_refl _)).pairs 2 _ _ h hne
  have HJ := Lib.hid (J n (Nat.le_refl _))
  have HmO : s.O.length ≤ 5000000 := by obtain ⟨_, _, _, _, hh⟩ := h; have := hh.lenO; have := hh.lenN; omega
  clear hQ hr hrr h hne J
  obtain ⟨mark, hmark⟩ : ∃ mark, mark = s.O.length := ⟨_, rfl⟩
  rw [← hmark] at hmk HmO Hrr
  clear hmark
  go_enter Tryz.func29, Tryz.ntmps29
  go_wp2_with (first | (go_at_call 57; refine hmk.mono ?_; rintro e w' ⟨rfl, rfl⟩) | (go_at_call 58; refine hpre.mono ?_))
  intro e w2 hd
  cases hf : runJ E n (.pairs 2) s with
  | out => exact absurd (by rw [Hrr.out, hf]; rfl) HR.out
  | bad c1 a1 =>
    rw [hf] at hd
    obtain ⟨rfl, hx2⟩ := hd
    have HX2 := Lib.hid hx2
    have HRb : Hid (r = .bad c1 a1) := by have h := Hrr.out; rw [hf] at h; exact h
    clear hpre hmk hf hx2
    unfold errV
    go_wp2
    (try go_ret)
    rw [HQ.out, HRb.out]
    exact ⟨rfl, HX2.out⟩
  | ok s1 =>
    rw [hf] at hd
    obtain ⟨rfl, hx2, hp2⟩ := hd
    have HX2 := Lib.hid hx2
    have HP2 := Lib.hid hp2
    have HR1 : Hid (r = (if (pk E s1.L).t = [63] then extF mark (mk 38 [] 0 (pk E s1.L).a) [wordF E [63], runJ E n .expr, wordF E [58], runJ E n .expr] s1
      else if setT (pk E s1.L).t = true then extF mark (mk 39 (pk E s1.L).t 0 (pk E s1.L).a) [wordF E (pk E s1.L).t, runJ E n .expr] s1
      else .ok s1)) := by have h := Hrr.out; rw [hf] at h; exact h
    have hpk := peek_any hp2
    unfold tokV at hpk
    obtain ⟨t, ht⟩ : ∃ t, t = pk E s1.L := ⟨_, rfl⟩
    have hset := fun w => isSet_any t.t w
    obtain ⟨x, hxx⟩ : ∃ x, x = bstr t.t := ⟨_, rfl⟩
    rw [← ht, ← hxx] at hpk
    rw [← hxx] at hset
    rw [← ht] at HR1
    have Hxx := Lib.hid hxx
    have hB2 := hp2.lt
    clear hpre hmk hf hx2 hp2 Hrr ht hxx
    by_cases h63 : t.t = [63]
    · have HK3 : Hid (r = extF mark (mk 38 [] 0 t.a) [wordF E [63], runJ E n .expr, wordF E [58], runJ E n .expr] s1) := by have h := HR1.out; rw [if_pos h63] at h; exact h
      have q63 := txt_yes Hxx.out h63
      clear HR1 h63 hset
      go_wp2_with (first | (go_at_call 59; refine hpk.mono ?_; rintro e w3 ⟨rfl, hb3⟩))
      have hX3 := HX2.out.trans (Ext.below hb3 hB2)
      have hp3 := HP2.out.below hb3
      have HBx := Lib.hid (node_far (t := 82) (cs := #[.int .i64 t.k, .string x, .int .i64 t.v, .int .i64 t.a]) hp3)
      have HX4 := Lib.hid (hX3.alloc hB (.cells #[.int .i64 t.k, .string x, .int .i64 t.v, .int .i64 t.a] 82)).drew
      have N0 : Hid (Now B T E s1 (w3.alloc (.cells #[.int .i64 t.k, .string x, .int .i64 t.v, .int .i64 t.a] 82)).drew (w3.alloc (.cells #[.int .i64 t.k, .string x, .int .i64 t.v, .int .i64 t.a] 82)).drew) := Now.refl (hp3.alloc _).drew
      clear hb3 hpk hp3 hX3
      generalize w3.alloc (.cells #[.int .i64 t.k, .string x, .int .i64 t.v, .int .i64 t.a] 82) = W5 at *
      generalize w3.heap.size = g3 at *
      have hne : extF mark (mk 38 [] 0 t.a) [wordF E [63], runJ E n .expr, wordF E [58], runJ E n .expr] s1 ≠ .out := fun e => HR.out (by rw [HK3.out, e])
      have HWa : Hid (∀ W, Now B T E s1 W5.drew W → Calls Tryz.prog 61 #[.pointer (some ⟨B, 0, none⟩), .string ⟨#[63]⟩] W fun e w' => ∃ g1 g2, e = .returned (.func (.func 110) #[] #[.pointer (some ⟨g1, 0, none⟩), .pointer (some ⟨g2, 0, none⟩)]) ∧
          Now B T E s1 W5.drew w' ∧ Ext B W w' ∧ StepV B T E w' (.func (.func 110) #[] #[.pointer (some ⟨g1, 0, none⟩), .pointer (some ⟨g2, 0, none⟩)]) (wordF E [63])) := fun W hW => word_now hW ⟨#[63]⟩
      have HWb : Hid (∀ W, Now B T E s1 W5.drew W → Calls Tryz.prog 61 #[.pointer (some ⟨B, 0, none⟩), .string ⟨#[58]⟩] W fun e w' => ∃ g1 g2, e = .returned (.func (.func 110) #[] #[.pointer (some ⟨g1, 0, none⟩), .pointer (some ⟨g2, 0, none⟩)]) ∧
          Now B T E s1 W5.drew w' ∧ Ext B W w' ∧ StepV B T E w' (.func (.func 110) #[] #[.pointer (some ⟨g1, 0, none⟩), .pointer (some ⟨g2, 0, none⟩)]) (wordF E [58])) := fun W hW => word_now hW ⟨#[58]⟩
      have HN : Hid (∀ W v1 v2, Now B T E s1 W5.drew W → StepV B T E W v1 (wordF E [63]) → StepV B T E W v2 (wordF E [58]) → Calls Tryz.prog 60 #[.pointer (some ⟨B, 2, none⟩), .int .i64 mark, .agg #[.int .i64 38, .string ⟨#[]⟩, .int .i64 0, .int .i64 0, .slice none 0 0, .int .i64 t.a], .slice (some ⟨W.heap.size, 0, none⟩) 4 4] (W.alloc (.cells #[v1, .func (.func 29) #[.pointer (some ⟨B, 0, none⟩)] #[], v2, .func (.func 29) #[.pointer (some ⟨B, 0, none⟩)] #[]] 57)) (Ends B T E W5.drew r)) := fun W v1 v2 hW h1 h2 => by
        have h := extend_now hW [v1, .func (.func 29) #[.pointer (some ⟨B, 0, none⟩)] #[], v2, .func (.func 29) #[.pointer (some ⟨B, 0, none⟩)] #[]] [wordF E [63], runJ E n .expr, wordF E [58], runJ E n .expr] rfl (by simp) (step4 h1 (stepExpr HJ.out W) h2 (stepExpr HJ.out W)) (mk 38 [] 0 t.a) rfl mark hne 57
        rw [← HK3.out] at h
        exact h
      have S1 : Hid (∀ W, Ext B W5.drew W → W.cell? ⟨g3, 3, none⟩ = some (.int .i64 t.a)) := fun W hW => (tok_box (HBx.out W ((Ext.refl B W5).drew.trans hW))).2.2.2
      have S0 := Lib.hid (S1.out _ (Ext.refl _ _))
      clear hne HBx
      go_wp2
      go_region_held3 (fun W => W.cell? ⟨g3, 3, none⟩ = some (.int .i64 t.a))
        (first | exact S0.out | exact S1.out _ hn5.1 | exact S1.out _ hn6.1 | exact S1.out _ (hn6.alloc _).1 | exact S1.out _ hx9)
        (first | (go_at_call 61; first | ((with_reducible refine (HWa.out _ N0.out).mono ?_); rintro e w5 ⟨g1, g2, rfl, hn5, -, hs5⟩) | ((with_reducible refine (HWb.out _ hn5).mono ?_); rintro e w6 ⟨g3, g4, rfl, hn6, hx56, hs6⟩)) | (go_at_call 60; refine (HN.out _ _ _ hn6 (hs5.ext hx56) hs6).mono ?_; rintro e w9 ⟨v, rfl, hd, hx9⟩))
      all_goals
        have HD := Lib.hid (did_ext hd HX4.out)
        clear hd hx9 S0 S1 HN N0 hn5 hs5 hn6 hx56 hs6 HWa HWb
        go_wp2
        (try go_ret)
        rw [HQ.out]
        exact HD.out
    · have q63 := txt_no Hxx.out h63
      by_cases hst : setT t.t = true
      · have HK3 : Hid (r = extF mark (mk 39 t.t 0 t.a) [wordF E t.t, runJ E n .expr] s1) := by have h := HR1.out; rw [if_neg h63, if_pos hst] at h; exact h
        rw [hst] at hset
        clear HR1 h63 hst
        go_wp2_with (first | (go_at_call 59; refine hpk.mono ?_; rintro e w3 ⟨rfl, hb3⟩) | (go_at_call 62; refine (hset _).mono ?_; rintro e w' ⟨rfl, rfl⟩))
        have hX3 := HX2.out.trans (Ext.below hb3 hB2)
        have hp3 := HP2.out.below hb3
        have HBx := Lib.hid (node_far (t := 82) (cs := #[.int .i64 t.k, .string x, .int .i64 t.v, .int .i64 t.a]) hp3)
        have HX4 := Lib.hid (hX3.alloc hB (.cells #[.int .i64 t.k, .string x, .int .i64 t.v, .int .i64 t.a] 82)).drew
        have N0 : Hid (Now B T E s1 (w3.alloc (.cells #[.int .i64 t.k, .string x, .int .i64 t.v, .int .i64 t.a] 82)).drew (w3.alloc (.cells #[.int .i64 t.k, .string x, .int .i64 t.v, .int .i64 t.a] 82)).drew) := Now.refl (hp3.alloc _).drew
        clear hb3 hpk hp3 hX3
        generalize w3.alloc (.cells #[.int .i64 t.k, .string x, .int .i64 t.v, .int .i64 t.a] 82) = W5 at *
        generalize w3.heap.size = g3 at *
        have hne : extF mark (mk 39 t.t 0 t.a) [wordF E t.t, runJ E n .expr] s1 ≠ .out := fun e => HR.out (by rw [HK3.out, e])
        have HWa : Hid (∀ W, Now B T E s1 W5.drew W → Calls Tryz.prog 61 #[.pointer (some ⟨B, 0, none⟩), .string x] W fun e w' => ∃ g1 g2, e = .returned (.func (.func 110) #[] #[.pointer (some ⟨g1, 0, none⟩), .pointer (some ⟨g2, 0, none⟩)]) ∧
            Now B T E s1 W5.drew w' ∧ Ext B W w' ∧ StepV B T E w' (.func (.func 110) #[] #[.pointer (some ⟨g1, 0, none⟩), .pointer (some ⟨g2, 0, none⟩)]) (wordF E t.t)) := fun W hW => by
          have h := word_now hW x
          rw [show x.data.toList = t.t by rw [Hxx.out]; rfl] at h
          exact h
        have HN : Hid (∀ W v1, Now B T E s1 W5.drew W → StepV B T E W v1 (wordF E t.t) → Calls Tryz.prog 60 #[.pointer (some ⟨B, 2, none⟩), .int .i64 mark, .agg #[.int .i64 39, .string x, .int .i64 0, .int .i64 0, .slice none 0 0, .int .i64 t.a], .slice (some ⟨W.heap.size, 0, none⟩) 2 2] (W.alloc (.cells #[v1, .func (.func 29) #[.pointer (some ⟨B, 0, none⟩)] #[]] 57)) (Ends B T E W5.drew r)) := fun W v1 hW h1 => by
          have h := extend_now hW [v1, .func (.func 29) #[.pointer (some ⟨B, 0, none⟩)] #[]] [wordF E t.t, runJ E n .expr] rfl (by simp) (step2 h1 (stepExpr HJ.out W)) (mk 39 t.t 0 t.a) rfl mark hne 57
          rw [← HK3.out] at h
          rw [Hxx.out]
          exact h
        have S1 : Hid (∀ W, Ext B W5.drew W → W.cell? ⟨g3, 1, none⟩ = some (.string x) ∧ W.cell? ⟨g3, 3, none⟩ = some (.int .i64 t.a)) := fun W hW =>
          have h := (Ext.refl B W5).drew.trans hW
          ⟨(tok_box (HBx.out W h)).2.1, (tok_box (HBx.out W h)).2.2.2⟩
        have S0 := Lib.hid (S1.out _ (Ext.refl _ _))
        clear hne HBx
        go_wp2
        go_region_held3 (fun W => W.cell? ⟨g3, 1, none⟩ = some (.string x) ∧ W.cell? ⟨g3, 3, none⟩ = some (.int .i64 t.a))
          (first | exact S0.out | exact S1.out _ hn5.1 | exact S1.out _ (hn5.alloc _).1 | exact S1.out _ hx9)
          (first | (go_at_call 61; refine (HWa.out _ N0.out).mono ?_; rintro e w5 ⟨g1, g2, rfl, hn5, -, hs5⟩) | (go_at_call 60; refine (HN.out _ _ hn5 hs5).mono ?_; rintro e w9 ⟨v, rfl, hd, hx9⟩))
        all_goals
          have HD := Lib.hid (did_ext hd HX4.out)
          clear hd hx9 S0 S1 HN N0 hn5 hs5 HWa
          go_wp2
          (try go_ret)
          rw [HQ.out]
          exact HD.out
      · have HRo : Hid (r = .ok s1) := by have h := HR1.out; rw [if_neg h63, if_neg hst] at h; exact h
        have hsf : setT t.t = false := by simpa using hst
        rw [hsf] at hset
        clear HR1 h63 hst hsf
        go_wp2_with (first | (go_at_call 59; refine hpk.mono ?_; rintro e w3 ⟨rfl, hb3⟩) | (go_at_call 62; refine (hset _).mono ?_; rintro e w' ⟨rfl, rfl⟩))
        have hX3 := HX2.out.trans (Ext.below hb3 hB2)
        have hp3 := HP2.out.below hb3
        (try go_ret)
        rw [HQ.out, HRo.out]
        exact ⟨rfl, hX3.alloc hB _, hp3.alloc _⟩

/-- the calls of the parser's own functions -/
theorem callJ {B T E : Nat} : ∀ n, CallJ B T E n := by
  intro n
  induction n using Nat.strongRecOn with
  | _ n ih =>
    cases n with
    | zero => exact ⟨fun w s _ h => absurd rfl h, fun low w s _ h => absurd rfl h, fun w s _ h => absurd rfl h, fun w s _ h => absurd rfl h, fun w s _ h => absurd rfl h⟩
    | succ n =>
      have J : LtJ B T E n := fun m hm => ih m (by omega)
      exact ⟨fun w s h hr => expr_step J w s h hr, fun low w s h hr => pairs_step J low w s h hr, fun w s h hr => prefixed_step (J n (Nat.le_refl _)) w s h hr, fun w s h hr => postfixed_step J w s h hr, fun w s h hr => primary_step J w s h hr⟩
end Go.Proofs.YtbjacclfhgnffaaGreatDoor
/-
  What the walks of the unit parser share: functions as steps; peek; braced, unless.
-/
namespace Go.Proofs.YtbjacclfhgnffaaGreatDoor
open Go.RowKit
open Tk (T4 bstr)
open Tr (Nd Blk KidsAt)

/-- a function of the parser does what f does -/
def FnC (B T E : Nat) (id : FuncId) (f : F3) : Prop := ∀ w s, Ps B T E w s → f s ≠ .out → Calls Tryz.prog id #[.pointer (some ⟨B, 0, none⟩)] w (Did B T E w (f s))
def Ent (id : FuncId) : Prop := ∀ (args : Array Value) (w : World), (callFunc id args).run Tryz.prog w = .ok (.enter id args) w
theorem stepFn {B T E : Nat} {id : FuncId} {f : F3} (h : FnC B T E id f) (he : Ent id) (W : World) : StepV B T E W (.func (.func id) #[.pointer (some ⟨B, 0, none⟩)] #[]) f :=
  ⟨id, _, _, rfl, he, fun w s _ hp hr => h w s hp hr⟩
theorem fnExpr (B T E n : Nat) : FnC B T E 29 (runJ E n .expr) := fun w s hp hr => (callJ n).expr w s hp hr
theorem ent21 : Ent 29 := enters21
theorem ent61 : Ent 77 := fun args w => by kernel_rfl
theorem ent115 : Ent 172 := fun args w => by kernel_rfl
theorem ent141 : Ent 205 := fun args w => by kernel_rfl
theorem ent142 : Ent 206 := fun args w => by kernel_rfl
theorem ent165 : Ent 233 := fun args w => by kernel_rfl
theorem ent166 : Ent 234 := fun args w => by kernel_rfl
theorem ent173 : Ent 242 := fun args w => by kernel_rfl
theorem ent174 : Ent 243 := fun args w => by kernel_rfl
theorem ent176 : Ent 245 := fun args w => by kernel_rfl
theorem ent177 : Ent 246 := fun args w => by kernel_rfl
theorem ent178 : Ent 247 := fun args w => by kernel_rfl
theorem ent188 : Ent 261 := fun args w => by kernel_rfl
theorem ent189 : Ent 262 := fun args w => by kernel_rfl
theorem ent190 : Ent 263 := fun args w => by kernel_rfl
theorem ent191 : Ent 264 := fun args w => by kernel_rfl
theorem ent193 : Ent 266 := fun args w => by kernel_rfl
theorem ent200 : Ent 277 := fun args w => by kernel_rfl
theorem ent22 : Ent 30 := fun args w => by kernel_rfl
theorem ent23 : Ent 31 := fun args w => by kernel_rfl
theorem ent29 : Ent 37 := fun args w => by kernel_rfl
theorem ent37 : Ent 55 := fun args w => by kernel_rfl
theorem peek_now {B T E : Nat} {s : S3} {W0 W : World} (h : Now B T E s W0 W) :
    Calls Tryz.prog 59 #[.pointer (some ⟨B, 0, none⟩)] W fun e w' => e = .returned (.agg #[.int .i64 (pk E s.L).k, .string (bstr (pk E s.L).t), .int .i64 (pk E s.L).v, .int .i64 (pk E s.L).a]) ∧ Now B T E s W0 w' ∧ Ext B W w' :=
  (peek_any h.2).mono fun e w' ⟨he, hb⟩ => ⟨he, ⟨h.1.trans (Ext.below hb h.2.lt), h.2.below hb⟩, Ext.below hb h.2.lt⟩

set_option maxHeartbeats 2000000 in
set_option maxRecDepth 100000 in
theorem braced_lay {B : Nat} (fn : Fn) (b c : Array Value) (w : World) :
    Calls Tryz.prog 232 #[.pointer (some ⟨B, 0, none⟩), .func fn b c] w fun e w' =>
      e = .returned (.func (.func 242) #[] #[.pointer (some ⟨w.heap.size, 0, none⟩), .pointer (some ⟨w.heap.size + 1, 0, none⟩)]) ∧
      w' = (w.alloc (.cells #[.pointer (some ⟨B, 0, none⟩)] 101)).alloc (.cells #[.func fn b c] 57) := by
  go_enter Tryz.func232, Tryz.ntmps232
  go_wp2
  go_ret
  exact ⟨rfl, rfl⟩
set_option maxHeartbeats 2000000 in
set_option maxRecDepth 100000 in
theorem unless_lay {B : Nat} (x : ByteArray) (fn : Fn) (b c : Array Value) (w : World) :
    Calls Tryz.prog 265 #[.pointer (some ⟨B, 0, none⟩), .string x, .func fn b c] w fun e w' =>
      e = .returned (.func (.func 277) #[] #[.pointer (some ⟨w.heap.size, 0, none⟩), .pointer (some ⟨w.heap.size + 1, 0, none⟩), .pointer (some ⟨w.heap.size + 1 + 1, 0, none⟩)]) ∧
      w' = ((w.alloc (.cells #[.pointer (some ⟨B, 0, none⟩)] 101)).alloc (.cells #[.string x] 9)).alloc (.cells #[.func fn b c] 57) := by
  go_enter Tryz.func265, Tryz.ntmps265
  go_wp2
  go_ret
  exact ⟨rfl, rfl⟩
set_option maxHeartbeats 2000000 in
set_option maxRecDepth 100000 in
theorem values_lay {B : Nat} (m : Int) (w : World) :
    Calls Tryz.prog 207 #[.pointer (some ⟨B, 0, none⟩), .int .i64 m] w fun e w' =>
      e = .returned (.func (.func 234) #[] #[.pointer (some ⟨w.heap.size, 0, none⟩), .pointer (some ⟨w.heap.size + 1, 0, none⟩)]) ∧
      w' = (w.alloc (.cells #[.pointer (some ⟨B, 0, none⟩)] 101)).alloc (.cells #[.int .i64 m] 3) := by
  go_enter Tryz.func207, Tryz.ntmps207
  go_wp2
  go_ret
  exact ⟨rfl, rfl⟩

set_option maxHeartbeats 8000000 in
set_option maxRecDepth 100000 in
theorem bracedc_any {B T E n : Nat} {w : World} {s : S3} {gp gi : Nat} {fam : Nat → F3} {id : FuncId} {b c : Array Value}
    (hbx : ∀ W, Ext B w W → W.cell? ⟨gp, 0, none⟩ = some (.pointer (some ⟨B, 0, none⟩)) ∧ W.cell? ⟨gi, 0, none⟩ = some (.func (.func id) b c))
    (hen : Ent id) (hit : ∀ m, m < n → ∀ W s1, Ext B w W → Ps B T E W s1 → fam m s1 ≠ .out → Calls Tryz.prog id (b ++ c) W (Did B T E W (fam m s1)))
    (h : Ps B T E w s) (hr : bracedF E fam n s ≠ .out) :
    Calls Tryz.prog 242 #[.pointer (some ⟨gp, 0, none⟩), .pointer (some ⟨gi, 0, none⟩)] w (Did B T E w (bracedF E fam n s)) := by
  obtain ⟨r, hrr⟩ : ∃ r, r = bracedF E fam n s := ⟨_, rfl⟩
  rw [← hrr] at hr ⊢
  obtain ⟨Q, hQ⟩ : ∃ Q : Ending → World → Prop, Q = Did B T E w r := ⟨_, rfl⟩
  rw [← hQ]
  have HQ := Lib.hid hQ
  have HR := Lib.hid hr
  change r = ((wordF E [123] s).bind (bracesF E fam n)) at hrr
  have Hrr := Lib.hid hrr
  have HBx := Lib.hid hbx
  have HIt := Lib.hid hit
  have HEn := Lib.hid hen
  have hB := h.lt
  have hWc : Calls Tryz.prog 61 #[.pointer (some ⟨B, 0, none⟩), .string ⟨#[123]⟩] w fun e w' => ∃ g1 g2, e = .returned (.func (.func 110) #[] #[.pointer (some ⟨g1, 0, none⟩), .pointer (some ⟨g2, 0, none⟩)]) ∧
      Ext B w w' ∧ Calls Tryz.prog 110 #[.pointer (some ⟨g1, 0, none⟩), .pointer (some ⟨g2, 0, none⟩)] w' (Ends B T E w (wordF E [123] s)) := word_call (B := B) (T := T) (E := E) (W0 := w) (W := w) (Now.refl h) ⟨#[123]⟩ wordF_ne
  have cp := (hbx w (Ext.refl _ _)).1
  clear hQ hr hrr hbx hit hen h
  go_enter Tryz.func242, Tryz.ntmps242
  go_wp2_with (go_at_call 61; refine hWc.mono ?_; rintro e w5 ⟨g1, g2, rfl, hx5, h77⟩)
  refine h77.mono ?_
  rintro e w6 ⟨v, rfl, hd, hx6⟩
  have HX6 := Lib.hid hx6
  have HD := Lib.hid hd
  clear hx6 hd h77 hx5 hWc cp
  cases hw : wordF E [123] s with
  | out => exact absurd hw wordF_ne
  | bad c1 a1 =>
    have HD2 := HD.out
    rw [hw] at HD2
    obtain ⟨hv, _⟩ := HD2
    obtain rfl : v = errV c1 a1 := Ending.returned.inj hv
    have HRb : Hid (r = .bad c1 a1) := by have h := Hrr.out; rw [hw] at h; exact h
    clear hv hw HD
    unfold errV
    go_wp2
    (try go_ret)
    rw [HQ.out, HRb.out]
    exact ⟨rfl, HX6.out⟩
  | ok s1 =>
    have HD2 := HD.out
    rw [hw] at HD2
    obtain ⟨hv, _, hp6⟩ := HD2
    obtain rfl : v = .nilIface := Ending.returned.inj hv
    have HR1 : Hid (r = bracesF E fam n s1) := by have h := Hrr.out; rw [hw] at h; exact h
    have HP6 := Lib.hid hp6
    clear hv hw HD hp6 Hrr
    go_wp2
    go_loopg [] n (fun k wr => ∃ s2, k ≤ n ∧ Hid (r = bracesF E fam k s2) ∧ Ext B w wr ∧ Ps B T E wr s2)
    case atStart => exact ⟨s1, Nat.le_refl _, HR1, HX6.out, HP6.out⟩
    case round =>
      obtain ⟨s2, hk, HK, hx, hp⟩ := hrel
      have HXr := Lib.hid hx
      have HPr := Lib.hid hp
      have cp := (HBx.out wr hx).1
      clear hx hp HR1 HX6 HP6
      cases gk with
      | zero => exact absurd HK.out HR.out
      | succ m =>
        have HK2 : Hid (r = if (pk E s2.L).t = [125] then .ok { s2 with L := s2.L.tail } else (fam m s2).bind (bracesF E fam m)) := HK.out
        clear HK
        by_cases ht : (pk E s2.L).t = [125]
        · have htk := took_yes HPr.out ⟨#[125]⟩ rfl ht
          have HR2 : Hid (r = .ok { s2 with L := s2.L.tail }) := by have h := HK2.out; rw [if_pos ht] at h; exact h
          clear ht HK2
          go_wp2_with (go_at_call 111; refine htk.mono ?_; rintro e w7 ⟨rfl, hx7, hp7⟩)
          have HX7 := Lib.hid (HXr.out.trans hx7)
          have HP7 := Lib.hid hp7
          clear hx7 hp7 htk
          (try go_wp2)
          (try go_ret)
          rw [HQ.out, HR2.out]
          exact ⟨rfl, HX7.out, HP7.out⟩
        · have htk := took_no HPr.out ⟨#[125]⟩ rfl ht
          have HK3 : Hid (r = (fam m s2).bind (bracesF E fam m)) := by have h := HK2.out; rw [if_neg ht] at h; exact h
          have hne : fam m s2 ≠ .out := fun e => HR.out (by rw [HK3.out, e]; rfl)
          have HNe := Lib.hid hne
          clear ht HK2 hne
          go_wp2_with (go_at_call 111; refine htk.mono ?_; rintro e w7 ⟨rfl, hx7, hp7⟩; have ci := (HBx.out w7 (HXr.out.trans hx7)).2; have hent := HEn.out; unfold Ent at hent)
          have HX7 := Lib.hid (HXr.out.trans hx7)
          have hcall := HIt.out m (by omega) w7 s2 HX7.out hp7 HNe.out
          clear hx7 hp7 htk
          refine hcall.mono ?_
          intro e w8 hd
          cases hf : fam m s2 with
          | out => exact absurd hf HNe.out
          | bad c1 a1 =>
            rw [hf] at hd
            obtain ⟨rfl, hx8⟩ := hd
            have HX8 := Lib.hid (HX7.out.trans hx8)
            have HRb : Hid (r = .bad c1 a1) := by have h := HK3.out; rw [hf] at h; exact h
            clear hcall hent hf hx8 ci cp
            unfold errV
            go_wp2
            (try go_ret)
            rw [HQ.out, HRb.out]
            exact ⟨rfl, HX8.out⟩
          | ok s3 =>
            rw [hf] at hd
            obtain ⟨rfl, hx8, hp8⟩ := hd
            have HX8 := Lib.hid (HX7.out.trans hx8)
            have HP8 := Lib.hid hp8
            have HK5 : Hid (r = bracesF E fam m s3) := by have h := HK3.out; rw [hf] at h; exact h
            clear hcall hent hf hx8 hp8 ci cp HK3 HX7
            go_wp2
            go_roundg m
            case rel => exact ⟨s3, by omega, HK5, HX8.out, HP8.out⟩
            case measure => omega
end Go.Proofs.YtbjacclfhgnffaaGreatDoor
