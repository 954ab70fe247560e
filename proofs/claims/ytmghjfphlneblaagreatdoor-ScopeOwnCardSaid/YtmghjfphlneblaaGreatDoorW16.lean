/-
  Joined texts of this claim: TrU, Soa, Sg, TrV, Si, TrW.
-/
import Derived.Test.YtmghjfphlneblaaGreatDoorW00
import Derived.Test.YtmghjfphlneblaaGreatDoorW12
set_option maxHeartbeats 40000000
set_option maxRecDepth 100000
set_option linter.unusedVariables false
set_option linter.unusedSimpArgs false
namespace Go.Proofs.YtmghjfphlneblaaGreatDoor
section
namespace Tr
open Go.RowKit

set_option maxHeartbeats 4000000 in
set_option maxRecDepth 100000 in
theorem eqints_any (c c' : List Int) (p p' : Option Addr) (cap cap' : Nat) (w : World) (hK : KidsAt w p c) (hK' : KidsAt w p' c') (hm : c.length ≤ 1000000000000000000) (hm' : c'.length ≤ 1000000000000000000) :
    Calls Tryz.prog 80 #[.slice p c.length cap, .slice p' c'.length cap'] w fun e w' => e = .returned (.bool (decide (c = c'))) ∧ Below w.heap.size w w' := by
  have HK := Lib.hid hK
  have HK' := Lib.hid hK'
  clear hK hK'
  obtain ⟨r, hr⟩ : ∃ r, r = decide (c = c') := ⟨_, rfl⟩
  rw [← hr]
  have HR := Lib.hid hr
  clear hr
  obtain ⟨n, hn⟩ : ∃ n, n = c.length := ⟨_, rfl⟩
  obtain ⟨n', hn'⟩ : ∃ n, n = c'.length := ⟨_, rfl⟩
  rw [← hn] at hm ⊢
  rw [← hn'] at hm' ⊢
  have Hn := Lib.hid hn
  have Hn' := Lib.hid hn'
  clear hn hn'
  by_cases hl : n = n'
  · subst hl
    go_enter Tryz.func80, Tryz.ntmps80
    go_wp2
    go_loopw [13] (fun v wr => ∃ k : Nat, k ≤ n ∧ v = .int .i64 k ∧ Hid (∀ j, (h1 : j < c.length) → (h2 : j < c'.length) → j < k → c[j] = c'[j]) ∧ Below w.heap.size w wr) (fun v _ => n - (intOf v).toNat)
    case atStart => exact ⟨0, Nat.zero_le _, rfl, fun j _ _ h => by omega, Below.refl _ _⟩
    case round =>
      obtain ⟨k, hk, rfl, HE, hb⟩ := hrel
      have HB := Lib.hid hb
      clear hb
      by_cases hlt : k < n
      · have h1 : k < c.length := by have := Hn.out; omega
        have h2 : k < c'.length := by have := Hn'.out; omega
        obtain ⟨b, o, rfl, hbl, hc⟩ := HK.out (by omega)
        obtain ⟨b', o', rfl, hbl', hc'⟩ := HK'.out (by omega)
        have e0 := (HB.out.cell (p := ⟨b, o + k, none⟩) hbl).trans (hc k h1)
        have e1 := (HB.out.cell (p := ⟨b', o' + k, none⟩) hbl').trans (hc' k h2)
        have hki : (k : Int) < (n : Int) := by omega
        have hF : c[k] ≠ c'[k] → Hid (r = false) := fun h => HR.out.trans (list_ne h1 h2 h)
        have hN : c[k] = c'[k] → Hid (∀ j, (h1 : j < c.length) → (h2 : j < c'.length) → j < k + 1 → c[j] = c'[j]) := fun h j g1 g2 hj => by
          by_cases e : j = k
          · subst e; exact h
          · exact HE.out j g1 g2 (by omega)
        clear hc hc'
        generalize c[k] = x at *
        generalize c'[k] = y at *
        by_cases hxy : x = y
        · have HN := hN hxy
          subst hxy
          clear hF hN
          have q1 : (x != x) = false := by simp
          have q2 : (x == x) = true := by simp
          go_wp2
          go_quiet (fail)
          go_wp2
          go_roundw
          case rel => exact ⟨k + 1, by omega, by go_num, HN, below_drewN HB.out _⟩
          case measure => simp [intOf]; try omega
        · have HF := hF hxy
          have q1 : (x != y) = true := by simpa using hxy
          have q2 : (x == y) = false := by simpa using hxy
          clear hF hN hxy
          go_wp2
          go_quiet (fail)
          go_wp2
          go_ret
          exact ⟨by rw [HF.out]; rfl, below_drewN HB.out _⟩
      · have HT : Hid (r = true) := HR.out.trans (list_all (by rw [← Hn.out, ← Hn'.out]) fun j g1 g2 => HE.out j g1 g2 (by have := Hn.out; omega))
        go_wp2
        go_ret
        exact ⟨by rw [HT.out]; rfl, HB.out⟩
  · have HF : Hid (r = false) := HR.out.trans (list_len (by rw [← Hn.out, ← Hn'.out]; exact hl))
    have q1 : ((n : Int) != (n' : Int)) = true := by rw [bne_iff_ne]; omega
    have q2 : ((n : Int) == (n' : Int)) = false := by rw [beq_eq_false_iff_ne]; omega
    go_enter Tryz.func80, Tryz.ntmps80
    go_wp2
    go_ret
    exact ⟨by rw [HF.out]; rfl, Below.refl _ _⟩

def sameV (k k' : Int) (t t' : ByteArray) (n n' z z' : Int) (c c' : List Int) : Bool := decide (k = k' ∧ t.toList = t'.toList ∧ n = n' ∧ z = z' ∧ c = c')
def sameB (x y : Nd) : Bool := sameV x.k y.k x.t y.t x.n y.n x.z y.z x.c y.c

set_option maxHeartbeats 4000000 in
set_option maxRecDepth 100000 in
theorem same_any (x y : Nd) (w : World) (hK : KidsAt w x.p x.c) (hK' : KidsAt w y.p y.c) (hm : x.c.length ≤ 1000000000000000000) (hm' : y.c.length ≤ 1000000000000000000) :
    Calls Tryz.prog 43 #[.agg #[.int .i64 x.k, .string x.t, .int .i64 x.n, .int .i64 x.z, .slice x.p x.c.length x.cap, .int .i64 x.a], .agg #[.int .i64 y.k, .string y.t, .int .i64 y.n, .int .i64 y.z, .slice y.p y.c.length y.cap, .int .i64 y.a]] w
      fun e w' => e = .returned (.bool (sameB x y)) ∧ Below w.heap.size w w' := by
  obtain ⟨k, t, n, z, p, cap, c, a⟩ := x
  obtain ⟨k', t', n', z', p', cap', c', a'⟩ := y
  simp only at hK hK' hm hm' ⊢
  have hW : Below w.heap.size w ((w.alloc (.cells #[.int .i64 k, .string t, .int .i64 n, .int .i64 z, .slice p c.length cap, .int .i64 a] 34)).alloc (.cells #[.int .i64 k', .string t', .int .i64 n', .int .i64 z', .slice p' c'.length cap', .int .i64 a'] 34)) := ((Below.refl _ _).alloc (Nat.le_refl _) _).alloc (by simp) _
  have hE := eqints_any c c' p p' cap cap' _ (hK.below hW) (hK'.below hW) hm hm'
  have HW := Lib.hid hW
  obtain ⟨r, hr⟩ : ∃ r, r = sameV k k' t t' n n' z z' c c' := ⟨_, rfl⟩
  show Calls _ _ _ _ fun e w' => e = .returned (.bool (sameV k k' t t' n n' z z' c c')) ∧ Below w.heap.size w w'
  rw [← hr]
  unfold sameV at hr
  clear hW hK hK' hm hm'
  by_cases q1 : k = k'
  · by_cases q2 : t.toList = t'.toList
    · by_cases q3 : n = n'
      · by_cases q4 : z = z'
        · have HR : Hid (r = decide (c = c')) := by show _ = _; rw [hr]; simp [q1, q2, q3, q4]
          have b1 : (k == k') = true := by simpa using q1
          have b2 : (t.toList == t'.toList) = true := by simpa using q2
          have b3 : (n == n') = true := by simpa using q3
          have b4 : (z == z') = true := by simpa using q4
          clear hr q1 q2 q3 q4
          generalize decide (c = c') = d at *
          go_enter Tryz.func43, Tryz.ntmps43
          go_wp2_with (go_at_call 80; refine hE.mono ?_)
          first | rintro e w3 rfl hb3 | rintro e w3 ⟨rfl, hb3⟩
          have HB3 := Lib.hid (HW.out.trans (hb3.mono (by simp; omega)))
          clear hb3 hE
          go_wp2
          go_ret
          exact ⟨by rw [HR.out]; rfl, HB3.out⟩
        · have HR : Hid (r = false) := by show _ = _; rw [hr]; simp [q4]
          have b1 : (k == k') = true := by simpa using q1
          have b2 : (t.toList == t'.toList) = true := by simpa using q2
          have b3 : (n == n') = true := by simpa using q3
          have b4 : (z == z') = false := by simpa using q4
          clear hr q1 q2 q3 q4 hE
          go_enter Tryz.func43, Tryz.ntmps43
          go_wp2
          go_ret
          exact ⟨by rw [HR.out]; rfl, HW.out⟩
      · have HR : Hid (r = false) := by show _ = _; rw [hr]; simp [q3]
        have b1 : (k == k') = true := by simpa using q1
        have b2 : (t.toList == t'.toList) = true := by simpa using q2
        have b3 : (n == n') = false := by simpa using q3
        clear hr q1 q2 q3 hE
        go_enter Tryz.func43, Tryz.ntmps43
        go_wp2
        go_ret
        exact ⟨by rw [HR.out]; rfl, HW.out⟩
    · have HR : Hid (r = false) := by show _ = _; rw [hr]; simp [q2]
      have b1 : (k == k') = true := by simpa using q1
      have b2 : (t.toList == t'.toList) = false := by simpa using q2
      clear hr q1 q2 hE
      go_enter Tryz.func43, Tryz.ntmps43
      go_wp2
      go_ret
      exact ⟨by rw [HR.out]; rfl, HW.out⟩
  · have HR : Hid (r = false) := by show _ = _; rw [hr]; simp [q1]
    have b1 : (k == k') = false := by simpa using q1
    clear hr q1 hE
    go_enter Tryz.func43, Tryz.ntmps43
    go_wp2
    go_ret
    exact ⟨by rw [HR.out]; rfl, HW.out⟩
end Tr
end
section
namespace Sc
open Go.RowKit
open Tr

/-- a node that declares -/
def decK (k : Int) : Prop := k = 2 ∨ k = 3 ∨ k = 4 ∨ k = 12
/-- what is declared: nodes that declare; a local among them is ahead of b -/
def EnvOk (l : List Nd) (b : Nat) (E : Env) : Prop := ∀ x ∈ E, x.1 < l.length ∧ decK (kindAt l x.1) ∧ (kindAt l x.1 = 12 → x.1 < b)
/-- what is written of a node is right -/
def Snd (l : List Nd) (y : Nat × Int) : Prop := y.1 < l.length ∧ (decK (kindAt l y.1) → y.2 = (y.1 : Int)) ∧ (kindAt l y.1 = 32 → 0 ≤ y.2) ∧
  (y.2 = -1 ∨ ∃ j : Nat, y.2 = (j : Int) ∧ j < l.length ∧ tx l j = tx l y.1 ∧ decK (kindAt l j) ∧ (kindAt l j = 12 → j ≤ y.1))
theorem EnvOk.mono {l : List Nd} {b b' : Nat} {E : Env} (h : EnvOk l b E) (hb : b ≤ b') : EnvOk l b' E := fun x hx => ⟨(h x hx).1, (h x hx).2.1, fun e => Nat.lt_of_lt_of_le ((h x hx).2.2 e) hb⟩
theorem envMem_room {l : List Nd} {E : Env} {r : Nat} {s : List UInt8} {j : Nat} (h : roomF l E r s = some j) : ∃ x ∈ E, x.1 = j ∧ tx l j = s := by
  unfold roomF at h
  cases h2 : E.find? fun p => p.2 == r && tx l p.1 == s with
  | none => rw [h2] at h; cases h
  | some x =>
    rw [h2] at h
    have h3 := List.find?_some h2
    have h4 := List.mem_of_find?_eq_some h2
    simp at h3 h
    exact ⟨x, h4, h, by rw [← h]; exact h3.2⟩
theorem envMem_find {l : List Nd} {E : Env} {s : List UInt8} {j : Nat} : ∀ {n : Nat}, findF l E s n = some j → ∃ x ∈ E, x.1 = j ∧ tx l j = s := by
  intro n
  induction n with
  | zero => intro h; cases h
  | succ n ih =>
    intro h
    simp only [findF] at h
    cases hr : roomF l E n s with
    | some i => rw [hr] at h; cases h; exact envMem_room hr
    | none => rw [hr] at h; exact ih h
theorem snd_self {l : List Nd} {k : Nat} (hk : k < l.length) (hd : decK (kindAt l k)) : Snd l (k, (k : Int)) :=
  ⟨hk, fun _ => rfl, fun _ => Int.natCast_nonneg _, Or.inr ⟨k, rfl, hk, rfl, hd, fun _ => Nat.le_refl _⟩⟩
theorem snd_other {l : List Nd} {k b j : Nat} {E : Env} (hk : k < l.length) (hE : EnvOk l b E) (hb : b ≤ k) (hn : ¬ decK (kindAt l k)) (hj : ∃ x ∈ E, x.1 = j ∧ tx l j = tx l k) : Snd l (k, (j : Int)) := by
  obtain ⟨x, hx, rfl, ht⟩ := hj
  obtain ⟨h1, h2, h3⟩ := hE x hx
  exact ⟨hk, fun h => absurd h hn, fun _ => Int.natCast_nonneg _, Or.inr ⟨x.1, rfl, h1, ht, h2, fun e => by have := h3 e; show x.1 ≤ k; omega⟩⟩
theorem one_mem {y : Nat × Int} {k : Nat} {v : Int} (h : y ∈ [(k, v)]) : y = (k, v) := by simpa using h
theorem decl_snd {l : List Nd} {now k b : Nat} {E E' : Env} {W : Wr} (h : declF l now k E = .ok E' W) (hk : k < l.length) (hd : decK (kindAt l k)) (hE : EnvOk l b E) (hb : b ≤ k) : EnvOk l (k + 1) E' ∧ (kindAt l k ≠ 12 → EnvOk l b E') ∧ ∀ y ∈ W, Snd l y := by
  unfold declF at h
  split at h
  · cases h
  · cases h
    refine ⟨fun x hx => ?_, fun hn x hx => ?_, fun y hy => by rw [one_mem hy]; exact snd_self hk hd⟩
    · rcases List.mem_append.1 hx with hx | hx
      · exact (hE.mono (by omega)) x hx
      · simp only [List.mem_cons, List.not_mem_nil, or_false] at hx; subst hx
        exact ⟨hk, hd, fun _ => Nat.lt_succ_self _⟩
    · rcases List.mem_append.1 hx with hx | hx
      · exact hE x hx
      · simp only [List.mem_cons, List.not_mem_nil, or_false] at hx; subst hx
        exact ⟨hk, hd, fun e => absurd e hn⟩
theorem own_snd {l : List Nd} {now k b : Nat} {E E' : Env} {W : Wr} (h : own l now k E = .ok E' W) (hk : k < l.length) (hE : EnvOk l b E) (hb : b ≤ k) : EnvOk l (k + 1) E' ∧ (kindAt l k ≠ 12 → EnvOk l b E') ∧ ∀ y ∈ W, Snd l y := by
  unfold own at h
  split at h
  · rename_i h2
    cases h
    exact ⟨hE.mono (by omega), fun _ => hE, fun y hy => by rw [one_mem hy]; exact snd_self hk (h2.elim Or.inl (fun h => Or.inr (Or.inl h)))⟩
  · rename_i h2
    split at h
    · rename_i h4
      exact decl_snd h hk (h4.elim (fun h => Or.inr (Or.inr (Or.inl h))) (fun h => Or.inr (Or.inr (Or.inr h)))) hE hb
    · rename_i h4
      have hnd : ¬ decK (kindAt l k) := fun hd => by unfold decK at hd; omega
      split at h
      · unfold nameF at h
        split at h
        · rename_i j hj
          split at h
          · cases h
          · cases h
            exact ⟨hE.mono (by omega), fun _ => hE, fun y hy => by rw [one_mem hy]; exact snd_other hk hE hb hnd (envMem_find hj)⟩
        · cases h
      · rename_i h32
        split at h
        · unfold callF at h
          split at h
          · cases h
            exact ⟨hE.mono (by omega), fun _ => hE, fun y hy => by rw [one_mem hy]; exact ⟨hk, fun hd => absurd hd hnd, fun e => absurd e h32, Or.inl rfl⟩⟩
          · split at h
            · rename_i j hj
              split at h
              · cases h
                exact ⟨hE.mono (by omega), fun _ => hE, fun y hy => by rw [one_mem hy]; exact snd_other hk hE hb hnd (envMem_room hj)⟩
              · cases h
            · cases h
        · cases h
          exact ⟨hE.mono (by omega), fun _ => hE, fun y hy => by cases hy⟩
theorem each_snd {l : List Nd} {k : Nat} {q : Nat → Nat} (hK : Kin l k q) {g : Nat → Env → Rs} (hg : ∀ x, x < k → ∀ E E' W, g x E = .ok E' W → EnvOk l (St l x) E → EnvOk l (x + 1) E' ∧ ∀ y ∈ W, Snd l y) :
    ∀ n i E E' W, (kidsAt l k).length - i = n → i ≤ (kidsAt l k).length → each g ((kidsAt l k).drop i) E = .ok E' W → EnvOk l (q i) E → EnvOk l k E' ∧ ∀ y ∈ W, Snd l y := by
  intro n
  induction n with
  | zero =>
    intro i E E' W hn hi h hE
    rw [each_end (by omega)] at h
    cases h
    have : i = (kidsAt l k).length := by omega
    subst this
    rw [hK.to_] at hE
    exact ⟨hE, fun y hy => by cases hy⟩
  | succ n ih =>
    intro i E E' W hn hi h hE
    have hil : i < (kidsAt l k).length := by omega
    obtain ⟨x, h1, h2, h3, h4⟩ := hK.lt i hil
    rw [each_drop hil, h1, Int.toNat_natCast] at h
    obtain ⟨E1, W1, W2, g1, g2, rfl⟩ := bind_ok h
    obtain ⟨e1, e2⟩ := hg x h2 _ _ _ g1 (by rw [h4]; exact hE)
    rw [h3] at e1
    obtain ⟨e3, e4⟩ := ih (i + 1) _ _ _ (by omega) (by omega) g2 e1
    exact ⟨e3, fun y hy => (List.mem_append.1 hy).elim (e2 y) (e4 y)⟩
theorem look_snd {l : List Nd} (hC : ∀ j, j < l.length → codeAt l j = 0) : ∀ (f now k : Nat) (E E' : Env) (W : Wr), look l f now k E = .ok E' W → k < l.length → EnvOk l (St l k) E → EnvOk l (k + 1) E' ∧ ∀ y ∈ W, Snd l y := by
  intro f
  induction f with
  | zero => intro now k E E' W h; cases h
  | succ f ih =>
    intro now k E E' W h hk hE
    obtain ⟨q, hK⟩ := kin_of hk (hC k hk)
    have hle := St_le l k
    have hkid : ∀ E E' W, kidsF l (look l f) now k E = .ok E' W → EnvOk l (St l k) E → EnvOk l k E' ∧ ∀ y ∈ W, Snd l y := by
      intro E E' W h hE
      unfold kidsF at h
      split at h
      · obtain ⟨rfl, E2, h2⟩ := back_ok h
        have := each_snd hK (g := look l f (now + 1)) (fun x hx E E' W h => ih _ _ _ _ _ h (by omega)) _ 0 E' E2 W rfl (Nat.zero_le _) h2 (by rw [hK.from_]; exact hE)
        exact ⟨hE.mono hle, this.2⟩
      · exact each_snd hK (g := look l f now) (fun x hx E E' W h => ih _ _ _ _ _ h (by omega)) _ 0 E E' W rfl (Nat.zero_le _) h (by rw [hK.from_]; exact hE)
    simp only [look] at h
    split at h
    · obtain ⟨E1, W1, W2, h1, h2, rfl⟩ := bind_ok h
      obtain ⟨e1, e2⟩ := hkid _ _ _ h1 hE
      obtain ⟨e3, _, e4⟩ := own_snd h2 hk e1 (Nat.le_refl _)
      exact ⟨e3, fun y hy => (List.mem_append.1 hy).elim (e2 y) (e4 y)⟩
    · rename_i h12
      obtain ⟨E1, W1, W2, h1, h2, rfl⟩ := bind_ok h
      obtain ⟨_, e3, e4⟩ := own_snd h1 hk hE hle
      obtain ⟨e1, e2⟩ := hkid _ _ _ h2 (e3 h12)
      exact ⟨e1.mono (by omega), fun y hy => (List.mem_append.1 hy).elim (e4 y) (e2 y)⟩
theorem own_has {l : List Nd} {now k : Nat} {E E' : Env} {W : Wr} (h : own l now k E = .ok E' W) (hd : decK (kindAt l k) ∨ kindAt l k = 32) : k ∈ W.map (·.1) := by
  unfold own at h
  split at h
  · cases h; simp
  · rename_i h2
    split at h
    · unfold declF at h
      split at h
      · cases h
      · cases h; simp
    · rename_i h4
      split at h
      · unfold nameF at h
        split at h
        · split at h
          · cases h
          · cases h; simp
        · cases h
      · rename_i h32
        unfold decK at hd
        omega
theorem each_has {l : List Nd} {k : Nat} {q : Nat → Nat} (hK : Kin l k q) {g : Nat → Env → Rs} (hg : ∀ x, x < k → ∀ E E' W, g x E = .ok E' W → ∀ i, St l x ≤ i → i ≤ x → (decK (kindAt l i) ∨ kindAt l i = 32) → i ∈ W.map (·.1)) :
    ∀ n j E E' W, (kidsAt l k).length - j = n → j ≤ (kidsAt l k).length → each g ((kidsAt l k).drop j) E = .ok E' W → ∀ i, q j ≤ i → i < k → (decK (kindAt l i) ∨ kindAt l i = 32) → i ∈ W.map (·.1) := by
  intro n
  induction n with
  | zero =>
    intro j E E' W hn hj h i h1 h2
    have : j = (kidsAt l k).length := by omega
    subst this
    rw [hK.to_] at h1
    omega
  | succ n ih =>
    intro j E E' W hn hj h i hi1 hi2 hd
    have hil : j < (kidsAt l k).length := by omega
    obtain ⟨x, h1, h2, h3, h4⟩ := hK.lt j hil
    rw [each_drop hil, h1, Int.toNat_natCast] at h
    obtain ⟨E1, W1, W2, g1, g2, rfl⟩ := bind_ok h
    rw [List.map_append, List.mem_append]
    by_cases hx : i ≤ x
    · exact Or.inl (hg x h2 _ _ _ g1 i (by omega) hx hd)
    · exact Or.inr (ih (j + 1) _ _ _ (by omega) (by omega) g2 i (by omega) hi2 hd)
theorem look_has {l : List Nd} (hC : ∀ j, j < l.length → codeAt l j = 0) : ∀ (f now k : Nat) (E E' : Env) (W : Wr), look l f now k E = .ok E' W → k < l.length → ∀ i, St l k ≤ i → i ≤ k → (decK (kindAt l i) ∨ kindAt l i = 32) → i ∈ W.map (·.1) := by
  intro f
  induction f with
  | zero => intro now k E E' W h; cases h
  | succ f ih =>
    intro now k E E' W h hk i hi1 hi2 hd
    obtain ⟨q, hK⟩ := kin_of hk (hC k hk)
    have hkid : ∀ E E' W, kidsF l (look l f) now k E = .ok E' W → i < k → i ∈ W.map (·.1) := by
      intro E E' W h hik
      unfold kidsF at h
      split at h
      · obtain ⟨rfl, E2, h2⟩ := back_ok h
        exact each_has hK (g := look l f (now + 1)) (fun x hx E E' W h => ih _ _ _ _ _ h (by omega)) _ 0 E' E2 W rfl (Nat.zero_le _) h2 i (by rw [hK.from_]; exact hi1) hik hd
      · exact each_has hK (g := look l f now) (fun x hx E E' W h => ih _ _ _ _ _ h (by omega)) _ 0 E E' W rfl (Nat.zero_le _) h i (by rw [hK.from_]; exact hi1) hik hd
    simp only [look] at h
    split at h
    · obtain ⟨E1, W1, W2, h1, h2, rfl⟩ := bind_ok h
      rw [List.map_append, List.mem_append]
      by_cases hik : i < k
      · exact Or.inl (hkid _ _ _ h1 hik)
      · have : i = k := by omega
        subst this
        exact Or.inr (own_has h2 hd)
    · obtain ⟨E1, W1, W2, h1, h2, rfl⟩ := bind_ok h
      rw [List.map_append, List.mem_append]
      by_cases hik : i < k
      · exact Or.inr (hkid _ _ _ h2 hik)
      · have : i = k := by omega
        subst this
        exact Or.inl (own_has h1 hd)
theorem ov_get_mem {W : Wr} {i : Nat} : ∀ {X : List Int}, i < X.length → i ∈ W.map (·.1) → ∃ y ∈ W, y.1 = i ∧ (ov W X)[i]? = some y.2 := by
  induction W with
  | nil => intro X _ h; cases h
  | cons x W ih =>
    intro X hl h
    by_cases hm : i ∈ W.map (·.1)
    · obtain ⟨y, h1, h2, h3⟩ := ih (X := X.set x.1 x.2) (by simpa using hl) hm
      exact ⟨y, List.mem_cons_of_mem _ h1, h2, h3⟩
    · simp only [List.map_cons, List.mem_cons] at h
      rcases h with h | h
      · refine ⟨x, List.mem_cons_self .., h.symm, ?_⟩
        show (ov W (X.set x.1 x.2))[i]? = _
        have hno : ∀ {W : Wr} {X : List Int}, i ∉ W.map (·.1) → (ov W X)[i]? = X[i]? := by
          intro W
          induction W with
          | nil => intro X _; rfl
          | cons z W ih2 =>
            intro X hz
            simp only [List.map_cons, List.mem_cons, not_or] at hz
            show (ov W (X.set z.1 z.2))[i]? = _
            rw [ih2 hz.2, List.getElem?_set, if_neg (fun e => hz.1 e.symm)]
        rw [hno hm, List.getElem?_set, if_pos h.symm, if_pos (by rw [← h]; exact hl)]
      · exact absurd h hm
theorem ov_get_not {W : Wr} {i : Nat} : ∀ {X : List Int}, i ∉ W.map (·.1) → (ov W X)[i]? = X[i]? := by
  induction W with
  | nil => intro X _; rfl
  | cons x W ih =>
    intro X h
    simp only [List.map_cons, List.mem_cons, not_or] at h
    show (ov W (X.set x.1 x.2))[i]? = _
    rw [ih h.2, List.getElem?_set, if_neg (fun e => h.1 e.symm)]
end Sc
end
section
namespace Sc
open Go.RowKit
open Tr

section
variable {w0 w w2 : World} {l : List Nd} {p : Option Addr} {cap R F : Nat} {ch : Ch} {E : Env} {fs : List Int}
set_option maxHeartbeats 4000000 in
set_option maxRecDepth 100000 in
theorem call_any (h : Sm w0 w l p cap R F ch E fs) {now k m : Nat} (hch : ch.length = now + 1) (hk : k < l.length) (hl : l.length ≤ 600) (hs : l[k].t.size ≤ maxLen) (hq : libB (tx l k) = true → fs[k]? = some (-1)) :
    Calls Tryz.prog 137 #[.pointer (some ⟨R, 0, none⟩), .int .i64 k] w (Dn w0 w l p cap R F ch m fs (callF l k E)) := by
  obtain ⟨b, o, rfl, hb, hN, hN2⟩ := h.node hk
  have hlt := (tx_get hk).symm
  obtain ⟨c0, c1, c2, c3, c4, c5⟩ := hN2 w h.bel
  obtain ⟨q2, r0, qf, ⟨v, qv⟩, qF, qR⟩ := h.wants hk
  have q1 : w.cell? ⟨R, 1, none⟩ = some (.pointer (some ⟨unitB ch, 0, none⟩)) := by rw [h.res.cell]; rfl
  have h0 : 0 < ch.length := by omega
  have hu : unitB ch = (ch[0]).1 := by unfold unitB; rw [List.getElem?_eq_getElem h0]; rfl
  have hb0 := h.one 0 h0
  rw [← hu] at hb0
  obtain ⟨n0, _, hM⟩ := h.map 0 h0
  obtain ⟨m0, hm0⟩ : ∃ m0, m0 = (ch[0]).2 := ⟨_, rfl⟩
  rw [← hm0] at hb0 hM
  have u1 : w.cell? ⟨unitB ch, 1, none⟩ = some (.map (some m0)) := by rw [hb0.cell]; rfl
  have ul : unitB ch < w.heap.size := hb0.lt
  have HM := Lib.hid (hM.same (w' := w.alloc (.cells #[.int .i64 0, .int .i64 0] 26)) (Below.heap_alloc w _ _ hM.lt))
  obtain ⟨Q, hQ⟩ : ∃ Q : Ending → World → Prop, Q = Dn w0 w l (some ⟨b, o, none⟩) cap R F ch m fs (callF l k E) := ⟨_, rfl⟩
  rw [← hQ]
  have HQ := Lib.hid hQ
  have hbb : b < w.heap.size := Nat.lt_of_lt_of_le hb h.bel.size
  clear c0 c2 c3 c4 c5 hQ hN hN2 hb0 hM hm0
  generalize unitB ch = U at *
  clear hu
  obtain ⟨t, ht⟩ : ∃ t, t = l[k].t := ⟨_, rfl⟩
  obtain ⟨n, hn⟩ : ∃ n, n = l.length := ⟨_, rfl⟩
  rw [← ht] at c1 hlt hs
  rw [← hn] at r0 q2
  have hl' : n ≤ 600 := by omega
  have hkn : k < n := by omega
  have HN := Lib.hid hn
  have HK := Lib.hid hk
  have HS := Lib.hid hs
  have HH := Lib.hid h
  cases hlib : libB (tx l k) with
  | true =>
    have hf := fun w => lib_any t w
    rw [hlt, hlib] at hf
    have HR := Lib.hid (show callF l k E = .ok E [(k, -1)] by unfold callF; rw [if_pos hlib])
    have HFS := Lib.hid (show ov [(k, (-1 : Int))] fs = fs by
      rw [ov_one]
      have := hq hlib
      obtain ⟨h1, h2⟩ := List.getElem?_eq_some_iff.1 this
      rw [← h2]; simp)
    clear h hlt hlib hn hk ht hch hl hq h0 hs
    go_enter Tryz.func137, Tryz.ntmps137
    go_wp2_with (go_at_call 82; refine (hf _).mono ?_; rintro e w' ⟨rfl, rfl⟩)
    refine bodyPost_ret (v := .agg #[.int .i64 0, .int .i64 0]) (by simp [results, Tryz.results137, go_sem]) rfl ?_
    rw [HQ.out, HR.out]
    refine ⟨rfl, (Chg.refl _ _ _).alloc _, ?_⟩
    rw [HFS.out]
    exact HH.out.alloc _
  | false =>
    have hf := fun w => lib_any t w
    rw [hlt, hlib] at hf
    cases hd : roomF l E 0 (tx l k) with
    | none =>
      have HR := Lib.hid (show callF l k E = .bad 6 k by unfold callF; rw [if_neg (by rw [hlib]; simp), hd])
      have HD := Lib.hid (show roomF l E 0 t.data.toList = none by rw [hlt]; exact hd)
      clear h hlt hlib hn hk ht hch hl hq h0 hs hd
      go_enter Tryz.func137, Tryz.ntmps137
      go_wp2_with (first | (go_at_call 82; refine (hf _).mono ?_; rintro e w' ⟨rfl, rfl⟩) | (at_lookup; refine look_none _ HM.out HS.out HD.out rfl _ _ rfl rfl rfl ?_))
      refine bodyPost_ret (v := .agg #[.int .i64 6, .int .i64 k]) (by simp [results, Tryz.results137, go_sem]) rfl ?_
      rw [HQ.out, HR.out]
      exact ⟨rfl, (Chg.refl _ _ _).alloc _⟩
    | some j =>
      obtain ⟨x, hx1, hx2, hx3, hx4⟩ := roomF_mem hd
      have hj : j < l.length := by rw [← hx2]; exact (h.env x hx1).1
      have hjn : j < n := by omega
      obtain ⟨b', o', hp', hz1, hz2, hN2⟩ := h.node hj
      have e : b' = b ∧ o' = o := by cases hp'; exact ⟨rfl, rfl⟩
      obtain ⟨rfl, rfl⟩ := e
      obtain ⟨d0, d1, d2, d3, d4, d5⟩ := hN2 w h.bel
      have hkj := kindAt_get hj
      rw [← hkj] at d0
      obtain ⟨kd, hkd⟩ : ∃ kd, kd = kindAt l j := ⟨_, rfl⟩
      rw [← hkd] at d0
      have HD := Lib.hid (show roomF l E 0 t.data.toList = some j by rw [hlt]; exact hd)
      by_cases h3 : kd = 3
      · have HR := Lib.hid (show callF l k E = .ok E [(k, (j : Int))] by unfold callF; rw [if_neg (by rw [hlib]; simp), hd]; simp only; rw [if_pos (by rw [← hkd, h3])])
        subst h3
        clear h hlt hlib hd hn hk ht hch hl hx1 hx2 hx3 hx4 hj hN2 hp' hz1 hz2 d1 d2 d3 d4 d5 hkj hkd hq h0 hs
        go_enter Tryz.func137, Tryz.ntmps137
        go_wp2_with (first | (go_at_call 82; refine (hf _).mono ?_; rintro e w' ⟨rfl, rfl⟩) | (at_lookup; refine look_some _ HM.out HS.out HD.out rfl _ _ rfl rfl rfl ?_))
        refine bodyPost_ret (v := .agg #[.int .i64 0, .int .i64 0]) (by simp [results, Tryz.results137, go_sem]) rfl ?_
        rw [HQ.out, HR.out]
        exact ⟨rfl, ((Chg.refl _ _ _).set k _).alloc _, (HH.out.put k j).alloc _⟩
      · have HR := Lib.hid (show callF l k E = .bad 6 k by unfold callF; rw [if_neg (by rw [hlib]; simp), hd]; simp only; rw [if_neg (by rw [← hkd]; exact h3)])
        have h3' : (kd != 3) = true := by simpa using h3
        clear h hlt hlib hd hn hk ht hch hl hx1 hx2 hx3 hx4 hj hN2 hp' hz1 hz2 d1 d2 d3 d4 d5 hkj hkd hq h0 hs
        go_enter Tryz.func137, Tryz.ntmps137
        go_wp2_with (first | (go_at_call 82; refine (hf _).mono ?_; rintro e w' ⟨rfl, rfl⟩) | (at_lookup; refine look_some _ HM.out HS.out HD.out rfl _ _ rfl rfl rfl ?_))
        refine bodyPost_ret (v := .agg #[.int .i64 6, .int .i64 k]) (by simp [results, Tryz.results137, go_sem]) rfl ?_
        rw [HQ.out, HR.out]
        exact ⟨rfl, (Chg.refl _ _ _).alloc _⟩

/-- what stands of calls of the two functions that are there already -/
def NoLib (l : List Nd) (fs : List Int) : Prop := ∀ k : Nat, kindAt l k = 33 → libB (tx l k) = true → k < l.length → fs[k]? = some (-1)
set_option maxHeartbeats 8000000 in
set_option maxRecDepth 100000 in
theorem own_any (h : Sm w0 w l p cap R F ch E fs) {now k g m : Nat} (hch : ch.length = now + 1) (hg : ch[now]? = some (g, m)) (hk : k < l.length) (hl : l.length ≤ 600) (hE : E.length ≤ 1000000) (hnow : now ≤ 1000000) (hc : codeAt l k = 0) (hq : NoLib l fs) :
    Calls Tryz.prog 86 #[.pointer (some ⟨R, 0, none⟩), .int .i64 k, .pointer (some ⟨g, 0, none⟩)] w (Dn w0 w l p cap R F ch m fs (own l now k E)) := by
  obtain ⟨hm1, hm2, hg1⟩ := h.m_lt hg
  have hF := h.fnd.lt
  have ha := h.alloc (.cells #[.int .i64 0, .int .i64 0] 26)
  have hY := Blk.new w 26 #[.int .i64 0, .int .i64 0]
  obtain ⟨b, o, rfl, hb, hN, hN2⟩ := h.node hk
  obtain ⟨c0, c1, c2, c3, c4, c5⟩ := hN2 w h.bel
  obtain ⟨q2, r0, qf, ⟨v, qv⟩, qF, qR⟩ := h.wants hk
  have hkk := kindAt_get hk
  obtain ⟨kd, hkd⟩ : ∃ kd, kd = kindAt l k := ⟨_, rfl⟩
  rw [← hkk, ← hkd] at c0
  obtain ⟨Q, hQ⟩ : ∃ Q : Ending → World → Prop, Q = Dn w0 w l (some ⟨b, o, none⟩) cap R F ch m fs (own l now k E) := ⟨_, rfl⟩
  rw [← hQ]
  have HQ := Lib.hid hQ
  have HL := Lib.hid h.bel.size
  have hbb : b < w.heap.size := Nat.lt_of_lt_of_le hb h.bel.size
  have HY := Lib.hid hY
  have HH := Lib.hid h
  have hloc := Lib.hid fun (e : namedB kd = true) => local_any ha hch hg hk hl hE (text_size hk hc (by rw [← hkd]; exact e))
  have hnam := Lib.hid fun (e : namedB kd = true) => name_any ha hch hg hk hl hnow (text_size hk hc (by rw [← hkd]; exact e))
  have hcal := Lib.hid fun (e : kd = 33) => call_any (m := m) ha hch hk hl (text_size hk hc (by rw [← hkd, e]; decide)) (fun e2 => hq k (by rw [← hkd]; exact e) e2 hk)
  have HO := Lib.hid (show own l now k E = if kd = 2 ∨ kd = 3 then .ok E [(k, (k : Int))] else if kd = 4 ∨ kd = 12 then declF l now k E else if kd = 32 then nameF l now k E else if kd = 33 then callF l k E else .ok E [] by unfold own; rw [← hkd])
  clear c1 c2 c3 c4 c5 hQ hY hN hN2 hkk hkd hc
  obtain ⟨n, hn⟩ : ∃ n, n = l.length := ⟨_, rfl⟩
  rw [← hn] at r0 q2
  have hl' : n ≤ 600 := by omega
  have hkn : k < n := by omega
  clear hn hk hl hch hg h ha hq
  have HEND : ∀ (r : Rs) (e : Ending) (w2 : World), own l now k E = r → Dn w0 (w.alloc (.cells #[.int .i64 0, .int .i64 0] 26)) l (some ⟨b, o, none⟩) cap R F ch m fs r e w2 → r ≠ .out → ∃ c a : Int, e = .returned (.agg #[.int .i64 c, .int .i64 a]) ∧ Blk w2 w.heap.size 26 #[.int .i64 0, .int .i64 0] ∧ Q (.returned (.agg #[.int .i64 c, .int .i64 a])) ((w2.setCell ⟨w.heap.size, 0, none⟩ (.int .i64 c)).setCell ⟨w.heap.size, 1, none⟩ (.int .i64 a)) := by
    intro r e w2 hr hd hout
    cases r with
    | ok E' W =>
      obtain ⟨rfl, hc, hs⟩ := hd
      have hB := hc.blk HY.out (by omega) (by omega)
      refine ⟨0, 0, rfl, hB, ?_⟩
      rw [HQ.out, hr]
      exact Dn.fine (((Chg.refl _ _ _).alloc _).trans hc) hs HL.out hB (Nat.le_refl _) rfl
    | bad c a =>
      obtain ⟨rfl, hc⟩ := hd
      refine ⟨c, a, rfl, hc.blk HY.out (by omega) (by omega), ?_⟩
      rw [HQ.out, hr]
      exact ⟨rfl, (((Chg.refl _ _ _).alloc _).trans hc).box2 (Nat.le_refl _) _ _⟩
    | out => exact absurd rfl hout
  have HE := Lib.hid HEND
  clear HEND
  by_cases h2 : kd = 2 ∨ kd = 3
  · have HR := Lib.hid (HO.out.trans (if_pos h2))
    have hk2 : (kd == 2) = true ∨ ((kd == 2) = false ∧ (kd == 3) = true) := by
      rcases h2 with rfl | rfl
      · exact Or.inl rfl
      · exact Or.inr ⟨rfl, rfl⟩
    clear HE HO hloc hnam hcal h2
    rcases hk2 with h2 | ⟨h2, h3⟩
    all_goals
      go_enter Tryz.func86, Tryz.ntmps86
      go_wp2
      refine bodyPost_ret (v := .agg #[.int .i64 0, .int .i64 0]) (by simp [results, Tryz.results86, go_sem]) rfl ?_
      rw [HQ.out, HR.out]
      exact ⟨rfl, ((Chg.refl _ _ _).set k _).alloc _, (HH.out.put k k).alloc _⟩
  · have k2 : (kd == 2) = false := by simp; omega
    have k3 : (kd == 3) = false := by simp; omega
    by_cases h4 : kd = 4 ∨ kd = 12
    · have hr : own l now k E = declF l now k E := HO.out.trans ((if_neg h2).trans (if_pos h4))
      have hcl := hloc.out (by rcases h4 with rfl | rfl <;> rfl)
      have hk4 : (kd == 4) = true ∨ ((kd == 4) = false ∧ (kd == 12) = true) := by
        rcases h4 with rfl | rfl
        · exact Or.inl rfl
        · exact Or.inr ⟨rfl, rfl⟩
      have HR := Lib.hid hr
      have HN := Lib.hid (show declF l now k E ≠ .out by unfold declF; split <;> simp)
      clear HO hloc hnam hcal h2 h4 hr
      rcases hk4 with h2 | ⟨h2, h3⟩
      all_goals
        go_enter Tryz.func86, Tryz.ntmps86
        go_wp2_with (go_at_call 135; refine hcl.mono ?_)
        intro e w3 hd
        obtain ⟨c, a, rfl, hB, hf⟩ := HE.out _ e w3 HR.out hd HN.out
        have y0 : w3.cell? ⟨w.heap.size, 0, none⟩ = some (.int .i64 0) := by rw [hB.cell]; rfl
        have y1 : w3.cell? ⟨w.heap.size, 1, none⟩ = some (.int .i64 0) := by rw [hB.cell]; rfl
        have g0 := hB.frozen 0
        have g1 := hB.frozen 1
        have lY := hB.lt
        have hz := set2 hB (.int .i64 c) (.int .i64 a)
        have Z0 := Lib.hid (hz.cell 0)
        have Z1 := Lib.hid (hz.cell 1)
        have HF := Lib.hid hf
        clear hd hB hf hz hcl
        go_wp2
        have z0 := Z0.out
        have z1 := Z1.out
        refine bodyPost_ret (v := .agg #[.int .i64 c, .int .i64 a]) (by simp [results, Tryz.results86, go_sem, z0, z1]) rfl ?_
        exact HF.out
    · have k4 : (kd == 4) = false := by simp; omega
      have k12 : (kd == 12) = false := by simp; omega
      by_cases h5 : kd = 32
      · have hr : own l now k E = nameF l now k E := HO.out.trans ((if_neg h2).trans ((if_neg h4).trans (if_pos h5)))
        have hcl := hnam.out (by rw [h5]; rfl)
        have HR := Lib.hid hr
        have HN := Lib.hid (show nameF l now k E ≠ .out by unfold nameF; split <;> (try split) <;> simp)
        subst h5
        clear HO hloc hnam hcal h2 h4 hr k2 k3 k4 k12
        go_enter Tryz.func86, Tryz.ntmps86
        go_wp2_with (go_at_call 136; refine hcl.mono ?_)
        intro e w3 hd
        obtain ⟨c, a, rfl, hB, hf⟩ := HE.out _ e w3 HR.out hd HN.out
        have y0 : w3.cell? ⟨w.heap.size, 0, none⟩ = some (.int .i64 0) := by rw [hB.cell]; rfl
        have y1 : w3.cell? ⟨w.heap.size, 1, none⟩ = some (.int .i64 0) := by rw [hB.cell]; rfl
        have g0 := hB.frozen 0
        have g1 := hB.frozen 1
        have lY := hB.lt
        have hz := set2 hB (.int .i64 c) (.int .i64 a)
        have Z0 := Lib.hid (hz.cell 0)
        have Z1 := Lib.hid (hz.cell 1)
        have HF := Lib.hid hf
        clear hd hB hf hz hcl
        go_wp2
        have z0 := Z0.out
        have z1 := Z1.out
        refine bodyPost_ret (v := .agg #[.int .i64 c, .int .i64 a]) (by simp [results, Tryz.results86, go_sem, z0, z1]) rfl ?_
        exact HF.out
      · have k32 : (kd == 32) = false := by simp; omega
        by_cases h6 : kd = 33
        · have hr : own l now k E = callF l k E := HO.out.trans ((if_neg h2).trans ((if_neg h4).trans ((if_neg h5).trans (if_pos h6))))
          have hcl := hcal.out h6
          have HR := Lib.hid hr
          have HN := Lib.hid (show callF l k E ≠ .out by unfold callF; split; · simp
                                                         · split <;> (try split) <;> simp)
          subst h6
          clear HO hloc hnam hcal h2 h4 h5 hr k2 k3 k4 k12 k32
          go_enter Tryz.func86, Tryz.ntmps86
          go_wp2_with (go_at_call 137; refine hcl.mono ?_)
          intro e w3 hd
          obtain ⟨c, a, rfl, hB, hf⟩ := HE.out _ e w3 HR.out hd HN.out
          have y0 : w3.cell? ⟨w.heap.size, 0, none⟩ = some (.int .i64 0) := by rw [hB.cell]; rfl
          have y1 : w3.cell? ⟨w.heap.size, 1, none⟩ = some (.int .i64 0) := by rw [hB.cell]; rfl
          have g0 := hB.frozen 0
          have g1 := hB.frozen 1
          have lY := hB.lt
          have hz := set2 hB (.int .i64 c) (.int .i64 a)
          have Z0 := Lib.hid (hz.cell 0)
          have Z1 := Lib.hid (hz.cell 1)
          have HF := Lib.hid hf
          clear hd hB hf hz hcl
          go_wp2
          have z0 := Z0.out
          have z1 := Z1.out
          refine bodyPost_ret (v := .agg #[.int .i64 c, .int .i64 a]) (by simp [results, Tryz.results86, go_sem, z0, z1]) rfl ?_
          exact HF.out
        · have k33 : (kd == 33) = false := by simp; omega
          have HR := Lib.hid (HO.out.trans ((if_neg h2).trans ((if_neg h4).trans ((if_neg h5).trans (if_neg h6)))))
          clear HE HO hloc hnam hcal h2 h4 h5 h6
          go_enter Tryz.func86, Tryz.ntmps86
          go_wp2
          refine bodyPost_ret (v := .agg #[.int .i64 0, .int .i64 0]) (by simp [results, Tryz.results86, go_sem]) rfl ?_
          rw [HQ.out, HR.out]
          exact ⟨rfl, (Chg.refl _ _ _).alloc _, HH.out.alloc _⟩
end
end Sc
end
section
namespace Tr
open Go.RowKit

def sameL (l l' : List Nd) : Bool := decide (l.length = l'.length ∧ ∀ j, (h : j < l.length) → (h' : j < l'.length) → sameB l[j] l'[j] = true)
theorem sameL_len {l l' : List Nd} (h : l.length ≠ l'.length) : sameL l l' = false := decide_eq_false (fun e => h e.1)
theorem sameL_at {l l' : List Nd} {k : Nat} (h : k < l.length) (h' : k < l'.length) (hne : sameB l[k] l'[k] = false) : sameL l l' = false := decide_eq_false (fun e => by rw [e.2 k h h'] at hne; cases hne)
theorem sameL_all {l l' : List Nd} (h : l.length = l'.length) (ha : ∀ j, (h1 : j < l.length) → (h2 : j < l'.length) → sameB l[j] l'[j] = true) : sameL l l' = true := decide_eq_true ⟨h, ha⟩

set_option maxHeartbeats 4000000 in
set_option maxRecDepth 100000 in
theorem eqfunc_any (l l' : List Nd) (p p' : Option Addr) (cap cap' : Nat) (w : World) (hT : Tr w p l) (hT' : Tr w p' l') (hf : Fit l cap) (hf' : Fit l' cap') :
    Calls Tryz.prog 42 #[.slice p l.length cap, .slice p' l'.length cap', .func (.func 43) #[] #[]] w fun e w' => e = .returned (.bool (sameL l l')) ∧ Below w.heap.size w w' := by
  have HT := Lib.hid hT
  have HT' := Lib.hid hT'
  have HF := Lib.hid hf
  have HF' := Lib.hid hf'
  have hn47 := hf.2.1
  have hn47' := hf'.2.1
  clear hT hT' hf hf'
  obtain ⟨r, hr⟩ : ∃ r, r = sameL l l' := ⟨_, rfl⟩
  rw [← hr]
  have HR := Lib.hid hr
  clear hr
  obtain ⟨n, hn⟩ : ∃ n, n = l.length := ⟨_, rfl⟩
  obtain ⟨n', hn'⟩ : ∃ n, n = l'.length := ⟨_, rfl⟩
  rw [← hn] at hn47 ⊢
  rw [← hn'] at hn47' ⊢
  have Hn := Lib.hid hn
  have Hn' := Lib.hid hn'
  clear hn hn'
  by_cases hl : n = n'
  · subst hl
    go_enter Tryz.func42, Tryz.ntmps42
    go_wp2
    go_loopw [17] (fun v wr => ∃ k : Nat, k ≤ n ∧ v = .int .i64 k ∧ Hid (∀ j, (h1 : j < l.length) → (h2 : j < l'.length) → j < k → sameB l[j] l'[j] = true) ∧ Below w.heap.size w wr) (fun v _ => n - (intOf v).toNat)
    case atStart => exact ⟨0, Nat.zero_le _, rfl, fun j _ _ h => by omega, Below.refl _ _⟩
    case round =>
      obtain ⟨k, hk, rfl, HE, hb⟩ := hrel
      have HB := Lib.hid hb
      clear hb
      by_cases hlt : k < n
      · have h1 : k < l.length := by have := Hn.out; omega
        have h2 : k < l'.length := by have := Hn'.out; omega
        obtain ⟨b, o, rfl, hbl, hc⟩ := HT.out.1 (by omega)
        obtain ⟨b', o', rfl, hbl', hc'⟩ := HT'.out.1 (by omega)
        obtain ⟨x0, x1, x2, x3, x4, x5⟩ := (hc k h1).below HB.out hbl
        have lb' : b' < wr.heap.size := Nat.lt_of_lt_of_le hbl' HB.out.size
        have hBa : Below w.heap.size w (wr.alloc (.cells #[.int .i64 l[k].k, .string l[k].t, .int .i64 l[k].n, .int .i64 l[k].z, .slice l[k].p l[k].c.length l[k].cap, .int .i64 l[k].a] 34)) := HB.out.alloc HB.out.size _
        obtain ⟨y0, y1, y2, y3, y4, y5⟩ := (hc' k h2).below hBa hbl'
        have hBb : Below w.heap.size w ((wr.alloc (.cells #[.int .i64 l[k].k, .string l[k].t, .int .i64 l[k].n, .int .i64 l[k].z, .slice l[k].p l[k].c.length l[k].cap, .int .i64 l[k].a] 34)).alloc (.cells #[.int .i64 l'[k].k, .string l'[k].t, .int .i64 l'[k].n, .int .i64 l'[k].z, .slice l'[k].p l'[k].c.length l'[k].cap, .int .i64 l'[k].a] 34)) := hBa.alloc hBa.size _
        have hS := same_any l[k] l'[k] _ ((HT.out.2 k h1).below hBb) ((HT'.out.2 k h2).below hBb) (HF.out.2.2 k h1) (HF'.out.2.2 k h2)
        have hF : sameB l[k] l'[k] = false → Hid (r = false) := fun h => HR.out.trans (sameL_at h1 h2 h)
        have hN : sameB l[k] l'[k] = true → Hid (∀ j, (h1 : j < l.length) → (h2 : j < l'.length) → j < k + 1 → sameB l[j] l'[j] = true) := fun h j g1 g2 hj => by
          by_cases e : j = k
          · subst e; exact h
          · exact HE.out j g1 g2 (by omega)
        have HBb := Lib.hid hBb
        clear hc hc' hBa hBb
        generalize l[k] = x at *
        generalize l'[k] = y at *
        obtain ⟨xk, xt, xn, xz, xp, xcap, xc, xa⟩ := x
        obtain ⟨yk, yt, yn, yz, yp, ycap, yc, ya⟩ := y
        simp only at x0 x1 x2 x3 x4 x5 y0 y1 y2 y3 y4 y5 hS HBb
        cases hs : sameB ⟨xk, xt, xn, xz, xp, xcap, xc, xa⟩ ⟨yk, yt, yn, yz, yp, ycap, yc, ya⟩ with
        | true =>
          have HN := hN hs
          rw [hs] at hS
          clear hF hN hs
          go_wp2_with (go_at_call 43; refine hS.mono ?_)
          first | rintro e w3 rfl hb3 | rintro e w3 ⟨rfl, hb3⟩
          have HB3 := Lib.hid (HBb.out.trans (hb3.mono HBb.out.size))
          clear hb3 hS
          go_wp2
          go_roundw
          case rel => exact ⟨k + 1, by omega, by go_num, HN, HB3.out⟩
          case measure => simp [intOf]; try omega
        | false =>
          have HF0 := hF hs
          rw [hs] at hS
          clear hF hN hs
          go_wp2_with (go_at_call 43; refine hS.mono ?_)
          first | rintro e w3 rfl hb3 | rintro e w3 ⟨rfl, hb3⟩
          have HB3 := Lib.hid (HBb.out.trans (hb3.mono HBb.out.size))
          clear hb3 hS
          go_wp2
          go_ret
          exact ⟨by rw [HF0.out]; rfl, HB3.out⟩
      · have HT0 : Hid (r = true) := HR.out.trans (sameL_all (by rw [← Hn.out, ← Hn'.out]) fun j g1 g2 => HE.out j g1 g2 (by have := Hn.out; omega))
        go_wp2
        go_ret
        exact ⟨by rw [HT0.out]; rfl, HB.out⟩
  · have HF0 : Hid (r = false) := HR.out.trans (sameL_len (by rw [← Hn.out, ← Hn'.out]; exact hl))
    have q1 : ((n : Int) != (n' : Int)) = true := by rw [bne_iff_ne]; omega
    have q2 : ((n : Int) == (n' : Int)) = false := by rw [beq_eq_false_iff_ne]; omega
    go_enter Tryz.func42, Tryz.ntmps42
    go_wp2
    go_ret
    exact ⟨by rw [HF0.out]; rfl, Below.refl _ _⟩
end Tr
end
section
namespace Sc
open Go.RowKit
open Tr

theorem ov_get {l : List Nd} {W : Wr} (hW : ∀ x ∈ W, WOk l x) {k : Nat} (hk : kindAt l k = 33) (hl : libB (tx l k) = true) : ∀ {fs : List Int}, fs[k]? = some (-1) → (ov W fs)[k]? = some (-1) := by
  induction W with
  | nil => intro fs h; exact h
  | cons x W ih =>
    intro fs h
    show (ov W (fs.set x.1 x.2))[k]? = _
    refine ih (fun y hy => hW y (List.mem_cons_of_mem _ hy)) ?_
    rw [List.getElem?_set]
    split
    · rename_i e
      have := (hW x (List.mem_cons_self ..)).2.1
      rw [e] at this
      have hlt : k < fs.length := (List.getElem?_eq_some_iff.1 h).1
      rw [e] at *
      rw [if_pos hlt, this hk hl]
    · exact h
theorem NoLib.ov {l : List Nd} {W : Wr} {fs : List Int} (h : NoLib l fs) (hW : ∀ x ∈ W, WOk l x) : NoLib l (ov W fs) := fun k h1 h2 h3 => ov_get hW h1 h2 (h k h1 h2 h3)
theorem entOwn (args : Array Value) (w : World) : (callFunc 86 args).run Tryz.prog w = .ok (.enter 86 args) w := by kernel_rfl
theorem entKids (args : Array Value) (w : World) : (callFunc 85 args).run Tryz.prog w = .ok (.enter 85 args) w := by kernel_rfl
/-- a step of the search, as a function value's function -/
def StepF (w0 : World) (l : List Nd) (p : Option Addr) (cap R F : Nat) (ch : Ch) (m g k : Nat) (id b : Nat) (h : Env → Rs) : Prop :=
  ∀ (w : World) (E : Env) (fs : List Int), Sm w0 w l p cap R F ch E fs → E.length ≤ b → NoLib l fs → Calls Tryz.prog id #[.pointer (some ⟨R, 0, none⟩), .int .i64 k, .pointer (some ⟨g, 0, none⟩)] w (Dn w0 w l p cap R F ch m fs (h E))
/-- how far two steps have come -/
def Rel2 (w0 w : World) (l : List Nd) (p : Option Addr) (cap R F : Nat) (ch : Ch) (m : Nat) (fs : List Int) (tot : Rs) (h1 h2 : Env → Rs) (b1 b2 : Nat) (j : Nat) (wr : World) : Prop :=
  ∃ E' W fs', Chg F m w wr ∧ Sm w0 wr l p cap R F ch E' fs' ∧ fs' = ov W fs ∧ NoLib l fs' ∧ ((j = 0 ∧ E'.length ≤ b1 ∧ tot = ((h1 E').bind h2).pre W) ∨ (j = 1 ∧ E'.length ≤ b2 ∧ tot = (h2 E').pre W) ∨ (j = 2 ∧ tot = .ok E' W))
section
variable {w0 w w2 : World} {l : List Nd} {p : Option Addr} {cap R F : Nat} {ch : Ch} {E : Env} {fs : List Int}
theorem Sm.rowNe (h : Sm w0 w l p cap R F ch E fs) {G : Nat} {t : TypeId} {cs : Array Value} (hG : Blk w G t cs) (ht : t ≠ 3) : G ≠ F := fun e => by
  have := h.fnd; rw [← e] at this; exact ht (Blk.type hG this)
theorem Sm.rowNm (h : Sm w0 w l p cap R F ch E fs) {now g m G : Nat} (hg : ch[now]? = some (g, m)) {t : TypeId} {cs : Array Value} (hG : Blk w G t cs) : G ≠ m := fun e => by
  have hlt : now < ch.length := (List.getElem?_eq_some_iff.1 hg).1
  have hgm : ch[now] = (g, m) := by rw [List.getElem?_eq_getElem hlt] at hg; exact Option.some.inj hg
  obtain ⟨n, _, hM⟩ := h.map now hlt
  rw [hgm] at hM
  rw [e] at hG
  exact hM.not_blk hG
set_option maxHeartbeats 8000000 in
set_option maxRecDepth 100000 in
theorem inTurn_two (h : Sm w0 w l p cap R F ch E fs) {now k g m G b1 b2 id1 id2 : Nat} {h1 h2 : Env → Rs} (hg : ch[now]? = some (g, m)) (hE : E.length ≤ b1) (hq : NoLib l fs)
    (hG : Blk w G 82 #[.func (.func id1) #[.pointer (some ⟨R, 0, none⟩)] #[], .func (.func id2) #[.pointer (some ⟨R, 0, none⟩)] #[]])
    (he1 : ∀ args w, (callFunc id1 args).run Tryz.prog w = .ok (.enter id1 args) w) (he2 : ∀ args w, (callFunc id2 args).run Tryz.prog w = .ok (.enter id2 args) w)
    (hs1 : StepF w0 l p cap R F ch m g k id1 b1 h1) (hs2 : StepF w0 l p cap R F ch m g k id2 b2 h2)
    (hf1 : ∀ E, E.length ≤ b1 → Fine l b2 (h1 E)) (hf2 : ∀ E, E.length ≤ b2 → Fine l 100000000 (h2 E)) :
    Calls Tryz.prog 84 #[.int .i64 k, .pointer (some ⟨g, 0, none⟩), .slice (some ⟨G, 0, none⟩) 2 2] w (Dn w0 w l p cap R F ch m fs ((h1 E).bind h2)) := by
  obtain ⟨tot, htot⟩ : ∃ tot, tot = (h1 E).bind h2 := ⟨_, rfl⟩
  rw [← htot]
  obtain ⟨Q, hQ⟩ : ∃ Q : Ending → World → Prop, Q = Dn w0 w l p cap R F ch m fs tot := ⟨_, rfl⟩
  rw [← hQ]
  have HQ := Lib.hid hQ
  have hY := Blk.new w 26 #[.int .i64 0, .int .i64 0]
  have hG1 := hG.alloc (.cells #[.int .i64 0, .int .i64 0] 26)
  have hGF := h.rowNe hG (by decide)
  have hGm := h.rowNm hg hG
  obtain ⟨hm1, hm2, hg1⟩ := h.m_lt hg
  have hF := h.fnd.lt
  have hGl := hG.lt
  have HL := Lib.hid h.bel.size
  have R0 : Hid (Rel2 w0 w l p cap R F ch m fs tot h1 h2 b1 b2 0 (w.alloc (.cells #[.int .i64 0, .int .i64 0] 26))) :=
    ⟨E, [], fs, (Chg.refl _ _ _).alloc _, h.alloc _, rfl, hq, Or.inl ⟨rfl, hE, by rw [pre_nil]; exact htot⟩⟩
  have HY : Hid (∀ wr, Chg F m w wr → ∀ w1, w1 = wr → True) := fun _ _ _ _ => trivial
  have HS1 := Lib.hid hs1
  have HS2 := Lib.hid hs2
  have HF1 := Lib.hid hf1
  have HF2 := Lib.hid hf2
  have HG := Lib.hid hG
  clear h hG hG1 hq htot hQ hs1 hs2 hf1 hf2 HY hE
  go_enter Tryz.func84, Tryz.ntmps84
  go_wp2
  go_loopw [12] (fun v wr => ∃ j : Nat, v = .int .i64 j ∧ Hid (Rel2 w0 w l p cap R F ch m fs tot h1 h2 b1 b2 j wr) ∧ Blk wr w.heap.size 26 #[.int .i64 0, .int .i64 0]) (fun v _ => 2 - (intOf v).toNat)
  case atStart => exact ⟨0, rfl, R0.out, hY⟩
  clear R0 hY
  obtain ⟨j, rfl, HR, hY⟩ := hrel
  obtain ⟨E', W, fs', hc, hs, hfs, hn, hcase⟩ := HR.out
  have hGw := hc.blk HG.out hGF hGm
  have x0 : wr.cell? ⟨G, 0, none⟩ = some (.func (.func id1) #[.pointer (some ⟨R, 0, none⟩)] #[]) := by rw [hGw.cell]; rfl
  have x1 : wr.cell? ⟨G, 1, none⟩ = some (.func (.func id2) #[.pointer (some ⟨R, 0, none⟩)] #[]) := by rw [hGw.cell]; rfl
  have lG := hGw.lt
  have HC := Lib.hid hc
  have HH := Lib.hid hs
  have HFS := Lib.hid hfs
  have HN := Lib.hid hn
  have HY := Lib.hid hY
  clear hc hs hfs hn hGw HR hY
  have HEND : Hid (∀ (c a : Int) (w3 : World), tot = .bad c a → Chg F m wr w3 → Blk w3 w.heap.size 26 #[.int .i64 0, .int .i64 0] ∧ ∀ o, Q (.returned (.agg #[.int .i64 c, .int .i64 a])) (((w3.setCell ⟨w.heap.size, 0, none⟩ (.int .i64 c)).setCell ⟨w.heap.size, 1, none⟩ (.int .i64 a)).alloc o)) := by
    intro c a w3 ht hc3
    refine ⟨hc3.blk HY.out (by omega) (by omega), fun o => ?_⟩
    rw [HQ.out, ht]
    exact ⟨rfl, ((HC.out.trans hc3).box2 (Nat.le_refl _) _ _).alloc _⟩
  rcases hcase with ⟨rfl, hb, ht⟩ | ⟨rfl, hb, ht⟩ | ⟨rfl, ht⟩
  · have hcall := HS1.out wr E' fs' HH.out hb HN.out
    have hfine := HF1.out E' hb
    have HT := Lib.hid ht
    clear ht hb x1
    go_wp2_with (refine hcall.mono ?_)
    intro e w3 hd
    cases hr : h1 E' with
    | out => rw [hr] at hfine; exact hfine.elim
    | bad c a =>
      rw [hr] at hd hfine
      obtain ⟨rfl, hc3⟩ := hd
      obtain ⟨hB, hq3⟩ := HEND.out c a w3 (by rw [HT.out, hr]; rfl) hc3
      have y0 : w3.cell? ⟨w.heap.size, 0, none⟩ = some (.int .i64 0) := by rw [hB.cell]; rfl
      have y1 : w3.cell? ⟨w.heap.size, 1, none⟩ = some (.int .i64 0) := by rw [hB.cell]; rfl
      have g0 := hB.frozen 0
      have g1 := hB.frozen 1
      have lY := hB.lt
      have hz := (set2 hB (.int .i64 c) (.int .i64 a)).alloc (.cells #[.int .i64 c, .int .i64 a] 26)
      have Z0 := Lib.hid (hz.cell 0)
      have Z1 := Lib.hid (hz.cell 1)
      have HF := Lib.hid (hq3 (.cells #[.int .i64 c, .int .i64 a] 26))
      clear hB hq3 hz hcall hc3 hr HEND
      rcases hfine with rfl | rfl
      all_goals
        go_wp2
        have z0 := Z0.out
        have z1 := Z1.out
        refine bodyPost_ret (v := .agg #[_, _]) (by simp [results, Tryz.results84, go_sem, z0, z1]; exact ⟨rfl, rfl⟩) rfl ?_
        exact HF.out
    | ok E2 W2 =>
      rw [hr] at hd hfine
      obtain ⟨rfl, hc3, hs3⟩ := hd
      have HY3 := Lib.hid (hc3.blk HY.out (by omega) (by omega))
      have HREL : Hid (Rel2 w0 w l p cap R F ch m fs tot h1 h2 b1 b2 1 (w3.alloc (.cells #[.int .i64 0, .int .i64 0] 26))) :=
        ⟨E2, W ++ W2, _, (HC.out.trans hc3).alloc _, hs3.alloc _, by rw [HFS.out, ov_app], HN.out.ov hfine.2, Or.inr (Or.inl ⟨rfl, hfine.1, by rw [HT.out, hr]; show ((h2 E2).pre W2).pre W = _; rw [pre_pre]⟩)⟩
      clear hcall hc3 hs3 hr hfine HEND x0
      go_wp2
      go_roundw
      case rel => exact ⟨1, by go_num, HREL.out, HY3.out.alloc _⟩
      case measure => simp [intOf]
  · have hcall := HS2.out wr E' fs' HH.out hb HN.out
    have hfine := HF2.out E' hb
    have HT := Lib.hid ht
    clear ht hb x0
    go_wp2_with (refine hcall.mono ?_)
    intro e w3 hd
    cases hr : h2 E' with
    | out => rw [hr] at hfine; exact hfine.elim
    | bad c a =>
      rw [hr] at hd hfine
      obtain ⟨rfl, hc3⟩ := hd
      obtain ⟨hB, hq3⟩ := HEND.out c a w3 (by rw [HT.out, hr]; rfl) hc3
      have y0 : w3.cell? ⟨w.heap.size, 0, none⟩ = some (.int .i64 0) := by rw [hB.cell]; rfl
      have y1 : w3.cell? ⟨w.heap.size, 1, none⟩ = some (.int .i64 0) := by rw [hB.cell]; rfl
      have g0 := hB.frozen 0
      have g1 := hB.frozen 1
      have lY := hB.lt
      have hz := (set2 hB (.int .i64 c) (.int .i64 a)).alloc (.cells #[.int .i64 c, .int .i64 a] 26)
      have Z0 := Lib.hid (hz.cell 0)
      have Z1 := Lib.hid (hz.cell 1)
      have HF := Lib.hid (hq3 (.cells #[.int .i64 c, .int .i64 a] 26))
      clear hB hq3 hz hcall hc3 hr HEND
      rcases hfine with rfl | rfl
      all_goals
        go_wp2
        have z0 := Z0.out
        have z1 := Z1.out
        refine bodyPost_ret (v := .agg #[_, _]) (by simp [results, Tryz.results84, go_sem, z0, z1]; exact ⟨rfl, rfl⟩) rfl ?_
        exact HF.out
    | ok E2 W2 =>
      rw [hr] at hd hfine
      obtain ⟨rfl, hc3, hs3⟩ := hd
      have HY3 := Lib.hid (hc3.blk HY.out (by omega) (by omega))
      have HREL : Hid (Rel2 w0 w l p cap R F ch m fs tot h1 h2 b1 b2 2 (w3.alloc (.cells #[.int .i64 0, .int .i64 0] 26))) :=
        ⟨E2, W ++ W2, _, (HC.out.trans hc3).alloc _, hs3.alloc _, by rw [HFS.out, ov_app], HN.out.ov hfine.2, Or.inr (Or.inr ⟨rfl, by rw [HT.out, hr]; rfl⟩)⟩
      clear hcall hc3 hs3 hr hfine HEND x1
      go_wp2
      go_roundw
      case rel => exact ⟨2, by go_num, HREL.out, HY3.out.alloc _⟩
      case measure => simp [intOf]
  · have HT := Lib.hid ht
    have hB := HY.out
    have y0 : wr.cell? ⟨w.heap.size, 0, none⟩ = some (.int .i64 0) := by rw [hB.cell]; rfl
    have y1 : wr.cell? ⟨w.heap.size, 1, none⟩ = some (.int .i64 0) := by rw [hB.cell]; rfl
    have g0 := hB.frozen 0
    have g1 := hB.frozen 1
    have lY := hB.lt
    have hz := set2 hB (.int .i64 0) (.int .i64 0)
    have Z0 := Lib.hid (hz.cell 0)
    have Z1 := Lib.hid (hz.cell 1)
    clear ht hB hz HEND x0 x1
    go_wp2
    have z0 := Z0.out
    have z1 := Z1.out
    refine bodyPost_ret (v := .agg #[.int .i64 0, .int .i64 0]) (by simp [results, Tryz.results84, go_sem, z0, z1]) rfl ?_
    rw [HQ.out, HT.out]
    exact Dn.fine HC.out HH.out HL.out HY.out (Nat.le_refl _) HFS.out
end
end Sc
end
section
namespace Tr
open Go.RowKit

def SmR (l l' : List Nd) (is : Bool) (c a : Int) : Prop :=
  (CkR l c a ∧ c ≠ 0 ∧ is = false) ∨ (CkR l 0 0 ∧ CkR l' c a ∧ c ≠ 0 ∧ is = false) ∨ (CkR l 0 0 ∧ CkR l' 0 0 ∧ c = 0 ∧ a = 0 ∧ is = sameL l l')
def SmPost (l l' : List Nd) (w : World) (e : Ending) (w' : World) : Prop :=
  Below w.heap.size w w' ∧ ∃ is c a, e = .returned (.tuple #[.bool is, .agg #[.int .i64 c, .int .i64 a]]) ∧ SmR l l' is c a
theorem CkR.zero {l : List Nd} {a : Int} (h : CkR l 0 a) : a = 0 := by
  rcases h with ⟨_, h, _⟩ | ⟨_, _, h⟩
  · cases h
  · rcases h with ⟨i, _, _, hne, h, _⟩ | ⟨_, h⟩
    · exact absurd h.symm hne
    · rcases h with ⟨_, h, _⟩ | ⟨_, ⟨_, h, _⟩ | ⟨_, _, h⟩⟩
      · cases h
      · cases h
      · exact h
theorem fault_put {w : World} {g : Nat} {x0 x1 : Value} (h : Blk w g 26 #[x0, x1]) (c a : Value) : Blk ((w.setCell ⟨g, 0, none⟩ c).setCell ⟨g, 1, none⟩ a) g 26 #[c, a] := by
  have h1 := (h.set_ 0 c).set_ 1 a
  simpa using h1

set_option maxHeartbeats 8000000 in
set_option maxRecDepth 100000 in
theorem tsame_any (l l' : List Nd) (p p' : Option Addr) (cap cap' : Nat) (w : World) (hT : Tr w p l) (hT' : Tr w p' l') (hf : Fit l cap) (hf' : Fit l' cap') :
    Calls Tryz.prog 15 #[.agg #[.slice p l.length cap], .agg #[.slice p' l'.length cap']] w (SmPost l l' w) := by
  have h1 : Below w.heap.size w (((w.alloc (.cells #[.slice p l.length cap] 24)).alloc (.cells #[.slice p' l'.length cap'] 24)).alloc (.cells #[.int .i64 0, .int .i64 0] 26)) := (((Below.refl _ _).alloc (Nat.le_refl _) _).alloc (by simp) _).alloc (by simp; omega) _
  have hc1 := check_any l p cap _ (hT.below h1) hf
  have hY0 : Hid (Blk (((w.alloc (.cells #[.slice p l.length cap] 24)).alloc (.cells #[.slice p' l'.length cap'] 24)).alloc (.cells #[.int .i64 0, .int .i64 0] 26)) (w.heap.size + 1 + 1) 26 #[.int .i64 0, .int .i64 0]) := by
    have h := Blk.new ((w.alloc (.cells #[.slice p l.length cap] 24)).alloc (.cells #[.slice p' l'.length cap'] 24)) 26 #[.int .i64 0, .int .i64 0]
    rw [World.size_alloc, World.size_alloc] at h
    exact h
  have hX1 : Hid (Blk (((w.alloc (.cells #[.slice p l.length cap] 24)).alloc (.cells #[.slice p' l'.length cap'] 24)).alloc (.cells #[.int .i64 0, .int .i64 0] 26)) (w.heap.size + 1) 24 #[.slice p' l'.length cap']) := by
    have h := Blk.new (w.alloc (.cells #[.slice p l.length cap] 24)) 24 #[.slice p' l'.length cap']
    rw [World.size_alloc] at h
    exact h.alloc _
  have hX0 : Hid (Blk (((w.alloc (.cells #[.slice p l.length cap] 24)).alloc (.cells #[.slice p' l'.length cap'] 24)).alloc (.cells #[.int .i64 0, .int .i64 0] 26)) w.heap.size 24 #[.slice p l.length cap]) := ((Blk.new _ _ _).alloc _).alloc _
  have H1 := Lib.hid h1
  have HC' : Hid (∀ W, Below w.heap.size w W → Calls Tryz.prog 22 #[.agg #[.slice p' l'.length cap']] W (CkPost l' W)) := fun W hW => check_any l' p' cap' W (hT'.below hW) hf'
  have HE : Hid (∀ W, Below w.heap.size w W → Calls Tryz.prog 42 #[.slice p l.length cap, .slice p' l'.length cap', .func (.func 43) #[] #[]] W fun e w' => e = .returned (.bool (sameL l l')) ∧ Below W.heap.size W w') := fun W hW => eqfunc_any l l' p p' cap cap' W (hT.below hW) (hT'.below hW) hf hf'
  clear h1 hT hT' hf hf'
  obtain ⟨Q, hQ⟩ : ∃ Q : Ending → World → Prop, Q = SmPost l l' w := ⟨_, rfl⟩
  have HQ := Lib.hid hQ
  rw [← hQ]
  clear hQ
  generalize l.length = n at *
  generalize l'.length = n' at *
  go_enter Tryz.func15, Tryz.ntmps15
  go_wp2_with (go_at_call 22; refine hc1.mono ?_)
  intro e w3 hp
  obtain ⟨hb3, c, a, rfl, hr⟩ := hp
  have HR := Lib.hid hr
  have HB3 := Lib.hid (H1.out.trans (hb3.mono (by simp; try omega)))
  have hY3 := hY0.out.below hb3 (by simp)
  have hX13 := hX1.out.below hb3 (by simp; try omega)
  have hX03 := hX0.out.below hb3 (by simp; omega)
  have hlt := hY3.lt
  have HY3h := Lib.hid hY3
  have hYa := hY3.alloc (.cells #[.int .i64 c, .int .i64 a] 26)
  have hX1a := Lib.hid (hX13.alloc (.cells #[.int .i64 c, .int .i64 a] 26))
  have hX0a := Lib.hid (hX03.alloc (.cells #[.int .i64 c, .int .i64 a] 26))
  have HYa := Lib.hid hYa
  have HBa := Lib.hid (HB3.out.alloc HB3.out.size (.cells #[.int .i64 c, .int .i64 a] 26))
  clear hr hb3 hY3 hX13 hX03 hc1 hY0 hX1 hX0
  by_cases hc0 : c = 0
  · subst hc0
    have ha : a = 0 := HR.out.zero
    subst ha
    clear hYa
    have x1 : (w3.alloc (.cells #[.int .i64 0, .int .i64 0] 26)).cell? ⟨w.heap.size + 1, 0, none⟩ = some (.slice p' n' cap') := by rw [hX1a.out.cell]; rfl
    have hc2 := HC'.out _ HBa.out
    go_wp2_with (go_at_call 22; refine hc2.mono ?_)
    intro e w4 hp
    obtain ⟨hb4, c, a, rfl, hr⟩ := hp
    have HR2 := Lib.hid hr
    have HB4 := Lib.hid (HBa.out.trans (hb4.mono HBa.out.size))
    have hY4 := HYa.out.below hb4 (by simp; omega)
    have hX14 := hX1a.out.below hb4 (by simp; omega)
    have hX04 := hX0a.out.below hb4 (by simp; omega)
    have hlt4 := hY4.lt
    have hYb := hY4.alloc (.cells #[.int .i64 c, .int .i64 a] 26)
    have hX1b := Lib.hid (hX14.alloc (.cells #[.int .i64 c, .int .i64 a] 26))
    have hX0b := Lib.hid (hX04.alloc (.cells #[.int .i64 c, .int .i64 a] 26))
    have HYb := Lib.hid hYb
    have HBb := Lib.hid (HB4.out.alloc HB4.out.size (.cells #[.int .i64 c, .int .i64 a] 26))
    have z0 : w4.cell? ⟨w.heap.size + 1 + 1, 0, none⟩ = some (.int .i64 0) := by rw [hY4.cell]; rfl
    have z1 : w4.cell? ⟨w.heap.size + 1 + 1, 1, none⟩ = some (.int .i64 0) := by rw [hY4.cell]; rfl
    have v0 := hY4.frozen 0
    have v1 := hY4.frozen 1
    have HY4h := Lib.hid hY4
    clear hr hb4 hY4 hX14 hX04 hc2 hYb x1
    by_cases hc0 : c = 0
    · subst hc0
      have ha : a = 0 := HR2.out.zero
      subst ha
      have x1 : (w4.alloc (.cells #[.int .i64 0, .int .i64 0] 26)).cell? ⟨w.heap.size + 1, 0, none⟩ = some (.slice p' n' cap') := by rw [hX1b.out.cell]; rfl
      have x0 : (w4.alloc (.cells #[.int .i64 0, .int .i64 0] 26)).cell? ⟨w.heap.size, 0, none⟩ = some (.slice p n cap) := by rw [hX0b.out.cell]; rfl
      have he := HE.out _ HBb.out
      generalize hd : sameL l l' = d at *
      go_wp2_with (go_at_call 42; refine he.mono ?_)
      first | rintro e w5 rfl hb5 | rintro e w5 ⟨rfl, hb5⟩
      have hY5 := HYb.out.below hb5 (by simp; omega)
      have HB5 := Lib.hid (HBb.out.trans (hb5.mono HBb.out.size))
      have y0 : w5.cell? ⟨w.heap.size + 1 + 1, 0, none⟩ = some (.int .i64 0) := by rw [hY5.cell]; rfl
      have y1 : w5.cell? ⟨w.heap.size + 1 + 1, 1, none⟩ = some (.int .i64 0) := by rw [hY5.cell]; rfl
      have g0 := hY5.frozen 0
      have g1 := hY5.frozen 1
      have lY := hY5.lt
      have HD := Lib.hid hd
      clear hb5 he x0 x1 hY5 hd
      go_wp2
      refine bodyPost_ret (v := .tuple #[.bool d, .agg #[.int .i64 0, .int .i64 0]]) (by simp [results, Tryz.results15, go_sem, y0, y1]) rfl ?_
      rw [HQ.out]
      exact ⟨(HB5.out.setCell (p := ⟨w.heap.size + 1 + 1, 0, none⟩) (by simp; omega) _).setCell (p := ⟨w.heap.size + 1 + 1, 1, none⟩) (by simp; omega) _, d, 0, 0, rfl, Or.inr (Or.inr ⟨HR.out, HR2.out, rfl, rfl, HD.out.symm⟩)⟩
    · have q1 : (c != 0) = true := by simpa using hc0
      have q2 : (c == 0) = false := by simpa using hc0
      have HC0 := Lib.hid hc0
      clear hc0
      go_wp2
      go_region
      go_wp2
      have hZ := fault_set HY4h.out (.int .i64 c) (.int .i64 a) (.cells #[.int .i64 c, .int .i64 a] 26)
      have z2 := hZ.cell 0
      have z3 := hZ.cell 1
      clear hZ
      refine bodyPost_ret (v := .tuple #[.bool false, .agg #[.int .i64 c, .int .i64 a]]) (by simp [results, Tryz.results15, go_sem, z2, z3]) rfl ?_
      rw [HQ.out]
      exact ⟨(((HB4.out.setCell (p := ⟨w.heap.size + 1 + 1, 0, none⟩) (by simp; omega) _).setCell (p := ⟨w.heap.size + 1 + 1, 1, none⟩) (by simp; omega) _).alloc (by simpa using HB4.out.size) _).drew, false, c, a, rfl, Or.inr (Or.inl ⟨HR.out, HR2.out, HC0.out, rfl⟩)⟩
  · have q1 : (c != 0) = true := by simpa using hc0
    have q2 : (c == 0) = false := by simpa using hc0
    have HC0 := Lib.hid hc0
    have z0 : w3.cell? ⟨w.heap.size + 1 + 1, 0, none⟩ = some (.int .i64 0) := by rw [HY3h.out.cell]; rfl
    have z1 : w3.cell? ⟨w.heap.size + 1 + 1, 1, none⟩ = some (.int .i64 0) := by rw [HY3h.out.cell]; rfl
    have v0 := HY3h.out.frozen 0
    have v1 := HY3h.out.frozen 1
    clear hc0 hYa
    go_wp2
    go_region
    go_wp2
    have hZ := fault_set HY3h.out (.int .i64 c) (.int .i64 a) (.cells #[.int .i64 c, .int .i64 a] 26)
    have z2 := hZ.cell 0
    have z3 := hZ.cell 1
    clear hZ
    refine bodyPost_ret (v := .tuple #[.bool false, .agg #[.int .i64 c, .int .i64 a]]) (by simp [results, Tryz.results15, go_sem, z2, z3]) rfl ?_
    rw [HQ.out]
    exact ⟨(((HB3.out.setCell (p := ⟨w.heap.size + 1 + 1, 0, none⟩) (by simp; omega) _).setCell (p := ⟨w.heap.size + 1 + 1, 1, none⟩) (by simp; omega) _).alloc (by simpa using HB3.out.size) _).drew, false, c, a, rfl, Or.inl ⟨HR.out, HC0.out, rfl⟩⟩
end Tr
end
end Go.Proofs.YtmghjfphlneblaaGreatDoor
