/-
  Joined texts of this claim: TkI, Ua, Pa, Pz, TkJ.
-/
import Derived.Test.YtmghjfphlneblaaGreatDoorW00
import Derived.Test.YtmghjfphlneblaaGreatDoorW07
import Derived.OneCell
import Derived.RegionTactic
import Derived.ChangeAlike
import Derived.ChangeAgain
set_option maxHeartbeats 40000000
set_option maxRecDepth 100000
set_option linter.unusedVariables false
set_option linter.unusedSimpArgs false
namespace Go.Proofs.YtmghjfphlneblaaGreatDoor
section
namespace Tk
open Go.RowKit

theorem sh_below {w w' : World} (h : w.ShapedOpen Tryz.prog) (hb : Below w.heap.size w w') : w'.ShapedOpen Tryz.prog :=
  h.keptBut (may := fun _ => False) (hb.frame _) (fun _ f => f.elim)
theorem sh_alloc {w : World} (h : w.ShapedOpen Tryz.prog) (o : Obj) : (w.alloc o).ShapedOpen Tryz.prog := sh_below h ((Below.refl _ _).alloc (Nat.le_refl _) _)

/-- below block B, but for block x, the world is as it was -/
structure GB (x B : Nat) (w w' : World) : Prop where
  os : w'.os = w.os
  tape : w'.tape = w.tape
  output : w'.output = w.output
  size : w.heap.size ≤ w'.heap.size
  block : ∀ k, k < B → k ≠ x → w'.heap[k]? = w.heap[k]?
theorem GB.refl (x B : Nat) (w : World) : GB x B w w := ⟨rfl, rfl, rfl, Nat.le_refl _, fun _ _ _ => rfl⟩
theorem GB.trans {x B : Nat} {a b c : World} (h : GB x B a b) (k : GB x B b c) : GB x B a c :=
  ⟨k.os.trans h.os, k.tape.trans h.tape, k.output.trans h.output, Nat.le_trans h.size k.size, fun i hi hx => (k.block i hi hx).trans (h.block i hi hx)⟩
theorem GB.below {x B C : Nat} {a b c : World} (h : GB x B a b) (k : Below C b c) (hC : B ≤ C) : GB x B a c :=
  h.trans ⟨k.os, k.tape, k.output, k.size, fun i hi _ => k.block i (by omega)⟩
theorem GB.drew {x B : Nat} {a w : World} (h : GB x B a w) : GB x B a w.drew := ⟨h.os, h.tape, h.output, h.size, h.block⟩
theorem GB.alloc {x B : Nat} {a w : World} (h : GB x B a w) (hB : B ≤ w.heap.size) (o : Obj) : GB x B a (w.alloc o) :=
  h.below ((Below.refl w.heap.size w).alloc (Nat.le_refl _) o) hB
theorem GB.setCell {x B : Nat} {a w : World} (h : GB x B a w) {p : Addr} (hp : p.block = x ∨ B ≤ p.block) (u : Value) : GB x B a (w.setCell p u) :=
  h.trans ⟨rfl, rfl, rfl, by simp [World.setCell], fun k hk hx => Below.heap_setCell _ _ _ _ (by rcases hp with h | h <;> omega)⟩
theorem gb_set_alloc (w : World) (x : Nat) (u : Value) (o : Obj) : GB x w.heap.size w ((w.setCell ⟨x, 0, none⟩ u).alloc o) := by
  refine GB.alloc (GB.setCell (p := ⟨x, 0, none⟩) (GB.refl _ _ _) (Or.inl rfl) _) ?_ _
  simp [World.setCell]
theorem one_set_alloc {w : World} {b : Nat} {v u : Value} {t : TypeId} (h : w.heap[b]? = some (.cells #[v] t (0, 0))) (o : Obj) : ((w.setCell ⟨b, 0, none⟩ u).alloc o).heap[b]? = some (.cells #[u] t (0, 0)) := by
  rw [Below.heap_alloc _ _ _ (by simpa [World.setCell] using lt_of_block h)]; exact one_setCell h
theorem GB.grown {x : Nat} {w w' : World} (h : GB x w.heap.size w w') : w.grownBy w' (some x) :=
  ⟨h.os, h.tape, h.output, h.size, fun k hk hx => h.block k hk (fun e => hx (by rw [e]))⟩

/-- what skip leaves: the place has gone on by n bytes -/
def SkipPost (s : ByteArray) (k ba : Nat) (w : World) (e : Ending) (w' : World) : Prop :=
  ∃ n o, e = .returned (.tuple #[.int .i64 (if o = true then 0 else ((k + n : Nat) : Int)), .agg #[.int .i64 (if o = true then 1 else 0), .int .i64 (if o = true then ((k + n : Nat) : Int) else 0)]]) ∧ Gap (s.data.toList.drop k) n o ∧ w.grownBy w' (some ba) ∧ w'.heap[ba]? = some (.cells #[.int .i64 ((k + n : Nat) : Int)] 3 (0, 0))

set_option maxHeartbeats 4000000 in
theorem skip_any (s : ByteArray) (k bt ba : Nat) (w : World) (hs : s.size ≤ 2000) (hk : k ≤ s.size) (hsh : w.ShapedOpen Tryz.prog)
    (hT : w.heap[bt]? = some (.cells #[.string s] 9 (0, 0))) (hA : w.heap[ba]? = some (.cells #[.int .i64 k] 3 (0, 0))) :
    Calls Tryz.prog 157 #[.pointer (some ⟨bt, 0, none⟩), .pointer (some ⟨ba, 0, none⟩)] w (SkipPost s k ba w) := by
  have hbt := lt_of_block hT
  have hba := lt_of_block hA
  have cT := cell_of_one hT
  have cA := cell_of_one hA
  have fA := free_of_one hA
  have hG := fun w h => gap_any (s.extract k s.size) w (by rw [extE_size]; omega) h
  have hgl := Lib.hid (extE_data s k)
  have hsz := Lib.hid (Lib.size_eq s)
  have HA := Lib.hid hA
  clear hT hA
  go_enter Tryz.func157, Tryz.ntmps157
  go_wp2_with (go_at_call 158; refine (hG _ (sh_alloc hsh _)).mono ?_)
  rintro e w2 ⟨n, o, rfl, hg, rfl⟩
  rw [hgl.out] at hg
  have hn : k + n ≤ s.size := by have := hg.1; rw [List.length_drop] at this; have := hsz.out; omega
  have Hg := Lib.hid hg
  clear hg
  cases o with
  | false =>
    go_wp2
    refine bodyPost_ret (v := .tuple #[.int .i64 (k + n), .agg #[.int .i64 0, .int .i64 0]]) (by simp [results, Tryz.results157, go_sem]) rfl ?_
    exact ⟨n, false, rfl, Hg.out, GB.grown (gb_set_alloc _ _ _ _), one_set_alloc HA.out _⟩
  | true =>
    go_wp2
    go_region
    all_goals go_wp2
    refine bodyPost_ret (v := .tuple #[.int .i64 0, .agg #[.int .i64 1, .int .i64 (k + n)]]) (by simp [results, Tryz.results157, go_sem]) rfl ?_
    exact ⟨n, true, rfl, Hg.out, GB.grown (gb_set_alloc _ _ _ _).drew, one_set_alloc HA.out _⟩

set_option maxHeartbeats 400000 in
theorem clone_any (s : ByteArray) (w : World) (hlim : s.size ≤ 281474976710656) :
    Calls Tryz.prog 160 #[.string s] w fun e w' => e = .returned (.string s) ∧ Below w.heap.size w w' := by
  go_enter Tryz.func160, Tryz.ntmps160
  go_wp2_with (go_at_call 193; refine (Tryz.stringslite_Clone _ _ hlim).mono ?_; rintro e w' ⟨rfl, hb⟩)
  go_ret
  exact ⟨rfl, hb⟩

theorem preN_pos {p : UInt8 → Bool} {c : UInt8} {l : List UInt8} (h : p c = true) : 1 ≤ preN p (c :: l) := by
  unfold preN; rw [List.takeWhile_cons, if_pos h]; simp
theorem dig_word {c : UInt8} (h : digB c = true) : wordB c = true := by simp [digB, wordB] at *; omega
theorem sgnF_bad {l : List UInt8} {m c : Nat} (h : sgnF l m = .bad c) : c ≠ 0 := by
  induction m with
  | zero => cases h; decide
  | succ n ih =>
    unfold sgnF at h
    split at h
    · cases h
    · exact ih h
theorem sgnF_tok {l : List UInt8} {m k n v : Nat} (h : sgnF l m = .tok k n v) : 1 ≤ n ∧ n ≤ m := by
  induction m with
  | zero => cases h
  | succ j ih =>
    unfold sgnF at h
    split at h
    · cases h; omega
    · have := ih h; omega
theorem numD_bad {b : Nat} {p : UInt8 → Bool} {ds t : List UInt8} {c : Nat} (h : numD b p ds t = .bad c) : c ≠ 0 := by
  unfold numD at h
  split at h
  · cases h; decide
  · split at h
    · cases h
    · cases h; decide
theorem numT_bad {t : List UInt8} {c : Nat} (h : numT t = .bad c) : c ≠ 0 := by
  unfold numT at h
  split at h
  · split at h
    · cases h; decide
    · exact numD_bad h
  · exact numD_bad h
theorem chrT_cases (l : List UInt8) : chrT l = .bad 1 ∨ (4 ≤ l.length ∧ ∃ v, chrT l = .tok 2 4 v) ∨ (3 ≤ l.length ∧ ∃ v, chrT l = .tok 2 3 v) := by
  unfold chrT
  split
  · exact Or.inl rfl
  · split
    · split
      · exact Or.inl rfl
      · exact Or.inr (Or.inl ⟨by omega, _, rfl⟩)
    · split
      · split
        · exact Or.inl rfl
        · exact Or.inr (Or.inr ⟨by omega, _, rfl⟩)
      · exact Or.inl rfl
theorem fstT_bad {l : List UInt8} {c : Nat} (h : fstT l = .bad c) : c ≠ 0 := by
  cases l with
  | nil => cases h; decide
  | cons x l =>
    simp only [fstT] at h
    split at h
    · exact numT_bad h
    · split at h
      · unfold wrdT at h
        split at h
        · cases h
        · split at h
          · cases h; decide
          · cases h
      · split at h
        · rcases chrT_cases (x :: l) with e | ⟨_, v, e⟩ | ⟨_, v, e⟩ <;> rw [e] at h <;> cases h
          decide
        · exact sgnF_bad h
theorem fstT_tok {l : List UInt8} {k n v : Nat} (h : fstT l = .tok k n v) : 1 ≤ n ∧ n ≤ l.length := by
  cases l with
  | nil => cases h
  | cons x l =>
    have hle := preN_le wordB (x :: l)
    simp only [fstT] at h
    split at h
    · rename_i hd
      have := numT_full _ _ _ _ h
      have hp := preN_pos (l := l) (dig_word hd)
      rw [List.length_take] at this; omega
    · split at h
      · rename_i hd
        have := wrdT_full _ _ _ _ h
        have hp := preN_pos (l := l) hd
        rw [List.length_take] at this; omega
      · split at h
        · rcases chrT_cases (x :: l) with e | ⟨_, v, e⟩ | ⟨_, v, e⟩ <;> rw [e] at h <;> cases h <;> omega
        · have := sgnF_tok h; omega

/-- what take leaves: the word that stands there, and the place behind it -/
def TakePost (l : List UInt8) (k ba : Nat) (w : World) (e : Ending) (w' : World) : Prop :=
  w.grownBy w' (some ba) ∧
  ((∃ c, fstT l = .bad c ∧ e = .returned (.tuple #[.agg #[.int .i64 0, .string ⟨#[]⟩, .int .i64 0, .int .i64 0], .agg #[.int .i64 (c : Nat), .int .i64 k]]) ∧ w'.heap[ba]? = some (.cells #[.int .i64 (k : Int)] 3 (0, 0))) ∨
   (∃ kd n v, fstT l = .tok kd n v ∧ e = .returned (.tuple #[.agg #[.int .i64 (kd : Nat), .string (bstr (l.take n)), .int .i64 (v : Nat), .int .i64 k], .agg #[.int .i64 0, .int .i64 0]]) ∧ w'.heap[ba]? = some (.cells #[.int .i64 ((k + n : Nat) : Int)] 3 (0, 0))))

end Tk
end
section
open Tk (T4)

inductive D3 where
  | ok (s : S3) (x : Mn)
  | bad (c a : Int)
  | out
def D3.bind (d : D3) (f : S3 → Mn → R3) : R3 := match d with | .ok s x => f s x | .bad c a => .bad c a | .out => .out
def namedF (E : Nat) (typ : Int) (s : S3) : D3 := if (pk E s.L).k = 1 then .ok { s with L := s.L.tail } (mk 0 (pk E s.L).t typ (pk E s.L).a) else .bad 1 (pk E s.L).a
def declF (E : Nat) (s : S3) : D3 := match wordF E [105, 110, 116] s with
  | .ok s1 => if (pk E s1.L).t = [42] then namedF E 2 { s1 with L := s1.L.tail } else namedF E 1 s1
  | .bad c a => .bad c a
  | .out => .out
def initialF (E : Nat) (ex : F3) : F3 := fun s => if (pk E s.L).t = [61] then ex { s with L := s.L.tail } else .ok s
def paramF (E : Nat) : F3 := fun s => (declF E s).bind fun s1 x => buildF { x with k := 4 } [] s1
def localF (E : Nat) (ex : F3) : F3 := fun s => (declF E s).bind fun s1 x => buildF { x with k := 12 } [initialF E ex] s1
def effectF (E : Nat) (ex : F3) : F3 := fun s => buildF (mk 13 [] 0 (pk E s.L).a) [ex] s
def nothingF (E : Nat) : F3 := fun s => buildF (mk 24 [] 0 (pk E s.L).a) [] s
def conditionF (E : Nat) (ex : F3) : F3 := seqF [wordF E [40], ex, wordF E [41]]
def toldF (E : Nat) (ex : F3) : F3 := fun s => if (pk E s.L).t = [59] then .ok s else ex s
def unlessF (E : Nat) (e : List UInt8) (f : F3) : F3 := fun s => if (pk E s.L).t = e then nothingF E s else f s
def startF (E : Nat) (ex : F3) : F3 := fun s => if (pk E s.L).t = [105, 110, 116] then localF E ex s else unlessF E [59] (effectF E ex) s
def itemsF (E : Nat) (en : List UInt8) (fam : Nat → F3) : Nat → F3
  | 0 => fun _ => .out
  | m + 1 => fun s => (fam m s).bind fun s2 => if (pk E s2.L).t = [44] then itemsF E en fam m { s2 with L := s2.L.tail } else wordF E en s2
def listF (E : Nat) (o en : List UInt8) (fam : Nat → F3) (n : Nat) : F3 := fun s => (wordF E o s).bind fun s1 => if (pk E s1.L).t = en then .ok { s1 with L := s1.L.tail } else itemsF E en fam n s1
def bracesF (E : Nat) (fam : Nat → F3) : Nat → F3
  | 0 => fun _ => .out
  | m + 1 => fun s => if (pk E s.L).t = [125] then .ok { s with L := s.L.tail } else (fam m s).bind (bracesF E fam m)
def bracedF (E : Nat) (fam : Nat → F3) (n : Nat) : F3 := fun s => (wordF E [123] s).bind (bracesF E fam n)
def valuesF (E : Nat) (most : Int) (fam : Nat → F3) (n : Nat) : F3 := fun s =>
  if (pk E s.L).t = [61] then (listF E [123] [125] fam n { s with L := s.L.tail }).bind fun s2 => if most < (s2.O.length : Int) - s.O.length then .bad 9 (pk E s.L.tail).a else .ok s2 else .ok s
def arrayF (E : Nat) (x : Mn) (fam : Nat → F3) (n : Nat) : F3 := fun s => (wordF E [91] s).bind fun s1 =>
  if (pk E s1.L).k = 2 then
    if (pk E s1.L).v < 1 ∨ 200 < (pk E s1.L).v then .bad 3 (pk E s1.L).a
    else buildF { x with k := 2, n := 3, z := (pk E s1.L).v } [wordF E [93], valuesF E (pk E s1.L).v fam n, wordF E [59]] { s1 with L := s1.L.tail }
  else .bad 1 (pk E s1.L).a

inductive UJob where
  | block
  | action
  | body
  | compound
  | inSwitch
  | braces (sw : Bool)
  | global
  | globals
def itemU (sw : Bool) : UJob := if sw then .inSwitch else .action
def stepU (E n : Nat) (rec : UJob → F3) : UJob → F3
  | .braces sw => fun s => if (pk E s.L).t = [125] then .ok { s with L := s.L.tail } else (rec (itemU sw) s).bind (rec (.braces sw))
  | .block => fun s => buildF (mk 11 [] 0 (pk E s.L).a) [fun s => (wordF E [123] s).bind (rec (.braces false))] s
  | .body => fun s => if (pk E s.L).t = [123] then rec .block s else buildF (mk 11 [] 0 (pk E s.L).a) [rec .action] s
  | .action => fun s =>
      let t := (pk E s.L).t
      let a := (pk E s.L).a
      let ex := runJ E n .expr
      if t = [123] then rec .block s
      else if t = [105, 110, 116] then seqF [localF E ex, wordF E [59]] s
      else if t = [105, 102] ∨ t = [119, 104, 105, 108, 101] ∨ t = [100, 111] ∨ t = [102, 111, 114] ∨ t = [115, 119, 105, 116, 99, 104] then rec .compound s
      else if t = [98, 114, 101, 97, 107] then buildF (mk 21 [] 0 a) [wordF E [98, 114, 101, 97, 107], wordF E [59]] s
      else if t = [99, 111, 110, 116, 105, 110, 117, 101] then buildF (mk 22 [] 0 a) [wordF E [99, 111, 110, 116, 105, 110, 117, 101], wordF E [59]] s
      else if t = [114, 101, 116, 117, 114, 110] then buildF (mk 23 [] 0 a) [wordF E [114, 101, 116, 117, 114, 110], toldF E ex, wordF E [59]] s
      else if t = [59] then seqF [nothingF E, wordF E [59]] s
      else seqF [effectF E ex, wordF E [59]] s
  | .compound => fun s =>
      let t := (pk E s.L).t
      let a := (pk E s.L).a
      let ex := runJ E n .expr
      let s1 : S3 := { s with L := s.L.tail }
      let els : F3 := fun s => if (pk E s.L).t = [101, 108, 115, 101] then rec .body { s with L := s.L.tail } else .ok s
      if t = [105, 102] then buildF (mk 14 [] 0 a) [conditionF E ex, rec .body, els] s1
      else if t = [119, 104, 105, 108, 101] then buildF (mk 15 [] 0 a) [conditionF E ex, rec .body] s1
      else if t = [100, 111] then buildF (mk 16 [] 0 a) [rec .body, wordF E [119, 104, 105, 108, 101], conditionF E ex, wordF E [59]] s1
      else if t = [102, 111, 114] then buildF (mk 17 [] 0 a) [wordF E [40], startF E ex, wordF E [59], unlessF E [59] ex, wordF E [59], unlessF E [41] (effectF E ex), wordF E [41], rec .body] s1
      else buildF (mk 18 [] 0 a) [conditionF E ex, fun s => (wordF E [123] s).bind (rec (.braces true))] s1
  | .inSwitch => fun s =>
      let t := (pk E s.L).t
      let a := (pk E s.L).a
      if t = [99, 97, 115, 101] then buildF (mk 19 [] 0 a) [wordF E [99, 97, 115, 101], runJ E n .expr, wordF E [58]] s
      else if t = [100, 101, 102, 97, 117, 108, 116] then buildF (mk 20 [] 0 a) [wordF E [100, 101, 102, 97, 117, 108, 116], wordF E [58]] s
      else rec .action s
  | .global => fun s =>
      let fn : Mn → F3 := fun x => buildF { x with k := 3 } [listF E [40] [41] (fun _ => paramF E) n, rec .block]
      if (pk E s.L).t = [118, 111, 105, 100] then (namedF E 0 { s with L := s.L.tail }).bind fun s1 x => fn x s1
      else (declF E s).bind fun s1 x =>
        if (pk E s1.L).t = [40] then fn x s1
        else if (pk E s1.L).t = [91] ∧ x.n = 1 then arrayF E x (fun m => runJ E m .expr) n s1
        else buildF { x with k := 2 } [initialF E (runJ E n .expr), wordF E [59]] s1
  | .globals => fun s => if s.L = [] then .ok s else (rec .global s).bind (rec .globals)
def runU (E : Nat) : Nat → UJob → F3
  | 0 => fun _ _ => .out
  | n + 1 => stepU E n (runU E n)
def unitF (E n : Nat) : F3 := buildF (mk 1 [] 0 0) [runU E n .globals]
theorem braces_eq (E : Nat) (sw : Bool) : ∀ n, runU E n (.braces sw) = bracesF E (fun m => runU E m (itemU sw)) n
  | 0 => rfl
  | n + 1 => by
    funext s
    show (if (pk E s.L).t = [125] then R3.ok { s with L := s.L.tail } else (runU E n (itemU sw) s).bind (runU E n (.braces sw))) = _
    rw [braces_eq E sw n]; rfl
theorem items_eq (E : Nat) (en : List UInt8) (item : Job) : ∀ n, runJ E n (.items en item) = itemsF E en (fun m => runJ E m item) n
  | 0 => rfl
  | n + 1 => by
    funext s
    show ((runJ E n item s).bind fun s1 => if (pk E s1.L).t = [44] then runJ E n (.items en item) { s1 with L := s1.L.tail } else wordF E en s1) = _
    rw [items_eq E en item n]; rfl
end
section
open Tk (T4)

/-- ends, and where it ends well this holds -/
def Fine (r : R3) (P : S3 → Prop) : Prop := match r with | .ok s => P s | .bad _ _ => True | .out => False
theorem Fine.bind {r : R3} {f : F3} {P Q : S3 → Prop} (h : Fine r P) (k : ∀ s, P s → Fine (f s) Q) : Fine (r.bind f) Q := by
  cases r with
  | ok s => exact k s h
  | bad c a => trivial
  | out => exact h.elim
theorem Fine.mono {r : R3} {P Q : S3 → Prop} (h : Fine r P) (k : ∀ s, P s → Q s) : Fine r Q := by
  cases r with
  | ok s => exact k s h
  | bad c a => trivial
  | out => exact h.elim
theorem Fine.ne {r : R3} {P : S3 → Prop} (h : Fine r P) : r ≠ .out := fun e => by rw [e] at h; exact h
theorem Fine.ok {r : R3} {P : S3 → Prop} (h : Fine r P) {s : S3} (e : r = .ok s) : P s := by rw [e] at h; exact h
theorem pk_pos {E : Nat} {L : List T4} (h : (pk E L).t ≠ []) : L ≠ [] := fun e => h (by rw [e]; rfl)
theorem pk_kpos {E : Nat} {L : List T4} (h : (pk E L).k ≠ 0) : L ≠ [] := fun e => h (by rw [e]; rfl)
theorem tail_lt {L : List T4} (h : L ≠ []) : L.tail.length + 1 = L.length := by
  cases L with
  | nil => exact absurd rfl h
  | cons a b => simp
theorem tail_le (L : List T4) : L.tail.length ≤ L.length := by simp
theorem word_fine {E : Nat} {t : List UInt8} (s : S3) (ht : t ≠ []) : Fine (wordF E t s) (fun s' => s' = { s with L := s.L.tail } ∧ s.L.tail.length + 1 = s.L.length) := by
  unfold wordF
  split
  · rename_i h
    exact ⟨rfl, tail_lt (pk_pos (E := E) (by rw [h]; exact ht))⟩
  · trivial
/-- the last node is an expression -/
def LastE (N : List Mn) : Prop := ∃ x, N.getLast? = some x ∧ 31 ≤ x.k ∧ x.k ≤ 40
theorem add_fine {x : Mn} {mark : Nat} (s : S3) (hm : mark ≤ s.O.length) (hN : s.N.length ≤ 4500000) : Fine (addF x mark s) (fun s' => s' = { s with N := s.N ++ [{ x with c := s.O.drop mark }], O := s.O.take mark ++ [(s.N.length : Int)] }) := by
  unfold addF
  rw [if_neg (by omega)]
  rfl
/-- no more, and the nodes do not grow faster than the words go -/
structure Less (c : Nat) (s s' : S3) : Prop where
  l : s'.L.length + c ≤ s.L.length
  n : s'.N.length + s'.L.length ≤ s.N.length + s.L.length
  g : s.N.length ≤ s'.N.length
theorem Less.trans {a b : Nat} {s1 s2 s3 : S3} (h : Less a s1 s2) (k : Less b s2 s3) : Less (a + b) s1 s3 :=
  ⟨by have := h.l; have := k.l; omega, Nat.le_trans k.n h.n, Nat.le_trans h.g k.g⟩
theorem Less.of {a b : Nat} {s s' : S3} (h : Less a s s') (hb : b ≤ a) : Less b s s' := ⟨by have := h.l; omega, h.n, h.g⟩
/-- one loose node behind these, and it is the last one, an expression -/
structure Top1 (O0 : List Int) (s : S3) : Prop where
  o : s.O = O0 ++ [(s.N.length : Int) - 1]
  k : LastE s.N
theorem add_top {x : Mn} {mark : Nat} {s s' : S3} {O0 : List Int} (h : s' = { s with N := s.N ++ [{ x with c := s.O.drop mark }], O := s.O.take mark ++ [(s.N.length : Int)] }) (h0 : s.O.take mark = O0) (hk : 31 ≤ x.k ∧ x.k ≤ 40) : Top1 O0 s' := by
  subst h
  refine ⟨?_, ⟨{ x with c := s.O.drop mark }, by simp, hk⟩⟩
  show s.O.take mark ++ _ = O0 ++ _
  rw [h0]
  simp
def rankJ : Job → Nat
  | .expr => 4
  | .pairs _ => 3
  | .prefixed => 2
  | .postfixed => 1
  | .items _ _ => 5
  | _ => 0
def PreJ : Job → S3 → Prop
  | .pairs low, _ => 1 ≤ low ∧ low ≤ 1000
  | .pairsL low mark, s => 1 ≤ low ∧ ∃ O0, O0.length = mark ∧ Top1 O0 s
  | .postL mark, s => ∃ O0, O0.length = mark ∧ Top1 O0 s
  | .list o e i, _ => o ≠ [] ∧ e ≠ [] ∧ i = .expr
  | .items e i, _ => e ≠ [] ∧ i = .expr
  | _, _ => True
def PostJ : Job → S3 → S3 → Prop
  | .pairsL _ mark, s, s' => Less 0 s s' ∧ ∀ O0, O0.length = mark → Top1 O0 s → Top1 O0 s'
  | .postL mark, s, s' => Less 0 s s' ∧ ∀ O0, O0.length = mark → Top1 O0 s → Top1 O0 s'
  | .list _ _ _, s, s' => Less 1 s s' ∧ ∃ l, s'.O = s.O ++ l
  | .items _ _, s, s' => Less 1 s s' ∧ ∃ l, s'.O = s.O ++ l
  | _, s, s' => Less 1 s s' ∧ Top1 s.O s'
theorem pref_ne {t : List UInt8} (h : prefT t ≠ 0) : t ≠ [] := fun e => h (by rw [e]; rfl)
theorem set_ne {t : List UInt8} (h : setT t = true) : t ≠ [] := fun e => by rw [e] at h; exact absurd h (by decide)
theorem level_ne {t : List UInt8} {low : Nat} (h1 : 1 ≤ low) (h : low ≤ levelT t) : t ≠ [] := fun e => by
  rw [e] at h; have h2 : levelT [] = 0 := by decide
  omega
theorem mk_rng {k : Int} {t : List UInt8} {n a : Int} (h : 31 ≤ k ∧ k ≤ 40) : 31 ≤ (mk k t n a).k ∧ (mk k t n a).k ≤ 40 := h
theorem level_le (t : List UInt8) : levelT t ≤ 11 := by
  unfold levelT
  repeat' split
  all_goals omega
theorem pairK_rng (l : Nat) : 31 ≤ pairK l ∧ pairK l ≤ 40 := by unfold pairK; split <;> omega
theorem pref_rng {t : List UInt8} (h : prefT t ≠ 0) : 31 ≤ prefT t ∧ prefT t ≤ 40 := by
  unfold prefT at h ⊢; repeat' split
  all_goals first | omega | simp_all
theorem top_len {O0 : List Int} {s : S3} (h : Top1 O0 s) : s.O.length = O0.length + 1 := by rw [h.o]; simp
theorem top_take {O0 : List Int} {s : S3} (h : Top1 O0 s) : s.O.take O0.length = O0 := by rw [h.o]; simp
/-- what is behind a mark, and then an expression -/
theorem top_take2 {O0 : List Int} {s s' : S3} (h : Top1 O0 s) (k : Top1 s.O s') : s'.O.take O0.length = O0 := by rw [k.o, h.o]; simp
theorem bind_ok (s : S3) (f : F3) : (R3.ok s).bind f = f s := rfl
theorem seq_fine1 {f : F3} {s : S3} {P : S3 → Prop} (h : Fine (f s) P) : Fine (seqF [f] s) P := by
  unfold seqF; exact h.bind fun s1 h1 => h1
theorem seq_fine2 {f g : F3} {s : S3} {P Q : S3 → Prop} (h : Fine (f s) P) (k : ∀ s1, P s1 → Fine (g s1) Q) : Fine (seqF [f, g] s) Q := by
  unfold seqF; exact h.bind fun s1 h1 => seq_fine1 (k s1 h1)
theorem seq_fine3 {f g i : F3} {s : S3} {P Q R : S3 → Prop} (h : Fine (f s) P) (k : ∀ s1, P s1 → Fine (g s1) Q) (l : ∀ s2, Q s2 → Fine (i s2) R) : Fine (seqF [f, g, i] s) R := by
  unfold seqF; exact h.bind fun s1 h1 => seq_fine2 (k s1 h1) l
theorem seq_fine4 {f g i j : F3} {s : S3} {P Q R U : S3 → Prop} (h : Fine (f s) P) (k : ∀ s1, P s1 → Fine (g s1) Q) (l : ∀ s2, Q s2 → Fine (i s2) R) (m : ∀ s2, R s2 → Fine (j s2) U) : Fine (seqF [f, g, i, j] s) U := by
  unfold seqF; exact h.bind fun s1 h1 => seq_fine3 (k s1 h1) l m
theorem less_tail {s : S3} (h : s.L.tail.length + 1 = s.L.length) : Less 1 s { s with L := s.L.tail } := ⟨by show s.L.tail.length + 1 ≤ _; omega, by show s.N.length + s.L.tail.length ≤ _; omega, Nat.le_refl _⟩
/-- a node is added: one word at least has gone -/
theorem less_add {x : Mn} {mark : Nat} {s0 s s' : S3} (h : s' = { s with N := s.N ++ [{ x with c := s.O.drop mark }], O := s.O.take mark ++ [(s.N.length : Int)] }) {c : Nat} (hl : s.L.length + c ≤ s0.L.length) (hn : s.N.length + s.L.length + 1 ≤ s0.N.length + s0.L.length) (hg : s0.N.length ≤ s.N.length) : Less c s0 s' := by
  subst h
  refine ⟨hl, ?_, ?_⟩
  · show (s.N ++ _).length + s.L.length ≤ _
    simp; omega
  · show _ ≤ (s.N ++ _).length
    simp; omega
theorem runJ_fine (E : Nat) : ∀ n job (s : S3), PreJ job s → s.N.length + s.L.length ≤ 4500000 → 10 * s.L.length + rankJ job < n → Fine (runJ E n job s) (PostJ job s) := by
  intro n
  induction n with
  | zero => intro job s _ _ h; omega
  | succ n ih =>
    intro job s hp hs hf
    show Fine (stepJ E (runJ E n) job s) _
    cases job with
    | expr =>
      change 10 * s.L.length + 4 < n + 1 at hf
      have h1 : Fine (runJ E n (.pairs 2) s) (fun s' => Less 1 s s' ∧ Top1 s.O s') := ih (.pairs 2) s ⟨by omega, by omega⟩ hs (by show _ + 3 < _; omega)
      refine Fine.bind h1 fun s1 h1 => ?_
      obtain ⟨hl, ht⟩ := h1
      have hl1 := hl.l; have hn1 := hl.n; have hg1 := hl.g
      by_cases hq : (pk E s1.L).t = [63]
      · simp only [if_pos hq]
        unfold extF
        refine Fine.bind (P := fun s5 => Less 2 s1 s5 ∧ s5.O.take s.O.length = s.O ∧ s.O.length ≤ s5.O.length ∧ s5.N.length + s5.L.length + 2 ≤ s1.N.length + s1.L.length) ?_ ?_
        · refine seq_fine4 (word_fine s1 (by simp)) (fun s2 h2 => ?_) (fun s3 h3 => ?_) (fun s4 h4 => ?_)
            (Q := fun s3 => s3.L.length + 2 ≤ s1.L.length ∧ s3.N.length + s3.L.length + 1 ≤ s1.N.length + s1.L.length ∧ s1.N.length ≤ s3.N.length ∧ ∃ l, s3.O = s.O ++ l)
            (R := fun s3 => s3.L.length + 3 ≤ s1.L.length ∧ s3.N.length + s3.L.length + 2 ≤ s1.N.length + s1.L.length ∧ s1.N.length ≤ s3.N.length ∧ ∃ l, s3.O = s.O ++ l)
          · obtain ⟨rfl, h2⟩ := h2
            have := ih .expr { s1 with L := s1.L.tail } trivial (by show s1.N.length + s1.L.tail.length ≤ _; omega) (by show 10 * s1.L.tail.length + 4 < _; omega)
            refine this.mono fun s3 h3 => ?_
            obtain ⟨⟨a, b, c⟩, d⟩ := h3
            have a' : s3.L.length + 1 ≤ s1.L.tail.length := a
            have b' : s3.N.length + s3.L.length ≤ s1.N.length + s1.L.tail.length := b
            refine ⟨by omega, by omega, c, ?_⟩
            exact ⟨[(s1.N.length : Int) - 1, (s3.N.length : Int) - 1], by rw [d.o]; show s1.O ++ _ = _; rw [ht.o]; simp⟩
          · obtain ⟨a, b, c, d⟩ := h3
            refine (word_fine s3 (by simp)).mono fun s4 h4 => ?_
            obtain ⟨rfl, h4⟩ := h4
            refine ⟨?_, ?_, c, d⟩
            · show s3.L.tail.length + 3 ≤ _; omega
            · show s3.N.length + s3.L.tail.length + 2 ≤ _; omega
          · obtain ⟨a, b, c, l, d⟩ := h4
            have := ih .expr s4 trivial (by omega) (by show 10 * s4.L.length + 4 < _; omega)
            refine this.mono fun s5 h5 => ?_
            obtain ⟨⟨a', b', c'⟩, d'⟩ := h5
            refine ⟨⟨by omega, by omega, by omega⟩, ?_, ?_, by omega⟩
            · rw [d'.o, d]; simp
            · rw [d'.o, d]; simp
        · intro s5 h5
          obtain ⟨⟨a, b, c⟩, d, e, f⟩ := h5
          refine (add_fine s5 e (by omega)).mono fun s6 h6 => ?_
          exact ⟨less_add h6 (by omega) (by omega) (by omega), add_top h6 d (mk_rng ⟨by decide, by decide⟩)⟩
      · by_cases hset : setT (pk E s1.L).t = true
        · simp only [if_neg hq, if_pos hset]
          unfold extF
          refine Fine.bind (P := fun s5 => Less 2 s1 s5 ∧ s5.O.take s.O.length = s.O ∧ s.O.length ≤ s5.O.length ∧ s5.N.length + s5.L.length + 1 ≤ s1.N.length + s1.L.length) ?_ ?_
          · refine seq_fine2 (word_fine s1 (set_ne hset)) (fun s2 h2 => ?_)
            obtain ⟨rfl, h2⟩ := h2
            have := ih .expr { s1 with L := s1.L.tail } trivial (by show s1.N.length + s1.L.tail.length ≤ _; omega) (by show 10 * s1.L.tail.length + 4 < _; omega)
            refine this.mono fun s3 h3 => ?_
            obtain ⟨⟨a, b, c⟩, d⟩ := h3
            have a' : s3.L.length + 1 ≤ s1.L.tail.length := a
            have b' : s3.N.length + s3.L.length ≤ s1.N.length + s1.L.tail.length := b
            have c' : s1.N.length ≤ s3.N.length := c
            refine ⟨⟨by omega, by omega, c'⟩, ?_, ?_, by omega⟩
            · exact top_take2 ht ⟨d.o, d.k⟩
            · rw [d.o]; show _ ≤ (s1.O ++ _).length; rw [ht.o]; simp
          · intro s5 h5
            obtain ⟨⟨a, b, c⟩, d, e, f⟩ := h5
            refine (add_fine s5 e (by omega)).mono fun s6 h6 => ?_
            exact ⟨less_add h6 (by omega) (by omega) (by omega), add_top h6 d (mk_rng ⟨by decide, by decide⟩)⟩
        · simp only [if_neg hq, if_neg hset]
          exact ⟨hl, ht⟩
    | pairs low =>
      change 10 * s.L.length + 3 < n + 1 at hf
      obtain ⟨p1, p2⟩ := hp
      show Fine (if 1000 < low then .out else (runJ E n .prefixed s).bind (runJ E n (.pairsL low s.O.length))) _
      rw [if_neg (by omega)]
      refine Fine.bind (ih .prefixed s trivial hs (by show _ + 2 < _; omega)) fun s1 h1 => ?_
      obtain ⟨hl, ht⟩ := h1
      have hl1 := hl.l; have hn1 := hl.n
      refine (ih (.pairsL low s.O.length) s1 ⟨p1, s.O, rfl, ht⟩ (by omega) (by show _ + 0 < _; omega)).mono fun s2 h2 => ?_
      exact ⟨hl.trans h2.1, h2.2 s.O rfl ht⟩
    | pairsL low mark =>
      change 10 * s.L.length + 0 < n + 1 at hf
      obtain ⟨p1, O0, hm, ht⟩ := hp
      show Fine (if low ≤ levelT (pk E s.L).t then _ else _) _
      by_cases hlv : low ≤ levelT (pk E s.L).t
      · rw [if_pos hlv]
        have htl := tail_lt (pk_pos (E := E) (level_ne p1 hlv))
        unfold extF
        have hll := level_le (pk E s.L).t
        refine Fine.bind (P := fun s2 => Less 1 s s2 ∧ Top1 O0 s2) ?_ ?_
        · refine Fine.bind (P := fun s5 => Less 2 s s5 ∧ s5.O.take mark = O0 ∧ mark ≤ s5.O.length ∧ s5.N.length + s5.L.length + 1 ≤ s.N.length + s.L.length) ?_ ?_
          · refine seq_fine1 ?_
            refine (ih (.pairs (levelT (pk E s.L).t + 1)) { s with L := s.L.tail } ⟨by omega, by omega⟩ (by show s.N.length + s.L.tail.length ≤ _; omega) (by show 10 * s.L.tail.length + 3 < _; omega)).mono fun s3 h3 => ?_
            obtain ⟨⟨a, b, c⟩, d⟩ := h3
            have a' : s3.L.length + 1 ≤ s.L.tail.length := a
            have b' : s3.N.length + s3.L.length ≤ s.N.length + s.L.tail.length := b
            have c' : s.N.length ≤ s3.N.length := c
            refine ⟨⟨by omega, by omega, c'⟩, ?_, ?_, by omega⟩
            · rw [← hm]; exact top_take2 ht ⟨d.o, d.k⟩
            · rw [d.o]; show _ ≤ (s.O ++ _).length; rw [ht.o]; simp; omega
          · intro s5 h5
            obtain ⟨⟨a, b, c⟩, d, e, f⟩ := h5
            refine (add_fine s5 e (by omega)).mono fun s6 h6 => ?_
            exact ⟨less_add h6 (by omega) (by omega) (by omega), add_top h6 d (pairK_rng _)⟩
        · intro s2 h2
          obtain ⟨hl, ht2⟩ := h2
          have hl1 := hl.l; have hn1 := hl.n
          refine (ih (.pairsL low mark) s2 ⟨p1, O0, hm, ht2⟩ (by omega) (by show _ + 0 < _; omega)).mono fun s3 h3 => ?_
          refine ⟨(hl.trans h3.1).of (by omega), fun O1 e1 t1 => ?_⟩
          have : O1 = O0 := by rw [← top_take t1, ← top_take ht, e1, hm]
          rw [this]; exact h3.2 O0 hm ht2
      · rw [if_neg hlv]
        exact ⟨⟨by omega, by omega, by omega⟩, fun _ _ h => h⟩
    | prefixed =>
      change 10 * s.L.length + 2 < n + 1 at hf
      show Fine (if prefT (pk E s.L).t = 0 then _ else _) _
      by_cases h0 : prefT (pk E s.L).t = 0
      · rw [if_pos h0]
        exact ih .postfixed s trivial hs (by show _ + 1 < _; omega)
      · rw [if_neg h0]
        unfold buildF extF
        refine Fine.bind (P := fun s5 => Less 2 s s5 ∧ s5.O.take s.O.length = s.O ∧ s.O.length ≤ s5.O.length ∧ s5.N.length + s5.L.length + 1 ≤ s.N.length + s.L.length) ?_ ?_
        · refine seq_fine2 (word_fine s (pref_ne h0)) (fun s2 h2 => ?_)
          obtain ⟨rfl, h2⟩ := h2
          refine (ih .prefixed { s with L := s.L.tail } trivial (by show s.N.length + s.L.tail.length ≤ _; omega) (by show 10 * s.L.tail.length + 2 < _; omega)).mono fun s3 h3 => ?_
          obtain ⟨⟨a, b, c⟩, d⟩ := h3
          have a' : s3.L.length + 1 ≤ s.L.tail.length := a
          have b' : s3.N.length + s3.L.length ≤ s.N.length + s.L.tail.length := b
          have c' : s.N.length ≤ s3.N.length := c
          refine ⟨⟨by omega, by omega, c'⟩, ?_, ?_, by omega⟩
          · rw [d.o]; show (s.O ++ _).take _ = _; simp
          · rw [d.o]; show _ ≤ (s.O ++ _).length; simp
        · intro s5 h5
          obtain ⟨⟨a, b, c⟩, d, e, f⟩ := h5
          refine (add_fine s5 e (by omega)).mono fun s6 h6 => ?_
          exact ⟨less_add h6 (by omega) (by omega) (by omega), add_top h6 d (pref_rng h0)⟩
    | postfixed =>
      change 10 * s.L.length + 1 < n + 1 at hf
      refine Fine.bind (ih .primary s trivial hs (by show _ + 0 < _; omega)) fun s1 h1 => ?_
      obtain ⟨hl, ht⟩ := h1
      have hl1 := hl.l; have hn1 := hl.n
      refine (ih (.postL s.O.length) s1 ⟨s.O, rfl, ht⟩ (by omega) (by show _ + 0 < _; omega)).mono fun s2 h2 => ?_
      exact ⟨hl.trans h2.1, h2.2 s.O rfl ht⟩
    | postL mark =>
      change 10 * s.L.length + 0 < n + 1 at hf
      obtain ⟨O0, hm, ht⟩ := hp
      show Fine (if (pk E s.L).t = [91] then _ else if (pk E s.L).t = [43, 43] ∨ (pk E s.L).t = [45, 45] then _ else _) _
      have again : ∀ s2, Less 1 s s2 ∧ Top1 O0 s2 → Fine (runJ E n (.postL mark) s2) (PostJ (.postL mark) s) := fun s2 h2 => by
        obtain ⟨hl, ht2⟩ := h2
        have hl1 := hl.l; have hn1 := hl.n
        refine (ih (.postL mark) s2 ⟨O0, hm, ht2⟩ (by omega) (by show _ + 0 < _; omega)).mono fun s3 h3 => ?_
        refine ⟨(hl.trans h3.1).of (by omega), fun O1 e1 t1 => ?_⟩
        have : O1 = O0 := by rw [← top_take t1, ← top_take ht, e1, hm]
        rw [this]; exact h3.2 O0 hm ht2
      by_cases hb : (pk E s.L).t = [91]
      · rw [if_pos hb]
        refine Fine.bind (P := fun s2 => Less 1 s s2 ∧ Top1 O0 s2) ?_ again
        unfold extF
        refine Fine.bind (P := fun s5 => Less 3 s s5 ∧ s5.O.take mark = O0 ∧ mark ≤ s5.O.length ∧ s5.N.length + s5.L.length + 1 ≤ s.N.length + s.L.length) ?_ ?_
        · refine seq_fine3 (word_fine s (by simp)) (fun s2 h2 => ?_) (fun s3 h3 => ?_)
            (Q := fun s3 => s3.L.length + 2 ≤ s.L.length ∧ s3.N.length + s3.L.length + 1 ≤ s.N.length + s.L.length ∧ s.N.length ≤ s3.N.length ∧ Top1 s.O s3)
          · obtain ⟨rfl, h2⟩ := h2
            refine (ih .expr { s with L := s.L.tail } trivial (by show s.N.length + s.L.tail.length ≤ _; omega) (by show 10 * s.L.tail.length + 4 < _; omega)).mono fun s3 h3 => ?_
            obtain ⟨⟨a, b, c⟩, d⟩ := h3
            have a' : s3.L.length + 1 ≤ s.L.tail.length := a
            have b' : s3.N.length + s3.L.length ≤ s.N.length + s.L.tail.length := b
            exact ⟨by omega, by omega, c, d.o, d.k⟩
          · obtain ⟨a, b, c, d⟩ := h3
            refine (word_fine s3 (by simp)).mono fun s4 h4 => ?_
            obtain ⟨rfl, h4⟩ := h4
            refine ⟨⟨?_, ?_, c⟩, ?_, ?_, ?_⟩
            · show s3.L.tail.length + 3 ≤ _; omega
            · show s3.N.length + s3.L.tail.length ≤ _; omega
            · rw [← hm]; exact top_take2 (s' := s3) ht d
            · show _ ≤ s3.O.length; rw [d.o, ht.o]; simp; omega
            · show s3.N.length + s3.L.tail.length + 1 ≤ _; omega
        · intro s5 h5
          obtain ⟨⟨a, b, c⟩, d, e, f⟩ := h5
          refine (add_fine s5 e (by omega)).mono fun s6 h6 => ?_
          exact ⟨less_add h6 (by omega) (by omega) (by omega), add_top h6 d (mk_rng ⟨by decide, by decide⟩)⟩
      · rw [if_neg hb]
        by_cases hpp : (pk E s.L).t = [43, 43] ∨ (pk E s.L).t = [45, 45]
        · rw [if_pos hpp]
          have htl := tail_lt (pk_pos (E := E) (by rcases hpp with h | h <;> rw [h] <;> simp))
          refine Fine.bind (P := fun s2 => Less 1 s s2 ∧ Top1 O0 s2) ?_ again
          refine (add_fine { s with L := s.L.tail } (by show _ ≤ s.O.length; rw [ht.o]; simp; omega) (by show s.N.length ≤ _; omega)).mono fun s6 h6 => ?_
          exact ⟨less_add h6 (by show s.L.tail.length + 1 ≤ _; omega) (by show s.N.length + s.L.tail.length + 1 ≤ _; omega) (by show s.N.length ≤ s.N.length; omega), add_top h6 (by show s.O.take mark = _; rw [← hm]; exact top_take ht) (mk_rng ⟨by decide, by decide⟩)⟩
        · rw [if_neg hpp]
          exact ⟨⟨by omega, by omega, by omega⟩, fun _ _ h => h⟩
    | primary =>
      change 10 * s.L.length + 0 < n + 1 at hf
      have leaf : ∀ x : Mn, 31 ≤ x.k ∧ x.k ≤ 40 → s.L.tail.length + 1 = s.L.length → Fine (buildF x [] { s with L := s.L.tail }) (PostJ .primary s) := fun x hx htl => by
        refine (add_fine { s with L := s.L.tail } (Nat.le_refl _) (by show s.N.length ≤ _; omega)).mono fun s6 h6 => ?_
        exact ⟨less_add h6 (by show s.L.tail.length + 1 ≤ _; omega) (by show s.N.length + s.L.tail.length + 1 ≤ _; omega) (by show s.N.length ≤ s.N.length; omega), add_top h6 (by simp) hx⟩
      show Fine (if (pk E s.L).k = 2 then _ else if (pk E s.L).k = 1 then _ else _) _
      by_cases h2 : (pk E s.L).k = 2
      · rw [if_pos h2]
        exact leaf _ (mk_rng ⟨by decide, by decide⟩) (tail_lt (pk_kpos (E := E) (by rw [h2]; simp)))
      · rw [if_neg h2]
        by_cases h1 : (pk E s.L).k = 1
        · rw [if_pos h1]
          have htl := tail_lt (pk_kpos (E := E) (by rw [h1]; simp : (pk E s.L).k ≠ 0))
          by_cases hc : (pk E s.L.tail).t = [40]
          · rw [if_pos hc]
            unfold buildF extF
            refine Fine.bind (P := fun s5 => Less 2 s s5 ∧ s5.O.take s.O.length = s.O ∧ s.O.length ≤ s5.O.length ∧ s5.N.length + s5.L.length + 1 ≤ s.N.length + s.L.length) ?_ ?_
            · refine seq_fine1 ?_
              refine (ih (.list [40] [41] .expr) { s with L := s.L.tail } ⟨by simp, by simp, rfl⟩ (by show s.N.length + s.L.tail.length ≤ _; omega) (by show 10 * s.L.tail.length + 0 < _; omega)).mono fun s3 h3 => ?_
              obtain ⟨⟨a, b, c⟩, l, d⟩ := h3
              have a' : s3.L.length + 1 ≤ s.L.tail.length := a
              have b' : s3.N.length + s3.L.length ≤ s.N.length + s.L.tail.length := b
              have c' : s.N.length ≤ s3.N.length := c
              have d' : s3.O = s.O ++ l := d
              exact ⟨⟨by omega, by omega, c'⟩, by rw [d']; simp, by rw [d']; simp, by omega⟩
            · intro s5 h5
              obtain ⟨⟨a, b, c⟩, d, e, f⟩ := h5
              refine (add_fine s5 e (by omega)).mono fun s6 h6 => ?_
              exact ⟨less_add h6 (by omega) (by omega) (by omega), add_top h6 d (mk_rng ⟨by decide, by decide⟩)⟩
          · rw [if_neg hc]
            exact leaf _ (mk_rng ⟨by decide, by decide⟩) htl
        · rw [if_neg h1]
          refine seq_fine3 (word_fine s (by simp)) (fun s2 h2 => ?_) (fun s3 h3 => ?_)
            (Q := fun s3 => s3.L.length + 2 ≤ s.L.length ∧ s3.N.length + s3.L.length + 1 ≤ s.N.length + s.L.length ∧ s.N.length ≤ s3.N.length ∧ Top1 s.O s3)
          · obtain ⟨rfl, h2⟩ := h2
            refine (ih .expr { s with L := s.L.tail } trivial (by show s.N.length + s.L.tail.length ≤ _; omega) (by show 10 * s.L.tail.length + 4 < _; omega)).mono fun s3 h3 => ?_
            obtain ⟨⟨a, b, c⟩, d⟩ := h3
            have a' : s3.L.length + 1 ≤ s.L.tail.length := a
            have b' : s3.N.length + s3.L.length ≤ s.N.length + s.L.tail.length := b
            exact ⟨by omega, by omega, c, d.o, d.k⟩
          · obtain ⟨a, b, c, d⟩ := h3
            refine (word_fine s3 (by simp)).mono fun s4 h4 => ?_
            obtain ⟨rfl, h4⟩ := h4
            refine ⟨⟨?_, ?_, c⟩, d.o, d.k⟩
            · show s3.L.tail.length + 1 ≤ _; omega
            · show s3.N.length + s3.L.tail.length ≤ _; omega
    | list o e item =>
      change 10 * s.L.length + 0 < n + 1 at hf
      obtain ⟨h1, h2, rfl⟩ := hp
      refine Fine.bind (word_fine s h1) fun s1 k1 => ?_
      obtain ⟨rfl, k1⟩ := k1
      have hl := less_tail k1
      by_cases he : (pk E s.L.tail).t = e
      · show Fine (if (pk E s.L.tail).t = e then _ else _) _
        rw [if_pos he]
        have h3 := tail_le s.L.tail
        exact ⟨⟨by show s.L.tail.tail.length + 1 ≤ _; omega, by show s.N.length + s.L.tail.tail.length ≤ _; omega, Nat.le_refl _⟩, [], by simp⟩
      · show Fine (if (pk E s.L.tail).t = e then _ else _) _
        rw [if_neg he]
        refine (ih (.items e .expr) { s with L := s.L.tail } ⟨h2, rfl⟩ (by show s.N.length + s.L.tail.length ≤ _; omega) (by show 10 * s.L.tail.length + 5 < _; omega)).mono fun s3 h3 => ?_
        exact ⟨(hl.trans h3.1).of (by omega), h3.2⟩
    | items e item =>
      change 10 * s.L.length + 5 < n + 1 at hf
      obtain ⟨h2, rfl⟩ := hp
      refine Fine.bind (ih .expr s trivial hs (by show _ + 4 < _; omega)) fun s1 h1 => ?_
      obtain ⟨hl, ht⟩ := h1
      have hl1 := hl.l; have hn1 := hl.n
      show Fine (if (pk E s1.L).t = [44] then _ else _) _
      by_cases hc : (pk E s1.L).t = [44]
      · rw [if_pos hc]
        have htl := tail_lt (pk_pos (E := E) (by rw [hc]; simp : (pk E s1.L).t ≠ []))
        refine (ih (.items e .expr) { s1 with L := s1.L.tail } ⟨h2, rfl⟩ (by show s1.N.length + s1.L.tail.length ≤ _; omega) (by show 10 * s1.L.tail.length + 5 < _; omega)).mono fun s3 h3 => ?_
        obtain ⟨hl3, l, d⟩ := h3
        refine ⟨((hl.trans (less_tail htl)).trans hl3).of (by omega), ((s1.N.length : Int) - 1) :: l, ?_⟩
        have d' : s3.O = s1.O ++ l := d
        rw [d', ht.o]; simp
      · rw [if_neg hc]
        refine (word_fine s1 h2).mono fun s2 k2 => ?_
        obtain ⟨rfl, k2⟩ := k2
        exact ⟨(hl.trans (less_tail k2)).of (by omega), [(s1.N.length : Int) - 1], ht.o⟩
end
section
open Tk (T4)

def Nz (r : R3) : Prop := ∀ c a, r = .bad c a → c ≠ 0
def NzF (f : F3) : Prop := ∀ s, Nz (f s)
theorem nz_ok (s : S3) : Nz (.ok s) := fun c a h => by cases h
theorem nz_out : Nz .out := fun c a h => by cases h
theorem nz_bad {c a : Int} (hc : c ≠ 0) : Nz (.bad c a) := fun c' a' h => by cases h; exact hc
theorem Nz.bind {r : R3} {f : F3} (h : Nz r) (k : NzF f) : Nz (r.bind f) := by
  cases r with
  | ok s => exact k s
  | bad c a => exact fun c' a' e => by cases e; exact h c a rfl
  | out => exact nz_out
theorem Nz.ite {p : Prop} [Decidable p] {x y : R3} (h : Nz x) (k : Nz y) : Nz (if p then x else y) := by split <;> assumption
theorem nz_seq : ∀ (fs : List F3), (∀ f, f ∈ fs → NzF f) → NzF (seqF fs)
  | [], _ => fun s => nz_ok s
  | f :: fs, h => fun s => Nz.bind (h f (by simp) s) (nz_seq fs (fun g hg => h g (by simp [hg])))
theorem nz_seq1 {f : F3} (h : NzF f) : NzF (seqF [f]) := nz_seq _ (fun g hg => by simp at hg; subst hg; exact h)
theorem nz_wrong (E : Nat) : NzF (wrongF E) := fun s => nz_bad (by decide)
theorem nz_word (E : Nat) (t : List UInt8) : NzF (wordF E t) := fun s => Nz.ite (nz_ok _) (nz_wrong E s)
theorem nz_add (x : Mn) (m : Nat) : NzF (addF x m) := fun s => Nz.ite nz_out (nz_ok _)
theorem nz_ext (m : Nat) (x : Mn) {fs : List F3} (h : ∀ f, f ∈ fs → NzF f) : NzF (extF m x fs) := fun s => Nz.bind (nz_seq fs h s) (nz_add x m)
theorem nz_build (x : Mn) {fs : List F3} (h : ∀ f, f ∈ fs → NzF f) : NzF (buildF x fs) := fun s => nz_ext _ x h s
theorem nz1 {f : F3} (h : NzF f) : ∀ g, g ∈ [f] → NzF g := fun g hg => by simp at hg; subst hg; exact h
theorem nz2 {f g : F3} (h : NzF f) (k : NzF g) : ∀ x, x ∈ [f, g] → NzF x := fun x hx => by
  simp at hx; rcases hx with rfl | rfl <;> assumption
theorem nz3 {f g i : F3} (h : NzF f) (k : NzF g) (l : NzF i) : ∀ x, x ∈ [f, g, i] → NzF x := fun x hx => by
  simp at hx; rcases hx with rfl | rfl | rfl <;> assumption
theorem nz4 {f g i j : F3} (h : NzF f) (k : NzF g) (l : NzF i) (m : NzF j) : ∀ x, x ∈ [f, g, i, j] → NzF x := fun x hx => by
  simp at hx; rcases hx with rfl | rfl | rfl | rfl <;> assumption
theorem nz_nil : ∀ g : F3, g ∈ ([] : List F3) → NzF g := fun g hg => by simp at hg
theorem nz_step (E : Nat) {rec : Job → F3} (h : ∀ j, NzF (rec j)) : ∀ j, NzF (stepJ E rec j) := by
  intro j
  cases j with
  | expr => exact fun s => (h _ s).bind fun s1 => Nz.ite (nz_ext _ _ (nz4 (nz_word _ _) (h _) (nz_word _ _) (h _)) _) (Nz.ite (nz_ext _ _ (nz2 (nz_word _ _) (h _)) _) (nz_ok _))
  | pairs low => exact fun s => Nz.ite nz_out ((h _ s).bind (h _))
  | pairsL low mark => exact fun s => Nz.ite ((nz_ext _ _ (nz1 (h _)) _).bind (h _)) (nz_ok _)
  | prefixed => exact fun s => Nz.ite (h _ s) (nz_build _ (nz2 (nz_word _ _) (h _)) _)
  | postfixed => exact fun s => (h _ s).bind (h _)
  | postL mark => exact fun s => Nz.ite ((nz_ext _ _ (nz3 (nz_word _ _) (h _) (nz_word _ _)) _).bind (h _)) (Nz.ite ((nz_add _ _ _).bind (h _)) (nz_ok _))
  | primary => exact fun s => Nz.ite (nz_build _ nz_nil _) (Nz.ite (Nz.ite (nz_build _ (nz1 (h _)) _) (nz_build _ nz_nil _)) (nz_seq _ (nz3 (nz_word _ _) (h _) (nz_word _ _)) _))
  | list o e i => exact fun s => (nz_word _ _ s).bind fun s1 => Nz.ite (nz_ok _) (h _ s1)
  | items e i => exact fun s => (h _ s).bind fun s1 => Nz.ite (h _ _) (nz_word _ _ s1)
theorem nz_run (E : Nat) : ∀ n j, NzF (runJ E n j)
  | 0, _ => fun _ => nz_out
  | n + 1, j => nz_step E (nz_run E n) j

def NzD (d : D3) : Prop := ∀ c a, d = .bad c a → c ≠ 0
theorem NzD.bind {d : D3} {f : S3 → Mn → R3} (h : NzD d) (k : ∀ s x, Nz (f s x)) : Nz (d.bind f) := by
  cases d with
  | ok s x => exact k s x
  | bad c a => exact fun c' a' e => by cases e; exact h c a rfl
  | out => exact nz_out
theorem nz_named (E : Nat) (typ : Int) (s : S3) : NzD (namedF E typ s) := fun c a h => by
  unfold namedF at h; split at h <;> cases h; decide
theorem nz_decl (E : Nat) (s : S3) : NzD (declF E s) := fun c a h => by
  unfold declF at h
  have hw := nz_word E [105, 110, 116] s
  split at h
  · split at h
    · exact nz_named _ _ _ c a h
    · exact nz_named _ _ _ c a h
  · rename_i e; cases h; exact hw _ _ e
  · cases h
theorem nz_initial (E : Nat) {ex : F3} (h : NzF ex) : NzF (initialF E ex) := fun s => Nz.ite (h _) (nz_ok _)
theorem nz_param (E : Nat) : NzF (paramF E) := fun s => (nz_decl E s).bind fun s1 x => nz_build _ nz_nil _
theorem nz_local (E : Nat) {ex : F3} (h : NzF ex) : NzF (localF E ex) := fun s => (nz_decl E s).bind fun s1 x => nz_build _ (nz1 (nz_initial E h)) _
theorem nz_effect (E : Nat) {ex : F3} (h : NzF ex) : NzF (effectF E ex) := fun s => nz_build _ (nz1 h) _
theorem nz_nothing (E : Nat) : NzF (nothingF E) := fun s => nz_build _ nz_nil _
theorem nz_condition (E : Nat) {ex : F3} (h : NzF ex) : NzF (conditionF E ex) := nz_seq _ (nz3 (nz_word _ _) h (nz_word _ _))
theorem nz_told (E : Nat) {ex : F3} (h : NzF ex) : NzF (toldF E ex) := fun s => Nz.ite (nz_ok _) (h _)
theorem nz_unless (E : Nat) (e : List UInt8) {f : F3} (h : NzF f) : NzF (unlessF E e f) := fun s => Nz.ite (nz_nothing E s) (h _)
theorem nz_start (E : Nat) {ex : F3} (h : NzF ex) : NzF (startF E ex) := fun s => Nz.ite (nz_local E h _) (nz_unless E _ (nz_effect E h) _)
theorem nz_items (E : Nat) (en : List UInt8) {fam : Nat → F3} (h : ∀ m, NzF (fam m)) : ∀ n, NzF (itemsF E en fam n)
  | 0 => fun _ => nz_out
  | m + 1 => fun s => (h m s).bind fun s2 => Nz.ite (nz_items E en h m _) (nz_word _ _ _)
theorem nz_list (E : Nat) (o en : List UInt8) {fam : Nat → F3} (h : ∀ m, NzF (fam m)) (n : Nat) : NzF (listF E o en fam n) := fun s => (nz_word _ _ s).bind fun s1 => Nz.ite (nz_ok _) (nz_items E en h n _)
theorem nz_braces (E : Nat) {fam : Nat → F3} (h : ∀ m, NzF (fam m)) : ∀ n, NzF (bracesF E fam n)
  | 0 => fun _ => nz_out
  | m + 1 => fun s => Nz.ite (nz_ok _) ((h m s).bind (nz_braces E h m))
theorem nz_braced (E : Nat) {fam : Nat → F3} (h : ∀ m, NzF (fam m)) (n : Nat) : NzF (bracedF E fam n) := fun s => (nz_word _ _ s).bind (nz_braces E h n)
theorem nz_values (E : Nat) (most : Int) {fam : Nat → F3} (h : ∀ m, NzF (fam m)) (n : Nat) : NzF (valuesF E most fam n) := fun s =>
  Nz.ite ((nz_list E _ _ h n _).bind fun s2 => Nz.ite (nz_bad (by decide)) (nz_ok _)) (nz_ok _)
theorem nz_array (E : Nat) (x : Mn) {fam : Nat → F3} (h : ∀ m, NzF (fam m)) (n : Nat) : NzF (arrayF E x fam n) := fun s => (nz_word _ _ s).bind fun s1 =>
  Nz.ite (Nz.ite (nz_bad (by decide)) (nz_build _ (nz3 (nz_word _ _) (nz_values E _ h n) (nz_word _ _)) _)) (nz_bad (by decide))
theorem nz_else (E : Nat) {f : F3} (h : NzF f) : NzF (fun s => if (pk E s.L).t = [101, 108, 115, 101] then f { s with L := s.L.tail } else .ok s) := fun s => Nz.ite (h _) (nz_ok _)
theorem nz8 {a b c d e f g h : F3} (h1 : NzF a) (h2 : NzF b) (h3 : NzF c) (h4 : NzF d) (h5 : NzF e) (h6 : NzF f) (h7 : NzF g) (h8 : NzF h) : ∀ x, x ∈ [a, b, c, d, e, f, g, h] → NzF x := fun x hx => by
  simp at hx; rcases hx with rfl | rfl | rfl | rfl | rfl | rfl | rfl | rfl <;> assumption
theorem nz_stepU (E n : Nat) {rec : UJob → F3} (h : ∀ j, NzF (rec j)) : ∀ j, NzF (stepU E n rec j) := by
  have hx := fun n => nz_run E n .expr
  have hw := nz_word E
  have hf : ∀ x : Mn, NzF (fun s => buildF { x with k := 3 } [listF E [40] [41] (fun _ => paramF E) n, rec .block] s) := fun x s => nz_build _ (nz2 (nz_list E _ _ (fun _ => nz_param E) n) (h _)) _
  intro j
  cases j with
  | braces sw => exact fun s => Nz.ite (nz_ok _) ((h _ s).bind (h _))
  | block => exact fun s => nz_build _ (nz1 fun s => (hw _ s).bind (h _)) _
  | body => exact fun s => Nz.ite (h _ _) (nz_build _ (nz1 (h _)) _)
  | action => exact fun s => Nz.ite (h _ _) (Nz.ite (nz_seq _ (nz2 (nz_local E (hx n)) (hw _)) _) (Nz.ite (h _ _) (Nz.ite (nz_build _ (nz2 (hw _) (hw _)) _) (Nz.ite (nz_build _ (nz2 (hw _) (hw _)) _)
      (Nz.ite (nz_build _ (nz3 (hw _) (nz_told E (hx n)) (hw _)) _) (Nz.ite (nz_seq _ (nz2 (nz_nothing E) (hw _)) _) (nz_seq _ (nz2 (nz_effect E (hx n)) (hw _)) _)))))))
  | compound => exact fun s => Nz.ite (nz_build _ (nz3 (nz_condition E (hx n)) (h _) (nz_else E (h _))) _) (Nz.ite (nz_build _ (nz2 (nz_condition E (hx n)) (h _)) _) (Nz.ite (nz_build _ (nz4 (h _) (hw _) (nz_condition E (hx n)) (hw _)) _)
      (Nz.ite (nz_build _ (nz8 (hw _) (nz_start E (hx n)) (hw _) (nz_unless E _ (hx n)) (hw _) (nz_unless E _ (nz_effect E (hx n))) (hw _) (h _)) _) (nz_build _ (nz2 (nz_condition E (hx n)) (fun s => (hw _ s).bind (h _))) _))))
  | inSwitch => exact fun s => Nz.ite (nz_build _ (nz3 (hw _) (hx n) (hw _)) _) (Nz.ite (nz_build _ (nz2 (hw _) (hw _)) _) (h _ _))
  | global => exact fun s => Nz.ite ((nz_named E _ _).bind fun s1 x => hf x s1) ((nz_decl E s).bind fun s1 x => Nz.ite (hf x s1) (Nz.ite (nz_array E x (fun m => hx m) n _) (nz_build _ (nz2 (nz_initial E (hx n)) (hw _)) _)))
  | globals => exact fun s => Nz.ite (nz_ok _) ((h _ s).bind (h _))
theorem nz_runU (E : Nat) : ∀ n j, NzF (runU E n j)
  | 0, _ => fun _ => nz_out
  | n + 1, j => nz_stepU E n (nz_runU E n) j
theorem nz_unit (E n : Nat) : NzF (unitF E n) := nz_build _ (nz1 (nz_runU E n _))
end
section
namespace Tk
open Go.RowKit

theorem gb_set6 {x B : Nat} {a w : World} (h : GB x B a w) (a0 a1 a2 a3 a4 a5 : Value) : GB x B a ((((((w.setCell ⟨B, 0, none⟩ a0).setCell ⟨B, 1, none⟩ a1).setCell ⟨B, 2, none⟩ a2).setCell ⟨B, 3, none⟩ a3).setCell ⟨B + 1, 0, none⟩ a4).setCell ⟨B + 1, 1, none⟩ a5) :=
  (((((h.setCell (p := ⟨B, 0, none⟩) (Or.inr (Nat.le_refl _)) a0).setCell (p := ⟨B, 1, none⟩) (Or.inr (Nat.le_refl _)) a1).setCell (p := ⟨B, 2, none⟩) (Or.inr (Nat.le_refl _)) a2).setCell (p := ⟨B, 3, none⟩) (Or.inr (Nat.le_refl _)) a3).setCell (p := ⟨B + 1, 0, none⟩) (Or.inr (Nat.le_succ _)) a4).setCell (p := ⟨B + 1, 1, none⟩) (Or.inr (Nat.le_succ _)) a5
theorem heap_set6 {B k : Nat} (w : World) (h0 : k ≠ B) (h1 : k ≠ B + 1) (a0 a1 a2 a3 a4 a5 : Value) : ((((((w.setCell ⟨B, 0, none⟩ a0).setCell ⟨B, 1, none⟩ a1).setCell ⟨B, 2, none⟩ a2).setCell ⟨B, 3, none⟩ a3).setCell ⟨B + 1, 0, none⟩ a4).setCell ⟨B + 1, 1, none⟩ a5).heap[k]? = w.heap[k]? := by
  rw [Below.heap_setCell _ _ _ _ (by simpa using h1), Below.heap_setCell _ _ _ _ (by simpa using h1), Below.heap_setCell _ _ _ _ (by simpa using h0), Below.heap_setCell _ _ _ _ (by simpa using h0), Below.heap_setCell _ _ _ _ (by simpa using h0), Below.heap_setCell _ _ _ _ (by simpa using h0)]
theorem size_set6 {B : Nat} (w : World) (a0 a1 a2 a3 a4 a5 : Value) : ((((((w.setCell ⟨B, 0, none⟩ a0).setCell ⟨B, 1, none⟩ a1).setCell ⟨B, 2, none⟩ a2).setCell ⟨B, 3, none⟩ a3).setCell ⟨B + 1, 0, none⟩ a4).setCell ⟨B + 1, 1, none⟩ a5).heap.size = w.heap.size := by simp [World.setCell]

set_option maxHeartbeats 4000000 in
theorem take_any (s : ByteArray) (k bt ba : Nat) (w : World) (hs : s.size ≤ 2000) (hk : k ≤ s.size) (te : TypeId) (pe : Value) (hv : w.cell? ⟨4, 0, none⟩ = some (.iface te pe))
    (hT : w.heap[bt]? = some (.cells #[.string s] 9 (0, 0))) (hA : w.heap[ba]? = some (.cells #[.int .i64 k] 3 (0, 0))) :
    Calls Tryz.prog 159 #[.pointer (some ⟨bt, 0, none⟩), .pointer (some ⟨ba, 0, none⟩)] w (TakePost (s.data.toList.drop k) k ba w) := by
  have hbt := lt_of_block hT
  have hba := lt_of_block hA
  have cT := cell_of_one hT
  have cA := cell_of_one hA
  have fA := free_of_one hA
  have hF := fun w hv => fst_any (s.extract k s.size) w (by rw [extE_size]; omega) te pe hv
  rw [extE_data] at hF
  have hsz := Lib.hid (Lib.size_eq s)
  have HA := Lib.hid hA
  clear hT hA
  go_enter Tryz.func159, Tryz.ntmps159
  go_wp2_with (go_at_call 109; refine (hF _ (hv_alloc (hv_alloc hv _) _)).mono ?_)
  rintro e w2 ⟨rfl, hb⟩
  have hA2 : w2.heap[ba]? = some (.cells #[.int .i64 (k : Int)] 3 (0, 0)) := by
    rw [hb.block ba (by simp; omega), Below.heap_alloc _ _ _ (by simp; omega), Below.heap_alloc _ _ _ (by omega)]; exact HA.out
  have cA2 := cell_of_one hA2
  have fA2 := free_of_one hA2
  have HA2 := Lib.hid hA2
  clear hA2
  have hz := hb.size
  simp at hz
  have h2 : w2.heap[w.heap.size]? = some (.cells #[.int .i64 0, .string ⟨#[]⟩, .int .i64 0, .int .i64 0] 59 (0, 0)) := by
    rw [hb.block w.heap.size (by simp; omega), Below.heap_alloc _ _ _ (by simp)]; exact heap_alloc_new w _
  have h3 : w2.heap[w.heap.size + 1]? = some (.cells #[.int .i64 0, .int .i64 0] 26 (0, 0)) := by
    rw [hb.block (w.heap.size + 1) (by simp)]
    have := heap_alloc_new (w.alloc (.cells #[.int .i64 0, .string ⟨#[]⟩, .int .i64 0, .int .i64 0] 59)) (.cells #[.int .i64 0, .int .i64 0] 26)
    simpa using this
  have c20 : w2.cell? ⟨w.heap.size, 0, none⟩ = some (.int .i64 0) := by simp [World.cell?, h2]
  have c21 : w2.cell? ⟨w.heap.size, 1, none⟩ = some (.string ⟨#[]⟩) := by simp [World.cell?, h2]
  have c22 : w2.cell? ⟨w.heap.size, 2, none⟩ = some (.int .i64 0) := by simp [World.cell?, h2]
  have c23 : w2.cell? ⟨w.heap.size, 3, none⟩ = some (.int .i64 0) := by simp [World.cell?, h2]
  have f20 : w2.frozen? ⟨w.heap.size, 0, none⟩ = false := by simp [World.frozen?, h2]
  have f21 : w2.frozen? ⟨w.heap.size, 1, none⟩ = false := by simp [World.frozen?, h2]
  have f22 : w2.frozen? ⟨w.heap.size, 2, none⟩ = false := by simp [World.frozen?, h2]
  have f23 : w2.frozen? ⟨w.heap.size, 3, none⟩ = false := by simp [World.frozen?, h2]
  have c30 : w2.cell? ⟨w.heap.size + 1, 0, none⟩ = some (.int .i64 0) := by simp [World.cell?, h3]
  have c31 : w2.cell? ⟨w.heap.size + 1, 1, none⟩ = some (.int .i64 0) := by simp [World.cell?, h3]
  have f30 : w2.frozen? ⟨w.heap.size + 1, 0, none⟩ = false := by simp [World.frozen?, h3]
  have f31 : w2.frozen? ⟨w.heap.size + 1, 1, none⟩ = false := by simp [World.frozen?, h3]
  have l1 : w.heap.size < w2.heap.size := by omega
  have l2 : w.heap.size + 1 < w2.heap.size := by omega
  have l3 : ba < w2.heap.size := by omega
  have l4 : bt < w2.heap.size := by omega
  have l5 : w.heap.size ≠ ba := by omega
  have l6 : w.heap.size + 1 ≠ ba := by omega
  have H2 := Lib.hid h2
  have H3 := Lib.hid h3
  clear h2 h3
  have hG2 : GB ba w.heap.size w w2 := (((GB.refl _ _ _).alloc (Nat.le_refl _) _).alloc (by simp) _).below hb (by simp; omega)
  cases hr : fstT (s.data.toList.drop k) with
  | bad c =>
    have hc0 : (c : Int) ≠ 0 := by have := fstT_bad hr; omega
    have hc1 : ((c : Int) != 0) = true := by simpa using hc0
    have Hr := Lib.hid hr
    clear hr
    simp only [tkV, tkCode]
    go_wp2
    go_region
    all_goals go_wp2
    refine bodyPost_ret (v := .tuple #[.agg #[.int .i64 0, .string ⟨#[]⟩, .int .i64 0, .int .i64 0], .agg #[.int .i64 c, .int .i64 k]]) (by simp [results, Tryz.results159, go_sem, c20, c21, c22, c23, c30, c31, l1, l2]) rfl ?_
    refine ⟨GB.grown (GB.drew (GB.alloc (gb_set6 hG2 _ _ _ _ _ _) (by rw [size_set6]; omega) _)), Or.inl ⟨c, Hr.out, rfl, ?_⟩⟩
    exact (Below.heap_alloc _ _ _ (by rw [size_set6]; omega)).trans ((heap_set6 w2 (Ne.symm l5) (Ne.symm l6) _ _ _ _ _ _).trans HA2.out)
  | tok kd n v =>
    obtain ⟨hn1, hn2⟩ := fstT_tok hr
    have Hr := Lib.hid hr
    clear hr
    simp only [tkV, tkCode]
    obtain ⟨x, hx⟩ : ∃ x, x = bstr ((s.data.toList.drop k).take n) := ⟨_, rfl⟩
    rw [← hx]
    have hxn : x.size = n := by rw [hx, Lib.size_eq]; show (List.take n _).length = n; rw [List.length_take, Nat.min_eq_left hn2]
    have hks : k + n ≤ s.size := by rw [List.length_drop] at hn2; have := hsz.out; omega
    have hkx : k + x.size ≤ 2000 := by omega
    have Hx := Lib.hid hx
    have Hxn := Lib.hid hxn
    clear hx hxn hn1 hn2
    go_wp2_with (go_at_call 160; refine (clone_any _ _ (by omega)).mono ?_)
    rintro e w4 ⟨rfl, hb4⟩
    have h2' : w4.heap[w.heap.size]? = some (.cells #[.int .i64 0, .string ⟨#[]⟩, .int .i64 0, .int .i64 0] 59 (0, 0)) := by
      rw [hb4.block _ (by simp [World.setCell]; omega), Below.heap_alloc _ _ _ (by simp [World.setCell]; omega), Below.heap_setCell _ _ _ _ (by simp; omega)]; exact H2.out
    have h3' : w4.heap[w.heap.size + 1]? = some (.cells #[.int .i64 0, .int .i64 0] 26 (0, 0)) := by
      rw [hb4.block _ (by simp [World.setCell]; omega), Below.heap_alloc _ _ _ (by simp [World.setCell]; omega), Below.heap_setCell _ _ _ _ (by simp; omega)]; exact H3.out
    have h4' : w4.heap[w2.heap.size]? = some (.cells #[.int .i64 kd, .string x, .int .i64 v, .int .i64 k] 59 (0, 0)) := by
      rw [hb4.block _ (by simp [World.setCell])]
      have := heap_alloc_new (w2.setCell ⟨ba, 0, none⟩ (.int .i64 (k + x.size))) (.cells #[.int .i64 kd, .string x, .int .i64 v, .int .i64 k] 59)
      simpa [World.setCell] using this
    have hA4 : w4.heap[ba]? = some (.cells #[.int .i64 ((k + n : Nat) : Int)] 3 (0, 0)) := by
      rw [hb4.block _ (by simp [World.setCell]; omega), Below.heap_alloc _ _ _ (by simp [World.setCell]; omega), one_setCell HA2.out, Hxn.out]
      rfl
    have hz4 := hb4.size
    simp [World.setCell] at hz4
    have hG4 : GB ba w.heap.size w w4 := ((hG2.setCell (p := ⟨ba, 0, none⟩) (Or.inl rfl) _).alloc (by simp [World.setCell]; omega) _).below hb4 (by simp [World.setCell]; omega)
    have d20 : w4.cell? ⟨w.heap.size, 0, none⟩ = some (.int .i64 0) := by simp [World.cell?, h2']
    have d21 : w4.cell? ⟨w.heap.size, 1, none⟩ = some (.string ⟨#[]⟩) := by simp [World.cell?, h2']
    have d22 : w4.cell? ⟨w.heap.size, 2, none⟩ = some (.int .i64 0) := by simp [World.cell?, h2']
    have d23 : w4.cell? ⟨w.heap.size, 3, none⟩ = some (.int .i64 0) := by simp [World.cell?, h2']
    have e20 : w4.frozen? ⟨w.heap.size, 0, none⟩ = false := by simp [World.frozen?, h2']
    have e21 : w4.frozen? ⟨w.heap.size, 1, none⟩ = false := by simp [World.frozen?, h2']
    have e22 : w4.frozen? ⟨w.heap.size, 2, none⟩ = false := by simp [World.frozen?, h2']
    have e23 : w4.frozen? ⟨w.heap.size, 3, none⟩ = false := by simp [World.frozen?, h2']
    have d30 : w4.cell? ⟨w.heap.size + 1, 0, none⟩ = some (.int .i64 0) := by simp [World.cell?, h3']
    have d31 : w4.cell? ⟨w.heap.size + 1, 1, none⟩ = some (.int .i64 0) := by simp [World.cell?, h3']
    have e30 : w4.frozen? ⟨w.heap.size + 1, 0, none⟩ = false := by simp [World.frozen?, h3']
    have e31 : w4.frozen? ⟨w.heap.size + 1, 1, none⟩ = false := by simp [World.frozen?, h3']
    have d40 : w4.cell? ⟨w2.heap.size, 0, none⟩ = some (.int .i64 kd) := by simp [World.cell?, h4']
    have d41 : w4.cell? ⟨w2.heap.size, 1, none⟩ = some (.string x) := by simp [World.cell?, h4']
    have d42 : w4.cell? ⟨w2.heap.size, 2, none⟩ = some (.int .i64 v) := by simp [World.cell?, h4']
    have d43 : w4.cell? ⟨w2.heap.size, 3, none⟩ = some (.int .i64 k) := by simp [World.cell?, h4']
    have e41 : w4.frozen? ⟨w2.heap.size, 1, none⟩ = false := by simp [World.frozen?, h4']
    have HA4 := Lib.hid hA4
    have l9 : ba ≠ (⟨w2.heap.size, 1, none⟩ : Addr).block := Nat.ne_of_lt l3
    clear h2' h3' h4' hA4 c20 c21 c22 c23 f20 f21 f22 f23 c30 c31 f30 f31 hb hb4
    go_wp2
    refine bodyPost_ret (v := .tuple #[.agg #[.int .i64 kd, .string x, .int .i64 v, .int .i64 k], .agg #[.int .i64 0, .int .i64 0]]) (by simp [results, Tryz.results159, go_sem, d20, d21, d22, d23, d30, d31]) rfl ?_
    refine ⟨GB.grown (gb_set6 (hG4.setCell (p := ⟨w2.heap.size, 1, none⟩) (Or.inr (Nat.le_of_lt l1)) _) _ _ _ _ _ _), Or.inr ⟨kd, n, v, Hr.out, by rw [Hx.out], ?_⟩⟩
    exact (heap_set6 _ (Ne.symm l5) (Ne.symm l6) _ _ _ _ _ _).trans ((Below.heap_setCell _ _ _ _ l9).trans HA4.out)
end Tk
end
end Go.Proofs.YtmghjfphlneblaaGreatDoor
