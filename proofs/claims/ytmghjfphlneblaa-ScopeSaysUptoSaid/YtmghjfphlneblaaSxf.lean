/-
  Contract of the document's look: a node.
-/
import Derived.Test.YtmghjfphlneblaaSxa
import Derived.Test.YtmghjfphlneblaaSxb
import Derived.Test.YtmghjfphlneblaaSxc
import Derived.Test.YtmghjfphlneblaaSxd
import Derived.Test.YtmghjfphlneblaaSxe
namespace Go.Proofs.Ytmghjfphlneblaa.Sc
open Go.RowKit
open Tr

theorem look_any {w0 : World} {l : List Nd} {p : Option Addr} {cap O oc : Nat} (hC : ∀ j, j < l.length → codeAt l j = 0) (hl : l.length ≤ 600) : ∀ f, LookOK w0 l p cap O oc f := by
  intro f
  induction f with
  | zero => intro w E of ph pr kh kr now k q h hk hkf; omega
  | succ f ih =>
    intro w E of ph pr kh kr now k q h hk hkf hnow hE hq hlow hz ht h1
    by_cases h3 : kindAt l k = 3
    · exact look_open3 ih hC hl h hk hkf hnow hE hq hlow hz ht h1 h3
    by_cases h11 : kindAt l k = 11
    · exact look_open11 ih hC hl h hk hkf hnow hE hq hlow hz ht h1 h11
    by_cases h17 : kindAt l k = 17
    · exact look_open17 ih hC hl h hk hkf hnow hE hq hlow hz ht h1 h17
    by_cases h18 : kindAt l k = 18
    · exact look_open18 ih hC hl h hk hkf hnow hE hq hlow hz ht h1 h18
    by_cases h4 : kindAt l k = 4
    · exact look_param ih hC hl h hk hkf hnow hE hq hlow hz ht h1 h4
    by_cases h12 : kindAt l k = 12
    · exact look_var ih hC hl h hk hkf hnow hE hq hlow hz ht h1 h12
    by_cases h32 : kindAt l k = 32
    · exact look_name ih hC hl h hk hkf hnow hE hq hlow hz ht h1 h32
    by_cases h33 : kindAt l k = 33
    · exact look_call ih hC hl h hk hkf hnow hE hq hlow hz ht h1 h33
    exact look_else ih hC hl h hk hkf hnow hE hq hlow hz ht h1 ⟨h3, h11, h17, h18, h4, h12, h32, h33⟩
end Go.Proofs.Ytmghjfphlneblaa.Sc
