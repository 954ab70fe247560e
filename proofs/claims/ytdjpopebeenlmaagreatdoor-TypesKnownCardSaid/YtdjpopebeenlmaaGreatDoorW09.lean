/-
  Joined texts of this claim: TrG.
-/
import Derived.Test.YtdjpopebeenlmaaGreatDoorW00
import Derived.Test.YtdjpopebeenlmaaGreatDoorW02
import Derived.Test.YtdjpopebeenlmaaGreatDoorW04
set_option maxHeartbeats 40000000
set_option maxRecDepth 100000
set_option linter.unusedVariables false
set_option linter.unusedSimpArgs false
namespace Go.Proofs.YtdjpopebeenlmaaGreatDoor
section
namespace Tr
open Go.RowKit

/-- the cells of a node in a box, behind a call -/
theorem box_node {w w':World}{x0 x1 x2 x3 x4 x5:Value}(hb:Below (w.alloc (.cells #[x0,x1,x2,x3,x4,x5] 34)).heap.size (w.alloc (.cells #[x0,x1,x2,x3,x4,x5] 34)) w') :
    w'.cell? ⟨w.heap.size,0,none⟩=some x0∧w'.cell? ⟨w.heap.size,1,none⟩=some x1∧w'.cell? ⟨w.heap.size,2,none⟩=some x2∧w'.cell? ⟨w.heap.size,3,none⟩=some x3∧w'.cell? ⟨w.heap.size,4,none⟩=some x4∧w'.cell? ⟨w.heap.size,5,none⟩=some x5∧w.heap.size<w'.heap.size:=by
  have h:w'.heap[w.heap.size]? = some (.cells #[x0,x1,x2,x3,x4,x5] 34 (0,0)):=by
    rw [hb.block w.heap.size (by simp)];exact heap_alloc_new w _
  refine ⟨by simp [World.cell?,h],by simp [World.cell?,h],by simp [World.cell?,h],by simp [World.cell?,h],by simp [World.cell?,h],by simp [World.cell?,h],?_⟩
  have:=hb.size
  simp at this
  omega

set_option maxHeartbeats 2000000 in
theorem fields_any (k:Int) (t:ByteArray) (n z:Int) (p:Option Addr) (m cap:Nat) (a:Int) (w:World) (hm:m≤1000000000000000000) :
    Calls Tryz.prog 158 #[.agg #[.int .i64 k,.string t,.int .i64 n,.int .i64 z,.slice p m cap,.int .i64 a]] w fun e w'=>e=.returned (.int .i64 (fieldV k t n z m a))∧Below w.heap.size w w':=by
  have HW:Hid (Below w.heap.size w (w.alloc (.cells #[.int .i64 k,.string t,.int .i64 n,.int .i64 z,.slice p m cap,.int .i64 a] 34))):=(Below.refl _ _).alloc (Nat.le_refl _) _
  have H2:=nums_any k t n z p m cap a (w.alloc (.cells #[.int .i64 k,.string t,.int .i64 n,.int .i64 z,.slice p m cap,.int .i64 a] 34)) hm
  go_enter Tryz.func158,Tryz.ntmps158
  cases hn:namedB k with
  | true =>
    cases hx:nameB t with
    | false =>
      clear H2
      go_wp2_with (first | (go_at_call 204;refine (named_any _ _).mono ?_;rintro e w' ⟨rfl,rfl⟩) | (go_at_call 205;refine (name_any _ _).mono ?_;rintro e w' ⟨rfl,rfl⟩))
      go_ret
      exact ⟨ret_int (by unfold fieldV;rw [if_pos ⟨hn,hx⟩]),HW.out⟩
    | true =>
      go_wp2_with (first | (go_at_call 204;refine (named_any _ _).mono ?_;rintro e w' ⟨rfl,rfl⟩) | (go_at_call 205;refine (name_any _ _).mono ?_;rintro e w' ⟨rfl,rfl⟩))
      refine H2.mono ?_
      rintro e w2 ⟨rfl,hb⟩
      obtain ⟨c0,c1,c2,c3,c4,c5,l1⟩:=box_node hb
      have hbw:=HW.out.trans (hb.mono (by simp))
      have HB:=Lib.hid hbw
      clear hb hbw H2 HW
      cases hu:numB k n z m with
      | false =>
        go_wp2
        go_ret
        exact ⟨ret_int (by unfold fieldV;rw [if_neg (by rintro ⟨_,h⟩;rw [hx] at h;cases h),if_neg (by rintro ⟨h,_⟩;rw [hn] at h;cases h)];rw [if_pos (Or.inl hu)]),HB.out⟩
      | true =>
        by_cases ha:a<0
        · go_wp2
          go_ret
          exact ⟨ret_int (by unfold fieldV;rw [if_neg (by rintro ⟨_,h⟩;rw [hx] at h;cases h),if_neg (by rintro ⟨h,_⟩;rw [hn] at h;cases h)];rw [if_pos (Or.inr ha)]),HB.out⟩
        · go_wp2
          go_ret
          exact ⟨ret_int (by unfold fieldV;rw [if_neg (by rintro ⟨_,h⟩;rw [hx] at h;cases h),if_neg (by rintro ⟨h,_⟩;rw [hn] at h;cases h)];rw [if_neg (by rintro (h | h) <;> first | (rw [hu] at h;cases h;done) | omega)]),HB.out⟩
  | false =>
    cases hx:signB k t with
    | false =>
      clear H2
      go_wp2_with (first | (go_at_call 204;refine (named_any _ _).mono ?_;rintro e w' ⟨rfl,rfl⟩) | (go_at_call 206;refine (sign_any _ _ _).mono ?_;rintro e w' ⟨rfl,rfl⟩))
      go_ret
      exact ⟨ret_int (by unfold fieldV;rw [if_neg (by rintro ⟨h,_⟩;rw [hn] at h;cases h),if_pos ⟨hn,hx⟩]),HW.out⟩
    | true =>
      go_wp2_with (first | (go_at_call 204;refine (named_any _ _).mono ?_;rintro e w' ⟨rfl,rfl⟩) | (go_at_call 206;refine (sign_any _ _ _).mono ?_;rintro e w' ⟨rfl,rfl⟩))
      refine H2.mono ?_
      rintro e w2 ⟨rfl,hb⟩
      obtain ⟨c0,c1,c2,c3,c4,c5,l1⟩:=box_node hb
      have hbw:=HW.out.trans (hb.mono (by simp))
      have HB:=Lib.hid hbw
      clear hb hbw H2 HW
      cases hu:numB k n z m with
      | false =>
        go_wp2
        go_ret
        exact ⟨ret_int (by unfold fieldV;rw [if_neg (by rintro ⟨h,_⟩;rw [hn] at h;cases h),if_neg (by rintro ⟨_,h⟩;rw [hx] at h;cases h)];rw [if_pos (Or.inl hu)]),HB.out⟩
      | true =>
        by_cases ha:a<0
        · go_wp2
          go_ret
          exact ⟨ret_int (by unfold fieldV;rw [if_neg (by rintro ⟨h,_⟩;rw [hn] at h;cases h),if_neg (by rintro ⟨_,h⟩;rw [hx] at h;cases h)];rw [if_pos (Or.inr ha)]),HB.out⟩
        · go_wp2
          go_ret
          exact ⟨ret_int (by unfold fieldV;rw [if_neg (by rintro ⟨h,_⟩;rw [hn] at h;cases h),if_neg (by rintro ⟨_,h⟩;rw [hx] at h;cases h)];rw [if_neg (by rintro (h | h) <;> first | (rw [hu] at h;cases h;done) | omega)]),HB.out⟩

end Tr
end
end Go.Proofs.YtdjpopebeenlmaaGreatDoor
