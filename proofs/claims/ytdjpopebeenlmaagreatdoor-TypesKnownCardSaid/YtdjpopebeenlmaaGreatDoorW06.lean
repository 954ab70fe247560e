/-
  Joined texts of this claim: TkN, TkP.
-/
import Derived.Test.YtdjpopebeenlmaaGreatDoorW00
import Derived.Test.YtdjpopebeenlmaaGreatDoorW03
import Derived.Test.YtdjpopebeenlmaaGreatDoorW05
import Derived.Lib.Strings
import Derived.Lib.Walk
import Derived.Lib.ConvBytes
import Derived.Lib.Hide
import Derived.Laws.Strings3
import Derived.Laws.Closers25
import Derived.Laws.Closers25b
import Derived.Lib.IfaceNeq
import Derived.BigCall
import Derived.BigGuard
import Derived.Shelf.Strconv.ToErrorRange
import Derived.Lib.AtoiErrMem
set_option maxHeartbeats 40000000
set_option maxRecDepth 100000
set_option linter.unusedVariables false
set_option linter.unusedSimpArgs false
namespace Go.Proofs.YtdjpopebeenlmaaGreatDoor
section
namespace Tk
open Go.RowKit

/-- the value of a digit of sixteen -/
def dv (c:UInt8):Nat:=if c.toNat≤57 then c.toNat-48 else if 97≤c.toNat then c.toNat-87 else c.toNat-55
/-- the number that digits spell behind a number -/
def numN (b:Nat):Nat→List UInt8→Nat
  | acc,[]=>acc
  | acc,c :: r=>numN b (acc * b+dv c) r
theorem numN_ge (b:Nat) (hb:1≤b) (acc:Nat) (l:List UInt8):acc≤numN b acc l:=by
  induction l generalizing acc with
  | nil=>exact Nat.le_refl _
  | cons c r ih =>
    have h:=ih (acc * b+dv c)
    have:acc * 1≤acc * b:=Nat.mul_le_mul_left _ hb
    show acc≤numN b (acc * b+dv c) r
    omega
def uT (n:Nat):Value:=if n<18446744073709551616 then .tuple #[.int .u64 n,.nilIface] else .tuple #[.int .u64 18446744073709551615,.iface 233 (.int .i64 1)]
theorem uT_big {n:Nat}(h:18446744073709551616≤n):uT n=.tuple #[.int .u64 18446744073709551615,.iface 233 (.int .i64 1)]:=if_neg (by omega)
theorem uT_small {n:Nat}(h:n<18446744073709551616):uT n=.tuple #[.int .u64 n,.nilIface]:=if_pos h

theorem low_tab:∀ c:UInt8,hexB c=true→digB c=false→(c ||| 32).toNat=dv c+87∧10≤dv c∧dv c≤15:=by
  intro c
  have h:∀ n:Fin 256,hexB (UInt8.ofNat n.val)=true→digB (UInt8.ofNat n.val)=false→(UInt8.ofNat n.val ||| 32).toNat=dv (UInt8.ofNat n.val)+87∧10≤dv (UInt8.ofNat n.val)∧dv (UInt8.ofNat n.val)≤15:=by decide +kernel
  have hc:=c.toNat_lt
  have:=h ⟨c.toNat,hc⟩
  simpa using this

theorem low_any (c:UInt8) (hx:hexB c=true) (hd:digB c=false) (w:World) :
    Calls Tryz.prog 273 #[.int .u8 c.toNat] w fun e w'=>e=.returned (.int .u8 ((dv c:Int)+87))∧w' = w:=by
  refine (Tryz.internal_strconv_lower _ w).mono ?_
  rintro e w' ⟨rfl,rfl⟩
  have h:=low_tab c hx hd
  refine ⟨?_,rfl⟩
  have e1:bits .or .u8 (c.toNat:Int) 32=(((c ||| 32).toNat:Nat):Int):=by
    have:∀ n:Fin 256,bits .or .u8 (n.val:Int) 32=(((UInt8.ofNat n.val ||| 32).toNat:Nat):Int):=by decide +kernel
    have hc:=c.toNat_lt
    have:=this ⟨c.toNat,hc⟩
    simpa using this
  rw [e1,h.1]
  rfl


set_option maxHeartbeats 32000000 in
set_option maxRecDepth 100000 in
theorem pu_10 (t:ByteArray) (hne:t.size≠0) (hmax:t.size≤9223372036854775806) (hAll:∀ c ∈ t.data.toList,digB c=true) (w:World) :
    Calls Tryz.prog 255 #[.string t,.int .i64 10,.int .i64 64] w fun e w'=>e=.returned (uT (numN 10 0 t.data.toList))∧w' = Lib.bytesWorld w 5 t:=by
  have hemp:t.toList.isEmpty=false:=by
    rw [← decide_eq_emptyBytes]
    exact decide_eq_false (fun h=>hne (by rw [h];rfl))
  have hcv:=Lib.run_convert_string_bytes (P:=Tryz.prog) w 9 133 5 t (u:=.string) Tryz.underlying9 Tryz.underlying133 Tryz.underlying5
  have hB:∀ j,j<t.size→(Lib.bytesWorld w 5 t).cell? ⟨w.heap.size,j,none⟩=some (.int .u8 (t.data.toList.getD j 0).toNat):=fun j hj=>Lib.bytesWorld_cell w 5 t j hj
  obtain ⟨W1,hW1⟩ : ∃ W1,W1=Lib.bytesWorld w 5 t:=⟨_,rfl⟩
  rw [← hW1] at hcv hB ⊢
  clear hW1
  obtain ⟨bs,hL⟩ : ∃ bs,bs=t.data.toList:=⟨_,rfl⟩
  have hLn:bs.length=t.size:=by rw [hL,Lib.size_eq]
  rw [← hL] at hB hAll ⊢
  clear hL
  have hmv:IntKind.u64.wrap (IntKind.u64.wrap 18446744073709551616-1)=18446744073709551615:=by
    rw [IntKind.wrap_u64,IntKind.wrap_u64]
    decide
  replace hAll:=Lib.hid hAll
  go_enter Tryz.func255,Tryz.ntmps255
  go_wp2
  go_loop [12,13,101] (fun vu vn vi=>∃ (k acc:Nat) (a:Int),vu=.bool false∧vn=.int .u64 a∧vi=.int .i64 k∧k≤t.size∧Hid (a=(acc:Int)∧acc<18446744073709551616∧numN 10 0 bs=numN 10 acc (bs.drop k)))
    (fun _ _ vi=>t.size-(intOf vi).toNat)
  case atStart=>exact ⟨0,0,0,rfl,rfl,rfl,by omega,rfl,by omega,rfl⟩
  case round =>
    obtain ⟨k,acc,a,rfl,rfl,rfl,hk,hh⟩:=hrel
    obtain ⟨ha,hacc,hdec⟩:=hh.out
    clear hh
    have a0:0≤a:=by omega
    have a1:a<18446744073709551616:=by omega
    by_cases hkn:k<t.size
    · have hc:=hB k hkn
      have hdrop:bs.drop k=bs[k]'(by omega) :: bs.drop (k+1):=List.drop_eq_getElem_cons (by omega)
      have hget:bs.getD k 0=bs[k]'(by omega):=by simp [List.getD,List.getElem?_eq_getElem (show k<bs.length by omega)]
      have hall:=hAll.out _ (List.getElem_mem (show k<bs.length by omega))
      rw [hdrop] at hdec
      rw [hget] at hc
      generalize bs[k]'(by omega)=c at hc hdec hall
      have hc256:c.toNat<256:=c.toNat_lt
      clear hB hdrop hget
      have hdig:48≤c.toNat∧c.toNat≤57:=by simpa [digB] using hall
      · obtain ⟨hd0,hd1⟩:=hdig
        have hv:dv c=c.toNat-48:=by unfold dv;rw [if_pos hd1]
        clear hall
        by_cases hcut:1844674407370955162≤acc
        · have hF:18446744073709551616≤numN 10 0 bs:=by
            have:=numN_ge 10 (by decide) (acc * 10+dv c) (bs.drop (k+1))
            rw [hdec];show 18446744073709551616≤numN 10 (acc * 10+dv c) _;omega
          have icut:1844674407370955162≤a:=by omega
          have HF:Hid (uT (numN 10 0 bs)=_):=uT_big hF
          clear hcut hacc hF ha hdec hv
          go_wp2
          go_ret2
          exact ⟨by rw [HF.out];rfl,rfl⟩
        · by_cases hov:18446744073709551616≤acc * 10+dv c
          · have hF:18446744073709551616≤numN 10 0 bs:=by
              have:=numN_ge 10 (by decide) (acc * 10+dv c) (bs.drop (k+1))
              rw [hdec];show 18446744073709551616≤numN 10 (acc * 10+dv c) _;omega
            have HF:Hid (uT (numN 10 0 bs)=_):=uT_big hF
            have icut:a<1844674407370955162:=by omega
            have iov:18446744073709551616≤a * 10+((c.toNat:Int)-48):=by omega
            have hwr:IntKind.u64.wrap (a * 10+((c.toNat:Int)-48))=a * 10+((c.toNat:Int)-48)-18446744073709551616:=by
              rw [IntKind.wrap_u64]
              omega
            clear hcut hacc hF hov ha hdec hv
            go_wp2
            all_goals (go_ret2;exact ⟨by rw [HF.out];rfl,rfl⟩)
          · have HN:Hid (a * 10+((c.toNat:Int)-48)=((acc * 10+dv c:Nat):Int)∧acc * 10+dv c<18446744073709551616∧numN 10 0 bs=numN 10 (acc * 10+dv c) (bs.drop (k+1))):=Lib.hid ⟨by omega,by omega,hdec⟩
            have icut:a<1844674407370955162:=by omega
            have iov:a * 10+((c.toNat:Int)-48)<18446744073709551616:=by omega
            have HA:=Lib.hid hAll
            clear hcut hacc hov hdec ha hv hAll
            go_wp2
            refine ⟨⟨k+1,acc * 10+dv c,a * 10+((c.toNat:Int)-48),rfl,(by first | rfl | (congr 1;omega)),(by first | rfl | (congr 1;omega)),by omega,HN⟩,by simp [intOf];omega⟩
    · -- THE BYTES ARE AT AN END
      have hkk:k=t.size:=by omega
      subst hkk
      have hF:numN 10 acc (bs.drop t.size)=acc:=by rw [List.drop_eq_nil_of_le (by omega)];rfl
      rw [hF] at hdec
      have HF:Hid (uT (numN 10 0 bs)=.tuple #[.int .u64 a,.nilIface]):=by show _=_;rw [hdec,ha];exact uT_small hacc
      clear hacc hF a0 a1 ha hdec
      go_wp2
      go_ret2
      exact ⟨by rw [HF.out];rfl,rfl⟩


set_option maxHeartbeats 32000000 in
set_option maxRecDepth 100000 in
theorem pu_16 (t:ByteArray) (hne:t.size≠0) (hmax:t.size≤9223372036854775806) (hAll:∀ c ∈ t.data.toList,hexB c=true) (w:World) :
    Calls Tryz.prog 255 #[.string t,.int .i64 16,.int .i64 64] w fun e w'=>e=.returned (uT (numN 16 0 t.data.toList))∧w' = Lib.bytesWorld w 5 t:=by
  have hemp:t.toList.isEmpty=false:=by
    rw [← decide_eq_emptyBytes]
    exact decide_eq_false (fun h=>hne (by rw [h];rfl))
  have hcv:=Lib.run_convert_string_bytes (P:=Tryz.prog) w 9 133 5 t (u:=.string) Tryz.underlying9 Tryz.underlying133 Tryz.underlying5
  have hB:∀ j,j<t.size→(Lib.bytesWorld w 5 t).cell? ⟨w.heap.size,j,none⟩=some (.int .u8 (t.data.toList.getD j 0).toNat):=fun j hj=>Lib.bytesWorld_cell w 5 t j hj
  obtain ⟨W1,hW1⟩ : ∃ W1,W1=Lib.bytesWorld w 5 t:=⟨_,rfl⟩
  rw [← hW1] at hcv hB ⊢
  clear hW1
  obtain ⟨bs,hL⟩ : ∃ bs,bs=t.data.toList:=⟨_,rfl⟩
  have hLn:bs.length=t.size:=by rw [hL,Lib.size_eq]
  rw [← hL] at hB hAll ⊢
  clear hL
  have hmv:IntKind.u64.wrap (IntKind.u64.wrap 18446744073709551616-1)=18446744073709551615:=by
    rw [IntKind.wrap_u64,IntKind.wrap_u64]
    decide
  replace hAll:=Lib.hid hAll
  go_enter Tryz.func255,Tryz.ntmps255
  go_wp2
  go_loop [12,13,101] (fun vu vn vi=>∃ (k acc:Nat) (a:Int),vu=.bool false∧vn=.int .u64 a∧vi=.int .i64 k∧k≤t.size∧Hid (a=(acc:Int)∧acc<18446744073709551616∧numN 16 0 bs=numN 16 acc (bs.drop k)))
    (fun _ _ vi=>t.size-(intOf vi).toNat)
  case atStart=>exact ⟨0,0,0,rfl,rfl,rfl,by omega,rfl,by omega,rfl⟩
  case round =>
    obtain ⟨k,acc,a,rfl,rfl,rfl,hk,hh⟩:=hrel
    obtain ⟨ha,hacc,hdec⟩:=hh.out
    clear hh
    have a0:0≤a:=by omega
    have a1:a<18446744073709551616:=by omega
    by_cases hkn:k<t.size
    · have hc:=hB k hkn
      have hdrop:bs.drop k=bs[k]'(by omega) :: bs.drop (k+1):=List.drop_eq_getElem_cons (by omega)
      have hget:bs.getD k 0=bs[k]'(by omega):=by simp [List.getD,List.getElem?_eq_getElem (show k<bs.length by omega)]
      have hall:=hAll.out _ (List.getElem_mem (show k<bs.length by omega))
      rw [hdrop] at hdec
      rw [hget] at hc
      generalize bs[k]'(by omega)=c at hc hdec hall
      have hc256:c.toNat<256:=c.toNat_lt
      clear hB hdrop hget
      by_cases hdig:48≤c.toNat∧c.toNat≤57
      · obtain ⟨hd0,hd1⟩:=hdig
        have hv:dv c=c.toNat-48:=by unfold dv;rw [if_pos hd1]
        clear hall
        by_cases hcut:1152921504606846976≤acc
        · have hF:18446744073709551616≤numN 16 0 bs:=by
            have:=numN_ge 16 (by decide) (acc * 16+dv c) (bs.drop (k+1))
            rw [hdec];show 18446744073709551616≤numN 16 (acc * 16+dv c) _;omega
          have icut:1152921504606846976≤a:=by omega
          have HF:Hid (uT (numN 16 0 bs)=_):=uT_big hF
          clear hcut hacc hF ha hdec hv
          go_wp2
          go_ret2
          exact ⟨by rw [HF.out];rfl,rfl⟩
        · by_cases hov:18446744073709551616≤acc * 16+dv c
          · have hF:18446744073709551616≤numN 16 0 bs:=by
              have:=numN_ge 16 (by decide) (acc * 16+dv c) (bs.drop (k+1))
              rw [hdec];show 18446744073709551616≤numN 16 (acc * 16+dv c) _;omega
            have HF:Hid (uT (numN 16 0 bs)=_):=uT_big hF
            have icut:a<1152921504606846976:=by omega
            have iov:18446744073709551616≤a * 16+((c.toNat:Int)-48):=by omega
            have hwr:IntKind.u64.wrap (a * 16+((c.toNat:Int)-48))=a * 16+((c.toNat:Int)-48)-18446744073709551616:=by
              rw [IntKind.wrap_u64]
              omega
            clear hcut hacc hF hov ha hdec hv
            go_wp2
            all_goals (go_ret2;exact ⟨by rw [HF.out];rfl,rfl⟩)
          · have HN:Hid (a * 16+((c.toNat:Int)-48)=((acc * 16+dv c:Nat):Int)∧acc * 16+dv c<18446744073709551616∧numN 16 0 bs=numN 16 (acc * 16+dv c) (bs.drop (k+1))):=Lib.hid ⟨by omega,by omega,hdec⟩
            have icut:a<1152921504606846976:=by omega
            have iov:a * 16+((c.toNat:Int)-48)<18446744073709551616:=by omega
            have HA:=Lib.hid hAll
            clear hcut hacc hov hdec ha hv hAll
            go_wp2
            refine ⟨⟨k+1,acc * 16+dv c,a * 16+((c.toNat:Int)-48),rfl,(by first | rfl | (congr 1;omega)),(by first | rfl | (congr 1;omega)),by omega,HN⟩,by simp [intOf];omega⟩
      · -- A LETTER
        have hx:hexB c=true:=hall
        have hdB:digB c=false:=by simpa [digB] using hdig
        have hv:=low_tab c hx hdB
        obtain ⟨x,hxx⟩ : ∃ x:Int,x=(dv c:Int):=⟨_,rfl⟩
        have hlow:∀ w:World,Calls Tryz.prog 273 #[.int .u8 c.toNat] w fun e w'=>e=.returned (.int .u8 (x+87))∧w' = w:=by rw [hxx];exact low_any c hx hdB
        have hx1:10≤x:=by omega
        have hx2:x≤15:=by omega
        have hcl:¬ ((c.toNat:Int)≤57)∨¬ ((48:Int)≤c.toNat):=by omega
        have hrng:(65≤c.toNat∧c.toNat≤70)∨(97≤c.toNat∧c.toNat≤102):=by
          have h1:(48≤c.toNat∧c.toNat≤57)∨(97≤c.toNat∧c.toNat≤102)∨(65≤c.toNat∧c.toNat≤70):=by simpa [hexB] using hx
          omega
        have hg1:¬ ((c.toNat:Int)≤57):=by omega
        have hg2:(48:Int)≤c.toNat:=by omega
        have hg3:((c.toNat:Int) == 95)=false:=by rw [beq_eq_false_iff_ne];omega
        clear hv hrng hcl hdig hdB hx hall
        by_cases hcut:1152921504606846976≤acc
        · have hF:18446744073709551616≤numN 16 0 bs:=by
            have:=numN_ge 16 (by decide) (acc * 16+dv c) (bs.drop (k+1))
            rw [hdec];show 18446744073709551616≤numN 16 (acc * 16+dv c) _;omega
          have icut:1152921504606846976≤a:=by omega
          have HF:Hid (uT (numN 16 0 bs)=_):=uT_big hF
          clear hcut hacc hF ha hdec hxx
          go_wp2_with (go_at_call 273;refine (hlow _).mono ?_;rintro e w' ⟨rfl,rfl⟩)
          go_ret2
          exact ⟨by rw [HF.out];rfl,rfl⟩
        · by_cases hov:18446744073709551616≤acc * 16+dv c
          · have hF:18446744073709551616≤numN 16 0 bs:=by
              have:=numN_ge 16 (by decide) (acc * 16+dv c) (bs.drop (k+1))
              rw [hdec];show 18446744073709551616≤numN 16 (acc * 16+dv c) _;omega
            have HF:Hid (uT (numN 16 0 bs)=_):=uT_big hF
            have icut:a<1152921504606846976:=by omega
            have iov:18446744073709551616≤a * 16+x:=by omega
            have hwr:IntKind.u64.wrap (a * 16+x)=a * 16+x-18446744073709551616:=by
              rw [IntKind.wrap_u64]
              omega
            clear hcut hacc hF hov ha hdec hxx
            go_wp2_with (go_at_call 273;refine (hlow _).mono ?_;rintro e w' ⟨rfl,rfl⟩)
            all_goals (go_ret2;exact ⟨by rw [HF.out];rfl,rfl⟩)
          · have HN:Hid (a * 16+x=((acc * 16+dv c:Nat):Int)∧acc * 16+dv c<18446744073709551616∧numN 16 0 bs=numN 16 (acc * 16+dv c) (bs.drop (k+1))):=Lib.hid ⟨by omega,by omega,hdec⟩
            have icut:a<1152921504606846976:=by omega
            have iov:a * 16+x<18446744073709551616:=by omega
            have HA:=Lib.hid hAll
            clear hcut hacc hov hdec ha hxx hAll
            go_wp2_with (go_at_call 273;refine (hlow _).mono ?_;rintro e w' ⟨rfl,rfl⟩)
            refine ⟨⟨k+1,acc * 16+dv c,a * 16+x,rfl,(by first | rfl | (congr 1;omega)),(by first | rfl | (congr 1;omega)),by omega,HN⟩,by simp [intOf];omega⟩
    · -- THE BYTES ARE AT AN END
      have hkk:k=t.size:=by omega
      subst hkk
      have hF:numN 16 acc (bs.drop t.size)=acc:=by rw [List.drop_eq_nil_of_le (by omega)];rfl
      rw [hF] at hdec
      have HF:Hid (uT (numN 16 0 bs)=.tuple #[.int .u64 a,.nilIface]):=by show _=_;rw [hdec,ha];exact uT_small hacc
      clear hacc hF a0 a1 ha hdec
      go_wp2
      go_ret2
      exact ⟨by rw [HF.out];rfl,rfl⟩

end Tk
end
section
namespace Tk
open Go.RowKit

def iT (n:Nat):Value:=if n<9223372036854775808 then .tuple #[.int .i64 n,.nilIface] else .tuple #[.int .i64 9223372036854775807,.iface 233 (.int .i64 1)]
theorem iT_big {n:Nat}(h:9223372036854775808≤n):iT n=.tuple #[.int .i64 9223372036854775807,.iface 233 (.int .i64 1)]:=if_neg (by omega)
theorem iT_small {n:Nat}(h:n<9223372036854775808):iT n=.tuple #[.int .i64 n,.nilIface]:=if_pos h
/-- what ParseInt gives for a number: the number, or some error -/
def PI (n:Nat) (w:World) (e:Ending) (w':World):Prop :=
  (n<9223372036854775808→e=.returned (.tuple #[.int .i64 n,.nilIface]))∧(¬ n<9223372036854775808→∃ x te pe,e=.returned (.tuple #[.int .i64 x,.iface te pe]))∧Below w.heap.size w w'

set_option maxHeartbeats 8000000 in
set_option maxRecDepth 100000 in
theorem pi_10 (s:ByteArray) (hne:s.size≠0) (hmax:s.size≤9223372036854775806) (hAll:∀ c ∈ s.data.toList,digB c=true) (w:World) :
    Calls Tryz.prog 241 #[.string s,.int .i64 10,.int .i64 64] w fun e w'=>e=.returned (iT (numN 10 0 s.data.toList))∧w' = Lib.bytesWorld w 5 s:=by
  have hemp:s.toList.isEmpty=false:=by
    rw [← decide_eq_emptyBytes]
    exact decide_eq_false (fun h=>hne (by rw [h];rfl))
  have hpos:0<s.size:=by omega
  have hq1:∀ W,(binOp .neq 68 (.iface 233 (.int .i64 1)) (.iface 233 (.int .i64 1))).run Tryz.prog W=.ok (.bool false) W:=fun W=>Lib.run_neq_iface_int W 1 1 Tryz.underlying68 (by kernel_rfl) Tryz.underlying233
  have hU:=pu_10 s hne hmax hAll w
  have h0:digB (s[0]'hpos)=true:=hAll _ (by rw [Array.mem_toList_iff];exact Array.getElem_mem _)
  have hn43:(((s[0]'hpos).toNat:Int) == 43)=false:=by
    rw [beq_eq_false_iff_ne];intro h;have h2:(s[0]'hpos).toNat=43:=by omega
    simp [digB,h2] at h0
  have hn45:(((s[0]'hpos).toNat:Int) == 45)=false:=by
    rw [beq_eq_false_iff_ne];intro h;have h2:(s[0]'hpos).toNat=45:=by omega
    simp [digB,h2] at h0
  obtain ⟨n,hn⟩ : ∃ n,n=numN 10 0 s.data.toList:=⟨_,rfl⟩
  rw [← hn] at hU ⊢
  clear hAll h0 hn
  obtain ⟨W1,hW1⟩ : ∃ W1,W1=Lib.bytesWorld w 5 s:=⟨_,rfl⟩
  rw [← hW1] at hU ⊢
  clear hW1
  by_cases hout:n<9223372036854775808
  · obtain ⟨a,ha⟩ : ∃ a:Int,a=(n:Int):=⟨_,rfl⟩
    rw [uT_small (by omega),← ha] at hU
    have HR:Hid (iT n=.tuple #[.int .i64 a,.nilIface]):=by rw [ha];exact iT_small hout
    have a0:0≤a:=by omega
    have a1:a<9223372036854775808:=by omega
    clear ha hout
    go_enter Tryz.func241,Tryz.ntmps241
    go_wp2_with (go_at_call 255;refine hU.mono ?_;rintro e w1 ⟨rfl,rfl⟩)
    go_wp2
    go_ret2
    exact ⟨by rw [HR.out];rfl,rfl⟩
  · have HR:Hid (iT n=.tuple #[.int .i64 9223372036854775807,.iface 233 (.int .i64 1)]):=iT_big (by omega)
    by_cases hbig:n<18446744073709551616
    · obtain ⟨a,ha⟩ : ∃ a:Int,a=(n:Int):=⟨_,rfl⟩
      rw [uT_small (by omega),← ha] at hU
      have a0:9223372036854775808≤a:=by omega
      have a1:a<18446744073709551616:=by omega
      clear ha hout hbig
      go_enter Tryz.func241,Tryz.ntmps241
      go_wp2_with (go_at_call 255;refine hU.mono ?_;rintro e w1 ⟨rfl,rfl⟩)
      go_wp2
      go_ret2
      exact ⟨by rw [HR.out];rfl,rfl⟩
    · rw [uT_big (by omega)] at hU
      clear hout hbig
      go_enter Tryz.func241,Tryz.ntmps241
      go_wp2_with (go_at_call 255;refine hU.mono ?_;rintro e w1 ⟨rfl,rfl⟩)
      go_wp2
      go_ret2
      exact ⟨by rw [HR.out];rfl,rfl⟩

set_option maxHeartbeats 8000000 in
set_option maxRecDepth 100000 in
theorem pI_10 (s:ByteArray) (hne:s.size≠0) (hlim:s.size≤281474976710656) (hAll:∀ c ∈ s.data.toList,digB c=true) (w:World) (te:TypeId) (pe:Value) (hv:w.cell? ⟨4,0,none⟩=some (.iface te pe)) :
    Calls Tryz.prog 211 #[.string s,.int .i64 10,.int .i64 64] w fun e w'=>PI (numN 10 0 s.data.toList) w e w':=by
  have hI:=pi_10 s hne (by omega) hAll w
  obtain ⟨n,hn⟩ : ∃ n,n=numN 10 0 s.data.toList:=⟨_,rfl⟩
  rw [← hn] at hI ⊢
  clear hAll hn
  have hb1:=Lib.bytesWorld_below w 5 s
  obtain ⟨W1,hW1⟩ : ∃ W1,W1=Lib.bytesWorld w 5 s:=⟨_,rfl⟩
  rw [← hW1] at hI hb1
  clear hW1
  have hv1:W1.cell? ⟨4,0,none⟩=some (.iface te pe):=(hb1.cell (show (⟨4,0,none⟩ : Addr).block<w.heap.size from Lib.lt_of_cell hv)).trans hv
  by_cases hout:n<9223372036854775808
  · rw [iT_small hout] at hI
    go_enter Tryz.func211,Tryz.ntmps211
    go_wp2_with (go_at_call 241;refine hI.mono ?_;rintro e w1 ⟨rfl,rfl⟩)
    go_wp2
    go_ret2
    exact ⟨fun _=>rfl,fun h=>absurd hout h,hb1⟩
  · rw [iT_big (by omega)] at hI
    go_enter Tryz.func211,Tryz.ntmps211
    go_wp2_with (go_at_call 241;refine hI.mono ?_;rintro e w1 ⟨rfl,rfl⟩)
    go_wp2_with (go_at_call 242;refine (Tryz.strconv_toError_range ⟨#[80,97,114,115,101,73,110,116]⟩ s 10 64 (.iface te pe) _ hlim ?_ (Or.inr ⟨te,pe,rfl⟩)).mono ?_)
    · exact hv1
    rintro e W2 ⟨N,rfl,h1,h2,h3⟩
    clear h1 h2
    go_wp2
    go_ret2
    exact ⟨fun h=>absurd h hout,fun _=>⟨_,_,_,rfl⟩,hb1.trans (h3.mono hb1.size)⟩

set_option maxHeartbeats 8000000 in
set_option maxRecDepth 100000 in
theorem pi_16 (s:ByteArray) (hne:s.size≠0) (hmax:s.size≤9223372036854775806) (hAll:∀ c ∈ s.data.toList,hexB c=true) (w:World) :
    Calls Tryz.prog 241 #[.string s,.int .i64 16,.int .i64 64] w fun e w'=>e=.returned (iT (numN 16 0 s.data.toList))∧w' = Lib.bytesWorld w 5 s:=by
  have hemp:s.toList.isEmpty=false:=by
    rw [← decide_eq_emptyBytes]
    exact decide_eq_false (fun h=>hne (by rw [h];rfl))
  have hpos:0<s.size:=by omega
  have hq1:∀ W,(binOp .neq 68 (.iface 233 (.int .i64 1)) (.iface 233 (.int .i64 1))).run Tryz.prog W=.ok (.bool false) W:=fun W=>Lib.run_neq_iface_int W 1 1 Tryz.underlying68 (by kernel_rfl) Tryz.underlying233
  have hU:=pu_16 s hne hmax hAll w
  have h0:hexB (s[0]'hpos)=true:=hAll _ (by rw [Array.mem_toList_iff];exact Array.getElem_mem _)
  have hn43:(((s[0]'hpos).toNat:Int) == 43)=false:=by
    rw [beq_eq_false_iff_ne];intro h;have h2:(s[0]'hpos).toNat=43:=by omega
    simp [hexB,h2] at h0
  have hn45:(((s[0]'hpos).toNat:Int) == 45)=false:=by
    rw [beq_eq_false_iff_ne];intro h;have h2:(s[0]'hpos).toNat=45:=by omega
    simp [hexB,h2] at h0
  obtain ⟨n,hn⟩ : ∃ n,n=numN 16 0 s.data.toList:=⟨_,rfl⟩
  rw [← hn] at hU ⊢
  clear hAll h0 hn
  obtain ⟨W1,hW1⟩ : ∃ W1,W1=Lib.bytesWorld w 5 s:=⟨_,rfl⟩
  rw [← hW1] at hU ⊢
  clear hW1
  by_cases hout:n<9223372036854775808
  · obtain ⟨a,ha⟩ : ∃ a:Int,a=(n:Int):=⟨_,rfl⟩
    rw [uT_small (by omega),← ha] at hU
    have HR:Hid (iT n=.tuple #[.int .i64 a,.nilIface]):=by rw [ha];exact iT_small hout
    have a0:0≤a:=by omega
    have a1:a<9223372036854775808:=by omega
    clear ha hout
    go_enter Tryz.func241,Tryz.ntmps241
    go_wp2_with (go_at_call 255;refine hU.mono ?_;rintro e w1 ⟨rfl,rfl⟩)
    go_wp2
    go_ret2
    exact ⟨by rw [HR.out];rfl,rfl⟩
  · have HR:Hid (iT n=.tuple #[.int .i64 9223372036854775807,.iface 233 (.int .i64 1)]):=iT_big (by omega)
    by_cases hbig:n<18446744073709551616
    · obtain ⟨a,ha⟩ : ∃ a:Int,a=(n:Int):=⟨_,rfl⟩
      rw [uT_small (by omega),← ha] at hU
      have a0:9223372036854775808≤a:=by omega
      have a1:a<18446744073709551616:=by omega
      clear ha hout hbig
      go_enter Tryz.func241,Tryz.ntmps241
      go_wp2_with (go_at_call 255;refine hU.mono ?_;rintro e w1 ⟨rfl,rfl⟩)
      go_wp2
      go_ret2
      exact ⟨by rw [HR.out];rfl,rfl⟩
    · rw [uT_big (by omega)] at hU
      clear hout hbig
      go_enter Tryz.func241,Tryz.ntmps241
      go_wp2_with (go_at_call 255;refine hU.mono ?_;rintro e w1 ⟨rfl,rfl⟩)
      go_wp2
      go_ret2
      exact ⟨by rw [HR.out];rfl,rfl⟩

set_option maxHeartbeats 8000000 in
set_option maxRecDepth 100000 in
theorem pI_16 (s:ByteArray) (hne:s.size≠0) (hlim:s.size≤281474976710656) (hAll:∀ c ∈ s.data.toList,hexB c=true) (w:World) (te:TypeId) (pe:Value) (hv:w.cell? ⟨4,0,none⟩=some (.iface te pe)) :
    Calls Tryz.prog 211 #[.string s,.int .i64 16,.int .i64 64] w fun e w'=>PI (numN 16 0 s.data.toList) w e w':=by
  have hI:=pi_16 s hne (by omega) hAll w
  obtain ⟨n,hn⟩ : ∃ n,n=numN 16 0 s.data.toList:=⟨_,rfl⟩
  rw [← hn] at hI ⊢
  clear hAll hn
  have hb1:=Lib.bytesWorld_below w 5 s
  obtain ⟨W1,hW1⟩ : ∃ W1,W1=Lib.bytesWorld w 5 s:=⟨_,rfl⟩
  rw [← hW1] at hI hb1
  clear hW1
  have hv1:W1.cell? ⟨4,0,none⟩=some (.iface te pe):=(hb1.cell (show (⟨4,0,none⟩ : Addr).block<w.heap.size from Lib.lt_of_cell hv)).trans hv
  by_cases hout:n<9223372036854775808
  · rw [iT_small hout] at hI
    go_enter Tryz.func211,Tryz.ntmps211
    go_wp2_with (go_at_call 241;refine hI.mono ?_;rintro e w1 ⟨rfl,rfl⟩)
    go_wp2
    go_ret2
    exact ⟨fun _=>rfl,fun h=>absurd hout h,hb1⟩
  · rw [iT_big (by omega)] at hI
    go_enter Tryz.func211,Tryz.ntmps211
    go_wp2_with (go_at_call 241;refine hI.mono ?_;rintro e w1 ⟨rfl,rfl⟩)
    go_wp2_with (go_at_call 242;refine (Tryz.strconv_toError_range ⟨#[80,97,114,115,101,73,110,116]⟩ s 16 64 (.iface te pe) _ hlim ?_ (Or.inr ⟨te,pe,rfl⟩)).mono ?_)
    · exact hv1
    rintro e W2 ⟨N,rfl,h1,h2,h3⟩
    clear h1 h2
    go_wp2
    go_ret2
    exact ⟨fun h=>absurd h hout,fun _=>⟨_,_,_,rfl⟩,hb1.trans (h3.mono hb1.size)⟩

end Tk
end
end Go.Proofs.YtdjpopebeenlmaaGreatDoor
