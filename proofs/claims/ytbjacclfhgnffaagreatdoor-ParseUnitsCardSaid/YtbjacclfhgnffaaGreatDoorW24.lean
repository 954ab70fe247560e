/-
  Joined texts of this claim: Uk, Um.
-/
import Derived.Test.YtbjacclfhgnffaaGreatDoorW00
import Derived.Test.YtbjacclfhgnffaaGreatDoorW20
import Derived.Test.YtbjacclfhgnffaaGreatDoorW19
set_option maxHeartbeats 40000000
set_option maxRecDepth 100000
set_option linter.unusedVariables false
set_option linter.unusedSimpArgs false
namespace Go.Proofs.YtbjacclfhgnffaaGreatDoor
section
open Go.RowKit
open Tk (T4 bstr)
open Tr (Nd Blk KidsAt)
def actF (E:Nat) (bl co ex:F3):F3:=fun s =>
 if (pk E s.L).t=[123] then bl s
 else if (pk E s.L).t=[105,110,116] then seqF [localF E ex,wordF E [59]] s
 else if (pk E s.L).t=[105,102]∨(pk E s.L).t=[119,104,105,108,101]∨(pk E s.L).t=[100,111]∨(pk E s.L).t=[102,111,114]∨(pk E s.L).t=[115,119,105,116,99,104] then co s
 else if (pk E s.L).t=[98,114,101,97,107] then buildF (mk 21 [] 0 (pk E s.L).a) [wordF E [98,114,101,97,107],wordF E [59]] s
 else if (pk E s.L).t=[99,111,110,116,105,110,117,101] then buildF (mk 22 [] 0 (pk E s.L).a) [wordF E [99,111,110,116,105,110,117,101],wordF E [59]] s
 else if (pk E s.L).t=[114,101,116,117,114,110] then buildF (mk 23 [] 0 (pk E s.L).a) [wordF E [114,101,116,117,114,110],toldF E ex,wordF E [59]] s
 else if (pk E s.L).t=[59] then seqF [nothingF E,wordF E [59]] s
 else seqF [effectF E ex,wordF E [59]] s
theorem act_block {B T E:Nat}{bl:F3}(hbl:FnC B T E 206 bl) {w:World}{s:S3}(h:Ps B T E w s) (ht:(pk E s.L).t=[123]) (hr:bl s≠.out):Calls Tryz.prog 233 #[.pointer (some ⟨B,0,none⟩)] w (Did B T E w (bl s)):=by
 obtain ⟨r,hrr⟩:=exE (bl s)
 rw [← hrr] at hr ⊢
 obtain ⟨Q,hQ⟩:=exE (Did B T E w r)
 rw [← hQ]
 have HQ:=Lib.hid hQ
 have HR:=Lib.hid hr
 have hB:=h.lt
 clear hQ hr
 have HP:=Lib.hid h
 have hpk:=peek_any h
 unfold tokV at hpk
 obtain ⟨t,ht'⟩:=exE (pk E s.L)
 obtain ⟨x,hxx⟩:=exE (bstr t.t)
 rw [← ht',← hxx] at hpk
 rw [← ht'] at ht
 (try rw [← ht'] at hrr)
 have q0:=txt_yes (l:=[123]) hxx ht
 have Hrr:Hid (r=_):=hrr
 clear ht ht' hxx hrr h
 go_enter Tryz.func233,Tryz.ntmps233
 go_wp2_with (go_at_call 59;refine hpk.mono ?_;rintro e w1 ⟨rfl,hb⟩)
 have hp1:=HP.out.below hb
 have hx1:=Ext.below hb hB
 have HNd:=Lib.hid (node_far (t:=82) (cs:=#[.int .i64 t.k,.string x,.int .i64 t.v,.int .i64 t.a]) hp1)
 have HX6:=Lib.hid (hx1.alloc hB (.cells #[.int .i64 t.k,.string x,.int .i64 t.v,.int .i64 t.a] 82))
 have HP6:=Lib.hid (hp1.alloc (.cells #[.int .i64 t.k,.string x,.int .i64 t.v,.int .i64 t.a] 82))
 clear hb hp1 hx1 hpk HP
 generalize w1.alloc (.cells #[.int .i64 t.k,.string x,.int .i64 t.v,.int .i64 t.a] 82)=W6 at *
 generalize w1.heap.size=g at *
 have hcall:=hbl W6 s HP6.out (by rw [← Hrr.out];exact HR.out)
 rw [← Hrr.out] at hcall
 clear HNd
 go_wp2_with (go_at_call 206;refine hcall.mono ?_)
 intro e w2 hd
 obtain ⟨v,rfl,hd⟩:=did_ret hd HR.out
 have HD:=Lib.hid (did_ext hd HX6.out)
 clear hd hcall
 go_wp2
 (try go_ret)
 rw [HQ.out]
 exact HD.out
theorem act_if {B T E:Nat}{co:F3}(hco:FnC B T E 244 co) {w:World}{s:S3}(h:Ps B T E w s) (ht:(pk E s.L).t=[105,102]) (hr:co s≠.out):Calls Tryz.prog 233 #[.pointer (some ⟨B,0,none⟩)] w (Did B T E w (co s)):=by
 obtain ⟨r,hrr⟩:=exE (co s)
 rw [← hrr] at hr ⊢
 obtain ⟨Q,hQ⟩:=exE (Did B T E w r)
 rw [← hQ]
 have HQ:=Lib.hid hQ
 have HR:=Lib.hid hr
 have hB:=h.lt
 clear hQ hr
 have HP:=Lib.hid h
 have hpk:=peek_any h
 unfold tokV at hpk
 obtain ⟨t,ht'⟩:=exE (pk E s.L)
 obtain ⟨x,hxx⟩:=exE (bstr t.t)
 rw [← ht',← hxx] at hpk
 rw [← ht'] at ht
 (try rw [← ht'] at hrr)
 have q0:=txt_no (l:=[123]) hxx (by rw [ht];decide)
 have q1:=txt_no (l:=[105,110,116]) hxx (by rw [ht];decide)
 have q2:=txt_yes (l:=[105,102]) hxx ht
 have Hrr:Hid (r=_):=hrr
 clear ht ht' hxx hrr h
 go_enter Tryz.func233,Tryz.ntmps233
 go_wp2_with (go_at_call 59;refine hpk.mono ?_;rintro e w1 ⟨rfl,hb⟩)
 have hp1:=HP.out.below hb
 have hx1:=Ext.below hb hB
 have HNd:=Lib.hid (node_far (t:=82) (cs:=#[.int .i64 t.k,.string x,.int .i64 t.v,.int .i64 t.a]) hp1)
 have HX6:=Lib.hid (hx1.alloc hB (.cells #[.int .i64 t.k,.string x,.int .i64 t.v,.int .i64 t.a] 82))
 have HP6:=Lib.hid (hp1.alloc (.cells #[.int .i64 t.k,.string x,.int .i64 t.v,.int .i64 t.a] 82))
 clear hb hp1 hx1 hpk HP
 generalize w1.alloc (.cells #[.int .i64 t.k,.string x,.int .i64 t.v,.int .i64 t.a] 82)=W6 at *
 generalize w1.heap.size=g at *
 have hcall:=hco W6 s HP6.out (by rw [← Hrr.out];exact HR.out)
 rw [← Hrr.out] at hcall
 clear HNd
 go_wp2_with (go_at_call 244;refine hcall.mono ?_)
 intro e w2 hd
 obtain ⟨v,rfl,hd⟩:=did_ret hd HR.out
 have HD:=Lib.hid (did_ext hd HX6.out)
 clear hd hcall
 go_wp2
 (try go_ret)
 rw [HQ.out]
 exact HD.out
theorem act_while {B T E:Nat}{co:F3}(hco:FnC B T E 244 co) {w:World}{s:S3}(h:Ps B T E w s) (ht:(pk E s.L).t=[119,104,105,108,101]) (hr:co s≠.out):Calls Tryz.prog 233 #[.pointer (some ⟨B,0,none⟩)] w (Did B T E w (co s)):=by
 obtain ⟨r,hrr⟩:=exE (co s)
 rw [← hrr] at hr ⊢
 obtain ⟨Q,hQ⟩:=exE (Did B T E w r)
 rw [← hQ]
 have HQ:=Lib.hid hQ
 have HR:=Lib.hid hr
 have hB:=h.lt
 clear hQ hr
 have HP:=Lib.hid h
 have hpk:=peek_any h
 unfold tokV at hpk
 obtain ⟨t,ht'⟩:=exE (pk E s.L)
 obtain ⟨x,hxx⟩:=exE (bstr t.t)
 rw [← ht',← hxx] at hpk
 rw [← ht'] at ht
 (try rw [← ht'] at hrr)
 have q0:=txt_no (l:=[123]) hxx (by rw [ht];decide)
 have q1:=txt_no (l:=[105,110,116]) hxx (by rw [ht];decide)
 have q2:=txt_no (l:=[105,102]) hxx (by rw [ht];decide)
 have q3:=txt_yes (l:=[119,104,105,108,101]) hxx ht
 have Hrr:Hid (r=_):=hrr
 clear ht ht' hxx hrr h
 go_enter Tryz.func233,Tryz.ntmps233
 go_wp2_with (go_at_call 59;refine hpk.mono ?_;rintro e w1 ⟨rfl,hb⟩)
 have hp1:=HP.out.below hb
 have hx1:=Ext.below hb hB
 have HNd:=Lib.hid (node_far (t:=82) (cs:=#[.int .i64 t.k,.string x,.int .i64 t.v,.int .i64 t.a]) hp1)
 have HX6:=Lib.hid (hx1.alloc hB (.cells #[.int .i64 t.k,.string x,.int .i64 t.v,.int .i64 t.a] 82))
 have HP6:=Lib.hid (hp1.alloc (.cells #[.int .i64 t.k,.string x,.int .i64 t.v,.int .i64 t.a] 82))
 clear hb hp1 hx1 hpk HP
 generalize w1.alloc (.cells #[.int .i64 t.k,.string x,.int .i64 t.v,.int .i64 t.a] 82)=W6 at *
 generalize w1.heap.size=g at *
 have hcall:=hco W6 s HP6.out (by rw [← Hrr.out];exact HR.out)
 rw [← Hrr.out] at hcall
 clear HNd
 go_wp2_with (go_at_call 244;refine hcall.mono ?_)
 intro e w2 hd
 obtain ⟨v,rfl,hd⟩:=did_ret hd HR.out
 have HD:=Lib.hid (did_ext hd HX6.out)
 clear hd hcall
 go_wp2
 (try go_ret)
 rw [HQ.out]
 exact HD.out
theorem act_do {B T E:Nat}{co:F3}(hco:FnC B T E 244 co) {w:World}{s:S3}(h:Ps B T E w s) (ht:(pk E s.L).t=[100,111]) (hr:co s≠.out):Calls Tryz.prog 233 #[.pointer (some ⟨B,0,none⟩)] w (Did B T E w (co s)):=by
 obtain ⟨r,hrr⟩:=exE (co s)
 rw [← hrr] at hr ⊢
 obtain ⟨Q,hQ⟩:=exE (Did B T E w r)
 rw [← hQ]
 have HQ:=Lib.hid hQ
 have HR:=Lib.hid hr
 have hB:=h.lt
 clear hQ hr
 have HP:=Lib.hid h
 have hpk:=peek_any h
 unfold tokV at hpk
 obtain ⟨t,ht'⟩:=exE (pk E s.L)
 obtain ⟨x,hxx⟩:=exE (bstr t.t)
 rw [← ht',← hxx] at hpk
 rw [← ht'] at ht
 (try rw [← ht'] at hrr)
 have q0:=txt_no (l:=[123]) hxx (by rw [ht];decide)
 have q1:=txt_no (l:=[105,110,116]) hxx (by rw [ht];decide)
 have q2:=txt_no (l:=[105,102]) hxx (by rw [ht];decide)
 have q3:=txt_no (l:=[119,104,105,108,101]) hxx (by rw [ht];decide)
 have q4:=txt_yes (l:=[100,111]) hxx ht
 have Hrr:Hid (r=_):=hrr
 clear ht ht' hxx hrr h
 go_enter Tryz.func233,Tryz.ntmps233
 go_wp2_with (go_at_call 59;refine hpk.mono ?_;rintro e w1 ⟨rfl,hb⟩)
 have hp1:=HP.out.below hb
 have hx1:=Ext.below hb hB
 have HNd:=Lib.hid (node_far (t:=82) (cs:=#[.int .i64 t.k,.string x,.int .i64 t.v,.int .i64 t.a]) hp1)
 have HX6:=Lib.hid (hx1.alloc hB (.cells #[.int .i64 t.k,.string x,.int .i64 t.v,.int .i64 t.a] 82))
 have HP6:=Lib.hid (hp1.alloc (.cells #[.int .i64 t.k,.string x,.int .i64 t.v,.int .i64 t.a] 82))
 clear hb hp1 hx1 hpk HP
 generalize w1.alloc (.cells #[.int .i64 t.k,.string x,.int .i64 t.v,.int .i64 t.a] 82)=W6 at *
 generalize w1.heap.size=g at *
 have hcall:=hco W6 s HP6.out (by rw [← Hrr.out];exact HR.out)
 rw [← Hrr.out] at hcall
 clear HNd
 go_wp2_with (go_at_call 244;refine hcall.mono ?_)
 intro e w2 hd
 obtain ⟨v,rfl,hd⟩:=did_ret hd HR.out
 have HD:=Lib.hid (did_ext hd HX6.out)
 clear hd hcall
 go_wp2
 (try go_ret)
 rw [HQ.out]
 exact HD.out
theorem act_for {B T E:Nat}{co:F3}(hco:FnC B T E 244 co) {w:World}{s:S3}(h:Ps B T E w s) (ht:(pk E s.L).t=[102,111,114]) (hr:co s≠.out):Calls Tryz.prog 233 #[.pointer (some ⟨B,0,none⟩)] w (Did B T E w (co s)):=by
 obtain ⟨r,hrr⟩:=exE (co s)
 rw [← hrr] at hr ⊢
 obtain ⟨Q,hQ⟩:=exE (Did B T E w r)
 rw [← hQ]
 have HQ:=Lib.hid hQ
 have HR:=Lib.hid hr
 have hB:=h.lt
 clear hQ hr
 have HP:=Lib.hid h
 have hpk:=peek_any h
 unfold tokV at hpk
 obtain ⟨t,ht'⟩:=exE (pk E s.L)
 obtain ⟨x,hxx⟩:=exE (bstr t.t)
 rw [← ht',← hxx] at hpk
 rw [← ht'] at ht
 (try rw [← ht'] at hrr)
 have q0:=txt_no (l:=[123]) hxx (by rw [ht];decide)
 have q1:=txt_no (l:=[105,110,116]) hxx (by rw [ht];decide)
 have q2:=txt_no (l:=[105,102]) hxx (by rw [ht];decide)
 have q3:=txt_no (l:=[119,104,105,108,101]) hxx (by rw [ht];decide)
 have q4:=txt_no (l:=[100,111]) hxx (by rw [ht];decide)
 have q5:=txt_yes (l:=[102,111,114]) hxx ht
 have Hrr:Hid (r=_):=hrr
 clear ht ht' hxx hrr h
 go_enter Tryz.func233,Tryz.ntmps233
 go_wp2_with (go_at_call 59;refine hpk.mono ?_;rintro e w1 ⟨rfl,hb⟩)
 have hp1:=HP.out.below hb
 have hx1:=Ext.below hb hB
 have HNd:=Lib.hid (node_far (t:=82) (cs:=#[.int .i64 t.k,.string x,.int .i64 t.v,.int .i64 t.a]) hp1)
 have HX6:=Lib.hid (hx1.alloc hB (.cells #[.int .i64 t.k,.string x,.int .i64 t.v,.int .i64 t.a] 82))
 have HP6:=Lib.hid (hp1.alloc (.cells #[.int .i64 t.k,.string x,.int .i64 t.v,.int .i64 t.a] 82))
 clear hb hp1 hx1 hpk HP
 generalize w1.alloc (.cells #[.int .i64 t.k,.string x,.int .i64 t.v,.int .i64 t.a] 82)=W6 at *
 generalize w1.heap.size=g at *
 have hcall:=hco W6 s HP6.out (by rw [← Hrr.out];exact HR.out)
 rw [← Hrr.out] at hcall
 clear HNd
 go_wp2_with (go_at_call 244;refine hcall.mono ?_)
 intro e w2 hd
 obtain ⟨v,rfl,hd⟩:=did_ret hd HR.out
 have HD:=Lib.hid (did_ext hd HX6.out)
 clear hd hcall
 go_wp2
 (try go_ret)
 rw [HQ.out]
 exact HD.out
theorem act_switch {B T E:Nat}{co:F3}(hco:FnC B T E 244 co) {w:World}{s:S3}(h:Ps B T E w s) (ht:(pk E s.L).t=[115,119,105,116,99,104]) (hr:co s≠.out):Calls Tryz.prog 233 #[.pointer (some ⟨B,0,none⟩)] w (Did B T E w (co s)):=by
 obtain ⟨r,hrr⟩:=exE (co s)
 rw [← hrr] at hr ⊢
 obtain ⟨Q,hQ⟩:=exE (Did B T E w r)
 rw [← hQ]
 have HQ:=Lib.hid hQ
 have HR:=Lib.hid hr
 have hB:=h.lt
 clear hQ hr
 have HP:=Lib.hid h
 have hpk:=peek_any h
 unfold tokV at hpk
 obtain ⟨t,ht'⟩:=exE (pk E s.L)
 obtain ⟨x,hxx⟩:=exE (bstr t.t)
 rw [← ht',← hxx] at hpk
 rw [← ht'] at ht
 (try rw [← ht'] at hrr)
 have q0:=txt_no (l:=[123]) hxx (by rw [ht];decide)
 have q1:=txt_no (l:=[105,110,116]) hxx (by rw [ht];decide)
 have q2:=txt_no (l:=[105,102]) hxx (by rw [ht];decide)
 have q3:=txt_no (l:=[119,104,105,108,101]) hxx (by rw [ht];decide)
 have q4:=txt_no (l:=[100,111]) hxx (by rw [ht];decide)
 have q5:=txt_no (l:=[102,111,114]) hxx (by rw [ht];decide)
 have q6:=txt_yes (l:=[115,119,105,116,99,104]) hxx ht
 have Hrr:Hid (r=_):=hrr
 clear ht ht' hxx hrr h
 go_enter Tryz.func233,Tryz.ntmps233
 go_wp2_with (go_at_call 59;refine hpk.mono ?_;rintro e w1 ⟨rfl,hb⟩)
 have hp1:=HP.out.below hb
 have hx1:=Ext.below hb hB
 have HNd:=Lib.hid (node_far (t:=82) (cs:=#[.int .i64 t.k,.string x,.int .i64 t.v,.int .i64 t.a]) hp1)
 have HX6:=Lib.hid (hx1.alloc hB (.cells #[.int .i64 t.k,.string x,.int .i64 t.v,.int .i64 t.a] 82))
 have HP6:=Lib.hid (hp1.alloc (.cells #[.int .i64 t.k,.string x,.int .i64 t.v,.int .i64 t.a] 82))
 clear hb hp1 hx1 hpk HP
 generalize w1.alloc (.cells #[.int .i64 t.k,.string x,.int .i64 t.v,.int .i64 t.a] 82)=W6 at *
 generalize w1.heap.size=g at *
 have hcall:=hco W6 s HP6.out (by rw [← Hrr.out];exact HR.out)
 rw [← Hrr.out] at hcall
 clear HNd
 go_wp2_with (go_at_call 244;refine hcall.mono ?_)
 intro e w2 hd
 obtain ⟨v,rfl,hd⟩:=did_ret hd HR.out
 have HD:=Lib.hid (did_ext hd HX6.out)
 clear hd hcall
 go_wp2
 (try go_ret)
 rw [HQ.out]
 exact HD.out
theorem act_local {B T E:Nat}{ex:F3}(hlo:FnC B T E 243 (localF E ex)) {w:World}{s:S3}(h:Ps B T E w s) (ht:(pk E s.L).t=[105,110,116]) (hr:seqF [localF E ex,wordF E [59]] s≠.out):Calls Tryz.prog 233 #[.pointer (some ⟨B,0,none⟩)] w (Did B T E w (seqF [localF E ex,wordF E [59]] s)):=by
 obtain ⟨r,hrr⟩:=exE (seqF [localF E ex,wordF E [59]] s)
 rw [← hrr] at hr ⊢
 obtain ⟨Q,hQ⟩:=exE (Did B T E w r)
 rw [← hQ]
 have HQ:=Lib.hid hQ
 have HR:=Lib.hid hr
 have hB:=h.lt
 clear hQ hr
 have HP:=Lib.hid h
 have hpk:=peek_any h
 unfold tokV at hpk
 obtain ⟨t,ht'⟩:=exE (pk E s.L)
 obtain ⟨x,hxx⟩:=exE (bstr t.t)
 rw [← ht',← hxx] at hpk
 rw [← ht'] at ht
 (try rw [← ht'] at hrr)
 have q0:=txt_no (l:=[123]) hxx (by rw [ht];decide)
 have q1:=txt_yes (l:=[105,110,116]) hxx ht
 have Hrr:Hid (r=_):=hrr
 clear ht ht' hxx hrr h
 go_enter Tryz.func233,Tryz.ntmps233
 go_wp2_with (go_at_call 59;refine hpk.mono ?_;rintro e w1 ⟨rfl,hb⟩)
 have hp1:=HP.out.below hb
 have hx1:=Ext.below hb hB
 have HNd:=Lib.hid (node_far (t:=82) (cs:=#[.int .i64 t.k,.string x,.int .i64 t.v,.int .i64 t.a]) hp1)
 have HX6:=Lib.hid (hx1.alloc hB (.cells #[.int .i64 t.k,.string x,.int .i64 t.v,.int .i64 t.a] 82))
 have HP6:=Lib.hid (hp1.alloc (.cells #[.int .i64 t.k,.string x,.int .i64 t.v,.int .i64 t.a] 82))
 clear hb hp1 hx1 hpk HP
 generalize w1.alloc (.cells #[.int .i64 t.k,.string x,.int .i64 t.v,.int .i64 t.a] 82)=W6 at *
 generalize w1.heap.size=g at *
 have N0:Hid (Now B T E s W6 W6):=Now.refl HP6.out
 clear HNd HP6
 have HW0:Hid (∀ W,Now B T E s W6 W→Calls Tryz.prog 61 #[.pointer (some ⟨B,0,none⟩),.string ⟨#[59]⟩] W fun e w'=>∃ g1 g2,e=.returned (.func (.func 110) #[] #[.pointer (some ⟨g1,0,none⟩),.pointer (some ⟨g2,0,none⟩)])∧Now B T E s W6 w'∧Ext B W w'∧StepV B T E w' (.func (.func 110) #[] #[.pointer (some ⟨g1,0,none⟩),.pointer (some ⟨g2,0,none⟩)]) (wordF E [59])):=fun W hW=>word_now hW ⟨#[59]⟩
 have HN:Hid (∀ W v1,Now B T E s W6 W→StepV B T E W v1 (wordF E [59])→Calls Tryz.prog 27 #[.slice (some ⟨W.heap.size,0,none⟩) 2 2] (W.alloc (.cells #[.func (.func 243) #[.pointer (some ⟨B,0,none⟩)] #[],v1] 57)) (Ends B T E W6 r)):=fun W v1 hW h1=>by
   have h:=turn_now hW [.func (.func 243) #[.pointer (some ⟨B,0,none⟩)] #[],v1] [localF E ex,wordF E [59]] rfl (by simp) (step2 (stepFn hlo ent174 W) (h1)) (by rw [← Hrr.out];exact HR.out) 57
   rw [← Hrr.out] at h
   exact h
 go_wp2_with (first | (go_at_call 61;first | ((with_reducible refine (HW0.out _ N0.out).mono ?_);rintro e w0_ ⟨q00,q01,rfl,hn0,hx0,hs0⟩)) | (go_at_call 27;refine (HN.out _ _ hn0 hs0).mono ?_;rintro e w9 ⟨v,rfl,hd,hx9⟩))
 all_goals
  have HD:=Lib.hid (did_ext hd HX6.out)
  clear hd hx9
  go_wp2
  (try go_ret)
  rw [HQ.out]
  exact HD.out
theorem act_break {B T E:Nat}{w:World}{s:S3}(h:Ps B T E w s) (ht:(pk E s.L).t=[98,114,101,97,107]) (hr:buildF (mk 21 [] 0 (pk E s.L).a) [wordF E [98,114,101,97,107],wordF E [59]] s≠.out):Calls Tryz.prog 233 #[.pointer (some ⟨B,0,none⟩)] w (Did B T E w (buildF (mk 21 [] 0 (pk E s.L).a) [wordF E [98,114,101,97,107],wordF E [59]] s)):=by
 obtain ⟨r,hrr⟩:=exE (buildF (mk 21 [] 0 (pk E s.L).a) [wordF E [98,114,101,97,107],wordF E [59]] s)
 rw [← hrr] at hr ⊢
 obtain ⟨Q,hQ⟩:=exE (Did B T E w r)
 rw [← hQ]
 have HQ:=Lib.hid hQ
 have HR:=Lib.hid hr
 have hB:=h.lt
 clear hQ hr
 have HP:=Lib.hid h
 have hpk:=peek_any h
 unfold tokV at hpk
 obtain ⟨t,ht'⟩:=exE (pk E s.L)
 obtain ⟨x,hxx⟩:=exE (bstr t.t)
 rw [← ht',← hxx] at hpk
 rw [← ht'] at ht
 (try rw [← ht'] at hrr)
 have q0:=txt_no (l:=[123]) hxx (by rw [ht];decide)
 have q1:=txt_no (l:=[105,110,116]) hxx (by rw [ht];decide)
 have q2:=txt_no (l:=[105,102]) hxx (by rw [ht];decide)
 have q3:=txt_no (l:=[119,104,105,108,101]) hxx (by rw [ht];decide)
 have q4:=txt_no (l:=[100,111]) hxx (by rw [ht];decide)
 have q5:=txt_no (l:=[102,111,114]) hxx (by rw [ht];decide)
 have q6:=txt_no (l:=[115,119,105,116,99,104]) hxx (by rw [ht];decide)
 have q7:=txt_yes (l:=[98,114,101,97,107]) hxx ht
 have Hrr:Hid (r=_):=hrr
 clear ht ht' hxx hrr h
 go_enter Tryz.func233,Tryz.ntmps233
 go_wp2_with (go_at_call 59;refine hpk.mono ?_;rintro e w1 ⟨rfl,hb⟩)
 have hp1:=HP.out.below hb
 have hx1:=Ext.below hb hB
 have HNd:=Lib.hid (node_far (t:=82) (cs:=#[.int .i64 t.k,.string x,.int .i64 t.v,.int .i64 t.a]) hp1)
 have HX6:=Lib.hid (hx1.alloc hB (.cells #[.int .i64 t.k,.string x,.int .i64 t.v,.int .i64 t.a] 82))
 have HP6:=Lib.hid (hp1.alloc (.cells #[.int .i64 t.k,.string x,.int .i64 t.v,.int .i64 t.a] 82))
 clear hb hp1 hx1 hpk HP
 generalize w1.alloc (.cells #[.int .i64 t.k,.string x,.int .i64 t.v,.int .i64 t.a] 82)=W6 at *
 generalize w1.heap.size=g at *
 have HX0:Hid (Ext B w W6.drew):=HX6.out.drew
 have N0:Hid (Now B T E s W6.drew W6.drew):=Now.refl HP6.out.drew
 have S1:Hid (∀ W,Ext B W6.drew W→W.cell? ⟨g,3,none⟩=some (.int .i64 t.a)):=fun W hW=>(tok_box (HNd.out W ((Ext.refl B W6).drew.trans hW))).2.2.2
 have S0:=Lib.hid (S1.out _ (Ext.refl _ _))
 clear HNd HX6 HP6
 go_wp2
 have HW0:Hid (∀ W,Now B T E s W6.drew W→Calls Tryz.prog 61 #[.pointer (some ⟨B,0,none⟩),.string ⟨#[98,114,101,97,107]⟩] W fun e w'=>∃ g1 g2,e=.returned (.func (.func 110) #[] #[.pointer (some ⟨g1,0,none⟩),.pointer (some ⟨g2,0,none⟩)])∧Now B T E s W6.drew w'∧Ext B W w'∧StepV B T E w' (.func (.func 110) #[] #[.pointer (some ⟨g1,0,none⟩),.pointer (some ⟨g2,0,none⟩)]) (wordF E [98,114,101,97,107])):=fun W hW=>word_now hW ⟨#[98,114,101,97,107]⟩
 have HW1:Hid (∀ W,Now B T E s W6.drew W→Calls Tryz.prog 61 #[.pointer (some ⟨B,0,none⟩),.string ⟨#[59]⟩] W fun e w'=>∃ g1 g2,e=.returned (.func (.func 110) #[] #[.pointer (some ⟨g1,0,none⟩),.pointer (some ⟨g2,0,none⟩)])∧Now B T E s W6.drew w'∧Ext B W w'∧StepV B T E w' (.func (.func 110) #[] #[.pointer (some ⟨g1,0,none⟩),.pointer (some ⟨g2,0,none⟩)]) (wordF E [59])):=fun W hW=>word_now hW ⟨#[59]⟩
 have HN:Hid (∀ W v0 v1,Now B T E s W6.drew W→StepV B T E W v0 (wordF E [98,114,101,97,107])→StepV B T E W v1 (wordF E [59])→Calls Tryz.prog 76 #[.pointer (some ⟨B,2,none⟩),.agg #[.int .i64 21,.string ⟨#[]⟩,.int .i64 0,.int .i64 0,.slice none 0 0,.int .i64 t.a],.slice (some ⟨W.heap.size,0,none⟩) 2 2] (W.alloc (.cells #[v0,v1] 57)) (Ends B T E W6.drew r)):=fun W v0 v1 hW h0 h1=>by
   have h:=build_now hW [v0,v1] [wordF E [98,114,101,97,107],wordF E [59]] rfl (by simp) (step2 (h0) (h1)) (mk 21 [] 0 t.a) rfl (by rw [← Hrr.out];exact HR.out) 57
   rw [← Hrr.out] at h
   exact h
 go_region_held3 (fun W=>W.cell? ⟨g,3,none⟩=some (.int .i64 t.a))
  (first | exact S0.out | exact S1.out _ hn0.1 | exact S1.out _ hn1.1 | exact S1.out _ (hn1.alloc _).1 | exact S1.out _ hx9)
  (first | (go_at_call 61;first | ((with_reducible refine (HW0.out _ N0.out).mono ?_);rintro e w0_ ⟨q00,q01,rfl,hn0,hx0,hs0⟩) | ((with_reducible refine (HW1.out _ hn0).mono ?_);rintro e w1_ ⟨q10,q11,rfl,hn1,hx1,hs1⟩)) | (go_at_call 76;refine (HN.out _ _ _ hn1 (StepV.ext hs0 hx1) hs1).mono ?_;rintro e w9 ⟨v,rfl,hd,hx9⟩))
 all_goals
  have HD:=Lib.hid (did_ext hd HX0.out)
  clear hd hx9
  go_wp2
  (try go_ret)
  rw [HQ.out]
  exact HD.out
theorem act_continue {B T E:Nat}{w:World}{s:S3}(h:Ps B T E w s) (ht:(pk E s.L).t=[99,111,110,116,105,110,117,101]) (hr:buildF (mk 22 [] 0 (pk E s.L).a) [wordF E [99,111,110,116,105,110,117,101],wordF E [59]] s≠.out):Calls Tryz.prog 233 #[.pointer (some ⟨B,0,none⟩)] w (Did B T E w (buildF (mk 22 [] 0 (pk E s.L).a) [wordF E [99,111,110,116,105,110,117,101],wordF E [59]] s)):=by
 obtain ⟨r,hrr⟩:=exE (buildF (mk 22 [] 0 (pk E s.L).a) [wordF E [99,111,110,116,105,110,117,101],wordF E [59]] s)
 rw [← hrr] at hr ⊢
 obtain ⟨Q,hQ⟩:=exE (Did B T E w r)
 rw [← hQ]
 have HQ:=Lib.hid hQ
 have HR:=Lib.hid hr
 have hB:=h.lt
 clear hQ hr
 have HP:=Lib.hid h
 have hpk:=peek_any h
 unfold tokV at hpk
 obtain ⟨t,ht'⟩:=exE (pk E s.L)
 obtain ⟨x,hxx⟩:=exE (bstr t.t)
 rw [← ht',← hxx] at hpk
 rw [← ht'] at ht
 (try rw [← ht'] at hrr)
 have q0:=txt_no (l:=[123]) hxx (by rw [ht];decide)
 have q1:=txt_no (l:=[105,110,116]) hxx (by rw [ht];decide)
 have q2:=txt_no (l:=[105,102]) hxx (by rw [ht];decide)
 have q3:=txt_no (l:=[119,104,105,108,101]) hxx (by rw [ht];decide)
 have q4:=txt_no (l:=[100,111]) hxx (by rw [ht];decide)
 have q5:=txt_no (l:=[102,111,114]) hxx (by rw [ht];decide)
 have q6:=txt_no (l:=[115,119,105,116,99,104]) hxx (by rw [ht];decide)
 have q7:=txt_no (l:=[98,114,101,97,107]) hxx (by rw [ht];decide)
 have q8:=txt_yes (l:=[99,111,110,116,105,110,117,101]) hxx ht
 have Hrr:Hid (r=_):=hrr
 clear ht ht' hxx hrr h
 go_enter Tryz.func233,Tryz.ntmps233
 go_wp2_with (go_at_call 59;refine hpk.mono ?_;rintro e w1 ⟨rfl,hb⟩)
 have hp1:=HP.out.below hb
 have hx1:=Ext.below hb hB
 have HNd:=Lib.hid (node_far (t:=82) (cs:=#[.int .i64 t.k,.string x,.int .i64 t.v,.int .i64 t.a]) hp1)
 have HX6:=Lib.hid (hx1.alloc hB (.cells #[.int .i64 t.k,.string x,.int .i64 t.v,.int .i64 t.a] 82))
 have HP6:=Lib.hid (hp1.alloc (.cells #[.int .i64 t.k,.string x,.int .i64 t.v,.int .i64 t.a] 82))
 clear hb hp1 hx1 hpk HP
 generalize w1.alloc (.cells #[.int .i64 t.k,.string x,.int .i64 t.v,.int .i64 t.a] 82)=W6 at *
 generalize w1.heap.size=g at *
 have HX0:Hid (Ext B w W6.drew):=HX6.out.drew
 have N0:Hid (Now B T E s W6.drew W6.drew):=Now.refl HP6.out.drew
 have S1:Hid (∀ W,Ext B W6.drew W→W.cell? ⟨g,3,none⟩=some (.int .i64 t.a)):=fun W hW=>(tok_box (HNd.out W ((Ext.refl B W6).drew.trans hW))).2.2.2
 have S0:=Lib.hid (S1.out _ (Ext.refl _ _))
 clear HNd HX6 HP6
 go_wp2
 have HW0:Hid (∀ W,Now B T E s W6.drew W→Calls Tryz.prog 61 #[.pointer (some ⟨B,0,none⟩),.string ⟨#[99,111,110,116,105,110,117,101]⟩] W fun e w'=>∃ g1 g2,e=.returned (.func (.func 110) #[] #[.pointer (some ⟨g1,0,none⟩),.pointer (some ⟨g2,0,none⟩)])∧Now B T E s W6.drew w'∧Ext B W w'∧StepV B T E w' (.func (.func 110) #[] #[.pointer (some ⟨g1,0,none⟩),.pointer (some ⟨g2,0,none⟩)]) (wordF E [99,111,110,116,105,110,117,101])):=fun W hW=>word_now hW ⟨#[99,111,110,116,105,110,117,101]⟩
 have HW1:Hid (∀ W,Now B T E s W6.drew W→Calls Tryz.prog 61 #[.pointer (some ⟨B,0,none⟩),.string ⟨#[59]⟩] W fun e w'=>∃ g1 g2,e=.returned (.func (.func 110) #[] #[.pointer (some ⟨g1,0,none⟩),.pointer (some ⟨g2,0,none⟩)])∧Now B T E s W6.drew w'∧Ext B W w'∧StepV B T E w' (.func (.func 110) #[] #[.pointer (some ⟨g1,0,none⟩),.pointer (some ⟨g2,0,none⟩)]) (wordF E [59])):=fun W hW=>word_now hW ⟨#[59]⟩
 have HN:Hid (∀ W v0 v1,Now B T E s W6.drew W→StepV B T E W v0 (wordF E [99,111,110,116,105,110,117,101])→StepV B T E W v1 (wordF E [59])→Calls Tryz.prog 76 #[.pointer (some ⟨B,2,none⟩),.agg #[.int .i64 22,.string ⟨#[]⟩,.int .i64 0,.int .i64 0,.slice none 0 0,.int .i64 t.a],.slice (some ⟨W.heap.size,0,none⟩) 2 2] (W.alloc (.cells #[v0,v1] 57)) (Ends B T E W6.drew r)):=fun W v0 v1 hW h0 h1=>by
   have h:=build_now hW [v0,v1] [wordF E [99,111,110,116,105,110,117,101],wordF E [59]] rfl (by simp) (step2 (h0) (h1)) (mk 22 [] 0 t.a) rfl (by rw [← Hrr.out];exact HR.out) 57
   rw [← Hrr.out] at h
   exact h
 go_region_held3 (fun W=>W.cell? ⟨g,3,none⟩=some (.int .i64 t.a))
  (first | exact S0.out | exact S1.out _ hn0.1 | exact S1.out _ hn1.1 | exact S1.out _ (hn1.alloc _).1 | exact S1.out _ hx9)
  (first | (go_at_call 61;first | ((with_reducible refine (HW0.out _ N0.out).mono ?_);rintro e w0_ ⟨q00,q01,rfl,hn0,hx0,hs0⟩) | ((with_reducible refine (HW1.out _ hn0).mono ?_);rintro e w1_ ⟨q10,q11,rfl,hn1,hx1,hs1⟩)) | (go_at_call 76;refine (HN.out _ _ _ hn1 (StepV.ext hs0 hx1) hs1).mono ?_;rintro e w9 ⟨v,rfl,hd,hx9⟩))
 all_goals
  have HD:=Lib.hid (did_ext hd HX0.out)
  clear hd hx9
  go_wp2
  (try go_ret)
  rw [HQ.out]
  exact HD.out
theorem act_return {B T E:Nat}{ex:F3}(hto:FnC B T E 245 (toldF E ex)) {w:World}{s:S3}(h:Ps B T E w s) (ht:(pk E s.L).t=[114,101,116,117,114,110]) (hr:buildF (mk 23 [] 0 (pk E s.L).a) [wordF E [114,101,116,117,114,110],toldF E ex,wordF E [59]] s≠.out):Calls Tryz.prog 233 #[.pointer (some ⟨B,0,none⟩)] w (Did B T E w (buildF (mk 23 [] 0 (pk E s.L).a) [wordF E [114,101,116,117,114,110],toldF E ex,wordF E [59]] s)):=by
 obtain ⟨r,hrr⟩:=exE (buildF (mk 23 [] 0 (pk E s.L).a) [wordF E [114,101,116,117,114,110],toldF E ex,wordF E [59]] s)
 rw [← hrr] at hr ⊢
 obtain ⟨Q,hQ⟩:=exE (Did B T E w r)
 rw [← hQ]
 have HQ:=Lib.hid hQ
 have HR:=Lib.hid hr
 have hB:=h.lt
 clear hQ hr
 have HP:=Lib.hid h
 have hpk:=peek_any h
 unfold tokV at hpk
 obtain ⟨t,ht'⟩:=exE (pk E s.L)
 obtain ⟨x,hxx⟩:=exE (bstr t.t)
 rw [← ht',← hxx] at hpk
 rw [← ht'] at ht
 (try rw [← ht'] at hrr)
 have q0:=txt_no (l:=[123]) hxx (by rw [ht];decide)
 have q1:=txt_no (l:=[105,110,116]) hxx (by rw [ht];decide)
 have q2:=txt_no (l:=[105,102]) hxx (by rw [ht];decide)
 have q3:=txt_no (l:=[119,104,105,108,101]) hxx (by rw [ht];decide)
 have q4:=txt_no (l:=[100,111]) hxx (by rw [ht];decide)
 have q5:=txt_no (l:=[102,111,114]) hxx (by rw [ht];decide)
 have q6:=txt_no (l:=[115,119,105,116,99,104]) hxx (by rw [ht];decide)
 have q7:=txt_no (l:=[98,114,101,97,107]) hxx (by rw [ht];decide)
 have q8:=txt_no (l:=[99,111,110,116,105,110,117,101]) hxx (by rw [ht];decide)
 have q9:=txt_yes (l:=[114,101,116,117,114,110]) hxx ht
 have Hrr:Hid (r=_):=hrr
 clear ht ht' hxx hrr h
 go_enter Tryz.func233,Tryz.ntmps233
 go_wp2_with (go_at_call 59;refine hpk.mono ?_;rintro e w1 ⟨rfl,hb⟩)
 have hp1:=HP.out.below hb
 have hx1:=Ext.below hb hB
 have HNd:=Lib.hid (node_far (t:=82) (cs:=#[.int .i64 t.k,.string x,.int .i64 t.v,.int .i64 t.a]) hp1)
 have HX6:=Lib.hid (hx1.alloc hB (.cells #[.int .i64 t.k,.string x,.int .i64 t.v,.int .i64 t.a] 82))
 have HP6:=Lib.hid (hp1.alloc (.cells #[.int .i64 t.k,.string x,.int .i64 t.v,.int .i64 t.a] 82))
 clear hb hp1 hx1 hpk HP
 generalize w1.alloc (.cells #[.int .i64 t.k,.string x,.int .i64 t.v,.int .i64 t.a] 82)=W6 at *
 generalize w1.heap.size=g at *
 have HX0:Hid (Ext B w W6.drew):=HX6.out.drew
 have N0:Hid (Now B T E s W6.drew W6.drew):=Now.refl HP6.out.drew
 have S1:Hid (∀ W,Ext B W6.drew W→W.cell? ⟨g,3,none⟩=some (.int .i64 t.a)):=fun W hW=>(tok_box (HNd.out W ((Ext.refl B W6).drew.trans hW))).2.2.2
 have S0:=Lib.hid (S1.out _ (Ext.refl _ _))
 clear HNd HX6 HP6
 go_wp2
 have HW0:Hid (∀ W,Now B T E s W6.drew W→Calls Tryz.prog 61 #[.pointer (some ⟨B,0,none⟩),.string ⟨#[114,101,116,117,114,110]⟩] W fun e w'=>∃ g1 g2,e=.returned (.func (.func 110) #[] #[.pointer (some ⟨g1,0,none⟩),.pointer (some ⟨g2,0,none⟩)])∧Now B T E s W6.drew w'∧Ext B W w'∧StepV B T E w' (.func (.func 110) #[] #[.pointer (some ⟨g1,0,none⟩),.pointer (some ⟨g2,0,none⟩)]) (wordF E [114,101,116,117,114,110])):=fun W hW=>word_now hW ⟨#[114,101,116,117,114,110]⟩
 have HW1:Hid (∀ W,Now B T E s W6.drew W→Calls Tryz.prog 61 #[.pointer (some ⟨B,0,none⟩),.string ⟨#[59]⟩] W fun e w'=>∃ g1 g2,e=.returned (.func (.func 110) #[] #[.pointer (some ⟨g1,0,none⟩),.pointer (some ⟨g2,0,none⟩)])∧Now B T E s W6.drew w'∧Ext B W w'∧StepV B T E w' (.func (.func 110) #[] #[.pointer (some ⟨g1,0,none⟩),.pointer (some ⟨g2,0,none⟩)]) (wordF E [59])):=fun W hW=>word_now hW ⟨#[59]⟩
 have HN:Hid (∀ W v0 v2,Now B T E s W6.drew W→StepV B T E W v0 (wordF E [114,101,116,117,114,110])→StepV B T E W v2 (wordF E [59])→Calls Tryz.prog 76 #[.pointer (some ⟨B,2,none⟩),.agg #[.int .i64 23,.string ⟨#[]⟩,.int .i64 0,.int .i64 0,.slice none 0 0,.int .i64 t.a],.slice (some ⟨W.heap.size,0,none⟩) 3 3] (W.alloc (.cells #[v0,.func (.func 245) #[.pointer (some ⟨B,0,none⟩)] #[],v2] 57)) (Ends B T E W6.drew r)):=fun W v0 v2 hW h0 h2=>by
   have h:=build_now hW [v0,.func (.func 245) #[.pointer (some ⟨B,0,none⟩)] #[],v2] [wordF E [114,101,116,117,114,110],toldF E ex,wordF E [59]] rfl (by simp) (step3 (h0) (stepFn hto ent176 W) (h2)) (mk 23 [] 0 t.a) rfl (by rw [← Hrr.out];exact HR.out) 57
   rw [← Hrr.out] at h
   exact h
 go_region_held3 (fun W=>W.cell? ⟨g,3,none⟩=some (.int .i64 t.a))
  (first | exact S0.out | exact S1.out _ hn0.1 | exact S1.out _ hn1.1 | exact S1.out _ (hn1.alloc _).1 | exact S1.out _ hx9)
  (first | (go_at_call 61;first | ((with_reducible refine (HW0.out _ N0.out).mono ?_);rintro e w0_ ⟨q00,q01,rfl,hn0,hx0,hs0⟩) | ((with_reducible refine (HW1.out _ hn0).mono ?_);rintro e w1_ ⟨q10,q11,rfl,hn1,hx1,hs1⟩)) | (go_at_call 76;refine (HN.out _ _ _ hn1 (StepV.ext hs0 hx1) hs1).mono ?_;rintro e w9 ⟨v,rfl,hd,hx9⟩))
 all_goals
  have HD:=Lib.hid (did_ext hd HX0.out)
  clear hd hx9
  go_wp2
  (try go_ret)
  rw [HQ.out]
  exact HD.out
theorem act_semi {B T E:Nat}(hnn:FnC B T E 246 (nothingF E)) {w:World}{s:S3}(h:Ps B T E w s) (ht:(pk E s.L).t=[59]) (hr:seqF [nothingF E,wordF E [59]] s≠.out):Calls Tryz.prog 233 #[.pointer (some ⟨B,0,none⟩)] w (Did B T E w (seqF [nothingF E,wordF E [59]] s)):=by
 obtain ⟨r,hrr⟩:=exE (seqF [nothingF E,wordF E [59]] s)
 rw [← hrr] at hr ⊢
 obtain ⟨Q,hQ⟩:=exE (Did B T E w r)
 rw [← hQ]
 have HQ:=Lib.hid hQ
 have HR:=Lib.hid hr
 have hB:=h.lt
 clear hQ hr
 have HP:=Lib.hid h
 have hpk:=peek_any h
 unfold tokV at hpk
 obtain ⟨t,ht'⟩:=exE (pk E s.L)
 obtain ⟨x,hxx⟩:=exE (bstr t.t)
 rw [← ht',← hxx] at hpk
 rw [← ht'] at ht
 (try rw [← ht'] at hrr)
 have q0:=txt_no (l:=[123]) hxx (by rw [ht];decide)
 have q1:=txt_no (l:=[105,110,116]) hxx (by rw [ht];decide)
 have q2:=txt_no (l:=[105,102]) hxx (by rw [ht];decide)
 have q3:=txt_no (l:=[119,104,105,108,101]) hxx (by rw [ht];decide)
 have q4:=txt_no (l:=[100,111]) hxx (by rw [ht];decide)
 have q5:=txt_no (l:=[102,111,114]) hxx (by rw [ht];decide)
 have q6:=txt_no (l:=[115,119,105,116,99,104]) hxx (by rw [ht];decide)
 have q7:=txt_no (l:=[98,114,101,97,107]) hxx (by rw [ht];decide)
 have q8:=txt_no (l:=[99,111,110,116,105,110,117,101]) hxx (by rw [ht];decide)
 have q9:=txt_no (l:=[114,101,116,117,114,110]) hxx (by rw [ht];decide)
 have q10:=txt_yes (l:=[59]) hxx ht
 have Hrr:Hid (r=_):=hrr
 clear ht ht' hxx hrr h
 go_enter Tryz.func233,Tryz.ntmps233
 go_wp2_with (go_at_call 59;refine hpk.mono ?_;rintro e w1 ⟨rfl,hb⟩)
 have hp1:=HP.out.below hb
 have hx1:=Ext.below hb hB
 have HNd:=Lib.hid (node_far (t:=82) (cs:=#[.int .i64 t.k,.string x,.int .i64 t.v,.int .i64 t.a]) hp1)
 have HX6:=Lib.hid (hx1.alloc hB (.cells #[.int .i64 t.k,.string x,.int .i64 t.v,.int .i64 t.a] 82))
 have HP6:=Lib.hid (hp1.alloc (.cells #[.int .i64 t.k,.string x,.int .i64 t.v,.int .i64 t.a] 82))
 clear hb hp1 hx1 hpk HP
 generalize w1.alloc (.cells #[.int .i64 t.k,.string x,.int .i64 t.v,.int .i64 t.a] 82)=W6 at *
 generalize w1.heap.size=g at *
 have N0:Hid (Now B T E s W6 W6):=Now.refl HP6.out
 clear HNd HP6
 have HW0:Hid (∀ W,Now B T E s W6 W→Calls Tryz.prog 61 #[.pointer (some ⟨B,0,none⟩),.string ⟨#[59]⟩] W fun e w'=>∃ g1 g2,e=.returned (.func (.func 110) #[] #[.pointer (some ⟨g1,0,none⟩),.pointer (some ⟨g2,0,none⟩)])∧Now B T E s W6 w'∧Ext B W w'∧StepV B T E w' (.func (.func 110) #[] #[.pointer (some ⟨g1,0,none⟩),.pointer (some ⟨g2,0,none⟩)]) (wordF E [59])):=fun W hW=>word_now hW ⟨#[59]⟩
 have HN:Hid (∀ W v1,Now B T E s W6 W→StepV B T E W v1 (wordF E [59])→Calls Tryz.prog 27 #[.slice (some ⟨W.heap.size,0,none⟩) 2 2] (W.alloc (.cells #[.func (.func 246) #[.pointer (some ⟨B,0,none⟩)] #[],v1] 57)) (Ends B T E W6 r)):=fun W v1 hW h1=>by
   have h:=turn_now hW [.func (.func 246) #[.pointer (some ⟨B,0,none⟩)] #[],v1] [nothingF E,wordF E [59]] rfl (by simp) (step2 (stepFn hnn ent177 W) (h1)) (by rw [← Hrr.out];exact HR.out) 57
   rw [← Hrr.out] at h
   exact h
 go_wp2_with (first | (go_at_call 61;first | ((with_reducible refine (HW0.out _ N0.out).mono ?_);rintro e w0_ ⟨q00,q01,rfl,hn0,hx0,hs0⟩)) | (go_at_call 27;refine (HN.out _ _ hn0 hs0).mono ?_;rintro e w9 ⟨v,rfl,hd,hx9⟩))
 all_goals
  have HD:=Lib.hid (did_ext hd HX6.out)
  clear hd hx9
  go_wp2
  (try go_ret)
  rw [HQ.out]
  exact HD.out
theorem act_effect {B T E:Nat}{ex:F3}(hef:FnC B T E 247 (effectF E ex)) {w:World}{s:S3}(h:Ps B T E w s) (hno:∀ l,l ∈ [[123],[105,110,116],[105,102],[119,104,105,108,101],[100,111],[102,111,114],[115,119,105,116,99,104],[98,114,101,97,107],[99,111,110,116,105,110,117,101],[114,101,116,117,114,110],[59]]→(pk E s.L).t≠l) (hr:seqF [effectF E ex,wordF E [59]] s≠.out):Calls Tryz.prog 233 #[.pointer (some ⟨B,0,none⟩)] w (Did B T E w (seqF [effectF E ex,wordF E [59]] s)):=by
 obtain ⟨r,hrr⟩:=exE (seqF [effectF E ex,wordF E [59]] s)
 rw [← hrr] at hr ⊢
 obtain ⟨Q,hQ⟩:=exE (Did B T E w r)
 rw [← hQ]
 have HQ:=Lib.hid hQ
 have HR:=Lib.hid hr
 have hB:=h.lt
 clear hQ hr
 have HP:=Lib.hid h
 have hpk:=peek_any h
 unfold tokV at hpk
 obtain ⟨t,ht'⟩:=exE (pk E s.L)
 obtain ⟨x,hxx⟩:=exE (bstr t.t)
 rw [← ht',← hxx] at hpk
 rw [← ht'] at hno
 (try rw [← ht'] at hrr)
 have q0:=txt_no (l:=[123]) hxx (hno _ (by simp))
 have q1:=txt_no (l:=[105,110,116]) hxx (hno _ (by simp))
 have q2:=txt_no (l:=[105,102]) hxx (hno _ (by simp))
 have q3:=txt_no (l:=[119,104,105,108,101]) hxx (hno _ (by simp))
 have q4:=txt_no (l:=[100,111]) hxx (hno _ (by simp))
 have q5:=txt_no (l:=[102,111,114]) hxx (hno _ (by simp))
 have q6:=txt_no (l:=[115,119,105,116,99,104]) hxx (hno _ (by simp))
 have q7:=txt_no (l:=[98,114,101,97,107]) hxx (hno _ (by simp))
 have q8:=txt_no (l:=[99,111,110,116,105,110,117,101]) hxx (hno _ (by simp))
 have q9:=txt_no (l:=[114,101,116,117,114,110]) hxx (hno _ (by simp))
 have q10:=txt_no (l:=[59]) hxx (hno _ (by simp))
 have Hrr:Hid (r=_):=hrr
 clear hno ht' hxx hrr h
 go_enter Tryz.func233,Tryz.ntmps233
 go_wp2_with (go_at_call 59;refine hpk.mono ?_;rintro e w1 ⟨rfl,hb⟩)
 have hp1:=HP.out.below hb
 have hx1:=Ext.below hb hB
 have HNd:=Lib.hid (node_far (t:=82) (cs:=#[.int .i64 t.k,.string x,.int .i64 t.v,.int .i64 t.a]) hp1)
 have HX6:=Lib.hid (hx1.alloc hB (.cells #[.int .i64 t.k,.string x,.int .i64 t.v,.int .i64 t.a] 82))
 have HP6:=Lib.hid (hp1.alloc (.cells #[.int .i64 t.k,.string x,.int .i64 t.v,.int .i64 t.a] 82))
 clear hb hp1 hx1 hpk HP
 generalize w1.alloc (.cells #[.int .i64 t.k,.string x,.int .i64 t.v,.int .i64 t.a] 82)=W6 at *
 generalize w1.heap.size=g at *
 have N0:Hid (Now B T E s W6 W6):=Now.refl HP6.out
 clear HNd HP6
 have HW0:Hid (∀ W,Now B T E s W6 W→Calls Tryz.prog 61 #[.pointer (some ⟨B,0,none⟩),.string ⟨#[59]⟩] W fun e w'=>∃ g1 g2,e=.returned (.func (.func 110) #[] #[.pointer (some ⟨g1,0,none⟩),.pointer (some ⟨g2,0,none⟩)])∧Now B T E s W6 w'∧Ext B W w'∧StepV B T E w' (.func (.func 110) #[] #[.pointer (some ⟨g1,0,none⟩),.pointer (some ⟨g2,0,none⟩)]) (wordF E [59])):=fun W hW=>word_now hW ⟨#[59]⟩
 have HN:Hid (∀ W v1,Now B T E s W6 W→StepV B T E W v1 (wordF E [59])→Calls Tryz.prog 27 #[.slice (some ⟨W.heap.size,0,none⟩) 2 2] (W.alloc (.cells #[.func (.func 247) #[.pointer (some ⟨B,0,none⟩)] #[],v1] 57)) (Ends B T E W6 r)):=fun W v1 hW h1=>by
   have h:=turn_now hW [.func (.func 247) #[.pointer (some ⟨B,0,none⟩)] #[],v1] [effectF E ex,wordF E [59]] rfl (by simp) (step2 (stepFn hef ent178 W) (h1)) (by rw [← Hrr.out];exact HR.out) 57
   rw [← Hrr.out] at h
   exact h
 go_wp2_with (first | (go_at_call 61;first | ((with_reducible refine (HW0.out _ N0.out).mono ?_);rintro e w0_ ⟨q00,q01,rfl,hn0,hx0,hs0⟩)) | (go_at_call 27;refine (HN.out _ _ hn0 hs0).mono ?_;rintro e w9 ⟨v,rfl,hd,hx9⟩))
 all_goals
  have HD:=Lib.hid (did_ext hd HX6.out)
  clear hd hx9
  go_wp2
  (try go_ret)
  rw [HQ.out]
  exact HD.out
theorem action_fn {B T E:Nat}{bl co ex:F3}(hbl:FnC B T E 206 bl) (hco:FnC B T E 244 co) (hlo:FnC B T E 243 (localF E ex)) (hto:FnC B T E 245 (toldF E ex)) (hnn:FnC B T E 246 (nothingF E)) (hef:FnC B T E 247 (effectF E ex)):FnC B T E 233 (actF E bl co ex):=fun w s h hr=>by
 unfold actF at hr ⊢
 by_cases h1:(pk E s.L).t=[123]
 ·rw [if_pos h1] at hr ⊢;exact act_block hbl h h1 hr
 rw [if_neg h1] at hr ⊢
 by_cases h2:(pk E s.L).t=[105,110,116]
 ·rw [if_pos h2] at hr ⊢;exact act_local hlo h h2 hr
 rw [if_neg h2] at hr ⊢
 by_cases h3:(pk E s.L).t=[105,102]∨(pk E s.L).t=[119,104,105,108,101]∨(pk E s.L).t=[100,111]∨(pk E s.L).t=[102,111,114]∨(pk E s.L).t=[115,119,105,116,99,104]
 ·rw [if_pos h3] at hr ⊢
  rcases h3 with h3 | h3 | h3 | h3 | h3
  ·exact act_if hco h h3 hr
  ·exact act_while hco h h3 hr
  ·exact act_do hco h h3 hr
  ·exact act_for hco h h3 hr
  ·exact act_switch hco h h3 hr
 rw [if_neg h3] at hr ⊢
 by_cases h4:(pk E s.L).t=[98,114,101,97,107]
 ·rw [if_pos h4] at hr ⊢;exact act_break h h4 hr
 rw [if_neg h4] at hr ⊢
 by_cases h5:(pk E s.L).t=[99,111,110,116,105,110,117,101]
 ·rw [if_pos h5] at hr ⊢;exact act_continue h h5 hr
 rw [if_neg h5] at hr ⊢
 by_cases h6:(pk E s.L).t=[114,101,116,117,114,110]
 ·rw [if_pos h6] at hr ⊢;exact act_return hto h h6 hr
 rw [if_neg h6] at hr ⊢
 by_cases h7:(pk E s.L).t=[59]
 ·rw [if_pos h7] at hr ⊢;exact act_semi hnn h h7 hr
 rw [if_neg h7] at hr ⊢
 refine act_effect hef h ?_ hr
 intro l hl e
 rw [e] at h1 h2 h3 h4 h5 h6 h7
 simp only [List.mem_cons,List.not_mem_nil,or_false] at hl
 rcases hl with hl | hl | hl | hl | hl | hl | hl | hl | hl | hl | hl <;> subst hl <;> simp_all
end
section
open Go.RowKit
open Tk (T4 bstr)
open Tr (Nd Blk KidsAt)
def swF (E:Nat) (ac ex:F3):F3:=fun s =>
 if (pk E s.L).t=[99,97,115,101] then buildF (mk 19 [] 0 (pk E s.L).a) [wordF E [99,97,115,101],ex,wordF E [58]] s
 else if (pk E s.L).t=[100,101,102,97,117,108,116] then buildF (mk 20 [] 0 (pk E s.L).a) [wordF E [100,101,102,97,117,108,116],wordF E [58]] s
 else ac s
theorem sw_case {B T E:Nat}{ex:F3}(hex:FnC B T E 29 ex) {w:World}{s:S3}(h:Ps B T E w s) (ht:(pk E s.L).t=[99,97,115,101]) (hr:buildF (mk 19 [] 0 (pk E s.L).a) [wordF E [99,97,115,101],ex,wordF E [58]] s≠.out):Calls Tryz.prog 266 #[.pointer (some ⟨B,0,none⟩)] w (Did B T E w (buildF (mk 19 [] 0 (pk E s.L).a) [wordF E [99,97,115,101],ex,wordF E [58]] s)):=by
 obtain ⟨r,hrr⟩:=exE (buildF (mk 19 [] 0 (pk E s.L).a) [wordF E [99,97,115,101],ex,wordF E [58]] s)
 rw [← hrr] at hr ⊢
 obtain ⟨Q,hQ⟩:=exE (Did B T E w r)
 rw [← hQ]
 have HQ:=Lib.hid hQ
 have HR:=Lib.hid hr
 have hB:=h.lt
 clear hQ hr
 have HP:=Lib.hid h
 have hpk:=peek_any h
 unfold tokV at hpk
 obtain ⟨t,ht'⟩:=exE (pk E s.L)
 obtain ⟨x,hxx⟩:=exE (bstr t.t)
 rw [← ht',← hxx] at hpk
 rw [← ht'] at ht
 (try rw [← ht'] at hrr)
 have q0:=txt_yes (l:=[99,97,115,101]) hxx ht
 have Hrr:Hid (r=_):=hrr
 clear ht ht' hxx hrr h
 go_enter Tryz.func266,Tryz.ntmps266
 go_wp2_with (go_at_call 59;refine hpk.mono ?_;rintro e w1 ⟨rfl,hb⟩)
 have hp1:=HP.out.below hb
 have hx1:=Ext.below hb hB
 have HNd:=Lib.hid (node_far (t:=82) (cs:=#[.int .i64 t.k,.string x,.int .i64 t.v,.int .i64 t.a]) hp1)
 have HX6:=Lib.hid (hx1.alloc hB (.cells #[.int .i64 t.k,.string x,.int .i64 t.v,.int .i64 t.a] 82))
 have HP6:=Lib.hid (hp1.alloc (.cells #[.int .i64 t.k,.string x,.int .i64 t.v,.int .i64 t.a] 82))
 clear hb hp1 hx1 hpk HP
 generalize w1.alloc (.cells #[.int .i64 t.k,.string x,.int .i64 t.v,.int .i64 t.a] 82)=W6 at *
 generalize w1.heap.size=g at *
 have HX0:Hid (Ext B w W6.drew):=HX6.out.drew
 have N0:Hid (Now B T E s W6.drew W6.drew):=Now.refl HP6.out.drew
 have S1:Hid (∀ W,Ext B W6.drew W→W.cell? ⟨g,3,none⟩=some (.int .i64 t.a)):=fun W hW=>(tok_box (HNd.out W ((Ext.refl B W6).drew.trans hW))).2.2.2
 have S0:=Lib.hid (S1.out _ (Ext.refl _ _))
 clear HNd HX6 HP6
 go_wp2
 have HW0:Hid (∀ W,Now B T E s W6.drew W→Calls Tryz.prog 61 #[.pointer (some ⟨B,0,none⟩),.string ⟨#[99,97,115,101]⟩] W fun e w'=>∃ g1 g2,e=.returned (.func (.func 110) #[] #[.pointer (some ⟨g1,0,none⟩),.pointer (some ⟨g2,0,none⟩)])∧Now B T E s W6.drew w'∧Ext B W w'∧StepV B T E w' (.func (.func 110) #[] #[.pointer (some ⟨g1,0,none⟩),.pointer (some ⟨g2,0,none⟩)]) (wordF E [99,97,115,101])):=fun W hW=>word_now hW ⟨#[99,97,115,101]⟩
 have HW1:Hid (∀ W,Now B T E s W6.drew W→Calls Tryz.prog 61 #[.pointer (some ⟨B,0,none⟩),.string ⟨#[58]⟩] W fun e w'=>∃ g1 g2,e=.returned (.func (.func 110) #[] #[.pointer (some ⟨g1,0,none⟩),.pointer (some ⟨g2,0,none⟩)])∧Now B T E s W6.drew w'∧Ext B W w'∧StepV B T E w' (.func (.func 110) #[] #[.pointer (some ⟨g1,0,none⟩),.pointer (some ⟨g2,0,none⟩)]) (wordF E [58])):=fun W hW=>word_now hW ⟨#[58]⟩
 have HN:Hid (∀ W v0 v2,Now B T E s W6.drew W→StepV B T E W v0 (wordF E [99,97,115,101])→StepV B T E W v2 (wordF E [58])→Calls Tryz.prog 76 #[.pointer (some ⟨B,2,none⟩),.agg #[.int .i64 19,.string ⟨#[]⟩,.int .i64 0,.int .i64 0,.slice none 0 0,.int .i64 t.a],.slice (some ⟨W.heap.size,0,none⟩) 3 3] (W.alloc (.cells #[v0,.func (.func 29) #[.pointer (some ⟨B,0,none⟩)] #[],v2] 57)) (Ends B T E W6.drew r)):=fun W v0 v2 hW h0 h2=>by
   have h:=build_now hW [v0,.func (.func 29) #[.pointer (some ⟨B,0,none⟩)] #[],v2] [wordF E [99,97,115,101],ex,wordF E [58]] rfl (by simp) (step3 (h0) (stepFn hex ent21 W) (h2)) (mk 19 [] 0 t.a) rfl (by rw [← Hrr.out];exact HR.out) 57
   rw [← Hrr.out] at h
   exact h
 go_region_held3 (fun W=>W.cell? ⟨g,3,none⟩=some (.int .i64 t.a))
  (first | exact S0.out | exact S1.out _ hn0.1 | exact S1.out _ hn1.1 | exact S1.out _ (hn1.alloc _).1 | exact S1.out _ hx9)
  (first | (go_at_call 61;first | ((with_reducible refine (HW0.out _ N0.out).mono ?_);rintro e w0_ ⟨q00,q01,rfl,hn0,hx0,hs0⟩) | ((with_reducible refine (HW1.out _ hn0).mono ?_);rintro e w1_ ⟨q10,q11,rfl,hn1,hx1,hs1⟩)) | (go_at_call 76;refine (HN.out _ _ _ hn1 (StepV.ext hs0 hx1) hs1).mono ?_;rintro e w9 ⟨v,rfl,hd,hx9⟩))
 all_goals
  have HD:=Lib.hid (did_ext hd HX0.out)
  clear hd hx9
  go_wp2
  (try go_ret)
  rw [HQ.out]
  exact HD.out
theorem sw_default {B T E:Nat}{w:World}{s:S3}(h:Ps B T E w s) (ht:(pk E s.L).t=[100,101,102,97,117,108,116]) (hr:buildF (mk 20 [] 0 (pk E s.L).a) [wordF E [100,101,102,97,117,108,116],wordF E [58]] s≠.out):Calls Tryz.prog 266 #[.pointer (some ⟨B,0,none⟩)] w (Did B T E w (buildF (mk 20 [] 0 (pk E s.L).a) [wordF E [100,101,102,97,117,108,116],wordF E [58]] s)):=by
 obtain ⟨r,hrr⟩:=exE (buildF (mk 20 [] 0 (pk E s.L).a) [wordF E [100,101,102,97,117,108,116],wordF E [58]] s)
 rw [← hrr] at hr ⊢
 obtain ⟨Q,hQ⟩:=exE (Did B T E w r)
 rw [← hQ]
 have HQ:=Lib.hid hQ
 have HR:=Lib.hid hr
 have hB:=h.lt
 clear hQ hr
 have HP:=Lib.hid h
 have hpk:=peek_any h
 unfold tokV at hpk
 obtain ⟨t,ht'⟩:=exE (pk E s.L)
 obtain ⟨x,hxx⟩:=exE (bstr t.t)
 rw [← ht',← hxx] at hpk
 rw [← ht'] at ht
 (try rw [← ht'] at hrr)
 have q0:=txt_no (l:=[99,97,115,101]) hxx (by rw [ht];decide)
 have q1:=txt_yes (l:=[100,101,102,97,117,108,116]) hxx ht
 have Hrr:Hid (r=_):=hrr
 clear ht ht' hxx hrr h
 go_enter Tryz.func266,Tryz.ntmps266
 go_wp2_with (go_at_call 59;refine hpk.mono ?_;rintro e w1 ⟨rfl,hb⟩)
 have hp1:=HP.out.below hb
 have hx1:=Ext.below hb hB
 have HNd:=Lib.hid (node_far (t:=82) (cs:=#[.int .i64 t.k,.string x,.int .i64 t.v,.int .i64 t.a]) hp1)
 have HX6:=Lib.hid (hx1.alloc hB (.cells #[.int .i64 t.k,.string x,.int .i64 t.v,.int .i64 t.a] 82))
 have HP6:=Lib.hid (hp1.alloc (.cells #[.int .i64 t.k,.string x,.int .i64 t.v,.int .i64 t.a] 82))
 clear hb hp1 hx1 hpk HP
 generalize w1.alloc (.cells #[.int .i64 t.k,.string x,.int .i64 t.v,.int .i64 t.a] 82)=W6 at *
 generalize w1.heap.size=g at *
 have HX0:Hid (Ext B w W6.drew):=HX6.out.drew
 have N0:Hid (Now B T E s W6.drew W6.drew):=Now.refl HP6.out.drew
 have S1:Hid (∀ W,Ext B W6.drew W→W.cell? ⟨g,3,none⟩=some (.int .i64 t.a)):=fun W hW=>(tok_box (HNd.out W ((Ext.refl B W6).drew.trans hW))).2.2.2
 have S0:=Lib.hid (S1.out _ (Ext.refl _ _))
 clear HNd HX6 HP6
 go_wp2
 have HW0:Hid (∀ W,Now B T E s W6.drew W→Calls Tryz.prog 61 #[.pointer (some ⟨B,0,none⟩),.string ⟨#[100,101,102,97,117,108,116]⟩] W fun e w'=>∃ g1 g2,e=.returned (.func (.func 110) #[] #[.pointer (some ⟨g1,0,none⟩),.pointer (some ⟨g2,0,none⟩)])∧Now B T E s W6.drew w'∧Ext B W w'∧StepV B T E w' (.func (.func 110) #[] #[.pointer (some ⟨g1,0,none⟩),.pointer (some ⟨g2,0,none⟩)]) (wordF E [100,101,102,97,117,108,116])):=fun W hW=>word_now hW ⟨#[100,101,102,97,117,108,116]⟩
 have HW1:Hid (∀ W,Now B T E s W6.drew W→Calls Tryz.prog 61 #[.pointer (some ⟨B,0,none⟩),.string ⟨#[58]⟩] W fun e w'=>∃ g1 g2,e=.returned (.func (.func 110) #[] #[.pointer (some ⟨g1,0,none⟩),.pointer (some ⟨g2,0,none⟩)])∧Now B T E s W6.drew w'∧Ext B W w'∧StepV B T E w' (.func (.func 110) #[] #[.pointer (some ⟨g1,0,none⟩),.pointer (some ⟨g2,0,none⟩)]) (wordF E [58])):=fun W hW=>word_now hW ⟨#[58]⟩
 have HN:Hid (∀ W v0 v1,Now B T E s W6.drew W→StepV B T E W v0 (wordF E [100,101,102,97,117,108,116])→StepV B T E W v1 (wordF E [58])→Calls Tryz.prog 76 #[.pointer (some ⟨B,2,none⟩),.agg #[.int .i64 20,.string ⟨#[]⟩,.int .i64 0,.int .i64 0,.slice none 0 0,.int .i64 t.a],.slice (some ⟨W.heap.size,0,none⟩) 2 2] (W.alloc (.cells #[v0,v1] 57)) (Ends B T E W6.drew r)):=fun W v0 v1 hW h0 h1=>by
   have h:=build_now hW [v0,v1] [wordF E [100,101,102,97,117,108,116],wordF E [58]] rfl (by simp) (step2 (h0) (h1)) (mk 20 [] 0 t.a) rfl (by rw [← Hrr.out];exact HR.out) 57
   rw [← Hrr.out] at h
   exact h
 go_region_held3 (fun W=>W.cell? ⟨g,3,none⟩=some (.int .i64 t.a))
  (first | exact S0.out | exact S1.out _ hn0.1 | exact S1.out _ hn1.1 | exact S1.out _ (hn1.alloc _).1 | exact S1.out _ hx9)
  (first | (go_at_call 61;first | ((with_reducible refine (HW0.out _ N0.out).mono ?_);rintro e w0_ ⟨q00,q01,rfl,hn0,hx0,hs0⟩) | ((with_reducible refine (HW1.out _ hn0).mono ?_);rintro e w1_ ⟨q10,q11,rfl,hn1,hx1,hs1⟩)) | (go_at_call 76;refine (HN.out _ _ _ hn1 (StepV.ext hs0 hx1) hs1).mono ?_;rintro e w9 ⟨v,rfl,hd,hx9⟩))
 all_goals
  have HD:=Lib.hid (did_ext hd HX0.out)
  clear hd hx9
  go_wp2
  (try go_ret)
  rw [HQ.out]
  exact HD.out
theorem sw_action {B T E:Nat}{ac:F3}(hac:FnC B T E 233 ac) {w:World}{s:S3}(h:Ps B T E w s) (hno:∀ l,l ∈ [[99,97,115,101],[100,101,102,97,117,108,116]]→(pk E s.L).t≠l) (hr:ac s≠.out):Calls Tryz.prog 266 #[.pointer (some ⟨B,0,none⟩)] w (Did B T E w (ac s)):=by
 obtain ⟨r,hrr⟩:=exE (ac s)
 rw [← hrr] at hr ⊢
 obtain ⟨Q,hQ⟩:=exE (Did B T E w r)
 rw [← hQ]
 have HQ:=Lib.hid hQ
 have HR:=Lib.hid hr
 have hB:=h.lt
 clear hQ hr
 have HP:=Lib.hid h
 have hpk:=peek_any h
 unfold tokV at hpk
 obtain ⟨t,ht'⟩:=exE (pk E s.L)
 obtain ⟨x,hxx⟩:=exE (bstr t.t)
 rw [← ht',← hxx] at hpk
 rw [← ht'] at hno
 (try rw [← ht'] at hrr)
 have q0:=txt_no (l:=[99,97,115,101]) hxx (hno _ (by simp))
 have q1:=txt_no (l:=[100,101,102,97,117,108,116]) hxx (hno _ (by simp))
 have Hrr:Hid (r=_):=hrr
 clear hno ht' hxx hrr h
 go_enter Tryz.func266,Tryz.ntmps266
 go_wp2_with (go_at_call 59;refine hpk.mono ?_;rintro e w1 ⟨rfl,hb⟩)
 have hp1:=HP.out.below hb
 have hx1:=Ext.below hb hB
 have HNd:=Lib.hid (node_far (t:=82) (cs:=#[.int .i64 t.k,.string x,.int .i64 t.v,.int .i64 t.a]) hp1)
 have HX6:=Lib.hid (hx1.alloc hB (.cells #[.int .i64 t.k,.string x,.int .i64 t.v,.int .i64 t.a] 82))
 have HP6:=Lib.hid (hp1.alloc (.cells #[.int .i64 t.k,.string x,.int .i64 t.v,.int .i64 t.a] 82))
 clear hb hp1 hx1 hpk HP
 generalize w1.alloc (.cells #[.int .i64 t.k,.string x,.int .i64 t.v,.int .i64 t.a] 82)=W6 at *
 generalize w1.heap.size=g at *
 have hcall:=hac W6 s HP6.out (by rw [← Hrr.out];exact HR.out)
 rw [← Hrr.out] at hcall
 clear HNd
 go_wp2_with (go_at_call 233;refine hcall.mono ?_)
 intro e w2 hd
 obtain ⟨v,rfl,hd⟩:=did_ret hd HR.out
 have HD:=Lib.hid (did_ext hd HX6.out)
 clear hd hcall
 go_wp2
 (try go_ret)
 rw [HQ.out]
 exact HD.out
theorem inSwitch_fn {B T E:Nat}{ac ex:F3}(hac:FnC B T E 233 ac) (hex:FnC B T E 29 ex):FnC B T E 266 (swF E ac ex):=fun w s h hr=>by
 unfold swF at hr ⊢
 by_cases h1:(pk E s.L).t=[99,97,115,101]
 ·rw [if_pos h1] at hr ⊢;exact sw_case hex h h1 hr
 rw [if_neg h1] at hr ⊢
 by_cases h2:(pk E s.L).t=[100,101,102,97,117,108,116]
 ·rw [if_pos h2] at hr ⊢;exact sw_default h h2 hr
 rw [if_neg h2] at hr ⊢
 refine sw_action hac h ?_ hr
 intro l hl e
 rw [e] at h1 h2
 simp only [List.mem_cons,List.not_mem_nil,or_false] at hl
 rcases hl with hl | hl <;> subst hl <;> simp_all
theorem function_any {B T E n:Nat}{bl:F3}(hpa:FnC B T E 205 (paramF E)) (hbl:FnC B T E 206 bl) {a0 a2 a3 a5:Int}{a1:ByteArray}{x:Mn}(hv:(.agg #[.int .i64 a0,.string a1,.int .i64 a2,.int .i64 a3,.slice none 0 0,.int .i64 a5]:Value)=nodeV x) (hc:x.c=[]) {w:World}{s:S3}(h:Ps B T E w s) (hr:buildF { x with k:=3 } [listF E [40] [41] (fun _=>paramF E) n,bl] s≠.out) :
  Calls Tryz.prog 169 #[.pointer (some ⟨B,0,none⟩),.agg #[.int .i64 a0,.string a1,.int .i64 a2,.int .i64 a3,.slice none 0 0,.int .i64 a5]] w (Did B T E w (buildF { x with k:=3 } [listF E [40] [41] (fun _=>paramF E) n,bl] s)):=by
 have HP0:=Lib.hid h
 obtain ⟨r,hrr⟩:=exE (buildF { x with k:=3 } [listF E [40] [41] (fun _=>paramF E) n,bl] s)
 rw [← hrr] at hr ⊢
 obtain ⟨Q,hQ⟩:=exE (Did B T E w r)
 rw [← hQ]
 have HQ:=Lib.hid hQ
 have HR:=Lib.hid hr
 have hB:=h.lt
 clear hQ hr
 have Hrr:Hid (r=buildF { x with k:=3 } [listF E [40] [41] (fun _=>paramF E) n,bl] s):=hrr
 have HA:=Lib.hid (node_k hv hc 3)
 have HC:=Lib.hid hc
 have HNd:=Lib.hid (node_far (t:=36) (cs:=#[.int .i64 3,.string a1,.int .i64 a2,.int .i64 a3,.slice none 0 0,.int .i64 a5]) h)
 have HX6:=Lib.hid ((Ext.refl B w).alloc hB (.cells #[.int .i64 3,.string a1,.int .i64 a2,.int .i64 a3,.slice none 0 0,.int .i64 a5] 36))
 have HP6:=Lib.hid (h.alloc (.cells #[.int .i64 3,.string a1,.int .i64 a2,.int .i64 a3,.slice none 0 0,.int .i64 a5] 36))
 clear hv hc HP0 hrr h
 go_enter Tryz.func169,Tryz.ntmps169
 go_wp2
 generalize w.alloc (.cells #[.int .i64 3,.string a1,.int .i64 a2,.int .i64 a3,.slice none 0 0,.int .i64 a5] 36)=W6 at *
 generalize w.heap.size=g at *
 have HX0:Hid (Ext B w W6.drew):=HX6.out.drew
 have N0:Hid (Now B T E s W6.drew W6.drew):=Now.refl HP6.out.drew
 have S1:Hid (∀ W,Ext B W6.drew W→W.cell? ⟨g,0,none⟩=some (.int .i64 3)∧W.cell? ⟨g,1,none⟩=some (.string a1)∧W.cell? ⟨g,2,none⟩=some (.int .i64 a2)∧W.cell? ⟨g,3,none⟩=some (.int .i64 a3)∧W.cell? ⟨g,4,none⟩=some (.slice none 0 0)∧W.cell? ⟨g,5,none⟩=some (.int .i64 a5)):=fun W hW=>(box6 (HNd.out W ((Ext.refl B W6).drew.trans hW))).1
 have S0:=Lib.hid (S1.out _ (Ext.refl _ _))
 clear HNd HX6 HP6
 have HW0:Hid (∀ W,Now B T E s W6.drew W→Calls Tryz.prog 204 #[.pointer (some ⟨B,0,none⟩),.string ⟨#[40]⟩,.func (.func 205) #[.pointer (some ⟨B,0,none⟩)] #[],.string ⟨#[41]⟩] W fun e w'=>∃ g1 g2 g3 g4,e=.returned (.func (.func 231) #[] #[.pointer (some ⟨g1,0,none⟩),.pointer (some ⟨g2,0,none⟩),.pointer (some ⟨g3,0,none⟩),.pointer (some ⟨g4,0,none⟩)])∧Now B T E s W6.drew w'∧Ext B W w'∧StepV B T E w' (.func (.func 231) #[] #[.pointer (some ⟨g1,0,none⟩),.pointer (some ⟨g2,0,none⟩),.pointer (some ⟨g3,0,none⟩),.pointer (some ⟨g4,0,none⟩)]) (listF E [40] [41] (fun _=>paramF E) n)):=fun W hW=>listg_now hW ⟨#[40]⟩ ⟨#[41]⟩ rfl rfl (fun _=>paramF E) 205 #[.pointer (some ⟨B,0,none⟩)] #[] ent141 (fun m hm W1 s1 hx hp hr=>hpa W1 s1 hp hr)
 have HN:Hid (∀ W v0,Now B T E s W6.drew W→StepV B T E W v0 (listF E [40] [41] (fun _=>paramF E) n)→Calls Tryz.prog 76 #[.pointer (some ⟨B,2,none⟩),.agg #[.int .i64 3,.string a1,.int .i64 a2,.int .i64 a3,.slice none 0 0,.int .i64 a5],.slice (some ⟨W.heap.size,0,none⟩) 2 2] (W.alloc (.cells #[v0,.func (.func 206) #[.pointer (some ⟨B,0,none⟩)] #[]] 57)) (Ends B T E W6.drew r)):=fun W v0 hW h0=>by
   have h:=build_now hW [v0,.func (.func 206) #[.pointer (some ⟨B,0,none⟩)] #[]] [listF E [40] [41] (fun _=>paramF E) n,bl] rfl (by simp) (step2 (h0) (stepFn hbl ent142 W)) ({ x with k:=3 }) HC.out (by rw [← Hrr.out];exact HR.out) 57
   rw [← Hrr.out] at h
   rw [HA.out] at h
   exact h
 go_region_held3 (fun W=>W.cell? ⟨g,0,none⟩=some (.int .i64 3)∧W.cell? ⟨g,1,none⟩=some (.string a1)∧W.cell? ⟨g,2,none⟩=some (.int .i64 a2)∧W.cell? ⟨g,3,none⟩=some (.int .i64 a3)∧W.cell? ⟨g,4,none⟩=some (.slice none 0 0)∧W.cell? ⟨g,5,none⟩=some (.int .i64 a5))
  (first | exact S0.out | exact S1.out _ hn0.1 | exact S1.out _ (hn0.alloc _).1 | exact S1.out _ hx9)
  (first | (go_at_call 204;first | ((with_reducible refine (HW0.out _ N0.out).mono ?_);rintro e w0_ ⟨q00,q01,q02,q03,rfl,hn0,hx0,hs0⟩)) | (go_at_call 76;refine (HN.out _ _ hn0 hs0).mono ?_;rintro e w9 ⟨v,rfl,hd,hx9⟩))
 all_goals
  have HD:=Lib.hid (did_ext hd HX0.out)
  clear hd hx9
  go_wp2
  (try go_ret)
  rw [HQ.out]
  exact HD.out
end
end Go.Proofs.YtbjacclfhgnffaaGreatDoor
