/-
  Joined texts of this claim: Uk, Ul, Ulb.
-/
import Derived.Test.YtdjpopebeenlmaaGreatDoorW00
import Derived.Test.YtdjpopebeenlmaaGreatDoorW16
set_option maxHeartbeats 40000000
set_option maxRecDepth 100000
set_option linter.unusedVariables false
set_option linter.unusedSimpArgs false
namespace Go.Proofs.YtdjpopebeenlmaaGreatDoor
section
open Go.RowKit
open Tk (T4 bstr)
open Tr (Nd Blk KidsAt)

/-- action, as the program has it -/
def actF (E:Nat) (bl co ex:F3):F3:=fun s =>
  if (pk E s.L).t=[123] then bl s
  else if (pk E s.L).t=[105,110,116] then seqF [localF E ex,wordF E [59]] s
  else if (pk E s.L).t=[105,102]∨(pk E s.L).t=[119,104,105,108,101]∨(pk E s.L).t=[100,111]∨(pk E s.L).t=[102,111,114]∨(pk E s.L).t=[115,119,105,116,99,104] then co s
  else if (pk E s.L).t=[98,114,101,97,107] then buildF (mk 21 [] 0 (pk E s.L).a) [wordF E [98,114,101,97,107],wordF E [59]] s
  else if (pk E s.L).t=[99,111,110,116,105,110,117,101] then buildF (mk 22 [] 0 (pk E s.L).a) [wordF E [99,111,110,116,105,110,117,101],wordF E [59]] s
  else if (pk E s.L).t=[114,101,116,117,114,110] then buildF (mk 23 [] 0 (pk E s.L).a) [wordF E [114,101,116,117,114,110],toldF E ex,wordF E [59]] s
  else if (pk E s.L).t=[59] then seqF [nothingF E,wordF E [59]] s
  else seqF [effectF E ex,wordF E [59]] s

set_option maxHeartbeats 16000000 in
set_option maxRecDepth 100000 in
theorem act_block {B T E:Nat}{bl:F3}(hbl:FnC B T E 224 bl) {w:World}{s:S3}(h:Ps B T E w s) (ht:(pk E s.L).t=[123]) (hr:bl s≠.out):Calls Tryz.prog 248 #[.pointer (some ⟨B,0,none⟩)] w (Did B T E w (bl s)):=by
  obtain ⟨r,hrr⟩ : ∃ r,r=bl s:=⟨_,rfl⟩
  rw [← hrr] at hr ⊢
  obtain ⟨Q,hQ⟩ : ∃ Q:Ending→World→Prop,Q=Did B T E w r:=⟨_,rfl⟩
  rw [← hQ]
  have HQ:=Lib.hid hQ
  have HR:=Lib.hid hr
  have hB:=h.lt
  clear hQ hr
  have HP:=Lib.hid h
  have hpk:=peek_any h
  unfold tokV at hpk
  obtain ⟨t,ht'⟩ : ∃ t,t=pk E s.L:=⟨_,rfl⟩
  obtain ⟨x,hxx⟩ : ∃ x,x=bstr t.t:=⟨_,rfl⟩
  rw [← ht',← hxx] at hpk
  rw [← ht'] at ht
  (try rw [← ht'] at hrr)
  have q0:=txt_yes (l:=[123]) hxx ht
  have Hrr:Hid (r=_):=hrr
  clear ht ht' hxx hrr h
  go_enter Tryz.func248,Tryz.ntmps248
  go_wp2_with (go_at_call 75;refine hpk.mono ?_;rintro e w1 ⟨rfl,hb⟩)
  have hp1:=HP.out.below hb
  have hx1:=Ext.below hb hB
  have HNd:=Lib.hid (node_far (t:=58) (cs:=#[.int .i64 t.k,.string x,.int .i64 t.v,.int .i64 t.a]) hp1)
  have HX6:=Lib.hid (hx1.alloc hB (.cells #[.int .i64 t.k,.string x,.int .i64 t.v,.int .i64 t.a] 58))
  have HP6:=Lib.hid (hp1.alloc (.cells #[.int .i64 t.k,.string x,.int .i64 t.v,.int .i64 t.a] 58))
  clear hb hp1 hx1 hpk HP
  generalize w1.alloc (.cells #[.int .i64 t.k,.string x,.int .i64 t.v,.int .i64 t.a] 58)=W6 at *
  generalize w1.heap.size=g at *
  have hcall:=hbl W6 s HP6.out (by rw [← Hrr.out];exact HR.out)
  rw [← Hrr.out] at hcall
  clear HNd
  go_wp2_with (go_at_call 224;refine hcall.mono ?_)
  intro e w2 hd
  obtain ⟨v,rfl,hd⟩:=did_ret hd HR.out
  have HD:=Lib.hid (did_ext hd HX6.out)
  clear hd hcall
  go_wp2
  (try go_ret)
  rw [HQ.out]
  exact HD.out

set_option maxHeartbeats 16000000 in
set_option maxRecDepth 100000 in
theorem act_if {B T E:Nat}{co:F3}(hco:FnC B T E 264 co) {w:World}{s:S3}(h:Ps B T E w s) (ht:(pk E s.L).t=[105,102]) (hr:co s≠.out):Calls Tryz.prog 248 #[.pointer (some ⟨B,0,none⟩)] w (Did B T E w (co s)):=by
  obtain ⟨r,hrr⟩ : ∃ r,r=co s:=⟨_,rfl⟩
  rw [← hrr] at hr ⊢
  obtain ⟨Q,hQ⟩ : ∃ Q:Ending→World→Prop,Q=Did B T E w r:=⟨_,rfl⟩
  rw [← hQ]
  have HQ:=Lib.hid hQ
  have HR:=Lib.hid hr
  have hB:=h.lt
  clear hQ hr
  have HP:=Lib.hid h
  have hpk:=peek_any h
  unfold tokV at hpk
  obtain ⟨t,ht'⟩ : ∃ t,t=pk E s.L:=⟨_,rfl⟩
  obtain ⟨x,hxx⟩ : ∃ x,x=bstr t.t:=⟨_,rfl⟩
  rw [← ht',← hxx] at hpk
  rw [← ht'] at ht
  (try rw [← ht'] at hrr)
  have q0:=txt_no (l:=[123]) hxx (by rw [ht];decide)
  have q1:=txt_no (l:=[105,110,116]) hxx (by rw [ht];decide)
  have q2:=txt_yes (l:=[105,102]) hxx ht
  have Hrr:Hid (r=_):=hrr
  clear ht ht' hxx hrr h
  go_enter Tryz.func248,Tryz.ntmps248
  go_wp2_with (go_at_call 75;refine hpk.mono ?_;rintro e w1 ⟨rfl,hb⟩)
  have hp1:=HP.out.below hb
  have hx1:=Ext.below hb hB
  have HNd:=Lib.hid (node_far (t:=58) (cs:=#[.int .i64 t.k,.string x,.int .i64 t.v,.int .i64 t.a]) hp1)
  have HX6:=Lib.hid (hx1.alloc hB (.cells #[.int .i64 t.k,.string x,.int .i64 t.v,.int .i64 t.a] 58))
  have HP6:=Lib.hid (hp1.alloc (.cells #[.int .i64 t.k,.string x,.int .i64 t.v,.int .i64 t.a] 58))
  clear hb hp1 hx1 hpk HP
  generalize w1.alloc (.cells #[.int .i64 t.k,.string x,.int .i64 t.v,.int .i64 t.a] 58)=W6 at *
  generalize w1.heap.size=g at *
  have hcall:=hco W6 s HP6.out (by rw [← Hrr.out];exact HR.out)
  rw [← Hrr.out] at hcall
  clear HNd
  go_wp2_with (go_at_call 264;refine hcall.mono ?_)
  intro e w2 hd
  obtain ⟨v,rfl,hd⟩:=did_ret hd HR.out
  have HD:=Lib.hid (did_ext hd HX6.out)
  clear hd hcall
  go_wp2
  (try go_ret)
  rw [HQ.out]
  exact HD.out

set_option maxHeartbeats 16000000 in
set_option maxRecDepth 100000 in
theorem act_while {B T E:Nat}{co:F3}(hco:FnC B T E 264 co) {w:World}{s:S3}(h:Ps B T E w s) (ht:(pk E s.L).t=[119,104,105,108,101]) (hr:co s≠.out):Calls Tryz.prog 248 #[.pointer (some ⟨B,0,none⟩)] w (Did B T E w (co s)):=by
  obtain ⟨r,hrr⟩ : ∃ r,r=co s:=⟨_,rfl⟩
  rw [← hrr] at hr ⊢
  obtain ⟨Q,hQ⟩ : ∃ Q:Ending→World→Prop,Q=Did B T E w r:=⟨_,rfl⟩
  rw [← hQ]
  have HQ:=Lib.hid hQ
  have HR:=Lib.hid hr
  have hB:=h.lt
  clear hQ hr
  have HP:=Lib.hid h
  have hpk:=peek_any h
  unfold tokV at hpk
  obtain ⟨t,ht'⟩ : ∃ t,t=pk E s.L:=⟨_,rfl⟩
  obtain ⟨x,hxx⟩ : ∃ x,x=bstr t.t:=⟨_,rfl⟩
  rw [← ht',← hxx] at hpk
  rw [← ht'] at ht
  (try rw [← ht'] at hrr)
  have q0:=txt_no (l:=[123]) hxx (by rw [ht];decide)
  have q1:=txt_no (l:=[105,110,116]) hxx (by rw [ht];decide)
  have q2:=txt_no (l:=[105,102]) hxx (by rw [ht];decide)
  have q3:=txt_yes (l:=[119,104,105,108,101]) hxx ht
  have Hrr:Hid (r=_):=hrr
  clear ht ht' hxx hrr h
  go_enter Tryz.func248,Tryz.ntmps248
  go_wp2_with (go_at_call 75;refine hpk.mono ?_;rintro e w1 ⟨rfl,hb⟩)
  have hp1:=HP.out.below hb
  have hx1:=Ext.below hb hB
  have HNd:=Lib.hid (node_far (t:=58) (cs:=#[.int .i64 t.k,.string x,.int .i64 t.v,.int .i64 t.a]) hp1)
  have HX6:=Lib.hid (hx1.alloc hB (.cells #[.int .i64 t.k,.string x,.int .i64 t.v,.int .i64 t.a] 58))
  have HP6:=Lib.hid (hp1.alloc (.cells #[.int .i64 t.k,.string x,.int .i64 t.v,.int .i64 t.a] 58))
  clear hb hp1 hx1 hpk HP
  generalize w1.alloc (.cells #[.int .i64 t.k,.string x,.int .i64 t.v,.int .i64 t.a] 58)=W6 at *
  generalize w1.heap.size=g at *
  have hcall:=hco W6 s HP6.out (by rw [← Hrr.out];exact HR.out)
  rw [← Hrr.out] at hcall
  clear HNd
  go_wp2_with (go_at_call 264;refine hcall.mono ?_)
  intro e w2 hd
  obtain ⟨v,rfl,hd⟩:=did_ret hd HR.out
  have HD:=Lib.hid (did_ext hd HX6.out)
  clear hd hcall
  go_wp2
  (try go_ret)
  rw [HQ.out]
  exact HD.out

set_option maxHeartbeats 16000000 in
set_option maxRecDepth 100000 in
theorem act_do {B T E:Nat}{co:F3}(hco:FnC B T E 264 co) {w:World}{s:S3}(h:Ps B T E w s) (ht:(pk E s.L).t=[100,111]) (hr:co s≠.out):Calls Tryz.prog 248 #[.pointer (some ⟨B,0,none⟩)] w (Did B T E w (co s)):=by
  obtain ⟨r,hrr⟩ : ∃ r,r=co s:=⟨_,rfl⟩
  rw [← hrr] at hr ⊢
  obtain ⟨Q,hQ⟩ : ∃ Q:Ending→World→Prop,Q=Did B T E w r:=⟨_,rfl⟩
  rw [← hQ]
  have HQ:=Lib.hid hQ
  have HR:=Lib.hid hr
  have hB:=h.lt
  clear hQ hr
  have HP:=Lib.hid h
  have hpk:=peek_any h
  unfold tokV at hpk
  obtain ⟨t,ht'⟩ : ∃ t,t=pk E s.L:=⟨_,rfl⟩
  obtain ⟨x,hxx⟩ : ∃ x,x=bstr t.t:=⟨_,rfl⟩
  rw [← ht',← hxx] at hpk
  rw [← ht'] at ht
  (try rw [← ht'] at hrr)
  have q0:=txt_no (l:=[123]) hxx (by rw [ht];decide)
  have q1:=txt_no (l:=[105,110,116]) hxx (by rw [ht];decide)
  have q2:=txt_no (l:=[105,102]) hxx (by rw [ht];decide)
  have q3:=txt_no (l:=[119,104,105,108,101]) hxx (by rw [ht];decide)
  have q4:=txt_yes (l:=[100,111]) hxx ht
  have Hrr:Hid (r=_):=hrr
  clear ht ht' hxx hrr h
  go_enter Tryz.func248,Tryz.ntmps248
  go_wp2_with (go_at_call 75;refine hpk.mono ?_;rintro e w1 ⟨rfl,hb⟩)
  have hp1:=HP.out.below hb
  have hx1:=Ext.below hb hB
  have HNd:=Lib.hid (node_far (t:=58) (cs:=#[.int .i64 t.k,.string x,.int .i64 t.v,.int .i64 t.a]) hp1)
  have HX6:=Lib.hid (hx1.alloc hB (.cells #[.int .i64 t.k,.string x,.int .i64 t.v,.int .i64 t.a] 58))
  have HP6:=Lib.hid (hp1.alloc (.cells #[.int .i64 t.k,.string x,.int .i64 t.v,.int .i64 t.a] 58))
  clear hb hp1 hx1 hpk HP
  generalize w1.alloc (.cells #[.int .i64 t.k,.string x,.int .i64 t.v,.int .i64 t.a] 58)=W6 at *
  generalize w1.heap.size=g at *
  have hcall:=hco W6 s HP6.out (by rw [← Hrr.out];exact HR.out)
  rw [← Hrr.out] at hcall
  clear HNd
  go_wp2_with (go_at_call 264;refine hcall.mono ?_)
  intro e w2 hd
  obtain ⟨v,rfl,hd⟩:=did_ret hd HR.out
  have HD:=Lib.hid (did_ext hd HX6.out)
  clear hd hcall
  go_wp2
  (try go_ret)
  rw [HQ.out]
  exact HD.out

set_option maxHeartbeats 16000000 in
set_option maxRecDepth 100000 in
theorem act_for {B T E:Nat}{co:F3}(hco:FnC B T E 264 co) {w:World}{s:S3}(h:Ps B T E w s) (ht:(pk E s.L).t=[102,111,114]) (hr:co s≠.out):Calls Tryz.prog 248 #[.pointer (some ⟨B,0,none⟩)] w (Did B T E w (co s)):=by
  obtain ⟨r,hrr⟩ : ∃ r,r=co s:=⟨_,rfl⟩
  rw [← hrr] at hr ⊢
  obtain ⟨Q,hQ⟩ : ∃ Q:Ending→World→Prop,Q=Did B T E w r:=⟨_,rfl⟩
  rw [← hQ]
  have HQ:=Lib.hid hQ
  have HR:=Lib.hid hr
  have hB:=h.lt
  clear hQ hr
  have HP:=Lib.hid h
  have hpk:=peek_any h
  unfold tokV at hpk
  obtain ⟨t,ht'⟩ : ∃ t,t=pk E s.L:=⟨_,rfl⟩
  obtain ⟨x,hxx⟩ : ∃ x,x=bstr t.t:=⟨_,rfl⟩
  rw [← ht',← hxx] at hpk
  rw [← ht'] at ht
  (try rw [← ht'] at hrr)
  have q0:=txt_no (l:=[123]) hxx (by rw [ht];decide)
  have q1:=txt_no (l:=[105,110,116]) hxx (by rw [ht];decide)
  have q2:=txt_no (l:=[105,102]) hxx (by rw [ht];decide)
  have q3:=txt_no (l:=[119,104,105,108,101]) hxx (by rw [ht];decide)
  have q4:=txt_no (l:=[100,111]) hxx (by rw [ht];decide)
  have q5:=txt_yes (l:=[102,111,114]) hxx ht
  have Hrr:Hid (r=_):=hrr
  clear ht ht' hxx hrr h
  go_enter Tryz.func248,Tryz.ntmps248
  go_wp2_with (go_at_call 75;refine hpk.mono ?_;rintro e w1 ⟨rfl,hb⟩)
  have hp1:=HP.out.below hb
  have hx1:=Ext.below hb hB
  have HNd:=Lib.hid (node_far (t:=58) (cs:=#[.int .i64 t.k,.string x,.int .i64 t.v,.int .i64 t.a]) hp1)
  have HX6:=Lib.hid (hx1.alloc hB (.cells #[.int .i64 t.k,.string x,.int .i64 t.v,.int .i64 t.a] 58))
  have HP6:=Lib.hid (hp1.alloc (.cells #[.int .i64 t.k,.string x,.int .i64 t.v,.int .i64 t.a] 58))
  clear hb hp1 hx1 hpk HP
  generalize w1.alloc (.cells #[.int .i64 t.k,.string x,.int .i64 t.v,.int .i64 t.a] 58)=W6 at *
  generalize w1.heap.size=g at *
  have hcall:=hco W6 s HP6.out (by rw [← Hrr.out];exact HR.out)
  rw [← Hrr.out] at hcall
  clear HNd
  go_wp2_with (go_at_call 264;refine hcall.mono ?_)
  intro e w2 hd
  obtain ⟨v,rfl,hd⟩:=did_ret hd HR.out
  have HD:=Lib.hid (did_ext hd HX6.out)
  clear hd hcall
  go_wp2
  (try go_ret)
  rw [HQ.out]
  exact HD.out

set_option maxHeartbeats 16000000 in
set_option maxRecDepth 100000 in
theorem act_switch {B T E:Nat}{co:F3}(hco:FnC B T E 264 co) {w:World}{s:S3}(h:Ps B T E w s) (ht:(pk E s.L).t=[115,119,105,116,99,104]) (hr:co s≠.out):Calls Tryz.prog 248 #[.pointer (some ⟨B,0,none⟩)] w (Did B T E w (co s)):=by
  obtain ⟨r,hrr⟩ : ∃ r,r=co s:=⟨_,rfl⟩
  rw [← hrr] at hr ⊢
  obtain ⟨Q,hQ⟩ : ∃ Q:Ending→World→Prop,Q=Did B T E w r:=⟨_,rfl⟩
  rw [← hQ]
  have HQ:=Lib.hid hQ
  have HR:=Lib.hid hr
  have hB:=h.lt
  clear hQ hr
  have HP:=Lib.hid h
  have hpk:=peek_any h
  unfold tokV at hpk
  obtain ⟨t,ht'⟩ : ∃ t,t=pk E s.L:=⟨_,rfl⟩
  obtain ⟨x,hxx⟩ : ∃ x,x=bstr t.t:=⟨_,rfl⟩
  rw [← ht',← hxx] at hpk
  rw [← ht'] at ht
  (try rw [← ht'] at hrr)
  have q0:=txt_no (l:=[123]) hxx (by rw [ht];decide)
  have q1:=txt_no (l:=[105,110,116]) hxx (by rw [ht];decide)
  have q2:=txt_no (l:=[105,102]) hxx (by rw [ht];decide)
  have q3:=txt_no (l:=[119,104,105,108,101]) hxx (by rw [ht];decide)
  have q4:=txt_no (l:=[100,111]) hxx (by rw [ht];decide)
  have q5:=txt_no (l:=[102,111,114]) hxx (by rw [ht];decide)
  have q6:=txt_yes (l:=[115,119,105,116,99,104]) hxx ht
  have Hrr:Hid (r=_):=hrr
  clear ht ht' hxx hrr h
  go_enter Tryz.func248,Tryz.ntmps248
  go_wp2_with (go_at_call 75;refine hpk.mono ?_;rintro e w1 ⟨rfl,hb⟩)
  have hp1:=HP.out.below hb
  have hx1:=Ext.below hb hB
  have HNd:=Lib.hid (node_far (t:=58) (cs:=#[.int .i64 t.k,.string x,.int .i64 t.v,.int .i64 t.a]) hp1)
  have HX6:=Lib.hid (hx1.alloc hB (.cells #[.int .i64 t.k,.string x,.int .i64 t.v,.int .i64 t.a] 58))
  have HP6:=Lib.hid (hp1.alloc (.cells #[.int .i64 t.k,.string x,.int .i64 t.v,.int .i64 t.a] 58))
  clear hb hp1 hx1 hpk HP
  generalize w1.alloc (.cells #[.int .i64 t.k,.string x,.int .i64 t.v,.int .i64 t.a] 58)=W6 at *
  generalize w1.heap.size=g at *
  have hcall:=hco W6 s HP6.out (by rw [← Hrr.out];exact HR.out)
  rw [← Hrr.out] at hcall
  clear HNd
  go_wp2_with (go_at_call 264;refine hcall.mono ?_)
  intro e w2 hd
  obtain ⟨v,rfl,hd⟩:=did_ret hd HR.out
  have HD:=Lib.hid (did_ext hd HX6.out)
  clear hd hcall
  go_wp2
  (try go_ret)
  rw [HQ.out]
  exact HD.out

set_option maxHeartbeats 16000000 in
set_option maxRecDepth 100000 in
theorem act_local {B T E:Nat}{ex:F3}(hlo:FnC B T E 263 (localF E ex)) {w:World}{s:S3}(h:Ps B T E w s) (ht:(pk E s.L).t=[105,110,116]) (hr:seqF [localF E ex,wordF E [59]] s≠.out):Calls Tryz.prog 248 #[.pointer (some ⟨B,0,none⟩)] w (Did B T E w (seqF [localF E ex,wordF E [59]] s)):=by
  obtain ⟨r,hrr⟩ : ∃ r,r=seqF [localF E ex,wordF E [59]] s:=⟨_,rfl⟩
  rw [← hrr] at hr ⊢
  obtain ⟨Q,hQ⟩ : ∃ Q:Ending→World→Prop,Q=Did B T E w r:=⟨_,rfl⟩
  rw [← hQ]
  have HQ:=Lib.hid hQ
  have HR:=Lib.hid hr
  have hB:=h.lt
  clear hQ hr
  have HP:=Lib.hid h
  have hpk:=peek_any h
  unfold tokV at hpk
  obtain ⟨t,ht'⟩ : ∃ t,t=pk E s.L:=⟨_,rfl⟩
  obtain ⟨x,hxx⟩ : ∃ x,x=bstr t.t:=⟨_,rfl⟩
  rw [← ht',← hxx] at hpk
  rw [← ht'] at ht
  (try rw [← ht'] at hrr)
  have q0:=txt_no (l:=[123]) hxx (by rw [ht];decide)
  have q1:=txt_yes (l:=[105,110,116]) hxx ht
  have Hrr:Hid (r=_):=hrr
  clear ht ht' hxx hrr h
  go_enter Tryz.func248,Tryz.ntmps248
  go_wp2_with (go_at_call 75;refine hpk.mono ?_;rintro e w1 ⟨rfl,hb⟩)
  have hp1:=HP.out.below hb
  have hx1:=Ext.below hb hB
  have HNd:=Lib.hid (node_far (t:=58) (cs:=#[.int .i64 t.k,.string x,.int .i64 t.v,.int .i64 t.a]) hp1)
  have HX6:=Lib.hid (hx1.alloc hB (.cells #[.int .i64 t.k,.string x,.int .i64 t.v,.int .i64 t.a] 58))
  have HP6:=Lib.hid (hp1.alloc (.cells #[.int .i64 t.k,.string x,.int .i64 t.v,.int .i64 t.a] 58))
  clear hb hp1 hx1 hpk HP
  generalize w1.alloc (.cells #[.int .i64 t.k,.string x,.int .i64 t.v,.int .i64 t.a] 58)=W6 at *
  generalize w1.heap.size=g at *
  have N0:Hid (Now B T E s W6 W6):=Now.refl HP6.out
  clear HNd HP6
  have HW0:Hid (∀ W,Now B T E s W6 W→Calls Tryz.prog 77 #[.pointer (some ⟨B,0,none⟩),.string ⟨#[59]⟩] W fun e w'=>∃ g1 g2,e=.returned (.func (.func 133) #[] #[.pointer (some ⟨g1,0,none⟩),.pointer (some ⟨g2,0,none⟩)])∧Now B T E s W6 w'∧Ext B W w'∧StepV B T E w' (.func (.func 133) #[] #[.pointer (some ⟨g1,0,none⟩),.pointer (some ⟨g2,0,none⟩)]) (wordF E [59])):=fun W hW=>word_now hW ⟨#[59]⟩
  have HN:Hid (∀ W v1,Now B T E s W6 W→StepV B T E W v1 (wordF E [59])→Calls Tryz.prog 35 #[.slice (some ⟨W.heap.size,0,none⟩) 2 2] (W.alloc (.cells #[.func (.func 263) #[.pointer (some ⟨B,0,none⟩)] #[],v1] 70)) (Ends B T E W6 r)):=fun W v1 hW h1=>by
      have h:=turn_now hW [.func (.func 263) #[.pointer (some ⟨B,0,none⟩)] #[],v1] [localF E ex,wordF E [59]] rfl (by simp) (step2 (stepFn hlo ent174 W) (h1)) (by rw [← Hrr.out];exact HR.out) 70
      rw [← Hrr.out] at h
      exact h
  go_wp2_with (first | (go_at_call 77;first | ((with_reducible refine (HW0.out _ N0.out).mono ?_);rintro e w0_ ⟨q00,q01,rfl,hn0,hx0,hs0⟩)) | (go_at_call 35;refine (HN.out _ _ hn0 hs0).mono ?_;rintro e w9 ⟨v,rfl,hd,hx9⟩))
  all_goals
    have HD:=Lib.hid (did_ext hd HX6.out)
    clear hd hx9
    go_wp2
    (try go_ret)
    rw [HQ.out]
    exact HD.out

set_option maxHeartbeats 16000000 in
set_option maxRecDepth 100000 in
theorem act_break {B T E:Nat}{w:World}{s:S3}(h:Ps B T E w s) (ht:(pk E s.L).t=[98,114,101,97,107]) (hr:buildF (mk 21 [] 0 (pk E s.L).a) [wordF E [98,114,101,97,107],wordF E [59]] s≠.out):Calls Tryz.prog 248 #[.pointer (some ⟨B,0,none⟩)] w (Did B T E w (buildF (mk 21 [] 0 (pk E s.L).a) [wordF E [98,114,101,97,107],wordF E [59]] s)):=by
  obtain ⟨r,hrr⟩ : ∃ r,r=buildF (mk 21 [] 0 (pk E s.L).a) [wordF E [98,114,101,97,107],wordF E [59]] s:=⟨_,rfl⟩
  rw [← hrr] at hr ⊢
  obtain ⟨Q,hQ⟩ : ∃ Q:Ending→World→Prop,Q=Did B T E w r:=⟨_,rfl⟩
  rw [← hQ]
  have HQ:=Lib.hid hQ
  have HR:=Lib.hid hr
  have hB:=h.lt
  clear hQ hr
  have HP:=Lib.hid h
  have hpk:=peek_any h
  unfold tokV at hpk
  obtain ⟨t,ht'⟩ : ∃ t,t=pk E s.L:=⟨_,rfl⟩
  obtain ⟨x,hxx⟩ : ∃ x,x=bstr t.t:=⟨_,rfl⟩
  rw [← ht',← hxx] at hpk
  rw [← ht'] at ht
  (try rw [← ht'] at hrr)
  have q0:=txt_no (l:=[123]) hxx (by rw [ht];decide)
  have q1:=txt_no (l:=[105,110,116]) hxx (by rw [ht];decide)
  have q2:=txt_no (l:=[105,102]) hxx (by rw [ht];decide)
  have q3:=txt_no (l:=[119,104,105,108,101]) hxx (by rw [ht];decide)
  have q4:=txt_no (l:=[100,111]) hxx (by rw [ht];decide)
  have q5:=txt_no (l:=[102,111,114]) hxx (by rw [ht];decide)
  have q6:=txt_no (l:=[115,119,105,116,99,104]) hxx (by rw [ht];decide)
  have q7:=txt_yes (l:=[98,114,101,97,107]) hxx ht
  have Hrr:Hid (r=_):=hrr
  clear ht ht' hxx hrr h
  go_enter Tryz.func248,Tryz.ntmps248
  go_wp2_with (go_at_call 75;refine hpk.mono ?_;rintro e w1 ⟨rfl,hb⟩)
  have hp1:=HP.out.below hb
  have hx1:=Ext.below hb hB
  have HNd:=Lib.hid (node_far (t:=58) (cs:=#[.int .i64 t.k,.string x,.int .i64 t.v,.int .i64 t.a]) hp1)
  have HX6:=Lib.hid (hx1.alloc hB (.cells #[.int .i64 t.k,.string x,.int .i64 t.v,.int .i64 t.a] 58))
  have HP6:=Lib.hid (hp1.alloc (.cells #[.int .i64 t.k,.string x,.int .i64 t.v,.int .i64 t.a] 58))
  clear hb hp1 hx1 hpk HP
  generalize w1.alloc (.cells #[.int .i64 t.k,.string x,.int .i64 t.v,.int .i64 t.a] 58)=W6 at *
  generalize w1.heap.size=g at *
  have HX0:Hid (Ext B w W6.drew):=HX6.out.drew
  have N0:Hid (Now B T E s W6.drew W6.drew):=Now.refl HP6.out.drew
  have S1:Hid (∀ W,Ext B W6.drew W→W.cell? ⟨g,3,none⟩=some (.int .i64 t.a)):=fun W hW=>(tok_box (HNd.out W ((Ext.refl B W6).drew.trans hW))).2.2.2
  have S0:=Lib.hid (S1.out _ (Ext.refl _ _))
  clear HNd HX6 HP6
  go_wp2
  have HW0:Hid (∀ W,Now B T E s W6.drew W→Calls Tryz.prog 77 #[.pointer (some ⟨B,0,none⟩),.string ⟨#[98,114,101,97,107]⟩] W fun e w'=>∃ g1 g2,e=.returned (.func (.func 133) #[] #[.pointer (some ⟨g1,0,none⟩),.pointer (some ⟨g2,0,none⟩)])∧Now B T E s W6.drew w'∧Ext B W w'∧StepV B T E w' (.func (.func 133) #[] #[.pointer (some ⟨g1,0,none⟩),.pointer (some ⟨g2,0,none⟩)]) (wordF E [98,114,101,97,107])):=fun W hW=>word_now hW ⟨#[98,114,101,97,107]⟩
  have HW1:Hid (∀ W,Now B T E s W6.drew W→Calls Tryz.prog 77 #[.pointer (some ⟨B,0,none⟩),.string ⟨#[59]⟩] W fun e w'=>∃ g1 g2,e=.returned (.func (.func 133) #[] #[.pointer (some ⟨g1,0,none⟩),.pointer (some ⟨g2,0,none⟩)])∧Now B T E s W6.drew w'∧Ext B W w'∧StepV B T E w' (.func (.func 133) #[] #[.pointer (some ⟨g1,0,none⟩),.pointer (some ⟨g2,0,none⟩)]) (wordF E [59])):=fun W hW=>word_now hW ⟨#[59]⟩
  have HN:Hid (∀ W v0 v1,Now B T E s W6.drew W→StepV B T E W v0 (wordF E [98,114,101,97,107])→StepV B T E W v1 (wordF E [59])→Calls Tryz.prog 70 #[.pointer (some ⟨B,2,none⟩),.agg #[.int .i64 21,.string ⟨#[]⟩,.int .i64 0,.int .i64 0,.slice none 0 0,.int .i64 t.a],.slice (some ⟨W.heap.size,0,none⟩) 2 2] (W.alloc (.cells #[v0,v1] 70)) (Ends B T E W6.drew r)):=fun W v0 v1 hW h0 h1=>by
      have h:=build_now hW [v0,v1] [wordF E [98,114,101,97,107],wordF E [59]] rfl (by simp) (step2 (h0) (h1)) (mk 21 [] 0 t.a) rfl (by rw [← Hrr.out];exact HR.out) 70
      rw [← Hrr.out] at h
      exact h
  go_region_held3 (fun W=>W.cell? ⟨g,3,none⟩=some (.int .i64 t.a))
    (first | exact S0.out | exact S1.out _ hn0.1 | exact S1.out _ hn1.1 | exact S1.out _ (hn1.alloc _).1 | exact S1.out _ hx9)
    (first | (go_at_call 77;first | ((with_reducible refine (HW0.out _ N0.out).mono ?_);rintro e w0_ ⟨q00,q01,rfl,hn0,hx0,hs0⟩) | ((with_reducible refine (HW1.out _ hn0).mono ?_);rintro e w1_ ⟨q10,q11,rfl,hn1,hx1,hs1⟩)) | (go_at_call 70;refine (HN.out _ _ _ hn1 (StepV.ext hs0 hx1) hs1).mono ?_;rintro e w9 ⟨v,rfl,hd,hx9⟩))
  all_goals
    have HD:=Lib.hid (did_ext hd HX0.out)
    clear hd hx9
    go_wp2
    (try go_ret)
    rw [HQ.out]
    exact HD.out

set_option maxHeartbeats 16000000 in
set_option maxRecDepth 100000 in
theorem act_continue {B T E:Nat}{w:World}{s:S3}(h:Ps B T E w s) (ht:(pk E s.L).t=[99,111,110,116,105,110,117,101]) (hr:buildF (mk 22 [] 0 (pk E s.L).a) [wordF E [99,111,110,116,105,110,117,101],wordF E [59]] s≠.out):Calls Tryz.prog 248 #[.pointer (some ⟨B,0,none⟩)] w (Did B T E w (buildF (mk 22 [] 0 (pk E s.L).a) [wordF E [99,111,110,116,105,110,117,101],wordF E [59]] s)):=by
  obtain ⟨r,hrr⟩ : ∃ r,r=buildF (mk 22 [] 0 (pk E s.L).a) [wordF E [99,111,110,116,105,110,117,101],wordF E [59]] s:=⟨_,rfl⟩
  rw [← hrr] at hr ⊢
  obtain ⟨Q,hQ⟩ : ∃ Q:Ending→World→Prop,Q=Did B T E w r:=⟨_,rfl⟩
  rw [← hQ]
  have HQ:=Lib.hid hQ
  have HR:=Lib.hid hr
  have hB:=h.lt
  clear hQ hr
  have HP:=Lib.hid h
  have hpk:=peek_any h
  unfold tokV at hpk
  obtain ⟨t,ht'⟩ : ∃ t,t=pk E s.L:=⟨_,rfl⟩
  obtain ⟨x,hxx⟩ : ∃ x,x=bstr t.t:=⟨_,rfl⟩
  rw [← ht',← hxx] at hpk
  rw [← ht'] at ht
  (try rw [← ht'] at hrr)
  have q0:=txt_no (l:=[123]) hxx (by rw [ht];decide)
  have q1:=txt_no (l:=[105,110,116]) hxx (by rw [ht];decide)
  have q2:=txt_no (l:=[105,102]) hxx (by rw [ht];decide)
  have q3:=txt_no (l:=[119,104,105,108,101]) hxx (by rw [ht];decide)
  have q4:=txt_no (l:=[100,111]) hxx (by rw [ht];decide)
  have q5:=txt_no (l:=[102,111,114]) hxx (by rw [ht];decide)
  have q6:=txt_no (l:=[115,119,105,116,99,104]) hxx (by rw [ht];decide)
  have q7:=txt_no (l:=[98,114,101,97,107]) hxx (by rw [ht];decide)
  have q8:=txt_yes (l:=[99,111,110,116,105,110,117,101]) hxx ht
  have Hrr:Hid (r=_):=hrr
  clear ht ht' hxx hrr h
  go_enter Tryz.func248,Tryz.ntmps248
  go_wp2_with (go_at_call 75;refine hpk.mono ?_;rintro e w1 ⟨rfl,hb⟩)
  have hp1:=HP.out.below hb
  have hx1:=Ext.below hb hB
  have HNd:=Lib.hid (node_far (t:=58) (cs:=#[.int .i64 t.k,.string x,.int .i64 t.v,.int .i64 t.a]) hp1)
  have HX6:=Lib.hid (hx1.alloc hB (.cells #[.int .i64 t.k,.string x,.int .i64 t.v,.int .i64 t.a] 58))
  have HP6:=Lib.hid (hp1.alloc (.cells #[.int .i64 t.k,.string x,.int .i64 t.v,.int .i64 t.a] 58))
  clear hb hp1 hx1 hpk HP
  generalize w1.alloc (.cells #[.int .i64 t.k,.string x,.int .i64 t.v,.int .i64 t.a] 58)=W6 at *
  generalize w1.heap.size=g at *
  have HX0:Hid (Ext B w W6.drew):=HX6.out.drew
  have N0:Hid (Now B T E s W6.drew W6.drew):=Now.refl HP6.out.drew
  have S1:Hid (∀ W,Ext B W6.drew W→W.cell? ⟨g,3,none⟩=some (.int .i64 t.a)):=fun W hW=>(tok_box (HNd.out W ((Ext.refl B W6).drew.trans hW))).2.2.2
  have S0:=Lib.hid (S1.out _ (Ext.refl _ _))
  clear HNd HX6 HP6
  go_wp2
  have HW0:Hid (∀ W,Now B T E s W6.drew W→Calls Tryz.prog 77 #[.pointer (some ⟨B,0,none⟩),.string ⟨#[99,111,110,116,105,110,117,101]⟩] W fun e w'=>∃ g1 g2,e=.returned (.func (.func 133) #[] #[.pointer (some ⟨g1,0,none⟩),.pointer (some ⟨g2,0,none⟩)])∧Now B T E s W6.drew w'∧Ext B W w'∧StepV B T E w' (.func (.func 133) #[] #[.pointer (some ⟨g1,0,none⟩),.pointer (some ⟨g2,0,none⟩)]) (wordF E [99,111,110,116,105,110,117,101])):=fun W hW=>word_now hW ⟨#[99,111,110,116,105,110,117,101]⟩
  have HW1:Hid (∀ W,Now B T E s W6.drew W→Calls Tryz.prog 77 #[.pointer (some ⟨B,0,none⟩),.string ⟨#[59]⟩] W fun e w'=>∃ g1 g2,e=.returned (.func (.func 133) #[] #[.pointer (some ⟨g1,0,none⟩),.pointer (some ⟨g2,0,none⟩)])∧Now B T E s W6.drew w'∧Ext B W w'∧StepV B T E w' (.func (.func 133) #[] #[.pointer (some ⟨g1,0,none⟩),.pointer (some ⟨g2,0,none⟩)]) (wordF E [59])):=fun W hW=>word_now hW ⟨#[59]⟩
  have HN:Hid (∀ W v0 v1,Now B T E s W6.drew W→StepV B T E W v0 (wordF E [99,111,110,116,105,110,117,101])→StepV B T E W v1 (wordF E [59])→Calls Tryz.prog 70 #[.pointer (some ⟨B,2,none⟩),.agg #[.int .i64 22,.string ⟨#[]⟩,.int .i64 0,.int .i64 0,.slice none 0 0,.int .i64 t.a],.slice (some ⟨W.heap.size,0,none⟩) 2 2] (W.alloc (.cells #[v0,v1] 70)) (Ends B T E W6.drew r)):=fun W v0 v1 hW h0 h1=>by
      have h:=build_now hW [v0,v1] [wordF E [99,111,110,116,105,110,117,101],wordF E [59]] rfl (by simp) (step2 (h0) (h1)) (mk 22 [] 0 t.a) rfl (by rw [← Hrr.out];exact HR.out) 70
      rw [← Hrr.out] at h
      exact h
  go_region_held3 (fun W=>W.cell? ⟨g,3,none⟩=some (.int .i64 t.a))
    (first | exact S0.out | exact S1.out _ hn0.1 | exact S1.out _ hn1.1 | exact S1.out _ (hn1.alloc _).1 | exact S1.out _ hx9)
    (first | (go_at_call 77;first | ((with_reducible refine (HW0.out _ N0.out).mono ?_);rintro e w0_ ⟨q00,q01,rfl,hn0,hx0,hs0⟩) | ((with_reducible refine (HW1.out _ hn0).mono ?_);rintro e w1_ ⟨q10,q11,rfl,hn1,hx1,hs1⟩)) | (go_at_call 70;refine (HN.out _ _ _ hn1 (StepV.ext hs0 hx1) hs1).mono ?_;rintro e w9 ⟨v,rfl,hd,hx9⟩))
  all_goals
    have HD:=Lib.hid (did_ext hd HX0.out)
    clear hd hx9
    go_wp2
    (try go_ret)
    rw [HQ.out]
    exact HD.out

set_option maxHeartbeats 16000000 in
set_option maxRecDepth 100000 in
theorem act_return {B T E:Nat}{ex:F3}(hto:FnC B T E 265 (toldF E ex)) {w:World}{s:S3}(h:Ps B T E w s) (ht:(pk E s.L).t=[114,101,116,117,114,110]) (hr:buildF (mk 23 [] 0 (pk E s.L).a) [wordF E [114,101,116,117,114,110],toldF E ex,wordF E [59]] s≠.out):Calls Tryz.prog 248 #[.pointer (some ⟨B,0,none⟩)] w (Did B T E w (buildF (mk 23 [] 0 (pk E s.L).a) [wordF E [114,101,116,117,114,110],toldF E ex,wordF E [59]] s)):=by
  obtain ⟨r,hrr⟩ : ∃ r,r=buildF (mk 23 [] 0 (pk E s.L).a) [wordF E [114,101,116,117,114,110],toldF E ex,wordF E [59]] s:=⟨_,rfl⟩
  rw [← hrr] at hr ⊢
  obtain ⟨Q,hQ⟩ : ∃ Q:Ending→World→Prop,Q=Did B T E w r:=⟨_,rfl⟩
  rw [← hQ]
  have HQ:=Lib.hid hQ
  have HR:=Lib.hid hr
  have hB:=h.lt
  clear hQ hr
  have HP:=Lib.hid h
  have hpk:=peek_any h
  unfold tokV at hpk
  obtain ⟨t,ht'⟩ : ∃ t,t=pk E s.L:=⟨_,rfl⟩
  obtain ⟨x,hxx⟩ : ∃ x,x=bstr t.t:=⟨_,rfl⟩
  rw [← ht',← hxx] at hpk
  rw [← ht'] at ht
  (try rw [← ht'] at hrr)
  have q0:=txt_no (l:=[123]) hxx (by rw [ht];decide)
  have q1:=txt_no (l:=[105,110,116]) hxx (by rw [ht];decide)
  have q2:=txt_no (l:=[105,102]) hxx (by rw [ht];decide)
  have q3:=txt_no (l:=[119,104,105,108,101]) hxx (by rw [ht];decide)
  have q4:=txt_no (l:=[100,111]) hxx (by rw [ht];decide)
  have q5:=txt_no (l:=[102,111,114]) hxx (by rw [ht];decide)
  have q6:=txt_no (l:=[115,119,105,116,99,104]) hxx (by rw [ht];decide)
  have q7:=txt_no (l:=[98,114,101,97,107]) hxx (by rw [ht];decide)
  have q8:=txt_no (l:=[99,111,110,116,105,110,117,101]) hxx (by rw [ht];decide)
  have q9:=txt_yes (l:=[114,101,116,117,114,110]) hxx ht
  have Hrr:Hid (r=_):=hrr
  clear ht ht' hxx hrr h
  go_enter Tryz.func248,Tryz.ntmps248
  go_wp2_with (go_at_call 75;refine hpk.mono ?_;rintro e w1 ⟨rfl,hb⟩)
  have hp1:=HP.out.below hb
  have hx1:=Ext.below hb hB
  have HNd:=Lib.hid (node_far (t:=58) (cs:=#[.int .i64 t.k,.string x,.int .i64 t.v,.int .i64 t.a]) hp1)
  have HX6:=Lib.hid (hx1.alloc hB (.cells #[.int .i64 t.k,.string x,.int .i64 t.v,.int .i64 t.a] 58))
  have HP6:=Lib.hid (hp1.alloc (.cells #[.int .i64 t.k,.string x,.int .i64 t.v,.int .i64 t.a] 58))
  clear hb hp1 hx1 hpk HP
  generalize w1.alloc (.cells #[.int .i64 t.k,.string x,.int .i64 t.v,.int .i64 t.a] 58)=W6 at *
  generalize w1.heap.size=g at *
  have HX0:Hid (Ext B w W6.drew):=HX6.out.drew
  have N0:Hid (Now B T E s W6.drew W6.drew):=Now.refl HP6.out.drew
  have S1:Hid (∀ W,Ext B W6.drew W→W.cell? ⟨g,3,none⟩=some (.int .i64 t.a)):=fun W hW=>(tok_box (HNd.out W ((Ext.refl B W6).drew.trans hW))).2.2.2
  have S0:=Lib.hid (S1.out _ (Ext.refl _ _))
  clear HNd HX6 HP6
  go_wp2
  have HW0:Hid (∀ W,Now B T E s W6.drew W→Calls Tryz.prog 77 #[.pointer (some ⟨B,0,none⟩),.string ⟨#[114,101,116,117,114,110]⟩] W fun e w'=>∃ g1 g2,e=.returned (.func (.func 133) #[] #[.pointer (some ⟨g1,0,none⟩),.pointer (some ⟨g2,0,none⟩)])∧Now B T E s W6.drew w'∧Ext B W w'∧StepV B T E w' (.func (.func 133) #[] #[.pointer (some ⟨g1,0,none⟩),.pointer (some ⟨g2,0,none⟩)]) (wordF E [114,101,116,117,114,110])):=fun W hW=>word_now hW ⟨#[114,101,116,117,114,110]⟩
  have HW1:Hid (∀ W,Now B T E s W6.drew W→Calls Tryz.prog 77 #[.pointer (some ⟨B,0,none⟩),.string ⟨#[59]⟩] W fun e w'=>∃ g1 g2,e=.returned (.func (.func 133) #[] #[.pointer (some ⟨g1,0,none⟩),.pointer (some ⟨g2,0,none⟩)])∧Now B T E s W6.drew w'∧Ext B W w'∧StepV B T E w' (.func (.func 133) #[] #[.pointer (some ⟨g1,0,none⟩),.pointer (some ⟨g2,0,none⟩)]) (wordF E [59])):=fun W hW=>word_now hW ⟨#[59]⟩
  have HN:Hid (∀ W v0 v2,Now B T E s W6.drew W→StepV B T E W v0 (wordF E [114,101,116,117,114,110])→StepV B T E W v2 (wordF E [59])→Calls Tryz.prog 70 #[.pointer (some ⟨B,2,none⟩),.agg #[.int .i64 23,.string ⟨#[]⟩,.int .i64 0,.int .i64 0,.slice none 0 0,.int .i64 t.a],.slice (some ⟨W.heap.size,0,none⟩) 3 3] (W.alloc (.cells #[v0,.func (.func 265) #[.pointer (some ⟨B,0,none⟩)] #[],v2] 70)) (Ends B T E W6.drew r)):=fun W v0 v2 hW h0 h2=>by
      have h:=build_now hW [v0,.func (.func 265) #[.pointer (some ⟨B,0,none⟩)] #[],v2] [wordF E [114,101,116,117,114,110],toldF E ex,wordF E [59]] rfl (by simp) (step3 (h0) (stepFn hto ent176 W) (h2)) (mk 23 [] 0 t.a) rfl (by rw [← Hrr.out];exact HR.out) 70
      rw [← Hrr.out] at h
      exact h
  go_region_held3 (fun W=>W.cell? ⟨g,3,none⟩=some (.int .i64 t.a))
    (first | exact S0.out | exact S1.out _ hn0.1 | exact S1.out _ hn1.1 | exact S1.out _ (hn1.alloc _).1 | exact S1.out _ hx9)
    (first | (go_at_call 77;first | ((with_reducible refine (HW0.out _ N0.out).mono ?_);rintro e w0_ ⟨q00,q01,rfl,hn0,hx0,hs0⟩) | ((with_reducible refine (HW1.out _ hn0).mono ?_);rintro e w1_ ⟨q10,q11,rfl,hn1,hx1,hs1⟩)) | (go_at_call 70;refine (HN.out _ _ _ hn1 (StepV.ext hs0 hx1) hs1).mono ?_;rintro e w9 ⟨v,rfl,hd,hx9⟩))
  all_goals
    have HD:=Lib.hid (did_ext hd HX0.out)
    clear hd hx9
    go_wp2
    (try go_ret)
    rw [HQ.out]
    exact HD.out

set_option maxHeartbeats 16000000 in
set_option maxRecDepth 100000 in
theorem act_semi {B T E:Nat}(hnn:FnC B T E 266 (nothingF E)) {w:World}{s:S3}(h:Ps B T E w s) (ht:(pk E s.L).t=[59]) (hr:seqF [nothingF E,wordF E [59]] s≠.out):Calls Tryz.prog 248 #[.pointer (some ⟨B,0,none⟩)] w (Did B T E w (seqF [nothingF E,wordF E [59]] s)):=by
  obtain ⟨r,hrr⟩ : ∃ r,r=seqF [nothingF E,wordF E [59]] s:=⟨_,rfl⟩
  rw [← hrr] at hr ⊢
  obtain ⟨Q,hQ⟩ : ∃ Q:Ending→World→Prop,Q=Did B T E w r:=⟨_,rfl⟩
  rw [← hQ]
  have HQ:=Lib.hid hQ
  have HR:=Lib.hid hr
  have hB:=h.lt
  clear hQ hr
  have HP:=Lib.hid h
  have hpk:=peek_any h
  unfold tokV at hpk
  obtain ⟨t,ht'⟩ : ∃ t,t=pk E s.L:=⟨_,rfl⟩
  obtain ⟨x,hxx⟩ : ∃ x,x=bstr t.t:=⟨_,rfl⟩
  rw [← ht',← hxx] at hpk
  rw [← ht'] at ht
  (try rw [← ht'] at hrr)
  have q0:=txt_no (l:=[123]) hxx (by rw [ht];decide)
  have q1:=txt_no (l:=[105,110,116]) hxx (by rw [ht];decide)
  have q2:=txt_no (l:=[105,102]) hxx (by rw [ht];decide)
  have q3:=txt_no (l:=[119,104,105,108,101]) hxx (by rw [ht];decide)
  have q4:=txt_no (l:=[100,111]) hxx (by rw [ht];decide)
  have q5:=txt_no (l:=[102,111,114]) hxx (by rw [ht];decide)
  have q6:=txt_no (l:=[115,119,105,116,99,104]) hxx (by rw [ht];decide)
  have q7:=txt_no (l:=[98,114,101,97,107]) hxx (by rw [ht];decide)
  have q8:=txt_no (l:=[99,111,110,116,105,110,117,101]) hxx (by rw [ht];decide)
  have q9:=txt_no (l:=[114,101,116,117,114,110]) hxx (by rw [ht];decide)
  have q10:=txt_yes (l:=[59]) hxx ht
  have Hrr:Hid (r=_):=hrr
  clear ht ht' hxx hrr h
  go_enter Tryz.func248,Tryz.ntmps248
  go_wp2_with (go_at_call 75;refine hpk.mono ?_;rintro e w1 ⟨rfl,hb⟩)
  have hp1:=HP.out.below hb
  have hx1:=Ext.below hb hB
  have HNd:=Lib.hid (node_far (t:=58) (cs:=#[.int .i64 t.k,.string x,.int .i64 t.v,.int .i64 t.a]) hp1)
  have HX6:=Lib.hid (hx1.alloc hB (.cells #[.int .i64 t.k,.string x,.int .i64 t.v,.int .i64 t.a] 58))
  have HP6:=Lib.hid (hp1.alloc (.cells #[.int .i64 t.k,.string x,.int .i64 t.v,.int .i64 t.a] 58))
  clear hb hp1 hx1 hpk HP
  generalize w1.alloc (.cells #[.int .i64 t.k,.string x,.int .i64 t.v,.int .i64 t.a] 58)=W6 at *
  generalize w1.heap.size=g at *
  have N0:Hid (Now B T E s W6 W6):=Now.refl HP6.out
  clear HNd HP6
  have HW0:Hid (∀ W,Now B T E s W6 W→Calls Tryz.prog 77 #[.pointer (some ⟨B,0,none⟩),.string ⟨#[59]⟩] W fun e w'=>∃ g1 g2,e=.returned (.func (.func 133) #[] #[.pointer (some ⟨g1,0,none⟩),.pointer (some ⟨g2,0,none⟩)])∧Now B T E s W6 w'∧Ext B W w'∧StepV B T E w' (.func (.func 133) #[] #[.pointer (some ⟨g1,0,none⟩),.pointer (some ⟨g2,0,none⟩)]) (wordF E [59])):=fun W hW=>word_now hW ⟨#[59]⟩
  have HN:Hid (∀ W v1,Now B T E s W6 W→StepV B T E W v1 (wordF E [59])→Calls Tryz.prog 35 #[.slice (some ⟨W.heap.size,0,none⟩) 2 2] (W.alloc (.cells #[.func (.func 266) #[.pointer (some ⟨B,0,none⟩)] #[],v1] 70)) (Ends B T E W6 r)):=fun W v1 hW h1=>by
      have h:=turn_now hW [.func (.func 266) #[.pointer (some ⟨B,0,none⟩)] #[],v1] [nothingF E,wordF E [59]] rfl (by simp) (step2 (stepFn hnn ent177 W) (h1)) (by rw [← Hrr.out];exact HR.out) 70
      rw [← Hrr.out] at h
      exact h
  go_wp2_with (first | (go_at_call 77;first | ((with_reducible refine (HW0.out _ N0.out).mono ?_);rintro e w0_ ⟨q00,q01,rfl,hn0,hx0,hs0⟩)) | (go_at_call 35;refine (HN.out _ _ hn0 hs0).mono ?_;rintro e w9 ⟨v,rfl,hd,hx9⟩))
  all_goals
    have HD:=Lib.hid (did_ext hd HX6.out)
    clear hd hx9
    go_wp2
    (try go_ret)
    rw [HQ.out]
    exact HD.out

set_option maxHeartbeats 16000000 in
set_option maxRecDepth 100000 in
theorem act_effect {B T E:Nat}{ex:F3}(hef:FnC B T E 267 (effectF E ex)) {w:World}{s:S3}(h:Ps B T E w s) (hno:∀ l,l ∈ [[123],[105,110,116],[105,102],[119,104,105,108,101],[100,111],[102,111,114],[115,119,105,116,99,104],[98,114,101,97,107],[99,111,110,116,105,110,117,101],[114,101,116,117,114,110],[59]]→(pk E s.L).t≠l) (hr:seqF [effectF E ex,wordF E [59]] s≠.out):Calls Tryz.prog 248 #[.pointer (some ⟨B,0,none⟩)] w (Did B T E w (seqF [effectF E ex,wordF E [59]] s)):=by
  obtain ⟨r,hrr⟩ : ∃ r,r=seqF [effectF E ex,wordF E [59]] s:=⟨_,rfl⟩
  rw [← hrr] at hr ⊢
  obtain ⟨Q,hQ⟩ : ∃ Q:Ending→World→Prop,Q=Did B T E w r:=⟨_,rfl⟩
  rw [← hQ]
  have HQ:=Lib.hid hQ
  have HR:=Lib.hid hr
  have hB:=h.lt
  clear hQ hr
  have HP:=Lib.hid h
  have hpk:=peek_any h
  unfold tokV at hpk
  obtain ⟨t,ht'⟩ : ∃ t,t=pk E s.L:=⟨_,rfl⟩
  obtain ⟨x,hxx⟩ : ∃ x,x=bstr t.t:=⟨_,rfl⟩
  rw [← ht',← hxx] at hpk
  rw [← ht'] at hno
  (try rw [← ht'] at hrr)
  have q0:=txt_no (l:=[123]) hxx (hno _ (by simp))
  have q1:=txt_no (l:=[105,110,116]) hxx (hno _ (by simp))
  have q2:=txt_no (l:=[105,102]) hxx (hno _ (by simp))
  have q3:=txt_no (l:=[119,104,105,108,101]) hxx (hno _ (by simp))
  have q4:=txt_no (l:=[100,111]) hxx (hno _ (by simp))
  have q5:=txt_no (l:=[102,111,114]) hxx (hno _ (by simp))
  have q6:=txt_no (l:=[115,119,105,116,99,104]) hxx (hno _ (by simp))
  have q7:=txt_no (l:=[98,114,101,97,107]) hxx (hno _ (by simp))
  have q8:=txt_no (l:=[99,111,110,116,105,110,117,101]) hxx (hno _ (by simp))
  have q9:=txt_no (l:=[114,101,116,117,114,110]) hxx (hno _ (by simp))
  have q10:=txt_no (l:=[59]) hxx (hno _ (by simp))
  have Hrr:Hid (r=_):=hrr
  clear hno ht' hxx hrr h
  go_enter Tryz.func248,Tryz.ntmps248
  go_wp2_with (go_at_call 75;refine hpk.mono ?_;rintro e w1 ⟨rfl,hb⟩)
  have hp1:=HP.out.below hb
  have hx1:=Ext.below hb hB
  have HNd:=Lib.hid (node_far (t:=58) (cs:=#[.int .i64 t.k,.string x,.int .i64 t.v,.int .i64 t.a]) hp1)
  have HX6:=Lib.hid (hx1.alloc hB (.cells #[.int .i64 t.k,.string x,.int .i64 t.v,.int .i64 t.a] 58))
  have HP6:=Lib.hid (hp1.alloc (.cells #[.int .i64 t.k,.string x,.int .i64 t.v,.int .i64 t.a] 58))
  clear hb hp1 hx1 hpk HP
  generalize w1.alloc (.cells #[.int .i64 t.k,.string x,.int .i64 t.v,.int .i64 t.a] 58)=W6 at *
  generalize w1.heap.size=g at *
  have N0:Hid (Now B T E s W6 W6):=Now.refl HP6.out
  clear HNd HP6
  have HW0:Hid (∀ W,Now B T E s W6 W→Calls Tryz.prog 77 #[.pointer (some ⟨B,0,none⟩),.string ⟨#[59]⟩] W fun e w'=>∃ g1 g2,e=.returned (.func (.func 133) #[] #[.pointer (some ⟨g1,0,none⟩),.pointer (some ⟨g2,0,none⟩)])∧Now B T E s W6 w'∧Ext B W w'∧StepV B T E w' (.func (.func 133) #[] #[.pointer (some ⟨g1,0,none⟩),.pointer (some ⟨g2,0,none⟩)]) (wordF E [59])):=fun W hW=>word_now hW ⟨#[59]⟩
  have HN:Hid (∀ W v1,Now B T E s W6 W→StepV B T E W v1 (wordF E [59])→Calls Tryz.prog 35 #[.slice (some ⟨W.heap.size,0,none⟩) 2 2] (W.alloc (.cells #[.func (.func 267) #[.pointer (some ⟨B,0,none⟩)] #[],v1] 70)) (Ends B T E W6 r)):=fun W v1 hW h1=>by
      have h:=turn_now hW [.func (.func 267) #[.pointer (some ⟨B,0,none⟩)] #[],v1] [effectF E ex,wordF E [59]] rfl (by simp) (step2 (stepFn hef ent178 W) (h1)) (by rw [← Hrr.out];exact HR.out) 70
      rw [← Hrr.out] at h
      exact h
  go_wp2_with (first | (go_at_call 77;first | ((with_reducible refine (HW0.out _ N0.out).mono ?_);rintro e w0_ ⟨q00,q01,rfl,hn0,hx0,hs0⟩)) | (go_at_call 35;refine (HN.out _ _ hn0 hs0).mono ?_;rintro e w9 ⟨v,rfl,hd,hx9⟩))
  all_goals
    have HD:=Lib.hid (did_ext hd HX6.out)
    clear hd hx9
    go_wp2
    (try go_ret)
    rw [HQ.out]
    exact HD.out

theorem action_fn {B T E:Nat}{bl co ex:F3}(hbl:FnC B T E 224 bl) (hco:FnC B T E 264 co) (hlo:FnC B T E 263 (localF E ex)) (hto:FnC B T E 265 (toldF E ex)) (hnn:FnC B T E 266 (nothingF E)) (hef:FnC B T E 267 (effectF E ex)):FnC B T E 248 (actF E bl co ex):=fun w s h hr=>by
  unfold actF at hr ⊢
  by_cases h1:(pk E s.L).t=[123]
  · rw [if_pos h1] at hr ⊢;exact act_block hbl h h1 hr
  rw [if_neg h1] at hr ⊢
  by_cases h2:(pk E s.L).t=[105,110,116]
  · rw [if_pos h2] at hr ⊢;exact act_local hlo h h2 hr
  rw [if_neg h2] at hr ⊢
  by_cases h3:(pk E s.L).t=[105,102]∨(pk E s.L).t=[119,104,105,108,101]∨(pk E s.L).t=[100,111]∨(pk E s.L).t=[102,111,114]∨(pk E s.L).t=[115,119,105,116,99,104]
  · rw [if_pos h3] at hr ⊢
    rcases h3 with h3 | h3 | h3 | h3 | h3
    · exact act_if hco h h3 hr
    · exact act_while hco h h3 hr
    · exact act_do hco h h3 hr
    · exact act_for hco h h3 hr
    · exact act_switch hco h h3 hr
  rw [if_neg h3] at hr ⊢
  by_cases h4:(pk E s.L).t=[98,114,101,97,107]
  · rw [if_pos h4] at hr ⊢;exact act_break h h4 hr
  rw [if_neg h4] at hr ⊢
  by_cases h5:(pk E s.L).t=[99,111,110,116,105,110,117,101]
  · rw [if_pos h5] at hr ⊢;exact act_continue h h5 hr
  rw [if_neg h5] at hr ⊢
  by_cases h6:(pk E s.L).t=[114,101,116,117,114,110]
  · rw [if_pos h6] at hr ⊢;exact act_return hto h h6 hr
  rw [if_neg h6] at hr ⊢
  by_cases h7:(pk E s.L).t=[59]
  · rw [if_pos h7] at hr ⊢;exact act_semi hnn h h7 hr
  rw [if_neg h7] at hr ⊢
  refine act_effect hef h ?_ hr
  intro l hl e
  rw [e] at h1 h2 h3 h4 h5 h6 h7
  simp only [List.mem_cons,List.not_mem_nil,or_false] at hl
  rcases hl with hl | hl | hl | hl | hl | hl | hl | hl | hl | hl | hl <;> subst hl <;> simp_all
end
section
open Go.RowKit
open Tk (T4 bstr)
open Tr (Nd Blk KidsAt)

theorem step8 {B T E:Nat}{W:World}{v1 v2 v3 v4 v5 v6 v7 v8:Value}{f1 f2 f3 f4 f5 f6 f7 f8:F3}(h1:StepV B T E W v1 f1) (h2:StepV B T E W v2 f2) (h3:StepV B T E W v3 f3) (h4:StepV B T E W v4 f4) (h5:StepV B T E W v5 f5) (h6:StepV B T E W v6 f6) (h7:StepV B T E W v7 f7) (h8:StepV B T E W v8 f8):∀ j,(a:j < [v1,v2,v3,v4,v5,v6,v7,v8].length)→(b:j < [f1,f2,f3,f4,f5,f6,f7,f8].length)→StepV B T E W [v1,v2,v3,v4,v5,v6,v7,v8][j] [f1,f2,f3,f4,f5,f6,f7,f8][j]:=fun j a b=>by
  match j,a,b with
  | 0,_,_=>exact h1
  | 1,_,_=>exact h2
  | 2,_,_=>exact h3
  | 3,_,_=>exact h4
  | 4,_,_=>exact h5
  | 5,_,_=>exact h6
  | 6,_,_=>exact h7
  | 7,_,_=>exact h8

/-- compound, as the program has it -/
def elseF (E:Nat) (bo:F3):F3:=fun s=>if (pk E s.L).t=[101,108,115,101] then bo { s with L:=s.L.tail } else .ok s
def compF (E:Nat) (bo ex:F3) (fam:Nat→F3) (n:Nat):F3:=fun s =>
  if (pk E s.L).t=[105,102] then buildF (mk 14 [] 0 (pk E s.L).a) [conditionF E ex,bo,elseF E bo] { s with L:=s.L.tail }
  else if (pk E s.L).t=[119,104,105,108,101] then buildF (mk 15 [] 0 (pk E s.L).a) [conditionF E ex,bo] { s with L:=s.L.tail }
  else if (pk E s.L).t=[100,111] then buildF (mk 16 [] 0 (pk E s.L).a) [bo,wordF E [119,104,105,108,101],conditionF E ex,wordF E [59]] { s with L:=s.L.tail }
  else if (pk E s.L).t=[102,111,114] then buildF (mk 17 [] 0 (pk E s.L).a) [wordF E [40],startF E ex,wordF E [59],unlessF E [59] ex,wordF E [59],unlessF E [41] (effectF E ex),wordF E [41],bo] { s with L:=s.L.tail }
  else buildF (mk 18 [] 0 (pk E s.L).a) [conditionF E ex,bracedF E fam n] { s with L:=s.L.tail }

set_option maxHeartbeats 16000000 in
set_option maxRecDepth 100000 in
theorem comp_if {B T E:Nat}{bo ex:F3}(hco:FnC B T E 280 (conditionF E ex)) (hbo:FnC B T E 281 bo) (hel:FnC B T E 282 (elseF E bo)) {w:World}{s:S3}(h:Ps B T E w s) (ht:(pk E s.L).t=[105,102]) (hr:buildF (mk 14 [] 0 (pk E s.L).a) [conditionF E ex,bo,elseF E bo] { s with L:=s.L.tail }≠.out):Calls Tryz.prog 264 #[.pointer (some ⟨B,0,none⟩)] w (Did B T E w (buildF (mk 14 [] 0 (pk E s.L).a) [conditionF E ex,bo,elseF E bo] { s with L:=s.L.tail })):=by
  obtain ⟨r,hrr⟩ : ∃ r,r=buildF (mk 14 [] 0 (pk E s.L).a) [conditionF E ex,bo,elseF E bo] { s with L:=s.L.tail }:=⟨_,rfl⟩
  rw [← hrr] at hr ⊢
  obtain ⟨Q,hQ⟩ : ∃ Q:Ending→World→Prop,Q=Did B T E w r:=⟨_,rfl⟩
  rw [← hQ]
  have HQ:=Lib.hid hQ
  have HR:=Lib.hid hr
  have hB:=h.lt
  clear hQ hr
  have HP:=Lib.hid h
  have hpk:=take_any h
  unfold tokV at hpk
  obtain ⟨t,ht'⟩ : ∃ t,t=pk E s.L:=⟨_,rfl⟩
  obtain ⟨x,hxx⟩ : ∃ x,x=bstr t.t:=⟨_,rfl⟩
  rw [← ht',← hxx] at hpk
  rw [← ht'] at ht hrr
  have q0:=txt_yes (l:=[105,102]) hxx ht
  have Hrr:Hid (r=_):=hrr
  clear ht ht' hxx hrr h
  go_enter Tryz.func264,Tryz.ntmps264
  go_wp2_with (go_at_call 129;refine hpk.mono ?_;rintro e w1 ⟨rfl,hx1,hp1⟩)
  have hp2:=hp1.alloc (.cells #[.int .i64 t.k,.string x,.int .i64 t.v,.int .i64 t.a] 58)
  have hB2:=hp2.lt
  have hx2:=hx1.alloc hB (.cells #[.int .i64 t.k,.string x,.int .i64 t.v,.int .i64 t.a] 58)
  have hnd:=node_far (t:=34) (cs:=#[.int .i64 14,.string ⟨#[]⟩,.int .i64 0,.int .i64 0,.slice none 0 0,.int .i64 t.a]) hp2
  rw [World.size_alloc] at hnd
  have HNd:=Lib.hid hnd
  have HX6:=Lib.hid (hx2.alloc hB (.cells #[.int .i64 14,.string ⟨#[]⟩,.int .i64 0,.int .i64 0,.slice none 0 0,.int .i64 t.a] 34))
  have HP6:=Lib.hid (hp2.alloc (.cells #[.int .i64 14,.string ⟨#[]⟩,.int .i64 0,.int .i64 0,.slice none 0 0,.int .i64 t.a] 34))
  clear hp1 hx1 hp2 hx2 hpk HP hnd
  generalize (w1.alloc (.cells #[.int .i64 t.k,.string x,.int .i64 t.v,.int .i64 t.a] 58)).alloc (.cells #[.int .i64 14,.string ⟨#[]⟩,.int .i64 0,.int .i64 0,.slice none 0 0,.int .i64 t.a] 34)=W6 at *
  generalize w1.heap.size+1=g5 at *
  have HX0:Hid (Ext B w W6.drew):=HX6.out.drew
  have N0:Hid (Now B T E { s with L:=s.L.tail } W6.drew W6.drew):=Now.refl HP6.out.drew
  have S1:Hid (∀ W,Ext B W6.drew W→W.cell? ⟨g5,0,none⟩=some (.int .i64 14)∧W.cell? ⟨g5,1,none⟩=some (.string ⟨#[]⟩)∧W.cell? ⟨g5,2,none⟩=some (.int .i64 0)∧W.cell? ⟨g5,3,none⟩=some (.int .i64 0)∧W.cell? ⟨g5,4,none⟩=some (.slice none 0 0)∧W.cell? ⟨g5,5,none⟩=some (.int .i64 t.a)):=fun W hW=>(box6 (HNd.out W ((Ext.refl B W6).drew.trans hW))).1
  have S0:=Lib.hid (S1.out _ (Ext.refl _ _))
  clear HNd HX6 HP6

  go_wp2
  have HN:Hid (∀ W,Now B T E { s with L:=s.L.tail } W6.drew W→Calls Tryz.prog 70 #[.pointer (some ⟨B,2,none⟩),.agg #[.int .i64 14,.string ⟨#[]⟩,.int .i64 0,.int .i64 0,.slice none 0 0,.int .i64 t.a],.slice (some ⟨W.heap.size,0,none⟩) 3 3] (W.alloc (.cells #[.func (.func 280) #[.pointer (some ⟨B,0,none⟩)] #[],.func (.func 281) #[.pointer (some ⟨B,0,none⟩)] #[],.func (.func 282) #[.pointer (some ⟨B,0,none⟩)] #[]] 70)) (Ends B T E W6.drew r)):=fun W hW=>by
      have h:=build_now hW [.func (.func 280) #[.pointer (some ⟨B,0,none⟩)] #[],.func (.func 281) #[.pointer (some ⟨B,0,none⟩)] #[],.func (.func 282) #[.pointer (some ⟨B,0,none⟩)] #[]] [conditionF E ex,bo,elseF E bo] rfl (by simp) (step3 (stepFn hco ent188 W) (stepFn hbo ent189 W) (stepFn hel ent190 W)) (mk 14 [] 0 t.a) rfl (by rw [← Hrr.out];exact HR.out) 70
      rw [← Hrr.out] at h
      exact h
  go_region_held3 (fun W=>W.cell? ⟨g5,0,none⟩=some (.int .i64 14)∧W.cell? ⟨g5,1,none⟩=some (.string ⟨#[]⟩)∧W.cell? ⟨g5,2,none⟩=some (.int .i64 0)∧W.cell? ⟨g5,3,none⟩=some (.int .i64 0)∧W.cell? ⟨g5,4,none⟩=some (.slice none 0 0)∧W.cell? ⟨g5,5,none⟩=some (.int .i64 t.a))
    (first | exact S0.out | exact S1.out _ (N0.out.alloc _).1 | exact S1.out _ hx9)
    (first | (go_at_call 70;refine (HN.out _  N0.out).mono ?_;rintro e w9 ⟨v,rfl,hd,hx9⟩))
  all_goals
    have HD:=Lib.hid (did_ext hd HX0.out)
    clear hd hx9
    go_wp2
    (try go_ret)
    rw [HQ.out]
    exact HD.out

set_option maxHeartbeats 16000000 in
set_option maxRecDepth 100000 in
theorem comp_while {B T E:Nat}{bo ex:F3}(hco:FnC B T E 280 (conditionF E ex)) (hbo:FnC B T E 281 bo) {w:World}{s:S3}(h:Ps B T E w s) (ht:(pk E s.L).t=[119,104,105,108,101]) (hr:buildF (mk 15 [] 0 (pk E s.L).a) [conditionF E ex,bo] { s with L:=s.L.tail }≠.out):Calls Tryz.prog 264 #[.pointer (some ⟨B,0,none⟩)] w (Did B T E w (buildF (mk 15 [] 0 (pk E s.L).a) [conditionF E ex,bo] { s with L:=s.L.tail })):=by
  obtain ⟨r,hrr⟩ : ∃ r,r=buildF (mk 15 [] 0 (pk E s.L).a) [conditionF E ex,bo] { s with L:=s.L.tail }:=⟨_,rfl⟩
  rw [← hrr] at hr ⊢
  obtain ⟨Q,hQ⟩ : ∃ Q:Ending→World→Prop,Q=Did B T E w r:=⟨_,rfl⟩
  rw [← hQ]
  have HQ:=Lib.hid hQ
  have HR:=Lib.hid hr
  have hB:=h.lt
  clear hQ hr
  have HP:=Lib.hid h
  have hpk:=take_any h
  unfold tokV at hpk
  obtain ⟨t,ht'⟩ : ∃ t,t=pk E s.L:=⟨_,rfl⟩
  obtain ⟨x,hxx⟩ : ∃ x,x=bstr t.t:=⟨_,rfl⟩
  rw [← ht',← hxx] at hpk
  rw [← ht'] at ht hrr
  have q0:=txt_no (l:=[105,102]) hxx (by rw [ht];decide)
  have q1:=txt_yes (l:=[119,104,105,108,101]) hxx ht
  have Hrr:Hid (r=_):=hrr
  clear ht ht' hxx hrr h
  go_enter Tryz.func264,Tryz.ntmps264
  go_wp2_with (go_at_call 129;refine hpk.mono ?_;rintro e w1 ⟨rfl,hx1,hp1⟩)
  have hp2:=hp1.alloc (.cells #[.int .i64 t.k,.string x,.int .i64 t.v,.int .i64 t.a] 58)
  have hB2:=hp2.lt
  have hx2:=hx1.alloc hB (.cells #[.int .i64 t.k,.string x,.int .i64 t.v,.int .i64 t.a] 58)
  have hnd:=node_far (t:=34) (cs:=#[.int .i64 15,.string ⟨#[]⟩,.int .i64 0,.int .i64 0,.slice none 0 0,.int .i64 t.a]) hp2
  rw [World.size_alloc] at hnd
  have HNd:=Lib.hid hnd
  have HX6:=Lib.hid (hx2.alloc hB (.cells #[.int .i64 15,.string ⟨#[]⟩,.int .i64 0,.int .i64 0,.slice none 0 0,.int .i64 t.a] 34))
  have HP6:=Lib.hid (hp2.alloc (.cells #[.int .i64 15,.string ⟨#[]⟩,.int .i64 0,.int .i64 0,.slice none 0 0,.int .i64 t.a] 34))
  clear hp1 hx1 hp2 hx2 hpk HP hnd
  generalize (w1.alloc (.cells #[.int .i64 t.k,.string x,.int .i64 t.v,.int .i64 t.a] 58)).alloc (.cells #[.int .i64 15,.string ⟨#[]⟩,.int .i64 0,.int .i64 0,.slice none 0 0,.int .i64 t.a] 34)=W6 at *
  generalize w1.heap.size+1=g5 at *
  have HX0:Hid (Ext B w W6.drew):=HX6.out.drew
  have N0:Hid (Now B T E { s with L:=s.L.tail } W6.drew W6.drew):=Now.refl HP6.out.drew
  have S1:Hid (∀ W,Ext B W6.drew W→W.cell? ⟨g5,0,none⟩=some (.int .i64 15)∧W.cell? ⟨g5,1,none⟩=some (.string ⟨#[]⟩)∧W.cell? ⟨g5,2,none⟩=some (.int .i64 0)∧W.cell? ⟨g5,3,none⟩=some (.int .i64 0)∧W.cell? ⟨g5,4,none⟩=some (.slice none 0 0)∧W.cell? ⟨g5,5,none⟩=some (.int .i64 t.a)):=fun W hW=>(box6 (HNd.out W ((Ext.refl B W6).drew.trans hW))).1
  have S0:=Lib.hid (S1.out _ (Ext.refl _ _))
  clear HNd HX6 HP6

  go_wp2
  have HN:Hid (∀ W,Now B T E { s with L:=s.L.tail } W6.drew W→Calls Tryz.prog 70 #[.pointer (some ⟨B,2,none⟩),.agg #[.int .i64 15,.string ⟨#[]⟩,.int .i64 0,.int .i64 0,.slice none 0 0,.int .i64 t.a],.slice (some ⟨W.heap.size,0,none⟩) 2 2] (W.alloc (.cells #[.func (.func 280) #[.pointer (some ⟨B,0,none⟩)] #[],.func (.func 281) #[.pointer (some ⟨B,0,none⟩)] #[]] 70)) (Ends B T E W6.drew r)):=fun W hW=>by
      have h:=build_now hW [.func (.func 280) #[.pointer (some ⟨B,0,none⟩)] #[],.func (.func 281) #[.pointer (some ⟨B,0,none⟩)] #[]] [conditionF E ex,bo] rfl (by simp) (step2 (stepFn hco ent188 W) (stepFn hbo ent189 W)) (mk 15 [] 0 t.a) rfl (by rw [← Hrr.out];exact HR.out) 70
      rw [← Hrr.out] at h
      exact h
  go_region_held3 (fun W=>W.cell? ⟨g5,0,none⟩=some (.int .i64 15)∧W.cell? ⟨g5,1,none⟩=some (.string ⟨#[]⟩)∧W.cell? ⟨g5,2,none⟩=some (.int .i64 0)∧W.cell? ⟨g5,3,none⟩=some (.int .i64 0)∧W.cell? ⟨g5,4,none⟩=some (.slice none 0 0)∧W.cell? ⟨g5,5,none⟩=some (.int .i64 t.a))
    (first | exact S0.out | exact S1.out _ (N0.out.alloc _).1 | exact S1.out _ hx9)
    (first | (go_at_call 70;refine (HN.out _  N0.out).mono ?_;rintro e w9 ⟨v,rfl,hd,hx9⟩))
  all_goals
    have HD:=Lib.hid (did_ext hd HX0.out)
    clear hd hx9
    go_wp2
    (try go_ret)
    rw [HQ.out]
    exact HD.out

set_option maxHeartbeats 16000000 in
set_option maxRecDepth 100000 in
theorem comp_do {B T E:Nat}{bo ex:F3}(hco:FnC B T E 280 (conditionF E ex)) (hbo:FnC B T E 281 bo) {w:World}{s:S3}(h:Ps B T E w s) (ht:(pk E s.L).t=[100,111]) (hr:buildF (mk 16 [] 0 (pk E s.L).a) [bo,wordF E [119,104,105,108,101],conditionF E ex,wordF E [59]] { s with L:=s.L.tail }≠.out):Calls Tryz.prog 264 #[.pointer (some ⟨B,0,none⟩)] w (Did B T E w (buildF (mk 16 [] 0 (pk E s.L).a) [bo,wordF E [119,104,105,108,101],conditionF E ex,wordF E [59]] { s with L:=s.L.tail })):=by
  obtain ⟨r,hrr⟩ : ∃ r,r=buildF (mk 16 [] 0 (pk E s.L).a) [bo,wordF E [119,104,105,108,101],conditionF E ex,wordF E [59]] { s with L:=s.L.tail }:=⟨_,rfl⟩
  rw [← hrr] at hr ⊢
  obtain ⟨Q,hQ⟩ : ∃ Q:Ending→World→Prop,Q=Did B T E w r:=⟨_,rfl⟩
  rw [← hQ]
  have HQ:=Lib.hid hQ
  have HR:=Lib.hid hr
  have hB:=h.lt
  clear hQ hr
  have HP:=Lib.hid h
  have hpk:=take_any h
  unfold tokV at hpk
  obtain ⟨t,ht'⟩ : ∃ t,t=pk E s.L:=⟨_,rfl⟩
  obtain ⟨x,hxx⟩ : ∃ x,x=bstr t.t:=⟨_,rfl⟩
  rw [← ht',← hxx] at hpk
  rw [← ht'] at ht hrr
  have q0:=txt_no (l:=[105,102]) hxx (by rw [ht];decide)
  have q1:=txt_no (l:=[119,104,105,108,101]) hxx (by rw [ht];decide)
  have q2:=txt_yes (l:=[100,111]) hxx ht
  have Hrr:Hid (r=_):=hrr
  clear ht ht' hxx hrr h
  go_enter Tryz.func264,Tryz.ntmps264
  go_wp2_with (go_at_call 129;refine hpk.mono ?_;rintro e w1 ⟨rfl,hx1,hp1⟩)
  have hp2:=hp1.alloc (.cells #[.int .i64 t.k,.string x,.int .i64 t.v,.int .i64 t.a] 58)
  have hB2:=hp2.lt
  have hx2:=hx1.alloc hB (.cells #[.int .i64 t.k,.string x,.int .i64 t.v,.int .i64 t.a] 58)
  have hnd:=node_far (t:=34) (cs:=#[.int .i64 16,.string ⟨#[]⟩,.int .i64 0,.int .i64 0,.slice none 0 0,.int .i64 t.a]) hp2
  rw [World.size_alloc] at hnd
  have HNd:=Lib.hid hnd
  have HX6:=Lib.hid (hx2.alloc hB (.cells #[.int .i64 16,.string ⟨#[]⟩,.int .i64 0,.int .i64 0,.slice none 0 0,.int .i64 t.a] 34))
  have HP6:=Lib.hid (hp2.alloc (.cells #[.int .i64 16,.string ⟨#[]⟩,.int .i64 0,.int .i64 0,.slice none 0 0,.int .i64 t.a] 34))
  clear hp1 hx1 hp2 hx2 hpk HP hnd
  generalize (w1.alloc (.cells #[.int .i64 t.k,.string x,.int .i64 t.v,.int .i64 t.a] 58)).alloc (.cells #[.int .i64 16,.string ⟨#[]⟩,.int .i64 0,.int .i64 0,.slice none 0 0,.int .i64 t.a] 34)=W6 at *
  generalize w1.heap.size+1=g5 at *
  have HX0:Hid (Ext B w W6.drew):=HX6.out.drew
  have N0:Hid (Now B T E { s with L:=s.L.tail } W6.drew W6.drew):=Now.refl HP6.out.drew
  have S1:Hid (∀ W,Ext B W6.drew W→W.cell? ⟨g5,0,none⟩=some (.int .i64 16)∧W.cell? ⟨g5,1,none⟩=some (.string ⟨#[]⟩)∧W.cell? ⟨g5,2,none⟩=some (.int .i64 0)∧W.cell? ⟨g5,3,none⟩=some (.int .i64 0)∧W.cell? ⟨g5,4,none⟩=some (.slice none 0 0)∧W.cell? ⟨g5,5,none⟩=some (.int .i64 t.a)):=fun W hW=>(box6 (HNd.out W ((Ext.refl B W6).drew.trans hW))).1
  have S0:=Lib.hid (S1.out _ (Ext.refl _ _))
  clear HNd HX6 HP6

  go_wp2
  have HW0:Hid (∀ W,Now B T E { s with L:=s.L.tail } W6.drew W→Calls Tryz.prog 77 #[.pointer (some ⟨B,0,none⟩),.string ⟨#[119,104,105,108,101]⟩] W fun e w'=>∃ g1 g2,e=.returned (.func (.func 133) #[] #[.pointer (some ⟨g1,0,none⟩),.pointer (some ⟨g2,0,none⟩)])∧Now B T E { s with L:=s.L.tail } W6.drew w'∧Ext B W w'∧StepV B T E w' (.func (.func 133) #[] #[.pointer (some ⟨g1,0,none⟩),.pointer (some ⟨g2,0,none⟩)]) (wordF E [119,104,105,108,101])):=fun W hW=>word_now hW ⟨#[119,104,105,108,101]⟩
  have HW1:Hid (∀ W,Now B T E { s with L:=s.L.tail } W6.drew W→Calls Tryz.prog 77 #[.pointer (some ⟨B,0,none⟩),.string ⟨#[59]⟩] W fun e w'=>∃ g1 g2,e=.returned (.func (.func 133) #[] #[.pointer (some ⟨g1,0,none⟩),.pointer (some ⟨g2,0,none⟩)])∧Now B T E { s with L:=s.L.tail } W6.drew w'∧Ext B W w'∧StepV B T E w' (.func (.func 133) #[] #[.pointer (some ⟨g1,0,none⟩),.pointer (some ⟨g2,0,none⟩)]) (wordF E [59])):=fun W hW=>word_now hW ⟨#[59]⟩
  have HN:Hid (∀ W v1 v3,Now B T E { s with L:=s.L.tail } W6.drew W→StepV B T E W v1 (wordF E [119,104,105,108,101])→StepV B T E W v3 (wordF E [59])→Calls Tryz.prog 70 #[.pointer (some ⟨B,2,none⟩),.agg #[.int .i64 16,.string ⟨#[]⟩,.int .i64 0,.int .i64 0,.slice none 0 0,.int .i64 t.a],.slice (some ⟨W.heap.size,0,none⟩) 4 4] (W.alloc (.cells #[.func (.func 281) #[.pointer (some ⟨B,0,none⟩)] #[],v1,.func (.func 280) #[.pointer (some ⟨B,0,none⟩)] #[],v3] 70)) (Ends B T E W6.drew r)):=fun W v1 v3 hW h1 h3=>by
      have h:=build_now hW [.func (.func 281) #[.pointer (some ⟨B,0,none⟩)] #[],v1,.func (.func 280) #[.pointer (some ⟨B,0,none⟩)] #[],v3] [bo,wordF E [119,104,105,108,101],conditionF E ex,wordF E [59]] rfl (by simp) (step4 (stepFn hbo ent189 W) (h1) (stepFn hco ent188 W) (h3)) (mk 16 [] 0 t.a) rfl (by rw [← Hrr.out];exact HR.out) 70
      rw [← Hrr.out] at h
      exact h
  go_region_held3 (fun W=>W.cell? ⟨g5,0,none⟩=some (.int .i64 16)∧W.cell? ⟨g5,1,none⟩=some (.string ⟨#[]⟩)∧W.cell? ⟨g5,2,none⟩=some (.int .i64 0)∧W.cell? ⟨g5,3,none⟩=some (.int .i64 0)∧W.cell? ⟨g5,4,none⟩=some (.slice none 0 0)∧W.cell? ⟨g5,5,none⟩=some (.int .i64 t.a))
    (first | exact S0.out | exact S1.out _ hn0.1 | exact S1.out _ hn1.1 | exact S1.out _ (hn1.alloc _).1 | exact S1.out _ hx9)
    (first | (go_at_call 77;first | ((with_reducible refine (HW0.out _ N0.out).mono ?_);rintro e w0_ ⟨q00,q01,rfl,hn0,hx0,hs0⟩) | ((with_reducible refine (HW1.out _ hn0).mono ?_);rintro e w1_ ⟨q10,q11,rfl,hn1,hx1,hs1⟩)) | (go_at_call 70;refine (HN.out _ _ _ hn1 (StepV.ext hs0 hx1) hs1).mono ?_;rintro e w9 ⟨v,rfl,hd,hx9⟩))
  all_goals
    have HD:=Lib.hid (did_ext hd HX0.out)
    clear hd hx9
    go_wp2
    (try go_ret)
    rw [HQ.out]
    exact HD.out
end
section
open Go.RowKit
open Tk (T4 bstr)
open Tr (Nd Blk KidsAt)

set_option maxHeartbeats 16000000 in
set_option maxRecDepth 100000 in
theorem comp_switch {B T E:Nat}{n:Nat}{ex:F3}{fam:Nat→F3}(hco:FnC B T E 280 (conditionF E ex)) (hit:∀ m,m<n→FnC B T E 285 (fam m)) {w:World}{s:S3}(h:Ps B T E w s) (hno:∀ l,l ∈ [[105,102],[119,104,105,108,101],[100,111],[102,111,114]]→(pk E s.L).t≠l) (hr:buildF (mk 18 [] 0 (pk E s.L).a) [conditionF E ex,bracedF E fam n] { s with L:=s.L.tail }≠.out):Calls Tryz.prog 264 #[.pointer (some ⟨B,0,none⟩)] w (Did B T E w (buildF (mk 18 [] 0 (pk E s.L).a) [conditionF E ex,bracedF E fam n] { s with L:=s.L.tail })):=by
  obtain ⟨r,hrr⟩ : ∃ r,r=buildF (mk 18 [] 0 (pk E s.L).a) [conditionF E ex,bracedF E fam n] { s with L:=s.L.tail }:=⟨_,rfl⟩
  rw [← hrr] at hr ⊢
  obtain ⟨Q,hQ⟩ : ∃ Q:Ending→World→Prop,Q=Did B T E w r:=⟨_,rfl⟩
  rw [← hQ]
  have HQ:=Lib.hid hQ
  have HR:=Lib.hid hr
  have hB:=h.lt
  clear hQ hr
  have HP:=Lib.hid h
  have hpk:=take_any h
  unfold tokV at hpk
  obtain ⟨t,ht'⟩ : ∃ t,t=pk E s.L:=⟨_,rfl⟩
  obtain ⟨x,hxx⟩ : ∃ x,x=bstr t.t:=⟨_,rfl⟩
  rw [← ht',← hxx] at hpk
  rw [← ht'] at hno hrr
  have q0:=txt_no (l:=[105,102]) hxx (hno _ (by simp))
  have q1:=txt_no (l:=[119,104,105,108,101]) hxx (hno _ (by simp))
  have q2:=txt_no (l:=[100,111]) hxx (hno _ (by simp))
  have q3:=txt_no (l:=[102,111,114]) hxx (hno _ (by simp))
  have Hrr:Hid (r=_):=hrr
  clear hno ht' hxx hrr h
  go_enter Tryz.func264,Tryz.ntmps264
  go_wp2_with (go_at_call 129;refine hpk.mono ?_;rintro e w1 ⟨rfl,hx1,hp1⟩)
  have hp2:=hp1.alloc (.cells #[.int .i64 t.k,.string x,.int .i64 t.v,.int .i64 t.a] 58)
  have hB2:=hp2.lt
  have hx2:=hx1.alloc hB (.cells #[.int .i64 t.k,.string x,.int .i64 t.v,.int .i64 t.a] 58)
  have hnd:=node_far (t:=34) (cs:=#[.int .i64 18,.string ⟨#[]⟩,.int .i64 0,.int .i64 0,.slice none 0 0,.int .i64 t.a]) hp2
  rw [World.size_alloc] at hnd
  have HNd:=Lib.hid hnd
  have HX6:=Lib.hid (hx2.alloc hB (.cells #[.int .i64 18,.string ⟨#[]⟩,.int .i64 0,.int .i64 0,.slice none 0 0,.int .i64 t.a] 34))
  have HP6:=Lib.hid (hp2.alloc (.cells #[.int .i64 18,.string ⟨#[]⟩,.int .i64 0,.int .i64 0,.slice none 0 0,.int .i64 t.a] 34))
  clear hp1 hx1 hp2 hx2 hpk HP hnd
  generalize (w1.alloc (.cells #[.int .i64 t.k,.string x,.int .i64 t.v,.int .i64 t.a] 58)).alloc (.cells #[.int .i64 18,.string ⟨#[]⟩,.int .i64 0,.int .i64 0,.slice none 0 0,.int .i64 t.a] 34)=W6 at *
  generalize w1.heap.size+1=g5 at *
  have HX0:Hid (Ext B w W6.drew):=HX6.out.drew
  have N0:Hid (Now B T E { s with L:=s.L.tail } W6.drew W6.drew):=Now.refl HP6.out.drew
  have S1:Hid (∀ W,Ext B W6.drew W→W.cell? ⟨g5,0,none⟩=some (.int .i64 18)∧W.cell? ⟨g5,1,none⟩=some (.string ⟨#[]⟩)∧W.cell? ⟨g5,2,none⟩=some (.int .i64 0)∧W.cell? ⟨g5,3,none⟩=some (.int .i64 0)∧W.cell? ⟨g5,4,none⟩=some (.slice none 0 0)∧W.cell? ⟨g5,5,none⟩=some (.int .i64 t.a)):=fun W hW=>(box6 (HNd.out W ((Ext.refl B W6).drew.trans hW))).1
  have S0:=Lib.hid (S1.out _ (Ext.refl _ _))
  clear HNd HX6 HP6

  go_wp2
  have HW0:Hid (∀ W,Now B T E { s with L:=s.L.tail } W6.drew W→Calls Tryz.prog 247 #[.pointer (some ⟨B,0,none⟩),.func (.func 285) #[.pointer (some ⟨B,0,none⟩)] #[]] W fun e w'=>∃ g1 g2,e=.returned (.func (.func 262) #[] #[.pointer (some ⟨g1,0,none⟩),.pointer (some ⟨g2,0,none⟩)])∧Now B T E { s with L:=s.L.tail } W6.drew w'∧Ext B W w'∧StepV B T E w' (.func (.func 262) #[] #[.pointer (some ⟨g1,0,none⟩),.pointer (some ⟨g2,0,none⟩)]) (bracedF E fam n)):=fun W hW=>braced_now hW fam 285 ent193 hit
  have HN:Hid (∀ W v1,Now B T E { s with L:=s.L.tail } W6.drew W→StepV B T E W v1 (bracedF E fam n)→Calls Tryz.prog 70 #[.pointer (some ⟨B,2,none⟩),.agg #[.int .i64 18,.string ⟨#[]⟩,.int .i64 0,.int .i64 0,.slice none 0 0,.int .i64 t.a],.slice (some ⟨W.heap.size,0,none⟩) 2 2] (W.alloc (.cells #[.func (.func 280) #[.pointer (some ⟨B,0,none⟩)] #[],v1] 70)) (Ends B T E W6.drew r)):=fun W v1 hW h1=>by
      have h:=build_now hW [.func (.func 280) #[.pointer (some ⟨B,0,none⟩)] #[],v1] [conditionF E ex,bracedF E fam n] rfl (by simp) (step2 (stepFn hco ent188 W) (h1)) (mk 18 [] 0 t.a) rfl (by rw [← Hrr.out];exact HR.out) 70
      rw [← Hrr.out] at h
      exact h
  go_region_held3 (fun W=>W.cell? ⟨g5,0,none⟩=some (.int .i64 18)∧W.cell? ⟨g5,1,none⟩=some (.string ⟨#[]⟩)∧W.cell? ⟨g5,2,none⟩=some (.int .i64 0)∧W.cell? ⟨g5,3,none⟩=some (.int .i64 0)∧W.cell? ⟨g5,4,none⟩=some (.slice none 0 0)∧W.cell? ⟨g5,5,none⟩=some (.int .i64 t.a))
    (first | exact S0.out | exact S1.out _ hn0.1 | exact S1.out _ (hn0.alloc _).1 | exact S1.out _ hx9)
    (first | (go_at_call 247;first | ((with_reducible refine (HW0.out _ N0.out).mono ?_);rintro e w0_ ⟨q00,q01,rfl,hn0,hx0,hs0⟩)) | (go_at_call 70;refine (HN.out _ _ hn0 hs0).mono ?_;rintro e w9 ⟨v,rfl,hd,hx9⟩))
  all_goals
    have HD:=Lib.hid (did_ext hd HX0.out)
    clear hd hx9
    go_wp2
    (try go_ret)
    rw [HQ.out]
    exact HD.out
end
end Go.Proofs.YtdjpopebeenlmaaGreatDoor
