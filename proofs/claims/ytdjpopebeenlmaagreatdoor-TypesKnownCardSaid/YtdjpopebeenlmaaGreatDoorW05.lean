/-
  Joined texts of this claim: TkShelf.
-/
import Derived.Test.YtdjpopebeenlmaaGreatDoorW00
import Derived.Shelf.LaysM
import Derived.Shelf.Strconv.Clone
import Derived.Shelf.Strconv.Lower
import Derived.Shelf.Strconv.RangeError
import Derived.Shelf.LaysC
import Derived.Shelf.Strconv.ToErrorRange
import Derived.Shelf.Strings.Search1
import Derived.Shelf.Strings.Search2
import Derived.Shelf.Strings.Search3
import Derived.Shelf.Strings.Shaped
import Derived.Shelf.Strings.Prefix
import Derived.Shelf.Slices.Equal
import Derived.Test.YtdjpopebeenlmaaGreatDoorProg
set_option maxHeartbeats 40000000
set_option maxRecDepth 100000
set_option linter.unusedVariables false
set_option linter.unusedSimpArgs false
namespace Go.Proofs.YtdjpopebeenlmaaGreatDoor
end Go.Proofs.YtdjpopebeenlmaaGreatDoor
namespace Go.Proofs
open Go.Shelf
def Tryz.laysM316_ren:Go.Shelf.Ren:=⟨fun | 316=>220 | n=>n,fun | 9=>9 | 3=>3 | 4=>4 | 37=>133 | 0=>0 | 127=>169 | 5=>5 | n=>n,fun | n=>n⟩
theorem Tryz.laysM316:Go.Proofs.LaysM.n316 Tryz.prog Tryz.laysM316_ren:={
  mixed:=by kernel_rfl
  f316:=Tryz.func220.trans (congrArg some (by kernel_rfl))
  t0:=Tryz.underlying0
  a0:=Tryz.isAgg0
  z0:=Tryz.sizeOf0
  v0:=Tryz.zeroValue0
  t3:=Tryz.underlying3
  a3:=Tryz.isAgg3
  z3:=Tryz.sizeOf3
  v3:=Tryz.zeroValue3
  t4:=Tryz.underlying4
  a4:=Tryz.isAgg4
  z4:=Tryz.sizeOf4
  v4:=Tryz.zeroValue4
  t9:=Tryz.underlying9
  a9:=Tryz.isAgg9
  z9:=Tryz.sizeOf9
  v9:=Tryz.zeroValue9
  t37:=Tryz.underlying133
  a37:=Tryz.isAgg133
  z37:=Tryz.sizeOf133
  v37:=Tryz.zeroValue133
  t127:=Tryz.underlying169
  a127:=Tryz.isAgg169
  z127:=Tryz.sizeOf169
  v127:=Tryz.zeroValue169
  t5:=Tryz.underlying5
  a5:=Tryz.isAgg5
  z5:=Tryz.sizeOf5
  v5:=Tryz.zeroValue5
  i0:=by kernel_rfl
  i3:=by kernel_rfl
  i4:=by kernel_rfl
  i5:=by kernel_rfl
  i9:=by kernel_rfl
  i37:=by kernel_rfl
  i127:=by kernel_rfl }
open Go.RowKit in
/-- internal/stringslite.Clone (what strings.Clone calls): "Clone returns a fresh copy of s.": THE SAME BYTES. Of what was there nothing has turned (a new row is laid, and frozen, where s is not empty). (LAID: no walk: one application.) -/
theorem Tryz.stringslite_Clone (s:ByteArray) (w:World) (hlim:s.size≤281474976710656) :
    Calls Tryz.prog 220 #[.string s] w fun e w'=>e=.returned (.string s)∧Below w.heap.size w w':=Any.stringslite_Clone Tryz.laysM316 s w hlim
def Tryz.lays321_ren:Go.Shelf.Ren:=⟨fun | 321=>273 | n=>n,fun | 5=>5 | n=>n,fun | n=>n⟩
theorem Tryz.lays321:Go.Proofs.Lays.n321 Tryz.prog Tryz.lays321_ren:={
  mixed:=by kernel_rfl
  f321:=Tryz.func273.trans (congrArg some (by kernel_rfl))
  t5:=Tryz.underlying5
  a5:=Tryz.isAgg5
  z5:=Tryz.sizeOf5
  v5:=Tryz.zeroValue5 }
open Go.RowKit in
/-- internal/strconv.lower: 'c | ('x' - 'X')': the bit 32 set. The world is as it was. (LAID: no walk: one application.) -/
theorem Tryz.internal_strconv_lower (c:Int) (w:World) :
    Calls Tryz.prog 273 #[.int .u8 c] w fun e w'=>e=.returned (.int .u8 (bits .or .u8 c 32))∧w' = w:=Any.internal_strconv_lower Tryz.lays321 c w
def Tryz.laysC245_ren:Go.Shelf.Ren:=⟨fun | 245=>242 | 279=>256 | 280=>257 | 281=>258 | 282=>259 | 316=>220 | 171=>163 | 205=>275 | 243=>209 | 246=>240 | 283=>251 | 284=>252 | 285=>253 | 286=>254 | 129=>269 | 317=>268 | 318=>270 | 319=>271 | 320=>272 | 337=>286 | 338=>287 | n=>n,fun | 9=>9 | 3=>3 | 75=>68 | 167=>233 | 4=>4 | 168=>237 | 210=>247 | 37=>133 | 0=>0 | 127=>169 | 145=>254 | 143=>252 | 2=>2 | 171=>227 | 53=>228 | 5=>5 | 173=>231 | 212=>241 | 51=>242 | 20=>20 | 213=>243 | 46=>236 | 232=>257 | 233=>258 | 80=>140 | n=>n,fun | 15=>3 | 16=>4 | 17=>2 | 18=>5 | 19=>6 | n=>n⟩
theorem Tryz.laysC245:Go.Proofs.LaysC.n245 Tryz.prog Tryz.laysC245_ren:={
  mixed:=by kernel_rfl
  f129:=Tryz.func269.trans (congrArg some (by kernel_rfl))
  f171:=Tryz.func163.trans (congrArg some (by kernel_rfl))
  f205:=Tryz.func275.trans (congrArg some (by kernel_rfl))
  f243:=Tryz.func209.trans (congrArg some (by kernel_rfl))
  f245:=Tryz.func242.trans (congrArg some (by kernel_rfl))
  f246:=Tryz.func240.trans (congrArg some (by kernel_rfl))
  f279:=Tryz.func256.trans (congrArg some (by kernel_rfl))
  f280:=Tryz.func257.trans (congrArg some (by kernel_rfl))
  f281:=Tryz.func258.trans (congrArg some (by kernel_rfl))
  f282:=Tryz.func259.trans (congrArg some (by kernel_rfl))
  f283:=Tryz.func251.trans (congrArg some (by kernel_rfl))
  f284:=Tryz.func252.trans (congrArg some (by kernel_rfl))
  f285:=Tryz.func253.trans (congrArg some (by kernel_rfl))
  f286:=Tryz.func254.trans (congrArg some (by kernel_rfl))
  f316:=Tryz.func220.trans (congrArg some (by kernel_rfl))
  f317:=Tryz.func268.trans (congrArg some (by kernel_rfl))
  f318:=Tryz.func270.trans (congrArg some (by kernel_rfl))
  f319:=Tryz.func271.trans (congrArg some (by kernel_rfl))
  f320:=Tryz.func272.trans (congrArg some (by kernel_rfl))
  f337:=Tryz.func286.trans (congrArg some (by kernel_rfl))
  f338:=Tryz.func287.trans (congrArg some (by kernel_rfl))
  t0:=Tryz.underlying0
  a0:=Tryz.isAgg0
  z0:=Tryz.sizeOf0
  v0:=Tryz.zeroValue0
  t2:=Tryz.underlying2
  a2:=Tryz.isAgg2
  z2:=Tryz.sizeOf2
  v2:=Tryz.zeroValue2
  t3:=Tryz.underlying3
  a3:=Tryz.isAgg3
  z3:=Tryz.sizeOf3
  v3:=Tryz.zeroValue3
  t4:=Tryz.underlying4
  a4:=Tryz.isAgg4
  z4:=Tryz.sizeOf4
  v4:=Tryz.zeroValue4
  t5:=Tryz.underlying5
  a5:=Tryz.isAgg5
  z5:=Tryz.sizeOf5
  v5:=Tryz.zeroValue5
  t9:=Tryz.underlying9
  a9:=Tryz.isAgg9
  z9:=Tryz.sizeOf9
  v9:=Tryz.zeroValue9
  t20:=Tryz.underlying20
  a20:=Tryz.isAgg20
  z20:=Tryz.sizeOf20
  v20:=Tryz.zeroValue20
  t37:=Tryz.underlying133
  a37:=Tryz.isAgg133
  z37:=Tryz.sizeOf133
  v37:=Tryz.zeroValue133
  t46:=Tryz.underlying236
  a46:=Tryz.isAgg236
  z46:=Tryz.sizeOf236
  v46:=Tryz.zeroValue236
  t51:=Tryz.underlying242
  a51:=Tryz.isAgg242
  z51:=Tryz.sizeOf242
  v51:=Tryz.zeroValue242
  t53:=Tryz.underlying228
  a53:=Tryz.isAgg228
  z53:=Tryz.sizeOf228
  v53:=Tryz.zeroValue228
  t75:=Tryz.underlying68
  a75:=Tryz.isAgg68
  z75:=Tryz.sizeOf68
  v75:=Tryz.zeroValue68
  t127:=Tryz.underlying169
  a127:=Tryz.isAgg169
  z127:=Tryz.sizeOf169
  v127:=Tryz.zeroValue169
  t143:=Tryz.underlying252
  a143:=Tryz.isAgg252
  z143:=Tryz.sizeOf252
  v143:=Tryz.zeroValue252
  t145:=Tryz.underlying254
  a145:=Tryz.isAgg254
  z145:=Tryz.sizeOf254
  v145:=Tryz.zeroValue254
  t167:=Tryz.underlying233
  a167:=Tryz.isAgg233
  z167:=Tryz.sizeOf233
  v167:=Tryz.zeroValue233
  t168:=Tryz.underlying237
  a168:=Tryz.isAgg237
  z168:=Tryz.sizeOf237
  v168:=Tryz.zeroValue237
  t171:=Tryz.underlying227
  a171:=Tryz.isAgg227
  z171:=Tryz.sizeOf227
  v171:=Tryz.zeroValue227
  t173:=Tryz.underlying231
  a173:=Tryz.isAgg231
  z173:=Tryz.sizeOf231
  v173:=Tryz.zeroValue231
  t210:=Tryz.underlying247
  a210:=Tryz.isAgg247
  z210:=Tryz.sizeOf247
  v210:=Tryz.zeroValue247
  t212:=Tryz.underlying241
  a212:=Tryz.isAgg241
  z212:=Tryz.sizeOf241
  v212:=Tryz.zeroValue241
  t213:=Tryz.underlying243
  a213:=Tryz.isAgg243
  z213:=Tryz.sizeOf243
  t232:=Tryz.underlying257
  a232:=Tryz.isAgg257
  z232:=Tryz.sizeOf257
  v232:=Tryz.zeroValue257
  t233:=Tryz.underlying258
  a233:=Tryz.isAgg258
  z233:=Tryz.sizeOf258
  v233:=Tryz.zeroValue258
  g15:=by kernel_rfl
  g16:=by kernel_rfl
  g17:=by kernel_rfl
  g18:=by kernel_rfl
  g19:=by kernel_rfl
  t80:=Tryz.underlying140
  a80:=Tryz.isAgg140
  z80:=Tryz.sizeOf140
  v80:=Tryz.zeroValue140
  i0:=by kernel_rfl
  i2:=by kernel_rfl
  i3:=by kernel_rfl
  i4:=by kernel_rfl
  i5:=by kernel_rfl
  i9:=by kernel_rfl
  i20:=by kernel_rfl
  i37:=by kernel_rfl
  i46:=by kernel_rfl
  i51:=by kernel_rfl
  i53:=by kernel_rfl
  i75:=by kernel_rfl
  i80:=by kernel_rfl
  i127:=by kernel_rfl
  i143:=by kernel_rfl
  i145:=by kernel_rfl
  i167:=by kernel_rfl
  i168:=by kernel_rfl
  i171:=by kernel_rfl
  i173:=by kernel_rfl
  i210:=by kernel_rfl
  i212:=by kernel_rfl
  i232:=by kernel_rfl
  i233:=by kernel_rfl
  m15:=by kernel_rfl
  m16:=by kernel_rfl
  m17:=by kernel_rfl
  m18:=by kernel_rfl
  m19:=by kernel_rfl
  c0:=by kernel_rfl
  c2:=by kernel_rfl
  c3:=by kernel_rfl
  c4:=by kernel_rfl
  c5:=by kernel_rfl
  c9:=by kernel_rfl
  c20:=by kernel_rfl
  c37:=by kernel_rfl
  c46:=by kernel_rfl
  c51:=by kernel_rfl
  c53:=by kernel_rfl
  c75:=by kernel_rfl
  c80:=by kernel_rfl
  c127:=by kernel_rfl
  c143:=by kernel_rfl
  c145:=by kernel_rfl
  c167:=by kernel_rfl
  c168:=by kernel_rfl
  c171:=by kernel_rfl
  c173:=by kernel_rfl
  c210:=by kernel_rfl
  c212:=by kernel_rfl
  c213:=by kernel_rfl
  c232:=by kernel_rfl
  c233:=by kernel_rfl }
open Go.RowKit in
/-- strconv.toError, at the inner package's ErrRange: 'rangeError(fn, s)' as an error: A *NumError IN A NEW BLOCK. (LAID: no walk: one application.) -/
theorem Tryz.strconv_toError_range (fn s:ByteArray) (base bits:Int) (ev:Value) (w:World) (hlim:s.size≤281474976710656) (hv:w.cell? ⟨4,0,none⟩=some ev) (hev:ev=.nilIface∨∃ te pe,ev=.iface te pe) :
    Calls Tryz.prog 242 #[.string fn,.string s,.int .i64 base,.int .i64 bits,.iface 233 (.int .i64 1)] w fun e w'=>∃ N,e=.returned (.iface 237 (.pointer (some ⟨N,0,none⟩)))∧w.heap.size≤N∧w'.heap[N]? = some (.cells #[.string fn,.string s,ev] 247 (0,0))∧Below w.heap.size w w':=Any.strconv_toError_range Tryz.laysC245 fn s base bits ev w hlim hv hev
def Tryz.laysM143_ren:Go.Shelf.Ren:=⟨fun | 143=>245 | 219=>261 | 217=>276 | 225=>277 | 224=>278 | 267=>279 | 266=>288 | 314=>289 | n=>n,fun | 9=>9 | 3=>3 | 4=>4 | 5=>5 | 46=>236 | 146=>255 | 51=>242 | n=>n,fun | 1=>1 | n=>n⟩
theorem Tryz.laysM143:Go.Proofs.LaysM.n143 Tryz.prog Tryz.laysM143_ren:={
  mixed:=by kernel_rfl
  f143:=Tryz.func245.trans (congrArg some (by kernel_rfl))
  f217:=Tryz.func276.trans (congrArg some (by kernel_rfl))
  f219:=Tryz.func261.trans (congrArg some (by kernel_rfl))
  f224:=Tryz.func278.trans (congrArg some (by kernel_rfl))
  f225:=Tryz.func277.trans (congrArg some (by kernel_rfl))
  f266:=Tryz.func288.trans (congrArg some (by kernel_rfl))
  f267:=Tryz.func279.trans (congrArg some (by kernel_rfl))
  f314:=Tryz.func289.trans (congrArg some (by kernel_rfl))
  t3:=Tryz.underlying3
  a3:=Tryz.isAgg3
  z3:=Tryz.sizeOf3
  v3:=Tryz.zeroValue3
  t4:=Tryz.underlying4
  a4:=Tryz.isAgg4
  z4:=Tryz.sizeOf4
  v4:=Tryz.zeroValue4
  t5:=Tryz.underlying5
  a5:=Tryz.isAgg5
  z5:=Tryz.sizeOf5
  v5:=Tryz.zeroValue5
  t9:=Tryz.underlying9
  a9:=Tryz.isAgg9
  z9:=Tryz.sizeOf9
  v9:=Tryz.zeroValue9
  t46:=Tryz.underlying236
  a46:=Tryz.isAgg236
  z46:=Tryz.sizeOf236
  v46:=Tryz.zeroValue236
  t51:=Tryz.underlying242
  a51:=Tryz.isAgg242
  z51:=Tryz.sizeOf242
  v51:=Tryz.zeroValue242
  t146:=Tryz.underlying255
  a146:=Tryz.isAgg255
  z146:=Tryz.sizeOf255
  v146:=Tryz.zeroValue255
  g1:=by kernel_rfl
  i3:=by kernel_rfl
  i4:=by kernel_rfl
  i5:=by kernel_rfl
  i9:=by kernel_rfl
  i46:=by kernel_rfl
  i51:=by kernel_rfl
  i146:=by kernel_rfl
  m1:=by kernel_rfl
  s1_3:=fun w h=>Go.Proofs.cell_of_shapedOpen_int (zero:=#[.int .i64 0]) (t:=3) h (of_decide_eq_true (by kernel_rfl)) (by kernel_rfl) rfl (by kernel_rfl) (by kernel_rfl) Tryz.underlying3 }
open Go.RowKit Go.Lib in
theorem Tryz.strings_Index_shaped (s sub:ByteArray) (w:World) (h:w.ShapedOpen Tryz.prog) (hs:s.size<4294967281) :
    Calls Tryz.prog 245 #[.string s,.string sub] w fun e w'=>e=.returned (.int .i64 (Lib.index s.data.toList sub.data.toList))∧w' = w:=Any.strings_Index_shaped Tryz.laysM143 s sub w h hs
def Tryz.lays99_ren:Go.Shelf.Ren:=⟨fun | 99=>243 | 206=>260 | n=>n,fun | 9=>9 | 4=>4 | 3=>3 | n=>n,fun | n=>n⟩
theorem Tryz.lays99:Go.Proofs.Lays.n99 Tryz.prog Tryz.lays99_ren:={
  mixed:=by kernel_rfl
  f99:=Tryz.func243.trans (congrArg some (by kernel_rfl))
  f206:=Tryz.func260.trans (congrArg some (by kernel_rfl))
  t3:=Tryz.underlying3
  a3:=Tryz.isAgg3
  z3:=Tryz.sizeOf3
  v3:=Tryz.zeroValue3
  t4:=Tryz.underlying4
  a4:=Tryz.isAgg4
  z4:=Tryz.sizeOf4
  v4:=Tryz.zeroValue4
  t9:=Tryz.underlying9
  a9:=Tryz.isAgg9
  z9:=Tryz.sizeOf9
  v9:=Tryz.zeroValue9 }
open Go.RowKit Go.Lib in
/-- strings.HasPrefix: "HasPrefix reports whether the string s begins with prefix.": IT RETURNS 'Lib.hasPrefix s prefix'; the world is as it was. (LAID: no walk: one application.) -/
theorem Tryz.strings_HasPrefix (s p:ByteArray) (w:World) :
    Calls Tryz.prog 243 #[.string s,.string p] w fun e w'=>e=.returned (.bool (Lib.hasPrefix s.data.toList p.data.toList))∧w' = w:=Any.strings_HasPrefix Tryz.lays99 s p w
end Go.Proofs
namespace Go.Proofs.YtdjpopebeenlmaaGreatDoor
end Go.Proofs.YtdjpopebeenlmaaGreatDoor
