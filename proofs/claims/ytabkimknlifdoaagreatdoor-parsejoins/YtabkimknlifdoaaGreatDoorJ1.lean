/- Pieces of the proof: USh, Hide, UA, Fmt, UM. -/
import Derived.Shelf.Strings.Builder1
import Derived.Shelf.Strings.Builder2
import Derived.Shelf.Strings.Trim
import Derived.Shelf.Small.Utf8
import Derived.Shelf.Small.Strs
import Derived.Shelf.Strings.BuilderF
import Derived.Shelf.Strconv.Itoa0
import Derived.Shelf.Strconv.Itoa1
import Derived.Shelf.LaysM
import Derived.Shelf.Strconv.Itoa2
import Derived.Shelf.Strconv.Itoa3
import Derived.Shelf.Strconv.Clone
import Derived.Shelf.Strconv.SyntaxError
import Derived.Shelf.LaysC
import Derived.Shelf.Strconv.ToError
import Derived.Shelf.Strconv.RangeError
import Derived.Shelf.Strconv.ToErrorRange
import Derived.Shelf.Strings.Search1
import Derived.Shelf.Strings.Search2
import Derived.Shelf.Strings.Search3
import Derived.Shelf.Strings.Cut
import Derived.Shelf.Strings.Shaped
import Derived.Shelf.Strings.Prefix
import Derived.Shelf.Strings.Runes
import Derived.Shelf.Strings.AsciiSet
import Derived.Shelf.Bits.Mul64
import Derived.Shelf.Strings.Repeat
import Derived.Shelf.Unicode.DecodeSlow
import Derived.Test.YtabkimknlifdoaaGreatDoorProg
import Derived.WalkKit
import Derived.Lib.ConvBytes
import Derived.Laws.BitsAllLaws
import Derived.Lib.Strings
import Derived.Laws.Strings3
import Derived.Laws.Closers25
import Derived.Laws.Closers25b
import Derived.BigCall
import Derived.BigGuard
import Derived.Lib.SlBytesConst
import Derived.Lib.ItoaNum
namespace Go.Proofs
open Go.Shelf
def Tryz.lays137_ren:Go.Shelf.Ren:=⟨fun | 137=>75 | 217=>123 | 266=>171 | n=>n,fun | 9=>9 | 5=>5 | 3=>3 | n=>n,fun | n=>n⟩
theorem Tryz.lays137:Go.Proofs.Lays.n137 Tryz.prog Tryz.lays137_ren:={
 mixed:=by kernel_rfl
 f137:=Tryz.func75.trans (congrArg some (by kernel_rfl))
 f217:=Tryz.func123.trans (congrArg some (by kernel_rfl))
 f266:=Tryz.func171.trans (congrArg some (by kernel_rfl))
 t3:=Tryz.underlying3
 a3:=Tryz.isAgg3
 z3:=Tryz.sizeOf3
 v3:=Tryz.zeroValue3
 t5:=Tryz.underlying5
 a5:=Tryz.isAgg5
 z5:=Tryz.sizeOf5
 v5:=Tryz.zeroValue5
 t9:=Tryz.underlying9
 a9:=Tryz.isAgg9
 z9:=Tryz.sizeOf9
 v9:=Tryz.zeroValue9 }
open Go.RowKit in
theorem Tryz.strings_IndexByte (s:ByteArray) (c:Int) (w:World) :
  Calls Tryz.prog 75 #[.string s,.int .u8 c] w fun e w'=>e=.returned (.int .i64 (Lib.indexByte s.data.toList c.toNat.toUInt8))∧w'=w:=Any.strings_IndexByte Tryz.lays137 s c w
def Tryz.lays283_ren:Go.Shelf.Ren:=⟨fun | 283=>181 | n=>n,fun | 3=>3 | 9=>9 | 4=>4 | n=>n,fun | n=>n⟩
theorem Tryz.lays283:Go.Proofs.Lays.n283 Tryz.prog Tryz.lays283_ren:={
 mixed:=by kernel_rfl
 f283:=Tryz.func181.trans (congrArg some (by kernel_rfl))
 t3:=Tryz.underlying3
 a3:=Tryz.isAgg3
 z3:=Tryz.sizeOf3
 v3:=Tryz.zeroValue3
 t4:=Tryz.underlying4
 a4:=Tryz.isAgg4
 z4:=Tryz.sizeOf4
 v4:=Tryz.zeroValue4
 t9:=Tryz.underlying9
 a9:=Tryz.isAgg9
 z9:=Tryz.sizeOf9
 v9:=Tryz.zeroValue9 }
open Go.Lib in
theorem Tryz.internal_strconv_small (i:Nat) (h:i < 100) (w:World) :
  Calls Tryz.prog 181 #[.int .i64 i] w fun e w'=>e=.returned (.string ⟨(Lib.decDigits i).toArray⟩)∧w'=w:=Any.internal_strconv_small Tryz.lays283 i h w
def Tryz.laysM284_ren:Go.Shelf.Ren:=⟨fun | 284=>182 | 129=>220 | 317=>219 | 318=>221 | n=>n,fun | 53=>33 | 3=>3 | 212=>242 | 0=>0 | 4=>4 | 46=>170 | 5=>5 | 9=>9 | n=>n,fun | 17=>2 | n=>n⟩
theorem Tryz.laysM284:Go.Proofs.LaysM.n284 Tryz.prog Tryz.laysM284_ren:={
 mixed:=by kernel_rfl
 f129:=Tryz.func220.trans (congrArg some (by kernel_rfl))
 f284:=Tryz.func182.trans (congrArg some (by kernel_rfl))
 f317:=Tryz.func219.trans (congrArg some (by kernel_rfl))
 f318:=Tryz.func221.trans (congrArg some (by kernel_rfl))
 t0:=Tryz.underlying0
 a0:=Tryz.isAgg0
 z0:=Tryz.sizeOf0
 v0:=Tryz.zeroValue0
 t3:=Tryz.underlying3
 a3:=Tryz.isAgg3
 z3:=Tryz.sizeOf3
 v3:=Tryz.zeroValue3
 t4:=Tryz.underlying4
 a4:=Tryz.isAgg4
 z4:=Tryz.sizeOf4
 v4:=Tryz.zeroValue4
 t5:=Tryz.underlying5
 a5:=Tryz.isAgg5
 z5:=Tryz.sizeOf5
 v5:=Tryz.zeroValue5
 t9:=Tryz.underlying9
 a9:=Tryz.isAgg9
 z9:=Tryz.sizeOf9
 v9:=Tryz.zeroValue9
 t46:=Tryz.underlying170
 a46:=Tryz.isAgg170
 z46:=Tryz.sizeOf170
 v46:=Tryz.zeroValue170
 t53:=Tryz.underlying33
 a53:=Tryz.isAgg33
 z53:=Tryz.sizeOf33
 v53:=Tryz.zeroValue33
 t212:=Tryz.underlying242
 a212:=Tryz.isAgg242
 z212:=Tryz.sizeOf242
 v212:=Tryz.zeroValue242
 g17:=by kernel_rfl
 i0:=by kernel_rfl
 i3:=by kernel_rfl
 i4:=by kernel_rfl
 i5:=by kernel_rfl
 i9:=by kernel_rfl
 i46:=by kernel_rfl
 i53:=by kernel_rfl
 i212:=by kernel_rfl
 m17:=by kernel_rfl }
open Go.Lib in
theorem Tryz.internal_strconv_numDigits (u : Nat) (h1 : 1 ≤ u) (h2 : u < 18446744073709551616) (w : World) (htab : Lib.TabIs Tryz.prog w "internal/strconv.uint64pow10" .u64 Lib.pow10Tab) :
  Calls Tryz.prog 182 #[.int .u64 u] w fun e w'=>e=.returned (.int .i64 (Lib.nDigits u))∧w'=w:=Any.internal_strconv_numDigits Tryz.laysM284 u h1 h2 w htab
def Tryz.lays285_ren:Go.Shelf.Ren:=⟨fun | 285=>183 | n=>n,fun | 37=>174 | 53=>33 | 3=>3 | 4=>4 | 51=>210 | 9=>9 | 5=>5 | 0=>0 | n=>n,fun | n=>n⟩
theorem Tryz.lays285:Go.Proofs.Lays.n285 Tryz.prog Tryz.lays285_ren:={
 mixed:=by kernel_rfl
 f285:=Tryz.func183.trans (congrArg some (by kernel_rfl))
 t0:=Tryz.underlying0
 a0:=Tryz.isAgg0
 z0:=Tryz.sizeOf0
 v0:=Tryz.zeroValue0
 t3:=Tryz.underlying3
 a3:=Tryz.isAgg3
 z3:=Tryz.sizeOf3
 v3:=Tryz.zeroValue3
 t4:=Tryz.underlying4
 a4:=Tryz.isAgg4
 z4:=Tryz.sizeOf4
 v4:=Tryz.zeroValue4
 t5:=Tryz.underlying5
 a5:=Tryz.isAgg5
 z5:=Tryz.sizeOf5
 v5:=Tryz.zeroValue5
 t9:=Tryz.underlying9
 a9:=Tryz.isAgg9
 z9:=Tryz.sizeOf9
 v9:=Tryz.zeroValue9
 t37:=Tryz.underlying174
 a37:=Tryz.isAgg174
 z37:=Tryz.sizeOf174
 v37:=Tryz.zeroValue174
 t51:=Tryz.underlying210
 a51:=Tryz.isAgg210
 z51:=Tryz.sizeOf210
 v51:=Tryz.zeroValue210
 t53:=Tryz.underlying33
 a53:=Tryz.isAgg33
 z53:=Tryz.sizeOf33
 v53:=Tryz.zeroValue33 }
open Go.RowKit Go.Sort Go.Lib in
theorem Tryz.internal_strconv_formatBase10 (blk off cap:Nat) (u:Nat) (d:Array UInt8) (w:World) (hH:Holds (fun (b:UInt8)=>Value.int .u8 (b.toNat:Int)) w blk off d) (hu:u < 10 ^ d.size) (hu64:u < 18446744073709551616) (hsz:d.size < 4611686018427387904) :
  Calls Tryz.prog 183 #[.slice (some ⟨blk,off,none⟩) d.size cap,.int .u64 u] w fun e w' =>
   e=.returned (.tuple #[])∧∃ (n v':Nat) (dk:Array UInt8),w'=(putRow (fun (b:UInt8)=>Value.int .u8 (b.toNat:Int)) w blk off dk).drewN n∧FmtInv d.size u 0 v' dk:=Any.internal_strconv_formatBase10 Tryz.lays285 blk off cap u d w hH hu hu64 hsz
def Tryz.laysM171_ren:Go.Shelf.Ren:=⟨fun | 171=>39 | 243=>87 | 246=>136 | 283=>181 | 284=>182 | 285=>183 | 286=>184 | 129=>220 | 317=>219 | 318=>221 | 319=>222 | 320=>223 | 337=>236 | 338=>237 | n=>n,fun | 3=>3 | 9=>9 | 2=>2 | 4=>4 | 171=>205 | 0=>0 | 53=>33 | 37=>174 | 5=>5 | 173=>208 | 212=>242 | 51=>210 | 20=>20 | 213=>243 | 46=>170 | 232=>266 | 233=>267 | n=>n,fun | 17=>2 | 18=>8 | 19=>9 | n=>n⟩
theorem Tryz.laysM171:Go.Proofs.LaysM.n171 Tryz.prog Tryz.laysM171_ren:={
 mixed:=by kernel_rfl
 f129:=Tryz.func220.trans (congrArg some (by kernel_rfl))
 f171:=Tryz.func39.trans (congrArg some (by kernel_rfl))
 f243:=Tryz.func87.trans (congrArg some (by kernel_rfl))
 f246:=Tryz.func136.trans (congrArg some (by kernel_rfl))
 f283:=Tryz.func181.trans (congrArg some (by kernel_rfl))
 f284:=Tryz.func182.trans (congrArg some (by kernel_rfl))
 f285:=Tryz.func183.trans (congrArg some (by kernel_rfl))
 f286:=Tryz.func184.trans (congrArg some (by kernel_rfl))
 f317:=Tryz.func219.trans (congrArg some (by kernel_rfl))
 f318:=Tryz.func221.trans (congrArg some (by kernel_rfl))
 f319:=Tryz.func222.trans (congrArg some (by kernel_rfl))
 f320:=Tryz.func223.trans (congrArg some (by kernel_rfl))
 f337:=Tryz.func236.trans (congrArg some (by kernel_rfl))
 f338:=Tryz.func237.trans (congrArg some (by kernel_rfl))
 t0:=Tryz.underlying0
 a0:=Tryz.isAgg0
 z0:=Tryz.sizeOf0
 v0:=Tryz.zeroValue0
 t2:=Tryz.underlying2
 a2:=Tryz.isAgg2
 z2:=Tryz.sizeOf2
 v2:=Tryz.zeroValue2
 t3:=Tryz.underlying3
 a3:=Tryz.isAgg3
 z3:=Tryz.sizeOf3
 v3:=Tryz.zeroValue3
 t4:=Tryz.underlying4
 a4:=Tryz.isAgg4
 z4:=Tryz.sizeOf4
 v4:=Tryz.zeroValue4
 t5:=Tryz.underlying5
 a5:=Tryz.isAgg5
 z5:=Tryz.sizeOf5
 v5:=Tryz.zeroValue5
 t9:=Tryz.underlying9
 a9:=Tryz.isAgg9
 z9:=Tryz.sizeOf9
 v9:=Tryz.zeroValue9
 t20:=Tryz.underlying20
 a20:=Tryz.isAgg20
 z20:=Tryz.sizeOf20
 v20:=Tryz.zeroValue20
 t37:=Tryz.underlying174
 a37:=Tryz.isAgg174
 z37:=Tryz.sizeOf174
 v37:=Tryz.zeroValue174
 t46:=Tryz.underlying170
 a46:=Tryz.isAgg170
 z46:=Tryz.sizeOf170
 v46:=Tryz.zeroValue170
 t51:=Tryz.underlying210
 a51:=Tryz.isAgg210
 z51:=Tryz.sizeOf210
 v51:=Tryz.zeroValue210
 t53:=Tryz.underlying33
 a53:=Tryz.isAgg33
 z53:=Tryz.sizeOf33
 v53:=Tryz.zeroValue33
 t171:=Tryz.underlying205
 a171:=Tryz.isAgg205
 z171:=Tryz.sizeOf205
 v171:=Tryz.zeroValue205
 t173:=Tryz.underlying208
 a173:=Tryz.isAgg208
 z173:=Tryz.sizeOf208
 v173:=Tryz.zeroValue208
 t212:=Tryz.underlying242
 a212:=Tryz.isAgg242
 z212:=Tryz.sizeOf242
 v212:=Tryz.zeroValue242
 t213:=Tryz.underlying243
 a213:=Tryz.isAgg243
 z213:=Tryz.sizeOf243
 t232:=Tryz.underlying266
 a232:=Tryz.isAgg266
 z232:=Tryz.sizeOf266
 v232:=Tryz.zeroValue266
 t233:=Tryz.underlying267
 a233:=Tryz.isAgg267
 z233:=Tryz.sizeOf267
 v233:=Tryz.zeroValue267
 g17:=by kernel_rfl
 g18:=by kernel_rfl
 g19:=by kernel_rfl
 i0:=by kernel_rfl
 i2:=by kernel_rfl
 i3:=by kernel_rfl
 i4:=by kernel_rfl
 i5:=by kernel_rfl
 i9:=by kernel_rfl
 i20:=by kernel_rfl
 i37:=by kernel_rfl
 i46:=by kernel_rfl
 i51:=by kernel_rfl
 i53:=by kernel_rfl
 i171:=by kernel_rfl
 i173:=by kernel_rfl
 i212:=by kernel_rfl
 i232:=by kernel_rfl
 i233:=by kernel_rfl
 m17:=by kernel_rfl
 m18:=by kernel_rfl
 m19:=by kernel_rfl }
open Go.RowKit Go.Sort Go.Lib in
theorem Tryz.strconv_Itoa (n : Int) (h0 : -9223372036854775808 ≤ n) (h1 : n ≤ 9223372036854775807) (w : World) (htab : Lib.TabIs Tryz.prog w "internal/strconv.uint64pow10" .u64 Lib.pow10Tab) :
  Calls Tryz.prog 39 #[.int .i64 n] w fun e w'=>e=.returned (.string ⟨(Lib.itoa n).toArray⟩)∧∃ k os,w'=grow (w.drewN k) os:=Any.strconv_Itoa Tryz.laysM171 n h0 h1 w htab
def Tryz.laysM316_ren:Go.Shelf.Ren:=⟨fun | 316=>172 | n=>n,fun | 9=>9 | 3=>3 | 4=>4 | 37=>174 | 0=>0 | 127=>215 | 5=>5 | n=>n,fun | n=>n⟩
theorem Tryz.laysM316:Go.Proofs.LaysM.n316 Tryz.prog Tryz.laysM316_ren:={
 mixed:=by kernel_rfl
 f316:=Tryz.func172.trans (congrArg some (by kernel_rfl))
 t0:=Tryz.underlying0
 a0:=Tryz.isAgg0
 z0:=Tryz.sizeOf0
 v0:=Tryz.zeroValue0
 t3:=Tryz.underlying3
 a3:=Tryz.isAgg3
 z3:=Tryz.sizeOf3
 v3:=Tryz.zeroValue3
 t4:=Tryz.underlying4
 a4:=Tryz.isAgg4
 z4:=Tryz.sizeOf4
 v4:=Tryz.zeroValue4
 t9:=Tryz.underlying9
 a9:=Tryz.isAgg9
 z9:=Tryz.sizeOf9
 v9:=Tryz.zeroValue9
 t37:=Tryz.underlying174
 a37:=Tryz.isAgg174
 z37:=Tryz.sizeOf174
 v37:=Tryz.zeroValue174
 t127:=Tryz.underlying215
 a127:=Tryz.isAgg215
 z127:=Tryz.sizeOf215
 v127:=Tryz.zeroValue215
 t5:=Tryz.underlying5
 a5:=Tryz.isAgg5
 z5:=Tryz.sizeOf5
 v5:=Tryz.zeroValue5
 i0:=by kernel_rfl
 i3:=by kernel_rfl
 i4:=by kernel_rfl
 i5:=by kernel_rfl
 i9:=by kernel_rfl
 i37:=by kernel_rfl
 i127:=by kernel_rfl }
open Go.RowKit in
theorem Tryz.stringslite_Clone (s:ByteArray) (w:World) (hlim:s.size≤281474976710656) :
  Calls Tryz.prog 172 #[.string s] w fun e w'=>e=.returned (.string s)∧Below w.heap.size w w':=Any.stringslite_Clone Tryz.laysM316 s w hlim
def Tryz.laysM279_ren:Go.Shelf.Ren:=⟨fun | 279=>213 | 316=>172 | n=>n,fun | 9=>9 | 168=>235 | 75=>163 | 210=>260 | 3=>3 | 4=>4 | 37=>174 | 0=>0 | 127=>215 | 80=>129 | 5=>5 | n=>n,fun | 15=>6 | n=>n⟩
theorem Tryz.laysM279:Go.Proofs.LaysM.n279 Tryz.prog Tryz.laysM279_ren:={
 mixed:=by kernel_rfl
 f279:=Tryz.func213.trans (congrArg some (by kernel_rfl))
 f316:=Tryz.func172.trans (congrArg some (by kernel_rfl))
 t0:=Tryz.underlying0
 a0:=Tryz.isAgg0
 z0:=Tryz.sizeOf0
 v0:=Tryz.zeroValue0
 t3:=Tryz.underlying3
 a3:=Tryz.isAgg3
 z3:=Tryz.sizeOf3
 v3:=Tryz.zeroValue3
 t4:=Tryz.underlying4
 a4:=Tryz.isAgg4
 z4:=Tryz.sizeOf4
 v4:=Tryz.zeroValue4
 t9:=Tryz.underlying9
 a9:=Tryz.isAgg9
 z9:=Tryz.sizeOf9
 v9:=Tryz.zeroValue9
 t37:=Tryz.underlying174
 a37:=Tryz.isAgg174
 z37:=Tryz.sizeOf174
 v37:=Tryz.zeroValue174
 t75:=Tryz.underlying163
 a75:=Tryz.isAgg163
 z75:=Tryz.sizeOf163
 v75:=Tryz.zeroValue163
 t127:=Tryz.underlying215
 a127:=Tryz.isAgg215
 z127:=Tryz.sizeOf215
 v127:=Tryz.zeroValue215
 t168:=Tryz.underlying235
 a168:=Tryz.isAgg235
 z168:=Tryz.sizeOf235
 v168:=Tryz.zeroValue235
 t210:=Tryz.underlying260
 a210:=Tryz.isAgg260
 z210:=Tryz.sizeOf260
 v210:=Tryz.zeroValue260
 g15:=by kernel_rfl
 t5:=Tryz.underlying5
 a5:=Tryz.isAgg5
 z5:=Tryz.sizeOf5
 v5:=Tryz.zeroValue5
 t80:=Tryz.underlying129
 a80:=Tryz.isAgg129
 z80:=Tryz.sizeOf129
 v80:=Tryz.zeroValue129
 i0:=by kernel_rfl
 i3:=by kernel_rfl
 i4:=by kernel_rfl
 i5:=by kernel_rfl
 i9:=by kernel_rfl
 i37:=by kernel_rfl
 i75:=by kernel_rfl
 i80:=by kernel_rfl
 i127:=by kernel_rfl
 i168:=by kernel_rfl
 i210:=by kernel_rfl
 m15:=by kernel_rfl }
open Go.RowKit in
theorem Tryz.strconv_syntaxError (fn s:ByteArray) (ev:Value) (w:World) (hlim:s.size≤281474976710656) (hv:w.cell? ⟨6,0,none⟩=some ev) (hev:ev=.nilIface ∨ ∃ te pe,ev=.iface te pe) :
  Calls Tryz.prog 213 #[.string fn,.string s] w fun e w'=>∃ N,e=.returned (.pointer (some ⟨N,0,none⟩))∧w.heap.size≤N∧w'.heap[N]? = some (.cells #[.string fn,.string s,ev] 260 (0,0))∧Below w.heap.size w w':=Any.strconv_syntaxError Tryz.laysM279 fn s ev w hlim hv hev
def Tryz.laysC245_ren:Go.Shelf.Ren:=⟨fun | 245=>179 | 279=>213 | 280=>214 | 281=>215 | 282=>216 | 316=>172 | 171=>39 | 205=>234 | 243=>87 | 246=>136 | 283=>181 | 284=>182 | 285=>183 | 286=>184 | 129=>220 | 317=>219 | 318=>221 | 319=>222 | 320=>223 | 337=>236 | 338=>237 | n=>n,fun | 9=>9 | 3=>3 | 75=>163 | 167=>233 | 4=>4 | 168=>235 | 210=>260 | 37=>174 | 0=>0 | 127=>215 | 145=>265 | 143=>263 | 2=>2 | 171=>205 | 53=>33 | 5=>5 | 173=>208 | 212=>242 | 51=>210 | 20=>20 | 213=>243 | 46=>170 | 232=>266 | 233=>267 | 80=>129 | n=>n,fun | 15=>6 | 16=>7 | 17=>2 | 18=>8 | 19=>9 | n=>n⟩
theorem Tryz.laysC245:Go.Proofs.LaysC.n245 Tryz.prog Tryz.laysC245_ren:={
 mixed:=by kernel_rfl
 f129:=Tryz.func220.trans (congrArg some (by kernel_rfl))
 f171:=Tryz.func39.trans (congrArg some (by kernel_rfl))
 f205:=Tryz.func234.trans (congrArg some (by kernel_rfl))
 f243:=Tryz.func87.trans (congrArg some (by kernel_rfl))
 f245:=Tryz.func179.trans (congrArg some (by kernel_rfl))
 f246:=Tryz.func136.trans (congrArg some (by kernel_rfl))
 f279:=Tryz.func213.trans (congrArg some (by kernel_rfl))
 f280:=Tryz.func214.trans (congrArg some (by kernel_rfl))
 f281:=Tryz.func215.trans (congrArg some (by kernel_rfl))
 f282:=Tryz.func216.trans (congrArg some (by kernel_rfl))
 f283:=Tryz.func181.trans (congrArg some (by kernel_rfl))
 f284:=Tryz.func182.trans (congrArg some (by kernel_rfl))
 f285:=Tryz.func183.trans (congrArg some (by kernel_rfl))
 f286:=Tryz.func184.trans (congrArg some (by kernel_rfl))
 f316:=Tryz.func172.trans (congrArg some (by kernel_rfl))
 f317:=Tryz.func219.trans (congrArg some (by kernel_rfl))
 f318:=Tryz.func221.trans (congrArg some (by kernel_rfl))
 f319:=Tryz.func222.trans (congrArg some (by kernel_rfl))
 f320:=Tryz.func223.trans (congrArg some (by kernel_rfl))
 f337:=Tryz.func236.trans (congrArg some (by kernel_rfl))
 f338:=Tryz.func237.trans (congrArg some (by kernel_rfl))
 t0:=Tryz.underlying0
 a0:=Tryz.isAgg0
 z0:=Tryz.sizeOf0
 v0:=Tryz.zeroValue0
 t2:=Tryz.underlying2
 a2:=Tryz.isAgg2
 z2:=Tryz.sizeOf2
 v2:=Tryz.zeroValue2
 t3:=Tryz.underlying3
 a3:=Tryz.isAgg3
 z3:=Tryz.sizeOf3
 v3:=Tryz.zeroValue3
 t4:=Tryz.underlying4
 a4:=Tryz.isAgg4
 z4:=Tryz.sizeOf4
 v4:=Tryz.zeroValue4
 t5:=Tryz.underlying5
 a5:=Tryz.isAgg5
 z5:=Tryz.sizeOf5
 v5:=Tryz.zeroValue5
 t9:=Tryz.underlying9
 a9:=Tryz.isAgg9
 z9:=Tryz.sizeOf9
 v9:=Tryz.zeroValue9
 t20:=Tryz.underlying20
 a20:=Tryz.isAgg20
 z20:=Tryz.sizeOf20
 v20:=Tryz.zeroValue20
 t37:=Tryz.underlying174
 a37:=Tryz.isAgg174
 z37:=Tryz.sizeOf174
 v37:=Tryz.zeroValue174
 t46:=Tryz.underlying170
 a46:=Tryz.isAgg170
 z46:=Tryz.sizeOf170
 v46:=Tryz.zeroValue170
 t51:=Tryz.underlying210
 a51:=Tryz.isAgg210
 z51:=Tryz.sizeOf210
 v51:=Tryz.zeroValue210
 t53:=Tryz.underlying33
 a53:=Tryz.isAgg33
 z53:=Tryz.sizeOf33
 v53:=Tryz.zeroValue33
 t75:=Tryz.underlying163
 a75:=Tryz.isAgg163
 z75:=Tryz.sizeOf163
 v75:=Tryz.zeroValue163
 t127:=Tryz.underlying215
 a127:=Tryz.isAgg215
 z127:=Tryz.sizeOf215
 v127:=Tryz.zeroValue215
 t143:=Tryz.underlying263
 a143:=Tryz.isAgg263
 z143:=Tryz.sizeOf263
 v143:=Tryz.zeroValue263
 t145:=Tryz.underlying265
 a145:=Tryz.isAgg265
 z145:=Tryz.sizeOf265
 v145:=Tryz.zeroValue265
 t167:=Tryz.underlying233
 a167:=Tryz.isAgg233
 z167:=Tryz.sizeOf233
 v167:=Tryz.zeroValue233
 t168:=Tryz.underlying235
 a168:=Tryz.isAgg235
 z168:=Tryz.sizeOf235
 v168:=Tryz.zeroValue235
 t171:=Tryz.underlying205
 a171:=Tryz.isAgg205
 z171:=Tryz.sizeOf205
 v171:=Tryz.zeroValue205
 t173:=Tryz.underlying208
 a173:=Tryz.isAgg208
 z173:=Tryz.sizeOf208
 v173:=Tryz.zeroValue208
 t210:=Tryz.underlying260
 a210:=Tryz.isAgg260
 z210:=Tryz.sizeOf260
 v210:=Tryz.zeroValue260
 t212:=Tryz.underlying242
 a212:=Tryz.isAgg242
 z212:=Tryz.sizeOf242
 v212:=Tryz.zeroValue242
 t213:=Tryz.underlying243
 a213:=Tryz.isAgg243
 z213:=Tryz.sizeOf243
 t232:=Tryz.underlying266
 a232:=Tryz.isAgg266
 z232:=Tryz.sizeOf266
 v232:=Tryz.zeroValue266
 t233:=Tryz.underlying267
 a233:=Tryz.isAgg267
 z233:=Tryz.sizeOf267
 v233:=Tryz.zeroValue267
 g15:=by kernel_rfl
 g16:=by kernel_rfl
 g17:=by kernel_rfl
 g18:=by kernel_rfl
 g19:=by kernel_rfl
 t80:=Tryz.underlying129
 a80:=Tryz.isAgg129
 z80:=Tryz.sizeOf129
 v80:=Tryz.zeroValue129
 i0:=by kernel_rfl
 i2:=by kernel_rfl
 i3:=by kernel_rfl
 i4:=by kernel_rfl
 i5:=by kernel_rfl
 i9:=by kernel_rfl
 i20:=by kernel_rfl
 i37:=by kernel_rfl
 i46:=by kernel_rfl
 i51:=by kernel_rfl
 i53:=by kernel_rfl
 i75:=by kernel_rfl
 i80:=by kernel_rfl
 i127:=by kernel_rfl
 i143:=by kernel_rfl
 i145:=by kernel_rfl
 i167:=by kernel_rfl
 i168:=by kernel_rfl
 i171:=by kernel_rfl
 i173:=by kernel_rfl
 i210:=by kernel_rfl
 i212:=by kernel_rfl
 i232:=by kernel_rfl
 i233:=by kernel_rfl
 m15:=by kernel_rfl
 m16:=by kernel_rfl
 m17:=by kernel_rfl
 m18:=by kernel_rfl
 m19:=by kernel_rfl
 c0:=by kernel_rfl
 c2:=by kernel_rfl
 c3:=by kernel_rfl
 c4:=by kernel_rfl
 c5:=by kernel_rfl
 c9:=by kernel_rfl
 c20:=by kernel_rfl
 c37:=by kernel_rfl
 c46:=by kernel_rfl
 c51:=by kernel_rfl
 c53:=by kernel_rfl
 c75:=by kernel_rfl
 c80:=by kernel_rfl
 c127:=by kernel_rfl
 c143:=by kernel_rfl
 c145:=by kernel_rfl
 c167:=by kernel_rfl
 c168:=by kernel_rfl
 c171:=by kernel_rfl
 c173:=by kernel_rfl
 c210:=by kernel_rfl
 c212:=by kernel_rfl
 c213:=by kernel_rfl
 c232:=by kernel_rfl
 c233:=by kernel_rfl }
open Go.RowKit in
theorem Tryz.strconv_toError_range (fn s:ByteArray) (base bits:Int) (ev:Value) (w:World) (hlim:s.size≤281474976710656) (hv:w.cell? ⟨7,0,none⟩=some ev) (hev:ev=.nilIface ∨ ∃ te pe,ev=.iface te pe) :
  Calls Tryz.prog 179 #[.string fn,.string s,.int .i64 base,.int .i64 bits,.iface 233 (.int .i64 1)] w fun e w'=>∃ N,e=.returned (.iface 235 (.pointer (some ⟨N,0,none⟩)))∧w.heap.size≤N∧w'.heap[N]? = some (.cells #[.string fn,.string s,ev] 260 (0,0))∧Below w.heap.size w w':=Any.strconv_toError_range Tryz.laysC245 fn s base bits ev w hlim hv hev
def Tryz.lays219_ren:Go.Shelf.Ren:=⟨fun | 219=>173 | 217=>123 | 225=>205 | 224=>206 | 267=>207 | 266=>171 | 314=>232 | n=>n,fun | 9=>9 | 3=>3 | 4=>4 | 5=>5 | 46=>170 | 146=>211 | 51=>210 | n=>n,fun | 1=>1 | n=>n⟩
theorem Tryz.lays219:Go.Proofs.Lays.n219 Tryz.prog Tryz.lays219_ren:={
 mixed:=by kernel_rfl
 f217:=Tryz.func123.trans (congrArg some (by kernel_rfl))
 f219:=Tryz.func173.trans (congrArg some (by kernel_rfl))
 f224:=Tryz.func206.trans (congrArg some (by kernel_rfl))
 f225:=Tryz.func205.trans (congrArg some (by kernel_rfl))
 f266:=Tryz.func171.trans (congrArg some (by kernel_rfl))
 f267:=Tryz.func207.trans (congrArg some (by kernel_rfl))
 f314:=Tryz.func232.trans (congrArg some (by kernel_rfl))
 t3:=Tryz.underlying3
 a3:=Tryz.isAgg3
 z3:=Tryz.sizeOf3
 v3:=Tryz.zeroValue3
 t4:=Tryz.underlying4
 a4:=Tryz.isAgg4
 z4:=Tryz.sizeOf4
 v4:=Tryz.zeroValue4
 t5:=Tryz.underlying5
 a5:=Tryz.isAgg5
 z5:=Tryz.sizeOf5
 v5:=Tryz.zeroValue5
 t9:=Tryz.underlying9
 a9:=Tryz.isAgg9
 z9:=Tryz.sizeOf9
 v9:=Tryz.zeroValue9
 t46:=Tryz.underlying170
 a46:=Tryz.isAgg170
 z46:=Tryz.sizeOf170
 v46:=Tryz.zeroValue170
 t51:=Tryz.underlying210
 a51:=Tryz.isAgg210
 z51:=Tryz.sizeOf210
 v51:=Tryz.zeroValue210
 t146:=Tryz.underlying211
 a146:=Tryz.isAgg211
 z146:=Tryz.sizeOf211
 v146:=Tryz.zeroValue211
 g1:=by kernel_rfl }
open Go.RowKit Go.Lib in
theorem Tryz.stringslite_Index_one (s:ByteArray) (c:UInt8) (w:World) :
  Calls Tryz.prog 173 #[.string s,.string ⟨#[c]⟩] w fun e w'=>e=.returned (.int .i64 (Lib.indexByte s.data.toList c))∧w'=w:=Any.stringslite_Index_one Tryz.lays219 s c w
def Tryz.lays144_ren:Go.Shelf.Ren:=⟨fun | 144=>80 | 143=>125 | 219=>173 | 217=>123 | 225=>205 | 224=>206 | 267=>207 | 266=>171 | 314=>232 | n=>n,fun | 9=>9 | 4=>4 | 3=>3 | 5=>5 | 46=>170 | 146=>211 | 51=>210 | n=>n,fun | 1=>1 | n=>n⟩
theorem Tryz.lays144:Go.Proofs.Lays.n144 Tryz.prog Tryz.lays144_ren:={
 mixed:=by kernel_rfl
 f143:=Tryz.func125.trans (congrArg some (by kernel_rfl))
 f144:=Tryz.func80.trans (congrArg some (by kernel_rfl))
 f217:=Tryz.func123.trans (congrArg some (by kernel_rfl))
 f219:=Tryz.func173.trans (congrArg some (by kernel_rfl))
 f224:=Tryz.func206.trans (congrArg some (by kernel_rfl))
 f225:=Tryz.func205.trans (congrArg some (by kernel_rfl))
 f266:=Tryz.func171.trans (congrArg some (by kernel_rfl))
 f267:=Tryz.func207.trans (congrArg some (by kernel_rfl))
 f314:=Tryz.func232.trans (congrArg some (by kernel_rfl))
 t3:=Tryz.underlying3
 a3:=Tryz.isAgg3
 z3:=Tryz.sizeOf3
 v3:=Tryz.zeroValue3
 t4:=Tryz.underlying4
 a4:=Tryz.isAgg4
 z4:=Tryz.sizeOf4
 v4:=Tryz.zeroValue4
 t5:=Tryz.underlying5
 a5:=Tryz.isAgg5
 z5:=Tryz.sizeOf5
 v5:=Tryz.zeroValue5
 t9:=Tryz.underlying9
 a9:=Tryz.isAgg9
 z9:=Tryz.sizeOf9
 v9:=Tryz.zeroValue9
 t46:=Tryz.underlying170
 a46:=Tryz.isAgg170
 z46:=Tryz.sizeOf170
 v46:=Tryz.zeroValue170
 t51:=Tryz.underlying210
 a51:=Tryz.isAgg210
 z51:=Tryz.sizeOf210
 v51:=Tryz.zeroValue210
 t146:=Tryz.underlying211
 a146:=Tryz.isAgg211
 z146:=Tryz.sizeOf211
 v146:=Tryz.zeroValue211
 g1:=by kernel_rfl }
open Go.RowKit Go.Lib in
theorem Tryz.strings_Contains_one (s:ByteArray) (c:UInt8) (w:World) :
  Calls Tryz.prog 80 #[.string s,.string ⟨#[c]⟩] w fun e w'=>e=.returned (.bool (decide (0≤Lib.indexByte s.data.toList c)))∧w'=w:=Any.strings_Contains_one Tryz.lays144 s c w
def Tryz.lays99_ren:Go.Shelf.Ren:=⟨fun | 99=>35 | 206=>76 | n=>n,fun | 9=>9 | 4=>4 | 3=>3 | n=>n,fun | n=>n⟩
theorem Tryz.lays99:Go.Proofs.Lays.n99 Tryz.prog Tryz.lays99_ren:={
 mixed:=by kernel_rfl
 f99:=Tryz.func35.trans (congrArg some (by kernel_rfl))
 f206:=Tryz.func76.trans (congrArg some (by kernel_rfl))
 t3:=Tryz.underlying3
 a3:=Tryz.isAgg3
 z3:=Tryz.sizeOf3
 v3:=Tryz.zeroValue3
 t4:=Tryz.underlying4
 a4:=Tryz.isAgg4
 z4:=Tryz.sizeOf4
 v4:=Tryz.zeroValue4
 t9:=Tryz.underlying9
 a9:=Tryz.isAgg9
 z9:=Tryz.sizeOf9
 v9:=Tryz.zeroValue9 }
open Go.RowKit Go.Lib in
theorem Tryz.strings_HasPrefix (s p:ByteArray) (w:World) :
  Calls Tryz.prog 35 #[.string s,.string p] w fun e w'=>e=.returned (.bool (Lib.hasPrefix s.data.toList p.data.toList))∧w'=w:=Any.strings_HasPrefix Tryz.lays99 s p w
def Tryz.lays105_ren:Go.Shelf.Ren:=⟨fun | 105=>89 | 212=>138 | 99=>35 | 165=>139 | 166=>140 | 170=>141 | 169=>142 | 263=>185 | 264=>186 | 206=>76 | 240=>187 | 241=>188 | 276=>224 | 277=>225 | n=>n,fun | 9=>9 | 3=>3 | 4=>4 | 20=>20 | 0=>0 | 46=>170 | 109=>171 | 5=>5 | 72=>176 | 76=>178 | 51=>210 | 146=>211 | 53=>33 | 148=>213 | 70=>173 | 37=>174 | 75=>163 | 127=>215 | 164=>245 | 80=>129 | n=>n,fun | n=>n⟩
theorem Tryz.lays105:Go.Proofs.Lays.n105 Tryz.prog Tryz.lays105_ren:={
 mixed:=by kernel_rfl
 f99:=Tryz.func35.trans (congrArg some (by kernel_rfl))
 f105:=Tryz.func89.trans (congrArg some (by kernel_rfl))
 f165:=Tryz.func139.trans (congrArg some (by kernel_rfl))
 f166:=Tryz.func140.trans (congrArg some (by kernel_rfl))
 f169:=Tryz.func142.trans (congrArg some (by kernel_rfl))
 f170:=Tryz.func141.trans (congrArg some (by kernel_rfl))
 f206:=Tryz.func76.trans (congrArg some (by kernel_rfl))
 f212:=Tryz.func138.trans (congrArg some (by kernel_rfl))
 f240:=Tryz.func187.trans (congrArg some (by kernel_rfl))
 f241:=Tryz.func188.trans (congrArg some (by kernel_rfl))
 f263:=Tryz.func185.trans (congrArg some (by kernel_rfl))
 f264:=Tryz.func186.trans (congrArg some (by kernel_rfl))
 f276:=Tryz.func224.trans (congrArg some (by kernel_rfl))
 f277:=Tryz.func225.trans (congrArg some (by kernel_rfl))
 t0:=Tryz.underlying0
 a0:=Tryz.isAgg0
 z0:=Tryz.sizeOf0
 v0:=Tryz.zeroValue0
 t3:=Tryz.underlying3
 a3:=Tryz.isAgg3
 z3:=Tryz.sizeOf3
 v3:=Tryz.zeroValue3
 t4:=Tryz.underlying4
 a4:=Tryz.isAgg4
 z4:=Tryz.sizeOf4
 v4:=Tryz.zeroValue4
 t5:=Tryz.underlying5
 a5:=Tryz.isAgg5
 z5:=Tryz.sizeOf5
 v5:=Tryz.zeroValue5
 t9:=Tryz.underlying9
 a9:=Tryz.isAgg9
 z9:=Tryz.sizeOf9
 v9:=Tryz.zeroValue9
 t20:=Tryz.underlying20
 a20:=Tryz.isAgg20
 z20:=Tryz.sizeOf20
 v20:=Tryz.zeroValue20
 t37:=Tryz.underlying174
 a37:=Tryz.isAgg174
 z37:=Tryz.sizeOf174
 v37:=Tryz.zeroValue174
 t46:=Tryz.underlying170
 a46:=Tryz.isAgg170
 z46:=Tryz.sizeOf170
 v46:=Tryz.zeroValue170
 t51:=Tryz.underlying210
 a51:=Tryz.isAgg210
 z51:=Tryz.sizeOf210
 v51:=Tryz.zeroValue210
 t53:=Tryz.underlying33
 a53:=Tryz.isAgg33
 z53:=Tryz.sizeOf33
 v53:=Tryz.zeroValue33
 t70:=Tryz.underlying173
 a70:=Tryz.isAgg173
 z70:=Tryz.sizeOf173
 v70:=Tryz.zeroValue173
 t72:=Tryz.underlying176
 a72:=Tryz.isAgg176
 z72:=Tryz.sizeOf176
 v72:=Tryz.zeroValue176
 t75:=Tryz.underlying163
 a75:=Tryz.isAgg163
 z75:=Tryz.sizeOf163
 v75:=Tryz.zeroValue163
 t76:=Tryz.underlying178
 a76:=Tryz.isAgg178
 z76:=Tryz.sizeOf178
 v76:=Tryz.zeroValue178
 t109:=Tryz.underlying171
 a109:=Tryz.isAgg171
 z109:=Tryz.sizeOf171
 v109:=Tryz.zeroValue171
 t127:=Tryz.underlying215
 a127:=Tryz.isAgg215
 z127:=Tryz.sizeOf215
 v127:=Tryz.zeroValue215
 t146:=Tryz.underlying211
 a146:=Tryz.isAgg211
 z146:=Tryz.sizeOf211
 v146:=Tryz.zeroValue211
 t148:=Tryz.underlying213
 a148:=Tryz.isAgg213
 z148:=Tryz.sizeOf213
 v148:=Tryz.zeroValue213
 t164:=Tryz.underlying245
 a164:=Tryz.isAgg245
 z164:=Tryz.sizeOf245
 v164:=Tryz.zeroValue245 }
theorem Tryz.Builder_Extra_105:Builder.Extra Tryz.prog Tryz.lays105_ren:={
 sizeBuilder:=by kernel_rfl
 liesBuilder:=by kernel_rfl
 t5:=Tryz.underlying5
 a5:=Tryz.isAgg5
 z5:=Tryz.sizeOf5
 v5:=Tryz.zeroValue5
 infoByte:=by kernel_rfl
 cellsByte:=by kernel_rfl
 sizeByte:=by kernel_rfl
 neB5:=by decide }
open Go.RowKit Go.Lib in
theorem Tryz.strings_Repeat (s:ByteArray) (c:Nat) (w:World) (hc:c≤9223372036854775807) (hlen:s.size * c≤140737488355328) :
  Calls Tryz.prog 89 #[.string s,.int .i64 c] w fun e w'=>e=.returned (.string ⟨(Lib.repeatL s.data.toList c).toArray⟩)∧Below w.heap.size w w':=Any.strings_Repeat Tryz.lays105 Tryz.Builder_Extra_105 s c w hc hlen
end Go.Proofs
namespace Go.Proofs.YtabkimknlifdoaaGreatDoor
open Go.RowKit
theorem hide {p:Prop} (h:p):Hid p:=h
abbrev PR:=Except Bool Nat
def dval (c:Nat):Nat:=if 48≤c∧c≤57 then c - 48 else if 97≤c ||| 32∧c ||| 32≤122 then (c ||| 32) - 87 else 255
def pu (b mx:Nat):Nat→List UInt8→PR
 | acc,[]=>.ok acc
 | acc,c :: cs=>if b≤dval c.toNat then .error true else if mx < acc * b+dval c.toNat then .error false else pu b mx (acc * b+dval c.toNat) cs
def puV (mx:Nat):PR→Value
 | .ok n=>.tuple #[.int .u64 (n:Int),.nilIface]
 | .error true=>.tuple #[.int .u64 0,.iface 233 (.int .i64 2)]
 | .error false=>.tuple #[.int .u64 (mx:Int),.iface 233 (.int .i64 1)]
theorem lower_x (c:Nat) (hc:c < 256):∃ x:Int,x=((c ||| 32:Nat):Int)∧0≤x∧x < 256∧∀ W,Calls Tryz.prog 211 #[.int .u8 (c:Int)] W fun e w'=>e=.returned (.int .u8 x)∧w'=W:=by
 refine ⟨((c ||| 32:Nat):Int),rfl,by omega,?_,fun W=>?_⟩
 ·have:c ||| 32 < 2 ^ 8:=Nat.or_lt_two_pow (by omega) (by omega)
  omega
 ·have e:bits .or .u8 (c:Int) 32=((c ||| 32:Nat):Int):=by
   exact u8_or_nat c 32 hc (by decide)
  generalize ((c ||| 32:Nat):Int)=x at e
  go_enter Tryz.func211,Tryz.ntmps211
  go_wp2
  go_ret
  exact ⟨rfl,rfl⟩
theorem tz64_16 (w:World) (ht:w.cell? ⟨9,15,none⟩=some (.int .u8 4)) :
  Calls Tryz.prog 237 #[.int .u64 16] w fun e w'=>e=.returned (.int .i64 4)∧w'=w:=by
 have h15:IntKind.u64.wrap (bits .and .u64 16 (IntKind.u64.wrap (-16)) * 285870213051353865) / 288230376151711744=15:=by decide +kernel
 go_enter Tryz.func237,Tryz.ntmps237
 go_wp2
 go_ret
 exact ⟨rfl,rfl⟩
theorem tz_16 (w:World) (ht:w.cell? ⟨9,15,none⟩=some (.int .u8 4)) :
  Calls Tryz.prog 223 #[.int .u64 16] w fun e w'=>e=.returned (.int .i64 4)∧w'=w:=by
 have H:=hide (tz64_16 w ht)
 go_enter Tryz.func223,Tryz.ntmps223
 go_wp2_with fail
 refine H.out.mono ?_
 rintro e w1 ⟨rfl,hw⟩
 subst hw
 go_wp2
 go_ret
 exact ⟨rfl,rfl⟩
theorem isPow16 (w:World) :
  Calls Tryz.prog 222 #[.int .i64 16] w fun e w'=>e=.returned (.bool true)∧w'=w:=by
 go_enter Tryz.func222,Tryz.ntmps222
 go_wp2
 go_ret
 exact ⟨rfl,rfl⟩
def dig (n:Nat):Nat:=if n < 10 then 48+n else 87+n
def lowC (v k:Nat):List Value:=(List.range k).reverse.map (fun j=>Value.int .u8 ((dig (v / 16 ^ j % 16):Nat):Int))
theorem lowC_succ (v k:Nat):lowC v (k+1)=Value.int .u8 ((dig (v / 16 ^ k % 16):Nat):Int) :: lowC v k:=by
 simp [lowC,List.range_succ]
theorem and15 (z:Nat) (h:z < 18446744073709551616):bits .and .u64 (z:Int) 15=((z % 16:Nat):Int):=by
 rw [show (15:Int)=((15:Nat):Int) from rfl,u64_and_nat z 15 h (by omega)]
 exact congrArg _ (Nat.and_two_pow_sub_one_eq_mod z 4)
def Buf (W:World) (A:Nat) (m:Nat) (l:List Value):Prop:=∃ cs:Array Value,W.heap[A]? = some (.cells cs 243 (0,0))∧cs.size=65∧cs.toList.drop m=l
theorem Buf.cell {W:World} {A m:Nat} {l:List Value} (h:Buf W A (m+1) l) (hm:m < 65):(∃ x,W.cell? ⟨A,m,none⟩=some x)∧W.frozen? ⟨A,m,none⟩=false:=by
 obtain ⟨cs,hb,hs,_⟩:=h
 refine ⟨⟨cs[m]'(by omega),?_⟩,?_⟩
 ·simp [World.cell?,hb,hs,hm]
 ·simp [World.frozen?,hb]
theorem Buf.put {W:World} {A m:Nat} {l:List Value} (h:Buf W A (m+1) l) (hm:m < 65) (u:Value):Buf (W.setCell ⟨A,m,none⟩ u) A m (u :: l):=by
 obtain ⟨cs,hb,hs,hd⟩:=h
 refine ⟨cs.setIfInBounds m u,?_,by simpa using hs,?_⟩
 ·have hlt:=lt_of_block hb
  have h':W.heap[A]=.cells cs 243 (0,0):=by simpa [Array.getElem?_eq_getElem hlt] using hb
  show (W.heap.modify A _)[A]? = _
  rw [Array.getElem?_eq_getElem (by simpa using hlt),Array.getElem_modify_self,h']
  rfl
 ·rw [Array.toList_setIfInBounds,List.drop_set]
  have hl:m < cs.toList.length:=by simpa using (by omega:m < cs.size)
  rw [if_neg (by omega),Nat.sub_self,List.drop_eq_getElem_cons hl,hd]
  rfl
theorem buf_step {W:World} {A m v k d:Nat} {X:Int} (h:Buf W A (m+1) (lowC v k)) (hm:m < 65) (hS:lowC v (k+1)=Value.int .u8 ((dig d:Nat):Int) :: lowC v k) (e:X=((dig d:Nat):Int)):Buf (W.setCell ⟨A,m,none⟩ (.int .u8 X)) A m (lowC v (k+1)):=by
 rw [hS,e];exact h.put hm _
def lowB (v k:Nat):List UInt8:=(List.range k).reverse.map (fun j=>(dig (v / 16 ^ j % 16)).toUInt8)
theorem lowB_length (v k:Nat):(lowB v k).length=k:=by simp [lowB]
theorem dig_lt (n:Nat) (h:n < 16):dig n < 256:=by unfold dig;split <;> omega
theorem lowC_lowB (v k:Nat):lowC v k=(lowB v k).map (fun b=>Value.int .u8 (b.toNat:Int)):=by
 unfold lowC lowB
 rw [List.map_map]
 refine List.map_congr_left fun j _=>?_
 have h:=dig_lt (v / 16 ^ j % 16) (Nat.mod_lt _ (by decide))
 show Value.int .u8 _=Value.int .u8 _
 congr 1
 simp [Nat.mod_eq_of_lt h]
theorem conv_run {W:World} {A m v k:Nat} (h:Buf W A m (lowC v k)) (hm:m+k=65):(convert 174 9 (.slice (some ⟨A,m,none⟩) (65 - m) (65 - m))).run Tryz.prog W=.ok (.string ⟨(lowB v k).toArray⟩) W:=by
 obtain ⟨cs,hb,hs,hd⟩:=h
 have hl:(lowB v k).length=65 - m:=by rw [lowB_length];omega
 rw [← hl]
 refine run_convert_bytes_back W 174 9 5 ⟨A,m,none⟩ _ (lowB v k) Tryz.underlying174 Tryz.underlying5 Tryz.underlying9 ?_
 intro j hj
 rw [lowB_length] at hj
 have e:(cs.toList.drop m)[j]? = some (Value.int .u8 ((lowB v k)[j]'(by rw [lowB_length];exact hj)).toNat):=by
  rw [hd,lowC_lowB,List.getElem?_map,List.getElem?_eq_getElem (by rw [lowB_length];exact hj)];rfl
 rw [List.getElem?_drop] at e
 have e2:cs[m+j]? = some (Value.int .u8 ((lowB v k)[j]'(by rw [lowB_length];exact hj)).toNat):=by simpa using e
 by_cases h0:j=0
 ·subst h0;simpa [Addr.add,World.cell?,hb] using e2
 ·simpa [Addr.add,h0,World.cell?,hb] using e2
theorem wpList_conv {P:Program} {w:World} {ops:Array Oper} {rest:List Oper} {o:Oper} {a:Act} {Q:Exit→Act→World→Prop} (hg:o.guard=none) (x:Operand) (s d:TypeId) (hop:o.op=Op.convert s d x) (v r:Value) (hx:a.eval x=v)
  (hrun:(convert s d v).run P w=.ok r w) (h:wpList P ops Q rest (a.put o.dst r) w):wpList P ops Q (o :: rest) a w:=by
 refine wpList_plain hg fun K' hK'=>?_
 unfold Oper.wp
 simp [execOp,hop,hx,hrun,Result.andThen]
 exact hK' _ _ h
theorem zeros65:Tryz.zeroCells243.size=65:=by decide +kernel
set_option maxRecDepth 100000 in
set_option maxHeartbeats 4000000 in
theorem formatBits_16 (v:Nat) (hv:v < 18446744073709551616) (w:World) (ht:w.cell? ⟨9,15,none⟩=some (.int .u8 4)) :
  Calls Tryz.prog 184 #[.slice none 0 0,.int .u64 v,.int .i64 16,.bool false,.bool false] w fun e w'=>∃ k,(k=0 ∨ 16 ^ k≤v)∧v < 16 ^ (k+1)∧k≤15∧e=.returned (.tuple #[.slice none 0 0,.string ⟨(lowB v (k+1)).toArray⟩])∧Below w.heap.size w w':=by
 have hG:9 < w.heap.size:=World.block_lt_of_cell? w _ ht
 have HP:=hide isPow16
 have HT:=hide (fun o=>tz_16 (w.alloc o) (by rw [World.cell?_alloc_past _ _ _ hG];exact ht))
 clear ht hG
 go_enter Tryz.func184,Tryz.ntmps184
 go_wp2_with fail
 refine (HP.out _).mono ?_
 rintro e w1 ⟨rfl,hw⟩
 subst hw
 go_wp2_with fail
 refine (HT.out _).mono ?_
 rintro e w1 ⟨rfl,hw⟩
 subst hw
 go_wp2
 go_loopw [1,13] (fun u i wr=>∃ k m:Nat,k≤15∧m+k=64∧u=.int .u64 ((v / 16 ^ k:Nat):Int)∧i=.int .i64 ((m:Int)+1)∧(k=0 ∨ 16 ^ k≤v)∧Buf wr w.heap.size (m+1) (lowC v k)∧Below w.heap.size w wr) (fun u _ _=>(intOf u).toNat)
 case atStart=>exact ⟨0,64,by omega,by omega,by simp,rfl,.inl rfl,⟨_,heap_alloc_new _ _,zeros65,by rw [List.drop_eq_nil_of_le (by simp)];rfl⟩,(Below.refl _ _).alloc (Nat.le_refl _) _⟩
 case round =>
  obtain ⟨k,m,hk,hm,rfl,rfl,hk0,hbuf,hnx⟩:=hrel
  obtain ⟨⟨x,hcx⟩,hfx⟩:=hbuf.cell (by omega)
  have hzv:v / 16 ^ k < 18446744073709551616:=Nat.lt_of_le_of_lt (Nat.div_le_self _ _) hv
  have HS:=hide (lowC_succ v k)
  have HB:=hide hbuf;have HN:=hide hnx
  have HZ:Hid (v / 16 ^ (k+1)=v / 16 ^ k / 16):=by unfold Hid;rw [Nat.pow_succ,Nat.div_div_eq_div_mul]
  have HK:Hid (16≤v / 16 ^ k→16 ^ (k+1)≤v):=fun h=>by rw [Nat.pow_succ,Nat.mul_comm];exact (Nat.le_div_iff_mul_le (Nat.pow_pos (by decide))).1 h
  have HK0:=hide hk0
  have HV:Hid (v / 16 ^ k < 16→v < 16 ^ (k+1)):=fun h=>by rw [Nat.pow_succ,Nat.mul_comm];exact (Nat.div_lt_iff_lt_mul (Nat.pow_pos (by decide))).1 h |> fun h=>by rw [Nat.mul_comm] at h;rw [Nat.mul_comm];first | exact h | (rw [Nat.mul_comm];exact h)
  clear hbuf hnx hk0
  generalize v / 16 ^ k=z at *
  by_cases hz:16≤z
  ·have h15:=and15 z hzv
   obtain ⟨d,hd⟩:∃ d,z % 16=d:=⟨_,rfl⟩
   have hd16:d < 16:=by omega
   rw [hd] at h15 HS
   have HD:Hid (z % 16=d):=hd
   clear hd
   have hd':d=0 ∨ d=1 ∨ d=2 ∨ d=3 ∨ d=4 ∨ d=5 ∨ d=6 ∨ d=7 ∨ d=8 ∨ d=9 ∨ d=10 ∨ d=11 ∨ d=12 ∨ d=13 ∨ d=14 ∨ d=15:=by omega
   have hk15:k+1≤15:=by
    have h:=HK.out hz
    rcases Nat.lt_or_ge k 15 with h' | h'
    ·omega
    ·have e:k=15:=by omega
     subst e
     have:(16:Nat) ^ (15+1)=18446744073709551616:=by decide
     omega
   rcases hd' with rfl | rfl | rfl | rfl | rfl | rfl | rfl | rfl | rfl | rfl | rfl | rfl | rfl | rfl | rfl | rfl
   all_goals
    go_wp2
    go_roundw
    case rel=>exact ⟨k+1,m - 1,hk15,by omega,by rw [HZ.out];rfl,by go_num,.inr (HK.out hz),by rw [show m - 1+1=m by omega];exact buf_step HB.out (by omega) HS.out rfl,HN.out.setCell (Nat.le_refl _) _⟩
    case measure=>simp [intOf];omega
  ·have hz':decide ((16:Int)≤(z:Int))=false:=by simp;omega
   have hzz:z=0 ∨ z=1 ∨ z=2 ∨ z=3 ∨ z=4 ∨ z=5 ∨ z=6 ∨ z=7 ∨ z=8 ∨ z=9 ∨ z=10 ∨ z=11 ∨ z=12 ∨ z=13 ∨ z=14 ∨ z=15:=by omega
   have hmI:(m:Int)≤65:=by omega
   have hne:¬ (65=m):=by omega
   have HM:Hid (m+(k+1)=65):=by unfold Hid;omega
   have hm65:m < 65:=by omega
   clear hm
   rcases hzz with rfl | rfl | rfl | rfl | rfl | rfl | rfl | rfl | rfl | rfl | rfl | rfl | rfl | rfl | rfl | rfl
   all_goals
    go_wp2_with (refine wpList_conv rfl _ 174 9 rfl _ _ rfl (conv_run (buf_step HB.out hm65 HS.out rfl) HM.out) ?_)
    go_ret2
    exact ⟨k,HK0.out,HV.out (by decide),hk,rfl,HN.out.setCell (Nat.le_refl _) _⟩
def hxF:Nat→Nat→List UInt8
 | 0,_=>[]
 | f+1,v=>if v < 16 then [(dig v).toUInt8] else hxF f (v / 16) ++ [(dig (v % 16)).toUInt8]
theorem hxF_any:∀ (f g v:Nat),v < f→v < g→hxF f v=hxF g v
 | 0,_,_,h,_=>by omega
 | _,0,_,_,h=>by omega
 | f+1,g+1,v,h1,h2=>by
  rw [hxF,hxF]
  split
  ·rfl
  ·rw [hxF_any f g (v / 16) (by omega) (by omega)]
def hx (v:Nat):List UInt8:=hxF (v+1) v
theorem hx_small {v:Nat} (h:v < 16):hx v=[(dig v).toUInt8]:=by rw [hx,hxF,if_pos h]
theorem hx_big {v:Nat} (h:¬ v < 16):hx v=hx (v / 16) ++ [(dig (v % 16)).toUInt8]:=by
 rw [hx,hxF,if_neg h,hx,hxF_any v (v / 16+1) (v / 16) (by omega) (by omega)]
theorem lowB_cons (v k:Nat):lowB v (k+1)=(dig (v / 16 ^ k % 16)).toUInt8 :: lowB v k:=by simp [lowB,List.range_succ]
theorem lowB_snoc:∀ (k v:Nat),lowB v (k+1)=lowB (v / 16) k ++ [(dig (v % 16)).toUInt8]
 | 0,v=>by simp [lowB]
 | k+1,v=>by
  rw [lowB_cons,lowB_snoc k v,lowB_cons (v / 16) k,Nat.div_div_eq_div_mul,Nat.pow_succ,Nat.mul_comm (16 ^ k)]
  rfl
theorem hx_low:∀ (k v:Nat),(k=0 ∨ 16 ^ k≤v)→v < 16 ^ (k+1)→lowB v (k+1)=hx v
 | 0,v,_,h=>by
  rw [hx_small (by simpa using h)]
  simp [lowB,Nat.mod_eq_of_lt (show v < 16 by simpa using h)]
 | k+1,v,h1,h2=>by
  have h1':16 ^ (k+1)≤v:=by
   rcases h1 with h | h
   ·omega
   ·exact h
  have hp:0 < 16 ^ k:=Nat.pow_pos (by decide)
  rw [Nat.pow_succ] at h1'
  rw [Nat.pow_succ] at h2
  rw [hx_big (by omega),lowB_snoc,hx_low k (v / 16) (by
   rcases Nat.eq_zero_or_pos k with h | h
   ·exact .inl h
   ·exact .inr (by omega)) (by omega)]
theorem lowB_add:∀ (b v a:Nat),lowB v (a+b)=lowB (v / 16 ^ b) a ++ lowB v b
 | 0,v,a=>by simp [lowB]
 | b+1,v,a=>by
  rw [← Nat.add_assoc,lowB_snoc,lowB_add b,lowB_snoc b v,List.append_assoc,Nat.div_div_eq_div_mul,Nat.pow_succ,Nat.mul_comm 16]
theorem lowB_zero (z:Nat):lowB 0 z=List.replicate z 48:=by
 induction z with
 | zero=>rfl
 | succ z ih=>rw [lowB_cons,ih,Nat.zero_div];rfl
theorem lowB_mod:∀ (b v:Nat),lowB (v % 16 ^ b) b=lowB v b
 | 0,v=>by simp [lowB]
 | b+1,v=>by
  have hp:0 < 16 ^ b:=Nat.pow_pos (by decide)
  have e1:v % 16 ^ (b+1) / 16=v / 16 % 16 ^ b:=by
   rw [Nat.pow_succ,Nat.mul_comm,Nat.mod_mul_right_div_self]
  have e2:v % 16 ^ (b+1) % 16=v % 16:=Nat.mod_mod_of_dvd _ ⟨16 ^ b,by rw [Nat.pow_succ,Nat.mul_comm]⟩
  rw [lowB_snoc,lowB_snoc b v,e1,e2,lowB_mod b]
theorem lowB_pad {v m:Nat} (z:Nat) (h:v < 16 ^ m):lowB v (z+m)=List.replicate z 48 ++ lowB v m:=by
 rw [lowB_add,Nat.div_eq_of_lt h,lowB_zero]
theorem hx_two {hi lo k m:Nat} (h0:0 < hi) (h1:(k=0 ∨ 16 ^ k≤hi)∧hi < 16 ^ (k+1)) (h2:lo < 16 ^ (m+1)) (hm:m≤15) (hlo:lo < 18446744073709551616) :
  lowB hi (k+1) ++ List.replicate (16 - (m+1)) 48 ++ lowB lo (m+1)=hx (hi * 18446744073709551616+lo):=by
 have e16:(16:Nat) ^ 16=18446744073709551616:=by decide
 have ep:∀ j,(16:Nat) ^ (j+16)=16 ^ j * 18446744073709551616:=fun j=>by rw [Nat.pow_add,e16]
 have hk:16 ^ k≤hi:=by
  rcases h1.1 with rfl | h
  ·simp;omega
  ·exact h
 have e:lowB (hi * 18446744073709551616+lo) (k+16+1)=hx (hi * 18446744073709551616+lo) :=
  hx_low (k+16) _ (.inr (by rw [ep];omega)) (by rw [show k+16+1=k+1+16 by omega,ep];omega)
 rw [← e,show k+16+1=(k+1)+16 by omega,lowB_add 16 _ (k+1),List.append_assoc]
 congr 1
 ·rw [e16];congr 1;omega
 ·rw [← lowB_pad _ h2,show 16 - (m+1)+(m+1)=16 by omega,← lowB_mod 16 (hi * _+lo),e16];congr 1;omega
def tx (n v:Nat):List UInt8:=Lib.decDigits n ++ 119 :: hx v
def notW (c:UInt8):Bool:=c != 119
def cutL (s:List UInt8):List UInt8:=s.takeWhile notW
def cutR' (s:List UInt8):List UInt8:=(s.dropWhile notW).drop 1
def wh (b:Nat) (l:List UInt8):Nat:=match l with | []=>0 | _=>match pu b 18446744073709551615 0 l with | .ok n=>n | _=>0
theorem wh_ok {b:Nat} {l:List UInt8} {n:Nat} (hl:l ≠ []) (h:pu b 18446744073709551615 0 l=.ok n):wh b l=n:=by
 match l,hl with
 | c :: l,_=>simp only [wh,h]
def gsW (s:List UInt8):Nat:=wh 10 (cutL s)
def gsH (s:List UInt8):Nat:=wh 16 ((cutR' s).take ((cutR' s).length - 16))
def gsL (s:List UInt8):Nat:=wh 16 ((cutR' s).drop ((cutR' s).length - 16))
end Go.Proofs.YtabkimknlifdoaaGreatDoor
