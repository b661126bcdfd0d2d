/-
  DERIVED: THE SHELF's CONTRACTS AT THIS DUMP, IN PLAIN WORDS (tools/lay-plain.mjs out of 'YthcajggbcanmdaaGreatDoorShx.lean', which tools/lay-shelf.mjs wrote): THE SAME DECLARATIONS UNDER THE SAME NAMES: 'import', 'namespace', 'open', 'def', 'theorem' AND NOTHING ELSE: no command of the shelf's: FOR A HAND-IN. Each laying: the table of numbers ('.._ren') and one theorem, a field a fact of the dump's own or the kernel's comparison; each contract: ONE APPLICATION.
-/
import Derived.Shelf.Small.Strs
import Derived.Shelf.Small.Wraps
import Derived.Shelf.LaysM
import Derived.Shelf.Strconv.Clone
import Derived.Shelf.Pu.ParseUintPublic10
import Derived.Shelf.Pu.ErrVarParseUint
import Derived.Shelf.Strings.Search1
import Derived.Shelf.Strings.Search2
import Derived.Shelf.Strings.Prefix
import Derived.Test.YthcajggbcanmdaaGreatDoorProg
import Derived.Test.YthcajggbcanmdaaGreatDoorU1
import Derived.BigQuiet
import Derived.Deep.QuietTactic
import Derived.Lib.SmallJoins
import Derived.Maps.OwnSet
import Derived.Maps.AppendAt
import Derived.SliceStrings
set_option linter.unusedVariables false
set_option linter.unusedSimpArgs false
namespace Go.Proofs.YthcajggbcanmdaaGreatDoor
open Go.Shelf
def Tryz.lays137_ren : Go.Shelf.Ren := ⟨fun | 137 => 183 | 217 => 192 | 266 => 196 | n => n, fun | 9 => 9 | 5 => 5 | 3 => 3 | n => n, fun | n => n⟩
theorem Tryz.lays137 : Go.Proofs.Lays.n137 Tryz.prog Tryz.lays137_ren := {
  mixed := by kernel_rfl
  f137 := Tryz.func183.trans (congrArg some (by kernel_rfl))
  f217 := Tryz.func192.trans (congrArg some (by kernel_rfl))
  f266 := Tryz.func196.trans (congrArg some (by kernel_rfl))
  t3 := Tryz.underlying3
  a3 := Tryz.isAgg3
  z3 := Tryz.sizeOf3
  v3 := Tryz.zeroValue3
  t5 := Tryz.underlying5
  a5 := Tryz.isAgg5
  z5 := Tryz.sizeOf5
  v5 := Tryz.zeroValue5
  t9 := Tryz.underlying9
  a9 := Tryz.isAgg9
  z9 := Tryz.sizeOf9
  v9 := Tryz.zeroValue9 }
open Go.RowKit in
theorem Tryz.strings_IndexByte (s : ByteArray) (c : Int) (w : World) :
    Calls Tryz.prog 183 #[.string s, .int .u8 c] w fun e w' => e = .returned (.int .i64 (Lib.indexByte s.data.toList c.toNat.toUInt8)) ∧ w' = w := Any.strings_IndexByte Tryz.lays137 s c w
def Tryz.lays103_ren : Go.Shelf.Ren := ⟨fun | 103 => 182 | 210 => 191 | 206 => 185 | n => n, fun | 9 => 9 | 4 => 4 | 24 => 212 | 3 => 3 | n => n, fun | n => n⟩
theorem Tryz.lays103 : Go.Proofs.Lays.n103 Tryz.prog Tryz.lays103_ren := {
  mixed := by kernel_rfl
  f103 := Tryz.func182.trans (congrArg some (by kernel_rfl))
  f206 := Tryz.func185.trans (congrArg some (by kernel_rfl))
  f210 := Tryz.func191.trans (congrArg some (by kernel_rfl))
  t3 := Tryz.underlying3
  a3 := Tryz.isAgg3
  z3 := Tryz.sizeOf3
  v3 := Tryz.zeroValue3
  t4 := Tryz.underlying4
  a4 := Tryz.isAgg4
  z4 := Tryz.sizeOf4
  v4 := Tryz.zeroValue4
  t9 := Tryz.underlying9
  a9 := Tryz.isAgg9
  z9 := Tryz.sizeOf9
  v9 := Tryz.zeroValue9
  t24 := Tryz.underlying212
  a24 := Tryz.isAgg212
  z24 := Tryz.sizeOf212
  v24 := Tryz.zeroValue212 }
open Go.RowKit in
theorem Tryz.strings_CutPrefix (s p : ByteArray) (w : World) :
    Calls Tryz.prog 182 #[.string s, .string p] w fun e w' => e = .returned (.tuple #[.string ⟨(Lib.trimPrefix s.data.toList p.data.toList).toArray⟩, .bool (Lib.hasPrefix s.data.toList p.data.toList)]) ∧ w' = w := Any.strings_CutPrefix Tryz.lays103 s p w
def Tryz.laysM316_ren : Go.Shelf.Ren := ⟨fun | 316 => 171 | n => n, fun | 9 => 9 | 3 => 3 | 4 => 4 | 37 => 22 | 0 => 0 | 127 => 223 | 5 => 5 | n => n, fun | n => n⟩
theorem Tryz.laysM316 : Go.Proofs.LaysM.n316 Tryz.prog Tryz.laysM316_ren := {
  mixed := by kernel_rfl
  f316 := Tryz.func171.trans (congrArg some (by kernel_rfl))
  t0 := Tryz.underlying0
  a0 := Tryz.isAgg0
  z0 := Tryz.sizeOf0
  v0 := Tryz.zeroValue0
  t3 := Tryz.underlying3
  a3 := Tryz.isAgg3
  z3 := Tryz.sizeOf3
  v3 := Tryz.zeroValue3
  t4 := Tryz.underlying4
  a4 := Tryz.isAgg4
  z4 := Tryz.sizeOf4
  v4 := Tryz.zeroValue4
  t9 := Tryz.underlying9
  a9 := Tryz.isAgg9
  z9 := Tryz.sizeOf9
  v9 := Tryz.zeroValue9
  t37 := Tryz.underlying22
  a37 := Tryz.isAgg22
  z37 := Tryz.sizeOf22
  v37 := Tryz.zeroValue22
  t127 := Tryz.underlying223
  a127 := Tryz.isAgg223
  z127 := Tryz.sizeOf223
  v127 := Tryz.zeroValue223
  t5 := Tryz.underlying5
  a5 := Tryz.isAgg5
  z5 := Tryz.sizeOf5
  v5 := Tryz.zeroValue5
  i0 := by kernel_rfl
  i3 := by kernel_rfl
  i4 := by kernel_rfl
  i5 := by kernel_rfl
  i9 := by kernel_rfl
  i37 := by kernel_rfl
  i127 := by kernel_rfl }
open Go.RowKit in
theorem Tryz.stringslite_Clone (s : ByteArray) (w : World) (hlim : s.size ≤ 281474976710656) :
    Calls Tryz.prog 171 #[.string s] w fun e w' => e = .returned (.string s) ∧ Below w.heap.size w w' := Any.stringslite_Clone Tryz.laysM316 s w hlim
def Tryz.laysPu14_ren : Go.Shelf.Ren := ⟨fun | 14 => 184 | 16 => 193 | 17 => 194 | 19 => 197 | 20 => 198 | 21 => 199 | 22 => 200 | 23 => 201 | 24 => 202 | 25 => 171 | 27 => 205 | 26 => 204 | 28 => 208 | 29 => 210 | 30 => 211 | 31 => 212 | 32 => 213 | 33 => 214 | 35 => 216 | 34 => 215 | 36 => 217 | 37 => 218 | 38 => 219 | 39 => 220 | 40 => 221 | n => n, fun | 9 => 9 | 3 => 3 | 22 => 215 | 24 => 192 | 25 => 216 | 4 => 4 | 34 => 226 | 5 => 5 | 36 => 156 | 37 => 22 | 0 => 0 | 39 => 228 | 21 => 21 | 44 => 233 | 47 => 223 | 50 => 237 | 48 => 235 | 2 => 2 | 52 => 240 | 55 => 243 | 59 => 246 | 60 => 195 | 20 => 20 | 61 => 247 | 65 => 251 | 66 => 252 | 67 => 189 | n => n, fun | 0 => 3 | 1 => 4 | 2 => 5 | 3 => 6 | 4 => 7 | n => n⟩
theorem Tryz.laysPu14 : Go.Proofs.LaysPu.n14 Tryz.prog Tryz.laysPu14_ren := {
  mixed := by kernel_rfl
  f14 := Tryz.func184.trans (congrArg some (by kernel_rfl))
  f16 := Tryz.func193.trans (congrArg some (by kernel_rfl))
  f17 := Tryz.func194.trans (congrArg some (by kernel_rfl))
  f19 := Tryz.func197.trans (congrArg some (by kernel_rfl))
  f20 := Tryz.func198.trans (congrArg some (by kernel_rfl))
  f21 := Tryz.func199.trans (congrArg some (by kernel_rfl))
  f22 := Tryz.func200.trans (congrArg some (by kernel_rfl))
  f23 := Tryz.func201.trans (congrArg some (by kernel_rfl))
  f24 := Tryz.func202.trans (congrArg some (by kernel_rfl))
  f25 := Tryz.func171.trans (congrArg some (by kernel_rfl))
  f26 := Tryz.func204.trans (congrArg some (by kernel_rfl))
  f27 := Tryz.func205.trans (congrArg some (by kernel_rfl))
  f28 := Tryz.func208.trans (congrArg some (by kernel_rfl))
  f29 := Tryz.func210.trans (congrArg some (by kernel_rfl))
  f30 := Tryz.func211.trans (congrArg some (by kernel_rfl))
  f31 := Tryz.func212.trans (congrArg some (by kernel_rfl))
  f32 := Tryz.func213.trans (congrArg some (by kernel_rfl))
  f33 := Tryz.func214.trans (congrArg some (by kernel_rfl))
  f34 := Tryz.func215.trans (congrArg some (by kernel_rfl))
  f35 := Tryz.func216.trans (congrArg some (by kernel_rfl))
  f36 := Tryz.func217.trans (congrArg some (by kernel_rfl))
  f37 := Tryz.func218.trans (congrArg some (by kernel_rfl))
  f38 := Tryz.func219.trans (congrArg some (by kernel_rfl))
  f39 := Tryz.func220.trans (congrArg some (by kernel_rfl))
  f40 := Tryz.func221.trans (congrArg some (by kernel_rfl))
  t0 := Tryz.underlying0
  a0 := Tryz.isAgg0
  z0 := Tryz.sizeOf0
  v0 := Tryz.zeroValue0
  i0 := by kernel_rfl
  t2 := Tryz.underlying2
  a2 := Tryz.isAgg2
  z2 := Tryz.sizeOf2
  v2 := Tryz.zeroValue2
  i2 := by kernel_rfl
  t3 := Tryz.underlying3
  a3 := Tryz.isAgg3
  z3 := Tryz.sizeOf3
  v3 := Tryz.zeroValue3
  i3 := by kernel_rfl
  t4 := Tryz.underlying4
  a4 := Tryz.isAgg4
  z4 := Tryz.sizeOf4
  v4 := Tryz.zeroValue4
  i4 := by kernel_rfl
  t5 := Tryz.underlying5
  a5 := Tryz.isAgg5
  z5 := Tryz.sizeOf5
  v5 := Tryz.zeroValue5
  i5 := by kernel_rfl
  t9 := Tryz.underlying9
  a9 := Tryz.isAgg9
  z9 := Tryz.sizeOf9
  v9 := Tryz.zeroValue9
  i9 := by kernel_rfl
  t20 := Tryz.underlying20
  a20 := Tryz.isAgg20
  z20 := Tryz.sizeOf20
  v20 := Tryz.zeroValue20
  i20 := by kernel_rfl
  t21 := Tryz.underlying21
  a21 := Tryz.isAgg21
  z21 := Tryz.sizeOf21
  v21 := Tryz.zeroValue21
  i21 := by kernel_rfl
  t22 := Tryz.underlying215
  a22 := Tryz.isAgg215
  z22 := Tryz.sizeOf215
  v22 := Tryz.zeroValue215
  i22 := by kernel_rfl
  t24 := Tryz.underlying192
  a24 := Tryz.isAgg192
  z24 := Tryz.sizeOf192
  v24 := Tryz.zeroValue192
  i24 := by kernel_rfl
  t25 := Tryz.underlying216
  a25 := Tryz.isAgg216
  z25 := Tryz.sizeOf216
  v25 := Tryz.zeroValue216
  i25 := by kernel_rfl
  t34 := Tryz.underlying226
  a34 := Tryz.isAgg226
  z34 := Tryz.sizeOf226
  v34 := Tryz.zeroValue226
  i34 := by kernel_rfl
  c34 := by kernel_rfl
  t36 := Tryz.underlying156
  a36 := Tryz.isAgg156
  z36 := Tryz.sizeOf156
  v36 := Tryz.zeroValue156
  i36 := by kernel_rfl
  t37 := Tryz.underlying22
  a37 := Tryz.isAgg22
  z37 := Tryz.sizeOf22
  v37 := Tryz.zeroValue22
  i37 := by kernel_rfl
  t39 := Tryz.underlying228
  a39 := Tryz.isAgg228
  z39 := Tryz.sizeOf228
  v39 := Tryz.zeroValue228
  i39 := by kernel_rfl
  t44 := Tryz.underlying233
  a44 := Tryz.isAgg233
  z44 := Tryz.sizeOf233
  v44 := Tryz.zeroValue233
  i44 := by kernel_rfl
  t47 := Tryz.underlying223
  a47 := Tryz.isAgg223
  z47 := Tryz.sizeOf223
  v47 := Tryz.zeroValue223
  i47 := by kernel_rfl
  t48 := Tryz.underlying235
  a48 := Tryz.isAgg235
  z48 := Tryz.sizeOf235
  v48 := Tryz.zeroValue235
  i48 := by kernel_rfl
  t50 := Tryz.underlying237
  a50 := Tryz.isAgg237
  z50 := Tryz.sizeOf237
  v50 := Tryz.zeroValue237
  i50 := by kernel_rfl
  t52 := Tryz.underlying240
  a52 := Tryz.isAgg240
  z52 := Tryz.sizeOf240
  v52 := Tryz.zeroValue240
  i52 := by kernel_rfl
  t55 := Tryz.underlying243
  a55 := Tryz.isAgg243
  z55 := Tryz.sizeOf243
  v55 := Tryz.zeroValue243
  i55 := by kernel_rfl
  t59 := Tryz.underlying246
  a59 := Tryz.isAgg246
  z59 := Tryz.sizeOf246
  v59 := Tryz.zeroValue246
  i59 := by kernel_rfl
  t60 := Tryz.underlying195
  a60 := Tryz.isAgg195
  z60 := Tryz.sizeOf195
  v60 := Tryz.zeroValue195
  i60 := by kernel_rfl
  t61 := Tryz.underlying247
  a61 := Tryz.isAgg247
  z61 := Tryz.sizeOf247
  t65 := Tryz.underlying251
  a65 := Tryz.isAgg251
  z65 := Tryz.sizeOf251
  v65 := Tryz.zeroValue251
  i65 := by kernel_rfl
  t66 := Tryz.underlying252
  a66 := Tryz.isAgg252
  z66 := Tryz.sizeOf252
  v66 := Tryz.zeroValue252
  i66 := by kernel_rfl
  t67 := Tryz.underlying189
  a67 := Tryz.isAgg189
  z67 := Tryz.sizeOf189
  v67 := Tryz.zeroValue189
  i67 := by kernel_rfl
  g0 := by kernel_rfl
  m0 := by kernel_rfl
  g1 := by kernel_rfl
  m1 := by kernel_rfl
  g2 := by kernel_rfl
  m2 := by kernel_rfl
  g3 := by kernel_rfl
  m3 := by kernel_rfl
  g4 := by kernel_rfl
  m4 := by kernel_rfl }
open Go.RowKit in
theorem Tryz.strconv_ParseUint_10_at8_ok (s : ByteArray) (hmax : s.size ≤ 9223372036854775806) (u : Nat) (h : Lib.parseUintB 8 s.data.toList = .ok u) (w : World) :
    Calls Tryz.prog 184 #[.string s, .int .i64 10, .int .i64 8] w fun e w' => e = .returned (.tuple #[.int .u64 u, .nilIface]) ∧ (w' = w ∨ w' = Lib.bytesWorld w 5 s) := Any.strconv_ParseUint_10_at8_ok Tryz.laysPu14 s hmax u h w
open Go.RowKit in
theorem Tryz.strconv_ParseUint_10_at8_syntax_var (s : ByteArray) (hlim : s.size ≤ 281474976710656) (h : Lib.parseUintB 8 s.data.toList = .«syntax») (tp : TypeId) (p : Value) (w : World) (hvar : w.var? Tryz.prog "strconv.ErrSyntax" = some #[.iface tp p]) :
    Calls Tryz.prog 184 #[.string s, .int .i64 10, .int .i64 8] w fun e w' => ∃ N, e = .returned (.tuple #[.int .u64 0, .iface 228 (.pointer (some ⟨N, 0, none⟩))]) ∧ w.heap.size ≤ N ∧ w'.heap[N]? = some (.cells #[.string ⟨#[80, 97, 114, 115, 101, 85, 105, 110, 116]⟩, .string s, .iface tp p] 233 (0, 0)) ∧ Below w.heap.size w w' := Any.strconv_ParseUint_10_at8_syntax_var Tryz.laysPu14 s hlim h tp p w hvar
open Go.RowKit in
theorem Tryz.strconv_ParseUint_10_at8_range_var (s : ByteArray) (hlim : s.size ≤ 281474976710656) (h : Lib.parseUintB 8 s.data.toList = .range) (tp : TypeId) (p : Value) (w : World) (hvar : w.var? Tryz.prog "strconv.ErrRange" = some #[.iface tp p]) :
    Calls Tryz.prog 184 #[.string s, .int .i64 10, .int .i64 8] w fun e w' => ∃ N, e = .returned (.tuple #[.int .u64 255, .iface 228 (.pointer (some ⟨N, 0, none⟩))]) ∧ w.heap.size ≤ N ∧ w'.heap[N]? = some (.cells #[.string ⟨#[80, 97, 114, 115, 101, 85, 105, 110, 116]⟩, .string s, .iface tp p] 233 (0, 0)) ∧ Below w.heap.size w w' := Any.strconv_ParseUint_10_at8_range_var Tryz.laysPu14 s hlim h tp p w hvar
def Tryz.lays219_ren : Go.Shelf.Ren := ⟨fun | 219 => 203 | 217 => 192 | 225 => 206 | 224 => 126 | 267 => 207 | 266 => 196 | 314 => 209 | n => n, fun | 9 => 9 | 3 => 3 | 4 => 4 | 5 => 5 | 46 => 156 | 146 => 196 | 51 => 195 | n => n, fun | 1 => 0 | n => n⟩
theorem Tryz.lays219 : Go.Proofs.Lays.n219 Tryz.prog Tryz.lays219_ren := {
  mixed := by kernel_rfl
  f217 := Tryz.func192.trans (congrArg some (by kernel_rfl))
  f219 := Tryz.func203.trans (congrArg some (by kernel_rfl))
  f224 := Tryz.func126.trans (congrArg some (by kernel_rfl))
  f225 := Tryz.func206.trans (congrArg some (by kernel_rfl))
  f266 := Tryz.func196.trans (congrArg some (by kernel_rfl))
  f267 := Tryz.func207.trans (congrArg some (by kernel_rfl))
  f314 := Tryz.func209.trans (congrArg some (by kernel_rfl))
  t3 := Tryz.underlying3
  a3 := Tryz.isAgg3
  z3 := Tryz.sizeOf3
  v3 := Tryz.zeroValue3
  t4 := Tryz.underlying4
  a4 := Tryz.isAgg4
  z4 := Tryz.sizeOf4
  v4 := Tryz.zeroValue4
  t5 := Tryz.underlying5
  a5 := Tryz.isAgg5
  z5 := Tryz.sizeOf5
  v5 := Tryz.zeroValue5
  t9 := Tryz.underlying9
  a9 := Tryz.isAgg9
  z9 := Tryz.sizeOf9
  v9 := Tryz.zeroValue9
  t46 := Tryz.underlying156
  a46 := Tryz.isAgg156
  z46 := Tryz.sizeOf156
  v46 := Tryz.zeroValue156
  t51 := Tryz.underlying195
  a51 := Tryz.isAgg195
  z51 := Tryz.sizeOf195
  v51 := Tryz.zeroValue195
  t146 := Tryz.underlying196
  a146 := Tryz.isAgg196
  z146 := Tryz.sizeOf196
  v146 := Tryz.zeroValue196
  g1 := by kernel_rfl }
open Go.RowKit Go.Lib in
theorem Tryz.stringslite_Index_one (s : ByteArray) (c : UInt8) (w : World) :
    Calls Tryz.prog 203 #[.string s, .string ⟨#[c]⟩] w fun e w' => e = .returned (.int .i64 (Lib.indexByte s.data.toList c)) ∧ w' = w := Any.stringslite_Index_one Tryz.lays219 s c w
def Tryz.lays99_ren : Go.Shelf.Ren := ⟨fun | 99 => 159 | 206 => 185 | n => n, fun | 9 => 9 | 4 => 4 | 3 => 3 | n => n, fun | n => n⟩
theorem Tryz.lays99 : Go.Proofs.Lays.n99 Tryz.prog Tryz.lays99_ren := {
  mixed := by kernel_rfl
  f99 := Tryz.func159.trans (congrArg some (by kernel_rfl))
  f206 := Tryz.func185.trans (congrArg some (by kernel_rfl))
  t3 := Tryz.underlying3
  a3 := Tryz.isAgg3
  z3 := Tryz.sizeOf3
  v3 := Tryz.zeroValue3
  t4 := Tryz.underlying4
  a4 := Tryz.isAgg4
  z4 := Tryz.sizeOf4
  v4 := Tryz.zeroValue4
  t9 := Tryz.underlying9
  a9 := Tryz.isAgg9
  z9 := Tryz.sizeOf9
  v9 := Tryz.zeroValue9 }
open Go.RowKit Go.Lib in
theorem Tryz.strings_HasPrefix (s p : ByteArray) (w : World) :
    Calls Tryz.prog 159 #[.string s, .string p] w fun e w' => e = .returned (.bool (Lib.hasPrefix s.data.toList p.data.toList)) ∧ w' = w := Any.strings_HasPrefix Tryz.lays99 s p w
def Tryz.lays100_ren : Go.Shelf.Ren := ⟨fun | 100 => 162 | 207 => 189 | n => n, fun | 9 => 9 | 4 => 4 | 3 => 3 | n => n, fun | n => n⟩
theorem Tryz.lays100 : Go.Proofs.Lays.n100 Tryz.prog Tryz.lays100_ren := {
  mixed := by kernel_rfl
  f100 := Tryz.func162.trans (congrArg some (by kernel_rfl))
  f207 := Tryz.func189.trans (congrArg some (by kernel_rfl))
  t3 := Tryz.underlying3
  a3 := Tryz.isAgg3
  z3 := Tryz.sizeOf3
  v3 := Tryz.zeroValue3
  t4 := Tryz.underlying4
  a4 := Tryz.isAgg4
  z4 := Tryz.sizeOf4
  v4 := Tryz.zeroValue4
  t9 := Tryz.underlying9
  a9 := Tryz.isAgg9
  z9 := Tryz.sizeOf9
  v9 := Tryz.zeroValue9 }
open Go.RowKit Go.Lib in
theorem Tryz.strings_HasSuffix (s p : ByteArray) (w : World) (hs : s.size ≤ 9223372036854775807) :
    Calls Tryz.prog 162 #[.string s, .string p] w fun e w' => e = .returned (.bool (Lib.hasSuffix s.data.toList p.data.toList)) ∧ w' = w := Any.strings_HasSuffix Tryz.lays100 s p w hs
end Go.Proofs.YthcajggbcanmdaaGreatDoor

namespace Go.Proofs.YthcajggbcanmdaaGreatDoor
open Go.RowKit

def nameText : Nat → List UInt8
  | 0 => [38, 108, 116, 59]
  | 1 => [38, 103, 116, 59]
  | 2 => [38, 97, 109, 112, 59]
  | _ => [38, 113, 117, 111, 116, 59]
def nameOf (L : List UInt8) : Nat × Nat := if Lib.hasPrefix L (nameText 0) = true then (60, 4) else if Lib.hasPrefix L (nameText 1) = true then (62, 4) else if Lib.hasPrefix L (nameText 2) = true then (38, 5) else if Lib.hasPrefix L (nameText 3) = true then (34, 6) else (0, 0)
theorem drewN_below {B : Nat} {w w' : World} (h : Below B w w') (n : Nat) : Below B w (w'.drewN n) := ⟨h.os, h.tape, h.output, h.size, h.block⟩

set_option maxRecDepth 100000 in
set_option maxHeartbeats 800000 in
theorem nameAhead_any (s : ByteArray) (w : World) (hr : Refs w) :
    Calls Tryz.prog 153 #[.string s] w fun e w' => e = .returned (.tuple #[.int .u8 (nameOf s.data.toList).1, .int .i64 (nameOf s.data.toList).2]) ∧ Below w.heap.size w w' := by
  have g0 := hr 0 (by decide)
  have g1 := hr 1 (by decide)
  have g2 := hr 2 (by decide)
  have g3 := hr 3 (by decide)
  have g4 := hr 4 (by decide)
  have g5 := hr 5 (by decide)
  have g6 := hr 6 (by decide)
  have g7 := hr 7 (by decide)
  simp only [refCell] at g0 g1 g2 g3 g4 g5 g6 g7
  clear hr
  go_enter Tryz.func153, Tryz.ntmps153
  go_wp2
  clear g0 g1 g2 g3 g4 g5 g6 g7
  go_loopw [7] (fun i wr => ∃ k : Nat, k ≤ 4 ∧ i = .int .i64 k ∧ (∀ j, j < k → ¬ Lib.hasPrefix s.data.toList (nameText j) = true) ∧ Below w.heap.size w wr) (fun i _ => 4 - (intOf i).toNat)
  case atStart => exact ⟨0, by decide, rfl, fun j h => by omega, Below.refl _ _⟩
  case round =>
    obtain ⟨k, hk, rfl, hn, hb⟩ := hrel
    have HB := Hid.mk' hb
    have hs := hb.size
    have HN := Hid.mk' hn
    clear hb hn
    match k, hk with
    | 0, _ =>
      go_wp2
      rw [show ((0 : Nat) : Int) = 0 from rfl, ix0 wr]
      go_wp2_with fail
      refine (Tryz.strings_HasPrefix s ⟨#[38, 108, 116, 59]⟩ _).mono ?_
      rintro e w1 ⟨rfl, rfl⟩
      by_cases hp : Lib.hasPrefix s.data.toList (nameText 0) = true
      · have hp' : Lib.hasPrefix s.data.toList [38, 108, 116, 59] = true := hp
        have Z := Hid.mk' (show nameOf s.data.toList = (60, 4) by
          unfold nameOf
          rw [if_pos hp])
        clear hp
        go_wp2
        go_quiet (fail)
        go_wp2
        go_ret2
        rw [Z.out]
        exact ⟨rfl, drewN_below (HB.out.alloc hs _) _⟩
      · have hp' : Lib.hasPrefix s.data.toList [38, 108, 116, 59] = false := eq_false_of_ne_true hp
        have HP := Hid.mk' hp
        clear hp
        go_wp2
        refine ⟨⟨1, by decide, rfl, fun j hj => ?_, HB.out.alloc hs _⟩, by decide⟩
        by_cases hjk : j = 0
        · subst hjk
          exact HP.out
        · exact HN.out j (by omega)
    | 1, _ =>
      go_wp2
      rw [show ((1 : Nat) : Int) = 1 from rfl, ix1 wr]
      go_wp2_with fail
      refine (Tryz.strings_HasPrefix s ⟨#[38, 103, 116, 59]⟩ _).mono ?_
      rintro e w1 ⟨rfl, rfl⟩
      by_cases hp : Lib.hasPrefix s.data.toList (nameText 1) = true
      · have hp' : Lib.hasPrefix s.data.toList [38, 103, 116, 59] = true := hp
        have Z := Hid.mk' (show nameOf s.data.toList = (62, 4) by
          unfold nameOf
          rw [if_neg (HN.out 0 (by decide)), if_pos hp])
        clear hp
        go_wp2
        go_quiet (fail)
        go_wp2
        go_ret2
        rw [Z.out]
        exact ⟨rfl, drewN_below (HB.out.alloc hs _) _⟩
      · have hp' : Lib.hasPrefix s.data.toList [38, 103, 116, 59] = false := eq_false_of_ne_true hp
        have HP := Hid.mk' hp
        clear hp
        go_wp2
        refine ⟨⟨2, by decide, rfl, fun j hj => ?_, HB.out.alloc hs _⟩, by decide⟩
        by_cases hjk : j = 1
        · subst hjk
          exact HP.out
        · exact HN.out j (by omega)
    | 2, _ =>
      go_wp2
      rw [show ((2 : Nat) : Int) = 2 from rfl, ix2 wr]
      go_wp2_with fail
      refine (Tryz.strings_HasPrefix s ⟨#[38, 97, 109, 112, 59]⟩ _).mono ?_
      rintro e w1 ⟨rfl, rfl⟩
      by_cases hp : Lib.hasPrefix s.data.toList (nameText 2) = true
      · have hp' : Lib.hasPrefix s.data.toList [38, 97, 109, 112, 59] = true := hp
        have Z := Hid.mk' (show nameOf s.data.toList = (38, 5) by
          unfold nameOf
          rw [if_neg (HN.out 0 (by decide)), if_neg (HN.out 1 (by decide)), if_pos hp])
        clear hp
        go_wp2
        go_quiet (fail)
        go_wp2
        go_ret2
        rw [Z.out]
        exact ⟨rfl, drewN_below (HB.out.alloc hs _) _⟩
      · have hp' : Lib.hasPrefix s.data.toList [38, 97, 109, 112, 59] = false := eq_false_of_ne_true hp
        have HP := Hid.mk' hp
        clear hp
        go_wp2
        refine ⟨⟨3, by decide, rfl, fun j hj => ?_, HB.out.alloc hs _⟩, by decide⟩
        by_cases hjk : j = 2
        · subst hjk
          exact HP.out
        · exact HN.out j (by omega)
    | 3, _ =>
      go_wp2
      rw [show ((3 : Nat) : Int) = 3 from rfl, ix3 wr]
      go_wp2_with fail
      refine (Tryz.strings_HasPrefix s ⟨#[38, 113, 117, 111, 116, 59]⟩ _).mono ?_
      rintro e w1 ⟨rfl, rfl⟩
      by_cases hp : Lib.hasPrefix s.data.toList (nameText 3) = true
      · have hp' : Lib.hasPrefix s.data.toList [38, 113, 117, 111, 116, 59] = true := hp
        have Z := Hid.mk' (show nameOf s.data.toList = (34, 6) by
          unfold nameOf
          rw [if_neg (HN.out 0 (by decide)), if_neg (HN.out 1 (by decide)), if_neg (HN.out 2 (by decide)), if_pos hp])
        clear hp
        go_wp2
        go_quiet (fail)
        go_wp2
        go_ret2
        rw [Z.out]
        exact ⟨rfl, drewN_below (HB.out.alloc hs _) _⟩
      · have hp' : Lib.hasPrefix s.data.toList [38, 113, 117, 111, 116, 59] = false := eq_false_of_ne_true hp
        have HP := Hid.mk' hp
        clear hp
        go_wp2
        refine ⟨⟨4, by decide, rfl, fun j hj => ?_, HB.out.alloc hs _⟩, by decide⟩
        by_cases hjk : j = 3
        · subst hjk
          exact HP.out
        · exact HN.out j (by omega)
    | 4, _ =>
      have Z := Hid.mk' (show nameOf s.data.toList = (0, 0) by
        unfold nameOf
        rw [if_neg (HN.out 0 (by decide)), if_neg (HN.out 1 (by decide)), if_neg (HN.out 2 (by decide)), if_neg (HN.out 3 (by decide))])
      go_wp2
      go_ret2
      rw [Z.out]
      exact ⟨rfl, HB.out⟩
end Go.Proofs.YthcajggbcanmdaaGreatDoor

namespace Go.Proofs.YthcajggbcanmdaaGreatDoor
open Go.RowKit

def numAhead (L : List UInt8) : Nat × Nat := if Lib.hasPrefix L [38, 35] = true then
    (if Lib.indexByte ((L.drop 2).take 4) 59 < 1 then (0, 0) else if ((L.drop 2).getD 0 0).toNat = 48 then (0, 0) else
      match Lib.parseUintB 8 ((L.drop 2).take (Lib.indexByte ((L.drop 2).take 4) 59).toNat) with
      | .ok u => (u, 2 + (Lib.indexByte ((L.drop 2).take 4) 59).toNat + 1)
      | _ => (0, 0)) else (0, 0)
def refImpl (L : List UInt8) : Nat × Nat := if 0 < (nameOf L).2 then nameOf L else numAhead L

theorem index_semi : ∀ (D : List UInt8) (n : Nat), Lib.indexByte (D.take n) 59 = (match semi D n with | some m => (m : Int) | none => -1)
  | D, 0 => by cases D <;> rfl
  | [], n + 1 => rfl
  | c :: r, n + 1 => by
    have ih := index_semi r n
    simp only [List.take_succ_cons, Lib.indexByte, semi]
    by_cases h : c.toNat = 59
    · have : c = 59 := UInt8.toNat_inj.1 h
      subst this
      rfl
    · have hc : (c == 59) = false := by rw [beq_eq_false_iff_ne]; intro e; subst e; exact h rfl
      rw [if_neg h, hc, ih]
      cases semi r n with
      | none => rfl
      | some m =>
        have hm : (((m : Int)) == -1) = false := by rw [beq_eq_false_iff_ne]; omega
        simp only [Option.map_some, hm]
        rfl
theorem semi_spec : ∀ (R : List UInt8) (n m : Nat), semi R n = some m → m < n ∧ ∃ S, R = R.take m ++ 59 :: S
  | [], 0, _, h => by cases h
  | _ :: _, 0, _, h => by cases h
  | [], _ + 1, _, h => by cases h
  | c :: r, n + 1, m, h => by
    simp only [semi] at h
    by_cases hc : c.toNat = 59
    · rw [if_pos hc] at h
      cases h
      have : c = 59 := UInt8.toNat_inj.1 hc
      subst this
      exact ⟨Nat.succ_pos _, r, rfl⟩
    · rw [if_neg hc] at h
      cases hs : semi r n with
      | none => rw [hs] at h; cases h
      | some k =>
        rw [hs] at h
        cases h
        obtain ⟨h1, S, h2⟩ := semi_spec r n k hs
        refine ⟨Nat.succ_lt_succ h1, S, ?_⟩
        show c :: r = c :: (r.take k ++ 59 :: S)
        rw [← h2]

theorem valF_ge : ∀ (l : List UInt8) (a : Nat), a ≤ valF a l
  | [], a => Nat.le_refl a
  | c :: r, a => by
    have := valF_ge r (a * 10 + (c.toNat - 48))
    show a ≤ valF (a * 10 + (c.toNat - 48)) r
    omega
theorem parse_yes : ∀ (l : List UInt8) (a : Nat), l.all isD = true → valF a l ≤ 255 → Lib.parseUintM 255 a l = .ok (valF a l)
  | [], a, _, _ => rfl
  | c :: r, a, h, hv => by
    simp only [List.all_cons, Bool.and_eq_true] at h
    have hc := isD_bd h.1
    have hv : valF (a * 10 + (c.toNat - 48)) r ≤ 255 := hv
    have hg := valF_ge r (a * 10 + (c.toNat - 48))
    simp only [Lib.parseUintM]
    rw [if_pos hc, if_neg (by omega), if_neg (by omega)]
    exact parse_yes r _ h.2 hv
theorem parse_no : ∀ (l : List UInt8) (a u : Nat), a ≤ 255 → Lib.parseUintM 255 a l = .ok u → l.all isD = true ∧ valF a l ≤ 255
  | [], a, u, ha, _ => ⟨rfl, ha⟩
  | c :: r, a, u, ha, h => by
    simp only [Lib.parseUintM] at h
    by_cases hc : 48 ≤ c.toNat ∧ c.toNat ≤ 57
    · rw [if_pos hc] at h
      rw [if_neg (by omega)] at h
      by_cases hv : 255 < a * 10 + (c.toNat - 48)
      · rw [if_pos hv] at h; cases h
      · rw [if_neg hv] at h
        have ih := parse_no r _ u (by omega) h
        refine ⟨?_, ih.2⟩
        rw [List.all_cons, ih.1]
        have : isD c = true := by unfold isD; simp only [hc.1, hc.2, decide_true, Bool.and_self]
        rw [this]; rfl
    · rw [if_neg hc] at h; cases h

theorem prefix_iff (L p : List UInt8) : Lib.hasPrefix L p = true ↔ ∃ S, L = p ++ S := by
  unfold Lib.hasPrefix
  rw [List.isPrefixOf_iff_prefix]
  exact ⟨fun ⟨S, h⟩ => ⟨S, h.symm⟩, fun ⟨S, h⟩ => ⟨S, h.symm⟩⟩

theorem num_case (D : List UInt8) : refOf (38 :: 35 :: D) = numAhead (38 :: 35 :: D) := by
  have hp : Lib.hasPrefix (38 :: 35 :: D) [38, 35] = true := (prefix_iff _ _).2 ⟨D, rfl⟩
  unfold numAhead
  rw [if_pos hp]
  show refOf (38 :: 35 :: D) = (if Lib.indexByte (D.take 4) 59 < 1 then (0, 0) else if (D.getD 0 0).toNat = 48 then (0, 0) else
      match Lib.parseUintB 8 (D.take (Lib.indexByte (D.take 4) 59).toNat) with
      | .ok u => (u, 2 + (Lib.indexByte (D.take 4) 59).toNat + 1)
      | _ => (0, 0))
  rw [index_semi D 4]
  have hr : refOf (38 :: 35 :: D) = (match (semi D 4).map (· + 1) with
      | some m => (match namedOf ((35 :: D).take m) with
        | some b => (b, m + 2)
        | none => (0, 0))
      | none => (0, 0)) := rfl
  rw [hr]
  cases hs : semi D 4 with
  | none => rfl
  | some m =>
    obtain ⟨hm4, S, hD⟩ := semi_spec D 4 m hs
    have hlen : m < D.length := by
      have := congrArg List.length hD
      rw [List.length_append, List.length_cons, List.length_take] at this
      omega
    have htl : (D.take m).length = m := by rw [List.length_take]; omega
    simp only [Option.map_some, List.take_succ_cons, Int.toNat_natCast]
    have hn : namedOf (35 :: D.take m) = if 1 < (35 :: D.take m).length ∧ ((35 :: D.take m).getD 0 0).toNat = 35 then numOf ((35 :: D.take m).drop 1) else none := by
      unfold namedOf
      rw [if_neg (by intro e; cases e), if_neg (by intro e; cases e), if_neg (by intro e; cases e), if_neg (by intro e; cases e)]
    rw [hn, show (35 :: D.take m).drop 1 = D.take m from rfl]
    by_cases h0 : m = 0
    · subst h0
      rfl
    · rw [if_pos ⟨by rw [List.length_cons, htl]; omega, rfl⟩, if_neg (by omega)]
      have hg : (D.take m).getD 0 0 = D.getD 0 0 := by
        rw [List.getD_eq_getElem?_getD, List.getD_eq_getElem?_getD, List.getElem?_take, if_pos (by omega)]
      by_cases h48 : (D.getD 0 0).toNat = 48
      · rw [if_pos h48]
        have : numOf (D.take m) = none := by unfold numOf; rw [if_neg (by rw [hg]; exact fun h => h.2 h48)]
        rw [this]
      · rw [if_neg h48]
        have hnum : numOf (D.take m) = if (D.take m).all isD = true ∧ valF 0 (D.take m) ≤ 255 then some (valF 0 (D.take m)) else none := by
          unfold numOf; rw [if_pos ⟨⟨by omega, by omega⟩, by rw [hg]; exact h48⟩]
        have hne : ¬ D.take m = [] := by intro e; rw [e] at htl; simp at htl; omega
        have hpb : Lib.parseUintB 8 (D.take m) = Lib.parseUintM 255 0 (D.take m) := by unfold Lib.parseUintB; rw [if_neg hne]
        rw [hnum, hpb]
        by_cases hq : (D.take m).all isD = true ∧ valF 0 (D.take m) ≤ 255
        · rw [if_pos hq, parse_yes _ 0 hq.1 hq.2]
          show (valF 0 (D.take m), m + 1 + 2) = (valF 0 (D.take m), 2 + m + 1)
          congr 1
          omega
        · rw [if_neg hq]
          cases hP : Lib.parseUintM 255 0 (D.take m) with
          | ok u => exact absurd (parse_no _ 0 u (by decide) hP) hq
          | _ => rfl

theorem ref_same (L : List UInt8) : refImpl L = refOf L := by
  unfold refImpl nameOf
  by_cases p0 : Lib.hasPrefix L (nameText 0) = true
  · obtain ⟨S, rfl⟩ := (prefix_iff _ _).1 p0
    rw [if_pos p0]; rfl
  rw [if_neg p0]
  by_cases p1 : Lib.hasPrefix L (nameText 1) = true
  · obtain ⟨S, rfl⟩ := (prefix_iff _ _).1 p1
    rw [if_pos p1]; rfl
  rw [if_neg p1]
  by_cases p2 : Lib.hasPrefix L (nameText 2) = true
  · obtain ⟨S, rfl⟩ := (prefix_iff _ _).1 p2
    rw [if_pos p2]; rfl
  rw [if_neg p2]
  by_cases p3 : Lib.hasPrefix L (nameText 3) = true
  · obtain ⟨S, rfl⟩ := (prefix_iff _ _).1 p3
    rw [if_pos p3]; rfl
  rw [if_neg p3, if_neg (by decide)]
  by_cases p4 : Lib.hasPrefix L [38, 35] = true
  · obtain ⟨S, rfl⟩ := (prefix_iff _ _).1 p4
    exact (num_case S).symm
  · have hn : numAhead L = (0, 0) := by unfold numAhead; rw [if_neg p4]
    rw [hn]
    cases L with
    | nil => rfl
    | cons c R =>
      show (0, 0) = refOf (c :: R)
      rw [refOf]
      by_cases hc : c.toNat = 38
      · have : c = 38 := UInt8.toNat_inj.1 hc
        subst this
        rw [if_pos hc]
        cases hs : semi R 5 with
        | none => rfl
        | some m =>
          obtain ⟨hm, S, hR⟩ := semi_spec R 5 m hs
          have hno : namedOf (R.take m) = none := by
            generalize R.take m = T at hR
            subst hR
            unfold namedOf
            rw [if_neg (fun e => p0 ((prefix_iff _ _).2 ⟨S, by rw [e]; rfl⟩)), if_neg (fun e => p1 ((prefix_iff _ _).2 ⟨S, by rw [e]; rfl⟩)), if_neg (fun e => p2 ((prefix_iff _ _).2 ⟨S, by rw [e]; rfl⟩)), if_neg (fun e => p3 ((prefix_iff _ _).2 ⟨S, by rw [e]; rfl⟩))]
            rw [if_neg]
            rintro ⟨h1, h2⟩
            cases T with
            | nil => simp at h1
            | cons x T' =>
              have h2 : x.toNat = 35 := h2
              have : x = 35 := UInt8.toNat_inj.1 h2
              subst this
              exact p4 ((prefix_iff _ _).2 ⟨T' ++ 59 :: S, rfl⟩)
          simp only [hno]
      · rw [if_neg hc]
end Go.Proofs.YthcajggbcanmdaaGreatDoor

namespace Go.Proofs.YthcajggbcanmdaaGreatDoor
open Go.RowKit

def Errs (w : World) : Prop := (∃ tp p, w.var? Tryz.prog "strconv.ErrSyntax" = some #[.iface tp p]) ∧ (∃ tp p, w.var? Tryz.prog "strconv.ErrRange" = some #[.iface tp p])
theorem var_keep {w w' : World} {n : String} {cs : Array Value} (hv : w.var? Tryz.prog n = some cs) (hb : Below w.heap.size w w') : w'.var? Tryz.prog n = some cs := by
  unfold World.var? at hv ⊢
  cases hg : Tryz.prog.globalNamed n with
  | none => rw [hg] at hv; cases hv
  | some g =>
    rw [hg] at hv
    simp only [Option.bind_some] at hv ⊢
    have hlt : g < w.heap.size := by
      refine Nat.lt_of_not_le fun hn => ?_
      rw [Array.getElem?_eq_none hn] at hv
      cases hv
    rw [hb.block g hlt]
    exact hv
theorem Errs.below {w w' : World} (h : Errs w) (hb : Below w.heap.size w w') : Errs w' := by
  obtain ⟨⟨a, b, h1⟩, ⟨c, d, h2⟩⟩ := h
  exact ⟨⟨a, b, var_keep h1 hb⟩, ⟨c, d, var_keep h2 hb⟩⟩

theorem head_list (s : ByteArray) (n : Nat) : (s.extract 0 n).data.toList = s.data.toList.take n := by rw [ext_list]; simp
theorem parse_ok_le {l : List UInt8} {u : Nat} (h : Lib.parseUintB 8 l = .ok u) : u ≤ 255 := by
  unfold Lib.parseUintB at h
  split at h
  · cases h
  · have h : Lib.parseUintM 255 0 l = .ok u := h
    have := parse_no l 0 u (by decide) h
    rw [parse_yes l 0 this.1 this.2] at h
    cases h
    exact this.2

theorem parse_any (s : ByteArray) (w : World) (hs : s.size ≤ 1048576) (he : Errs w) :
    Calls Tryz.prog 184 #[.string s, .int .i64 10, .int .i64 8] w fun e w' => (∃ v er, e = .returned (.tuple #[.int .u64 v, er]) ∧ ((∃ u : Nat, Lib.parseUintB 8 s.data.toList = .ok u ∧ v = u ∧ er = .nilIface) ∨ ((∀ u, ¬ Lib.parseUintB 8 s.data.toList = .ok u) ∧ ∃ b, er = .iface 228 (.pointer (some ⟨b, 0, none⟩))))) ∧ Below w.heap.size w w' := by
  obtain ⟨⟨t1, p1, h1⟩, ⟨t2, p2, h2⟩⟩ := he
  cases hP : Lib.parseUintB 8 s.data.toList with
  | ok u =>
    refine (Tryz.strconv_ParseUint_10_at8_ok s (by omega) u hP w).mono ?_
    rintro e w' ⟨rfl, h | h⟩
    · subst h; exact ⟨⟨_, _, rfl, .inl ⟨u, rfl, rfl, rfl⟩⟩, Below.refl _ _⟩
    · subst h; exact ⟨⟨_, _, rfl, .inl ⟨u, rfl, rfl, rfl⟩⟩, Lib.bytesWorld_below w 5 s⟩
  | «syntax» =>
    refine (Tryz.strconv_ParseUint_10_at8_syntax_var s (by omega) hP t1 p1 w h1).mono ?_
    rintro e w' ⟨N, rfl, _, _, hb⟩
    exact ⟨⟨_, _, rfl, .inr ⟨fun u h => (by cases h), N, rfl⟩⟩, hb⟩
  | range =>
    refine (Tryz.strconv_ParseUint_10_at8_range_var s (by omega) hP t2 p2 w h2).mono ?_
    rintro e w' ⟨N, rfl, _, _, hb⟩
    exact ⟨⟨_, _, rfl, .inr ⟨fun u h => (by cases h), N, rfl⟩⟩, hb⟩

theorem take_min (D : List UInt8) (n : Nat) (h : D.length = n) : D.take (min (n : Int) 4).toNat = D.take 4 := by
  by_cases hn : n ≤ 4
  · rw [show (min (n : Int) 4).toNat = n from by omega, List.take_of_length_le (by omega), List.take_of_length_le (by omega)]
  · rw [show (min (n : Int) 4).toNat = 4 from by omega]

theorem index_any (r : ByteArray) (D : List UInt8) (e : r.data.toList = D) (w : World) :
    Calls Tryz.prog 183 #[.string (r.extract 0 (min (r.size : Int) 4).toNat), .int .u8 59] w fun e w' => e = .returned (.int .i64 (Lib.indexByte (D.take 4) 59)) ∧ w' = w := by
  have h := Tryz.strings_IndexByte (r.extract 0 (min (r.size : Int) 4).toNat) 59 w
  rw [head_list, e, take_min D r.size (by rw [← e]; exact len_list r)] at h
  exact h

theorem index_bd (D : List UInt8) : -1 ≤ Lib.indexByte (D.take 4) 59 ∧ Lib.indexByte (D.take 4) 59 ≤ 3 ∧ (1 ≤ Lib.indexByte (D.take 4) 59 → (Lib.indexByte (D.take 4) 59).toNat < D.length) := by
  rw [index_semi D 4]
  cases hs : semi D 4 with
  | none => exact ⟨by decide, by decide, fun h => absurd h (by decide)⟩
  | some m =>
    obtain ⟨h1, S, h2⟩ := semi_spec D 4 m hs
    have hlen : m < D.length := by
      have := congrArg List.length h2
      rw [List.length_append, List.length_cons, List.length_take] at this
      omega
    refine ⟨by show -1 ≤ (m : Int); omega, by show (m : Int) ≤ 3; omega, fun _ => hlen⟩

set_option maxRecDepth 100000 in
set_option maxHeartbeats 1600000 in
theorem number_any (s : ByteArray) (w : World) (hs : s.size ≤ 1048576) (he : Errs w) :
    Calls Tryz.prog 154 #[.string s] w fun e w' => e = .returned (.tuple #[.int .u8 (numAhead s.data.toList).1, .int .i64 (numAhead s.data.toList).2]) ∧ Below w.heap.size w w' := by
  have hL := len_list s
  have C := Tryz.strings_CutPrefix s ⟨#[38, 35]⟩ w
  have HE := Hid.mk' he
  clear he
  cases hp : Lib.hasPrefix s.data.toList [38, 35] with
  | false =>
    have Z := Hid.mk' (show numAhead s.data.toList = (0, 0) by unfold numAhead; rw [hp]; rfl)
    have hp' : Lib.hasPrefix s.data.toList ([38, 35] : List UInt8) = false := hp
    rw [show (⟨#[38, 35]⟩ : ByteArray).data.toList = [38, 35] from rfl, hp'] at C
    have hr : (⟨(Lib.trimPrefix s.data.toList [38, 35]).toArray⟩ : ByteArray) = s := by unfold Lib.trimPrefix; rw [hp']; rfl
    rw [hr] at C
    have CC := Hid.mk' C
    clear C hp hp' hr
    go_enter Tryz.func154, Tryz.ntmps154
    go_wp2_with fail
    refine CC.out.mono ?_
    rintro e w1 ⟨rfl, rfl⟩
    clear CC
    go_wp2_with fail
    refine (index_any s _ rfl _).mono ?_
    rintro e w2 ⟨rfl, rfl⟩
    go_wp2
    go_ret2
    rw [Z.out]
    exact ⟨rfl, Below.refl _ _⟩
  | true =>
    have hp' : Lib.hasPrefix s.data.toList ([38, 35] : List UInt8) = true := hp
    have hN : numAhead s.data.toList = (if Lib.indexByte ((s.data.toList.drop 2).take 4) 59 < 1 then (0, 0) else if ((s.data.toList.drop 2).getD 0 0).toNat = 48 then (0, 0) else
      match Lib.parseUintB 8 ((s.data.toList.drop 2).take (Lib.indexByte ((s.data.toList.drop 2).take 4) 59).toNat) with
      | .ok u => (u, 2 + (Lib.indexByte ((s.data.toList.drop 2).take 4) 59).toNat + 1)
      | _ => (0, 0)) := by unfold numAhead; rw [if_pos hp]; rfl
    rw [show (⟨#[38, 35]⟩ : ByteArray).data.toList = [38, 35] from rfl, hp'] at C
    have hr : Lib.trimPrefix s.data.toList [38, 35] = s.data.toList.drop 2 := by unfold Lib.trimPrefix; rw [hp']; rfl
    rw [hr] at C
    obtain ⟨r, hrr⟩ : ∃ r : ByteArray, r = ⟨(s.data.toList.drop 2).toArray⟩ := ⟨_, rfl⟩
    have hrd : r.data.toList = s.data.toList.drop 2 := by rw [hrr]
    rw [← hrr] at C
    have hrs : r.size ≤ 1048576 := by rw [← len_list r, hrd, List.length_drop]; omega
    have hrl : (s.data.toList.drop 2).length = r.size := by rw [← hrd]; exact len_list r
    have HN := Hid.mk' hN
    have CC := Hid.mk' C
    have EE := Hid.mk' hrd
    have bd := index_bd (s.data.toList.drop 2)
    have hg := get_list hrd
    clear C hp hp' hr hrr hN hrd hL
    generalize numAhead s.data.toList = N at *
    generalize s.data.toList.drop 2 = D at *
    have IX := Hid.mk' (index_any r D EE.out w)
    generalize hix : Lib.indexByte (D.take 4) 59 = ix at *
    obtain ⟨b1, b2, b3⟩ := bd
    by_cases h1 : ix < 1
    · have Z := Hid.mk' (show N = (0, 0) by rw [HN.out, if_pos h1])
      clear b3 hg
      go_enter Tryz.func154, Tryz.ntmps154
      go_wp2_with fail
      refine CC.out.mono ?_
      rintro e w1 ⟨rfl, rfl⟩
      clear CC
      go_wp2_with fail
      refine IX.out.mono ?_
      rintro e w2 ⟨rfl, rfl⟩
      go_wp2
      go_ret2
      rw [Z.out]
      exact ⟨rfl, Below.refl _ _⟩
    · have b3 := b3 (by omega)
      have h00 : 0 < r.size := by omega
      have h0 := hg 0 h00
      by_cases h2 : (r[0]'h00).toNat = 48
      · have Z := Hid.mk' (show N = (0, 0) by rw [HN.out, if_neg h1, if_pos (by rw [← h0]; exact h2)])
        have i2 : (((r[0]'h00).toNat : Int) == 48) = true := by rw [beq_iff_eq]; omega
        clear hg h0 h2
        go_enter Tryz.func154, Tryz.ntmps154
        go_wp2_with fail
        refine CC.out.mono ?_
        rintro e w1 ⟨rfl, rfl⟩
        clear CC
        go_wp2_with fail
        refine IX.out.mono ?_
        rintro e w2 ⟨rfl, rfl⟩
        go_wp2
        go_ret2
        rw [Z.out]
        exact ⟨rfl, Below.refl _ _⟩
      · have Z := Hid.mk' (show N = (match Lib.parseUintB 8 (D.take ix.toNat) with
            | .ok u => (u, 2 + ix.toNat + 1)
            | _ => (0, 0)) by rw [HN.out, if_neg h1, if_neg (by rw [← h0]; exact h2)])
        have i2 : (((r[0]'h00).toNat : Int) == 48) = false := by rw [beq_eq_false_iff_ne]; omega
        have F := parse_any (r.extract 0 ix.toNat) w (by rw [ByteArray.size_extract]; omega) HE.out
        rw [head_list, EE.out] at F
        have FF := Hid.mk' F
        clear hg h0 h2 F
        go_enter Tryz.func154, Tryz.ntmps154
        go_wp2_with fail
        refine CC.out.mono ?_
        rintro e w1 ⟨rfl, rfl⟩
        clear CC
        go_wp2_with fail
        refine IX.out.mono ?_
        rintro e w2 ⟨rfl, rfl⟩
        go_wp2_with fail
        refine FF.out.mono ?_
        rintro e w3 ⟨⟨v, er, rfl, ⟨u, hu, rfl, rfl⟩ | ⟨hu, b, rfl⟩⟩, hb3⟩
        · have BB := Hid.mk' hb3
          have ul := parse_ok_le hu
          have Z' := Hid.mk' (show N = (u, 2 + ix.toNat + 1) by rw [Z.out, hu])
          have hw : IntKind.u8.wrap (u : Int) = u := by unfold IntKind.wrap; simp [IntKind.bits, IntKind.signed]; omega
          have hv : ((ix.toNat : Nat) : Int) = ix := by omega
          have V := Hid.mk' hv
          clear hb3 hu FF IX hv
          go_wp2
          go_ret2
          rw [Z'.out]
          refine ⟨?_, BB.out⟩
          show Ending.returned (.tuple #[.int .u8 (u : Int), .int .i64 (2 + ix + 1)]) = .returned (.tuple #[.int .u8 (u : Int), .int .i64 ((2 + ix.toNat + 1 : Nat) : Int)])
          rw [show ((2 + ix.toNat + 1 : Nat) : Int) = 2 + ix + 1 from by have := V.out; omega]
        · have BB := Hid.mk' hb3
          have Z' := Hid.mk' (show N = (0, 0) by
            rw [Z.out]
            cases hq : Lib.parseUintB 8 (D.take ix.toNat) with
            | ok u => exact absurd hq (hu u)
            | _ => rfl)
          clear hb3 hu FF IX
          go_wp2
          go_ret2
          rw [Z'.out]
          exact ⟨rfl, BB.out⟩

theorem nameOf_small (L : List UInt8) : (nameOf L).2 ≤ 6 := by
  unfold nameOf
  split
  · decide
  split
  · decide
  split
  · decide
  split <;> decide

set_option maxRecDepth 100000 in
set_option maxHeartbeats 800000 in
theorem refAhead_any (s : ByteArray) (w : World) (hs : s.size ≤ 1048576) (hr : Refs w) (he : Errs w) :
    Calls Tryz.prog 120 #[.string s] w fun e w' => e = .returned (.tuple #[.int .u8 (refOf s.data.toList).1, .int .i64 (refOf s.data.toList).2]) ∧ Below w.heap.size w w' := by
  have N := nameAhead_any s w hr
  have S : Hid (refOf s.data.toList = if 0 < (nameOf s.data.toList).2 then nameOf s.data.toList else numAhead s.data.toList) := (ref_same _).symm
  have NN := Hid.mk' N
  have HE := Hid.mk' he
  have sm := nameOf_small s.data.toList
  clear N hr he
  generalize nameOf s.data.toList = q at *
  obtain ⟨q1, q2⟩ := q
  simp only at sm S NN
  by_cases h : 0 < q2
  · rw [if_pos h] at S
    have i1 : 0 < (q2 : Int) := by omega
    go_enter Tryz.func120, Tryz.ntmps120
    go_wp2_with fail
    refine NN.out.mono ?_
    rintro e w1 ⟨rfl, hb1⟩
    have B1 := Hid.mk' hb1
    clear hb1 NN
    go_wp2
    go_ret2
    rw [S.out]
    exact ⟨rfl, B1.out⟩
  · rw [if_neg h] at S
    have i1 : ¬ 0 < (q2 : Int) := by omega
    go_enter Tryz.func120, Tryz.ntmps120
    go_wp2_with fail
    refine NN.out.mono ?_
    rintro e w1 ⟨rfl, hb1⟩
    have B1 := Hid.mk' hb1
    have E1 := Hid.mk' (HE.out.below hb1)
    clear hb1 NN HE
    go_wp2_with fail
    refine (number_any s _ hs E1.out).mono ?_
    rintro e w2 ⟨rfl, hb2⟩
    have B2 := Hid.mk' (B1.out.trans (hb2.mono B1.out.size))
    clear hb2 B1 E1
    go_wp2
    go_ret2
    rw [S.out]
    exact ⟨rfl, B2.out⟩
end Go.Proofs.YthcajggbcanmdaaGreatDoor

namespace Go.Proofs.YthcajggbcanmdaaGreatDoor
open Go.RowKit

def raOf (L : List UInt8) (x : Int) : Int × Int × Int := if 0 ≤ x ∧ x < L.length then (if (refOf (L.drop x.toNat)).2 = 0 then (5, 0, 0) else (0, (refOf (L.drop x.toNat)).1, (refOf (L.drop x.toNat)).2)) else (3, 0, 0)
theorem tail_list (s : ByteArray) (k : Nat) : (s.extract k s.size).data.toList = s.data.toList.drop k := by
  rw [ext_list, List.take_of_length_le (by rw [List.length_drop, len_list]; omega)]
theorem three {B : Nat} {w w' : World} (h : Below B w w') {c : Nat} {v1 v2 v3 : Value} (hc : B ≤ c) : Below B w (((w'.setCell ⟨c, 0, none⟩ v1).setCell ⟨c, 1, none⟩ v2).setCell ⟨c, 2, none⟩ v3) :=
  ((h.setCell (p := ⟨c, 0, none⟩) hc _).setCell (p := ⟨c, 1, none⟩) hc _).setCell (p := ⟨c, 2, none⟩) hc _

theorem refOf_byte (L : List UInt8) : (refOf L).1 ≤ 255 := by
  cases L with
  | nil => exact Nat.zero_le _
  | cons c R =>
    rw [refOf]
    split
    · cases semi R 5 with
      | none => exact Nat.zero_le _
      | some m =>
        cases hn : namedOf (R.take m) with
        | none => simp only [hn]; exact Nat.zero_le _
        | some b =>
          simp only [hn]
          unfold namedOf at hn
          split at hn
          · cases hn; decide
          split at hn
          · cases hn; decide
          split at hn
          · cases hn; decide
          split at hn
          · cases hn; decide
          split at hn
          · unfold numOf at hn
            split at hn
            · split at hn
              · rename_i h; cases hn; exact h.2
              · cases hn
            · cases hn
          · cases hn
    · exact Nat.zero_le _

set_option maxRecDepth 100000 in
set_option maxHeartbeats 800000 in
theorem implRA_any (s : ByteArray) (x : Int) (w : World) (hs : s.size ≤ 1048576) (b1 : -9223372036854775808 ≤ x) (b2 : x ≤ 9223372036854775807) (hr : Refs w) (he : Errs w) :
    Calls Tryz.prog 90 #[.string s, .int .i64 x] w fun e w' => e = .returned (.agg #[.int .i64 (raOf s.data.toList x).1, .int .i64 (raOf s.data.toList x).2.1, .int .i64 (raOf s.data.toList x).2.2]) ∧ Below w.heap.size w w' := by
  have hL := len_list s
  have B0 := (Below.refl w.heap.size w).alloc (Nat.le_refl _) (.cells #[.int .i64 0, .int .i64 0, .int .i64 0] 112)
  unfold raOf
  by_cases h : 0 ≤ x ∧ x < s.data.toList.length
  · rw [if_pos h]
    obtain ⟨k, rfl⟩ : ∃ k : Nat, x = k := ⟨x.toNat, by omega⟩
    have hk : k < s.size := by omega
    have hk' : (k : Int) < s.size := by omega
    have F2 := refAhead_any (s.extract k s.size) _ (by rw [ByteArray.size_extract]; omega) (hr.below B0) (he.below B0)
    rw [tail_list] at F2
    have G2 := Hid.mk' F2
    have BB := Hid.mk' B0
    rw [Int.toNat_natCast]
    clear F2 h hL B0 hr he
    have rb := refOf_byte (s.data.toList.drop k)
    generalize refOf (s.data.toList.drop k) = q at *
    obtain ⟨q1, q2⟩ := q
    simp only at rb
    by_cases h0 : q2 = 0
    · subst h0
      rw [if_pos rfl]
      go_enter Tryz.func90, Tryz.ntmps90
      go_wp2_with fail
      refine G2.out.mono ?_
      rintro e w1 ⟨rfl, hb1⟩
      have B1 := Hid.mk' (BB.out.trans (hb1.mono (by simp)))
      obtain ⟨hx, hy⟩ := bcell hb1
      simp at hx hy
      have y := hb1.size
      simp at y
      clear G2 hb1
      go_wp2
      exact bodyPost_ret (v := .agg #[.int .i64 5, .int .i64 0, .int .i64 0]) (by simp [results, Tryz.results90, go_sem, *]) rfl ⟨rfl, three B1.out (Nat.le_refl _)⟩
    · rw [if_neg h0]
      have i0 : ((q2 : Int) == 0) = false := by rw [beq_eq_false_iff_ne]; omega
      clear h0
      go_enter Tryz.func90, Tryz.ntmps90
      go_wp2_with fail
      refine G2.out.mono ?_
      rintro e w1 ⟨rfl, hb1⟩
      have B1 := Hid.mk' (BB.out.trans (hb1.mono (by simp)))
      obtain ⟨hx, hy⟩ := bcell hb1
      simp at hx hy
      have y := hb1.size
      simp at y
      clear G2 hb1
      go_wp2
      exact bodyPost_ret (v := .agg #[.int .i64 0, .int .i64 (q1 : Int), .int .i64 (q2 : Int)]) (by simp [results, Tryz.results90, go_sem, *]) rfl ⟨rfl, three B1.out (Nat.le_refl _)⟩
  · rw [if_neg h]
    clear hr he
    by_cases h1 : x < 0
    · clear h
      go_enter Tryz.func90, Tryz.ntmps90
      go_wp2
      exact bodyPost_ret (v := .agg #[.int .i64 3, .int .i64 0, .int .i64 0]) (by simp [results, Tryz.results90, go_sem, *]) rfl ⟨rfl, (Below.refl _ _).alloc (Nat.le_refl _) _⟩
    · have h2 : (s.size : Int) ≤ x := by omega
      clear h
      go_enter Tryz.func90, Tryz.ntmps90
      go_wp2
      exact bodyPost_ret (v := .agg #[.int .i64 3, .int .i64 0, .int .i64 0]) (by simp [results, Tryz.results90, go_sem, *]) rfl ⟨rfl, (Below.refl _ _).alloc (Nat.le_refl _) _⟩

end Go.Proofs.YthcajggbcanmdaaGreatDoor

namespace Go.Proofs.YthcajggbcanmdaaGreatDoor
open Go.RowKit

def dec : Nat → List UInt8 → List Int
  | 0, _ => []
  | _ + 1, [] => []
  | n + 1, c :: r => if (refOf (c :: r)).2 = 0 then (c.toNat : Int) :: dec n r else ((refOf (c :: r)).1 : Int) :: dec n ((c :: r).drop (refOf (c :: r)).2)
def decode (L : List UInt8) : List Int := dec L.length L

theorem dec_nil (n : Nat) : dec n [] = [] := by cases n <;> rfl
theorem dec_len : ∀ (n : Nat) (L : List UInt8), (dec n L).length ≤ n
  | 0, _ => Nat.le_refl _
  | n + 1, [] => Nat.zero_le _
  | n + 1, c :: r => by
    unfold dec
    split
    · have := dec_len n r; simp only [List.length_cons]; omega
    · have := dec_len n ((c :: r).drop (refOf (c :: r)).2); simp only [List.length_cons]; omega

theorem refOf_len (L : List UInt8) : (refOf L).2 ≤ L.length := by
  cases L with
  | nil => exact Nat.le_refl _
  | cons c R =>
    show (if c.toNat = 38 then (match semi R 5 with
      | some m => (match namedOf (R.take m) with
        | some b => (b, m + 2)
        | none => (0, 0))
      | none => (0, 0)) else ((0, 0) : Nat × Nat)).2 ≤ _
    split
    · split
      · rename_i m hm
        obtain ⟨_, S, hS⟩ := semi_spec R 5 m hm
        split
        · have hl := congrArg List.length hS
          simp only [List.length_append, List.length_cons, List.length_take] at hl
          simp only [List.length_cons]
          omega
        · exact Nat.zero_le _
      · exact Nat.zero_le _
    · exact Nat.zero_le _

theorem dec_raw (L : List UInt8) (k f : Nat) (h : k < L.length) (hf : L.length - k ≤ f) (hr : (refOf (L.drop k)).2 = 0) : ∃ f', L.length - (k + 1) ≤ f' ∧ dec f (L.drop k) = ((L.getD k 0).toNat : Int) :: dec f' (L.drop (k + 1)) := by
  obtain ⟨f', rfl⟩ : ∃ f', f = f' + 1 := ⟨f - 1, by omega⟩
  refine ⟨f', by omega, ?_⟩
  rw [drop_cons L k h] at hr ⊢
  rw [dec, if_pos hr]

theorem dec_ref (L : List UInt8) (k f : Nat) (h : k < L.length) (hf : L.length - k ≤ f) (hr : ¬ (refOf (L.drop k)).2 = 0) : ∃ f', L.length - (k + (refOf (L.drop k)).2) ≤ f' ∧ dec f (L.drop k) = ((refOf (L.drop k)).1 : Int) :: dec f' (L.drop (k + (refOf (L.drop k)).2)) := by
  obtain ⟨f', rfl⟩ : ∃ f', f = f' + 1 := ⟨f - 1, by omega⟩
  refine ⟨f', by omega, ?_⟩
  rw [← List.drop_drop]
  have e := drop_cons L k h
  rw [e] at hr ⊢
  rw [dec, if_neg hr]

theorem one_byte (w : World) (x : Int) (g : Nat) (hg : w.heap.size = g) : ∀ j u, (bcs [x])[j]? = some u → (w.alloc (.cells #[.int .u8 x] 5)).cell? ((⟨g, 0, none⟩ : Addr).add j) = some u := by
  subst hg
  intro j u hj
  have hlt : j < 1 := by have := (List.getElem?_eq_some_iff.1 hj).1; simpa [bcs] using this
  have : j = 0 := by omega
  subst this
  simp [bcs] at hj
  subst hj
  rw [Addr.add_mid]
  simp

structure Grow (w : World) (v : Value) (l : List Int) (wr : World) : Prop where
  own : wr.ownsRow w.heap.size 5 1 v l.length (bcs l)
  bl : Below w.heap.size w wr
  sz : w.heap.size ≤ wr.heap.size

theorem Grow.alloc {w wr : World} {v : Value} {l : List Int} (h : Grow w v l wr) (o : Obj) : Grow w v l (wr.alloc o) :=
  ⟨h.own.alloc o, h.bl.alloc h.sz o, by have := h.sz; simp; omega⟩
theorem Grow.below {w wr w' : World} {v : Value} {l : List Int} (h : Grow w v l wr) (hb : Below wr.heap.size wr w') : Grow w v l w' :=
  ⟨own_keep h.own hb, h.bl.trans (hb.mono h.sz), Nat.le_trans h.sz hb.size⟩
theorem Grow.app {w wr w1 : World} {v v' : Value} {l : List Int} {x : Int} (h : Grow w v l wr) (ho : w1.ownsRow w.heap.size 5 1 v' (l.length + 1) (bcs l ++ bcs [x])) (hg : wr.grownBy w1 v.ownBlock) : Grow w v' (l ++ [x]) w1 :=
  ⟨by rw [List.length_append, bcs_append]; exact ho, h.bl.grown hg h.sz (own_lo h.own), Nat.le_trans h.sz hg.size⟩

theorem l1 (x : Int) : (bcs [x]).length = 1 * 1 := rfl

set_option maxRecDepth 100000 in
set_option maxHeartbeats 2000000 in
theorem l2Decode_any (s : ByteArray) (w : World) (hs : s.size ≤ 2000) :
    Calls Tryz.prog 190 #[.string s] w fun e w' => ∃ v, e = .returned v ∧ Grow w v (decode s.data.toList) w' := by
  obtain ⟨L, hL⟩ : ∃ L, s.data.toList = L := ⟨_, rfl⟩
  have hl : L.length = s.size := by rw [← hL]; exact len_list s
  rw [hL]
  obtain ⟨D, hD⟩ : ∃ D, decode L = D := ⟨_, rfl⟩
  have dl : D.length ≤ s.size := by rw [← hD, ← hl]; exact dec_len _ _
  rw [hD]
  go_enter Tryz.func190, Tryz.ntmps190
  go_wp2
  go_loopw [3, 4] (fun v i wr => ∃ (k f : Nat) (out : List Int), k ≤ L.length ∧ L.length - k ≤ f ∧ out ++ dec f (L.drop k) = D ∧ i = .int .i64 k ∧ Grow w v out wr) (fun _ i _ => L.length - (intOf i).toNat)
  case atStart => exact ⟨0, L.length, [], Nat.zero_le _, Nat.le_refl _, hD, rfl, ⟨World.ownsRow_lit w #[] 0 (Nat.le_refl _) (by decide) rfl, below_new w _, by simp⟩⟩
  case round =>
    obtain ⟨k, f, out, hk, hf, hout, rfl, hG⟩ := hrel
    by_cases hlt : k < L.length
    · have ol : out.length ≤ 2000 := by have := congrArg List.length hout; rw [List.length_append] at this; omega
      have ci : (k : Int) < (s.size : Int) := by omega
      have hks : k < s.size := by omega
      have K := Hid.mk' (l2At_core s L hL k wr (by omega) hks)
      have hrl := refOf_len (L.drop k)
      have hrb := refOf_byte (L.drop k)
      rw [List.length_drop] at hrl
      have hg0 := get_list hL k hks
      have GG := Hid.mk' hG
      by_cases hr : (refOf (L.drop k)).2 = 0
      · obtain ⟨f', hf', hstep⟩ := dec_raw L k f hlt hf hr
        have HO := Hid.mk' hout
        have HS := Hid.mk' hstep
        rw [hr] at K
        obtain ⟨c, hc⟩ : ∃ c : Nat, (L.getD k 0).toNat = c := ⟨_, rfl⟩
        rw [hc] at hg0 HS
        have G1 := Hid.mk' (GG.out.alloc (.cells #[.int .u8 (c : Int)] 5))
        generalize (refOf (L.drop k)).1 = rb at *
        clear hout hstep hG hr hrl hL hc
        go_wp2_with fail
        refine K.out.mono ?_
        rintro e w1 ⟨rfl, rfl⟩
        clear K
        go_wp2_with (at_builtin; refine wpList_append_at _ rfl (.tmp 20) (.tmp 24) 22 rfl w.heap.size 5 (.int .u8 0) 1 1 Tryz.underlying22 Tryz.info5 rfl (by decide) _ _ _ rfl G1.out.own _ 1 _ (bcs [(c : Int)]) rfl (l1 _) (.inr ⟨_, rfl, one_byte w1 _ _ rfl⟩) (bcs_one _) (by unfold maxLen; omega) (by omega) G1.out.sz ?_; intro v' w2 ho hgr hat; have G2 := Hid.mk' (G1.out.app ho hgr); clear ho hgr hat)
        go_roundw
        case rel => exact ⟨k + 1, f', out ++ [(c : Int)], by omega, hf', by rw [List.append_assoc, List.singleton_append, ← HS.out]; exact HO.out, by go_num, G2.out⟩
        case measure => simp [intOf]; omega
      · obtain ⟨f', hf', hstep⟩ := dec_ref L k f hlt hf hr
        have HO := Hid.mk' hout
        have HS := Hid.mk' hstep
        have G1 := Hid.mk' (GG.out.alloc (.cells #[.int .u8 ((refOf (L.drop k)).1 : Int)] 5))
        have hz : (((refOf (L.drop k)).2 : Int) == 0) = false := by rw [beq_eq_false_iff_ne]; omega
        generalize (refOf (L.drop k)).1 = rb at *
        generalize (refOf (L.drop k)).2 = rn at *
        have hwb : IntKind.u8.wrap (rb : Int) = (rb : Int) := by rw [IntKind.wrap_u8]; omega
        clear hout hstep hG hL hg0
        go_wp2_with fail
        refine K.out.mono ?_
        rintro e w1 ⟨rfl, rfl⟩
        clear K
        go_wp2_with (at_builtin; refine wpList_append_at _ rfl (.tmp 28) (.tmp 31) 22 rfl w.heap.size 5 (.int .u8 0) 1 1 Tryz.underlying22 Tryz.info5 rfl (by decide) _ _ _ rfl G1.out.own _ 1 _ (bcs [(rb : Int)]) rfl (l1 _) (.inr ⟨_, rfl, one_byte w1 _ _ rfl⟩) (bcs_one _) (by unfold maxLen; omega) (by omega) G1.out.sz ?_; intro v' w2 ho hgr hat; have G2 := Hid.mk' (G1.out.app ho hgr); clear ho hgr hat)
        go_roundw
        case rel => exact ⟨k + rn, f', out ++ [(rb : Int)], by omega, hf', by rw [List.append_assoc, List.singleton_append, ← HS.out]; exact HO.out, by go_num, G2.out⟩
        case measure => simp [intOf]; omega
    · have ci : ¬ (k : Int) < (s.size : Int) := by omega
      have e : k = L.length := by omega
      subst e
      rw [List.drop_length, dec_nil, List.append_nil] at hout
      subst hout
      go_wp2
      go_ret
      exact ⟨_, rfl, hG⟩

end Go.Proofs.YthcajggbcanmdaaGreatDoor

namespace Go.Proofs.YthcajggbcanmdaaGreatDoor
open Go.RowKit

def decC (L : List UInt8) : Int := if 2000 < L.length then 6 else 0
def decV (L : List UInt8) : List Int := if 2000 < L.length then [] else decode L

theorem kept2 (w : World) (g o1 o2 : Nat) (v1 v2 : Value) : KeptIn g (g + 1) w ((w.setCell ⟨g, o1, none⟩ v1).setCell ⟨g, o2, none⟩ v2) :=
  ((KeptIn.refl g (g + 1) w).setCell (p := ⟨g, o1, none⟩) (Nat.le_refl _) (Nat.lt_succ_self _) _).setCell (p := ⟨g, o2, none⟩) (Nat.le_refl _) (Nat.lt_succ_self _) _

def sizeS : Value → Nat
  | .string s => s.size
  | _ => 0

theorem make0 (n : Nat) (hn : n ≤ 2000) (w : World) : (Instr.makeSlice 22 (.int .i64 0) (.int .i64 (n : Int))).run Tryz.prog w = .ok (.slice (some ⟨w.heap.size, 0, none⟩) 0 n) (w.alloc (.cells (madeCells #[.int .u8 0] n) 5)) := by
  obtain ⟨i, hi, hzz⟩ := Option.map_eq_some_iff.1 Tryz.info5
  simp only [Prod.mk.injEq] at hzz
  obtain ⟨hz, hs, hb⟩ := hzz
  have hr := run_make (P := Tryz.prog) w 22 5 i _ Tryz.underlying22 hi hz .i64 .i64 0 n (by omega) (by omega) (by rw [hb]; omega) (by omega)
  simp only [Int.toNat_natCast, hs, Nat.mul_one] at hr
  exact hr

theorem Grow.made (w : World) (n : Nat) (hn : n ≤ 2000) : Grow w (.slice (some ⟨w.heap.size, 0, none⟩) 0 n) [] (w.alloc (.cells (madeCells #[.int .u8 0] n) 5)) :=
  ⟨⟨rfl, .inr ⟨w.heap.size, n, _, rfl, Nat.le_refl _, Deep.blk_alloc_new _ _, Nat.zero_le _, by unfold maxLen; omega, by rw [size_madeCells]; omega, by simp [bcs]⟩⟩, below_new w _, by simp⟩

theorem ext_tail (s : ByteArray) (L : List UInt8) (k n : Nat) (h : s.data.toList = L.drop k) : (s.extract n s.size).data.toList = L.drop (k + n) := by
  rw [tail_list, h, List.drop_drop]

set_option maxRecDepth 100000 in
set_option maxHeartbeats 2000000 in
theorem implDec_any (s : ByteArray) (w : World) (hs : s.size ≤ 1048576) (hr : Refs w) (he : Errs w) :
    Calls Tryz.prog 188 #[.string s] w fun e w' => ∃ v, e = .returned (.agg #[.int .i64 (decC s.data.toList), v]) ∧ OB w' v (decV s.data.toList) ∧ In w.heap.size w'.heap.size v ∧ Below w.heap.size w w' := by
  have hl : s.data.toList.length = s.size := len_list s
  unfold decC decV
  have N := below_new w (.cells #[.int .i64 0, .slice none 0 0] 221)
  by_cases c : 2000 < s.size
  · rw [if_pos (by omega), if_pos (by omega)]
    have ci : (2000 : Int) < (s.size : Int) := by omega
    clear N hr he
    go_enter Tryz.func188, Tryz.ntmps188
    go_wp2
    exact bodyPost_ret (v := .agg #[.int .i64 6, .slice none 0 0]) (by simp [results, Tryz.results188, go_sem, *]) rfl ⟨_, rfl, OB.none _, In.nil _ _, (Below.refl _ _).alloc (Nat.le_refl _) _⟩
  rw [if_neg (by omega), if_neg (by omega)]
  have ci : ¬ (2000 : Int) < (s.size : Int) := by omega
  have NN := Hid.mk' N
  have HR := Hid.mk' (hr.below N)
  have HE := Hid.mk' (he.below N)
  have R0 := Hid.mk' (rowp2 w 221 (.int .i64 0) (.slice none 0 0))
  obtain ⟨L, hL⟩ : ∃ L, s.data.toList = L := ⟨_, rfl⟩
  rw [hL] at hl ⊢
  obtain ⟨D, hD⟩ : ∃ D, decode L = D := ⟨_, rfl⟩
  have dl : D.length ≤ L.length := by rw [← hD]; exact dec_len _ _
  rw [hD]
  have hmk := make0 s.size (by omega)
  have ll : L.length ≤ 2000 := by omega
  clear N hr he
  obtain ⟨W, hW⟩ : ∃ W, w.alloc (.cells #[.int .i64 0, .slice none 0 0] 221) = W := ⟨_, rfl⟩
  rw [hW] at NN HR HE R0
  have ws : W.heap.size = w.heap.size + 1 := by rw [← hW]; simp
  have G0 := Hid.mk' (Grow.made W s.size (by omega))
  go_enter Tryz.func188, Tryz.ntmps188
  go_wp2
  rw [hW] at *
  go_loopw [0, 3] (fun t v wr => ∃ (k f : Nat) (out : List Int) (s' : ByteArray), k ≤ L.length ∧ L.length - k ≤ f ∧ out ++ dec f (L.drop k) = D ∧ s'.data.toList = L.drop k ∧ t = .string s' ∧ Grow W v out wr) (fun t _ _ => sizeS t)
  case atStart => exact ⟨0, L.length, [], s, Nat.zero_le _, Nat.le_refl _, hD, hL, rfl, by rw [← ws]; exact G0.out⟩
  case round =>
    obtain ⟨k, f, out, s', hk, hf, hout, hs', rfl, hG⟩ := hrel
    have sl : s'.size = L.length - k := by rw [← len_list s', hs', List.length_drop]
    by_cases hlt : k < L.length
    · have ol : out.length ≤ 2000 := by have := congrArg List.length hout; rw [List.length_append] at this; omega
      have cj : (0 : Int) < (s'.size : Int) := by omega
      have c0 : 0 < s'.size := by omega
      have K0 := refAhead_any s' wr (by omega) (HR.out.below hG.bl) (HE.out.below hG.bl)
      rw [hs'] at K0
      have K := Hid.mk' K0
      have hrl := refOf_len (L.drop k)
      have hrb := refOf_byte (L.drop k)
      rw [List.length_drop] at hrl
      have hg0 := get_list hs' 0 c0
      rw [getD_drop, Nat.add_zero] at hg0
      have GG := Hid.mk' hG
      have ET := Hid.mk' (ext_tail s' L k 1 hs')
      clear K0
      by_cases hr : (refOf (L.drop k)).2 = 0
      · obtain ⟨f', hf', hstep⟩ := dec_raw L k f hlt hf hr
        have HO := Hid.mk' hout
        have HS := Hid.mk' hstep
        rw [hr] at K
        obtain ⟨c, hc⟩ : ∃ c : Nat, (L.getD k 0).toNat = c := ⟨_, rfl⟩
        rw [hc] at hg0 HS
        generalize (refOf (L.drop k)).1 = rb at *
        clear hout hstep hG hr hrl hL hc hs'
        go_wp2_with fail
        refine K.out.mono ?_
        rintro e w1 ⟨rfl, hb1⟩
        have G1 := Hid.mk' (GG.out.below hb1)
        have G2 := Hid.mk' (G1.out.alloc (.cells #[.int .u8 (c : Int)] 5))
        clear K hb1
        have sx : 1 ≤ s'.size := by omega
        go_wp2_with (at_builtin; refine wpList_append_at _ rfl (.tmp 25) (.tmp 27) 22 rfl W.heap.size 5 (.int .u8 0) 1 1 Tryz.underlying22 Tryz.info5 rfl (by decide) _ _ _ rfl G2.out.own _ 1 _ (bcs [(c : Int)]) rfl (l1 _) (.inr ⟨_, rfl, one_byte w1 _ _ rfl⟩) (bcs_one _) (by unfold maxLen; omega) (by omega) G2.out.sz ?_; intro v' w2 ho hgr hat; have G3 := Hid.mk' (G2.out.app ho hgr); clear ho hgr hat)
        go_roundw
        case rel => exact ⟨k + 1, f', out ++ [(c : Int)], _, by omega, hf', by rw [List.append_assoc, List.singleton_append, ← HS.out]; exact HO.out, ET.out, (by rw [show s.size - k = s'.size from by omega]), G3.out⟩
        case measure => simp [sizeS]; omega
      · obtain ⟨f', hf', hstep⟩ := dec_ref L k f hlt hf hr
        have HO := Hid.mk' hout
        have HS := Hid.mk' hstep
        have hz : (((refOf (L.drop k)).2 : Int) == 0) = false := by rw [beq_eq_false_iff_ne]; omega
        have EN := Hid.mk' (ext_tail s' L k (refOf (L.drop k)).2 hs')
        generalize (refOf (L.drop k)).1 = rb at *
        generalize (refOf (L.drop k)).2 = rn at *
        clear hout hstep hG hL hg0 hs' ET
        go_wp2_with fail
        refine K.out.mono ?_
        rintro e w1 ⟨rfl, hb1⟩
        have G1 := Hid.mk' (GG.out.below hb1)
        have G2 := Hid.mk' (G1.out.alloc (.cells #[.int .u8 (rb : Int)] 5))
        clear K hb1
        have sx : rn ≤ s'.size := by omega
        go_wp2_with (at_builtin; refine wpList_append_at _ rfl (.tmp 25) (.tmp 27) 22 rfl W.heap.size 5 (.int .u8 0) 1 1 Tryz.underlying22 Tryz.info5 rfl (by decide) _ _ _ rfl G2.out.own _ 1 _ (bcs [(rb : Int)]) rfl (l1 _) (.inr ⟨_, rfl, one_byte w1 _ _ rfl⟩) (bcs_one _) (by unfold maxLen; omega) (by omega) G2.out.sz ?_; intro v' w2 ho hgr hat; have G3 := Hid.mk' (G2.out.app ho hgr); clear ho hgr hat)
        go_roundw
        case rel => exact ⟨k + rn, f', out ++ [(rb : Int)], _, by omega, hf', by rw [List.append_assoc, List.singleton_append, ← HS.out]; exact HO.out, EN.out, (by rw [show s.size - k = s'.size from by omega]), G3.out⟩
        case measure => simp [sizeS]; omega
    · have e : k = L.length := by omega
      subst e
      rw [List.drop_length, dec_nil, List.append_nil] at hout
      subst hout
      have cj : ¬ (0 : Int) < (s'.size : Int) := by omega
      have R1 := rowB R0.out hG.bl
      obtain ⟨z0, z1, z2⟩ := cells2 R1
      have f0 := R1.frozen 0
      have f1 := R1.frozen 1
      obtain ⟨a, d, rfl, _⟩ := (OB.of_own hG.own).1.len
      have O := Hid.mk' (OB.of_own hG.own)
      have B := Hid.mk' (NN.out.trans (hG.bl.mono (by omega)))
      have y := hG.bl.size
      clear hG R1
      go_wp2
      refine bodyPost_ret (v := .agg #[.int .i64 0, .slice a out.length d]) (by simp [results, Tryz.results188, go_sem, *]) rfl ?_
      have hk := kept2 wr w.heap.size 0 1 (.int .i64 0) (.slice a out.length d)
      have I : In (w.heap.size + 1) wr.heap.size (.slice a out.length d) := fun k e => ⟨by have := O.out.2 k e; omega, O.out.1.lt k e⟩
      exact ⟨_, rfl, O.out.1.kept I hk (.inr (by omega)), I.mono (by omega) hk.size, B.out.trans (hk.below (Nat.le_refl _) (by omega))⟩

end Go.Proofs.YthcajggbcanmdaaGreatDoor

namespace Go.Proofs.YthcajggbcanmdaaGreatDoor
open Go.RowKit

set_option maxHeartbeats 3200000 in
theorem hasForm_any (t : TK) (a : Option Addr) (c : Nat) (w : World) :
    Calls Tryz.prog 143 #[.agg #[.int .i64 t.kd, .int .i64 t.by_, .string t.nm, .slice a t.at_.length c, .bool t.sh]] w fun e w' => e = .returned (.bool (tform t)) ∧ Below w.heap.size w w' := by
  have HB := Hid.mk' (below_new w (.cells #[.int .i64 t.kd, .int .i64 t.by_, .string t.nm, .slice a t.at_.length c, .bool t.sh] 37))
  by_cases k1 : 1 ≤ t.kd ∧ t.kd ≤ 4
  · have kk : t.kd = 1 ∨ t.kd = 2 ∨ t.kd = 3 ∨ t.kd = 4 := by omega
    rcases kk with e | e | e | e
    all_goals
      rw [e]
      have E := Hid.mk' e
      clear e k1
      go_enter Tryz.func143, Tryz.ntmps143
      go_wp2_with go_big_skip
    all_goals go_ret
    all_goals
      have e := E.out
      refine ⟨?_, (below_new w _)⟩
      by_cases hz : t.by_ = 0 <;> first | contradiction | (simp [tform, *])
  · have E : Hid (tform t = false) := Hid.mk' (by
      unfold tform
      rw [show (decide (1 ≤ t.kd) && decide (t.kd ≤ 4)) = false by simp; omega]
      simp)
    have n1 : ¬ t.kd = 1 := by omega
    have n2 : ¬ t.kd = 2 := by omega
    have n3 : ¬ t.kd = 3 := by omega
    have n4 : ¬ t.kd = 4 := by omega
    clear k1
    go_enter Tryz.func143, Tryz.ntmps143
    go_wp2_with go_big_skip
    go_ret
    exact ⟨by rw [E.out]; rfl, below_new w _⟩

end Go.Proofs.YthcajggbcanmdaaGreatDoor

namespace Go.Proofs.YthcajggbcanmdaaGreatDoor
open Go.RowKit Go.Maps

theorem toList_loop (s : ByteArray) : ∀ (n i : Nat) (r : List UInt8), s.size - i = n → ByteArray.toList.loop s i r = r.reverse ++ s.data.toList.drop i := by
  intro n
  induction n with
  | zero =>
    intro i r h
    rw [ByteArray.toList.loop, if_neg (by omega)]
    have h2 : s.data.toList.length ≤ i := by
      have : s.data.toList.length = s.size := by simp
      omega
    rw [List.drop_eq_nil_of_le h2, List.append_nil]
  | succ n ih =>
    intro i r h
    have hi : i < s.size := by omega
    rw [ByteArray.toList.loop, if_pos hi, ih (i + 1) _ (by omega)]
    have h2 : i < s.data.toList.length := by
      have : s.data.toList.length = s.size := by simp
      omega
    rw [List.drop_eq_getElem_cons h2, List.reverse_cons, List.append_assoc]
    congr 1
    show [s.get! i] ++ _ = _
    have e : s.get! i = s.data.toList[i] := by
      show s.data[i]! = _
      rw [getElem!_pos s.data i (by simpa using h2)]
      simp
    rw [e]; rfl
theorem toList_data (s : ByteArray) : s.toList = s.data.toList := by
  unfold ByteArray.toList
  rw [toList_loop s _ 0 [] rfl]
  simp

def keyL (x : AT) : Lit := .string x.nm.data.toList
def Sd (l : List AT) (k : Nat) : DataW Unit := setOf (.agg []) ((l.take k).map keyL)

theorem pos_any (s : ByteArray) : ∀ (l : List AT) (n : Nat), decide (0 ≤ posFrom l s n) = l.any (fun x => x.nm.toList == s.toList)
  | [], n => by simp [posFrom]
  | x :: r, n => by
    unfold posFrom
    rw [List.any_cons, ← pos_any s r (n + 1)]
    cases h : (x.nm.toList == s.toList) with
    | true => simp
    | false => simp

theorem has_Sd (l : List AT) (k : Nat) (s : ByteArray) : Maps.has (Sd l k) (.string s.data.toList) = decide (0 ≤ posK (l.take k) s) := by
  unfold Sd posK
  rw [has_setOf _ _ _ (fun y hy => by obtain ⟨_, _, rfl⟩ := List.mem_map.1 hy; trivial), List.any_map, pos_any]
  congr 1
  funext x
  show (x.nm.data.toList == s.data.toList) = (x.nm.toList == s.toList)
  rw [toList_data, toList_data]

theorem Sd_step {l : List AT} {k : Nat} (hk : k < l.length) : Sd l (k + 1) = (Sd l k).put (.string (atK l k).nm.data.toList) (.agg []) := by
  have e2 : l.take (k + 1) = l.take k ++ [atK l k] := by
    rw [List.take_succ_eq_append_getElem hk]
    unfold atK
    rw [List.getD_eq_getElem?_getD, List.getElem?_eq_getElem hk]; rfl
  unfold Sd
  rw [e2, List.map_append]
  exact setOf_snoc _ _ _

theorem law9 : Keyed Tryz.prog 9 := string_keyed Tryz.underlying9
theorem zeroU (w : World) : (zeroValue 184).run Tryz.prog w = .ok (.agg #[]) w := by kernel_rfl

set_option maxRecDepth 100000 in
set_option maxHeartbeats 3200000 in
theorem attrsFault_any (a : Option Addr) (c : Nat) (l : List AT) (w : World) (ha : AAt w a l) (hl : (l.length : Int) + asz l ≤ 1048576) :
    Calls Tryz.prog 145 #[.slice a l.length c] w fun e w' => e = .returned (.int .i64 (afault l)) ∧ Below w.heap.size w w' := by
  have hmm := @run_makeMap Tryz.prog
  have HA := Hid.mk' ha
  clear ha
  go_enter Tryz.func145, Tryz.ntmps145
  go_wp2
  go_loopw [11] (fun i wr => ∃ k : Nat, k ≤ l.length ∧ i = .int .i64 k ∧ wr.ownsMap Tryz.prog 9 unitElem w.heap.size k (Sd l k) ∧ afault l = afR (l.take k) (l.drop k) ∧ Below w.heap.size w wr) (fun i _ => l.length - (intOf i).toNat)
  case atStart => exact ⟨0, Nat.zero_le _, rfl, World.ownsMap_made _ _ _ _, rfl, (Below.refl _ _).alloc (Nat.le_refl _) _⟩
  case round =>
    obtain ⟨k, hk, rfl, hown, hf, hbl⟩ := hrel
    have HF := Hid.mk' hf
    have HB := Hid.mk' hbl
    have HW := Hid.mk' hown
    clear hmm
    by_cases hlt : k < l.length
    · have ci : (k : Int) < (l.length : Int) := by omega
      have HS := Hid.mk' (afR_step hlt)
      rcases HA.out with ha | ⟨b, o, rfl, hbs, hcl⟩
      · exact absurd hlt (by rw [ha]; exact Nat.not_lt_zero _)
      obtain ⟨q1, p, d, q2, _⟩ := hcl k hlt
      have h1 : wr.cell? ⟨b, o + k * 2, none⟩ = some (.string (atK l k).nm) := (hbl.cell hbs).trans q1
      have h2 : wr.cell? ⟨b, o + k * 2 + 1, none⟩ = some (.slice p (atK l k).vl.length d) := (hbl.cell hbs).trans q2
      have st := asz_take l k hlt
      have sl := asz_le l (k + 1)
      have HK := Hid.mk' (WideMaps.keyOf_string_mk (P := Tryz.prog) Tryz.underlying9 (s := (atK l k).nm) (by unfold maxLen; omega))
      have hh := has_Sd l k (atK l k).nm
      have SS := Hid.mk' (Sd_step hlt)
      have KN : Hid (∀ W : World, Calls Tryz.prog 144 #[.string (atK l k).nm] W fun e w' => e = .returned (.bool (nmB (atK l k).nm)) ∧ w' = W) := fun W => isName_any _ W (by omega)
      clear hf hbl hcl hown q1 q2 st sl
      generalize hnm : (atK l k).nm = nm at *
      generalize hvn : (atK l k).vl.length = vn at *
      cases hn : nmB nm with
      | false =>
        rw [hn] at KN HS
        go_wp2_with fail
        refine (KN.out _).mono ?_
        rintro e w1 ⟨rfl, rfl⟩
        go_wp2
        go_ret
        refine ⟨?_, HB.out.alloc HB.out.size _⟩
        rw [HF.out, HS.out]
        rfl
      | true =>
        rw [hn] at KN HS
        rw [if_pos rfl] at HS
        by_cases hp : 0 ≤ posK (l.take k) nm
        · rw [decide_eq_true hp] at hh
          have HE : Hid (afault l = 1) := Hid.mk' (by rw [HF.out, HS.out, if_pos hp])
          clear HS hp
          go_wp2_with (first | (go_at_call 144; refine (KN.out _).mono ?_; rintro e w1 ⟨rfl, rfl⟩) | (at_lookup; refine wpList_lookup_own_unit _ rfl _ _ 201 rfl 9 184 law9 Tryz.underlying201 (zeroU _) w.heap.size k (Sd l k) rfl (HW.out.alloc _) _ _ rfl HK.out ?_) | go_in)
          go_ret
          exact ⟨by rw [HE.out]; rfl, (HB.out.alloc HB.out.size _).alloc (by have := HB.out.size; simp; omega) _⟩
        · rw [decide_eq_false hp] at hh
          have HE : Hid (afault l = afR (l.take (k + 1)) (l.drop (k + 1))) := Hid.mk' (by rw [HF.out, HS.out, if_neg hp])
          clear HS hp
          go_wp2_with (first | (go_at_call 144; refine (KN.out _).mono ?_; rintro e w1 ⟨rfl, rfl⟩) | (at_lookup; refine wpList_lookup_own_unit _ rfl _ _ 201 rfl 9 184 law9 Tryz.underlying201 (zeroU _) w.heap.size k (Sd l k) rfl (HW.out.alloc _) _ _ rfl HK.out ?_) | (at_mapUpdate; refine wpList_mapUpdate_own _ rfl _ _ _ 201 rfl 9 184 law9 Tryz.underlying201 (unitElem (H := Unit)) w.heap.size k (Sd l k) rfl ((HW.out.alloc _).alloc _) (by unfold maxLen; omega) _ _ _ rfl rfl HK.out _ [] unitElem_mk ?_; intro w1 hown1 hgrow1) | go_in)
          go_roundw
          case rel => exact ⟨k + 1, by omega, by go_num, by rw [SS.out]; exact hown1, HE.out, ((HB.out.alloc HB.out.size _).alloc (by have := HB.out.size; simp; omega) _).grown hgrow1 (by have := HB.out.size; simp; omega) (fun j hj => by cases hj; exact Nat.le_refl _)⟩
          case measure => simp [intOf]; omega
    · have ci : ¬ (k : Int) < (l.length : Int) := by omega
      have e : k = l.length := by omega
      subst e
      go_wp2
      go_ret
      refine ⟨?_, HB.out⟩
      have h := HF.out
      rw [List.drop_length, List.take_length] at h
      first | rfl | (rw [h]; rfl)

end Go.Proofs.YthcajggbcanmdaaGreatDoor

namespace Go.Proofs.YthcajggbcanmdaaGreatDoor
open Go.RowKit

set_option maxHeartbeats 3200000 in
theorem implTF_any (t : TK) (a : Option Addr) (c : Nat) (w : World) (ha : AAt w a t.at_) (hn : (t.nm.size : Int) ≤ 1048576) (hl : (t.at_.length : Int) + asz t.at_ ≤ 1048576) :
    Calls Tryz.prog 111 #[.agg #[.int .i64 t.kd, .int .i64 t.by_, .string t.nm, .slice a t.at_.length c, .bool t.sh]] w fun e w' => e = .returned (.int .i64 (tfault t)) ∧ Below w.heap.size w w' := by
  have N0 := below_new w (.cells #[.int .i64 t.kd, .int .i64 t.by_, .string t.nm, .slice a t.at_.length c, .bool t.sh] 37)
  have KF := Hid.mk' (hasForm_any t a c (w.alloc (.cells #[.int .i64 t.kd, .int .i64 t.by_, .string t.nm, .slice a t.at_.length c, .bool t.sh] 37)))
  have HP := Hid.mk' (row5 w 37 (.int .i64 t.kd) (.int .i64 t.by_) (.string t.nm) (.slice a t.at_.length c) (.bool t.sh))
  have HA := Hid.mk' (ha.below N0)
  have HB := Hid.mk' N0
  clear ha N0
  go_enter Tryz.func111, Tryz.ntmps111
  go_wp2_with fail
  refine KF.out.mono ?_
  rintro e w1 ⟨rfl, hb⟩
  have HA := Hid.mk' (HA.out.below hb)
  have HP := Hid.mk' (rowB HP.out hb)
  have HB := Hid.mk' (HB.out.trans (hb.mono HB.out.size))
  obtain ⟨c0, c1, c2, c3, c4, c5⟩ := cells5 HP.out
  clear hb KF HP
  have KN := isName_any t.nm w1 (by omega)
  have KA := Hid.mk' (attrsFault_any a c t.at_ w1 HA.out hl)
  cases hf : tform t with
  | false =>
    have E : Hid (tfault t = 1) := Hid.mk' (by unfold tfault; rw [hf]; rfl)
    clear KN
    go_wp2
    go_ret
    exact ⟨by rw [E.out]; rfl, HB.out⟩
  | true =>
    by_cases hb : 0 ≤ t.by_ ∧ t.by_ ≤ 255
    · have y1 : ¬ t.by_ < 0 := by omega
      have y2 : ¬ t.by_ > 255 := by omega
      by_cases hk : t.kd = 2 ∨ t.kd = 3
      · cases hnm : nmB t.nm with
        | false =>
          rw [hnm] at KN
          have KN := Hid.mk' KN
          have E : Hid (tfault t = 5) := Hid.mk' (by unfold tfault; rw [if_pos hf, if_pos hb, if_pos ⟨hk, hnm⟩])
          clear hb
          rcases hk with e | e
          all_goals
            rw [e] at c0
            clear e
            go_wp2_with (first | go_big_skip | (go_at_call 144; refine KN.out.mono ?_; rintro e w2 ⟨rfl, rfl⟩))
            go_ret
            exact ⟨by rw [E.out]; rfl, HB.out⟩
        | true =>
          rw [hnm] at KN
          have KN := Hid.mk' KN
          have E : Hid (tfault t = afault t.at_) := Hid.mk' (by unfold tfault; rw [if_pos hf, if_pos hb, if_neg (by rw [hnm]; simp)])
          clear hb
          rcases hk with e | e
          all_goals
            rw [e] at c0
            clear e
            go_wp2_with (first | go_big_skip | (go_at_call 144; refine KN.out.mono ?_; rintro e w2 ⟨rfl, rfl⟩) | (go_at_call 145; refine KA.out.mono ?_; rintro e w2 ⟨rfl, hbb⟩; have HB := Hid.mk' (HB.out.trans (hbb.mono HB.out.size)); clear hbb))
            go_ret
            exact ⟨by rw [E.out]; rfl, HB.out⟩
      · have n2 : ¬ t.kd = 2 := fun e => hk (.inl e)
        have n3 : ¬ t.kd = 3 := fun e => hk (.inr e)
        have E : Hid (tfault t = afault t.at_) := Hid.mk' (by unfold tfault; rw [if_pos hf, if_pos hb, if_neg (fun h => hk h.1)])
        clear hb hk KN
        go_wp2_with (first | go_big_skip | (go_at_call 145; refine KA.out.mono ?_; rintro e w2 ⟨rfl, hbb⟩; have HB := Hid.mk' (HB.out.trans (hbb.mono HB.out.size)); clear hbb))
        go_ret
        exact ⟨by rw [E.out]; rfl, HB.out⟩
    · have E : Hid (tfault t = 3) := Hid.mk' (by unfold tfault; rw [if_pos hf, if_neg hb])
      clear KN
      by_cases y1 : t.by_ < 0
      · clear hb
        go_wp2_with go_big_skip
        go_ret
        exact ⟨by rw [E.out]; rfl, HB.out⟩
      · have y2 : t.by_ > 255 := by omega
        clear hb
        go_wp2_with go_big_skip
        go_ret
        exact ⟨by rw [E.out]; rfl, HB.out⟩

end Go.Proofs.YthcajggbcanmdaaGreatDoor

namespace Go.Proofs.YthcajggbcanmdaaGreatDoor
open Go.RowKit

end Go.Proofs.YthcajggbcanmdaaGreatDoor

namespace Go.Proofs.YthcajggbcanmdaaGreatDoor
open Go.RowKit

end Go.Proofs.YthcajggbcanmdaaGreatDoor

namespace Go.Proofs.YthcajggbcanmdaaGreatDoor
open Go.RowKit

end Go.Proofs.YthcajggbcanmdaaGreatDoor

namespace Go.Proofs.YthcajggbcanmdaaGreatDoor
open Go.RowKit

def Hold (w : World) (ty : TypeId) (x y z : Value) (t : TB) (wi : World) : Prop := Below w.heap.size w wi ∧ wi.rowIs w.heap.size ty 3 (r3 x y z) ∧ TAt wi (.agg #[x, y, z]) t

theorem Hold.cells {w wi : World} {ty : TypeId} {x y z : Value} {t : TB} (h : Hold w ty x y z t wi) : wi.cell? ⟨w.heap.size, 0, none⟩ = some x ∧ wi.cell? ⟨w.heap.size, 1, none⟩ = some y ∧ wi.cell? ⟨w.heap.size, 2, none⟩ = some z ∧ w.heap.size < wi.heap.size :=
  ⟨h.2.1.cell (by omega), h.2.1.cell (by omega), h.2.1.cell (by omega), h.2.1.lt⟩

theorem cells3 {w : World} {g : Nat} {ty : TypeId} {x y z : Value} (h : w.rowIs g ty 3 (r3 x y z)) : w.cell? ⟨g, 0, none⟩ = some x ∧ w.cell? ⟨g, 1, none⟩ = some y ∧ w.cell? ⟨g, 2, none⟩ = some z ∧ g < w.heap.size :=
  ⟨h.cell (by omega), h.cell (by omega), h.cell (by omega), h.lt⟩

end Go.Proofs.YthcajggbcanmdaaGreatDoor

namespace Go.Proofs.YthcajggbcanmdaaGreatDoor
open Go.RowKit

end Go.Proofs.YthcajggbcanmdaaGreatDoor

namespace Go.Proofs.YthcajggbcanmdaaGreatDoor
open Go.RowKit

set_option maxHeartbeats 400000 in
theorem markByteS_row (g cap cn n k : Nat) (f : Nat → Value) (w : World) (hr : w.rowIs g 5 cn f) (hn : n ≤ cn) (hk : (k : Int) + n ≤ 100000000) :
    Calls Tryz.prog 11 #[.slice (some ⟨g, 0, none⟩) n cap, .int .i64 k] w fun e w' => e = .returned (.int .i64 ((k : Int) + n)) ∧ w'.rowIs g 5 cn (mpart f k n) ∧ KeptIn g (g + 1) w w' := by
  go_enter Tryz.func11, Tryz.ntmps11
  go_wp2
  go_loopw [1, 5] (fun s x wr => ∃ i : Nat, i ≤ n ∧ x = .int .i64 i ∧ s = .int .i64 ((k : Int) + i) ∧ wr.rowIs g 5 cn (mpart f k i) ∧ KeptIn g (g + 1) w wr) (fun _ x _ => n - (intOf x).toNat)
  case atStart => exact ⟨0, Nat.zero_le _, rfl, by simp, hr.congr (fun j _ => by simp [mpart]), KeptIn.refl _ _ _⟩
  case round =>
    obtain ⟨i, hi, rfl, rfl, hrow, hkp⟩ := hrel
    by_cases hlt : i < n
    · have f0 := hrow.frozen i
      obtain ⟨v0, g0⟩ : ∃ v, wr.cell? ⟨g, i, none⟩ = some v := ⟨_, hrow.cell (by omega)⟩
      have R1 := Hid.mk' hrow
      have R2 := Hid.mk' hkp
      clear hrow hkp
      go_wp2
      go_roundw
      case rel => exact ⟨i + 1, by omega, by go_num, by go_num, mpart_step R1.out, R2.out.setCell (p := ⟨g, i, none⟩) (Nat.le_refl _) (Nat.lt_succ_self _) _⟩
      case measure => simp [intOf]; omega
    · go_wp2
      go_ret
      have e : i = n := by omega
      subst e
      exact ⟨rfl, hrow, hkp⟩

set_option maxHeartbeats 400000 in
theorem heldByteS_any (a : Option Addr) (c n k : Nat) (w : World) (ha : BAt w a (mb k n)) (hk : (k : Int) + n ≤ 100000000) :
    Calls Tryz.prog 53 #[.slice a n c, .int .i64 k] w fun e w' => e = .returned (.int .i64 ((k : Int) + n)) ∧ Below w.heap.size w w' := by
  go_enter Tryz.func53, Tryz.ntmps53
  go_wp2
  go_loopw [1, 5] (fun s x wr => ∃ i : Nat, i ≤ n ∧ x = .int .i64 i ∧ s = .int .i64 ((k : Int) + i) ∧ Below w.heap.size w wr) (fun _ x _ => n - (intOf x).toNat)
  case atStart => exact ⟨0, Nat.zero_le _, rfl, by simp, Below.refl _ _⟩
  case round =>
    obtain ⟨i, hi, rfl, rfl, hbl⟩ := hrel
    by_cases hlt : i < n
    · rcases ha with ha | ⟨b, o, rfl, hbs, hc⟩
      · have := congrArg List.length ha
        rw [mb_len] at this
        simp at this
        omega
      have h1 : wr.cell? ⟨b, o + i, none⟩ = some (.int .u8 (((k : Int) + i) % 256)) := by rw [hbl.cell hbs, hc i (by rw [mb_len]; exact hlt), bv_mb k n i hlt]
      have R2 := Hid.mk' hbl
      clear hbl hc
      go_wp2
      go_roundw
      case rel => exact ⟨i + 1, by omega, by go_num, by go_num, R2.out⟩
      case measure => simp [intOf]; omega
    · go_wp2
      go_ret
      have e : i = n := by omega
      subst e
      exact ⟨rfl, hbl⟩

set_option maxHeartbeats 400000 in
theorem markByteS_nil (k : Nat) (w : World) (hk : (k : Int) ≤ 100000000) :
    Calls Tryz.prog 11 #[.slice none 0 0, .int .i64 k] w fun e w' => e = .returned (.int .i64 (k : Int)) ∧ w' = w := by
  go_enter Tryz.func11, Tryz.ntmps11
  go_wp2
  go_loop [1, 5] (fun s x => x = .int .i64 0 ∧ s = .int .i64 (k : Int)) (fun _ _ => 0)
  case atStart => exact ⟨rfl, rfl⟩
  case round =>
    obtain ⟨rfl, rfl⟩ := hrel
    go_wp2
    go_ret
    exact ⟨rfl, rfl⟩

theorem markByteS_own (k : Nat) (v : Value) (l : List Int) (w : World) (h : OB w v l) (hk : (k : Int) + l.length ≤ 100000000) :
    Calls Tryz.prog 11 #[v, .int .i64 k] w fun e w' => e = .returned (.int .i64 ((k : Int) + l.length)) ∧ OB w' v (mb k l.length) ∧ Turned v w w' := by
  rcases h with ⟨rfl, rfl⟩ | ⟨g, cap, cn, f, rfl, hca, hr, hl, hf⟩
  · refine (markByteS_nil k w (by simpa using hk)).mono ?_
    rintro e w' ⟨rfl, rfl⟩
    exact ⟨by simp, .inl ⟨rfl, rfl⟩, Turned.refl _ _⟩
  · refine (markByteS_row g cap cn l.length k f w hr hl hk).mono ?_
    rintro e w' ⟨rfl, hr', hk'⟩
    exact ⟨rfl, .inr ⟨g, cap, cn, _, by rw [mb_len], by rw [mb_len]; exact hca, hr', by rw [mb_len]; exact hl, fun i hi => by rw [mb_len] at hi; rw [bv_mb _ _ _ hi]; unfold mpart; rw [if_pos hi]⟩, Turned.of_kept hk'⟩

theorem ret_num {a b : Int} (h : a = b) : Ending.returned (.int .i64 a) = .returned (.int .i64 b) := by rw [h]

end Go.Proofs.YthcajggbcanmdaaGreatDoor

namespace Go.Proofs.YthcajggbcanmdaaGreatDoor
open Go.RowKit

set_option maxHeartbeats 400000 in
theorem l1Copy_own (a : Option Addr) (c : Nat) (l : List Int) (w : World) (ha : BAt w a l) (hl : (l.length : Int) ≤ 1048576) :
    Calls Tryz.prog 68 #[.slice a l.length c] w fun e w' => ∃ v, e = .returned v ∧ w'.ownsRow w.heap.size 5 1 v l.length (bcs l) ∧ Below w.heap.size w w' := by
  have B0 := below_new w (.cells #[] 5)
  go_enter Tryz.func68, Tryz.ntmps68
  go_wp2_with (at_builtin; refine wpList_append_any _ rfl (.tmp 3) (.tmp 4) 22 rfl w.heap.size 5 (.int .u8 0) 1 1 Tryz.underlying22 Tryz.info5 rfl (by decide) _ 0 [] rfl (World.ownsRow_lit w #[] 0 (Nat.le_refl _) (by decide) rfl) a l.length c (bcs l) rfl (bcs_len l) (ha.below B0).src (bcs_one l) (by unfold maxLen; omega) (by omega) (by simp) ?_; intro v' w1 hown hgr)
  go_ret
  rw [Nat.zero_add, List.nil_append] at hown
  refine ⟨_, rfl, hown, B0.grown hgr (by simp) (fun k hk => ?_)⟩
  simp [Act.eval, Value.ownBlock] at hk
  omega

set_option maxHeartbeats 400000 in
theorem joinBytes_nil (a b : Option Addr) (c d : Nat) (l : List Int) (w : World) (ha : BAt w a l) (hl : (l.length : Int) ≤ 2097152) :
    Calls Tryz.prog 71 #[.slice a l.length c, .slice b 0 d] w fun e w' => ∃ g, e = .returned (.slice (some ⟨g, 0, none⟩) l.length l.length) ∧ w.heap.size ≤ g ∧ w'.rowIs g 5 l.length (bv l) ∧ Below w.heap.size w w' := by
  have hmk := run_make_row' (P := Tryz.prog) 22 5 (.int .u8 0) 1 Tryz.underlying22 Tryz.info5 rfl .i64 .i64 l.length (by omega) (by omega)
  have B0 := below_new w (.cells (madeCells #[.int .u8 0] l.length) 5)
  have R0 := World.rowIs_made w (.int .u8 0) l.length 5
  obtain ⟨w1, hcp1, hr1, hk1⟩ := copy_row (P := Tryz.prog) 22 22 3 Tryz.underlying22 (by kernel_rfl) 0 l.length l.length R0 a c l (ha.below B0) (by omega) (by omega)
  have hcp2 := run_copy_none (P := Tryz.prog) w1 22 22 3 5 (some ⟨w.heap.size, 0, none⟩) b 0 0 0 d Tryz.underlying22 (by kernel_rfl) (by simp)
  have B1 := Hid.mk' (B0.trans (hk1.below (Nat.le_refl _) (by simp)))
  have R1 := Hid.mk' hr1
  clear hr1 hk1 B0 R0 ha
  go_enter Tryz.func71, Tryz.ntmps71
  go_wp2
  go_ret
  exact ⟨_, rfl, Nat.le_refl _, R1.out.congr (fun j hj => by rw [if_pos (by omega), Nat.sub_zero]), B1.out⟩

end Go.Proofs.YthcajggbcanmdaaGreatDoor
