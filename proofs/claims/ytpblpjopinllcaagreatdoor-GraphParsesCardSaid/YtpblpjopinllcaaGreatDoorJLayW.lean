/-
  DERIVED: THE SHELF's CONTRACTS AT THIS DUMP, IN PLAIN WORDS (tools/lay-plain.mjs out of 'TryzShelfX.lean', which tools/lay-shelf.mjs wrote): THE SAME DECLARATIONS UNDER THE SAME NAMES: 'import', 'namespace', 'open', 'def', 'theorem' AND NOTHING ELSE: no command of the shelf's: FOR A HAND-IN. Each laying: the table of numbers ('.._ren') and one theorem, a field a fact of the dump's own or the kernel's comparison; each contract: ONE APPLICATION.
  The contracts of words.Lines, words.Split and words.Option, and of the comparison of two lists of texts.
-/
import Derived.Shelf.Strings.Builder1
import Derived.Shelf.Strings.Builder2
import Derived.Shelf.Strings.OnBuilder
import Derived.Shelf.Small.Bits
import Derived.Shelf.Small.Wraps
import Derived.Shelf.Strconv.Itoa0
import Derived.Shelf.Strconv.Itoa1
import Derived.Shelf.LaysM
import Derived.Shelf.Strconv.Itoa2
import Derived.Shelf.Strconv.Itoa3
import Derived.Shelf.Strconv.Itoa4
import Derived.Shelf.Strconv.ParseIntEmpty
import Derived.Shelf.Strconv.Clone
import Derived.Shelf.Strconv.SyntaxError
import Derived.Shelf.LaysC
import Derived.Shelf.Strconv.ToError
import Derived.Shelf.Strconv.Lower
import Derived.Shelf.Strconv.ParseUint10
import Derived.Shelf.Strconv.ParseUint10Empty
import Derived.Shelf.Strconv.ParseUint10Any
import Derived.Shelf.Strconv.ParseInt10
import Derived.Shelf.Strconv.RangeError
import Derived.Shelf.Strconv.ToErrorRange
import Derived.Shelf.Strconv.ParseUintEmpty
import Derived.Shelf.Strconv.ParseUint10b64
import Derived.Shelf.Strconv.ParseUint10b32
import Derived.Shelf.Strconv.ParseUint10b16
import Derived.Shelf.Strconv.ParseUint10b8
import Derived.Shelf.Strconv.ParseUint10At
import Derived.Shelf.Strconv.ParseInt10At64
import Derived.Shelf.Strconv.ParseInt10At32
import Derived.Shelf.Strconv.ParseInt10At16
import Derived.Shelf.Strconv.ParseInt10At8
import Derived.Shelf.Strconv.ParseInt10All
import Derived.Shelf.Strconv.ParseIntPublic10
import Derived.Shelf.Strconv.ErrVarParseInt
import Derived.Shelf.Strings.Search1
import Derived.Shelf.Strings.Search2
import Derived.Shelf.Strings.Cut
import Derived.Shelf.Strings.Prefix
import Derived.Ground.SlgmProg
import Derived.Shelf.SortM.Plain
import Derived.Shelf.SortM.SortNone
import Derived.Test.YtpblpjopinllcaaGreatDoorProg
import Derived.Test.YtpblpjopinllcaaGreatDoorJWm
import Derived.Deep.QuietTactic
import Derived.BigQuiet
import Derived.WalkKit
namespace Go.Proofs
open Go.Shelf
def Tryz.lays103_ren : Go.Shelf.Ren := ⟨fun | 103 => 199 | 210 => 266 | 206 => 224 | n => n, fun | 9 => 9 | 4 => 4 | 24 => 275 | 3 => 3 | n => n, fun | n => n⟩
theorem Tryz.lays103 : Go.Proofs.Lays.n103 Tryz.prog Tryz.lays103_ren := {
  mixed := by kernel_rfl
  f103 := Tryz.func199.trans (congrArg some (by kernel_rfl))
  f206 := Tryz.func224.trans (congrArg some (by kernel_rfl))
  f210 := Tryz.func266.trans (congrArg some (by kernel_rfl))
  t3 := Tryz.underlying3
  a3 := Tryz.isAgg3
  z3 := Tryz.sizeOf3
  v3 := Tryz.zeroValue3
  t4 := Tryz.underlying4
  a4 := Tryz.isAgg4
  z4 := Tryz.sizeOf4
  v4 := Tryz.zeroValue4
  t9 := Tryz.underlying9
  a9 := Tryz.isAgg9
  z9 := Tryz.sizeOf9
  v9 := Tryz.zeroValue9
  t24 := Tryz.underlying275
  a24 := Tryz.isAgg275
  z24 := Tryz.sizeOf275
  v24 := Tryz.zeroValue275 }
def Tryz.laysM173_ren : Go.Shelf.Ren := ⟨fun | 173 => 157 | 246 => 235 | 283 => 285 | 284 => 286 | 285 => 287 | 286 => 288 | 129 => 304 | 317 => 332 | 318 => 333 | 319 => 334 | 320 => 335 | 337 => 371 | 338 => 372 | n => n, fun | 2 => 2 | 3 => 3 | 9 => 9 | 4 => 4 | 171 => 333 | 0 => 0 | 53 => 64 | 37 => 148 | 5 => 5 | 173 => 336 | 212 => 374 | 51 => 49 | 20 => 20 | 213 => 375 | 46 => 310 | 232 => 416 | 233 => 417 | n => n, fun | 17 => 2 | 18 => 3 | 19 => 4 | n => n⟩
theorem Tryz.laysM173 : Go.Proofs.LaysM.n173 Tryz.prog Tryz.laysM173_ren := {
  mixed := by kernel_rfl
  f129 := Tryz.func304.trans (congrArg some (by kernel_rfl))
  f173 := Tryz.func157.trans (congrArg some (by kernel_rfl))
  f246 := Tryz.func235.trans (congrArg some (by kernel_rfl))
  f283 := Tryz.func285.trans (congrArg some (by kernel_rfl))
  f284 := Tryz.func286.trans (congrArg some (by kernel_rfl))
  f285 := Tryz.func287.trans (congrArg some (by kernel_rfl))
  f286 := Tryz.func288.trans (congrArg some (by kernel_rfl))
  f317 := Tryz.func332.trans (congrArg some (by kernel_rfl))
  f318 := Tryz.func333.trans (congrArg some (by kernel_rfl))
  f319 := Tryz.func334.trans (congrArg some (by kernel_rfl))
  f320 := Tryz.func335.trans (congrArg some (by kernel_rfl))
  f337 := Tryz.func371.trans (congrArg some (by kernel_rfl))
  f338 := Tryz.func372.trans (congrArg some (by kernel_rfl))
  t0 := Tryz.underlying0
  a0 := Tryz.isAgg0
  z0 := Tryz.sizeOf0
  v0 := Tryz.zeroValue0
  t2 := Tryz.underlying2
  a2 := Tryz.isAgg2
  z2 := Tryz.sizeOf2
  v2 := Tryz.zeroValue2
  t3 := Tryz.underlying3
  a3 := Tryz.isAgg3
  z3 := Tryz.sizeOf3
  v3 := Tryz.zeroValue3
  t4 := Tryz.underlying4
  a4 := Tryz.isAgg4
  z4 := Tryz.sizeOf4
  v4 := Tryz.zeroValue4
  t5 := Tryz.underlying5
  a5 := Tryz.isAgg5
  z5 := Tryz.sizeOf5
  v5 := Tryz.zeroValue5
  t9 := Tryz.underlying9
  a9 := Tryz.isAgg9
  z9 := Tryz.sizeOf9
  v9 := Tryz.zeroValue9
  t20 := Tryz.underlying20
  a20 := Tryz.isAgg20
  z20 := Tryz.sizeOf20
  v20 := Tryz.zeroValue20
  t37 := Tryz.underlying148
  a37 := Tryz.isAgg148
  z37 := Tryz.sizeOf148
  v37 := Tryz.zeroValue148
  t46 := Tryz.underlying310
  a46 := Tryz.isAgg310
  z46 := Tryz.sizeOf310
  v46 := Tryz.zeroValue310
  t51 := Tryz.underlying49
  a51 := Tryz.isAgg49
  z51 := Tryz.sizeOf49
  v51 := Tryz.zeroValue49
  t53 := Tryz.underlying64
  a53 := Tryz.isAgg64
  z53 := Tryz.sizeOf64
  v53 := Tryz.zeroValue64
  t171 := Tryz.underlying333
  a171 := Tryz.isAgg333
  z171 := Tryz.sizeOf333
  v171 := Tryz.zeroValue333
  t173 := Tryz.underlying336
  a173 := Tryz.isAgg336
  z173 := Tryz.sizeOf336
  v173 := Tryz.zeroValue336
  t212 := Tryz.underlying374
  a212 := Tryz.isAgg374
  z212 := Tryz.sizeOf374
  v212 := Tryz.zeroValue374
  t213 := Tryz.underlying375
  a213 := Tryz.isAgg375
  z213 := Tryz.sizeOf375
  t232 := Tryz.underlying416
  a232 := Tryz.isAgg416
  z232 := Tryz.sizeOf416
  v232 := Tryz.zeroValue416
  t233 := Tryz.underlying417
  a233 := Tryz.isAgg417
  z233 := Tryz.sizeOf417
  v233 := Tryz.zeroValue417
  g17 := by kernel_rfl
  g18 := by kernel_rfl
  g19 := by kernel_rfl
  i0 := by kernel_rfl
  i2 := by kernel_rfl
  i3 := by kernel_rfl
  i4 := by kernel_rfl
  i5 := by kernel_rfl
  i9 := by kernel_rfl
  i20 := by kernel_rfl
  i37 := by kernel_rfl
  i46 := by kernel_rfl
  i51 := by kernel_rfl
  i53 := by kernel_rfl
  i171 := by kernel_rfl
  i173 := by kernel_rfl
  i212 := by kernel_rfl
  i232 := by kernel_rfl
  i233 := by kernel_rfl
  m17 := by kernel_rfl
  m18 := by kernel_rfl
  m19 := by kernel_rfl }
def Tryz.laysC174_ren : Go.Shelf.Ren := ⟨fun | 174 => 310 | 247 => 350 | 245 => 351 | 287 => 377 | 279 => 378 | 280 => 379 | 281 => 380 | 282 => 381 | 321 => 389 | 322 => 390 | 316 => 391 | 171 => 393 | 205 => 392 | 243 => 395 | 246 => 235 | 283 => 285 | 284 => 286 | 285 => 287 | 286 => 288 | 129 => 304 | 317 => 332 | 318 => 333 | 319 => 334 | 320 => 335 | 337 => 371 | 338 => 372 | n => n, fun | 9 => 9 | 3 => 3 | 2 => 2 | 75 => 227 | 85 => 353 | 4 => 4 | 167 => 406 | 5 => 5 | 53 => 64 | 175 => 407 | 46 => 310 | 168 => 409 | 37 => 148 | 0 => 0 | 210 => 421 | 21 => 21 | 127 => 237 | 145 => 426 | 143 => 424 | 171 => 333 | 173 => 336 | 212 => 374 | 51 => 49 | 20 => 20 | 213 => 375 | 232 => 416 | 233 => 417 | 80 => 155 | n => n, fun | 15 => 5 | 16 => 6 | 17 => 2 | 18 => 3 | 19 => 4 | n => n⟩
theorem Tryz.laysC174 : Go.Proofs.LaysC.n174 Tryz.prog Tryz.laysC174_ren := {
  mixed := by kernel_rfl
  f129 := Tryz.func304.trans (congrArg some (by kernel_rfl))
  f171 := Tryz.func393.trans (congrArg some (by kernel_rfl))
  f174 := Tryz.func310.trans (congrArg some (by kernel_rfl))
  f205 := Tryz.func392.trans (congrArg some (by kernel_rfl))
  f243 := Tryz.func395.trans (congrArg some (by kernel_rfl))
  f245 := Tryz.func351.trans (congrArg some (by kernel_rfl))
  f246 := Tryz.func235.trans (congrArg some (by kernel_rfl))
  f247 := Tryz.func350.trans (congrArg some (by kernel_rfl))
  f279 := Tryz.func378.trans (congrArg some (by kernel_rfl))
  f280 := Tryz.func379.trans (congrArg some (by kernel_rfl))
  f281 := Tryz.func380.trans (congrArg some (by kernel_rfl))
  f282 := Tryz.func381.trans (congrArg some (by kernel_rfl))
  f283 := Tryz.func285.trans (congrArg some (by kernel_rfl))
  f284 := Tryz.func286.trans (congrArg some (by kernel_rfl))
  f285 := Tryz.func287.trans (congrArg some (by kernel_rfl))
  f286 := Tryz.func288.trans (congrArg some (by kernel_rfl))
  f287 := Tryz.func377.trans (congrArg some (by kernel_rfl))
  f316 := Tryz.func391.trans (congrArg some (by kernel_rfl))
  f317 := Tryz.func332.trans (congrArg some (by kernel_rfl))
  f318 := Tryz.func333.trans (congrArg some (by kernel_rfl))
  f319 := Tryz.func334.trans (congrArg some (by kernel_rfl))
  f320 := Tryz.func335.trans (congrArg some (by kernel_rfl))
  f321 := Tryz.func389.trans (congrArg some (by kernel_rfl))
  f322 := Tryz.func390.trans (congrArg some (by kernel_rfl))
  f337 := Tryz.func371.trans (congrArg some (by kernel_rfl))
  f338 := Tryz.func372.trans (congrArg some (by kernel_rfl))
  t0 := Tryz.underlying0
  a0 := Tryz.isAgg0
  z0 := Tryz.sizeOf0
  v0 := Tryz.zeroValue0
  t2 := Tryz.underlying2
  a2 := Tryz.isAgg2
  z2 := Tryz.sizeOf2
  v2 := Tryz.zeroValue2
  t3 := Tryz.underlying3
  a3 := Tryz.isAgg3
  z3 := Tryz.sizeOf3
  v3 := Tryz.zeroValue3
  t4 := Tryz.underlying4
  a4 := Tryz.isAgg4
  z4 := Tryz.sizeOf4
  v4 := Tryz.zeroValue4
  t5 := Tryz.underlying5
  a5 := Tryz.isAgg5
  z5 := Tryz.sizeOf5
  v5 := Tryz.zeroValue5
  t9 := Tryz.underlying9
  a9 := Tryz.isAgg9
  z9 := Tryz.sizeOf9
  v9 := Tryz.zeroValue9
  t20 := Tryz.underlying20
  a20 := Tryz.isAgg20
  z20 := Tryz.sizeOf20
  v20 := Tryz.zeroValue20
  t21 := Tryz.underlying21
  a21 := Tryz.isAgg21
  z21 := Tryz.sizeOf21
  v21 := Tryz.zeroValue21
  t37 := Tryz.underlying148
  a37 := Tryz.isAgg148
  z37 := Tryz.sizeOf148
  v37 := Tryz.zeroValue148
  t46 := Tryz.underlying310
  a46 := Tryz.isAgg310
  z46 := Tryz.sizeOf310
  v46 := Tryz.zeroValue310
  t51 := Tryz.underlying49
  a51 := Tryz.isAgg49
  z51 := Tryz.sizeOf49
  v51 := Tryz.zeroValue49
  t53 := Tryz.underlying64
  a53 := Tryz.isAgg64
  z53 := Tryz.sizeOf64
  v53 := Tryz.zeroValue64
  t75 := Tryz.underlying227
  a75 := Tryz.isAgg227
  z75 := Tryz.sizeOf227
  v75 := Tryz.zeroValue227
  t85 := Tryz.underlying353
  a85 := Tryz.isAgg353
  z85 := Tryz.sizeOf353
  v85 := Tryz.zeroValue353
  t127 := Tryz.underlying237
  a127 := Tryz.isAgg237
  z127 := Tryz.sizeOf237
  v127 := Tryz.zeroValue237
  t143 := Tryz.underlying424
  a143 := Tryz.isAgg424
  z143 := Tryz.sizeOf424
  v143 := Tryz.zeroValue424
  t145 := Tryz.underlying426
  a145 := Tryz.isAgg426
  z145 := Tryz.sizeOf426
  v145 := Tryz.zeroValue426
  t167 := Tryz.underlying406
  a167 := Tryz.isAgg406
  z167 := Tryz.sizeOf406
  v167 := Tryz.zeroValue406
  t168 := Tryz.underlying409
  a168 := Tryz.isAgg409
  z168 := Tryz.sizeOf409
  v168 := Tryz.zeroValue409
  t171 := Tryz.underlying333
  a171 := Tryz.isAgg333
  z171 := Tryz.sizeOf333
  v171 := Tryz.zeroValue333
  t173 := Tryz.underlying336
  a173 := Tryz.isAgg336
  z173 := Tryz.sizeOf336
  v173 := Tryz.zeroValue336
  t175 := Tryz.underlying407
  a175 := Tryz.isAgg407
  z175 := Tryz.sizeOf407
  v175 := Tryz.zeroValue407
  t210 := Tryz.underlying421
  a210 := Tryz.isAgg421
  z210 := Tryz.sizeOf421
  v210 := Tryz.zeroValue421
  t212 := Tryz.underlying374
  a212 := Tryz.isAgg374
  z212 := Tryz.sizeOf374
  v212 := Tryz.zeroValue374
  t213 := Tryz.underlying375
  a213 := Tryz.isAgg375
  z213 := Tryz.sizeOf375
  t232 := Tryz.underlying416
  a232 := Tryz.isAgg416
  z232 := Tryz.sizeOf416
  v232 := Tryz.zeroValue416
  t233 := Tryz.underlying417
  a233 := Tryz.isAgg417
  z233 := Tryz.sizeOf417
  v233 := Tryz.zeroValue417
  g15 := by kernel_rfl
  g16 := by kernel_rfl
  g17 := by kernel_rfl
  g18 := by kernel_rfl
  g19 := by kernel_rfl
  t80 := Tryz.underlying155
  a80 := Tryz.isAgg155
  z80 := Tryz.sizeOf155
  v80 := Tryz.zeroValue155
  i0 := by kernel_rfl
  i2 := by kernel_rfl
  i3 := by kernel_rfl
  i4 := by kernel_rfl
  i5 := by kernel_rfl
  i9 := by kernel_rfl
  i20 := by kernel_rfl
  i21 := by kernel_rfl
  i37 := by kernel_rfl
  i46 := by kernel_rfl
  i51 := by kernel_rfl
  i53 := by kernel_rfl
  i75 := by kernel_rfl
  i80 := by kernel_rfl
  i85 := by kernel_rfl
  i127 := by kernel_rfl
  i143 := by kernel_rfl
  i145 := by kernel_rfl
  i167 := by kernel_rfl
  i168 := by kernel_rfl
  i171 := by kernel_rfl
  i173 := by kernel_rfl
  i175 := by kernel_rfl
  i210 := by kernel_rfl
  i212 := by kernel_rfl
  i232 := by kernel_rfl
  i233 := by kernel_rfl
  m15 := by kernel_rfl
  m16 := by kernel_rfl
  m17 := by kernel_rfl
  m18 := by kernel_rfl
  m19 := by kernel_rfl
  c0 := by kernel_rfl
  c2 := by kernel_rfl
  c3 := by kernel_rfl
  c4 := by kernel_rfl
  c5 := by kernel_rfl
  c9 := by kernel_rfl
  c20 := by kernel_rfl
  c21 := by kernel_rfl
  c37 := by kernel_rfl
  c46 := by kernel_rfl
  c51 := by kernel_rfl
  c53 := by kernel_rfl
  c75 := by kernel_rfl
  c80 := by kernel_rfl
  c85 := by kernel_rfl
  c127 := by kernel_rfl
  c143 := by kernel_rfl
  c145 := by kernel_rfl
  c167 := by kernel_rfl
  c168 := by kernel_rfl
  c171 := by kernel_rfl
  c173 := by kernel_rfl
  c175 := by kernel_rfl
  c210 := by kernel_rfl
  c212 := by kernel_rfl
  c213 := by kernel_rfl
  c232 := by kernel_rfl
  c233 := by kernel_rfl }
def Tryz.lays145_ren : Go.Shelf.Ren := ⟨fun | 145 => 140 | 220 => 218 | 219 => 281 | 217 => 327 | 225 => 328 | 224 => 329 | 267 => 330 | 266 => 369 | 314 => 370 | n => n, fun | 9 => 9 | 4 => 4 | 59 => 213 | 3 => 3 | 5 => 5 | 46 => 310 | 146 => 399 | 51 => 49 | n => n, fun | 1 => 1 | n => n⟩
theorem Tryz.lays145 : Go.Proofs.Lays.n145 Tryz.prog Tryz.lays145_ren := {
  mixed := by kernel_rfl
  f145 := Tryz.func140.trans (congrArg some (by kernel_rfl))
  f217 := Tryz.func327.trans (congrArg some (by kernel_rfl))
  f219 := Tryz.func281.trans (congrArg some (by kernel_rfl))
  f220 := Tryz.func218.trans (congrArg some (by kernel_rfl))
  f224 := Tryz.func329.trans (congrArg some (by kernel_rfl))
  f225 := Tryz.func328.trans (congrArg some (by kernel_rfl))
  f266 := Tryz.func369.trans (congrArg some (by kernel_rfl))
  f267 := Tryz.func330.trans (congrArg some (by kernel_rfl))
  f314 := Tryz.func370.trans (congrArg some (by kernel_rfl))
  t3 := Tryz.underlying3
  a3 := Tryz.isAgg3
  z3 := Tryz.sizeOf3
  v3 := Tryz.zeroValue3
  t4 := Tryz.underlying4
  a4 := Tryz.isAgg4
  z4 := Tryz.sizeOf4
  v4 := Tryz.zeroValue4
  t5 := Tryz.underlying5
  a5 := Tryz.isAgg5
  z5 := Tryz.sizeOf5
  v5 := Tryz.zeroValue5
  t9 := Tryz.underlying9
  a9 := Tryz.isAgg9
  z9 := Tryz.sizeOf9
  v9 := Tryz.zeroValue9
  t46 := Tryz.underlying310
  a46 := Tryz.isAgg310
  z46 := Tryz.sizeOf310
  v46 := Tryz.zeroValue310
  t51 := Tryz.underlying49
  a51 := Tryz.isAgg49
  z51 := Tryz.sizeOf49
  v51 := Tryz.zeroValue49
  t59 := Tryz.underlying213
  a59 := Tryz.isAgg213
  z59 := Tryz.sizeOf213
  v59 := Tryz.zeroValue213
  t146 := Tryz.underlying399
  a146 := Tryz.isAgg399
  z146 := Tryz.sizeOf399
  v146 := Tryz.zeroValue399
  g1 := by kernel_rfl }
def Tryz.lays99_ren : Go.Shelf.Ren := ⟨fun | 99 => 145 | 206 => 224 | n => n, fun | 9 => 9 | 4 => 4 | 3 => 3 | n => n, fun | n => n⟩
theorem Tryz.lays99 : Go.Proofs.Lays.n99 Tryz.prog Tryz.lays99_ren := {
  mixed := by kernel_rfl
  f99 := Tryz.func145.trans (congrArg some (by kernel_rfl))
  f206 := Tryz.func224.trans (congrArg some (by kernel_rfl))
  t3 := Tryz.underlying3
  a3 := Tryz.isAgg3
  z3 := Tryz.sizeOf3
  v3 := Tryz.zeroValue3
  t4 := Tryz.underlying4
  a4 := Tryz.isAgg4
  z4 := Tryz.sizeOf4
  v4 := Tryz.zeroValue4
  t9 := Tryz.underlying9
  a9 := Tryz.isAgg9
  z9 := Tryz.sizeOf9
  v9 := Tryz.zeroValue9 }
end Go.Proofs
namespace Go.Proofs.YtpblpjopinllcaaGreatDoor.words
open Go.ChangeShapes Go.WideShapes Go.ChangeAt Go.RowKit
open Go.Proofs.YtpblpjopinllcaaGreatDoor.opened Go.Proofs.YtpblpjopinllcaaGreatDoor.block

theorem cut_any (s : Bs) (x : UInt8) (hs : s.length ≤ 100000) (w : World) (hm : MaxIs w) :
    Calls Tryz.prog 140 #[.string ⟨s.toArray⟩, .string ⟨#[x]⟩] w fun e w' => e = .returned (.tuple #[sV (Lib.cut s [x]).1, sV (Lib.cut s [x]).2.1, .bool (Lib.cut s [x]).2.2]) ∧ Below w.heap.size w w' := by
  obtain ⟨m, hm⟩ := hm
  refine (Any.strings_Cut Tryz.lays145 ⟨s.toArray⟩ ⟨#[x]⟩ m w (by show s.toArray.size < _; simp; omega) hm).mono ?_
  rintro e w' ⟨he, n, rfl⟩
  exact ⟨he, below_drewN (Below.refl _ _) n⟩
theorem prefix_any (s p : Bs) (w : World) : Calls Tryz.prog 145 #[.string ⟨s.toArray⟩, .string ⟨p.toArray⟩] w fun e w' => e = .returned (.bool (Lib.hasPrefix s p)) ∧ w = w' :=
  (Any.strings_HasPrefix Tryz.lays99 ⟨s.toArray⟩ ⟨p.toArray⟩ w).mono fun _ _ ⟨he, hw⟩ => ⟨he, hw.symm⟩
theorem cutp_any (s p : Bs) (w : World) : Calls Tryz.prog 199 #[.string ⟨s.toArray⟩, .string ⟨p.toArray⟩] w fun e w' => e = .returned (.tuple #[sV (Lib.trimPrefix s p), .bool (Lib.hasPrefix s p)]) ∧ w = w' :=
  (Any.strings_CutPrefix Tryz.lays103 ⟨s.toArray⟩ ⟨p.toArray⟩ w).mono fun _ _ ⟨he, hw⟩ => ⟨he, hw.symm⟩

set_option maxRecDepth 100000 in
theorem lines_any (s : Bs) (hs : s.length ≤ 100000) (w : World) (hm : MaxIs w) :
    Calls Tryz.prog 73 #[.string ⟨s.toArray⟩] w fun e w' => ∃ A c, e = .returned (.slice A (linesL s).length c) ∧ OwnS w' w.heap.size (.slice A (linesL s).length c) (linesL s) ∧ Below w.heap.size w w' := by
  have HM := Lib.hid hm
  clear hm
  obtain ⟨i0, hi, hz0, hz1, hz2⟩ := infoS_parts
  go_enter Tryz.func73, Tryz.ntmps73
  go_wp2_with fail
  go_loopw [0, 3] (fun sv v wr => ∃ (r : Bs) (N : List Bs) (A : Option Addr) (c : Nat), sv = sV r ∧ v = .slice A N.length c ∧ Hid (linesL s = N ++ linesL r) ∧ N.length + r.length ≤ s.length ∧ Hid (OwnS wr w.heap.size (.slice A N.length c) N) ∧ Below w.heap.size w wr) (fun sv _ _ => lenOf sv)
  case atStart => exact ⟨s, [], none, 0, rfl, rfl, Lib.hid rfl, by simp, Lib.hid (ownS_nil _ _), Below.refl _ _⟩
  case round =>
    obtain ⟨r, N, A, c, rfl, rfl, HN, hl, HO, hb⟩ := hrel
    cases r with
    | nil =>
      obtain rfl : linesL s = N := by have := HN.out; rw [lines_nil, List.append_nil] at this; exact this
      go_wp2_with fail
      go_ret
      exact ⟨A, c, rfl, HO.out, hb⟩
    | cons x q =>
      have C := Lib.hid (cut_any (x :: q) 10 (by simp at hl ⊢; omega) wr (HM.out.below hb))
      have HE : Hid (linesL s = (N ++ [(Lib.cut (x :: q) [10]).1]) ++ linesL (Lib.cut (x :: q) [10]).2.1) := Lib.hid (by rw [List.append_assoc]; exact HN.out.trans (congrArg (N ++ ·) (lines_cut (by simp))))
      have HL := cut_less (l := x :: q) (by simp) 10
      generalize Lib.cut (x :: q) [10] = z at C HE HL
      have hs := hb.size
      go_wp2_with (first
        | (go_at_call 140; refine C.out.mono ?_; rintro e w4 ⟨rfl, b4⟩; have HO4 := Lib.hid (HO.out.below b4); have B4 := Lib.hid (hb.trans (b4.mono hs)); have hs4 := B4.out.size; clear b4)
        | (at_builtin; refine wpList_append_own _ rfl _ _ 126 rfl w.heap.size 9 i0 (.string ByteArray.empty) 1 16 Tryz.underlying126 hi hz0 hz1 hz2 rfl (by decide) _ _ _ rfl (HO4.out.below (fresh1 w4 (.cells #[sV z.1] 9))) ⟨_, 0, none⟩ 1 1 [sV z.1] rfl rfl (cell_new1 _ _ _) (oneS _) (by unfold maxLen; simp at hl; omega) (by simp at hl; omega) (by simp; omega) ?_; intro v' w5 hown' hgrow _; obtain ⟨g', cap', rfl⟩ := ownS_succ hown'; have b5 := HO4.out.grown hs4 hgrow; have HO5 := Lib.hid hown'; clear hown' hgrow))
      go_roundw
      case rel => exact ⟨z.2.1, N ++ [z.1], some ⟨g', 0, none⟩, cap', rfl, by rw [List.length_append]; rfl, HE, by simp at hl ⊢; simp at HL; omega, Lib.hid (by have := HO5.out; simpa [OwnS] using this), B4.out.trans b5⟩
      case measure => show lenOf (sV z.2.1) < lenOf (sV (x :: q)); rw [lenOf_str, lenOf_str]; exact HL

set_option maxRecDepth 100000 in
theorem split_any (s : Bs) (hs : s.length ≤ 100000) (w : World) (hm : MaxIs w) :
    Calls Tryz.prog 75 #[.string ⟨s.toArray⟩] w fun e w' => ∃ A c, e = .returned (.slice A (splitL s).length c) ∧ OwnS w' w.heap.size (.slice A (splitL s).length c) (splitL s) ∧ Below w.heap.size w w' := by
  have HM := Lib.hid hm
  clear hm
  obtain ⟨i0, hi, hz0, hz1, hz2⟩ := infoS_parts
  go_enter Tryz.func75, Tryz.ntmps75
  go_wp2_with fail
  go_loopw [0, 3] (fun sv v wr => ∃ (r : Bs) (N : List Bs) (A : Option Addr) (c : Nat), sv = sV r ∧ v = .slice A N.length c ∧ Hid (splitL s = N ++ splitL r) ∧ N.length + r.length ≤ s.length ∧ Hid (OwnS wr w.heap.size (.slice A N.length c) N) ∧ Below w.heap.size w wr) (fun sv _ _ => lenOf sv)
  case atStart => exact ⟨s, [], none, 0, rfl, rfl, Lib.hid rfl, by simp, Lib.hid (ownS_nil _ _), Below.refl _ _⟩
  case round =>
    obtain ⟨r, N, A, c, rfl, rfl, HN, hl, HO, hb⟩ := hrel
    cases r with
    | nil =>
      obtain rfl : splitL s = N := by have := HN.out; rw [split_nil, List.append_nil] at this; exact this
      go_wp2_with fail
      go_ret
      exact ⟨A, c, rfl, HO.out, hb⟩
    | cons x q =>
      have C := Lib.hid (cut_any (x :: q) 32 (by simp at hl ⊢; omega) wr (HM.out.below hb))
      have HE := Lib.hid (split_cut (x :: q))
      have HL := cut_less (l := x :: q) (by simp) 32
      generalize Lib.cut (x :: q) [32] = z at C HE HL
      have P := Lib.hid (fun W => prefix_any z.1 [35] W)
      have hs := hb.size
      rw [show Lib.hasPrefix z.1 [35] = isNote z.1 from rfl] at P
      cases hn : isNote z.1
      · rw [hn] at P HE
        clear hn
        obtain ⟨z1, z2, z3⟩ := z
        dsimp only at C HE HL P
        cases z1 with
        | nil =>
          have HQ : Hid (splitL s = N ++ splitL z2) := Lib.hid (by have := HE.out; rw [if_neg (by simp), if_pos rfl] at this; rw [HN.out, this])
          clear HE HN
          go_wp2_with (first
            | (go_at_call 140; refine C.out.mono ?_; rintro e w4 ⟨rfl, b4⟩; have HO4 := Lib.hid (HO.out.below b4); have B4 := Lib.hid (hb.trans (b4.mono hs)); have hs4 := B4.out.size; clear b4)
            | (go_at_call 145; refine (P.out _).mono ?_; rintro e w5 ⟨rfl, rfl⟩))
          go_roundw
          case rel => exact ⟨z2, N, A, c, rfl, rfl, HQ, by simp at hl HL; omega, HO4, B4.out⟩
          case measure => show lenOf (sV z2) < lenOf (sV (x :: q)); rw [lenOf_str, lenOf_str]; exact HL
        | cons y t =>
          have HQ : Hid (splitL s = (N ++ [y :: t]) ++ splitL z2) := Lib.hid (by have := HE.out; rw [if_neg (by simp), if_neg (by simp)] at this; rw [HN.out, this]; simp)
          clear HE HN
          go_wp2_with (first
            | (go_at_call 140; refine C.out.mono ?_; rintro e w4 ⟨rfl, b4⟩; have HO4 := Lib.hid (HO.out.below b4); have B4 := Lib.hid (hb.trans (b4.mono hs)); have hs4 := B4.out.size; clear b4)
            | (go_at_call 145; refine (P.out _).mono ?_; rintro e w5 ⟨rfl, rfl⟩)
            | (at_builtin; refine wpList_append_own _ rfl _ _ 126 rfl w.heap.size 9 i0 (.string ByteArray.empty) 1 16 Tryz.underlying126 hi hz0 hz1 hz2 rfl (by decide) _ _ _ rfl (HO4.out.below (fresh1 _ (.cells #[sV (y :: t)] 9))) ⟨_, 0, none⟩ 1 1 [sV (y :: t)] rfl rfl (cell_new1 _ _ _) (oneS _) (by unfold maxLen; simp at hl; omega) (by simp at hl; omega) (by simp; omega) ?_; intro v' w5 hown' hgrow _; obtain ⟨g', cap', rfl⟩ := ownS_succ hown'; have b5 := HO4.out.grown hs4 hgrow; have HO5 := Lib.hid hown'; clear hown' hgrow))
          go_roundw
          case rel => exact ⟨z2, N ++ [y :: t], some ⟨g', 0, none⟩, cap', rfl, by rw [List.length_append]; rfl, HQ, by simp at hl HL ⊢; omega, Lib.hid (by have := HO5.out; simpa [OwnS] using this), B4.out.trans b5⟩
          case measure => show lenOf (sV z2) < lenOf (sV (x :: q)); rw [lenOf_str, lenOf_str]; exact HL
      · rw [hn] at P HE
        clear hn
        obtain rfl : splitL s = N := by have := HE.out; rw [if_pos rfl] at this; rw [HN.out, this, List.append_nil]
        clear HE HN
        go_wp2_with (first
          | (go_at_call 140; refine C.out.mono ?_; rintro e w4 ⟨rfl, b4⟩; have HO4 := Lib.hid (HO.out.below b4); have B4 := Lib.hid (hb.trans (b4.mono hs)); have hs4 := B4.out.size; clear b4)
          | (go_at_call 145; refine (P.out _).mono ?_; rintro e w5 ⟨rfl, rfl⟩))
        go_ret
        exact ⟨A, c, rfl, HO4.out, B4.out⟩

theorem opt_drop {name x : Bs} (h : optF name x = true) : Lib.trimPrefix x (name ++ [61]) = x.drop (name.length + 1) := by
  unfold Lib.trimPrefix
  rw [show Lib.hasPrefix x (name ++ [61]) = true from h, if_pos rfl]
  simp
theorem str_app (a b : Bs) : ({ data := a.toArray } : ByteArray) ++ { data := b.toArray } = ⟨(a ++ b).toArray⟩ := ByteArray.ext (by simp)
end Go.Proofs.YtpblpjopinllcaaGreatDoor.words
