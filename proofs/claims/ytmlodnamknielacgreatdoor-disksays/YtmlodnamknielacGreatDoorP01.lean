/- 5 texts of the proof: strings and strconv are the library's, by its own laws. Plain facts on texts: words with blanks between them, decimal numbers written and read. Plain functions and facts on trees as lists of places; nothing of the program is named here. Plain functions: tree.Under; a small tree. Plain facts on slices.DeleteFunc: what stays is what is kept. -/
import Derived.Shelf.Strings.OnBuilder
import Derived.Shelf.Strings.Split
import Derived.Shelf.Strings.Cut
import Derived.Shelf.Strconv.Itoa4
import Derived.Shelf.Strconv.ErrVarAll
import Derived.Shelf.Strconv.ErrVarParseInt
import Derived.Test.YtmlodnamknielacGreatDoorProg
import Derived.Lib.ItoaNum
import Derived.Lib.ParseIntB
import Derived.Lib.Join
import Derived.Lib.IndexMore
import Init
/- strings and strconv are the library's, by its own laws. -/
namespace Go.Proofs
open Go.Shelf
def Tryz.lays169_ren : Go.Shelf.Ren := ⟨fun | 169 => 33 | n => n, fun | 70 => 63 | 9 => 9 | 0 => 0 | 72 => 65 | 37 => 22 | 127 => 85 | 3 => 3 | 5 => 5 | n => n, fun | n => n⟩
theorem Tryz.lays169 : Go.Proofs.Lays.n169 Tryz.prog Tryz.lays169_ren := {
  mixed := by kernel_rfl
  f169 := Tryz.func33.trans (congrArg some (by kernel_rfl))
  t0 := Tryz.underlying0
  a0 := Tryz.isAgg0
  z0 := Tryz.sizeOf0
  v0 := Tryz.zeroValue0
  t3 := Tryz.underlying3
  a3 := Tryz.isAgg3
  z3 := Tryz.sizeOf3
  v3 := Tryz.zeroValue3
  t9 := Tryz.underlying9
  a9 := Tryz.isAgg9
  z9 := Tryz.sizeOf9
  v9 := Tryz.zeroValue9
  t37 := Tryz.underlying22
  a37 := Tryz.isAgg22
  z37 := Tryz.sizeOf22
  v37 := Tryz.zeroValue22
  t70 := Tryz.underlying63
  a70 := Tryz.isAgg63
  z70 := Tryz.sizeOf63
  v70 := Tryz.zeroValue63
  t72 := Tryz.underlying65
  a72 := Tryz.isAgg65
  z72 := Tryz.sizeOf65
  v72 := Tryz.zeroValue65
  t127 := Tryz.underlying85
  a127 := Tryz.isAgg85
  z127 := Tryz.sizeOf85
  v127 := Tryz.zeroValue85 }
theorem Tryz.extra169 : Builder.Extra Tryz.prog Tryz.lays169_ren := {
  sizeBuilder := by kernel_rfl
  liesBuilder := by kernel_rfl
  t5 := Tryz.underlying5
  a5 := Tryz.isAgg5
  z5 := Tryz.sizeOf5
  v5 := Tryz.zeroValue5
  infoByte := by kernel_rfl
  cellsByte := by kernel_rfl
  sizeByte := by kernel_rfl
  neB5 := by decide }
def Tryz.lays156_ren : Go.Shelf.Ren := ⟨fun | 156 => 42 | 165 => 57 | 166 => 31 | 169 => 33 | 240 => 45 | 241 => 73 | 276 => 60 | 277 => 93 | n => n, fun | 31 => 78 | 9 => 9 | 3 => 3 | 4 => 4 | 0 => 0 | 20 => 20 | 72 => 65 | 76 => 68 | 70 => 63 | 37 => 22 | 75 => 67 | 127 => 85 | 164 => 98 | 5 => 5 | 80 => 71 | n => n, fun | n => n⟩
theorem Tryz.lays156 : Go.Proofs.Lays.n156 Tryz.prog Tryz.lays156_ren := {
  mixed := by kernel_rfl
  f156 := Tryz.func42.trans (congrArg some (by kernel_rfl))
  f165 := Tryz.func57.trans (congrArg some (by kernel_rfl))
  f166 := Tryz.func31.trans (congrArg some (by kernel_rfl))
  f169 := Tryz.func33.trans (congrArg some (by kernel_rfl))
  f240 := Tryz.func45.trans (congrArg some (by kernel_rfl))
  f241 := Tryz.func73.trans (congrArg some (by kernel_rfl))
  f276 := Tryz.func60.trans (congrArg some (by kernel_rfl))
  f277 := Tryz.func93.trans (congrArg some (by kernel_rfl))
  t0 := Tryz.underlying0
  a0 := Tryz.isAgg0
  z0 := Tryz.sizeOf0
  v0 := Tryz.zeroValue0
  t3 := Tryz.underlying3
  a3 := Tryz.isAgg3
  z3 := Tryz.sizeOf3
  v3 := Tryz.zeroValue3
  t4 := Tryz.underlying4
  a4 := Tryz.isAgg4
  z4 := Tryz.sizeOf4
  v4 := Tryz.zeroValue4
  t9 := Tryz.underlying9
  a9 := Tryz.isAgg9
  z9 := Tryz.sizeOf9
  v9 := Tryz.zeroValue9
  t20 := Tryz.underlying20
  a20 := Tryz.isAgg20
  z20 := Tryz.sizeOf20
  v20 := Tryz.zeroValue20
  t31 := Tryz.underlying78
  a31 := Tryz.isAgg78
  z31 := Tryz.sizeOf78
  v31 := Tryz.zeroValue78
  t37 := Tryz.underlying22
  a37 := Tryz.isAgg22
  z37 := Tryz.sizeOf22
  v37 := Tryz.zeroValue22
  t70 := Tryz.underlying63
  a70 := Tryz.isAgg63
  z70 := Tryz.sizeOf63
  v70 := Tryz.zeroValue63
  t72 := Tryz.underlying65
  a72 := Tryz.isAgg65
  z72 := Tryz.sizeOf65
  v72 := Tryz.zeroValue65
  t75 := Tryz.underlying67
  a75 := Tryz.isAgg67
  z75 := Tryz.sizeOf67
  v75 := Tryz.zeroValue67
  t76 := Tryz.underlying68
  a76 := Tryz.isAgg68
  z76 := Tryz.sizeOf68
  v76 := Tryz.zeroValue68
  t127 := Tryz.underlying85
  a127 := Tryz.isAgg85
  z127 := Tryz.sizeOf85
  v127 := Tryz.zeroValue85
  t164 := Tryz.underlying98
  a164 := Tryz.isAgg98
  z164 := Tryz.sizeOf98
  v164 := Tryz.zeroValue98 }
theorem Tryz.extra156 : Builder.Extra Tryz.prog Tryz.lays156_ren := {
  sizeBuilder := by kernel_rfl
  liesBuilder := by kernel_rfl
  t5 := Tryz.underlying5
  a5 := Tryz.isAgg5
  z5 := Tryz.sizeOf5
  v5 := Tryz.zeroValue5
  infoByte := by kernel_rfl
  cellsByte := by kernel_rfl
  sizeByte := by kernel_rfl
  neB5 := by decide }
def Tryz.laysC172_ren : Go.Shelf.Ren := ⟨fun | 172 => 83 | 244 => 101 | 245 => 71 | 247 => 70 | 279 => 89 | 280 => 90 | 281 => 91 | 282 => 92 | 287 => 88 | 316 => 108 | 171 => 32 | 205 => 109 | 321 => 106 | 322 => 107 | 243 => 46 | 246 => 61 | 283 => 75 | 284 => 76 | 285 => 77 | 286 => 78 | 129 => 95 | 317 => 94 | 318 => 96 | 319 => 97 | 320 => 98 | 337 => 110 | 338 => 111 | n => n, fun | 9 => 9 | 3 => 3 | 75 => 67 | 76 => 68 | 4 => 4 | 5 => 5 | 167 => 124 | 37 => 22 | 0 => 0 | 85 => 91 | 2 => 2 | 168 => 127 | 53 => 112 | 175 => 125 | 46 => 119 | 210 => 143 | 127 => 85 | 145 => 153 | 143 => 151 | 21 => 21 | 171 => 111 | 173 => 115 | 212 => 132 | 51 => 133 | 20 => 20 | 213 => 134 | 232 => 154 | 233 => 155 | 80 => 71 | n => n, fun | 15 => 2 | 16 => 3 | 17 => 1 | 18 => 6 | 19 => 7 | n => n⟩
theorem Tryz.laysC172 : Go.Proofs.LaysC.n172 Tryz.prog Tryz.laysC172_ren := {
  mixed := by kernel_rfl
  f129 := Tryz.func95.trans (congrArg some (by kernel_rfl))
  f171 := Tryz.func32.trans (congrArg some (by kernel_rfl))
  f172 := Tryz.func83.trans (congrArg some (by kernel_rfl))
  f205 := Tryz.func109.trans (congrArg some (by kernel_rfl))
  f243 := Tryz.func46.trans (congrArg some (by kernel_rfl))
  f244 := Tryz.func101.trans (congrArg some (by kernel_rfl))
  f245 := Tryz.func71.trans (congrArg some (by kernel_rfl))
  f246 := Tryz.func61.trans (congrArg some (by kernel_rfl))
  f247 := Tryz.func70.trans (congrArg some (by kernel_rfl))
  f279 := Tryz.func89.trans (congrArg some (by kernel_rfl))
  f280 := Tryz.func90.trans (congrArg some (by kernel_rfl))
  f281 := Tryz.func91.trans (congrArg some (by kernel_rfl))
  f282 := Tryz.func92.trans (congrArg some (by kernel_rfl))
  f283 := Tryz.func75.trans (congrArg some (by kernel_rfl))
  f284 := Tryz.func76.trans (congrArg some (by kernel_rfl))
  f285 := Tryz.func77.trans (congrArg some (by kernel_rfl))
  f286 := Tryz.func78.trans (congrArg some (by kernel_rfl))
  f287 := Tryz.func88.trans (congrArg some (by kernel_rfl))
  f316 := Tryz.func108.trans (congrArg some (by kernel_rfl))
  f317 := Tryz.func94.trans (congrArg some (by kernel_rfl))
  f318 := Tryz.func96.trans (congrArg some (by kernel_rfl))
  f319 := Tryz.func97.trans (congrArg some (by kernel_rfl))
  f320 := Tryz.func98.trans (congrArg some (by kernel_rfl))
  f321 := Tryz.func106.trans (congrArg some (by kernel_rfl))
  f322 := Tryz.func107.trans (congrArg some (by kernel_rfl))
  f337 := Tryz.func110.trans (congrArg some (by kernel_rfl))
  f338 := Tryz.func111.trans (congrArg some (by kernel_rfl))
  t0 := Tryz.underlying0
  a0 := Tryz.isAgg0
  z0 := Tryz.sizeOf0
  v0 := Tryz.zeroValue0
  t2 := Tryz.underlying2
  a2 := Tryz.isAgg2
  z2 := Tryz.sizeOf2
  v2 := Tryz.zeroValue2
  t3 := Tryz.underlying3
  a3 := Tryz.isAgg3
  z3 := Tryz.sizeOf3
  v3 := Tryz.zeroValue3
  t4 := Tryz.underlying4
  a4 := Tryz.isAgg4
  z4 := Tryz.sizeOf4
  v4 := Tryz.zeroValue4
  t5 := Tryz.underlying5
  a5 := Tryz.isAgg5
  z5 := Tryz.sizeOf5
  v5 := Tryz.zeroValue5
  t9 := Tryz.underlying9
  a9 := Tryz.isAgg9
  z9 := Tryz.sizeOf9
  v9 := Tryz.zeroValue9
  t20 := Tryz.underlying20
  a20 := Tryz.isAgg20
  z20 := Tryz.sizeOf20
  v20 := Tryz.zeroValue20
  t21 := Tryz.underlying21
  a21 := Tryz.isAgg21
  z21 := Tryz.sizeOf21
  v21 := Tryz.zeroValue21
  t37 := Tryz.underlying22
  a37 := Tryz.isAgg22
  z37 := Tryz.sizeOf22
  v37 := Tryz.zeroValue22
  t46 := Tryz.underlying119
  a46 := Tryz.isAgg119
  z46 := Tryz.sizeOf119
  v46 := Tryz.zeroValue119
  t51 := Tryz.underlying133
  a51 := Tryz.isAgg133
  z51 := Tryz.sizeOf133
  v51 := Tryz.zeroValue133
  t53 := Tryz.underlying112
  a53 := Tryz.isAgg112
  z53 := Tryz.sizeOf112
  v53 := Tryz.zeroValue112
  t75 := Tryz.underlying67
  a75 := Tryz.isAgg67
  z75 := Tryz.sizeOf67
  v75 := Tryz.zeroValue67
  t76 := Tryz.underlying68
  a76 := Tryz.isAgg68
  z76 := Tryz.sizeOf68
  v76 := Tryz.zeroValue68
  t85 := Tryz.underlying91
  a85 := Tryz.isAgg91
  z85 := Tryz.sizeOf91
  v85 := Tryz.zeroValue91
  t127 := Tryz.underlying85
  a127 := Tryz.isAgg85
  z127 := Tryz.sizeOf85
  v127 := Tryz.zeroValue85
  t143 := Tryz.underlying151
  a143 := Tryz.isAgg151
  z143 := Tryz.sizeOf151
  v143 := Tryz.zeroValue151
  t145 := Tryz.underlying153
  a145 := Tryz.isAgg153
  z145 := Tryz.sizeOf153
  v145 := Tryz.zeroValue153
  t167 := Tryz.underlying124
  a167 := Tryz.isAgg124
  z167 := Tryz.sizeOf124
  v167 := Tryz.zeroValue124
  t168 := Tryz.underlying127
  a168 := Tryz.isAgg127
  z168 := Tryz.sizeOf127
  v168 := Tryz.zeroValue127
  t171 := Tryz.underlying111
  a171 := Tryz.isAgg111
  z171 := Tryz.sizeOf111
  v171 := Tryz.zeroValue111
  t173 := Tryz.underlying115
  a173 := Tryz.isAgg115
  z173 := Tryz.sizeOf115
  v173 := Tryz.zeroValue115
  t175 := Tryz.underlying125
  a175 := Tryz.isAgg125
  z175 := Tryz.sizeOf125
  v175 := Tryz.zeroValue125
  t210 := Tryz.underlying143
  a210 := Tryz.isAgg143
  z210 := Tryz.sizeOf143
  v210 := Tryz.zeroValue143
  t212 := Tryz.underlying132
  a212 := Tryz.isAgg132
  z212 := Tryz.sizeOf132
  v212 := Tryz.zeroValue132
  t213 := Tryz.underlying134
  a213 := Tryz.isAgg134
  z213 := Tryz.sizeOf134
  t232 := Tryz.underlying154
  a232 := Tryz.isAgg154
  z232 := Tryz.sizeOf154
  v232 := Tryz.zeroValue154
  t233 := Tryz.underlying155
  a233 := Tryz.isAgg155
  z233 := Tryz.sizeOf155
  v233 := Tryz.zeroValue155
  g15 := by kernel_rfl
  g16 := by kernel_rfl
  g17 := by kernel_rfl
  g18 := by kernel_rfl
  g19 := by kernel_rfl
  t80 := Tryz.underlying71
  a80 := Tryz.isAgg71
  z80 := Tryz.sizeOf71
  v80 := Tryz.zeroValue71
  i0 := by kernel_rfl
  i2 := by kernel_rfl
  i3 := by kernel_rfl
  i4 := by kernel_rfl
  i5 := by kernel_rfl
  i9 := by kernel_rfl
  i20 := by kernel_rfl
  i21 := by kernel_rfl
  i37 := by kernel_rfl
  i46 := by kernel_rfl
  i51 := by kernel_rfl
  i53 := by kernel_rfl
  i75 := by kernel_rfl
  i76 := by kernel_rfl
  i80 := by kernel_rfl
  i85 := by kernel_rfl
  i127 := by kernel_rfl
  i143 := by kernel_rfl
  i145 := by kernel_rfl
  i167 := by kernel_rfl
  i168 := by kernel_rfl
  i171 := by kernel_rfl
  i173 := by kernel_rfl
  i175 := by kernel_rfl
  i210 := by kernel_rfl
  i212 := by kernel_rfl
  i232 := by kernel_rfl
  i233 := by kernel_rfl
  m15 := by kernel_rfl
  m16 := by kernel_rfl
  m17 := by kernel_rfl
  m18 := by kernel_rfl
  m19 := by kernel_rfl
  c0 := by kernel_rfl
  c2 := by kernel_rfl
  c3 := by kernel_rfl
  c4 := by kernel_rfl
  c5 := by kernel_rfl
  c9 := by kernel_rfl
  c20 := by kernel_rfl
  c21 := by kernel_rfl
  c37 := by kernel_rfl
  c46 := by kernel_rfl
  c51 := by kernel_rfl
  c53 := by kernel_rfl
  c75 := by kernel_rfl
  c76 := by kernel_rfl
  c80 := by kernel_rfl
  c85 := by kernel_rfl
  c127 := by kernel_rfl
  c143 := by kernel_rfl
  c145 := by kernel_rfl
  c167 := by kernel_rfl
  c168 := by kernel_rfl
  c171 := by kernel_rfl
  c173 := by kernel_rfl
  c175 := by kernel_rfl
  c210 := by kernel_rfl
  c212 := by kernel_rfl
  c213 := by kernel_rfl
  c232 := by kernel_rfl
  c233 := by kernel_rfl }
def Tryz.laysC174_ren : Go.Shelf.Ren := ⟨fun | 174 => 52 | 247 => 70 | 245 => 71 | 287 => 88 | 279 => 89 | 280 => 90 | 281 => 91 | 282 => 92 | 321 => 106 | 322 => 107 | 316 => 108 | 171 => 32 | 205 => 109 | 243 => 46 | 246 => 61 | 283 => 75 | 284 => 76 | 285 => 77 | 286 => 78 | 129 => 95 | 317 => 94 | 318 => 96 | 319 => 97 | 320 => 98 | 337 => 110 | 338 => 111 | n => n, fun | 9 => 9 | 3 => 3 | 2 => 2 | 75 => 67 | 85 => 91 | 4 => 4 | 167 => 124 | 5 => 5 | 53 => 112 | 175 => 125 | 46 => 119 | 168 => 127 | 37 => 22 | 0 => 0 | 210 => 143 | 21 => 21 | 127 => 85 | 145 => 153 | 143 => 151 | 171 => 111 | 173 => 115 | 212 => 132 | 51 => 133 | 20 => 20 | 213 => 134 | 232 => 154 | 233 => 155 | 80 => 71 | n => n, fun | 15 => 2 | 16 => 3 | 17 => 1 | 18 => 6 | 19 => 7 | n => n⟩
theorem Tryz.laysC174 : Go.Proofs.LaysC.n174 Tryz.prog Tryz.laysC174_ren := {
  mixed := by kernel_rfl
  f129 := Tryz.func95.trans (congrArg some (by kernel_rfl))
  f171 := Tryz.func32.trans (congrArg some (by kernel_rfl))
  f174 := Tryz.func52.trans (congrArg some (by kernel_rfl))
  f205 := Tryz.func109.trans (congrArg some (by kernel_rfl))
  f243 := Tryz.func46.trans (congrArg some (by kernel_rfl))
  f245 := Tryz.func71.trans (congrArg some (by kernel_rfl))
  f246 := Tryz.func61.trans (congrArg some (by kernel_rfl))
  f247 := Tryz.func70.trans (congrArg some (by kernel_rfl))
  f279 := Tryz.func89.trans (congrArg some (by kernel_rfl))
  f280 := Tryz.func90.trans (congrArg some (by kernel_rfl))
  f281 := Tryz.func91.trans (congrArg some (by kernel_rfl))
  f282 := Tryz.func92.trans (congrArg some (by kernel_rfl))
  f283 := Tryz.func75.trans (congrArg some (by kernel_rfl))
  f284 := Tryz.func76.trans (congrArg some (by kernel_rfl))
  f285 := Tryz.func77.trans (congrArg some (by kernel_rfl))
  f286 := Tryz.func78.trans (congrArg some (by kernel_rfl))
  f287 := Tryz.func88.trans (congrArg some (by kernel_rfl))
  f316 := Tryz.func108.trans (congrArg some (by kernel_rfl))
  f317 := Tryz.func94.trans (congrArg some (by kernel_rfl))
  f318 := Tryz.func96.trans (congrArg some (by kernel_rfl))
  f319 := Tryz.func97.trans (congrArg some (by kernel_rfl))
  f320 := Tryz.func98.trans (congrArg some (by kernel_rfl))
  f321 := Tryz.func106.trans (congrArg some (by kernel_rfl))
  f322 := Tryz.func107.trans (congrArg some (by kernel_rfl))
  f337 := Tryz.func110.trans (congrArg some (by kernel_rfl))
  f338 := Tryz.func111.trans (congrArg some (by kernel_rfl))
  t0 := Tryz.underlying0
  a0 := Tryz.isAgg0
  z0 := Tryz.sizeOf0
  v0 := Tryz.zeroValue0
  t2 := Tryz.underlying2
  a2 := Tryz.isAgg2
  z2 := Tryz.sizeOf2
  v2 := Tryz.zeroValue2
  t3 := Tryz.underlying3
  a3 := Tryz.isAgg3
  z3 := Tryz.sizeOf3
  v3 := Tryz.zeroValue3
  t4 := Tryz.underlying4
  a4 := Tryz.isAgg4
  z4 := Tryz.sizeOf4
  v4 := Tryz.zeroValue4
  t5 := Tryz.underlying5
  a5 := Tryz.isAgg5
  z5 := Tryz.sizeOf5
  v5 := Tryz.zeroValue5
  t9 := Tryz.underlying9
  a9 := Tryz.isAgg9
  z9 := Tryz.sizeOf9
  v9 := Tryz.zeroValue9
  t20 := Tryz.underlying20
  a20 := Tryz.isAgg20
  z20 := Tryz.sizeOf20
  v20 := Tryz.zeroValue20
  t21 := Tryz.underlying21
  a21 := Tryz.isAgg21
  z21 := Tryz.sizeOf21
  v21 := Tryz.zeroValue21
  t37 := Tryz.underlying22
  a37 := Tryz.isAgg22
  z37 := Tryz.sizeOf22
  v37 := Tryz.zeroValue22
  t46 := Tryz.underlying119
  a46 := Tryz.isAgg119
  z46 := Tryz.sizeOf119
  v46 := Tryz.zeroValue119
  t51 := Tryz.underlying133
  a51 := Tryz.isAgg133
  z51 := Tryz.sizeOf133
  v51 := Tryz.zeroValue133
  t53 := Tryz.underlying112
  a53 := Tryz.isAgg112
  z53 := Tryz.sizeOf112
  v53 := Tryz.zeroValue112
  t75 := Tryz.underlying67
  a75 := Tryz.isAgg67
  z75 := Tryz.sizeOf67
  v75 := Tryz.zeroValue67
  t85 := Tryz.underlying91
  a85 := Tryz.isAgg91
  z85 := Tryz.sizeOf91
  v85 := Tryz.zeroValue91
  t127 := Tryz.underlying85
  a127 := Tryz.isAgg85
  z127 := Tryz.sizeOf85
  v127 := Tryz.zeroValue85
  t143 := Tryz.underlying151
  a143 := Tryz.isAgg151
  z143 := Tryz.sizeOf151
  v143 := Tryz.zeroValue151
  t145 := Tryz.underlying153
  a145 := Tryz.isAgg153
  z145 := Tryz.sizeOf153
  v145 := Tryz.zeroValue153
  t167 := Tryz.underlying124
  a167 := Tryz.isAgg124
  z167 := Tryz.sizeOf124
  v167 := Tryz.zeroValue124
  t168 := Tryz.underlying127
  a168 := Tryz.isAgg127
  z168 := Tryz.sizeOf127
  v168 := Tryz.zeroValue127
  t171 := Tryz.underlying111
  a171 := Tryz.isAgg111
  z171 := Tryz.sizeOf111
  v171 := Tryz.zeroValue111
  t173 := Tryz.underlying115
  a173 := Tryz.isAgg115
  z173 := Tryz.sizeOf115
  v173 := Tryz.zeroValue115
  t175 := Tryz.underlying125
  a175 := Tryz.isAgg125
  z175 := Tryz.sizeOf125
  v175 := Tryz.zeroValue125
  t210 := Tryz.underlying143
  a210 := Tryz.isAgg143
  z210 := Tryz.sizeOf143
  v210 := Tryz.zeroValue143
  t212 := Tryz.underlying132
  a212 := Tryz.isAgg132
  z212 := Tryz.sizeOf132
  v212 := Tryz.zeroValue132
  t213 := Tryz.underlying134
  a213 := Tryz.isAgg134
  z213 := Tryz.sizeOf134
  t232 := Tryz.underlying154
  a232 := Tryz.isAgg154
  z232 := Tryz.sizeOf154
  v232 := Tryz.zeroValue154
  t233 := Tryz.underlying155
  a233 := Tryz.isAgg155
  z233 := Tryz.sizeOf155
  v233 := Tryz.zeroValue155
  g15 := by kernel_rfl
  g16 := by kernel_rfl
  g17 := by kernel_rfl
  g18 := by kernel_rfl
  g19 := by kernel_rfl
  t80 := Tryz.underlying71
  a80 := Tryz.isAgg71
  z80 := Tryz.sizeOf71
  v80 := Tryz.zeroValue71
  i0 := by kernel_rfl
  i2 := by kernel_rfl
  i3 := by kernel_rfl
  i4 := by kernel_rfl
  i5 := by kernel_rfl
  i9 := by kernel_rfl
  i20 := by kernel_rfl
  i21 := by kernel_rfl
  i37 := by kernel_rfl
  i46 := by kernel_rfl
  i51 := by kernel_rfl
  i53 := by kernel_rfl
  i75 := by kernel_rfl
  i80 := by kernel_rfl
  i85 := by kernel_rfl
  i127 := by kernel_rfl
  i143 := by kernel_rfl
  i145 := by kernel_rfl
  i167 := by kernel_rfl
  i168 := by kernel_rfl
  i171 := by kernel_rfl
  i173 := by kernel_rfl
  i175 := by kernel_rfl
  i210 := by kernel_rfl
  i212 := by kernel_rfl
  i232 := by kernel_rfl
  i233 := by kernel_rfl
  m15 := by kernel_rfl
  m16 := by kernel_rfl
  m17 := by kernel_rfl
  m18 := by kernel_rfl
  m19 := by kernel_rfl
  c0 := by kernel_rfl
  c2 := by kernel_rfl
  c3 := by kernel_rfl
  c4 := by kernel_rfl
  c5 := by kernel_rfl
  c9 := by kernel_rfl
  c20 := by kernel_rfl
  c21 := by kernel_rfl
  c37 := by kernel_rfl
  c46 := by kernel_rfl
  c51 := by kernel_rfl
  c53 := by kernel_rfl
  c75 := by kernel_rfl
  c80 := by kernel_rfl
  c85 := by kernel_rfl
  c127 := by kernel_rfl
  c143 := by kernel_rfl
  c145 := by kernel_rfl
  c167 := by kernel_rfl
  c168 := by kernel_rfl
  c171 := by kernel_rfl
  c173 := by kernel_rfl
  c175 := by kernel_rfl
  c210 := by kernel_rfl
  c212 := by kernel_rfl
  c213 := by kernel_rfl
  c232 := by kernel_rfl
  c233 := by kernel_rfl }
def Tryz.laysM171_ren : Go.Shelf.Ren := ⟨fun | 171 => 32 | 243 => 46 | 246 => 61 | 283 => 75 | 284 => 76 | 285 => 77 | 286 => 78 | 129 => 95 | 317 => 94 | 318 => 96 | 319 => 97 | 320 => 98 | 337 => 110 | 338 => 111 | n => n, fun | 3 => 3 | 9 => 9 | 2 => 2 | 4 => 4 | 171 => 111 | 0 => 0 | 53 => 112 | 37 => 22 | 5 => 5 | 173 => 115 | 212 => 132 | 51 => 133 | 20 => 20 | 213 => 134 | 46 => 119 | 232 => 154 | 233 => 155 | n => n, fun | 17 => 1 | 18 => 6 | 19 => 7 | n => n⟩
theorem Tryz.laysM171 : Go.Proofs.LaysM.n171 Tryz.prog Tryz.laysM171_ren := {
  mixed := by kernel_rfl
  f129 := Tryz.func95.trans (congrArg some (by kernel_rfl))
  f171 := Tryz.func32.trans (congrArg some (by kernel_rfl))
  f243 := Tryz.func46.trans (congrArg some (by kernel_rfl))
  f246 := Tryz.func61.trans (congrArg some (by kernel_rfl))
  f283 := Tryz.func75.trans (congrArg some (by kernel_rfl))
  f284 := Tryz.func76.trans (congrArg some (by kernel_rfl))
  f285 := Tryz.func77.trans (congrArg some (by kernel_rfl))
  f286 := Tryz.func78.trans (congrArg some (by kernel_rfl))
  f317 := Tryz.func94.trans (congrArg some (by kernel_rfl))
  f318 := Tryz.func96.trans (congrArg some (by kernel_rfl))
  f319 := Tryz.func97.trans (congrArg some (by kernel_rfl))
  f320 := Tryz.func98.trans (congrArg some (by kernel_rfl))
  f337 := Tryz.func110.trans (congrArg some (by kernel_rfl))
  f338 := Tryz.func111.trans (congrArg some (by kernel_rfl))
  t0 := Tryz.underlying0
  a0 := Tryz.isAgg0
  z0 := Tryz.sizeOf0
  v0 := Tryz.zeroValue0
  t2 := Tryz.underlying2
  a2 := Tryz.isAgg2
  z2 := Tryz.sizeOf2
  v2 := Tryz.zeroValue2
  t3 := Tryz.underlying3
  a3 := Tryz.isAgg3
  z3 := Tryz.sizeOf3
  v3 := Tryz.zeroValue3
  t4 := Tryz.underlying4
  a4 := Tryz.isAgg4
  z4 := Tryz.sizeOf4
  v4 := Tryz.zeroValue4
  t5 := Tryz.underlying5
  a5 := Tryz.isAgg5
  z5 := Tryz.sizeOf5
  v5 := Tryz.zeroValue5
  t9 := Tryz.underlying9
  a9 := Tryz.isAgg9
  z9 := Tryz.sizeOf9
  v9 := Tryz.zeroValue9
  t20 := Tryz.underlying20
  a20 := Tryz.isAgg20
  z20 := Tryz.sizeOf20
  v20 := Tryz.zeroValue20
  t37 := Tryz.underlying22
  a37 := Tryz.isAgg22
  z37 := Tryz.sizeOf22
  v37 := Tryz.zeroValue22
  t46 := Tryz.underlying119
  a46 := Tryz.isAgg119
  z46 := Tryz.sizeOf119
  v46 := Tryz.zeroValue119
  t51 := Tryz.underlying133
  a51 := Tryz.isAgg133
  z51 := Tryz.sizeOf133
  v51 := Tryz.zeroValue133
  t53 := Tryz.underlying112
  a53 := Tryz.isAgg112
  z53 := Tryz.sizeOf112
  v53 := Tryz.zeroValue112
  t171 := Tryz.underlying111
  a171 := Tryz.isAgg111
  z171 := Tryz.sizeOf111
  v171 := Tryz.zeroValue111
  t173 := Tryz.underlying115
  a173 := Tryz.isAgg115
  z173 := Tryz.sizeOf115
  v173 := Tryz.zeroValue115
  t212 := Tryz.underlying132
  a212 := Tryz.isAgg132
  z212 := Tryz.sizeOf132
  v212 := Tryz.zeroValue132
  t213 := Tryz.underlying134
  a213 := Tryz.isAgg134
  z213 := Tryz.sizeOf134
  t232 := Tryz.underlying154
  a232 := Tryz.isAgg154
  z232 := Tryz.sizeOf154
  v232 := Tryz.zeroValue154
  t233 := Tryz.underlying155
  a233 := Tryz.isAgg155
  z233 := Tryz.sizeOf155
  v233 := Tryz.zeroValue155
  g17 := by kernel_rfl
  g18 := by kernel_rfl
  g19 := by kernel_rfl
  i0 := by kernel_rfl
  i2 := by kernel_rfl
  i3 := by kernel_rfl
  i4 := by kernel_rfl
  i5 := by kernel_rfl
  i9 := by kernel_rfl
  i20 := by kernel_rfl
  i37 := by kernel_rfl
  i46 := by kernel_rfl
  i51 := by kernel_rfl
  i53 := by kernel_rfl
  i171 := by kernel_rfl
  i173 := by kernel_rfl
  i212 := by kernel_rfl
  i232 := by kernel_rfl
  i233 := by kernel_rfl
  m17 := by kernel_rfl
  m18 := by kernel_rfl
  m19 := by kernel_rfl }
def Tryz.laysM173_ren : Go.Shelf.Ren := ⟨fun | 173 => 53 | 246 => 61 | 283 => 75 | 284 => 76 | 285 => 77 | 286 => 78 | 129 => 95 | 317 => 94 | 318 => 96 | 319 => 97 | 320 => 98 | 337 => 110 | 338 => 111 | n => n, fun | 2 => 2 | 3 => 3 | 9 => 9 | 4 => 4 | 171 => 111 | 0 => 0 | 53 => 112 | 37 => 22 | 5 => 5 | 173 => 115 | 212 => 132 | 51 => 133 | 20 => 20 | 213 => 134 | 46 => 119 | 232 => 154 | 233 => 155 | n => n, fun | 17 => 1 | 18 => 6 | 19 => 7 | n => n⟩
theorem Tryz.laysM173 : Go.Proofs.LaysM.n173 Tryz.prog Tryz.laysM173_ren := {
  mixed := by kernel_rfl
  f129 := Tryz.func95.trans (congrArg some (by kernel_rfl))
  f173 := Tryz.func53.trans (congrArg some (by kernel_rfl))
  f246 := Tryz.func61.trans (congrArg some (by kernel_rfl))
  f283 := Tryz.func75.trans (congrArg some (by kernel_rfl))
  f284 := Tryz.func76.trans (congrArg some (by kernel_rfl))
  f285 := Tryz.func77.trans (congrArg some (by kernel_rfl))
  f286 := Tryz.func78.trans (congrArg some (by kernel_rfl))
  f317 := Tryz.func94.trans (congrArg some (by kernel_rfl))
  f318 := Tryz.func96.trans (congrArg some (by kernel_rfl))
  f319 := Tryz.func97.trans (congrArg some (by kernel_rfl))
  f320 := Tryz.func98.trans (congrArg some (by kernel_rfl))
  f337 := Tryz.func110.trans (congrArg some (by kernel_rfl))
  f338 := Tryz.func111.trans (congrArg some (by kernel_rfl))
  t0 := Tryz.underlying0
  a0 := Tryz.isAgg0
  z0 := Tryz.sizeOf0
  v0 := Tryz.zeroValue0
  t2 := Tryz.underlying2
  a2 := Tryz.isAgg2
  z2 := Tryz.sizeOf2
  v2 := Tryz.zeroValue2
  t3 := Tryz.underlying3
  a3 := Tryz.isAgg3
  z3 := Tryz.sizeOf3
  v3 := Tryz.zeroValue3
  t4 := Tryz.underlying4
  a4 := Tryz.isAgg4
  z4 := Tryz.sizeOf4
  v4 := Tryz.zeroValue4
  t5 := Tryz.underlying5
  a5 := Tryz.isAgg5
  z5 := Tryz.sizeOf5
  v5 := Tryz.zeroValue5
  t9 := Tryz.underlying9
  a9 := Tryz.isAgg9
  z9 := Tryz.sizeOf9
  v9 := Tryz.zeroValue9
  t20 := Tryz.underlying20
  a20 := Tryz.isAgg20
  z20 := Tryz.sizeOf20
  v20 := Tryz.zeroValue20
  t37 := Tryz.underlying22
  a37 := Tryz.isAgg22
  z37 := Tryz.sizeOf22
  v37 := Tryz.zeroValue22
  t46 := Tryz.underlying119
  a46 := Tryz.isAgg119
  z46 := Tryz.sizeOf119
  v46 := Tryz.zeroValue119
  t51 := Tryz.underlying133
  a51 := Tryz.isAgg133
  z51 := Tryz.sizeOf133
  v51 := Tryz.zeroValue133
  t53 := Tryz.underlying112
  a53 := Tryz.isAgg112
  z53 := Tryz.sizeOf112
  v53 := Tryz.zeroValue112
  t171 := Tryz.underlying111
  a171 := Tryz.isAgg111
  z171 := Tryz.sizeOf111
  v171 := Tryz.zeroValue111
  t173 := Tryz.underlying115
  a173 := Tryz.isAgg115
  z173 := Tryz.sizeOf115
  v173 := Tryz.zeroValue115
  t212 := Tryz.underlying132
  a212 := Tryz.isAgg132
  z212 := Tryz.sizeOf132
  v212 := Tryz.zeroValue132
  t213 := Tryz.underlying134
  a213 := Tryz.isAgg134
  z213 := Tryz.sizeOf134
  t232 := Tryz.underlying154
  a232 := Tryz.isAgg154
  z232 := Tryz.sizeOf154
  v232 := Tryz.zeroValue154
  t233 := Tryz.underlying155
  a233 := Tryz.isAgg155
  z233 := Tryz.sizeOf155
  v233 := Tryz.zeroValue155
  g17 := by kernel_rfl
  g18 := by kernel_rfl
  g19 := by kernel_rfl
  i0 := by kernel_rfl
  i2 := by kernel_rfl
  i3 := by kernel_rfl
  i4 := by kernel_rfl
  i5 := by kernel_rfl
  i9 := by kernel_rfl
  i20 := by kernel_rfl
  i37 := by kernel_rfl
  i46 := by kernel_rfl
  i51 := by kernel_rfl
  i53 := by kernel_rfl
  i171 := by kernel_rfl
  i173 := by kernel_rfl
  i212 := by kernel_rfl
  i232 := by kernel_rfl
  i233 := by kernel_rfl
  m17 := by kernel_rfl
  m18 := by kernel_rfl
  m19 := by kernel_rfl }
def Tryz.lays146_ren : Go.Shelf.Ren := ⟨fun | 146 => 63 | 221 => 49 | 268 => 66 | 138 => 67 | 143 => 68 | 195 => 84 | 197 => 85 | 218 => 86 | 219 => 87 | 260 => 102 | 217 => 103 | 225 => 104 | 224 => 81 | 267 => 105 | 266 => 112 | 314 => 113 | n => n, fun | 9 => 9 | 31 => 78 | 3 => 3 | 4 => 4 | 0 => 0 | 105 => 121 | 21 => 21 | 5 => 5 | 46 => 119 | 119 => 146 | 139 => 149 | 138 => 148 | 146 => 137 | 51 => 133 | n => n, fun | 1 => 0 | 3 => 4 | 4 => 5 | n => n⟩
theorem Tryz.lays146 : Go.Proofs.Lays.n146 Tryz.prog Tryz.lays146_ren := {
  mixed := by kernel_rfl
  f138 := Tryz.func67.trans (congrArg some (by kernel_rfl))
  f143 := Tryz.func68.trans (congrArg some (by kernel_rfl))
  f146 := Tryz.func63.trans (congrArg some (by kernel_rfl))
  f195 := Tryz.func84.trans (congrArg some (by kernel_rfl))
  f197 := Tryz.func85.trans (congrArg some (by kernel_rfl))
  f217 := Tryz.func103.trans (congrArg some (by kernel_rfl))
  f218 := Tryz.func86.trans (congrArg some (by kernel_rfl))
  f219 := Tryz.func87.trans (congrArg some (by kernel_rfl))
  f221 := Tryz.func49.trans (congrArg some (by kernel_rfl))
  f224 := Tryz.func81.trans (congrArg some (by kernel_rfl))
  f225 := Tryz.func104.trans (congrArg some (by kernel_rfl))
  f260 := Tryz.func102.trans (congrArg some (by kernel_rfl))
  f266 := Tryz.func112.trans (congrArg some (by kernel_rfl))
  f267 := Tryz.func105.trans (congrArg some (by kernel_rfl))
  f268 := Tryz.func66.trans (congrArg some (by kernel_rfl))
  f314 := Tryz.func113.trans (congrArg some (by kernel_rfl))
  t0 := Tryz.underlying0
  a0 := Tryz.isAgg0
  z0 := Tryz.sizeOf0
  v0 := Tryz.zeroValue0
  t3 := Tryz.underlying3
  a3 := Tryz.isAgg3
  z3 := Tryz.sizeOf3
  v3 := Tryz.zeroValue3
  t4 := Tryz.underlying4
  a4 := Tryz.isAgg4
  z4 := Tryz.sizeOf4
  v4 := Tryz.zeroValue4
  t5 := Tryz.underlying5
  a5 := Tryz.isAgg5
  z5 := Tryz.sizeOf5
  v5 := Tryz.zeroValue5
  t9 := Tryz.underlying9
  a9 := Tryz.isAgg9
  z9 := Tryz.sizeOf9
  v9 := Tryz.zeroValue9
  t21 := Tryz.underlying21
  a21 := Tryz.isAgg21
  z21 := Tryz.sizeOf21
  v21 := Tryz.zeroValue21
  t31 := Tryz.underlying78
  a31 := Tryz.isAgg78
  z31 := Tryz.sizeOf78
  v31 := Tryz.zeroValue78
  t46 := Tryz.underlying119
  a46 := Tryz.isAgg119
  z46 := Tryz.sizeOf119
  v46 := Tryz.zeroValue119
  t51 := Tryz.underlying133
  a51 := Tryz.isAgg133
  z51 := Tryz.sizeOf133
  v51 := Tryz.zeroValue133
  t105 := Tryz.underlying121
  a105 := Tryz.isAgg121
  z105 := Tryz.sizeOf121
  v105 := Tryz.zeroValue121
  t119 := Tryz.underlying146
  a119 := Tryz.isAgg146
  z119 := Tryz.sizeOf146
  t138 := Tryz.underlying148
  a138 := Tryz.isAgg148
  z138 := Tryz.sizeOf148
  v138 := Tryz.zeroValue148
  t139 := Tryz.underlying149
  a139 := Tryz.isAgg149
  z139 := Tryz.sizeOf149
  v139 := Tryz.zeroValue149
  t146 := Tryz.underlying137
  a146 := Tryz.isAgg137
  z146 := Tryz.sizeOf137
  v146 := Tryz.zeroValue137
  g1 := by kernel_rfl
  g3 := by kernel_rfl
  g4 := by kernel_rfl }
def Tryz.lays145_ren : Go.Shelf.Ren := ⟨fun | 145 => 51 | 220 => 69 | 219 => 87 | 217 => 103 | 225 => 104 | 224 => 81 | 267 => 105 | 266 => 112 | 314 => 113 | n => n, fun | 9 => 9 | 4 => 4 | 59 => 89 | 3 => 3 | 5 => 5 | 46 => 119 | 146 => 137 | 51 => 133 | n => n, fun | 1 => 0 | n => n⟩
theorem Tryz.lays145 : Go.Proofs.Lays.n145 Tryz.prog Tryz.lays145_ren := {
  mixed := by kernel_rfl
  f145 := Tryz.func51.trans (congrArg some (by kernel_rfl))
  f217 := Tryz.func103.trans (congrArg some (by kernel_rfl))
  f219 := Tryz.func87.trans (congrArg some (by kernel_rfl))
  f220 := Tryz.func69.trans (congrArg some (by kernel_rfl))
  f224 := Tryz.func81.trans (congrArg some (by kernel_rfl))
  f225 := Tryz.func104.trans (congrArg some (by kernel_rfl))
  f266 := Tryz.func112.trans (congrArg some (by kernel_rfl))
  f267 := Tryz.func105.trans (congrArg some (by kernel_rfl))
  f314 := Tryz.func113.trans (congrArg some (by kernel_rfl))
  t3 := Tryz.underlying3
  a3 := Tryz.isAgg3
  z3 := Tryz.sizeOf3
  v3 := Tryz.zeroValue3
  t4 := Tryz.underlying4
  a4 := Tryz.isAgg4
  z4 := Tryz.sizeOf4
  v4 := Tryz.zeroValue4
  t5 := Tryz.underlying5
  a5 := Tryz.isAgg5
  z5 := Tryz.sizeOf5
  v5 := Tryz.zeroValue5
  t9 := Tryz.underlying9
  a9 := Tryz.isAgg9
  z9 := Tryz.sizeOf9
  v9 := Tryz.zeroValue9
  t46 := Tryz.underlying119
  a46 := Tryz.isAgg119
  z46 := Tryz.sizeOf119
  v46 := Tryz.zeroValue119
  t51 := Tryz.underlying133
  a51 := Tryz.isAgg133
  z51 := Tryz.sizeOf133
  v51 := Tryz.zeroValue133
  t59 := Tryz.underlying89
  a59 := Tryz.isAgg89
  z59 := Tryz.sizeOf89
  v59 := Tryz.zeroValue89
  t146 := Tryz.underlying137
  a146 := Tryz.isAgg137
  z146 := Tryz.sizeOf137
  v146 := Tryz.zeroValue137
  g1 := by kernel_rfl }
end Go.Proofs

/- Plain facts on texts: words with blanks between them, decimal numbers written and read. -/
namespace Orangery
open Go.Lib (itoa decDigits parseIntB parseUintM parseUintB NumEnd cut index)

/-- the words of a text -/
def wordsB : List UInt8 → List (List UInt8)
  | [] => [[]]
  | c :: r => if c = 32 then [] :: wordsB r else ((wordsB r).headD [] |>.cons c) :: (wordsB r).tail
theorem wordsB_ne (s : List UInt8) : wordsB s ≠ [] := by cases s with
  | nil => simp [wordsB]
  | cons c r => unfold wordsB; split <;> simp
theorem wordsB_split (s : List UInt8) : wordsB s = (wordsB s).headD [] :: (wordsB s).tail := by
  cases h : wordsB s with
  | nil => exact absurd h (wordsB_ne s)
  | cons a l => rfl

theorem index_blank_nil : index [] [32] = -1 := rfl
theorem index_blank (c : UInt8) (r : List UInt8) : index (c :: r) [32] = if c = 32 then 0 else if index r [32] = -1 then -1 else index r [32] + 1 := by
  have e : index (c :: r) [32] = if List.isPrefixOf [32] (c :: r) then 0 else if index r [32] == -1 then -1 else index r [32] + 1 := rfl
  rw [e]
  by_cases h : c = 32
  · subst h; simp [List.isPrefixOf]
  · have h2 : (32 == c) = false := by simp; exact fun e => h e.symm
    simp [List.isPrefixOf, h, h2]

/-- strings.Cut at a blank: the first word, the others -/
theorem cut_blank (s : List UInt8) : (cut s [32]).1 = (wordsB s).headD [] ∧ (wordsB s).tail = if (cut s [32]).2.2 = true then wordsB (cut s [32]).2.1 else [] := by
  induction s with
  | nil => decide
  | cons c r ih =>
    unfold cut at ih ⊢
    rw [index_blank]
    by_cases h : c = 32
    · subst h
      simp [wordsB]
    · rw [if_neg h]
      have hw : wordsB (c :: r) = ((wordsB r).headD [] |>.cons c) :: (wordsB r).tail := by
        conv => lhs; unfold wordsB
        rw [if_neg h]
      rw [hw]
      have hge := Go.Lib.index_ge r [32]
      by_cases h2 : index r [32] = -1
      · rw [h2] at ih ⊢
        simp at ih ⊢
        exact ih
      · have h3 : 0 ≤ index r [32] := by omega
        have h4 : 0 ≤ index r [32] + 1 := by omega
        have h5 : (index r [32] + 1).toNat = (index r [32]).toNat + 1 := by omega
        rw [if_pos h3] at ih
        rw [if_neg h2, if_pos h4, h5]
        simp only [List.headD_cons, List.tail_cons]
        have e1 : List.take ((index r [32]).toNat + 1) (c :: r) = c :: List.take (index r [32]).toNat r := rfl
        have e2 : List.drop ((index r [32]).toNat + 1 + [(32 : UInt8)].length) (c :: r) = List.drop ((index r [32]).toNat + [(32 : UInt8)].length) r := by
          rw [show (index r [32]).toNat + 1 + [(32 : UInt8)].length = ((index r [32]).toNat + [(32 : UInt8)].length) + 1 by simp]
          rfl
        rw [e1, e2]
        exact ⟨congrArg (c :: ·) ih.1, ih.2⟩

def glue (ws : List (List UInt8)) : List UInt8 := Go.Lib.join ws [32]
theorem glue_one (x : List UInt8) : glue [x] = x := Go.Lib.join_one x [32]
theorem glue_cons (x y : List UInt8) (ws : List (List UInt8)) : glue (x :: y :: ws) = x ++ 32 :: glue (y :: ws) := by
  unfold glue
  rw [Go.Lib.join_cons, Go.Lib.join_cons]
  simp [Go.Lib.joinTail]
theorem glue_words (s : List UInt8) : glue (wordsB s) = s := by
  induction s with
  | nil => rfl
  | cons c r ih =>
    unfold wordsB
    rw [wordsB_split r] at ih ⊢
    generalize (wordsB r).headD [] = x at *
    generalize (wordsB r).tail = l at *
    by_cases h : c = 32
    · rw [if_pos h, glue_cons, ih, h]; rfl
    · rw [if_neg h]
      simp only [List.headD_cons, List.tail_cons]
      cases l with
      | nil => rw [glue_one] at ih ⊢; rw [ih]
      | cons y l => rw [glue_cons] at ih ⊢; rw [← ih]; rfl
theorem words_one (x : List UInt8) (hx : ∀ c ∈ x, c ≠ 32) : wordsB x = [x] := by
  induction x with
  | nil => rfl
  | cons c r ih =>
    unfold wordsB
    rw [ih (fun d hd => hx d (by simp [hd])), if_neg (hx c (by simp))]
    rfl
theorem words_app (x : List UInt8) (hx : ∀ c ∈ x, c ≠ 32) (s : List UInt8) : wordsB (x ++ 32 :: s) = x :: wordsB s := by
  induction x with
  | nil => simp [wordsB]
  | cons c r ih =>
    rw [List.cons_append]
    conv => lhs; unfold wordsB
    rw [ih (fun d hd => hx d (by simp [hd])), if_neg (hx c (by simp))]
    rfl
theorem words_glue (ws : List (List UInt8)) (hn : ws ≠ []) (h : ∀ x ∈ ws, ∀ c ∈ x, c ≠ 32) : wordsB (glue ws) = ws := by
  induction ws with
  | nil => exact absurd rfl hn
  | cons x l ih =>
    cases l with
    | nil => rw [glue_one, words_one x (h x (by simp))]
    | cons y l =>
      rw [glue_cons, words_app x (h x (by simp)), ih (by simp) (fun z hz => h z (by simp [hz]))]

/-! numbers -/
theorem digits_small {u : Nat} (h : u < 10) : decDigits u = [UInt8.ofNat (48 + u)] := Go.Lib.decDigits_one h
theorem digits_big {u : Nat} (h : ¬ u < 10) : decDigits u = decDigits (u / 10) ++ [UInt8.ofNat (48 + u % 10)] := by rw [decDigits, dif_neg h]
theorem digit_nat {d : Nat} (h : d < 10) : (UInt8.ofNat (48 + d)).toNat = 48 + d := by
  rw [UInt8.toNat_ofNat']
  omega
theorem digits_all (u : Nat) : ∀ c ∈ decDigits u, 48 ≤ c.toNat ∧ c.toNat ≤ 57 := by
  induction u using Nat.strongRecOn with
  | _ u ih =>
    intro c hc
    by_cases h : u < 10
    · rw [digits_small h] at hc
      obtain rfl := List.mem_singleton.1 hc
      rw [digit_nat h]
      omega
    · rw [digits_big h] at hc
      rcases List.mem_append.1 hc with hc | hc
      · exact ih (u / 10) (by omega) c hc
      · obtain rfl := List.mem_singleton.1 hc
        rw [digit_nat (Nat.mod_lt _ (by omega))]
        omega
theorem digits_ne (u : Nat) : decDigits u ≠ [] := by
  by_cases h : u < 10
  · rw [digits_small h]; simp
  · rw [digits_big h]; simp
theorem itoa_blank (n : Int) : ∀ c ∈ itoa n, c ≠ 32 := by
  intro c hc e
  subst e
  unfold itoa at hc
  split at hc
  · simp at hc
    have := digits_all _ _ hc
    simp at this
  · have := digits_all _ _ hc
    simp at this

theorem parse_app (M : Nat) (l : List UInt8) (c : UInt8) : ∀ acc a, parseUintM M acc l = .ok a → parseUintM M acc (l ++ [c]) = parseUintM M a [c] := by
  induction l with
  | nil =>
    intro acc a h
    have : acc = a := by simpa [parseUintM] using h
    subst this
    rfl
  | cons d r ih =>
    intro acc a h
    rw [List.cons_append]
    unfold parseUintM at h ⊢
    split at h
    · rename_i h1
      rw [if_pos h1]
      split at h
      · simp at h
      · rename_i h2
        rw [if_neg h2]
        split at h
        · simp at h
        · rename_i h3
          rw [if_neg h3]
          exact ih _ _ h
    · simp at h
theorem parse_digits (u : Nat) (h : u ≤ 18446744073709551615) : parseUintM 18446744073709551615 0 (decDigits u) = .ok u := by
  induction u using Nat.strongRecOn with
  | _ u ih =>
    by_cases hu : u < 10
    · rw [digits_small hu]
      unfold parseUintM
      rw [digit_nat hu, if_pos (by omega), if_neg (by omega), if_neg (by omega)]
      unfold parseUintM
      congr 1
      omega
    · have h1 := ih (u / 10) (by omega) (by omega)
      rw [digits_big hu, parse_app _ _ _ _ _ h1]
      unfold parseUintM
      have hm : u % 10 < 10 := Nat.mod_lt _ (by omega)
      rw [digit_nat hm, if_pos (by omega), if_neg (by omega), if_neg (by omega)]
      unfold parseUintM
      congr 1
      omega
theorem parse_itoa (n : Int) (h0 : -9223372036854775808 ≤ n) (h1 : n ≤ 9223372036854775807) : parseIntB 64 (itoa n) = .ok n := by
  unfold itoa
  by_cases hn : n < 0
  · rw [if_pos hn]
    have hp := parse_digits n.natAbs (by omega)
    have hu : parseUintB 64 (decDigits n.natAbs) = .ok n.natAbs := by
      unfold parseUintB
      rw [if_neg (digits_ne _)]
      exact hp
    unfold parseIntB
    simp only [show (45 : UInt8).toNat = 45 from rfl, or_true, if_true, hu]
    rw [if_neg (by simp), if_neg (by simp; omega)]
    congr 1
    omega
  · rw [if_neg hn]
    have hp := parse_digits n.toNat (by omega)
    have ha := digits_all n.toNat
    cases hd : decDigits n.toNat with
    | nil => exact absurd hd (digits_ne _)
    | cons c r =>
      rw [hd] at hp ha
      have hc := ha c (by simp)
      have hu : parseUintB 64 (c :: r) = .ok n.toNat := by
        unfold parseUintB
        rw [if_neg (by simp)]
        exact hp
      unfold parseIntB
      simp only
      rw [if_neg (by omega), hu]
      simp only
      rw [if_neg (by omega), if_neg (by omega), if_neg (by omega)]
      congr 1
      omega

/-- a number as it is written: none where it is written otherwise -/
def numOf (t : List UInt8) : Option Int := match parseIntB 64 t with
  | .ok v => if itoa v = t then some v else none
  | _ => none
theorem numOf_itoa (n : Int) (h0 : -9223372036854775808 ≤ n) (h1 : n ≤ 9223372036854775807) : numOf (itoa n) = some n := by
  unfold numOf
  rw [parse_itoa n h0 h1]
  simp
theorem numOf_some {t : List UInt8} {v : Int} (h : numOf t = some v) : itoa v = t := by
  unfold numOf at h
  split at h
  · split at h
    · rename_i h1; simp at h; rw [← h]; exact h1
    · simp at h
  · simp at h
theorem itoa_inj {m n : Int} (m0 : -9223372036854775808 ≤ m) (m1 : m ≤ 9223372036854775807) (n0 : -9223372036854775808 ≤ n) (n1 : n ≤ 9223372036854775807) (h : itoa m = itoa n) : m = n := by
  have e1 := numOf_itoa m m0 m1
  have e2 := numOf_itoa n n0 n1
  rw [h, e2] at e1
  simpa using e1.symm

/-- all numbers, or none -/
def numsOf : List (List UInt8) → Option (List Int)
  | [] => some []
  | t :: l => match numOf t with
    | none => none
    | some v => (numsOf l).map (v :: ·)
theorem numsOf_map (l : List Int) (h : ∀ n ∈ l, -9223372036854775808 ≤ n ∧ n ≤ 9223372036854775807) : numsOf (l.map itoa) = some l := by
  induction l with
  | nil => rfl
  | cons n l ih =>
    rw [List.map_cons]
    unfold numsOf
    rw [numOf_itoa n (h n (by simp)).1 (h n (by simp)).2, ih (fun m hm => h m (by simp [hm]))]
    rfl
theorem numsOf_some (ws : List (List UInt8)) : ∀ l, numsOf ws = some l → ws = l.map itoa := by
  induction ws with
  | nil => intro l h; simp [numsOf] at h; rw [h]; rfl
  | cons t ws ih =>
    intro l h
    unfold numsOf at h
    split at h
    · simp at h
    · rename_i v hv
      rw [Option.map_eq_some_iff] at h
      obtain ⟨l', h1, rfl⟩ := h
      rw [List.map_cons, ← ih l' h1, numOf_some hv]
end Orangery

/- Plain functions and facts on trees as lists of places; nothing of the program is named here. -/
namespace Orangery

/-- a place: node, parent, name -/
abbrev Pl := Int × Int × Int

def find (l : List Pl) (n : Int) : Pl := (l.find? (fun p => p.1 == n)).getD (0, 0, 0)

theorem find_nil (n : Int) : find [] n = (0, 0, 0) := rfl
theorem find_cons (p : Pl) (l : List Pl) (n : Int) : find (p :: l) n = if p.1 = n then p else find l n := by
  unfold find
  by_cases h : p.1 = n <;> simp [h]

theorem find_drop (l : List Pl) (n : Int) (k : Nat) (h : k < l.length) (hf : find (l.drop k) n = find l n) :
    (l[k].1 = n → find l n = l[k]) ∧ (l[k].1 ≠ n → find (l.drop (k + 1)) n = find l n) := by
  rw [List.drop_eq_getElem_cons h, find_cons] at hf
  constructor
  · intro e; rw [if_pos e] at hf; exact hf.symm
  · intro e; rw [if_neg e] at hf; exact hf
def isNodeB (n : Int) : Bool := decide (0 ≤ n ∧ n ≤ 16)
def inRangeB (p : Pl) : Bool := decide (1 ≤ p.1 ∧ p.1 < 16 ∧ 0 ≤ p.2.1 ∧ p.2.1 ≤ 16 ∧ 0 ≤ p.2.2 ∧ p.2.2 ≤ 99)

/-- from one parent to the next one, at most so many steps -/
def meetsN (l : List Pl) (f : Int → Bool) : Nat → Int → Bool
  | 0, _ => false
  | k + 1, n => if (find l n).1 = 0 then false else if f (find l n).2.1 = true then true else meetsN l f k (find l n).2.1
theorem meetsN_step (l : List Pl) (f : Int → Bool) (k : Nat) (n : Int) (h : k < l.length) :
    ((find l n).1 = 0 → meetsN l f (l.length - k) n = false) ∧
    ((find l n).1 ≠ 0 → f (find l n).2.1 = true → meetsN l f (l.length - k) n = true) ∧
    ((find l n).1 ≠ 0 → f (find l n).2.1 = false → meetsN l f (l.length - k) n = meetsN l f (l.length - (k + 1)) (find l n).2.1) := by
  obtain ⟨j, hj⟩ : ∃ j, l.length - k = j + 1 := ⟨l.length - k - 1, by omega⟩
  have hj' : l.length - (k + 1) = j := by omega
  rw [hj, hj']
  refine ⟨fun h1 => ?_, fun h1 h2 => ?_, fun h1 h2 => ?_⟩
  · simp [meetsN, h1]
  · simp [meetsN, h1, h2]
  · simp [meetsN, h1, h2]
/-- the first look: place by place, each node above the one ahead -/
def scan : Int → List Pl → Int
  | _, [] => 0
  | a, p :: l => if inRangeB p = false then 3 else if p.1 ≤ a then 6 else scan p.1 l

def ringAt (l : List Pl) (p : Pl) : Bool := meetsN l (fun m => m == p.1) l.length p.1

/-- tree.Check -/
def check (l : List Pl) : Int := if scan 0 l ≠ 0 then scan 0 l else if l.any (ringAt l) = true then 4 else 0

theorem scan_step (l : List Pl) (k : Nat) (a : Int) (h : k < l.length) (hs : scan a (l.drop k) = scan 0 l) :
    (inRangeB l[k] = false → scan 0 l = 3) ∧ (inRangeB l[k] = true → l[k].1 ≤ a → scan 0 l = 6) ∧
    (inRangeB l[k] = true → ¬ l[k].1 ≤ a → scan l[k].1 (l.drop (k + 1)) = scan 0 l) := by
  rw [List.drop_eq_getElem_cons h] at hs
  refine ⟨fun h1 => ?_, fun h1 h2 => ?_, fun h1 h2 => ?_⟩
  · simp [scan, h1] at hs; exact hs.symm
  · simp [scan, h1, h2] at hs; exact hs.symm
  · simp only [scan, h1, h2, Bool.true_eq_false, ↓reduceIte] at hs; exact hs

theorem check_of_scan (l : List Pl) (h : scan 0 l ≠ 0) : check l = scan 0 l := by unfold check; rw [if_pos h]
theorem check_of_ring (l : List Pl) (h : scan 0 l = 0) (k : Nat) (hk : k < l.length) (hr : ringAt l l[k] = true) : check l = 4 := by
  unfold check
  rw [if_neg (by simp [h]), if_pos]
  exact List.any_eq_true.2 ⟨l[k], List.getElem_mem hk, hr⟩
theorem check_of_none (l : List Pl) (h : scan 0 l = 0) (hr : ∀ i, (hi : i < l.length) → ringAt l l[i] = false) : check l = 0 := by
  unfold check
  rw [if_neg (by simp [h]), if_neg]
  intro ha
  obtain ⟨p, hp, hq⟩ := List.any_eq_true.1 ha
  obtain ⟨i, hi, rfl⟩ := List.getElem_of_mem hp
  rw [hr i hi] at hq
  exact absurd hq (by simp)
/-- slices.IndexFunc -/
def idxF (f : Pl → Bool) : Nat → List Pl → Int
  | _, [] => -1
  | k, p :: l => if f p = true then (k : Int) else idxF f (k + 1) l

theorem idxF_step (f : Pl → Bool) (l : List Pl) (k : Nat) (h : k < l.length) (hs : idxF f k (l.drop k) = idxF f 0 l) :
    (f l[k] = true → idxF f 0 l = k) ∧ (f l[k] = false → idxF f (k + 1) (l.drop (k + 1)) = idxF f 0 l) := by
  rw [List.drop_eq_getElem_cons h] at hs
  refine ⟨fun h1 => ?_, fun h1 => ?_⟩
  · simp [idxF, h1] at hs; exact hs.symm
  · simp [idxF, h1] at hs; exact hs

theorem idxF_spec (n : Int) (l : List Pl) : ∀ k, (idxF (fun p => p.1 == n) k l = -1 ∧ find l n = (0, 0, 0)) ∨ ∃ i, ∃ h : i < l.length, idxF (fun p => p.1 == n) k l = ((k + i : Nat) : Int) ∧ find l n = l[i] := by
  induction l with
  | nil => intro k; exact Or.inl ⟨rfl, rfl⟩
  | cons p l ih =>
    intro k
    by_cases hp : p.1 = n
    · refine Or.inr ⟨0, by simp, ?_, ?_⟩
      · simp [idxF, hp]
      · rw [find_cons, if_pos hp]; rfl
    · rcases ih (k + 1) with ⟨h1, h2⟩ | ⟨i, hi, h1, h2⟩
      · refine Or.inl ⟨?_, ?_⟩
        · simp [idxF, hp, h1]
        · rw [find_cons, if_neg hp, h2]
      · refine Or.inr ⟨i + 1, by simp; omega, ?_, ?_⟩
        · simp [idxF, hp, h1]; omega
        · rw [find_cons, if_neg hp, h2]; rfl
theorem find_mem (l : List Pl) (n : Int) (h : (find l n).1 ≠ 0) : find l n ∈ l ∧ (find l n).1 = n := by
  induction l with
  | nil => simp [find_nil] at h
  | cons p l ih =>
    rw [find_cons] at h ⊢
    by_cases hp : p.1 = n
    · rw [if_pos hp]; exact ⟨by simp, hp⟩
    · rw [if_neg hp] at h ⊢
      obtain ⟨h1, h2⟩ := ih h
      exact ⟨by simp [h1], h2⟩

def hasB (x : Int) (l : List Int) : Bool := decide (x ∈ l)

/-- orangeryref.chain -/
def chainN (l : List Pl) : Nat → List Int → Int → List Int
  | 0, out, _ => out
  | k + 1, out, n => if (find l n).1 = 0 ∨ (find l n).2.1 ∈ out then out else chainN l k (out ++ [(find l n).2.1]) (find l n).2.1

def chain (l : List Pl) (n : Int) : List Int := chainN l 17 [n] n

theorem nodup_len (n : Nat) : ∀ (out : List Int), out.Nodup → (∀ x ∈ out, 0 ≤ x ∧ x < n) → out.length ≤ n := by
  induction n with
  | zero =>
    intro out _ hr
    cases out with
    | nil => simp
    | cons x t => have := hr x (by simp); omega
  | succ n ih =>
    intro out hd hr
    by_cases hm : (n : Int) ∈ out
    · have h1 := ih (out.erase (n : Int)) (hd.erase _) (fun x hx => by
        have h2 := hr x (List.mem_of_mem_erase hx)
        have h3 : x ≠ (n : Int) := fun e => by subst e; exact (List.Nodup.not_mem_erase hd) hx
        omega)
      rw [List.length_erase_of_mem hm] at h1
      omega
    · have := ih out hd (fun x hx => by
        have h2 := hr x hx
        have h3 : x ≠ (n : Int) := fun e => by subst e; exact hm hx
        omega)
      omega

def outOk (out : List Int) : Prop := out.Nodup ∧ (∀ x ∈ out, 0 ≤ x ∧ x < 17) ∧ 1 ≤ out.length

theorem outOk_len {out : List Int} (h : outOk out) : out.length ≤ 17 := nodup_len 17 out h.1 h.2.1

theorem outOk_one {n : Int} (h0 : 0 ≤ n) (h1 : n ≤ 16) : outOk [n] := by
  refine ⟨by simp, ?_, by simp⟩
  intro x hx
  simp at hx
  omega

theorem chainN_stop (l : List Pl) (out : List Int) (n : Int) (h : outOk out) (hs : (find l n).1 = 0 ∨ (find l n).2.1 ∈ out) : chainN l (18 - out.length) out n = out := by
  have := outOk_len h
  obtain ⟨j, hj⟩ : ∃ j, 18 - out.length = j + 1 := ⟨17 - out.length, by omega⟩
  rw [hj]
  simp [chainN, hs]

theorem chainN_go (l : List Pl) (out : List Int) (n : Int) (hr : ∀ p ∈ l, 0 ≤ p.2.1 ∧ p.2.1 ≤ 16) (h : outOk out) (h1 : (find l n).1 ≠ 0) (h2 : (find l n).2.1 ∉ out) :
    outOk (out ++ [(find l n).2.1]) ∧ chainN l (18 - out.length) out n = chainN l (18 - (out ++ [(find l n).2.1]).length) (out ++ [(find l n).2.1]) (find l n).2.1 := by
  have := outOk_len h
  have hp := hr _ (find_mem l n h1).1
  refine ⟨⟨?_, ?_, by simp⟩, ?_⟩
  · rw [List.nodup_append]
    refine ⟨h.1, by simp, ?_⟩
    intro a ha b hb
    simp at hb
    subst hb
    intro e
    subst e
    exact h2 ha
  · intro x hx
    simp at hx
    rcases hx with hx | hx
    · exact h.2.1 x hx
    · omega
  · obtain ⟨j, hj⟩ : ∃ j, 18 - out.length = j + 1 := ⟨17 - out.length, by omega⟩
    have hj' : 18 - (out ++ [(find l n).2.1]).length = j := by simp; omega
    rw [hj, hj']
    simp [chainN, h1, h2]
theorem inRangeB_iff (p : Pl) : inRangeB p = true ↔ 1 ≤ p.1 ∧ p.1 < 16 ∧ 0 ≤ p.2.1 ∧ p.2.1 ≤ 16 ∧ 0 ≤ p.2.2 ∧ p.2.2 ≤ 99 := by simp [inRangeB]

theorem scan_range (l : List Pl) : ∀ a, scan a l = 0 → ∀ p ∈ l, inRangeB p = true ∧ a < p.1 := by
  induction l with
  | nil => intro a _ p hp; simp at hp
  | cons q l ih =>
    intro a h p hp
    unfold scan at h
    split at h
    · omega
    · split at h
      · omega
      · rename_i h1 h2
        simp at hp h1
        rcases hp with rfl | hp
        · exact ⟨h1, by omega⟩
        · have := ih q.1 h p hp
          exact ⟨this.1, by omega⟩

def rRing (l : List Pl) (p : Pl) : Bool := hasB p.1 (chain l p.2.1)

/-- orangeryref.CheckTree -/
def checkR (l : List Pl) : Int := if scan 0 l ≠ 0 then scan 0 l else if l.any (rRing l) = true then 4 else 0

theorem checkR_of_scan (l : List Pl) (h : scan 0 l ≠ 0) : checkR l = scan 0 l := by unfold checkR; rw [if_pos h]
theorem checkR_of_ring (l : List Pl) (h : scan 0 l = 0) (k : Nat) (hk : k < l.length) (hr : rRing l l[k] = true) : checkR l = 4 := by
  unfold checkR
  rw [if_neg (by simp [h]), if_pos]
  exact List.any_eq_true.2 ⟨l[k], List.getElem_mem hk, hr⟩
theorem checkR_of_none (l : List Pl) (h : scan 0 l = 0) (hr : ∀ i, (hi : i < l.length) → rRing l l[i] = false) : checkR l = 0 := by
  unfold checkR
  rw [if_neg (by simp [h]), if_neg]
  intro ha
  obtain ⟨p, hp, hq⟩ := List.any_eq_true.1 ha
  obtain ⟨i, hi, rfl⟩ := List.getElem_of_mem hp
  rw [hr i hi] at hq
  exact absurd hq (by simp)
end Orangery

/- Plain functions: tree.Under; a small tree. -/
namespace Orangery

/-- tree.Under -/
def underE (l : List Pl) (n t : Int) : Int := if check l ≠ 0 then check l else if isNodeB n = true ∧ isNodeB t = true then 0 else 5
def underB (l : List Pl) (n t : Int) : Bool := if underE l n t ≠ 0 then false else (n == t) || meetsN l (fun m => m == t) l.length n

theorem underE_bad (l : List Pl) (n t : Int) (h : check l ≠ 0) : underE l n t = check l ∧ underB l n t = false := by
  have : underE l n t = check l := by simp [underE, h]
  exact ⟨this, by simp [underB, this, h]⟩
theorem underE_who (l : List Pl) (n t : Int) (h : check l = 0) (hn : ¬ (isNodeB n = true ∧ isNodeB t = true)) : underE l n t = 5 ∧ underB l n t = false := by
  have : underE l n t = 5 := by simp only [underE, h, ne_eq, not_true_eq_false, if_false, if_neg hn]
  exact ⟨this, by simp [underB, this]⟩
theorem underE_ok (l : List Pl) (n t : Int) (h : check l = 0) (h1 : isNodeB n = true) (h2 : isNodeB t = true) : underE l n t = 0 ∧ underB l n t = ((n == t) || meetsN l (fun m => m == t) l.length n) := by
  have : underE l n t = 0 := by simp [underE, h, h1, h2]
  exact ⟨this, by simp [underB, this]⟩

def smallL : List Pl := [(1, 0, 5), (2, 1, 7), (3, 1, 6), (4, 2, 0)]
def ringL : List Pl := [(1, 2, 0), (2, 1, 0)]
def cmpI (x y : Int) : Int := if x < y then -1 else if y < x then 1 else 0
def orI (x y : Int) : Int := if x ≠ 0 then x else y
/-- tree.byName -/
def byN (p q : Pl) : Int := orI (cmpI p.2.2 q.2.2) (cmpI p.1 q.1)
end Orangery

/- Plain facts on slices.DeleteFunc: what stays is what is kept. -/
namespace Orangery

/-- the contents m of a row in which i places are kept of the first j of l -/
def Kept (f : Pl → Bool) (l m : List Pl) (i j : Nat) : Prop :=
  m.length = l.length ∧ i < j ∧ j ≤ l.length ∧ m.take i = (l.take j).filter (fun p => !f p) ∧ m.drop j = l.drop j

theorem idxF_first (f : Pl → Bool) (l : List Pl) : ∀ k, (idxF f k l = -1 ∧ l.filter (fun p => !f p) = l) ∨ ∃ i, i < l.length ∧ idxF f k l = ((k + i : Nat) : Int) ∧ (l.take (i + 1)).filter (fun p => !f p) = l.take i := by
  induction l with
  | nil => intro k; exact Or.inl ⟨rfl, rfl⟩
  | cons p l ih =>
    intro k
    cases hp : f p
    · rcases ih (k + 1) with ⟨h1, h2⟩ | ⟨i, hi, h1, h2⟩
      · exact Or.inl ⟨by simp [idxF, hp, h1], by simp [hp, h2]⟩
      · refine Or.inr ⟨i + 1, by simp; omega, ?_, ?_⟩
        · simp [idxF, hp, h1]; omega
        · simp [hp] at h2 ⊢; exact h2
    · exact Or.inr ⟨0, by simp, by simp [idxF, hp], by simp [hp]⟩

theorem Kept.start (f : Pl → Bool) (l : List Pl) (i : Nat) (h : i < l.length) (hf : (l.take (i + 1)).filter (fun p => !f p) = l.take i) : Kept f l l i (i + 1) :=
  ⟨rfl, by omega, by omega, hf.symm, rfl⟩

theorem Kept.get {f : Pl → Bool} {l m : List Pl} {i j : Nat} (h : Kept f l m i j) (hj : j < l.length) : ∃ h' : j < m.length, m[j] = l[j] := by
  obtain ⟨h1, h2, h3, h4, h5⟩ := h
  refine ⟨by omega, ?_⟩
  have := congrArg (fun x => x[0]?) h5
  simp only [List.getElem?_drop, Nat.add_zero] at this
  rw [List.getElem?_eq_getElem (by omega), List.getElem?_eq_getElem hj] at this
  exact Option.some.inj this

theorem Kept.skip {f : Pl → Bool} {l m : List Pl} {i j : Nat} (h : Kept f l m i j) (hj : j < l.length) (hf : f l[j] = true) : Kept f l m i (j + 1) := by
  obtain ⟨h1, h2, h3, h4, h5⟩ := h
  refine ⟨h1, by omega, by omega, ?_, ?_⟩
  · rw [h4, List.take_succ_eq_append_getElem hj, List.filter_append]; simp [hf]
  · rw [← List.drop_drop, h5, List.drop_drop]

theorem Kept.keep {f : Pl → Bool} {l m : List Pl} {i j : Nat} (h : Kept f l m i j) (hj : j < l.length) (hf : f l[j] = false) : Kept f l (m.set i l[j]) (i + 1) (j + 1) := by
  obtain ⟨h1, h2, h3, h4, h5⟩ := h
  refine ⟨by simp [h1], by omega, by omega, ?_, ?_⟩
  · rw [List.take_succ_eq_append_getElem hj, List.filter_append]
    simp only [List.filter_cons, hf, Bool.not_false, if_true, List.filter_nil]
    rw [← h4, List.take_succ_eq_append_getElem (by simp; omega)]
    simp [List.take_set_of_le]
  · rw [List.drop_set_of_lt (by omega), ← List.drop_drop, h5, List.drop_drop]

theorem Kept.done {f : Pl → Bool} {l m : List Pl} {i j : Nat} (h : Kept f l m i j) (hj : ¬ j < l.length) : m.take i = l.filter (fun p => !f p) := by
  obtain ⟨h1, h2, h3, h4, h5⟩ := h
  rw [h4, List.take_of_length_le (by omega)]
/-- p stands ahead of q: by name, of like ones by node -/
def ltP (p q : Pl) : Prop := p.2.2 < q.2.2 ∨ (p.2.2 = q.2.2 ∧ p.1 < q.1)
def leP (p q : Pl) : Prop := p.2.2 < q.2.2 ∨ (p.2.2 = q.2.2 ∧ p.1 ≤ q.1)

theorem byN_lt (p q : Pl) : byN p q < 0 ↔ ltP p q := by
  unfold byN orI ltP cmpI
  by_cases h1 : p.2.2 < q.2.2
  · simp [h1]
  · by_cases h2 : q.2.2 < p.2.2
    · simp [h1, h2]; omega
    · by_cases h3 : p.1 < q.1
      · simp [h1, h2, h3]; omega
      · by_cases h4 : q.1 < p.1
        · simp [h1, h2, h3, h4]
        · simp [h1, h2, h3, h4]

theorem byN_ge (p q : Pl) : ¬ byN q p < 0 ↔ leP p q := by
  rw [byN_lt]
  unfold ltP leP
  omega
theorem scan_len (l : List Pl) : ∀ a : Int, scan a l = 0 → a ≤ 15 → (l.length : Int) ≤ 15 - a := by
  induction l with
  | nil => intro a _ h; simp; omega
  | cons p l ih =>
    intro a h ha
    unfold scan at h
    split at h
    · omega
    · split at h
      · omega
      · rename_i h1 h2
        simp at h1
        rw [inRangeB_iff] at h1
        have := ih p.1 h (by omega)
        simp only [List.length_cons]
        omega

theorem check_scan (l : List Pl) (h : check l = 0) : scan 0 l = 0 := by
  unfold check at h
  split at h
  · omega
  · rename_i h1; simpa using h1

theorem check_len (l : List Pl) (h : check l = 0) : l.length ≤ 15 := by
  have := scan_len l 0 (check_scan l h) (by omega)
  omega

/-- tree.Kids' error -/
def kidsE (l : List Pl) (n : Int) : Int := if check l ≠ 0 then check l else if isNodeB n = true then 0 else 5
end Orangery

