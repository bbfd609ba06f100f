/- 5 texts of the proof: strings and strconv are the library's, by its own laws. Plain facts on texts: words with blanks between them, decimal numbers written and read. Plain functions and facts on trees as lists of places; nothing of the program is named here. Plain functions: tree.Under; a small tree. Plain facts on slices.DeleteFunc: what stays is what is kept. -/
import Derived.Shelf.Strings.OnBuilder
import Derived.Shelf.Strings.Split
import Derived.Shelf.Strings.Cut
import Derived.Shelf.Strconv.Itoa4
import Derived.Shelf.Strconv.ErrVarAll
import Derived.Shelf.Strconv.ErrVarParseInt
import Derived.Test.YtmlodnamknielacDoorProg
import Derived.Lib.ItoaNum
import Derived.Lib.ParseIntB
import Derived.Lib.Join
import Derived.Lib.IndexMore
import Init
/- strings and strconv are the library's, by its own laws. -/
namespace Go.Proofs
open Go.Shelf
def Tryd.lays169_ren : Go.Shelf.Ren := ⟨fun | 169 => 27 | n => n, fun | 70 => 56 | 9 => 9 | 0 => 0 | 72 => 58 | 37 => 39 | 127 => 89 | 3 => 3 | 5 => 5 | n => n, fun | n => n⟩
theorem Tryd.lays169 : Go.Proofs.Lays.n169 Tryd.prog Tryd.lays169_ren := {
  mixed := by kernel_rfl
  f169 := Tryd.func27.trans (congrArg some (by kernel_rfl))
  t0 := Tryd.underlying0
  a0 := Tryd.isAgg0
  z0 := Tryd.sizeOf0
  v0 := Tryd.zeroValue0
  t3 := Tryd.underlying3
  a3 := Tryd.isAgg3
  z3 := Tryd.sizeOf3
  v3 := Tryd.zeroValue3
  t9 := Tryd.underlying9
  a9 := Tryd.isAgg9
  z9 := Tryd.sizeOf9
  v9 := Tryd.zeroValue9
  t37 := Tryd.underlying39
  a37 := Tryd.isAgg39
  z37 := Tryd.sizeOf39
  v37 := Tryd.zeroValue39
  t70 := Tryd.underlying56
  a70 := Tryd.isAgg56
  z70 := Tryd.sizeOf56
  v70 := Tryd.zeroValue56
  t72 := Tryd.underlying58
  a72 := Tryd.isAgg58
  z72 := Tryd.sizeOf58
  v72 := Tryd.zeroValue58
  t127 := Tryd.underlying89
  a127 := Tryd.isAgg89
  z127 := Tryd.sizeOf89
  v127 := Tryd.zeroValue89 }
theorem Tryd.extra169 : Builder.Extra Tryd.prog Tryd.lays169_ren := {
  sizeBuilder := by kernel_rfl
  liesBuilder := by kernel_rfl
  t5 := Tryd.underlying5
  a5 := Tryd.isAgg5
  z5 := Tryd.sizeOf5
  v5 := Tryd.zeroValue5
  infoByte := by kernel_rfl
  cellsByte := by kernel_rfl
  sizeByte := by kernel_rfl
  neB5 := by decide }
def Tryd.lays156_ren : Go.Shelf.Ren := ⟨fun | 156 => 33 | 165 => 55 | 166 => 25 | 169 => 27 | 240 => 48 | 241 => 70 | 276 => 64 | 277 => 86 | n => n, fun | 31 => 65 | 9 => 9 | 3 => 3 | 4 => 4 | 0 => 0 | 20 => 20 | 72 => 58 | 76 => 61 | 70 => 56 | 37 => 39 | 75 => 60 | 127 => 89 | 164 => 100 | 5 => 5 | 80 => 64 | n => n, fun | n => n⟩
theorem Tryd.lays156 : Go.Proofs.Lays.n156 Tryd.prog Tryd.lays156_ren := {
  mixed := by kernel_rfl
  f156 := Tryd.func33.trans (congrArg some (by kernel_rfl))
  f165 := Tryd.func55.trans (congrArg some (by kernel_rfl))
  f166 := Tryd.func25.trans (congrArg some (by kernel_rfl))
  f169 := Tryd.func27.trans (congrArg some (by kernel_rfl))
  f240 := Tryd.func48.trans (congrArg some (by kernel_rfl))
  f241 := Tryd.func70.trans (congrArg some (by kernel_rfl))
  f276 := Tryd.func64.trans (congrArg some (by kernel_rfl))
  f277 := Tryd.func86.trans (congrArg some (by kernel_rfl))
  t0 := Tryd.underlying0
  a0 := Tryd.isAgg0
  z0 := Tryd.sizeOf0
  v0 := Tryd.zeroValue0
  t3 := Tryd.underlying3
  a3 := Tryd.isAgg3
  z3 := Tryd.sizeOf3
  v3 := Tryd.zeroValue3
  t4 := Tryd.underlying4
  a4 := Tryd.isAgg4
  z4 := Tryd.sizeOf4
  v4 := Tryd.zeroValue4
  t9 := Tryd.underlying9
  a9 := Tryd.isAgg9
  z9 := Tryd.sizeOf9
  v9 := Tryd.zeroValue9
  t20 := Tryd.underlying20
  a20 := Tryd.isAgg20
  z20 := Tryd.sizeOf20
  v20 := Tryd.zeroValue20
  t31 := Tryd.underlying65
  a31 := Tryd.isAgg65
  z31 := Tryd.sizeOf65
  v31 := Tryd.zeroValue65
  t37 := Tryd.underlying39
  a37 := Tryd.isAgg39
  z37 := Tryd.sizeOf39
  v37 := Tryd.zeroValue39
  t70 := Tryd.underlying56
  a70 := Tryd.isAgg56
  z70 := Tryd.sizeOf56
  v70 := Tryd.zeroValue56
  t72 := Tryd.underlying58
  a72 := Tryd.isAgg58
  z72 := Tryd.sizeOf58
  v72 := Tryd.zeroValue58
  t75 := Tryd.underlying60
  a75 := Tryd.isAgg60
  z75 := Tryd.sizeOf60
  v75 := Tryd.zeroValue60
  t76 := Tryd.underlying61
  a76 := Tryd.isAgg61
  z76 := Tryd.sizeOf61
  v76 := Tryd.zeroValue61
  t127 := Tryd.underlying89
  a127 := Tryd.isAgg89
  z127 := Tryd.sizeOf89
  v127 := Tryd.zeroValue89
  t164 := Tryd.underlying100
  a164 := Tryd.isAgg100
  z164 := Tryd.sizeOf100
  v164 := Tryd.zeroValue100 }
theorem Tryd.extra156 : Builder.Extra Tryd.prog Tryd.lays156_ren := {
  sizeBuilder := by kernel_rfl
  liesBuilder := by kernel_rfl
  t5 := Tryd.underlying5
  a5 := Tryd.isAgg5
  z5 := Tryd.sizeOf5
  v5 := Tryd.zeroValue5
  infoByte := by kernel_rfl
  cellsByte := by kernel_rfl
  sizeByte := by kernel_rfl
  neB5 := by decide }
def Tryd.laysC172_ren : Go.Shelf.Ren := ⟨fun | 172 => 51 | 244 => 68 | 245 => 60 | 247 => 59 | 279 => 74 | 280 => 75 | 281 => 76 | 282 => 77 | 287 => 73 | 316 => 93 | 171 => 26 | 205 => 94 | 321 => 91 | 322 => 92 | 243 => 49 | 246 => 61 | 283 => 78 | 284 => 79 | 285 => 80 | 286 => 81 | 129 => 96 | 317 => 95 | 318 => 97 | 319 => 98 | 320 => 99 | 337 => 104 | 338 => 105 | n => n, fun | 9 => 9 | 3 => 3 | 75 => 60 | 76 => 61 | 4 => 4 | 5 => 5 | 167 => 107 | 37 => 39 | 0 => 0 | 85 => 77 | 2 => 2 | 168 => 112 | 53 => 108 | 175 => 109 | 46 => 111 | 210 => 132 | 127 => 89 | 145 => 145 | 143 => 143 | 21 => 21 | 171 => 115 | 173 => 118 | 212 => 135 | 51 => 136 | 20 => 20 | 213 => 137 | 232 => 152 | 233 => 153 | 80 => 64 | n => n, fun | 15 => 1 | 16 => 2 | 17 => 3 | 18 => 6 | 19 => 7 | n => n⟩
theorem Tryd.laysC172 : Go.Proofs.LaysC.n172 Tryd.prog Tryd.laysC172_ren := {
  mixed := by kernel_rfl
  f129 := Tryd.func96.trans (congrArg some (by kernel_rfl))
  f171 := Tryd.func26.trans (congrArg some (by kernel_rfl))
  f172 := Tryd.func51.trans (congrArg some (by kernel_rfl))
  f205 := Tryd.func94.trans (congrArg some (by kernel_rfl))
  f243 := Tryd.func49.trans (congrArg some (by kernel_rfl))
  f244 := Tryd.func68.trans (congrArg some (by kernel_rfl))
  f245 := Tryd.func60.trans (congrArg some (by kernel_rfl))
  f246 := Tryd.func61.trans (congrArg some (by kernel_rfl))
  f247 := Tryd.func59.trans (congrArg some (by kernel_rfl))
  f279 := Tryd.func74.trans (congrArg some (by kernel_rfl))
  f280 := Tryd.func75.trans (congrArg some (by kernel_rfl))
  f281 := Tryd.func76.trans (congrArg some (by kernel_rfl))
  f282 := Tryd.func77.trans (congrArg some (by kernel_rfl))
  f283 := Tryd.func78.trans (congrArg some (by kernel_rfl))
  f284 := Tryd.func79.trans (congrArg some (by kernel_rfl))
  f285 := Tryd.func80.trans (congrArg some (by kernel_rfl))
  f286 := Tryd.func81.trans (congrArg some (by kernel_rfl))
  f287 := Tryd.func73.trans (congrArg some (by kernel_rfl))
  f316 := Tryd.func93.trans (congrArg some (by kernel_rfl))
  f317 := Tryd.func95.trans (congrArg some (by kernel_rfl))
  f318 := Tryd.func97.trans (congrArg some (by kernel_rfl))
  f319 := Tryd.func98.trans (congrArg some (by kernel_rfl))
  f320 := Tryd.func99.trans (congrArg some (by kernel_rfl))
  f321 := Tryd.func91.trans (congrArg some (by kernel_rfl))
  f322 := Tryd.func92.trans (congrArg some (by kernel_rfl))
  f337 := Tryd.func104.trans (congrArg some (by kernel_rfl))
  f338 := Tryd.func105.trans (congrArg some (by kernel_rfl))
  t0 := Tryd.underlying0
  a0 := Tryd.isAgg0
  z0 := Tryd.sizeOf0
  v0 := Tryd.zeroValue0
  t2 := Tryd.underlying2
  a2 := Tryd.isAgg2
  z2 := Tryd.sizeOf2
  v2 := Tryd.zeroValue2
  t3 := Tryd.underlying3
  a3 := Tryd.isAgg3
  z3 := Tryd.sizeOf3
  v3 := Tryd.zeroValue3
  t4 := Tryd.underlying4
  a4 := Tryd.isAgg4
  z4 := Tryd.sizeOf4
  v4 := Tryd.zeroValue4
  t5 := Tryd.underlying5
  a5 := Tryd.isAgg5
  z5 := Tryd.sizeOf5
  v5 := Tryd.zeroValue5
  t9 := Tryd.underlying9
  a9 := Tryd.isAgg9
  z9 := Tryd.sizeOf9
  v9 := Tryd.zeroValue9
  t20 := Tryd.underlying20
  a20 := Tryd.isAgg20
  z20 := Tryd.sizeOf20
  v20 := Tryd.zeroValue20
  t21 := Tryd.underlying21
  a21 := Tryd.isAgg21
  z21 := Tryd.sizeOf21
  v21 := Tryd.zeroValue21
  t37 := Tryd.underlying39
  a37 := Tryd.isAgg39
  z37 := Tryd.sizeOf39
  v37 := Tryd.zeroValue39
  t46 := Tryd.underlying111
  a46 := Tryd.isAgg111
  z46 := Tryd.sizeOf111
  v46 := Tryd.zeroValue111
  t51 := Tryd.underlying136
  a51 := Tryd.isAgg136
  z51 := Tryd.sizeOf136
  v51 := Tryd.zeroValue136
  t53 := Tryd.underlying108
  a53 := Tryd.isAgg108
  z53 := Tryd.sizeOf108
  v53 := Tryd.zeroValue108
  t75 := Tryd.underlying60
  a75 := Tryd.isAgg60
  z75 := Tryd.sizeOf60
  v75 := Tryd.zeroValue60
  t76 := Tryd.underlying61
  a76 := Tryd.isAgg61
  z76 := Tryd.sizeOf61
  v76 := Tryd.zeroValue61
  t85 := Tryd.underlying77
  a85 := Tryd.isAgg77
  z85 := Tryd.sizeOf77
  v85 := Tryd.zeroValue77
  t127 := Tryd.underlying89
  a127 := Tryd.isAgg89
  z127 := Tryd.sizeOf89
  v127 := Tryd.zeroValue89
  t143 := Tryd.underlying143
  a143 := Tryd.isAgg143
  z143 := Tryd.sizeOf143
  v143 := Tryd.zeroValue143
  t145 := Tryd.underlying145
  a145 := Tryd.isAgg145
  z145 := Tryd.sizeOf145
  v145 := Tryd.zeroValue145
  t167 := Tryd.underlying107
  a167 := Tryd.isAgg107
  z167 := Tryd.sizeOf107
  v167 := Tryd.zeroValue107
  t168 := Tryd.underlying112
  a168 := Tryd.isAgg112
  z168 := Tryd.sizeOf112
  v168 := Tryd.zeroValue112
  t171 := Tryd.underlying115
  a171 := Tryd.isAgg115
  z171 := Tryd.sizeOf115
  v171 := Tryd.zeroValue115
  t173 := Tryd.underlying118
  a173 := Tryd.isAgg118
  z173 := Tryd.sizeOf118
  v173 := Tryd.zeroValue118
  t175 := Tryd.underlying109
  a175 := Tryd.isAgg109
  z175 := Tryd.sizeOf109
  v175 := Tryd.zeroValue109
  t210 := Tryd.underlying132
  a210 := Tryd.isAgg132
  z210 := Tryd.sizeOf132
  v210 := Tryd.zeroValue132
  t212 := Tryd.underlying135
  a212 := Tryd.isAgg135
  z212 := Tryd.sizeOf135
  v212 := Tryd.zeroValue135
  t213 := Tryd.underlying137
  a213 := Tryd.isAgg137
  z213 := Tryd.sizeOf137
  t232 := Tryd.underlying152
  a232 := Tryd.isAgg152
  z232 := Tryd.sizeOf152
  v232 := Tryd.zeroValue152
  t233 := Tryd.underlying153
  a233 := Tryd.isAgg153
  z233 := Tryd.sizeOf153
  v233 := Tryd.zeroValue153
  g15 := by kernel_rfl
  g16 := by kernel_rfl
  g17 := by kernel_rfl
  g18 := by kernel_rfl
  g19 := by kernel_rfl
  t80 := Tryd.underlying64
  a80 := Tryd.isAgg64
  z80 := Tryd.sizeOf64
  v80 := Tryd.zeroValue64
  i0 := by kernel_rfl
  i2 := by kernel_rfl
  i3 := by kernel_rfl
  i4 := by kernel_rfl
  i5 := by kernel_rfl
  i9 := by kernel_rfl
  i20 := by kernel_rfl
  i21 := by kernel_rfl
  i37 := by kernel_rfl
  i46 := by kernel_rfl
  i51 := by kernel_rfl
  i53 := by kernel_rfl
  i75 := by kernel_rfl
  i76 := by kernel_rfl
  i80 := by kernel_rfl
  i85 := by kernel_rfl
  i127 := by kernel_rfl
  i143 := by kernel_rfl
  i145 := by kernel_rfl
  i167 := by kernel_rfl
  i168 := by kernel_rfl
  i171 := by kernel_rfl
  i173 := by kernel_rfl
  i175 := by kernel_rfl
  i210 := by kernel_rfl
  i212 := by kernel_rfl
  i232 := by kernel_rfl
  i233 := by kernel_rfl
  m15 := by kernel_rfl
  m16 := by kernel_rfl
  m17 := by kernel_rfl
  m18 := by kernel_rfl
  m19 := by kernel_rfl
  c0 := by kernel_rfl
  c2 := by kernel_rfl
  c3 := by kernel_rfl
  c4 := by kernel_rfl
  c5 := by kernel_rfl
  c9 := by kernel_rfl
  c20 := by kernel_rfl
  c21 := by kernel_rfl
  c37 := by kernel_rfl
  c46 := by kernel_rfl
  c51 := by kernel_rfl
  c53 := by kernel_rfl
  c75 := by kernel_rfl
  c76 := by kernel_rfl
  c80 := by kernel_rfl
  c85 := by kernel_rfl
  c127 := by kernel_rfl
  c143 := by kernel_rfl
  c145 := by kernel_rfl
  c167 := by kernel_rfl
  c168 := by kernel_rfl
  c171 := by kernel_rfl
  c173 := by kernel_rfl
  c175 := by kernel_rfl
  c210 := by kernel_rfl
  c212 := by kernel_rfl
  c213 := by kernel_rfl
  c232 := by kernel_rfl
  c233 := by kernel_rfl }
def Tryd.laysC174_ren : Go.Shelf.Ren := ⟨fun | 174 => 39 | 247 => 59 | 245 => 60 | 287 => 73 | 279 => 74 | 280 => 75 | 281 => 76 | 282 => 77 | 321 => 91 | 322 => 92 | 316 => 93 | 171 => 26 | 205 => 94 | 243 => 49 | 246 => 61 | 283 => 78 | 284 => 79 | 285 => 80 | 286 => 81 | 129 => 96 | 317 => 95 | 318 => 97 | 319 => 98 | 320 => 99 | 337 => 104 | 338 => 105 | n => n, fun | 9 => 9 | 3 => 3 | 2 => 2 | 75 => 60 | 85 => 77 | 4 => 4 | 167 => 107 | 5 => 5 | 53 => 108 | 175 => 109 | 46 => 111 | 168 => 112 | 37 => 39 | 0 => 0 | 210 => 132 | 21 => 21 | 127 => 89 | 145 => 145 | 143 => 143 | 171 => 115 | 173 => 118 | 212 => 135 | 51 => 136 | 20 => 20 | 213 => 137 | 232 => 152 | 233 => 153 | 80 => 64 | n => n, fun | 15 => 1 | 16 => 2 | 17 => 3 | 18 => 6 | 19 => 7 | n => n⟩
theorem Tryd.laysC174 : Go.Proofs.LaysC.n174 Tryd.prog Tryd.laysC174_ren := {
  mixed := by kernel_rfl
  f129 := Tryd.func96.trans (congrArg some (by kernel_rfl))
  f171 := Tryd.func26.trans (congrArg some (by kernel_rfl))
  f174 := Tryd.func39.trans (congrArg some (by kernel_rfl))
  f205 := Tryd.func94.trans (congrArg some (by kernel_rfl))
  f243 := Tryd.func49.trans (congrArg some (by kernel_rfl))
  f245 := Tryd.func60.trans (congrArg some (by kernel_rfl))
  f246 := Tryd.func61.trans (congrArg some (by kernel_rfl))
  f247 := Tryd.func59.trans (congrArg some (by kernel_rfl))
  f279 := Tryd.func74.trans (congrArg some (by kernel_rfl))
  f280 := Tryd.func75.trans (congrArg some (by kernel_rfl))
  f281 := Tryd.func76.trans (congrArg some (by kernel_rfl))
  f282 := Tryd.func77.trans (congrArg some (by kernel_rfl))
  f283 := Tryd.func78.trans (congrArg some (by kernel_rfl))
  f284 := Tryd.func79.trans (congrArg some (by kernel_rfl))
  f285 := Tryd.func80.trans (congrArg some (by kernel_rfl))
  f286 := Tryd.func81.trans (congrArg some (by kernel_rfl))
  f287 := Tryd.func73.trans (congrArg some (by kernel_rfl))
  f316 := Tryd.func93.trans (congrArg some (by kernel_rfl))
  f317 := Tryd.func95.trans (congrArg some (by kernel_rfl))
  f318 := Tryd.func97.trans (congrArg some (by kernel_rfl))
  f319 := Tryd.func98.trans (congrArg some (by kernel_rfl))
  f320 := Tryd.func99.trans (congrArg some (by kernel_rfl))
  f321 := Tryd.func91.trans (congrArg some (by kernel_rfl))
  f322 := Tryd.func92.trans (congrArg some (by kernel_rfl))
  f337 := Tryd.func104.trans (congrArg some (by kernel_rfl))
  f338 := Tryd.func105.trans (congrArg some (by kernel_rfl))
  t0 := Tryd.underlying0
  a0 := Tryd.isAgg0
  z0 := Tryd.sizeOf0
  v0 := Tryd.zeroValue0
  t2 := Tryd.underlying2
  a2 := Tryd.isAgg2
  z2 := Tryd.sizeOf2
  v2 := Tryd.zeroValue2
  t3 := Tryd.underlying3
  a3 := Tryd.isAgg3
  z3 := Tryd.sizeOf3
  v3 := Tryd.zeroValue3
  t4 := Tryd.underlying4
  a4 := Tryd.isAgg4
  z4 := Tryd.sizeOf4
  v4 := Tryd.zeroValue4
  t5 := Tryd.underlying5
  a5 := Tryd.isAgg5
  z5 := Tryd.sizeOf5
  v5 := Tryd.zeroValue5
  t9 := Tryd.underlying9
  a9 := Tryd.isAgg9
  z9 := Tryd.sizeOf9
  v9 := Tryd.zeroValue9
  t20 := Tryd.underlying20
  a20 := Tryd.isAgg20
  z20 := Tryd.sizeOf20
  v20 := Tryd.zeroValue20
  t21 := Tryd.underlying21
  a21 := Tryd.isAgg21
  z21 := Tryd.sizeOf21
  v21 := Tryd.zeroValue21
  t37 := Tryd.underlying39
  a37 := Tryd.isAgg39
  z37 := Tryd.sizeOf39
  v37 := Tryd.zeroValue39
  t46 := Tryd.underlying111
  a46 := Tryd.isAgg111
  z46 := Tryd.sizeOf111
  v46 := Tryd.zeroValue111
  t51 := Tryd.underlying136
  a51 := Tryd.isAgg136
  z51 := Tryd.sizeOf136
  v51 := Tryd.zeroValue136
  t53 := Tryd.underlying108
  a53 := Tryd.isAgg108
  z53 := Tryd.sizeOf108
  v53 := Tryd.zeroValue108
  t75 := Tryd.underlying60
  a75 := Tryd.isAgg60
  z75 := Tryd.sizeOf60
  v75 := Tryd.zeroValue60
  t85 := Tryd.underlying77
  a85 := Tryd.isAgg77
  z85 := Tryd.sizeOf77
  v85 := Tryd.zeroValue77
  t127 := Tryd.underlying89
  a127 := Tryd.isAgg89
  z127 := Tryd.sizeOf89
  v127 := Tryd.zeroValue89
  t143 := Tryd.underlying143
  a143 := Tryd.isAgg143
  z143 := Tryd.sizeOf143
  v143 := Tryd.zeroValue143
  t145 := Tryd.underlying145
  a145 := Tryd.isAgg145
  z145 := Tryd.sizeOf145
  v145 := Tryd.zeroValue145
  t167 := Tryd.underlying107
  a167 := Tryd.isAgg107
  z167 := Tryd.sizeOf107
  v167 := Tryd.zeroValue107
  t168 := Tryd.underlying112
  a168 := Tryd.isAgg112
  z168 := Tryd.sizeOf112
  v168 := Tryd.zeroValue112
  t171 := Tryd.underlying115
  a171 := Tryd.isAgg115
  z171 := Tryd.sizeOf115
  v171 := Tryd.zeroValue115
  t173 := Tryd.underlying118
  a173 := Tryd.isAgg118
  z173 := Tryd.sizeOf118
  v173 := Tryd.zeroValue118
  t175 := Tryd.underlying109
  a175 := Tryd.isAgg109
  z175 := Tryd.sizeOf109
  v175 := Tryd.zeroValue109
  t210 := Tryd.underlying132
  a210 := Tryd.isAgg132
  z210 := Tryd.sizeOf132
  v210 := Tryd.zeroValue132
  t212 := Tryd.underlying135
  a212 := Tryd.isAgg135
  z212 := Tryd.sizeOf135
  v212 := Tryd.zeroValue135
  t213 := Tryd.underlying137
  a213 := Tryd.isAgg137
  z213 := Tryd.sizeOf137
  t232 := Tryd.underlying152
  a232 := Tryd.isAgg152
  z232 := Tryd.sizeOf152
  v232 := Tryd.zeroValue152
  t233 := Tryd.underlying153
  a233 := Tryd.isAgg153
  z233 := Tryd.sizeOf153
  v233 := Tryd.zeroValue153
  g15 := by kernel_rfl
  g16 := by kernel_rfl
  g17 := by kernel_rfl
  g18 := by kernel_rfl
  g19 := by kernel_rfl
  t80 := Tryd.underlying64
  a80 := Tryd.isAgg64
  z80 := Tryd.sizeOf64
  v80 := Tryd.zeroValue64
  i0 := by kernel_rfl
  i2 := by kernel_rfl
  i3 := by kernel_rfl
  i4 := by kernel_rfl
  i5 := by kernel_rfl
  i9 := by kernel_rfl
  i20 := by kernel_rfl
  i21 := by kernel_rfl
  i37 := by kernel_rfl
  i46 := by kernel_rfl
  i51 := by kernel_rfl
  i53 := by kernel_rfl
  i75 := by kernel_rfl
  i80 := by kernel_rfl
  i85 := by kernel_rfl
  i127 := by kernel_rfl
  i143 := by kernel_rfl
  i145 := by kernel_rfl
  i167 := by kernel_rfl
  i168 := by kernel_rfl
  i171 := by kernel_rfl
  i173 := by kernel_rfl
  i175 := by kernel_rfl
  i210 := by kernel_rfl
  i212 := by kernel_rfl
  i232 := by kernel_rfl
  i233 := by kernel_rfl
  m15 := by kernel_rfl
  m16 := by kernel_rfl
  m17 := by kernel_rfl
  m18 := by kernel_rfl
  m19 := by kernel_rfl
  c0 := by kernel_rfl
  c2 := by kernel_rfl
  c3 := by kernel_rfl
  c4 := by kernel_rfl
  c5 := by kernel_rfl
  c9 := by kernel_rfl
  c20 := by kernel_rfl
  c21 := by kernel_rfl
  c37 := by kernel_rfl
  c46 := by kernel_rfl
  c51 := by kernel_rfl
  c53 := by kernel_rfl
  c75 := by kernel_rfl
  c80 := by kernel_rfl
  c85 := by kernel_rfl
  c127 := by kernel_rfl
  c143 := by kernel_rfl
  c145 := by kernel_rfl
  c167 := by kernel_rfl
  c168 := by kernel_rfl
  c171 := by kernel_rfl
  c173 := by kernel_rfl
  c175 := by kernel_rfl
  c210 := by kernel_rfl
  c212 := by kernel_rfl
  c213 := by kernel_rfl
  c232 := by kernel_rfl
  c233 := by kernel_rfl }
def Tryd.laysM171_ren : Go.Shelf.Ren := ⟨fun | 171 => 26 | 243 => 49 | 246 => 61 | 283 => 78 | 284 => 79 | 285 => 80 | 286 => 81 | 129 => 96 | 317 => 95 | 318 => 97 | 319 => 98 | 320 => 99 | 337 => 104 | 338 => 105 | n => n, fun | 3 => 3 | 9 => 9 | 2 => 2 | 4 => 4 | 171 => 115 | 0 => 0 | 53 => 108 | 37 => 39 | 5 => 5 | 173 => 118 | 212 => 135 | 51 => 136 | 20 => 20 | 213 => 137 | 46 => 111 | 232 => 152 | 233 => 153 | n => n, fun | 17 => 3 | 18 => 6 | 19 => 7 | n => n⟩
theorem Tryd.laysM171 : Go.Proofs.LaysM.n171 Tryd.prog Tryd.laysM171_ren := {
  mixed := by kernel_rfl
  f129 := Tryd.func96.trans (congrArg some (by kernel_rfl))
  f171 := Tryd.func26.trans (congrArg some (by kernel_rfl))
  f243 := Tryd.func49.trans (congrArg some (by kernel_rfl))
  f246 := Tryd.func61.trans (congrArg some (by kernel_rfl))
  f283 := Tryd.func78.trans (congrArg some (by kernel_rfl))
  f284 := Tryd.func79.trans (congrArg some (by kernel_rfl))
  f285 := Tryd.func80.trans (congrArg some (by kernel_rfl))
  f286 := Tryd.func81.trans (congrArg some (by kernel_rfl))
  f317 := Tryd.func95.trans (congrArg some (by kernel_rfl))
  f318 := Tryd.func97.trans (congrArg some (by kernel_rfl))
  f319 := Tryd.func98.trans (congrArg some (by kernel_rfl))
  f320 := Tryd.func99.trans (congrArg some (by kernel_rfl))
  f337 := Tryd.func104.trans (congrArg some (by kernel_rfl))
  f338 := Tryd.func105.trans (congrArg some (by kernel_rfl))
  t0 := Tryd.underlying0
  a0 := Tryd.isAgg0
  z0 := Tryd.sizeOf0
  v0 := Tryd.zeroValue0
  t2 := Tryd.underlying2
  a2 := Tryd.isAgg2
  z2 := Tryd.sizeOf2
  v2 := Tryd.zeroValue2
  t3 := Tryd.underlying3
  a3 := Tryd.isAgg3
  z3 := Tryd.sizeOf3
  v3 := Tryd.zeroValue3
  t4 := Tryd.underlying4
  a4 := Tryd.isAgg4
  z4 := Tryd.sizeOf4
  v4 := Tryd.zeroValue4
  t5 := Tryd.underlying5
  a5 := Tryd.isAgg5
  z5 := Tryd.sizeOf5
  v5 := Tryd.zeroValue5
  t9 := Tryd.underlying9
  a9 := Tryd.isAgg9
  z9 := Tryd.sizeOf9
  v9 := Tryd.zeroValue9
  t20 := Tryd.underlying20
  a20 := Tryd.isAgg20
  z20 := Tryd.sizeOf20
  v20 := Tryd.zeroValue20
  t37 := Tryd.underlying39
  a37 := Tryd.isAgg39
  z37 := Tryd.sizeOf39
  v37 := Tryd.zeroValue39
  t46 := Tryd.underlying111
  a46 := Tryd.isAgg111
  z46 := Tryd.sizeOf111
  v46 := Tryd.zeroValue111
  t51 := Tryd.underlying136
  a51 := Tryd.isAgg136
  z51 := Tryd.sizeOf136
  v51 := Tryd.zeroValue136
  t53 := Tryd.underlying108
  a53 := Tryd.isAgg108
  z53 := Tryd.sizeOf108
  v53 := Tryd.zeroValue108
  t171 := Tryd.underlying115
  a171 := Tryd.isAgg115
  z171 := Tryd.sizeOf115
  v171 := Tryd.zeroValue115
  t173 := Tryd.underlying118
  a173 := Tryd.isAgg118
  z173 := Tryd.sizeOf118
  v173 := Tryd.zeroValue118
  t212 := Tryd.underlying135
  a212 := Tryd.isAgg135
  z212 := Tryd.sizeOf135
  v212 := Tryd.zeroValue135
  t213 := Tryd.underlying137
  a213 := Tryd.isAgg137
  z213 := Tryd.sizeOf137
  t232 := Tryd.underlying152
  a232 := Tryd.isAgg152
  z232 := Tryd.sizeOf152
  v232 := Tryd.zeroValue152
  t233 := Tryd.underlying153
  a233 := Tryd.isAgg153
  z233 := Tryd.sizeOf153
  v233 := Tryd.zeroValue153
  g17 := by kernel_rfl
  g18 := by kernel_rfl
  g19 := by kernel_rfl
  i0 := by kernel_rfl
  i2 := by kernel_rfl
  i3 := by kernel_rfl
  i4 := by kernel_rfl
  i5 := by kernel_rfl
  i9 := by kernel_rfl
  i20 := by kernel_rfl
  i37 := by kernel_rfl
  i46 := by kernel_rfl
  i51 := by kernel_rfl
  i53 := by kernel_rfl
  i171 := by kernel_rfl
  i173 := by kernel_rfl
  i212 := by kernel_rfl
  i232 := by kernel_rfl
  i233 := by kernel_rfl
  m17 := by kernel_rfl
  m18 := by kernel_rfl
  m19 := by kernel_rfl }
def Tryd.laysM173_ren : Go.Shelf.Ren := ⟨fun | 173 => 40 | 246 => 61 | 283 => 78 | 284 => 79 | 285 => 80 | 286 => 81 | 129 => 96 | 317 => 95 | 318 => 97 | 319 => 98 | 320 => 99 | 337 => 104 | 338 => 105 | n => n, fun | 2 => 2 | 3 => 3 | 9 => 9 | 4 => 4 | 171 => 115 | 0 => 0 | 53 => 108 | 37 => 39 | 5 => 5 | 173 => 118 | 212 => 135 | 51 => 136 | 20 => 20 | 213 => 137 | 46 => 111 | 232 => 152 | 233 => 153 | n => n, fun | 17 => 3 | 18 => 6 | 19 => 7 | n => n⟩
theorem Tryd.laysM173 : Go.Proofs.LaysM.n173 Tryd.prog Tryd.laysM173_ren := {
  mixed := by kernel_rfl
  f129 := Tryd.func96.trans (congrArg some (by kernel_rfl))
  f173 := Tryd.func40.trans (congrArg some (by kernel_rfl))
  f246 := Tryd.func61.trans (congrArg some (by kernel_rfl))
  f283 := Tryd.func78.trans (congrArg some (by kernel_rfl))
  f284 := Tryd.func79.trans (congrArg some (by kernel_rfl))
  f285 := Tryd.func80.trans (congrArg some (by kernel_rfl))
  f286 := Tryd.func81.trans (congrArg some (by kernel_rfl))
  f317 := Tryd.func95.trans (congrArg some (by kernel_rfl))
  f318 := Tryd.func97.trans (congrArg some (by kernel_rfl))
  f319 := Tryd.func98.trans (congrArg some (by kernel_rfl))
  f320 := Tryd.func99.trans (congrArg some (by kernel_rfl))
  f337 := Tryd.func104.trans (congrArg some (by kernel_rfl))
  f338 := Tryd.func105.trans (congrArg some (by kernel_rfl))
  t0 := Tryd.underlying0
  a0 := Tryd.isAgg0
  z0 := Tryd.sizeOf0
  v0 := Tryd.zeroValue0
  t2 := Tryd.underlying2
  a2 := Tryd.isAgg2
  z2 := Tryd.sizeOf2
  v2 := Tryd.zeroValue2
  t3 := Tryd.underlying3
  a3 := Tryd.isAgg3
  z3 := Tryd.sizeOf3
  v3 := Tryd.zeroValue3
  t4 := Tryd.underlying4
  a4 := Tryd.isAgg4
  z4 := Tryd.sizeOf4
  v4 := Tryd.zeroValue4
  t5 := Tryd.underlying5
  a5 := Tryd.isAgg5
  z5 := Tryd.sizeOf5
  v5 := Tryd.zeroValue5
  t9 := Tryd.underlying9
  a9 := Tryd.isAgg9
  z9 := Tryd.sizeOf9
  v9 := Tryd.zeroValue9
  t20 := Tryd.underlying20
  a20 := Tryd.isAgg20
  z20 := Tryd.sizeOf20
  v20 := Tryd.zeroValue20
  t37 := Tryd.underlying39
  a37 := Tryd.isAgg39
  z37 := Tryd.sizeOf39
  v37 := Tryd.zeroValue39
  t46 := Tryd.underlying111
  a46 := Tryd.isAgg111
  z46 := Tryd.sizeOf111
  v46 := Tryd.zeroValue111
  t51 := Tryd.underlying136
  a51 := Tryd.isAgg136
  z51 := Tryd.sizeOf136
  v51 := Tryd.zeroValue136
  t53 := Tryd.underlying108
  a53 := Tryd.isAgg108
  z53 := Tryd.sizeOf108
  v53 := Tryd.zeroValue108
  t171 := Tryd.underlying115
  a171 := Tryd.isAgg115
  z171 := Tryd.sizeOf115
  v171 := Tryd.zeroValue115
  t173 := Tryd.underlying118
  a173 := Tryd.isAgg118
  z173 := Tryd.sizeOf118
  v173 := Tryd.zeroValue118
  t212 := Tryd.underlying135
  a212 := Tryd.isAgg135
  z212 := Tryd.sizeOf135
  v212 := Tryd.zeroValue135
  t213 := Tryd.underlying137
  a213 := Tryd.isAgg137
  z213 := Tryd.sizeOf137
  t232 := Tryd.underlying152
  a232 := Tryd.isAgg152
  z232 := Tryd.sizeOf152
  v232 := Tryd.zeroValue152
  t233 := Tryd.underlying153
  a233 := Tryd.isAgg153
  z233 := Tryd.sizeOf153
  v233 := Tryd.zeroValue153
  g17 := by kernel_rfl
  g18 := by kernel_rfl
  g19 := by kernel_rfl
  i0 := by kernel_rfl
  i2 := by kernel_rfl
  i3 := by kernel_rfl
  i4 := by kernel_rfl
  i5 := by kernel_rfl
  i9 := by kernel_rfl
  i20 := by kernel_rfl
  i37 := by kernel_rfl
  i46 := by kernel_rfl
  i51 := by kernel_rfl
  i53 := by kernel_rfl
  i171 := by kernel_rfl
  i173 := by kernel_rfl
  i212 := by kernel_rfl
  i232 := by kernel_rfl
  i233 := by kernel_rfl
  m17 := by kernel_rfl
  m18 := by kernel_rfl
  m19 := by kernel_rfl }
def Tryd.lays146_ren : Go.Shelf.Ren := ⟨fun | 146 => 28 | 221 => 50 | 268 => 65 | 138 => 66 | 143 => 67 | 195 => 83 | 197 => 84 | 218 => 85 | 219 => 72 | 260 => 101 | 217 => 87 | 225 => 88 | 224 => 89 | 267 => 90 | 266 => 102 | 314 => 103 | n => n, fun | 9 => 9 | 31 => 65 | 3 => 3 | 4 => 4 | 0 => 0 | 105 => 123 | 21 => 21 | 5 => 5 | 46 => 111 | 119 => 148 | 139 => 151 | 138 => 150 | 146 => 141 | 51 => 136 | n => n, fun | 1 => 0 | 3 => 4 | 4 => 5 | n => n⟩
theorem Tryd.lays146 : Go.Proofs.Lays.n146 Tryd.prog Tryd.lays146_ren := {
  mixed := by kernel_rfl
  f138 := Tryd.func66.trans (congrArg some (by kernel_rfl))
  f143 := Tryd.func67.trans (congrArg some (by kernel_rfl))
  f146 := Tryd.func28.trans (congrArg some (by kernel_rfl))
  f195 := Tryd.func83.trans (congrArg some (by kernel_rfl))
  f197 := Tryd.func84.trans (congrArg some (by kernel_rfl))
  f217 := Tryd.func87.trans (congrArg some (by kernel_rfl))
  f218 := Tryd.func85.trans (congrArg some (by kernel_rfl))
  f219 := Tryd.func72.trans (congrArg some (by kernel_rfl))
  f221 := Tryd.func50.trans (congrArg some (by kernel_rfl))
  f224 := Tryd.func89.trans (congrArg some (by kernel_rfl))
  f225 := Tryd.func88.trans (congrArg some (by kernel_rfl))
  f260 := Tryd.func101.trans (congrArg some (by kernel_rfl))
  f266 := Tryd.func102.trans (congrArg some (by kernel_rfl))
  f267 := Tryd.func90.trans (congrArg some (by kernel_rfl))
  f268 := Tryd.func65.trans (congrArg some (by kernel_rfl))
  f314 := Tryd.func103.trans (congrArg some (by kernel_rfl))
  t0 := Tryd.underlying0
  a0 := Tryd.isAgg0
  z0 := Tryd.sizeOf0
  v0 := Tryd.zeroValue0
  t3 := Tryd.underlying3
  a3 := Tryd.isAgg3
  z3 := Tryd.sizeOf3
  v3 := Tryd.zeroValue3
  t4 := Tryd.underlying4
  a4 := Tryd.isAgg4
  z4 := Tryd.sizeOf4
  v4 := Tryd.zeroValue4
  t5 := Tryd.underlying5
  a5 := Tryd.isAgg5
  z5 := Tryd.sizeOf5
  v5 := Tryd.zeroValue5
  t9 := Tryd.underlying9
  a9 := Tryd.isAgg9
  z9 := Tryd.sizeOf9
  v9 := Tryd.zeroValue9
  t21 := Tryd.underlying21
  a21 := Tryd.isAgg21
  z21 := Tryd.sizeOf21
  v21 := Tryd.zeroValue21
  t31 := Tryd.underlying65
  a31 := Tryd.isAgg65
  z31 := Tryd.sizeOf65
  v31 := Tryd.zeroValue65
  t46 := Tryd.underlying111
  a46 := Tryd.isAgg111
  z46 := Tryd.sizeOf111
  v46 := Tryd.zeroValue111
  t51 := Tryd.underlying136
  a51 := Tryd.isAgg136
  z51 := Tryd.sizeOf136
  v51 := Tryd.zeroValue136
  t105 := Tryd.underlying123
  a105 := Tryd.isAgg123
  z105 := Tryd.sizeOf123
  v105 := Tryd.zeroValue123
  t119 := Tryd.underlying148
  a119 := Tryd.isAgg148
  z119 := Tryd.sizeOf148
  t138 := Tryd.underlying150
  a138 := Tryd.isAgg150
  z138 := Tryd.sizeOf150
  v138 := Tryd.zeroValue150
  t139 := Tryd.underlying151
  a139 := Tryd.isAgg151
  z139 := Tryd.sizeOf151
  v139 := Tryd.zeroValue151
  t146 := Tryd.underlying141
  a146 := Tryd.isAgg141
  z146 := Tryd.sizeOf141
  v146 := Tryd.zeroValue141
  g1 := by kernel_rfl
  g3 := by kernel_rfl
  g4 := by kernel_rfl }
def Tryd.lays145_ren : Go.Shelf.Ren := ⟨fun | 145 => 38 | 220 => 58 | 219 => 72 | 217 => 87 | 225 => 88 | 224 => 89 | 267 => 90 | 266 => 102 | 314 => 103 | n => n, fun | 9 => 9 | 4 => 4 | 59 => 75 | 3 => 3 | 5 => 5 | 46 => 111 | 146 => 141 | 51 => 136 | n => n, fun | 1 => 0 | n => n⟩
theorem Tryd.lays145 : Go.Proofs.Lays.n145 Tryd.prog Tryd.lays145_ren := {
  mixed := by kernel_rfl
  f145 := Tryd.func38.trans (congrArg some (by kernel_rfl))
  f217 := Tryd.func87.trans (congrArg some (by kernel_rfl))
  f219 := Tryd.func72.trans (congrArg some (by kernel_rfl))
  f220 := Tryd.func58.trans (congrArg some (by kernel_rfl))
  f224 := Tryd.func89.trans (congrArg some (by kernel_rfl))
  f225 := Tryd.func88.trans (congrArg some (by kernel_rfl))
  f266 := Tryd.func102.trans (congrArg some (by kernel_rfl))
  f267 := Tryd.func90.trans (congrArg some (by kernel_rfl))
  f314 := Tryd.func103.trans (congrArg some (by kernel_rfl))
  t3 := Tryd.underlying3
  a3 := Tryd.isAgg3
  z3 := Tryd.sizeOf3
  v3 := Tryd.zeroValue3
  t4 := Tryd.underlying4
  a4 := Tryd.isAgg4
  z4 := Tryd.sizeOf4
  v4 := Tryd.zeroValue4
  t5 := Tryd.underlying5
  a5 := Tryd.isAgg5
  z5 := Tryd.sizeOf5
  v5 := Tryd.zeroValue5
  t9 := Tryd.underlying9
  a9 := Tryd.isAgg9
  z9 := Tryd.sizeOf9
  v9 := Tryd.zeroValue9
  t46 := Tryd.underlying111
  a46 := Tryd.isAgg111
  z46 := Tryd.sizeOf111
  v46 := Tryd.zeroValue111
  t51 := Tryd.underlying136
  a51 := Tryd.isAgg136
  z51 := Tryd.sizeOf136
  v51 := Tryd.zeroValue136
  t59 := Tryd.underlying75
  a59 := Tryd.isAgg75
  z59 := Tryd.sizeOf75
  v59 := Tryd.zeroValue75
  t146 := Tryd.underlying141
  a146 := Tryd.isAgg141
  z146 := Tryd.sizeOf141
  v146 := Tryd.zeroValue141
  g1 := by kernel_rfl }
end Go.Proofs

/- Plain facts on texts: words with blanks between them, decimal numbers written and read. -/
namespace Orangery
open Go.Lib (itoa decDigits parseIntB parseUintM parseUintB NumEnd cut index)

/-- the words of a text -/
def wordsB : List UInt8 → List (List UInt8)
  | [] => [[]]
  | c :: r => if c = 32 then [] :: wordsB r else ((wordsB r).headD [] |>.cons c) :: (wordsB r).tail
theorem wordsB_ne (s : List UInt8) : wordsB s ≠ [] := by cases s with
  | nil => simp [wordsB]
  | cons c r => unfold wordsB; split <;> simp
theorem wordsB_split (s : List UInt8) : wordsB s = (wordsB s).headD [] :: (wordsB s).tail := by
  cases h : wordsB s with
  | nil => exact absurd h (wordsB_ne s)
  | cons a l => rfl

theorem index_blank_nil : index [] [32] = -1 := rfl
theorem index_blank (c : UInt8) (r : List UInt8) : index (c :: r) [32] = if c = 32 then 0 else if index r [32] = -1 then -1 else index r [32] + 1 := by
  have e : index (c :: r) [32] = if List.isPrefixOf [32] (c :: r) then 0 else if index r [32] == -1 then -1 else index r [32] + 1 := rfl
  rw [e]
  by_cases h : c = 32
  · subst h; simp [List.isPrefixOf]
  · have h2 : (32 == c) = false := by simp; exact fun e => h e.symm
    simp [List.isPrefixOf, h, h2]

/-- strings.Cut at a blank: the first word, the others -/
theorem cut_blank (s : List UInt8) : (cut s [32]).1 = (wordsB s).headD [] ∧ (wordsB s).tail = if (cut s [32]).2.2 = true then wordsB (cut s [32]).2.1 else [] := by
  induction s with
  | nil => decide
  | cons c r ih =>
    unfold cut at ih ⊢
    rw [index_blank]
    by_cases h : c = 32
    · subst h
      simp [wordsB]
    · rw [if_neg h]
      have hw : wordsB (c :: r) = ((wordsB r).headD [] |>.cons c) :: (wordsB r).tail := by
        conv => lhs; unfold wordsB
        rw [if_neg h]
      rw [hw]
      have hge := Go.Lib.index_ge r [32]
      by_cases h2 : index r [32] = -1
      · rw [h2] at ih ⊢
        simp at ih ⊢
        exact ih
      · have h3 : 0 ≤ index r [32] := by omega
        have h4 : 0 ≤ index r [32] + 1 := by omega
        have h5 : (index r [32] + 1).toNat = (index r [32]).toNat + 1 := by omega
        rw [if_pos h3] at ih
        rw [if_neg h2, if_pos h4, h5]
        simp only [List.headD_cons, List.tail_cons]
        have e1 : List.take ((index r [32]).toNat + 1) (c :: r) = c :: List.take (index r [32]).toNat r := rfl
        have e2 : List.drop ((index r [32]).toNat + 1 + [(32 : UInt8)].length) (c :: r) = List.drop ((index r [32]).toNat + [(32 : UInt8)].length) r := by
          rw [show (index r [32]).toNat + 1 + [(32 : UInt8)].length = ((index r [32]).toNat + [(32 : UInt8)].length) + 1 by simp]
          rfl
        rw [e1, e2]
        exact ⟨congrArg (c :: ·) ih.1, ih.2⟩

def glue (ws : List (List UInt8)) : List UInt8 := Go.Lib.join ws [32]
theorem glue_one (x : List UInt8) : glue [x] = x := Go.Lib.join_one x [32]
theorem glue_cons (x y : List UInt8) (ws : List (List UInt8)) : glue (x :: y :: ws) = x ++ 32 :: glue (y :: ws) := by
  unfold glue
  rw [Go.Lib.join_cons, Go.Lib.join_cons]
  simp [Go.Lib.joinTail]
theorem glue_words (s : List UInt8) : glue (wordsB s) = s := by
  induction s with
  | nil => rfl
  | cons c r ih =>
    unfold wordsB
    rw [wordsB_split r] at ih ⊢
    generalize (wordsB r).headD [] = x at *
    generalize (wordsB r).tail = l at *
    by_cases h : c = 32
    · rw [if_pos h, glue_cons, ih, h]; rfl
    · rw [if_neg h]
      simp only [List.headD_cons, List.tail_cons]
      cases l with
      | nil => rw [glue_one] at ih ⊢; rw [ih]
      | cons y l => rw [glue_cons] at ih ⊢; rw [← ih]; rfl
theorem words_one (x : List UInt8) (hx : ∀ c ∈ x, c ≠ 32) : wordsB x = [x] := by
  induction x with
  | nil => rfl
  | cons c r ih =>
    unfold wordsB
    rw [ih (fun d hd => hx d (by simp [hd])), if_neg (hx c (by simp))]
    rfl
theorem words_app (x : List UInt8) (hx : ∀ c ∈ x, c ≠ 32) (s : List UInt8) : wordsB (x ++ 32 :: s) = x :: wordsB s := by
  induction x with
  | nil => simp [wordsB]
  | cons c r ih =>
    rw [List.cons_append]
    conv => lhs; unfold wordsB
    rw [ih (fun d hd => hx d (by simp [hd])), if_neg (hx c (by simp))]
    rfl
theorem words_glue (ws : List (List UInt8)) (hn : ws ≠ []) (h : ∀ x ∈ ws, ∀ c ∈ x, c ≠ 32) : wordsB (glue ws) = ws := by
  induction ws with
  | nil => exact absurd rfl hn
  | cons x l ih =>
    cases l with
    | nil => rw [glue_one, words_one x (h x (by simp))]
    | cons y l =>
      rw [glue_cons, words_app x (h x (by simp)), ih (by simp) (fun z hz => h z (by simp [hz]))]

/-! numbers -/
theorem digits_small {u : Nat} (h : u < 10) : decDigits u = [UInt8.ofNat (48 + u)] := Go.Lib.decDigits_one h
theorem digits_big {u : Nat} (h : ¬ u < 10) : decDigits u = decDigits (u / 10) ++ [UInt8.ofNat (48 + u % 10)] := by rw [decDigits, dif_neg h]
theorem digit_nat {d : Nat} (h : d < 10) : (UInt8.ofNat (48 + d)).toNat = 48 + d := by
  rw [UInt8.toNat_ofNat']
  omega
theorem digits_all (u : Nat) : ∀ c ∈ decDigits u, 48 ≤ c.toNat ∧ c.toNat ≤ 57 := by
  induction u using Nat.strongRecOn with
  | _ u ih =>
    intro c hc
    by_cases h : u < 10
    · rw [digits_small h] at hc
      obtain rfl := List.mem_singleton.1 hc
      rw [digit_nat h]
      omega
    · rw [digits_big h] at hc
      rcases List.mem_append.1 hc with hc | hc
      · exact ih (u / 10) (by omega) c hc
      · obtain rfl := List.mem_singleton.1 hc
        rw [digit_nat (Nat.mod_lt _ (by omega))]
        omega
theorem digits_ne (u : Nat) : decDigits u ≠ [] := by
  by_cases h : u < 10
  · rw [digits_small h]; simp
  · rw [digits_big h]; simp
theorem itoa_blank (n : Int) : ∀ c ∈ itoa n, c ≠ 32 := by
  intro c hc e
  subst e
  unfold itoa at hc
  split at hc
  · simp at hc
    have := digits_all _ _ hc
    simp at this
  · have := digits_all _ _ hc
    simp at this

theorem parse_app (M : Nat) (l : List UInt8) (c : UInt8) : ∀ acc a, parseUintM M acc l = .ok a → parseUintM M acc (l ++ [c]) = parseUintM M a [c] := by
  induction l with
  | nil =>
    intro acc a h
    have : acc = a := by simpa [parseUintM] using h
    subst this
    rfl
  | cons d r ih =>
    intro acc a h
    rw [List.cons_append]
    unfold parseUintM at h ⊢
    split at h
    · rename_i h1
      rw [if_pos h1]
      split at h
      · simp at h
      · rename_i h2
        rw [if_neg h2]
        split at h
        · simp at h
        · rename_i h3
          rw [if_neg h3]
          exact ih _ _ h
    · simp at h
theorem parse_digits (u : Nat) (h : u ≤ 18446744073709551615) : parseUintM 18446744073709551615 0 (decDigits u) = .ok u := by
  induction u using Nat.strongRecOn with
  | _ u ih =>
    by_cases hu : u < 10
    · rw [digits_small hu]
      unfold parseUintM
      rw [digit_nat hu, if_pos (by omega), if_neg (by omega), if_neg (by omega)]
      unfold parseUintM
      congr 1
      omega
    · have h1 := ih (u / 10) (by omega) (by omega)
      rw [digits_big hu, parse_app _ _ _ _ _ h1]
      unfold parseUintM
      have hm : u % 10 < 10 := Nat.mod_lt _ (by omega)
      rw [digit_nat hm, if_pos (by omega), if_neg (by omega), if_neg (by omega)]
      unfold parseUintM
      congr 1
      omega
theorem parse_itoa (n : Int) (h0 : -9223372036854775808 ≤ n) (h1 : n ≤ 9223372036854775807) : parseIntB 64 (itoa n) = .ok n := by
  unfold itoa
  by_cases hn : n < 0
  · rw [if_pos hn]
    have hp := parse_digits n.natAbs (by omega)
    have hu : parseUintB 64 (decDigits n.natAbs) = .ok n.natAbs := by
      unfold parseUintB
      rw [if_neg (digits_ne _)]
      exact hp
    unfold parseIntB
    simp only [show (45 : UInt8).toNat = 45 from rfl, or_true, if_true, hu]
    rw [if_neg (by simp), if_neg (by simp; omega)]
    congr 1
    omega
  · rw [if_neg hn]
    have hp := parse_digits n.toNat (by omega)
    have ha := digits_all n.toNat
    cases hd : decDigits n.toNat with
    | nil => exact absurd hd (digits_ne _)
    | cons c r =>
      rw [hd] at hp ha
      have hc := ha c (by simp)
      have hu : parseUintB 64 (c :: r) = .ok n.toNat := by
        unfold parseUintB
        rw [if_neg (by simp)]
        exact hp
      unfold parseIntB
      simp only
      rw [if_neg (by omega), hu]
      simp only
      rw [if_neg (by omega), if_neg (by omega), if_neg (by omega)]
      congr 1
      omega

/-- a number as it is written: none where it is written otherwise -/
def numOf (t : List UInt8) : Option Int := match parseIntB 64 t with
  | .ok v => if itoa v = t then some v else none
  | _ => none
theorem numOf_itoa (n : Int) (h0 : -9223372036854775808 ≤ n) (h1 : n ≤ 9223372036854775807) : numOf (itoa n) = some n := by
  unfold numOf
  rw [parse_itoa n h0 h1]
  simp
theorem numOf_some {t : List UInt8} {v : Int} (h : numOf t = some v) : itoa v = t := by
  unfold numOf at h
  split at h
  · split at h
    · rename_i h1; simp at h; rw [← h]; exact h1
    · simp at h
  · simp at h
theorem itoa_inj {m n : Int} (m0 : -9223372036854775808 ≤ m) (m1 : m ≤ 9223372036854775807) (n0 : -9223372036854775808 ≤ n) (n1 : n ≤ 9223372036854775807) (h : itoa m = itoa n) : m = n := by
  have e1 := numOf_itoa m m0 m1
  have e2 := numOf_itoa n n0 n1
  rw [h, e2] at e1
  simpa using e1.symm

/-- all numbers, or none -/
def numsOf : List (List UInt8) → Option (List Int)
  | [] => some []
  | t :: l => match numOf t with
    | none => none
    | some v => (numsOf l).map (v :: ·)
theorem numsOf_map (l : List Int) (h : ∀ n ∈ l, -9223372036854775808 ≤ n ∧ n ≤ 9223372036854775807) : numsOf (l.map itoa) = some l := by
  induction l with
  | nil => rfl
  | cons n l ih =>
    rw [List.map_cons]
    unfold numsOf
    rw [numOf_itoa n (h n (by simp)).1 (h n (by simp)).2, ih (fun m hm => h m (by simp [hm]))]
    rfl
theorem numsOf_some (ws : List (List UInt8)) : ∀ l, numsOf ws = some l → ws = l.map itoa := by
  induction ws with
  | nil => intro l h; simp [numsOf] at h; rw [h]; rfl
  | cons t ws ih =>
    intro l h
    unfold numsOf at h
    split at h
    · simp at h
    · rename_i v hv
      rw [Option.map_eq_some_iff] at h
      obtain ⟨l', h1, rfl⟩ := h
      rw [List.map_cons, ← ih l' h1, numOf_some hv]
end Orangery

/- Plain functions and facts on trees as lists of places; nothing of the program is named here. -/
namespace Orangery

/-- a place: node, parent, name -/
abbrev Pl := Int × Int × Int

def find (l : List Pl) (n : Int) : Pl := (l.find? (fun p => p.1 == n)).getD (0, 0, 0)

theorem find_nil (n : Int) : find [] n = (0, 0, 0) := rfl
theorem find_cons (p : Pl) (l : List Pl) (n : Int) : find (p :: l) n = if p.1 = n then p else find l n := by
  unfold find
  by_cases h : p.1 = n <;> simp [h]

theorem find_drop (l : List Pl) (n : Int) (k : Nat) (h : k < l.length) (hf : find (l.drop k) n = find l n) :
    (l[k].1 = n → find l n = l[k]) ∧ (l[k].1 ≠ n → find (l.drop (k + 1)) n = find l n) := by
  rw [List.drop_eq_getElem_cons h, find_cons] at hf
  constructor
  · intro e; rw [if_pos e] at hf; exact hf.symm
  · intro e; rw [if_neg e] at hf; exact hf
def isNodeB (n : Int) : Bool := decide (0 ≤ n ∧ n ≤ 16)
def inRangeB (p : Pl) : Bool := decide (1 ≤ p.1 ∧ p.1 < 16 ∧ 0 ≤ p.2.1 ∧ p.2.1 ≤ 16 ∧ 0 ≤ p.2.2 ∧ p.2.2 ≤ 99)

/-- from one parent to the next one, at most so many steps -/
def meetsN (l : List Pl) (f : Int → Bool) : Nat → Int → Bool
  | 0, _ => false
  | k + 1, n => if (find l n).1 = 0 then false else if f (find l n).2.1 = true then true else meetsN l f k (find l n).2.1
theorem meetsN_step (l : List Pl) (f : Int → Bool) (k : Nat) (n : Int) (h : k < l.length) :
    ((find l n).1 = 0 → meetsN l f (l.length - k) n = false) ∧
    ((find l n).1 ≠ 0 → f (find l n).2.1 = true → meetsN l f (l.length - k) n = true) ∧
    ((find l n).1 ≠ 0 → f (find l n).2.1 = false → meetsN l f (l.length - k) n = meetsN l f (l.length - (k + 1)) (find l n).2.1) := by
  obtain ⟨j, hj⟩ : ∃ j, l.length - k = j + 1 := ⟨l.length - k - 1, by omega⟩
  have hj' : l.length - (k + 1) = j := by omega
  rw [hj, hj']
  refine ⟨fun h1 => ?_, fun h1 h2 => ?_, fun h1 h2 => ?_⟩
  · simp [meetsN, h1]
  · simp [meetsN, h1, h2]
  · simp [meetsN, h1, h2]
/-- the first look: place by place, each node above the one ahead -/
def scan : Int → List Pl → Int
  | _, [] => 0
  | a, p :: l => if inRangeB p = false then 3 else if p.1 ≤ a then 6 else scan p.1 l

def ringAt (l : List Pl) (p : Pl) : Bool := meetsN l (fun m => m == p.1) l.length p.1

/-- tree.Check -/
def check (l : List Pl) : Int := if scan 0 l ≠ 0 then scan 0 l else if l.any (ringAt l) = true then 4 else 0

theorem scan_step (l : List Pl) (k : Nat) (a : Int) (h : k < l.length) (hs : scan a (l.drop k) = scan 0 l) :
    (inRangeB l[k] = false → scan 0 l = 3) ∧ (inRangeB l[k] = true → l[k].1 ≤ a → scan 0 l = 6) ∧
    (inRangeB l[k] = true → ¬ l[k].1 ≤ a → scan l[k].1 (l.drop (k + 1)) = scan 0 l) := by
  rw [List.drop_eq_getElem_cons h] at hs
  refine ⟨fun h1 => ?_, fun h1 h2 => ?_, fun h1 h2 => ?_⟩
  · simp [scan, h1] at hs; exact hs.symm
  · simp [scan, h1, h2] at hs; exact hs.symm
  · simp only [scan, h1, h2, Bool.true_eq_false, ↓reduceIte] at hs; exact hs

theorem check_of_scan (l : List Pl) (h : scan 0 l ≠ 0) : check l = scan 0 l := by unfold check; rw [if_pos h]
theorem check_of_ring (l : List Pl) (h : scan 0 l = 0) (k : Nat) (hk : k < l.length) (hr : ringAt l l[k] = true) : check l = 4 := by
  unfold check
  rw [if_neg (by simp [h]), if_pos]
  exact List.any_eq_true.2 ⟨l[k], List.getElem_mem hk, hr⟩
theorem check_of_none (l : List Pl) (h : scan 0 l = 0) (hr : ∀ i, (hi : i < l.length) → ringAt l l[i] = false) : check l = 0 := by
  unfold check
  rw [if_neg (by simp [h]), if_neg]
  intro ha
  obtain ⟨p, hp, hq⟩ := List.any_eq_true.1 ha
  obtain ⟨i, hi, rfl⟩ := List.getElem_of_mem hp
  rw [hr i hi] at hq
  exact absurd hq (by simp)
/-- slices.IndexFunc -/
def idxF (f : Pl → Bool) : Nat → List Pl → Int
  | _, [] => -1
  | k, p :: l => if f p = true then (k : Int) else idxF f (k + 1) l

theorem idxF_step (f : Pl → Bool) (l : List Pl) (k : Nat) (h : k < l.length) (hs : idxF f k (l.drop k) = idxF f 0 l) :
    (f l[k] = true → idxF f 0 l = k) ∧ (f l[k] = false → idxF f (k + 1) (l.drop (k + 1)) = idxF f 0 l) := by
  rw [List.drop_eq_getElem_cons h] at hs
  refine ⟨fun h1 => ?_, fun h1 => ?_⟩
  · simp [idxF, h1] at hs; exact hs.symm
  · simp [idxF, h1] at hs; exact hs

theorem idxF_spec (n : Int) (l : List Pl) : ∀ k, (idxF (fun p => p.1 == n) k l = -1 ∧ find l n = (0, 0, 0)) ∨ ∃ i, ∃ h : i < l.length, idxF (fun p => p.1 == n) k l = ((k + i : Nat) : Int) ∧ find l n = l[i] := by
  induction l with
  | nil => intro k; exact Or.inl ⟨rfl, rfl⟩
  | cons p l ih =>
    intro k
    by_cases hp : p.1 = n
    · refine Or.inr ⟨0, by simp, ?_, ?_⟩
      · simp [idxF, hp]
      · rw [find_cons, if_pos hp]; rfl
    · rcases ih (k + 1) with ⟨h1, h2⟩ | ⟨i, hi, h1, h2⟩
      · refine Or.inl ⟨?_, ?_⟩
        · simp [idxF, hp, h1]
        · rw [find_cons, if_neg hp, h2]
      · refine Or.inr ⟨i + 1, by simp; omega, ?_, ?_⟩
        · simp [idxF, hp, h1]; omega
        · rw [find_cons, if_neg hp, h2]; rfl
theorem find_mem (l : List Pl) (n : Int) (h : (find l n).1 ≠ 0) : find l n ∈ l ∧ (find l n).1 = n := by
  induction l with
  | nil => simp [find_nil] at h
  | cons p l ih =>
    rw [find_cons] at h ⊢
    by_cases hp : p.1 = n
    · rw [if_pos hp]; exact ⟨by simp, hp⟩
    · rw [if_neg hp] at h ⊢
      obtain ⟨h1, h2⟩ := ih h
      exact ⟨by simp [h1], h2⟩

def hasB (x : Int) (l : List Int) : Bool := decide (x ∈ l)

/-- orangeryref.chain -/
def chainN (l : List Pl) : Nat → List Int → Int → List Int
  | 0, out, _ => out
  | k + 1, out, n => if (find l n).1 = 0 ∨ (find l n).2.1 ∈ out then out else chainN l k (out ++ [(find l n).2.1]) (find l n).2.1

def chain (l : List Pl) (n : Int) : List Int := chainN l 17 [n] n

theorem nodup_len (n : Nat) : ∀ (out : List Int), out.Nodup → (∀ x ∈ out, 0 ≤ x ∧ x < n) → out.length ≤ n := by
  induction n with
  | zero =>
    intro out _ hr
    cases out with
    | nil => simp
    | cons x t => have := hr x (by simp); omega
  | succ n ih =>
    intro out hd hr
    by_cases hm : (n : Int) ∈ out
    · have h1 := ih (out.erase (n : Int)) (hd.erase _) (fun x hx => by
        have h2 := hr x (List.mem_of_mem_erase hx)
        have h3 : x ≠ (n : Int) := fun e => by subst e; exact (List.Nodup.not_mem_erase hd) hx
        omega)
      rw [List.length_erase_of_mem hm] at h1
      omega
    · have := ih out hd (fun x hx => by
        have h2 := hr x hx
        have h3 : x ≠ (n : Int) := fun e => by subst e; exact hm hx
        omega)
      omega

def outOk (out : List Int) : Prop := out.Nodup ∧ (∀ x ∈ out, 0 ≤ x ∧ x < 17) ∧ 1 ≤ out.length

theorem outOk_len {out : List Int} (h : outOk out) : out.length ≤ 17 := nodup_len 17 out h.1 h.2.1

theorem outOk_one {n : Int} (h0 : 0 ≤ n) (h1 : n ≤ 16) : outOk [n] := by
  refine ⟨by simp, ?_, by simp⟩
  intro x hx
  simp at hx
  omega

theorem chainN_stop (l : List Pl) (out : List Int) (n : Int) (h : outOk out) (hs : (find l n).1 = 0 ∨ (find l n).2.1 ∈ out) : chainN l (18 - out.length) out n = out := by
  have := outOk_len h
  obtain ⟨j, hj⟩ : ∃ j, 18 - out.length = j + 1 := ⟨17 - out.length, by omega⟩
  rw [hj]
  simp [chainN, hs]

theorem chainN_go (l : List Pl) (out : List Int) (n : Int) (hr : ∀ p ∈ l, 0 ≤ p.2.1 ∧ p.2.1 ≤ 16) (h : outOk out) (h1 : (find l n).1 ≠ 0) (h2 : (find l n).2.1 ∉ out) :
    outOk (out ++ [(find l n).2.1]) ∧ chainN l (18 - out.length) out n = chainN l (18 - (out ++ [(find l n).2.1]).length) (out ++ [(find l n).2.1]) (find l n).2.1 := by
  have := outOk_len h
  have hp := hr _ (find_mem l n h1).1
  refine ⟨⟨?_, ?_, by simp⟩, ?_⟩
  · rw [List.nodup_append]
    refine ⟨h.1, by simp, ?_⟩
    intro a ha b hb
    simp at hb
    subst hb
    intro e
    subst e
    exact h2 ha
  · intro x hx
    simp at hx
    rcases hx with hx | hx
    · exact h.2.1 x hx
    · omega
  · obtain ⟨j, hj⟩ : ∃ j, 18 - out.length = j + 1 := ⟨17 - out.length, by omega⟩
    have hj' : 18 - (out ++ [(find l n).2.1]).length = j := by simp; omega
    rw [hj, hj']
    simp [chainN, h1, h2]
theorem inRangeB_iff (p : Pl) : inRangeB p = true ↔ 1 ≤ p.1 ∧ p.1 < 16 ∧ 0 ≤ p.2.1 ∧ p.2.1 ≤ 16 ∧ 0 ≤ p.2.2 ∧ p.2.2 ≤ 99 := by simp [inRangeB]

theorem scan_range (l : List Pl) : ∀ a, scan a l = 0 → ∀ p ∈ l, inRangeB p = true ∧ a < p.1 := by
  induction l with
  | nil => intro a _ p hp; simp at hp
  | cons q l ih =>
    intro a h p hp
    unfold scan at h
    split at h
    · omega
    · split at h
      · omega
      · rename_i h1 h2
        simp at hp h1
        rcases hp with rfl | hp
        · exact ⟨h1, by omega⟩
        · have := ih q.1 h p hp
          exact ⟨this.1, by omega⟩

def rRing (l : List Pl) (p : Pl) : Bool := hasB p.1 (chain l p.2.1)

/-- orangeryref.CheckTree -/
def checkR (l : List Pl) : Int := if scan 0 l ≠ 0 then scan 0 l else if l.any (rRing l) = true then 4 else 0

theorem checkR_of_scan (l : List Pl) (h : scan 0 l ≠ 0) : checkR l = scan 0 l := by unfold checkR; rw [if_pos h]
theorem checkR_of_ring (l : List Pl) (h : scan 0 l = 0) (k : Nat) (hk : k < l.length) (hr : rRing l l[k] = true) : checkR l = 4 := by
  unfold checkR
  rw [if_neg (by simp [h]), if_pos]
  exact List.any_eq_true.2 ⟨l[k], List.getElem_mem hk, hr⟩
theorem checkR_of_none (l : List Pl) (h : scan 0 l = 0) (hr : ∀ i, (hi : i < l.length) → rRing l l[i] = false) : checkR l = 0 := by
  unfold checkR
  rw [if_neg (by simp [h]), if_neg]
  intro ha
  obtain ⟨p, hp, hq⟩ := List.any_eq_true.1 ha
  obtain ⟨i, hi, rfl⟩ := List.getElem_of_mem hp
  rw [hr i hi] at hq
  exact absurd hq (by simp)
end Orangery

/- Plain functions: tree.Under; a small tree. -/
namespace Orangery

/-- tree.Under -/
def underE (l : List Pl) (n t : Int) : Int := if check l ≠ 0 then check l else if isNodeB n = true ∧ isNodeB t = true then 0 else 5
def underB (l : List Pl) (n t : Int) : Bool := if underE l n t ≠ 0 then false else (n == t) || meetsN l (fun m => m == t) l.length n

theorem underE_bad (l : List Pl) (n t : Int) (h : check l ≠ 0) : underE l n t = check l ∧ underB l n t = false := by
  have : underE l n t = check l := by simp [underE, h]
  exact ⟨this, by simp [underB, this, h]⟩
theorem underE_who (l : List Pl) (n t : Int) (h : check l = 0) (hn : ¬ (isNodeB n = true ∧ isNodeB t = true)) : underE l n t = 5 ∧ underB l n t = false := by
  have : underE l n t = 5 := by simp only [underE, h, ne_eq, not_true_eq_false, if_false, if_neg hn]
  exact ⟨this, by simp [underB, this]⟩
theorem underE_ok (l : List Pl) (n t : Int) (h : check l = 0) (h1 : isNodeB n = true) (h2 : isNodeB t = true) : underE l n t = 0 ∧ underB l n t = ((n == t) || meetsN l (fun m => m == t) l.length n) := by
  have : underE l n t = 0 := by simp [underE, h, h1, h2]
  exact ⟨this, by simp [underB, this]⟩

def smallL : List Pl := [(1, 0, 5), (2, 1, 7), (3, 1, 6), (4, 2, 0)]
def ringL : List Pl := [(1, 2, 0), (2, 1, 0)]
def cmpI (x y : Int) : Int := if x < y then -1 else if y < x then 1 else 0
def orI (x y : Int) : Int := if x ≠ 0 then x else y
/-- tree.byName -/
def byN (p q : Pl) : Int := orI (cmpI p.2.2 q.2.2) (cmpI p.1 q.1)
end Orangery

/- Plain facts on slices.DeleteFunc: what stays is what is kept. -/
namespace Orangery

/-- the contents m of a row in which i places are kept of the first j of l -/
def Kept (f : Pl → Bool) (l m : List Pl) (i j : Nat) : Prop :=
  m.length = l.length ∧ i < j ∧ j ≤ l.length ∧ m.take i = (l.take j).filter (fun p => !f p) ∧ m.drop j = l.drop j

theorem idxF_first (f : Pl → Bool) (l : List Pl) : ∀ k, (idxF f k l = -1 ∧ l.filter (fun p => !f p) = l) ∨ ∃ i, i < l.length ∧ idxF f k l = ((k + i : Nat) : Int) ∧ (l.take (i + 1)).filter (fun p => !f p) = l.take i := by
  induction l with
  | nil => intro k; exact Or.inl ⟨rfl, rfl⟩
  | cons p l ih =>
    intro k
    cases hp : f p
    · rcases ih (k + 1) with ⟨h1, h2⟩ | ⟨i, hi, h1, h2⟩
      · exact Or.inl ⟨by simp [idxF, hp, h1], by simp [hp, h2]⟩
      · refine Or.inr ⟨i + 1, by simp; omega, ?_, ?_⟩
        · simp [idxF, hp, h1]; omega
        · simp [hp] at h2 ⊢; exact h2
    · exact Or.inr ⟨0, by simp, by simp [idxF, hp], by simp [hp]⟩

theorem Kept.start (f : Pl → Bool) (l : List Pl) (i : Nat) (h : i < l.length) (hf : (l.take (i + 1)).filter (fun p => !f p) = l.take i) : Kept f l l i (i + 1) :=
  ⟨rfl, by omega, by omega, hf.symm, rfl⟩

theorem Kept.get {f : Pl → Bool} {l m : List Pl} {i j : Nat} (h : Kept f l m i j) (hj : j < l.length) : ∃ h' : j < m.length, m[j] = l[j] := by
  obtain ⟨h1, h2, h3, h4, h5⟩ := h
  refine ⟨by omega, ?_⟩
  have := congrArg (fun x => x[0]?) h5
  simp only [List.getElem?_drop, Nat.add_zero] at this
  rw [List.getElem?_eq_getElem (by omega), List.getElem?_eq_getElem hj] at this
  exact Option.some.inj this

theorem Kept.skip {f : Pl → Bool} {l m : List Pl} {i j : Nat} (h : Kept f l m i j) (hj : j < l.length) (hf : f l[j] = true) : Kept f l m i (j + 1) := by
  obtain ⟨h1, h2, h3, h4, h5⟩ := h
  refine ⟨h1, by omega, by omega, ?_, ?_⟩
  · rw [h4, List.take_succ_eq_append_getElem hj, List.filter_append]; simp [hf]
  · rw [← List.drop_drop, h5, List.drop_drop]

theorem Kept.keep {f : Pl → Bool} {l m : List Pl} {i j : Nat} (h : Kept f l m i j) (hj : j < l.length) (hf : f l[j] = false) : Kept f l (m.set i l[j]) (i + 1) (j + 1) := by
  obtain ⟨h1, h2, h3, h4, h5⟩ := h
  refine ⟨by simp [h1], by omega, by omega, ?_, ?_⟩
  · rw [List.take_succ_eq_append_getElem hj, List.filter_append]
    simp only [List.filter_cons, hf, Bool.not_false, if_true, List.filter_nil]
    rw [← h4, List.take_succ_eq_append_getElem (by simp; omega)]
    simp [List.take_set_of_le]
  · rw [List.drop_set_of_lt (by omega), ← List.drop_drop, h5, List.drop_drop]

theorem Kept.done {f : Pl → Bool} {l m : List Pl} {i j : Nat} (h : Kept f l m i j) (hj : ¬ j < l.length) : m.take i = l.filter (fun p => !f p) := by
  obtain ⟨h1, h2, h3, h4, h5⟩ := h
  rw [h4, List.take_of_length_le (by omega)]
/-- p stands ahead of q: by name, of like ones by node -/
def ltP (p q : Pl) : Prop := p.2.2 < q.2.2 ∨ (p.2.2 = q.2.2 ∧ p.1 < q.1)
def leP (p q : Pl) : Prop := p.2.2 < q.2.2 ∨ (p.2.2 = q.2.2 ∧ p.1 ≤ q.1)

theorem byN_lt (p q : Pl) : byN p q < 0 ↔ ltP p q := by
  unfold byN orI ltP cmpI
  by_cases h1 : p.2.2 < q.2.2
  · simp [h1]
  · by_cases h2 : q.2.2 < p.2.2
    · simp [h1, h2]; omega
    · by_cases h3 : p.1 < q.1
      · simp [h1, h2, h3]; omega
      · by_cases h4 : q.1 < p.1
        · simp [h1, h2, h3, h4]
        · simp [h1, h2, h3, h4]

theorem byN_ge (p q : Pl) : ¬ byN q p < 0 ↔ leP p q := by
  rw [byN_lt]
  unfold ltP leP
  omega
theorem scan_len (l : List Pl) : ∀ a : Int, scan a l = 0 → a ≤ 15 → (l.length : Int) ≤ 15 - a := by
  induction l with
  | nil => intro a _ h; simp; omega
  | cons p l ih =>
    intro a h ha
    unfold scan at h
    split at h
    · omega
    · split at h
      · omega
      · rename_i h1 h2
        simp at h1
        rw [inRangeB_iff] at h1
        have := ih p.1 h (by omega)
        simp only [List.length_cons]
        omega

theorem check_scan (l : List Pl) (h : check l = 0) : scan 0 l = 0 := by
  unfold check at h
  split at h
  · omega
  · rename_i h1; simpa using h1

theorem check_len (l : List Pl) (h : check l = 0) : l.length ≤ 15 := by
  have := scan_len l 0 (check_scan l h) (by omega)
  omega

/-- tree.Kids' error -/
def kidsE (l : List Pl) (n : Int) : Int := if check l ≠ 0 then check l else if isNodeB n = true then 0 else 5
end Orangery

