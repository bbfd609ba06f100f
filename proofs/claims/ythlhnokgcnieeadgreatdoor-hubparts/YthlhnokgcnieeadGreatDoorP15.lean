/- 7 texts of the proof: strings and strconv are the library's, by its own laws. (*strings.Builder).WriteString as the library lays it. The library's strings and numbers, in the words of PlainQ and PlainT: strconv.Itoa, FormatInt, Atoi, ParseInt; strings.Split, Cut, Join; strings.Builder. note.read. note.join. Slices of bytes: how they lie, are owned, are read as texts; the value of a disk. bytes.Cut is the library's, by  -/
import Derived.Shelf.Strings.OnBuilder
import Derived.Shelf.Strings.Split
import Derived.Shelf.Strings.Cut
import Derived.Shelf.Strconv.Itoa4
import Derived.Shelf.Strconv.ErrVarAll
import Derived.Shelf.Strconv.ErrVarParseInt
import Derived.Test.YthlhnokgcnieeadGreatDoorProg
import Derived.WalkSmall
import Derived.OwnWalk
import Derived.Deep.RegionHeld3
import Derived.Shelf.Bytes.SlEqualAll
import Derived.Shelf.Bytes.SlCut
import Derived.Test.YthlhnokgcnieeadGreatDoorP13
import Derived.Test.YthlhnokgcnieeadGreatDoorP03
import Derived.Test.YthlhnokgcnieeadGreatDoorP04
import Derived.Test.YthlhnokgcnieeadGreatDoorP06
/- strings and strconv are the library's, by its own laws. -/
namespace Go.Proofs
open Go.Shelf
def Tryz.lays169_ren : Go.Shelf.Ren := ⟨fun | 169 => 51 | n => n, fun | 70 => 105 | 9 => 9 | 0 => 0 | 72 => 107 | 37 => 45 | 127 => 133 | 3 => 3 | 5 => 5 | n => n, fun | n => n⟩
theorem Tryz.lays169 : Go.Proofs.Lays.n169 Tryz.prog Tryz.lays169_ren := {
  mixed := by kernel_rfl
  f169 := Tryz.func51.trans (congrArg some (by kernel_rfl))
  t0 := Tryz.underlying0
  a0 := Tryz.isAgg0
  z0 := Tryz.sizeOf0
  v0 := Tryz.zeroValue0
  t3 := Tryz.underlying3
  a3 := Tryz.isAgg3
  z3 := Tryz.sizeOf3
  v3 := Tryz.zeroValue3
  t9 := Tryz.underlying9
  a9 := Tryz.isAgg9
  z9 := Tryz.sizeOf9
  v9 := Tryz.zeroValue9
  t37 := Tryz.underlying45
  a37 := Tryz.isAgg45
  z37 := Tryz.sizeOf45
  v37 := Tryz.zeroValue45
  t70 := Tryz.underlying105
  a70 := Tryz.isAgg105
  z70 := Tryz.sizeOf105
  v70 := Tryz.zeroValue105
  t72 := Tryz.underlying107
  a72 := Tryz.isAgg107
  z72 := Tryz.sizeOf107
  v72 := Tryz.zeroValue107
  t127 := Tryz.underlying133
  a127 := Tryz.isAgg133
  z127 := Tryz.sizeOf133
  v127 := Tryz.zeroValue133 }
theorem Tryz.extra169 : Builder.Extra Tryz.prog Tryz.lays169_ren := {
  sizeBuilder := by kernel_rfl
  liesBuilder := by kernel_rfl
  t5 := Tryz.underlying5
  a5 := Tryz.isAgg5
  z5 := Tryz.sizeOf5
  v5 := Tryz.zeroValue5
  infoByte := by kernel_rfl
  cellsByte := by kernel_rfl
  sizeByte := by kernel_rfl
  neB5 := by decide }
def Tryz.laysC172_ren : Go.Shelf.Ren := ⟨fun | 172 => 110 | 244 => 135 | 245 => 136 | 247 => 151 | 279 => 152 | 280 => 153 | 281 => 154 | 282 => 155 | 287 => 164 | 316 => 165 | 171 => 50 | 205 => 166 | 321 => 178 | 322 => 179 | 243 => 65 | 246 => 84 | 283 => 100 | 284 => 101 | 285 => 102 | 286 => 103 | 129 => 122 | 317 => 126 | 318 => 127 | 319 => 128 | 320 => 129 | 337 => 145 | 338 => 146 | n => n, fun | 9 => 9 | 3 => 3 | 75 => 109 | 76 => 110 | 4 => 4 | 5 => 5 | 167 => 214 | 37 => 45 | 0 => 0 | 85 => 215 | 2 => 2 | 168 => 217 | 53 => 171 | 175 => 227 | 46 => 166 | 210 => 231 | 127 => 133 | 145 => 248 | 143 => 246 | 21 => 21 | 171 => 170 | 173 => 174 | 212 => 194 | 51 => 190 | 20 => 20 | 213 => 195 | 232 => 225 | 233 => 226 | 80 => 113 | n => n, fun | 15 => 4 | 16 => 5 | 17 => 1 | 18 => 2 | 19 => 3 | n => n⟩
theorem Tryz.laysC172 : Go.Proofs.LaysC.n172 Tryz.prog Tryz.laysC172_ren := {
  mixed := by kernel_rfl
  f129 := Tryz.func122.trans (congrArg some (by kernel_rfl))
  f171 := Tryz.func50.trans (congrArg some (by kernel_rfl))
  f172 := Tryz.func110.trans (congrArg some (by kernel_rfl))
  f205 := Tryz.func166.trans (congrArg some (by kernel_rfl))
  f243 := Tryz.func65.trans (congrArg some (by kernel_rfl))
  f244 := Tryz.func135.trans (congrArg some (by kernel_rfl))
  f245 := Tryz.func136.trans (congrArg some (by kernel_rfl))
  f246 := Tryz.func84.trans (congrArg some (by kernel_rfl))
  f247 := Tryz.func151.trans (congrArg some (by kernel_rfl))
  f279 := Tryz.func152.trans (congrArg some (by kernel_rfl))
  f280 := Tryz.func153.trans (congrArg some (by kernel_rfl))
  f281 := Tryz.func154.trans (congrArg some (by kernel_rfl))
  f282 := Tryz.func155.trans (congrArg some (by kernel_rfl))
  f283 := Tryz.func100.trans (congrArg some (by kernel_rfl))
  f284 := Tryz.func101.trans (congrArg some (by kernel_rfl))
  f285 := Tryz.func102.trans (congrArg some (by kernel_rfl))
  f286 := Tryz.func103.trans (congrArg some (by kernel_rfl))
  f287 := Tryz.func164.trans (congrArg some (by kernel_rfl))
  f316 := Tryz.func165.trans (congrArg some (by kernel_rfl))
  f317 := Tryz.func126.trans (congrArg some (by kernel_rfl))
  f318 := Tryz.func127.trans (congrArg some (by kernel_rfl))
  f319 := Tryz.func128.trans (congrArg some (by kernel_rfl))
  f320 := Tryz.func129.trans (congrArg some (by kernel_rfl))
  f321 := Tryz.func178.trans (congrArg some (by kernel_rfl))
  f322 := Tryz.func179.trans (congrArg some (by kernel_rfl))
  f337 := Tryz.func145.trans (congrArg some (by kernel_rfl))
  f338 := Tryz.func146.trans (congrArg some (by kernel_rfl))
  t0 := Tryz.underlying0
  a0 := Tryz.isAgg0
  z0 := Tryz.sizeOf0
  v0 := Tryz.zeroValue0
  t2 := Tryz.underlying2
  a2 := Tryz.isAgg2
  z2 := Tryz.sizeOf2
  v2 := Tryz.zeroValue2
  t3 := Tryz.underlying3
  a3 := Tryz.isAgg3
  z3 := Tryz.sizeOf3
  v3 := Tryz.zeroValue3
  t4 := Tryz.underlying4
  a4 := Tryz.isAgg4
  z4 := Tryz.sizeOf4
  v4 := Tryz.zeroValue4
  t5 := Tryz.underlying5
  a5 := Tryz.isAgg5
  z5 := Tryz.sizeOf5
  v5 := Tryz.zeroValue5
  t9 := Tryz.underlying9
  a9 := Tryz.isAgg9
  z9 := Tryz.sizeOf9
  v9 := Tryz.zeroValue9
  t20 := Tryz.underlying20
  a20 := Tryz.isAgg20
  z20 := Tryz.sizeOf20
  v20 := Tryz.zeroValue20
  t21 := Tryz.underlying21
  a21 := Tryz.isAgg21
  z21 := Tryz.sizeOf21
  v21 := Tryz.zeroValue21
  t37 := Tryz.underlying45
  a37 := Tryz.isAgg45
  z37 := Tryz.sizeOf45
  v37 := Tryz.zeroValue45
  t46 := Tryz.underlying166
  a46 := Tryz.isAgg166
  z46 := Tryz.sizeOf166
  v46 := Tryz.zeroValue166
  t51 := Tryz.underlying190
  a51 := Tryz.isAgg190
  z51 := Tryz.sizeOf190
  v51 := Tryz.zeroValue190
  t53 := Tryz.underlying171
  a53 := Tryz.isAgg171
  z53 := Tryz.sizeOf171
  v53 := Tryz.zeroValue171
  t75 := Tryz.underlying109
  a75 := Tryz.isAgg109
  z75 := Tryz.sizeOf109
  v75 := Tryz.zeroValue109
  t76 := Tryz.underlying110
  a76 := Tryz.isAgg110
  z76 := Tryz.sizeOf110
  v76 := Tryz.zeroValue110
  t85 := Tryz.underlying215
  a85 := Tryz.isAgg215
  z85 := Tryz.sizeOf215
  v85 := Tryz.zeroValue215
  t127 := Tryz.underlying133
  a127 := Tryz.isAgg133
  z127 := Tryz.sizeOf133
  v127 := Tryz.zeroValue133
  t143 := Tryz.underlying246
  a143 := Tryz.isAgg246
  z143 := Tryz.sizeOf246
  v143 := Tryz.zeroValue246
  t145 := Tryz.underlying248
  a145 := Tryz.isAgg248
  z145 := Tryz.sizeOf248
  v145 := Tryz.zeroValue248
  t167 := Tryz.underlying214
  a167 := Tryz.isAgg214
  z167 := Tryz.sizeOf214
  v167 := Tryz.zeroValue214
  t168 := Tryz.underlying217
  a168 := Tryz.isAgg217
  z168 := Tryz.sizeOf217
  v168 := Tryz.zeroValue217
  t171 := Tryz.underlying170
  a171 := Tryz.isAgg170
  z171 := Tryz.sizeOf170
  v171 := Tryz.zeroValue170
  t173 := Tryz.underlying174
  a173 := Tryz.isAgg174
  z173 := Tryz.sizeOf174
  v173 := Tryz.zeroValue174
  t175 := Tryz.underlying227
  a175 := Tryz.isAgg227
  z175 := Tryz.sizeOf227
  v175 := Tryz.zeroValue227
  t210 := Tryz.underlying231
  a210 := Tryz.isAgg231
  z210 := Tryz.sizeOf231
  v210 := Tryz.zeroValue231
  t212 := Tryz.underlying194
  a212 := Tryz.isAgg194
  z212 := Tryz.sizeOf194
  v212 := Tryz.zeroValue194
  t213 := Tryz.underlying195
  a213 := Tryz.isAgg195
  z213 := Tryz.sizeOf195
  t232 := Tryz.underlying225
  a232 := Tryz.isAgg225
  z232 := Tryz.sizeOf225
  v232 := Tryz.zeroValue225
  t233 := Tryz.underlying226
  a233 := Tryz.isAgg226
  z233 := Tryz.sizeOf226
  v233 := Tryz.zeroValue226
  g15 := by kernel_rfl
  g16 := by kernel_rfl
  g17 := by kernel_rfl
  g18 := by kernel_rfl
  g19 := by kernel_rfl
  t80 := Tryz.underlying113
  a80 := Tryz.isAgg113
  z80 := Tryz.sizeOf113
  v80 := Tryz.zeroValue113
  i0 := by kernel_rfl
  i2 := by kernel_rfl
  i3 := by kernel_rfl
  i4 := by kernel_rfl
  i5 := by kernel_rfl
  i9 := by kernel_rfl
  i20 := by kernel_rfl
  i21 := by kernel_rfl
  i37 := by kernel_rfl
  i46 := by kernel_rfl
  i51 := by kernel_rfl
  i53 := by kernel_rfl
  i75 := by kernel_rfl
  i76 := by kernel_rfl
  i80 := by kernel_rfl
  i85 := by kernel_rfl
  i127 := by kernel_rfl
  i143 := by kernel_rfl
  i145 := by kernel_rfl
  i167 := by kernel_rfl
  i168 := by kernel_rfl
  i171 := by kernel_rfl
  i173 := by kernel_rfl
  i175 := by kernel_rfl
  i210 := by kernel_rfl
  i212 := by kernel_rfl
  i232 := by kernel_rfl
  i233 := by kernel_rfl
  m15 := by kernel_rfl
  m16 := by kernel_rfl
  m17 := by kernel_rfl
  m18 := by kernel_rfl
  m19 := by kernel_rfl
  c0 := by kernel_rfl
  c2 := by kernel_rfl
  c3 := by kernel_rfl
  c4 := by kernel_rfl
  c5 := by kernel_rfl
  c9 := by kernel_rfl
  c20 := by kernel_rfl
  c21 := by kernel_rfl
  c37 := by kernel_rfl
  c46 := by kernel_rfl
  c51 := by kernel_rfl
  c53 := by kernel_rfl
  c75 := by kernel_rfl
  c76 := by kernel_rfl
  c80 := by kernel_rfl
  c85 := by kernel_rfl
  c127 := by kernel_rfl
  c143 := by kernel_rfl
  c145 := by kernel_rfl
  c167 := by kernel_rfl
  c168 := by kernel_rfl
  c171 := by kernel_rfl
  c173 := by kernel_rfl
  c175 := by kernel_rfl
  c210 := by kernel_rfl
  c212 := by kernel_rfl
  c213 := by kernel_rfl
  c232 := by kernel_rfl
  c233 := by kernel_rfl }
def Tryz.laysM171_ren : Go.Shelf.Ren := ⟨fun | 171 => 50 | 243 => 65 | 246 => 84 | 283 => 100 | 284 => 101 | 285 => 102 | 286 => 103 | 129 => 122 | 317 => 126 | 318 => 127 | 319 => 128 | 320 => 129 | 337 => 145 | 338 => 146 | n => n, fun | 3 => 3 | 9 => 9 | 2 => 2 | 4 => 4 | 171 => 170 | 0 => 0 | 53 => 171 | 37 => 45 | 5 => 5 | 173 => 174 | 212 => 194 | 51 => 190 | 20 => 20 | 213 => 195 | 46 => 166 | 232 => 225 | 233 => 226 | n => n, fun | 17 => 1 | 18 => 2 | 19 => 3 | n => n⟩
theorem Tryz.laysM171 : Go.Proofs.LaysM.n171 Tryz.prog Tryz.laysM171_ren := {
  mixed := by kernel_rfl
  f129 := Tryz.func122.trans (congrArg some (by kernel_rfl))
  f171 := Tryz.func50.trans (congrArg some (by kernel_rfl))
  f243 := Tryz.func65.trans (congrArg some (by kernel_rfl))
  f246 := Tryz.func84.trans (congrArg some (by kernel_rfl))
  f283 := Tryz.func100.trans (congrArg some (by kernel_rfl))
  f284 := Tryz.func101.trans (congrArg some (by kernel_rfl))
  f285 := Tryz.func102.trans (congrArg some (by kernel_rfl))
  f286 := Tryz.func103.trans (congrArg some (by kernel_rfl))
  f317 := Tryz.func126.trans (congrArg some (by kernel_rfl))
  f318 := Tryz.func127.trans (congrArg some (by kernel_rfl))
  f319 := Tryz.func128.trans (congrArg some (by kernel_rfl))
  f320 := Tryz.func129.trans (congrArg some (by kernel_rfl))
  f337 := Tryz.func145.trans (congrArg some (by kernel_rfl))
  f338 := Tryz.func146.trans (congrArg some (by kernel_rfl))
  t0 := Tryz.underlying0
  a0 := Tryz.isAgg0
  z0 := Tryz.sizeOf0
  v0 := Tryz.zeroValue0
  t2 := Tryz.underlying2
  a2 := Tryz.isAgg2
  z2 := Tryz.sizeOf2
  v2 := Tryz.zeroValue2
  t3 := Tryz.underlying3
  a3 := Tryz.isAgg3
  z3 := Tryz.sizeOf3
  v3 := Tryz.zeroValue3
  t4 := Tryz.underlying4
  a4 := Tryz.isAgg4
  z4 := Tryz.sizeOf4
  v4 := Tryz.zeroValue4
  t5 := Tryz.underlying5
  a5 := Tryz.isAgg5
  z5 := Tryz.sizeOf5
  v5 := Tryz.zeroValue5
  t9 := Tryz.underlying9
  a9 := Tryz.isAgg9
  z9 := Tryz.sizeOf9
  v9 := Tryz.zeroValue9
  t20 := Tryz.underlying20
  a20 := Tryz.isAgg20
  z20 := Tryz.sizeOf20
  v20 := Tryz.zeroValue20
  t37 := Tryz.underlying45
  a37 := Tryz.isAgg45
  z37 := Tryz.sizeOf45
  v37 := Tryz.zeroValue45
  t46 := Tryz.underlying166
  a46 := Tryz.isAgg166
  z46 := Tryz.sizeOf166
  v46 := Tryz.zeroValue166
  t51 := Tryz.underlying190
  a51 := Tryz.isAgg190
  z51 := Tryz.sizeOf190
  v51 := Tryz.zeroValue190
  t53 := Tryz.underlying171
  a53 := Tryz.isAgg171
  z53 := Tryz.sizeOf171
  v53 := Tryz.zeroValue171
  t171 := Tryz.underlying170
  a171 := Tryz.isAgg170
  z171 := Tryz.sizeOf170
  v171 := Tryz.zeroValue170
  t173 := Tryz.underlying174
  a173 := Tryz.isAgg174
  z173 := Tryz.sizeOf174
  v173 := Tryz.zeroValue174
  t212 := Tryz.underlying194
  a212 := Tryz.isAgg194
  z212 := Tryz.sizeOf194
  v212 := Tryz.zeroValue194
  t213 := Tryz.underlying195
  a213 := Tryz.isAgg195
  z213 := Tryz.sizeOf195
  t232 := Tryz.underlying225
  a232 := Tryz.isAgg225
  z232 := Tryz.sizeOf225
  v232 := Tryz.zeroValue225
  t233 := Tryz.underlying226
  a233 := Tryz.isAgg226
  z233 := Tryz.sizeOf226
  v233 := Tryz.zeroValue226
  g17 := by kernel_rfl
  g18 := by kernel_rfl
  g19 := by kernel_rfl
  i0 := by kernel_rfl
  i2 := by kernel_rfl
  i3 := by kernel_rfl
  i4 := by kernel_rfl
  i5 := by kernel_rfl
  i9 := by kernel_rfl
  i20 := by kernel_rfl
  i37 := by kernel_rfl
  i46 := by kernel_rfl
  i51 := by kernel_rfl
  i53 := by kernel_rfl
  i171 := by kernel_rfl
  i173 := by kernel_rfl
  i212 := by kernel_rfl
  i232 := by kernel_rfl
  i233 := by kernel_rfl
  m17 := by kernel_rfl
  m18 := by kernel_rfl
  m19 := by kernel_rfl }
def Tryz.lays146_ren : Go.Shelf.Ren := ⟨fun | 146 => 86 | 221 => 109 | 268 => 132 | 138 => 133 | 143 => 134 | 195 => 147 | 197 => 148 | 218 => 149 | 219 => 150 | 260 => 160 | 217 => 161 | 225 => 162 | 224 => 107 | 267 => 163 | 266 => 176 | 314 => 177 | n => n, fun | 9 => 9 | 31 => 152 | 3 => 3 | 4 => 4 | 0 => 0 | 105 => 211 | 21 => 21 | 5 => 5 | 46 => 166 | 119 => 239 | 139 => 242 | 138 => 241 | 146 => 196 | 51 => 190 | n => n, fun | 1 => 0 | 3 => 6 | 4 => 7 | n => n⟩
theorem Tryz.lays146 : Go.Proofs.Lays.n146 Tryz.prog Tryz.lays146_ren := {
  mixed := by kernel_rfl
  f138 := Tryz.func133.trans (congrArg some (by kernel_rfl))
  f143 := Tryz.func134.trans (congrArg some (by kernel_rfl))
  f146 := Tryz.func86.trans (congrArg some (by kernel_rfl))
  f195 := Tryz.func147.trans (congrArg some (by kernel_rfl))
  f197 := Tryz.func148.trans (congrArg some (by kernel_rfl))
  f217 := Tryz.func161.trans (congrArg some (by kernel_rfl))
  f218 := Tryz.func149.trans (congrArg some (by kernel_rfl))
  f219 := Tryz.func150.trans (congrArg some (by kernel_rfl))
  f221 := Tryz.func109.trans (congrArg some (by kernel_rfl))
  f224 := Tryz.func107.trans (congrArg some (by kernel_rfl))
  f225 := Tryz.func162.trans (congrArg some (by kernel_rfl))
  f260 := Tryz.func160.trans (congrArg some (by kernel_rfl))
  f266 := Tryz.func176.trans (congrArg some (by kernel_rfl))
  f267 := Tryz.func163.trans (congrArg some (by kernel_rfl))
  f268 := Tryz.func132.trans (congrArg some (by kernel_rfl))
  f314 := Tryz.func177.trans (congrArg some (by kernel_rfl))
  t0 := Tryz.underlying0
  a0 := Tryz.isAgg0
  z0 := Tryz.sizeOf0
  v0 := Tryz.zeroValue0
  t3 := Tryz.underlying3
  a3 := Tryz.isAgg3
  z3 := Tryz.sizeOf3
  v3 := Tryz.zeroValue3
  t4 := Tryz.underlying4
  a4 := Tryz.isAgg4
  z4 := Tryz.sizeOf4
  v4 := Tryz.zeroValue4
  t5 := Tryz.underlying5
  a5 := Tryz.isAgg5
  z5 := Tryz.sizeOf5
  v5 := Tryz.zeroValue5
  t9 := Tryz.underlying9
  a9 := Tryz.isAgg9
  z9 := Tryz.sizeOf9
  v9 := Tryz.zeroValue9
  t21 := Tryz.underlying21
  a21 := Tryz.isAgg21
  z21 := Tryz.sizeOf21
  v21 := Tryz.zeroValue21
  t31 := Tryz.underlying152
  a31 := Tryz.isAgg152
  z31 := Tryz.sizeOf152
  v31 := Tryz.zeroValue152
  t46 := Tryz.underlying166
  a46 := Tryz.isAgg166
  z46 := Tryz.sizeOf166
  v46 := Tryz.zeroValue166
  t51 := Tryz.underlying190
  a51 := Tryz.isAgg190
  z51 := Tryz.sizeOf190
  v51 := Tryz.zeroValue190
  t105 := Tryz.underlying211
  a105 := Tryz.isAgg211
  z105 := Tryz.sizeOf211
  v105 := Tryz.zeroValue211
  t119 := Tryz.underlying239
  a119 := Tryz.isAgg239
  z119 := Tryz.sizeOf239
  t138 := Tryz.underlying241
  a138 := Tryz.isAgg241
  z138 := Tryz.sizeOf241
  v138 := Tryz.zeroValue241
  t139 := Tryz.underlying242
  a139 := Tryz.isAgg242
  z139 := Tryz.sizeOf242
  v139 := Tryz.zeroValue242
  t146 := Tryz.underlying196
  a146 := Tryz.isAgg196
  z146 := Tryz.sizeOf196
  v146 := Tryz.zeroValue196
  g1 := by kernel_rfl
  g3 := by kernel_rfl
  g4 := by kernel_rfl }
end Go.Proofs

/- (*strings.Builder).WriteString as the library lays it. -/
namespace Go.Proofs
open Go.Shelf
def Tryz.lays166_ren : Go.Shelf.Ren := ⟨fun | 166 => 49 | 240 => 64 | 276 => 83 | n => n, fun | 0 => 0 | 3 => 3 | 4 => 4 | 5 => 5 | 9 => 9 | 20 => 20 | 37 => 45 | 70 => 105 | 72 => 107 | 75 => 109 | 80 => 113 | 164 => 148 | n => n, fun | n => n⟩
theorem Tryz.lays166 : Go.Proofs.Lays.n166 Tryz.prog Tryz.lays166_ren := {
  mixed := by kernel_rfl
  f166 := Tryz.func49.trans (congrArg some (by kernel_rfl))
  f240 := Tryz.func64.trans (congrArg some (by kernel_rfl))
  f276 := Tryz.func83.trans (congrArg some (by kernel_rfl))
  t0 := Tryz.underlying0
  a0 := Tryz.isAgg0
  z0 := Tryz.sizeOf0
  v0 := Tryz.zeroValue0
  t3 := Tryz.underlying3
  a3 := Tryz.isAgg3
  z3 := Tryz.sizeOf3
  v3 := Tryz.zeroValue3
  t4 := Tryz.underlying4
  a4 := Tryz.isAgg4
  z4 := Tryz.sizeOf4
  v4 := Tryz.zeroValue4
  t9 := Tryz.underlying9
  a9 := Tryz.isAgg9
  z9 := Tryz.sizeOf9
  v9 := Tryz.zeroValue9
  t20 := Tryz.underlying20
  a20 := Tryz.isAgg20
  z20 := Tryz.sizeOf20
  v20 := Tryz.zeroValue20
  t37 := Tryz.underlying45
  a37 := Tryz.isAgg45
  z37 := Tryz.sizeOf45
  v37 := Tryz.zeroValue45
  t70 := Tryz.underlying105
  a70 := Tryz.isAgg105
  z70 := Tryz.sizeOf105
  v70 := Tryz.zeroValue105
  t72 := Tryz.underlying107
  a72 := Tryz.isAgg107
  z72 := Tryz.sizeOf107
  v72 := Tryz.zeroValue107
  t75 := Tryz.underlying109
  a75 := Tryz.isAgg109
  z75 := Tryz.sizeOf109
  v75 := Tryz.zeroValue109
  t164 := Tryz.underlying148
  a164 := Tryz.isAgg148
  z164 := Tryz.sizeOf148
  v164 := Tryz.zeroValue148 }
theorem Tryz.extra166 : Builder.Extra Tryz.prog Tryz.lays166_ren := {
  sizeBuilder := by kernel_rfl
  liesBuilder := by kernel_rfl
  t5 := Tryz.underlying5
  a5 := Tryz.isAgg5
  z5 := Tryz.sizeOf5
  v5 := Tryz.zeroValue5
  infoByte := by kernel_rfl
  cellsByte := by kernel_rfl
  sizeByte := by kernel_rfl
  neB5 := by decide }
end Go.Proofs

/- The library's strings and numbers, in the words of PlainQ and PlainT: strconv.Itoa, FormatInt, Atoi, ParseInt; strings.Split, Cut, Join; strings.Builder. -/
namespace Go.Proofs.YthlhnokgcnieeadGreatDoor
open Go.ChangeShapes Go.WideShapes Go.ChangeAt Go.RowKit
open Orangery (wordsB glue)

/-- the value of a text -/
abbrev txV (l : List UInt8) : Value := .string ⟨l.toArray⟩

/-- what the library's own variables hold -/
structure Vars (w : World) : Prop where
  lo : 8 ≤ w.heap.size
  tab : Lib.TabIs Tryz.prog w "internal/strconv.uint64pow10" .u64 Lib.pow10Tab
  syn : ∃ te pe, w.var? Tryz.prog "strconv.ErrSyntax" = some #[.iface te pe]
  ran : ∃ te pe, w.var? Tryz.prog "strconv.ErrRange" = some #[.iface te pe]
  mx : ∃ m, w.cell? ⟨0, 0, none⟩ = some (.int .i64 m)

theorem powNamed : Tryz.prog.globalNamed "internal/strconv.uint64pow10" = some 1 := by kernel_rfl
theorem synNamed : Tryz.prog.globalNamed "strconv.ErrSyntax" = some 4 := by kernel_rfl
theorem ranNamed : Tryz.prog.globalNamed "strconv.ErrRange" = some 5 := by kernel_rfl

theorem Vars.keep {w w' : World} {B : Nat} (h : Vars w) (hb : Below B w w') (hB : 8 ≤ B) : Vars w' where
  lo := Nat.le_trans h.lo hb.size
  tab := var?_below hb powNamed (by omega) h.tab
  syn := by
    obtain ⟨te, pe, h1⟩ := h.syn
    exact ⟨te, pe, var?_below hb synNamed (by omega) h1⟩
  ran := by
    obtain ⟨te, pe, h1⟩ := h.ran
    exact ⟨te, pe, var?_below hb ranNamed (by omega) h1⟩
  mx := by
    obtain ⟨m, h1⟩ := h.mx
    exact ⟨m, by rw [hb.cell (show (⟨0, 0, none⟩ : Addr).block < B by show 0 < B; omega)]; exact h1⟩
theorem Vars.on {w w' : World} (h : Vars w) (hb : Below w.heap.size w w') : Vars w' := h.keep hb h.lo

theorem grow_size (w : World) (os : Array Obj) : (Go.Sort.grow w os).heap.size = w.heap.size + os.size := by simp [Go.Sort.grow]
theorem below_grow_drewN (w : World) (n : Nat) (os : Array Obj) : Below w.heap.size w (Go.Sort.grow (w.drewN n) os) :=
  ⟨rfl, rfl, rfl, by rw [grow_size]; exact Nat.le_add_right _ _, fun k hk => by
    show ((w.drewN n).heap ++ os)[k]? = w.heap[k]?
    rw [Array.getElem?_append_left (by exact hk)]
    rfl⟩

theorem itoa_any (w : World) (n : Int) (h0 : -9223372036854775808 ≤ n) (h1 : n ≤ 9223372036854775807) (hv : Vars w) :
    Calls Tryz.prog 50 #[.int .i64 n] w fun e w' => e = .returned (txV (Lib.itoa n)) ∧ Below w.heap.size w w' := by
  refine (Any.strconv_Itoa Tryz.laysM171 n h0 h1 w hv.tab).mono ?_
  rintro e w' ⟨rfl, k, os, rfl⟩
  exact ⟨rfl, below_grow_drewN w k os⟩
/-- a number, no number, or one that is too great -/
theorem numEnds (x : Lib.NumEnd Int) : (∃ v, x = .ok v) ∨ x = Lib.NumEnd.ofOption none ∨ x = .range := by
  cases x
  · exact Or.inl ⟨_, rfl⟩
  · exact Or.inr (Or.inl rfl)
  · exact Or.inr (Or.inr rfl)
theorem numEnds_two (x : Lib.NumEnd Int) : (∃ v, x = .ok v) ∨ ∀ v, x ≠ .ok v := by
  cases x
  · exact Or.inl ⟨_, rfl⟩
  · exact Or.inr (fun v e => by cases e)
  · exact Or.inr (fun v e => by cases e)

theorem atoi_ok (w : World) (t : List UInt8) (v : Int) (hl : t.length ≤ 60000) (h : Lib.atoiAll t = .ok v) :
    Calls Tryz.prog 110 #[txV t] w fun e w' => e = .returned (.tuple #[.int .i64 v, .nilIface]) ∧ Below w.heap.size w w' := by
  refine (Any.strconv_Atoi_ok Tryz.laysC172 ⟨t.toArray⟩ (by rw [Orangery.bytes_size]; omega) v h w).mono ?_
  rintro e w' ⟨rfl, rfl | ⟨s, rfl⟩⟩
  · exact ⟨rfl, Below.refl _ _⟩
  · exact ⟨rfl, Lib.bytesWorld_below _ _ _⟩
theorem atoi_bad (w : World) (t : List UInt8) (hl : t.length ≤ 60000) (h : ∀ v, Lib.atoiAll t ≠ .ok v) (hv : Vars w) :
    Calls Tryz.prog 110 #[txV t] w fun e w' => (∃ v te pe, e = .returned (.tuple #[.int .i64 v, .iface te pe])) ∧ Below w.heap.size w w' := by
  rcases numEnds (Lib.atoiAll t) with ⟨v, hq⟩ | hq | hq
  · exact absurd hq (h v)
  · obtain ⟨te, pe, h1⟩ := hv.syn
    refine (Any.strconv_Atoi_syntax_var Tryz.laysC172 ⟨t.toArray⟩ (by rw [Orangery.bytes_size]; omega) (hq) te pe w h1).mono ?_
    rintro e w' ⟨N, rfl, _, _, hb⟩
    exact ⟨⟨_, _, _, rfl⟩, hb⟩
  · obtain ⟨te, pe, h1⟩ := hv.ran
    refine (Any.strconv_Atoi_range_var Tryz.laysC172 ⟨t.toArray⟩ (by rw [Orangery.bytes_size]; omega) (hq) te pe w h1).mono ?_
    rintro e w' ⟨N, rfl, _, _, hb⟩
    exact ⟨⟨_, _, _, rfl⟩, hb⟩

/-- the cell of a text -/
def txC (l : List UInt8) : List Value := [txV l]
theorem txC_len (l : List UInt8) : (txC l).length = 1 := rfl

/-- strings.Split at a blank -/
theorem ssplit_any (w : World) (t : List UInt8) (hl : t.length ≤ 60000) (hv : Vars w) :
    Calls Tryz.prog 86 #[txV t, txV [32]] w fun e w' =>
      e = .returned (.slice (some ⟨w.heap.size, 0, none⟩) (wordsB t).length (wordsB t).length) ∧ w' = w.alloc (.cells ((wordsB t).map txV).toArray 9) := by
  obtain ⟨m, hm⟩ := hv.mx
  refine (Any.strings_Split Tryz.lays146 (by kernel_rfl) ⟨t.toArray⟩ ⟨#[32]⟩ m w (by rw [Orangery.bytes_size]; omega) hm (by decide)).mono ?_
  rintro e w' ⟨rfl, rfl⟩
  rw [Orangery.splitB_strs, Orangery.countB_words]
  refine ⟨rfl, ?_⟩
  rw [List.map_map]
  rfl

/-- a builder of the call's own, from block B on, that holds the text -/
def Built (w : World) (B b : Nat) (l : List UInt8) : Prop := Lib.IsBuilder 107 5 B b (Lib.byteCells l) w
theorem Built.new (w : World) : Built (w.alloc (.cells #[.pointer none, .slice none 0 0] 107)) w.heap.size w.heap.size [] := Lib.fresh_isBuilder 107 5 w
theorem Built.keep {w w' : World} {B b : Nat} {l : List UInt8} (h : Built w B b l) (hb : Below w.heap.size w w') : Built w' B b l := by
  rcases h with ⟨h1, v, h2, h3, h4⟩ | ⟨h1, v, h2, h3, h4⟩
  · exact Or.inl ⟨h1, v, by rw [hb.block b (blk_lt h2)]; exact h2, own_below h3 hb, h4⟩
  · exact Or.inr ⟨h1, v, by rw [hb.block b (blk_lt h2)]; exact h2, own_below h3 hb, h4⟩
theorem write_any (w : World) (B b : Nat) (l t : List UInt8) (h : Built w B b l) (hl : l.length + t.length ≤ 60000) (hB : B ≤ w.heap.size) :
    Calls Tryz.prog 49 #[.pointer (some ⟨b, 0, none⟩), txV t] w fun e w' => (∃ n, e = .returned (.tuple #[.int .i64 n, .nilIface])) ∧ Built w' B b (l ++ t) ∧ Below B w w' := by
  refine (Any.Builder_WriteString (ρ := Tryz.lays166_ren) Tryz.lays166 Tryz.extra166 B b (Lib.byteCells l) ⟨t.toArray⟩ w h (by rw [Lib.byteCells_length, Orangery.bytes_size]; omega) hB).mono ?_
  rintro e w' ⟨rfl, h1, h2⟩
  refine ⟨⟨_, rfl⟩, Or.inr ?_, h2⟩
  rw [Lib.byteCells_append]
  exact h1
theorem built_any (w : World) (B b : Nat) (l : List UInt8) (h : Built w B b l) (hB : B ≤ w.heap.size) :
    Calls Tryz.prog 51 #[.pointer (some ⟨b, 0, none⟩)] w fun e w' => e = .returned (txV l) ∧ Below B w w' :=
  Any.Builder_String_any Tryz.lays169 Tryz.extra169 B b l w h hB
end Go.Proofs.YthlhnokgcnieeadGreatDoor

/- note.read. -/
namespace Go.Proofs.YthlhnokgcnieeadGreatDoor
open Go.ChangeShapes Go.WideShapes Go.ChangeAt Go.RowKit
open Orangery (numOf numsOf)

theorem SlE.text {w : World} {a : Option Addr} {l : List (List UInt8)} (h : SlE txC w a l) (k : Nat) (hk : k < l.length) :
    ∃ b off, a = some ⟨b, off, none⟩ ∧ b < w.heap.size ∧ w.cell? ⟨b, off + k, none⟩ = some (txV l[k]) := by
  obtain ⟨b, off, e, hb, hr⟩ := h.at txC_len k hk
  refine ⟨b, off, e, hb, ?_⟩
  have := hr 0 (txV l[k]) rfl
  simpa using this

set_option maxHeartbeats 1000000 in
set_option maxRecDepth 100000 in
theorem nread_any (w : World) (a : Option Addr) (c : Nat) (ws : List (List UInt8)) (hl : ws.length ≤ 60001) (hw : ∀ t ∈ ws, t.length ≤ 60000) (h : SlE txC w a ws) (hv : Vars w) :
    Calls Tryz.prog 87 #[.slice a ws.length c] w
      fun e w' => (∃ v, e = .returned (.tuple #[v, .bool (numsOf ws).isSome]) ∧ OwnI w' w.heap.size v ((numsOf ws).getD [])) ∧ Below w.heap.size w w' := by
  obtain ⟨i0, hi, hz0, hz1, hz2⟩ := info_parts infoInt
  have HH : Hid (SlE txC w a ws) := h
  have HW : Hid (∀ t ∈ ws, t.length ≤ 60000) := hw
  have HV : Hid (Vars w) := hv
  clear h hw hv
  go_enter Tryz.func87, Tryz.ntmps87
  go_wp2_with (at_make; refine wpList_make_full _ rfl _ _ 37 rfl w.heap.size 3 i0 _ 1 Tryz.underlying37 hi hz0 hz1 .i64 .i64 _ _ ws.length rfl rfl rfl rfl ?c1 ?c2 ?c3 ?_)
  case c1 => rw [hz2]; omega
  case c2 => unfold maxLen; omega
  case c3 => exact Nat.le_refl _
  intro w1 hown hgrow
  have hb1 : Below w.heap.size w w1 := below_grown (v := .slice none 0 0) (World.ownsRow_nil _ _ 3 1) (Nat.le_refl _) hgrow
  obtain ⟨cur0, hcur0, hsz0⟩ : ∃ cur, w1.heap[w.heap.size]? = some (.cells cur 3 (0, 0)) ∧ cur.size = ws.length := by
    rcases hown.2 with ⟨h', _⟩ | ⟨g, cap, cur, h', _, hh, _, _, hs, _⟩
    · simp at h'
    · simp at h'
      obtain ⟨rfl, rfl⟩ := h'
      exact ⟨cur, hh, by simpa using hs⟩
  clear hown hgrow
  go_wp2
  go_loopw [14] (fun i W => ∃ (k : Nat) (cur : Array Value) (L : List Int), k ≤ ws.length ∧ i = .int .i64 k ∧ W.heap[w.heap.size]? = some (.cells cur 3 (0, 0)) ∧ cur.size = ws.length ∧ numsOf (ws.take k) = some L ∧ cur.toList.take k = L.map (Value.int .i64) ∧ Below w.heap.size w W) (fun i _ => ws.length - (intOf i).toNat)
  case atStart => exact ⟨0, cur0, [], Nat.zero_le _, rfl, hcur0, hsz0, rfl, by simp, hb1⟩
  case round =>
    clear hcur0 hsz0 hb1
    obtain ⟨k, cur, L, hk, rfl, hcur, hsz, hnum, htk, hb⟩ := hrel
    have HB : Hid (Below w.heap.size w wr) := hb
    have HCUR : Hid (wr.heap[w.heap.size]? = some (.cells cur 3 (0, 0)) ∧ cur.size = ws.length ∧ numsOf (ws.take k) = some L ∧ cur.toList.take k = L.map (Value.int .i64)) := ⟨hcur, hsz, hnum, htk⟩
    clear hb hcur hsz hnum htk
    by_cases hlt : k < ws.length
    · obtain ⟨b, off, rfl, hbl, g0⟩ := (HH.out.below HB.out).text k hlt
      have HT : Hid (numsOf (ws.take (k + 1)) = (numOf ws[k]).map fun v => L ++ [v]) := Orangery.numsOf_take ws k hlt L HCUR.out.2.2.1
      have hln : (ws[k]).length ≤ 60000 := HW.out _ (List.getElem_mem hlt)
      generalize ws[k] = t at *
      rcases numEnds_two (Lib.atoiAll t) with ⟨v, hq⟩ | hq
      · skip
        obtain ⟨v0, v1⟩ := Orangery.atoi_bounds hq
        have HN : Hid (numOf t = if Lib.itoa v = t then some v else none) := Orangery.numOf_ok hq
        have HQ : Hid (Lib.atoiAll t = .ok v) := hq
        clear hq
        go_wp2_with fail
        refine (atoi_ok _ t v hln HQ.out).mono ?_
        rintro e w2 ⟨rfl, hb2⟩
        have HB2 : Hid (Below wr.heap.size wr w2) := hb2
        have HV2 : Hid (Vars w2) := (HV.out.on HB.out).on hb2
        clear hb2
        go_wp2_with fail
        refine (itoa_any _ v v0 v1 HV2.out).mono ?_
        rintro e w3 ⟨rfl, hb3⟩
        have HB3 : Hid (Below wr.heap.size wr w3) := HB2.out.trans (hb3.mono HB2.out.size)
        clear hb3 HB2 HV2
        by_cases he : Lib.itoa v = t
        · have d1 : (Lib.itoa v == t) = true := by simpa using he
          have HN2 : Hid (numOf t = some v) := by show _ = _; rw [HN.out, if_pos he]
          have HE : Hid (Lib.itoa v = t) := he
          clear he HN
          obtain ⟨hcur, hsz, hnum, htk⟩ := HCUR.out
          have hgl : w.heap.size < wr.heap.size := blk_lt hcur
          have hcur3 : w3.heap[w.heap.size]? = some (.cells cur 3 (0, 0)) := by rw [HB3.out.block _ hgl]; exact hcur
          have hkc : k < cur.size := by omega
          obtain ⟨u0, c1⟩ : ∃ u0, w3.cell? ⟨w.heap.size, k, none⟩ = some u0 :=
            ⟨cur[k], by rw [Go.Joins.cell_of_block hcur3, Array.getElem?_eq_getElem hkc]⟩
          have c2 : w3.frozen? ⟨w.heap.size, k, none⟩ = false := Go.Joins.unfrozen_of_block hcur3 _
          have HC : Hid ((w3.setCell ⟨w.heap.size, k, none⟩ (.int .i64 v)).heap[w.heap.size]? = some (.cells (cur.setIfInBounds k (.int .i64 v)) 3 (0, 0))) := heap_setCell_same w3 w.heap.size k cur 3 _ hcur3
          have HBW : Hid (Below w.heap.size w w3) := HB.out.trans (HB3.out.mono HB.out.size)
          have HR : Hid ((cur.setIfInBounds k (.int .i64 v)).size = ws.length ∧ (cur.setIfInBounds k (.int .i64 v)).toList.take (k + 1) = (L ++ [v]).map (Value.int .i64)) := by
            refine ⟨by simpa using hsz, ?_⟩
            rw [Array.toList_setIfInBounds, List.take_succ_eq_append_getElem (by simpa using hkc), List.take_set_of_le (Nat.le_refl _), htk]
            simp
          clear hcur hsz hnum htk hgl hcur3 hkc HB3 HCUR
          go_wp2
          go_roundw
          case rel =>
            refine ⟨k + 1, _, L ++ [v], hlt, by go_num, HC.out, HR.out.1, ?_, HR.out.2, HBW.out.setCell (p := ⟨w.heap.size, k, none⟩) (Nat.le_refl _) _⟩
            rw [HT.out, HN2.out]
            rfl
          case measure => simp [intOf]; omega
        · have d1 : (Lib.itoa v == t) = false := by simpa using he
          have HN2 : Hid (numOf t = none) := by show _ = _; rw [HN.out, if_neg he]
          have HE : Hid (Lib.itoa v ≠ t) := he
          clear he HN
          have HB2 : Hid (Below w.heap.size w w3) := HB.out.trans (HB3.out.mono HB.out.size)
          have HX : Hid (numsOf ws = none) := Orangery.numsOf_stop ws (k + 1) (by rw [HT.out, HN2.out]; rfl)
          clear HB3
          go_wp2
          go_ret2
          exact ⟨⟨_, by rw [HX.out]; rfl, by rw [HX.out]; exact World.ownsRow_nil _ _ _ _⟩, HB2.out⟩
      · skip
        have HN2 : Hid (numOf t = none) := Orangery.numOf_bad hq
        have HX : Hid (numsOf ws = none) := Orangery.numsOf_stop ws (k + 1) (by rw [HT.out, HN2.out]; rfl)
        have HQ : Hid (∀ v, Lib.atoiAll t ≠ .ok v) := hq
        have HV2 : Hid (Vars wr) := HV.out.on HB.out
        clear hq
        go_wp2_with fail
        refine (atoi_bad _ t hln HQ.out HV2.out).mono ?_
        rintro e w2 ⟨⟨v, te, pe, rfl⟩, hb2⟩
        have HB2 : Hid (Below w.heap.size w w2) := HB.out.trans (hb2.mono HB.out.size)
        clear hb2
        go_wp2
        go_ret2
        exact ⟨⟨_, by rw [HX.out]; rfl, by rw [HX.out]; exact World.ownsRow_nil _ _ _ _⟩, HB2.out⟩
    · have hk' : k = ws.length := by omega
      subst hk'
      obtain ⟨hcur, hsz, hnum, htk⟩ := HCUR.out
      rw [List.take_length] at hnum
      rw [List.take_of_length_le (by simp; omega)] at htk
      have HX : Hid (numsOf ws = some L) := hnum
      have hlen : L.length = ws.length := Orangery.numsOf_len ws L hnum
      have HO : Hid (OwnI wr w.heap.size (.slice (some ⟨w.heap.size, 0, none⟩) ws.length ws.length) L) := by
        show wr.ownsRow _ _ _ _ _ _
        rw [hlen]
        exact ⟨by simpa using hlen, Or.inr ⟨w.heap.size, ws.length, cur, rfl, Nat.le_refl _, hcur, Nat.le_refl _, by unfold maxLen; omega, by simpa using hsz, by rw [List.take_of_length_le (by simp; omega)]; exact htk⟩⟩
      clear hcur hsz hnum htk hlen HCUR
      go_wp2
      go_ret2
      exact ⟨⟨_, by rw [HX.out]; rfl, by rw [HX.out]; exact HO.out⟩, HB.out⟩
end Go.Proofs.YthlhnokgcnieeadGreatDoor

/- note.join. -/
namespace Go.Proofs.YthlhnokgcnieeadGreatDoor
open Go.ChangeShapes Go.WideShapes Go.ChangeAt Go.RowKit
open Orangery (Mv Rc noRec noOp recOf wOp wLife wRoots)

/-- an address from block B on -/
def From (B : Nat) (a : Option Addr) : Prop := ∀ b off, a = some ⟨b, off, none⟩ → B ≤ b
theorem from_none {B : Nat} : From B none := fun _ _ e => by simp at e
theorem from_mono {B B' : Nat} {a : Option Addr} (h : From B a) (hb : B' ≤ B) : From B' a := fun b off e => Nat.le_trans hb (h b off e)
theorem from_own {W : World} {base : Nat} {a : Option Addr} {n c : Nat} {l : List Int} (h : OwnI W base (.slice a n c) l) : From base a := by
  rcases h.2 with ⟨e2, _⟩ | ⟨g, cap', cur, e2, hg, _⟩
  · intro b off e
    subst e
    simp at e2
  · intro b off e
    subst e
    simp at e2
    omega
theorem OwnI.caps {w : World} {base : Nat} {v : Value} {l : List Int} (h : OwnI w base v l) : ∃ a cap, v = .slice a l.length cap ∧ SlI w a l ∧ l.length ≤ cap ∧ cap ≤ maxLen := by
  obtain ⟨a, cap, e, hs⟩ := h.val
  refine ⟨a, cap, e, hs, ?_⟩
  rcases h.2 with ⟨e2, hn⟩ | ⟨g, cap', cur, e2, _, _, hn, hm, _⟩
  · rw [e] at e2
    obtain ⟨_, h2, h3⟩ : a = none ∧ l.length = 0 ∧ cap = 0 := by simpa using e2
    omega
  · rw [e] at e2
    obtain ⟨_, rfl⟩ : a = _ ∧ cap = cap' := by simpa using e2
    exact ⟨hn, hm⟩

theorem SlI.sets {w : World} {a : Option Addr} {l : List Int} {B g : Nat} (h : SlI w a l) (hf : From B a) (hg : g < B) : ∀ (us : List Value) (o : Nat), SlI (w.setCells g o us) a l := by
  intro us
  induction us generalizing w with
  | nil => intro o; exact h
  | cons u us ih =>
    intro o
    refine ih (w := w.setCell ⟨g, o, none⟩ u) ?_ (o + 1)
    rcases h with h | ⟨b, off, e, hlt, hp⟩
    · exact Or.inl h
    · refine Or.inr ⟨b, off, e, by simpa using hlt, fun i hi => ?_⟩
      have := hf b off e
      rw [World.cell?_setCell_other _ _ _ _ (by simp <;> omega)]
      exact hp i hi

/-- an address in a row of ints -/
def TagI (w : World) (a : Option Addr) : Prop := ∀ b off, a = some ⟨b, off, none⟩ → ∃ cs fr, w.heap[b]? = some (.cells cs 3 fr)
theorem tag_none (w : World) : TagI w none := fun _ _ e => by simp at e
theorem TagI.keep {w w' : World} {a : Option Addr} (h : TagI w a) (hb : Below w.heap.size w w') : TagI w' a := by
  intro b off e
  obtain ⟨cs, fr, hc⟩ := h b off e
  exact ⟨cs, fr, by rw [hb.block b (blk_lt hc)]; exact hc⟩
theorem tag_own {W : World} {base : Nat} {a : Option Addr} {n c : Nat} {l : List Int} (h : OwnI W base (.slice a n c) l) : TagI W a := by
  rcases h.2 with ⟨e2, _⟩ | ⟨g, cap', cur, e2, hg, hh, _⟩
  · intro b off e
    subst e
    simp at e2
  · intro b off e
    subst e
    simp at e2
    obtain ⟨⟨rfl, _⟩, _⟩ := e2
    exact ⟨cur, (0, 0), hh⟩
theorem TagI.sets {w : World} {a : Option Addr} {B g : Nat} (h : TagI w a) (hf : From B a) (hg : g < B) : ∀ (us : List Value) (o : Nat), TagI (w.setCells g o us) a := by
  intro us
  induction us generalizing w with
  | nil => intro o; exact h
  | cons u us ih =>
    intro o
    refine ih (w := w.setCell ⟨g, o, none⟩ u) ?_ (o + 1)
    intro b off e
    obtain ⟨cs, fr, hc⟩ := h b off e
    have := hf b off e
    exact ⟨cs, fr, by rw [heap_setCell_other w ⟨g, o, none⟩ b u (by show b ≠ g; omega)]; exact hc⟩

/-- the value of a record whose roots lie in memory, from block B on, in a row of ints -/
def RecIs (B : Nat) (w : World) (v : Value) (r : Rc) : Prop := ∃ a c, v = rcV r.1 r.2.1 r.2.2.1 (.slice a r.2.2.2.1.length c) r.2.2.2.2 ∧ SlI w a r.2.2.2.1 ∧ From B a ∧ (a = none → c = 0) ∧ TagI w a
theorem RecIs.keep {B : Nat} {w w' : World} {v : Value} {r : Rc} (h : RecIs B w v r) (hb : Below w.heap.size w w') : RecIs B w' v r := by
  obtain ⟨a, c, e, hs, hf, hn, ht⟩ := h
  exact ⟨a, c, e, hs.below hb, hf, hn, ht.keep hb⟩
theorem recIs_none (B : Nat) (w : World) : RecIs B w (rcV 0 0 0 (.slice none 0 0) noOp) noRec := ⟨none, 0, rfl, SlI.nil, from_none, fun _ => rfl, tag_none w⟩
theorem sizeRec : (Tryz.prog.info? 43).map (·.size) = some 11 := by kernel_rfl

theorem recOf_op {t : List UInt8} {N : List Int} (h1 : t = wOp) (h2 : N.length = 7) : recOf t N = some (1, 0, 0, [], (N.getD 0 0, N.getD 1 0, (N.getD 2 0, N.getD 3 0, N.getD 4 0), N.getD 5 0, N.getD 6 0)) := by
  unfold recOf; rw [if_pos ⟨h1, h2⟩]
theorem recOf_life {t : List UInt8} {N : List Int} (h1 : t = wLife) (h2 : N.length = 2) : recOf t N = some (2, N.getD 0 0, N.getD 1 0, [], noOp) := by
  unfold recOf; rw [if_neg (by rw [h2]; omega), if_pos ⟨h1, h2⟩]
theorem recOf_roots {t : List UInt8} {N : List Int} (h1 : t = wRoots) (h2 : 1 ≤ N.length) : recOf t N = some (3, N.getD 0 0, 0, N.tail, noOp) := by
  unfold recOf; rw [if_neg (by intro h; rw [h1] at h; exact absurd h.1 (by decide)), if_neg (by intro h; rw [h1] at h; exact absurd h.1 (by decide)), if_pos ⟨h1, h2⟩]
theorem recOf_none {t : List UInt8} {N : List Int} (h1 : ¬ (t = wOp ∧ N.length = 7)) (h2 : ¬ (t = wLife ∧ N.length = 2)) (h3 : ¬ (t = wRoots ∧ 1 ≤ N.length)) : recOf t N = none := by
  unfold recOf; rw [if_neg h1, if_neg h2, if_neg h3]

set_option maxHeartbeats 2000000 in
set_option maxRecDepth 100000 in
theorem njoin_op (w : World) (a : Option Addr) (c : Nat) (n0 n1 n2 n3 n4 n5 n6 : Int) (h : SlI w a [n0, n1, n2, n3, n4, n5, n6]) :
    Calls Tryz.prog 88 #[txV wOp, .slice a 7 c] w
      fun e w' => e = .returned (.tuple #[rcV 1 0 0 (.slice none 0 0) (n0, n1, (n2, n3, n4), n5, n6), .bool true]) ∧ Below w.heap.size w w' := by
  rcases h with h | ⟨b, off, rfl, hlt, hp⟩
  · simp at h
  have x0 : w.cell? ⟨b, off, none⟩ = some (.int .i64 n0) := hp 0 (by simp)
  have x1 : w.cell? ⟨b, off + 1, none⟩ = some (.int .i64 n1) := hp 1 (by simp)
  have x2 : w.cell? ⟨b, off + 2, none⟩ = some (.int .i64 n2) := hp 2 (by simp)
  have x3 : w.cell? ⟨b, off + 3, none⟩ = some (.int .i64 n3) := hp 3 (by simp)
  have x4 : w.cell? ⟨b, off + 4, none⟩ = some (.int .i64 n4) := hp 4 (by simp)
  have x5 : w.cell? ⟨b, off + 5, none⟩ = some (.int .i64 n5) := hp 5 (by simp)
  have x6 : w.cell? ⟨b, off + 6, none⟩ = some (.int .i64 n6) := hp 6 (by simp)
  have hne : ¬ w.heap.size = b := by omega
  clear hp
  go_enter Tryz.func88, Tryz.ntmps88
  go_wp2_with fail
  go_region_held3 (fun w' => w'.cell? ⟨b, off, none⟩ = some (.int .i64 n0) ∧ w'.cell? ⟨b, off + 1, none⟩ = some (.int .i64 n1) ∧ w'.cell? ⟨b, off + 2, none⟩ = some (.int .i64 n2) ∧ w'.cell? ⟨b, off + 3, none⟩ = some (.int .i64 n3) ∧ w'.cell? ⟨b, off + 4, none⟩ = some (.int .i64 n4) ∧ w'.cell? ⟨b, off + 5, none⟩ = some (.int .i64 n5) ∧ w'.cell? ⟨b, off + 6, none⟩ = some (.int .i64 n6)) (go_keep) (fail)
  go_wp2
  refine ret_cell_tmp Tryz.results88 rfl rfl (((Blk.new w [.int .i64 1, .int .i64 0, .int .i64 0, .slice none 0 0, .int .i64 n0, .int .i64 n1, .int .i64 n2, .int .i64 n3, .int .i64 n4, .int .i64 n5, .int .i64 n6] 43).alloc _).drew.load Tryz.underlying43 rfl sizeRec) ?_
  exact ⟨rfl, (Go.Joins.below_alloc2 w _ _).drew⟩

set_option maxHeartbeats 2000000 in
set_option maxRecDepth 100000 in
theorem njoin_life (w : World) (a : Option Addr) (c : Nat) (n0 n1 : Int) (h : SlI w a [n0, n1]) :
    Calls Tryz.prog 88 #[txV wLife, .slice a 2 c] w
      fun e w' => e = .returned (.tuple #[rcV 2 n0 n1 (.slice none 0 0) noOp, .bool true]) ∧ Below w.heap.size w w' := by
  rcases h with h | ⟨b, off, rfl, hlt, hp⟩
  · simp at h
  have x0 : w.cell? ⟨b, off, none⟩ = some (.int .i64 n0) := hp 0 (by simp)
  have x1 : w.cell? ⟨b, off + 1, none⟩ = some (.int .i64 n1) := hp 1 (by simp)
  have hne : ¬ w.heap.size = b := by omega
  clear hp
  go_enter Tryz.func88, Tryz.ntmps88
  go_wp2_with fail
  go_region_held3 (fun w' => w'.cell? ⟨b, off, none⟩ = some (.int .i64 n0) ∧ w'.cell? ⟨b, off + 1, none⟩ = some (.int .i64 n1)) (go_keep) (fail)
  go_wp2
  refine ret_cell_tmp Tryz.results88 rfl rfl ((Blk.new w [.int .i64 2, .int .i64 n0, .int .i64 n1, .slice none 0 0, .int .i64 0, .int .i64 0, .int .i64 0, .int .i64 0, .int .i64 0, .int .i64 0, .int .i64 0] 43).drew.load Tryz.underlying43 rfl sizeRec) ?_
  exact ⟨rfl, (Go.Joins.below_alloc1 w _).drew⟩

set_option maxHeartbeats 2000000 in
set_option maxRecDepth 100000 in
theorem njoin_roots (w : World) (a : Option Addr) (c : Nat) (n0 : Int) (R : List Int) (hl : R.length ≤ 60000) (hc : R.length + 1 ≤ c) (hc2 : c ≤ maxLen) (h : SlI w a (n0 :: R)) :
    Calls Tryz.prog 88 #[txV wRoots, .slice a (R.length + 1) c] w
      fun e w' => (∃ a' c', e = .returned (.tuple #[rcV 3 n0 0 (.slice a' R.length c') noOp, .bool true]) ∧ SlI w' a' R ∧ (∀ B, From B a → From B a') ∧ (a' = none → c' = 0) ∧ (TagI w a → TagI w' a')) ∧ Below w.heap.size w w' := by
  rcases h with h | ⟨b, off, rfl, hlt, hp⟩
  · simp at h
  have x0 : w.cell? ⟨b, off, none⟩ = some (.int .i64 n0) := hp 0 (by simp)
  have hne : ¬ w.heap.size = b := by omega
  have hc3 : c ≤ 9223372036854775807 := hc2
  have HP : Hid (IntsAt w b off (n0 :: R)) := hp
  clear hp hc2
  have d1 : (1 : Int) ≤ (R.length : Int) + 1 := by omega
  have d2 : decide ((R.length : Int) + 1 ≥ 1) = true := by simp; omega
  by_cases h1 : c = 1
  · obtain rfl : R = [] := by cases R with
      | nil => rfl
      | cons x l => simp at hc; omega
    subst h1
    go_enter Tryz.func88, Tryz.ntmps88
    go_wp2_with fail
    go_region_held3 (fun w' => w'.cell? ⟨b, off, none⟩ = some (.int .i64 n0)) (go_keep) (fail)
    go_wp2
    refine ret_cell_tmp Tryz.results88 rfl rfl ((Blk.new w [.int .i64 3, .int .i64 n0, .int .i64 0, .slice (some ⟨b, off, none⟩) 0 0, .int .i64 0, .int .i64 0, .int .i64 0, .int .i64 0, .int .i64 0, .int .i64 0, .int .i64 0] 43).drew.load Tryz.underlying43 rfl sizeRec) ?_
    exact ⟨⟨_, _, rfl, SlI.nil, fun _ h => h, fun e => by simp at e, fun ht => ht.keep (Go.Joins.below_alloc1 w _).drew⟩, (Go.Joins.below_alloc1 w _).drew⟩
  · have d3 : 2 ≤ c := by omega
    have d4 : ¬ c - 1 = 0 := by omega
    go_enter Tryz.func88, Tryz.ntmps88
    go_wp2_with fail
    go_region_held3 (fun w' => w'.cell? ⟨b, off, none⟩ = some (.int .i64 n0)) (go_keep) (fail)
    go_wp2
    have hS : SlI ((w.alloc (Obj.cells [Value.int IntKind.i64 3, .int .i64 n0, .int .i64 0, .slice (some ⟨b, off + 1, none⟩) R.length (c - 1), .int .i64 0, .int .i64 0, .int .i64 0, .int .i64 0, .int .i64 0, .int .i64 0, .int .i64 0].toArray 43)).drew) (some ⟨b, off + 1, none⟩) R := by
      refine SlI.below (w := w) (Or.inr ⟨b, off + 1, rfl, hlt, ?_⟩) (Go.Joins.below_alloc1 w _).drew
      intro i hi
      have := HP.out (i + 1) (by simp; omega)
      rw [show off + 1 + i = off + (i + 1) by omega]
      simpa using this
    refine ret_cell_tmp Tryz.results88 rfl rfl ((Blk.new w [.int .i64 3, .int .i64 n0, .int .i64 0, .slice (some ⟨b, off + 1, none⟩) R.length (c - 1), .int .i64 0, .int .i64 0, .int .i64 0, .int .i64 0, .int .i64 0, .int .i64 0, .int .i64 0] 43).drew.load Tryz.underlying43 rfl sizeRec) ?_
    exact ⟨⟨_, _, rfl, hS, fun B hB b' off' e => hB b' off (by simp at e; rw [e.1]), fun e => by simp at e, fun ht b' off' e => (ht.keep (Go.Joins.below_alloc1 w _).drew) b' off (by simp at e; rw [e.1])⟩, (Go.Joins.below_alloc1 w _).drew⟩

set_option maxHeartbeats 2000000 in
theorem njoin_none (w : World) (t : List UInt8) (a : Option Addr) (c : Nat) (N : List Int) (hl : N.length ≤ 60001) (h1 : ¬ (t = wOp ∧ N.length = 7)) (h2 : ¬ (t = wLife ∧ N.length = 2)) (h3 : ¬ (t = wRoots ∧ 1 ≤ N.length)) :
    Calls Tryz.prog 88 #[txV t, .slice a N.length c] w
      fun e w' => e = .returned (.tuple #[rcV 0 0 0 (.slice none 0 0) noOp, .bool false]) ∧ Below w.heap.size w w' := by
  have fin : ∀ W, W = w.alloc (Obj.cells [Value.int IntKind.i64 0, .int .i64 0, .int .i64 0, .slice none 0 0, .int .i64 0, .int .i64 0, .int .i64 0, .int .i64 0, .int .i64 0, .int .i64 0, .int .i64 0].toArray 43) → Below w.heap.size w W ∧ Blk W w.heap.size [Value.int IntKind.i64 0, .int .i64 0, .int .i64 0, .slice none 0 0, .int .i64 0, .int .i64 0, .int .i64 0, .int .i64 0, .int .i64 0, .int .i64 0, .int .i64 0] :=
    fun W e => by subst e; exact ⟨Go.Joins.below_alloc1 w _, Blk.new w _ 43⟩
  have HF := Lib.hid fin
  clear fin
  by_cases e1 : t = wOp
  · have d1 : ((N.length : Int) == 7) = false := by
      have : N.length ≠ 7 := fun e => h1 ⟨e1, e⟩
      simp; omega
    subst e1
    clear h1 h2 h3
    go_enter Tryz.func88, Tryz.ntmps88
    go_wp2
    obtain ⟨f1, f2⟩ := HF.out _ rfl
    refine ret_cell_tmp Tryz.results88 rfl rfl (f2.load Tryz.underlying43 rfl sizeRec) ⟨rfl, f1⟩
  by_cases e2 : t = wLife
  · have d1 : ((N.length : Int) == 2) = false := by
      have : N.length ≠ 2 := fun e => h2 ⟨e2, e⟩
      simp; omega
    subst e2
    clear h1 h2 h3
    go_enter Tryz.func88, Tryz.ntmps88
    go_wp2
    obtain ⟨f1, f2⟩ := HF.out _ rfl
    refine ret_cell_tmp Tryz.results88 rfl rfl (f2.load Tryz.underlying43 rfl sizeRec) ⟨rfl, f1⟩
  by_cases e3 : t = wRoots
  · have d0 : N.length = 0 := by
      have : ¬ 1 ≤ N.length := fun e => h3 ⟨e3, e⟩
      omega
    obtain rfl := List.length_eq_zero_iff.1 d0
    subst e3
    clear h1 h2 h3 d0
    go_enter Tryz.func88, Tryz.ntmps88
    go_wp2
    obtain ⟨f1, f2⟩ := HF.out _ rfl
    refine ret_cell_tmp Tryz.results88 rfl rfl (f2.load Tryz.underlying43 rfl sizeRec) ⟨rfl, f1⟩
  have d1 : (t == [111, 112]) = false := by simpa [wOp] using e1
  have d2 : (t == [108, 105, 102, 101]) = false := by simpa [wLife] using e2
  have d3 : (t == [114, 111, 111, 116, 115]) = false := by simpa [wRoots] using e3
  clear h1 h2 h3 e1 e2 e3
  go_enter Tryz.func88, Tryz.ntmps88
  go_wp2
  obtain ⟨f1, f2⟩ := HF.out _ rfl
  refine ret_cell_tmp Tryz.results88 rfl rfl (f2.load Tryz.underlying43 rfl sizeRec) ⟨rfl, f1⟩

theorem njoin_any (w : World) (B : Nat) (t : List UInt8) (a : Option Addr) (c : Nat) (N : List Int) (hf : From B a) (ht : TagI w a) (hl : N.length ≤ 60001) (hc : N.length ≤ c) (hc2 : c ≤ maxLen) (h : SlI w a N) :
    Calls Tryz.prog 88 #[txV t, .slice a N.length c] w
      fun e w' => (∃ v, e = .returned (.tuple #[v, .bool (recOf t N).isSome]) ∧ RecIs B w' v ((recOf t N).getD noRec)) ∧ Below w.heap.size w w' := by
  by_cases h1 : t = wOp ∧ N.length = 7
  · rw [recOf_op h1.1 h1.2]
    obtain ⟨rfl, h2⟩ := h1
    match N, h2 with
    | [n0, n1, n2, n3, n4, n5, n6], _ =>
      refine (njoin_op w a c n0 n1 n2 n3 n4 n5 n6 h).mono ?_
      rintro e w' ⟨rfl, hb⟩
      exact ⟨⟨_, rfl, none, 0, rfl, SlI.nil, from_none, fun _ => rfl, tag_none _⟩, hb⟩
  by_cases h2 : t = wLife ∧ N.length = 2
  · rw [recOf_life h2.1 h2.2]
    obtain ⟨rfl, h3⟩ := h2
    match N, h3 with
    | [n0, n1], _ =>
      refine (njoin_life w a c n0 n1 h).mono ?_
      rintro e w' ⟨rfl, hb⟩
      exact ⟨⟨_, rfl, none, 0, rfl, SlI.nil, from_none, fun _ => rfl, tag_none _⟩, hb⟩
  by_cases h3 : t = wRoots ∧ 1 ≤ N.length
  · rw [recOf_roots h3.1 h3.2]
    obtain ⟨rfl, h4⟩ := h3
    match N, h4 with
    | n0 :: R, _ =>
      refine (njoin_roots w a c n0 R (by simp at hl; omega) (by simpa using hc) hc2 h).mono ?_
      rintro e w' ⟨⟨a', c', rfl, hs, hg, hn, hk⟩, hb⟩
      exact ⟨⟨_, rfl, a', c', rfl, hs, hg B hf, hn, hk ht⟩, hb⟩
  rw [recOf_none h1 h2 h3]
  refine (njoin_none w t a c N hl h1 h2 h3).mono ?_
  rintro e w' ⟨rfl, hb⟩
  exact ⟨⟨_, rfl, recIs_none B w'⟩, hb⟩
end Go.Proofs.YthlhnokgcnieeadGreatDoor

/- Slices of bytes: how they lie, are owned, are read as texts; the value of a disk. -/
namespace Go.Proofs.YthlhnokgcnieeadGreatDoor
open Go.ChangeShapes Go.WideShapes Go.ChangeAt Go.RowKit

/-- the cell of a byte -/
def btC (x : UInt8) : List Value := [.int .u8 x.toNat]
theorem btC_len (x : UInt8) : (btC x).length = 1 := rfl
theorem btC_one (x : UInt8) : ∀ v ∈ btC x, v.oneCell' = true := by
  intro v hv
  simp [btC] at hv
  subst hv
  rfl
theorem infoByte : (Tryz.prog.info? 5).map (fun i => (i.zero, i.size, i.bytes)) = some (some (.int .u8 0), 1, 1) := by kernel_rfl

/-- one slice behind another one of the call's own -/
theorem slE_news {α : Type} {enc : α → List Value} {w : World} {ad : Addr} {l : List α} (h : SlE enc w (some ad) l) : ∀ j u, (l.flatMap enc)[j]? = some u → w.cell? (ad.add j) = some u := by
  intro j u hj
  rcases h with rfl | ⟨b, off, ha, _, hp⟩
  · simp at hj
  · simp at ha
    subst ha
    rw [Addr.add_mid]
    exact hp j u hj
theorem slE_none {α : Type} {enc : α → List Value} {w : World} {l : List α} (h : SlE enc w none l) : l = [] := by
  rcases h with rfl | ⟨b, off, h, _⟩
  · rfl
  · simp at h

/-- a slice's address holds these bytes -/
abbrev SlB (w : World) (a : Option Addr) (l : List UInt8) : Prop := SlE btC w a l
/-- a slice of bytes of the call's own -/
abbrev OwnB (w : World) (base : Nat) (v : Value) (l : List UInt8) : Prop := OwnE btC 1 5 w base v l

theorem SlB.cell {w : World} {a : Option Addr} {l : List UInt8} (h : SlB w a l) (k : Nat) (hk : k < l.length) :
    ∃ b off, a = some ⟨b, off, none⟩ ∧ b < w.heap.size ∧ w.cell? ⟨b, off + k, none⟩ = some (.int .u8 l[k].toNat) := by
  obtain ⟨b, off, e, hb, hr⟩ := h.at btC_len k hk
  refine ⟨b, off, e, hb, ?_⟩
  have := hr 0 (.int .u8 l[k].toNat) rfl
  simpa using this
theorem SlB.of_cells {w : World} {b off : Nat} {l : List UInt8} (hb : b < w.heap.size) (h : ∀ k (hk : k < l.length), w.cell? ⟨b, off + k, none⟩ = some (.int .u8 l[k].toNat)) : SlB w (some ⟨b, off, none⟩) l := by
  refine Or.inr ⟨b, off, rfl, hb, fun j v hv => ?_⟩
  have hlt : j < l.length := by
    have := (List.getElem?_eq_some_iff.1 hv).1
    rw [flatE_len btC_len] at this
    omega
  have e := flatE_get btC_len l j hlt 0 (by omega)
  rw [Nat.mul_one, Nat.add_zero, hv] at e
  have e2 : v = .int .u8 l[j].toNat := by simpa [btC] using e
  rw [e2]
  exact h j hlt
theorem SlB.drop {w : World} {b off : Nat} {l : List UInt8} (h : SlB w (some ⟨b, off, none⟩) l) (j : Nat) : SlB w (some ⟨b, off + j, none⟩) (l.drop j) := by
  by_cases hj : j < l.length
  · obtain ⟨b', off', e, hb, _⟩ := h.cell j hj
    obtain ⟨rfl, rfl⟩ : b = b' ∧ off = off' := by simpa using e
    refine SlB.of_cells hb fun k hk => ?_
    simp at hk
    obtain ⟨b', off', e, _, hc⟩ := h.cell (j + k) (by omega)
    obtain ⟨rfl, rfl⟩ : b = b' ∧ off = off' := by simpa using e
    rw [List.getElem_drop, Nat.add_assoc]
    exact hc
  · rw [List.drop_of_length_le (by omega)]
    exact SlE.nil

/-- bytes as numbers -/
def nums (l : List UInt8) : List Int := l.map fun b => (b.toNat : Int)
theorem nums_len (l : List UInt8) : (nums l).length = l.length := by simp [nums]
theorem bytesOf_nums (l : List UInt8) : Lib.bytesOf (nums l) = l := by
  unfold Lib.bytesOf nums
  rw [List.map_map]
  have : ((fun n : Int => UInt8.ofNat n.toNat) ∘ fun b : UInt8 => (b.toNat : Int)) = id := by funext b; simp
  rw [this, List.map_id]
theorem nums_range (l : List UInt8) : ∀ x ∈ nums l, 0 ≤ x ∧ x < 256 := by
  intro x hx
  obtain ⟨b, _, rfl⟩ := List.mem_map.1 hx
  have := b.toNat_lt
  omega
theorem str_nums (l : List UInt8) : strOfNums (nums l) = (⟨l.toArray⟩ : ByteArray) := by
  have h := Lib.strOfNums_toList (nums l)
  rw [bytesOf_nums, Lib.toList_data] at h
  cases hs : strOfNums (nums l) with
  | mk d =>
    rw [hs] at h
    simp at h
    rw [← h]
theorem SlB.inB {w : World} {a : Option Addr} {l : List UInt8} (h : SlB w a l) : Lib.BytesIn w a l.length (nums l) := by
  intro hn
  obtain ⟨b, off, e, _, _⟩ := h.cell 0 hn
  refine ⟨b, off, e, fun i hi => ?_⟩
  obtain ⟨b', off', e', _, hc⟩ := h.cell i hi
  subst e
  obtain ⟨rfl, rfl⟩ : b = b' ∧ off = off' := by simpa using e'
  rw [hc]
  simp [nums, List.getD, List.getElem?_eq_getElem hi]
/-- 'string(b)' -/
theorem SlB.text {w : World} {a : Option Addr} {l : List UInt8} (h : SlB w a l) (c : Nat) : (convert 45 9 (.slice a l.length c)).run Tryz.prog w = .ok (txV l) w := by
  have := h.inB.convert (P := Tryz.prog) (nums_len l) c 45 5 9 Tryz.underlying45 Tryz.underlying5 Tryz.underlying9
  rw [str_nums] at this
  exact this

/-- the value of a disk -/
abbrev dkV (x y : Value) : Value := .agg #[x, y]
/-- a slice value that holds these bytes -/
structure BsIs (w : World) (a : Option Addr) (c : Nat) (l : List UInt8) : Prop where
  reads : SlB w a l
  none : a = none → c = 0
  room : l.length ≤ c
  cap : c ≤ maxLen
  few : l.length ≤ 140737488351232
theorem BsIs.keep {w w' : World} {a : Option Addr} {c : Nat} {l : List UInt8} (h : BsIs w a c l) (hb : Below w.heap.size w w') : BsIs w' a c l := ⟨SlE.below h.reads hb, h.none, h.room, h.cap, h.few⟩
theorem bsIs_nil (w : World) : BsIs w none 0 [] := ⟨SlE.nil, fun _ => rfl, Nat.le_refl _, by unfold maxLen; omega, by simp⟩
theorem OwnB.bs {w : World} {base : Nat} {v : Value} {l : List UInt8} (h : OwnB w base v l) (hl : l.length ≤ 140737488351232) : ∃ a c, v = .slice a l.length c ∧ BsIs w a c l := by
  obtain ⟨a, c, e, hs, hc⟩ := OwnE.val h
  refine ⟨a, c, e, hs, ?_, hc, ?_, hl⟩
  · intro ha
    subst ha
    rcases h.2 with ⟨e2, _⟩ | ⟨g, cap', cur, e2, _⟩
    · rw [e] at e2; simp at e2; exact e2.2
    · rw [e] at e2; simp at e2
  · rcases h.2 with ⟨e2, _⟩ | ⟨g, cap', cur, e2, _, _, _, hm, _⟩
    · rw [e] at e2; simp at e2; rw [e2.2.2]; unfold maxLen; omega
    · rw [e] at e2
      obtain ⟨_, rfl⟩ : a = _ ∧ c = cap' := by simpa using e2
      exact hm
theorem OwnB.bsi {w : World} {base : Nat} {a : Option Addr} {n c : Nat} {l : List UInt8} (h : OwnB w base (.slice a n c) l) (hl : l.length ≤ 140737488351232) : BsIs w a c l := by
  obtain ⟨a', c', e, hb⟩ := OwnB.bs h hl
  obtain ⟨rfl, _, rfl⟩ : a = a' ∧ n = l.length ∧ c = c' := by simpa using e
  exact hb
/-- a value is the disk of these bytes -/
def DkIs (w : World) (v : Value) (s t : List UInt8) : Prop := ∃ a c a' c', v = dkV (.slice a s.length c) (.slice a' t.length c') ∧ BsIs w a c s ∧ BsIs w a' c' t
theorem DkIs.keep {w w' : World} {v : Value} {s t : List UInt8} (h : DkIs w v s t) (hb : Below w.heap.size w w') : DkIs w' v s t := by
  obtain ⟨a, c, a', c', e, h1, h2⟩ := h
  exact ⟨a, c, a', c', e, h1.keep hb, h2.keep hb⟩
/-- a value is the disk of these bytes, its memory from block B on -/
def DkNew (B : Nat) (w : World) (v : Value) (s t : List UInt8) : Prop := ∃ a c a' c', v = dkV (.slice a s.length c) (.slice a' t.length c') ∧ BsIs w a c s ∧ BsIs w a' c' t ∧ From B a ∧ From B a'
theorem DkNew.is {B : Nat} {w : World} {v : Value} {s t : List UInt8} (h : DkNew B w v s t) : DkIs w v s t := by
  obtain ⟨a, c, a', c', e, h1, h2, _, _⟩ := h
  exact ⟨a, c, a', c', e, h1, h2⟩
theorem OwnB.from {w : World} {base : Nat} {a : Option Addr} {n c : Nat} {l : List UInt8} (h : OwnB w base (.slice a n c) l) : From base a := by
  rcases h.2 with ⟨e2, _⟩ | ⟨g, cap', cur, e2, hg, _⟩
  · intro b off e
    subst e
    simp at e2
  · intro b off e
    subst e
    simp at e2
    omega
theorem BsIs.sets {B g : Nat} {a : Option Addr} {c : Nat} {l : List UInt8} (hf : From B a) (hg : g < B) : ∀ (us : List Value) (o : Nat) (w : World), BsIs w a c l → BsIs (w.setCells g o us) a c l := by
  intro us
  induction us with
  | nil => intro o w h; exact h
  | cons u us ih =>
    intro o w h
    refine ih (o + 1) (w.setCell ⟨g, o, Option.none⟩ u) ⟨?_, h.none, h.room, h.cap, h.few⟩
    rcases h.reads with h0 | ⟨b, off, e, hlt, hr⟩
    · exact Or.inl h0
    · refine Or.inr ⟨b, off, e, by simpa using hlt, fun j v hv => ?_⟩
      have := hf b off e
      rw [World.cell?_setCell_other _ _ _ _ (by simp <;> omega)]
      exact hr j v hv
theorem DkNew.sets {B g : Nat} {w : World} {v : Value} {s t : List UInt8} (h : DkNew B w v s t) (hg : g < B) (us : List Value) (o : Nat) : DkIs (w.setCells g o us) v s t := by
  obtain ⟨a, c, a', c', e, h1, h2, f1, f2⟩ := h
  exact ⟨a, c, a', c', e, BsIs.sets f1 hg us o w h1, BsIs.sets f2 hg us o w h2⟩
theorem dkNew_none (B : Nat) (w : World) : DkNew B w (dkV (.slice none 0 0) (.slice none 0 0)) [] [] := ⟨none, 0, none, 0, rfl, bsIs_nil w, bsIs_nil w, from_none, from_none⟩
theorem dkIs_none (w : World) : DkIs w (dkV (.slice none 0 0) (.slice none 0 0)) [] [] := ⟨none, 0, none, 0, rfl, bsIs_nil w, bsIs_nil w⟩
end Go.Proofs.YthlhnokgcnieeadGreatDoor

/- bytes.Cut is the library's, by its own laws. -/
namespace Go.Proofs
open Go.Shelf
def Tryz.laysT4_ren : Go.Shelf.Ren := ⟨fun | 4 => 66 | 5 => 85 | 6 => 104 | 7 => 105 | 8 => 106 | 9 => 107 | 10 => 108 | 11 => 130 | 12 => 131 | n => n, fun | 22 => 45 | 4 => 4 | 3 => 3 | 0 => 0 | 5 => 5 | 29 => 166 | 9 => 9 | 31 => 196 | 30 => 190 | n => n, fun | 0 => 0 | n => n⟩
theorem Tryz.laysT4 : Go.Proofs.SlLaysT.n4 Tryz.prog Tryz.laysT4_ren := {
  mixed := by kernel_rfl
  f4 := Tryz.func66.trans (congrArg some (by kernel_rfl))
  f5 := Tryz.func85.trans (congrArg some (by kernel_rfl))
  f6 := Tryz.func104.trans (congrArg some (by kernel_rfl))
  f7 := Tryz.func105.trans (congrArg some (by kernel_rfl))
  f8 := Tryz.func106.trans (congrArg some (by kernel_rfl))
  f9 := Tryz.func107.trans (congrArg some (by kernel_rfl))
  f10 := Tryz.func108.trans (congrArg some (by kernel_rfl))
  f11 := Tryz.func130.trans (congrArg some (by kernel_rfl))
  f12 := Tryz.func131.trans (congrArg some (by kernel_rfl))
  t0 := Tryz.underlying0
  a0 := Tryz.isAgg0
  z0 := Tryz.sizeOf0
  v0 := Tryz.zeroValue0
  t3 := Tryz.underlying3
  a3 := Tryz.isAgg3
  z3 := Tryz.sizeOf3
  v3 := Tryz.zeroValue3
  t4 := Tryz.underlying4
  a4 := Tryz.isAgg4
  z4 := Tryz.sizeOf4
  v4 := Tryz.zeroValue4
  t5 := Tryz.underlying5
  a5 := Tryz.isAgg5
  z5 := Tryz.sizeOf5
  v5 := Tryz.zeroValue5
  t9 := Tryz.underlying9
  a9 := Tryz.isAgg9
  z9 := Tryz.sizeOf9
  v9 := Tryz.zeroValue9
  t22 := Tryz.underlying45
  a22 := Tryz.isAgg45
  z22 := Tryz.sizeOf45
  v22 := Tryz.zeroValue45
  t29 := Tryz.underlying166
  a29 := Tryz.isAgg166
  z29 := Tryz.sizeOf166
  v29 := Tryz.zeroValue166
  t30 := Tryz.underlying190
  a30 := Tryz.isAgg190
  z30 := Tryz.sizeOf190
  v30 := Tryz.zeroValue190
  t31 := Tryz.underlying196
  a31 := Tryz.isAgg196
  z31 := Tryz.sizeOf196
  v31 := Tryz.zeroValue196
  g0 := by kernel_rfl }
end Go.Proofs

