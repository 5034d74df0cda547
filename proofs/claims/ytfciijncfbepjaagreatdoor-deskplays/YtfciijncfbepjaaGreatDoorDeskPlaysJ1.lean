/- Texts joined: ShelfD, Shelf, ShelfC. -/
import Derived.Shelf.Strings.OnBuilder
import Derived.Shelf.Strings.Cut
import Derived.Shelf.Strings.Count
import Derived.Shelf.Strings.Prefix
import Derived.Shelf.Strings.Replace
import Derived.Shelf.Strconv.Itoa4
import Derived.Shelf.Strconv.ErrVarAll
import Derived.Test.YtfciijncfbepjaaGreatDoorProg
import Derived.Shelf.Strings.Builder1
import Derived.Shelf.Strings.Builder2
import Derived.Shelf.Small.Strs
import Derived.Shelf.Strings.BuilderF
import Derived.Shelf.Strconv.Atoi
import Derived.Shelf.Strconv.Itoa0
import Derived.Shelf.Strconv.Itoa1
import Derived.Shelf.LaysM
import Derived.Shelf.Strconv.Itoa2
import Derived.Shelf.Strconv.Itoa3
import Derived.Shelf.Strconv.AtoiErrFast
import Derived.Shelf.Strconv.ParseIntEmpty
import Derived.Shelf.Strconv.AtoiFail
import Derived.Shelf.Strconv.Clone
import Derived.Shelf.Strconv.SyntaxError
import Derived.Shelf.LaysC
import Derived.Shelf.Strconv.ToError
import Derived.Shelf.Strconv.Lower
import Derived.Shelf.Strconv.ParseUint10
import Derived.Shelf.Strconv.ParseUint10Empty
import Derived.Shelf.Strconv.ParseUint10Any
import Derived.Shelf.Strconv.ParseInt10
import Derived.Shelf.Strconv.AtoiLong
import Derived.Shelf.Strconv.AtoiInnerAll
import Derived.Shelf.Strconv.RangeError
import Derived.Shelf.Strconv.ToErrorRange
import Derived.Shelf.Strconv.AtoiAll
import Derived.Shelf.Strings.Search1
import Derived.Shelf.Strings.Search2
import Derived.Shelf.Strings.Search3
import Derived.Shelf.Strings.Shaped
import Derived.Shelf.Strings.Split
import Derived.Shelf.Bits.Mul64
import Derived.Shelf.Strings.Repeat
import Derived.Shelf.Unicode.DecodeSlow
set_option linter.unusedVariables false
set_option linter.unusedSimpArgs false
set_option maxHeartbeats 200000000
set_option maxRecDepth 20000
namespace Go.Proofs
open Go.Shelf
def Tryz.sR:Go.Shelf.Ren:=⟨fun | 100=>8 | 129=>185 | 138=>7 | 143=>16 | 145=>10 | 154=>88 | 155=>43 | 156=>112 | 165=>149 | 166=>150 | 169=>152 | 171=>21 | 172=>91 | 195=>14 | 197=>151 | 205=>224 | 207=>17 | 217=>75 | 218=>15 | 219=>37 | 220=>19 | 224=>77 | 225=>76 | 240=>189 | 241=>190 | 243=>42 | 244=>154 | 245=>155 | 246=>87 | 247=>193 | 260=>191 | 266=>135 | 267=>78 | 276=>219 | 277=>220 | 279=>194 | 280=>195 | 281=>196 | 282=>197 | 283=>145 | 284=>146 | 285=>147 | 286=>148 | 287=>222 | 314=>136 | 316=>223 | 317=>184 | 318=>186 | 319=>187 | 320=>188 | 321=>235 | 322=>236 | 337=>217 | 338=>218 | n=>n,fun | 31=>123 | 37=>82 | 46=>91 | 51=>139 | 53=>153 | 59=>38 | 70=>158 | 72=>160 | 75=>106 | 76=>107 | 80=>75 | 85=>196 | 105=>162 | 119=>217 | 127=>194 | 138=>219 | 139=>220 | 143=>236 | 145=>238 | 146=>140 | 164=>214 | 167=>195 | 168=>198 | 171=>152 | 173=>156 | 175=>222 | 210=>225 | 212=>191 | 213=>192 | 232=>231 | 233=>232 | n=>n,fun | 1=>0 | 3=>2 | 4=>3 | 15=>4 | 16=>5 | 17=>1 | 18=>6 | 19=>7 | n=>n⟩
theorem fq {α:Type}{x:Option α}{a b:α}(h:x=some a)(e:a=b:=by kernel_rfl):x=some b:=h.trans (congrArg some e)
theorem Tryz.laysC172:Go.Proofs.LaysC.n172 Tryz.prog Tryz.sR:={ mixed:=by kernel_rfl,f129:=fq Tryz.func185,f171:=fq Tryz.func21,f172:=fq Tryz.func91,f205:=fq Tryz.func224,f243:=fq Tryz.func42,f244:=fq Tryz.func154,f245:=fq Tryz.func155,f246:=fq Tryz.func87,f247:=fq Tryz.func193,f279:=fq Tryz.func194,f280:=fq Tryz.func195,f281:=fq Tryz.func196,f282:=fq Tryz.func197,f283:=fq Tryz.func145,f284:=fq Tryz.func146,f285:=fq Tryz.func147,f286:=fq Tryz.func148,f287:=fq Tryz.func222,f316:=fq Tryz.func223,f317:=fq Tryz.func184,f318:=fq Tryz.func186,f319:=fq Tryz.func187,f320:=fq Tryz.func188,f321:=fq Tryz.func235,f322:=fq Tryz.func236,f337:=fq Tryz.func217,f338:=fq Tryz.func218,t0:=Tryz.underlying0,a0:=Tryz.isAgg0,z0:=Tryz.sizeOf0,v0:=Tryz.zeroValue0,t2:=Tryz.underlying2,a2:=Tryz.isAgg2,z2:=Tryz.sizeOf2,v2:=Tryz.zeroValue2,t3:=Tryz.underlying3,a3:=Tryz.isAgg3,z3:=Tryz.sizeOf3,v3:=Tryz.zeroValue3,t4:=Tryz.underlying4,a4:=Tryz.isAgg4,z4:=Tryz.sizeOf4,v4:=Tryz.zeroValue4,t5:=Tryz.underlying5,a5:=Tryz.isAgg5,z5:=Tryz.sizeOf5,v5:=Tryz.zeroValue5,t9:=Tryz.underlying9,a9:=Tryz.isAgg9,z9:=Tryz.sizeOf9,v9:=Tryz.zeroValue9,t20:=Tryz.underlying20,a20:=Tryz.isAgg20,z20:=Tryz.sizeOf20,v20:=Tryz.zeroValue20,t21:=Tryz.underlying21,a21:=Tryz.isAgg21,z21:=Tryz.sizeOf21,v21:=Tryz.zeroValue21,t37:=Tryz.underlying82,a37:=Tryz.isAgg82,z37:=Tryz.sizeOf82,v37:=Tryz.zeroValue82,t46:=Tryz.underlying91,a46:=Tryz.isAgg91,z46:=Tryz.sizeOf91,v46:=Tryz.zeroValue91,t51:=Tryz.underlying139,a51:=Tryz.isAgg139,z51:=Tryz.sizeOf139,v51:=Tryz.zeroValue139,t53:=Tryz.underlying153,a53:=Tryz.isAgg153,z53:=Tryz.sizeOf153,v53:=Tryz.zeroValue153,t75:=Tryz.underlying106,a75:=Tryz.isAgg106,z75:=Tryz.sizeOf106,v75:=Tryz.zeroValue106,t76:=Tryz.underlying107,a76:=Tryz.isAgg107,z76:=Tryz.sizeOf107,v76:=Tryz.zeroValue107,t85:=Tryz.underlying196,a85:=Tryz.isAgg196,z85:=Tryz.sizeOf196,v85:=Tryz.zeroValue196,t127:=Tryz.underlying194,a127:=Tryz.isAgg194,z127:=Tryz.sizeOf194,v127:=Tryz.zeroValue194,t143:=Tryz.underlying236,a143:=Tryz.isAgg236,z143:=Tryz.sizeOf236,v143:=Tryz.zeroValue236,t145:=Tryz.underlying238,a145:=Tryz.isAgg238,z145:=Tryz.sizeOf238,v145:=Tryz.zeroValue238,t167:=Tryz.underlying195,a167:=Tryz.isAgg195,z167:=Tryz.sizeOf195,v167:=Tryz.zeroValue195,t168:=Tryz.underlying198,a168:=Tryz.isAgg198,z168:=Tryz.sizeOf198,v168:=Tryz.zeroValue198,t171:=Tryz.underlying152,a171:=Tryz.isAgg152,z171:=Tryz.sizeOf152,v171:=Tryz.zeroValue152,t173:=Tryz.underlying156,a173:=Tryz.isAgg156,z173:=Tryz.sizeOf156,v173:=Tryz.zeroValue156,t175:=Tryz.underlying222,a175:=Tryz.isAgg222,z175:=Tryz.sizeOf222,v175:=Tryz.zeroValue222,t210:=Tryz.underlying225,a210:=Tryz.isAgg225,z210:=Tryz.sizeOf225,v210:=Tryz.zeroValue225,t212:=Tryz.underlying191,a212:=Tryz.isAgg191,z212:=Tryz.sizeOf191,v212:=Tryz.zeroValue191,t213:=Tryz.underlying192,a213:=Tryz.isAgg192,z213:=Tryz.sizeOf192,t232:=Tryz.underlying231,a232:=Tryz.isAgg231,z232:=Tryz.sizeOf231,v232:=Tryz.zeroValue231,t233:=Tryz.underlying232,a233:=Tryz.isAgg232,z233:=Tryz.sizeOf232,v233:=Tryz.zeroValue232,g15:=by kernel_rfl,g16:=by kernel_rfl,g17:=by kernel_rfl,g18:=by kernel_rfl,g19:=by kernel_rfl,t80:=Tryz.underlying75,a80:=Tryz.isAgg75,z80:=Tryz.sizeOf75,v80:=Tryz.zeroValue75,i0:=by kernel_rfl,i2:=by kernel_rfl,i3:=by kernel_rfl,i4:=by kernel_rfl,i5:=by kernel_rfl,i9:=by kernel_rfl,i20:=by kernel_rfl,i21:=by kernel_rfl,i37:=by kernel_rfl,i46:=by kernel_rfl,i51:=by kernel_rfl,i53:=by kernel_rfl,i75:=by kernel_rfl,i76:=by kernel_rfl,i80:=by kernel_rfl,i85:=by kernel_rfl,i127:=by kernel_rfl,i143:=by kernel_rfl,i145:=by kernel_rfl,i167:=by kernel_rfl,i168:=by kernel_rfl,i171:=by kernel_rfl,i173:=by kernel_rfl,i175:=by kernel_rfl,i210:=by kernel_rfl,i212:=by kernel_rfl,i232:=by kernel_rfl,i233:=by kernel_rfl,m15:=by kernel_rfl,m16:=by kernel_rfl,m17:=by kernel_rfl,m18:=by kernel_rfl,m19:=by kernel_rfl,c0:=by kernel_rfl,c2:=by kernel_rfl,c3:=by kernel_rfl,c4:=by kernel_rfl,c5:=by kernel_rfl,c9:=by kernel_rfl,c20:=by kernel_rfl,c21:=by kernel_rfl,c37:=by kernel_rfl,c46:=by kernel_rfl,c51:=by kernel_rfl,c53:=by kernel_rfl,c75:=by kernel_rfl,c76:=by kernel_rfl,c80:=by kernel_rfl,c85:=by kernel_rfl,c127:=by kernel_rfl,c143:=by kernel_rfl,c145:=by kernel_rfl,c167:=by kernel_rfl,c168:=by kernel_rfl,c171:=by kernel_rfl,c173:=by kernel_rfl,c175:=by kernel_rfl,c210:=by kernel_rfl,c212:=by kernel_rfl,c213:=by kernel_rfl,c232:=by kernel_rfl,c233:=by kernel_rfl }
theorem Tryz.lays155:Go.Proofs.Lays.n155 Tryz.prog Tryz.sR:={ Tryz.laysC172 with f138:=fq Tryz.func7,f143:=fq Tryz.func16,f154:=fq Tryz.func88,f155:=fq Tryz.func43,f165:=fq Tryz.func149,f166:=fq Tryz.func150,f169:=fq Tryz.func152,f195:=fq Tryz.func14,f197:=fq Tryz.func151,f217:=fq Tryz.func75,f218:=fq Tryz.func15,f219:=fq Tryz.func37,f224:=fq Tryz.func77,f225:=fq Tryz.func76,f240:=fq Tryz.func189,f241:=fq Tryz.func190,f260:=fq Tryz.func191,f266:=fq Tryz.func135,f267:=fq Tryz.func78,f276:=fq Tryz.func219,f277:=fq Tryz.func220,f314:=fq Tryz.func136,t70:=Tryz.underlying158,a70:=Tryz.isAgg158,z70:=Tryz.sizeOf158,v70:=Tryz.zeroValue158,t72:=Tryz.underlying160,a72:=Tryz.isAgg160,z72:=Tryz.sizeOf160,v72:=Tryz.zeroValue160,t105:=Tryz.underlying162,a105:=Tryz.isAgg162,z105:=Tryz.sizeOf162,v105:=Tryz.zeroValue162,t119:=Tryz.underlying217,a119:=Tryz.isAgg217,z119:=Tryz.sizeOf217,t138:=Tryz.underlying219,a138:=Tryz.isAgg219,z138:=Tryz.sizeOf219,v138:=Tryz.zeroValue219,t139:=Tryz.underlying220,a139:=Tryz.isAgg220,z139:=Tryz.sizeOf220,v139:=Tryz.zeroValue220,t146:=Tryz.underlying140,a146:=Tryz.isAgg140,z146:=Tryz.sizeOf140,v146:=Tryz.zeroValue140,t164:=Tryz.underlying214,a164:=Tryz.isAgg214,z164:=Tryz.sizeOf214,v164:=Tryz.zeroValue214,g1:=by kernel_rfl,g3:=by kernel_rfl,g4:=by kernel_rfl }
theorem Tryz.laysM171:Go.Proofs.LaysM.n171 Tryz.prog Tryz.sR:={ Tryz.laysC172 with  }
theorem Tryz.lays156:Go.Proofs.Lays.n156 Tryz.prog Tryz.sR:={ Tryz.lays155 with f156:=fq Tryz.func112,t31:=Tryz.underlying123,a31:=Tryz.isAgg123,z31:=Tryz.sizeOf123,v31:=Tryz.zeroValue123 }
theorem Tryz.lays138:Go.Proofs.Lays.n138 Tryz.prog Tryz.sR:={ Tryz.lays155 with  }
theorem Tryz.lays145:Go.Proofs.Lays.n145 Tryz.prog Tryz.sR:={ Tryz.lays155 with f145:=fq Tryz.func10,f220:=fq Tryz.func19,t59:=Tryz.underlying38,a59:=Tryz.isAgg38,z59:=Tryz.sizeOf38,v59:=Tryz.zeroValue38 }
theorem Tryz.lays100:Go.Proofs.Lays.n100 Tryz.prog Tryz.sR:={ Tryz.laysC172 with f100:=fq Tryz.func8,f207:=fq Tryz.func17 }
theorem Tryz.Builder_Extra_156:Builder.Extra Tryz.prog Tryz.sR:={
  sizeBuilder:=by kernel_rfl
  liesBuilder:=by kernel_rfl
  t5:=Tryz.underlying5
  a5:=Tryz.isAgg5
  z5:=Tryz.sizeOf5
  v5:=Tryz.zeroValue5
  infoByte:=by kernel_rfl
  cellsByte:=by kernel_rfl
  sizeByte:=by kernel_rfl
  neB5:=by decide }
open Go.RowKit in
theorem Tryz.strings_Join (bk o c:Nat)(xs:List ByteArray)(sep:ByteArray)(w:World)(hcells:∀ (j:Nat) x,xs[j]? = some x->w.cell? ⟨bk,o+j,none⟩=some (.string x))(hbk:bk<w.heap.size)(hN:xs.length<=140737488355328)(hcap:xs.length<=c)(hlen:(Lib.join (xs.map (·.data.toList)) sep.data.toList).length<=140737488355328) :
    Calls Tryz.prog 112 #[.slice (some ⟨bk,o,none⟩) xs.length c,.string sep] w fun e w'=>e=.returned (.string ⟨(Lib.join (xs.map (·.data.toList)) sep.data.toList).toArray⟩)/\Below w.heap.size w w':=Any.strings_Join Tryz.lays156 Tryz.Builder_Extra_156 bk o c xs sep w hcells hbk hN hcap hlen
open Go.RowKit Go.Sort Go.Lib in
theorem Tryz.strconv_Itoa (n : Int) (h0 : -9223372036854775808 <= n) (h1 : n <= 9223372036854775807) (w : World) (htab : Lib.TabIs Tryz.prog w "internal/strconv.uint64pow10" .u64 Lib.pow10Tab) :
    Calls Tryz.prog 21 #[.int .i64 n] w fun e w'=>e=.returned (.string ⟨(Lib.itoa n).toArray⟩)/\∃k os,w'=grow (w.drewN k) os:=Any.strconv_Itoa Tryz.laysM171 n h0 h1 w htab
open Go.RowKit in
theorem Tryz.strconv_Atoi_ok (s:ByteArray)(hmax:s.size<=9223372036854775806)(v:Int)(h:Lib.atoiAll s.data.toList=.ok v)(w:World) :
    Calls Tryz.prog 91 #[.string s] w fun e w'=>e=.returned (.tuple #[.int .i64 v,.nilIface])/\(w'=w\/∃t,w'=Lib.bytesWorld w 5 t):=Any.strconv_Atoi_ok Tryz.laysC172 s hmax v h w
open Go.RowKit in
open Go.RowKit in
theorem Tryz.strconv_Atoi_range_var (s : ByteArray) (hlim : s.size <= 281474976710656) (h : Lib.atoiAll s.data.toList = .range) (tp : TypeId) (p : Value) (w : World) (hvar : w.var? Tryz.prog "strconv.ErrRange" = some #[.iface tp p]) :
    Calls Tryz.prog 91 #[.string s] w fun e w'=>∃N,e=.returned (.tuple #[.int .i64 (Lib.atoiSat s.data.toList),.iface 198 (.pointer (some ⟨N,0,none⟩))])/\w.heap.size<=N/\w'.heap[N]? = some (.cells #[.string ⟨#[65,116,111,105]⟩,.string s,.iface tp p] 225 (0,0))/\Below w.heap.size w w':=Any.strconv_Atoi_range_var Tryz.laysC172 s hlim h tp p w hvar
open Go.RowKit Go.Lib in
theorem Tryz.strings_Cut (s sep:ByteArray)(m:Int)(w:World)(hs:s.size<4294967281)(hm:w.cell? ⟨0,0,none⟩=some (.int .i64 m)) :
    Calls Tryz.prog 10 #[.string s,.string sep] w fun e w'=>e=.returned (.tuple #[.string ⟨(Lib.cut s.data.toList sep.data.toList).1.toArray⟩,.string ⟨(Lib.cut s.data.toList sep.data.toList).2.1.toArray⟩,.bool (Lib.cut s.data.toList sep.data.toList).2.2])/\∃n,w'=w.drewN n:=Any.strings_Cut Tryz.lays145 s sep m w hs hm
open Go.RowKit Go.Lib in
theorem Tryz.strings_Count_one (s:ByteArray)(c:UInt8)(w:World) :
    Calls Tryz.prog 7 #[.string s,.string ⟨#[c]⟩] w fun e w'=>e=.returned (.int .i64 (Lib.countByte s.data.toList c))/\w'=w:=Any.strings_Count_one Tryz.lays138 s c w
open Go.RowKit Go.Lib in
theorem Tryz.strings_HasSuffix (s p:ByteArray)(w:World)(hs:s.size<=9223372036854775807) :
    Calls Tryz.prog 8 #[.string s,.string p] w fun e w'=>e=.returned (.bool (Lib.hasSuffix s.data.toList p.data.toList))/\w'=w:=Any.strings_HasSuffix Tryz.lays100 s p w hs
open Go.RowKit Go.Lib in
theorem Tryz.strings_ReplaceAll (s old new:ByteArray)(m:Int)(w:World)(hs:s.size<4294967281)(hm:w.cell? ⟨0,0,none⟩=some (.int .i64 m))(h1:1<=old.size)(hlen:s.size+Lib.countB s old*new.size<=140737488355328) :
    Calls Tryz.prog 43 #[.string s,.string old,.string new] w fun e w'=>
      e=.returned (.string ⟨(Lib.replaceAll s.data.toList old.data.toList new.data.toList).toArray⟩)/\Below w.heap.size w w':=Any.strings_ReplaceAll Tryz.lays155 Tryz.Builder_Extra_156 s old new m w hs hm h1 hlen
end Go.Proofs

namespace Go.Proofs
open Go.Shelf
def Tryz.lays105_ren:Go.Shelf.Ren:=⟨fun | 105=>221 | 212=>232 | 99=>233 | 165=>149 | 166=>150 | 170=>234 | 169=>152 | 263=>237 | 264=>238 | 206=>239 | 240=>189 | 241=>190 | 276=>219 | 277=>220 | n=>n,fun | 9=>9 | 3=>3 | 4=>4 | 20=>20 | 0=>0 | 46=>91 | 109=>233 | 5=>5 | 72=>160 | 76=>107 | 51=>139 | 146=>140 | 53=>153 | 148=>240 | 70=>158 | 37=>82 | 75=>106 | 127=>194 | 164=>214 | 80=>75 | n=>n,fun | n=>n⟩
theorem Tryz.lays105:Go.Proofs.Lays.n105 Tryz.prog Tryz.lays105_ren:={
  mixed:=by kernel_rfl
  f99:=Tryz.func233.trans (congrArg some (by kernel_rfl))
  f105:=Tryz.func221.trans (congrArg some (by kernel_rfl))
  f165:=Tryz.func149.trans (congrArg some (by kernel_rfl))
  f166:=Tryz.func150.trans (congrArg some (by kernel_rfl))
  f169:=Tryz.func152.trans (congrArg some (by kernel_rfl))
  f170:=Tryz.func234.trans (congrArg some (by kernel_rfl))
  f206:=Tryz.func239.trans (congrArg some (by kernel_rfl))
  f212:=Tryz.func232.trans (congrArg some (by kernel_rfl))
  f240:=Tryz.func189.trans (congrArg some (by kernel_rfl))
  f241:=Tryz.func190.trans (congrArg some (by kernel_rfl))
  f263:=Tryz.func237.trans (congrArg some (by kernel_rfl))
  f264:=Tryz.func238.trans (congrArg some (by kernel_rfl))
  f276:=Tryz.func219.trans (congrArg some (by kernel_rfl))
  f277:=Tryz.func220.trans (congrArg some (by kernel_rfl))
  t0:=Tryz.underlying0
  a0:=Tryz.isAgg0
  z0:=Tryz.sizeOf0
  v0:=Tryz.zeroValue0
  t3:=Tryz.underlying3
  a3:=Tryz.isAgg3
  z3:=Tryz.sizeOf3
  v3:=Tryz.zeroValue3
  t4:=Tryz.underlying4
  a4:=Tryz.isAgg4
  z4:=Tryz.sizeOf4
  v4:=Tryz.zeroValue4
  t5:=Tryz.underlying5
  a5:=Tryz.isAgg5
  z5:=Tryz.sizeOf5
  v5:=Tryz.zeroValue5
  t9:=Tryz.underlying9
  a9:=Tryz.isAgg9
  z9:=Tryz.sizeOf9
  v9:=Tryz.zeroValue9
  t20:=Tryz.underlying20
  a20:=Tryz.isAgg20
  z20:=Tryz.sizeOf20
  v20:=Tryz.zeroValue20
  t37:=Tryz.underlying82
  a37:=Tryz.isAgg82
  z37:=Tryz.sizeOf82
  v37:=Tryz.zeroValue82
  t46:=Tryz.underlying91
  a46:=Tryz.isAgg91
  z46:=Tryz.sizeOf91
  v46:=Tryz.zeroValue91
  t51:=Tryz.underlying139
  a51:=Tryz.isAgg139
  z51:=Tryz.sizeOf139
  v51:=Tryz.zeroValue139
  t53:=Tryz.underlying153
  a53:=Tryz.isAgg153
  z53:=Tryz.sizeOf153
  v53:=Tryz.zeroValue153
  t70:=Tryz.underlying158
  a70:=Tryz.isAgg158
  z70:=Tryz.sizeOf158
  v70:=Tryz.zeroValue158
  t72:=Tryz.underlying160
  a72:=Tryz.isAgg160
  z72:=Tryz.sizeOf160
  v72:=Tryz.zeroValue160
  t75:=Tryz.underlying106
  a75:=Tryz.isAgg106
  z75:=Tryz.sizeOf106
  v75:=Tryz.zeroValue106
  t76:=Tryz.underlying107
  a76:=Tryz.isAgg107
  z76:=Tryz.sizeOf107
  v76:=Tryz.zeroValue107
  t109:=Tryz.underlying233
  a109:=Tryz.isAgg233
  z109:=Tryz.sizeOf233
  v109:=Tryz.zeroValue233
  t127:=Tryz.underlying194
  a127:=Tryz.isAgg194
  z127:=Tryz.sizeOf194
  v127:=Tryz.zeroValue194
  t146:=Tryz.underlying140
  a146:=Tryz.isAgg140
  z146:=Tryz.sizeOf140
  v146:=Tryz.zeroValue140
  t148:=Tryz.underlying240
  a148:=Tryz.isAgg240
  z148:=Tryz.sizeOf240
  v148:=Tryz.zeroValue240
  t164:=Tryz.underlying214
  a164:=Tryz.isAgg214
  z164:=Tryz.sizeOf214
  v164:=Tryz.zeroValue214 }
theorem Tryz.Builder_Extra_105:Builder.Extra Tryz.prog Tryz.lays105_ren:={
  sizeBuilder:=by kernel_rfl
  liesBuilder:=by kernel_rfl
  t5:=Tryz.underlying5
  a5:=Tryz.isAgg5
  z5:=Tryz.sizeOf5
  v5:=Tryz.zeroValue5
  infoByte:=by kernel_rfl
  cellsByte:=by kernel_rfl
  sizeByte:=by kernel_rfl
  neB5:=by decide }
open Go.RowKit Go.Lib in
theorem Tryz.strings_Repeat (s:ByteArray)(c:Nat)(w:World)(hc:c<=9223372036854775807)(hlen:s.size*c<=140737488355328) :
    Calls Tryz.prog 221 #[.string s,.int .i64 c] w fun e w'=>e=.returned (.string ⟨(Lib.repeatL s.data.toList c).toArray⟩)/\Below w.heap.size w w':=Any.strings_Repeat Tryz.lays105 Tryz.Builder_Extra_105 s c w hc hlen
end Go.Proofs

namespace Go.Proofs
open Go.Shelf
def Tryz.lays106_ren:Go.Shelf.Ren:=⟨fun | 106=>165 | 213=>202 | 265=>226 | n=>n,fun | 9=>9 | 3=>3 | n=>n,fun | n=>n⟩
theorem Tryz.lays106:Go.Proofs.Lays.n106 Tryz.prog Tryz.lays106_ren:={
  mixed:=by kernel_rfl
  f106:=Tryz.func165.trans (congrArg some (by kernel_rfl))
  f213:=Tryz.func202.trans (congrArg some (by kernel_rfl))
  f265:=Tryz.func226.trans (congrArg some (by kernel_rfl))
  t3:=Tryz.underlying3
  a3:=Tryz.isAgg3
  z3:=Tryz.sizeOf3
  v3:=Tryz.zeroValue3
  t9:=Tryz.underlying9
  a9:=Tryz.isAgg9
  z9:=Tryz.sizeOf9
  v9:=Tryz.zeroValue9 }
open Go.RowKit in
theorem Tryz.strings_Compare (a b:ByteArray)(w:World) :
    Calls Tryz.prog 165 #[.string a,.string b] w fun e w'=>e=.returned (.int .i64 (Lib.compareBytes a.data.toList b.data.toList))/\w'=w:=Any.strings_Compare Tryz.lays106 a b w
end Go.Proofs
