/- Texts joined: PChk, PgPlain, Shelf, PgZero, UpI, RdA, DnI, PDec, SameInts, MvB, OwA. -/
import Derived.Test.YtehleeibgkpjmafGreatRows
import Derived.Test.YtehleeibgkpjmafGreatMoveTellsJ7
import Derived.WalkLawsBesides
import Derived.Deep.QuietTactic
import Derived.BigQuiet
import Derived.Lib.Strings
import Derived.Lib.Join
import Derived.Lib.Repeat
import Derived.Shelf.Strings.Builder1
import Derived.Shelf.Strings.Builder2
import Derived.Shelf.Strings.BuilderF
import Derived.Shelf.Strings.Prefix
import Derived.Shelf.Bits.Mul64
import Derived.Shelf.Strings.Repeat
import Derived.Test.YtehleeibgkpjmafGreatProg
import Derived.Test.YtehleeibgkpjmafGreatMoveTellsJ4
import Derived.Test.YtehleeibgkpjmafGreatMoveTellsJ10
import Derived.Test.YtehleeibgkpjmafGreatMoveTellsJ1
import Derived.Test.YtehleeibgkpjmafGreatMoveTellsJ5
import Derived.Deep.RegionLaw
import Derived.Deep.CutRange
set_option linter.unusedVariables false
set_option linter.unusedSimpArgs false
namespace Go.Proofs.YtehleeibgkpjmafGreat
open Go.RowKit
set_option maxRecDepth 20000
theorem isPage_any (p:ByteArray)(w:World):Calls Tryz.prog 56 #[.string p] w fun r w'=>r=.returned (.bool (decide (p.size=4)))∧w'=w:=by
 go_enter Tryz.func56,Tryz.ntmps56
 go_wp2
 go_ret
 exact⟨ret_bool (by simp;omega),rfl⟩
theorem zeroPage_any (w:World):Calls Tryz.prog 34 #[] w fun r w'=>r=.returned (.string ⟨#[0,0,0,0]⟩)∧w'=w:=by
 go_enter Tryz.func34,Tryz.ntmps34
 go_wp2
 go_ret
 exact⟨rfl,rfl⟩
theorem pcheck_many (ao:Option Addr)(n cap:Nat)(w:World)(hn:(16:Int)<(n:Int)):Calls Tryz.prog 29 #[.slice ao n cap] w fun r w'=>r=.returned (.int .i64 2)∧w'=w:=by
 go_enter Tryz.func29,Tryz.ntmps29
 go_wp2
 go_ret;exact⟨rfl,rfl⟩
theorem pcheck_0 (ao:Option Addr)(cap:Nat)(w:World):Calls Tryz.prog 29 #[.slice ao 0 cap] w fun r w'=>r=.returned (.int .i64 0)∧w'=w:=by
 go_enter Tryz.func29,Tryz.ntmps29
 go_wp2
 refine wp_loop_rounds 1 ?_
 rw [rounds_succ]
 go_wp2
 go_ret
 exact⟨rfl,rfl⟩
theorem pcheck_at (b off n cap:Nat)(xs:List ByteArray)(w:World)(hn:xs.length=n)(h16:n≤16)(hc:∀j,j<n→w.cell? ⟨b,off+j,none⟩=some (.string (xs.getD j ByteArray.empty))) :
  Calls Tryz.prog 29 #[.slice (some ⟨b,off,none⟩) n cap] w fun r w'=>r=.returned (.int .i64 (ckP xs))∧w'=w:=by
 have HC:Hid (∀j,j<n→w.cell? ⟨b,off+j,none⟩=some (.string (xs.getD j ByteArray.empty))):=hc
 have HN:Hid (xs.length=n):=hn
 clear hc hn
 have g1:¬(16:Int)<(n:Int):=by omega
 go_enter Tryz.func29,Tryz.ntmps29
 go_wp2
 go_loop [10] (fun i=>∃k:Nat,k≤n∧i=.int .i64 k∧∀j,j<k→(xs.getD j ByteArray.empty).size=4) (fun i=>n - (intOf i).toNat)
 case atStart=>exact⟨0,by omega,rfl,fun j hj=>absurd hj (by omega)⟩
 case round=>
  obtain⟨k,hk,rfl,hall⟩:=hrel
  have HA:Hid (∀j,j<k→(xs.getD j ByteArray.empty).size=4):=hall
  clear hall
  by_cases hlt:k<n
  ·obtain⟨x,hx⟩:∃x,xs.getD k ByteArray.empty=x:=⟨_,rfl⟩
   have hck:=HC.out k hlt
   rw [hx] at hck
   have HX:Hid (xs.getD k ByteArray.empty=x):=hx
   clear hx
   by_cases hE:x.size=4
   ·have hd:decide (x.size=4)=true:=by simp [hE]
    have HE:Hid (x.size=4):=hE
    clear hE
    go_wp2_with (go_at_call 56;refine (isPage_any _ _).mono ?_;rintro e w' ⟨rfl,hw⟩;subst hw;rw [hd])
    go_round
    case rel=>exact⟨k+1,by omega,by go_num,fun j hj=>by
     by_cases e:j=k
     ·subst e;rw [HX.out];exact HE.out
     ·exact HA.out j (by omega)⟩
    case measure=>simp [intOf];omega
   ·have hd:decide (x.size=4)=false:=by simp [hE]
    go_wp2_with (go_at_call 56;refine (isPage_any _ _).mono ?_;rintro e w' ⟨rfl,hw⟩;subst hw;rw [hd])
    go_ret
    exact⟨ret_int (ckP_bad (by rw [HN.out];exact h16) (j:=k) (by rw [HN.out];exact hlt) (by rw [HX.out];exact hE)).symm,rfl⟩
  ·have e4:k=n:=by omega
   subst e4
   go_wp2
   go_ret
   exact⟨ret_int (ckP_ok (by rw [HN.out];exact h16) (by rw [HN.out];exact HA.out)).symm,rfl⟩
theorem pcheck_any (v:Value)(xs:List ByteArray)(w:World)(h:Ss w v xs):Calls Tryz.prog 29 #[v] w fun r w'=>r=.returned (.int .i64 (ckP xs))∧w'=w:=by
 obtain⟨ao,cap,rfl⟩:=h.form
 by_cases h16:xs.length≤16
 ·by_cases h0:xs.length=0
  ·have e:xs=[]:=List.eq_nil_of_length_eq_zero h0
   subst e
   exact pcheck_0 ao cap w
  ·obtain⟨b,off,rfl,hlt,hcell⟩:=h.at (by omega)
   exact pcheck_at b off _ cap xs w rfl h16 hcell
 ·rw [ckP_many h16];exact pcheck_many ao _ cap w (by omega)
theorem pcheck_is {v:Value}{xs:List ByteArray}{w:World}(h:Ss w v xs){c:Int}(hc:ckP xs=c):Calls Tryz.prog 29 #[v] w fun r w'=>r=.returned (.int .i64 c)∧w'=w:=by subst hc;exact pcheck_any v xs w h
theorem checkPages_many (ao:Option Addr)(n cap:Nat)(w:World)(hn:(16:Int)<(n:Int)):Calls Tryz.prog 33 #[.slice ao n cap] w fun r w'=>r=.returned (.int .i64 2)∧w'=w:=by
 go_enter Tryz.func33,Tryz.ntmps33
 go_wp2
 go_ret;exact⟨rfl,rfl⟩
theorem checkPages_0 (ao:Option Addr)(cap:Nat)(w:World):Calls Tryz.prog 33 #[.slice ao 0 cap] w fun r w'=>r=.returned (.int .i64 0)∧w'=w:=by
 go_enter Tryz.func33,Tryz.ntmps33
 go_wp2
 refine wp_loop_rounds 1 ?_
 rw [rounds_succ]
 go_wp2
 go_ret
 exact⟨rfl,rfl⟩
theorem checkPages_at (b off n cap:Nat)(xs:List ByteArray)(w:World)(hn:xs.length=n)(h16:n≤16)(hc:∀j,j<n→w.cell? ⟨b,off+j,none⟩=some (.string (xs.getD j ByteArray.empty))) :
  Calls Tryz.prog 33 #[.slice (some ⟨b,off,none⟩) n cap] w fun r w'=>r=.returned (.int .i64 (ckP xs))∧w'=w:=by
 have HC:Hid (∀j,j<n→w.cell? ⟨b,off+j,none⟩=some (.string (xs.getD j ByteArray.empty))):=hc
 have HN:Hid (xs.length=n):=hn
 clear hc hn
 have g1:¬(16:Int)<(n:Int):=by omega
 go_enter Tryz.func33,Tryz.ntmps33
 go_wp2
 go_loop [3] (fun i=>∃k:Nat,k≤n∧i=.int .i64 k∧∀j,j<k→(xs.getD j ByteArray.empty).size=4) (fun i=>n - (intOf i).toNat)
 case atStart=>exact⟨0,by omega,rfl,fun j hj=>absurd hj (by omega)⟩
 case round=>
  obtain⟨k,hk,rfl,hall⟩:=hrel
  have HA:Hid (∀j,j<k→(xs.getD j ByteArray.empty).size=4):=hall
  clear hall
  by_cases hlt:k<n
  ·obtain⟨x,hx⟩:∃x,xs.getD k ByteArray.empty=x:=⟨_,rfl⟩
   have hck:=HC.out k hlt
   rw [hx] at hck
   have HX:Hid (xs.getD k ByteArray.empty=x):=hx
   clear hx
   by_cases hE:x.size=4
   ·have hd:((x.size:Int) != 4)=false:=by simp [hE]
    have HE:Hid (x.size=4):=hE
    clear hE
    go_wp2
    go_round
    case rel=>exact⟨k+1,by omega,by go_num,fun j hj=>by
     by_cases e:j=k
     ·subst e;rw [HX.out];exact HE.out
     ·exact HA.out j (by omega)⟩
    case measure=>simp [intOf];omega
   ·have hd:((x.size:Int) != 4)=true:=by simp;omega
    go_wp2
    go_ret
    exact⟨ret_int (ckP_bad (by rw [HN.out];exact h16) (j:=k) (by rw [HN.out];exact hlt) (by rw [HX.out];exact hE)).symm,rfl⟩
  ·have e4:k=n:=by omega
   subst e4
   go_wp2
   go_ret
   exact⟨ret_int (ckP_ok (by rw [HN.out];exact h16) (by rw [HN.out];exact HA.out)).symm,rfl⟩
theorem checkPages_any (v:Value)(xs:List ByteArray)(w:World)(h:Ss w v xs):Calls Tryz.prog 33 #[v] w fun r w'=>r=.returned (.int .i64 (ckP xs))∧w'=w:=by
 obtain⟨ao,cap,rfl⟩:=h.form
 by_cases h16:xs.length≤16
 ·by_cases h0:xs.length=0
  ·have e:xs=[]:=List.eq_nil_of_length_eq_zero h0
   subst e
   exact checkPages_0 ao cap w
  ·obtain⟨b,off,rfl,hlt,hcell⟩:=h.at (by omega)
   exact checkPages_at b off _ cap xs w rfl h16 hcell
 ·rw [ckP_many h16];exact checkPages_many ao _ cap w (by omega)
theorem checkPages_is {v:Value}{xs:List ByteArray}{w:World}(h:Ss w v xs){c:Int}(hc:ckP xs=c):Calls Tryz.prog 33 #[v] w fun r w'=>r=.returned (.int .i64 c)∧w'=w:=by subst hc;exact checkPages_any v xs w h
theorem samePages_at (ao bo:Option Addr)(n cap cap':Nat)(xs:List ByteArray)(w:World)(hm:n≤9223372036854775807)
  (hc:∀j,j<n→∃b off,ao=some ⟨b,off,none⟩∧b<w.heap.size∧w.cell? ⟨b,off+j,none⟩=some (.string (xs.getD j ByteArray.empty)))
  (hd:∀j,j<n→∃b off,bo=some ⟨b,off,none⟩∧b<w.heap.size∧w.cell? ⟨b,off+j,none⟩=some (.string (xs.getD j ByteArray.empty))) :
  Calls Tryz.prog 16 #[.slice ao n cap,.slice bo n cap'] w fun r w'=>r=.returned (.bool true)∧Below w.heap.size w w':=by
 have HC:Hid (∀j,j<n→∃b off,ao=some ⟨b,off,none⟩∧b<w.heap.size∧w.cell? ⟨b,off+j,none⟩=some (.string (xs.getD j ByteArray.empty))):=hc
 have HD:Hid (∀j,j<n→∃b off,bo=some ⟨b,off,none⟩∧b<w.heap.size∧w.cell? ⟨b,off+j,none⟩=some (.string (xs.getD j ByteArray.empty))):=hd
 clear hc hd
 go_enter Tryz.func16,Tryz.ntmps16
 go_wp2
 go_loopw [5] (fun i wr=>∃k:Nat,k≤n∧i=.int .i64 k∧Below w.heap.size w wr) (fun i _=>n - (intOf i).toNat)
 case atStart=>exact⟨0,by omega,rfl,Below.refl _ _⟩
 case round=>
  obtain⟨k,hk,rfl,hbel⟩:=hrel
  by_cases hlt:k<n
  ·obtain⟨x,hx⟩:∃x,xs.getD k ByteArray.empty=x:=⟨_,rfl⟩
   obtain⟨b,off,hao,hl1,hck⟩:=HC.out k hlt
   obtain⟨b',off',hbo,hl2,hck'⟩:=HD.out k hlt
   rw [hx] at hck hck'
   clear hx
   have g1:wr.cell? ⟨b,off+k,none⟩=some (.string x):=(hbel.cell (p:=⟨b,off+k,none⟩) hl1).trans hck
   have g2:wr.cell? ⟨b',off'+k,none⟩=some (.string x):=(hbel.cell (p:=⟨b',off'+k,none⟩) hl2).trans hck'
   have i1:(k:Int)<(n:Int):=by omega
   go_wp2
   go_quiet (fail)
   go_wp2
   go_roundw
   case rel=>exact⟨k+1,by omega,by go_num,below_drewN hbel _⟩
   case measure=>simp [intOf];omega
  ·have e4:k=n:=by omega
   subst e4
   go_wp2
   go_ret
   exact⟨rfl,hbel⟩
theorem samePages_any {v u:Value}{xs:List ByteArray}{w:World}(h:Ss w v xs)(k:Ss w u xs) :
  Calls Tryz.prog 16 #[v,u] w fun r w'=>r=.returned (.bool true)∧Below w.heap.size w w':=by
 obtain⟨ao,cap,rfl⟩:=h.form
 obtain⟨bo,cap',rfl⟩:=k.form
 obtain⟨hn,hm,_,hc⟩:=h.cells
 obtain⟨_,_,_,hd⟩:=k.cells
 exact samePages_at ao bo _ cap cap' xs w hm hc hd
end Go.Proofs.YtehleeibgkpjmafGreat
namespace Go.Proofs.YtehleeibgkpjmafGreat
open Go.RowKit
def ofBytes (l:List UInt8):ByteArray:=⟨l.toArray⟩
theorem repeat_zero (n:Nat):Lib.repeatL [0] n=List.replicate n 0:=by
 induction n with
 | zero=>rfl
 | succ n ih=>rw [Lib.repeatL,ih];rfl
end Go.Proofs.YtehleeibgkpjmafGreat
namespace Go.Proofs
open Go.Shelf
def Tryz.lays105_ren:Go.Shelf.Ren:=⟨fun | 105=>88 | 212=>103 | 99=>104 | 165=>105 | 166=>106 | 170=>107 | 169=>108 | 263=>124 | 264=>125 | 206=>126 | 240=>127 | 241=>128 | 276=>138 | 277=>139 | n=>n,fun | 9=>9 | 3=>3 | 4=>4 | 20=>20 | 0=>0 | 46=>127 | 109=>128 | 5=>5 | 72=>134 | 76=>138 | 51=>153 | 146=>154 | 53=>156 | 148=>157 | 70=>131 | 37=>132 | 75=>137 | 127=>159 | 164=>163 | 80=>57 | n=>n,fun | n=>n⟩
theorem Tryz.lays105:Go.Proofs.Lays.n105 Tryz.prog Tryz.lays105_ren:={
 mixed:=by kernel_rfl
 f99:=Tryz.func104.trans (congrArg some (by kernel_rfl))
 f105:=Tryz.func88.trans (congrArg some (by kernel_rfl))
 f165:=Tryz.func105.trans (congrArg some (by kernel_rfl))
 f166:=Tryz.func106.trans (congrArg some (by kernel_rfl))
 f169:=Tryz.func108.trans (congrArg some (by kernel_rfl))
 f170:=Tryz.func107.trans (congrArg some (by kernel_rfl))
 f206:=Tryz.func126.trans (congrArg some (by kernel_rfl))
 f212:=Tryz.func103.trans (congrArg some (by kernel_rfl))
 f240:=Tryz.func127.trans (congrArg some (by kernel_rfl))
 f241:=Tryz.func128.trans (congrArg some (by kernel_rfl))
 f263:=Tryz.func124.trans (congrArg some (by kernel_rfl))
 f264:=Tryz.func125.trans (congrArg some (by kernel_rfl))
 f276:=Tryz.func138.trans (congrArg some (by kernel_rfl))
 f277:=Tryz.func139.trans (congrArg some (by kernel_rfl))
 t0:=Tryz.underlying0
 a0:=Tryz.isAgg0
 z0:=Tryz.sizeOf0
 v0:=Tryz.zeroValue0
 t3:=Tryz.underlying3
 a3:=Tryz.isAgg3
 z3:=Tryz.sizeOf3
 v3:=Tryz.zeroValue3
 t4:=Tryz.underlying4
 a4:=Tryz.isAgg4
 z4:=Tryz.sizeOf4
 v4:=Tryz.zeroValue4
 t5:=Tryz.underlying5
 a5:=Tryz.isAgg5
 z5:=Tryz.sizeOf5
 v5:=Tryz.zeroValue5
 t9:=Tryz.underlying9
 a9:=Tryz.isAgg9
 z9:=Tryz.sizeOf9
 v9:=Tryz.zeroValue9
 t20:=Tryz.underlying20
 a20:=Tryz.isAgg20
 z20:=Tryz.sizeOf20
 v20:=Tryz.zeroValue20
 t37:=Tryz.underlying132
 a37:=Tryz.isAgg132
 z37:=Tryz.sizeOf132
 v37:=Tryz.zeroValue132
 t46:=Tryz.underlying127
 a46:=Tryz.isAgg127
 z46:=Tryz.sizeOf127
 v46:=Tryz.zeroValue127
 t51:=Tryz.underlying153
 a51:=Tryz.isAgg153
 z51:=Tryz.sizeOf153
 v51:=Tryz.zeroValue153
 t53:=Tryz.underlying156
 a53:=Tryz.isAgg156
 z53:=Tryz.sizeOf156
 v53:=Tryz.zeroValue156
 t70:=Tryz.underlying131
 a70:=Tryz.isAgg131
 z70:=Tryz.sizeOf131
 v70:=Tryz.zeroValue131
 t72:=Tryz.underlying134
 a72:=Tryz.isAgg134
 z72:=Tryz.sizeOf134
 v72:=Tryz.zeroValue134
 t75:=Tryz.underlying137
 a75:=Tryz.isAgg137
 z75:=Tryz.sizeOf137
 v75:=Tryz.zeroValue137
 t76:=Tryz.underlying138
 a76:=Tryz.isAgg138
 z76:=Tryz.sizeOf138
 v76:=Tryz.zeroValue138
 t109:=Tryz.underlying128
 a109:=Tryz.isAgg128
 z109:=Tryz.sizeOf128
 v109:=Tryz.zeroValue128
 t127:=Tryz.underlying159
 a127:=Tryz.isAgg159
 z127:=Tryz.sizeOf159
 v127:=Tryz.zeroValue159
 t146:=Tryz.underlying154
 a146:=Tryz.isAgg154
 z146:=Tryz.sizeOf154
 v146:=Tryz.zeroValue154
 t148:=Tryz.underlying157
 a148:=Tryz.isAgg157
 z148:=Tryz.sizeOf157
 v148:=Tryz.zeroValue157
 t164:=Tryz.underlying163
 a164:=Tryz.isAgg163
 z164:=Tryz.sizeOf163
 v164:=Tryz.zeroValue163 }
theorem Tryz.Builder_Extra_105:Builder.Extra Tryz.prog Tryz.lays105_ren:={
 sizeBuilder:=by kernel_rfl
 liesBuilder:=by kernel_rfl
 t5:=Tryz.underlying5
 a5:=Tryz.isAgg5
 z5:=Tryz.sizeOf5
 v5:=Tryz.zeroValue5
 infoByte:=by kernel_rfl
 cellsByte:=by kernel_rfl
 sizeByte:=by kernel_rfl
 neB5:=by decide }
open Go.RowKit Go.Lib in
theorem Tryz.strings_Repeat (s:ByteArray)(c:Nat)(w:World)(hc:c≤9223372036854775807)(hlen:s.size*c≤140737488355328) :
  Calls Tryz.prog 88 #[.string s,.int .i64 c] w fun e w'=>e=.returned (.string ⟨(Lib.repeatL s.data.toList c).toArray⟩)∧Below w.heap.size w w':=Any.strings_Repeat Tryz.lays105 Tryz.Builder_Extra_105 s c w hc hlen
end Go.Proofs
namespace Go.Proofs.YtehleeibgkpjmafGreat
open Go.RowKit
set_option maxRecDepth 20000
theorem zeros_any (n:Nat)(w:World)(hn:n≤4):Calls Tryz.prog 57 #[.int .i64 n] w fun r w'=>r=.returned (.string (ofBytes (List.replicate n 0)))∧Below w.heap.size w w':=by
 have h:=Tryz.strings_Repeat ⟨#[0]⟩ n w (by omega) (by show 1*n≤_;omega)
 rw [show (⟨#[0]⟩:ByteArray).data.toList=[0] from rfl,repeat_zero] at h
 have HH:Hid (Calls Tryz.prog 88 #[.string ⟨#[0]⟩,.int .i64 n] w fun e w'=>e=.returned (.string (ofBytes (List.replicate n 0)))∧Below w.heap.size w w'):=h
 clear h
 go_enter Tryz.func57,Tryz.ntmps57
 go_wp2_with (go_at_call 88;refine (HH.out).mono ?_;rintro e w1 ⟨rfl,b1⟩)
 go_ret
 exact⟨rfl,b1⟩
theorem zero_any (w:World):Calls Tryz.prog 30 #[] w fun r w'=>r=.returned (.string Z4)∧Below w.heap.size w w':=by
 go_enter Tryz.func30,Tryz.ntmps30
 go_wp2_with (go_at_call 57;refine (zeros_any 4 _ (by omega)).mono ?_;rintro e w1 ⟨rfl,b1⟩)
 go_ret
 exact⟨rfl,b1⟩
theorem Tryz.info9:(Tryz.prog.info? 9).map (fun i=>(i.zero,i.size,i.bytes))=some (some (.string ByteArray.empty),1,16):=by kernel_rfl
theorem Ss_of_owns {w:World}{base n:Nat}{v:Value}{xs:List ByteArray}(h:w.ownsRow base 9 1 v n (xs.map Value.string)):Ss w v xs:=by
 have hl:xs.length=n:=by have:=h.1;simpa using this
 have h':=h
 rcases h.2 with ⟨rfl,rfl⟩ | ⟨g,cap,cur,rfl,_⟩
 ·have:xs=[]:=List.eq_nil_of_length_eq_zero hl
  subst this
  exact Ss.nil w
 ·exact Ss_of_own h'
theorem one_new (w:World)(y:ByteArray):∀ (j:Nat) (u:Value),[Value.string y][j]? = some u→(w.alloc (.cells #[.string y] 9)).cell? ((⟨w.heap.size,0,none⟩:Addr).add j)=some u:=by
 intro j u hj
 match j,hj with
 | 0,hj=>
  simp at hj
  subst hj
  rw [addr_add,World.cell?_alloc_at _ _ _ _ rfl]
  rfl
theorem app_str {w0 w:World}{ops:Array Oper}{rest:List Oper}{o:Oper}{a:Act}{Q:Exit→Act→World→Prop}(hgd:o.guard=none)(s x:Operand)
  (ho:o.op=.call { callee:=.builtin .append,args:=#[s,x],argTypes:=#[22,22] }) (v:Value) (xs:List ByteArray) (y:ByteArray) (B:Nat) (hs:a.eval s=v) (hx:a.eval x=.slice (some ⟨w.heap.size,0,none⟩) 1 1)
  (hown:w.ownsRow B 9 1 v xs.length (xs.map Value.string)) (hl:xs.length≤1000) (hB:B≤w.heap.size) (hbel:Below B w0 w)
  (h:∀v' w',Hid (w'.ownsRow B 9 1 v' (xs ++ [y]).length ((xs ++ [y]).map Value.string))→Below B w0 w'→B≤w'.heap.size→wpList Tryz.prog ops Q rest (a.put o.dst v') w') :
  wpList Tryz.prog ops Q (o :: rest) a (w.alloc (.cells #[.string y] 9)):=by
 obtain⟨i0,hi,hz0,hz1,hz2⟩:=info_parts Tryz.info9
 refine wpList_append_own (w.alloc (.cells #[.string y] 9)) hgd s x 22 ho B 9 i0 (.string ByteArray.empty) 1 16 Tryz.underlying22 hi hz0 hz1 hz2 rfl (by decide) v xs.length _ hs (hown.alloc _) ⟨w.heap.size,0,none⟩ 1 1 [.string y] hx rfl (one_new w y) (by intro u hu;simp at hu;subst hu;rfl) (by unfold maxLen;omega) (by omega) (by simp;omega) ?_
 intro v' w' hown' hgrow _
 have hz:w.heap.size≤w'.heap.size:=Nat.le_trans (by simp) hgrow.size
 refine h v' w' ?_ ((hbel.alloc hB _).grown hgrow (by simp;omega) ?_) (Nat.le_trans hB hz)
 ·show w'.ownsRow _ _ _ _ _ _
  rw [List.map_append,List.length_append];exact hown'
 ·intro k hk
  exact (hown.lt k hk).1
end Go.Proofs.YtehleeibgkpjmafGreat
namespace Go.Proofs.YtehleeibgkpjmafGreat
open Go.RowKit Go.Shelf
set_option maxRecDepth 20000
set_option linter.unusedVariables false
set_option linter.unusedSimpArgs false
structure UpR (w wr:World) (B D:Nat) (M:ImgD):Prop where
 ex:∃val,OI wr B val M∧wr.heap[D]? = some (.cells #[.int .i64 M.guest,val .root,val .slots,val .refs,val .snaps] 27)∧∀a,Live M a→(val a).ownBlock≠some D
 bel:Below w.heap.size w wr
 res:wr.heap[w.heap.size]? = some (.cells #[.int .i64 0,.slice none 0 0,.slice none 0 0,.slice none 0 0,.slice none 0 0] 27)
theorem five_setU {W:World}{D:Nat}{x0 x1 x2 x3 x4:Value}{T:TypeId}(h:W.heap[D]? = some (.cells #[x0,x1,x2,x3,x4] T))(a0 a1 a2 a3 a4:Value):((((((W.setCell ⟨D,0,none⟩ (a0)).setCell ⟨D,1,none⟩ (a1)).setCell ⟨D,2,none⟩ (a2)).setCell ⟨D,3,none⟩ (a3)).setCell ⟨D,4,none⟩ (a4))).heap[D]? = some (.cells #[a0,a1,a2,a3,a4] T):=by
 have h0:=cells_set h 0 a0
 have h1:=cells_set h0 1 a1
 have h2:=cells_set h1 2 a2
 have h3:=cells_set h2 3 a3
 have h4:=cells_set h3 4 a4
 exact h4
theorem five_farU {W:World}{D q:Nat}(a0 a1 a2 a3 a4:Value)(hq:q≠D):((((((W.setCell ⟨D,0,none⟩ (a0)).setCell ⟨D,1,none⟩ (a1)).setCell ⟨D,2,none⟩ (a2)).setCell ⟨D,3,none⟩ (a3)).setCell ⟨D,4,none⟩ (a4))).heap[q]? = W.heap[q]?:=
 (Below.heap_setCell _ ⟨D,4,none⟩ a4 q hq).trans ((Below.heap_setCell _ ⟨D,3,none⟩ a3 q hq).trans ((Below.heap_setCell _ ⟨D,2,none⟩ a2 q hq).trans ((Below.heap_setCell _ ⟨D,1,none⟩ a1 q hq).trans (Below.heap_setCell _ ⟨D,0,none⟩ a0 q hq))))
theorem UpR.below {w wr wx:World}{B D:Nat}{M:ImgD}(h:UpR w wr B D M)(hb:Below wr.heap.size wr wx):UpR w wx B D M:=by
 obtain⟨val,hO,hbox,hf⟩:=h.ex
 exact⟨⟨val,hO.below hb,(hb.block D (szH hbox)).trans hbox,hf⟩,Below.on h.bel hb,(hb.block _ (Array.getElem?_eq_some_iff.1 h.res).1).trans h.res⟩
theorem UpR.put {w wr wx:World}{B D:Nat}{M M':ImgD}{val:Nm→Value}(h:UpR w wr B D M)(hD:w.heap.size<D)(hB:B≤wr.heap.size)(hO:OI wx wr.heap.size val M')(hb:Below wr.heap.size wr wx):UpR w (((((wx.setCell ⟨D,0,none⟩ (.int .i64 M'.guest)).setCell ⟨D,1,none⟩ (val .root)).setCell ⟨D,2,none⟩ (val .slots)).setCell ⟨D,3,none⟩ (val .refs)).setCell ⟨D,4,none⟩ (val .snaps)) B D M':=by
 obtain⟨val0,_,hbox,_⟩:=h.ex
 have hDl:=(szH hbox)
 have hf:∀a,Live M' a→(val a).ownBlock≠some D:=fun a ha e=>by have:=((hO.row a ha).lt D e).1;omega
 have hbx:=(hb.block D hDl).trans hbox
 have hge:w.heap.size≤D:=by omega
 refine⟨⟨val,OI.mono ((((((hO.far hf).far hf).far hf).far hf).far hf)) hB,five_setU hbx _ _ _ _ _,hf⟩,?_,?_⟩
 ·exact (((((Below.on h.bel hb).setCell (p:=⟨D,0,none⟩) hge _).setCell (p:=⟨D,1,none⟩) hge _).setCell (p:=⟨D,2,none⟩) hge _).setCell (p:=⟨D,3,none⟩) hge _).setCell (p:=⟨D,4,none⟩) hge _
 ·exact (five_farU _ _ _ _ _ (by omega)).trans ((hb.block _ (Array.getElem?_eq_some_iff.1 h.res).1).trans h.res)
theorem Hid_mkU {p:Prop}(h:p):Hid p:=h
theorem ss_openU {w:World}{ao:Option Addr}{cap k:Nat}{l:List ByteArray}(h:Ss w (.slice ao l.length cap) l)(hk:k<l.length):∃b off,ao=some ⟨b,off,none⟩∧b<w.heap.size∧w.cell? ⟨b,off+k,none⟩=some (.string (pgA l k)):=by
 obtain⟨a',c',e,_,_,hc⟩:=h
 simp only [Value.slice.injEq] at e
 obtain⟨rfl,_,rfl⟩:=e
 obtain⟨b,off,rfl,hlt,hcell⟩:=hc (by intro x;rw [x] at hk;simp at hk)
 exact⟨b,off,rfl,hlt,hcell k hk⟩
set_option maxHeartbeats 4000000 in
theorem up_bad_at (ao:Option Addr)(cap:Nat)(l:List ByteArray)(E:Int)(w:World)(h:Ss w (.slice ao l.length cap) l)(hE:ckP l=E)(hne:(E != 0)=true) :
  Calls Tryz.prog 10 #[.slice ao l.length cap] w (AnsI w w.heap.size imgZ E):=by
 have b0:Below w.heap.size w (w.alloc (.cells #[.int .i64 0,.slice none 0 0,.slice none 0 0,.slice none 0 0,.slice none 0 0] 27)):=(Below.refl _ _).alloc (Nat.le_refl _) _
 have m0:(w.alloc (.cells #[.int .i64 0,.slice none 0 0,.slice none 0 0,.slice none 0 0,.slice none 0 0] 27)).heap[w.heap.size]? = some (.cells #[.int .i64 0,.slice none 0 0,.slice none 0 0,.slice none 0 0,.slice none 0 0] 27):=World.alloc_heap_new _ _
 have hS:=h.below b0
 obtain⟨z0,z1,z2,z3,z4⟩:=five m0
 have y0:=cells_frozen m0 0;have y1:=cells_frozen m0 1;have y2:=cells_frozen m0 2;have y3:=cells_frozen m0 3;have y4:=cells_frozen m0 4
 have HB:Hid (Below w.heap.size w (w.alloc (.cells #[.int .i64 0,.slice none 0 0,.slice none 0 0,.slice none 0 0,.slice none 0 0] 27))):=b0
 clear h m0 b0
 go_enter Tryz.func10,Tryz.ntmps10
 go_wp2_with (go_at_call 29;refine (pcheck_is hS hE).mono ?_;rintro e w' ⟨rfl,hw⟩;subst hw)
 have i1:w.heap.size≤w.heap.size:=Nat.le_refl _
 refine bodyPost_ret (v:=.tuple #[.agg #[.int .i64 0,.slice none 0 0,.slice none 0 0,.slice none 0 0,.slice none 0 0],.int .i64 E]) (by simp [results,Tryz.results10,go_sem,z0,z1,z2,z3,z4]) rfl ?_
 first
  | exact AnsI.bad E (((((HB.out.setCell i1 _).setCell i1 _).setCell i1 _).setCell i1 _).setCell i1 _)
  | exact AnsI.bad E HB.out
set_option maxHeartbeats 16000000 in
theorem up_ok_at (ao:Option Addr)(cap:Nat)(l:List ByteArray)(w:World)(h:Ss w (.slice ao l.length cap) l)(hE:ckP l=0)(M:ImgD)(hM:upS l l.length=M) :
  Calls Tryz.prog 10 #[.slice ao l.length cap] w (AnsI w w.heap.size M 0):=by
 have b0:Below w.heap.size w (w.alloc (.cells #[.int .i64 0,.slice none 0 0,.slice none 0 0,.slice none 0 0,.slice none 0 0] 27)):=(Below.refl _ _).alloc (Nat.le_refl _) _
 have m0:(w.alloc (.cells #[.int .i64 0,.slice none 0 0,.slice none 0 0,.slice none 0 0,.slice none 0 0] 27)).heap[w.heap.size]? = some (.cells #[.int .i64 0,.slice none 0 0,.slice none 0 0,.slice none 0 0,.slice none 0 0] 27):=World.alloc_heap_new _ _
 have hS:=h.below b0
 obtain⟨h16,h4⟩:=ckP_zero hE
 obtain⟨M0,hM0⟩:∃X,freshD l.length=X:=⟨_,rfl⟩
 have HF:Hid (∀w1,Calls Tryz.prog 22 #[.int .i64 (l.length:Int)] w1 (AnsI w1 w1.heap.size M0 0)):=fun w1=>fresh_is _ w1 ((frs_is _ h16).1.trans hM0) (frs_is _ h16).2.1
 have HU0:Hid (upS l 0=M0):=hM0
 have HM0:Hid ((w.alloc (.cells #[.int .i64 0,.slice none 0 0,.slice none 0 0,.slice none 0 0,.slice none 0 0] 27)).heap[w.heap.size]? = some (.cells #[.int .i64 0,.slice none 0 0,.slice none 0 0,.slice none 0 0,.slice none 0 0] 27)∧Below w.heap.size w (w.alloc (.cells #[.int .i64 0,.slice none 0 0,.slice none 0 0,.slice none 0 0,.slice none 0 0] 27))):=⟨m0,b0⟩
 have HP:Hid (ckP l=0∧upS l l.length=M):=⟨hE,hM⟩
 have HSs:Hid (Ss w (.slice ao l.length cap) l):=h
 clear h m0 b0 hM hM0 h4
 go_enter Tryz.func10,Tryz.ntmps10
 go_wp2_with (first | (go_at_call 22;refine (HF.out _).mono ?_;intro e w2 hA;obtain⟨val,g0,k0,g1,k1,g2,k2,g3,k3,rfl,hO,b2,hI⟩:=hA.open;dsimp only) | (go_at_call 29;refine (pcheck_is hS hE).mono ?_;rintro e w' ⟨rfl,hw⟩;subst hw))
 clear hS
 have hz0:(w.alloc (.cells #[.int .i64 0,.slice none 0 0,.slice none 0 0,.slice none 0 0,.slice none 0 0] 27)).heap.size=w.heap.size+1:=by simp
 have HO:Hid (OI w2 (w.heap.size+1) val M0∧imgV M0.guest val=.agg #[.int .i64 M0.guest,.slice g0 M0.root.length k0,.slice g1 M0.slots.length k1,.slice g2 M0.refs.length k2,.slice g3 M0.snaps.length k3]):=⟨by rw [hz0] at hO;exact hO,hI⟩
 have HR0:Hid (UpR w (w2.alloc (.cells #[.int .i64 M0.guest,.slice g0 M0.root.length k0,.slice g1 M0.slots.length k1,.slice g2 M0.refs.length k2,.slice g3 M0.snaps.length k3] 27)) (w.heap.size+1) w2.heap.size M0):=by
  have hi:=HO.out.2
  unfold imgV at hi
  simp only [Value.agg.injEq,Array.mk.injEq,List.cons.injEq,and_true,true_and] at hi
  obtain⟨i0,i1,i2,i3⟩:=hi
  have hs2:w.heap.size+1≤w2.heap.size:=by have:=b2.size;rw [hz0] at this;exact this
  exact⟨⟨val,HO.out.1.alloc _,by rw [i0,i1,i2,i3];exact World.alloc_heap_new _ _,HO.out.1.lt (Nat.le_refl _)⟩,(Below.on HM0.out.2 b2).alloc (by omega) _,cells_alloc (cells_below HM0.out.1 b2 (by rw [hz0];omega)) _⟩
 have hDw:w.heap.size+1≤w2.heap.size:=by have:=b2.size;rw [hz0] at this;exact this
 clear hO hI hA b2 HF hz0
 obtain⟨w3,hw3⟩:∃X,X=w2.alloc (.cells #[.int .i64 M0.guest,.slice g0 M0.root.length k0,.slice g1 M0.slots.length k1,.slice g2 M0.refs.length k2,.slice g3 M0.snaps.length k3] 27):=⟨_,rfl⟩
 rw [←hw3] at HR0
 first | rw [←hw3] | skip
 clear hw3
 go_loopw [6,7,8,23] (fun e _ _ i wr=>∃k:Nat,k≤l.length∧e=.int .i64 0∧i=.int .i64 k∧Hid (UpR w wr (w.heap.size+1) w2.heap.size (upS l k))) (fun _ _ _ i _=>l.length - (intOf i).toNat)
 case atStart=>exact⟨0,Nat.zero_le _,rfl,rfl,by rw [HU0.out];exact HR0.out⟩
 case round=>
  obtain⟨k,hk,rfl,rfl,HC⟩:=hrel
  obtain⟨valk,hOk,hbox,hfk⟩:=HC.out.ex
  obtain⟨MK,hMK⟩:∃X,upS l k=X:=⟨_,rfl⟩
  rw [hMK] at hOk hbox hfk
  have HMK:Hid (upS l k=MK):=hMK
  clear hMK
  obtain⟨p0,q0,i0,_⟩:=hOk.forms .root (Live.root MK)
  obtain⟨p1,q1,i1,_⟩:=hOk.forms .slots (Live.slots MK)
  obtain⟨p2,q2,i2,_⟩:=hOk.forms .refs (Live.refs MK)
  obtain⟨p3,q3,i3,_⟩:=hOk.forms .snaps (Live.snaps MK)
  have i0:valk .root=.slice p0 MK.root.length q0:=i0
  have i1:valk .slots=.slice p1 MK.slots.length q1:=i1
  have i2:valk .refs=.slice p2 MK.refs.length q2:=i2
  have i3:valk .snaps=.slice p3 MK.snaps.length q3:=i3
  have hI:Img wr (.agg #[.int .i64 MK.guest,.slice p0 MK.root.length q0,.slice p1 MK.slots.length q1,.slice p2 MK.refs.length q2,.slice p3 MK.snaps.length q3]) MK:=by
   have:=hOk.img
   unfold imgV at this
   rw [i0,i1,i2,i3] at this
   exact this
  have hbx:=hbox
  rw [i0,i1,i2,i3] at hbx
  by_cases hkl:k<l.length
  ·have hki:(k:Int)<(l.length:Int):=by omega
   obtain⟨b,off,hao,hbl,hcp⟩:=ss_openU (HSs.out.below HC.out.bel) hkl
   subst hao
   have cp:wr.cell? ⟨b,off+k,none⟩=some (.string (pgA l k)):=hcp
   clear hcp
   obtain⟨pg,hpg⟩:∃p,pgA l k=p:=⟨_,rfl⟩
   rw [hpg] at cp
   have hst:=up_step HP.out.1 hkl (up_facts HP.out.1 k hk)
   rw [hpg,HMK.out] at hst
   have hsucc:upS l (k+1)=if isZ pg=true then MK else wrM MK (k:Int) pg:=by show (if isZ (pgA l k)=true then upS l k else wrM (upS l k) (k:Int) (pgA l k))=_;rw [hpg,HMK.out]
   rcases Bool.eq_false_or_eq_true (isZ pg) with hz | hz
   ·have hzc:(pg.toList == Z4.toList)=true:=hz
    have hzn:(pg.toList != Z4.toList)=false:=by simp [bne,hzc]
    rw [if_pos hz] at hsucc
    have HN:Hid (∀wx,Below wr.heap.size wr wx→UpR w wx (w.heap.size+1) w2.heap.size (upS l (k+1))):=fun wx hx=>by rw [hsucc,← HMK.out];exact HC.out.below hx
    clear hOk hbox hfk hI hbx i0 i1 i2 i3 hst hsucc hz hpg
    go_wp2_with (go_at_call 30;refine (zero_any _).mono ?_;rintro e' w5 ⟨rfl,b5⟩;have HW:=Hid_mkU (HN.out w5 b5);clear b5)
    go_roundw
    case rel=>exact⟨k+1,by omega,rfl,by go_num,HW⟩
    case measure=>first | (simp [intOf];done) | (simp [intOf];omega)
   ·have hzc:(pg.toList == Z4.toList)=false:=hz
    have hzn:(pg.toList != Z4.toList)=true:=by simp [bne,hzc]
    rw [if_neg (by rw [hz];decide)] at hsucc
    obtain⟨MN,hMN⟩:∃X,wrM MK (k:Int) pg=X:=⟨_,rfl⟩
    have hwe:=hst.2 hz
    have HWr:Hid (∀wx,Below wr.heap.size wr wx→Calls Tryz.prog 31 #[.agg #[.int .i64 MK.guest,.slice p0 MK.root.length q0,.slice p1 MK.slots.length q1,.slice p2 MK.refs.length q2,.slice p3 MK.snaps.length q3],.int .i64 (k:Int),.string pg] wx (AnsI wx wx.heap.size MN 0)):=fun wx hx=>write_to (hI.below hx) (k:Int) pg hMN hwe
    have hDl:=(szH hbx)
    have HBx:Hid (wr.heap[w2.heap.size]? = some (.cells #[.int .i64 MK.guest,.slice p0 MK.root.length q0,.slice p1 MK.slots.length q1,.slice p2 MK.refs.length q2,.slice p3 MK.snaps.length q3] 27)):=hbx
    have HUN:Hid (upS l (k+1)=MN):=hsucc.trans hMN
    clear hOk hbox hfk hI hbx i0 i1 i2 i3 hst hsucc hz hpg hMN hwe
    go_wp2_with (first
     | (go_at_call 31;refine (HWr.out w5 b5).mono ?_;intro e' w6 hA;obtain⟨val6,r0,s0,r1,s1,r2,s2,r3,s3,rfl,hO6,b6,hI6⟩:=hA.open;dsimp only;have x6:=cells_below (cells_below HBx.out b5 hDl) b6 (Nat.lt_of_lt_of_le hDl b5.size);obtain⟨xa0,xa1,xa2,xa3,xa4⟩:=five x6;have xf0:=cells_frozen x6 0;have xf1:=cells_frozen x6 1;have xf2:=cells_frozen x6 2;have xf3:=cells_frozen x6 3;have xf4:=cells_frozen x6 4)
     | (go_at_call 30;refine (zero_any _).mono ?_;rintro e' w5 ⟨rfl,b5⟩;have x5:=cells_below HBx.out b5 hDl;obtain⟨xb0,xb1,xb2,xb3,xb4⟩:=five x5))
    have HW:Hid (UpR w (((((w6.setCell ⟨w2.heap.size,0,none⟩ (.int .i64 MN.guest)).setCell ⟨w2.heap.size,1,none⟩ (.slice r0 MN.root.length s0)).setCell ⟨w2.heap.size,2,none⟩ (.slice r1 MN.slots.length s1)).setCell ⟨w2.heap.size,3,none⟩ (.slice r2 MN.refs.length s2)).setCell ⟨w2.heap.size,4,none⟩ (.slice r3 MN.snaps.length s3)) (w.heap.size+1) w2.heap.size (upS l (k+1))):=by
     have hi:=hI6
     unfold imgV at hi
     simp only [Value.agg.injEq,Array.mk.injEq,List.cons.injEq,and_true,true_and] at hi
     obtain⟨j0,j1,j2,j3⟩:=hi
     have hU5:=HC.out.below b5
     have hB5:w.heap.size+1≤w5.heap.size:=Nat.le_trans hDw (Nat.le_trans (Nat.le_of_lt hDl) b5.size)
     have key:=hU5.put (by omega) hB5 hO6 b6
     rw [j0,j1,j2,j3] at key
     rw [HUN.out]
     exact key
    go_roundw
    case rel=>exact⟨k+1,by omega,rfl,by go_num,HW⟩
    case measure=>first | (simp [intOf];done) | (simp [intOf];omega)
  ·have e:k=l.length:=by omega
   subst e
   have hres:=HC.out.res
   obtain⟨z0,z1,z2,z3,z4⟩:=five hbx
   obtain⟨o0,o1,o2,o3,o4⟩:=five hres
   have of0:=cells_frozen hres 0;have of1:=cells_frozen hres 1;have of2:=cells_frozen hres 2;have of3:=cells_frozen hres 3;have of4:=cells_frozen hres 4
   have nD1:¬w2.heap.size=w.heap.size:=by omega
   have nD2:¬w.heap.size=w2.heap.size:=by omega
   have HE:Hid (OI wr (w.heap.size+1) valk MK∧Below w.heap.size w wr∧imgV MK.guest valk=.agg #[.int .i64 MK.guest,.slice p0 MK.root.length q0,.slice p1 MK.slots.length q1,.slice p2 MK.refs.length q2,.slice p3 MK.snaps.length q3]∧MK=M):=⟨hOk,HC.out.bel,by unfold imgV;rw [i0,i1,i2,i3],HMK.out.symm.trans HP.out.2⟩
   clear hOk hbox hfk hI hbx hres i0 i1 i2 i3
   go_wp2_with fail
   obtain⟨hO9,hb9,hi9,hM9⟩:=HE.out
   subst hM9
   have i1:w.heap.size≤w.heap.size:=Nat.le_refl _
   have hfr:∀a,Live MK a→(valk a).ownBlock≠some w.heap.size:=fun a ha e=>by have:=((hO9.row a ha).lt _ e).1;omega
   refine bodyPost_ret (v:=.tuple #[.agg #[.int .i64 MK.guest,.slice p0 MK.root.length q0,.slice p1 MK.slots.length q1,.slice p2 MK.refs.length q2,.slice p3 MK.snaps.length q3],.int .i64 0]) (by simp [results,Tryz.results10,go_sem,o0,o1,o2,o3,o4]) rfl ⟨valk,by rw [hi9],OI.mono (((((hO9.far hfr).far hfr).far hfr).far hfr).far hfr) (by omega),((((hb9.setCell i1 _).setCell i1 _).setCell i1 _).setCell i1 _).setCell i1 _⟩
def upM (l:List ByteArray):ImgD:=if ckP l=0 then upS l l.length else imgZ
theorem up_is {w:World}{v:Value}{l:List ByteArray}(h:Ss w v l){M:ImgD}{E:Int}(hM:upM l=M)(hE:ckP l=E):Calls Tryz.prog 10 #[v] w (AnsI w w.heap.size M E):=by
 obtain⟨ao,cap,rfl⟩:=h.form
 by_cases h0:ckP l=0
 ·have e:E=0:=hE.symm.trans h0
  subst e
  exact up_ok_at ao cap l w h h0 M (by unfold upM at hM;rw [if_pos h0] at hM;exact hM)
 ·have:M=imgZ:=by unfold upM at hM;rw [if_neg h0] at hM;exact hM.symm
  subst this
  exact up_bad_at ao cap l E w h hE (by rw [←hE];simpa using h0)
def SAt (W:World) (g:Nat) (l:List ByteArray):Prop:=W.heap[g]? = some (.cells (l.map Value.string).toArray 9)
theorem SAt.cell {W:World}{g:Nat}{l:List ByteArray}(h:SAt W g l){j:Nat}(hj:j<l.length):W.cell? ⟨g,j,none⟩=some (.string (l.getD j ByteArray.empty)):=by
 have h':W.heap[g]? = some (.cells (l.map Value.string).toArray 9):=h
 simp [World.cell?,h',List.getD,hj]
theorem SAt.frozen {W:World}{g:Nat}{l:List ByteArray}(h:SAt W g l)(j:Nat):W.frozen? ⟨g,j,none⟩=false:=by
 have h':W.heap[g]? = some (.cells (l.map Value.string).toArray 9):=h
 simp [World.frozen?,h']
theorem SAt.lt {W:World}{g:Nat}{l:List ByteArray}(h:SAt W g l):g<W.heap.size:=(szH h)
theorem SAt.set {W:World}{g:Nat}{l:List ByteArray}(h:SAt W g l)(j:Nat)(x:ByteArray):SAt (W.setCell ⟨g,j,none⟩ (.string x)) g (l.set j x):=by
 obtain⟨hlt,hk⟩:=Array.getElem?_eq_some_iff.1 h
 show (W.heap.modify g _)[g]? = _
 rw [Array.getElem?_eq_getElem (by rw [Array.size_modify];exact hlt),Array.getElem_modify_self,hk]
 simp [List.map_set]
theorem SAt.ss {W:World}{g n:Nat}{l:List ByteArray}(h:SAt W g l)(hn:l.length=n)(hm:n≤maxLen):Ss W (.slice (some ⟨g,0,none⟩) n n) l:=by
 subst hn
 exact⟨_,_,rfl,hm,Nat.le_refl _,fun _=>⟨g,0,rfl,h.lt,fun j hj=>by rw [Nat.zero_add];exact h.cell hj⟩⟩
theorem mk_strs (n:Nat)(hn:n≤40)(W:World):(Instr.makeSlice 22 (.int .i64 (n:Int)) (.int .i64 (n:Int))).run Tryz.prog W=.ok (.slice (some ⟨W.heap.size,0,none⟩) n n) (W.alloc (.cells ((List.replicate n ByteArray.empty).map Value.string).toArray 9)):=by
 have hi:=Tryz.info9
 cases h:Tryz.prog.info? 9 with
 | none=>rw [h] at hi;cases hi
 | some i=>
  rw [h] at hi
  simp at hi
  have:=run_make (P:=Tryz.prog) W 22 9 i (.string ByteArray.empty) Tryz.underlying22 h hi.1 .i64 .i64 n n (by omega) (by omega) (by rw [hi.2.2];omega) (by omega)
  rw [this,hi.2.1]
  have e:madeCells (Value.string ByteArray.empty).cells (((n:Int)).toNat*1)=((List.replicate n ByteArray.empty).map Value.string).toArray:=by
   apply Array.ext
   ·simp [madeCells]
   ·intro j h1 h2
    simp [madeCells,Value.cells,Nat.mod_one]
  rw [e]
  simp
theorem page_zero (la:Option Addr)(ln lc:Nat)(e:Int)(w:World)(he:e=0∨e = -1) :
  Calls Tryz.prog 87 #[.slice la ln lc,.int .i64 e] w fun r w'=>r=.returned (.string Z4)∧Below w.heap.size w w':=by
 rcases he with rfl | rfl
 all_goals
  go_enter Tryz.func87,Tryz.ntmps87
  go_wp2_with (go_at_call 30;refine (zero_any _).mono ?_;rintro e w1 ⟨rfl,b1⟩)
  go_ret
  exact⟨rfl,b1⟩
theorem page_slot (lb lo:Nat)(ln lc:Nat)(j:Nat)(d:ByteArray)(w:World)(h1:1≤j)(hj:j<ln)(hc:w.cell? ⟨lb,lo+j*3+1,none⟩=some (.string d)) :
  Calls Tryz.prog 87 #[.slice (some ⟨lb,lo,none⟩) ln lc,.int .i64 j] w fun r w'=>r=.returned (.string d)∧Below w.heap.size w w':=by
 have h0:((j:Int) == 0)=false:=by simp;omega
 have hm:((j:Int) == -1)=false:=by simp <;> omega
 have hji:(j:Int)<(ln:Int):=by omega
 go_enter Tryz.func87,Tryz.ntmps87
 go_wp2_with fail
 go_ret
 exact⟨rfl,Below.refl _ _⟩
theorem page_is {lv:Value}{L:List SlotD}{w:World}(h:Slots w lv L){e:Int}(he:e=0∨e = -1∨∃j:Nat,e=j∧1≤j∧j<L.length){p:ByteArray}(hp:pageV L e=p) :
  Calls Tryz.prog 87 #[lv,.int .i64 e] w fun r w'=>r=.returned (.string p)∧Below w.heap.size w w':=by
 unfold pageV at hp
 have h':=h
 obtain⟨la,lc,rfl⟩:=h.form
 rcases he with he | he | ⟨j,rfl,h1,hj⟩
 ·rw [if_pos (by omega)] at hp;subst hp
  exact page_zero la _ lc e w (.inl he)
 ·rw [if_pos (by omega)] at hp;subst hp
  exact page_zero la _ lc e w (.inr he)
 ·rw [if_neg (by omega)] at hp
  obtain⟨sb,so,rfl,hsb,tv,_,c2,_⟩:=h'.at j hj
  have e:L.getD (j:Int).toNat default=L[j]:=by simp [List.getD,hj]
  rw [e] at hp
  rw [hp] at c2
  exact page_slot sb so _ lc j p w h1 hj c2
def rowP (m:ImgD) (root:List Int) (g k:Nat):List ByteArray:=(List.range g).map (fun n=>if n<k then pageV m.slots (lookV m root n) else ByteArray.empty)
theorem rowP_length (m:ImgD)(root:List Int)(g k:Nat):(rowP m root g k).length=g:=by simp [rowP]
theorem rowP_zero (m:ImgD)(root:List Int)(g:Nat):rowP m root g 0=List.replicate g ByteArray.empty:=by
 unfold rowP
 apply List.ext_getElem <;> simp
theorem rowP_end (m:ImgD)(root:List Int)(g:Nat):rowP m root g g=allP m root g:=by
 unfold rowP allP
 exact List.map_congr_left fun n hn=>by rw [if_pos (List.mem_range.1 hn)]
theorem rowP_set (m:ImgD)(root:List Int)(g k:Nat):(rowP m root g k).set k (pageV m.slots (lookV m root k))=rowP m root g (k+1):=by
 unfold rowP
 apply List.ext_getElem
 ·simp
 ·intro j h1 h2
  rw [List.getElem_set]
  by_cases e:k=j
  ·subst e;simp
  ·rw [if_neg e]
   simp only [List.getElem_map,List.getElem_range]
   by_cases c:j<k
   ·rw [if_pos c,if_pos (by omega)]
   ·rw [if_neg c,if_neg (by omega)]
theorem SAt.below {W W':World}{g n:Nat}{l:List ByteArray}(h:SAt W g l)(hb:Below n W W')(hg:g<n):SAt W' g l:=(hb.block _ hg).trans h
set_option maxHeartbeats 4000000 in
theorem allPages_at (sa:Option Addr)(sn sc:Nat)(qa:Option Addr)(qn qc:Nat)(g:Nat)(m:ImgD)(root:List Int)(w:World)(hS:Slots w (.slice sa sn sc) m.slots)(hq:Sl w (.slice qa qn qc) root)(hg:g≤16)(hl:(root.length:Int)=((g:Int)+3) / 4)(hE:shapeE m=0)(hall:root.all (rootE m.slots)=true) :
  Calls Tryz.prog 62 #[.slice sa sn sc,.slice qa qn qc,.int .i64 g] w fun r w'=>(r=.returned (.slice (some ⟨w.heap.size,0,none⟩) g g)∧SAt w' w.heap.size (allP m root g))∧Below w.heap.size w w':=by
 have hmk:=mk_strs g (by omega)
 obtain⟨W0,hW0⟩:∃W0,w.alloc (.cells ((List.replicate g ByteArray.empty).map Value.string).toArray 9)=W0:=⟨_,rfl⟩
 have l0:SAt W0 w.heap.size (rowP m root g 0):=by
  rw [rowP_zero,← hW0];exact World.alloc_heap_new _ _
 have b0:Below w.heap.size w W0:=by rw [←hW0];exact (Below.refl _ _).alloc (Nat.le_refl _) _
 have H1:Hid (Slots w (.slice sa sn sc) m.slots):=hS
 have H2:Hid (Sl w (.slice qa qn qc) root∧root.length=qn):=⟨hq,hq.cells.1⟩
 have H3:Hid ((root.length:Int)=((g:Int)+3) / 4):=hl
 have H4:Hid (shapeE m=0∧root.all (rootE m.slots)=true):=⟨hE,hall⟩
 have H5:Hid (m.slots.length=sn):=by
  obtain⟨_,_,e,_⟩:=hS
  simp at e
  exact e.2.1.symm
 clear hS hq hl hE hall
 go_enter Tryz.func62,Tryz.ntmps62
 go_wp2_with fail
 rw [show w.alloc (Obj.cells (Array.replicate g (Value.string ByteArray.empty)) 9)=W0 by rw [←hW0];simp]
 clear hmk hW0
 go_loopw [8,9,10,15] (fun _ _ _ i wq=>∃k:Nat,k≤g∧i=.int .i64 k∧SAt wq w.heap.size (rowP m root g k)∧Below w.heap.size w wq) (fun _ _ _ i _=>g - (intOf i).toNat)
 case atStart=>exact⟨0,Nat.zero_le _,rfl,l0,b0⟩
 case round=>
  obtain⟨k,hk,rfl,hL,hbel⟩:=hrel
  by_cases hlk:k<g
  ·have hki:(k:Int)<(g:Int):=by omega
   have hkq:k / 4<root.length:=by have:=H3.out;omega
   have hqn:k / 4<qn:=by rw [←H2.out.2];exact hkq
   obtain⟨b,off,rfl,hlt,hcr⟩:=H2.out.1.cells.2.2.2 (k / 4) hqn
   have hcr:=(hbel.cell (p:=⟨b,off+k / 4,none⟩) hlt).trans hcr
   have hq1:((k:Int) / 4).toNat=k / 4:=by omega
   have hq2:((k:Int) % 4).toNat=k % 4:=by omega
   have hqi:(k:Int) / 4<(qn:Int):=by omega
   have hent:=lookV_ent H4.out.1 H4.out.2 k hkq
   obtain⟨p,hp⟩:∃p,pageV m.slots (lookV m root k)=p:=⟨_,rfl⟩
   have hcall:=fun W (hW:Below w.heap.size w W)=>page_is (H1.out.below hW) (hent.imp id (Or.imp id (fun ⟨j,a,b,c,_⟩=>⟨j,a,b,c⟩))) hp
   have HP:Hid ((rowP m root g k).set k p=rowP m root g (k+1)):=by show _=_;rw [←hp];exact rowP_set m root g k
   have hfx:=hL.frozen k
   have hcx:=hL.cell (j:=k) (by rw [rowP_length];exact hlk)
   have hzr:=hL.lt
   obtain⟨x,hx⟩:∃x,root.getD (k / 4) 0=x:=⟨_,rfl⟩
   have HX:Hid (lookV m root k=if x=0 then 0 else (tabOf m.slots x).getD (k % 4) 0):=by show _=_;unfold lookV;rw [hx]
   have HXe:Hid (rootE m.slots x=true):=by show _=_;rw [←hx];exact all_at H4.out.2 hkq
   rw [hx] at hcr
   clear hp hx hent
   by_cases hx0:x=0
   ·have hxb:(x != 0)=false:=by simp [hx0]
    rw [HX.out,if_pos hx0] at hcall
    clear hx0
    go_wp2_with fail
    refine (hcall _ hbel).mono ?_
    rintro e w1 ⟨rfl,b1⟩
    have hL1:=hL.below b1 hzr
    have hfx:=hL1.frozen k
    have hcx:=hL1.cell (j:=k) (by rw [rowP_length];exact hlk)
    have hb1:=Below.on hbel b1
    clear hcall
    go_wp2_with fail
    go_roundw
    case rel=>exact⟨k+1,by omega,by go_num,by rw [←HP.out];exact hL1.set k p,hb1.setCell (Nat.le_refl _) _⟩
    case measure=>simp [intOf];omega
   ·have hxb:(x != 0)=true:=by simp [hx0]
    have hkd:=HXe.out
    rw [rootE_x hx0] at hkd
    rw [HX.out,if_neg hx0] at hcall
    obtain⟨t,rfl,htl,hk2⟩:=isKd_yes hkd
    have hok:=okD_tab (slotsE_all (shapeE_zero H4.out.1).2.1 htl) hk2
    obtain⟨sb,so,rfl,hsb,tv,_,_,c3,hsl⟩:=H1.out.at t htl
    obtain⟨tb,tw,tc,rfl,_,htb,htc⟩:=hsl.four hok.1
    have hts:t<sn:=by rw [←H5.out];exact htl
    have hti:(t:Int)<(sn:Int):=by omega
    have ct:wr.cell? ⟨sb,so+t*3+2,none⟩=some (.slice (some ⟨tb,tw,none⟩) 4 tc):=(hbel.cell (p:=⟨sb,so+t*3+2,none⟩) hsb).trans c3
    have cx:=(hbel.cell (p:=⟨tb,tw+k % 4,none⟩) htb).trans (htc (k % 4) (by omega))
    have etab:m.slots[t].2.2=tabOf m.slots t:=by unfold tabOf;simp [List.getD,htl]
    rw [etab] at cx
    obtain⟨y,hy⟩:∃y,(tabOf m.slots t).getD (k % 4) 0=y:=⟨_,rfl⟩
    rw [hy] at cx hcall
    have h4:k % 4<4:=by omega
    clear hx0 hkd hk2 hok hsl htc c3 etab hy
    go_wp2_with fail
    refine (hcall _ hbel).mono ?_
    rintro e w1 ⟨rfl,b1⟩
    have hL1:=hL.below b1 hzr
    have hfx:=hL1.frozen k
    have hcx:=hL1.cell (j:=k) (by rw [rowP_length];exact hlk)
    have hb1:=Below.on hbel b1
    clear hcall
    go_wp2_with fail
    go_roundw
    case rel=>exact⟨k+1,by omega,by go_num,by rw [←HP.out];exact hL1.set k p,hb1.setCell (Nat.le_refl _) _⟩
    case measure=>simp [intOf];omega
  ·have e4:k=g:=by omega
   subst e4
   go_wp2_with fail
   go_ret
   exact⟨⟨rfl,by rw [←rowP_end];exact hL⟩,hbel⟩
theorem allP_length (m:ImgD)(root:List Int)(g:Nat):(allP m root g).length=g:=by simp [allP]
theorem allPages_is {lv rv:Value}{m:ImgD}{g:Int}{root:List Int}{w:World}(hS:Slots w lv m.slots)(hq:Sl w rv root)(hE:shapeE m=0)(hg:guestOK g=true)(hf:rootFit m.slots g root=true) :
  Calls Tryz.prog 62 #[lv,rv,.int .i64 g] w fun r w'=>(∃v,r=.returned v∧Ss w' v (allP m root g.toNat))∧Below w.heap.size w w':=by
 unfold guestOK at hg
 simp only [decide_eq_true_eq] at hg
 unfold rootFit at hf
 simp only [Bool.and_eq_true,decide_eq_true_eq] at hf
 obtain⟨k,rfl⟩:∃k:Nat,g=k:=⟨g.toNat,by omega⟩
 obtain⟨sa,sc,rfl⟩:=hS.form
 obtain⟨qa,qc,rfl⟩:=hq.form
 rw [Int.toNat_natCast]
 exact (allPages_at sa _ sc qa _ qc k m root w hS hq (by omega) hf.1 hE hf.2.1).mono fun _ _ h=>⟨⟨_,h.1.1,h.1.2.ss (allP_length _ _ _) (by unfold maxLen;omega)⟩,h.2⟩
theorem lookE_parts {m:ImgD}{n:Int}(h:lookE m n=0):checkE m=0∧0≤n∧n<m.guest:=by
 unfold lookE at h
 split at h
 ·rename_i h0;exact absurd h h0
 rename_i h0
 split at h
 ·rename_i hn;exact⟨Classical.not_not.1 h0,hn⟩
 ·simp at h
theorem look_ent {m:ImgD}{n:Int}(h:lookE m n=0):lookV m m.root n.toNat=0∨lookV m m.root n.toNat = -1∨∃j:Nat,lookV m m.root n.toNat=j∧1≤j∧j<m.slots.length:=by
 obtain⟨h0,h1,h2⟩:=lookE_parts h
 have hs:=checkE_shape h0
 have hg:=guest_ok hs
 have hr:=root_ok hs
 exact (lookV_ent hs hr.2 n.toNat (by omega)).imp id (Or.imp id (fun ⟨j,a,b,c,_⟩=>⟨j,a,b,c⟩))
theorem all_bad (gm:Int)(ra:Option Addr)(rn rc:Nat)(sa:Option Addr)(sn sc:Nat)(fa:Option Addr)(fn fc:Nat)(na:Option Addr)(nn nc:Nat)(m:ImgD)(E:Int)(w:World)(h:Img w (.agg #[.int .i64 gm,.slice ra rn rc,.slice sa sn sc,.slice fa fn fc,.slice na nn nc]) m)(hE:checkE m=E)(hne:(E != 0)=true) :
  Calls Tryz.prog 32 #[.agg #[.int .i64 gm,.slice ra rn rc,.slice sa sn sc,.slice fa fn fc,.slice na nn nc]] w fun r w'=>r=.returned (.tuple #[.slice none 0 0,.int .i64 E])∧Below w.heap.size w w':=by
 have b0:Below w.heap.size w (w.alloc (.cells #[.int .i64 gm,.slice ra rn rc,.slice sa sn sc,.slice fa fn fc,.slice na nn nc] 27)):=(Below.refl _ _).alloc (Nat.le_refl _) _
 have m0:(w.alloc (.cells #[.int .i64 gm,.slice ra rn rc,.slice sa sn sc,.slice fa fn fc,.slice na nn nc] 27)).heap[w.heap.size]? = some (.cells #[.int .i64 gm,.slice ra rn rc,.slice sa sn sc,.slice fa fn fc,.slice na nn nc] 27):=World.alloc_heap_new _ _
 have z0:w.heap.size<(w.alloc (.cells #[.int .i64 gm,.slice ra rn rc,.slice sa sn sc,.slice fa fn fc,.slice na nn nc] 27)).heap.size:=by simp
 have h1:=tcheck_is (h.below b0) hE
 clear h hE
 go_enter Tryz.func32,Tryz.ntmps32
 go_wp2_with fail
 refine h1.mono ?_
 rintro e w1 ⟨rfl,b1⟩
 go_wp2_with fail
 go_ret2
 exact⟨rfl,Below.on b0 b1⟩
theorem all_at' (gm:Int)(ra:Option Addr)(rn rc:Nat)(sa:Option Addr)(sn sc:Nat)(fa:Option Addr)(fn fc:Nat)(na:Option Addr)(nn nc:Nat)(m:ImgD)(w:World)(h:Img w (.agg #[.int .i64 gm,.slice ra rn rc,.slice sa sn sc,.slice fa fn fc,.slice na nn nc]) m)(hS:Slots w (.slice sa sn sc) m.slots)(hr:Sl w (.slice ra rn rc) m.root)(hgm:m.guest=gm)(hC:checkE m=0) :
  Calls Tryz.prog 32 #[.agg #[.int .i64 gm,.slice ra rn rc,.slice sa sn sc,.slice fa fn fc,.slice na nn nc]] w fun r w'=>(∃v,r=.returned (.tuple #[v,.int .i64 0])∧Ss w' v (allP m m.root m.guest.toNat))∧Below w.heap.size w w':=by
 have b0:Below w.heap.size w (w.alloc (.cells #[.int .i64 gm,.slice ra rn rc,.slice sa sn sc,.slice fa fn fc,.slice na nn nc] 27)):=(Below.refl _ _).alloc (Nat.le_refl _) _
 have m0:(w.alloc (.cells #[.int .i64 gm,.slice ra rn rc,.slice sa sn sc,.slice fa fn fc,.slice na nn nc] 27)).heap[w.heap.size]? = some (.cells #[.int .i64 gm,.slice ra rn rc,.slice sa sn sc,.slice fa fn fc,.slice na nn nc] 27):=World.alloc_heap_new _ _
 have z0:w.heap.size<(w.alloc (.cells #[.int .i64 gm,.slice ra rn rc,.slice sa sn sc,.slice fa fn fc,.slice na nn nc] 27)).heap.size:=by simp
 have h1:=tcheck_is (h.below b0) hC
 have hE:=checkE_shape hC
 have z5:=List.all_eq_true.1 (shapeE_zero hE).2.2.2.2.1 (⟨#[]⟩,m.guest,m.root) List.mem_cons_self
 have z7:=List.all_eq_true.1 (shapeE_zero hE).2.2.2.2.2.2 (⟨#[]⟩,m.guest,m.root) List.mem_cons_self
 dsimp only at z5 z7
 have h2:=fun W (hW:Below w.heap.size w W)=>allPages_is (hS.below hW) (hr.below hW) hE z5 z7
 rw [hgm] at h2 ⊢
 clear h hE z5 z7 hS hr hC
 go_enter Tryz.func32,Tryz.ntmps32
 go_wp2_with fail
 refine h1.mono ?_
 rintro e w1 ⟨rfl,b1⟩
 have m1:=cells_below m0 b1 z0
 have hB1:=Below.on b0 b1
 obtain⟨a0,a1,a2,a3,a4⟩:=five m1
 clear h1
 go_wp2_with fail
 refine (h2 _ hB1).mono ?_
 rintro e w2 ⟨⟨v,rfl,hv⟩,b2⟩
 go_wp2_with fail
 go_ret2
 exact⟨⟨v,rfl,hv⟩,Below.on hB1 b2⟩
theorem all_is {w:World}{v:Value}{m:ImgD}(h:Img w v m){E:Int}{l:List ByteArray}(hE:checkE m=E)(hl:allV m=l) :
  Calls Tryz.prog 32 #[v] w fun r w'=>(∃v,r=.returned (.tuple #[v,.int .i64 E])∧Ss w' v l)∧Below w.heap.size w w':=by
 have h':=h
 obtain⟨ra,rc,sa,sc,fa,fc,na,nc,rfl,h1,h2,h3,h4⟩:=h.parts
 unfold allV at hl
 by_cases h0:checkE m=0
 ·rw [if_pos h0] at hl
  rw [h0] at hE
  subst hE hl
  exact all_at' m.guest ra _ rc sa _ sc fa _ fc na _ nc m w h' h2 h1 rfl h0
 ·rw [if_neg h0] at hl
  subst hl
  exact (all_bad m.guest ra _ rc sa _ sc fa _ fc na _ nc m E w h' hE (by rw [←hE];simpa using h0)).mono fun _ w' h=>⟨⟨_,h.1,Ss.nil w'⟩,h.2⟩
def dnE (m:ImgD):Int:=if checkE m≠0 then checkE m else if 0<m.snaps.length then 8 else 0
def dnV (m:ImgD):List ByteArray:=if dnE m=0 then allV m else []
set_option maxHeartbeats 2000000 in
theorem down_bad (ra:Option Addr)(rc:Nat)(sa:Option Addr)(sc:Nat)(fa:Option Addr)(fc:Nat)(na:Option Addr)(nc:Nat)(m:ImgD)(w:World)(h:Img w (.agg #[.int .i64 m.guest,.slice ra m.root.length rc,.slice sa m.slots.length sc,.slice fa m.refs.length fc,.slice na m.snaps.length nc]) m)(E:Int)(hE:checkE m=E)(hne:(E != 0)=true) :
  Calls Tryz.prog 11 #[.agg #[.int .i64 m.guest,.slice ra m.root.length rc,.slice sa m.slots.length sc,.slice fa m.refs.length fc,.slice na m.snaps.length nc]] w fun r w'=>(∃lv,r=.returned (.tuple #[lv,.int .i64 E])∧Ss w' lv [])∧Below w.heap.size w w':=by
 have b0:Below w.heap.size w (w.alloc (.cells #[.int .i64 m.guest,.slice ra m.root.length rc,.slice sa m.slots.length sc,.slice fa m.refs.length fc,.slice na m.snaps.length nc] 27)):=(Below.refl _ _).alloc (Nat.le_refl _) _
 have m0:(w.alloc (.cells #[.int .i64 m.guest,.slice ra m.root.length rc,.slice sa m.slots.length sc,.slice fa m.refs.length fc,.slice na m.snaps.length nc] 27)).heap[w.heap.size]? = some (.cells #[.int .i64 m.guest,.slice ra m.root.length rc,.slice sa m.slots.length sc,.slice fa m.refs.length fc,.slice na m.snaps.length nc] 27):=World.alloc_heap_new _ _
 have hall:=all_is (h.below b0) hE rfl
 obtain⟨c0,c1,c2,c3,c4⟩:=five m0
 have HM:Hid ((w.alloc (.cells #[.int .i64 m.guest,.slice ra m.root.length rc,.slice sa m.slots.length sc,.slice fa m.refs.length fc,.slice na m.snaps.length nc] 27)).heap[w.heap.size]? = some (.cells #[.int .i64 m.guest,.slice ra m.root.length rc,.slice sa m.slots.length sc,.slice fa m.refs.length fc,.slice na m.snaps.length nc] 27)∧Below w.heap.size w (w.alloc (.cells #[.int .i64 m.guest,.slice ra m.root.length rc,.slice sa m.slots.length sc,.slice fa m.refs.length fc,.slice na m.snaps.length nc] 27))):=⟨m0,b0⟩
 clear h m0 b0 hE
 go_enter Tryz.func11,Tryz.ntmps11
 go_wp2_with (go_at_call 32;refine hall.mono ?_;rintro e w1 ⟨⟨lv,rfl,hS⟩,b1⟩;have k0:=cells_below HM.out.1 b1 (by simp);obtain⟨d0,d1,d2,d3,d4⟩:=five k0;have HB:Hid (Below w.heap.size w w1∧Ss w1 lv (allV m)):=⟨Below.on HM.out.2 b1,hS⟩;clear b1 hS k0)
 go_ret2
 exact⟨⟨_,rfl,Ss.nil _⟩,HB.out.1⟩
set_option maxHeartbeats 2000000 in
theorem down_busy (ra:Option Addr)(rc:Nat)(sa:Option Addr)(sc:Nat)(fa:Option Addr)(fc:Nat)(na:Option Addr)(nc:Nat)(m:ImgD)(w:World)(h:Img w (.agg #[.int .i64 m.guest,.slice ra m.root.length rc,.slice sa m.slots.length sc,.slice fa m.refs.length fc,.slice na m.snaps.length nc]) m)(hE:checkE m=0)(hn:decide (0<m.snaps.length)=true) :
  Calls Tryz.prog 11 #[.agg #[.int .i64 m.guest,.slice ra m.root.length rc,.slice sa m.slots.length sc,.slice fa m.refs.length fc,.slice na m.snaps.length nc]] w fun r w'=>(∃lv,r=.returned (.tuple #[lv,.int .i64 8])∧Ss w' lv [])∧Below w.heap.size w w':=by
 have b0:Below w.heap.size w (w.alloc (.cells #[.int .i64 m.guest,.slice ra m.root.length rc,.slice sa m.slots.length sc,.slice fa m.refs.length fc,.slice na m.snaps.length nc] 27)):=(Below.refl _ _).alloc (Nat.le_refl _) _
 have m0:(w.alloc (.cells #[.int .i64 m.guest,.slice ra m.root.length rc,.slice sa m.slots.length sc,.slice fa m.refs.length fc,.slice na m.snaps.length nc] 27)).heap[w.heap.size]? = some (.cells #[.int .i64 m.guest,.slice ra m.root.length rc,.slice sa m.slots.length sc,.slice fa m.refs.length fc,.slice na m.snaps.length nc] 27):=World.alloc_heap_new _ _
 have hall:=all_is (h.below b0) hE rfl
 obtain⟨c0,c1,c2,c3,c4⟩:=five m0
 have HM:Hid ((w.alloc (.cells #[.int .i64 m.guest,.slice ra m.root.length rc,.slice sa m.slots.length sc,.slice fa m.refs.length fc,.slice na m.snaps.length nc] 27)).heap[w.heap.size]? = some (.cells #[.int .i64 m.guest,.slice ra m.root.length rc,.slice sa m.slots.length sc,.slice fa m.refs.length fc,.slice na m.snaps.length nc] 27)∧Below w.heap.size w (w.alloc (.cells #[.int .i64 m.guest,.slice ra m.root.length rc,.slice sa m.slots.length sc,.slice fa m.refs.length fc,.slice na m.snaps.length nc] 27))):=⟨m0,b0⟩
 clear h m0 b0 hE
 go_enter Tryz.func11,Tryz.ntmps11
 go_wp2_with (go_at_call 32;refine hall.mono ?_;rintro e w1 ⟨⟨lv,rfl,hS⟩,b1⟩;have k0:=cells_below HM.out.1 b1 (by simp);obtain⟨d0,d1,d2,d3,d4⟩:=five k0;have HB:Hid (Below w.heap.size w w1∧Ss w1 lv (allV m)):=⟨Below.on HM.out.2 b1,hS⟩;clear b1 hS k0)
 go_ret2
 exact⟨⟨_,rfl,Ss.nil _⟩,HB.out.1⟩
set_option maxHeartbeats 2000000 in
theorem down_ok (ra:Option Addr)(rc:Nat)(sa:Option Addr)(sc:Nat)(fa:Option Addr)(fc:Nat)(na:Option Addr)(nc:Nat)(m:ImgD)(w:World)(h:Img w (.agg #[.int .i64 m.guest,.slice ra m.root.length rc,.slice sa m.slots.length sc,.slice fa m.refs.length fc,.slice na m.snaps.length nc]) m)(hE:checkE m=0)(hn:decide (0<m.snaps.length)=false) :
  Calls Tryz.prog 11 #[.agg #[.int .i64 m.guest,.slice ra m.root.length rc,.slice sa m.slots.length sc,.slice fa m.refs.length fc,.slice na m.snaps.length nc]] w fun r w'=>(∃lv,r=.returned (.tuple #[lv,.int .i64 0])∧Ss w' lv (allV m))∧Below w.heap.size w w':=by
 have b0:Below w.heap.size w (w.alloc (.cells #[.int .i64 m.guest,.slice ra m.root.length rc,.slice sa m.slots.length sc,.slice fa m.refs.length fc,.slice na m.snaps.length nc] 27)):=(Below.refl _ _).alloc (Nat.le_refl _) _
 have m0:(w.alloc (.cells #[.int .i64 m.guest,.slice ra m.root.length rc,.slice sa m.slots.length sc,.slice fa m.refs.length fc,.slice na m.snaps.length nc] 27)).heap[w.heap.size]? = some (.cells #[.int .i64 m.guest,.slice ra m.root.length rc,.slice sa m.slots.length sc,.slice fa m.refs.length fc,.slice na m.snaps.length nc] 27):=World.alloc_heap_new _ _
 have hall:=all_is (h.below b0) hE rfl
 obtain⟨c0,c1,c2,c3,c4⟩:=five m0
 have HM:Hid ((w.alloc (.cells #[.int .i64 m.guest,.slice ra m.root.length rc,.slice sa m.slots.length sc,.slice fa m.refs.length fc,.slice na m.snaps.length nc] 27)).heap[w.heap.size]? = some (.cells #[.int .i64 m.guest,.slice ra m.root.length rc,.slice sa m.slots.length sc,.slice fa m.refs.length fc,.slice na m.snaps.length nc] 27)∧Below w.heap.size w (w.alloc (.cells #[.int .i64 m.guest,.slice ra m.root.length rc,.slice sa m.slots.length sc,.slice fa m.refs.length fc,.slice na m.snaps.length nc] 27))):=⟨m0,b0⟩
 clear h m0 b0 hE
 go_enter Tryz.func11,Tryz.ntmps11
 go_wp2_with (go_at_call 32;refine hall.mono ?_;rintro e w1 ⟨⟨lv,rfl,hS⟩,b1⟩;have k0:=cells_below HM.out.1 b1 (by simp);obtain⟨d0,d1,d2,d3,d4⟩:=five k0;have HB:Hid (Below w.heap.size w w1∧Ss w1 lv (allV m)):=⟨Below.on HM.out.2 b1,hS⟩;clear b1 hS k0)
 go_ret2
 exact⟨⟨_,rfl,HB.out.2⟩,HB.out.1⟩
theorem down_is {w:World}{v:Value}{m:ImgD}(h:Img w v m){E:Int}{l:List ByteArray}(hE:dnE m=E)(hl:dnV m=l) :
  Calls Tryz.prog 11 #[v] w fun r w'=>(∃lv,r=.returned (.tuple #[lv,.int .i64 E])∧Ss w' lv l)∧Below w.heap.size w w':=by
 have h':=h
 obtain⟨ra,rc,sa,sc,fa,fc,na,nc,rfl,_⟩:=h.parts
 subst hE hl
 by_cases hC:checkE m=0
 ·by_cases hn:0<m.snaps.length
  ·have e:dnE m=8:=by unfold dnE;rw [if_neg (fun x=>x hC),if_pos hn]
   have e2:dnV m=[]:=by unfold dnV;rw [e,if_neg (by decide)]
   rw [e,e2]
   exact down_busy ra rc sa sc fa fc na nc m w h' hC (by simpa using hn)
  ·have e:dnE m=0:=by unfold dnE;rw [if_neg (fun x=>x hC),if_neg hn]
   have e2:dnV m=allV m:=by unfold dnV;rw [if_pos e]
   rw [e,e2]
   exact down_ok ra rc sa sc fa fc na nc m w h' hC (by simpa using hn)
 ·have e:dnE m=checkE m:=by unfold dnE;rw [if_pos hC]
  have e2:dnV m=[]:=by unfold dnV;rw [e,if_neg hC]
  rw [e,e2]
  exact down_bad ra rc sa sc fa fc na nc m w h' _ rfl (by simpa using hC)
abbrev pD:ImgD:=pairD 6 [0,2,2,1,1] [3,0,0,0]
end Go.Proofs.YtehleeibgkpjmafGreat
namespace Go.Proofs.YtehleeibgkpjmafGreat
open Go.RowKit
set_option maxRecDepth 20000
theorem same_at (ao bo:Option Addr)(n cap cap':Nat)(xs:List Int)(w:World)(hn:xs.length=n)(hm:n≤9223372036854775807)
  (hc:∀j,j<n→∃b off,ao=some ⟨b,off,none⟩∧b<w.heap.size∧w.cell? ⟨b,off+j,none⟩=some (.int .i64 (xs.getD j 0)))
  (hd:∀j,j<n→∃b off,bo=some ⟨b,off,none⟩∧b<w.heap.size∧w.cell? ⟨b,off+j,none⟩=some (.int .i64 (xs.getD j 0))) :
  Calls Tryz.prog 37 #[.slice ao n cap,.slice bo n cap'] w fun r w'=>r=.returned (.bool true)∧Below w.heap.size w w':=by
 have HC:Hid (∀j,j<n→∃b off,ao=some ⟨b,off,none⟩∧b<w.heap.size∧w.cell? ⟨b,off+j,none⟩=some (.int .i64 (xs.getD j 0))):=hc
 have HD:Hid (∀j,j<n→∃b off,bo=some ⟨b,off,none⟩∧b<w.heap.size∧w.cell? ⟨b,off+j,none⟩=some (.int .i64 (xs.getD j 0))):=hd
 clear hc hd
 have HN:Hid (xs.length=n):=hn
 clear hn
 go_enter Tryz.func37,Tryz.ntmps37
 go_wp2
 go_loopw [5] (fun i wr=>∃k:Nat,k≤n∧i=.int .i64 k∧Below w.heap.size w wr) (fun i _=>n - (intOf i).toNat)
 case atStart=>exact⟨0,by omega,rfl,Below.refl _ _⟩
 case round=>
  obtain⟨k,hk,rfl,hbel⟩:=hrel
  by_cases hlt:k<n
  ·obtain⟨x,hx⟩:∃x,xs.getD k 0=x:=⟨_,rfl⟩
   obtain⟨b,off,hao,hl1,hck⟩:=HC.out k hlt
   obtain⟨b',off',hbo,hl2,hck'⟩:=HD.out k hlt
   rw [hx] at hck hck'
   clear hx
   have g1:wr.cell? ⟨b,off+k,none⟩=some (.int .i64 x):=(hbel.cell (p:=⟨b,off+k,none⟩) hl1).trans hck
   have g2:wr.cell? ⟨b',off'+k,none⟩=some (.int .i64 x):=(hbel.cell (p:=⟨b',off'+k,none⟩) hl2).trans hck'
   have i1:(k:Int)<(n:Int):=by omega
   go_wp2
   go_quiet (fail)
   go_wp2
   go_roundw
   case rel=>exact⟨k+1,by omega,by go_num,below_drewN hbel _⟩
   case measure=>simp [intOf];omega
  ·have e4:k=n:=by omega
   subst e4
   go_wp2
   go_ret
   exact⟨rfl,hbel⟩
theorem same_any {v u:Value}{xs:List Int}{w:World}(h:Sl w v xs)(k:Sl w u xs) :
  Calls Tryz.prog 37 #[v,u] w fun r w'=>r=.returned (.bool true)∧Below w.heap.size w w':=by
 obtain⟨ao,cap,rfl⟩:=h.form
 obtain⟨bo,cap',rfl⟩:=k.form
 obtain⟨hn,hm,_,hc⟩:=h.cells
 obtain⟨_,_,_,hd⟩:=k.cells
 exact same_at ao bo _ cap cap' xs w hn hm hc hd
end Go.Proofs.YtehleeibgkpjmafGreat
namespace Go.Proofs.YtehleeibgkpjmafGreat
open Go.RowKit Go.Shelf
set_option maxRecDepth 20000
set_option linter.unusedVariables false
set_option linter.unusedSimpArgs false
def CAtM (W:World) (p:Addr) (v:Value):Prop:=W.cell? p=some v∧p.block<W.heap.size
theorem CAtM.below {W W':World}{p:Addr}{v:Value}(h:CAtM W p v)(bb:Below W.heap.size W W'):CAtM W' p v:=⟨(bb.cell h.2).trans h.1,Nat.lt_of_lt_of_le h.2 bb.size⟩
def lU:List ByteArray:=[aaaa,⟨#[0,0,0,0]⟩,⟨#[0,0,0,0]⟩,⟨#[0,0,0,0]⟩,⟨#[0,0,0,0]⟩,bbbb]
def xD:ImgD:=⟨2,[4],[(0,⟨#[]⟩,[]),(0,⟨#[]⟩,[]),(1,⟨#[113,113,113,113]⟩,[]),(0,⟨#[]⟩,[]),(2,⟨#[]⟩,[0,2,0,0])],[0,0,1,0,1],[]⟩
def muD:ImgD:=⟨6,[1,3],[(0,⟨#[]⟩,[]),(2,⟨#[]⟩,[2,0,0,0]),(1,aaaa,[]),(2,⟨#[]⟩,[0,4,0,0]),(1,bbbb,[])],[0,1,1,1,1],[]⟩
def mpD:ImgD:=⟨2,[2],[(0,⟨#[]⟩,[]),(1,⟨#[113,113,113,113]⟩,[]),(2,⟨#[]⟩,[0,1,0,0])],[0,1,1],[]⟩
theorem mu_m:upM lU=muD:=by kernel_rfl
theorem mu_e:ckP lU=0:=by decide +kernel
theorem mu_de:dnE muD=0:=by decide +kernel
theorem mu_dv:dnV muD=lU:=by kernel_rfl
theorem mp_m:pkM xD=mpD:=by kernel_rfl
theorem mp_e:checkE xD=0:=by decide +kernel
theorem mq_e:dnE pD=8:=by decide +kernel
theorem ss_lU (W:World):Ss (W.alloc (.cells #[.string ⟨#[97,97,97,97]⟩,.string ⟨#[0,0,0,0]⟩,.string ⟨#[0,0,0,0]⟩,.string ⟨#[0,0,0,0]⟩,.string ⟨#[0,0,0,0]⟩,.string ⟨#[98,98,98,98]⟩] 9)) (.slice (some ⟨W.heap.size,0,none⟩) 6 6) lU:=by
 have hg:(W.alloc (.cells #[.string ⟨#[97,97,97,97]⟩,.string ⟨#[0,0,0,0]⟩,.string ⟨#[0,0,0,0]⟩,.string ⟨#[0,0,0,0]⟩,.string ⟨#[0,0,0,0]⟩,.string ⟨#[98,98,98,98]⟩] 9)).heap[W.heap.size]? = some (.cells #[.string ⟨#[97,97,97,97]⟩,.string ⟨#[0,0,0,0]⟩,.string ⟨#[0,0,0,0]⟩,.string ⟨#[0,0,0,0]⟩,.string ⟨#[0,0,0,0]⟩,.string ⟨#[98,98,98,98]⟩] 9):=World.alloc_heap_new _ _
 refine⟨some ⟨W.heap.size,0,none⟩,6,rfl,show (6:Nat)≤maxLen by decide,Nat.le_refl _,fun _=>⟨W.heap.size,0,rfl,by simp,fun j hj=>?_⟩⟩
 have h6:j<6:=hj
 rw [Nat.zero_add]
 match j,h6 with
 | 0,_=>exact cell_of hg rfl
 | 1,_=>exact cell_of hg rfl
 | 2,_=>exact cell_of hg rfl
 | 3,_=>exact cell_of hg rfl
 | 4,_=>exact cell_of hg rfl
 | 5,_=>exact cell_of hg rfl
theorem x_img (W:World):Img ((((W.alloc (.cells #[.int .i64 4] 3)).alloc (.cells #[.int .i64 0,.int .i64 2,.int .i64 0,.int .i64 0] 3)).alloc (.cells #[.int .i64 0,.string ⟨#[]⟩,.slice none 0 0,.int .i64 0,.string ⟨#[]⟩,.slice none 0 0,.int .i64 1,.string ⟨#[113,113,113,113]⟩,.slice none 0 0,.int .i64 0,.string ⟨#[]⟩,.slice none 0 0,.int .i64 2,.string ⟨#[]⟩,.slice (some ⟨W.heap.size+1,0,none⟩) 4 4] 61)).alloc (.cells #[.int .i64 0,.int .i64 0,.int .i64 1,.int .i64 0,.int .i64 1] 3)) (.agg #[.int .i64 2,.slice (some ⟨W.heap.size,0,none⟩) 1 1,.slice (some ⟨W.heap.size+1+1,0,none⟩) 5 5,.slice (some ⟨W.heap.size+1+1+1,0,none⟩) 5 5,.slice none 0 0]) xD:=by
 have g1:((((W.alloc (.cells #[.int .i64 4] 3)).alloc (.cells #[.int .i64 0,.int .i64 2,.int .i64 0,.int .i64 0] 3)).alloc (.cells #[.int .i64 0,.string ⟨#[]⟩,.slice none 0 0,.int .i64 0,.string ⟨#[]⟩,.slice none 0 0,.int .i64 1,.string ⟨#[113,113,113,113]⟩,.slice none 0 0,.int .i64 0,.string ⟨#[]⟩,.slice none 0 0,.int .i64 2,.string ⟨#[]⟩,.slice (some ⟨W.heap.size+1,0,none⟩) 4 4] 61)).alloc (.cells #[.int .i64 0,.int .i64 0,.int .i64 1,.int .i64 0,.int .i64 1] 3)).heap[W.heap.size]? = some (.cells #[.int .i64 4] 3):=cells_alloc (cells_alloc (cells_alloc (World.alloc_heap_new _ _) _) _) _
 have g2:((((W.alloc (.cells #[.int .i64 4] 3)).alloc (.cells #[.int .i64 0,.int .i64 2,.int .i64 0,.int .i64 0] 3)).alloc (.cells #[.int .i64 0,.string ⟨#[]⟩,.slice none 0 0,.int .i64 0,.string ⟨#[]⟩,.slice none 0 0,.int .i64 1,.string ⟨#[113,113,113,113]⟩,.slice none 0 0,.int .i64 0,.string ⟨#[]⟩,.slice none 0 0,.int .i64 2,.string ⟨#[]⟩,.slice (some ⟨W.heap.size+1,0,none⟩) 4 4] 61)).alloc (.cells #[.int .i64 0,.int .i64 0,.int .i64 1,.int .i64 0,.int .i64 1] 3)).heap[W.heap.size+1]? = some (.cells #[.int .i64 0,.int .i64 2,.int .i64 0,.int .i64 0] 3):=cells_alloc (cells_alloc (by have:=World.alloc_heap_new (W.alloc (.cells #[.int .i64 4] 3)) (.cells #[.int .i64 0,.int .i64 2,.int .i64 0,.int .i64 0] 3);simpa using this) _) _
 have g3:((((W.alloc (.cells #[.int .i64 4] 3)).alloc (.cells #[.int .i64 0,.int .i64 2,.int .i64 0,.int .i64 0] 3)).alloc (.cells #[.int .i64 0,.string ⟨#[]⟩,.slice none 0 0,.int .i64 0,.string ⟨#[]⟩,.slice none 0 0,.int .i64 1,.string ⟨#[113,113,113,113]⟩,.slice none 0 0,.int .i64 0,.string ⟨#[]⟩,.slice none 0 0,.int .i64 2,.string ⟨#[]⟩,.slice (some ⟨W.heap.size+1,0,none⟩) 4 4] 61)).alloc (.cells #[.int .i64 0,.int .i64 0,.int .i64 1,.int .i64 0,.int .i64 1] 3)).heap[W.heap.size+1+1]? = some (.cells #[.int .i64 0,.string ⟨#[]⟩,.slice none 0 0,.int .i64 0,.string ⟨#[]⟩,.slice none 0 0,.int .i64 1,.string ⟨#[113,113,113,113]⟩,.slice none 0 0,.int .i64 0,.string ⟨#[]⟩,.slice none 0 0,.int .i64 2,.string ⟨#[]⟩,.slice (some ⟨W.heap.size+1,0,none⟩) 4 4] 61):=cells_alloc (by have:=World.alloc_heap_new ((W.alloc (.cells #[.int .i64 4] 3)).alloc (.cells #[.int .i64 0,.int .i64 2,.int .i64 0,.int .i64 0] 3)) (.cells #[.int .i64 0,.string ⟨#[]⟩,.slice none 0 0,.int .i64 0,.string ⟨#[]⟩,.slice none 0 0,.int .i64 1,.string ⟨#[113,113,113,113]⟩,.slice none 0 0,.int .i64 0,.string ⟨#[]⟩,.slice none 0 0,.int .i64 2,.string ⟨#[]⟩,.slice (some ⟨W.heap.size+1,0,none⟩) 4 4] 61);simpa using this) _
 have g4:((((W.alloc (.cells #[.int .i64 4] 3)).alloc (.cells #[.int .i64 0,.int .i64 2,.int .i64 0,.int .i64 0] 3)).alloc (.cells #[.int .i64 0,.string ⟨#[]⟩,.slice none 0 0,.int .i64 0,.string ⟨#[]⟩,.slice none 0 0,.int .i64 1,.string ⟨#[113,113,113,113]⟩,.slice none 0 0,.int .i64 0,.string ⟨#[]⟩,.slice none 0 0,.int .i64 2,.string ⟨#[]⟩,.slice (some ⟨W.heap.size+1,0,none⟩) 4 4] 61)).alloc (.cells #[.int .i64 0,.int .i64 0,.int .i64 1,.int .i64 0,.int .i64 1] 3)).heap[W.heap.size+1+1+1]? = some (.cells #[.int .i64 0,.int .i64 0,.int .i64 1,.int .i64 0,.int .i64 1] 3):=by have:=World.alloc_heap_new (((W.alloc (.cells #[.int .i64 4] 3)).alloc (.cells #[.int .i64 0,.int .i64 2,.int .i64 0,.int .i64 0] 3)).alloc (.cells #[.int .i64 0,.string ⟨#[]⟩,.slice none 0 0,.int .i64 0,.string ⟨#[]⟩,.slice none 0 0,.int .i64 1,.string ⟨#[113,113,113,113]⟩,.slice none 0 0,.int .i64 0,.string ⟨#[]⟩,.slice none 0 0,.int .i64 2,.string ⟨#[]⟩,.slice (some ⟨W.heap.size+1,0,none⟩) 4 4] 61)) (.cells #[.int .i64 0,.int .i64 0,.int .i64 1,.int .i64 0,.int .i64 1] 3);simpa using this
 have s1:Sl ((((W.alloc (.cells #[.int .i64 4] 3)).alloc (.cells #[.int .i64 0,.int .i64 2,.int .i64 0,.int .i64 0] 3)).alloc (.cells #[.int .i64 0,.string ⟨#[]⟩,.slice none 0 0,.int .i64 0,.string ⟨#[]⟩,.slice none 0 0,.int .i64 1,.string ⟨#[113,113,113,113]⟩,.slice none 0 0,.int .i64 0,.string ⟨#[]⟩,.slice none 0 0,.int .i64 2,.string ⟨#[]⟩,.slice (some ⟨W.heap.size+1,0,none⟩) 4 4] 61)).alloc (.cells #[.int .i64 0,.int .i64 0,.int .i64 1,.int .i64 0,.int .i64 1] 3)) (.slice (some ⟨W.heap.size,0,none⟩) 1 1) [4]:=LAt.sl (l:=[4]) (n:=1) g1 rfl (by decide)
 have s2:Sl ((((W.alloc (.cells #[.int .i64 4] 3)).alloc (.cells #[.int .i64 0,.int .i64 2,.int .i64 0,.int .i64 0] 3)).alloc (.cells #[.int .i64 0,.string ⟨#[]⟩,.slice none 0 0,.int .i64 0,.string ⟨#[]⟩,.slice none 0 0,.int .i64 1,.string ⟨#[113,113,113,113]⟩,.slice none 0 0,.int .i64 0,.string ⟨#[]⟩,.slice none 0 0,.int .i64 2,.string ⟨#[]⟩,.slice (some ⟨W.heap.size+1,0,none⟩) 4 4] 61)).alloc (.cells #[.int .i64 0,.int .i64 0,.int .i64 1,.int .i64 0,.int .i64 1] 3)) (.slice (some ⟨W.heap.size+1,0,none⟩) 4 4) [0,2,0,0]:=LAt.sl (l:=[0,2,0,0]) (n:=4) g2 rfl (by decide)
 have s4:Sl ((((W.alloc (.cells #[.int .i64 4] 3)).alloc (.cells #[.int .i64 0,.int .i64 2,.int .i64 0,.int .i64 0] 3)).alloc (.cells #[.int .i64 0,.string ⟨#[]⟩,.slice none 0 0,.int .i64 0,.string ⟨#[]⟩,.slice none 0 0,.int .i64 1,.string ⟨#[113,113,113,113]⟩,.slice none 0 0,.int .i64 0,.string ⟨#[]⟩,.slice none 0 0,.int .i64 2,.string ⟨#[]⟩,.slice (some ⟨W.heap.size+1,0,none⟩) 4 4] 61)).alloc (.cells #[.int .i64 0,.int .i64 0,.int .i64 1,.int .i64 0,.int .i64 1] 3)) (.slice (some ⟨W.heap.size+1+1+1,0,none⟩) 5 5) [0,0,1,0,1]:=LAt.sl (l:=[0,0,1,0,1]) (n:=5) g4 rfl (by decide)
 refine⟨_,_,_,_,rfl,s1,⟨some ⟨W.heap.size+1+1,0,none⟩,5,rfl,show (5:Nat)≤maxLen by decide,Nat.le_refl _,fun _=>⟨W.heap.size+1+1,0,rfl,(szH g3),?_⟩⟩,s4,⟨none,0,rfl,Nat.zero_le _,Nat.le_refl _,fun x=>absurd rfl x⟩⟩
 intro j hj
 have h5:j<5:=hj
 match j,h5 with
 | 0,_=>exact⟨_,cell_of g3 rfl,cell_of g3 rfl,cell_of g3 rfl,Sl.nil _⟩
 | 1,_=>exact⟨_,cell_of g3 rfl,cell_of g3 rfl,cell_of g3 rfl,Sl.nil _⟩
 | 2,_=>exact⟨_,cell_of g3 rfl,cell_of g3 rfl,cell_of g3 rfl,Sl.nil _⟩
 | 3,_=>exact⟨_,cell_of g3 rfl,cell_of g3 rfl,cell_of g3 rfl,Sl.nil _⟩
 | 4,_=>exact⟨_,cell_of g3 rfl,cell_of g3 rfl,cell_of g3 rfl,s2⟩
set_option maxHeartbeats 200000000 in
theorem moveBegun_any (w:World):Calls Tryz.prog 14 #[] w fun r w'=>r=.returned (.bool true)∧Below w.heap.size w w':=by
 go_enter Tryz.func14,Tryz.ntmps14
 have hB:=Below.refl w.heap.size w
 have ba:Below w.heap.size w (w.alloc (.cells #[.string ⟨#[97,97,97,97]⟩,.string ⟨#[0,0,0,0]⟩,.string ⟨#[0,0,0,0]⟩,.string ⟨#[0,0,0,0]⟩,.string ⟨#[0,0,0,0]⟩,.string ⟨#[98,98,98,98]⟩] 9)):=(Below.refl _ _).alloc (Nat.le_refl _) _
 replace hB:=Below.on hB ba
 clear ba
 have L_l:=ss_lU w
 go_wp2_with fail
 refine (up_is L_l mu_m mu_e).mono ?_
 intro e w1 hA
 obtain⟨val,m_r,m_rc,m_s,m_sc,m_f,m_fc,m_n,m_nc,rfl,hO,bb,hI⟩:=hA.open
 dsimp only
 have I_m:=hO.img
 rw [hI] at I_m
 clear hA hO hI
 rw [show muD.guest=6 from rfl,show muD.root.length=2 from rfl,show muD.slots.length=5 from rfl,show muD.refs.length=5 from rfl,show muD.snaps.length=0 from rfl] at I_m ⊢
 replace hB:=Below.on hB bb
 replace L_l:=L_l.below bb
 clear bb
 have ba:Below w1.heap.size w1 (w1.alloc (.cells #[.int .i64 6,.slice m_r 2 m_rc,.slice m_s 5 m_sc,.slice m_f 5 m_fc,.slice m_n 0 m_nc] 27)):=(Below.refl _ _).alloc (Nat.le_refl _) _
 replace hB:=Below.on hB ba
 replace L_l:=L_l.below ba
 replace I_m:=I_m.below ba
 clear ba
 have mb_m:(w1.alloc (.cells #[.int .i64 6,.slice m_r 2 m_rc,.slice m_s 5 m_sc,.slice m_f 5 m_fc,.slice m_n 0 m_nc] 27)).heap[w1.heap.size]? = some (.cells #[.int .i64 6,.slice m_r 2 m_rc,.slice m_s 5 m_sc,.slice m_f 5 m_fc,.slice m_n 0 m_nc] 27):=World.alloc_heap_new _ _
 obtain⟨m0,m1,m2,m3,m4⟩:=five mb_m
 go_wp2_with fail
 refine (down_is I_m mu_de mu_dv).mono ?_
 rintro e w2 ⟨⟨d_v,rfl,S_d⟩,bb⟩
 clear m0 m1 m2 m3 m4
 replace mb_m:=cells_below mb_m bb (szH mb_m)
 replace hB:=Below.on hB bb
 replace L_l:=L_l.below bb
 replace I_m:=I_m.below bb
 clear bb
 obtain⟨d_a,d_c,rfl⟩:=S_d.form
 replace mb_m:=cells_alloc mb_m (.cells #[.int .i64 4] 3)
 have ba:Below w2.heap.size w2 (w2.alloc (.cells #[.int .i64 4] 3)):=(Below.refl _ _).alloc (Nat.le_refl _) _
 replace hB:=Below.on hB ba
 replace L_l:=L_l.below ba
 replace I_m:=I_m.below ba
 replace S_d:=S_d.below ba
 clear ba
 replace mb_m:=cells_alloc mb_m (.cells #[.int .i64 0,.int .i64 2,.int .i64 0,.int .i64 0] 3)
 have ba:Below (w2.alloc (.cells #[.int .i64 4] 3)).heap.size (w2.alloc (.cells #[.int .i64 4] 3)) ((w2.alloc (.cells #[.int .i64 4] 3)).alloc (.cells #[.int .i64 0,.int .i64 2,.int .i64 0,.int .i64 0] 3)):=(Below.refl _ _).alloc (Nat.le_refl _) _
 replace hB:=Below.on hB ba
 replace L_l:=L_l.below ba
 replace I_m:=I_m.below ba
 replace S_d:=S_d.below ba
 clear ba
 replace mb_m:=cells_alloc mb_m (.cells #[.int .i64 0,.string ⟨#[]⟩,.slice none 0 0,.int .i64 0,.string ⟨#[]⟩,.slice none 0 0,.int .i64 1,.string ⟨#[113,113,113,113]⟩,.slice none 0 0,.int .i64 0,.string ⟨#[]⟩,.slice none 0 0,.int .i64 2,.string ⟨#[]⟩,.slice (some ⟨w2.heap.size+1,0,none⟩) 4 4] 61)
 have ba:Below ((w2.alloc (.cells #[.int .i64 4] 3)).alloc (.cells #[.int .i64 0,.int .i64 2,.int .i64 0,.int .i64 0] 3)).heap.size ((w2.alloc (.cells #[.int .i64 4] 3)).alloc (.cells #[.int .i64 0,.int .i64 2,.int .i64 0,.int .i64 0] 3)) (((w2.alloc (.cells #[.int .i64 4] 3)).alloc (.cells #[.int .i64 0,.int .i64 2,.int .i64 0,.int .i64 0] 3)).alloc (.cells #[.int .i64 0,.string ⟨#[]⟩,.slice none 0 0,.int .i64 0,.string ⟨#[]⟩,.slice none 0 0,.int .i64 1,.string ⟨#[113,113,113,113]⟩,.slice none 0 0,.int .i64 0,.string ⟨#[]⟩,.slice none 0 0,.int .i64 2,.string ⟨#[]⟩,.slice (some ⟨w2.heap.size+1,0,none⟩) 4 4] 61)):=(Below.refl _ _).alloc (Nat.le_refl _) _
 replace hB:=Below.on hB ba
 replace L_l:=L_l.below ba
 replace I_m:=I_m.below ba
 replace S_d:=S_d.below ba
 clear ba
 replace mb_m:=cells_alloc mb_m (.cells #[.int .i64 0,.int .i64 0,.int .i64 1,.int .i64 0,.int .i64 1] 3)
 have ba:Below (((w2.alloc (.cells #[.int .i64 4] 3)).alloc (.cells #[.int .i64 0,.int .i64 2,.int .i64 0,.int .i64 0] 3)).alloc (.cells #[.int .i64 0,.string ⟨#[]⟩,.slice none 0 0,.int .i64 0,.string ⟨#[]⟩,.slice none 0 0,.int .i64 1,.string ⟨#[113,113,113,113]⟩,.slice none 0 0,.int .i64 0,.string ⟨#[]⟩,.slice none 0 0,.int .i64 2,.string ⟨#[]⟩,.slice (some ⟨w2.heap.size+1,0,none⟩) 4 4] 61)).heap.size (((w2.alloc (.cells #[.int .i64 4] 3)).alloc (.cells #[.int .i64 0,.int .i64 2,.int .i64 0,.int .i64 0] 3)).alloc (.cells #[.int .i64 0,.string ⟨#[]⟩,.slice none 0 0,.int .i64 0,.string ⟨#[]⟩,.slice none 0 0,.int .i64 1,.string ⟨#[113,113,113,113]⟩,.slice none 0 0,.int .i64 0,.string ⟨#[]⟩,.slice none 0 0,.int .i64 2,.string ⟨#[]⟩,.slice (some ⟨w2.heap.size+1,0,none⟩) 4 4] 61)) ((((w2.alloc (.cells #[.int .i64 4] 3)).alloc (.cells #[.int .i64 0,.int .i64 2,.int .i64 0,.int .i64 0] 3)).alloc (.cells #[.int .i64 0,.string ⟨#[]⟩,.slice none 0 0,.int .i64 0,.string ⟨#[]⟩,.slice none 0 0,.int .i64 1,.string ⟨#[113,113,113,113]⟩,.slice none 0 0,.int .i64 0,.string ⟨#[]⟩,.slice none 0 0,.int .i64 2,.string ⟨#[]⟩,.slice (some ⟨w2.heap.size+1,0,none⟩) 4 4] 61)).alloc (.cells #[.int .i64 0,.int .i64 0,.int .i64 1,.int .i64 0,.int .i64 1] 3)):=(Below.refl _ _).alloc (Nat.le_refl _) _
 replace hB:=Below.on hB ba
 replace L_l:=L_l.below ba
 replace I_m:=I_m.below ba
 replace S_d:=S_d.below ba
 clear ba
 have I_x:=x_img w2
 replace mb_m:=cells_alloc mb_m (.cells #[.int .i64 2,.slice (some ⟨w2.heap.size,0,none⟩) 1 1,.slice (some ⟨w2.heap.size+1+1,0,none⟩) 5 5,.slice (some ⟨w2.heap.size+1+1+1,0,none⟩) 5 5,.slice none 0 0] 27)
 have ba:Below ((((w2.alloc (.cells #[.int .i64 4] 3)).alloc (.cells #[.int .i64 0,.int .i64 2,.int .i64 0,.int .i64 0] 3)).alloc (.cells #[.int .i64 0,.string ⟨#[]⟩,.slice none 0 0,.int .i64 0,.string ⟨#[]⟩,.slice none 0 0,.int .i64 1,.string ⟨#[113,113,113,113]⟩,.slice none 0 0,.int .i64 0,.string ⟨#[]⟩,.slice none 0 0,.int .i64 2,.string ⟨#[]⟩,.slice (some ⟨w2.heap.size+1,0,none⟩) 4 4] 61)).alloc (.cells #[.int .i64 0,.int .i64 0,.int .i64 1,.int .i64 0,.int .i64 1] 3)).heap.size ((((w2.alloc (.cells #[.int .i64 4] 3)).alloc (.cells #[.int .i64 0,.int .i64 2,.int .i64 0,.int .i64 0] 3)).alloc (.cells #[.int .i64 0,.string ⟨#[]⟩,.slice none 0 0,.int .i64 0,.string ⟨#[]⟩,.slice none 0 0,.int .i64 1,.string ⟨#[113,113,113,113]⟩,.slice none 0 0,.int .i64 0,.string ⟨#[]⟩,.slice none 0 0,.int .i64 2,.string ⟨#[]⟩,.slice (some ⟨w2.heap.size+1,0,none⟩) 4 4] 61)).alloc (.cells #[.int .i64 0,.int .i64 0,.int .i64 1,.int .i64 0,.int .i64 1] 3)) (((((w2.alloc (.cells #[.int .i64 4] 3)).alloc (.cells #[.int .i64 0,.int .i64 2,.int .i64 0,.int .i64 0] 3)).alloc (.cells #[.int .i64 0,.string ⟨#[]⟩,.slice none 0 0,.int .i64 0,.string ⟨#[]⟩,.slice none 0 0,.int .i64 1,.string ⟨#[113,113,113,113]⟩,.slice none 0 0,.int .i64 0,.string ⟨#[]⟩,.slice none 0 0,.int .i64 2,.string ⟨#[]⟩,.slice (some ⟨w2.heap.size+1,0,none⟩) 4 4] 61)).alloc (.cells #[.int .i64 0,.int .i64 0,.int .i64 1,.int .i64 0,.int .i64 1] 3)).alloc (.cells #[.int .i64 2,.slice (some ⟨w2.heap.size,0,none⟩) 1 1,.slice (some ⟨w2.heap.size+1+1,0,none⟩) 5 5,.slice (some ⟨w2.heap.size+1+1+1,0,none⟩) 5 5,.slice none 0 0] 27)):=(Below.refl _ _).alloc (Nat.le_refl _) _
 replace hB:=Below.on hB ba
 replace L_l:=L_l.below ba
 replace I_m:=I_m.below ba
 replace S_d:=S_d.below ba
 replace I_x:=I_x.below ba
 clear ba
 have mb_x:(((((w2.alloc (.cells #[.int .i64 4] 3)).alloc (.cells #[.int .i64 0,.int .i64 2,.int .i64 0,.int .i64 0] 3)).alloc (.cells #[.int .i64 0,.string ⟨#[]⟩,.slice none 0 0,.int .i64 0,.string ⟨#[]⟩,.slice none 0 0,.int .i64 1,.string ⟨#[113,113,113,113]⟩,.slice none 0 0,.int .i64 0,.string ⟨#[]⟩,.slice none 0 0,.int .i64 2,.string ⟨#[]⟩,.slice (some ⟨w2.heap.size+1,0,none⟩) 4 4] 61)).alloc (.cells #[.int .i64 0,.int .i64 0,.int .i64 1,.int .i64 0,.int .i64 1] 3)).alloc (.cells #[.int .i64 2,.slice (some ⟨w2.heap.size,0,none⟩) 1 1,.slice (some ⟨w2.heap.size+1+1,0,none⟩) 5 5,.slice (some ⟨w2.heap.size+1+1+1,0,none⟩) 5 5,.slice none 0 0] 27)).heap[((((w2.alloc (.cells #[.int .i64 4] 3)).alloc (.cells #[.int .i64 0,.int .i64 2,.int .i64 0,.int .i64 0] 3)).alloc (.cells #[.int .i64 0,.string ⟨#[]⟩,.slice none 0 0,.int .i64 0,.string ⟨#[]⟩,.slice none 0 0,.int .i64 1,.string ⟨#[113,113,113,113]⟩,.slice none 0 0,.int .i64 0,.string ⟨#[]⟩,.slice none 0 0,.int .i64 2,.string ⟨#[]⟩,.slice (some ⟨w2.heap.size+1,0,none⟩) 4 4] 61)).alloc (.cells #[.int .i64 0,.int .i64 0,.int .i64 1,.int .i64 0,.int .i64 1] 3)).heap.size]? = some (.cells #[.int .i64 2,.slice (some ⟨w2.heap.size,0,none⟩) 1 1,.slice (some ⟨w2.heap.size+1+1,0,none⟩) 5 5,.slice (some ⟨w2.heap.size+1+1+1,0,none⟩) 5 5,.slice none 0 0] 27):=World.alloc_heap_new _ _
 obtain⟨m0,m1,m2,m3,m4⟩:=five mb_m
 obtain⟨x0,x1,x2,x3,x4⟩:=five mb_x
 go_wp2_with fail
 refine (pack_is I_x mp_m mp_e).mono ?_
 intro e w3 hA
 obtain⟨val,p_r,p_rc,p_s,p_sc,p_f,p_fc,p_n,p_nc,rfl,hO,bb,hI⟩:=hA.open
 dsimp only
 have I_p:=hO.img
 rw [hI] at I_p
 clear hA hO hI
 rw [show mpD.guest=2 from rfl,show mpD.root.length=1 from rfl,show mpD.slots.length=3 from rfl,show mpD.refs.length=3 from rfl,show mpD.snaps.length=0 from rfl] at I_p ⊢
 clear m0 m1 m2 m3 m4 x0 x1 x2 x3 x4
 replace mb_m:=cells_below mb_m bb (szH mb_m)
 replace mb_x:=cells_below mb_x bb (szH mb_x)
 replace hB:=Below.on hB bb
 replace L_l:=L_l.below bb
 replace I_m:=I_m.below bb
 replace S_d:=S_d.below bb
 replace I_x:=I_x.below bb
 clear bb
 clear mb_x
 clear I_x
 replace mb_m:=cells_alloc mb_m (.cells #[.int .i64 2,.slice p_r 1 p_rc,.slice p_s 3 p_sc,.slice p_f 3 p_fc,.slice p_n 0 p_nc] 27)
 have ba:Below w3.heap.size w3 (w3.alloc (.cells #[.int .i64 2,.slice p_r 1 p_rc,.slice p_s 3 p_sc,.slice p_f 3 p_fc,.slice p_n 0 p_nc] 27)):=(Below.refl _ _).alloc (Nat.le_refl _) _
 replace hB:=Below.on hB ba
 replace L_l:=L_l.below ba
 replace I_m:=I_m.below ba
 replace S_d:=S_d.below ba
 replace I_p:=I_p.below ba
 clear ba
 have mb_p:(w3.alloc (.cells #[.int .i64 2,.slice p_r 1 p_rc,.slice p_s 3 p_sc,.slice p_f 3 p_fc,.slice p_n 0 p_nc] 27)).heap[w3.heap.size]? = some (.cells #[.int .i64 2,.slice p_r 1 p_rc,.slice p_s 3 p_sc,.slice p_f 3 p_fc,.slice p_n 0 p_nc] 27):=World.alloc_heap_new _ _
 obtain⟨m0,m1,m2,m3,m4⟩:=five mb_m
 obtain⟨p0,p1,p2,p3,p4⟩:=five mb_p
 go_wp2_with fail
 refine (pair_is _).mono ?_
 rintro e w4 ⟨⟨v_q,rfl,P_q⟩,bb⟩
 clear m0 m1 m2 m3 m4 p0 p1 p2 p3 p4
 replace mb_m:=cells_below mb_m bb (szH mb_m)
 replace mb_p:=cells_below mb_p bb (szH mb_p)
 replace hB:=Below.on hB bb
 replace L_l:=L_l.below bb
 replace I_m:=I_m.below bb
 replace S_d:=S_d.below bb
 replace I_p:=I_p.below bb
 clear bb
 obtain⟨m0,m1,m2,m3,m4⟩:=five mb_m
 obtain⟨p0,p1,p2,p3,p4⟩:=five mb_p
 go_wp2_with fail
 refine (down_is P_q mq_e rfl).mono ?_
 rintro e w5 ⟨⟨q_v,rfl,S_q⟩,bb⟩
 clear m0 m1 m2 m3 m4 p0 p1 p2 p3 p4
 replace mb_m:=cells_below mb_m bb (szH mb_m)
 replace mb_p:=cells_below mb_p bb (szH mb_p)
 replace hB:=Below.on hB bb
 replace L_l:=L_l.below bb
 replace I_m:=I_m.below bb
 replace S_d:=S_d.below bb
 replace I_p:=I_p.below bb
 replace P_q:=P_q.below bb
 clear bb
 clear P_q
 obtain⟨pms,oms,tms,e,_,lms,sms⟩:=I_m.four.2.1.open (by decide)
 simp only [Value.slice.injEq] at e
 obtain⟨rfl,hh,rfl⟩:=e
 clear hh
 obtain⟨pps,ops,tps,e,_,lps,sps⟩:=I_p.four.2.1.open (by decide)
 simp only [Value.slice.injEq] at e
 obtain⟨rfl,hh,rfl⟩:=e
 clear hh
 obtain⟨tv,_,_,q2,qs⟩:=sms 3 (by decide)
 obtain⟨tma,tmc,rfl⟩:=qs.form
 have ctm:CAtM w5 ⟨pms,oms+11,none⟩ (.slice tma 4 tmc):=⟨q2,lms⟩
 have Stm:Sl w5 (.slice tma 4 tmc) [0,4,0,0]:=qs
 clear q2 qs
 obtain⟨tv,_,_,q2,qs⟩:=sps 2 (by decide)
 obtain⟨tpa,tpc,rfl⟩:=qs.form
 have ctp:CAtM w5 ⟨pps,ops+8,none⟩ (.slice tpa 4 tpc):=⟨q2,lps⟩
 have Stp:Sl w5 (.slice tpa 4 tpc) [0,1,0,0]:=qs
 clear q2 qs
 have Rm:=I_m.four.1
 have Rp:=I_p.four.1
 have Fp:=I_p.four.2.2.1
 clear I_m
 clear I_p
 clear sms lms sps lps
 have hnew:=Sl_new w5 [1,3] 2 rfl (by decide)
 obtain⟨m0,m1,m2,m3,m4⟩:=five mb_m
 have hh_mb_m:=Hid_mkU mb_m
 have hh_mb_p:=Hid_mkU mb_p
 have hh_L_l:=Hid_mkU L_l
 have hh_S_d:=Hid_mkU S_d
 have hh_ctm:=Hid_mkU ctm
 have hh_Stm:=Hid_mkU Stm
 have hh_ctp:=Hid_mkU ctp
 have hh_Stp:=Hid_mkU Stp
 have hh_Rm:=Hid_mkU Rm
 have hh_Rp:=Hid_mkU Rp
 have hh_Fp:=Hid_mkU Fp
 have hh_hB:=Hid_mkU hB
 have hh_hnew:=Hid_mkU hnew
 clear mb_m mb_p L_l S_d ctm Stm ctp Stp Rm Rp Fp hB hnew
 go_wp2_with fail
 clear m0 m1 m2 m3 m4
 have mb_m:=hh_mb_m.out
 have mb_p:=hh_mb_p.out
 have L_l:=hh_L_l.out
 have S_d:=hh_S_d.out
 have ctm:=hh_ctm.out
 have Stm:=hh_Stm.out
 have ctp:=hh_ctp.out
 have Stp:=hh_Stp.out
 have Rm:=hh_Rm.out
 have Rp:=hh_Rp.out
 have Fp:=hh_Fp.out
 have hB:=hh_hB.out
 have hnew:=hh_hnew.out
 clear hh_mb_m hh_mb_p hh_L_l hh_S_d hh_ctm hh_Stm hh_ctp hh_Stp hh_Rm hh_Rp hh_Fp hh_hB hh_hnew
 replace mb_m:=cells_alloc mb_m (.cells #[.int .i64 1,.int .i64 3] 3)
 replace mb_p:=cells_alloc mb_p (.cells #[.int .i64 1,.int .i64 3] 3)
 have ba:Below w5.heap.size w5 (w5.alloc (.cells #[.int .i64 1,.int .i64 3] 3)):=(Below.refl _ _).alloc (Nat.le_refl _) _
 replace hB:=Below.on hB ba
 replace L_l:=L_l.below ba
 replace S_d:=S_d.below ba
 replace ctm:=ctm.below ba
 replace Stm:=Stm.below ba
 replace ctp:=ctp.below ba
 replace Stp:=Stp.below ba
 replace Rm:=Rm.below ba
 replace Rp:=Rp.below ba
 replace Fp:=Fp.below ba
 clear ba
 refine (same_any Rm hnew).mono ?_
 rintro e w6 ⟨rfl,bb⟩
 clear hnew
 replace mb_m:=cells_below mb_m bb (szH mb_m)
 replace mb_p:=cells_below mb_p bb (szH mb_p)
 replace hB:=Below.on hB bb
 replace L_l:=L_l.below bb
 replace S_d:=S_d.below bb
 replace ctm:=ctm.below bb
 replace Stm:=Stm.below bb
 replace ctp:=ctp.below bb
 replace Stp:=Stp.below bb
 replace Rm:=Rm.below bb
 replace Rp:=Rp.below bb
 replace Fp:=Fp.below bb
 clear bb
 clear Rm
 have hnew:=Sl_new w6 [0,4,0,0] 4 rfl (by decide)
 obtain⟨m0,m1,m2,m3,m4⟩:=five mb_m
 have q_ctm:=ctm.1
 have hh_mb_m:=Hid_mkU mb_m
 have hh_mb_p:=Hid_mkU mb_p
 have hh_L_l:=Hid_mkU L_l
 have hh_S_d:=Hid_mkU S_d
 have hh_ctm:=Hid_mkU ctm
 have hh_Stm:=Hid_mkU Stm
 have hh_ctp:=Hid_mkU ctp
 have hh_Stp:=Hid_mkU Stp
 have hh_Rp:=Hid_mkU Rp
 have hh_Fp:=Hid_mkU Fp
 have hh_hB:=Hid_mkU hB
 have hh_hnew:=Hid_mkU hnew
 clear mb_m mb_p L_l S_d ctm Stm ctp Stp Rp Fp hB hnew
 go_wp2_with fail
 clear m0 m1 m2 m3 m4 q_ctm
 have mb_m:=hh_mb_m.out
 have mb_p:=hh_mb_p.out
 have L_l:=hh_L_l.out
 have S_d:=hh_S_d.out
 have ctm:=hh_ctm.out
 have Stm:=hh_Stm.out
 have ctp:=hh_ctp.out
 have Stp:=hh_Stp.out
 have Rp:=hh_Rp.out
 have Fp:=hh_Fp.out
 have hB:=hh_hB.out
 have hnew:=hh_hnew.out
 clear hh_mb_m hh_mb_p hh_L_l hh_S_d hh_ctm hh_Stm hh_ctp hh_Stp hh_Rp hh_Fp hh_hB hh_hnew
 replace mb_m:=cells_alloc mb_m (.cells #[.int .i64 0,.int .i64 4,.int .i64 0,.int .i64 0] 3)
 replace mb_p:=cells_alloc mb_p (.cells #[.int .i64 0,.int .i64 4,.int .i64 0,.int .i64 0] 3)
 have ba:Below w6.heap.size w6 (w6.alloc (.cells #[.int .i64 0,.int .i64 4,.int .i64 0,.int .i64 0] 3)):=(Below.refl _ _).alloc (Nat.le_refl _) _
 replace hB:=Below.on hB ba
 replace L_l:=L_l.below ba
 replace S_d:=S_d.below ba
 replace ctm:=ctm.below ba
 replace Stm:=Stm.below ba
 replace ctp:=ctp.below ba
 replace Stp:=Stp.below ba
 replace Rp:=Rp.below ba
 replace Fp:=Fp.below ba
 clear ba
 refine (same_any Stm hnew).mono ?_
 rintro e w7 ⟨rfl,bb⟩
 clear hnew
 replace mb_m:=cells_below mb_m bb (szH mb_m)
 replace mb_p:=cells_below mb_p bb (szH mb_p)
 replace hB:=Below.on hB bb
 replace L_l:=L_l.below bb
 replace S_d:=S_d.below bb
 replace ctm:=ctm.below bb
 replace Stm:=Stm.below bb
 replace ctp:=ctp.below bb
 replace Stp:=Stp.below bb
 replace Rp:=Rp.below bb
 replace Fp:=Fp.below bb
 clear bb
 clear Stm
 clear ctm
 clear mb_m
 have hh_mb_p:=Hid_mkU mb_p
 have hh_L_l:=Hid_mkU L_l
 have hh_S_d:=Hid_mkU S_d
 have hh_ctp:=Hid_mkU ctp
 have hh_Stp:=Hid_mkU Stp
 have hh_Rp:=Hid_mkU Rp
 have hh_Fp:=Hid_mkU Fp
 have hh_hB:=Hid_mkU hB
 clear mb_p L_l S_d ctp Stp Rp Fp hB
 go_wp2_with fail
 have mb_p:=hh_mb_p.out
 have L_l:=hh_L_l.out
 have S_d:=hh_S_d.out
 have ctp:=hh_ctp.out
 have Stp:=hh_Stp.out
 have Rp:=hh_Rp.out
 have Fp:=hh_Fp.out
 have hB:=hh_hB.out
 clear hh_mb_p hh_L_l hh_S_d hh_ctp hh_Stp hh_Rp hh_Fp hh_hB
 refine (samePages_any S_d L_l).mono ?_
 rintro e w8 ⟨rfl,bb⟩
 replace mb_p:=cells_below mb_p bb (szH mb_p)
 replace hB:=Below.on hB bb
 replace L_l:=L_l.below bb
 replace S_d:=S_d.below bb
 replace ctp:=ctp.below bb
 replace Stp:=Stp.below bb
 replace Rp:=Rp.below bb
 replace Fp:=Fp.below bb
 clear bb
 clear S_d
 clear L_l
 have hnew:=Sl_new w8 [2] 1 rfl (by decide)
 obtain⟨p0,p1,p2,p3,p4⟩:=five mb_p
 have hh_mb_p:=Hid_mkU mb_p
 have hh_ctp:=Hid_mkU ctp
 have hh_Stp:=Hid_mkU Stp
 have hh_Rp:=Hid_mkU Rp
 have hh_Fp:=Hid_mkU Fp
 have hh_hB:=Hid_mkU hB
 have hh_hnew:=Hid_mkU hnew
 clear mb_p ctp Stp Rp Fp hB hnew
 go_wp2_with fail
 clear p0 p1 p2 p3 p4
 have mb_p:=hh_mb_p.out
 have ctp:=hh_ctp.out
 have Stp:=hh_Stp.out
 have Rp:=hh_Rp.out
 have Fp:=hh_Fp.out
 have hB:=hh_hB.out
 have hnew:=hh_hnew.out
 clear hh_mb_p hh_ctp hh_Stp hh_Rp hh_Fp hh_hB hh_hnew
 replace mb_p:=cells_alloc mb_p (.cells #[.int .i64 2] 3)
 have ba:Below w8.heap.size w8 (w8.alloc (.cells #[.int .i64 2] 3)):=(Below.refl _ _).alloc (Nat.le_refl _) _
 replace hB:=Below.on hB ba
 replace ctp:=ctp.below ba
 replace Stp:=Stp.below ba
 replace Rp:=Rp.below ba
 replace Fp:=Fp.below ba
 clear ba
 refine (same_any Rp hnew).mono ?_
 rintro e w9 ⟨rfl,bb⟩
 clear hnew
 replace mb_p:=cells_below mb_p bb (szH mb_p)
 replace hB:=Below.on hB bb
 replace ctp:=ctp.below bb
 replace Stp:=Stp.below bb
 replace Rp:=Rp.below bb
 replace Fp:=Fp.below bb
 clear bb
 clear Rp
 have hnew:=Sl_new w9 [0,1,0,0] 4 rfl (by decide)
 obtain⟨p0,p1,p2,p3,p4⟩:=five mb_p
 have q_ctp:=ctp.1
 have hh_mb_p:=Hid_mkU mb_p
 have hh_ctp:=Hid_mkU ctp
 have hh_Stp:=Hid_mkU Stp
 have hh_Fp:=Hid_mkU Fp
 have hh_hB:=Hid_mkU hB
 have hh_hnew:=Hid_mkU hnew
 clear mb_p ctp Stp Fp hB hnew
 go_wp2_with fail
 clear p0 p1 p2 p3 p4 q_ctp
 have mb_p:=hh_mb_p.out
 have ctp:=hh_ctp.out
 have Stp:=hh_Stp.out
 have Fp:=hh_Fp.out
 have hB:=hh_hB.out
 have hnew:=hh_hnew.out
 clear hh_mb_p hh_ctp hh_Stp hh_Fp hh_hB hh_hnew
 replace mb_p:=cells_alloc mb_p (.cells #[.int .i64 0,.int .i64 1,.int .i64 0,.int .i64 0] 3)
 have ba:Below w9.heap.size w9 (w9.alloc (.cells #[.int .i64 0,.int .i64 1,.int .i64 0,.int .i64 0] 3)):=(Below.refl _ _).alloc (Nat.le_refl _) _
 replace hB:=Below.on hB ba
 replace ctp:=ctp.below ba
 replace Stp:=Stp.below ba
 replace Fp:=Fp.below ba
 clear ba
 refine (same_any Stp hnew).mono ?_
 rintro e w10 ⟨rfl,bb⟩
 clear hnew
 replace mb_p:=cells_below mb_p bb (szH mb_p)
 replace hB:=Below.on hB bb
 replace ctp:=ctp.below bb
 replace Stp:=Stp.below bb
 replace Fp:=Fp.below bb
 clear bb
 clear Stp
 clear ctp
 have hnew:=Sl_new w10 [0,1,1] 3 rfl (by decide)
 obtain⟨p0,p1,p2,p3,p4⟩:=five mb_p
 have hh_mb_p:=Hid_mkU mb_p
 have hh_Fp:=Hid_mkU Fp
 have hh_hB:=Hid_mkU hB
 have hh_hnew:=Hid_mkU hnew
 clear mb_p Fp hB hnew
 go_wp2_with fail
 clear p0 p1 p2 p3 p4
 have mb_p:=hh_mb_p.out
 have Fp:=hh_Fp.out
 have hB:=hh_hB.out
 have hnew:=hh_hnew.out
 clear hh_mb_p hh_Fp hh_hB hh_hnew
 replace mb_p:=cells_alloc mb_p (.cells #[.int .i64 0,.int .i64 1,.int .i64 1] 3)
 have ba:Below w10.heap.size w10 (w10.alloc (.cells #[.int .i64 0,.int .i64 1,.int .i64 1] 3)):=(Below.refl _ _).alloc (Nat.le_refl _) _
 replace hB:=Below.on hB ba
 replace Fp:=Fp.below ba
 clear ba
 refine (same_any Fp hnew).mono ?_
 rintro e w11 ⟨rfl,bb⟩
 clear hnew
 replace mb_p:=cells_below mb_p bb (szH mb_p)
 replace hB:=Below.on hB bb
 replace Fp:=Fp.below bb
 clear bb
 clear Fp
 clear mb_p
 have hh_hB:=Hid_mkU hB
 clear hB
 go_wp2_with fail
 go_ret
 have hB:=hh_hB.out
 exact⟨rfl,hB⟩
abbrev e3:Obj:=.cells #[] 3
structure CpI (w1:World) (xs ys:List Int) (a b:Option Value) (W:World):Prop where
 bel:Below w1.heap.size w1 W
 ra:∀v,a=some v→W.ownsRow w1.heap.size 3 1 v xs.length (ints xs)
 rb:∀v,b=some v→W.ownsRow w1.heap.size 3 1 v ys.length (ints ys)
 ap:∀v u,a=some v→b=some u→∀g,v.ownBlock=some g→u.ownBlock≠some g
theorem CpI.zero (w1:World)(xs ys:List Int):CpI w1 xs ys none none w1:=⟨Below.refl _ _,fun v h=>by (cases h),fun v h=>by (cases h),fun v u h=>by (cases h)⟩
theorem CpI.alloc {w1:World}{xs ys:List Int}{a b:Option Value}{W:World}(h:CpI w1 xs ys a b W)(o:Obj):CpI w1 xs ys a b (W.alloc o):=
 ⟨h.bel.alloc h.bel.size o,fun v e=>(h.ra v e).alloc o,fun v e=>(h.rb v e).alloc o,h.ap⟩
theorem CpI.drew {w1:World}{xs ys:List Int}{a b:Option Value}{W:World}(h:CpI w1 xs ys a b W):CpI w1 xs ys a b W.drew:=
 ⟨h.bel.drew,fun v e=>(h.ra v e).drew,fun v e=>(h.rb v e).drew,h.ap⟩
end Go.Proofs.YtehleeibgkpjmafGreat
