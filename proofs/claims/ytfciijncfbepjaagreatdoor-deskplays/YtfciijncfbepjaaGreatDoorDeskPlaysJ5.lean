/- Texts joined: DkF, DkA, DkB, DkX, DkC, DkS, RefF, PChk, PgZero, RdA, DkE, WiE, WiF, WiG, WiH, WiB, WiI, OwA, OxI. -/
import Derived.Test.YtfciijncfbepjaaGreatDoorDeskPlaysJ2
import Derived.Test.YtfciijncfbepjaaGreatDoorDeskPlaysJ4
import Derived.Test.YtfciijncfbepjaaGreatDoorDeskPlaysJ3
import Derived.Lib.ConvBytes
import Derived.Lib.SlicesS
import Derived.Test.YtfciijncfbepjaaGreatDoorDeskPlaysJ1
import Derived.Lib.AtoiAllCases
import Derived.Lib.AtoiErrMem
import Derived.Lib.AppendIntMem
import Derived.Defers
import Derived.Recover
import Derived.Test.YtfciijncfbepjaaGreatDoorRows
import Derived.WalkLawsBesides
import Derived.Deep.QuietTactic
import Derived.BigQuiet
import Derived.Deep.CutRange
import Derived.Deep.RegionLaw
set_option linter.unusedVariables false
set_option linter.unusedSimpArgs false
set_option maxHeartbeats 200000000
set_option maxRecDepth 20000
namespace Go.Proofs.YtfciijncfbepjaaGreatDoor
open Go.Proofs.Tryz
variable {B R b cap g i j k n o:Nat}{l:List UInt8}{a:Nm}{W W' X w w' w0 wr:World}{ev sv v:Value}{M m m':Ac}{E e:Int}{bx:Obj}{val:Nm->Value}
open Go.RowKit Go.Shelf
theorem Nn (s:ByteArray)(a b:Nat):s.extract a b=Ai ((s.data.toList.drop a).take (b-a)):=by
 unfold Ai;apply OD;apply Array.ext';simp[ByteArray.data_extract,List.extract_eq_take_drop]
theorem CG (s:ByteArray):s.data.toList.length=s.size:=Gp
theorem KJ {s:ByteArray}(hk:k<s.size):s.data.toList[k]?=some s[k]:=by
 rw[Array.getElem?_toList,IU hk];rfl
theorem Tx {s:ByteArray}{c:UInt8}(hA:∀j,(h:j<s.size)->j<k->s[j]≠c):c ∉ s.data.toList.take k:=fun h=>by
 obtain⟨j,hj,e⟩:=Rv.1 h;have hj':j<k/\j<s.size:=by rw[BI]at hj;have:=CG s;omega
 rw[List.getElem_take]at e;have:=KJ hj'.2;rw[Co (by simpa using hj'.2)]at this;exact hA j hj'.2 hj'.1 (by rw[<-BJ this,e])
theorem Xe {s:ByteArray}{c:UInt8}(hk:k<s.size)(hc:s[k]=c)(hA:∀j,(h:j<s.size)->j<k->s[j]≠c):Lib.cut s.data.toList [c]=(s.data.toList.take k,s.data.toList.drop (k+1),true):=by
 have hl:k<s.data.toList.length:=by simpa using hk
 have e:=KJ hk;rw[Co hl,hc]at e;have:s.data.toList=s.data.toList.take k++c::s.data.toList.drop (k+1):=by rw[<-BJ e,<-Lt hl,Rw]
 refine Eq.trans (congrArg (fun x=>Lib.cut x [c]) this) (Pv (Tx hA))
theorem Im (s:ByteArray)(w:World)(hs:s.size<=4096):Cl 25 #[.string s] w fun r w'=>r=.returned (.tuple #[.string (Ai (Lib.cut s.data.toList [32]).1),.string (Ai (Lib.cut s.data.toList [32]).2.1),.bool (Lib.cut s.data.toList [32]).2.2])/\∃n,w'=w.drewN n:=by
 go_enter func25,ntmps25
 go_wp2_with fail
 go_loop [5] (fun i=>∃k:Nat,k<=s.size/\i=iI k/\Hd (∀j,(h:j<s.size)->j<k->s[j]≠32)) (fun i=>s.size-(intOf i).toNat)
 case atStart=>exact⟨0,A7 _,rfl,fun j h hj=>absurd hj oM⟩
 case round=>
  obtain⟨k,hk,rfl,HA⟩:=hrel
  by_cases hlk:k<s.size
  ·have ab:(k:Int)<(s.size:Int):=oM
   by_cases h1:(s[k]'hlk).toNat=32
   ·have aa:((s[k]'hlk).toNat:Int)=32:=oM;go_wp2_with fail
    go_region
    go_wp2_with fail
    go_ret3
    refine⟨?_,1,rfl⟩;rw[Xe hlk (JI.1 (h1.trans rfl)) HA.o];dsimp only;rw[Nn,Nn,Nat.sub_zero,List.drop_zero,DF (l:=List.drop _ _) (by rw[CZ,CG];omega)]
    rfl
   ·have aa:¬((s[k]'hlk).toNat:Int)=32:=oM;go_wp2_with fail
    go_round
    case rel=>exact⟨k+1,oM,by go_num,fun j h hj=>by
     by_cases e:j=k
     ·subst e;intro e;exact h1 (by rw[e];rfl)
     ·exact HA.o j h oM⟩
    case measure=>simp[intOf];omega
  ·have e4:k=s.size:=oM;have ab:¬(k:Int)<(s.size:Int):=oM;go_wp2_with fail
   go_ret3
   refine⟨?_,0,rfl⟩;have hn:=Tx HA.o;rw[DF (by rw[CG];omega)]at hn;rw[Pw hn]
   rfl
theorem FI (a b:List UInt8):Ai (a++b)=Ai a++Ai b:=by unfold Ai;apply OD;simp
theorem WG (W:World)(c:UInt8)(x:Int)(hx:x=(c.toNat:Int)):(convert 82 9 (lZ W.heap.size 1 1)).run prog (W.alloc (.cells #[.int .u8 x] 5))=.ok (.string (Ai [c])) (W.alloc (.cells #[.int .u8 x] 5)):=by
 refine RA _ 82 9 5 (aZ W.heap.size) 1 [c] underlying82 kR kR (fun j hj=>?_)
 match j,hj with
 | 0,_=>rw[EI,GT _ _ _ _ rfl,hx];rfl
theorem KG (n:Nat):∀w,n<1000000000000000000->Cl 27 #[iI (n:Int)] w fun r w'=>r=.returned (.string (Ai (Lib.decDigits n)))/\Bw w w':=by
 induction n using Nat.strongRecOn with
 | _ n ih=>
  intro w hn;obtain⟨c0,h0⟩:=nM (UInt8.ofNat (48+n%10));have hc:=WG w c0 (48+(n:Int)%10) (by rw[<-h0,KF oM];omega);have b1:Bw w (w.alloc (.cells #[.int .u8 (48+(n:Int)%10)] 5)):=Av
  by_cases h10:n<10
  ·have h1:(n:Int)<10:=oM;have HD:Hd (Lib.decDigits n=[c0]):=by show _=_;rw[Lib.decDigits,dif_pos h10,<-h0,Nat.mod_eq_of_lt h10]
   have HB:=Ah b1;clear ih b1 h0
   go_enter func27,ntmps27
   go_wp2_with fail;go_ret;exact⟨by rw[HD.o];rfl,HB.o⟩
  ·have h1:¬(n:Int)<10:=oM;have HI:=Ah (ih (n/10) oM (w.alloc (.cells #[.int .u8 (48+(n:Int)%10)] 5)) oM);have HD:Hd (Lib.decDigits n=Lib.decDigits (n/10)++[c0]):=by show _=_;rw[Lib.decDigits,dif_neg h10,h0]
   have HB:=Ah b1;have hz:Int.tdiv (n:Int) 10=((n/10:Nat):Int):=by rw[Int.tdiv_eq_ediv_of_nonneg oM];omega
   obtain⟨S1,ab⟩:=nM (Ai (Lib.decDigits (n/10)));obtain⟨S0,aa⟩:=nM (Ai [c0]);have ac:¬9223372036854775807<(S1.size:Int)+(S0.size:Int):=by have:=Ga (n/10);rw[<-ab,<-aa,Cx,Cx];simp only[Hf];omega
   have HE:Hd (S1++S0=Ai (Lib.decDigits n)):=by show _=_;rw[HD.o,FI,ab,aa]
   rw[ab]at HI;rw[aa]at hc;clear ih b1 h0 aa ab HD
   go_enter func27,ntmps27
   go_wp2_with(go_at_call 27;refine HI.o.mono ?_;rintro e w1 ⟨rfl,b2⟩);go_ret;exact⟨by rw[<-HE.o];rfl,HB.o.trans (b2.mono HB.o.size)⟩
def Hx (l:List UInt8):Int:=match DJ l with|some n=>(n:Int)|none=>-1
theorem NS (h:¬(1<=l.length/\l.length<=6/\(∀c∈l,48<=c.toNat/\c.toNat<=57)/\Lib.decDigits (vl l)=l)):Hx l = -1:=by unfold Hx;rw[Ty,Aa h]
theorem cI (h:1<=l.length/\l.length<=6/\(∀c∈l,48<=c.toNat/\c.toNat<=57)/\Lib.decDigits (vl l)=l):Hx l=(vl l:Int):=by unfold Hx;rw[Ty,Ab h]
theorem My {s:ByteArray}(hk:k<s.size):s.data.toList.take (k+1)=s.data.toList.take k++[s[k]]:=by rw[LA,KJ hk];rfl
theorem Nc {a b:ByteArray}{c:Bool}(h:decide (a=b)=c):(a.toList == b.toList)=c/\(a.toList != b.toList) = !c:=by
 have:(a.toList == b.toList)=decide (a=b):=by
  by_cases e:a=b
  ·subst e;simp
  ·rw[Dn e];exact(Lib.bytes_beq_false_iff a b).2 e
 exact⟨this.trans h,by rw[bne,this.trans h]⟩
theorem K7 (s:ByteArray)(w:World)(hm:s.size<=4096):Cl 32 #[.string s] w fun r w'=>r=.returned (iI (Hx s.data.toList))/\Bw w w':=by
 by_cases hs:1<=s.size/\s.size<=6
 ·have HD:Hd (decide ((1:Int)<=(s.size:Int)/\(s.size:Int)<=6)=true):=C3 oM;have h8:=hs.2;have HS:=Ah hs;clear hs
  go_enter func32,ntmps32
  go_wp2_with(go_at_call 65;refine(Dy _ _ _ _).mono ?_;rintro e w' ⟨rfl,hw⟩;rw[hw,HD.o];clear hw)
  go_loop [3,4] (fun n i=>∃k a:Nat,k<=s.size/\n=iI (a:Int)/\i=iI k/\a<1000000000000000/\Hd (a=vl (s.data.toList.take k)/\∀c∈s.data.toList.take k,48<=c.toNat/\c.toNat<=57)) (fun _ i=>s.size-(intOf i).toNat)
  case atStart=>exact⟨0,0,A7 _,rfl,rfl,oM,rfl,fun c hc=>by simp at hc⟩
  case round=>
   obtain⟨k,a,hk,rfl,rfl,ha,HA⟩:=hrel
   by_cases hlk:k<s.size
   ·have ad:(k:Int)<(s.size:Int):=oM;have HM:Hd (s[k]∈s.data.toList):=List.mem_of_getElem? (KJ hlk)
    by_cases h1:(s[k]'hlk).toNat<48
    ·have ab:((s[k]'hlk).toNat:Int)<48:=oM
     go_wp2
     go_ret;exact⟨by rw[NS fun h=>by have:=h.2.2.1 _ HM.o;omega];rfl,AG _ _⟩
    by_cases h2:57<(s[k]'hlk).toNat
    ·have ac:(57:Int)<((s[k]'hlk).toNat:Int):=oM;have ab:¬((s[k]'hlk).toNat:Int)<48:=oM
     go_wp2
     go_ret;exact⟨by rw[NS fun h=>by have:=h.2.2.1 _ HM.o;omega];rfl,AG _ _⟩
    ·have ac:¬(57:Int)<((s[k]'hlk).toNat:Int):=oM;have ab:¬((s[k]'hlk).toNat:Int)<48:=oM
     go_wp2
     go_round
     case rel=>
      refine⟨k+1,10*a+((s[k]'hlk).toNat-48),oM,?_,by go_num,?_,?_,?_⟩
      ·congr 1;omega
      ·have:=MC (l:=s.data.toList.take (k+1)) (by rw[BI];omega);rw[My hlk,Rg,<-HA.o.1]at this;exact this
      ·rw[My hlk,Rg,<-HA.o.1]
      ·intro c hc;rw[My hlk]at hc;rcases GR.1 hc with h|h
       ·exact HA.o.2 c h
       ·rw[JD.1 h];omega
     case measure=>simp[intOf];omega
   ·have e4:k=s.size:=oM;have ad:¬(k:Int)<(s.size:Int):=oM;have HT:Hd (s.data.toList.take k=s.data.toList):=DF (by rw[CG];omega);rw[HT.o]at HA;obtain⟨S1,aa⟩:=nM (Ai (Lib.decDigits a));have HC:=Ah (KG a w oM);rw[aa]at HC;have HV:Hd (Hx s.data.toList=if S1=s then (a:Int) else -1):=by
     show _=_
     split
     ·rename_i e;rw[cI ⟨by rw[CG];exact HS.o.1,by rw[CG];exact HS.o.2,HA.o.2,by rw[<-HA.o.1,<-e,<-aa];rfl⟩,<-HA.o.1]
     ·rename_i e;exact NS fun h=>e (by rw[<-aa,HA.o.1,h.2.2.2];rfl)
    by_cases e:S1=s
    ·obtain⟨q1,q2⟩:=Nc (C3 e);rw[Ab e]at HV;clear e;go_wp2_with(go_at_call 27;refine HC.o.mono ?_;rintro e w1 ⟨rfl,b2⟩);go_ret;exact⟨by rw[HV.o];rfl,b2⟩
    ·obtain⟨q1,q2⟩:=Nc (Dn e);rw[Aa e]at HV;clear e;go_wp2_with(go_at_call 27;refine HC.o.mono ?_;rintro e w1 ⟨rfl,b2⟩);go_ret;exact⟨by rw[HV.o];rfl,b2⟩
 ·have HD:Hd (decide ((1:Int)<=(s.size:Int)/\(s.size:Int)<=6)=false):=Dn oM;have HV:=Ah (NS (l:=s.data.toList) fun h=>by rw[CG]at h;omega);clear hs
  go_enter func32,ntmps32
  go_wp2_with(go_at_call 65;refine(Dy _ _ _ _).mono ?_;rintro e w' ⟨rfl,hw⟩;subst hw;rw[HD.o]);go_ret;exact⟨by rw[HV.o];rfl,AG _ _⟩
def Df (b:UInt8):UInt8:=if b=0 then 46 else b
def FF (w0:World) (s:ByteArray) (k:Nat) (wr:World):Prop:=Bw w0 wr/\∃cs z,wr.heap[w0.heap.size]?=some (.cells cs 5 (z,z+1))/\s.size<=z/\∀j,(h:j<s.size)->cs[j]?=some (.int .u8 ((if j<k then Df s[j] else s[j]).toNat:Int))
theorem FF.begin (w:World)(s:ByteArray):FF w s 0 (Lib.bytesWorld w 5 s):=by
 refine⟨⟨rfl,rfl,rfl,by rw[Lib.bytesWorld_size];omega,fun j hj=>Lib.bytesWorld_at_old w 5 s j hj⟩,_,_,Lib.bytesWorld_at_new w 5 s,?_,fun j h=>?_⟩
 ·unfold Lib.bytesCells;rw[Array.size_append,Array.size_map];exact Nat.le_add_right _ _
 ·rw[Aa oM];unfold Lib.bytesCells;have h':j<s.data.size:=h;rw[Array.getElem?_append,Ab (by simpa using h'),Array.getElem?_map,IU h'];rfl
theorem FF.at {s:ByteArray}(H:FF w0 s k wr)(hk:k<s.size):wr.cell? (aD w0.heap.size k)=some (.int .u8 (s[k].toNat:Int))/\wr.frozen? (aD w0.heap.size k)=false/\w0.heap.size<wr.heap.size:=by
 obtain⟨_,cs,z,h1,h2,h3⟩:=H;have:=h3 k hk;rw[Aa oM]at this;refine⟨by simp only[World.cell?,h1];exact this,?_,(AA h1)⟩;simp[World.frozen?,h1];omega
theorem FF.step {s:ByteArray}(H:FF w0 s k wr)(hk:k<s.size)(v:Int)(hv:v=((Df s[k]).toNat:Int)):FF w0 s (k+1) (wr.setCell (aD w0.heap.size k) (.int .u8 v)):=by
 obtain⟨hb,cs,z,h1,h2,h3⟩:=H;obtain⟨hlt,aa⟩:=B6.1 h1;refine⟨hb.setCell lE _,cs.setIfInBounds k (.int .u8 v),z,?_,h2,fun j h=>?_⟩
 ·show (wr.heap.modify _ _)[w0.heap.size]?=_
  rw[IU (by rw[Oy];exact hlt),Ox,aa];simp
 ·rw[Array.getElem?_setIfInBounds]
  split
  ·rename_i e;subst e;rw[Ab (B6.1 (h3 k hk)).1,Ab oM,hv]
  ·rename_i e;rw[h3 j h];by_cases q:j<k
   ·rw[Ab q,Ab oM]
   ·rw[Aa q,Aa oM]
theorem FF.same {s:ByteArray}(H:FF w0 s k wr)(hk:k<s.size)(h:Df s[k]=s[k]):FF w0 s (k+1) wr:=by
 obtain⟨hb,cs,z,h1,h2,h3⟩:=H;refine⟨hb,cs,z,h1,h2,fun j hj=>?_⟩;rw[h3 j hj]
 by_cases e:j=k
 ·subst e;rw[Aa oM,Ab oM,h]
 ·by_cases q:j<k
  ·rw[Ab q,Ab oM]
  ·rw[Aa q,Aa oM]
theorem FF.back {s:ByteArray}{c:Nat}(H:FF w0 s k wr)(hk:¬k<s.size):(convert 82 9 (lZ w0.heap.size s.size c)).run prog wr=.ok (.string (Ai (s.data.toList.map Df))) wr:=by
 obtain⟨hb,cs,z,h1,h2,h3⟩:=H;have:=RA wr 82 9 5 (aZ w0.heap.size) c (s.data.toList.map Df) underlying82 kR kR (fun j hj=>by
  have aa:j<s.size:=by rw[BH,CG]at hj;exact hj
  have:=h3 j aa;rw[Ab oM]at this;rw[EI];simp only[World.cell?,h1,Eh];rw[this,Lx];rfl)
 rw[BH,CG]at this;exact this
theorem iq (s:ByteArray)(w:World)(hm:s.size<=4096):Cl 34 #[.string s] w fun r w'=>r=.returned (.string (Ai (s.data.toList.map Df)))/\Bw w w':=by
 have hc:=Lib.run_convert_string_bytes (P:=prog) w 9 82 5 s underlying9 underlying82 kR;obtain⟨W,hW⟩:=nM (Lib.bytesWorld w 5 s);have HR:=Ah (FF.begin w s);have hg:s.size<=grownCap w s.size 0 5:=grownCap_ge w _ _ _;obtain⟨c,hcc⟩:=nM (grownCap w s.size 0 5);rw[hcc]at hg;rw[hW,hcc]at hc;rw[hW]at HR;clear hW hcc
 go_enter func34,ntmps34
 go_wp2_with fail
 go_loopw [4] (fun i wr=>∃k:Nat,k<=s.size/\i=iI k/\Hd (FF w s k wr)) (fun i _=>s.size-(intOf i).toNat)
 case atStart=>exact⟨0,A7 _,rfl,HR⟩
 case round=>
  obtain⟨k,hk,rfl,HA⟩:=hrel
  by_cases hlk:k<s.size
  ·have aa:(k:Int)<(s.size:Int):=oM;obtain⟨c1,f1,l1⟩:=HA.o.at hlk
   by_cases h0:(s[k]'hlk).toNat=0
   ·have HS:=Ah (HA.o.step hlk 46 (by rw[Df,Ab (JI.1 h0)];rfl));rw[h0]at c1;go_wp2_with fail
    go_round
    case rel=>exact⟨k+1,oM,by go_num,HS⟩
    case measure=>simp[intOf];omega
   ·have HS:=Ah (HA.o.same hlk (by rw[Df,Aa (fun e=>h0 (by rw[e];rfl))]));have ab:¬((s[k]'hlk).toNat:Int)=0:=oM;go_wp2_with fail
    go_round
    case rel=>exact⟨k+1,oM,by go_num,HS⟩
    case measure=>simp[intOf];omega
  ·have aa:¬(k:Int)<(s.size:Int):=oM;have e4:k=s.size:=oM;have hb:=HA.o.back (c:=c) hlk;go_wp2_with fail;go_ret;exact⟨rfl,HA.o.1⟩
theorem PA {s:ByteArray}(h:s.data.toList≠[]):s.toList.isEmpty=false:=by rw[IX];cases e:s.data.toList with|nil=>exact absurd e h|cons _ _=>rfl
theorem PB {s:ByteArray}(h:s.data.toList=[]):s.toList.isEmpty=true:=by rw[IX,h];rfl

structure L0 (w:World):Prop where
 max:∃x,w.cell? (aZ 0)=some (iI x)
 syn : ∃ tp p, w.var? prog "strconv.ErrSyntax" = some #[.iface tp p]
 rng : ∃ tp p, w.var? prog "strconv.ErrRange" = some #[.iface tp p]
 tab : Lib.TabIs prog w "internal/strconv.uint64pow10" .u64 Lib.pow10Tab
def Lv (B:Nat) (w:World):Prop:=∀w',Below B w w'->L0 w'
theorem Lv.on (h:Lv B w)(b:Below B w w'):Lv B w':=fun x hx=>h x (b.trans hx)
theorem Lv.at (h:Lv B w):L0 w:=h w Eu
theorem Lv.to (h:Lv B w)(hB:B<=w.heap.size)(b:Bw w w'):Lv B w':=h.on (b.mono hB)
theorem Rf {P:Program}{n:String}{cs:Array Value}(h:w.var? P n=some cs)(b:Bw w w'):w'.var? P n=some cs:=by
 unfold World.var? at *
 cases hg:P.globalNamed n with
 | none=>simp[hg]at h
 | some g=>
  simp only[hg,I4]at h ⊢;have hlt:g<w.heap.size:=by
   rcases Dq g w.heap.size with h' | h'
   ·exact h'
   ·simp[ME h']at h
  rw[b.block g hlt];exact h
theorem Wh {a:Addr}(h:w.cell? a=some v)(b:Bw w w'):w'.cell? a=some v:=by
 have hlt:a.block<w.heap.size:=by
  rcases Dq a.block w.heap.size with h' | h'
  ·exact h'
  ·simp[World.cell?,ME h']at h
 simp only[World.cell?,b.block _ hlt]at *;exact h
theorem L0.all (h:L0 w):Lv w.heap.size w:=fun _ b=>
 ⟨h.max.imp fun _ q=>(Wh q b),h.syn.imp fun _ q=>q.imp fun _ q=>Rf q b,h.rng.imp fun _ q=>q.imp fun _ q=>Rf q b,Rf h.tab b⟩
theorem L0.cell (h:L0 w):∃x,w.cell? (aZ 0)=some (iI x):=h.max
abbrev pE (e:Int):List PanicEntry:=[{v:=.iface 22 (iI e),recovered:=false}]
theorem Nj (s:ByteArray)(c:UInt8)(w:World)(hs:s.size<=4096)(hV:L0 w):Cl 10 #[.string s,.string ⟨#[c]⟩] w fun r w'=>r=.returned (.tuple #[.string (Ai (Lib.cut s.data.toList [c]).1),.string (Ai (Lib.cut s.data.toList [c]).2.1),.bool (Lib.cut s.data.toList [c]).2.2])/\Bw w w':=by
 obtain⟨x,hx⟩:=hV.cell;refine(strings_Cut s ⟨#[c]⟩ x w oM hx).mono ?_;rintro e w' ⟨rfl,n,rfl⟩;exact⟨rfl,⟨rfl,rfl,rfl,Bc _,fun _ _=>rfl⟩⟩
theorem LZ (n:Nat)(hn:n<1000000000000000)(w:World)(hV:L0 w):Cl 21 #[iI (n:Int)] w fun r w'=>r=.returned (.string (Ai (Lib.decDigits n)))/\Bw w w':=by
 refine(strconv_Itoa (n:Int) oM oM w hV.tab).mono ?_;rintro e w' ⟨rfl,k,os,rfl⟩;exact⟨by rw[Lib.itoa_nonneg];rfl,Lib.below_grow _ w lE k os⟩
theorem V2 (s:ByteArray)(w:World)(hs:s.size<=4096)(hV:L0 w):Cl 91 #[.string s] w fun r w'=>(match Lib.atoiAll s.data.toList with | .ok v=>r=.returned (.tuple #[iI v,.nilIface])|_=>∃v t p,r=.returned (.tuple #[iI v,.iface t p]))/\Bw w w':=by
 cases h:Lib.atoiAll s.data.toList
 case ok v=>
  refine(strconv_Atoi_ok s oM v h w).mono ?_;rintro e w' ⟨rfl,hw⟩;refine⟨rfl,?_⟩;rcases hw with rfl|⟨t,rfl⟩
  ·exact AG _ _
  ·exact Lib.bytesWorld_below _ _ _
 case range=>
  obtain⟨tp,p,hv⟩:=hV.rng;refine(strconv_Atoi_range_var s oM h tp p w hv).mono ?_;rintro e w' ⟨N,rfl,_,_,b⟩;exact⟨⟨_,_,_,rfl⟩,b⟩
 ·obtain⟨tp,p,hv⟩:=hV.syn;refine(Any.strconv_Atoi_syntax_var laysC172 s oM h tp p w hv).mono ?_;rintro e w' ⟨N,rfl,_,_,b⟩;exact⟨⟨_,_,_,rfl⟩,b⟩
def Gf (l:List UInt8):Ending:=match DJ l with|some n=>.returned (iI (n:Int))|none=>.panicked (pE 1)
theorem Ql (s:ByteArray)(w:World)(hs:s.size<=4096)(hV:L0 w):Cl 46 #[.string s] w fun r w'=>r=Gf s.data.toList/\Bw w w':=by
 have HC:=Ah (V2 s w hs hV);have HV:=Ah hV.all;clear hV
 cases h:Lib.atoiAll s.data.toList with
 | ok v=>
  have hN:=cL h;obtain⟨l1,l2⟩:=Lib.atoiAll_bounds h;rw[h]at HC;have HQ:=HC;clear HC h
  by_cases h0:v<0
  ·rw[Ab (B3 h0)]at hN;have HN:=Ah hN;clear hN
   go_enter func46,ntmps46
   go_wp2_with(go_at_call 91;refine HQ.o.mono ?_;rintro e w1 ⟨rfl,b1⟩);exact⟨rfl,by unfold Gf;rw[HN.o],b1⟩
  by_cases h6:6<s.size
  ·rw[Ab (BM (B3 (by rw[CG];exact h6)))]at hN;have ab:(6:Int)<(s.size:Int):=oM;have HN:=Ah hN;clear hN
   go_enter func46,ntmps46
   go_wp2_with(go_at_call 91;refine HQ.o.mono ?_;rintro e w1 ⟨rfl,b1⟩);exact⟨rfl,by unfold Gf;rw[HN.o],b1⟩
  ·have ab:¬(6:Int)<(s.size:Int):=oM;obtain⟨S1,aa⟩:=nM (Ai (Lib.itoa v));have HI:Hd (∀W,Lv w.heap.size W->Cl 21 #[iI v] W fun r w'=>r=.returned (.string S1)/\Bw W w'):=fun W hW=>by
    refine(strconv_Itoa v l1 l2 W hW.at.tab).mono ?_;rintro e w' ⟨rfl,k,os,rfl⟩;exact⟨by rw[<-aa];rfl,Lib.below_grow _ W lE k os⟩
   by_cases e:S1=s
   ·have HN:Hd (DJ s.data.toList=some v.toNat):=by
     rw[Aa (fun q=>by
      rcases q with q|q|q
      ·exact h0 q
      ·rw[CG]at q;omega
      ·exact q (by rw[<-e,<-aa];rfl))]at hN;exact hN
    obtain⟨q1,q2⟩:=Nc (C3 e);clear hN e aa
    go_enter func46,ntmps46
    go_wp2_with(first|(go_at_call 91;refine HQ.o.mono ?_;rintro e w1 ⟨rfl,b1⟩)|(go_at_call 21;refine(HI.o _ (HV.o.on b1)).mono ?_;rintro e w2 ⟨rfl,b2⟩));go_ret;exact⟨by unfold Gf;rw[HN.o];show _=Ending.returned (iI ((v.toNat:Nat):Int));rw[Rq oM];rfl,b1.trans (b2.mono b1.size)⟩
   ·have HN:Hd (DJ s.data.toList=none):=by
     rw[Ab (BM (BM (fun q=>e (by rw[<-aa,q];rfl))))]at hN;exact hN
    obtain⟨q1,q2⟩:=Nc (Dn e);clear hN e aa
    go_enter func46,ntmps46
    go_wp2_with(first|(go_at_call 91;refine HQ.o.mono ?_;rintro e w1 ⟨rfl,b1⟩)|(go_at_call 21;refine(HI.o _ (HV.o.on b1)).mono ?_;rintro e w2 ⟨rfl,b2⟩));exact⟨rfl,by unfold Gf;rw[HN.o],b1.trans (b2.mono b1.size)⟩
 | _=>
  have HN:=Ah (cJ (l:=s.data.toList) fun v e=>by rw[h]at e;cases e);rw[h]at HC;have HQ:=HC;clear HC h
  go_enter func46,ntmps46
  go_wp2_with(go_at_call 91;refine HQ.o.mono ?_;rintro e w1 ⟨⟨v,t,p,rfl⟩,b1⟩);exact⟨rfl,by unfold Gf;rw[HN.o],b1⟩
theorem dL (s:ByteArray)(w:World)(hs:s.size<=4096)(hV:L0 w)(h:(Lib.cut s.data.toList [32]).2.2=true):Cl 50 #[.string s] w fun r w'=>r=.returned (.tuple #[.string (Ai (Lib.cut s.data.toList [32]).1),.string (Ai (Lib.cut s.data.toList [32]).2.1)])/\Bw w w':=by
 have HC:=Ah (Nj s 32 w hs hV);rw[h]at HC;clear hV h
 go_enter func50,ntmps50
 go_wp2_with(go_at_call 10;refine HC.o.mono ?_;rintro e w1 ⟨rfl,b1⟩)
 go_ret2
 exact⟨rfl,b1⟩
theorem dK (s:ByteArray)(w:World)(hs:s.size<=4096)(hV:L0 w)(h:(Lib.cut s.data.toList [32]).2.2=false):Cl 50 #[.string s] w fun r w'=>r=.panicked (pE 1)/\Bw w w':=by
 have HC:=Ah (Nj s 32 w hs hV);rw[h]at HC;clear hV h
 go_enter func50,ntmps50
 go_wp2_with(go_at_call 10;refine HC.o.mono ?_;rintro e w1 ⟨rfl,b1⟩);exact⟨rfl,rfl,b1⟩
theorem Un (s:ByteArray)(w:World):Cl 44 #[.string s,iI 0] w fun r w'=>r=.returned (.string s)/\w'=w:=by
 go_enter func44,ntmps44
 go_wp2_with fail;go_ret;exact⟨rfl,rfl⟩
theorem ft (s:ByteArray)(e:Int)(he:(e != 0)=true)(w:World):Cl 44 #[.string s,iI e] w fun r w'=>r=.panicked (pE e)/\w'=w:=by
 go_enter func44,ntmps44
 go_wp2_with fail;exact⟨rfl,rfl,rfl⟩
theorem Um (n:Int)(w:World):Cl 58 #[iI n,iI 0] w fun r w'=>r=.returned (iI n)/\w'=w:=by
 go_enter func58,ntmps58
 go_wp2_with fail;go_ret;exact⟨rfl,rfl⟩
theorem Mg (g:Int)(ra:Option Addr)(rn rc:Nat)(sa:Option Addr)(sn sc:Nat)(fa:Option Addr)(fn fc:Nat)(na:Option Addr)(nn nc:Nat)(w:World):Cl 47 #[.agg (bI g ra rn rc sa sn sc fa fn fc na nn nc),iI 0] w fun r w'=>r=.returned (.agg (bI g ra rn rc sa sn sc fa fn fc na nn nc))/\Bw w w':=by
 go_enter func47,ntmps47
 go_wp2_with fail;refine AY (v:=.agg (bI g ra rn rc sa sn sc fa fn fc na nn nc)) (by simp[results,results47,go_sem]) rfl ⟨rfl,(Av).alloc (by simp) _⟩
theorem NY (g:Int)(ra:Option Addr)(rn rc:Nat)(sa:Option Addr)(sn sc:Nat)(fa:Option Addr)(fn fc:Nat)(na:Option Addr)(nn nc:Nat)(w:World)(e:Int)(he:(e != 0)=true):Cl 47 #[.agg (bI g ra rn rc sa sn sc fa fn fc na nn nc),iI e] w fun r w'=>r=.panicked (pE e)/\Bw w w':=by
 go_enter func47,ntmps47
 go_wp2_with fail;exact⟨rfl,rfl,(Av).alloc (by simp) _⟩
theorem dH (a b:Nat)(ha:a<1000000000000000)(hb:b<1000000000000000)(w:World)(hV:L0 w):Cl 57 #[iI (a:Int),iI (b:Int)] w fun r w'=>r=.returned (.string (Ai (Lib.decDigits a++32::Lib.decDigits b)))/\Bw w w':=by
 have H1:=Ah (LZ a ha w hV);have H2:Hd (∀W,Bw w W->Cl 21 #[iI (b:Int)] W fun r w'=>r=.returned (.string (Ai (Lib.decDigits b)))/\Bw W w'):=fun W hW=>LZ b hb W (hV.all _ hW)
 have l1:=Ga a;have l2:=Ga b;obtain⟨S1,h1⟩:=nM (Ai (Lib.decDigits a));obtain⟨S2,h2⟩:=nM (Ai (Lib.decDigits b));rw[h1]at H1;rw[h2]at H2;have z1:S1.size=(Lib.decDigits a).length:=by rw[<-h1,Cx]
 have z2:S2.size=(Lib.decDigits b).length:=by rw[<-h2,Cx]
 have s1:¬9223372036854775807<(S1.size:Int)+1:=oM;have s2:¬9223372036854775807<(S1.size:Int)+1+(S2.size:Int):=oM;have HE:Hd (S1++⟨#[32]⟩++S2=Ai (Lib.decDigits a++32::Lib.decDigits b)):=by show _=_;rw[<-h1,<-h2,List.append_cons,FI,FI];rfl
 clear h1 h2 z1 z2 l1 l2 ha hb hV
 go_enter func57,ntmps57
 go_wp2_with(first|(go_at_call 21;refine H1.o.mono ?_;rintro e w1 ⟨rfl,b1⟩)|(go_at_call 21;refine(H2.o _ b1).mono ?_;rintro e w2 ⟨rfl,b2⟩));go_ret;exact⟨by rw[<-HE.o];rfl,b1.trans (b2.mono b1.size)⟩
theorem ir (e:Int)(h0 : -1<=e)(h1:e<1000000000000000)(w:World)(hV:L0 w):Cl 111 #[iI e] w fun r w'=>r=.returned (.string (Ai (ED e)))/\Bw w w':=by
 by_cases c0:e=0
 ·subst c0
  go_enter func111,ntmps111
  go_wp2_with fail;go_ret;exact⟨rfl,AG _ _⟩
 by_cases c1:e = -1
 ·subst c1
  go_enter func111,ntmps111
  go_wp2_with fail;go_ret;exact⟨rfl,AG _ _⟩
 ·obtain⟨n,rfl⟩:∃n:Nat,e=(n:Int):=⟨e.toNat,oM⟩;have HC:=Ah (LZ n oM w hV);have HS:Hd (ED (n:Int)=Lib.decDigits n):=by show _=_;unfold ED;rw[Aa c0,Aa c1,A5,EN oM]
  clear hV h0 h1
  go_enter func111,ntmps111
  go_wp2_with(go_at_call 21;refine HC.o.mono ?_;rintro e w1 ⟨rfl,b1⟩);go_ret;exact⟨by rw[HS.o];rfl,b1⟩

theorem Ea {q:Nat}(hq:q<w.heap.size)(e:w'.heap[q]?=w.heap[q]?):q<w'.heap.size:=by
 rw[IU hq]at e;exact(AA e)
theorem Al.agree (h:Al w v m)(hk:∀q,q<w.heap.size->W.heap[q]?=w.heap[q]?):Al W v m:=by
 have hz:w.heap.size<=W.heap.size:=by
  rcases Eg w.heap.size with e|e
  ·omega
  ·have:=Ea oM (hk (w.heap.size-1) oM);omega
 exact(h.below (w1:={w with heap:=W.heap}) ⟨rfl,rfl,rfl,hz,hk⟩ :)
def BW (w:World) (b o:Nat) (m:Ac):Prop:=∃ra rc sa sc fa fc na nc,w.heap[b]?=some (.cells (aI m ra rc sa sc fa fc na nc) 37)/\
 ∀W:World,(∀q,q≠b->q≠o->q<w.heap.size->W.heap[q]?=w.heap[q]?)->Al W (.agg (aI m ra rc sa sc fa fc na nc)) m
theorem BW.on (h:BW w b o m)(k:∀q,q<w.heap.size->w'.heap[q]?=w.heap[q]?):BW w' b o m:=by
 obtain⟨ra,rc,sa,sc,fa,fc,na,nc,h1,h2⟩:=h;refine⟨ra,rc,sa,sc,fa,fc,na,nc,(k b (AA h1)).trans h1,fun W hW=>h2 W fun q hq ho hl=>(hW q hq ho (Ea hl (k q hl))).trans (k q hl)⟩
theorem BW.one (h:BW w b o m):BW w b b m:=by
 obtain⟨ra,rc,sa,sc,fa,fc,na,nc,h1,h2⟩:=h;exact⟨ra,rc,sa,sc,fa,fc,na,nc,h1,fun W hW=>h2 W fun q hq _ hl=>hW q hq hq hl⟩
theorem BW.two (h:BW w b b m)(k:∀q,q<w.heap.size->w'.heap[q]?=w.heap[q]?):BW w' b w.heap.size m:=by
 obtain⟨ra,rc,sa,sc,fa,fc,na,nc,h1,h2⟩:=h;exact⟨ra,rc,sa,sc,fa,fc,na,nc,(k b (AA h1)).trans h1,fun W hW=>h2 W fun q hq _ hl=>(hW q hq oM (Ea hl (k q hl))).trans (k q hl)⟩
theorem BW.far (h:BW w b o m)(ho:o≠b)(v:Value):BW (w.setCell (aD o i) v) b o m:=by
 obtain⟨ra,rc,sa,sc,fa,fc,na,nc,h1,h2⟩:=h;refine⟨ra,rc,sa,sc,fa,fc,na,nc,(AN w (aD o i) v b (Ne.symm ho)).trans h1,fun W hW=>h2 W fun q hq hp hl=>?_⟩;have e:=AN w (aD o i) v q hp;exact(hW q hq hp (Ea hl e)).trans e
def Fr (b:Nat) (w w':World):Prop:=Below b w w'/\∀q,b<q->q<w.heap.size->w'.heap[q]?=w.heap[q]?
theorem Fr.of (h:Bw w w')(hb:b<w.heap.size):Fr b w w':=⟨h.mono oM,fun q _ hq=>h.block q hq⟩
theorem Fr.trans {w2:World}(h:Fr b w w')(k:Fr b w' w2):Fr b w w2:=⟨h.1.trans k.1,fun q hq hl=>(k.2 q hq (Ea hl (h.2 q hq hl))).trans (h.2 q hq hl)⟩
theorem Fr.far (h:Fr b w w')(hb:b<o)(ho:w.heap.size<=o)(v:Value):Fr b w (w'.setCell (aD o i) v):=⟨h.1.setCell (p:=(aD o i)) (OR hb) v,fun q hq hl=>(AN w' (aD o i) v q (OW (AO hl ho))).trans (h.2 q hq hl)⟩
theorem Ep {x0 x1 x2 x3 x4 v0 v1 v2 v3 v4:Value}{t:TypeId}(hm:w.heap[b]?=some (.cells #[x0,x1,x2,x3,x4] t))(hw:((((w.setCell (aZ b) v0).setCell (aD b 1) v1).setCell (aD b 2) v2).setCell (aD b 3) v3).setCell (aD b 4) v4=w'):w'.heap[b]?=some (.cells #[v0,v1,v2,v3,v4] t)/\(∀q,q≠b->w'.heap[q]?=w.heap[q]?)/\Below b w w':=by
 subst hw;refine⟨Bf (Bf (Bf (Bf (Bf hm 0 v0) 1 v1) 2 v2) 3 v3) 4 v4,fun q hq=>?_,((((AG _ _).setCell (p:=(aZ b)) lE _).setCell (p:=(aD b 1)) lE _).setCell (p:=(aD b 2)) lE _).setCell (p:=(aD b 3)) lE _ |>.setCell (p:=(aD b 4)) lE _⟩;rw[AN _ _ _ q hq,AN _ _ _ q hq,AN _ _ _ q hq,AN _ _ _ q hq,AN _ _ _ q hq]
theorem BW.set {x0 x1 x2 x3 x4:Value}{ra:Option Addr}{rc:Nat}{sa:Option Addr}{sc:Nat}{fa:Option Addr}{fc:Nat}{na:Option Addr}{nc:Nat}(hm:W.heap[b]?=some (.cells #[x0,x1,x2,x3,x4] 37))(hb:b<w.heap.size)(ho:o<w.heap.size)(hI:∀Y:World,(∀q,w.heap.size<=q->q<W.heap.size->Y.heap[q]?=W.heap[q]?)->Al Y (.agg (aI M ra rc sa sc fa fc na nc)) M)(hW:((((W.setCell (aZ b) (iI M.g)).setCell (aD b 1) (.slice ra M.r.length rc)).setCell (aD b 2) (.slice sa M.s.length sc)).setCell (aD b 3) (.slice fa M.f.length fc)).setCell (aD b 4) (.slice na M.p.length nc)=W'):BW W' b o M/\Fr b W W':=by
 obtain⟨h1,h2,h3⟩:=Ep hm hW;refine⟨⟨ra,rc,sa,sc,fa,fc,na,nc,h1,fun Y hY=>hI Y fun q hq hl=>?_⟩,h3,fun q hq _=>h2 q oM⟩;have e:=h2 q oM;exact(hY q oM oM (Ea hl e)).trans e
theorem Bo.opened {err:Int}{r:Ending}(h:Bo w B m err r w'):∃ra rc sa sc fa fc na nc,r=.returned (.tuple #[.agg (aI m ra rc sa sc fa fc na nc),iI err])/\
  (∀Y:World,(∀q,B<=q->q<w'.heap.size->Y.heap[q]?=w'.heap[q]?)->Al Y (.agg (aI m ra rc sa sc fa fc na nc)) m)/\Below B w w':=by
 obtain⟨val,rfl,hO,hb⟩:=h;obtain⟨ra,rc,e0,_⟩:=hO.forms .r (Af.r m);obtain⟨sa,sc,e1,_⟩:=hO.forms .s (Af.s m);obtain⟨fa,fc,e2,_⟩:=hO.forms .f (Af.f m);obtain⟨na,nc,e3,_⟩:=hO.forms .p (Af.p m);have e:AB m.g val=.agg (aI m ra rc sa sc fa fc na nc):=by unfold AB;rw[e0,e1,e2,e3];rfl
 exact⟨ra,rc,sa,sc,fa,fc,na,nc,by rw[e],fun Y hY=>e ▸ (hO.keep hY).img,hb⟩
def B8 (w:World) (b o:Nat) (m:Ac) (q:Int × Ac × List UInt8) (r:Ending) (w':World):Prop:=Fr b w w'/\((q.1=0/\r=.returned (.string (Ai q.2.2))/\BW w' b o q.2.1)\/(q.1≠0/\r=.panicked (pE q.1)/\BW w' b o m))
theorem B8.no {q:Int × Ac × List UInt8}(h:BW w b o m)(hb:b<w.heap.size)(k:Bw w w')(hq:q.1=e)(he:e≠0):B8 w b o m q (.panicked (pE e)) w':=⟨Fr.of k hb,BM ⟨by rw[hq];exact he,by rw[hq],h.on k.block⟩⟩
theorem B8.yes {q:Int × Ac × List UInt8}{r:Ending}(h:BW w' b o q.2.1)(k:Fr b w w')(hq:q.1=0)(hr:r=.returned (.string (Ai q.2.2))):B8 w b o m q r w':=⟨k,B3 ⟨hq,hr,h⟩⟩

theorem Sa (p:Addr)(w:World):CallsD prog 20 #[.pointer (some p)] .returning w fun e u' w'=>e=.returned (.tuple #[])/\u'=.returning/\w'=w:=by
 refine MS func20 rfl fun c₀ cs hu=>?_
 apply wpS_seq
 apply MW
 simp[wpOpsS,go_sem,recoverD,hu,ntmps20,Exit.thenS]
 refine MV ?_;simp only[FT,FU,FY,FW,EY,Er,DR,DE,DZ]
 go_wp2
 cases c₀
 simp_all[bodyPostS,results,results20]
def CF (e:Int):List UInt8:=101::114::114::111::114::32::dg e.toNat
theorem R9 (b:Nat)(x:ByteArray)(n:Nat)(hn:n<100)(older:List PanicEntry)(w:World)(hc:w.heap[b]?=some (.cells #[.string x] 9))(hV:L0 w):CallsD prog 20 #[pZ b] (.panicking ({v:=.iface 22 (iI (n:Int)),recovered:=false} :: older)) w fun e u' w'=>
   e=.returned (.tuple #[])/\u'=.panicking ({v:=.iface 22 (iI (n:Int)),recovered:=true} :: older)/\∃W,Bw w W/\w'=W.setCell (aZ b) (.string (Ai (CF n))):=by
 have aa:∀w,(Instr.typeAssert (.iface 22 (iI (n:Int))) 20 22 true).run prog w=.ok (.tuple #[iI (n:Int),.bool true]) w:=fun w=>by kernel_rfl
 have HC:=Ah (LZ n oM w hV);obtain⟨S1,h1⟩:=nM (Ai (Lib.decDigits n));rw[h1]at HC;have s1:¬9223372036854775807<6+(S1.size:Int):=by have:=Ga n;rw[<-h1,Cx];omega
 have HE:Hd ((⟨#[101,114,114,111,114,32]⟩:ByteArray)++S1=Ai (CF n)):=by
  show _=_;rw[<-h1];unfold CF;rw[A5,EN oM,<-List.singleton_append]
  exact(FI [101,114,114,111,114,32] (Lib.decDigits n)).symm
 have HB:=Ah hc;clear h1 hV hn;refine MS func20 rfl fun c₀ cs hu=>?_
 apply wpS_seq
 apply MW
 simp[wpOpsS,go_sem,recoverD,hu,ntmps20,Exit.thenS]
 refine MV ?_;simp only[FT,FU,FY,FW,EY,Er,DR,DE,DZ];go_wp2_with fail;refine HC.o.mono ?_;rintro e w1 ⟨rfl,b1⟩;dsimp only;have k1:=(b1.block b (B6.1 HB.o).1).trans HB.o;have c1:w1.cell? (aZ b)=some (.string x):=by simp only[World.cell?,k1];rfl
 have z1:=Aq k1 0;have hlt:=(AA k1);clear hc k1;go_wp2_with fail
 cases c₀
 have e1:=HE.o
 simp_all[bodyPostS,results,results20]
 exact⟨w1,b1,rfl⟩
def VA (w:World) (b:Nat) (m:Ac) (q:Int × Ac × List UInt8) (r:Ending) (w':World):Prop:=r=.returned (.string (Ai (if q.1=0 then q.2.2 else CF q.1)))/\BW w' b b (if q.1=0 then q.2.1 else m)/\Fr b w w'
theorem VT {TQ:List UInt8->List UInt8->Int × Ac × List UInt8}{AQ:List UInt8->Int × Ac × List UInt8}(h:BW w b b m)(hV:Lv B w)(hB:B<=b)(l:ByteArray)(hl:l.size<=4096)(HT:Hd (∀ (W:World) (x y:ByteArray),BW W b w.heap.size m->w.heap.size<W.heap.size->Lv B W->x.size<=4096->y.size<=4096->Cl 22 #[pZ b,.string x,.string y] W (B8 W b w.heap.size m (TQ x.data.toList y.data.toList))))(HA:Hd (∀ (W:World) (x:ByteArray),BW W b w.heap.size m->w.heap.size<W.heap.size->Lv B W->x.size<=4096->Cl 23 #[pZ b,.string x] W (B8 W b w.heap.size m (AQ x.data.toList))))(hE:∀x y,0<=(TQ x y).1/\(TQ x y).1<=9)(hE1:∀x,0<=(AQ x).1/\(AQ x).1<=9):Cl 11 #[pZ b,.string l] w (VA w b m (if (Lib.cut l.data.toList [32]).2.2=true then TQ (Lib.cut l.data.toList [32]).1 (Lib.cut l.data.toList [32]).2.1 else AQ (Lib.cut l.data.toList [32]).1)):=by
 have ah:∀ (fn:Fn) (first cap:Array Value) (w:World),(Instr.makeFunc fn first cap).run prog w=.ok (.func fn first cap) w:=fun _ _ _ _=>rfl
 have hlt:b<w.heap.size:=by obtain⟨_,_,_,_,_,_,_,_,hb,_⟩:=h;exact(AA hb)
 have b0:Bw w (w.alloc (.cells #[.string ⟨#[]⟩] 9)):=Av;have hz0:(w.alloc (.cells #[.string ⟨#[]⟩] 9)).heap.size=w.heap.size+1:=by simp
 have HM:=Ah (AW (C2 w (.cells #[.string ⟨#[]⟩] 9)) (AW b0 hz0));have HC:=Ah (Nj l 32 (w.alloc (.cells #[.string ⟨#[]⟩] 9)) hl (hV.to oM b0).at);have HV:=Ah (AW hV hB);have HL:=Ah hlt;have HH:=Ah h;have hsz:(Lib.cut l.data.toList [32]).1.length<=4096/\(Lib.cut l.data.toList [32]).2.1.length<=4096:=by
  have:=CG l;rcases KE 32 l.data.toList with⟨_,e⟩|⟨x,y,e1,_,e⟩
  ·rw[e];simp only[C1];omega
  ·rw[e];rw[e1,Bl,BF]at this;simp only[];omega
 have HZ:=Ah hsz;unfold Bw at HC;rw[hz0]at HC;clear h hV hB hl b0 hlt hsz
 by_cases hc:(Lib.cut l.data.toList [32]).2.2=true
 ·rw[Ab hc];rw[hc]at HC;have hn:=hE (Lib.cut l.data.toList [32]).1 (Lib.cut l.data.toList [32]).2.1;have ab:=Ah (fun W h1 h3 h2=>HT.o W (Ai (Lib.cut l.data.toList [32]).1) (Ai (Lib.cut l.data.toList [32]).2.1) h1 h3 h2 (by rw[Cx];exact HZ.o.1) (by rw[Cx];exact HZ.o.2))
  change Hd (∀W,BW W b w.heap.size m->w.heap.size<W.heap.size->Lv B W->Cl 22 #[pZ b,.string (Ai (Lib.cut l.data.toList [32]).1),.string (Ai (Lib.cut l.data.toList [32]).2.1)] W (B8 W b w.heap.size m (TQ (Lib.cut l.data.toList [32]).1 (Lib.cut l.data.toList [32]).2.1))) at ab
  obtain⟨Q,hQ⟩:=nM (TQ (Lib.cut l.data.toList [32]).1 (Lib.cut l.data.toList [32]).2.1);rw[hQ]at ab hn ⊢;have HN:=Ah hn;clear hc hn hQ HT HA hE hE1
  go_enter_defers func11,ntmps11
  go_wp2_with fail;refine HC.o.mono ?_;rintro e w1 ⟨rfl,b1⟩;dsimp only;go_wp2_with fail;have aa:=HM.o.2.1.trans (b1.mono oM);have hz:=b1.size;refine(ab.o w1 (HH.o.two aa.block) (by have:=HM.o.2.2;omega) (HV.o.1.on (aa.mono (by have:=HV.o.2;have:=HL.o;omega)))).mono ?_;intro e w2 hA;rcases hA with⟨hF,⟨q0,rfl,hD⟩|⟨q0,rfl,hD⟩⟩
  ·dsimp only;have k1:=(hF.2 w.heap.size HL.o oM).trans ((b1.block w.heap.size oM).trans HM.o.1);have c1:w2.cell? (aZ w.heap.size)=some (.string ⟨#[]⟩):=by simp only[World.cell?,k1];rfl
   have z1:=Aq k1 0;have HF:=Ah hF;have HD:=Ah (AW q0 hD);have hlt:=(AA k1);obtain⟨S1,ac⟩:=nM (Ai Q.2.2);rw[ac];have HK:=Ah (Bf k1 0 (.string S1));have HS:=Ah ac;clear hF hD q0 k1 ac;go_wp2_with fail;refine JJ (f:=20) (args:=#[pZ w.heap.size]) (by simp) (by simp[go_sem]) ?_;refine(Sa _ _).mono ?_;rintro e u' ag ⟨rfl,rfl,rfl⟩;have k2:=HK.o;have c2:(w2.setCell (aZ w.heap.size) (.string S1)).cell? (aZ w.heap.size)=some (.string S1):=by simp only[World.cell?,k2];rfl
   refine⟨.string S1,by simp[results,results11,go_sem,c2],?_⟩;refine⟨by rw[Ab HD.o.1,HS.o],by rw[Ab HD.o.1];exact(HD.o.2.far (by have:=HL.o;omega) _).one,((Fr.of aa HL.o).trans HF.o).far HL.o lE _⟩
  ·have hn:=HN.o;obtain⟨n,ad⟩:∃n:Nat,Q.1=(n:Int):=⟨Q.1.toNat,oM⟩;rw[ad];have k1:=(hF.2 w.heap.size HL.o oM).trans ((b1.block w.heap.size oM).trans HM.o.1);have ae:=(HV.o.1.on (aa.mono (by have:=HV.o.2;have:=HL.o;omega))).on (hF.1.mono HV.o.2);refine JJ (f:=20) (args:=#[pZ w.heap.size]) (by simp) (by simp[go_sem]) ?_;refine(R9 w.heap.size ⟨#[]⟩ n oM [] w2 k1 ae.at).mono ?_;rintro e u' ag ⟨rfl,rfl,W,bW,rfl⟩;have k2:=Bf ((bW.block w.heap.size (AA k1)).trans k1) 0 (.string (Ai (CF n)));have c2:(W.setCell (aZ w.heap.size) (.string (Ai (CF n)))).cell? (aZ w.heap.size)=some (.string (Ai (CF n))):=by simp only[World.cell?,k2];rfl
   refine⟨.string (Ai (CF n)),by simp[results,results11,go_sem,c2],?_⟩;have af:b<w2.heap.size:=by have:=(AA k1);have:=HL.o;omega
   refine⟨by rw[Aa q0,ad],by rw[Aa q0];exact((hD.on bW.block).far (by have:=HL.o;omega) _).one,((Fr.of aa HL.o).trans (hF.trans (Fr.of bW af))).far HL.o lE _⟩
 ·rw[Aa hc];rw[Lq]at hc;rw[hc]at HC;have hn:=hE1 (Lib.cut l.data.toList [32]).1;have ab:=Ah (fun W h1 h3 h2=>HA.o W (Ai (Lib.cut l.data.toList [32]).1) h1 h3 h2 (by rw[Cx];exact HZ.o.1))
  change Hd (∀W,BW W b w.heap.size m->w.heap.size<W.heap.size->Lv B W->Cl 23 #[pZ b,.string (Ai (Lib.cut l.data.toList [32]).1)] W (B8 W b w.heap.size m (AQ (Lib.cut l.data.toList [32]).1))) at ab
  obtain⟨Q,hQ⟩:=nM (AQ (Lib.cut l.data.toList [32]).1);rw[hQ]at ab hn ⊢;have HN:=Ah hn;clear hc hn hQ HT HA hE hE1
  go_enter_defers func11,ntmps11
  go_wp2_with fail;refine HC.o.mono ?_;rintro e w1 ⟨rfl,b1⟩;dsimp only;go_wp2_with fail;have aa:=HM.o.2.1.trans (b1.mono oM);have hz:=b1.size;refine(ab.o w1 (HH.o.two aa.block) (by have:=HM.o.2.2;omega) (HV.o.1.on (aa.mono (by have:=HV.o.2;have:=HL.o;omega)))).mono ?_;intro e w2 hA;rcases hA with⟨hF,⟨q0,rfl,hD⟩|⟨q0,rfl,hD⟩⟩
  ·dsimp only;have k1:=(hF.2 w.heap.size HL.o oM).trans ((b1.block w.heap.size oM).trans HM.o.1);have c1:w2.cell? (aZ w.heap.size)=some (.string ⟨#[]⟩):=by simp only[World.cell?,k1];rfl
   have z1:=Aq k1 0;have HF:=Ah hF;have HD:=Ah (AW q0 hD);have hlt:=(AA k1);obtain⟨S1,ac⟩:=nM (Ai Q.2.2);rw[ac];have HK:=Ah (Bf k1 0 (.string S1));have HS:=Ah ac;clear hF hD q0 k1 ac;go_wp2_with fail;refine JJ (f:=20) (args:=#[pZ w.heap.size]) (by simp) (by simp[go_sem]) ?_;refine(Sa _ _).mono ?_;rintro e u' ag ⟨rfl,rfl,rfl⟩;have k2:=HK.o;have c2:(w2.setCell (aZ w.heap.size) (.string S1)).cell? (aZ w.heap.size)=some (.string S1):=by simp only[World.cell?,k2];rfl
   refine⟨.string S1,by simp[results,results11,go_sem,c2],?_⟩;refine⟨by rw[Ab HD.o.1,HS.o],by rw[Ab HD.o.1];exact(HD.o.2.far (by have:=HL.o;omega) _).one,((Fr.of aa HL.o).trans HF.o).far HL.o lE _⟩
  ·have hn:=HN.o;obtain⟨n,ad⟩:∃n:Nat,Q.1=(n:Int):=⟨Q.1.toNat,oM⟩;rw[ad];have k1:=(hF.2 w.heap.size HL.o oM).trans ((b1.block w.heap.size oM).trans HM.o.1);have ae:=(HV.o.1.on (aa.mono (by have:=HV.o.2;have:=HL.o;omega))).on (hF.1.mono HV.o.2);refine JJ (f:=20) (args:=#[pZ w.heap.size]) (by simp) (by simp[go_sem]) ?_;refine(R9 w.heap.size ⟨#[]⟩ n oM [] w2 k1 ae.at).mono ?_;rintro e u' ag ⟨rfl,rfl,W,bW,rfl⟩;have k2:=Bf ((bW.block w.heap.size (AA k1)).trans k1) 0 (.string (Ai (CF n)));have c2:(W.setCell (aZ w.heap.size) (.string (Ai (CF n)))).cell? (aZ w.heap.size)=some (.string (Ai (CF n))):=by simp only[World.cell?,k2];rfl
   refine⟨.string (Ai (CF n)),by simp[results,results11,go_sem,c2],?_⟩;have af:b<w2.heap.size:=by have:=(AA k1);have:=HL.o;omega
   refine⟨by rw[Aa q0,ad],by rw[Aa q0];exact((hD.on bW.block).far (by have:=HL.o;omega) _).one,((Fr.of aa HL.o).trans (hF.trans (Fr.of bW af))).far HL.o lE _⟩

def Cu (l:List UInt8) (f:Nat->Int × Ac × List UInt8):Int × Ac × List UInt8:=match DJ l with|some n=>f n|none=>(1,AZ,[])
theorem KZ {f:Nat->Int × Ac × List UInt8}(h:DJ l=none):(Cu l f).1=1/\Gf l=.panicked (pE 1):=by unfold Cu Gf;rw[h];exact⟨rfl,rfl⟩
theorem K5 {f:Nat->Int × Ac × List UInt8}(h:DJ l=some n):Cu l f=f n/\Gf l=.returned (iI (n:Int)):=by unfold Cu Gf;rw[h];exact⟨rfl,rfl⟩
def B9:List UInt8:=[111,107]
theorem Rb {word:ByteArray}{f:Nat}{M:Nat->Ac}{E:Nat->Int}(h:BW w b o m)(ho:o<w.heap.size)(hV:Lv B w)(hB:B<=b)(r:ByteArray)(hr:r.size<=4096)(hw:(word=⟨#[115,105,122,101]⟩/\f=18)\/(word=⟨#[119,105,112,101]⟩/\f=48)\/(word=⟨#[112,117,110,99,104]⟩/\f=49))(HO:Hd (∀ (W:World) (v:Value) (n:Nat),Al W v m->Cl f #[v,iI (n:Int)] W (Bo W W.heap.size (M n) (E n)))):Cl 22 #[pZ b,.string word,.string r] w (B8 w b o m (Cu r.data.toList fun n=>(E n,M n,B9))):=by
  have HD:=Ah h;obtain⟨ra,rc,sa,sc,fa,fc,na,nc,hb,hI⟩:=h;have hlt:=(AA hb);have HN:Hd (∀W,Bw w W->Cl 46 #[.string r] W fun e w'=>e=Gf r.data.toList/\Bw w w'):=fun W hW=>(Ql r W oM (hV.to oM hW).at).mono fun e w' ⟨e1,e2⟩=>⟨e1,hW.trans (e2.mono hW.size)⟩
  have HI:=Ah hI;have HL:=Ah hlt;have af:=Ah ho;have ab:=Ah (AG w.heap.size w);clear hI hlt hV hB ho;have c0:=five hb
  cases hn:DJ r.data.toList with
  | none=>
    obtain⟨hq,hR⟩:=KZ (f:=fun n=>(E n,M n,B9)) hn;rw[hR]at HN;have HQ:=Ah hq;clear hn hR hq;rcases hw with⟨rfl,rfl⟩|⟨rfl,rfl⟩|⟨rfl,rfl⟩
    all_goals
      go_enter func22,ntmps22
      go_wp2_with fail;refine BT (S:=fun _:World=>True) kR trivial (fun hHeld=>?_);refine Ar 0 (pZ b) ?_;refine Ar 1 (pZ b) ?_;refine Ar 2 (pZ b) ?_;refine Ar 3 (pZ b) ?_;refine Ar 5 (.string r) ?_;refine Ig [4,6] (.c rfl ?_ (.c rfl ?_ .n))<;>(intro t hc K hK;clear hc hHeld;simp only[lays];rw[Ab (by rfl)];go_wp2_with fail;first
        | (have _:Tg 4:=t
           clear t;refine hK.out _ _ trivial (fun hHeld=>?_);clear hK K;refine AC 6 rfl (fun K hK=>?_);simp only[lays];rw[Ab (by rfl)];go_wp2_with fail;refine(HN.o _ ab.o.drew).mono ?_;rintro e w1 ⟨rfl,b1⟩;exact⟨rfl,B8.no HD.o HL.o b1 HQ.o dE⟩)
        | (have _:Tg 6:=t
           clear t;refine(HN.o _ ab.o.drew).mono ?_;rintro e w1 ⟨rfl,b1⟩;exact⟨rfl,B8.no HD.o HL.o b1 HQ.o dE⟩))
  | some n=>
    obtain⟨hq,hR⟩:=K5 (f:=fun n=>(E n,M n,B9)) hn;rw[hR]at HN;have HQ:=Ah hq;clear hn hR hq;rcases hw with⟨rfl,rfl⟩|⟨rfl,rfl⟩|⟨rfl,rfl⟩
    all_goals
      go_enter func22,ntmps22
      go_wp2_with fail;refine BT (S:=fun _:World=>True) kR trivial (fun hHeld=>?_);refine Ar 0 (pZ b) ?_;refine Ar 1 (pZ b) ?_;refine Ar 2 (pZ b) ?_;refine Ar 3 (pZ b) ?_;refine Ar 5 (.string r) ?_;refine Ig [4,6] (.c rfl ?_ (.c rfl ?_ .n))<;>(intro t hc K hK;clear hc hHeld;simp only[lays];rw[Ab (by rfl)];go_wp2_with fail;first
        | (have _:Tg 4:=t
           clear t;refine hK.out _ _ trivial (fun hHeld=>?_);clear hK K;refine AC 6 rfl (fun K hK=>?_);simp only[lays];rw[Ab (by rfl)];go_wp2_with fail;refine(HN.o _ ab.o.drew).mono ?_;rintro e w1 ⟨rfl,b1⟩;dsimp only;refine hK.out _ _ trivial (fun hHeld=>?_);clear hK K)
        | (have _:Tg 6:=t
           clear t;refine(HN.o _ ab.o.drew).mono ?_;rintro e w1 ⟨rfl,b1⟩;dsimp only;refine hK.out _ _ trivial (fun hHeld=>?_);clear hK K;have c0:=five ((b1.block b HL.o).trans hb);refine AC 4 rfl (fun K hK=>?_);simp only[lays];rw[Ab (by rfl)];go_wp2_with fail;refine hK.out _ _ trivial (fun hHeld=>?_);clear hK K))
      all_goals
        clear c0;refine AC 7 rfl (fun K hK=>?_);simp only[lays];rw[Ab (by rfl)];go_wp2_with fail;refine(HO.o w1 _ n (HI.o w1 fun q _ _ hq=>b1.block q hq)).mono ?_;intro e w2 hA;obtain⟨qa,qc,pa,pc,ka,kc,ja,jc,rfl,hY,b2⟩:=hA.opened;dsimp only;have aa:=b1.size;have ae:=(b2.block b (AO HL.o aa)).trans ((b1.block b HL.o).trans hb);have HY:=Ah hY;clear hY hA;refine hK.out _ _ trivial (fun hHeld=>?_);clear hK K;refine Ar 8 (.agg #[iI (M n).g,.slice qa (M n).r.length qc,.slice pa (M n).s.length pc,.slice ka (M n).f.length kc,.slice ja (M n).p.length jc]) ?_;refine Ar 9 (iI (E n)) ?_;refine AC 10 rfl (fun K hK=>?_);simp only[lays];rw[Ab (by rfl)];go_wp2_with fail
        by_cases hE:(E n)=0
        · rw[hE]
          refine(Mg _ _ _ _ _ _ _ _ _ _ _ _ _ _).mono ?_;rintro e w3 ⟨rfl,b3⟩;dsimp only;refine hK.out _ _ trivial (fun hHeld=>?_);clear hK K;refine Ar 11 (pZ b) ?_;refine Ar 12 (pZ b) ?_;have l2:b<w2.heap.size:=(AA ae);have ad:=(b3.block b l2).trans ae;have c0:=five ad;have y0:=Aq ad;refine AC 13 rfl (fun K hK=>?_);simp only[lays];rw[Ab (by rfl)];go_wp2_with fail;obtain⟨W4,ac⟩:=nM (((((w3.setCell (aZ b) (iI (M n).g)).setCell (aD b 1) (.slice qa (M n).r.length qc)).setCell (aD b 2) (.slice pa (M n).s.length pc)).setCell (aD b 3) (.slice ka (M n).f.length kc)).setCell (aD b 4) (.slice ja (M n).p.length jc));rw[ac];have HW:=Ah (BW.set ad (AO HL.o aa) (AO af.o aa) (fun Y hY=>HY.o Y fun q hq hl=>(hY q hq (Ea hl (b3.block q hl))).trans (b3.block q hl)) ac);have HF:=Ah (((Fr.of b1 HL.o).trans (Fr.of b2 (AO HL.o aa))).trans (Fr.of b3 l2));clear ac c0 y0;refine hK.out _ _ trivial (fun hHeld=>?_);clear hK K;refine BQ kR ?_ _;go_wp2_with fail;go_ret;exact B8.yes (by rw[HQ.o];exact HW.o.1) (HF.o.trans HW.o.2) (by rw[HQ.o];exact hE) (by rw[HQ.o];rfl)
        · refine(NY _ _ _ _ _ _ _ _ _ _ _ _ _ _ (E n) (by simpa using hE)).mono ?_
          rintro e w3 ⟨rfl,b3⟩;exact⟨rfl,B8.no HD.o HL.o (b1.trans ((b2.mono aa).trans (b3.mono (Bg aa b2.size)))) (by rw[HQ.o]) hE⟩

theorem Ra {word:ByteArray}{f:Nat}(h:BW w b o m)(ho:o<w.heap.size)(r:ByteArray)(hw:(word=⟨#[115,110,97,112]⟩/\f=52)\/(word=⟨#[98,97,99,107]⟩/\f=53)\/(word=⟨#[100,114,111,112]⟩/\f=54))(HO:Hd (∀ (W:World) (v:Value),Al W v m->Cl f #[v,.string r] W (Bo W W.heap.size M E))):Cl 22 #[pZ b,.string word,.string r] w (B8 w b o m (E,M,B9)):=by
 have HD:=Ah h;obtain⟨ra,rc,sa,sc,fa,fc,na,nc,hb,hI⟩:=h;have hlt:=(AA hb);have HI:=Ah (hI w fun _ _ _ _=>rfl);have HL:=Ah hlt;have ad:=Ah ho;clear hI hlt ho;have c0:=five hb;rcases hw with⟨rfl,rfl⟩|⟨rfl,rfl⟩|⟨rfl,rfl⟩
 all_goals
  go_enter func22,ntmps22
  go_wp2_with fail;refine(HO.o w _ HI.o).mono ?_;intro e w2 hA;obtain⟨qa,qc,pa,pc,ka,kc,ja,jc,rfl,hY,b2⟩:=hA.opened;dsimp only;have ac:=(b2.block b HL.o).trans hb;have HY:=Ah hY;clear hY hA c0;go_wp2_with fail
  by_cases hE:E=0
  ·rw[hE];refine(Mg _ _ _ _ _ _ _ _ _ _ _ _ _ _).mono ?_;rintro e w3 ⟨rfl,b3⟩;dsimp only;have l2:b<w2.heap.size:=(AA ac);have ab:=(b3.block b l2).trans ac;have c0:=five ab;have y0:=Aq ab;go_wp2_with fail;obtain⟨W4,aa⟩:=nM (((((w3.setCell (aZ b) (iI M.g)).setCell (aD b 1) (.slice qa M.r.length qc)).setCell (aD b 2) (.slice pa M.s.length pc)).setCell (aD b 3) (.slice ka M.f.length kc)).setCell (aD b 4) (.slice ja M.p.length jc));rw[aa];have HW:=Ah (BW.set ab HL.o ad.o (fun Y hY=>HY.o Y fun q hq hl=>(hY q hq (Ea hl (b3.block q hl))).trans (b3.block q hl)) aa);have HF:=Ah ((Fr.of b2 HL.o).trans (Fr.of b3 l2));clear aa c0 y0;go_ret;exact B8.yes HW.o.1 (HF.o.trans HW.o.2) hE rfl
  ·refine(NY _ _ _ _ _ _ _ _ _ _ _ _ _ _ E (by simpa using hE)).mono ?_;rintro e w3 ⟨rfl,b3⟩;exact⟨rfl,B8.no HD.o HL.o (b2.trans (b3.mono b2.size)) rfl hE⟩
theorem VQ (h:BW w b o m)(ho:o<w.heap.size)(HO:Hd (∀ (W:World) (v:Value),Al W v m->Cl 55 #[v] W (Bo W W.heap.size M E))):Cl 23 #[pZ b,.string ⟨#[112,97,99,107]⟩] w (B8 w b o m (E,M,B9)):=by
 have HD:=Ah h;obtain⟨ra,rc,sa,sc,fa,fc,na,nc,hb,hI⟩:=h;have hlt:=(AA hb);have HI:=Ah (hI w fun _ _ _ _=>rfl);have HL:=Ah hlt;have ad:=Ah ho;clear hI hlt ho;have c0:=five hb
 go_enter func23,ntmps23
 go_wp2_with fail;refine(HO.o w _ HI.o).mono ?_;intro e w2 hA;obtain⟨qa,qc,pa,pc,ka,kc,ja,jc,rfl,hY,b2⟩:=hA.opened;dsimp only;have ac:=(b2.block b HL.o).trans hb;have HY:=Ah hY;clear hY hA c0;go_wp2_with fail
 by_cases hE:E=0
 ·rw[hE];refine(Mg _ _ _ _ _ _ _ _ _ _ _ _ _ _).mono ?_;rintro e w3 ⟨rfl,b3⟩;dsimp only;have l2:b<w2.heap.size:=(AA ac);have ab:=(b3.block b l2).trans ac;have c0:=five ab;have y0:=Aq ab;go_wp2_with fail;obtain⟨W4,aa⟩:=nM (((((w3.setCell (aZ b) (iI M.g)).setCell (aD b 1) (.slice qa M.r.length qc)).setCell (aD b 2) (.slice pa M.s.length pc)).setCell (aD b 3) (.slice ka M.f.length kc)).setCell (aD b 4) (.slice ja M.p.length jc));rw[aa];have HW:=Ah (BW.set ab HL.o ad.o (fun Y hY=>HY.o Y fun q hq hl=>(hY q hq (Ea hl (b3.block q hl))).trans (b3.block q hl)) aa);have HF:=Ah ((Fr.of b2 HL.o).trans (Fr.of b3 l2));clear aa c0 y0;go_ret;exact B8.yes HW.o.1 (HF.o.trans HW.o.2) hE rfl
 ·refine(NY _ _ _ _ _ _ _ _ _ _ _ _ _ _ E (by simpa using hE)).mono ?_;rintro e w3 ⟨rfl,b3⟩;exact⟨rfl,B8.no HD.o HL.o (b2.trans (b3.mono b2.size)) rfl hE⟩

theorem Wl (gm:Int)(ra:Option Addr)(rn rc:Nat)(sa:Option Addr)(sn sc:Nat)(fa:Option Addr)(fn fc:Nat)(na:Option Addr)(nn nc:Nat)(m:Ac)(E:Int)(w:World)(h:Al w (.agg (bI gm ra rn rc sa sn sc fa fn fc na nn nc)) m)(hE:As m=E)(hne:(E != 0)=true):Cl 66 #[.agg (bI gm ra rn rc sa sn sc fa fn fc na nn nc)] w fun r w'=>r=.returned (iI E)/\Bw w w':=by
 have b0:Bw w (w.alloc (cB gm ra rn rc sa sn sc fa fn fc na nn nc)):=Av;have aa:=UT (h.below b0) hE;clear h hE
 go_enter func66,ntmps66
 go_wp2_with(go_at_call 121;refine aa.mono ?_;rintro e w1 ⟨rfl,b1⟩);go_ret;exact⟨rfl,Below.on b0 b1⟩
set_option linter.unusedSimpArgs false in
theorem Wk (gm:Int)(ra:Option Addr)(rn rc:Nat)(sb so:Nat)(sn sc:Nat)(fa:Option Addr)(fn fc:Nat)(na:Option Addr)(nn nc:Nat)(m:Ac)(E:Int)(w:World)(h:Al w (.agg (bI gm ra rn rc (sD sb so) sn sc fa fn fc na nn nc)) m)(hsn:m.s.length=sn)(hsb:sb<w.heap.size)(hcl:∀j,(h:j<m.s.length)->B7 w sb (so+j*3) m.s[j])(hf:Sl w (.slice fa fn fc) m.f)(hfn:fn=sn)(h0:As m=0)(hE:Ao m=E):Cl 66 #[.agg (bI gm ra rn rc (sD sb so) sn sc fa fn fc na nn nc)] w fun r w'=>r=.returned (iI E)/\Bw w w':=by
 have b0:Bw w (w.alloc (cB gm ra rn rc (sD sb so) sn sc fa fn fc na nn nc)):=Av;have m0:(w.alloc (cB gm ra rn rc (sD sb so) sn sc fa fn fc na nn nc)).heap[w.heap.size]?=some (cB gm ra rn rc (sD sb so) sn sc fa fn fc na nn nc):=Aw _ _;have h40:sn<=40:=by rw[<-hsn];exact(A4 (Au h0).2.1).2
 have hrl:m.f.length=sn:=by rw[(Au h0).2.2.1,hsn]
 have HE:Hd (E=if AL m≠m.f then 9 else if (List.range m.s.length).all (EO m)=true then 0 else 9):=by
  show _=_
  rw[<-hE];unfold Ao;rw[Aa (by simpa using h0)]
 have FB:Hd (∀n,n<sn->(m.f.getD n 0≠(AL m).getD n 0\/EO m n=false)->E=9):=fun n hn hor=>by
  rw[HE.o]
  by_cases hq:AL m≠m.f
  ·rw[Ab hq]
  ·rw[Aa hq,Aa];intro e;rcases hor with hh|hh
   ·exact hh (by rw[Lr.1 hq])
   ·have:=Ax.1 e n (by rw[hsn];simpa using hn);rw[hh]at this;cases this
 have FG:Hd ((∀n,n<sn->m.f.getD n 0=(AL m).getD n 0/\EO m n=true)->E=0):=fun hall=>by
  rw[HE.o,Aa,Ab]
  ·rw[Ax];intro j hj;exact(hall j (by rw[<-hsn];simpa using hj)).2
  ·rw[Lr]
   apply EX
   ·rw[EK,hrl,hsn]
   ·intro j h1 h2;have:=(hall j (by rw[<-hrl];exact h2)).1
    simpa[List.getD,h1,h2] using this.symm
 have ad:=UT (h.below b0) h0;have ac:=fun W (hW:Bw w W)=>R3 (h.below hW) h0
 rw[hsn]at ac;have H1:Hd (m.s.length=sn):=hsn;have H2:Hd (∀j,(h:j<m.s.length)->B7 w sb (so+j*3) m.s[j]):=hcl;have H3:Hd (Sl w (.slice fa fn fc) m.f):=hf;subst hfn;have H4:Hd (m.f.length=fn):=hrl;clear HE hsn hcl hf hrl h h0 hE
 go_enter func66,ntmps66
 go_wp2_with fail;refine ad.mono ?_;rintro e w1 ⟨rfl,b1⟩;have m1:=Ag m0 b1 (by simp);obtain⟨c0,c1,c2,c3,c4⟩:=five m1;have aj:=Below.on b0 b1;have ac:=ac w1 aj;clear ad;go_wp2_with fail;refine ac.mono ?_;rintro e w2 ⟨⟨rfl,hL⟩,b2⟩;have m2:=Ag m1 b2 (AA m1);clear c0 c1 c2 c3 c4 ac;obtain⟨c0,c1,c2,c3,c4⟩:=five m2;have ak:=Below.on aj b2;obtain⟨g,hg⟩:=nM (w1.heap.size+1);rw[hg]at hL ⊢;clear hg;go_wp2_with fail
 go_loopw [5] (fun i wq=>∃k:Nat,k<=fn/\i=iI k/\Hd (∀j,j<k->m.f.getD j 0=(AL m).getD j 0/\EO m j=true)/\(Hd (∀a,wq.cell? a=w2.cell? a)/\Bw w wq)) (fun i _=>fn-(intOf i).toNat)
 case atStart=>exact⟨0,A7 _,rfl,fun j hj=>absurd hj oM,fun _=>rfl,ak⟩
 case round=>
  obtain⟨k,hk,rfl,HA,ab,aa⟩:=hrel;have c0:=(ab.o _).trans c0;have c1:=(ab.o _).trans c1;have c2:=(ab.o _).trans c2;have c3:=(ab.o _).trans c3;have c4:=(ab.o _).trans c4
  by_cases hlk:k<fn
  ·have al:(k:Int)<(fn:Int):=oM;have hkm:k<m.s.length:=by rw[H1.o];exact hlk
   obtain⟨tv,s1,_⟩:=H2.o k hkm;have ai:m.s[k].1=kd m.s k:=by unfold kd;simp[List.getD,hkm]
   rw[ai]at s1;have s1:=(aa.cell (p:=(aD sb (so+k*3))) hsb).trans s1;obtain⟨b,off,rfl,hlt,af⟩:=H3.o.cells.2.2.2 k hlk;have af:=(aa.cell (p:=(aD b (off+k))) hlt).trans af;have hcc:=(ab.o _).trans (hL.cell (by rw[EK,H1.o];exact hlk));obtain⟨x,hx⟩:=nM (m.f.getD k 0);obtain⟨y,hy⟩:=nM ((AL m).getD k 0);obtain⟨z,hz⟩:=nM (kd m.s k);have HF:Hd (EO m k=((z == 0) == (y == 0))):=by
    show _=_
    unfold EO;rw[hy,<-hz];rfl
   rw[hx]at af;rw[hy]at hcc;rw[hz]at s1;have ae:Hd (m.f.getD k 0=x/\(AL m).getD k 0=y):=⟨hx,hy⟩;clear hx hy hz ai
   by_cases hxy:x=y
   ·have ag:(x != y)=false:=by simp[hxy]
    have ah:Hd (x=y):=hxy;clear hxy
    cases hy0:y == 0 with
    | true=>
     cases hz0:z == 0 with
     | true=>
      go_wp2_with fail
      go_quiet(fail)
      go_wp2_with fail;go_roundw
      case rel=>exact⟨k+1,oM,by go_num,fun j hj=>by
       by_cases e:j=k
       ·subst e;exact⟨by rw[ae.o.1,ae.o.2,ah.o],by rw[HF.o,hz0,hy0];rfl⟩
       ·exact HA.o j oM,fun a=>ab.o a,⟨aa.os,aa.tape,aa.output,aa.size,aa.block⟩⟩
      case measure=>simp[intOf];omega
     | false=>
      have HB:Hd (E=9):=FB.o k hlk (.inr (by rw[HF.o,hz0,hy0];rfl));go_wp2_with fail
      go_quiet(fail)
      go_wp2_with fail;go_ret;exact⟨Cj HB.o.symm,⟨aa.os,aa.tape,aa.output,aa.size,aa.block⟩⟩
    | false=>
     cases hz0:z == 0 with
     | true=>
      have HB:Hd (E=9):=FB.o k hlk (.inr (by rw[HF.o,hz0,hy0];rfl));go_wp2_with fail
      go_quiet(fail)
      go_wp2_with fail;go_ret;exact⟨Cj HB.o.symm,⟨aa.os,aa.tape,aa.output,aa.size,aa.block⟩⟩
     | false=>
      go_wp2_with fail
      go_quiet(fail)
      go_wp2_with fail;go_roundw
      case rel=>exact⟨k+1,oM,by go_num,fun j hj=>by
       by_cases e:j=k
       ·subst e;exact⟨by rw[ae.o.1,ae.o.2,ah.o],by rw[HF.o,hz0,hy0];rfl⟩
       ·exact HA.o j oM,fun a=>ab.o a,⟨aa.os,aa.tape,aa.output,aa.size,aa.block⟩⟩
      case measure=>simp[intOf];omega
   ·have ag:(x != y)=true:=by simp[hxy]
    have HB:Hd (E=9):=FB.o k hlk (.inl (by rw[ae.o.1,ae.o.2];exact hxy));clear hxy;go_wp2_with fail
    go_quiet(fail)
    go_wp2_with fail;go_ret;exact⟨Cj HB.o.symm,⟨aa.os,aa.tape,aa.output,aa.size,aa.block⟩⟩
  ·have HB:Hd (E=0):=FG.o (fun n hn=>HA.o n oM);have e5:k=fn:=oM;subst e5;go_wp2_with fail;go_ret;exact⟨Cj HB.o.symm,aa⟩
theorem F9 (h:Al w v m)(hE:Ao m=E):Cl 66 #[v] w fun r w'=>r=.returned (iI E)/\Bw w w':=by
 have h':=h;obtain⟨ra,rc,sa,sc,fa,fc,na,nc,rfl,h1,h2,h3,h4⟩:=h.parts
 by_cases h0:As m=0
 ·obtain⟨z1,z2,z3,_⟩:=Au h0;obtain⟨sb,so,ac,e,ab,hlt,aa⟩:=h2.open (A4 z2).1;simp at e
  obtain⟨rfl,rfl⟩:=e;exact Wk m.g ra _ rc sb so _ sc fa _ fc na _ nc m E w h' rfl hlt aa h3 z3 h0 hE
 ·have e:As m=E:=by rw[<-hE];unfold Ao;rw[Ab h0]
  exact Wl m.g ra _ rc sa _ sc fa _ fc na _ nc m E w h' e (by rw[<-e];simpa using h0)
theorem ZK (gm:Int)(ra:Option Addr)(rn rc:Nat)(sa:Option Addr)(sn sc:Nat)(fa:Option Addr)(fn fc:Nat)(na:Option Addr)(nn nc:Nat)(qb qo qn qc n:Nat)(w:World)(hn:n<16)(hqn:n/4<qn)(hqb:qb<w.heap.size)(hc:w.cell? (aD qb (qo+n/4))=some (iI 0)):Cl 120 #[.agg (bI gm ra rn rc sa sn sc fa fn fc na nn nc),lD qb qo qn qc,iI n] w fun r w'=>r=.returned (iI 0)/\Bw w w':=by
 have b0:Bw w (w.alloc (cB gm ra rn rc sa sn sc fa fn fc na nn nc)):=Av;have cr:=(b0.cell (p:=(aD qb (qo+n/4))) hqb).trans hc;have hq:((n:Int)/4).toNat=n/4:=oM
 go_enter func120,ntmps120
 go_wp2_with fail;go_ret;exact⟨rfl,b0⟩
theorem ZM (gm:Int)(ra:Option Addr)(rn rc:Nat)(sb so:Nat)(sn sc:Nat)(fa:Option Addr)(fn fc:Nat)(na:Option Addr)(nn nc:Nat)(qb qo qn qc n:Nat)(t:Nat)(x:Int)(w:World)(hn:n<16)(hqn:n/4<qn)(hqb:qb<w.heap.size)(hc:w.cell? (aD qb (qo+n/4))=some (iI t))(ht:0<t)(hts:t<sn)(hsb:sb<w.heap.size)(tb tw tc:Nat)(hct:w.cell? (aD sb (so+t*3+2))=some (lD tb tw 4 tc))(htb:tb<w.heap.size)(hx:w.cell? (aD tb (tw+n%4))=some (iI x)):Cl 120 #[.agg (bI gm ra rn rc (sD sb so) sn sc fa fn fc na nn nc),lD qb qo qn qc,iI n] w fun r w'=>r=.returned (iI x)/\Bw w w':=by
 have b0:Bw w (w.alloc (cB gm ra rn rc (sD sb so) sn sc fa fn fc na nn nc)):=Av;have cr:=(b0.cell (p:=(aD qb (qo+n/4))) hqb).trans hc;have ct:=(b0.cell (p:=(aD sb (so+t*3+2))) hsb).trans hct;have cx:=(b0.cell (p:=(aD tb (tw+n%4))) htb).trans hx;have hq:((n:Int)/4).toNat=n/4:=oM;have aa:((n:Int)%4).toNat=n%4:=oM;have hne:((t:Int) == 0)=false:=by simp;omega
 have h4:n%4<4:=oM
 go_enter func120,ntmps120
 go_wp2_with fail;go_ret;exact⟨rfl,b0⟩
theorem ZL {rv:Value}{root:List Int}(h:Al w v m)(hr:Sl w rv root)(hs:AD m.s=0)(hall:root.all (BZ m.s)=true)(n:Nat)(hn:n<16)(hl:n/4<root.length){c:Int}(hc:Be m root n=c):Cl 120 #[v,rv,iI n] w fun r w'=>r=.returned (iI c)/\Bw w w':=by
 obtain⟨ra,rc,sa,sc,fa,fc,na,nc,rfl,h1,h2,h3,h4⟩:=h.parts;have ad:=E2 hall hl;obtain⟨rb,ro,qc,rfl,_,ae,aa⟩:=hr.open oM;have ab:=aa (n/4) hl;unfold Be at hc
 by_cases hz:root.getD (n/4) 0=0
 ·rw[Ab hz]at hc;subst hc;rw[hz]at ab;exact ZK m.g ra _ rc sa _ sc fa _ fc na _ nc rb ro _ qc n w hn hl ae ab
 ·rw[Aa hz]at hc;rw[E9 hz]at ad;obtain⟨t,ht,ac,hkd⟩:=Gz ad;have hok:=J5 (DO hs ac) hkd;obtain⟨sb,so,aj,e,_,ag,af⟩:=h2.open oM;simp at e
  obtain⟨rfl,rfl⟩:=e;obtain⟨tv,_,_,c3,hsl⟩:=af t ac;obtain⟨tb,tw,tc,rfl,_,ah,ai⟩:=hsl.four hok.1;rw[ht]at ab hc hz;have e4:AH m.s (t:Int)=m.s[t].2.2:=by unfold AH;simp[List.getD,ac]
  rw[e4]at hc;have hx:=ai (n%4) oM;rw[hc]at hx;exact ZM m.g ra _ rc sb so _ sc fa _ fc na _ nc rb ro _ qc n t c w hn hl ae ab oM ac ag tb tw tc c3 ah hx
theorem ZI (gm:Int)(ra:Option Addr)(rn rc:Nat)(sa:Option Addr)(sn sc:Nat)(fa:Option Addr)(fn fc:Nat)(na:Option Addr)(nn nc:Nat)(m:Ac)(E n:Int)(w:World)(h:Al w (.agg (bI gm ra rn rc sa sn sc fa fn fc na nn nc)) m)(hE:Ao m=E)(hne:(E != 0)=true):Cl 33 #[.agg (bI gm ra rn rc sa sn sc fa fn fc na nn nc),iI n] w fun r w'=>r=.returned (iI E)/\Bw w w':=by
 have b0:Bw w (w.alloc (cB gm ra rn rc sa sn sc fa fn fc na nn nc)):=Av;have aa:=F9 (h.below b0) hE;clear h hE
 go_enter func33,ntmps33
 go_wp2_with(go_at_call 66;refine aa.mono ?_;rintro e w1 ⟨rfl,b1⟩);go_ret;exact⟨rfl,Below.on b0 b1⟩
theorem ZH (gm:Nat)(ra:Option Addr)(rn rc:Nat)(sa:Option Addr)(sn sc:Nat)(fa:Option Addr)(fn fc:Nat)(na:Option Addr)(nn nc:Nat)(m:Ac)(n:Int)(w:World)(h:Al w (.agg (bI gm ra rn rc sa sn sc fa fn fc na nn nc)) m)(hE:Ao m=0)(hg:gm<=16)(hr:(if 0<=n/\n<gm then 0 else 3)=E):Cl 33 #[.agg (bI gm ra rn rc sa sn sc fa fn fc na nn nc),iI n] w fun r w'=>r=.returned (iI E)/\Bw w w':=by
 have b0:Bw w (w.alloc (cB gm ra rn rc sa sn sc fa fn fc na nn nc)):=Av;have m0:(w.alloc (cB gm ra rn rc sa sn sc fa fn fc na nn nc)).heap[w.heap.size]?=some (cB gm ra rn rc sa sn sc fa fn fc na nn nc):=Aw _ _;have aa:=F9 (h.below b0) hE;obtain⟨B,hB⟩:=nM (decide ((0:Int)<=n/\n<=(gm:Int)-1));have HB:Hd (decide ((0:Int)<=n/\n<=(gm:Int)-1)=B):=hB;have HR:Hd (E=if B=true then 0 else 3):=by
  show _=_
  rw[<-hr,<-hB]
  by_cases hc:0<=n/\n<gm
  ·rw[Ab hc,Ab (C3 oM)]
  ·rw[Aa hc,Aa (by rw[Dn oM];decide)]
 clear h hE hB hr
 cases B with
 | true=>
  go_enter func33,ntmps33
  go_wp2_with(first|(go_at_call 66;refine aa.mono ?_;rintro e w1 ⟨rfl,b1⟩;have m1:=Ag m0 b1 (by simp);have c0:=five m1)|(go_at_call 65;refine(Dy _ _ _ _).mono ?_;rintro e w' ⟨rfl,hw⟩;subst hw;rw[HB.o]));go_ret;exact⟨by rw[HR.o];rfl,Below.on b0 b1⟩
 | false=>
  go_enter func33,ntmps33
  go_wp2_with(first|(go_at_call 66;refine aa.mono ?_;rintro e w1 ⟨rfl,b1⟩;have m1:=Ag m0 b1 (by simp);have c0:=five m1)|(go_at_call 65;refine(Dy _ _ _ _).mono ?_;rintro e w' ⟨rfl,hw⟩;subst hw;rw[HB.o]));go_ret;exact⟨by rw[HR.o];rfl,Below.on b0 b1⟩
theorem Jk (h:Al w v m)(n:Int)(hE:Br m n=E):Cl 33 #[v,iI n] w fun r w'=>r=.returned (iI E)/\Bw w w':=by
 have h':=h;obtain⟨ra,rc,sa,sc,fa,fc,na,nc,rfl,h1,h2,h3,h4⟩:=h.parts;unfold Br at hE
 by_cases h0:Ao m=0
 ·rw[Aa (by simpa using h0)]at hE;have hg:=Dg (A0 h0);obtain⟨k,hk⟩:∃k:Nat,m.g=k:=⟨m.g.toNat,oM⟩;rw[hk]at h' hE ⊢;exact ZH k ra _ rc sa _ sc fa _ fc na _ nc m n w h' h0 oM hE
 ·rw[Ab h0]at hE;exact ZI m.g ra _ rc sa _ sc fa _ fc na _ nc m E n w h' hE (by rw[<-hE];simpa using h0)
theorem ZJ (gm:Int)(ra:Option Addr)(rn rc:Nat)(sa:Option Addr)(sn sc:Nat)(fa:Option Addr)(fn fc:Nat)(na:Option Addr)(nn nc:Nat)(m:Ac)(n:Nat)(c:Int)(w:World)(h:Al w (.agg (bI gm ra rn rc sa sn sc fa fn fc na nn nc)) m)(hr:Sl w (.slice ra rn rc) m.r)(hs:AD m.s=0)(hall:m.r.all (BZ m.s)=true)(hn:n<16)(hl:n/4<m.r.length)(hc:Be m m.r n=c):Cl 63 #[.agg (bI gm ra rn rc sa sn sc fa fn fc na nn nc),iI n] w fun r w'=>r=.returned (iI c)/\Bw w w':=by
 have b0:Bw w (w.alloc (cB gm ra rn rc sa sn sc fa fn fc na nn nc)):=Av;have aa:=ZL (h.below b0) (hr.below b0) hs hall n hn hl hc;clear h hr hs hall hc hl
 go_enter func63,ntmps63
 go_wp2_with(go_at_call 120;refine aa.mono ?_;rintro e w1 ⟨rfl,b1⟩);go_ret;exact⟨rfl,Below.on b0 b1⟩
theorem P8 (h:Al w v m)(n:Int)(hE:Br m n=0){c:Int}(hc:Be m m.r n.toNat=c):Cl 63 #[v,iI n] w fun r w'=>r=.returned (iI c)/\Bw w w':=by
 have h':=h;obtain⟨ra,rc,sa,sc,fa,fc,na,nc,rfl,h1,h2,h3,h4⟩:=h.parts;unfold Br at hE
 split at hE
 ·rename_i h0;exact absurd hE h0
 rename_i h0
 have h0:Ao m=0:=Lr.1 h0
 split at hE
 ·rename_i hn
  have aa:=A0 h0;have hg:=Dg aa;have ab:=CQ aa;obtain⟨k,rfl⟩:∃k:Nat,n=k:=⟨n.toNat,oM⟩;rw[A5]at hc;exact ZJ m.g ra _ rc sa _ sc fa _ fc na _ nc m k c w h' h1 (Au aa).2.1 ab.2 oM oM hc
 ·simp at hE
theorem kA (w:World):Cl 123 #[] w fun r w'=>r=.returned (.string ⟨#[0,0,0,0]⟩)/\w'=w:=by
 go_enter func123,ntmps123
 go_wp2
 go_ret;exact⟨rfl,rfl⟩
theorem kI (n:Nat)(w:World)(hn:n<=4):Cl 192 #[iI n] w fun r w'=>r=.returned (.string (Tz (List.replicate n 0)))/\Bw w w':=by
 have h:=strings_Repeat ⟨#[0]⟩ n w oM (by show 1*n<=_;omega);rw[show (⟨#[0]⟩:ByteArray).data.toList=[0] from rfl,eV]at h;have HH:Hd (Cl 221 #[.string ⟨#[0]⟩,iI n] w fun e w'=>e=.returned (.string (Tz (List.replicate n 0)))/\Bw w w'):=h;clear h
 go_enter func192,ntmps192
 go_wp2_with(go_at_call 221;refine(HH.o).mono ?_;rintro e w1 ⟨rfl,b1⟩);go_ret;exact⟨rfl,b1⟩
theorem kE (w:World):Cl 153 #[] w fun r w'=>r=.returned (.string Z4)/\Bw w w':=by
 go_enter func153,ntmps153
 go_wp2_with(go_at_call 192;refine(kI 4 _ oM).mono ?_;rintro e w1 ⟨rfl,b1⟩);go_ret;exact⟨rfl,b1⟩
theorem Tryz.info9:(prog.info? 9).map (fun i=>(i.zero,i.size,i.bytes))=some (some (.string ByteArray.empty),1,16):=by kernel_rfl
def FD (W:World) (g:Nat) (l:List ByteArray):Prop:=W.heap[g]?=some (.cells (l.map Value.string).toArray 9)
theorem FD.cell {l:List ByteArray}(h:FD W g l)(hj:j<l.length):W.cell? (aD g j)=some (.string (l.getD j ByteArray.empty)):=by
 have h':W.heap[g]?=some (.cells (l.map Value.string).toArray 9):=h;simp[World.cell?,h',List.getD,hj]
theorem FD.frozen {l:List ByteArray}(h:FD W g l)(j:Nat):W.frozen? (aD g j)=false:=by
 have h':W.heap[g]?=some (.cells (l.map Value.string).toArray 9):=h;simp[World.frozen?,h']
theorem FD.lt {l:List ByteArray}(h:FD W g l):g<W.heap.size:=(AA h)
theorem FD.set {l:List ByteArray}(h:FD W g l)(j:Nat)(x:ByteArray):FD (W.setCell (aD g j) (.string x)) g (l.set j x):=by
 obtain⟨hlt,hk⟩:=B6.1 h
 show (W.heap.modify g _)[g]?=_
 rw[IU (by rw[Oy];exact hlt),Ox,hk];simp[ON]
theorem ZZ (n:Nat)(hn:n<=40)(W:World):(Instr.makeSlice 123 (iI (n:Int)) (iI (n:Int))).run prog W=.ok (lZ W.heap.size n n) (W.alloc (.cells ((List.replicate n ByteArray.empty).map Value.string).toArray 9)):=by
 have hi:=Tryz.info9
 cases h:prog.info? 9 with
 | none=>rw[h]at hi;cases hi
 | some i=>
  rw[h]at hi;simp at hi
  have:=run_make (P:=prog) W 123 9 i (.string ByteArray.empty) underlying123 h hi.1 .i64 .i64 n n oM oM (by rw[hi.2.2];omega) oM;rw[this,hi.2.1];have e:madeCells (Value.string ByteArray.empty).cells (((n:Int)).toNat*1)=((List.replicate n ByteArray.empty).map Value.string).toArray:=by
   apply Array.ext
   ·simp[madeCells]
   ·intro j h1 h2;simp[madeCells,Value.cells,Nat.mod_one]
  rw[e];simp
theorem TV (la:Option Addr)(ln lc:Nat)(e:Int)(w:World)(he:e=0\/e = -1):Cl 90 #[.slice la ln lc,iI e] w fun r w'=>r=.returned (.string Z4)/\Bw w w':=by
 rcases he with rfl|rfl
 all_goals
  go_enter func90,ntmps90
  go_wp2_with(go_at_call 153;refine(kE _).mono ?_;rintro e w1 ⟨rfl,b1⟩);go_ret;exact⟨rfl,b1⟩
theorem dG (lb lo:Nat)(ln lc:Nat)(j:Nat)(d:ByteArray)(w:World)(h1:1<=j)(hj:j<ln)(hc:w.cell? (aD lb (lo+j*3+1))=some (.string d)):Cl 90 #[lD lb lo ln lc,iI j] w fun r w'=>r=.returned (.string d)/\Bw w w':=by
 have h0:((j:Int) == 0)=false:=by simp;omega
 have hm:((j:Int) == -1)=false:=by simp<;>omega
 have aa:(j:Int)<(ln:Int):=oM
 go_enter func90,ntmps90
 go_wp2_with fail;go_ret;exact⟨rfl,AG _ _⟩
theorem dF {lv:Value}{L:List An}(h:BA w lv L)(he:e=0\/e = -1\/∃j:Nat,e=j/\1<=j/\j<L.length){p:ByteArray}(hp:Fp L e=p):Cl 90 #[lv,iI e] w fun r w'=>r=.returned (.string p)/\Bw w w':=by
 unfold Fp at hp;have h':=h;obtain⟨la,lc,rfl⟩:=h.form;rcases he with he|he|⟨j,rfl,h1,hj⟩
 ·rw[Ab oM]at hp;subst hp;exact TV la _ lc e w (.inl he)
 ·rw[Ab oM]at hp;subst hp;exact TV la _ lc e w (.inr he)
 ·rw[Aa oM]at hp;obtain⟨sb,so,rfl,aa,tv,_,c2,_⟩:=h'.at j hj;have e:L.getD (j:Int).toNat default=L[j]:=by simp[List.getD,hj]
  rw[e]at hp;rw[hp]at c2;exact dG sb so _ lc j p w h1 hj c2
theorem FD.below {l:List ByteArray}(h:FD W g l)(hb:Below n W W')(hg:g<n):FD W' g l:=(hb.block _ hg).trans h
theorem Ge {n:Int}(h:Br m n=0):Ao m=0/\0<=n/\n<m.g:=by
 unfold Br at h
 split at h
 ·rename_i h0;exact absurd h h0
 rename_i h0
 split at h
 ·rename_i hn;exact⟨Lr.1 h0,hn⟩
 ·simp at h
theorem Tj {n:Int}(h:Br m n=0):Be m m.r n.toNat=0\/Be m m.r n.toNat = -1\/∃j:Nat,Be m m.r n.toNat=j/\1<=j/\j<m.s.length:=by
 obtain⟨h0,h1,h2⟩:=Ge h;have hs:=A0 h0;have hg:=Dg hs;have hr:=CQ hs;exact(J2 hs hr.2 n.toNat oM).imp id (Or.imp id (fun ⟨j,a,b,c,_⟩=>⟨j,a,b,c⟩))
theorem eN (gm:Int)(ra:Option Addr)(rn rc:Nat)(sa:Option Addr)(sn sc:Nat)(fa:Option Addr)(fn fc:Nat)(na:Option Addr)(nn nc:Nat)(m:Ac)(n E:Int)(w:World)(h:Al w (.agg (bI gm ra rn rc sa sn sc fa fn fc na nn nc)) m)(hE:Br m n=E)(hne:(E != 0)=true):Cl 45 #[.agg (bI gm ra rn rc sa sn sc fa fn fc na nn nc),iI n] w fun r w'=>r=.returned (.tuple #[.string ⟨#[]⟩,iI E])/\Bw w w':=by
 let V:=(w.alloc (cB gm ra rn rc sa sn sc fa fn fc na nn nc))
 have b0:Bw w V:=Av;have m0:V.heap[w.heap.size]?=some (cB gm ra rn rc sa sn sc fa fn fc na nn nc):=Aw _ _;have z0:w.heap.size<V.heap.size:=by simp[V]
 have h1:=Jl (h.below b0) n hE (c:=0) (by rw[Aa (by intro e;rw[e]at hne;cases hne)]);clear h hE;dsimp only[V]at *;clear V
 go_enter func45,ntmps45
 go_wp2_with fail;refine h1.mono ?_;rintro e w1 ⟨rfl,b1⟩;go_wp2_with fail
 go_ret2
 exact⟨rfl,Below.on b0 b1⟩
theorem eM (gm:Int)(ra:Option Addr)(rn rc:Nat)(sa:Option Addr)(sn sc:Nat)(fa:Option Addr)(fn fc:Nat)(na:Option Addr)(nn nc:Nat)(m:Ac)(n:Int)(w:World)(h:Al w (.agg (bI gm ra rn rc sa sn sc fa fn fc na nn nc)) m)(hS:BA w (.slice sa sn sc) m.s)(hE:Br m n=0)(p:ByteArray)(hp:Fp m.s (Be m m.r n.toNat)=p):Cl 45 #[.agg (bI gm ra rn rc sa sn sc fa fn fc na nn nc),iI n] w fun r w'=>r=.returned (.tuple #[.string p,iI 0])/\Bw w w':=by
 let V:=(w.alloc (cB gm ra rn rc sa sn sc fa fn fc na nn nc))
 have b0:Bw w V:=Av;have m0:V.heap[w.heap.size]?=some (cB gm ra rn rc sa sn sc fa fn fc na nn nc):=Aw _ _;have z0:w.heap.size<V.heap.size:=by simp[V]
 obtain⟨c,hc⟩:=nM (Be m m.r n.toNat);have h1:=Jl (h.below b0) n hE (c:=c) (by rw[Ab rfl];exact hc);have aa:=Tj hE;rw[hc]at aa hp;have h2:=fun W (hW:Bw w W)=>dF (hS.below hW) aa hp
 clear h hE aa hp hc hS;dsimp only[V]at *;clear V
 go_enter func45,ntmps45
 go_wp2_with fail;refine h1.mono ?_;rintro e w1 ⟨rfl,b1⟩;have m1:=Ag m0 b1 z0;have ab:=Below.on b0 b1;have a0:=five m1;clear h1;go_wp2_with fail;refine(h2 _ ab).mono ?_;rintro e w2 ⟨rfl,b2⟩;go_wp2_with fail
 go_ret2
 exact⟨rfl,Below.on ab b2⟩
theorem eO (h:Al w v m)(n:Int){p:ByteArray}(hE:Br m n=E)(hp:Jp m n=p):Cl 45 #[v,iI n] w fun r w'=>r=.returned (.tuple #[.string p,iI E])/\Bw w w':=by
 have h':=h;obtain⟨ra,rc,sa,sc,fa,fc,na,nc,rfl,h1,h2,h3,h4⟩:=h.parts;unfold Jp at hp
 by_cases h0:Br m n=0
 ·rw[Ab h0]at hp;rw[h0]at hE;subst hE;exact eM m.g ra _ rc sa _ sc fa _ fc na _ nc m n w h' h2 h0 p hp
 ·rw[Aa h0]at hp;subst hp;exact eN m.g ra _ rc sa _ sc fa _ fc na _ nc m n E w h' hE (by rw[<-hE];simpa using h0)

def E5 (m:Ac):List UInt8:=if m.g=0 then [110,111,110,101] else Lib.join ((List.range m.g.toNat).map fun n=>ED (Be m m.r n)) [32]
def FP (f:Nat->ByteArray) (g k:Nat):List ByteArray:=(List.range g).map fun j=>if j<k then f j else ByteArray.empty
theorem N3 (f:Nat->ByteArray)(g k:Nat):(FP f g k).length=g:=by unfold FP;simp
theorem gh (f:Nat->ByteArray)(g:Nat):FP f g 0=List.replicate g ByteArray.empty:=by
 apply EX<;>simp[FP]
theorem gd (f:Nat->ByteArray)(g k:Nat):(FP f g k).set k (f k)=FP f g (k+1):=by
 unfold FP
 apply EX
 ·simp
 ·intro j h1 h2;rw[MM]
  by_cases e:k=j
  ·subst e;simp
  ·rw[Aa e];simp only[Lx,List.getElem_range]
   by_cases c:j<k
   ·rw[Ab c,Ab oM]
   ·rw[Aa c,Aa oM]
theorem Tb (N:Nat):∀ (xs:List (List UInt8)),(∀x∈xs,x.length<=N)->Lib.lens xs<=xs.length*N
 | [],_=>by simp[Lib.lens]
 | x::r,h=>by
  have h1:=h x (CD ..);have h2:=Tb N r (fun z hz=>h z (CA _ hz));unfold Lib.lens at *;rw[Dc,OP,BF,Nat.succ_mul];omega
theorem SQ (N:Nat):∀ (xs:List (List UInt8)),(∀x∈xs,x.length<=N)->(Lib.join xs [32]).length<=xs.length+xs.length*N
 | [],_=>by simp[Lib.join_nil]
 | x::r,h=>by
  have:=Tb N (x::r) h;rw[Lib.join_length,Hf];rw[BF]at *;omega
theorem LP (hR:Ao m=0)(hk:(k:Int)<m.g):-1<=Be m m.r k/\Be m m.r k<40:=by
 have hs:=A0 hR;have hl:=CQ hs;rcases J2 hs hl.2 k oM with e|e|⟨j,e,_,h2,_⟩
 ·omega
 ·omega
 ·have:=(A4 (Au hs).2.1).2;omega
theorem QP (h:e<40):(ED e).length<=42:=by
 unfold ED;split
 ·simp
 ·split
  ·simp
  ·rw[EN oM];have:=Ga e.toNat;omega
theorem Xq (h:BW w b o m)(hR:Ao m=0)(hV:Lv B w)(hB:B<=b):Cl 56 #[pZ b] w fun r w'=>r=.returned (.string (Ai (E5 m)))/\Bw w w':=by
 obtain⟨ra,rc,sa,sc,fa,fc,na,nc,hb,hI⟩:=h;have hlt:=(AA hb);obtain⟨c0,c1,c2,c3,c4⟩:=five hb;have hg:=Dg (A0 hR)
 by_cases h0:m.g=0
 ·have HM:Hd (E5 m=[110,111,110,101]):=by show _=_;unfold E5;rw[Ab h0]
  rw[h0]at c0;clear hV hB h0 hI
  go_enter func56,ntmps56
  go_wp2_with fail;go_ret;exact⟨by rw[HM.o];rfl,AG _ _⟩
 obtain⟨g,ad⟩:∃g:Nat,m.g=(g:Int):=⟨m.g.toNat,oM⟩;have ak:g<=16:=oM;have hg0:¬(g:Int)=0:=oM;obtain⟨f,hf⟩:∃f:Nat->ByteArray,f=fun n=>Ai (ED (Be m m.r n)):=⟨_,rfl⟩
 have HJ:Hd (E5 m=Lib.join ((FP f g g).map (·.data.toList)) [32]/\(Lib.join ((FP f g g).map (·.data.toList)) [32]).length<=140737488355328):=by
  have e:(FP f g g).map (·.data.toList)=(List.range g).map fun n=>ED (Be m m.r n):=by
   unfold FP;rw[OM];refine Ef fun j hj=>?_
   have:=CR.1 hj;simp only[Function.comp_apply];rw[Ab this,hf];rfl
  refine⟨by unfold E5;rw[Aa h0,e,ad];rfl,?_⟩;rw[e];have:=SQ 42 ((List.range g).map fun n=>ED (Be m m.r n)) (fun x hx=>by
   obtain⟨j,hj,rfl⟩:=Fh.1 hx;have:=CR.1 hj;exact QP (LP hR oM).2)
  rw[BH,Ly]at this;omega
 have HI:=Ah hI;have HV:=Ah (AW hV (AW hB hlt));have HR:=Ah (AW hR ad);have HF:=Ah hf;have HB:=Ah hb;have ai:=ZZ g oM;obtain⟨W0,ac⟩:=nM (w.alloc (.cells ((List.replicate g ByteArray.empty).map Value.string).toArray 9));have l0:FD W0 w.heap.size (FP f g 0):=by rw[gh,<-ac];exact Aw _ _
 have b0:Bw w W0:=by rw[<-ac];exact Av
 rw[ad]at c0;clear hI hV hB hR ad h0 hf hg hb
 go_enter func56,ntmps56
 go_wp2_with fail;rw[show w.alloc (Obj.cells (Array.replicate g (Value.string ByteArray.empty)) 9)=W0 by rw[<-ac];simp];clear ai ac c0 c1 c2 c3 c4
 go_loopw [4,19] (fun _ i wq=>∃k:Nat,k<=g/\i=iI k/\FD wq w.heap.size (FP f g k)/\Bw w wq) (fun _ i _=>g-(intOf i).toNat)
 case atStart=>exact⟨0,A7 _,rfl,l0,b0⟩
 case round=>
  obtain⟨k,hk,rfl,hL,aa⟩:=hrel;obtain⟨x,aj⟩:∃X,X=wr:=⟨_,rfl⟩;subst aj
  by_cases hlk:k<g
  ·have af:(k:Int)<(g:Int):=oM;obtain⟨c0,c1,c2,c3,c4⟩:=five ((aa.block b HV.o.2.2).trans HB.o);have hr:=LP HR.o.1 (k:=k) (by rw[HR.o.2];exact af);have hf:Ai (ED (Be m m.r k))=f k:=by rw[HF.o]
   have HL:=Ah (Jl (HI.o x fun q _ _ hq=>aa.block q hq) (k:Int) (E:=0) (NP HR.o.1 (by rw[HR.o.2];exact af)) (by rw[Ab rfl,A5]));obtain⟨c,hc⟩:=nM (Be m m.r k);rw[hc]at HL hr hf;have HS:=Ah (fun W (hW:Bw w W)=>ir c hr.1 oM W (HV.o.1.to (by have:=HV.o.2;omega) hW).at);rw[hf]at HS;clear hc hr hf;go_wp2_with fail;refine HL.o.mono ?_;rintro e w1 ⟨rfl,b1⟩;dsimp only;have ag:=Below.on aa b1;clear c0 c1 c2 c3 c4;go_wp2_with fail;refine(Um _ _).mono ?_;rintro e w2 ⟨rfl,hw⟩;rw[hw];clear hw;dsimp only;go_wp2_with fail;refine(HS.o w1 ag).mono ?_;rintro e w2 ⟨rfl,b2⟩;dsimp only;have ah:=Below.on ag b2;have ae:=hL.below b1 hL.lt;have ab:=ae.below b2 ae.lt;have am:=ab.frozen k;have al:=ab.cell (j:=k) (by rw[N3];exact hlk);have an:=ab.lt;clear hL ae;go_wp2_with fail;go_roundw
   case rel=>exact⟨k+1,oM,by go_num,by rw[<-gd];exact ab.set k _,ah.setCell lE _⟩
   case measure=>simp[intOf];omega
  ·have af:¬(k:Int)<(g:Int):=oM;have e4:k=g:=oM;subst e4;have HS:=Ah (strings_Join w.heap.size 0 k (FP f k k) ⟨#[32]⟩ x (fun j y hy=>by
    have hj:=(MK.1 hy).1;rw[Eh,hL.cell hj,List.getD,hy];rfl) hL.lt (by rw[N3];omega) (by rw[N3];exact Bc _) HJ.o.2)
   rw[N3,<-HJ.o.1]at HS;go_wp2_with(go_at_call 112;refine HS.o.mono ?_;rintro e w2 ⟨rfl,b2⟩);go_ret;exact⟨rfl,Below.on aa b2⟩
section
open Go.Lib
theorem Tp (n:Nat)(hn:n<=1000)(W:World):(Instr.makeSlice 29 (iI (n:Int)) (iI (n:Int))).run prog W=.ok (lZ W.heap.size n n) (W.alloc (.cells ((List.replicate n (0:Int)).map (Value.int .i64)).toArray 3)):=by
 have hi:=info3
 cases h:prog.info? 3 with
 | none=>rw[h]at hi;cases hi
 | some i=>
  rw[h]at hi;simp at hi
  have:=run_make (P:=prog) W 29 3 i (iI 0) underlying29 h hi.1 .i64 .i64 n n oM oM (by rw[hi.2.2];omega) oM;rw[this,hi.2.1];have e:madeCells (iI 0).cells (((n:Int)).toNat*1)=((List.replicate n (0:Int)).map (Value.int .i64)).toArray:=by
   apply Array.ext
   ·simp[madeCells]
   ·intro j h1 h2;simp[madeCells,Value.cells,Nat.mod_one]
  rw[e];simp
structure A6 (W X:World) (R:Nat) (l:List UInt8):Prop where
 os:X.os=W.os
 tape:X.tape=W.tape
 output:X.output=W.output
 size:W.heap.size<=X.heap.size
 keep:∀q,q<W.heap.size->q≠R->X.heap[q]?=W.heap[q]?
 box:X.heap[R]?=some (.cells #[.string (Ai (l))] 180)
theorem A6.refl (h:W.heap[R]?=some (.cells #[.string (Ai (l))] 180)):A6 W W R l:=⟨rfl,rfl,rfl,Bc _,fun _ _ _=>rfl,h⟩
theorem A6.lt (h:A6 W X R l):R<X.heap.size:=(B6.1 h.box).1
theorem A6.trans {Y:World}{l':List UInt8}(h:A6 W X R l)(k:A6 X Y R l'):A6 W Y R l':=⟨k.os.trans h.os,k.tape.trans h.tape,k.output.trans h.output,Bg h.size k.size,fun q hq hn=>(k.keep q (AO hq h.size) hn).trans (h.keep q hq hn),k.box⟩
theorem A6.alloc (h:A6 W X R l)(o:Obj):A6 W (X.alloc o) R l:=⟨h.os,h.tape,h.output,Bg h.size (by simp),fun q hq hn=>(Ch _ _ q (AO hq h.size)).trans (h.keep q hq hn),Aj h.box _⟩
theorem A6.set (h:A6 W X R l)(l':List UInt8):A6 W (X.setCell (aZ R) (.string (Ai l'))) R l':=⟨h.os,h.tape,h.output,Bg h.size (by simp),fun q hq hn=>(AN _ (aZ R) _ q hn).trans (h.keep q hq hn),Bf h.box 0 _⟩
theorem A6.other (h:A6 W X R l)(hg:W.heap.size<=g)(hR:R<W.heap.size)(v:Value):A6 W (X.setCell (aD g i) v) R l:=⟨h.os,h.tape,h.output,Bg h.size (by simp),fun q hq hn=>(AN _ (aD g i) _ q (by show q≠g;omega)).trans (h.keep q hq hn),(AN _ (aD g i) _ R (by show R≠g;omega)).trans h.box⟩
end
section
open Go.Lib
theorem gU {α:Type}(A:List α)(z x:α)(n:Nat):(A++List.replicate (n+1) z).set A.length x=A++x::List.replicate n z:=by
 rw[List.set_append_right _ _ lE,Is]
 rfl
theorem gV (C:Array Value)(k:Nat)(x y:Value):(C.setIfInBounds k x).setIfInBounds k y=C.setIfInBounds k y:=by
 apply Array.ext'
 simp
theorem Ug (R n:Nat)(l:List UInt8)(W:World)(hb:W.heap[R]?=some (.cells #[.string (Ai (l))] 180))(hn:n<=l.length)(hn9:n<=1000)(hm:l.length<=4096):Cl 229 #[pZ R,iI (n:Int)] W fun r W'=>r=.returned (lZ W.heap.size n n)/\A6 W W' R (l.drop n)/\W'.heap[W.heap.size]?=some (.cells (Ae ((l.take n).map Bu)).toArray 3):=by
 have hR:R<W.heap.size:=(AA hb);have ak:∀W,(Instr.makeSlice 29 (iI (n:Int)) (iI (n:Int))).run prog W=.ok (lZ W.heap.size n n) (W.alloc (.cells (Ae ((l.take 0).map Bu)++List.replicate (n-0) (iI 0)).toArray 3)):=fun W=>by
  have:=Tp n hn9 W;have e:(Ae ((l.take 0).map Bu)++List.replicate (n-0) (iI 0)).toArray=((List.replicate n (0:Int)).map (Value.int .i64)).toArray:=by simp[Ae]
  rw[e];exact this
 have H0:Hd (A6 W (W.alloc (.cells (Ae ((l.take 0).map Bu)++List.replicate (n-0) (iI 0)).toArray 3)) R (l.drop 0)/\(W.alloc (.cells (Ae ((l.take 0).map Bu)++List.replicate (n-0) (iI 0)).toArray 3)).heap[W.heap.size]?=some (.cells (Ae ((l.take 0).map Bu)++List.replicate (n-0) (iI 0)).toArray 3)):=⟨(A6.refl hb).alloc _,Aw _ _⟩;obtain⟨C0,ab⟩:=nM ((Ae ((l.take 0).map Bu)++List.replicate (n-0) (iI 0)).toArray);rw[ab]at ak;have ae:Hd ((Ae ((l.take 0).map Bu)++List.replicate (n-0) (iI 0)).toArray=C0):=ab;clear hb ab
 go_enter func229,ntmps229
 go_wp2_with fail;clear ak
 go_loopw [6,11] (fun _ i wr=>∃k:Nat,k<=n/\i=iI k/\Hd (A6 W wr R (l.drop k)/\wr.heap[W.heap.size]?=some (.cells (Ae ((l.take k).map Bu)++List.replicate (n-k) (iI 0)).toArray 3))) (fun _ i _=>n-(RowKit.intOf i).toNat)
 case atStart=>exact⟨0,A7 _,rfl,by have h0:=H0.o;rw[ae.o]at h0;rw[ae.o];exact h0⟩
 case round=>
  obtain⟨k,hk,rfl,HC⟩:=hrel
  by_cases hlk:k<n
  ·have an:(k:Int)<(n:Int):=oM;have hkl:k<l.length:=oM;have aa:=Lt hkl;obtain⟨a,ha⟩:=nM (l[k]);have aj:Hd ((l.take (k+1)).map Bu=(l.take k).map Bu++[Bu a]):=by
    show _=_
    rw[show l.take (k+1)=l.take k++[l[k]] from (Hg hkl).symm,DQ,ha]
    rfl
   rw[ha]at aa;have hT:=HC.o.1;rw[aa]at hT;have hg:=HC.o.2;have af:Hd (Cl 204 #[pZ R] wr fun r W'=>r=.returned (iI (a.toNat:Int))/\W'=wr.setCell (aZ R) (.string (Ai (l.drop (k+1))))):=IL R a (l.drop (k+1)) wr hT.box (by rw[CZ];omega);have HT:Hd (A6 W wr R (a::l.drop (k+1))/\wr.heap[W.heap.size]?=some (.cells (Ae ((l.take k).map Bu)++List.replicate (n-k) (iI 0)).toArray 3)):=⟨hT,hg⟩;have hsz:=hT.size;have ad:¬W.heap.size=R:=oM;have ap:¬R=W.heap.size:=oM;have hlen:(Ae ((l.take k).map Bu)).length=k:=by rw[ER,BH,BI];omega
   have ac:((Ae ((l.take k).map Bu)++List.replicate (n-k) (iI 0)).toArray)[k]?=some (iI 0):=by
    rw[List.getElem?_toArray,OJ oM,hlen,Is,OK,Ab oM]
   have al:∀v,(Ae ((l.take k).map Bu)++List.replicate (n-k) (iI 0)).set k v=Ae ((l.take k).map Bu)++v::List.replicate (n-(k+1)) (iI 0):=fun v=>by
    rw[show n-k=n-(k+1)+1 by omega];have:=gU (Ae ((l.take k).map Bu)) (iI 0) v (n-(k+1));rw[hlen]at this;exact this
   obtain⟨C,hC⟩:=nM ((Ae ((l.take k).map Bu)++List.replicate (n-k) (iI 0)).toArray);have ag:Hd (∀v,C.setIfInBounds k v=(Ae ((l.take k).map Bu)++v::List.replicate (n-(k+1)) (iI 0)).toArray):=fun v=>by rw[<-hC,DR,al]
   rw[hC]at hg ac HT;have ck:wr.cell? (aD W.heap.size k)=some (iI 0):=by simp[World.cell?,hg,ac]
   have fk:wr.frozen? (aD W.heap.size k)=false:=Aq hg k;have ao:∀v,(wr.setCell (aZ R) v).cell? (aD W.heap.size k)=some (iI 0):=fun v=>(Rz (a:=(aD W.heap.size k)) (AN _ (aZ R) v W.heap.size ad)).trans ck
   clear hT aa ha al hC hlen ac hg HC;have ai:∀x:Int,Bu a=x->Hd (A6 W (((wr.setCell (aZ R) (.string (Ai (l.drop (k+1))))).setCell (aD W.heap.size k) (iI x))) R (l.drop (k+1))/\((wr.setCell (aZ R) (.string (Ai (l.drop (k+1))))).setCell (aD W.heap.size k) (iI x)).heap[W.heap.size]?=some (.cells (Ae ((l.take (k+1)).map Bu)++List.replicate (n-(k+1)) (iI 0)).toArray 3)):=fun x hx=>by
    refine⟨(HT.o.1.set _).other lE hR _,?_⟩;have h1:=Bf ((AN wr (aZ R) (.string (Ai (l.drop (k+1)))) W.heap.size ad).trans HT.o.2) k (iI x);rw[h1,ag.o,aj.o,hx];simp[Ae]
   have ah:Bu a = -1->Hd (A6 W ((((wr.setCell (aZ R) (.string (Ai (l.drop (k+1))))).setCell (aD W.heap.size k) (iI (a.toNat:Int))).setCell (aD W.heap.size k) (iI (-1)))) R (l.drop (k+1))/\(((wr.setCell (aZ R) (.string (Ai (l.drop (k+1))))).setCell (aD W.heap.size k) (iI (a.toNat:Int))).setCell (aD W.heap.size k) (iI (-1))).heap[W.heap.size]?=some (.cells (Ae ((l.take (k+1)).map Bu)++List.replicate (n-(k+1)) (iI 0)).toArray 3)):=fun hx=>by
    refine⟨((HT.o.1.set _).other lE hR _).other lE hR _,?_⟩;have h1:=Bf ((AN wr (aZ R) (.string (Ai (l.drop (k+1)))) W.heap.size ad).trans HT.o.2) k (iI (a.toNat:Int));have h2:=Bf h1 k (iI (-1));rw[h2,gV,ag.o,aj.o,hx];simp[Ae]
   have HE:Hd ((∀x:Int,Bu a=x->Hd (A6 W (((wr.setCell (aZ R) (.string (Ai (l.drop (k+1))))).setCell (aD W.heap.size k) (iI x))) R (l.drop (k+1))/\((wr.setCell (aZ R) (.string (Ai (l.drop (k+1))))).setCell (aD W.heap.size k) (iI x)).heap[W.heap.size]?=some (.cells (Ae ((l.take (k+1)).map Bu)++List.replicate (n-(k+1)) (iI 0)).toArray 3)))):=ai;have am:Hd (Bu a = -1->Hd (A6 W ((((wr.setCell (aZ R) (.string (Ai (l.drop (k+1))))).setCell (aD W.heap.size k) (iI (a.toNat:Int))).setCell (aD W.heap.size k) (iI (-1)))) R (l.drop (k+1))/\(((wr.setCell (aZ R) (.string (Ai (l.drop (k+1))))).setCell (aD W.heap.size k) (iI (a.toNat:Int))).setCell (aD W.heap.size k) (iI (-1))).heap[W.heap.size]?=some (.cells (Ae ((l.take (k+1)).map Bu)++List.replicate (n-(k+1)) (iI 0)).toArray 3))):=ah;clear ai ah;rcases OB ((a.toNat:Int) == 255) with h5|h5
   ·have HF:Hd (Bu a = -1):=by show Bu a = -1;unfold Bu;rw[Ab (by have:=DH.1 h5;omega)]
    go_wp2_with(go_at_call 204;refine af.o.mono ?_;rintro e9 w9 ⟨rfl,hw⟩;rw[hw];clear hw);go_roundw
    case rel=>exact⟨k+1,oM,by go_num,am.o HF.o⟩
    case measure=>simp[RowKit.intOf];omega
   ·have HF:Hd (Bu a=(a.toNat:Int)):=by show Bu a=_;unfold Bu;rw[Aa (by have:=FA.1 h5;omega)]
    go_wp2_with(go_at_call 204;refine af.o.mono ?_;rintro e9 w9 ⟨rfl,hw⟩;rw[hw];clear hw);go_roundw
    case rel=>exact⟨k+1,oM,by go_num,HE.o _ HF.o⟩
    case measure=>simp[RowKit.intOf];omega
  ·have an:¬(k:Int)<(n:Int):=oM;have HE:Hd (A6 W wr R (l.drop n)/\wr.heap[W.heap.size]?=some (.cells (Ae ((l.take n).map Bu)).toArray 3)):=by
    have ek:k=n:=oM;subst ek;refine⟨HC.o.1,?_⟩;have:=HC.o.2;rw[Is]at this
    simpa using this
   clear HC;go_wp2_with fail;go_ret;exact⟨rfl,HE.o.1,by rw[<-List.map_take];exact HE.o.2⟩
end
section
open Go.Lib
theorem A9 {p:Prop}(h:p):Hd p:=h
theorem QK {xs:List Int}(hB:B<=g)(hm:xs.length<=4096)(h:W.heap[g]?=some (.cells (Ae xs).toArray 3)):W.ownsRow B 3 1 (lZ g xs.length xs.length) xs.length (Ae xs):=
 ⟨by rw[ER,OV],.inr ⟨g,xs.length,_,rfl,hB,h,Bc _,by unfold maxLen;omega,by simp[ER],by rw[OV];exact DF (by rw[ER];exact Bc _)⟩⟩
theorem gi (hB:B<=g)(h4:4<=l.length)(h:W.heap[g]?=some (.cells (Ae ((l.take 4).map Bu)).toArray 3)):W.ownsRow B 3 1 (lZ g 4 4) ((l.take 4).map Bu).length (Ae ((l.take 4).map Bu)):=by
 have e:((l.take 4).map Bu).length=4:=by rw[BH,BI];omega
 have:=QK hB oM h;rw[e]at this ⊢;exact this
theorem gn (R:Nat)(a:UInt8)(l:List UInt8)(W:World)(hb:W.heap[R]?=some (.cells #[.string (Ai (a::l))] 180))(hm:l.length<4096)(ha:a.toNat=0):Cl 205 #[pZ R] W fun r W'=>∃tv,r=.returned (.agg #[iI 0,.string ⟨#[]⟩,tv])/\A6 W W' R (l)/\W'.ownsRow W.heap.size 3 1 tv ([]:List Int).length (Ae ([]:List Int)):=by
 have hR:R<W.heap.size:=(AA hb);have ac:(W.alloc zS).heap[R]?=some (.cells #[.string (Ai (a::l))] 180):=Aj hb _;have mz:(W.alloc zS).heap[W.heap.size]?=some zS:=Aw _ _;have ad:¬W.heap.size=R:=oM;have af:¬R=W.heap.size:=oM;have ab:Hd (Cl 204 #[pZ R] (W.alloc zS) fun r W'=>r=.returned (iI (a.toNat:Int))/\W'=(W.alloc zS).setCell (aZ R) (.string (Ai l))):=IL R a l (W.alloc zS) ac oM;obtain⟨w1,aa⟩:=nM ((W.alloc zS).setCell (aZ R) (.string (Ai l)));have T1:A6 W w1 R l:=by rw[<-aa];exact((A6.refl hb).alloc _).set l
 have z1:w1.heap[W.heap.size]?=some zS:=by rw[<-aa];exact(AN _ (aZ R) _ _ ad).trans mz
 rw[aa]at ab;have h0:((a.toNat:Int) == 0)=true:=by rw[ha];rfl
 obtain⟨z0,ae,z2⟩:=BO z1;have y0:=Aq z1;have HT:Hd (A6 W w1 R l):=T1;clear hb ac mz aa T1 z1 ha
 go_enter func205,ntmps205
 go_wp2_with(go_at_call 204;refine ab.o.mono ?_;rintro e9 w9 ⟨rfl,hw⟩;rw[hw];clear hw);refine AY (v:=.agg #[iI 0,.string ⟨#[]⟩,nl]) (by simp[results,results205,go_sem,z0,ae,z2]) rfl ?_;exact⟨_,rfl,((HT.o.other lE hR _).other lE hR _).other lE hR _,DG _ _ _ _⟩
theorem gp (R:Nat)(a:UInt8)(l:List UInt8)(W:World)(hb:W.heap[R]?=some (.cells #[.string (Ai (a::l))] 180))(hm:l.length<4096)(ha:a.toNat=1)(h4:4<=l.length):Cl 205 #[pZ R] W fun r W'=>∃tv,r=.returned (.agg #[iI 1,.string (Ai (l.take 4)),tv])/\A6 W W' R (l.drop 4)/\W'.ownsRow W.heap.size 3 1 tv ([]:List Int).length (Ae ([]:List Int)):=by
 have hR:R<W.heap.size:=(AA hb);have ae:(W.alloc zS).heap[R]?=some (.cells #[.string (Ai (a::l))] 180):=Aj hb _;have mz:(W.alloc zS).heap[W.heap.size]?=some zS:=Aw _ _;have af:¬W.heap.size=R:=oM;have ah:¬R=W.heap.size:=oM;have ac:Hd (Cl 204 #[pZ R] (W.alloc zS) fun r W'=>r=.returned (iI (a.toNat:Int))/\W'=(W.alloc zS).setCell (aZ R) (.string (Ai l))):=IL R a l (W.alloc zS) ae oM;obtain⟨w1,aa⟩:=nM ((W.alloc zS).setCell (aZ R) (.string (Ai l)));have T1:A6 W w1 R l:=by rw[<-aa];exact((A6.refl hb).alloc _).set l
 have z1:w1.heap[W.heap.size]?=some zS:=by rw[<-aa];exact(AN _ (aZ R) _ _ af).trans mz
 rw[aa]at ac;have h0:((a.toNat:Int) == 0)=false:=by rw[ha];rfl
 have h1:((a.toNat:Int) == 1)=true:=by rw[ha];rfl
 have ad:Hd (Cl 228 #[pZ R,iI 4] w1 fun r W'=>r=.returned (.string (Ai (l.take 4)))/\W'=w1.setCell (aZ R) (.string (Ai (l.drop 4)))):=QM R 4 l w1 T1.box h4 oM;obtain⟨w2,ab⟩:=nM (w1.setCell (aZ R) (.string (Ai (l.drop 4))));have HT:Hd (A6 W w2 R (l.drop 4)):=by rw[<-ab];exact T1.set _
 have z1:w2.heap[W.heap.size]?=some zS:=by rw[<-ab];exact(AN _ (aZ R) _ _ af).trans z1
 rw[ab]at ad;obtain⟨z0,ag,z2⟩:=BO z1;have y0:=Aq z1;clear hb ae mz aa T1 z1 ha ab
 go_enter func205,ntmps205
 go_wp2_with(first|(go_at_call 228;refine ad.o.mono ?_;rintro e9 w9 ⟨rfl,hw⟩;rw[hw];clear hw)|(go_at_call 204;refine ac.o.mono ?_;rintro e9 w9 ⟨rfl,hw⟩;rw[hw];clear hw));refine AY (v:=.agg #[iI 1,.string (Ai (l.take 4)),nl]) (by simp[results,results205,go_sem,z0,ag,z2]) rfl ?_;exact⟨_,rfl,((HT.o.other lE hR _).other lE hR _).other lE hR _,DG _ _ _ _⟩
theorem gq (R:Nat)(a:UInt8)(l:List UInt8)(W:World)(hb:W.heap[R]?=some (.cells #[.string (Ai (a::l))] 180))(hm:l.length<4096)(ha:a.toNat=2)(h4:4<=l.length):Cl 205 #[pZ R] W fun r W'=>∃tv,r=.returned (.agg #[iI 2,.string ⟨#[]⟩,tv])/\A6 W W' R (l.drop 4)/\W'.ownsRow W.heap.size 3 1 tv ((l.take 4).map Bu).length (Ae ((l.take 4).map Bu)):=by
 have hR:R<W.heap.size:=(AA hb);have ae:(W.alloc zS).heap[R]?=some (.cells #[.string (Ai (a::l))] 180):=Aj hb _;have mz:(W.alloc zS).heap[W.heap.size]?=some zS:=Aw _ _;have af:¬W.heap.size=R:=oM;have ai:¬R=W.heap.size:=oM;have ad:Hd (Cl 204 #[pZ R] (W.alloc zS) fun r W'=>r=.returned (iI (a.toNat:Int))/\W'=(W.alloc zS).setCell (aZ R) (.string (Ai l))):=IL R a l (W.alloc zS) ae oM;obtain⟨w1,ac⟩:=nM ((W.alloc zS).setCell (aZ R) (.string (Ai l)));have T1:A6 W w1 R l:=by rw[<-ac];exact((A6.refl hb).alloc _).set l
 have z1:w1.heap[W.heap.size]?=some zS:=by rw[<-ac];exact(AN _ (aZ R) _ _ af).trans mz
 rw[ac]at ad;have h0:((a.toNat:Int) == 0)=false:=by rw[ha];rfl
 have h1:((a.toNat:Int) == 1)=false:=by rw[ha];rfl
 have h2:((a.toNat:Int) == 2)=true:=by rw[ha];rfl
 have ag:Hd (Cl 229 #[pZ R,iI 4] w1 fun r W'=>r=.returned (lZ w1.heap.size 4 4)/\A6 w1 W' R (l.drop 4)/\W'.heap[w1.heap.size]?=some (.cells (Ae ((l.take 4).map Bu)).toArray 3)):=Ug R 4 l w1 T1.box h4 oM oM;have ab:Hd (A6 W w1 R l/\w1.heap[W.heap.size]?=some zS):=⟨T1,z1⟩;clear hb ae mz ac T1 z1 ha
 go_enter func205,ntmps205
 go_wp2_with(first|(go_at_call 229;refine ag.o.mono ?_;rintro e9 w9 ⟨rfl,T9,g9⟩;have z1:=(T9.keep W.heap.size ((B6.1 ab.o.2).1) af).trans ab.o.2;obtain⟨z0,ah,z2⟩:=BO z1;have y0:=Aq z1;have HT:=A9 (AW (ab.o.1.trans T9) g9);clear z1 T9 g9)|(go_at_call 204;refine ad.o.mono ?_;rintro e9 w9 ⟨rfl,hw⟩;rw[hw];clear hw));refine AY (v:=.agg #[iI 2,.string ⟨#[]⟩,lZ w1.heap.size 4 4]) (by simp[results,results205,go_sem,z0,ah,z2]) rfl ?_;have aa:W.heap.size<w1.heap.size:=(B6.1 ab.o.2).1;refine⟨_,rfl,((HT.o.1.other lE hR _).other lE hR _).other lE hR _,gi oM h4 ?_⟩;exact(AN _ (aD W.heap.size 2) _ _ (Kk aa)).trans ((AN _ (aD W.heap.size 1) _ _ (Kk aa)).trans ((AN _ (aZ W.heap.size) _ _ (Kk aa)).trans HT.o.2))
theorem gt {L:List UInt8}{s:An}{r:List UInt8}(hb:W.heap[R]?=some (.cells #[.string (Ai (L))] 180))(hm:L.length<=4096)(hp:Ez L=some (s,r)):Cl 205 #[pZ R] W fun e W'=>∃tv,e=.returned (.agg #[iI s.1,.string s.2.1,tv])/\A6 W W' R r/\W'.ownsRow W.heap.size 3 1 tv s.2.2.length (Ae s.2.2):=by
 obtain⟨q,h1,h2⟩:=Fk hp
 cases L with
 | nil=>simp[DL]at h1
 | cons a l=>
  have h1:(a.toNat,l)=q:=by simpa[DL] using h1
  subst h1;have hm:l.length<4096:=by simp at hm;omega
  unfold Ma at h2;dsimp only at h2
  split at h2
  ·rename_i ha
   have h2:(((0:Int),(⟨#[]⟩:ByteArray),([]:List Int)),l)=(s,r):=by simpa using h2
   cases h2
   exact gn R a _ W hb hm ha
  ·split at h2
   ·rename_i ha
    obtain⟨t,h3,h4⟩:=Jm h2;unfold II at h3
    split at h3
    ·rename_i hl
     have h3:(l.take 4,l.drop 4)=t:=by simpa using h3
     subst h3
     cases h4
     exact gp R a _ W hb hm ha hl
    ·simp at h3
   ·split at h2
    ·rename_i ha
     obtain⟨t,h3,h4⟩:=Jm h2;unfold FN at h3
     split at h3
     ·rename_i hl
      have h3:((l.take 4).map Bu,l.drop 4)=t:=by simpa using h3
      subst h3
      cases h4
      exact gq R a _ W hb hm ha hl
     ·simp at h3
    ·simp at h2
end
section
open Go.Lib
theorem UF (R g n:Nat)(l:List UInt8)(W:World)(hb:W.heap[R]?=some (.cells #[.string (Ai (l))] 180))(hg:g<=255)(hgn:(g+3)/4=n)(hn:n<=l.length)(hm:l.length<=4096):Cl 207 #[pZ R,iI (g:Int)] W fun r W'=>r=.returned (lZ W.heap.size n n)/\A6 W W' R (l.drop n)/\W'.heap[W.heap.size]?=some (.cells (Ae ((l.take n).map Bu)).toArray 3):=by
 have hE:=Ug R n l W hb hn oM hm;have ea:((n:Nat):Int)=((g:Int)+4-1)/4:=oM;rw[ea]at hE;have HE:=A9 hE;clear hE ea hgn hb
 go_enter func207,ntmps207
 go_wp2_with(go_at_call 229;refine HE.o.mono ?_;rintro e w1 ⟨rfl,T1,g1⟩;have HT:=A9 (AW T1 g1);clear T1 g1);go_ret;exact⟨rfl,HT.o.1,HT.o.2⟩
end
section
open Go.Lib
theorem V1 (W:World)(ty:TypeId)(ao:Option Addr)(n cap:Nat)(h:n<=cap):(Builtin.append_ #[82,82] ty #[.slice ao n cap,nl]).run prog W=.ok (.slice ao n cap) W:=by
 obtain⟨i0,hi,hz0,aa,ab⟩:=Fj NB
 cases ao<;>simp[Builtin.append_,Kn underlying82,sizeOf,typeInfo,hi,h,storeCells,Builtin.lenOf,Builtin.firstCells,loadCells]
theorem Rj {ops:Array Oper}{rest:List Oper}{o:Oper}{a:Act}{Q:Exit->Act->World->Prop}(hgd:o.guard=none)(s x:Operand)(ho:o.op=.call {callee:=.builtin .append,args:=#[s,x],argTypes:=#[82,82]}){B':Nat}{u:Value}{xs ys:List UInt8}(hs:a.eval s=v)(hx:a.eval x=u)(hu:W.ownsRow B' 5 1 u k (CS ys))(hown:W.ownsRow B 5 1 v n (CS xs))(hn:n+k<=100000)(hB:B<=W.heap.size)(h:∀v' w',Hd (w'.ownsRow B 5 1 v' (n+k) (CS (xs++ys)))->Hd (W.grownBy w' v.ownBlock)->wpList prog ops Q rest (a.put o.dst v') w'):wpList prog ops Q (o::rest) a W:=by
 obtain⟨i0,hi,hz0,ab,ac⟩:=Fj NB;refine JN hgd fun _ hK=>?_
 rcases hu.2 with⟨e,hk⟩|⟨g,cap,cur,e,_⟩
 ·subst e hk;have hy:ys=[]:=by have:=hu.1;rw[Wc]at this;exact Iq.1 oM
  subst hy;obtain⟨ao,cap,rfl,hc⟩:∃ao cap,v=.slice ao n cap/\n<=cap:=by
   rcases Di hown with⟨e,e2⟩|⟨g,cap,e,_,_,h4,_⟩
   ·exact⟨none,0,by rw[e,e2],oM⟩
   ·exact⟨_,cap,e,h4⟩
  unfold Oper.wp execOp;simp only[ho,resolve,invoke,builtin,Sem.run_bind,Sem.run_pure,GS,GQ,Dc,Gr,hs,hx,V1 W o.type ao n cap hc];exact hK _ _ (h _ W (by rw[JA];exact hown) ⟨rfl,rfl,rfl,Bc _,fun _ _ _=>rfl⟩)
 ·subst e;obtain⟨v',w',hr,g2,g3,_,g5⟩:=run_append_own_at (P:=prog) W B 82 o.type 5 i0 (.int .u8 0) 1 1 underlying82 hi hz0 ab ac rfl dE v n (CS xs) hown (aZ g) k cap (CS ys) hu.1 (fun j u hj=>hu.cells (g:=g) rfl j u hj) (by intro u aa;unfold CS at aa;obtain⟨b,_,rfl⟩:=Fh.1 aa;rfl) (by unfold maxLen;omega) oM hB;unfold Oper.wp execOp;simp only[ho,resolve,invoke,builtin,Sem.run_bind,Sem.run_pure,GS,GQ,Dc,Gr,hs,hx,hr];exact hK _ _ (h v' w' (by rw[Pe];exact g2) g3)
structure Iv (w wr:World) (v:Value) (l:List UInt8):Prop where
 row:wr.ownsRow w.heap.size 5 1 v l.length (CS l)
 bel:Bw w wr
theorem We (na:Option Addr)(nc:Nat)(xs:List Int)(w:World)(hx:Sl w (.slice na xs.length nc) xs)(hl:xs.length<=50000):Cl 64 #[.slice na xs.length nc] w fun r w'=>∃va,r=.returned va/\Iv w w' va (xs.map Am):=by
 have HX:Hd (Sl w (.slice na xs.length nc) xs):=hx;have H0:Hd (Iv w w (nl) ((xs.take 0).map Am)):=⟨DG _ _ _ _,AG _ _⟩;clear hx
 go_enter func64,ntmps64
 go_wp2_with fail
 go_loopw [3,4] (fun o i wr=>∃k pa pc,k<=xs.length/\i=iI (k:Int)/\o=.slice pa k pc/\Hd (Iv w wr (.slice pa k pc) ((xs.take k).map Am))) (fun _ i _=>xs.length-(RowKit.intOf i).toNat)
 case atStart=>exact⟨0,none,0,A7 _,rfl,rfl,H0⟩
 case round=>
  obtain⟨k,pa,pc,hk,rfl,rfl,HC⟩:=hrel
  by_cases hlk:k<xs.length
  ·have ah:(k:Int)<(xs.length:Int):=oM;obtain⟨b,off,aj,e0,_,af,aa⟩:=HX.o.open oM;simp only[BP]at e0;obtain⟨rfl,_,rfl⟩:=e0;have cp:=(HC.o.bel.cell (p:=(aD b (off+k))) af).trans (aa k hlk);obtain⟨e,ae⟩:=nM (xs.getD k 0);rw[ae]at cp;have ac:xs[k]=e:=by rw[<-ae];simp[List.getD,hlk]
   have HT:Hd ((xs.take (k+1)).map Am=(xs.take k).map Am++[Am e]):=by
    show _=_
    rw[show xs.take (k+1)=xs.take k++[xs[k]] from (Hg hlk).symm,DQ,ac]
    rfl
   obtain⟨L,hL⟩:=nM ((xs.take k).map Am);rw[hL]at HC HT;have ad:L.length=k:=by rw[<-hL,BH,BI];omega
   have ab:=HC.o.row;rw[ad]at ab;have hsz:=HC.o.bel.size;have ag:Hd (L.length=k):=ad;clear aa ae ac hL af ad;go_wp2_with(at_builtin;refine Ln (by rfl) _ _ (by rfl) (W:=wr) (B:=w.heap.size) (n:=k) (v:=.slice pa k pc) (xs:=L) (Am e) (by first|rfl|exact(Kz e).symm|(rw[Kz];done)|(rw[Kz];rfl)) (by rfl) (N:=wr.heap.size) (by rfl) (by rfl) ab oM oM ?_;intro v8 w8 g1 g2;obtain⟨ga,gc,ai⟩:=B0 g1.o;subst ai);have HN:Hd (Iv w w8 (.slice ga (k+1) gc) ((xs.take (k+1)).map Am)):=by
    rw[HT.o];refine⟨by rw[Bl,ag.o];exact g1.o,?_⟩;exact(HC.o.bel.alloc HC.o.bel.size _).grown g2.o (by simp;omega) (fun q e=>(ab.lt q e).1)
   go_roundw
   case rel=>exact⟨k+1,ga,gc,oM,by go_num,rfl,HN⟩
   case measure=>simp[RowKit.intOf];omega
  ·have ah:¬(k:Int)<(xs.length:Int):=oM;have HR:Hd (Iv w wr (.slice pa k pc) (xs.map Am)):=by
    have e:k=xs.length:=oM;have h9:=HC.o;rw[show xs.take k=xs by rw[e,Fz]]at h9;exact h9
   clear HC;go_wp2_with fail;go_ret;exact⟨.slice pa k pc,rfl,HR.o⟩
theorem Pf {xs:List Int}(hx:Sl w v xs)(hl:xs.length<=50000):Cl 64 #[v] w fun r w'=>∃va,r=.returned va/\Iv w w' va (xs.map Am):=by
 obtain⟨na,nc,rfl⟩:=hx.form;exact We na nc xs w hx hl
theorem CX {size:Nat}{e:TypeId}{xs:List Value}(h:W.ownsRow B e size v n xs)(hb:∀g,v.ownBlock=some g->W'.heap[g]?=W.heap[g]?):W'.ownsRow B e size v n xs:=by
 refine⟨h.1,?_⟩;rcases h.2 with hn|⟨g,cap,cur,hv,aa,hg,rest⟩
 ·exact .inl hn
 ·exact .inr ⟨g,cap,cur,hv,aa,(hb g (by rw[hv];rfl)).trans hg,rest⟩
structure Dd (w wr:World) (bx:Obj) (v:Value) (l:List UInt8):Prop where
 row:wr.ownsRow (w.heap.size+1) 5 1 v l.length (CS l)
 bel:Bw w wr
 box:wr.heap[w.heap.size]?=some bx
theorem Dd.lt (h:Dd w wr bx v l):w.heap.size<wr.heap.size:=(B6.1 h.box).1
theorem Dd.on {wx:World}(h:Dd w wr bx v l)(hb:Bw wr wx):Dd w wx bx v l:=
 ⟨CX h.row (fun q hq=>hb.block q (h.row.lt q hq).2),h.bel.trans (hb.mono h.bel.size),(hb.block _ h.lt).trans h.box⟩
theorem Dd.grow {wx:World}{v':Value}{l':List UInt8}(h:Dd w wr bx v l)(hn:l'.length=n)(g1:wx.ownsRow (w.heap.size+1) 5 1 v' n (CS l'))(g2:wr.grownBy wx v.ownBlock):Dd w wx bx v' l':=by
 subst hn;have hne:some w.heap.size≠v.ownBlock:=fun e=>by have:=(h.row.lt _ e.symm).1;omega
 exact⟨g1,h.bel.grown g2 h.bel.size (fun q e=>by have:=(h.row.lt _ e).1;omega),(g2.block _ h.lt hne).trans h.box⟩
end
section
open Go.Lib
theorem gu (R n:Nat)(a b:UInt8)(l1 l3:List UInt8)(W:World)(hb:W.heap[R]?=some (.cells #[.string (Ai (a::l1))] 180))(hm:l1.length<4096)(ha:a.toNat<=l1.length)(hd:l1.drop a.toNat=b::l3)(hgn:(b.toNat+3)/4=n)(hn:n<=l3.length):Cl 206 #[pZ R] W fun r W'=>∃tv,r=.returned (.agg #[.string (Ai (l1.take a.toNat)),iI (b.toNat:Int),tv])/\A6 W W' R (l3.drop n)/\W'.ownsRow W.heap.size 3 1 tv n (Ae ((l3.take n).map Bu)):=by
 have hR:R<W.heap.size:=(AA hb);have an:(W.alloc zP).heap[R]?=some (.cells #[.string (Ai (a::l1))] 180):=Aj hb _;have mz:(W.alloc zP).heap[W.heap.size]?=some zP:=Aw _ _;have ag:¬W.heap.size=R:=oM;have az:¬R=W.heap.size:=oM;have ak:Hd (Cl 204 #[pZ R] (W.alloc zP) fun r W'=>r=.returned (iI (a.toNat:Int))/\W'=(W.alloc zP).setCell (aZ R) (.string (Ai l1))):=IL R a l1 (W.alloc zP) an hm;obtain⟨w1,ae⟩:=nM ((W.alloc zP).setCell (aZ R) (.string (Ai l1)));have T1:A6 W w1 R l1:=by rw[<-ae];exact((A6.refl hb).alloc _).set l1
 have z1:w1.heap[W.heap.size]?=some zP:=by rw[<-ae];exact(AN _ (aZ R) _ _ ag).trans mz
 rw[ae]at ak;clear hb an mz ae;have am:Hd (Cl 228 #[pZ R,iI (a.toNat:Int)] w1 fun r W'=>r=.returned (.string (Ai (l1.take a.toNat)))/\W'=w1.setCell (aZ R) (.string (Ai (l1.drop a.toNat)))):=QM R a.toNat l1 w1 T1.box ha oM;obtain⟨w2,af⟩:=nM (w1.setCell (aZ R) (.string (Ai (l1.drop a.toNat))));have T2:A6 W w2 R (l1.drop a.toNat):=by rw[<-af];exact T1.set _
 have z2:w2.heap[W.heap.size]?=some zP:=by rw[<-af];exact(AN _ (aZ R) _ _ ag).trans z1
 rw[af]at am;clear T1 z1 af;rw[hd]at T2;have ax:W.heap.size<w2.heap.size:=(AA z2);have ai:A6 W (w2.alloc (.cells #[.string (Ai (l1.take a.toNat)),iI 0,nl] 87)) R (b::l3):=T2.alloc _;have aq:(w2.alloc (.cells #[.string (Ai (l1.take a.toNat)),iI 0,nl] 87)).heap[W.heap.size]?=some zP:=Aj z2 _;have ap:(w2.alloc (.cells #[.string (Ai (l1.take a.toNat)),iI 0,nl] 87)).heap[w2.heap.size]?=some (.cells #[.string (Ai (l1.take a.toNat)),iI 0,nl] 87):=Aw _ _;have ao:l3.length<4096:=by have:=congrArg List.length hd;rw[CZ]at this;simp at this;omega
 have al:Hd (Cl 204 #[pZ R] (w2.alloc (.cells #[.string (Ai (l1.take a.toNat)),iI 0,nl] 87)) fun r W'=>r=.returned (iI (b.toNat:Int))/\W'=(w2.alloc (.cells #[.string (Ai (l1.take a.toNat)),iI 0,nl] 87)).setCell (aZ R) (.string (Ai l3))):=IL R b l3 (w2.alloc (.cells #[.string (Ai (l1.take a.toNat)),iI 0,nl] 87)) ai.box ao;obtain⟨w3,ab⟩:=nM ((w2.alloc (.cells #[.string (Ai (l1.take a.toNat)),iI 0,nl] 87)).setCell (aZ R) (.string (Ai l3)));have ns:¬w2.heap.size=R:=oM;have T3:A6 W w3 R l3:=by rw[<-ab];exact ai.set _
 have z3:w3.heap[W.heap.size]?=some zP:=by rw[<-ab];exact(AN _ (aZ R) _ _ ag).trans aq
 have s3:w3.heap[w2.heap.size]?=some (.cells #[.string (Ai (l1.take a.toNat)),iI 0,nl] 87):=by rw[<-ab];exact(AN _ (aZ R) _ _ ns).trans ap
 rw[ab]at al;clear ab T2 z2 ai aq ap hd;obtain⟨p0,p1,p2⟩:=BO s3;have o1:=Aq s3 1;obtain⟨w4,ac⟩:=nM (w3.setCell (aD w2.heap.size 1) (iI (b.toNat:Int)));have T4:A6 W w4 R l3:=by rw[<-ac];exact T3.other oM hR _
 have z4:w4.heap[W.heap.size]?=some zP:=by rw[<-ac];exact(AN _ (aD w2.heap.size 1) _ _ (by show W.heap.size≠w2.heap.size;omega)).trans z3
 have s4:w4.heap[w2.heap.size]?=some (.cells #[.string (Ai (l1.take a.toNat)),iI (b.toNat:Int),nl] 87):=by rw[<-ac];exact Bf s3 1 _
 have au:Hd (w3.setCell (aD w2.heap.size 1) (iI (b.toNat:Int))=w4):=ac;clear ac T3 z3 s3;have aa:b.toNat<=255:=by have:=b.toNat_lt;omega
 have ar:Hd (Cl 207 #[pZ R,iI (b.toNat:Int)] w4 fun r W'=>r=.returned (lZ w4.heap.size n n)/\A6 w4 W' R (l3.drop n)/\W'.heap[w4.heap.size]?=some (.cells (Ae ((l3.take n).map Bu)).toArray 3)):=UF R b.toNat n l3 w4 T4.box aa hgn hn oM;obtain⟨r0,r1,r2⟩:=BO s4;have ad:Hd (A6 W w4 R l3/\w4.heap[W.heap.size]?=some zP/\w4.heap[w2.heap.size]?=some (.cells #[.string (Ai (l1.take a.toNat)),iI (b.toNat:Int),nl] 87)):=⟨T4,z4,s4⟩;have ay:n<=1000:=oM;have Hn:Hd (n<=l3.length):=hn;clear T4 z4 s4 hgn hn ha hm ao
 go_enter func206,ntmps206
 go_wp2_with fail;refine ak.o.mono ?_;rintro e1 x1 ⟨rfl,hw⟩;rw[hw];clear hw;go_wp2_with fail;refine am.o.mono ?_;rintro e2 x2 ⟨rfl,hw⟩;rw[hw];clear hw;go_wp2_with fail;refine al.o.mono ?_;rintro e3 x3 ⟨rfl,hw⟩;rw[hw];clear hw;go_upto_region 3 with fail;rw[au.o];clear p0 p1 p2 o1;go_wp2_with fail;refine ar.o.mono ?_;rintro e4 w5 ⟨rfl,T5,g5⟩;clear r0 r1 r2;have q4:=(B6.1 ad.o.2.2).1;have z5:=(T5.keep W.heap.size oM ag).trans ad.o.2.1;have s5:=(T5.keep w2.heap.size q4 ns).trans ad.o.2.2;obtain⟨r0,r1,r2⟩:=BO s5;have u2:=Aq s5 2;obtain⟨y0,y1,y2⟩:=BO z5;have f0:=Aq z5;have av:¬W.heap.size=w2.heap.size:=oM;have aw:¬w2.heap.size=W.heap.size:=oM;have ah:Hd (A6 W w5 R (l3.drop n)/\w5.heap[w4.heap.size]?=some (.cells (Ae ((l3.take n).map Bu)).toArray 3)/\w2.heap.size<w4.heap.size):=⟨ad.o.1.trans T5,g5,q4⟩;clear T5 g5 z5 s5 q4;go_wp2_with fail;refine AY (v:=.agg #[.string (Ai (l1.take a.toNat)),iI (b.toNat:Int),lZ w4.heap.size n n]) (by simp[results,results206,go_sem,y0,y1,y2,av,aw]) rfl ?_;have hq:=ah.o.2.2;have aj:W.heap.size<w4.heap.size:=oM;refine⟨_,rfl,(((ah.o.1.other oM hR _).other lE hR _).other lE hR _).other lE hR _,?_⟩;have e:((l3.take n).map Bu).length=n:=by rw[BH,BI];have:=Hn.o;omega
 have key:=QK (W:=w5) (B:=W.heap.size) (g:=w4.heap.size) (xs:=(l3.take n).map Bu) oM oM ah.o.2.1;rw[e]at key;exact CX key (fun q hq'=>by
  cases hq'
  exact(AN _ (aD W.heap.size 2) _ _ (Kk aj)).trans ((AN _ (aD W.heap.size 1) _ _ (Kk aj)).trans ((AN _ (aZ W.heap.size) _ _ (Kk aj)).trans (AN _ (aD w2.heap.size 2) _ _ (Kk hq)))))
theorem gw {L:List UInt8}{s:AE}{r:List UInt8}(hb:W.heap[R]?=some (.cells #[.string (Ai (L))] 180))(hm:L.length<=4096)(hp:FO L=some (s,r)):Cl 206 #[pZ R] W fun e W'=>∃tv,e=.returned (.agg #[.string s.1,iI s.2.1,tv])/\A6 W W' R r/\W'.ownsRow W.heap.size 3 1 tv s.2.2.length (Ae s.2.2):=by
 obtain⟨q,h1,h⟩:=Fk hp;obtain⟨t,h2,h⟩:=Fk h;obtain⟨g,h3,h⟩:=Fk h;obtain⟨u,h4,h⟩:=Jm h
 cases L with
 | nil=>simp[DL]at h1
 | cons a l1=>
  have h1:(a.toNat,l1)=q:=by simpa[DL] using h1
  subst h1;have hm:l1.length<4096:=by simp at hm;omega
  unfold II at h2
  split at h2
  ·rename_i ha
   have h2:(l1.take a.toNat,l1.drop a.toNat)=t:=by simpa using h2
   subst h2;dsimp only at h3 ha
   cases hd:l1.drop a.toNat with
   | nil=>rw[hd]at h3;simp[DL]at h3
   | cons b l3=>
    rw[hd]at h3;have h3:(b.toNat,l3)=g:=by simpa[DL] using h3
    subst h3;unfold FN at h4
    split at h4
    ·rename_i hn
     have h4:((l3.take ((b.toNat+3)/4)).map Bu,l3.drop ((b.toNat+3)/4))=u:=by simpa using h4
     subst h4
     cases h
     have key:=gu R _ a b l1 l3 W hb hm ha hd rfl hn;have e:((l3.take ((b.toNat+3)/4)).map Bu).length=(b.toNat+3)/4:=by rw[BH,BI];have:(b.toNat+3)/4<=l3.length:=hn;omega
     refine key.mono fun x W' hx=>?_
     obtain⟨tv,e1,e2,e3⟩:=hx;exact⟨tv,e1,e2,by rw[e];exact e3⟩
    ·simp at h4
  ·simp at h2
end
abbrev e3:Obj:=.cells #[] 3

abbrev CN (m:Ac) (j:Nat):List Int:=(m.s.getD j default).2.2
def Ad (m:Ac) (a:Nm):Prop:=(a.kind<4/\a.ix=0)\/(a.kind=4/\a.ix<m.s.length/\CN m a.ix≠[])\/(a.kind=5/\a.ix<m.p.length)
theorem Ad.cases (h:Ad m a):a=.r\/a=.s\/a=.f\/a=.p\/(∃j,a=.tab j/\j<m.s.length/\CN m j≠[])\/∃j,a=.sr j/\j<m.p.length:=by
 obtain⟨k,j⟩:=a;rcases h with⟨h1,h2⟩|⟨h1,h2⟩|⟨h1,h2⟩
 ·dsimp only at h1 h2;subst h2
  match k,h1 with
  | 0,_=>exact .inl rfl
  | 1,_=>exact .inr (.inl rfl)
  | 2,_=>exact .inr (.inr (.inl rfl))
  | 3,_=>exact .inr (.inr (.inr (.inl rfl)))
 ·dsimp only at h1 h2;subst h1;exact .inr (.inr (.inr (.inr (.inl ⟨j,rfl,h2⟩))))
 ·dsimp only at h1 h2;subst h1;exact .inr (.inr (.inr (.inr (.inr ⟨j,rfl,h2⟩))))
theorem Ad.r (m:Ac):Ad m .r:=.inl ⟨by decide,rfl⟩
theorem Ad.s (m:Ac):Ad m .s:=.inl ⟨by decide,rfl⟩
theorem Ad.f (m:Ac):Ad m .f:=.inl ⟨by decide,rfl⟩
theorem Ad.p (m:Ac):Ad m .p:=.inl ⟨by decide,rfl⟩
theorem Ad.tab (h:j<m.s.length/\CN m j≠[]):Ad m (.tab j):=.inr (.inl ⟨rfl,h⟩)
theorem Ad.sr (h:j<m.p.length):Ad m (.sr j):=.inr (.inr ⟨rfl,h⟩)
theorem Hv (h1:m'.s.length=m.s.length)(h2:m'.p.length=m.p.length)(h3:∀j,CN m' j=[]↔CN m j=[])(b:Nm):Ad m' b↔Ad m b:=by
 unfold Ad;rw[h1,h2,ne_eq,ne_eq,h3]
theorem Ad.live (h:Ad m a):Af m a:=by
 rcases h with h|h|h
 ·exact .inl h
 ·exact .inr (.inl ⟨h.1,h.2.1⟩)
 ·exact .inr (.inr h)
structure OX (W:World) (B:Nat) (val:Nm->Value) (m:Ac):Prop where
 row:∀a,Ad m a->W.ownsRow B (En a) (Em a) (val a) (AP m a) (Bn m val a)
 apart:∀a b,Ad m a->Ad m b->a≠b->∀g,(val a).ownBlock=some g->(val b).ownBlock≠some g
 loose:∀j,j<m.s.length->CN m j=[]->∃ao cap,val (.tab j)=.slice ao 0 cap
theorem OX.keep (h:OX W B val m)(hk:∀g,B<=g->g<W.heap.size->W'.heap[g]?=W.heap[g]?):OX W' B val m:=by
 refine⟨fun a ha=>?_,h.apart,h.loose⟩;have hr:=h.row a ha;refine⟨hr.1,?_⟩;rcases hr.2 with hn|⟨g,cap,cur,hv,hb,hg,rest⟩
 ·exact .inl hn
 ·exact .inr ⟨g,cap,cur,hv,hb,(hk g hb (AA hg)).trans hg,rest⟩
theorem OX.below (h:OX W B val m)(hb:Bw W W'):OX W' B val m:=h.keep fun g _ hg=>hb.block g hg
theorem OX.alloc (h:OX W B val m)(o:Obj):OX (W.alloc o) B val m:=h.below ((AG _ _).alloc lE o)
theorem OX.drew (h:OX W B val m):OX W.drew B val m:=⟨fun a ha=>(h.row a ha).drew,h.apart,h.loose⟩
theorem OX.mono {B':Nat}(h:OX W B val m)(hb:B'<=B):OX W B' val m:=by
 refine⟨fun a ha=>?_,h.apart,h.loose⟩;have hr:=h.row a ha;refine⟨hr.1,?_⟩;rcases hr.2 with hn|⟨g,cap,cur,hv,hg,rest⟩
 ·exact .inl hn
 ·exact .inr ⟨g,cap,cur,hv,Bg hb hg,rest⟩
theorem OX.tabSl (h:OX W B val m)(hj:j<m.s.length):Sl W (val (.tab j)) (CN m j):=by
 by_cases e:CN m j=[]
 ·obtain⟨ao,cap,ev⟩:=h.loose j hj e;rw[ev,e];exact⟨ao,cap,rfl,A7 _,A7 _,fun x=>absurd rfl x⟩
 ·exact CY (h.row (.tab j) (Ad.tab ⟨hj,e⟩))
theorem OX.img (h:OX W B val m):Al W (AB m.g val) m:=
 ⟨_,_,_,_,rfl,CY (h.row .r (Ad.r m)),QL (h.row .s (Ad.s m)) (fun j hj=>h.tabSl hj),CY (h.row .f (Ad.f m)),UD (h.row .p (Ad.p m)) (fun j hj=>CY (h.row (.sr j) (Ad.sr hj)))⟩
theorem OX.store (h:OX W B val m)(ha:Ad m a)(hv:val a=lZ g n cap)(i:Nat)(u:Value)(hlive:∀b,Ad m' b↔Ad m b)(hn:∀b,Ad m b->AP m' b=AP m b)(hsame:∀b,Ad m b->b≠a->Bn m' val b=Bn m val b)(hset:Bn m' val a=(Bn m val a).set i u)(hloose:∀j,j<m'.s.length->CN m' j=[]->j<m.s.length/\CN m j=[]):OX (W.setCell (aD g i) u) B val m':=by
 refine⟨fun b hb=>?_,fun b c hb hc=>h.apart b c ((hlive b).1 hb) ((hlive c).1 hc),fun j hj e=>h.loose j (hloose j hj e).1 (hloose j hj e).2⟩;have hb:=(hlive b).1 hb;rw[hn b hb]
 by_cases e:b=a
 ·subst e;have hr:=h.row b hb;rw[hset];have aa:n=AP m b:=by
   rcases Di hr with⟨e,_⟩|⟨g',cap',e,_⟩
   ·rw[hv]at e;simp at e
   ·rw[hv]at e;simp at e;exact e.2.1
  subst aa;rw[hv]at hr ⊢;exact(hr.stored i u).1
 ·rw[hsame b hb e];exact Ds (h.row b hb) (h.apart a b ha hb (fun x=>e x.symm) g (by rw[hv];rfl)) u
theorem OX.setRoot (h:OX W B val m)(hv:val .r=lZ g n cap)(i:Nat)(x:Int):OX (W.setCell (aD g i) (iI x)) B val {m with r:=m.r.set i x}:=by
 refine h.store (a:=.r) (Ad.r m) hv i _ (Hv rfl rfl fun _=>Ke) (fun b hb=>?_) (fun b hb hne=>?_) (Jh _ _ _) (fun _ hj e=>⟨hj,e⟩)
 ·rcases hb.cases with rfl|rfl|rfl|rfl|⟨j,rfl,hj⟩|⟨j,rfl,hj⟩<;>first|rfl|exact Bi
 ·rcases hb.cases with rfl|rfl|rfl|rfl|⟨j,rfl,hj⟩|⟨j,rfl,hj⟩<;>first|rfl|exact absurd rfl hne
theorem OX.setTab (h:OX W B val m){t:Nat}(ht:t<m.s.length)(hnt:CN m t≠[])(hv:val (.tab t)=lZ g n cap)(i:Nat)(x:Int):OX (W.setCell (aD g i) (iI x)) B val {m with s:=m.s.set t ((m.s.getD t default).1,(m.s.getD t default).2.1,(m.s.getD t default).2.2.set i x)}:=by
 have hg:=fun j=>Ht m.s t j ((m.s.getD t default).1,(m.s.getD t default).2.1,(m.s.getD t default).2.2.set i x)
 have aa:∀j,CN {m with s:=m.s.set t ((m.s.getD t default).1,(m.s.getD t default).2.1,(m.s.getD t default).2.2.set i x)} j=[]↔CN m j=[]:=fun j=>by
  show ((m.s.set t _).getD j default).2.2=[]↔_
  rw[hg]
  split
  ·rename_i e
   rw[<-e.1]
   constructor
   ·intro z;have:=congrArg List.length z;rw[Bi]at this;exact IZ this
   ·intro z;exact absurd z hnt
  ·rfl
 refine h.store (a:=.tab t) (Ad.tab ⟨ht,hnt⟩) hv i _ (Hv Bi rfl aa) (fun b hb=>?_) (fun b hb hne=>?_) ?_ (fun j hj e=>⟨by rwa [show (m.s.set t _).length=m.s.length from Bi]at hj,(aa j).1 e⟩)
 ·rcases hb.cases with rfl|rfl|rfl|rfl|⟨j,rfl,hj⟩|⟨j,rfl,hj⟩<;>first|rfl|exact Bi|skip
  show ((m.s.set t _).getD j default).2.2.length=(m.s.getD j default).2.2.length
  rw[hg]
  split
  ·rename_i e;rw[<-e.1];exact Bi
  ·rfl
 ·rcases hb.cases with rfl|rfl|rfl|rfl|⟨j,rfl,hj⟩|⟨j,rfl,hj⟩<;>first|rfl|skip
  ·show A2 (m.s.set t _) _=A2 m.s _
   unfold A2;rw[Bi];refine congrArg List.flatten (Ef fun j _=>?_);rw[hg]
   split
   ·rename_i e;rw[<-e.1]
   ·rfl
  ·show Ae ((m.s.set t _).getD j default).2.2=Ae (m.s.getD j default).2.2
   rw[hg,Aa (fun e=>hne (by rw[e.1]))]
 ·show Ae ((m.s.set t _).getD t default).2.2=(Ae (m.s.getD t default).2.2).set i _
  rw[hg,Ab ⟨rfl,ht⟩];exact Jh _ _ _
def Ei (m:Ac) (val:Nm->Value) (a:Nm) (v:Value):Prop:=∀b,Ad m b->b≠a->∀g,v.ownBlock=some g->(val b).ownBlock≠some g
theorem IC (h:OX W B val m)(a:Nm)(hv:∀g,v.ownBlock=some g->W.heap.size<=g):Ei m val a v:=fun b hb _ g hg e=>by
 have:=((h.row b hb).lt g e).2;have:=hv g hg;omega
theorem Np (m:Ac)(val:Nm->Value)(a:Nm)(n cap:Nat):Ei m val a (.slice none n cap):=fun _ _ _ g hg=>by cases hg
theorem OX.swap (h:OX W B val m)(ha:Ad m a)(hv:W.ownsRow B (En a) (Em a) v (AP m' a) (Bn m' (Az val a v) a))(hfar:Ei m val a v)(hlive:∀b,Ad m' b↔Ad m b)(hsame:∀b,Ad m b->b≠a->AP m' b=AP m b/\Bn m' (Az val a v) b=Bn m val b)(hloose:∀j,j<m'.s.length->CN m' j=[]->a≠.tab j/\j<m.s.length/\CN m j=[]):OX W B (Az val a v) m':=by
 refine⟨fun b hb=>?_,fun b c hb hc hne g hg=>?_,fun j hj e=>by obtain⟨h1,h2,h3⟩:=hloose j hj e;rw[Ap val v (fun x=>h1 x.symm)];exact h.loose j h2 h3⟩
 ·have hb:=(hlive b).1 hb
  by_cases e:b=a
  ·subst e;rw[Bh];exact hv
  ·rw[Ap val v e,(hsame b hb e).1,(hsame b hb e).2];exact h.row b hb
 ·have hb:=(hlive b).1 hb;have hc:=(hlive c).1 hc
  by_cases e:b=a
  ·subst e;rw[Bh]at hg;rw[Ap val v (fun x=>hne x.symm)];exact hfar c hc (fun x=>hne x.symm) g hg
  ·rw[Ap val v e]at hg
   by_cases e2:c=a
   ·subst e2;rw[Bh];exact fun x=>hfar b hb e g x hg
   ·rw[Ap val v e2];exact h.apart b c hb hc hne g hg
theorem OX.swapRoot (h:OX W B val m){r:List Int}(hv:W.ownsRow B 3 1 v r.length (Ae r))(hfar:Ei m val .r v)(g:Int):OX W B (Az val .r v) {m with g:=g,r:=r}:=by
 refine h.swap (a:=.r) (Ad.r m) hv hfar (Hv rfl rfl fun _=>Ke) (fun b hb hne=>?_) (fun j hj e=>⟨(by nofun),hj,e⟩);rcases hb.cases with rfl|rfl|rfl|rfl|⟨j,rfl,hj⟩|⟨j,rfl,hj⟩<;>first|exact⟨rfl,rfl⟩|exact absurd rfl hne
theorem OX.swapRefs (h:OX W B val m){r:List Int}(hv:W.ownsRow B 3 1 v r.length (Ae r))(hfar:Ei m val .f v):OX W B (Az val .f v) {m with f:=r}:=by
 refine h.swap (a:=.f) (Ad.f m) hv hfar (Hv rfl rfl fun _=>Ke) (fun b hb hne=>?_) (fun j hj e=>⟨(by nofun),hj,e⟩);rcases hb.cases with rfl|rfl|rfl|rfl|⟨j,rfl,hj⟩|⟨j,rfl,hj⟩<;>first|exact⟨rfl,rfl⟩|exact absurd rfl hne
theorem OX.setSlot (h:OX W B val m){t:Nat}(ht:t<m.s.length)(hv:val .s=lZ g n cap)(k:Int)(d:ByteArray)(es:List Int)(hev:W.ownsRow B 3 1 ev es.length (Ae es))(hfar:Ei m val (.tab t) ev):OX (((W.setCell (aD g (t*3)) (iI k)).setCell (aD g (t*3+1)) (.string d)).setCell (aD g (t*3+2)) ev) B (Az val (.tab t) ev) {m with s:=m.s.set t (k,d,es)}:=by
 have ac:=fun j=>Ht m.s t j (k,d,es)
 have af:n=m.s.length:=by
  rcases Di (h.row .s (Ad.s m)) with⟨e,_⟩|⟨g',cap',e,_⟩
  ·rw[hv]at e;simp at e
  ·rw[hv]at e;simp at e;exact e.2.1
 have ad:∀ {e:TypeId} {size:Nat} {v:Value} {q:Nat} {xs:List Value},W.ownsRow B e size v q xs->v.ownBlock≠some g->
   (((W.setCell (aD g (t*3)) (iI k)).setCell (aD g (t*3+1)) (.string d)).setCell (aD g (t*3+2)) ev).ownsRow B e size v q xs:=fun hr hne=>
  Ds (Ds (Ds hr hne _) hne _) hne _
 have aa:∀b,Ad {m with s:=m.s.set t (k,d,es)} b->b≠.tab t->Ad m b:=fun b hb hne=>by
  rcases hb.cases with rfl|rfl|rfl|rfl|⟨j,rfl,hj⟩|⟨j,rfl,hj⟩
  ·exact Ad.r m
  ·exact Ad.s m
  ·exact Ad.f m
  ·exact Ad.p m
  ·refine Ad.tab ⟨?_,?_⟩
   ·have:=hj.1
    rwa [show (m.s.set t (k,d,es)).length=m.s.length from Bi]at this
   ·have:=hj.2;have e:CN {m with s:=m.s.set t (k,d,es)} j=CN m j:=by
     show ((m.s.set t (k,d,es)).getD j default).2.2=_
     rw[ac,Aa (fun x=>hne (by rw[x.1]))]
    rwa [e]at this
  ·exact Ad.sr hj
 refine⟨fun b hb=>?_,fun b c hb hc hne q hq=>?_,fun j hj e=>?_⟩
 ·by_cases es0:b=.s
  ·subst es0;rw[Ap val ev (by nofun)];have hr:=h.row .s (Ad.s m);have e1:Bn {m with s:=m.s.set t (k,d,es)} (Az val (.tab t) ev) .s=(((Bn m val .s).set (t*3) (iI k)).set (t*3+1) (.string d)).set (t*3+2) ev:=by
    have:=Nr (L:=m.s) (tv:=fun j=>val (.tab j)) (tv':=fun j=>Az val (.tab t) ev (.tab j)) (t:=t) k d es (fun j hj=>Ap val ev (by intro x;apply hj;injection x));rw[Bh]at this;exact this
   have e2:AP {m with s:=m.s.set t (k,d,es)} .s=AP m .s:=Bi;rw[e1,e2];have hN:AP m .s=n:=af.symm;rw[hN]at hr ⊢;rw[hv]at hr ⊢;exact((((hr.stored (t*3) (iI k)).1).stored (t*3+1) (.string d)).1.stored (t*3+2) ev).1
  ·by_cases et:b=.tab t
   ·subst et;rw[Bh];have e1:Bn {m with s:=m.s.set t (k,d,es)} (Az val (.tab t) ev) (.tab t)=Ae es:=by
     show Ae ((m.s.set t (k,d,es)).getD t default).2.2=_
     rw[ac,Ab ⟨rfl,ht⟩]
    have e2:AP {m with s:=m.s.set t (k,d,es)} (.tab t)=es.length:=by
     show ((m.s.set t (k,d,es)).getD t default).2.2.length=_
     rw[ac,Ab ⟨rfl,ht⟩]
    rw[e1,e2];exact ad hev (fun x=>hfar .s (Ad.s m) (by intro y;cases y) g x (by rw[hv];rfl))
   ·have ab:=aa b hb et;have ae:(val b).ownBlock≠some g:=h.apart .s b (Ad.s m) ab (fun x=>es0 x.symm) g (by rw[hv];rfl);rw[Ap val ev et];have e1:Bn {m with s:=m.s.set t (k,d,es)} (Az val (.tab t) ev) b=Bn m val b/\AP {m with s:=m.s.set t (k,d,es)} b=AP m b:=by
     rcases ab.cases with rfl|rfl|rfl|rfl|⟨j,rfl,hj⟩|⟨j,rfl,hj⟩
     ·exact⟨rfl,rfl⟩
     ·exact absurd rfl es0
     ·exact⟨rfl,rfl⟩
     ·exact⟨rfl,rfl⟩
     ·have hjt:t≠j:=fun x=>et (by rw[x])
      constructor
      ·show Ae ((m.s.set t (k,d,es)).getD j default).2.2=Ae (m.s.getD j default).2.2
       rw[ac,Aa (fun x=>hjt x.1)]
      ·show ((m.s.set t (k,d,es)).getD j default).2.2.length=(m.s.getD j default).2.2.length
       rw[ac,Aa (fun x=>hjt x.1)]
     ·exact⟨rfl,rfl⟩
    rw[e1.1,e1.2];exact ad (h.row b ab) ae
 ·by_cases e:b=.tab t
  ·subst e;rw[Bh]at hq;rw[Ap val ev (fun x=>hne x.symm)];exact hfar c (aa c hc (fun x=>hne x.symm)) (fun x=>hne x.symm) q hq
  ·rw[Ap val ev e]at hq;have ab:=aa b hb e
   by_cases e2:c=.tab t
   ·subst e2;rw[Bh];exact fun x=>hfar b ab e q x hq
   ·rw[Ap val ev e2];exact h.apart b c ab (aa c hc e2) hne q hq
 ·rw[show ({m with s:=m.s.set t (k,d,es)} : Ac).s.length=m.s.length from Bi]at hj;have e:((m.s.set t (k,d,es)).getD j default).2.2=[]:=e;rw[ac]at e
  by_cases ej:t=j
  ·subst ej;rw[Ab ⟨rfl,hj⟩]at e;have e:es=[]:=e;rw[Bh];rw[e]at hev;rcases Di hev with⟨x,_⟩|⟨g',cap',x,_⟩
   ·exact⟨_,_,x⟩
   ·exact⟨_,_,x⟩
  ·rw[Aa (fun x=>ej x.1)]at e;rw[Ap val ev (by intro x;apply ej;injection x with _ x;exact x.symm)];exact h.loose j hj e
theorem OX.addSlot (h:OX W B val m){k:Int}{d:ByteArray}{es:List Int}(hev:es≠[]->W.ownsRow B 3 1 ev es.length (Ae es))(hev0:es=[]->∃ao cap,ev=.slice ao 0 cap)(hfar:es≠[]->Ei m val (.tab m.s.length) ev)(hgrow:W.grownBy W' (val .s).ownBlock)(hrow:W'.ownsRow B 85 3 sv (m.s.length+1) (A2 m.s (fun j=>val (.tab j))++[iI k,.string d,ev]))(hblk:sv.ownBlock=(val .s).ownBlock\/∀g,sv.ownBlock=some g->W.heap.size<=g):OX W' B (Az (Az val (.tab m.s.length) ev) .s sv) {m with s:=m.s++[(k,d,es)]}:=by
 have ab:∀b,b≠.s->b≠.tab m.s.length->Az (Az val (.tab m.s.length) ev) .s sv b=val b:=fun b h1 h2=>by rw[Ap _ sv h1,Ap _ ev h2]
 have aj:Az (Az val (.tab m.s.length) ev) .s sv .s=sv:=Bh _ _ _;have ah:Az (Az val (.tab m.s.length) ev) .s sv (.tab m.s.length)=ev:=by rw[Ap _ sv (by nofun),Bh]
 have aa:∀b,Ad {m with s:=m.s++[(k,d,es)]} b->b=.s\/(b=.tab m.s.length/\es≠[])\/(Ad m b/\b≠.s/\b≠.tab m.s.length):=fun b hb=>by
  rcases hb.cases with rfl|rfl|rfl|rfl|⟨j,rfl,hj⟩|⟨j,rfl,hj⟩
  ·exact .inr (.inr ⟨Ad.r m,(by nofun),(by nofun)⟩)
  ·exact .inl rfl
  ·exact .inr (.inr ⟨Ad.f m,(by nofun),(by nofun)⟩)
  ·exact .inr (.inr ⟨Ad.p m,(by nofun),(by nofun)⟩)
  ·obtain⟨hj,ag⟩:=hj
   by_cases e:j=m.s.length
   ·subst e;refine .inr (.inl ⟨rfl,?_⟩);have ag:((m.s++[(k,d,es)]).getD m.s.length default).2.2≠[]:=ag
    simpa[List.getD] using ag
   ·have ai:j<m.s.length:=by simp at hj;omega
    refine .inr (.inr ⟨Ad.tab ⟨ai,?_⟩,(by nofun),?_⟩)
    ·have ag:((m.s++[(k,d,es)]).getD j default).2.2≠[]:=ag;have e:(m.s++[(k,d,es)]).getD j default=m.s.getD j default:=by simp[List.getD,DY,ai]
     rwa [e]at ag
    ·intro x;apply e;injection x
  ·exact .inr (.inr ⟨Ad.sr hj,(by nofun),(by nofun)⟩)
 have hnot:∀b,Ad m b->b≠.s->(val b).ownBlock=none\/(val b).ownBlock≠(val .s).ownBlock:=fun b hb hne=>by
  cases hg:(val b).ownBlock with
  | none=>exact .inl rfl
  | some g=>exact .inr (fun x=>h.apart b .s hb (Ad.s m) hne g hg x.symm)
 have ak:es≠[]->ev.ownBlock=none\/ev.ownBlock≠(val .s).ownBlock:=fun hne=>by
  cases hg:ev.ownBlock with
  | none=>exact .inl rfl
  | some g=>exact .inr (fun x=>hfar hne .s (Ad.s m) (by intro y;cases y) g hg x.symm)
 have ac:∀b,Ad m b->b≠.s->∀g,sv.ownBlock=some g->(val b).ownBlock≠some g:=fun b hb hne g hg hx=>by
  rcases hblk with e|e
  ·rw[e]at hg;exact h.apart b .s hb (Ad.s m) hne g hx hg
  ·have:=((h.row b hb).lt g hx).2;have:=e g hg;omega
 have ae:es≠[]->∀g,sv.ownBlock=some g->ev.ownBlock≠some g:=fun hne g hg hx=>by
  rcases hblk with e|e
  ·rw[e]at hg;exact hfar hne .s (Ad.s m) (by intro y;cases y) g hx hg
  ·have:=((hev hne).lt g hx).2;have:=e g hg;omega
 refine⟨fun b hb=>?_,fun b c hb hc hne q hq=>?_,fun j hj e=>?_⟩
 ·rcases aa b hb with rfl|⟨rfl,hes⟩|⟨af,h1,h2⟩
  ·rw[aj];have e1:Bn {m with s:=m.s++[(k,d,es)]} (Az (Az val (.tab m.s.length) ev) .s sv) .s=A2 m.s (fun j=>val (.tab j))++[iI k,.string d,ev]:=by
    have:=Su m.s (fun j=>val (.tab j)) (fun j=>Az (Az val (.tab m.s.length) ev) .s sv (.tab j)) (k,d,es) (fun j hj=>ab _ (by nofun) (by intro x;injection x with _ x;omega));rw[ah]at this;exact this
   have e2:AP {m with s:=m.s++[(k,d,es)]} .s=m.s.length+1:=by show (m.s++[(k,d,es)]).length=_;simp
   rw[e1,e2];exact hrow
  ·rw[ah];have e0:(m.s++[(k,d,es)]).getD m.s.length default=(k,d,es):=by simp[List.getD]
   have e1:Bn {m with s:=m.s++[(k,d,es)]} (Az (Az val (.tab m.s.length) ev) .s sv) (.tab m.s.length)=Ae es:=by
    show Ae ((m.s++[(k,d,es)]).getD m.s.length default).2.2=_
    rw[e0]
   have e2:AP {m with s:=m.s++[(k,d,es)]} (.tab m.s.length)=es.length:=by
    show ((m.s++[(k,d,es)]).getD m.s.length default).2.2.length=_
    rw[e0]
   rw[e1,e2];exact(hev hes).kept hgrow (ak hes)
  ·rw[ab b h1 h2];have e1:Bn {m with s:=m.s++[(k,d,es)]} (Az (Az val (.tab m.s.length) ev) .s sv) b=Bn m val b/\AP {m with s:=m.s++[(k,d,es)]} b=AP m b:=by
    rcases af.cases with rfl|rfl|rfl|rfl|⟨j,rfl,hj⟩|⟨j,rfl,hj⟩
    ·exact⟨rfl,rfl⟩
    ·exact absurd rfl h1
    ·exact⟨rfl,rfl⟩
    ·refine⟨?_,rfl⟩
     show A8 m.p _=A8 m.p _
     unfold A8;refine congrArg List.flatten (Ef fun j _=>?_);dsimp only;rw[ab (.sr j) (by nofun) (by nofun)]
    ·have e:(m.s++[(k,d,es)]).getD j default=m.s.getD j default:=by simp[List.getD,DY,hj.1]
     constructor
     ·show Ae ((m.s++[(k,d,es)]).getD j default).2.2=_
      rw[e];rfl
     ·show ((m.s++[(k,d,es)]).getD j default).2.2.length=_
      rw[e];rfl
    ·exact⟨rfl,rfl⟩
   rw[e1.1,e1.2];exact(h.row b af).kept hgrow (hnot b af h1)
 ·rcases aa b hb with rfl|⟨rfl,hes⟩|⟨af,h1,h2⟩
  ·rw[aj]at hq;rcases aa c hc with rfl|⟨rfl,ad⟩|⟨hc',g1,g2⟩
   ·exact absurd rfl hne
   ·rw[ah];exact ae ad q hq
   ·rw[ab c g1 g2];exact ac c hc' g1 q hq
  ·rw[ah]at hq;rcases aa c hc with rfl|⟨rfl,ad⟩|⟨hc',g1,g2⟩
   ·rw[aj];exact fun x=>ae hes q x hq
   ·exact absurd rfl hne
   ·rw[ab c g1 g2];exact hfar hes c hc' g2 q hq
  ·rw[ab b h1 h2]at hq;rcases aa c hc with rfl|⟨rfl,ad⟩|⟨hc',g1,g2⟩
   ·rw[aj];exact fun x=>ac b af h1 q x hq
   ·rw[ah];exact fun x=>hfar ad b af h2 q x hq
   ·rw[ab c g1 g2];exact h.apart b c af hc' hne q hq
 ·have hj:j<(m.s++[(k,d,es)]).length:=hj;have e:((m.s++[(k,d,es)]).getD j default).2.2=[]:=e
  by_cases ej:j=m.s.length
  ·subst ej;rw[ah];exact hev0 (by simpa[List.getD] using e)
  ·have ai:j<m.s.length:=by simp at hj;omega
   have e2:(m.s++[(k,d,es)]).getD j default=m.s.getD j default:=by simp[List.getD,DY,ai]
   rw[ab _ (by nofun) (by intro x;injection x with _ x;exact ej x)];exact h.loose j ai (by rw[e2]at e;exact e)
theorem XZ (L:List AE)(tv tv':Nat->Value)(s:AE)(htv:∀j,j<L.length->tv' j=tv j):A8 (L++[s]) tv'=A8 L tv++[.string s.1,iI s.2.1,tv' L.length]:=by
 unfold A8;rw[Bl,Hf,DD,Hb];have e1:(List.range L.length).flatMap (fun j=>[Value.string ((L++[s]).getD j default).1,iI ((L++[s]).getD j default).2.1,tv' j])=(List.range L.length).flatMap (fun j=>[Value.string (L.getD j default).1,iI (L.getD j default).2.1,tv j]):=by
  refine congrArg List.flatten (Ef fun j hj=>?_);have hj:=CR.1 hj;have e:(L++[s]).getD j default=L.getD j default:=by simp[List.getD,DY,hj]
  rw[e,htv j hj]
 rw[e1];simp
theorem OX.addSnap (h:OX W B val m){k:Int}{d:ByteArray}{es:List Int}(hev:W.ownsRow B 3 1 ev es.length (Ae es))(hfar:Ei m val (.sr m.p.length) ev)(hgrow:W.grownBy W' (val .p).ownBlock)(hrow:W'.ownsRow B 87 3 sv (m.p.length+1) (A8 m.p (fun j=>val (.sr j))++[.string d,iI k,ev]))(hblk:sv.ownBlock=(val .p).ownBlock\/∀g,sv.ownBlock=some g->W.heap.size<=g):OX W' B (Az (Az val (.sr m.p.length) ev) .p sv) {m with p:=m.p++[(d,k,es)]}:=by
 have ab:∀b,b≠.p->b≠.sr m.p.length->Az (Az val (.sr m.p.length) ev) .p sv b=val b:=fun b h1 h2=>by rw[Ap _ sv h1,Ap _ ev h2]
 have ag:Az (Az val (.sr m.p.length) ev) .p sv .p=sv:=Bh _ _ _;have af:Az (Az val (.sr m.p.length) ev) .p sv (.sr m.p.length)=ev:=by rw[Ap _ sv (by nofun),Bh]
 have aa:∀b,Ad {m with p:=m.p++[(d,k,es)]} b->b=.p\/b=.sr m.p.length\/(Ad m b/\b≠.p/\b≠.sr m.p.length):=fun b hb=>by
  rcases hb.cases with rfl|rfl|rfl|rfl|⟨j,rfl,hj⟩|⟨j,rfl,hj⟩
  ·exact .inr (.inr ⟨Ad.r m,(by nofun),(by nofun)⟩)
  ·exact .inr (.inr ⟨Ad.s m,(by nofun),(by nofun)⟩)
  ·exact .inr (.inr ⟨Ad.f m,(by nofun),(by nofun)⟩)
  ·exact .inl rfl
  ·exact .inr (.inr ⟨Ad.tab hj,(by nofun),(by nofun)⟩)
  ·by_cases e:j=m.p.length
   ·subst e;exact .inr (.inl rfl)
   ·refine .inr (.inr ⟨Ad.sr (by simp at hj;omega),(by nofun),?_⟩);intro x;apply e;injection x
 have hnot:∀b,Ad m b->b≠.p->(val b).ownBlock=none\/(val b).ownBlock≠(val .p).ownBlock:=fun b hb hne=>by
  cases hg:(val b).ownBlock with
  | none=>exact .inl rfl
  | some g=>exact .inr (fun x=>h.apart b .p hb (Ad.p m) hne g hg x.symm)
 have ah:ev.ownBlock=none\/ev.ownBlock≠(val .p).ownBlock:=by
  cases hg:ev.ownBlock with
  | none=>exact .inl rfl
  | some g=>exact .inr (fun x=>hfar .p (Ad.p m) (by intro y;cases y) g hg x.symm)
 have ac:∀b,Ad m b->b≠.p->∀g,sv.ownBlock=some g->(val b).ownBlock≠some g:=fun b hb hne g hg hx=>by
  rcases hblk with e|e
  ·rw[e]at hg;exact h.apart b .p hb (Ad.p m) hne g hx hg
  ·have:=((h.row b hb).lt g hx).2;have:=e g hg;omega
 have ad:∀g,sv.ownBlock=some g->ev.ownBlock≠some g:=fun g hg hx=>by
  rcases hblk with e|e
  ·rw[e]at hg;exact hfar .p (Ad.p m) (by intro y;cases y) g hx hg
  ·have:=(hev.lt g hx).2;have:=e g hg;omega
 refine⟨fun b hb=>?_,fun b c hb hc hne q hq=>?_,fun j hj e=>by rw[ab _ (by nofun) (by nofun)];exact h.loose j hj e⟩
 ·rcases aa b hb with rfl|rfl|⟨ae,h1,h2⟩
  ·rw[ag];have e1:Bn {m with p:=m.p++[(d,k,es)]} (Az (Az val (.sr m.p.length) ev) .p sv) .p=A8 m.p (fun j=>val (.sr j))++[.string d,iI k,ev]:=by
    have:=XZ m.p (fun j=>val (.sr j)) (fun j=>Az (Az val (.sr m.p.length) ev) .p sv (.sr j)) (d,k,es) (fun j hj=>ab _ (by nofun) (by intro x;injection x with _ x;omega));rw[af]at this;exact this
   have e2:AP {m with p:=m.p++[(d,k,es)]} .p=m.p.length+1:=by show (m.p++[(d,k,es)]).length=_;simp
   rw[e1,e2];exact hrow
  ·rw[af];have e0:(m.p++[(d,k,es)]).getD m.p.length default=(d,k,es):=by simp[List.getD]
   have e1:Bn {m with p:=m.p++[(d,k,es)]} (Az (Az val (.sr m.p.length) ev) .p sv) (.sr m.p.length)=Ae es:=by
    show Ae ((m.p++[(d,k,es)]).getD m.p.length default).2.2=_
    rw[e0]
   have e2:AP {m with p:=m.p++[(d,k,es)]} (.sr m.p.length)=es.length:=by
    show ((m.p++[(d,k,es)]).getD m.p.length default).2.2.length=_
    rw[e0]
   rw[e1,e2];exact hev.kept hgrow ah
  ·rw[ab b h1 h2];have e1:Bn {m with p:=m.p++[(d,k,es)]} (Az (Az val (.sr m.p.length) ev) .p sv) b=Bn m val b/\AP {m with p:=m.p++[(d,k,es)]} b=AP m b:=by
    rcases ae.cases with rfl|rfl|rfl|rfl|⟨j,rfl,hj⟩|⟨j,rfl,hj⟩
    ·exact⟨rfl,rfl⟩
    ·refine⟨?_,rfl⟩
     show A2 m.s _=A2 m.s _
     unfold A2;refine congrArg List.flatten (Ef fun j _=>?_);dsimp only;rw[ab (.tab j) (by nofun) (by nofun)]
    ·exact⟨rfl,rfl⟩
    ·exact absurd rfl h1
    ·exact⟨rfl,rfl⟩
    ·have e:(m.p++[(d,k,es)]).getD j default=m.p.getD j default:=by simp[List.getD,DY,hj]
     constructor
     ·show Ae ((m.p++[(d,k,es)]).getD j default).2.2=_
      rw[e];rfl
     ·show ((m.p++[(d,k,es)]).getD j default).2.2.length=_
      rw[e];rfl
   rw[e1.1,e1.2];exact(h.row b ae).kept hgrow (hnot b ae h1)
 ·rcases aa b hb with rfl|rfl|⟨ae,h1,h2⟩
  ·rw[ag]at hq;rcases aa c hc with rfl|rfl|⟨hc',g1,g2⟩
   ·exact absurd rfl hne
   ·rw[af];exact ad q hq
   ·rw[ab c g1 g2];exact ac c hc' g1 q hq
  ·rw[af]at hq;rcases aa c hc with rfl|rfl|⟨hc',g1,g2⟩
   ·rw[ag];exact fun x=>ad q x hq
   ·exact absurd rfl hne
   ·rw[ab c g1 g2];exact hfar c hc' g2 q hq
  ·rw[ab b h1 h2]at hq;rcases aa c hc with rfl|rfl|⟨hc',g1,g2⟩
   ·rw[ag];exact fun x=>ac b ae h1 q x hq
   ·rw[af];exact fun x=>hfar b ae h2 q x hq
   ·rw[ab c g1 g2];exact h.apart b c ae hc' hne q hq
theorem OX.far (h:OX W B val m){u:Value}(hg:∀a,Ad m a->(val a).ownBlock≠some g):OX (W.setCell (aD g i) u) B val m:=
 ⟨fun a ha=>Ds (h.row a ha) (hg a ha) u,h.apart,h.loose⟩
theorem OX.lt (h:OX W B val m)(hg:W.heap.size<=g):∀a,Ad m a->(val a).ownBlock≠some g:=fun a ha e=>by
 have:=((h.row a ha).lt g e).2;omega
theorem M7 {s:An}(h1:∀a,Ad m a->(val a).ownBlock≠some g)(h2:s.2.2≠[]->ev.ownBlock≠some g)(h3:sv.ownBlock≠some g):∀a,Ad {m with s:=m.s++[s]} a->(Az (Az val (.tab m.s.length) ev) .s sv a).ownBlock≠some g:=fun a ha=>by
 by_cases e1:a=.s
 ·subst e1;rw[Bh];exact h3
 rw[Ap _ _ e1]
 by_cases e2:a=.tab m.s.length
 ·subst e2;rw[Bh];refine h2 ?_;rcases ha.cases with x|x|x|x|⟨j,x,hj⟩|⟨j,x,hj⟩<;>try(cases x)
  have hj:((m.s++[s]).getD m.s.length default).2.2≠[]:=hj.2
  simpa[List.getD] using hj
 rw[Ap _ _ e2]
 apply h1
 rcases ha.cases with rfl|rfl|rfl|rfl|⟨j,rfl,hj⟩|⟨j,rfl,hj⟩
 ·exact Ad.r m
 ·exact Ad.s m
 ·exact Ad.f m
 ·exact Ad.p m
 ·obtain⟨hj,hjn⟩:=hj;have hj:j<(m.s++[s]).length:=hj;rw[Bl,Hf]at hj;rcases Dq j m.s.length with h|h
  ·refine Ad.tab ⟨h,?_⟩;have hjn:((m.s++[s]).getD j default).2.2≠[]:=hjn;have e:(m.s++[s]).getD j default=m.s.getD j default:=by simp[List.getD,DY,h]
   rwa [e]at hjn
  ·exact absurd (by rw[show j=m.s.length by omega]) e2
 ·exact Ad.sr hj
theorem QO {s:An}{i:Nat}(h1:∀a,Ad m a->(val a).ownBlock≠some g)(h2:ev.ownBlock≠some g):∀a,Ad {m with s:=m.s.set i s} a->(Az val (.tab i) ev a).ownBlock≠some g:=fun a ha=>by
 by_cases e2:a=.tab i
 ·subst e2;rw[Bh];exact h2
 rw[Ap _ _ e2]
 apply h1
 rcases ha.cases with rfl|rfl|rfl|rfl|⟨j,rfl,hj⟩|⟨j,rfl,hj⟩
 ·exact Ad.r m
 ·exact Ad.s m
 ·exact Ad.f m
 ·exact Ad.p m
 ·refine Ad.tab ⟨?_,?_⟩
  ·have:=hj.1
   rwa [show (m.s.set i s).length=m.s.length from Bi]at this
  ·have:=hj.2;have e:CN {m with s:=m.s.set i s} j=CN m j:=by
    show ((m.s.set i s).getD j default).2.2=_
    rw[Ht,Aa (fun x=>e2 (by rw[x.1]))]
   rwa [e]at this
 ·exact Ad.sr hj
theorem TG (h:OX W B val m)(ha:Ad m a)(hv:val a=v)(hg:W.heap.size<=g):some g≠v.ownBlock:=by
 subst hv;exact fun e=>h.lt hg a ha e.symm
def DB (w:World) (m:Ac) (val:Nm->Value) (ev:Value) (m':Ac) (val':Nm->Value):Prop:=∀g,g<w.heap.size->ev.ownBlock≠some g->(∀b,Ad m b->(val b).ownBlock≠some g)->∀a,Ad m' a->(val' a).ownBlock≠some g
def BC (w w':World) (m:Ac) (val:Nm->Value):Prop:=∀q,q<w.heap.size->(∀a,Ad m a->(val a).ownBlock≠some q)->w'.heap[q]?=w.heap[q]?
theorem BC.refl (w:World)(m:Ac)(val:Nm->Value):BC w w m val:=fun _ _ _=>rfl
theorem BC.alloc (h:BC w W m val)(hs:w.heap.size<=W.heap.size)(o:Obj):BC w (W.alloc o) m val:=fun q hq hn=>(Ch W o q oM).trans (h q hq hn)
theorem BC.own (h:BC w W m val)(ha:Ad m a){c:Nat}(hg:val a=lZ g n c):BC w (W.setCell (aD g i) v) m val:=fun q hq hn=>
 (AN W (aD g i) v q (fun e=>hn a ha (by rw[hg];exact congrArg some e.symm))).trans (h q hq hn)
theorem BC.new (h:BC w W m val)(hg:w.heap.size<=g):BC w (W.setCell (aD g i) v) m val:=fun q hq hn=>
 (AN W (aD g i) v q (fun e=>by have e:q=g:=e;omega)).trans (h q hq hn)
theorem BC.grown (h:BC w W m val)(hs:w.heap.size<=W.heap.size)(ha:Ad m a)(hv:val a=v)(hg:W.grownBy W' v.ownBlock):BC w W' m val:=fun q hq hn=>
 (hg.block q oM (fun e=>hn a ha (by rw[hv];exact e.symm))).trans (h q hq hn)
theorem BC.below (h:BC w W m val)(hs:w.heap.size<=n)(hg:Below n W W'):BC w W' m val:=fun q hq hn=>(hg.block q oM).trans (h q hq hn)
theorem OX.forms (h:OX W B val m)(a:Nm)(ha:Ad m a):∃ao cap,val a=.slice ao (AP m a) cap/\(0<AP m a->∃g,ao=some (aZ g)):=by
 rcases Di (h.row a ha) with⟨e,hn⟩|⟨g,cap,e,_⟩
 ·exact⟨none,0,by rw[e,hn],fun hp=>absurd hp oM⟩
 ·exact⟨_,cap,e,fun _=>⟨g,rfl⟩⟩
end Go.Proofs.YtfciijncfbepjaaGreatDoor
