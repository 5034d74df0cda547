/- Texts joined: OfI, TakI, TakJ, TakL, TakK, WrI, WrJ, WrK, WrL, WrS, WrT, WrM, WrN, WrO, WrX, MendI, WrV, SCheck, WrY, WrW. -/
import Derived.Test.YtfciijncfbepjaaGreatDoorDeskPlaysJ6
import Derived.Test.YtfciijncfbepjaaGreatDoorDeskPlaysJ5
import Derived.Test.YtfciijncfbepjaaGreatDoorDeskPlaysJ2
import Derived.Defers
import Derived.Recover
import Derived.Test.YtfciijncfbepjaaGreatDoorDeskPlaysJ3
import Derived.Test.YtfciijncfbepjaaGreatDoorDeskPlaysJ4
import Derived.Deep.RegionHeld3
import Derived.Deep.RegionLaw
import Derived.Deep.CutRange
import Derived.Deep.RegionHeld
import Derived.BigQuiet
import Derived.Deep.RegionWith
set_option linter.unusedVariables false
set_option linter.unusedSimpArgs false
set_option maxHeartbeats 200000000
set_option maxRecDepth 20000
namespace Go.Proofs.YtfciijncfbepjaaGreatDoor
open Go.Proofs.Tryz
variable {W W' w w1:World}{B D N n q r t:Nat}{val val1:Nm->Value}{ev fv fv0 sv sv0 v:Value}{o:Option Ac}{M a b m1:Ac}{xs ys:List Value}{cR cS:Bool}{es:List Int}{k:Int}{d page:ByteArray}
open Go.RowKit Go.Shelf
theorem RT (p:Addr)(w:World):CallsD prog 81 #[.pointer (some p)] .returning w fun e u' w'=>e=.returned (.tuple #[])/\u'=.returning/\w'=w:=by
 refine MS func81 rfl fun c₀ cs hu=>?_
 apply wpS_seq
 apply MW
 simp[wpOpsS,go_sem,recoverD,hu,ntmps81,Exit.thenS]
 refine MV ?_;simp only[FT,FU,FY,FW,EY,Er,DR,DE,DZ]
 go_wp2
 cases c₀
 simp_all[bodyPostS,results,results81]
theorem Wg (b:Nat)(x:Int)(older:List PanicEntry)(w:World)(hc:w.cell? (aZ b)=some (iI x))(hz:w.frozen? (aZ b)=false)(hb:b<w.heap.size):CallsD prog 81 #[pZ b] (.panicking ({v:=.iface 96 (.agg #[]),recovered:=false} :: older)) w fun e u' w'=>
   e=.returned (.tuple #[])/\u'=.panicking ({v:=.iface 96 (.agg #[]),recovered:=true} :: older)/\w'=(w.setCell (aZ b) (iI 7)).alloc (.cells #[] 96):=by
 have ac:∀w,(Instr.typeAssert (.iface 96 (.agg #[])) 20 96 true).run prog w=.ok (.tuple #[.agg #[],.bool true]) w:=fun w=>by kernel_rfl
 have ab:(w.alloc (.cells #[] 96)).cell? (aZ b)=some (iI x):=(I5 _ _ _ hb).trans hc;have aa:¬b=w.heap.size:=oM;refine MS func81 rfl fun c₀ cs hu=>?_
 apply wpS_seq
 apply MW
 simp[wpOpsS,go_sem,recoverD,hu,ntmps81,Exit.thenS]
 refine MV ?_;simp only[FT,FU,FY,FW,EY,Er,DR,DE,DZ]
 go_wp2
 cases c₀
 simp_all[bodyPostS,results,results81]
abbrev G4:List PanicEntry:=[{v:=.iface 96 (.agg #[]),recovered:=false}]
def Hl (w:World) (N:Nat) (caps:Array Value) (m:Ac) (o:Option Ac):Prop:=
 ∀ (W:World) (D B:Nat) (val:Nm->Value),Bw w W->w.heap.size<=B->B<=W.heap.size->DK W B D val m->
  Cl N (#[pZ D]++caps) W fun r W'=>match o with
   | some m'=>∃val',r=.returned (.tuple #[])/\Ay W W' B D m val AF m' val'
   | none=>r=.panicked G4/\Below B W W'
theorem Py {m:Ac}(h:OI w B val m)(hB:B<=w.heap.size):DK (w.alloc (.cells #[iI m.g,val .r,val .s,val .f,val .p] 64)) B w.heap.size val m:=
 ⟨h.alloc _,Aw _ _,hB,h.lt lE⟩
theorem cU (m:Ac)(ra:Option Addr)(rn rc:Nat)(sa:Option Addr)(sn sc:Nat)(fa:Option Addr)(fn fc:Nat)(na:Option Addr)(nn nc:Nat)(N:Nat)(caps:Array Value)(w:World)(h:Al w (.agg (bI m.g ra rn rc sa sn sc fa fn fc na nn nc)) m)(hF:Hi m)(hN:∀ (args:Array Value) (w:World),(callFunc N args).run prog w=.ok (.enter N args) w)(ht:Hl w N caps m none):Cl 39 #[.agg (bI m.g ra rn rc sa sn sc fa fn fc na nn nc),.func (.func N) #[] caps] w (Bo w w.heap.size AZ 7):=by
 let U:=(cB m.g ra rn rc sa sn sc fa fn fc na nn nc)
 let V:=(((w.alloc U).alloc zI).alloc (.cells #[iI 0] 22))
 have af:∀ (fn:Fn) (first cap:Array Value) (w:World),(Instr.makeFunc fn first cap).run prog w=.ok (.func fn first cap) w:=fun _ _ _ _=>rfl
 have b0:Bw w V:=((Av).alloc (by simp[V,U]) _).alloc (by simp[V,U]<;>omega) _;have m0:V.heap[w.heap.size]?=some U:=Aj (Aj (Aw _ _) _) _;have m1:V.heap[w.heap.size+1]?=some zI:=Aj (AR (by simp[V,U])) _;have m2:V.heap[w.heap.size+1+1]?=some (.cells #[iI 0] 22):=AR (by simp[V,U]);have ab:V.heap.size=w.heap.size+1+1+1:=by simp[V,U]
 have c0:=five m0;have ad:=Pn (h.below b0) hF;have HX:Hd (True):=trivial;clear h;dsimp only[V,U]at *;clear V U
 go_enter_defers func39,ntmps39
 go_wp2_with(go_at_call 82;refine ad.mono ?_;rintro e w1 ⟨val,rfl,hO,b1⟩;obtain⟨qa,qc,q0,_⟩:=hO.forms .r (Af.r m);obtain⟨pa,pc,q1,_⟩:=hO.forms .s (Af.s m);obtain⟨ka,kc,q2,_⟩:=hO.forms .f (Af.f m);obtain⟨ja,jc,q3,_⟩:=hO.forms .p (Af.p m);unfold AB;rw[q0,q1,q2,q3]);have hD:=Py hO b1.size;rw[q0,q1,q2,q3]at hD;have aa:Below (((w.alloc (cB m.g ra rn rc sa sn sc fa fn fc na nn nc)).alloc zI).alloc (.cells #[iI 0] 22)).heap.size (((w.alloc (cB m.g ra rn rc sa sn sc fa fn fc na nn nc)).alloc zI).alloc (.cells #[iI 0] 22)) (w1.alloc (.cells #[iI m.g,.slice qa (AP m .r) qc,.slice pa (AP m .s) pc,.slice ka (AP m .f) kc,.slice ja (AP m .p) jc] 64)):=b1.alloc b1.size _;have ac:=Below.on b0 aa;refine(ht _ _ _ _ ac b0.size aa.size hD).mono ?_;rintro e w2 ⟨rfl,b2⟩;dsimp only;have b3:=aa.trans b2;have k1:=Ag m1 b3 (by rw[ab];omega);have k2:=Ag m2 b3 (by rw[ab];omega);have b4:Bw w w2:=b0.trans (b3.mono (by rw[ab];omega));obtain⟨z0,z1,z2,z3,z4⟩:=five k1;have ce:w2.cell? (aZ (w.heap.size+1+1))=some (iI 0):=by simp[World.cell?,k2]
 have ne:¬w.heap.size+1=w.heap.size+1+1:=oM;have hlt:w.heap.size+1+1<w2.heap.size:=(AA k2);have ae:w.heap.size+1<w2.heap.size:=oM;refine JJ (f:=81) (args:=#[pZ (w.heap.size+1+1)]) (by simp) (by simp[go_sem]) ?_;refine(Wg (w.heap.size+1+1) 0 [] w2 ce (Aq k2 0) hlt).mono ?_;rintro e u' ag ⟨rfl,rfl,rfl⟩;have k3:((w2.setCell (aZ (w.heap.size+1+1)) (iI 7)).alloc (.cells #[] 96)).heap[w.heap.size+1]?=some zI:=Aj (Bt k1 ne _ _) _;have k4:((w2.setCell (aZ (w.heap.size+1+1)) (iI 7)).alloc (.cells #[] 96)).heap[w.heap.size+1+1]?=some (.cells #[iI 7] 22):=Aj (Bf k2 0 _) _;obtain⟨z0,z1,z2,z3,z4⟩:=five k3;have ce:((w2.setCell (aZ (w.heap.size+1+1)) (iI 7)).alloc (.cells #[] 96)).cell? (aZ (w.heap.size+1+1))=some (iI 7):=by simp only[World.cell?,k4];rfl
 refine⟨_,?_,Bo.bad 7 ((b4.setCell (by show _<=w.heap.size+1+1;omega) _).alloc (by simp[World.setCell];have:=b4.size;omega) _)⟩;clear k3 k4
 generalize (w2.setCell (aZ (w.heap.size+1+1)) (iI 7)).alloc (.cells #[] 96)=Wf at z0 z1 z2 z3 z4 ce ⊢
 simp[results,results39,go_sem,z0,z1,z2,z3,z4,ce]
theorem cQ (m M:Ac)(ra:Option Addr)(rn rc:Nat)(sa:Option Addr)(sn sc:Nat)(fa:Option Addr)(fn fc:Nat)(na:Option Addr)(nn nc:Nat)(N:Nat)(caps:Array Value)(w:World)(h:Al w (.agg (bI m.g ra rn rc sa sn sc fa fn fc na nn nc)) m)(hF:Hi m)(hN:∀ (args:Array Value) (w:World),(callFunc N args).run prog w=.ok (.enter N args) w)(ht:Hl w N caps m (some M))(E:Int)(hE:As M=E)(hne:E≠0):Cl 39 #[.agg (bI m.g ra rn rc sa sn sc fa fn fc na nn nc),.func (.func N) #[] caps] w (Bo w w.heap.size AZ E):=by
 let U:=(cB m.g ra rn rc sa sn sc fa fn fc na nn nc)
 let V:=(((w.alloc U).alloc zI).alloc (.cells #[iI 0] 22))
 have af:∀ (fn:Fn) (first cap:Array Value) (w:World),(Instr.makeFunc fn first cap).run prog w=.ok (.func fn first cap) w:=fun _ _ _ _=>rfl
 have b0:Bw w V:=((Av).alloc (by simp[V,U]) _).alloc (by simp[V,U]<;>omega) _;have m0:V.heap[w.heap.size]?=some U:=Aj (Aj (Aw _ _) _) _;have m1:V.heap[w.heap.size+1]?=some zI:=Aj (AR (by simp[V,U])) _;have m2:V.heap[w.heap.size+1+1]?=some (.cells #[iI 0] 22):=AR (by simp[V,U]);have ac:V.heap.size=w.heap.size+1+1+1:=by simp[V,U]
 have c0:=five m0;have ae:=Pn (h.below b0) hF;have HX:Hd (As M=E/\E≠0):=⟨hE,hne⟩;clear h hE hne;dsimp only[V,U]at *;clear V U
 go_enter_defers func39,ntmps39
 go_wp2_with(go_at_call 82;refine ae.mono ?_;rintro e w1 ⟨val,rfl,hO,b1⟩;obtain⟨qa,qc,q0,_⟩:=hO.forms .r (Af.r m);obtain⟨pa,pc,q1,_⟩:=hO.forms .s (Af.s m);obtain⟨ka,kc,q2,_⟩:=hO.forms .f (Af.f m);obtain⟨ja,jc,q3,_⟩:=hO.forms .p (Af.p m);unfold AB;rw[q0,q1,q2,q3]);have hD:=Py hO b1.size;rw[q0,q1,q2,q3]at hD;have ab:Below (((w.alloc (cB m.g ra rn rc sa sn sc fa fn fc na nn nc)).alloc zI).alloc (.cells #[iI 0] 22)).heap.size (((w.alloc (cB m.g ra rn rc sa sn sc fa fn fc na nn nc)).alloc zI).alloc (.cells #[iI 0] 22)) (w1.alloc (.cells #[iI m.g,.slice qa (AP m .r) qc,.slice pa (AP m .s) pc,.slice ka (AP m .f) kc,.slice ja (AP m .p) jc] 64)):=b1.alloc b1.size _;have ad:=Below.on b0 ab;refine(ht _ _ _ _ ad b0.size ab.size hD).mono ?_;rintro e w2 ⟨val2,rfl,hT⟩;dsimp only;have b3:=ab.trans hT.bel;have k1:=Ag m1 b3 (by rw[ac];omega);have k2:=Ag m2 b3 (by rw[ac];omega);have b4:Bw w w2:=b0.trans (b3.mono (by rw[ac];omega));have aa:=ia hT.dk HX.o.1 HX.o.2;clear hT hD;go_wp2_with(go_at_call 83;refine aa.mono ?_;rintro e w3 ⟨rfl,b5⟩;have r1:=Ag k1 b5 (AA k1);have r2:=Ag k2 b5 (AA k2);have z0:=five r1;have y0:=Aq r1;have x0:=Aq r2 0;have ce:w3.cell? (aZ (w.heap.size+1+1))=some (iI 0):=by simp[World.cell?,r2]);refine JJ (f:=81) (args:=#[pZ (w.heap.size+1+1)]) (by simp) (by simp[go_sem]) ?_;refine(RT (aZ (w.heap.size+1+1)) _).mono ?_;rintro e u' ag ⟨rfl,rfl,rfl⟩;have b6:=Below.on b4 b5;have i1:w.heap.size<=w.heap.size+1:=Cw _;have i2:w.heap.size<=w.heap.size+1+1:=oM;refine⟨_,?_,Bo.bad E ((((((b6.setCell i1 _).setCell i1 _).setCell i1 _).setCell i1 _).setCell i1 _).setCell i2 _)⟩;simp[results,results39,go_sem,z0,ce]
theorem cV (m M:Ac)(ra:Option Addr)(rn rc:Nat)(sa:Option Addr)(sn sc:Nat)(fa:Option Addr)(fn fc:Nat)(na:Option Addr)(nn nc:Nat)(N:Nat)(caps:Array Value)(w:World)(h:Al w (.agg (bI m.g ra rn rc sa sn sc fa fn fc na nn nc)) m)(hF:Hi m)(hN:∀ (args:Array Value) (w:World),(callFunc N args).run prog w=.ok (.enter N args) w)(ht:Hl w N caps m (some M))(hE:As M=0):Cl 39 #[.agg (bI m.g ra rn rc sa sn sc fa fn fc na nn nc),.func (.func N) #[] caps] w (Bo w w.heap.size (At M) 0):=by
 let U:=(cB m.g ra rn rc sa sn sc fa fn fc na nn nc)
 let V:=(((w.alloc U).alloc zI).alloc (.cells #[iI 0] 22))
 have ak:∀ (fn:Fn) (first cap:Array Value) (w:World),(Instr.makeFunc fn first cap).run prog w=.ok (.func fn first cap) w:=fun _ _ _ _=>rfl
 have b0:Bw w V:=((Av).alloc (by simp[V,U]) _).alloc (by simp[V,U]<;>omega) _;have m0:V.heap[w.heap.size]?=some U:=Aj (Aj (Aw _ _) _) _;have m1:V.heap[w.heap.size+1]?=some zI:=Aj (AR (by simp[V,U])) _;have m2:V.heap[w.heap.size+1+1]?=some (.cells #[iI 0] 22):=AR (by simp[V,U]);have af:V.heap.size=w.heap.size+1+1+1:=by simp[V,U]
 have c0:=five m0;have ai:=Pn (h.below b0) hF;have HX:Hd (As M=0):=hE;clear h hE;dsimp only[V,U]at *;clear V U
 go_enter_defers func39,ntmps39
 go_wp2_with(go_at_call 82;refine ai.mono ?_;rintro e w1 ⟨val,rfl,hO,b1⟩;obtain⟨qa,qc,q0,_⟩:=hO.forms .r (Af.r m);obtain⟨pa,pc,q1,_⟩:=hO.forms .s (Af.s m);obtain⟨ka,kc,q2,_⟩:=hO.forms .f (Af.f m);obtain⟨ja,jc,q3,_⟩:=hO.forms .p (Af.p m);unfold AB;rw[q0,q1,q2,q3]);have hD:=Py hO b1.size;rw[q0,q1,q2,q3]at hD;have ad:Below (((w.alloc (cB m.g ra rn rc sa sn sc fa fn fc na nn nc)).alloc zI).alloc (.cells #[iI 0] 22)).heap.size (((w.alloc (cB m.g ra rn rc sa sn sc fa fn fc na nn nc)).alloc zI).alloc (.cells #[iI 0] 22)) (w1.alloc (.cells #[iI m.g,.slice qa (AP m .r) qc,.slice pa (AP m .s) pc,.slice ka (AP m .f) kc,.slice ja (AP m .p) jc] 64)):=b1.alloc b1.size _;have ah:=Below.on b0 ad;refine(ht _ _ _ _ ah b0.size ad.size hD).mono ?_;rintro e w2 ⟨val2,rfl,hT⟩;dsimp only;have b3:=ad.trans hT.bel;have k1:=Ag m1 b3 (by rw[af];omega);have k2:=Ag m2 b3 (by rw[af];omega);have b4:Bw w w2:=b0.trans (b3.mono (by rw[af];omega));have ab:=ic hT.dk (Bg ad.size hT.bel.size) HX.o;go_wp2_with fail;refine ab.mono ?_;rintro e w3 ⟨aa,rfl,ag⟩;dsimp only;have ac:=ag.dk.own;have b5:=ag.bel;rw[af]at b5;have r1:=Ag k1 b5 oM;have r2:=Ag k2 b5 oM;have z0:=five r1;have y0:=Aq r1;have x0:=Aq r2 0;have ce:w3.cell? (aZ (w.heap.size+1+1))=some (iI 0):=by simp[World.cell?,r2]
 obtain⟨ga,gc,g0,_⟩:=ac.forms .r (Af.r _);obtain⟨la,lc,g1,_⟩:=ac.forms .s (Af.s _);obtain⟨oa,oc,g2,_⟩:=ac.forms .f (Af.f _);obtain⟨ta,tc,g3,_⟩:=ac.forms .p (Af.p _);unfold AB;rw[g0,g1,g2,g3];have HO:Hd (OI w3 (w.heap.size+3) aa (At M)/\aa .r=_/\aa .s=_/\aa .f=_/\aa .p=_):=⟨by rw[af]at ac;exact ac,g0,g1,g2,g3⟩;have HB:Hd (Bw w w3):=b4.trans (b5.mono oM);clear ac hT ag hD ab g0 g1 g2 g3 b5 b4 b3 b1 ad ah hO q0 q1 q2 q3;go_wp2_with fail;refine JJ (f:=81) (args:=#[pZ (w.heap.size+1+1)]) (by simp) (by simp[go_sem]) ?_;refine(RT (aZ (w.heap.size+1+1)) _).mono ?_;rintro e u' al ⟨rfl,rfl,rfl⟩;obtain⟨hO,g0,g1,g2,g3⟩:=HO.o;have b6:=HB.o;have i1:w.heap.size<=w.heap.size+1:=Cw _;have i2:w.heap.size<=w.heap.size+1+1:=oM;have ae:∀a,Af (At M) a->(aa a).ownBlock≠some (w.heap.size+1):=fun a ha e=>by have:=((hO.row a ha).lt _ e).1;omega
 have aj:∀a,Af (At M) a->(aa a).ownBlock≠some (w.heap.size+1+1):=fun a ha e=>by have:=((hO.row a ha).lt _ e).1;omega
 refine⟨.tuple #[.agg #[iI M.g,.slice ga (AP (At M) .r) gc,.slice la (AP (At M) .s) lc,.slice oa (AP (At M) .f) oc,.slice ta (AP (At M) .p) tc],iI 0],?_,aa,?_,OI.mono ((((((hO.far ae).far ae).far ae).far ae).far ae).far aj) oM,((((((b6.setCell i1 _).setCell i1 _).setCell i1 _).setCell i1 _).setCell i1 _).setCell i2 _)⟩
 ·simp[results,results39,go_sem,z0,ce]
 ·unfold AB;rw[g0,g1,g2,g3]
  rfl
def Gg (o:Option Ac):Ac:=match o with|none=>AZ|some M=>if As M=0 then At M else AZ
def IH (o:Option Ac):Int:=match o with|none=>7|some M=>As M
theorem K8 {m:Ac}{caps:Array Value}(h:Al w v m)(hF:Hi m)(hN:∀ (args:Array Value) (w:World),(callFunc N args).run prog w=.ok (.enter N args) w)(ht:Hl w N caps m o):Cl 39 #[v,.func (.func N) #[] caps] w (Bo w w.heap.size (Gg o) (IH o)):=by
 have h':=h;obtain⟨ra,rc,sa,sc,fa,fc,na,nc,rfl,_⟩:=h.parts
 cases o with
 | none=>exact cU m ra _ rc sa _ sc fa _ fc na _ nc N caps w h' hF hN ht
 | some M=>
  unfold Gg IH;dsimp only
  by_cases hE:As M=0
  ·rw[Ab hE,hE];exact cV m M ra _ rc sa _ sc fa _ fc na _ nc N caps w h' hF hN ht hE
  ·rw[Aa hE];exact cQ m M ra _ rc sa _ sc fa _ fc na _ nc N caps w h' hF hN ht _ rfl hE

theorem Ay.pre {w2:World}{m:Ac}(h:Ay w1 w2 B D m val ev m1 val1)(hb:Bw w w1)(hB:B<=w.heap.size):Ay w w2 B D m val ev m1 val1:=
 ⟨h.dk,(hb.mono hB).trans h.bel,fun q hq hD hev hm=>(h.keep q (AO hq hb.size) hD hev hm).trans (hb.block q hq),fun q hq hev hm=>h.src q (AO hq hb.size) hev hm⟩
def G3 (l:List Int) (n:Nat) (x:Int):List Int:=if n=l.length then l++[x] else l.set n x
theorem Zv {l:List Int}{x:Int}:(G3 l n x).length=if n=l.length then l.length+1 else l.length:=by
 unfold G3;split<;>simp
def BL (m:Ac) (s:An):Ac:={m with s:=A3 m.s (AK m.s) s,f:=G3 m.f (AK m.s) 1}
theorem PU {L:List An}(h:BA w v L)(hE:AD L=0){g:Nat}(hg:AK L=g):Cl 160 #[v] w fun r w'=>r=.returned (.tuple #[iI (if g=40 then 0 else (g:Int)),iI (if g=40 then 7 else 0)])/\Bw w w':=by
 have h1:=(A4 hE).1;refine(YL v L w h hE).mono ?_;rintro e w' ⟨h|⟨q,hq,hG,rfl⟩,hb⟩
 ·have e40:g=40:=by rw[<-hg];exact(KM h1).unique h.1
  rw[Ab e40,Ab e40];exact⟨h.2,hb⟩
 ·have eg:q=g:=by rw[<-hg];exact hG.unique (KM h1)
  subst eg;rw[Aa oM,Aa oM];exact⟨rfl,hb⟩
theorem i8 (m:Ac)(sa:Option Addr)(sn sc:Nat)(k:Int)(d:ByteArray)(ea:Option Addr)(en ec:Nat)(B D:Nat)(val:Nm->Value)(w:World)(hK:DK w B D val m)(e1:val .s=.slice sa sn sc)(hs:AD m.s=0)(hg:AK m.s=40):Cl 96 #[pZ D,.agg #[iI k,.string d,.slice ea en ec]] w fun r w'=>r=.panicked G4/\Bw w w':=by
 have hK1:DK (w.alloc (oS k d ea en ec)) B D val m:=hK.alloc _;obtain⟨d0,d1,d2,d3,d4⟩:=hK1.five;rw[e1]at d2;have aa:=PU hK1.own.img.four.2.1 hs hg;rw[e1]at aa;have b0:Bw w (w.alloc (oS k d ea en ec)):=Av;clear hg hs
 go_enter func96,ntmps96
 go_wp2_with(go_at_call 160;refine aa.mono ?_;rintro e w1 ⟨rfl,b1⟩);exact⟨rfl,rfl,Below.on b0 b1⟩
theorem jd (m:Ac)(sg sc:Nat)(fg fc:Nat)(k:Int)(d:ByteArray)(ea:Option Addr)(en ec:Nat)(es:List Int)(g:Nat)(B D:Nat)(val:Nm->Value)(w:World)(hK:DK w B D val m)(hB:B<=w.heap.size)(e1:val .s=lZ sg m.s.length sc)(e2:val .f=lZ fg m.s.length fc)(hs:AD m.s=0)(hg:AK m.s=g)(hgl:g<m.s.length)(hrl:m.f.length=m.s.length)(he:w.ownsRow B 3 1 (.slice ea en ec) es.length (Ae es))(hfar:EH m val (.tab g) (.slice ea en ec))(hD:(Value.slice ea en ec).ownBlock≠some D):Cl 96 #[pZ D,.agg #[iI k,.string d,.slice ea en ec]] w fun r w'=>r=.returned (iI (g:Int))/\∃val',Ay w w' B D m val (.slice ea en ec) {m with s:=m.s.set g (k,d,es),f:=m.f.set g 1} val'/\val' .r=val .r:=by
 have hK1:DK (w.alloc (oS k d ea en ec)) B D val m:=hK.alloc _;have h40:=(A4 hs).2;obtain⟨d0,d1,d2,d3,d4⟩:=hK1.five;rw[e1]at d2;rw[e2]at d3;have aa:=PU hK1.own.img.four.2.1 hs hg;rw[e1]at aa;have ae:¬g=40:=oM;rw[Aa ae,Aa ae]at aa;have b0:Bw w (w.alloc (oS k d ea en ec)):=Av;have mS:(w.alloc (oS k d ea en ec)).heap[w.heap.size]?=some (oS k d ea en ec):=Aw _ _;have ao:(g:Int)<(m.s.length:Int):=oM;have ap:((g:Int) == (m.s.length:Int))=false:=by simp;omega
 have ah:¬(g:Int)=(m.s.length:Int):=oM;clear hg hs
 go_enter func96,ntmps96
 go_wp2_with(go_at_call 160;refine aa.mono ?_;rintro e w1 ⟨rfl,b1⟩;have hK2:=hK1.below b1;obtain⟨i0,i1,i2,i3,i4⟩:=hK2.five;rw[e1]at i2;rw[e2]at i3;have ag:=Ag mS b1 (by simp);obtain⟨s0,s1,s2⟩:=BO ag);have an:sg<w.heap.size/\B<=sg:=by
  have:=(hK.own.row .s (Af.s m)).lt sg (by rw[e1];rfl);exact⟨this.2,this.1⟩
 have am:fg<w.heap.size/\B<=fg:=by
  have:=(hK.own.row .f (Af.f m)).lt fg (by rw[e2];rfl);exact⟨this.2,this.1⟩
 have al:=hK.lt;have aj:¬D=sg:=fun e=>hK.far .s (Af.s m) (by rw[e1,e];rfl)
 have ai:¬D=fg:=fun e=>hK.far .f (Af.f m) (by rw[e2,e];rfl)
 have av:¬sg=D:=fun e=>aj e.symm
 have aq:¬fg=D:=fun e=>ai e.symm
 have ak:¬sg=fg:=fun e=>hK.own.apart .s .f (Af.s m) (Af.f m) (by nofun) sg (by rw[e1];rfl) (by rw[e2,e];rfl)
 have ar:¬fg=sg:=fun e=>ak e.symm
 have ay:¬w.heap.size=sg:=oM;have aw:¬sg=w.heap.size:=oM;have ax:¬w.heap.size=fg:=oM;have au:¬fg=w.heap.size:=oM;have ad:=(Ay.refl hK1 (.slice ea en ec)).below (by simp;omega) b1;have ab:=ad.dk.own.row .s (Af.s m);rw[e1]at ab;have ab:w1.ownsRow B 85 3 (lZ sg m.s.length sc) m.s.length (A2 m.s (fun j=>val (.tab j))):=ab;obtain⟨t0,t1,t2⟩:=D3 (L:=m.s) (tv:=fun j=>val (.tab j)) hgl;have t0:=(ab.cellAt (g*3) oM).trans t0;have t1:=(ab.cellAt (g*3+1) oM).trans t1;have t2:=(ab.cellAt (g*3+2) oM).trans t2;have u0:=ab.frozenAt (g*3);have u1:=ab.frozenAt (g*3+1);have u2:=ab.frozenAt (g*3+2);have ac:=ad.dk.own.row .f (Af.f m);rw[e2]at ac;have ac:w1.ownsRow B 3 1 (lZ fg m.s.length fc) m.s.length (Ae m.f):=by rw[<-hrl];rw[<-hrl]at ac;exact ac
 have t3:w1.cell? (aD fg g)=some (iI (m.f.getD g 0)):=by
  refine(ac.cellAt g oM).trans ?_;unfold Ae;rw[Dm,Co (by rw[hrl];exact hgl)];simp[List.getD,hrl,hgl]
 have u3:=ac.frozenAt g;clear ab ac aa hK1 hK2 mS ag d0 d1 d2 d3 d4 i0 i1 i4
 go_region_held3 (fun W=>W.cell? (aD D (0+1+1))=some (lZ sg m.s.length sc)/\W.cell? (aD D (0+1+1+1))=some (lZ fg m.s.length fc)/\W.cell? (aZ w.heap.size)=some (iI k)/\W.cell? (aD w.heap.size (0+1))=some (.string d)/\W.cell? (aD w.heap.size (0+1+1))=some (.slice ea en ec)) (first|exact⟨i2,i3,s0,s1,s2⟩|go_keep) (fail)
 have af:=Ij (he.alloc (oS k d ea en ec)) b1;have hF:=(ad.setSlot hgl e1 k d es af hfar hD (fun q e=>.inl e)).setRefs (g:=fg) (n:=m.s.length) (cap:=fc) ((Ap _ _ (by nofun)).trans e2) g 1;have HF:Hd (Ay w ((((w1.setCell (aD sg (g*3)) (iI k)).setCell (aD sg (g*3+1)) (.string d)).setCell (aD sg (g*3+2)) (.slice ea en ec)).setCell (aD fg g) (iI 1)).drew B D m val (.slice ea en ec) {m with s:=m.s.set g (k,d,es),f:=m.f.set g 1} (Az val (.tab g) (.slice ea en ec))):=(hF.drew).pre b0 hB;clear hF af ad;go_wp2_with fail;go_ret;exact⟨rfl,_,HF.o,Ap _ _ (by nofun)⟩

abbrev z3:List Value:=[iI 0,.string ⟨#[]⟩,nl]
abbrev z1:List Value:=[iI 0]
structure Dp (w1:World) (B:Nat) (sv0 fv0:Value) (n:Nat) (xs ys:List Value) (sv fv:Value) (cS cR:Bool) (W:World):Prop where
 bel:Below B w1 W
 bB:B<=w1.heap.size
 s:W.ownsRow B 85 3 sv (if cS then n+1 else n) (if cS then xs++z3 else xs)
 r:W.ownsRow B 3 1 fv (if cR then n+1 else n) (if cR then ys++z1 else ys)
 keep:∀q,q<w1.heap.size->sv0.ownBlock≠some q->fv0.ownBlock≠some q->W.heap[q]?=w1.heap[q]?
 sb:sv.ownBlock=sv0.ownBlock\/∀g,sv.ownBlock=some g->w1.heap.size<=g
 fb:fv.ownBlock=fv0.ownBlock\/∀g,fv.ownBlock=some g->w1.heap.size<=g
 ap:∀g,sv.ownBlock=some g->fv.ownBlock≠some g
theorem Dp.alloc (h:Dp w1 B sv0 fv0 n xs ys sv fv cS cR W)(o:Obj):Dp w1 B sv0 fv0 n xs ys sv fv cS cR (W.alloc o):=
 ⟨h.bel.alloc (Bg h.bB h.bel.size) o,h.bB,h.s.alloc o,h.r.alloc o,fun q hq h1 h2=>(Ch W o q (AO hq h.bel.size)).trans (h.keep q hq h1 h2),h.sb,h.fb,h.ap⟩
theorem Dp.drew (h:Dp w1 B sv0 fv0 n xs ys sv fv cS cR W):Dp w1 B sv0 fv0 n xs ys sv fv cS cR W.drew:=
 ⟨h.bel.drew,h.bB,h.s.drew,h.r.drew,h.keep,h.sb,h.fb,h.ap⟩
theorem gk {size:Nat}{e:TypeId}(h:W.ownsRow B e size v n xs){A:Array Value}{t:TypeId}(hq:W.heap[q]?=some (.cells A t))(ht:t≠e):some q≠v.ownBlock:=fun x=>by
 rcases h.2 with⟨rfl,_⟩|⟨g,cap,cur,rfl,_,hg,_⟩
 ·cases x
 ·have x:q=g:=BJ x;subst x;rw[hg]at hq;simp only[Ct,Obj.cells.injEq]at hq;exact ht hq.2.1.symm
def Kp (W W':World) (e:TypeId):Prop:=∀ (q:Nat) (A:Array Value) (t:TypeId),W.heap[q]?=some (.cells A t)->t≠e->W'.heap[q]?=some (.cells A t)
theorem SY {size:Nat}{e:TypeId}(h:W.ownsRow B e size v n xs)(hg:W.grownBy W' v.ownBlock):Kp W W' e:=fun q _ _ hq ht=>
 (hg.block q (AA hq) (gk h hq ht)).trans hq
theorem Dp.appS {v':Value}(h:Dp w1 B sv0 fv0 n xs ys sv fv false cR W)(hg:W.grownBy W' sv.ownBlock)(hr:W'.ownsRow B 85 3 v' (n+1) (xs++z3))(hb:v'.ownBlock=sv.ownBlock\/v'.ownBlock=some W.heap.size):Dp w1 B sv0 fv0 n xs ys v' fv true cR W':=by
 have hne:fv.ownBlock=none\/fv.ownBlock≠sv.ownBlock:=by
  cases e:fv.ownBlock with
  | none=>exact .inl rfl
  | some g=>exact .inr (fun x=>h.ap g x.symm e)
 have hlt:∀g,fv.ownBlock=some g->g<W.heap.size:=fun g e=>(h.r.lt g e).2
 refine⟨h.bel.grown hg (Bg h.bB h.bel.size) (fun k e=>(h.s.lt k e).1),h.bB,hr,h.r.kept hg hne,fun q hq h1 h2=>?_,?_,h.fb,?_⟩
 ·refine(hg.block q (AO hq h.bel.size) (fun e=>?_)).trans (h.keep q hq h1 h2);rcases h.sb with x|x
  ·exact h1 (x.symm.trans e.symm)
  ·have:=x q e.symm;omega
 ·rcases hb with x|x
  ·rw[x];exact h.sb
  ·refine .inr (fun g e=>?_);rw[x]at e
   cases e
   exact h.bel.size
 ·intro g e;rcases hb with x|x
  ·exact h.ap g (x.symm.trans e)
  ·rw[x]at e
   cases e
   intro y;have:=hlt _ y;omega
theorem Dp.appR {v':Value}(h:Dp w1 B sv0 fv0 n xs ys sv fv cS false W)(hg:W.grownBy W' fv.ownBlock)(hr:W'.ownsRow B 3 1 v' (n+1) (ys++z1))(hb:v'.ownBlock=fv.ownBlock\/v'.ownBlock=some W.heap.size):Dp w1 B sv0 fv0 n xs ys sv v' cS true W':=by
 have hne:sv.ownBlock=none\/sv.ownBlock≠fv.ownBlock:=by
  cases e:sv.ownBlock with
  | none=>exact .inl rfl
  | some g=>exact .inr (fun x=>h.ap g e x.symm)
 have hlt:∀g,sv.ownBlock=some g->g<W.heap.size:=fun g e=>(h.s.lt g e).2
 refine⟨h.bel.grown hg (Bg h.bB h.bel.size) (fun k e=>(h.r.lt k e).1),h.bB,h.s.kept hg hne,hr,fun q hq h1 h2=>?_,h.sb,?_,?_⟩
 ·refine(hg.block q (AO hq h.bel.size) (fun e=>?_)).trans (h.keep q hq h1 h2);rcases h.fb with x|x
  ·exact h2 (x.symm.trans e.symm)
  ·have:=x q e.symm;omega
 ·rcases hb with x|x
  ·rw[x];exact h.fb
  ·refine .inr (fun g e=>?_);rw[x]at e
   cases e
   exact h.bel.size
 ·intro g e y;rcases hb with x|x
  ·exact h.ap g e (x.symm.trans y)
  ·rw[x]at y
   cases y
   have:=hlt _ e;omega
theorem Dp.sForm (h:Dp w1 B sv0 fv0 n xs ys sv fv true cR W):∃ao cap,sv=.slice ao (n+1) cap:=B0 h.s
theorem Dp.rForm (h:Dp w1 B sv0 fv0 n xs ys sv fv cS true W):∃ao cap,fv=.slice ao (n+1) cap:=B0 h.r
theorem RU {l:List Value}{t:TypeId}(h:W.heap[N]?=some (.cells l.toArray t)):∀ (j:Nat) (u:Value),l[j]?=some u->W.cell? (((aZ N):Addr).add j)=some u:=fun j u hu=>by
 rw[EI,Eh];simp[World.cell?,h,hu]
theorem Oe {ops:Array Oper}{o:Oper}{a:Act}{K:Act->World->Prop}{Q:Exit->Act->World->Prop}{E:Prop}(hgd:o.guard=none)(s x:Operand)(ho:o.op=.call {callee:=.builtin .append,args:=#[s,x],argTypes:=#[30,30]})(TK:Dp w1 B sv0 fv0 n xs ys sv fv false cR W)(hn:n<=40)(hs:a.eval s=sv)(hx:a.eval x=lZ N 1 1)(hN:W.heap[N]?=some zS)(h:∀v' w',Hd (Dp w1 B sv0 fv0 n xs ys v' fv true cR w')->Hd (Kp W w' 85)->K (a.put o.dst v') w'):if Region.wanted o (yielded ops a.tmps)=true then Oper.wp prog o a W K Q else E:=by
 have hw:Region.wanted o (yielded ops a.tmps)=true:=by simp[Region.wanted,hgd]
 rw[Ab hw];obtain⟨i0,hi,hz0,aa,ab⟩:=Fj J0;obtain⟨v',w',hr,g2,g3,_,g5⟩:=run_append_own_at (P:=prog) W B 30 o.type 85 i0 _ 3 48 underlying30 hi hz0 aa ab rfl dE sv n xs TK.s (aZ N) 1 1 z3 rfl (RU (l:=z3) hN) (by intro u hu;simp at hu;rcases hu with rfl|rfl|rfl<;>rfl) (by unfold maxLen;omega) oM (Bg TK.bB TK.bel.size);unfold Oper.wp execOp;simp only[ho,resolve,invoke,builtin,Sem.run_bind,Sem.run_pure,GS,GQ,Dc,Gr,hs,hx,hr];exact h v' w' (TK.appS g3 g2 g5) (SY TK.s g3)
theorem Od {ops:Array Oper}{o:Oper}{a:Act}{K:Act->World->Prop}{Q:Exit->Act->World->Prop}{E:Prop}(hgd:o.guard=none)(s x:Operand)(ho:o.op=.call {callee:=.builtin .append,args:=#[s,x],argTypes:=#[29,29]})(TK:Dp w1 B sv0 fv0 n xs ys sv fv cS false W)(hn:n<=40)(hs:a.eval s=fv)(hx:a.eval x=lZ N 1 1)(hN:W.heap[N]?=some (oI 0))(h:∀v' w',Hd (Dp w1 B sv0 fv0 n xs ys sv v' cS true w')->Hd (Kp W w' 3)->K (a.put o.dst v') w'):if Region.wanted o (yielded ops a.tmps)=true then Oper.wp prog o a W K Q else E:=by
 have hw:Region.wanted o (yielded ops a.tmps)=true:=by simp[Region.wanted,hgd]
 rw[Ab hw];obtain⟨i0,hi,hz0,aa,ab⟩:=Fj info3;obtain⟨v',w',hr,g2,g3,_,g5⟩:=run_append_own_at (P:=prog) W B 29 o.type 3 i0 _ 1 8 underlying29 hi hz0 aa ab rfl dE fv n ys TK.r (aZ N) 1 1 z1 rfl (RU (l:=z1) hN) (by intro u hu;simp at hu;subst hu;rfl) (by unfold maxLen;omega) oM (Bg TK.bB TK.bel.size);unfold Oper.wp execOp;simp only[ho,resolve,invoke,builtin,Sem.run_bind,Sem.run_pure,GS,GQ,Dc,Gr,hs,hx,hr];exact h v' w' (TK.appR g3 g2 g5) (SY TK.r g3)

theorem Zd (l:List Int)(x:Int):Ae (l++[x])=Ae l++[iI x]:=by simp[Ae]
theorem Ay.both {m:Ac}(h:Ay w w1 B D m val ev m val)(hr:m.f.length=m.s.length)(TK:Dp w1 B (val .s) (val .f) m.s.length (A2 m.s (fun j=>val (.tab j))) (Ae m.f) sv fv true true W):Ay w ((W.setCell (aD D 2) sv).setCell (aD D 3) fv) B D m val ev {m with s:=m.s++[(0,⟨#[]⟩,[])],f:=m.f++[0]} (Az (Az (Az val (.tab m.s.length) AF) .s sv) .f fv):=by
 have aj:=h.dk.lt;have hv:∀b,b≠.s->b≠.f->b≠.tab m.s.length->Az (Az (Az val (.tab m.s.length) AF) .s sv) .f fv b=val b:=fun b h1 h2 h3=>by rw[Ap _ _ h2,Ap _ _ h1,Ap _ _ h3]
 have ah:Az (Az (Az val (.tab m.s.length) AF) .s sv) .f fv .s=sv:=by rw[Ap _ _ (by nofun),Bh]
 have ag:Az (Az (Az val (.tab m.s.length) AF) .s sv) .f fv .f=fv:=Bh _ _ _;have af:Az (Az (Az val (.tab m.s.length) AF) .s sv) .f fv (.tab m.s.length)=AF:=by rw[Ap _ _ (by nofun),Ap _ _ (by nofun),Bh]
 have aa:∀b,Af {m with s:=m.s++[(0,⟨#[]⟩,[])],f:=m.f++[0]} b->b=.s\/b=.f\/b=.tab m.s.length\/(Af m b/\b≠.s/\b≠.f/\b≠.tab m.s.length):=fun b hb=>by
  rcases hb.cases with rfl|rfl|rfl|rfl|⟨j,rfl,hj⟩|⟨j,rfl,hj⟩
  ·exact .inr (.inr (.inr ⟨Af.r m,(by nofun),(by nofun),(by nofun)⟩))
  ·exact .inl rfl
  ·exact .inr (.inl rfl)
  ·exact .inr (.inr (.inr ⟨Af.p m,(by nofun),(by nofun),(by nofun)⟩))
  ·by_cases e:j=m.s.length
   ·subst e;exact .inr (.inr (.inl rfl))
   ·have hj:j<(m.s++[((0:Int),(⟨#[]⟩:ByteArray),([]:List Int))]).length:=hj;rw[Bl,Hf]at hj;exact .inr (.inr (.inr ⟨Af.tab oM,(by nofun),(by nofun),(by intro x;injection x with _ x;exact e x)⟩))
  ·exact .inr (.inr (.inr ⟨Af.sr hj,(by nofun),(by nofun),(by nofun)⟩))
 have ae:∀b,Af m b->b≠.s->b≠.f->∀g,(val b).ownBlock=some g->g<w1.heap.size/\(val .s).ownBlock≠some g/\(val .f).ownBlock≠some g:=fun b hb h1 h2 g e=>
  ⟨((h.dk.own.row b hb).lt g e).2,h.dk.own.apart b .s hb (Af.s m) h1 g e,h.dk.own.apart b .f hb (Af.f m) h2 g e⟩
 have ac:∀q,q<w1.heap.size->(val .s).ownBlock≠some q->sv.ownBlock≠some q:=fun q hq hn e=>by
  rcases TK.sb with x|x
  ·exact hn (x.symm.trans e)
  ·have:=x q e;omega
 have ab:∀q,q<w1.heap.size->(val .f).ownBlock≠some q->fv.ownBlock≠some q:=fun q hq hn e=>by
  rcases TK.fb with x|x
  ·exact hn (x.symm.trans e)
  ·have:=x q e;omega
 have am:=h.dk.far .s (Af.s m);have al:=h.dk.far .f (Af.f m);have ad:∀b,Af {m with s:=m.s++[(0,⟨#[]⟩,[])],f:=m.f++[0]} b->(Az (Az (Az val (.tab m.s.length) AF) .s sv) .f fv b).ownBlock≠some D:=fun b hb=>by
  rcases aa b hb with rfl|rfl|rfl|⟨hl,h1,h2,h3⟩
  ·rw[ah];exact ac D aj am
  ·rw[ag];exact ab D aj al
  ·rw[af];exact GG _
  ·rw[hv b h1 h2 h3];exact h.dk.far b hl
 have an:OI W B (Az (Az (Az val (.tab m.s.length) AF) .s sv) .f fv) {m with s:=m.s++[(0,⟨#[]⟩,[])],f:=m.f++[0]}:=by
  refine⟨fun b hb=>?_,fun b c hb hc hne q hq=>?_⟩
  ·rcases aa b hb with rfl|rfl|rfl|⟨hl,h1,h2,h3⟩
   ·rw[ah];have e1:=Su m.s (fun j=>val (.tab j)) (fun j=>Az (Az (Az val (.tab m.s.length) AF) .s sv) .f fv (.tab j)) (0,⟨#[]⟩,[]) (fun j hj=>hv _ (by nofun) (by nofun) (by intro x;injection x with _ x;omega));rw[af]at e1;have e2:AP {m with s:=m.s++[(0,⟨#[]⟩,[])],f:=m.f++[0]} .s=m.s.length+1:=by show (m.s++[_]).length=_;simp
    have e1:Bn {m with s:=m.s++[(0,⟨#[]⟩,[])],f:=m.f++[0]} (Az (Az (Az val (.tab m.s.length) AF) .s sv) .f fv) .s=A2 m.s (fun j=>val (.tab j))++z3:=e1;rw[e1,e2];exact TK.s
   ·rw[ag];have e1:Bn {m with s:=m.s++[(0,⟨#[]⟩,[])],f:=m.f++[0]} (Az (Az (Az val (.tab m.s.length) AF) .s sv) .f fv) .f=Ae m.f++z1:=Zd _ _;have e2:AP {m with s:=m.s++[(0,⟨#[]⟩,[])],f:=m.f++[0]} .f=m.s.length+1:=by show (m.f++[_]).length=_;simp[hr]
    rw[e1,e2];exact TK.r
   ·rw[af];have e0:(m.s++[((0:Int),(⟨#[]⟩:ByteArray),([]:List Int))]).getD m.s.length default=(0,⟨#[]⟩,[]):=by simp[List.getD]
    have e1:Bn {m with s:=m.s++[(0,⟨#[]⟩,[])],f:=m.f++[0]} (Az (Az (Az val (.tab m.s.length) AF) .s sv) .f fv) (.tab m.s.length)=[]:=by
     show Ae ((m.s++[((0:Int),(⟨#[]⟩:ByteArray),([]:List Int))]).getD m.s.length default).2.2=_
     rw[e0];rfl
    have e2:AP {m with s:=m.s++[(0,⟨#[]⟩,[])],f:=m.f++[0]} (.tab m.s.length)=0:=by
     show ((m.s++[((0:Int),(⟨#[]⟩:ByteArray),([]:List Int))]).getD m.s.length default).2.2.length=_
     rw[e0];rfl
    rw[e1,e2];exact DG _ _ _ _
   ·rw[hv b h1 h2 h3];have e1:Bn {m with s:=m.s++[(0,⟨#[]⟩,[])],f:=m.f++[0]} (Az (Az (Az val (.tab m.s.length) AF) .s sv) .f fv) b=Bn m val b/\AP {m with s:=m.s++[(0,⟨#[]⟩,[])],f:=m.f++[0]} b=AP m b:=by
     rcases hl.cases with rfl|rfl|rfl|rfl|⟨j,rfl,hj⟩|⟨j,rfl,hj⟩
     ·exact⟨rfl,rfl⟩
     ·exact absurd rfl h1
     ·exact absurd rfl h2
     ·refine⟨?_,rfl⟩;exact XW (fun j _=>hv (.sr j) (by nofun) (by nofun) (by nofun))
     ·have e:(m.s++[((0:Int),(⟨#[]⟩:ByteArray),([]:List Int))]).getD j default=m.s.getD j default:=by simp[List.getD,DY,hj]
      constructor
      ·show Ae ((m.s++[((0:Int),(⟨#[]⟩:ByteArray),([]:List Int))]).getD j default).2.2=_
       rw[e];rfl
      ·show ((m.s++[((0:Int),(⟨#[]⟩:ByteArray),([]:List Int))]).getD j default).2.2.length=_
       rw[e];rfl
     ·exact⟨rfl,rfl⟩
    rw[e1.1,e1.2];exact CX (h.dk.own.row b hl) (fun g e=>by obtain⟨x1,x2,x3⟩:=ae b hl h1 h2 g e;exact TK.keep g x1 x2 x3)
  ·rcases aa b hb with rfl|rfl|rfl|⟨hl,h1,h2,h3⟩
   ·rw[ah]at hq;rcases aa c hc with rfl|rfl|rfl|⟨kl,k1,k2,k3⟩
    ·exact absurd rfl hne
    ·rw[ag];exact TK.ap q hq
    ·rw[af];exact GG _
    ·rw[hv c k1 k2 k3];intro y;obtain⟨x1,x2,_⟩:=ae c kl k1 k2 q y;exact ac q x1 x2 hq
   ·rw[ag]at hq;rcases aa c hc with rfl|rfl|rfl|⟨kl,k1,k2,k3⟩
    ·rw[ah];exact fun y=>TK.ap q y hq
    ·exact absurd rfl hne
    ·rw[af];exact GG _
    ·rw[hv c k1 k2 k3];intro y;obtain⟨x1,_,x3⟩:=ae c kl k1 k2 q y;exact ab q x1 x3 hq
   ·rw[af]at hq;cases hq
   ·rw[hv b h1 h2 h3]at hq;obtain⟨x1,x2,x3⟩:=ae b hl h1 h2 q hq;rcases aa c hc with rfl|rfl|rfl|⟨kl,k1,k2,k3⟩
    ·rw[ah];exact ac q x1 x2
    ·rw[ag];exact ab q x1 x3
    ·rw[af];exact GG _
    ·rw[hv c k1 k2 k3];exact h.dk.own.apart b c hl kl hne q hq
 have ak:W.heap[D]?=some (.cells #[iI m.g,val .r,val .s,val .f,val .p] 64):=(TK.keep D aj am al).trans h.dk.box;refine⟨⟨(an.far ad).far ad,?_,h.dk.ge,ad⟩,((h.bel.trans TK.bel).setCell h.dk.ge _).setCell h.dk.ge _,fun q hq hqD hev hm=>?_,fun q hq hev hm b hb=>?_⟩
 ·rw[ah,ag,hv .r (by nofun) (by nofun) (by nofun),hv .p (by nofun) (by nofun) (by nofun)];exact Bf (Bf ak 2 _) 3 _
 ·have ai:q<w1.heap.size:=AO hq h.bel.size;have hs:=h.src q hq hev hm;exact(Bt (Bt rfl hqD _ _) hqD _ _).trans ((TK.keep q ai (hs .s (Af.s m)) (hs .f (Af.f m))).trans (h.keep q hq hqD hev hm))
 ·have ai:q<w1.heap.size:=AO hq h.bel.size;have hs:=h.src q hq hev hm;rcases aa b hb with rfl|rfl|rfl|⟨hl,h1,h2,h3⟩
  ·rw[ah];exact ac q ai (hs .s (Af.s m))
  ·rw[ag];exact ab q ai (hs .f (Af.f m))
  ·rw[af];exact GG _
  ·rw[hv b h1 h2 h3];exact hs b hl
theorem V6 {m:Ac}(TK:Dp w1 B (val .s) (val .f) n xs ys sv fv cS cR W)(hfar:EH m val (.tab m.s.length) ev)(hlt:∀g,ev.ownBlock=some g->g<w1.heap.size):EH {m with s:=m.s++[(0,⟨#[]⟩,[])],f:=m.f++[0]} (Az (Az (Az val (.tab m.s.length) AF) .s sv) .f fv) (.tab m.s.length) ev:=fun b hb hne g hg=>by
 have hg1:=hlt g hg
 by_cases h2:b=.f
 ·subst h2;rw[Bh];intro e;rcases TK.fb with x|x
  ·exact hfar .f (Af.f m) (by intro y;cases y) g hg (x.symm.trans e)
  ·have:=x g e;omega
 rw[Ap _ _ h2]
 by_cases h1:b=.s
 ·subst h1;rw[Bh];intro e;rcases TK.sb with x|x
  ·exact hfar .s (Af.s m) (by intro y;cases y) g hg (x.symm.trans e)
  ·have:=x g e;omega
 rw[Ap _ _ h1,Ap _ _ hne];refine hfar b ?_ hne g hg;rcases hb.cases with rfl|rfl|rfl|rfl|⟨j,rfl,hj⟩|⟨j,rfl,hj⟩
 ·exact Af.r m
 ·exact absurd rfl h1
 ·exact absurd rfl h2
 ·exact Af.p m
 ·have hj:j<(m.s++[((0:Int),(⟨#[]⟩:ByteArray),([]:List Int))]).length:=hj;rw[Bl,Hf]at hj;refine Af.tab ?_;rcases Dq j m.s.length with h|h
  ·exact h
  ·exact absurd (by rw[show j=m.s.length by omega]) hne
 ·exact Af.sr hj

theorem KN (W:World)(A:Array Value)(t:TypeId):(W.alloc (.cells A t)).heap[W.heap.size]?=some (.cells A t):=Aw _ _
theorem Nz (W:World)(A:Array Value)(t:TypeId)(o:Obj):((W.alloc (.cells A t)).alloc o).heap[W.heap.size]?=some (.cells A t):=Aj (Aw _ _) _
theorem NA (W:World)(A:Array Value)(t:TypeId)(o:Obj):((W.alloc o).alloc (.cells A t)).heap[W.heap.size+1]?=some (.cells A t):=AR (by simp)
def VL (w1:World) (B D:Nat) (sv0 fv0:Value) (m:Ac) (val:Nm->Value) (wx:World):Prop:=∃ (pa:Option Addr) (pc:Nat) (qa:Option Addr) (qc:Nat) (W:World),Dp w1 B sv0 fv0 m.s.length (A2 m.s (fun j=>val (.tab j))) (Ae m.f) (.slice pa (m.s.length+1) pc) (.slice qa (m.s.length+1) qc) true true W/\wx=(W.setCell (aD D 2) (.slice pa (m.s.length+1) pc)).setCell (aD D 3) (.slice qa (m.s.length+1) qc)
theorem jb (m:Ac)(sg sc:Nat)(fg fc:Nat)(k:Int)(d:ByteArray)(ea:Option Addr)(en ec:Nat)(es:List Int)(B D:Nat)(val:Nm->Value)(w:World)(hK:DK w B D val m)(hB:B<=w.heap.size)(e1:val .s=lZ sg m.s.length sc)(e2:val .f=lZ fg m.s.length fc)(hs:AD m.s=0)(hg:AK m.s=m.s.length)(h40:m.s.length<40)(hrl:m.f.length=m.s.length)(he:w.ownsRow B 3 1 (.slice ea en ec) es.length (Ae es))(hfar:EH m val (.tab m.s.length) (.slice ea en ec))(hD:(Value.slice ea en ec).ownBlock≠some D):Cl 96 #[pZ D,.agg #[iI k,.string d,.slice ea en ec]] w fun r w'=>r=.returned (iI (m.s.length:Int))/\∃val',Ay w w' B D m val (.slice ea en ec) {m with s:=m.s++[(k,d,es)],f:=m.f++[1]} val'/\val' .r=val .r:=by
 have hK1:DK (w.alloc (oS k d ea en ec)) B D val m:=hK.alloc _;obtain⟨d0,d1,d2,d3,d4⟩:=hK1.five;rw[e1]at d2;rw[e2]at d3;have ad:=PU hK1.own.img.four.2.1 hs hg;rw[e1]at ad;have ar:¬m.s.length=40:=oM;rw[Aa ar,Aa ar]at ad;have b0:Bw w (w.alloc (oS k d ea en ec)):=Av;have mS:(w.alloc (oS k d ea en ec)).heap[w.heap.size]?=some (oS k d ea en ec):=Aw _ _;have aJ:=hK.lt;clear hg hs ar
 go_enter func96,ntmps96
 go_upto_region 5 with(go_at_call 160;refine ad.mono ?_;rintro e w1 ⟨rfl,b1⟩;have hK2:=hK1.below b1;obtain⟨i0,i1,i2,i3,i4⟩:=hK2.five;rw[e1]at i2;rw[e2]at i3;have ay:=Ag mS b1 (by simp);obtain⟨s0,s1,s2⟩:=BO ay);have aB:B<=w1.heap.size:=Bg hB (Bg b0.size b1.size);have ae:=hK2.own.row .f (Af.f m);have hrs:=hK2.own.row .s (Af.s m);have TK:Hd (Dp w1 B (lZ sg m.s.length sc) (lZ fg m.s.length fc) m.s.length (A2 m.s (fun j=>val (.tab j))) (Ae m.f) (lZ sg m.s.length sc) (lZ fg m.s.length fc) false false w1):=by
  refine⟨AG _ _,aB,?_,?_,fun _ _ _ _=>rfl,.inl rfl,.inl rfl,?_⟩
  ·rw[e1]at hrs;exact hrs
  ·rw[e2]at ae;have ae:w1.ownsRow B 3 1 (lZ fg m.s.length fc) m.f.length (Ae m.f):=ae;rw[hrl]at ae;exact ae
  ·intro g e;have:=hK2.own.apart .s .f (Af.s m) (Af.f m) (by nofun) g (by rw[e1];exact e);rw[e2]at this;exact this
 have aa:m.s.length<=40:=oM;have a8:D<w1.heap.size:=hK2.lt;have aw:(lZ sg m.s.length sc).ownBlock≠some D:=by have:=hK.far .s (Af.s m);rw[e1]at this;exact this
 have av:(lZ fg m.s.length fc).ownBlock≠some D:=by have:=hK.far .f (Af.f m);rw[e2]at this;exact this
 have ag:=hK2.box;rw[e1,e2]at ag;have ai:∀sv fv cS cR W,Hd (Dp w1 B (lZ sg m.s.length sc) (lZ fg m.s.length fc) m.s.length (A2 m.s (fun j=>val (.tab j))) (Ae m.f) sv fv cS cR W)->W.cell? (aD D 2)=some (lZ sg m.s.length sc)/\W.cell? (aD D 3)=some (lZ fg m.s.length fc)/\W.frozen? (aD D 2)=false/\W.frozen? (aD D 3)=false/\(W.alloc (oI 0)).cell? (aD D 2)=some (lZ sg m.s.length sc)/\(W.alloc (oI 0)).cell? (aD D 3)=some (lZ fg m.s.length fc)/\(W.alloc zS).cell? (aD D 2)=some (lZ sg m.s.length sc)/\(W.alloc zS).cell? (aD D 3)=some (lZ fg m.s.length fc):=fun sv fv cS cR W h=>by
  have hb:=(h.o.keep D a8 aw av).trans ag;exact⟨(five hb).2.2.1,(five hb).2.2.2.1,Aq hb 2,Aq hb 3,(five (Aj hb _)).2.2.1,(five (Aj hb _)).2.2.2.1,(five (Aj hb _)).2.2.1,(five (Aj hb _)).2.2.2.1⟩
 have aS:(w1.alloc zS).cell? (aD D 2)=some (lZ sg m.s.length sc):=(five (Aj ag _)).2.2.1;have aT:(w1.alloc zS).cell? (aD D 3)=some (lZ fg m.s.length fc):=(five (Aj ag _)).2.2.2.1;have aU:(w1.alloc (oI 0)).cell? (aD D 2)=some (lZ sg m.s.length sc):=(five (Aj ag _)).2.2.1;have aV:(w1.alloc (oI 0)).cell? (aD D 3)=some (lZ fg m.s.length fc):=(five (Aj ag _)).2.2.2.1;have aW:((w1.alloc zS).alloc (oI 0)).cell? (aD D 2)=some (lZ sg m.s.length sc):=(five (Aj (Aj ag _) _)).2.2.1;have aX:((w1.alloc zS).alloc (oI 0)).cell? (aD D 3)=some (lZ fg m.s.length fc):=(five (Aj (Aj ag _) _)).2.2.2.1;have aY:((w1.alloc (oI 0)).alloc zS).cell? (aD D 2)=some (lZ sg m.s.length sc):=(five (Aj (Aj ag _) _)).2.2.1;have ba:((w1.alloc (oI 0)).alloc zS).cell? (aD D 3)=some (lZ fg m.s.length fc):=(five (Aj (Aj ag _) _)).2.2.2.1
 go_cut [] from 7 (fun wx=>VL w1 B D (lZ sg m.s.length sc) (lZ fg m.s.length fc) m val wx)
 case first=>
  go_region_law (first
   | (refine Oe (by rfl) _ _ (by rfl) ab.o aa (by rfl) (by rfl) ?hN ?_;(case hN=>(first|exact ak.o _ _ _ (Nz _ _ _ _) dE|exact ak.o _ _ _ (NA _ _ _ _) dE|exact ak.o _ _ _ (KN _ _ _) dE));intro aH w3 ac al;obtain⟨pa,pc,rfl⟩:=ac.o.sForm;obtain⟨x2,x3,x4,x5,x6,x7,x8,x9⟩:=ai _ _ _ _ _ ac)
   | (refine Oe (by rfl) _ _ (by rfl) (ab.o.alloc _) aa (by rfl) (by rfl) ?hN ?_;(case hN=>(exact KN _ _ _));intro aH w3 ac al;obtain⟨pa,pc,rfl⟩:=ac.o.sForm;obtain⟨x2,x3,x4,x5,x6,x7,x8,x9⟩:=ai _ _ _ _ _ ac)
   | (refine Od (by rfl) _ _ (by rfl) ac.o aa (by rfl) (by rfl) ?hN ?_;(case hN=>(first|exact al.o _ _ _ (Nz _ _ _ _) dE|exact al.o _ _ _ (NA _ _ _ _) dE|exact al.o _ _ _ (KN _ _ _) dE));intro a7 w3 ab ak;obtain⟨qa,qc,rfl⟩:=ab.o.rForm;obtain⟨x2,x3,x4,x5,x6,x7,x8,x9⟩:=ai _ _ _ _ _ ab)
   | (refine Od (by rfl) _ _ (by rfl) (ac.o.alloc _) aa (by rfl) (by rfl) ?hN ?_;(case hN=>(exact KN _ _ _));intro a7 w3 ab ak;obtain⟨qa,qc,rfl⟩:=ab.o.rForm;obtain⟨x2,x3,x4,x5,x6,x7,x8,x9⟩:=ai _ _ _ _ _ ab)
   | (refine Oe (by rfl) _ _ (by rfl) ((TK.o.alloc _).drew) aa (by rfl) (by rfl) ?hN ?_;(case hN=>(first|exact KN _ _ _));intro aG w2 ac al;obtain⟨pa,pc,rfl⟩:=ac.o.sForm;obtain⟨y2,y3,y4,y5,y6,y7,y8,y9⟩:=ai _ _ _ _ _ ac)
   | (refine Oe (by rfl) _ _ (by rfl) (((TK.o.alloc _).alloc _).drew) aa (by rfl) (by rfl) ?hN ?_;(case hN=>(first|exact Nz _ _ _ _|exact NA _ _ _ _));intro aG w2 ac al;obtain⟨pa,pc,rfl⟩:=ac.o.sForm;obtain⟨y2,y3,y4,y5,y6,y7,y8,y9⟩:=ai _ _ _ _ _ ac)
   | (refine Od (by rfl) _ _ (by rfl) ((TK.o.alloc _).drew) aa (by rfl) (by rfl) ?hN ?_;(case hN=>(first|exact KN _ _ _));intro a6 w2 ab ak;obtain⟨qa,qc,rfl⟩:=ab.o.rForm;obtain⟨y2,y3,y4,y5,y6,y7,y8,y9⟩:=ai _ _ _ _ _ ab)
   | (refine Od (by rfl) _ _ (by rfl) (((TK.o.alloc _).alloc _).drew) aa (by rfl) (by rfl) ?hN ?_;(case hN=>(first|exact Nz _ _ _ _|exact NA _ _ _ _));intro a6 w2 ab ak;obtain⟨qa,qc,rfl⟩:=ab.o.rForm;obtain⟨y2,y3,y4,y5,y6,y7,y8,y9⟩:=ai _ _ _ _ _ ab))
  all_goals
   go_wp2_with fail;go_meet;exact⟨_,_,_,_,w3,(by first|exact ab.o|exact ac.o),rfl⟩
 case rest=>
 obtain⟨pa,pc,qa,qc,W,aq,au⟩:=hcut;have ax:=((Ay.refl hK1 (.slice ea en ec)).below (by simp;omega) b1);have af:=ax.both hrl (by rw[e1,e2];exact aq);rw[<-au]at af;obtain⟨vn,am⟩:=nM (Az (Az (Az val (.tab m.s.length) AF) .s (.slice pa (m.s.length+1) pc)) .f (.slice qa (m.s.length+1) qc));rw[am]at af;have n1:vn .s=.slice pa (m.s.length+1) pc:=by rw[<-am,Ap _ _ (by nofun),Bh]
 have n2:vn .f=.slice qa (m.s.length+1) qc:=by rw[<-am,Bh]
 have HR:Hd (vn .r=val .r):=by show _=_;rw[<-am,Ap _ _ (by nofun),Ap _ _ (by nofun),Ap _ _ (by nofun)]
 have hsl:(m.s++[((0:Int),(⟨#[]⟩:ByteArray),([]:List Int))]).length=m.s.length+1:=by simp
 have hrs:=af.dk.own.row .s (Af.s _);rw[n1]at hrs;have hrs:wc.ownsRow B 85 3 (.slice pa (m.s.length+1) pc) (m.s.length+1) (A2 (m.s++[(0,⟨#[]⟩,[])]) (fun j=>vn (.tab j))):=by rw[<-hsl];rw[<-hsl]at hrs;exact hrs
 have ae:=af.dk.own.row .f (Af.f _);rw[n2]at ae;have ah:(m.f++[(0:Int)]).length=m.s.length+1:=by simp[hrl]
 have ae:wc.ownsRow B 3 1 (.slice qa (m.s.length+1) qc) (m.s.length+1) (Ae (m.f++[0])):=by rw[<-ah];rw[<-ah]at ae;exact ae
 obtain⟨pg,aQ,ep⟩:=Eo hrs;simp only[BP]at ep;obtain⟨rfl,_,rfl⟩:=ep;obtain⟨qg,aR,eq⟩:=Eo ae;simp only[BP]at eq;obtain⟨rfl,_,rfl⟩:=eq;have az:wc.heap[w.heap.size]?=some (oS k d ea en ec):=af.cells (Aw _ _) oM (fun e=>by have:=(he.lt _ e).2;omega) (hK.own.lt lE);obtain⟨s0,s1,s2⟩:=BO az;obtain⟨j0,j1,j2,j3,j4⟩:=af.dk.five;rw[n1]at j2;rw[n2]at j3;obtain⟨t0,t1,t2⟩:=D3 (L:=m.s++[((0:Int),(⟨#[]⟩:ByteArray),([]:List Int))]) (tv:=fun j=>vn (.tab j)) (j:=m.s.length) (by simp);have t0:=(hrs.cellAt (m.s.length*3) oM).trans t0;have t1:=(hrs.cellAt (m.s.length*3+1) oM).trans t1;have t2:=(hrs.cellAt (m.s.length*3+2) oM).trans t2;have u0:=hrs.frozenAt (m.s.length*3);have u1:=hrs.frozenAt (m.s.length*3+1);have u2:=hrs.frozenAt (m.s.length*3+2);have t3:wc.cell? (aD qg m.s.length)=some (iI ((m.f++[0]).getD m.s.length 0)):=Le (by rw[ah];exact ae) (by rw[ah];omega);have u3:=ae.frozenAt m.s.length;have aK:(m.s.length:Int)<(m.s.length:Int)+1:=oM;have aw:¬D=pg:=fun e=>af.dk.far .s (Af.s _) (by rw[n1,e];rfl)
 have av:¬D=qg:=fun e=>af.dk.far .f (Af.f _) (by rw[n2,e];rfl)
 have aO:¬pg=D:=fun e=>aw e.symm
 have aL:¬qg=D:=fun e=>av e.symm
 have aC:¬pg=qg:=fun e=>af.dk.own.apart .s .f (Af.s _) (Af.f _) (by nofun) pg (by rw[n1];rfl) (by rw[n2,e];rfl)
 have aM:¬qg=pg:=fun e=>aC e.symm
 have aF:¬w.heap.size=pg:=fun e=>af.src w.heap.size (by simp) (fun e=>by have:=(he.lt _ e).2;omega) (hK.own.lt lE) .s (Af.s _) (by rw[n1,e];rfl)
 have aE:¬w.heap.size=qg:=fun e=>af.src w.heap.size (by simp) (fun e=>by have:=(he.lt _ e).2;omega) (hK.own.lt lE) .f (Af.f _) (by rw[n2,e];rfl)
 have aP:¬pg=w.heap.size:=fun e=>aF e.symm
 have aN:¬qg=w.heap.size:=fun e=>aE e.symm
 have ap:∀g,(Value.slice ea en ec).ownBlock=some g->g<w.heap.size:=fun g e=>(he.lt g e).2
 have aA:w.heap.size<=w1.heap.size:=Bg b0.size b1.size;have ao:wc.ownsRow B 3 1 (.slice ea en ec) es.length (Ae es):=by
  rw[au];refine Ds (Ds (CX (Ij (he.alloc (oS k d ea en ec)) b1) (fun g e=>?_)) hD _) hD _;have x1:=hfar .s (Af.s m) (by intro y;cases y) g e;have x2:=hfar .f (Af.f m) (by intro y;cases y) g e;rw[e1]at x1;rw[e2]at x2;exact aq.keep g (by have:=ap g e;omega) x1 x2
 have aj:EH {m with s:=m.s++[(0,⟨#[]⟩,[])],f:=m.f++[0]} vn (.tab m.s.length) (.slice ea en ec):=by
  rw[<-am];have an:=aq;rw[<-e1,<-e2]at an;exact V6 an hfar (fun g e=>by have:=ap g e;omega)
 have hF:=(af.setSlot (t:=m.s.length) (by show _<(m.s++[_]).length;simp) n1 k d es ao aj hD (fun q e=>.inl e)).setRefs (g:=qg) (n:=m.s.length+1) (cap:=qc) ((Ap _ _ (by nofun)).trans n2) m.s.length 1;have em:({m with s:=(m.s++[((0:Int),(⟨#[]⟩:ByteArray),([]:List Int))]).set m.s.length (k,d,es),f:=(m.f++[0]).set m.s.length 1} : Ac) = {m with s:=m.s++[(k,d,es)],f:=m.f++[1]}:=by
  have x1:(m.s++[((0:Int),(⟨#[]⟩:ByteArray),([]:List Int))]).set m.s.length (k,d,es)=m.s++[(k,d,es)]:=by simp
  have x2:(m.f++[(0:Int)]).set m.s.length 1=m.f++[1]:=by rw[<-hrl];simp
  rw[x1,x2]
 have hF:=hF.drew;rw[em]at hF;have HF:=A9 (hF.pre b0 hB);clear hF ao aj ax af aq au am hrs ae TK hK1 hK2 ad mS ay az d0 d1 d2 d3 d4 i0 i1 i2 i3 i4 j0 j1 j4 n1 n2 em hsl ah ag ai;go_wp2_with fail
 go_region_held3 (fun W=>W.cell? (aD D (0+1+1))=some (lZ pg (m.s.length+1) pc)/\W.cell? (aD D (0+1+1+1))=some (lZ qg (m.s.length+1) qc)/\W.cell? (aZ w.heap.size)=some (iI k)/\W.cell? (aD w.heap.size (0+1))=some (.string d)/\W.cell? (aD w.heap.size (0+1+1))=some (.slice ea en ec)) (first|exact⟨j2,j3,s0,s1,s2⟩|go_keep) (fail)
 go_wp2_with fail;go_ret;exact⟨rfl,_,HF.o,(Ap _ _ (by nofun)).trans HR.o⟩

theorem DK.rootAt {m:Ac}(h:DK W B D val m)(hr:r<m.r.length):∃g cap,val .r=lZ g m.r.length cap/\W.cell? (aD g r)=some (iI (m.r.getD r 0))/\W.frozen? (aD g r)=false/\B<=g/\g<W.heap.size/\g≠D:=by
 have aa:=h.own.row .r (Af.r m);rcases Di aa with⟨_,hn⟩|⟨g,cap,e,hb,hg,_⟩
 ·have hn:m.r.length=0:=hn;omega
 ·have e:val .r=lZ g m.r.length cap:=e;rw[e]at aa;exact⟨g,cap,e,Le aa hr,aa.frozenAt r,hb,hg,fun x=>h.far .r (Af.r m) (by rw[e,x];rfl)⟩
theorem DK.refsAt {m:Ac}(h:DK W B D val m)(hr:r<m.f.length):∃g cap,val .f=lZ g m.f.length cap/\W.cell? (aD g r)=some (iI (m.f.getD r 0))/\W.frozen? (aD g r)=false/\B<=g/\g<W.heap.size/\g≠D:=by
 have aa:=h.own.row .f (Af.f m);rcases Di aa with⟨_,hn⟩|⟨g,cap,e,hb,hg,_⟩
 ·have hn:m.f.length=0:=hn;omega
 ·have e:val .f=lZ g m.f.length cap:=e;rw[e]at aa;exact⟨g,cap,e,Le aa hr,aa.frozenAt r,hb,hg,fun x=>h.far .f (Af.f m) (by rw[e,x];rfl)⟩
theorem DK.slotAt {m:Ac}(h:DK W B D val m)(ht:t<m.s.length):∃g cap,val .s=lZ g m.s.length cap/\W.cell? (aD g (t*3))=some (iI (m.s.getD t default).1)/\W.cell? (aD g (t*3+1))=some (.string (m.s.getD t default).2.1)/\W.cell? (aD g (t*3+2))=some (val (.tab t))/\(∀i,W.frozen? (aD g i)=false)/\B<=g/\g<W.heap.size/\g≠D/\Sl W (val (.tab t)) (m.s.getD t default).2.2:=by
 have aa:=h.own.row .s (Af.s m);rcases Di aa with⟨_,hn⟩|⟨g,cap,e,hb,hg,_⟩
 ·have hn:m.s.length=0:=hn;omega
 ·have e:val .s=lZ g m.s.length cap:=e;rw[e]at aa;have aa:W.ownsRow B 85 3 (lZ g m.s.length cap) m.s.length (A2 m.s (fun j=>val (.tab j))):=aa;obtain⟨s0,s1,s2⟩:=D3 (L:=m.s) (tv:=fun j=>val (.tab j)) ht;exact⟨g,cap,e,(aa.cellAt (t*3) oM).trans s0,(aa.cellAt (t*3+1) oM).trans s1,(aa.cellAt (t*3+2) oM).trans s2,fun i=>aa.frozenAt i,hb,hg,fun x=>h.far .s (Af.s m) (by rw[e,x];rfl),CY (h.own.row (.tab t) (Af.tab ht))⟩
theorem DK.root5 {m:Ac}(h:DK W B D val m)(e:val .r=v):W.cell? (aD D 1)=some v:=by rw[<-e];exact h.five.2.1
theorem DK.slots5 {m:Ac}(h:DK W B D val m)(e:val .s=v):W.cell? (aD D 2)=some v:=by rw[<-e];exact h.five.2.2.1
theorem DK.refs5 {m:Ac}(h:DK W B D val m)(e:val .f=v):W.cell? (aD D 3)=some v:=by rw[<-e];exact h.five.2.2.2.1
theorem Xx {m:Ac}(hK:DK w B D val m)(hr:r<m.r.length)(h0:m.r.getD r 0=0):Cl 84 #[pZ D,iI (r:Int)] w fun e w'=>∃v,e=.returned v/\Sl w' v [0,0,0,0]/\Bw w w':=by
 obtain⟨g,cap,e,c,_⟩:=hK.rootAt hr;rw[h0]at c;have d1:=hK.root5 e;have ab:(r:Int)<(m.r.length:Int):=oM;have aa:∀w,(Instr.makeSlice 29 (iI 4) (iI 4)).run prog w=.ok (lZ w.heap.size 4 4) (w.alloc (.cells #[iI 0,iI 0,iI 0,iI 0] 3)):=fun _=>by kernel_rfl
 clear h0 e
 go_enter func84,ntmps84
 go_wp2_with fail;go_ret;exact⟨_,rfl,VJ w _ rfl 0 0 0 0,Av⟩
theorem Xy {m:Ac}(hK:DK w B D val m)(hr:r<m.r.length)(ht:m.r.getD r 0=(t:Int))(h1:1<=t)(htl:t<m.s.length):Cl 84 #[pZ D,iI (r:Int)] w fun e w'=>∃v,e=.returned v/\Sl w' v (m.s.getD t default).2.2/\Bw w w':=by
 obtain⟨g,cap,e,c,_⟩:=hK.rootAt hr;rw[ht]at c;have d1:=hK.root5 e;obtain⟨sg,sc,e2,s0,s1,s2,_,_,_,_,aa⟩:=hK.slotAt htl;have d2:=hK.slots5 e2;obtain⟨xs,ab⟩:=nM ((m.s.getD t default).2.2);rw[ab]at aa ⊢;obtain⟨ta,tc,hv⟩:=aa.form;rw[hv]at s2 aa;have ad:(r:Int)<(m.r.length:Int):=oM;have af:(t:Int)<(m.s.length:Int):=oM;have ae:((t:Int) != 0)=true:=by simp;omega
 have ac:¬(t:Int)=0:=oM;have HS:Hd (Sl w (.slice ta xs.length tc) xs):=aa;clear ht e e2 hv s0 s1 aa ab
 go_enter func84,ntmps84
 go_wp2_with fail;go_ret;exact⟨_,rfl,HS.o,AG _ _⟩
theorem Sn {m:Ac}(hK:DK w B D val m)(hr:r<m.r.length)(ht:m.r.getD r 0=(t:Int))(htl:t<m.s.length):Cl 84 #[pZ D,iI (r:Int)] w fun e w'=>∃v,e=.returned v/\Sl w' v (Ak m r)/\Bw w w':=by
 unfold Ak;rw[ht]
 by_cases h0:t=0
 ·subst h0;rw[Ab (show ((0:Nat):Int)=0 from rfl)];exact Xx hK hr ht
 ·rw[Aa oM];have e:AH m.s (t:Int)=(m.s.getD t default).2.2:=by unfold AH;rw[A5]
  rw[e];exact Xy hK hr ht oM htl
theorem jP (v:Value)(xs:List Int)(k:Nat)(e:Int)(w:World)(h:Sl w v xs)(h0:Bp xs=0)(hk4':k<4)(hE:Cf e=true):Cl 159 #[v,iI k,iI e] w fun r w'=>∃v',r=.returned (.tuple #[v',iI 0])/\w'.ownsRow w.heap.size 3 1 v' (xs.set k e).length (Ae (xs.set k e))/\Bw w w':=by
 have H4:Hd (xs.length=4):=Dv h0;have ae:(k:Int)<4:=oM;have hk0:¬(k:Int)<0:=oM
 go_enter func159,ntmps159
 go_wp2_with(first|(go_at_call 142;refine(Ng _ xs _ h).mono ?_;rintro e w' ⟨rfl,rfl⟩)|(go_at_call 183;refine(PZ _ _).mono ?_;rintro e w' ⟨rfl,rfl⟩)|(go_at_call 143;refine(Sq _ xs _ _ h H4.o oM oM).mono ?_;rintro e w1 ⟨g,cap',rfl,aa,ab⟩;obtain⟨u,ac⟩:=TH aa k oM;have ad:=aa.frozenAt k;have HO:Hd (w1.ownsRow _ 3 1 (lZ g 4 cap') 4 ((AU xs (Int.toNat 4)).map (.int .i64))):=aa;clear aa))
 go_ret2
 have hx:=W7 H4.o;have hO:=TJ HO.o k e;rw[show AU xs (Int.toNat 4)=xs from hx]at hO;have hl:(xs.set k e).length=4:=by rw[Bi];exact H4.o
 rw[hl];exact⟨_,rfl,hO,ab.setCell (TI HO.o) _⟩

def C7 (m:Ac) (r:Nat) (es:List Int):Option Ac:=
 if BE es=true then some {m with r:=m.r.set r 0} else if Cq m r=true then some {m with s:=m.s.set (m.r.getD r 0).toNat (2,⟨#[]⟩,es)}
 else if AK m.s=40 then none else some {BL m (2,⟨#[]⟩,es) with r:=m.r.set r (AK m.s:Int)}
def E1 (w:World) (B D:Nat) (m:Ac) (val:Nm->Value) (ev:Value) (o:Option Ac) (r:Ending) (w':World):Prop:=
 match o with
 | some m'=>r=.returned (.tuple #[])/\∃val',Ay w w' B D m val ev m' val'
 | none=>r=.panicked G4/\Below B w w'
theorem Ku (h:Bp es=0):EJ es=BE es:=by unfold EJ;rw[Ab h]
theorem jR (m:Ac)(ea:Option Addr)(ec:Nat)(es:List Int)(r B D:Nat)(val:Nm->Value)(w:World)(hK:DK w B D val m)(hr:r<m.r.length)(he:Sl w (.slice ea es.length ec) es)(hck:Bp es=0)(hb:BE es=true):Cl 86 #[pZ D,iI (r:Int),.slice ea es.length ec] w fun e w'=>e=.returned (.tuple #[])/\∃val',Ay w w' B D m val (.slice ea es.length ec) {m with r:=m.r.set r 0} val':=by
 obtain⟨g,cap,e,c,f,_⟩:=hK.rootAt hr;have d1:=hK.root5 e;have ab:(r:Int)<(m.r.length:Int):=oM;have aa:=Kv he ((Ku hck).trans hb) hck;have HF:Hd (Ay w (w.setCell (aD g r) (iI 0)) B D m val (.slice ea es.length ec) {m with r:=m.r.set r 0} val):=(Ay.refl hK _).setRoot e r 0;clear he hck hb e hK
 go_enter func86,ntmps86
 go_wp2_with(go_at_call 144;refine aa.mono ?_;rintro e w' ⟨rfl,hw⟩;rw[hw];clear hw);refine AY (LG rfl _ _ _) rfl ?_;exact⟨rfl,val,HF.o⟩
theorem jX (m:Ac)(ea:Option Addr)(ec:Nat)(es:List Int)(r t B D:Nat)(val:Nm->Value)(w:World)(hK:DK w B D val m)(hB:B<=w.heap.size)(hr:r<m.r.length)(ht:m.r.getD r 0=(t:Int))(h1:1<=t)(htl:t<m.s.length)(hrl:m.f.length=m.s.length)(hrf:m.f.getD t 0=1)(he:w.ownsRow B 3 1 (.slice ea es.length ec) es.length (Ae es))(hfar:∀a,Af m a->∀q,(Value.slice ea es.length ec).ownBlock=some q->(val a).ownBlock≠some q)(hD:(Value.slice ea es.length ec).ownBlock≠some D)(hck:Bp es=0)(hb:BE es=false):Cl 86 #[pZ D,iI (r:Int),.slice ea es.length ec] w fun e w'=>e=.returned (.tuple #[])/\∃val',Ay w w' B D m val (.slice ea es.length ec) {m with s:=m.s.set t (2,⟨#[]⟩,es)} val':=by
 have hK1:DK (w.alloc (.cells #[iI 2,.string ⟨#[]⟩,.slice ea es.length ec] 85)) B D val m:=hK.alloc _;obtain⟨g,cap,e,c,f,_⟩:=hK1.rootAt hr;rw[ht]at c;have d1:=hK1.root5 e;obtain⟨fg,fc,e2,c2,_⟩:=hK1.refsAt (r:=t) oM;rw[hrf]at c2;rw[hrl]at e2;have d3:=hK1.refs5 e2;obtain⟨sg,sc,e3,s0,s1,s2,sf,ai,hsl,ae,_⟩:=hK1.slotAt htl;have d2:=hK1.slots5 e3;have f0:=sf (t*3);have f1:=sf (t*3+1);have f2:=sf (t*3+2);have ao:sg<w.heap.size:=by
  have:=(hK.own.row .s (Af.s m)).lt sg (by rw[e3];rfl);exact this.2
 have an:(r:Int)<(m.r.length:Int):=oM;have aq:(t:Int)<(m.s.length:Int):=oM;have ap:((t:Int) != 0)=true:=by simp;omega
 have aj:¬(t:Int)=0:=oM;have mS:(w.alloc (.cells #[iI 2,.string ⟨#[]⟩,.slice ea es.length ec] 85)).heap[w.heap.size]?=some (.cells #[iI 2,.string ⟨#[]⟩,.slice ea es.length ec] 85):=Aw _ _;obtain⟨y0,y1,y2⟩:=BO mS;have aa:=Kv (CY he) ((Ku hck).trans hb) hck;have av:¬w.heap.size=sg:=oM;have au:¬sg=w.heap.size:=oM;have af:¬D=sg:=fun x=>ae x.symm
 have ar:¬sg=D:=ae;have HF:=A9 ((((Ay.refl hK (.slice ea es.length ec)).setSlot htl e3 2 ⟨#[]⟩ es he (fun b hb _ q hq=>hfar b hb q hq) hD (fun q x=>.inl x)).alloc hB (.cells #[iI 2,.string ⟨#[]⟩,.slice ea es.length ec] 85)).drew);obtain⟨a6,az,ac,aw,ax,ay,ab,_⟩:=hK.slotAt htl;rw[e3]at ac;simp only[BP,Ct,FR,Hh,Jb]at ac;obtain⟨rfl,rfl⟩:=ac;have ah:(((w.setCell (aD sg (t*3)) (iI 2)).setCell (aD sg (t*3+1)) (.string ⟨#[]⟩)).setCell (aD sg (t*3+2)) (.slice ea es.length ec)).heap.size=w.heap.size:=by simp[World.setCell]
 have ag:=Aj (Bt (Bt (Bt hK.box af (t*3) (iI 2)) af (t*3+1) (.string ⟨#[]⟩)) af (t*3+2) (.slice ea es.length ec)) (.cells #[iI 2,.string ⟨#[]⟩,.slice ea es.length ec] 85);have k2:=(five ag).2.2.1;rw[e3]at k2;have ad:=C2 (((w.setCell (aD sg (t*3)) (iI 2)).setCell (aD sg (t*3+1)) (.string ⟨#[]⟩)).setCell (aD sg (t*3+2)) (.slice ea es.length ec)) (.cells #[iI 2,.string ⟨#[]⟩,.slice ea es.length ec] 85);rw[ah]at ad;obtain⟨k3,k4,k5⟩:=BO ad;have KK:=A9 (AW k2 (AW k3 (AW k4 k5)));clear k2 k3 k4 k5 ag ad ah;have ak:=ab (t*3);have al:=ab (t*3+1);have am:=ab (t*3+2);clear he hck hb e e2 e3 hK hK1 ht hrf hfar mS sf ab ai hsl ae
 go_enter func86,ntmps86
 go_wp2_with(go_at_call 144;refine aa.mono ?_;rintro e w' ⟨rfl,hw⟩;rw[hw];clear hw)
 go_region_held3 (fun W=>W.cell? (aD D (0+1+1))=some (lZ sg m.s.length sc)/\W.cell? (aZ w.heap.size)=some (iI 2)/\W.cell? (aD w.heap.size (0+1))=some (.string ⟨#[]⟩)/\W.cell? (aD w.heap.size (0+1+1))=some (.slice ea es.length ec)) (first|exact⟨d2,y0,y1,y2⟩|exact KK.o) (fail)
 go_wp2_with fail;refine AY (LG rfl _ _ _) rfl ?_;exact⟨rfl,_,HF.o⟩

theorem Q6 {m:Ac}{g:Nat}(hK:DK w B D val m)(hB:B<=w.heap.size)(hs:AD m.s=0)(hrl:m.f.length=m.s.length)(hg:AK m.s=g)(hg40:g≠40)(he:w.ownsRow B 3 1 ev es.length (Ae es))(hfar:∀a,Af m a->∀q,ev.ownBlock=some q->(val a).ownBlock≠some q)(hD:ev.ownBlock≠some D):Cl 96 #[pZ D,.agg #[iI k,.string d,ev]] w fun r w'=>r=.returned (iI (g:Int))/\∃val',Ay w w' B D m val ev (BL m (k,d,es)) val'/\val' .r=val .r:=by
 have hp:=A4 hs;obtain⟨ea,ec,ab⟩:=B0 he;subst ab;obtain⟨sg,sc,e1,_⟩:=hK.slotAt (t:=0) oM;obtain⟨fg,fc,e2,_⟩:=hK.refsAt (r:=0) oM;rw[hrl]at e2;have ac:=Gw hp.1;have hg4:=SE hs;rw[hg]at ac hg4;have aa:EH m val (.tab g) (.slice ea es.length ec):=fun b hb _ q hq=>hfar b hb q hq
 unfold BL A3 G3;rw[hg,hrl]
 by_cases e:g=m.s.length
 ·rw[Ab e,Ab e];subst e;exact jb m sg sc fg fc k d ea _ ec es B D val w hK hB e1 e2 hs hg oM hrl he aa hD
 ·rw[Aa e,Aa e];exact jd m sg sc fg fc k d ea _ ec es g B D val w hK hB e1 e2 hs hg oM hrl he aa hD
theorem Q5 {m:Ac}(hK:DK w B D val m)(hs:AD m.s=0)(hg:AK m.s=40)(he:w.ownsRow B 3 1 ev es.length (Ae es)):Cl 96 #[pZ D,.agg #[iI k,.string d,ev]] w fun r w'=>r=.panicked G4/\Bw w w':=by
 have hp:=A4 hs;obtain⟨ea,ec,aa⟩:=B0 he;subst aa;obtain⟨sg,sc,e1,_⟩:=hK.slotAt (t:=0) oM;exact i8 m _ _ sc k d ea _ ec B D val w hK e1 hs hg
theorem jU (m:Ac)(ea:Option Addr)(ec:Nat)(es:List Int)(r q B D:Nat)(val:Nm->Value)(w:World)(hK:DK w B D val m)(hB:B<=w.heap.size)(hr:r<m.r.length)(ht:m.r.getD r 0=0)(hs:AD m.s=0)(hrl:m.f.length=m.s.length)(hg:AK m.s=q)(hg40:q≠40)(he:w.ownsRow B 3 1 (.slice ea es.length ec) es.length (Ae es))(hfar:∀a,Af m a->∀q,(Value.slice ea es.length ec).ownBlock=some q->(val a).ownBlock≠some q)(hD:(Value.slice ea es.length ec).ownBlock≠some D)(hck:Bp es=0)(hb:BE es=false):Cl 86 #[pZ D,iI (r:Int),.slice ea es.length ec] w fun e w'=>e=.returned (.tuple #[])/\∃val',Ay w w' B D m val (.slice ea es.length ec) {BL m (2,⟨#[]⟩,es) with r:=m.r.set r (q:Int)} val':=by
 let V:=(w.alloc (.cells #[iI 2,.string ⟨#[]⟩,.slice ea es.length ec] 85))
 have hK1:DK V B D val m:=hK.alloc _;have ag:DK V.drew B D val m:=hK1.drew;obtain⟨g,cap,e,c,f,hgB,_,ak⟩:=hK1.rootAt hr;rw[ht]at c;have d1:=hK1.root5 e;have an:g<w.heap.size:=((hK.own.row .r (Af.r m)).lt g (by rw[e];rfl)).2;have ao:(r:Int)<(m.r.length:Int):=oM;have mS:V.heap[w.heap.size]?=some (.cells #[iI 2,.string ⟨#[]⟩,.slice ea es.length ec] 85):=Aw _ _;obtain⟨y0,y1,y2⟩:=BO mS;have ab:=Kv (CY he) ((Ku hck).trans hb) hck;have b0:Bw w V:=Av;have aj:B<=V.drew.heap.size:=Bg hB b0.size;have htk:=Q6 (k:=2) (d:=⟨#[]⟩) (es:=es) ag aj hs hrl hg hg40 (he.alloc _).drew hfar hD;have ac:(Value.slice ea es.length ec).ownBlock≠some w.heap.size:=fun x=>by have:=(he.lt _ x).2;omega
 have am:¬w.heap.size=g:=oM;have ap:¬g=w.heap.size:=oM;have al:¬D=g:=fun x=>ak x.symm
 have HK:Hd (DK w B D val m/\val .r=lZ g m.r.length cap/\V.heap[w.heap.size]?=some (.cells #[iI 2,.string ⟨#[]⟩,.slice ea es.length ec] 85)/\(Value.slice ea es.length ec).ownBlock≠some w.heap.size):=⟨hK,e,mS,ac⟩;clear he hck hb e hK hK1 ht hfar mS hs hg ac ag;dsimp only[V]at *;clear V
 go_enter func86,ntmps86
 go_wp2_with(go_at_call 144;refine ab.mono ?_;rintro e w' ⟨rfl,hw⟩;rw[hw];clear hw)
 go_region_held3 (fun W=>W.cell? (aD D (0+1))=some (lZ g m.r.length cap)/\W.cell? (aZ w.heap.size)=some (iI 2)/\W.cell? (aD w.heap.size (0+1))=some (.string ⟨#[]⟩)/\W.cell? (aD w.heap.size (0+1+1))=some (.slice ea es.length ec)) (first|exact ai.o|exact ah.o|exact⟨d1,y0,y1,y2⟩)
  (first|(go_at_call 96;refine htk.mono ?_;rintro e w2 ⟨rfl,val2,hT,aa⟩;have aa:=aa.trans HK.o.2.1;have k1:=hT.dk.root5 aa;have ae:w2.heap[w.heap.size]?=some (.cells #[iI 2,.string ⟨#[]⟩,.slice ea es.length ec] 85):=hT.cells HK.o.2.2.1 (by have:=HK.o.1.lt;omega) HK.o.2.2.2 (HK.o.1.own.lt lE);obtain⟨k2,k3,k4⟩:=BO ae;have ah:=A9 (AW k1 (AW k2 (AW k3 k4)));have ad:=hT.dk.own.row .r (Af.r _);rw[aa]at ad;have rc:w2.cell? (aD g r)=some (iI (m.r.getD r 0)):=Le ad hr;have rf:=ad.frozenAt r;have af:=(Bt hT.dk.box al r (iI (q:Int)));rw[aa]at af;have k5:=(five af).2.1;obtain⟨k6,k7,k8⟩:=BO (Bt ae am r (iI (q:Int)));have ai:=A9 (AW k5 (AW k6 (AW k7 k8)));have HF:=A9 ((hT.setRoot aa r (q:Int)).pre (Cg b0) hB);clear ad af k5 k6 k7 k8 ae hT))
 go_wp2_with fail
 go_end0
 exact⟨rfl,_,HF.o⟩
theorem jV (m:Ac)(ea:Option Addr)(ec:Nat)(es:List Int)(r q B D:Nat)(val:Nm->Value)(w:World)(hK:DK w B D val m)(hB:B<=w.heap.size)(hr:r<m.r.length)(t:Nat)(ht:m.r.getD r 0=(t:Int))(h1:1<=t)(htl:t<m.s.length)(x:Int)(hrf:m.f.getD t 0=x)(hx1:(x == 1)=false)(hs:AD m.s=0)(hrl:m.f.length=m.s.length)(hg:AK m.s=q)(hg40:q≠40)(he:w.ownsRow B 3 1 (.slice ea es.length ec) es.length (Ae es))(hfar:∀a,Af m a->∀q,(Value.slice ea es.length ec).ownBlock=some q->(val a).ownBlock≠some q)(hD:(Value.slice ea es.length ec).ownBlock≠some D)(hck:Bp es=0)(hb:BE es=false):Cl 86 #[pZ D,iI (r:Int),.slice ea es.length ec] w fun e w'=>e=.returned (.tuple #[])/\∃val',Ay w w' B D m val (.slice ea es.length ec) {BL m (2,⟨#[]⟩,es) with r:=m.r.set r (q:Int)} val':=by
 let V:=(w.alloc (.cells #[iI 2,.string ⟨#[]⟩,.slice ea es.length ec] 85))
 have hK1:DK V B D val m:=hK.alloc _;have ag:DK V.drew B D val m:=hK1.drew;obtain⟨g,cap,e,c,f,hgB,_,ak⟩:=hK1.rootAt hr;rw[ht]at c;have d1:=hK1.root5 e;have ao:g<w.heap.size:=((hK.own.row .r (Af.r m)).lt g (by rw[e];rfl)).2;have ap:(r:Int)<(m.r.length:Int):=oM;obtain⟨fg,fc,e2,c2,_⟩:=hK1.refsAt (r:=t) oM;rw[hrf]at c2;rw[hrl]at e2;have d3:=hK1.refs5 e2;have ar:(t:Int)<(m.s.length:Int):=oM;have aq:((t:Int) != 0)=true:=by simp[V];omega
 have al:¬(t:Int)=0:=oM;have mS:V.heap[w.heap.size]?=some (.cells #[iI 2,.string ⟨#[]⟩,.slice ea es.length ec] 85):=Aw _ _;obtain⟨y0,y1,y2⟩:=BO mS;have ab:=Kv (CY he) ((Ku hck).trans hb) hck;have b0:Bw w V:=Av;have aj:B<=V.drew.heap.size:=Bg hB b0.size;have htk:=Q6 (k:=2) (d:=⟨#[]⟩) (es:=es) ag aj hs hrl hg hg40 (he.alloc _).drew hfar hD;have ac:(Value.slice ea es.length ec).ownBlock≠some w.heap.size:=fun x=>by have:=(he.lt _ x).2;omega
 have an:¬w.heap.size=g:=oM;have au:¬g=w.heap.size:=oM;have am:¬D=g:=fun x=>ak x.symm
 have HK:Hd (DK w B D val m/\val .r=lZ g m.r.length cap/\V.heap[w.heap.size]?=some (.cells #[iI 2,.string ⟨#[]⟩,.slice ea es.length ec] 85)/\(Value.slice ea es.length ec).ownBlock≠some w.heap.size):=⟨hK,e,mS,ac⟩;clear he hck hb e hK hK1 ht hfar mS hs hg ac ag e2 hrf;dsimp only[V]at *;clear V
 go_enter func86,ntmps86
 go_wp2_with(go_at_call 144;refine ab.mono ?_;rintro e w' ⟨rfl,hw⟩;rw[hw];clear hw)
 go_region_held3 (fun W=>W.cell? (aD D (0+1))=some (lZ g m.r.length cap)/\W.cell? (aZ w.heap.size)=some (iI 2)/\W.cell? (aD w.heap.size (0+1))=some (.string ⟨#[]⟩)/\W.cell? (aD w.heap.size (0+1+1))=some (.slice ea es.length ec)) (first|exact ai.o|exact ah.o|exact⟨d1,y0,y1,y2⟩)
  (first|(go_at_call 96;refine htk.mono ?_;rintro e w2 ⟨rfl,val2,hT,aa⟩;have aa:=aa.trans HK.o.2.1;have k1:=hT.dk.root5 aa;have ae:w2.heap[w.heap.size]?=some (.cells #[iI 2,.string ⟨#[]⟩,.slice ea es.length ec] 85):=hT.cells HK.o.2.2.1 (by have:=HK.o.1.lt;omega) HK.o.2.2.2 (HK.o.1.own.lt lE);obtain⟨k2,k3,k4⟩:=BO ae;have ah:=A9 (AW k1 (AW k2 (AW k3 k4)));have ad:=hT.dk.own.row .r (Af.r _);rw[aa]at ad;have rc:w2.cell? (aD g r)=some (iI (m.r.getD r 0)):=Le ad hr;have rf:=ad.frozenAt r;have af:=(Bt hT.dk.box am r (iI (q:Int)));rw[aa]at af;have k5:=(five af).2.1;obtain⟨k6,k7,k8⟩:=BO (Bt ae an r (iI (q:Int)));have ai:=A9 (AW k5 (AW k6 (AW k7 k8)));have HF:=A9 ((hT.setRoot aa r (q:Int)).pre (Cg b0) hB);clear ad af k5 k6 k7 k8 ae hT))
 go_wp2_with fail
 go_end0
 exact⟨rfl,_,HF.o⟩

theorem jS (m:Ac)(ea:Option Addr)(ec:Nat)(es:List Int)(r B D:Nat)(val:Nm->Value)(w:World)(hK:DK w B D val m)(hB:B<=w.heap.size)(hr:r<m.r.length)(ht:m.r.getD r 0=0)(hs:AD m.s=0)(hrl:m.f.length=m.s.length)(hg:AK m.s=40)(he:w.ownsRow B 3 1 (.slice ea es.length ec) es.length (Ae es))(hfar:∀a,Af m a->∀q,(Value.slice ea es.length ec).ownBlock=some q->(val a).ownBlock≠some q)(hD:(Value.slice ea es.length ec).ownBlock≠some D)(hck:Bp es=0)(hb:BE es=false):Cl 86 #[pZ D,iI (r:Int),.slice ea es.length ec] w fun e w'=>e=.panicked G4/\Below B w w':=by
 let V:=(w.alloc (.cells #[iI 2,.string ⟨#[]⟩,.slice ea es.length ec] 85))
 have hK1:DK V B D val m:=hK.alloc _;have ac:DK V.drew B D val m:=hK1.drew;obtain⟨g,cap,e,c,f,hgB,_,ad⟩:=hK1.rootAt hr;rw[ht]at c;have d1:=hK1.root5 e;have ae:g<w.heap.size:=((hK.own.row .r (Af.r m)).lt g (by rw[e];rfl)).2;have af:(r:Int)<(m.r.length:Int):=oM;have mS:V.heap[w.heap.size]?=some (.cells #[iI 2,.string ⟨#[]⟩,.slice ea es.length ec] 85):=Aw _ _;obtain⟨y0,y1,y2⟩:=BO mS;have aa:=Kv (CY he) ((Ku hck).trans hb) hck;have b0:Bw w V:=Av;have ab:B<=V.drew.heap.size:=Bg hB b0.size;have htk:=Q5 (k:=2) (d:=⟨#[]⟩) (es:=es) ac hs hg (he.alloc _).drew;clear he hck hb e hK ht hfar mS hs hg;dsimp only[V]at *;clear V
 go_enter func86,ntmps86
 go_wp2_with(go_at_call 144;refine aa.mono ?_;rintro e w' ⟨rfl,hw⟩;rw[hw];clear hw);go_wp2_with fail;refine BT (S:=fun W=>W.cell? (aD D (0+1))=some (lZ g m.r.length cap)/\W.cell? (aZ w.heap.size)=some (iI 2)/\W.cell? (aD w.heap.size (0+1))=some (.string ⟨#[]⟩)/\W.cell? (aD w.heap.size (0+1+1))=some (.slice ea es.length ec)) kR ⟨d1,y0,y1,y2⟩ (fun hHeld=>?_);refine Cz 0 (pZ D) ?_;simp only[Act.put,DR,DE,DZ];refine Cz 1 (pZ D) ?_;simp only[Act.put,DR,DE,DZ];refine Cz 2 (pZ D) ?_;simp only[Act.put,DR,DE,DZ];refine Cz 3 (pQ D (0+1)) ?_;simp only[Act.put,DR,DE,DZ];refine Cz 4 (lZ g m.r.length cap) ?_;simp only[Act.put,DR,DE,DZ];refine Cz 5 (iI (r:Int)) ?_;simp only[Act.put,DR,DE,DZ];refine Cz 6 (pZ D) ?_;simp only[Act.put,DR,DE,DZ];refine Cz 7 (.agg #[iI 2,.string ⟨#[]⟩,.slice ea es.length ec]) ?_;simp only[Act.put,DR,DE,DZ];refine AC 8 rfl (fun K hK=>?_);clear hK hHeld aa;simp only[lays];rw[Ab (by rfl)];go_wp2_with(go_at_call 96;refine htk.mono ?_;rintro e w2 ⟨rfl,b2⟩;first|exact⟨rfl,rfl,(b0.mono hB).trans ((BR b2).mono ab)⟩|exact⟨rfl,(b0.mono hB).trans ((BR b2).mono ab)⟩|exact⟨(b0.mono hB).trans ((BR b2).mono ab)⟩|trace_state)
theorem jT (m:Ac)(ea:Option Addr)(ec:Nat)(es:List Int)(r B D:Nat)(val:Nm->Value)(w:World)(hK:DK w B D val m)(hB:B<=w.heap.size)(hr:r<m.r.length)(t:Nat)(ht:m.r.getD r 0=(t:Int))(h1:1<=t)(htl:t<m.s.length)(x:Int)(hrf:m.f.getD t 0=x)(hx1:(x == 1)=false)(hs:AD m.s=0)(hrl:m.f.length=m.s.length)(hg:AK m.s=40)(he:w.ownsRow B 3 1 (.slice ea es.length ec) es.length (Ae es))(hfar:∀a,Af m a->∀q,(Value.slice ea es.length ec).ownBlock=some q->(val a).ownBlock≠some q)(hD:(Value.slice ea es.length ec).ownBlock≠some D)(hck:Bp es=0)(hb:BE es=false):Cl 86 #[pZ D,iI (r:Int),.slice ea es.length ec] w fun e w'=>e=.panicked G4/\Below B w w':=by
 let V:=(w.alloc (.cells #[iI 2,.string ⟨#[]⟩,.slice ea es.length ec] 85))
 have hK1:DK V B D val m:=hK.alloc _;have ac:DK V.drew B D val m:=hK1.drew;obtain⟨g,cap,e,c,f,hgB,_,ae⟩:=hK1.rootAt hr;rw[ht]at c;have d1:=hK1.root5 e;have af:g<w.heap.size:=((hK.own.row .r (Af.r m)).lt g (by rw[e];rfl)).2;have ag:(r:Int)<(m.r.length:Int):=oM;obtain⟨fg,fc,e2,c2,_⟩:=hK1.refsAt (r:=t) oM;rw[hrf]at c2;rw[hrl]at e2;have d3:=hK1.refs5 e2;have ai:(t:Int)<(m.s.length:Int):=oM;have ah:((t:Int) != 0)=true:=by simp[V];omega
 have ad:¬(t:Int)=0:=oM;have mS:V.heap[w.heap.size]?=some (.cells #[iI 2,.string ⟨#[]⟩,.slice ea es.length ec] 85):=Aw _ _;obtain⟨y0,y1,y2⟩:=BO mS;have aa:=Kv (CY he) ((Ku hck).trans hb) hck;have b0:Bw w V:=Av;have ab:B<=V.drew.heap.size:=Bg hB b0.size;have htk:=Q5 (k:=2) (d:=⟨#[]⟩) (es:=es) ac hs hg (he.alloc _).drew;clear he hck hb e hK ht hfar mS hs hg e2 hrf;dsimp only[V]at *;clear V
 go_enter func86,ntmps86
 go_wp2_with(go_at_call 144;refine aa.mono ?_;rintro e w' ⟨rfl,hw⟩;rw[hw];clear hw);go_wp2_with fail;refine BT (S:=fun W=>W.cell? (aD D (0+1))=some (lZ g m.r.length cap)/\W.cell? (aZ w.heap.size)=some (iI 2)/\W.cell? (aD w.heap.size (0+1))=some (.string ⟨#[]⟩)/\W.cell? (aD w.heap.size (0+1+1))=some (.slice ea es.length ec)) kR ⟨d1,y0,y1,y2⟩ (fun hHeld=>?_);refine Cz 0 (pZ D) ?_;simp only[Act.put,DR,DE,DZ];refine Cz 1 (pZ D) ?_;simp only[Act.put,DR,DE,DZ];refine Cz 2 (pZ D) ?_;simp only[Act.put,DR,DE,DZ];refine Cz 3 (pQ D (0+1)) ?_;simp only[Act.put,DR,DE,DZ];refine Cz 4 (lZ g m.r.length cap) ?_;simp only[Act.put,DR,DE,DZ];refine Cz 5 (iI (r:Int)) ?_;simp only[Act.put,DR,DE,DZ];refine Cz 6 (pZ D) ?_;simp only[Act.put,DR,DE,DZ];refine Cz 7 (.agg #[iI 2,.string ⟨#[]⟩,.slice ea es.length ec]) ?_;simp only[Act.put,DR,DE,DZ];refine AC 8 rfl (fun K hK=>?_);clear hK hHeld aa;simp only[lays];rw[Ab (by rfl)];go_wp2_with(go_at_call 96;refine htk.mono ?_;rintro e w2 ⟨rfl,b2⟩;first|exact⟨rfl,rfl,(b0.mono hB).trans ((BR b2).mono ab)⟩|exact⟨rfl,(b0.mono hB).trans ((BR b2).mono ab)⟩|exact⟨(b0.mono hB).trans ((BR b2).mono ab)⟩|trace_state)

structure F0 (a b:Ac):Prop where
 g:a.g=b.g
 r:a.r=b.r
 s:a.s=b.s
 p:a.p=b.p
 f:a.f.length=b.f.length
theorem F0.roots (h:F0 a b):BN a=BN b:=by unfold BN;rw[h.g,h.r,h.p]
theorem F0.cnt (h:F0 a b):AL a=AL b:=by unfold AL;rw[h.roots,h.s]
theorem F0.counted (h:F0 a b):At a=At b:=by
 have hc:=h.cnt;unfold At;rw[hc,h.s];obtain⟨h1,h2,_,h4,_⟩:=h
 cases a
 cases b
 simp only at h1 h2 h4;subst h1 h2 h4
 rfl
theorem F0.shape (h:F0 a b):As a=As b:=by
 unfold As;rw[h.roots,h.s,h.p,h.f]
structure JP (o p:Option Ac):Prop where
 none:o=none->p=none
 some:∀M,o=some M->As M=0/\p=some (At M)
theorem JP.m {p:Option Ac}(h:JP o p):Gg o=p.getD AZ:=by
 cases ho:o with
 | none=>rw[h.none ho];rfl
 | some M=>
  obtain⟨h1,h2⟩:=h.some M ho;rw[h2];unfold Gg;dsimp only;rw[Ab h1]
  rfl
def Ev (p:Option Ac):Int:=if p.isSome=true then 0 else 7
theorem JP.e {p:Option Ac}(h:JP o p):IH o=Ev p:=by
 cases ho:o with
 | none=>rw[h.none ho];rfl
 | some M=>
  obtain⟨h1,h2⟩:=h.some M ho;rw[h2];exact h1
theorem PY {m:Ac}(hC:Ao m=0)(hr:r<m.r.length)(hp:Cq m r=true):∃t:Nat,m.r.getD r 0=(t:Int)/\1<=t/\t<m.s.length/\m.f.getD t 0=1:=by
 have hs:=A0 hC;have ab:=CQ hs;unfold Cq at hp;simp only[B5,Iu,ne_eq,DH]at hp;have hm:m.r.getD r 0∈m.r:=by simp[List.getD,hr]
 have hE:=Ax.1 ab.2 _ hm;unfold BZ at hE;have hk:C6 m.s (m.r.getD r 0) 2=true:=by
  cases hx:C6 m.s (m.r.getD r 0) 2 with
  | true=>rfl
  | false=>rw[hx]at hE;simp at hE;exact absurd hE hp.1
 obtain⟨j,hj,aa,_⟩:=Gz hk;refine⟨j,hj,oM,aa,?_⟩;rw[hj,A5]at hp;exact hp.2
theorem Js {m:Ac}(hs:As m=0)(hr:r<m.r.length):∃t:Nat,m.r.getD r 0=(t:Int)/\t<m.s.length:=by
 have ab:=CQ hs;have hm:m.r.getD r 0∈m.r:=by simp[List.getD,hr]
 have hE:=Ax.1 ab.2 _ hm;have hp:=A4 (Au hs).2.1
 by_cases h0:m.r.getD r 0=0
 ·exact⟨0,h0,oM⟩
 ·unfold BZ at hE;have hk:C6 m.s (m.r.getD r 0) 2=true:=by
   cases hx:C6 m.s (m.r.getD r 0) 2 with
   | true=>rfl
   | false=>rw[hx]at hE;simp at hE;exact absurd hE h0
  obtain⟨j,hj,aa,_⟩:=Gz hk;exact⟨j,hj,aa⟩
theorem P5 {m:Ac}(hC:Ao m=0)(hr:r<m.r.length)(es:List Int):(C7 m r es=none↔DP m r es=none)/\∀M,C7 m r es=some M->∃M',DP m r es=some M'/\(M.f.length=M.s.length->M'.f.length=M'.s.length->F0 M M'):=by
 have hs:=A0 hC;have hp:=A4 (Au hs).2.1;unfold C7 DP
 by_cases hb:BE es=true
 ·rw[Ab hb,Ab hb];exact⟨by simp,fun M hM=>⟨_,rfl,fun h1 h2=>by cases hM;exact⟨rfl,rfl,rfl,rfl,rfl⟩⟩⟩
 ·rw[Aa hb,Aa hb]
  by_cases hi:Cq m r=true
  ·rw[Ab hi];obtain⟨t,ht,h1,ac,_⟩:=PY hC hr hi;have aa:AM m r=t:=by unfold AM;rw[Ab hi,ht];rfl
   rw[aa,Aa oM];refine⟨by simp,fun M hM=>⟨_,rfl,fun h1 h2=>?_⟩⟩
   cases hM
   have ab:m.r.set r (t:Int)=m.r:=by
    apply EX
    ·simp
    ·intro j h1 h2
     by_cases e:r=j
     ·subst e;simp only[List.getElem_set_self];rw[<-ht];simp[List.getD,hr]
     ·simp[e]
   have hsl:Bj m r es=m.s.set t (2,⟨#[]⟩,es):=by unfold Bj A3;rw[aa,Aa oM]
   refine⟨rfl,?_,?_,rfl,?_⟩
   ·show m.r=m.r.set r (t:Int)
    exact ab.symm
   ·show m.s.set (m.r.getD r 0).toNat _=Bj m r es
    rw[hsl,ht];rfl
   ·rw[h1,h2]
    show (m.s.set (m.r.getD r 0).toNat _).length=(Bj m r es).length
    rw[hsl,Bi,Bi]
  ·rw[Aa hi];have aa:AM m r=AK m.s:=by unfold AM;rw[Aa hi]
   rw[aa]
   by_cases hg:AK m.s=40
   ·rw[Ab hg,Ab hg];exact⟨by simp,fun M hM=>(by cases hM)⟩
   ·rw[Aa hg,Aa hg];refine⟨by simp,fun M hM=>⟨_,rfl,fun h1 h2=>?_⟩⟩
    cases hM
    have hsl:Bj m r es=A3 m.s (AK m.s) (2,⟨#[]⟩,es):=by unfold Bj;rw[aa]
    refine⟨rfl,rfl,?_,rfl,?_⟩
    ·show A3 m.s (AK m.s) _=Bj m r es
     rw[hsl]
    ·rw[h1,h2]
     show (A3 m.s (AK m.s) _).length=(Bj m r es).length
     rw[hsl]
theorem P6 {m:Ac}(hrl:m.f.length=m.s.length)(n:Nat)(s:An)(x:Int):(G3 m.f n x).length=(A3 m.s n s).length:=by
 rw[Zv,D7,hrl]
theorem NJ {m:Ac}(hrl:m.f.length=m.s.length)(h:C7 m r es=some M):M.f.length=M.s.length:=by
 unfold C7 at h
 split at h
 ·cases h;exact hrl
 ·split at h
  ·cases h
   show m.f.length=(m.s.set _ _).length
   rw[Bi];exact hrl
  ·split at h
   ·cases h
   ·cases h
    exact P6 hrl _ _ _
theorem Q3 {m:Ac}(hrl:m.f.length=m.s.length)(h:DP m r es=some M):M.f.length=M.s.length:=by
 unfold DP at h
 split at h
 ·cases h;exact hrl
 ·split at h
  ·cases h
  ·cases h
   show (BX _).length=_
   simp[BX,FQ]
def Ll (m:Ac) (n:Nat) (e:Int):Option Ac:=if Be m m.r n=e then some m else C7 m (n/4) ((Ak m (n/4)).set (n%4) e)
theorem jz {m:Ac}(hC:Ao m=0)(hn:(n:Int)<m.g){e:Int}(he:e=0\/e = -1):JP (Ll m n e) (C8 m n e):=by
 have hs:=A0 hC;have hg:=Dg hs;have af:=CQ hs;have hrl:=(Au hs).2.2.1;have hk:n/4<m.r.length:=oM;unfold Ll C8;rw[P9]
 by_cases h0:(Ak m (n/4)).getD (n%4) 0=e
 ·rw[Ab h0,Ab h0];exact⟨fun h=>(by cases h),fun M hM=>(by cases hM;exact⟨hs,by rw[Ni hC]⟩)⟩
 ·rw[Aa h0,Aa h0];obtain⟨ac,aa⟩:=P5 hC hk ((Ak m (n/4)).set (n%4) e);obtain⟨t1,t2⟩:=ET hs hk;have ad:Cf e=true:=by rcases he with rfl|rfl<;>decide
  have ag:tabE m.s e=true:=by rcases he with rfl|rfl<;>simp[tabE]
  refine⟨fun h=>by rw[ac.1 h];rfl,fun M hM=>?_⟩;obtain⟨M',ab,ae⟩:=aa M hM;have hK:=ae (NJ hrl hM) (Q3 hrl ab);have hL:=(Lk hC hk (Jt t1 ad) (fun x hx=>by rcases KX hx with h|h;exact t2 x h;rw[h];exact ag) (Mw (Lj hs _) hn rfl af.1 e) ab).1;exact⟨hK.shape.trans hL.shape,by rw[ab,hK.counted];rfl⟩

theorem YJ {L L':List An}(h:∀j,kd L j=kd L' j)(hl:L.length=L'.length):AK L=AK L':=by
 rcases Eg L.length with h0|h0
 ·have e1:L=[]:=IZ h0;have e2:L'=[]:=IZ oM;rw[e1,e2]
 ·have g1:=Gw (L:=L) h0;have g2:=Gw (L:=L') oM;rcases OS (AK L) (AK L') with x|x|x
  ·exact absurd ((h _).symm.trans g1.2.2.2) (g2.2.2.1 _ g1.1 x)
  ·exact x
  ·exact absurd ((h _).trans g2.2.2.2) (g1.2.2.1 _ g2.1 x)
def Jw (m:Ac) (n:Nat):Option Ac:=C7 m (n/4) ((Ak m (n/4)).set (n%4) (-1))
def Lp (m:Ac) (n:Nat) (page:ByteArray):Option Ac:=
 if Fw m n=true then some {m with s:=m.s.set (Be m m.r n).toNat (1,page,[])}
 else match Jw m n with
  | none=>none
  | some m1=>if AK m1.s=40 then none else C7 (BL m1 (1,page,[])) (n/4) ((Ak (BL m1 (1,page,[])) (n/4)).set (n%4) (AK m1.s:Int))
theorem RN (h:es.length=4)(i:Nat)(hi:i<4){e:Int}(he:e≠0):BE (es.set i e)=false:=RM (i:=i) (by rw[Bi];omega) (by rw[UQ oM];exact he)
theorem Vu {m:Ac}(hC:Ao m=0)(hn:(n:Int)<m.g):(Jw m n=none/\AM m (n/4)=40)\/∃m1,Jw m n=some m1/\AM m (n/4)≠40/\m1.g=m.g/\m1.p=m.p/\m1.r=m.r.set (n/4) (AM m (n/4):Int)/\m1.s=Bj m (n/4) ((Ak m (n/4)).set (n%4) (-1))/\m1.f.length=m1.s.length/\m1.f.getD (AM m (n/4)) 0=1:=by
 have hs:=A0 hC;have hg:=Dg hs;have ac:=CQ hs;have hrl:=(Au hs).2.2.1;have hk:n/4<m.r.length:=oM;obtain⟨t1,_⟩:=ET hs hk;have hb:=RN (Dv t1) (n%4) oM (e:=-1) dE;have hlen:=fun M (h:Jw m n=some M)=>NJ hrl h
 unfold Jw at hlen ⊢;unfold C7 at hlen ⊢;rw[Aa (by rw[hb];decide)]at hlen ⊢
 by_cases hi:Cq m (n/4)=true
 ·rw[Ab hi]at hlen ⊢;obtain⟨t,ht,h1,ad,hrf⟩:=PY hC hk hi;have hp:=A4 (Au hs).2.1;have aa:AM m (n/4)=t:=by unfold AM;rw[Ab hi,ht];rfl
  refine .inr ⟨_,rfl,oM,rfl,rfl,?_,?_,hlen _ rfl,?_⟩
  ·show m.r=_
   rw[aa]
   apply EX
   ·simp
   ·intro j h1 h2
    by_cases e:n/4=j
    ·subst e;simp only[List.getElem_set_self];rw[<-ht];simp[List.getD,hk]
    ·simp[e]
  ·show m.s.set _ _=_
   unfold Bj A3;rw[aa,Aa oM,ht];rfl
  ·show m.f.getD _ 0=1
   rw[aa];exact hrf
 ·rw[Aa hi]at hlen ⊢;have aa:AM m (n/4)=AK m.s:=by unfold AM;rw[Aa hi]
  by_cases hg40:AK m.s=40
  ·rw[Ab hg40];exact .inl ⟨rfl,aa.trans hg40⟩
  ·rw[Aa hg40]at hlen ⊢;refine .inr ⟨_,rfl,oM,rfl,rfl,by rw[aa],?_,hlen _ rfl,?_⟩
   ·show A3 _ _ _=_
    unfold Bj;rw[aa]
   ·show (G3 m.f (AK m.s) 1).getD _ 0=1
    rw[aa];unfold G3;have ab:=Gw (L:=m.s) (A4 (Au hs).2.1).1
    split
    ·rename_i e
     rw[e];simp[List.getD]
    ·rename_i e
     rw[Fm,Ab ⟨rfl,oM⟩]
theorem j9 {m:Ac}(hC:Ao m=0)(hn:(n:Int)<m.g)(hp:page.size=4):JP (Lp m n page) (Ec m n page):=by
 have hs:=A0 hC;have hg:=Dg hs;have ap:=CQ hs;have hk:n/4<m.r.length:=oM;obtain⟨t1,_⟩:=ET hs hk;have h4:=Dv t1;unfold Lp Ec
 by_cases hw:Fw m n=true
 ·rw[Ab hw,Ab hw];have an:kd m.s (Be m m.r n).toNat=1:=by
   unfold Fw at hw;simp only[B5,C4]at hw;rcases J2 hs ap.2 n oM with h|h|⟨j,hj,h1,au,hkd⟩
   ·omega
   ·omega
   ·rw[hj,A5];exact hkd
  have h:=UP hC an hp;exact⟨fun x=>(by cases x),fun M hM=>(by cases hM;exact⟨A0 h.1,by rw[Ni h.1]⟩)⟩
 ·rw[Aa hw,Aa hw];rcases Vu hC hn with⟨h1,h2⟩|⟨m1,h1,h2,hgu,hsn,hrt,hsl,hrl,hrf⟩
  ·rw[h1,Ab h2];exact⟨fun _=>rfl,fun M hM=>(by cases hM)⟩
  ·rw[h1,Aa h2];dsimp only;obtain⟨x1,x2,x3,x4,x5⟩:=Ju hC hk h2;have hkd:∀es,∀j,kd (Bj m (n/4) es) j=if j=AM m (n/4) then 2 else kd m.s j:=fun es j=>FM x2 j
   have hll:∀es es',(Bj m (n/4) es).length=(Bj m (n/4) es').length:=fun es es'=>by unfold Bj;rw[D7,D7]
   have hd:AK m1.s=wD m n:=by
    rw[hsl];exact YJ (fun j=>by rw[hkd,hkd]) (hll _ _)
   rw[hd]
   by_cases hd40:wD m n=40
   ·rw[Ab hd40,Ab hd40];exact⟨fun _=>rfl,fun M hM=>(by cases hM)⟩
   ·rw[Aa hd40,Aa hd40];have hL:=(Ro hC hn h2 hd40 hp).1;have ah:1<=m1.s.length:=by rw[hsl];unfold Bj;rw[D7];have:=(A4 (Au hs).2.1).1;split<;>omega
    have ae:=Gw ah;rw[hd]at ae;have af:wD m n≠AM m (n/4):=fun e=>by
     have:=ae.2.2.2;rw[hsl,hkd,Ab e]at this
     cases this
    have ao:n/4<m1.r.length:=by rw[hrt,Bi];exact hk
    have aj:(BL m1 (1,page,[])).r.getD (n/4) 0=(AM m (n/4):Int):=by
     show m1.r.getD (n/4) 0=_
     rw[hrt,Fm,Ab ⟨rfl,hk⟩]
    have ac:(BL m1 (1,page,[])).s=A3 m1.s (wD m n) (1,page,[]):=by unfold BL;rw[hd]
    have ai:(BL m1 (1,page,[])).f=G3 m1.f (wD m n) 1:=by unfold BL;rw[hd]
    have ar:AM m (n/4)<m1.s.length:=by rw[hsl];unfold Bj;rw[D7];split<;>omega
    have ad:∀j,(BL m1 (1,page,[])).s.getD j default=if j=wD m n then (1,page,[]) else m1.s.getD j default:=fun j=>by rw[ac];exact Ey ae.2.1 j
    have aa:∀es,∀j,(Bj m (n/4) es).getD j default=if j=AM m (n/4) then (2,⟨#[]⟩,es) else m.s.getD j default:=fun es j=>Ey x2 j
    have aq:Ak (BL m1 (1,page,[])) (n/4)=(Ak m (n/4)).set (n%4) (-1):=by
     unfold Ak;rw[aj,Aa oM];unfold AH;rw[A5,ad,Aa (fun e=>af e.symm),hsl,aa,Ab rfl]
     rfl
    have hes:((Ak m (n/4)).set (n%4) (-1)).set (n%4) (wD m n:Int)=EE m n:=by unfold EE;rw[List.set_set]
    rw[aq,hes];have hb:BE (EE m n)=false:=RN h4 (n%4) oM (by have:=ae.1;omega);have am:Cq (BL m1 (1,page,[])) (n/4)=true:=by
     unfold Cq;rw[aj,A5];simp only[B5,Iu,ne_eq,DH];refine⟨oM,?_⟩;rw[ai];unfold G3
     split
     ·rename_i e
      have:AM m (n/4)<m1.f.length:=by rw[hrl];exact ar
      have e2:(m1.f++[(1:Int)]).getD (AM m (n/4)) 0=m1.f.getD (AM m (n/4)) 0:=by simp[List.getD,DY,this]
      rw[e2];exact hrf
     ·rw[Fm,Aa (fun e=>af e.1)];exact hrf
    have ag:C7 (BL m1 (1,page,[])) (n/4) (EE m n)=some {BL m1 (1,page,[]) with s:=(BL m1 (1,page,[])).s.set (AM m (n/4)) (2,⟨#[]⟩,EE m n)}:=by
     unfold C7;rw[Aa (by rw[hb];decide),Ab am,aj];rfl
    rw[ag];have ab:(BL m1 (1,page,[])).s.length=(wL m n page).length:=by
     rw[ac,hsl];unfold wL;rw[D7,D7,hll ((Ak m (n/4)).set (n%4) (-1)) (EE m n)]
    have ak:AM m (n/4)<(BL m1 (1,page,[])).s.length:=by
     have:m1.s.length<=(BL m1 (1,page,[])).s.length:=by rw[ac,D7];split<;>omega
     omega
    have al:wD m n<=(Bj m (n/4) (EE m n)).length:=by
     have:=ae.2.1;rw[hsl]at this;rw[hll (EE m n) ((Ak m (n/4)).set (n%4) (-1))];exact this
    have hK:F0 {BL m1 (1,page,[]) with s:=(BL m1 (1,page,[])).s.set (AM m (n/4)) (2,⟨#[]⟩,EE m n)} (FQ m (n/4) (AM m (n/4)) (wL m n page) (BX (wL m n page))):=by
     refine⟨hgu,hrt,?_,hsn,?_⟩
     ·refine Mn (by show (List.set _ _ _).length=_;rw[Bi];exact ab) (fun j hj=>?_)
      show ((BL m1 (1,page,[])).s.set _ _).getD j default=(wL m n page).getD j default
      rw[Ht,ad];unfold wL;rw[Ey al,aa,hsl,aa]
      by_cases e1:AM m (n/4)=j
      ·subst e1;rw[Ab ⟨rfl,ak⟩,Aa (fun e=>af e.symm),Ab rfl]
      ·rw[Aa (fun e=>e1 e.1)]
       by_cases e2:j=wD m n
       ·rw[Ab e2,Ab e2]
       ·rw[Aa e2,Aa e2,Aa (fun e=>e1 e.symm),Aa (fun e=>e1 e.symm)]
     ·show (BL m1 (1,page,[])).f.length=(BX (wL m n page)).length
      have:(BX (wL m n page)).length=(wL m n page).length:=by simp[BX]
      rw[this,<-ab];exact P6 hrl _ _ _
    exact⟨fun x=>(by cases x),fun M hM=>(by cases hM;exact⟨hK.shape.trans hL.shape,by rw[hK.counted]⟩)⟩

theorem jW {m:Ac}(hK:DK w B D val m)(hB:B<=w.heap.size)(hr:r<m.r.length)(ht:m.r.getD r 0=(t:Int))(htl:t<m.s.length)(hs:Cq m r=true\/AD m.s=0)(hrl:m.f.length=m.s.length)(he:w.ownsRow B 3 1 ev es.length (Ae es))(hfar:∀a,Af m a->∀q,ev.ownBlock=some q->(val a).ownBlock≠some q)(hD:ev.ownBlock≠some D)(hck:Bp es=0):Cl 86 #[pZ D,iI (r:Int),ev] w (E1 w B D m val ev (C7 m r es)):=by
 obtain⟨ea,ec,aa⟩:=B0 he;subst aa;unfold C7
 cases hb:BE es with
 | true=>
  rw[Ab rfl];exact jR m ea ec es r B D val w hK hr (CY he) hck hb
 | false=>
  rw[Aa (by simp)]
  cases hi:Cq m r with
  | true=>
   rw[Ab rfl];unfold Cq at hi;rw[ht,A5]at hi;simp only[B5,Iu,ne_eq,DH]at hi;rw[ht,A5];exact jX m ea ec es r t B D val w hK hB hr ht oM htl hrl hi.2 he hfar hD hck hb
  | false=>
   rw[Aa (by simp)];have hs:=hs.resolve_left (by rw[hi];simp);unfold Cq at hi;rw[ht,A5]at hi;have h1:1<=t->(m.f.getD t 0 == 1)=false:=fun h=>by
    cases hx:m.f.getD t 0 == 1 with
    | false=>rfl
    | true=>
     rw[hx]at hi;simp at hi
     omega
   by_cases hg:AK m.s=40
   ·rw[Ab hg]
    by_cases h0:t=0
    ·subst h0;exact jS m ea ec es r B D val w hK hB hr ht hs hrl hg he hfar hD hck hb
    ·exact jT m ea ec es r B D val w hK hB hr t ht oM htl _ rfl (h1 oM) hs hrl hg he hfar hD hck hb
   ·rw[Aa hg]
    by_cases h0:t=0
    ·subst h0;exact jU m ea ec es r _ B D val w hK hB hr ht hs hrl rfl hg he hfar hD hck hb
    ·exact jV m ea ec es r _ B D val w hK hB hr t ht oM htl _ rfl (h1 oM) hs hrl rfl hg he hfar hD hck hb
theorem Oq {m:Ac}{C:Nat}(hK:DK w B D val m)(hB:B<=w.heap.size)(hr:r<m.r.length)(ht:m.r.getD r 0=(t:Int))(htl:t<m.s.length)(hs:Cq m r=true\/AD m.s=0)(hrl:m.f.length=m.s.length)(hb:Bw w W)(hC:w.heap.size<=C)(he:W.ownsRow C 3 1 ev es.length (Ae es))(hck:Bp es=0)(ho:C7 m r es=o):Cl 86 #[pZ D,iI (r:Int),ev] W (E1 w B D m val AF o):=by
 subst ho;have hlt:∀q,ev.ownBlock=some q->w.heap.size<=q:=fun q hq=>Bg hC (he.lt q hq).1
 refine(jW (hK.below hb) (Bg hB hb.size) hr ht htl hs hrl (CL he (Bg hB hC)) (fun a ha q hq x=>?_) (fun x=>?_) hck).mono ?_
 ·have h1:=hlt q hq;have h2:=((hK.own.row a ha).lt q x).2;omega
 ·have h1:=hlt D x;have h2:=hK.lt;omega
 ·intro e W' hT
  cases ho:C7 m r es with
  | none=>
   rw[ho]at hT;obtain⟨h1,h2⟩:=hT;exact⟨h1,(hb.mono hB).trans h2⟩
  | some M=>
   rw[ho]at hT;obtain⟨h1,aa,h2⟩:=hT;exact⟨h1,aa,Ay.first hb hB h2 hlt⟩
theorem Qy {m:Ac}{e:Int}(hK:DK w B D val m)(hB:B<=w.heap.size)(h16:n<16)(hr:n/4<m.r.length)(ht:m.r.getD (n/4) 0=(t:Int))(htl:t<m.s.length)(hs:Cq m (n/4)=true\/AD m.s=0)(hrl:m.f.length=m.s.length)(hck:Bp (Ak m (n/4))=0)(hE:Cf e=true):Cl 95 #[pZ D,iI (n:Int),iI e] w (E1 w B D m val AF (C7 m (n/4) ((Ak m (n/4)).set (n%4) e))):=by
 have e4:((n/4:Nat):Int)=(n:Int)/4:=oM;have e5:((n%4:Nat):Int)=(n:Int)%4:=oM;have aa:=Sn hK hr ht htl;rw[e4]at aa;have HW:Hd (∀v w1,Sl w1 v (Ak m (n/4))->Cl 159 #[v,iI ((n:Int)%4),iI e] w1 fun r w'=>∃v',r=.returned (.tuple #[v',iI 0])/\w'.ownsRow w1.heap.size 3 1 v' ((Ak m (n/4)).set (n%4) e).length (Ae ((Ak m (n/4)).set (n%4) e))/\Bw w1 w'):=fun v w1 h1=>by
  have:=jP v _ (n%4) e w1 h1 hck oM hE;rw[e5]at this;exact this
 cases ho:C7 m (n/4) ((Ak m (n/4)).set (n%4) e) with
 | none=>
  have HL:Hd (∀ev C W,Bw w W->w.heap.size<=C->W.ownsRow C 3 1 ev ((Ak m (n/4)).set (n%4) e).length (Ae ((Ak m (n/4)).set (n%4) e))->Cl 86 #[pZ D,iI ((n:Int)/4),ev] W (E1 w B D m val AF none)):=fun ev C W h1 h2 h3=>by
   have:=Oq hK hB hr ht htl hs hrl h1 h2 h3 (Jt hck hE) ho;rw[e4]at this;exact this
  clear hK hs hrl hck hE ht htl hr hB ho e4 e5
  go_enter func95,ntmps95
  go_wp2_with(first|(go_at_call 86;refine(HL.o _ _ _ (Below.on b1 b2) b1.size ab).mono ?_;rintro e w3 ⟨rfl,b3⟩;exact⟨rfl,rfl,b3⟩)|(go_at_call 159;refine(HW.o _ _ ac).mono ?_;rintro e w2 ⟨v2,rfl,ab,b2⟩)|(go_at_call 84;refine aa.mono ?_;rintro e w1 ⟨v1,rfl,ac,b1⟩))
 | some M=>
  have HL:Hd (∀ev C W,Bw w W->w.heap.size<=C->W.ownsRow C 3 1 ev ((Ak m (n/4)).set (n%4) e).length (Ae ((Ak m (n/4)).set (n%4) e))->Cl 86 #[pZ D,iI ((n:Int)/4),ev] W (E1 w B D m val AF (some M))):=fun ev C W h1 h2 h3=>by
   have:=Oq hK hB hr ht htl hs hrl h1 h2 h3 (Jt hck hE) ho;rw[e4]at this;exact this
  clear hK hs hrl hck hE ht htl hr hB ho e4 e5
  go_enter func95,ntmps95
  go_wp2_with(first|(go_at_call 86;refine(HL.o _ _ _ (Below.on b1 b2) b1.size ab).mono ?_;rintro e w3 ⟨rfl,ad,hT⟩)|(go_at_call 159;refine(HW.o _ _ ac).mono ?_;rintro e w2 ⟨v2,rfl,ab,b2⟩)|(go_at_call 84;refine aa.mono ?_;rintro e w1 ⟨v1,rfl,ac,b1⟩))
  go_end0
  exact⟨rfl,ad,hT⟩
theorem jC {m:Ac}{bk be bn:Nat}{e:Int}(ck:w.cell? (aZ bk)=some (iI k))(ce:w.cell? (aZ be)=some (iI e))(cn:w.cell? (aZ bn)=some (iI (n:Int)))(lk:bk<w.heap.size)(le:be<w.heap.size)(ln:bn<w.heap.size)(hs:As m=0)(hn:(n:Int)<m.g)(hk:Be m m.r n=k)(hE:Cf e=true):Hl w 156 #[pZ bk,pZ be,pZ bn] m (Ll m n e):=by
 intro W D B val hb h1 h2 hK;have ck:=(hb.cell (p:=(aZ bk)) lk).trans ck;have ce:=(hb.cell (p:=(aZ be)) le).trans ce;have cn:=(hb.cell (p:=(aZ bn)) ln).trans cn
 show Cl 156 #[pZ D,pZ bk,pZ be,pZ bn] W _
 have hg:=Dg hs;have ac:=CQ hs;have hrl:=(Au hs).2.2.1;have hr:n/4<m.r.length:=oM;have ad:n<16:=oM;obtain⟨t,ht,af⟩:=Js hs hr;have aa:=Qy hK h2 ad hr ht af (.inr (Au hs).2.1) hrl (ET hs hr).1 hE;unfold Ll;rw[hk]
 by_cases hke:k=e
 ·rw[Ab hke];subst hke;have HF:Hd (Ay W W B D m val AF m val):=Ay.refl hK AF;clear aa hK ht hs hg ac hrl hr hk hn hE
  go_enter func156,ntmps156
  go_wp2_with fail
  go_end0
  exact⟨val,rfl,HF.o⟩
 ·rw[Aa hke];have ae:(k != e)=true:=by simp[hke]
  clear hK ht hs hg ac hrl hr hk hn hE
  cases ho:C7 m (n/4) ((Ak m (n/4)).set (n%4) e) with
  | none=>
   rw[ho]at aa;clear ho
   go_enter func156,ntmps156
   go_wp2_with(go_at_call 95;refine aa.mono ?_;rintro e w3 ⟨rfl,b3⟩;exact⟨rfl,rfl,b3⟩)
  | some M=>
   rw[ho]at aa;clear ho
   go_enter func156,ntmps156
   go_wp2_with(go_at_call 95;refine aa.mono ?_;rintro e w3 ⟨rfl,ab,hT⟩)
   go_end0
   exact⟨ab,rfl,hT⟩

theorem S7 {m:Ac}(hC:Ao m=0)(hn:(n:Int)<m.g){e:Int}(he:e=0\/e = -1)(hM:C7 m (n/4) ((Ak m (n/4)).set (n%4) e)=some M):As M=0:=by
 have hs:=A0 hC;have hg:=Dg hs;have af:=CQ hs;have hrl:=(Au hs).2.2.1;have hk:n/4<m.r.length:=oM;obtain⟨ae,aa⟩:=P5 hC hk ((Ak m (n/4)).set (n%4) e);obtain⟨t1,t2⟩:=ET hs hk;have ab:Cf e=true:=by rcases he with rfl|rfl<;>decide
 have ag:tabE m.s e=true:=by rcases he with rfl|rfl<;>simp[tabE]
 obtain⟨M',ad,ac⟩:=aa M hM;have hK:=ac (NJ hrl hM) (Q3 hrl ad);have hL:=(Lk hC hk (Jt t1 ab) (fun x hx=>by rcases KX hx with h|h;exact t2 x h;rw[h];exact ag) (Mw (Lj hs _) hn rfl af.1 e) ad).1;exact hK.shape.trans hL.shape
theorem j8 {m:Ac}(hC:Ao m=0)(hn:(n:Int)<m.g)(h1:Jw m n=some m1)(hd40:AK m1.s≠40)(page:ByteArray):∃t:Nat,(BL m1 (1,page,[])).r.getD (n/4) 0=(t:Int)/\t<(BL m1 (1,page,[])).s.length/\Cq (BL m1 (1,page,[])) (n/4)=true/\(BL m1 (1,page,[])).f.length=(BL m1 (1,page,[])).s.length/\n/4<(BL m1 (1,page,[])).r.length/\Bp (Ak (BL m1 (1,page,[])) (n/4))=0/\Cf (AK m1.s:Int)=true:=by
 have hs:=A0 hC;have ak:=S7 hC hn (.inr rfl) h1;have hg4:=SE (Au ak).2.1;have hg:=Dg hs;have ao:=CQ hs;have hk:n/4<m.r.length:=oM;obtain⟨t1,_⟩:=ET hs hk;have h4:=Dv t1;rcases Vu hC hn with⟨h,_⟩|⟨m1',h,h2,hgu,hsn,hrt,hsl,hrl,hrf⟩
 ·rw[h1]at h;cases h
 rw[h1]at h
 cases h
 obtain⟨x1,x2,x3,x4,x5⟩:=Ju hC hk h2;have hkd:∀es,∀j,kd (Bj m (n/4) es) j=if j=AM m (n/4) then 2 else kd m.s j:=fun es j=>FM x2 j
 have ae:1<=m1.s.length:=(A4 (Au ak).2.1).1;have ac:=Gw ae;obtain⟨d,hd⟩:=nM (AK m1.s);rw[hd]at ac hd40 hg4 ⊢;have aj:d≠AM m (n/4):=fun e=>by
  have:=ac.2.2.2;rw[hsl,hkd,Ab e]at this
  cases this
 have ag:n/4<m1.r.length:=by rw[hrt,Bi];exact hk
 have ah:(BL m1 (1,page,[])).r.getD (n/4) 0=(AM m (n/4):Int):=by
  show m1.r.getD (n/4) 0=_
  rw[hrt,Fm,Ab ⟨rfl,hk⟩]
 have ab:(BL m1 (1,page,[])).s=A3 m1.s d (1,page,[]):=by unfold BL;rw[hd]
 have af:(BL m1 (1,page,[])).f=G3 m1.f d 1:=by unfold BL;rw[hd]
 have an:AM m (n/4)<m1.s.length:=by rw[hsl];unfold Bj;rw[D7];split<;>omega
 have ad:∀j,(BL m1 (1,page,[])).s.getD j default=if j=d then (1,page,[]) else m1.s.getD j default:=fun j=>by rw[ab];exact Ey ac.2.1 j
 have aa:∀es,∀j,(Bj m (n/4) es).getD j default=if j=AM m (n/4) then (2,⟨#[]⟩,es) else m.s.getD j default:=fun es j=>Ey x2 j
 have am:Ak (BL m1 (1,page,[])) (n/4)=(Ak m (n/4)).set (n%4) (-1):=by
  unfold Ak;rw[ah,Aa oM];unfold AH;rw[A5,ad,Aa (fun e=>aj e.symm),hsl,aa,Ab rfl]
  rfl
 have ai:AM m (n/4)<(BL m1 (1,page,[])).s.length:=by
  have:m1.s.length<=(BL m1 (1,page,[])).s.length:=by rw[ab,D7];split<;>omega
  omega
 have al:Cq (BL m1 (1,page,[])) (n/4)=true:=by
  unfold Cq;rw[ah,A5];simp only[B5,Iu,ne_eq,DH];refine⟨oM,?_⟩;rw[af];unfold G3
  split
  ·rename_i e
   have:AM m (n/4)<m1.f.length:=by rw[hrl];exact an
   have e2:(m1.f++[(1:Int)]).getD (AM m (n/4)) 0=m1.f.getD (AM m (n/4)) 0:=by simp[List.getD,DY,this]
   rw[e2];exact hrf
  ·rw[Fm,Aa (fun e=>aj e.1)];exact hrf
 refine⟨_,ah,ai,al,P6 hrl _ _ _,ag,by rw[am];exact Jt t1 dE,?_⟩;unfold Cf;have:=ac.1;simp
 omega

theorem drewN_first {w3:World}(h:Below B (W.drewN q) w3):Below B W w3:=⟨h.os,h.tape,h.output,h.size,h.block⟩
theorem Ay.drewN_first {m:Ac}(h:Ay (W.drewN q) w1 B D m val ev m1 val1):Ay W w1 B D m val ev m1 val1:=⟨h.dk,Go.Proofs.YtfciijncfbepjaaGreatDoor.drewN_first h.bel,h.keep,h.src⟩
theorem jF (bk bn bs n t d B D:Nat)(k:Int)(page:ByteArray)(W:World)(m m1 m2 M:Ac)(val:Nm->Value)(hgd:Hd ((¬0<k)\/(∃ (j fg fc:Nat) (x:Int),k=(j:Int)/\0<j/\j<m.s.length/\W.cell? (aD D 3)=some (lZ fg m.s.length fc)/\W.cell? (aD fg j)=some (iI x)/\(x == 1)=false)\/(∃ (j g cap fg fc:Nat) (y:Int),k=(j:Int)/\0<j/\j<m.s.length/\W.cell? (aD D 3)=some (lZ fg m.s.length fc)/\W.cell? (aD fg j)=some (iI 1)/\W.cell? (aD D 1)=some (lZ g m.r.length cap)/\W.cell? (aD g (n/4))=some (iI (t:Int))/\W.cell? (aD fg t)=some (iI y)/\(y == 1)=false)))(h16:n<16)(hr:n/4<m.r.length)(htl:t<m.s.length)(hck:W.cell? (aZ bk)=some (iI k))(hcn:W.cell? (aZ bn)=some (iI (n:Int)))(HS:Hd (∀X,Below B W X->(fun X:World=>X.cell? (aZ bn)=some (iI (n:Int))/\X.cell? (aZ bs)=some (iI 1)/\X.cell? (aD bs (0+1))=some (.string page)/\X.cell? (aD bs (0+1+1))=some (nl)) X))(HP1:Hd (∀q,Cl 95 #[pZ D,iI (n:Int),iI (-1)] (W.drewN q) (E1 (W.drewN q) B D m val AF none))):Cl 94 #[pZ D,pZ bk,pZ bn,pZ bs] W (fun r W'=>r=.panicked G4/\Below B W W'):=by
 have g7:(n:Int)/4<(m.r.length:Int):=oM;have hq:((n:Int)/4).toNat=n/4:=oM;have g8:(t:Int)<(m.s.length:Int):=oM;rcases hgd.o with g|⟨j,fg,fc,x,rfl,j1,jl,d3,c2,g5⟩|⟨j,g,cap,fg,fc,y,rfl,j1,jl,d3,c2,d1,c,c3,g5⟩
 all_goals clear hgd
 all_goals (try(have g1:decide (0<k)=false:=(by simp;omega)))
 all_goals (try(have g1:decide (0<j)=true:=(by simp;omega);have g3:(j:Int)<(m.s.length:Int):=oM))
 all_goals
  go_enter func94,ntmps94
  try go_wp2_with fail
  go_quiet(fail)
  go_wp2_with(go_at_call 95;refine(HP1.o _).mono ?_;rintro e w3 ⟨rfl,b3⟩;exact⟨rfl,rfl,drewN_first b3⟩)
theorem jG (bk bn bs n t d B D:Nat)(k:Int)(page:ByteArray)(W:World)(m m1 m2 M:Ac)(val:Nm->Value)(hgd:Hd ((¬0<k)\/(∃ (j fg fc:Nat) (x:Int),k=(j:Int)/\0<j/\j<m.s.length/\W.cell? (aD D 3)=some (lZ fg m.s.length fc)/\W.cell? (aD fg j)=some (iI x)/\(x == 1)=false)\/(∃ (j g cap fg fc:Nat) (y:Int),k=(j:Int)/\0<j/\j<m.s.length/\W.cell? (aD D 3)=some (lZ fg m.s.length fc)/\W.cell? (aD fg j)=some (iI 1)/\W.cell? (aD D 1)=some (lZ g m.r.length cap)/\W.cell? (aD g (n/4))=some (iI (t:Int))/\W.cell? (aD fg t)=some (iI y)/\(y == 1)=false)))(h16:n<16)(hr:n/4<m.r.length)(htl:t<m.s.length)(hck:W.cell? (aZ bk)=some (iI k))(hcn:W.cell? (aZ bn)=some (iI (n:Int)))(HS:Hd (∀X,Below B W X->(fun X:World=>X.cell? (aZ bn)=some (iI (n:Int))/\X.cell? (aZ bs)=some (iI 1)/\X.cell? (aD bs (0+1))=some (.string page)/\X.cell? (aD bs (0+1+1))=some (nl)) X))(HP1:Hd (∀q,Cl 95 #[pZ D,iI (n:Int),iI (-1)] (W.drewN q) (E1 (W.drewN q) B D m val AF (some m1))))(HTK:Hd (∀ (w1:World) (val1:Nm->Value),DK w1 B D val1 m1->Below B W w1->Cl 96 #[pZ D,.agg #[iI 1,.string page,nl]] w1 (fun r w2=>r=.panicked G4/\Below B W w2))):Cl 94 #[pZ D,pZ bk,pZ bn,pZ bs] W (fun r W'=>r=.panicked G4/\Below B W W'):=by
 have g7:(n:Int)/4<(m.r.length:Int):=oM;have hq:((n:Int)/4).toNat=n/4:=oM;have g8:(t:Int)<(m.s.length:Int):=oM;rcases hgd.o with g|⟨j,fg,fc,x,rfl,j1,jl,d3,c2,g5⟩|⟨j,g,cap,fg,fc,y,rfl,j1,jl,d3,c2,d1,c,c3,g5⟩
 all_goals clear hgd
 all_goals (try(have g1:decide (0<k)=false:=(by simp;omega)))
 all_goals (try(have g1:decide (0<j)=true:=(by simp;omega);have g3:(j:Int)<(m.s.length:Int):=oM))
 all_goals
  go_enter func94,ntmps94
  try go_wp2_with fail
  go_quiet(fail)
  go_wp2_with(go_at_call 95;refine(HP1.o _).mono ?_;rintro e w1 ⟨rfl,val1,aa⟩;have aa:=Ay.drewN_first aa;have ab:=A9 aa;clear aa);clear hck hcn;refine BT (S:=(fun X:World=>X.cell? (aZ bn)=some (iI (n:Int))/\X.cell? (aZ bs)=some (iI 1)/\X.cell? (aD bs (0+1))=some (.string page)/\X.cell? (aD bs (0+1+1))=some (nl))) kR (HS.o _ (Cg ab.o.bel)) (fun hHeld=>?_);refine Cz 0 (pZ D) ?_;refine Cz 1 (iI (n:Int)) ?_;refine Cz 2 (pZ D) ?_;refine Cz 3 (.agg #[iI 1,.string page,nl]) ?_;simp only[lays];refine AC 4 rfl (fun K hK=>?_);clear hHeld;simp only[lays];rw[Ab (by rfl)];clear hK;go_wp2_with(go_at_call 96;refine(HTK.o _ _ ab.o.dk.drew (Cg ab.o.bel)).mono ?_;rintro e w2 ⟨rfl,b2⟩;exact⟨rfl,rfl,b2⟩)
theorem jH (bk bn bs n t d B D:Nat)(k:Int)(page:ByteArray)(W:World)(m m1 m2 M:Ac)(val:Nm->Value)(hgd:Hd ((¬0<k)\/(∃ (j fg fc:Nat) (x:Int),k=(j:Int)/\0<j/\j<m.s.length/\W.cell? (aD D 3)=some (lZ fg m.s.length fc)/\W.cell? (aD fg j)=some (iI x)/\(x == 1)=false)\/(∃ (j g cap fg fc:Nat) (y:Int),k=(j:Int)/\0<j/\j<m.s.length/\W.cell? (aD D 3)=some (lZ fg m.s.length fc)/\W.cell? (aD fg j)=some (iI 1)/\W.cell? (aD D 1)=some (lZ g m.r.length cap)/\W.cell? (aD g (n/4))=some (iI (t:Int))/\W.cell? (aD fg t)=some (iI y)/\(y == 1)=false)))(h16:n<16)(hr:n/4<m.r.length)(htl:t<m.s.length)(hck:W.cell? (aZ bk)=some (iI k))(hcn:W.cell? (aZ bn)=some (iI (n:Int)))(HS:Hd (∀X,Below B W X->(fun X:World=>X.cell? (aZ bn)=some (iI (n:Int))/\X.cell? (aZ bs)=some (iI 1)/\X.cell? (aD bs (0+1))=some (.string page)/\X.cell? (aD bs (0+1+1))=some (nl)) X))(HP1:Hd (∀q,Cl 95 #[pZ D,iI (n:Int),iI (-1)] (W.drewN q) (E1 (W.drewN q) B D m val AF (some m1))))(HTK:Hd (∀ (w1:World) (val1:Nm->Value),DK w1 B D val1 m1->Below B W w1->Cl 96 #[pZ D,.agg #[iI 1,.string page,nl]] w1 (fun r w2=>r=.returned (iI (d:Int))/\∃val2,Ay w1 w2 B D m1 val1 AF m2 val2)))(HP2:Hd (∀ (w2:World) (val2:Nm->Value),DK w2 B D val2 m2->Below B W w2->Cl 95 #[pZ D,iI (n:Int),iI (d:Int)] w2 (E1 w2 B D m2 val2 AF none))):Cl 94 #[pZ D,pZ bk,pZ bn,pZ bs] W (fun r W'=>r=.panicked G4/\Below B W W'):=by
 have g7:(n:Int)/4<(m.r.length:Int):=oM;have hq:((n:Int)/4).toNat=n/4:=oM;have g8:(t:Int)<(m.s.length:Int):=oM;rcases hgd.o with g|⟨j,fg,fc,x,rfl,j1,jl,d3,c2,g5⟩|⟨j,g,cap,fg,fc,y,rfl,j1,jl,d3,c2,d1,c,c3,g5⟩
 all_goals clear hgd
 all_goals (try(have g1:decide (0<k)=false:=(by simp;omega)))
 all_goals (try(have g1:decide (0<j)=true:=(by simp;omega);have g3:(j:Int)<(m.s.length:Int):=oM))
 all_goals
  go_enter func94,ntmps94
  try go_wp2_with fail
  go_quiet(fail)
  go_wp2_with(go_at_call 95;refine(HP1.o _).mono ?_;rintro e w1 ⟨rfl,val1,ac⟩;have ac:=Ay.drewN_first ac;have aa:=A9 ac;clear ac);clear hck hcn;refine BT (S:=(fun X:World=>X.cell? (aZ bn)=some (iI (n:Int))/\X.cell? (aZ bs)=some (iI 1)/\X.cell? (aD bs (0+1))=some (.string page)/\X.cell? (aD bs (0+1+1))=some (nl))) kR (HS.o _ (Cg aa.o.bel)) (fun hHeld=>?_);refine Cz 0 (pZ D) ?_;refine Cz 1 (iI (n:Int)) ?_;refine Cz 2 (pZ D) ?_;refine Cz 3 (.agg #[iI 1,.string page,nl]) ?_;simp only[lays];refine AC 4 rfl (fun K hK=>?_);clear hHeld;simp only[lays];rw[Ab (by rfl)];go_wp2_with(go_at_call 96;refine(HTK.o _ _ aa.o.dk.drew (Cg aa.o.bel)).mono ?_;rintro e w2 ⟨rfl,val2,ad⟩;have ab:=A9 (aa.o.drew.andThen ad);clear ad);refine hK.out _ _ (HS.o _ ab.o.bel) (fun hHeld=>?_);clear hK hHeld K;try simp only[lays]
  refine AC 5 rfl (fun K hK=>?_);simp only[lays];rw[Ab (by rfl)];clear hK;go_wp2_with(go_at_call 95;refine(HP2.o _ _ ab.o.dk ab.o.bel).mono ?_;rintro e w3 ⟨rfl,b3⟩;exact⟨rfl,rfl,ab.o.bel.trans b3⟩)
theorem jI (bk bn bs n t d B D:Nat)(k:Int)(page:ByteArray)(W:World)(m m1 m2 M:Ac)(val:Nm->Value)(hgd:Hd ((¬0<k)\/(∃ (j fg fc:Nat) (x:Int),k=(j:Int)/\0<j/\j<m.s.length/\W.cell? (aD D 3)=some (lZ fg m.s.length fc)/\W.cell? (aD fg j)=some (iI x)/\(x == 1)=false)\/(∃ (j g cap fg fc:Nat) (y:Int),k=(j:Int)/\0<j/\j<m.s.length/\W.cell? (aD D 3)=some (lZ fg m.s.length fc)/\W.cell? (aD fg j)=some (iI 1)/\W.cell? (aD D 1)=some (lZ g m.r.length cap)/\W.cell? (aD g (n/4))=some (iI (t:Int))/\W.cell? (aD fg t)=some (iI y)/\(y == 1)=false)))(h16:n<16)(hr:n/4<m.r.length)(htl:t<m.s.length)(hck:W.cell? (aZ bk)=some (iI k))(hcn:W.cell? (aZ bn)=some (iI (n:Int)))(HS:Hd (∀X,Below B W X->(fun X:World=>X.cell? (aZ bn)=some (iI (n:Int))/\X.cell? (aZ bs)=some (iI 1)/\X.cell? (aD bs (0+1))=some (.string page)/\X.cell? (aD bs (0+1+1))=some (nl)) X))(HP1:Hd (∀q,Cl 95 #[pZ D,iI (n:Int),iI (-1)] (W.drewN q) (E1 (W.drewN q) B D m val AF (some m1))))(HTK:Hd (∀ (w1:World) (val1:Nm->Value),DK w1 B D val1 m1->Below B W w1->Cl 96 #[pZ D,.agg #[iI 1,.string page,nl]] w1 (fun r w2=>r=.returned (iI (d:Int))/\∃val2,Ay w1 w2 B D m1 val1 AF m2 val2)))(HP2:Hd (∀ (w2:World) (val2:Nm->Value),DK w2 B D val2 m2->Below B W w2->Cl 95 #[pZ D,iI (n:Int),iI (d:Int)] w2 (E1 w2 B D m2 val2 AF (some M)))):Cl 94 #[pZ D,pZ bk,pZ bn,pZ bs] W (fun r W'=>∃val',r=.returned (.tuple #[])/\Ay W W' B D m val AF M val'):=by
 have g7:(n:Int)/4<(m.r.length:Int):=oM;have hq:((n:Int)/4).toNat=n/4:=oM;have g8:(t:Int)<(m.s.length:Int):=oM;rcases hgd.o with g|⟨j,fg,fc,x,rfl,j1,jl,d3,c2,g5⟩|⟨j,g,cap,fg,fc,y,rfl,j1,jl,d3,c2,d1,c,c3,g5⟩
 all_goals clear hgd
 all_goals (try(have g1:decide (0<k)=false:=(by simp;omega)))
 all_goals (try(have g1:decide (0<j)=true:=(by simp;omega);have g3:(j:Int)<(m.s.length:Int):=oM))
 all_goals
  go_enter func94,ntmps94
  try go_wp2_with fail
  go_quiet(fail)
  go_wp2_with(go_at_call 95;refine(HP1.o _).mono ?_;rintro e w1 ⟨rfl,val1,ac⟩;have ac:=Ay.drewN_first ac;have aa:=A9 ac;clear ac);clear hck hcn;refine BT (S:=(fun X:World=>X.cell? (aZ bn)=some (iI (n:Int))/\X.cell? (aZ bs)=some (iI 1)/\X.cell? (aD bs (0+1))=some (.string page)/\X.cell? (aD bs (0+1+1))=some (nl))) kR (HS.o _ (Cg aa.o.bel)) (fun hHeld=>?_);refine Cz 0 (pZ D) ?_;refine Cz 1 (iI (n:Int)) ?_;refine Cz 2 (pZ D) ?_;refine Cz 3 (.agg #[iI 1,.string page,nl]) ?_;simp only[lays];refine AC 4 rfl (fun K hK=>?_);clear hHeld;simp only[lays];rw[Ab (by rfl)];go_wp2_with(go_at_call 96;refine(HTK.o _ _ aa.o.dk.drew (Cg aa.o.bel)).mono ?_;rintro e w2 ⟨rfl,val2,af⟩;have ab:=A9 (aa.o.drew.andThen af);clear af);refine hK.out _ _ (HS.o _ ab.o.bel) (fun hHeld=>?_);clear hK hHeld K;try simp only[lays]
  refine AC 5 rfl (fun K hK=>?_);simp only[lays];rw[Ab (by rfl)];go_wp2_with(go_at_call 95;refine(HP2.o _ _ ab.o.dk ab.o.bel).mono ?_;rintro e w3 ⟨rfl,ad,ag⟩;have ae:=A9 (ab.o.andThen ag);clear ag);refine hK.out _ _ (HS.o _ ae.o.bel) (fun hHeld=>?_);clear hK hHeld K;refine BQ kR ?_ _;go_wp2_with fail
  go_end0
  exact⟨ad,rfl,ae.o⟩

theorem Ay.drew_first {m:Ac}(h:Ay W.drew w1 B D m val ev m1 val1):Ay W w1 B D m val ev m1 val1:=⟨h.dk,⟨h.bel.os,h.bel.tape,h.bel.output,h.bel.size,h.bel.block⟩,h.keep,h.src⟩
theorem DK.drewN {m:Ac}(h:DK W B D val m)(q:Nat):DK (W.drewN q) B D val m:=h.below (below_drewN Eu q)
theorem jE (bk bn bs n j t B D:Nat)(page:ByteArray)(W:World)(m:Ac)(val:Nm->Value)(hK:DK W B D val m)(hck:W.cell? (aZ bk)=some (iI (j:Int)))(hcn:W.cell? (aZ bn)=some (iI (n:Int)))(s0:W.cell? (aZ bs)=some (iI 1))(s1:W.cell? (aD bs 1)=some (.string page))(s2:W.cell? (aD bs 2)=some (nl))(ls:bs<B)(lk:bk<B)(h16:n<16)(hr:n/4<m.r.length)(ht:m.r.getD (n/4) 0=(t:Int))(htl:t<m.s.length)(hrl:m.f.length=m.s.length)(hrt:m.f.getD t 0=1)(hj1:1<=j)(hjl:j<m.s.length)(hrj:m.f.getD j 0=1):Cl 94 #[pZ D,pZ bk,pZ bn,pZ bs] W (fun r W'=>∃val',r=.returned (.tuple #[])/\Ay W W' B D m val AF {m with s:=m.s.set j (1,page,[])} val'):=by
 obtain⟨g,cap,e,c,_⟩:=hK.rootAt hr;rw[ht]at c;have d1:=hK.root5 e;obtain⟨fg,fc,e2,c2,_⟩:=hK.refsAt (r:=j) oM;obtain⟨ai,ah,ac,c3,_⟩:=hK.refsAt (r:=t) oM;rw[e2]at ac;simp only[BP,Ct,FR,Hh,Jb]at ac;obtain⟨rfl,rfl⟩:=ac;rw[hrj]at c2;rw[hrt]at c3;rw[hrl]at e2;have d3:=hK.refs5 e2;obtain⟨sg,sc,e3,t0,t1,t2,sf,aj,hsl,ag,_⟩:=hK.slotAt hjl;have d2:=hK.slots5 e3;have f0:=sf (j*3);have f1:=sf (j*3+1);have f2:=sf (j*3+2);have hq:((n:Int)/4).toNat=n/4:=oM;have g1:decide (0<j)=true:=by simp;omega
 have g2:0<j:=oM;have g3:(j:Int)<(m.s.length:Int):=oM;have g7:(n:Int)/4<(m.r.length:Int):=oM;have g8:(t:Int)<(m.s.length:Int):=oM;have ad:¬D=sg:=fun x=>ag x.symm
 have ak:¬sg=D:=ag;have al:¬bs=sg:=oM;have ae:¬sg=bs:=oM;have am:¬bk=sg:=oM;have ab:¬sg=bk:=oM;have HF:Hd (∀q,Ay W ((((W.drewN q).drew.setCell (aD sg (j*3)) (iI 1)).setCell (aD sg (j*3+1)) (.string page)).setCell (aD sg (j*3+2)) (nl)) B D m val AF {m with s:=m.s.set j (1,page,[])} (Az val (.tab j) AF)):=fun q=>Ay.drewN_first (Ay.drew_first ((Ay.refl ((hK.drewN q).drew) AF).setSlot hjl e3 1 page [] (DG _ _ _ _) (fun b hb _ q hq=>(by cases hq)) (by nofun) (fun q x=>(by cases x))))
 have k2:=(five (Bt (Bt (Bt hK.box ad (j*3) (iI 1)) ad (j*3+1) (.string page)) ad (j*3+2) (nl))).2.2.1;rw[e3]at k2;have aa:∀i v,W.cell? (aD bs i)=some v->(((W.setCell (aD sg (j*3)) (iI 1)).setCell (aD sg (j*3+1)) (.string page)).setCell (aD sg (j*3+2)) (nl)).cell? (aD bs i)=some v:=fun i v hv=>by
  rw[LF _ _ _ _ ae,LF _ _ _ _ ae,LF _ _ _ _ ae];exact hv
 have af:∀i v,bk<B->W.cell? (aD bk i)=some v->(((W.setCell (aD sg (j*3)) (iI 1)).setCell (aD sg (j*3+1)) (.string page)).setCell (aD sg (j*3+2)) (nl)).cell? (aD bk i)=some v:=fun i v hb hv=>by
  have ab:¬sg=bk:=oM;rw[LF _ _ _ _ ab,LF _ _ _ _ ab,LF _ _ _ _ ab];exact hv
 have KK:=A9 (AW k2 (AW (aa _ _ s0) (AW (aa _ _ s1) (AW (aa _ _ s2) (af _ _ lk hck)))));clear aa af k2 hK ht hrt hrj hrl e e2 e3 sf
 go_enter func94,ntmps94
 try go_wp2_with fail
 go_quiet(fail)
 go_wp2_with fail
 go_region_held3 (fun X=>X.cell? (aD D (0+1+1))=some (lZ sg m.s.length sc)/\X.cell? (aZ bs)=some (iI 1)/\X.cell? (aD bs (0+1))=some (.string page)/\X.cell? (aD bs (0+1+1))=some (nl)/\X.cell? (aZ bk)=some (iI (j:Int))) (first|exact⟨d2,s0,s1,s2,hck⟩|exact KK.o) (fail)
 go_wp2_with fail;refine AY (LG rfl _ _ _) rfl ?_;exact⟨_,rfl,HF.o _⟩
theorem kp {m:Ac}{bk bn bs:Nat}(ck:w.cell? (aZ bk)=some (iI k))(cn:w.cell? (aZ bn)=some (iI (n:Int)))(s0:w.cell? (aZ bs)=some (iI 1))(s1:w.cell? (aD bs 1)=some (.string page))(s2:w.cell? (aD bs 2)=some (nl))(lk:bk<w.heap.size)(ln:bn<w.heap.size)(ls:bs<w.heap.size)(hC:Ao m=0)(hn:(n:Int)<m.g)(hk:Be m m.r n=k):Hl w 94 #[pZ bk,pZ bn,pZ bs] m (Lp m n page):=by
 intro W D B val hb ae h2 hK;have ck:=(hb.cell (p:=(aZ bk)) lk).trans ck;have cn:=(hb.cell (p:=(aZ bn)) ln).trans cn;have s0:=(hb.cell (p:=(aZ bs)) ls).trans s0;have s1:=(hb.cell (p:=(aD bs 1)) ls).trans s1;have s2:=(hb.cell (p:=(aD bs 2)) ls).trans s2
 show Cl 94 #[pZ D,pZ bk,pZ bn,pZ bs] W _
 have hs:=A0 hC;have hg:=Dg hs;have ao:=CQ hs;have hrl:=(Au hs).2.2.1;have hr:n/4<m.r.length:=oM;have aa:n<16:=oM;obtain⟨t,ht,ab⟩:=Js hs hr;have ay:=ET hs hr;have HS:Hd (∀X,Below B W X->(fun X:World=>X.cell? (aZ bn)=some (iI (n:Int))/\X.cell? (aZ bs)=some (iI 1)/\X.cell? (aD bs (0+1))=some (.string page)/\X.cell? (aD bs (0+1+1))=some (nl)) X):=fun X hX=>⟨(hX.cell (p:=(aZ bn)) (AO ln ae)).trans cn,(hX.cell (p:=(aZ bs)) (AO ls ae)).trans s0,(hX.cell (p:=(aD bs 1)) (AO ls ae)).trans s1,(hX.cell (p:=(aD bs 2)) (AO ls ae)).trans s2⟩
 have ac:∀q,Cl 95 #[pZ D,iI (n:Int),iI (-1)] (W.drewN q) (E1 (W.drewN q) B D m val AF (Jw m n)):=fun q=>Qy (hK.drewN q) h2 aa hr ht ab (.inr (Au hs).2.1) hrl ay.1 dE
 unfold Lp
 by_cases hw:Fw m n=true
 ·rw[Ab hw];unfold Fw Cq at hw;rw[hk,ht]at hw;simp only[B5,C4,Iu,ne_eq,DH,A5]at hw;obtain⟨a1,⟨a2,a3⟩,a4⟩:=hw;rcases J2 hs ao.2 n hr with h|h|⟨j,hj,j1,jl,_⟩
  ·rw[hk]at h;omega
  ·rw[hk]at h;omega
  ·have ad:k=(j:Int):=hk.symm.trans hj;subst ad;rw[A5]at a4;rw[hk,A5];exact jE bk bn bs n j t B D page W m val hK ck cn s0 s1 s2 oM oM aa hr ht ab hrl a3 j1 jl a4
 ·rw[Aa hw];have af:(¬0<k)\/(∃ (j fg fc:Nat) (x:Int),k=(j:Int)/\0<j/\j<m.s.length/\W.cell? (aD D 3)=some (lZ fg m.s.length fc)/\W.cell? (aD fg j)=some (iI x)/\(x == 1)=false)\/(∃ (j g cap fg fc:Nat) (y:Int),k=(j:Int)/\0<j/\j<m.s.length/\W.cell? (aD D 3)=some (lZ fg m.s.length fc)/\W.cell? (aD fg j)=some (iI 1)/\W.cell? (aD D 1)=some (lZ g m.r.length cap)/\W.cell? (aD g (n/4))=some (iI (t:Int))/\W.cell? (aD fg t)=some (iI y)/\(y == 1)=false):=by
   by_cases h0:0<k
   ·right
    rcases J2 hs ao.2 n hr with h|h|⟨j,hj,j1,jl,_⟩
    ·rw[hk]at h;omega
    ·rw[hk]at h;omega
    ·have ad:k=(j:Int):=hk.symm.trans hj;obtain⟨fg,fc,e2,c2,_⟩:=hK.refsAt (r:=j) oM;have d3:=hK.refs5 e2;rw[hrl]at d3
     cases hx:m.f.getD j 0 == 1 with
     | false=>exact .inl ⟨j,fg,fc,_,ad,oM,jl,d3,c2,hx⟩
     | true=>
      obtain⟨a7,a6,ag,c3,_⟩:=hK.refsAt (r:=t) oM;rw[e2]at ag;simp only[BP,Ct,FR,Hh,Jb]at ag;obtain⟨rfl,rfl⟩:=ag;obtain⟨g,cap,e,c,_⟩:=hK.rootAt hr;rw[ht]at c;have az:m.f.getD j 0=1:=by simpa using hx
      rw[az]at c2;refine .inr ⟨j,g,cap,fg,fc,_,ad,oM,jl,d3,c2,hK.root5 e,c,c3,?_⟩
      cases hy:m.f.getD t 0 == 1 with
      | false=>rfl
      | true=>
       refine absurd ?_ hw;have ht0:¬(t:Int)=0:=fun x=>by
        have an:=hk;unfold Be at an;rw[ht,Ab x]at an;omega
       unfold Fw Cq;rw[hj,ht,A5,A5,hx,hy];simp
       omega
   ·exact .inl h0
  cases h1:Jw m n with
  | none=>
   exact jF bk bn bs n t 0 B D k page W m m m m val af aa hr ab ck cn HS (fun q=>by have:=ac q;rw[h1]at this;exact this)
  | some m1=>
   dsimp only;have aq:=S7 hC hn (.inr rfl) h1;have ap:=(Au aq).2.1;have ai:=(Au aq).2.2.1
   by_cases hg40:AK m1.s=40
   ·rw[Ab hg40];have ar:Hd (∀ (w1:World) (val1:Nm->Value),DK w1 B D val1 m1->Below B W w1->Cl 96 #[pZ D,.agg #[iI 1,.string page,nl]] w1 (fun r w2=>r=.panicked G4/\Below B W w2)):=fun w1 val1 hk1 hb1=>(Q5 (es:=[]) hk1 ap hg40 (DG _ _ _ _)).mono (fun e w2 h=>⟨h.1,hb1.trans (h.2.mono (Bg h2 hb1.size))⟩)
    exact jG bk bn bs n t 0 B D k page W m m1 m m val af aa hr ab ck cn HS (fun q=>by have:=ac q;rw[h1]at this;exact this) ar
   ·rw[Aa hg40];obtain⟨t2,ax,ak,av,aj,aw,ah,au⟩:=j8 hC hn h1 hg40 page;have am:Hd (∀ (w1:World) (val1:Nm->Value),DK w1 B D val1 m1->Below B W w1->Cl 96 #[pZ D,.agg #[iI 1,.string page,nl]] w1 (fun r w2=>r=.returned (iI (AK m1.s:Int))/\∃val2,Ay w1 w2 B D m1 val1 AF (BL m1 (1,page,[])) val2)):=fun w1 val1 hk1 hb1=>(Q6 (es:=[]) hk1 (Bg h2 hb1.size) ap ai rfl hg40 (DG _ _ _ _) (fun a ha q hq=>by cases hq) (by nofun)).mono (fun e w2 h=>by obtain⟨a,val2,hT,_⟩:=h;exact⟨a,val2,hT⟩)
    have al:∀ (w2:World) (val2:Nm->Value),DK w2 B D val2 (BL m1 (1,page,[]))->Below B W w2->Cl 95 #[pZ D,iI (n:Int),iI (AK m1.s:Int)] w2 (E1 w2 B D (BL m1 (1,page,[])) val2 AF (C7 (BL m1 (1,page,[])) (n/4) ((Ak (BL m1 (1,page,[])) (n/4)).set (n%4) (AK m1.s:Int)))):=fun w2 val2 hk2 hb2=>Qy hk2 (Bg h2 hb2.size) aa aw ax ak (.inl av) aj ah au
    cases ho:C7 (BL m1 (1,page,[])) (n/4) ((Ak (BL m1 (1,page,[])) (n/4)).set (n%4) (AK m1.s:Int)) with
    | none=>
     exact jH bk bn bs n t (AK m1.s) B D k page W m m1 (BL m1 (1,page,[])) m val af aa hr ab ck cn HS (fun q=>by have:=ac q;rw[h1]at this;exact this) am (fun w2 val2 hk2 hb2=>by have:=al w2 val2 hk2 hb2;rw[ho]at this;exact this)
    | some M=>
     exact jI bk bn bs n t (AK m1.s) B D k page W m m1 (BL m1 (1,page,[])) M val af aa hr ab ck cn HS (fun q=>by have:=ac q;rw[h1]at this;exact this) am (fun w2 val2 hk2 hb2=>by have:=al w2 val2 hk2 hb2;rw[ho]at this;exact this)

theorem Bo.open {w':World}{m:Ac}{err:Int}{r:Ending}(h:Bo w B m err r w'):∃val ra rc sa sc fa fc na nc,r=.returned (.tuple #[.agg (aI m ra rc sa sc fa fc na nc),iI err])/\OI w' B val m/\Below B w w'/\AB m.g val=.agg (aI m ra rc sa sc fa fc na nc):=by
 obtain⟨val,rfl,hO,hb⟩:=h;obtain⟨ra,rc,e0,_⟩:=hO.forms .r (Af.r m);obtain⟨sa,sc,e1,_⟩:=hO.forms .s (Af.s m);obtain⟨fa,fc,e2,_⟩:=hO.forms .f (Af.f m);obtain⟨na,nc,e3,_⟩:=hO.forms .p (Af.p m);have e:AB m.g val=.agg (aI m ra rc sa sc fa fc na nc):=by
  unfold AB;rw[e0,e1,e2,e3]
  rfl
 exact⟨val,ra,rc,sa,sc,fa,fc,na,nc,by rw[e],hO,hb,e⟩

theorem one {a0:Value}{t:TypeId}(h:W.heap[B]?=some (.cells #[a0] t)):W.cell? (aZ B)=some a0:=by simp[World.cell?,h]
theorem jA (m:Ac)(ra:Option Addr)(rn rc:Nat)(sa:Option Addr)(sn sc:Nat)(fa:Option Addr)(fn fc:Nat)(na:Option Addr)(nn nc:Nat)(n e E:Int)(w:World)(h:Al w (.agg (bI m.g ra rn rc sa sn sc fa fn fc na nn nc)) m)(hl:Br m n=E)(hE:(E != 0)=true):Cl 92 #[.agg (bI m.g ra rn rc sa sn sc fa fn fc na nn nc),iI n,iI e] w (Bo w w.heap.size AZ E):=by
 let U:=(cB m.g ra rn rc sa sn sc fa fn fc na nn nc)
 let V:=(((w.alloc U).alloc (oI n)).alloc (oI e))
 have b0:Bw w (V.alloc zI):=((((AG _ _).alloc (by simp[V,U];try omega) _).alloc (by simp[V,U];try omega) _).alloc (by simp[V,U];try omega) _).alloc (by simp[V,U];try omega) _;have q0:(w.alloc U).heap[w.heap.size]?=some U:=AR (by simp[V,U]);have m0:(V.alloc zI).heap[w.heap.size]?=some U:=(Aj (Aj (Aj q0 _) _) _);have q1:((w.alloc U).alloc (oI n)).heap[w.heap.size+1]?=some (oI n):=AR (by simp[V,U]);have m1:(V.alloc zI).heap[w.heap.size+1]?=some (oI n):=(Aj (Aj q1 _) _);have q2:V.heap[w.heap.size+1+1]?=some (oI e):=AR (by simp[V,U]);have m2:(V.alloc zI).heap[w.heap.size+1+1]?=some (oI e):=(Aj q2 _);have q3:(V.alloc zI).heap[w.heap.size+1+1+1]?=some zI:=AR (by simp[V,U]);have m3:(V.alloc zI).heap[w.heap.size+1+1+1]?=some zI:=q3;have hz:(V.alloc zI).heap.size=w.heap.size+1+1+1+1:=by simp[V,U]
 clear q0 q1 q2 q3;have ab:¬E=0:=by simpa[V,U] using hE
 have aa:=Jl (h.below b0) n hl (Aa ab);have c0:=five m0;have cn:=one m1;have HM:Hd (((V.alloc zI)).heap[w.heap.size+1+1+1]?=some zI/\Bw w (V.alloc zI)/\((V.alloc zI)).heap.size=w.heap.size+1+1+1+1):=⟨m3,b0,hz⟩;clear h m0 m1 m2 m3 hz hl b0;dsimp only[V,U]at *;clear V U
 go_enter func92,ntmps92
 go_wp2_with(go_at_call 89;refine aa.mono ?_;rintro e w1 ⟨rfl,b1⟩;have k3:=Aj (Ag HM.o.1 b1 (by rw[HM.o.2.2];omega)) (oI 0);have z0:=five k3;have y0:=Aq k3;have hsz:w.heap.size+1+1+1+1<=w1.heap.size:=(by have:=b1.size;rw[HM.o.2.2]at this;exact this);have HB:Hd (Bw w (w1.alloc (oI 0))):=(Below.on HM.o.2.1 b1).alloc oM _;clear b1 k3);have i1:w.heap.size<=w.heap.size+1+1+1:=oM;refine AY (v:=.tuple #[.agg #[iI 0,nl,nl,nl,nl],iI E]) (by simp[results,results92,go_sem,z0]) rfl (Bo.bad E (((((HB.o.setCell i1 _).setCell i1 _).setCell i1 _).setCell i1 _).setCell i1 _))
theorem jB (m:Ac)(ra:Option Addr)(rn rc:Nat)(sa:Option Addr)(sn sc:Nat)(fa:Option Addr)(fn fc:Nat)(na:Option Addr)(nn nc:Nat)(n:Nat)(e:Int)(w:World)(h:Al w (.agg (bI m.g ra rn rc sa sn sc fa fn fc na nn nc)) m)(hF:Hi m)(hl:Br m (n:Int)=0)(hE:Cf e=true)(k:Int)(hk:Be m m.r n=k)(M:Ac)(hM:Gg (Ll m n e)=M)(er:Int)(her:IH (Ll m n e)=er):Cl 92 #[.agg (bI m.g ra rn rc sa sn sc fa fn fc na nn nc),iI (n:Int),iI e] w (Bo w w.heap.size M er):=by
 let U:=(cB m.g ra rn rc sa sn sc fa fn fc na nn nc)
 let V:=(((w.alloc U).alloc (oI (n:Int))).alloc (oI e))
 have b0:Bw w (V.alloc zI):=((((AG _ _).alloc (by simp[V,U];try omega) _).alloc (by simp[V,U];try omega) _).alloc (by simp[V,U];try omega) _).alloc (by simp[V,U];try omega) _;have q0:(w.alloc U).heap[w.heap.size]?=some U:=AR (by simp[V,U]);have m0:(V.alloc zI).heap[w.heap.size]?=some U:=(Aj (Aj (Aj q0 _) _) _);have q1:((w.alloc U).alloc (oI (n:Int))).heap[w.heap.size+1]?=some (oI (n:Int)):=AR (by simp[V,U]);have m1:(V.alloc zI).heap[w.heap.size+1]?=some (oI (n:Int)):=(Aj (Aj q1 _) _);have q2:V.heap[w.heap.size+1+1]?=some (oI e):=by have:=C2 ((w.alloc U).alloc (oI (n:Int))) (oI e);simpa[V,U] using this
 have m2:(V.alloc zI).heap[w.heap.size+1+1]?=some (oI e):=(Aj q2 _);have q3:(V.alloc zI).heap[w.heap.size+1+1+1]?=some zI:=AR (by simp[V,U]);have m3:(V.alloc zI).heap[w.heap.size+1+1+1]?=some zI:=q3;have hz:(V.alloc zI).heap.size=w.heap.size+1+1+1+1:=by simp[V,U]
 clear q0 q1 q2 q3;obtain⟨hC,_,hn⟩:=Ge hl;have hs:=A0 hC;have ab:=Jl (c:=k) (h.below b0) (n:Int) hl (by rw[Ab rfl,A5];exact hk);have c0:=five m0;have cn:=one m1;have HO:Hd (∀w1,Below (V.alloc zI).heap.size (V.alloc zI) w1->Cl 39 #[.agg (bI m.g ra rn rc sa sn sc fa fn fc na nn nc),.func (.func 156) #[] #[pZ w1.heap.size,pZ (w.heap.size+1+1),pZ (w.heap.size+1)]] (w1.alloc (oI k)) (Bo (w1.alloc (oI k)) (w1.alloc (oI k)).heap.size M er)):=fun w1 b1=>by
  have hsz:w.heap.size+1+1+1+1<=w1.heap.size:=(by have:=b1.size;rw[hz]at this;exact this);have b2:Below (V.alloc zI).heap.size (V.alloc zI) (w1.alloc (oI k)):=b1.alloc (by rw[hz];exact hsz) _;have ad:(w1.alloc (oI k)).heap.size=w1.heap.size+1:=by simp[V,U]
  rw[<-hM,<-her];refine K8 (h.below (Below.on b0 b2)) hF (enters_of func156 kR rfl) (jC (one (Aw _ _)) (one (Ag m2 b2 (by rw[hz];omega))) (one (Ag m1 b2 (by rw[hz];omega))) oM oM oM hs hn hk hE)
 have HM:Hd ((V.alloc zI).heap[w.heap.size]?=some U/\(V.alloc zI).heap[w.heap.size+1+1+1]?=some zI/\Bw w (V.alloc zI)/\(V.alloc zI).heap.size=w.heap.size+1+1+1+1):=⟨m0,m3,b0,hz⟩;clear h m0 m1 m2 m3 hz hl b0 hC hn hs hE hk hM her hF;dsimp only[V,U]at *;clear V U
 go_enter func92,ntmps92
 go_wp2_with(go_at_call 89;refine ab.mono ?_;rintro e w1 ⟨rfl,b1⟩;have d0:=Aj (Ag HM.o.1 b1 (by rw[HM.o.2.2.2];omega)) (oI k);have d1:=five d0;have ac:=HO.o w1 b1;have HW:Hd (Bw w (w1.alloc (oI k))/\(w1.alloc (oI k)).heap[w.heap.size+1+1+1]?=some zI/\w.heap.size+1+1+1+1<(w1.alloc (oI k)).heap.size):=(⟨(Below.on HM.o.2.2.1 b1).alloc (by have:=b1.size;rw[HM.o.2.2.2]at this;omega) _,Aj (Ag HM.o.2.1 b1 (by rw[HM.o.2.2.2];omega)) _,(by have:=b1.size;rw[HM.o.2.2.2]at this;have ad:(w1.alloc (oI k)).heap.size=w1.heap.size+1:=(by simp);omega)⟩);clear b1 d0);refine ac.mono ?_;intro e w2 hA;obtain⟨val,ga,gc,la,lc,oa,oc,ta,tc,rfl,hO,b1,hI⟩:=hA.open;dsimp only;have k1:=Ag HW.o.2.1 b1 (by have:=HW.o.2.2;omega);have z0:=five k1;have y0:=Aq k1;have HP:Hd (OI w2 (w1.alloc (oI k)).heap.size val M):=hO;have HB:Hd (Bw w w2):=Below.on HW.o.1 b1;have HI:Hd (AB M.g val=.agg (aI M ga gc la lc oa oc ta tc)):=hI;clear hO b1 hI ac hA;go_wp2_with fail;have i1:w.heap.size<=w.heap.size+1+1+1:=oM;have aa:∀a,Af M a->(val a).ownBlock≠some (w.heap.size+1+1+1):=fun a ha e=>by have:=((HP.o.row a ha).lt _ e).1;have:=HW.o.2.2;omega
 refine AY (v:=.tuple #[.agg (aI M ga gc la lc oa oc ta tc),iI er]) (by simp[results,results92,go_sem,z0]) rfl ⟨val,by rw[HI.o],OI.mono (((((HP.o.far aa).far aa).far aa).far aa).far aa) (by have:=HW.o.2.2;omega),((((HB.o.setCell i1 _).setCell i1 _).setCell i1 _).setCell i1 _).setCell i1 _⟩
theorem Vo {m:Ac}(h:Al w v m)(n e:Int)(he:e=0\/e = -1):Cl 92 #[v,iI n,iI e] w (Bo w w.heap.size (if Br m n=0 then (C8 m n.toNat e).getD AZ else AZ) (if Br m n=0 then Ev (C8 m n.toNat e) else Br m n)):=by
 have h':=h;obtain⟨ra,rc,sa,sc,fa,fc,na,nc,rfl,_⟩:=h.parts
 by_cases hl:Br m n=0
 ·rw[Ab hl,Ab hl];obtain⟨hC,h0,hn⟩:=Ge hl;obtain⟨j,rfl⟩:=FV h0;have hM:=jz hC hn he;have hE:Cf e=true:=by rcases he with rfl|rfl<;>decide
  rw[A5];exact jB m ra _ rc sa _ sc fa _ fc na _ nc j e w h' (JV (A0 hC)) hl hE _ rfl _ hM.m _ hM.e
 ·rw[Aa hl,Aa hl];exact jA m ra _ rc sa _ sc fa _ fc na _ nc n e _ w h' rfl (by simp[hl])
def G6 (k:Int) (d:ByteArray) (xs:List Int):Int:=if Cb k d xs=true then 0 else 1
theorem RO {o:Obj}(h:Below (w.alloc o).drew.heap.size (w.alloc o).drew w1):Below (w.heap.size+1) (w.alloc o) w1:=
 ⟨h.os,h.tape,h.output,h.size,fun k hk=>h.block k (by simp;exact hk)⟩
theorem RP {x y z:Value}{T:TypeId}(h:Below (w.heap.size+1) (w.alloc (.cells #[x,y,z] T)) w1):w1.cell? (aZ w.heap.size)=some x/\w1.cell? (aD w.heap.size 1)=some y/\w1.cell? (aD w.heap.size 2)=some z:=by
 refine⟨(h.cell (p:=(aZ w.heap.size)) (by simp)).trans ?_,(h.cell (p:=(aD w.heap.size 1)) (by simp)).trans ?_,(h.cell (p:=(aD w.heap.size 2)) (by simp)).trans ?_⟩<;>rw[GT _ _ _ _ rfl]<;>rfl
theorem UH (w:World)(N:Nat)(hN:w.heap.size=N):Cl 158 #[] w fun r w'=>r=.returned (.map (some N))/\Hd (w'.heap[N]?=some (.map Et 3))/\Bw w w':=by
 subst hN;exact(UG w).mono fun e w' h=>⟨h.1,h.2.1,h.2.2.1⟩
theorem gQ (k:Int)(d:ByteArray)(ta:Option Addr)(tn tc:Nat)(xs:List Int)(w:World)(h:Sl w (.slice ta tn tc) xs):Cl 93 #[.agg #[iI k,.string d,.slice ta tn tc]] w fun r w'=>r=.returned (iI (G6 k d xs))/\Bw w w':=by
 have hs:=h.past (oS k d ta tn tc);have b0:Bw w (w.alloc (oS k d ta tn tc)):=Av
 cases hE:Cb k d xs with
 | true=>
  have HE:Hd (G6 k d xs=0):=by show _=_;unfold G6;rw[Ab hE]
  go_enter func93,ntmps93
  go_wp2
  go_region_with (first|(go_at_call 158;refine(UH _ (w.heap.size+1) (by simp)).mono ?_;rintro e w1 ⟨rfl,HR,b1⟩;have b1:Below (w.heap.size+1) (w.alloc (oS k d ta tn tc)) w1:=(RO b1);obtain⟨c1,c2,c3⟩:=RP b1)|(go_at_call 157;refine(ND _ 3 k d _ xs _ ?_ ?_).mono ?_;(first|exact HR.o|skip);(first|exact hs.below (by simpa using b1)|skip);rintro e w2 ⟨rfl,b2⟩))
  all_goals
   go_wp2
   go_ret;exact⟨Cj HE.o.symm,Below.on (b0.trans (b1.mono (Cw _))) b2⟩
 | false=>
  have HE:Hd (G6 k d xs=1):=by show _=_;unfold G6;rw[Aa (by simp[hE])]
  go_enter func93,ntmps93
  go_wp2
  go_region_with (first|(go_at_call 158;refine(UH _ (w.heap.size+1) (by simp)).mono ?_;rintro e w1 ⟨rfl,HR,b1⟩;have b1:Below (w.heap.size+1) (w.alloc (oS k d ta tn tc)) w1:=(RO b1);obtain⟨c1,c2,c3⟩:=RP b1)|(go_at_call 157;refine(ND _ 3 k d _ xs _ ?_ ?_).mono ?_;(first|exact HR.o|skip);(first|exact hs.below (by simpa using b1)|skip);rintro e w2 ⟨rfl,b2⟩))
  all_goals
   go_wp2
   go_ret;exact⟨Cj HE.o.symm,Below.on (b0.trans (b1.mono (Cw _))) b2⟩
theorem gP (k:Int)(d:ByteArray)(tv:Value)(xs:List Int)(w:World)(h:Sl w tv xs):Cl 93 #[.agg #[iI k,.string d,tv]] w fun r w'=>r=.returned (iI (G6 k d xs))/\Bw w w':=by
 obtain⟨ao,cap,rfl⟩:=h.form;exact gQ k d ao _ cap xs w h
theorem UO {tv:Value}{xs:List Int}(h:Sl w tv xs){c:Int}(hc:G6 k d xs=c):Cl 93 #[.agg #[iI k,.string d,tv]] w fun r w'=>r=.returned (iI c)/\Bw w w':=by subst hc;exact gP k d tv xs w h
theorem iz (h:page.size=4):G6 1 page []=0:=by
 unfold G6 Cb;simp[h]
theorem iy (h:page.size≠4):G6 1 page []=1:=by
 unfold G6 Cb;simp[h]
theorem ki (m:Ac)(ra:Option Addr)(rn rc:Nat)(sa:Option Addr)(sn sc:Nat)(fa:Option Addr)(fn fc:Nat)(na:Option Addr)(nn nc:Nat)(n E:Int)(page:ByteArray)(w:World)(h:Al w (.agg (bI m.g ra rn rc sa sn sc fa fn fc na nn nc)) m)(hl:Br m n=E)(hE:(E != 0)=true):Cl 51 #[.agg (bI m.g ra rn rc sa sn sc fa fn fc na nn nc),iI n,.string page] w (Bo w w.heap.size AZ E):=by
 let U:=(cB m.g ra rn rc sa sn sc fa fn fc na nn nc)
 let V:=((w.alloc U).alloc (oI n))
 have b0:Bw w (V.alloc zI):=(((AG _ _).alloc (by simp[V,U];try omega) _).alloc (by simp[V,U];try omega) _).alloc (by simp[V,U];try omega) _;have q0:(w.alloc U).heap[w.heap.size]?=some U:=AR (by simp[V,U]);have m0:(V.alloc zI).heap[w.heap.size]?=some U:=(Aj (Aj q0 _) _);have q1:V.heap[w.heap.size+1]?=some (oI n):=AR (by simp[V,U]);have m1:(V.alloc zI).heap[w.heap.size+1]?=some (oI n):=(Aj q1 _);have q2:(V.alloc zI).heap[w.heap.size+1+1]?=some zI:=AR (by simp[V,U]);have m2:(V.alloc zI).heap[w.heap.size+1+1]?=some zI:=q2;have hz:(V.alloc zI).heap.size=w.heap.size+1+1+1:=by simp[V,U]
 clear q0 q1 q2;have ab:¬E=0:=by simpa[V,U] using hE
 have aa:=Jl (h.below b0) n hl (Aa ab);have c0:=five m0;have cn:=one m1;have HM:Hd ((V.alloc zI).heap[w.heap.size+1+1]?=some zI/\Bw w (V.alloc zI)/\(V.alloc zI).heap.size=w.heap.size+1+1+1):=⟨m2,b0,hz⟩;clear h m0 m1 m2 hz hl b0;dsimp only[V,U]at *;clear V U
 go_enter func51,ntmps51
 go_wp2_with(go_at_call 89;refine aa.mono ?_;rintro e w1 ⟨rfl,b1⟩;have k3:=Aj (Ag HM.o.1 b1 (by rw[HM.o.2.2];omega)) (oI 0);have z0:=five k3;have y0:=Aq k3;have hsz:w.heap.size+1+1+1<=w1.heap.size:=(by have:=b1.size;rw[HM.o.2.2]at this;exact this);have HB:Hd (Bw w (w1.alloc (oI 0))):=(Below.on HM.o.2.1 b1).alloc oM _;clear b1 k3);have i1:w.heap.size<=w.heap.size+1+1:=oM;refine AY (v:=.tuple #[.agg #[iI 0,nl,nl,nl,nl],iI E]) (by simp[results,results51,go_sem,z0]) rfl (Bo.bad E (((((HB.o.setCell i1 _).setCell i1 _).setCell i1 _).setCell i1 _).setCell i1 _))
theorem kj (m:Ac)(ra:Option Addr)(rn rc:Nat)(sa:Option Addr)(sn sc:Nat)(fa:Option Addr)(fn fc:Nat)(na:Option Addr)(nn nc:Nat)(n:Nat)(page:ByteArray)(w:World)(h:Al w (.agg (bI m.g ra rn rc sa sn sc fa fn fc na nn nc)) m)(hl:Br m (n:Int)=0)(hp:page.size≠4)(k:Int)(hk:Be m m.r n=k):Cl 51 #[.agg (bI m.g ra rn rc sa sn sc fa fn fc na nn nc),iI (n:Int),.string page] w (Bo w w.heap.size AZ 1):=by
 let U:=(cB m.g ra rn rc sa sn sc fa fn fc na nn nc)
 let V:=((w.alloc U).alloc (oI (n:Int)))
 have b0:Bw w (V.alloc zI):=(((AG _ _).alloc (by simp[V,U];try omega) _).alloc (by simp[V,U];try omega) _).alloc (by simp[V,U];try omega) _;have q0:(w.alloc U).heap[w.heap.size]?=some U:=AR (by simp[V,U]);have m0:(V.alloc zI).heap[w.heap.size]?=some U:=(Aj (Aj q0 _) _);have q1:V.heap[w.heap.size+1]?=some (oI (n:Int)):=AR (by simp[V,U]);have m1:(V.alloc zI).heap[w.heap.size+1]?=some (oI (n:Int)):=(Aj q1 _);have q2:(V.alloc zI).heap[w.heap.size+1+1]?=some zI:=AR (by simp[V,U]);have m2:(V.alloc zI).heap[w.heap.size+1+1]?=some zI:=q2;have hz:(V.alloc zI).heap.size=w.heap.size+1+1+1:=by simp[V,U]
 clear q0 q1 q2;have aa:=Jl (c:=k) (h.below b0) (n:Int) hl (by rw[Ab rfl,A5];exact hk);have c0:=five m0;have cn:=one m1;have HC:Hd (∀w1:World,Cl 93 #[.agg #[iI 1,.string page,nl]] ((w1.alloc (oI k)).alloc (.cells #[iI 1,.string page,nl] 85)) fun r w'=>r=.returned (iI 1)/\Below ((w1.alloc (oI k)).alloc (.cells #[iI 1,.string page,nl] 85)).heap.size ((w1.alloc (oI k)).alloc (.cells #[iI 1,.string page,nl] 85)) w'):=fun w1=>UO (Sl.nil _) (iy hp)
 have HM:Hd ((V.alloc zI).heap[w.heap.size+1+1]?=some zI/\Bw w (V.alloc zI)/\(V.alloc zI).heap.size=w.heap.size+1+1+1):=⟨m2,b0,hz⟩;clear h m0 m1 m2 hz hl b0 hk hp;dsimp only[V,U]at *;clear V U
 go_enter func51,ntmps51
 go_wp2_with(first|(go_at_call 93;refine ac.mono ?_;rintro e w2 ⟨rfl,b2⟩;have k3:=Ag HW.o.1 b2 HW.o.2.2;have z0:=five k3;have y0:=Aq k3;have HB:Hd (Bw w w2):=Below.on HW.o.2.1 b2;clear b2 k3)|(go_at_call 89;refine aa.mono ?_;rintro e w1 ⟨rfl,b1⟩;have hsz:w.heap.size+1+1+1<=w1.heap.size:=(by have:=b1.size;rw[HM.o.2.2]at this;exact this);have ab:((w1.alloc (oI k)).alloc (.cells #[iI 1,.string page,nl] 85)).heap.size=w1.heap.size+1+1:=(by simp);have HW:Hd (((w1.alloc (oI k)).alloc (.cells #[iI 1,.string page,nl] 85)).heap[w.heap.size+1+1]?=some zI/\Bw w ((w1.alloc (oI k)).alloc (.cells #[iI 1,.string page,nl] 85))/\w.heap.size+1+1<((w1.alloc (oI k)).alloc (.cells #[iI 1,.string page,nl] 85)).heap.size):=(⟨Aj (Aj (Ag HM.o.1 b1 (by rw[HM.o.2.2];omega)) _) _,((Below.on HM.o.2.1 b1).alloc oM _).alloc (by simp;omega) _,by rw[ab];omega⟩);have qq:((w1.alloc (oI k)).alloc (.cells #[iI 1,.string page,nl] 85)).heap[w1.heap.size+1]?=some (.cells #[iI 1,.string page,nl] 85):=(AR (by simp));obtain⟨u0,u1,u2⟩:=BO qq;have ac:=HC.o w1;clear b1 ab hsz qq));have i1:w.heap.size<=w.heap.size+1+1:=oM;refine AY (v:=.tuple #[.agg #[iI 0,nl,nl,nl,nl],iI 1]) (by simp[results,results51,go_sem,z0]) rfl (Bo.bad 1 (((((HB.o.setCell i1 _).setCell i1 _).setCell i1 _).setCell i1 _).setCell i1 _))
theorem ko (m:Ac)(ra:Option Addr)(rn rc:Nat)(sa:Option Addr)(sn sc:Nat)(fa:Option Addr)(fn fc:Nat)(na:Option Addr)(nn nc:Nat)(n:Nat)(page:ByteArray)(w:World)(h:Al w (.agg (bI m.g ra rn rc sa sn sc fa fn fc na nn nc)) m)(hF:Hi m)(hl:Br m (n:Int)=0)(hp:page.size=4)(k:Int)(hk:Be m m.r n=k)(M:Ac)(hM:Gg (Lp m n page)=M)(er:Int)(her:IH (Lp m n page)=er):Cl 51 #[.agg (bI m.g ra rn rc sa sn sc fa fn fc na nn nc),iI (n:Int),.string page] w (Bo w w.heap.size M er):=by
 let U:=(cB m.g ra rn rc sa sn sc fa fn fc na nn nc)
 let V:=((w.alloc U).alloc (oI (n:Int)))
 have b0:Bw w (V.alloc zI):=(((AG _ _).alloc (by simp[V,U];try omega) _).alloc (by simp[V,U];try omega) _).alloc (by simp[V,U];try omega) _;have q0:(w.alloc U).heap[w.heap.size]?=some U:=AR (by simp[V,U]);have m0:(V.alloc zI).heap[w.heap.size]?=some U:=(Aj (Aj q0 _) _);have q1:V.heap[w.heap.size+1]?=some (oI (n:Int)):=AR (by simp[V,U]);have m1:(V.alloc zI).heap[w.heap.size+1]?=some (oI (n:Int)):=(Aj q1 _);have q2:(V.alloc zI).heap[w.heap.size+1+1]?=some zI:=AR (by simp[V,U]);have m2:(V.alloc zI).heap[w.heap.size+1+1]?=some zI:=q2;have hz:(V.alloc zI).heap.size=w.heap.size+1+1+1:=by simp[V,U]
 clear q0 q1 q2;obtain⟨hC,_,hn⟩:=Ge hl;have ac:=Jl (c:=k) (h.below b0) (n:Int) hl (by rw[Ab rfl,A5];exact hk);have c0:=five m0;have cn:=one m1;have HC:Hd (∀w1:World,Cl 93 #[.agg #[iI 1,.string page,nl]] ((w1.alloc (oI k)).alloc (.cells #[iI 1,.string page,nl] 85)) fun r w'=>r=.returned (iI 0)/\Below ((w1.alloc (oI k)).alloc (.cells #[iI 1,.string page,nl] 85)).heap.size ((w1.alloc (oI k)).alloc (.cells #[iI 1,.string page,nl] 85)) w'):=fun w1=>UO (Sl.nil _) (iz hp)
 have HO:Hd (∀w1 w2,Below (V.alloc zI).heap.size (V.alloc zI) w1->Below ((w1.alloc (oI k)).alloc (.cells #[iI 1,.string page,nl] 85)).heap.size ((w1.alloc (oI k)).alloc (.cells #[iI 1,.string page,nl] 85)) w2->Cl 39 #[.agg (bI m.g ra rn rc sa sn sc fa fn fc na nn nc),.func (.func 94) #[] #[pZ w1.heap.size,pZ (w.heap.size+1),pZ (w1.heap.size+1)]] w2 (Bo w2 w2.heap.size M er)):=fun w1 w2 b1 b2=>by
  have hsz:w.heap.size+1+1+1<=w1.heap.size:=(by have:=b1.size;rw[hz]at this;exact this);have aa:((w1.alloc (oI k)).alloc (.cells #[iI 1,.string page,nl] 85)).heap.size=w1.heap.size+1+1:=by simp[V,U]
  have q0:((w1.alloc (oI k)).alloc (.cells #[iI 1,.string page,nl] 85)).heap[w1.heap.size]?=some (oI k):=Aj (Aw _ _) _;have qq:((w1.alloc (oI k)).alloc (.cells #[iI 1,.string page,nl] 85)).heap[w1.heap.size+1]?=some (.cells #[iI 1,.string page,nl] 85):=AR (by simp[V,U]);have qn:=Aj (Aj (Ag m1 b1 (by rw[hz];omega)) (oI k)) (.cells #[iI 1,.string page,nl] 85);have r0:=one (Ag q0 b2 (by rw[aa];omega));have rn:=one (Ag qn b2 (by rw[aa];omega));obtain⟨r1,r2,r3⟩:=BO (Ag qq b2 (by rw[aa];omega));have af:w1.heap.size+1+1<=w2.heap.size:=by have:=b2.size;rw[aa]at this;exact this
  have bb:Bw w ((w1.alloc (oI k)).alloc (.cells #[iI 1,.string page,nl] 85)):=((Below.on b0 b1).alloc oM _).alloc (by simp[V,U];omega) _;rw[<-hM,<-her];exact K8 (h.below (Below.on bb b2)) hF (enters_of func94 kR rfl) (kp r0 rn r1 r2 r3 oM oM oM hC hn hk)
 have HM:Hd ((V.alloc zI).heap[w.heap.size]?=some U/\(V.alloc zI).heap[w.heap.size+1+1]?=some zI/\Bw w (V.alloc zI)/\(V.alloc zI).heap.size=w.heap.size+1+1+1):=⟨m0,m2,b0,hz⟩;clear h m0 m1 m2 hz hl b0 hC hn hk hM her hF hp;dsimp only[V,U]at *;clear V U
 go_enter func51,ntmps51
 go_wp2_with(first|(go_at_call 93;refine ae.mono ?_;rintro e w2 ⟨rfl,b2⟩;have d0:=Ag HW.o.2.2.2.1 b2 (by have:=HW.o.2.2.1;omega);have d1:=five d0;have ad:=HO.o w1 w2 HW.o.2.2.2.2 b2;have HV:Hd (Bw w w2/\w2.heap[w.heap.size+1+1]?=some zI/\w.heap.size+1+1<w2.heap.size):=(⟨Below.on HW.o.2.1 b2,Ag HW.o.1 b2 HW.o.2.2.1,AO HW.o.2.2.1 b2.size⟩);clear b2 d0)|(go_at_call 89;refine ac.mono ?_;rintro e w1 ⟨rfl,b1⟩;have hsz:w.heap.size+1+1+1<=w1.heap.size:=(by have:=b1.size;rw[HM.o.2.2.2]at this;exact this);have aa:((w1.alloc (oI k)).alloc (.cells #[iI 1,.string page,nl] 85)).heap.size=w1.heap.size+1+1:=(by simp);have HW:Hd (((w1.alloc (oI k)).alloc (.cells #[iI 1,.string page,nl] 85)).heap[w.heap.size+1+1]?=some zI/\Bw w ((w1.alloc (oI k)).alloc (.cells #[iI 1,.string page,nl] 85))/\w.heap.size+1+1<((w1.alloc (oI k)).alloc (.cells #[iI 1,.string page,nl] 85)).heap.size/\((w1.alloc (oI k)).alloc (.cells #[iI 1,.string page,nl] 85)).heap[w.heap.size]?=some (cB m.g ra rn rc sa sn sc fa fn fc na nn nc)/\Below (((w.alloc (cB m.g ra rn rc sa sn sc fa fn fc na nn nc)).alloc (oI (n:Int))).alloc zI).heap.size (((w.alloc (cB m.g ra rn rc sa sn sc fa fn fc na nn nc)).alloc (oI (n:Int))).alloc zI) w1):=(⟨Aj (Aj (Ag HM.o.2.1 b1 (by rw[HM.o.2.2.2];omega)) _) _,((Below.on HM.o.2.2.1 b1).alloc oM _).alloc (by simp;omega) _,by rw[aa];omega,Aj (Aj (Ag HM.o.1 b1 (by rw[HM.o.2.2.2];omega)) _) _,b1⟩);have qq:((w1.alloc (oI k)).alloc (.cells #[iI 1,.string page,nl] 85)).heap[w1.heap.size+1]?=some (.cells #[iI 1,.string page,nl] 85):=(AR (by simp));obtain⟨u0,u1,u2⟩:=BO qq;have ae:=HC.o w1;clear b1 aa hsz qq));refine ad.mono ?_;intro e w3 hA;obtain⟨val,ga,gc,la,lc,oa,oc,ta,tc,rfl,hO,b1,hI⟩:=hA.open;dsimp only;have k3:=Ag HV.o.2.1 b1 HV.o.2.2;have z0:=five k3;have y0:=Aq k3;have HP:Hd (OI w3 w2.heap.size val M):=hO;have HB:Hd (Bw w w3):=Below.on HV.o.1 b1;have HI:Hd (AB M.g val=.agg (aI M ga gc la lc oa oc ta tc)):=hI;clear hO b1 hI ad hA;go_wp2_with fail;have i1:w.heap.size<=w.heap.size+1+1:=oM;have ab:∀a,Af M a->(val a).ownBlock≠some (w.heap.size+1+1):=fun a ha e=>by have:=((HP.o.row a ha).lt _ e).1;have:=HV.o.2.2;omega
 refine AY (v:=.tuple #[.agg (aI M ga gc la lc oa oc ta tc),iI er]) (by simp[results,results51,go_sem,z0]) rfl ⟨val,by rw[HI.o],OI.mono (((((HP.o.far ab).far ab).far ab).far ab).far ab) (by have:=HV.o.2.2;omega),((((HB.o.setCell i1 _).setCell i1 _).setCell i1 _).setCell i1 _).setCell i1 _⟩
def IQ (m:Ac) (n:Int) (page:ByteArray):Int:=if Br m n≠0 then Br m n else if page.size=4 then Ev (Ec m n.toNat page) else 1
def Jy (m:Ac) (n:Int) (page:ByteArray):Ac:=if Br m n≠0 then AZ else if page.size=4 then (Ec m n.toNat page).getD AZ else AZ
theorem km {m:Ac}(h:Al w v m)(n:Int)(page:ByteArray):Cl 51 #[v,iI n,.string page] w (Bo w w.heap.size (Jy m n page) (IQ m n page)):=by
 have h':=h;obtain⟨ra,rc,sa,sc,fa,fc,na,nc,rfl,_⟩:=h.parts;unfold Jy IQ
 by_cases hl:Br m n=0
 ·have hl0:¬Br m n≠0:=fun x=>x hl
  rw[Aa hl0,Aa hl0];obtain⟨hC,h0,hn⟩:=Ge hl;obtain⟨j,rfl⟩:=FV h0;rw[A5]
  by_cases hp:page.size=4
  ·rw[Ab hp,Ab hp];have hM:=j9 hC hn hp;exact ko m ra _ rc sa _ sc fa _ fc na _ nc j page w h' (JV (A0 hC)) hl hp _ rfl _ hM.m _ hM.e
  ·rw[Aa hp,Aa hp];exact kj m ra _ rc sa _ sc fa _ fc na _ nc j page w h' hl hp _ rfl
 ·rw[Ab hl,Ab hl];exact ki m ra _ rc sa _ sc fa _ fc na _ nc n _ page w h' rfl (by simp[hl])

theorem jN (m:Ac)(ra:Option Addr)(rn rc:Nat)(sa:Option Addr)(sn sc:Nat)(fa:Option Addr)(fn fc:Nat)(na:Option Addr)(nn nc:Nat)(n:Int)(w:World)(h:Al w (.agg (bI m.g ra rn rc sa sn sc fa fn fc na nn nc)) m)(M:Ac)(hM:(if Br m n=0 then (C8 m n.toNat (-1)).getD AZ else AZ)=M)(er:Int)(her:(if Br m n=0 then Ev (C8 m n.toNat (-1)) else Br m n)=er):Cl 48 #[.agg (bI m.g ra rn rc sa sn sc fa fn fc na nn nc),iI n] w (Bo w w.heap.size M er):=by
 let V:=(cB m.g ra rn rc sa sn sc fa fn fc na nn nc)
 have b0:Bw w ((w.alloc V).alloc zI):=((AG _ _).alloc (by simp[V];try omega) _).alloc (by simp[V];try omega) _;have q0:(w.alloc V).heap[w.heap.size]?=some V:=AR (by simp[V]);have m0:((w.alloc V).alloc zI).heap[w.heap.size]?=some V:=(Aj q0 _);have q1:((w.alloc V).alloc zI).heap[w.heap.size+1]?=some zI:=AR (by simp[V]);have m1:((w.alloc V).alloc zI).heap[w.heap.size+1]?=some zI:=q1;have hz:((w.alloc V).alloc zI).heap.size=w.heap.size+1+1:=by simp[V]
 clear q0 q1;have ab:=Vo (h.below b0) n (-1) (.inr rfl);rw[hM,her]at ab;have c0:=five m0;have HW:Hd (Bw w ((w.alloc V).alloc zI)/\((w.alloc V).alloc zI).heap[w.heap.size+1]?=some zI/\((w.alloc V).alloc zI).heap.size=w.heap.size+1+1):=⟨b0,m1,hz⟩;clear h m0 m1 hz b0 hM her;dsimp only[V]at *;clear V
 go_enter func48,ntmps48
 go_wp2_with fail;refine ab.mono ?_;intro e w2 hA;obtain⟨val,ga,gc,la,lc,oa,oc,ta,tc,rfl,hO,b1,hI⟩:=hA.open;dsimp only;have k1:=Ag HW.o.2.1 b1 (by have:=HW.o.2.2;omega);have z0:=five k1;have y0:=Aq k1;have HP:Hd (OI w2 (w.heap.size+1+1) val M):=by rw[HW.o.2.2]at hO;exact hO
 have HB:Hd (Bw w w2):=Below.on HW.o.1 b1;have HI:Hd (AB M.g val=.agg (aI M ga gc la lc oa oc ta tc)):=hI;clear hO b1 hI ab hA;go_wp2_with fail;have i1:w.heap.size<=w.heap.size+1:=oM;have aa:∀a,Af M a->(val a).ownBlock≠some (w.heap.size+1):=fun a ha e=>by have:=((HP.o.row a ha).lt _ e).1;omega
 refine AY (v:=.tuple #[.agg (aI M ga gc la lc oa oc ta tc),iI er]) (by simp[results,results48,go_sem,z0]) rfl ⟨val,by rw[HI.o],OI.mono (((((HP.o.far aa).far aa).far aa).far aa).far aa) oM,((((HB.o.setCell i1 _).setCell i1 _).setCell i1 _).setCell i1 _).setCell i1 _⟩
theorem jO {m:Ac}(h:Al w v m)(n:Int):Cl 48 #[v,iI n] w (Bo w w.heap.size (if Br m n=0 then (C8 m n.toNat (-1)).getD AZ else AZ) (if Br m n=0 then Ev (C8 m n.toNat (-1)) else Br m n)):=by
 have h':=h;obtain⟨ra,rc,sa,sc,fa,fc,na,nc,rfl,_⟩:=h.parts;exact jN m ra _ rc sa _ sc fa _ fc na _ nc n w h' _ rfl _ rfl
theorem ez (m:Ac)(ra:Option Addr)(rn rc:Nat)(sa:Option Addr)(sn sc:Nat)(fa:Option Addr)(fn fc:Nat)(na:Option Addr)(nn nc:Nat)(n:Int)(w:World)(h:Al w (.agg (bI m.g ra rn rc sa sn sc fa fn fc na nn nc)) m)(M:Ac)(hM:(if Br m n=0 then (C8 m n.toNat (0)).getD AZ else AZ)=M)(er:Int)(her:(if Br m n=0 then Ev (C8 m n.toNat (0)) else Br m n)=er):Cl 49 #[.agg (bI m.g ra rn rc sa sn sc fa fn fc na nn nc),iI n] w (Bo w w.heap.size M er):=by
 let V:=(cB m.g ra rn rc sa sn sc fa fn fc na nn nc)
 have b0:Bw w ((w.alloc V).alloc zI):=((AG _ _).alloc (by simp[V];try omega) _).alloc (by simp[V];try omega) _;have q0:(w.alloc V).heap[w.heap.size]?=some V:=AR (by simp[V]);have m0:((w.alloc V).alloc zI).heap[w.heap.size]?=some V:=(Aj q0 _);have q1:((w.alloc V).alloc zI).heap[w.heap.size+1]?=some zI:=AR (by simp[V]);have m1:((w.alloc V).alloc zI).heap[w.heap.size+1]?=some zI:=q1;have hz:((w.alloc V).alloc zI).heap.size=w.heap.size+1+1:=by simp[V]
 clear q0 q1;have ab:=Vo (h.below b0) n (0) (.inl rfl);rw[hM,her]at ab;have c0:=five m0;have HW:Hd (Bw w ((w.alloc V).alloc zI)/\((w.alloc V).alloc zI).heap[w.heap.size+1]?=some zI/\((w.alloc V).alloc zI).heap.size=w.heap.size+1+1):=⟨b0,m1,hz⟩;clear h m0 m1 hz b0 hM her;dsimp only[V]at *;clear V
 go_enter func49,ntmps49
 go_wp2_with fail;refine ab.mono ?_;intro e w2 hA;obtain⟨val,ga,gc,la,lc,oa,oc,ta,tc,rfl,hO,b1,hI⟩:=hA.open;dsimp only;have k1:=Ag HW.o.2.1 b1 (by have:=HW.o.2.2;omega);have z0:=five k1;have y0:=Aq k1;have HP:Hd (OI w2 (w.heap.size+1+1) val M):=by rw[HW.o.2.2]at hO;exact hO
 have HB:Hd (Bw w w2):=Below.on HW.o.1 b1;have HI:Hd (AB M.g val=.agg (aI M ga gc la lc oa oc ta tc)):=hI;clear hO b1 hI ab hA;go_wp2_with fail;have i1:w.heap.size<=w.heap.size+1:=oM;have aa:∀a,Af M a->(val a).ownBlock≠some (w.heap.size+1):=fun a ha e=>by have:=((HP.o.row a ha).lt _ e).1;omega
 refine AY (v:=.tuple #[.agg (aI M ga gc la lc oa oc ta tc),iI er]) (by simp[results,results49,go_sem,z0]) rfl ⟨val,by rw[HI.o],OI.mono (((((HP.o.far aa).far aa).far aa).far aa).far aa) oM,((((HB.o.setCell i1 _).setCell i1 _).setCell i1 _).setCell i1 _).setCell i1 _⟩
theorem eA {m:Ac}(h:Al w v m)(n:Int):Cl 49 #[v,iI n] w (Bo w w.heap.size (if Br m n=0 then (C8 m n.toNat (0)).getD AZ else AZ) (if Br m n=0 then Ev (C8 m n.toNat (0)) else Br m n)):=by
 have h':=h;obtain⟨ra,rc,sa,sc,fa,fc,na,nc,rfl,_⟩:=h.parts;exact ez m ra _ rc sa _ sc fa _ fc na _ nc n w h' _ rfl _ rfl
end Go.Proofs.YtfciijncfbepjaaGreatDoor
