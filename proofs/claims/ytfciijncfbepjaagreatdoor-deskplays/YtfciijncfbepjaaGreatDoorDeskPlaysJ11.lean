/- Texts joined: SnU, SnW, SnC, SnE, PDec, NBegun, DkZ, WoI, WoG, RoB, RoM, RoD, RoG. -/
import Derived.Test.YtfciijncfbepjaaGreatDoorDeskPlaysJ8
import Derived.Test.YtfciijncfbepjaaGreatDoorDeskPlaysJ5
import Derived.Test.YtfciijncfbepjaaGreatDoorDeskPlaysJ3
import Derived.Test.YtfciijncfbepjaaGreatDoorDeskPlaysJ2
import Derived.Test.YtfciijncfbepjaaGreatDoorDeskPlaysJ10
import Derived.Test.YtfciijncfbepjaaGreatDoorDeskPlaysJ7
import Derived.Test.YtfciijncfbepjaaGreatDoorDeskPlaysJ9
import Derived.Test.YtfciijncfbepjaaGreatDoorDeskPlaysJ4
import Derived.Test.YtfciijncfbepjaaGreatDoorDeskPlaysJ6
set_option linter.unusedVariables false
set_option linter.unusedSimpArgs false
set_option maxHeartbeats 200000000
set_option maxRecDepth 20000
namespace Go.Proofs.YtfciijncfbepjaaGreatDoor
open Go.Proofs.Tryz
variable {W X w:World}{B D b k:Nat}{val:Nm->Value}{M m:Ac}{v x0 x2:Value}{E:Int}
open Go.RowKit Go.Shelf
section
open Go.Lib
theorem St (h:OI W B val m):∀u∈A8 m.p (fun j=>val (.sr j)),u.oneCell'=true:=
 PI fun j hj=>UW (h.row (.sr j) (Af.sr hj))
theorem Xl (h:DK W B D val m)(hB:B<=W.heap.size)(hk:k<m.p.length)(h3:m.p.length<=1000):Cl 104 #[pZ D,iI k] W fun r W'=>∃val',r=.returned (.tuple #[])/\Ay W W' B D m val AF (Dk m k) val':=by
 have ab:W.ownsRow B 87 3 (val .p) m.p.length (A8 m.p (fun j=>val (.sr j))):=h.own.row .p (Af.p m);have aa:=Xm B m.p.length k (val .p) _ W hk ab (St h.own);obtain⟨c0,c1,c2,c3,c4⟩:=h.five;obtain⟨ao,cap,ad⟩:=B0 ab;have ag:IntKind.i64.wrap ((k:Int)+1)=(k:Int)+1:=by rw[G9];omega
 rw[ad]at c4 aa;obtain⟨n1,ae⟩:∃n1,n1=m.p.length-1:=⟨_,rfl⟩;rw[<-ae]at aa;have HP:Hd (∀v' w',w'.ownsRow B 87 3 v' n1 ((A8 m.p (fun j=>val (.sr j))).take (k*3)++(A8 m.p (fun j=>val (.sr j))).drop ((k+1)*3))->W.grownBy w' (Value.slice ao m.p.length cap).ownBlock->v'.ownBlock=(Value.slice ao m.p.length cap).ownBlock->Ay W (w'.setCell (aD D 4) v') B D m val AF (Dk m k) (GW val v' k)/\w'.heap[D]?=some (.cells #[iI m.g,val .r,val .s,val .f,val .p] 64)):=fun v' w' a b c=>⟨Ay.del h hB hk (ae ▸ a) (by rw[ad];exact b) (by rw[ad];exact c),(b.block D h.lt (fun e=>h.far .p (Af.p m) (by rw[ad];exact e.symm))).trans h.box⟩
 clear c0 c1 c2 c3 ab h ad ae
 go_enter func104,ntmps104
 go_wp2_with(go_at_call 105;refine aa.mono ?_;rintro e w1 ⟨v1,rfl,k1,k2,k3⟩;obtain⟨af,ac,rfl⟩:=B0 k1;have hq:=HP.o _ w1 k1 k2 k3;have d4:=(five hq.2).2.2.2.2;have f4:w1.frozen? (aD D 4)=false:=Aq hq.2 4;have HQ:Hd (Ay W (w1.setCell (aD D 4) (.slice af n1 ac)) B D m val AF (Dk m k) (GW val (.slice af n1 ac) k)):=hq.1;clear hq k1 k2 k3)
 go_end0
 exact⟨_,rfl,HQ.o⟩
end
section
open Go.Lib
structure JO (W wx:World) (B b4:Nat) (nm:ByteArray) (g:Int) (rv:Value) (r:List Int):Prop where
 bel:Bw W wx
 ge:W.heap.size<=b4
 box:wx.heap[b4]?=some (.cells #[.string nm,iI g,rv] 87)
 row:wx.ownsRow B 3 1 rv r.length (Ae r)
 new:∀q,rv.ownBlock=some q->W.heap.size<=q/\q≠b4
theorem LV {x1:Value}{T:TypeId}(h:W.heap[D]?=some (.cells #[x0,x1,x2] T))(a0 a1 a2:Value):(((W.setCell (aZ D) a0).setCell (aD D 1) a1).setCell (aD D 2) a2).heap[D]?=some (.cells #[a0,a1,a2] T):=by
 have h1:=Bf h 0 a0;have h2:=Bf h1 1 a1;have h3:=Bf h2 2 a2;exact h3
theorem JZ {q:Nat}(a0 a1 a2:Value)(hq:q≠D):(((W.setCell (aZ D) a0).setCell (aD D 1) a1).setCell (aD D 2) a2).heap[q]?=W.heap[q]?:=
 (AN _ (aD D 2) a2 q hq).trans ((AN _ (aD D 1) a1 q hq).trans (AN _ (aZ D) a0 q hq))
theorem JO.mk3 {b4:Nat}{nm:ByteArray}{g:Int}{rv:Value}{r:List Int}{x1:Value}(hb:Bw W X)(hge:W.heap.size<=b4)(hbox:X.heap[b4]?=some (.cells #[x0,x1,x2] 87))(hrow:X.ownsRow B 3 1 rv r.length (Ae r))(hnew:∀q,rv.ownBlock=some q->W.heap.size<=q/\q≠b4):JO W (((X.setCell (aZ b4) (.string nm)).setCell (aD b4 1) (iI g)).setCell (aD b4 2) rv) B b4 nm g rv r:=
 ⟨((hb.setCell hge _).setCell hge _).setCell hge _,hge,LV hbox _ _ _,CX hrow (fun q e=>JZ _ _ _ (hnew q e).2),hnew⟩
theorem WZ {nm:ByteArray}{bn bi:Nat}(cn:w.cell? (aZ bn)=some (.string nm))(ci:w.cell? (aZ bi)=some (iI (k:Int)))(ln:bn<w.heap.size)(li:bi<w.heap.size)(hs:As m=0)(hk:k<=m.p.length):Hl w 99 #[pZ bn,pZ bi] m (some (Bq m k (nm,m.g,m.r))):=by
 intro W D B val hb h1 h2 hK;have cn:=(hb.cell (p:=(aZ bn)) ln).trans cn;have ci:=(hb.cell (p:=(aZ bi)) li).trans ci;have an:bn<W.heap.size:=AO ln hb.size;have av:bi<W.heap.size:=AO li hb.size;have ax:bi<B:=AO li h1;have ay:=hK.ge;have ab:=hK.lt
 show Cl 99 #[pZ D,pZ bn,pZ bi] W (fun r W'=>∃val',r=.returned (.tuple #[])/\Ay W W' B D m val AF (Bq m k (nm,m.g,m.r)) val')
 have aF:=(Au hs).1;have aG:m.r.length<=4:=by
  obtain⟨f1,f2,f3,_⟩:=Fb hs (s:=(⟨#[]⟩,m.g,m.r)) CD;dsimp only at f1 f2 f3;omega
 obtain⟨ra,rc,e0,_⟩:=hK.own.forms .r (Af.r m);obtain⟨sa,sc,e1,_⟩:=hK.own.forms .s (Af.s m);obtain⟨fa,fc,e2,_⟩:=hK.own.forms .f (Af.f m);obtain⟨na,nc,e3,_⟩:=hK.own.forms .p (Af.p m);have e0:val .r=.slice ra m.r.length rc:=e0;have e1:val .s=.slice sa m.s.length sc:=e1;have e2:val .f=.slice fa m.f.length fc:=e2;have e3:val .p=.slice na m.p.length nc:=e3;have ac:=hK.box;rw[e0,e1,e2,e3]at ac;have HC:Hd (∀X,Bw W X->Cl 100 #[.slice ra m.r.length rc] X fun r w'=>∃v',r=.returned v'/\w'.ownsRow X.heap.size 3 1 v' m.r.length (Ae m.r)/\Bw X w'):=fun X hX=>by
  have:=KB (CY ((hK.below hX).own.row .r (Af.r m))) (by have:=N1;omega);rw[e0]at this;exact this
 have HK:Hd (DK W B D val m/\B<=W.heap.size/\val .p=.slice na m.p.length nc):=⟨hK,h2,e3⟩;clear hb h1 h2 hK e0 e1 e2 e3 hs
 go_enter func99,ntmps99
 go_upto_region 0 with fail
 go_cut [4] from 5 (fun s wx=>∃b4 rv,s=pZ b4/\Hd (JO W wx B b4 nm m.g rv m.r))
 case first=>
  refine BT (S:=(fun X:World=>X.heap[D]?=some (.cells (aI m ra rc sa sc fa fc na nc) 64)/\X.cell? (aZ bn)=some (.string nm))) kR ⟨ac,cn⟩ (fun hHeld=>?_);refine BD 0 (.string nm) ?_;refine Ar 1 (pZ D) ?_;refine Ar 2 (pZ D) ?_;refine Ar 3 (pZ D) ?_;refine Ar 4 (pZ D) ?_;refine BD 5 (iI m.g) ?_;refine Ar 6 (pZ D) ?_;refine Ar 7 (pZ D) ?_;refine Ar 8 (pZ D) ?_;refine Ar 9 (pQ D 1) ?_;refine BD 10 (.slice ra m.r.length rc) ?_;simp only[lays];refine Jo 11 13 rfl rfl (fun K hK=>?_) (fun K hK=>?_)
  ·clear hHeld;simp only[lays];rw[Ab (by rfl)];go_wp2_with(go_at_call 100;refine(HC.o _ (Cg Eu)).mono ?_;rintro e9 w1 ⟨rv,rfl,aa,b1⟩;obtain⟨va,vc,rfl⟩:=B0 aa);have b1:Bw W w1:=BR b1;have aa:w1.ownsRow W.heap.size 3 1 (.slice va m.r.length vc) m.r.length (Ae m.r):=aa;have az:=Ag ac b1 ab;have a8:=(b1.cell (p:=(aZ bn)) an).trans cn;refine hK.out _ _ ⟨az,a8⟩ (fun hHeld=>?_);clear hK K;try simp only[lays]
   refine Ar 12 (.agg #[.string nm,iI m.g,.slice va m.r.length vc]) ?_;simp only[lays];refine AC 13 rfl (fun K hK=>?_);clear hHeld;simp only[lays];rw[Ab (by rfl)];go_simp;obtain⟨X1,ae⟩:∃X,X=(w1.alloc zP):=⟨_,rfl⟩;have ap:Bw W X1:=by rw[ae];exact b1.alloc b1.size _
   have k4:X1.heap[w1.heap.size]?=some zP:=by rw[ae];exact Aw _ _
   have ar:X1.ownsRow W.heap.size 3 1 (.slice va m.r.length vc) m.r.length (Ae m.r):=by rw[ae];exact CX aa (fun q e=>Ch w1 _ q ((aa.lt q e).2))
   have HH:Hd (X1.heap[D]?=some (.cells (aI m ra rc sa sc fa fc na nc) 64)/\X1.cell? (aZ bn)=some (.string nm)):=⟨by rw[ae];exact Aj az _,(ap.cell (p:=(aZ bn)) an).trans cn⟩;rw[<-ae];clear ae;refine hK.out _ _ HH.o (fun hHeld=>?_);clear hK K;try simp only[lays]
   refine AC 14 rfl (fun K hK=>?_);clear hHeld;simp only[lays];rw[Ab (by rfl)];have ag:X1.heap[w1.heap.size]?=some zP:=k4;obtain⟨t0,t1,t2⟩:=Fv ag;have y0:=Aq ag;have HR:Hd (JO W (((X1.setCell (aZ w1.heap.size) (.string nm)).setCell (aD w1.heap.size 1) (iI m.g)).setCell (aD w1.heap.size 2) (.slice va m.r.length vc)) B (w1.heap.size) nm m.g (.slice va m.r.length vc) m.r):=JO.mk3 (ap) (b1.size) ag (CL ar HK.o.2.1) (fun q e=>⟨(aa.lt q e).1,by have:=(aa.lt q e).2;omega⟩);have HS:Hd ((fun X:World=>X.heap[D]?=some (.cells (aI m ra rc sa sc fa fc na nc) 64)/\X.cell? (aZ bn)=some (.string nm)) (((X1.setCell (aZ w1.heap.size) (.string nm)).setCell (aD w1.heap.size 1) (iI m.g)).setCell (aD w1.heap.size 2) (.slice va m.r.length vc))):=⟨(JZ _ _ _ (by have:=b1.size;omega)).trans (HH.o.1),(by have:=HR.o.bel.cell (p:=(aZ bn)) an;exact this.trans cn)⟩;clear ag;go_simp;refine hK.out _ _ HS.o (fun hHeld=>?_);clear hK K hHeld;try simp only[lays]
   refine BQ kR ?_ _;go_wp2_with fail;go_meet;exact⟨_,_,rfl,HR⟩
  ·clear hHeld;simp only[lays];rw[Ab (by rfl)];go_simp;obtain⟨X1,ae⟩:∃X,X=(W.alloc zP).drew:=⟨_,rfl⟩;have b0:Bw W X1:=by rw[ae];exact Cg (Av)
   have aH:X1.heap.size=W.heap.size+1:=by rw[ae];show (W.alloc zP).heap.size=_;simp
   have k4:X1.heap[W.heap.size]?=some zP:=by rw[ae];exact Aw _ _
   have a7:Hd (X1.heap[D]?=some (.cells (aI m ra rc sa sc fa fc na nc) 64)/\X1.cell? (aZ bn)=some (.string nm)):=⟨Ag ac b0 ab,(b0.cell (p:=(aZ bn)) an).trans cn⟩;rw[<-ae];clear ae;refine hK.out _ _ a7.o (fun hHeld=>?_);clear hK K;try simp only[lays]
   refine AC 11 rfl (fun K hK=>?_);clear hHeld;simp only[lays];rw[Ab (by rfl)];go_wp2_with(go_at_call 100;refine(HC.o _ (b0)).mono ?_;rintro e9 w1 ⟨rv,rfl,aa,b1⟩;obtain⟨va,vc,rfl⟩:=B0 aa);have b2:Bw W w1:=b0.trans (b1.mono oM);have k4:=Ag k4 b1 oM;have HH:Hd (w1.heap[D]?=some (.cells (aI m ra rc sa sc fa fc na nc) 64)/\w1.cell? (aZ bn)=some (.string nm)):=⟨Ag ac b2 ab,(b2.cell (p:=(aZ bn)) an).trans cn⟩;refine hK.out _ _ HH.o (fun hHeld=>?_);clear hK K;try simp only[lays]
   refine Ar 12 (.agg #[.string nm,iI m.g,.slice va m.r.length vc]) ?_;simp only[lays];refine AC 14 rfl (fun K hK=>?_);clear hHeld;simp only[lays];rw[Ab (by rfl)];have ag:w1.heap[W.heap.size]?=some zP:=k4;obtain⟨t0,t1,t2⟩:=Fv ag;have y0:=Aq ag;have HR:Hd (JO W (((w1.setCell (aZ W.heap.size) (.string nm)).setCell (aD W.heap.size 1) (iI m.g)).setCell (aD W.heap.size 2) (.slice va m.r.length vc)) B (W.heap.size) nm m.g (.slice va m.r.length vc) m.r):=JO.mk3 (b2) (Bc W.heap.size) ag (CL aa (by have:=HK.o.2.1;omega)) (fun q e=>⟨by have:=(aa.lt q e).1;omega,by have:=(aa.lt q e).1;omega⟩);have HS:Hd ((fun X:World=>X.heap[D]?=some (.cells (aI m ra rc sa sc fa fc na nc) 64)/\X.cell? (aZ bn)=some (.string nm)) (((w1.setCell (aZ W.heap.size) (.string nm)).setCell (aD W.heap.size 1) (iI m.g)).setCell (aD W.heap.size 2) (.slice va m.r.length vc))):=⟨(JZ _ _ _ (by have:=Bc W.heap.size;omega)).trans (HH.o.1),(by have:=HR.o.bel.cell (p:=(aZ bn)) an;exact this.trans cn)⟩;clear ag;go_simp;refine hK.out _ _ HS.o (fun hHeld=>?_);clear hK K hHeld;try simp only[lays]
   refine BQ kR ?_ _;go_wp2_with fail;go_meet;exact⟨_,_,rfl,HR⟩
 case rest=>
 obtain⟨b4,rv,rfl,HR⟩:=hcut;obtain⟨W1,aA⟩:∃X,X=wc:=⟨_,rfl⟩;subst aA;obtain⟨va,vc,rfl⟩:=B0 HR.o.row;have b1:=HR.o.bel;have aB:=HR.o.ge;have ad:=HR.o.box;have ao:=(b1.cell (p:=(aZ bi)) av).trans ci;have a6:=Ag ac b1 ab;obtain⟨o0,o1,o2,o3,o4⟩:=five a6;have ai:=(AA ad);have ah:=b1.size;have HI:Hd (∀X N,Bw W1 X->X.heap[N]?=some (oN nm m.g va m.r.length vc)->W1.heap.size<=N->Cl 101 #[.slice na m.p.length nc,iI (k:Int),lZ N 1 1] X fun r w'=>∃v',r=.returned v'/\Ay W (w'.setCell (aD D 4) v') B D m val AF (Bq m k (nm,m.g,m.r)) (Gy val v' (.slice va m.r.length vc) k)/\w'.heap[D]?=some (.cells (aI m ra rc sa sc fa fc na nc) 64)/\w'.heap[b4]?=some (oN nm m.g va m.r.length vc)/\w'.cell? (aZ bi)=some (iI (k:Int))/\∃a c,v'=.slice a (m.p.length+1) c):=fun X N hX hN hNge=>by
  have hD:=HK.o.1.below (Below.on b1 hX);have aa:X.ownsRow B 87 3 (val .p) m.p.length (A8 m.p (fun j=>val (.sr j))):=hD.own.row .p (Af.p m);have aq:=Zb B m.p.length k N (val .p) _ (.string nm) (iI m.g) (.slice va m.r.length vc) X (Bg HK.o.2.1 (Bg ah hX.size)) oM hk aa (St hD.own) hN (fun e=>by have:=((HK.o.1.own.row .p (Af.p m)).lt N e).2;omega) (by intro u hu;simp at hu;rcases hu with rfl|rfl|rfl<;>rfl);rw[HK.o.2.2]at aq;refine aq.mono ?_;rintro r w' ⟨v',rfl,k1,k2,k3⟩;have hne:∀q,W.heap.size<=q->¬(val .p).ownBlock=some q:=fun q hq e=>by have:=((HK.o.1.own.row .p (Af.p m)).lt q e).2;omega
  have aC:X.ownsRow B 3 1 (.slice va m.r.length vc) m.r.length (Ae m.r):=CX HR.o.row (fun q e=>hX.block q ((HR.o.row.lt q e).2));have au:X.grownBy w' (val .p).ownBlock:=by rw[HK.o.2.2];exact k2
  have hT:=Ay.ins (s:=(nm,m.g,m.r)) hD (Bg HK.o.2.1 (Bg ah hX.size)) hk aC (fun b hb g hg x=>by have:=(HR.o.new g hg).1;have:=((HK.o.1.own.row b hb).lt g x).2;omega) (fun e=>by have:=(HR.o.new D e).1;omega) k1 au (by rw[HK.o.2.2];exact k3);have aw:Below B X w':=IV Eu au (Bg HK.o.2.1 (Bg ah hX.size)) (fun q e=>((aa).lt q e).1);refine⟨v',rfl,Ay.first (Below.on b1 hX) HK.o.2.1 hT (fun q e=>(HR.o.new q e).1),?_,?_,?_,B0 k1⟩
  ·exact(au.block D (AO ab (Bg ah hX.size)) (fun e=>HK.o.1.far .p (Af.p m) e.symm)).trans (Ag a6 hX (AO ab ah))
  ·exact(au.block b4 (AO ai hX.size) (fun e=>hne b4 aB e.symm)).trans (Ag ad hX ai)
  ·exact(aw.cell (p:=(aZ bi)) ax).trans ((hX.cell (p:=(aZ bi)) (AO av ah)).trans ao)
 go_upto_region 1 with fail;refine BT (S:=(fun X:World=>X.cell? (aZ bi)=some (iI (k:Int))/\X.heap[b4]?=some (oN nm m.g va m.r.length vc))) kR ⟨ao,ad⟩ (fun hHeld=>?_);refine Ar 0 (pZ D) ?_;refine Ar 1 (pZ D) ?_;refine Ar 2 (pZ D) ?_;refine Ar 3 (pZ D) ?_;refine Ar 4 (pQ D 4) ?_;simp only[lays];refine Fe 6 (iI (k:Int)) rfl (B3 ⟨by rfl,fun w' hSw=>by obtain⟨qa,qb⟩:=hSw;obtain⟨j0,j1,j2⟩:=Fv qb;go_simp⟩) hHeld ?_;simp only[lays];refine Fe 7 (.agg #[.string nm,iI m.g,.slice va m.r.length vc]) rfl (B3 ⟨by rfl,fun w' hSw=>by obtain⟨qa,qb⟩:=hSw;obtain⟨j0,j1,j2⟩:=Fv qb;go_simp⟩) hHeld ?_;simp only[lays];refine Jo 5 8 rfl rfl (fun K hK=>?_) (fun K hK=>?_)
 ·clear hHeld;simp only[lays];rw[Ab (by rfl)];have aE:W1.drew.cell? (aD D 4)=some (.slice na m.p.length nc):=o4;go_simp;refine hK.out _ _ ⟨ao,ad⟩ (fun hHeld=>?_);clear hK K;try simp only[lays]
  refine AC 8 rfl (fun K hK=>?_);clear hHeld;simp only[lays];rw[Ab (by rfl)];go_simp;have am:Hd ((fun X:World=>X.cell? (aZ bi)=some (iI (k:Int))/\X.heap[b4]?=some (oN nm m.g va m.r.length vc)) (W1.alloc (oN nm m.g va m.r.length vc)).drew):=⟨((Av).cell (p:=(aZ bi)) (AO av ah)).trans ao,Aj ad _⟩;obtain⟨X2,af⟩:∃X,X=(W1.alloc (oN nm m.g va m.r.length vc)).drew:=⟨_,rfl⟩;have b2:Bw W1 X2:=by rw[af];exact Cg (Av)
  have k2:X2.heap[W1.heap.size]?=some (oN nm m.g va m.r.length vc):=by rw[af];exact Aw _ _
  rw[<-af]at am ⊢;clear af;refine hK.out _ _ am.o (fun hHeld=>?_);clear hK K;try simp only[lays]
  refine AC 9 rfl (fun K hK=>?_);clear hHeld;simp only[lays];rw[Ab (by rfl)];go_wp2_with(go_at_call 101;refine(HI.o _ W1.heap.size (b2) (k2) lE).mono ?_;rintro e9 w2 ⟨v2,rfl,hT,ak,aj,al,a2,c2,rfl⟩;have HT:Hd (Ay W (w2.setCell (aD D 4) (.slice a2 (m.p.length+1) c2)) B D m val AF (Bq m k (nm,m.g,m.r)) (Gy val (.slice a2 (m.p.length+1) c2) (.slice va m.r.length vc) k)):=hT;clear hT);refine hK.out _ _ ⟨al,aj⟩ (fun hHeld=>?_);clear hK K;try simp only[lays]
  refine Ar 10 (pZ D) ?_;refine Ar 11 (pZ D) ?_;refine Ar 12 (pQ D 4) ?_;simp only[lays];refine AC 13 rfl (fun K hK=>?_);clear hHeld;simp only[lays];rw[Ab (by rfl)];have f4:=Aq ak 4;have p0:=five ak;have HS:Hd ((fun X:World=>X.cell? (aZ bi)=some (iI (k:Int))/\X.heap[b4]?=some (oN nm m.g va m.r.length vc)) (w2.setCell (aD D 4) (.slice a2 (m.p.length+1) c2))):=⟨(((AG (D) w2).setCell lE _).cell (p:=(aZ bi)) (AO ax ay)).trans al,Bt aj oM _ _⟩;clear ak al aj;go_simp;refine hK.out _ _ HS.o (fun hHeld=>?_);clear hK K hHeld;try simp only[lays]
  refine BQ kR ?_ _;go_wp2_with fail
  go_end0
  first|exact⟨_,rfl,HT.o⟩|exact⟨_,_,rfl,HT.o⟩|exact⟨_,rfl,_,rfl,HT.o⟩|exact⟨rfl,_,HT.o⟩
 ·clear hHeld;simp only[lays];rw[Ab (by rfl)];go_simp;have am:Hd ((fun X:World=>X.cell? (aZ bi)=some (iI (k:Int))/\X.heap[b4]?=some (oN nm m.g va m.r.length vc)) (W1.alloc (oN nm m.g va m.r.length vc)).drew):=⟨((Av).cell (p:=(aZ bi)) (AO av ah)).trans ao,Aj ad _⟩;obtain⟨X2,af⟩:∃X,X=(W1.alloc (oN nm m.g va m.r.length vc)).drew:=⟨_,rfl⟩;have b2:Bw W1 X2:=by rw[af];exact Cg (Av)
  have k2:X2.heap[W1.heap.size]?=some (oN nm m.g va m.r.length vc):=by rw[af];exact Aw _ _
  rw[<-af]at am ⊢;clear af;have aE:=(b2.cell (p:=(aD D 4)) (AO ab ah)).trans o4;refine hK.out _ _ am.o (fun hHeld=>?_);clear hK K;try simp only[lays]
  refine AC 5 rfl (fun K hK=>?_);clear hHeld;simp only[lays];rw[Ab (by rfl)];go_simp;refine hK.out _ _ am.o (fun hHeld=>?_);clear hK K;try simp only[lays]
  refine AC 9 rfl (fun K hK=>?_);clear hHeld;simp only[lays];rw[Ab (by rfl)];go_wp2_with(go_at_call 101;refine(HI.o _ W1.heap.size (b2) (k2) lE).mono ?_;rintro e9 w2 ⟨v2,rfl,hT,ak,aj,al,a2,c2,rfl⟩;have HT:Hd (Ay W (w2.setCell (aD D 4) (.slice a2 (m.p.length+1) c2)) B D m val AF (Bq m k (nm,m.g,m.r)) (Gy val (.slice a2 (m.p.length+1) c2) (.slice va m.r.length vc) k)):=hT;clear hT);refine hK.out _ _ ⟨al,aj⟩ (fun hHeld=>?_);clear hK K;try simp only[lays]
  refine Ar 10 (pZ D) ?_;refine Ar 11 (pZ D) ?_;refine Ar 12 (pQ D 4) ?_;simp only[lays];refine AC 13 rfl (fun K hK=>?_);clear hHeld;simp only[lays];rw[Ab (by rfl)];have f4:=Aq ak 4;have p0:=five ak;have HS:Hd ((fun X:World=>X.cell? (aZ bi)=some (iI (k:Int))/\X.heap[b4]?=some (oN nm m.g va m.r.length vc)) (w2.setCell (aD D 4) (.slice a2 (m.p.length+1) c2))):=⟨(((AG (D) w2).setCell lE _).cell (p:=(aZ bi)) (AO ax ay)).trans al,Bt aj oM _ _⟩;clear ak al aj;go_simp;refine hK.out _ _ HS.o (fun hHeld=>?_);clear hK K hHeld;try simp only[lays]
  refine BQ kR ?_ _;go_wp2_with fail
  go_end0
  first|exact⟨_,rfl,HT.o⟩|exact⟨_,_,rfl,HT.o⟩|exact⟨_,rfl,_,rfl,HT.o⟩|exact⟨rfl,_,HT.o⟩
theorem jQ {M0:Ac}{N bt bi:Nat}(ct:w.cell? (aZ bt)=some (.func (.func N) #[] #[]))(ci:w.cell? (aZ bi)=some (iI (k:Int)))(lt:bt<w.heap.size)(li:bi<w.heap.size)(hN:∀ (args:Array Value) (w:World),(callFunc N args).run prog w=.ok (.enter N args) w)(hT:∀ (W:World) (D B:Nat) (val:Nm->Value),B<=W.heap.size->DK W B D val m->Cl N #[pZ D,iI (k:Int)] W fun r W'=>∃val',r=.returned (.tuple #[])/\Ay W W' B D m val AF M0 val'):Hl w 168 #[pZ bt,pZ bi] m (some M0):=by
 intro W D B val hb h1 h2 hK;have ct:=(hb.cell (p:=(aZ bt)) lt).trans ct;have ci:=(hb.cell (p:=(aZ bi)) li).trans ci;have aa:=hT W D B val h2 hK
 show Cl 168 #[pZ D,pZ bt,pZ bi] W (fun r W'=>∃val',r=.returned (.tuple #[])/\Ay W W' B D m val AF M0 val')
 clear hT hK hb
 go_enter func168,ntmps168
 go_wp2_with fail;refine aa.mono ?_;rintro e w1 ⟨val1,rfl,hD⟩;dsimp only;have HD:Hd (Ay W w1 B D m val AF M0 val1):=hD;clear hD;go_wp2_with fail
 go_end0
 exact⟨_,rfl,HD.o⟩
theorem fl (hK:DK W B D val m)(hB:B<=W.heap.size)(hk:k<m.p.length)(h3:m.p.length<=1000)(hs:As m=0):Cl 103 #[pZ D,iI k] W fun r W'=>∃val',r=.returned (.tuple #[])/\Ay W W' B D m val AF (Ih m k) val':=by
 have au:=hK.lt;have az:=hK.ge;obtain⟨na,nc,e3,ap⟩:=hK.own.forms .p (Af.p m);have e3:val .p=.slice na m.p.length nc:=e3;obtain⟨nb,rfl⟩:=ap (by show 0<m.p.length;omega);have aa:W.ownsRow B 87 3 (val .p) m.p.length (A8 m.p (fun j=>val (.sr j))):=hK.own.row .p (Af.p m);rw[e3]at aa;have ah:=fun i (hi:i<3)=>aa.cellAt (k*3+i) oM
 obtain⟨g0,g1,g2⟩:=Ew (qv:=fun j=>val (.sr j)) hk;obtain⟨qa,qc,eq,_⟩:=hK.own.forms (.sr k) (Af.sr hk);have k0:W.cell? (aD nb (k*3))=_:=(ah 0 oM).trans g0;have k1:=(ah 1 oM).trans g1;have k2:W.cell? (aD nb (k*3+1+1))=_:=(ah 2 oM).trans g2;have ae:Sl W (val (.sr k)) (m.p.getD k default).2.2:=CY (hK.own.row (.sr k) (Af.sr hk));have aq:(m.p.getD k default).2.2.length<=4:=by
  have hm:m.p.getD k default∈m.p:=by rw[show m.p.getD k default=m.p[k] by simp[List.getD,hk]];exact BS hk
  obtain⟨f1,f2,f3,_⟩:=Fb hs (CA _ hm);omega
 have HM:Hd (Ih m k = { {m with g:=(m.p.getD k default).2.1} with r:=(m.p.getD k default).2.2}):=rfl;have eq:val (.sr k)=.slice qa (m.p.getD k default).2.2.length qc:=eq;obtain⟨⟨sn,sg,sr⟩,hsn⟩:∃s,s=m.p.getD k default:=⟨_,rfl⟩;rw[<-hsn]at k0 k1 ae aq HM eq;dsimp only at k0 k1 k2 ae aq eq;rw[eq]at k2 ae;clear hsn eq;have c4:W.cell? (aD D 4)=some (lZ nb m.p.length nc):=by have:=hK.five.2.2.2.2;rw[e3]at this;exact this
 have aw:nb<W.heap.size:=(Gm aa).2.1;have HC:Hd (∀X,Bw W X->Cl 100 #[.slice qa sr.length qc] X fun r w'=>∃v',r=.returned v'/\w'.ownsRow X.heap.size 3 1 v' sr.length (Ae sr)/\Bw X w'):=fun X hX=>KB (ae.below hX) (by have:=N1;omega)
 have HK:Hd (DK W B D val m/\B<=W.heap.size):=⟨hK,hB⟩;have a6:(k:Int)<(m.p.length:Int):=oM;clear hK hB aa ah g0 g1 g2 ap e3 ae
 go_enter func103,ntmps103
 go_upto_region 1 with fail;have al:Bw W (W.alloc (oN sn sg qa sr.length qc)):=Av;have an:(W.alloc (oN sn sg qa sr.length qc)).heap[W.heap.size]?=some (oN sn sg qa sr.length qc):=Aw _ _;refine BT (S:=(fun X:World=>X.heap[W.heap.size]?=some (oN sn sg qa sr.length qc))) kR an (fun hHeld=>?_);refine Ar 0 (pZ D) ?_;refine Ar 1 (pZ D) ?_;refine Ar 2 (pQ W.heap.size 1) ?_;simp only[lays];refine Fe 3 (iI sg) rfl (B3 ⟨by rfl,fun w' hSw=>by obtain⟨j0,j1,j2⟩:=Fv hSw;go_simp⟩) hHeld ?_;simp only[lays];refine Ar 4 (pQ W.heap.size 2) ?_;simp only[lays];refine Fe 5 (.slice qa sr.length qc) rfl (B3 ⟨by rfl,fun w' hSw=>by obtain⟨j0,j1,j2⟩:=Fv hSw;go_simp⟩) hHeld ?_;simp only[lays];refine AC 6 rfl (fun K hK=>?_);clear hHeld;simp only[lays];rw[Ab (by rfl)];go_wp2_with(go_at_call 100;refine(HC.o _ (Cg al)).mono ?_;rintro e9 w1 ⟨rv,rfl,ab,b1⟩;obtain⟨va,vc,rfl⟩:=B0 ab);have b1:Below (W.alloc (oN sn sg qa sr.length qc)).heap.size (W.alloc (oN sn sg qa sr.length qc)) w1:=BR b1;have ab:w1.ownsRow (W.alloc (oN sn sg qa sr.length qc)).heap.size 3 1 (.slice va sr.length vc) sr.length (Ae sr):=ab;have hz0:(W.alloc (oN sn sg qa sr.length qc)).heap.size=W.heap.size+1:=by simp
 have ac:=Ag an b1 oM;have am:Bw W w1:=Below.on al b1;have af:=HK.o.1.below am;have aj:Ay W w1 B D m val AF m val:=(Ay.refl HK.o.1 AF).below HK.o.2 am;have ag:=aj.setGuest sg;have ax:=af.frozen 0;have ay:=af.frozen 1;obtain⟨u0,u1,_,_,_⟩:=af.five;have ak:=ag.swapRoot (v:=.slice va sr.length vc) (r:=sr) (CL (CX ab (fun q e=>AN w1 (aZ D) _ q (by have:=(ab.lt q e).1;show q≠D;omega))) (by have:=HK.o.2;omega)) (fun b hb _ g hg x=>by have:=(ab.lt g hg).1;have:=((HK.o.1.own.row b hb).lt g x).2;omega) (fun e=>by have:=(ab.lt D e).1;omega) (fun q e=>.inr (by have:=(ab.lt q e).1;omega));have HT:Hd (∃val',Ay W ((w1.setCell (aZ D) (iI sg)).setCell (aD D 1) (.slice va sr.length vc)) B D m val AF (Ih m k) val'):=⟨_,by rw[HM.o];exact ak⟩;have ao:W.heap.size≠D:=oM;have ai:Hd ((fun X:World=>X.heap[W.heap.size]?=some (oN sn sg qa sr.length qc)) (w1.setCell (aZ D) (iI sg))):=Bt ac ao _ _;have ar:Hd ((fun X:World=>X.heap[W.heap.size]?=some (oN sn sg qa sr.length qc)) ((w1.setCell (aZ D) (iI sg)).setCell (aD D 1) (.slice va sr.length vc))):=Bt ai.o ao _ _;have av:(w1.setCell (aZ D) (iI sg)).frozen? (aD D 1)=false:=ag.dk.frozen 1;have a7:(w1.setCell (aZ D) (iI sg)).cell? (aD D 1)=some (val .r):=ag.dk.five.2.1;clear aj ag ak af ab;refine hK.out _ _ ac (fun hHeld=>?_);clear hK K;try simp only[lays]
 refine Ar 7 (pZ D) ?_;refine Ar 8 (pZ D) ?_;refine Ar 9 (pZ D) ?_;simp only[lays];refine AC 10 rfl (fun K hK=>?_);clear hHeld;simp only[lays];rw[Ab (by rfl)];go_simp;refine hK.out _ _ ai.o (fun hHeld=>?_);clear hK K;try simp only[lays]
 refine Ar 11 (pZ D) ?_;refine Ar 12 (pZ D) ?_;refine Ar 13 (pQ D 1) ?_;simp only[lays];refine AC 14 rfl (fun K hK=>?_);clear hHeld;simp only[lays];rw[Ab (by rfl)];go_simp;refine hK.out _ _ ar.o (fun hHeld=>?_);clear hK K hHeld;try simp only[lays]
 refine BQ kR ?_ _;obtain⟨val',ad⟩:=HT.o;have HF:Hd (Ay W ((w1.setCell (aZ D) (iI sg)).setCell (aD D 1) (.slice va sr.length vc)) B D m val AF (Ih m k) val'):=ad;clear ad HT;go_wp2_with fail
 go_end0
 exact⟨rfl,_,HF.o⟩
end
theorem WU (m:Ac)(ra:Option Addr)(rc:Nat)(sa:Option Addr)(sc:Nat)(fa:Option Addr)(fc:Nat)(na:Option Addr)(nc:Nat)(nm:ByteArray)(w:World)(h:Al w (.agg (aI m ra rc sa sc fa fc na nc)) m)(hE:Ao m=0)(hNm:BG nm=false):Cl 52 #[.agg (aI m ra rc sa sc fa fc na nc),.string nm] w (Bo w w.heap.size AZ 4):=by
 let U:=(cA m ra rc sa sc fa fc na nc)
 let V:=((w.alloc U).alloc (.cells #[.string nm] 9))
 have b0:Bw w (V.alloc zI):=(((AG _ _).alloc (by simp[V,U];try omega) _).alloc (by simp[V,U];try omega) _).alloc (by simp[V,U];try omega) _;have q0:(w.alloc U).heap[w.heap.size]?=some U:=AR (by simp[V,U]);have m0:(V.alloc zI).heap[w.heap.size]?=some U:=(Aj (Aj q0 _) _);have q1:V.heap[w.heap.size+1]?=some (.cells #[.string nm] 9):=AR (by simp[V,U]);have m1:(V.alloc zI).heap[w.heap.size+1]?=some (.cells #[.string nm] 9):=(Aj q1 _);have q2:(V.alloc zI).heap[w.heap.size+1+1]?=some zI:=AR (by simp[V,U]);have m2:(V.alloc zI).heap[w.heap.size+1+1]?=some zI:=q2;have hz:(V.alloc zI).heap.size=w.heap.size+1+1+1:=by simp[V,U]
 clear q0 q1 q2;have aa:=EU (h.below b0) hE;have c0:=five m0;have HM:Hd ((Bw w (V.alloc zI)/\(V.alloc zI).heap.size=w.heap.size+1+1+1)/\(V.alloc zI).heap[w.heap.size]?=some U/\(V.alloc zI).heap[w.heap.size+1]?=some (.cells #[.string nm] 9)/\(V.alloc zI).heap[w.heap.size+1+1]?=some zI):=⟨⟨b0,hz⟩,m0,m1,m2⟩;clear h m0 m1 m2 hz b0;dsimp only[V,U]at *;clear V U
 go_enter func52,ntmps52
 go_wp2_with(first
  | (go_at_call 97;refine(FL _ hNm).mono ?_;rintro e w2 ⟨rfl,b2⟩;have BB:=Below.on b1 b2;clear b1 b2;have k3:=Ag HM.o.2.2.2 BB (by rw[HM.o.1.2];omega);have z0:=five k3;have y0:=Aq k3;have HB:Hd (Bw w w2):=Below.on HM.o.1.1 BB;have hsz:w.heap.size+1+1+1<=w2.heap.size:=(by have:=BB.size;rw[HM.o.1.2]at this;omega);clear k3)
  | (go_at_call 38;refine aa.mono ?_;rintro e w1 ⟨rfl,b1⟩;have cn:=one (Ag HM.o.2.2.1 b1 (by rw[HM.o.1.2];omega));have dx:=Ag HM.o.2.1 b1 (by rw[HM.o.1.2];omega);have d0:=five dx))
 have i1:w.heap.size<=w.heap.size+1+1:=oM;refine AY (v:=.tuple #[.agg #[iI 0,nl,nl,nl,nl],iI 4]) (by simp[results,results52,go_sem,z0]) rfl (Bo.bad 4 (((((HB.o.setCell i1 _).setCell i1 _).setCell i1 _).setCell i1 _).setCell i1 _))
theorem WY (m:Ac)(ra:Option Addr)(rc:Nat)(sa:Option Addr)(sc:Nat)(fa:Option Addr)(fc:Nat)(na:Option Addr)(nc:Nat)(nm:ByteArray)(k:Nat)(w:World)(h:Al w (.agg (aI m ra rc sa sc fa fc na nc)) m)(hE:Ao m=0)(hNm:BG nm=true)(hk:Cy m.p nm=k)(hx:(BU m.p nm).isSome=true):Cl 52 #[.agg (aI m ra rc sa sc fa fc na nc),.string nm] w (Bo w w.heap.size AZ 6):=by
 let U:=(cA m ra rc sa sc fa fc na nc)
 let V:=((w.alloc U).alloc (.cells #[.string nm] 9))
 have b0:Bw w (V.alloc zI):=(((AG _ _).alloc (by simp[V,U];try omega) _).alloc (by simp[V,U];try omega) _).alloc (by simp[V,U];try omega) _;have q0:(w.alloc U).heap[w.heap.size]?=some U:=AR (by simp[V,U]);have m0:(V.alloc zI).heap[w.heap.size]?=some U:=(Aj (Aj q0 _) _);have q1:V.heap[w.heap.size+1]?=some (.cells #[.string nm] 9):=AR (by simp[V,U]);have m1:(V.alloc zI).heap[w.heap.size+1]?=some (.cells #[.string nm] 9):=(Aj q1 _);have q2:(V.alloc zI).heap[w.heap.size+1+1]?=some zI:=AR (by simp[V,U]);have m2:(V.alloc zI).heap[w.heap.size+1+1]?=some zI:=q2;have hz:(V.alloc zI).heap.size=w.heap.size+1+1+1:=by simp[V,U]
 clear q0 q1 q2;have ab:=EU (h.below b0) hE;have ad:=h.four.2.2.2;have ae:=(GF _).1 (Au (A0 hE)).2.2.2.1;have ac:=(Au (A0 hE)).1;have HF:Hd (∀w2,Below (V.alloc zI).heap.size (V.alloc zI) w2->Cl 98 #[.slice na m.p.length nc,.string nm] w2 fun r w'=>r=.returned (.tuple #[iI (k:Int),.bool true])/\Bw w2 w'):=fun w2 hb2=>LQ ((ad.below b0).below hb2) ae ac nm hk hx
 clear ad ae ac;have c0:=five m0;have HM:Hd ((Bw w (V.alloc zI)/\(V.alloc zI).heap.size=w.heap.size+1+1+1)/\(V.alloc zI).heap[w.heap.size]?=some U/\(V.alloc zI).heap[w.heap.size+1]?=some (.cells #[.string nm] 9)/\(V.alloc zI).heap[w.heap.size+1+1]?=some zI):=⟨⟨b0,hz⟩,m0,m1,m2⟩;clear h m0 m1 m2 hz b0;dsimp only[V,U]at *;clear V U
 go_enter func52,ntmps52
 go_wp2_with(first
  | (go_at_call 98;refine(HF.o _ aa).mono ?_;rintro e w5 ⟨rfl,bf⟩;have BB:=Below.on aa bf;clear aa bf;have gx:=Aj (Ag HM.o.2.1 BB (by rw[HM.o.1.2];omega)) (oI (k:Int));have g0:=five gx;have k3:=Aj (Ag HM.o.2.2.2 BB (by rw[HM.o.1.2];omega)) (oI (k:Int));have z0:=five k3;have y0:=Aq k3;have HB:Hd (Bw w (w5.alloc (oI (k:Int)))):=(Below.on HM.o.1.1 BB).alloc (by have:=BB.size;rw[HM.o.1.2]at this;omega) _;have hsz:w.heap.size+1+1+1<=w5.heap.size:=(by have:=BB.size;rw[HM.o.1.2]at this;omega);clear k3)
  | (go_at_call 97;refine(FL _ hNm).mono ?_;rintro e w2 ⟨rfl,b2⟩;have aa:=Below.on b1 b2;clear b1 b2;have af:=one (Ag HM.o.2.2.1 aa (by rw[HM.o.1.2];omega));have fx:=Ag HM.o.2.1 aa (by rw[HM.o.1.2];omega);have f0:=five fx)
  | (go_at_call 38;refine ab.mono ?_;rintro e w1 ⟨rfl,b1⟩;have cn:=one (Ag HM.o.2.2.1 b1 (by rw[HM.o.1.2];omega));have dx:=Ag HM.o.2.1 b1 (by rw[HM.o.1.2];omega);have d0:=five dx))
 have i1:w.heap.size<=w.heap.size+1+1:=oM;refine AY (v:=.tuple #[.agg #[iI 0,nl,nl,nl,nl],iI 6]) (by simp[results,results52,go_sem,z0]) rfl (Bo.bad 6 (((((HB.o.setCell i1 _).setCell i1 _).setCell i1 _).setCell i1 _).setCell i1 _))
theorem WT (m:Ac)(ra:Option Addr)(rc:Nat)(sa:Option Addr)(sc:Nat)(fa:Option Addr)(fc:Nat)(na:Option Addr)(nc:Nat)(nm:ByteArray)(k:Nat)(w:World)(h:Al w (.agg (aI m ra rc sa sc fa fc na nc)) m)(hE:Ao m=0)(hNm:BG nm=true)(hk:Cy m.p nm=k)(hx:(BU m.p nm).isSome=false)(h3:m.p.length=3):Cl 52 #[.agg (aI m ra rc sa sc fa fc na nc),.string nm] w (Bo w w.heap.size AZ 2):=by
 let U:=(cA m ra rc sa sc fa fc na nc)
 let V:=((w.alloc U).alloc (.cells #[.string nm] 9))
 have b0:Bw w (V.alloc zI):=(((AG _ _).alloc (by simp[V,U];try omega) _).alloc (by simp[V,U];try omega) _).alloc (by simp[V,U];try omega) _;have q0:(w.alloc U).heap[w.heap.size]?=some U:=AR (by simp[V,U]);have m0:(V.alloc zI).heap[w.heap.size]?=some U:=(Aj (Aj q0 _) _);have q1:V.heap[w.heap.size+1]?=some (.cells #[.string nm] 9):=AR (by simp[V,U]);have m1:(V.alloc zI).heap[w.heap.size+1]?=some (.cells #[.string nm] 9):=(Aj q1 _);have q2:(V.alloc zI).heap[w.heap.size+1+1]?=some zI:=AR (by simp[V,U]);have m2:(V.alloc zI).heap[w.heap.size+1+1]?=some zI:=q2;have hz:(V.alloc zI).heap.size=w.heap.size+1+1+1:=by simp[V,U]
 clear q0 q1 q2;have ab:=EU (h.below b0) hE;have ad:=h.four.2.2.2;have ae:=(GF _).1 (Au (A0 hE)).2.2.2.1;have ac:=(Au (A0 hE)).1;have HF:Hd (∀w2,Below (V.alloc zI).heap.size (V.alloc zI) w2->Cl 98 #[.slice na m.p.length nc,.string nm] w2 fun r w'=>r=.returned (.tuple #[iI (k:Int),.bool false])/\Bw w2 w'):=fun w2 hb2=>LQ ((ad.below b0).below hb2) ae ac nm hk hx
 clear ad ae ac;have ag:((m.p.length:Int) == 3)=true:=by simp[V,U];omega
 clear h3;have c0:=five m0;have HM:Hd ((Bw w (V.alloc zI)/\(V.alloc zI).heap.size=w.heap.size+1+1+1)/\(V.alloc zI).heap[w.heap.size]?=some U/\(V.alloc zI).heap[w.heap.size+1]?=some (.cells #[.string nm] 9)/\(V.alloc zI).heap[w.heap.size+1+1]?=some zI):=⟨⟨b0,hz⟩,m0,m1,m2⟩;clear h m0 m1 m2 hz b0;dsimp only[V,U]at *;clear V U
 go_enter func52,ntmps52
 go_wp2_with(first
  | (go_at_call 98;refine(HF.o _ aa).mono ?_;rintro e w5 ⟨rfl,bf⟩;have BB:=Below.on aa bf;clear aa bf;have gx:=Aj (Ag HM.o.2.1 BB (by rw[HM.o.1.2];omega)) (oI (k:Int));have g0:=five gx;have k3:=Aj (Ag HM.o.2.2.2 BB (by rw[HM.o.1.2];omega)) (oI (k:Int));have z0:=five k3;have y0:=Aq k3;have HB:Hd (Bw w (w5.alloc (oI (k:Int)))):=(Below.on HM.o.1.1 BB).alloc (by have:=BB.size;rw[HM.o.1.2]at this;omega) _;have hsz:w.heap.size+1+1+1<=w5.heap.size:=(by have:=BB.size;rw[HM.o.1.2]at this;omega);clear k3)
  | (go_at_call 97;refine(FL _ hNm).mono ?_;rintro e w2 ⟨rfl,b2⟩;have aa:=Below.on b1 b2;clear b1 b2;have af:=one (Ag HM.o.2.2.1 aa (by rw[HM.o.1.2];omega));have fx:=Ag HM.o.2.1 aa (by rw[HM.o.1.2];omega);have f0:=five fx)
  | (go_at_call 38;refine ab.mono ?_;rintro e w1 ⟨rfl,b1⟩;have cn:=one (Ag HM.o.2.2.1 b1 (by rw[HM.o.1.2];omega));have dx:=Ag HM.o.2.1 b1 (by rw[HM.o.1.2];omega);have d0:=five dx))
 have i1:w.heap.size<=w.heap.size+1+1:=oM;refine AY (v:=.tuple #[.agg #[iI 0,nl,nl,nl,nl],iI 2]) (by simp[results,results52,go_sem,z0]) rfl (Bo.bad 2 (((((HB.o.setCell i1 _).setCell i1 _).setCell i1 _).setCell i1 _).setCell i1 _))
theorem WV (m:Ac)(ra:Option Addr)(rc:Nat)(sa:Option Addr)(sc:Nat)(fa:Option Addr)(fc:Nat)(na:Option Addr)(nc:Nat)(nm:ByteArray)(k:Nat)(w:World)(h:Al w (.agg (aI m ra rc sa sc fa fc na nc)) m)(hE:Ao m=0)(hNm:BG nm=true)(hk:Cy m.p nm=k)(hx:(BU m.p nm).isSome=false)(h3:m.p.length<3)(hkl:k<=m.p.length)(hsh:As (Bq m k (nm,m.g,m.r))=0)(M:Ac)(hM:At (Bq m k (nm,m.g,m.r))=M):Cl 52 #[.agg (aI m ra rc sa sc fa fc na nc),.string nm] w (Bo w w.heap.size M 0):=by
 let U:=(cA m ra rc sa sc fa fc na nc)
 let V:=(((w.alloc U).alloc (.cells #[.string nm] 9)).alloc zI)
 have b0:Bw w V:=(((AG _ _).alloc (by simp[V,U];try omega) _).alloc (by simp[V,U];try omega) _).alloc (by simp[V,U];try omega) _;have q0:(w.alloc U).heap[w.heap.size]?=some U:=AR (by simp[V,U]);have m0:V.heap[w.heap.size]?=some U:=(Aj (Aj q0 _) _);have q1:((w.alloc U).alloc (.cells #[.string nm] 9)).heap[w.heap.size+1]?=some (.cells #[.string nm] 9):=AR (by simp[V,U]);have m1:V.heap[w.heap.size+1]?=some (.cells #[.string nm] 9):=(Aj q1 _);have q2:V.heap[w.heap.size+1+1]?=some zI:=AR (by simp[V,U]);have m2:V.heap[w.heap.size+1+1]?=some zI:=q2;have hz:V.heap.size=w.heap.size+1+1+1:=by simp[V,U]
 clear q0 q1 q2;have ac:=EU (h.below b0) hE;have ae:=h.four.2.2.2;have af:=(GF _).1 (Au (A0 hE)).2.2.2.1;have ad:=(Au (A0 hE)).1;have HF:Hd (∀w2,Below V.heap.size V w2->Cl 98 #[.slice na m.p.length nc,.string nm] w2 fun r w'=>r=.returned (.tuple #[iI (k:Int),.bool false])/\Bw w2 w'):=fun w2 hb2=>LQ ((ae.below b0).below hb2) af ad nm hk hx
 clear ae af ad;have aj:((m.p.length:Int) == 3)=false:=by simp[V,U];omega
 have HO:Hd (∀w5,Below V.heap.size V w5->Cl 39 #[.agg (aI m ra rc sa sc fa fc na nc),.func (.func 99) #[] #[pZ (w.heap.size+1),pZ w5.heap.size]] (w5.alloc (oI (k:Int))) (Bo (w5.alloc (oI (k:Int))) (w5.alloc (oI (k:Int))).heap.size M 0)):=fun w5 b5=>by
  have hsz:w.heap.size+1+1+1<=w5.heap.size:=(by have:=b5.size;rw[hz]at this;exact this);have b6:Below V.heap.size V (w5.alloc (oI (k:Int))):=b5.alloc (by rw[hz];exact hsz) _;have ah:(w5.alloc (oI (k:Int))).heap.size=w5.heap.size+1:=by simp[V,U]
  have ho:=K8 (h.below (Below.on b0 b6)) (JV (A0 hE)) (enters_of func99 kR rfl) (WZ (nm:=nm) (one (Ag m1 b6 (by rw[hz];omega))) (one (Aw _ _)) oM oM (A0 hE) hkl);have e1:Gg (some (Bq m k (nm,m.g,m.r)))=M:=by unfold Gg;dsimp only;rw[Ab hsh];exact hM
  have e2:IH (some (Bq m k (nm,m.g,m.r)))=0:=hsh;rw[e1,e2]at ho;exact ho
 have c0:=five m0;have HM:Hd ((Bw w V/\V.heap.size=w.heap.size+1+1+1)/\V.heap[w.heap.size]?=some U/\V.heap[w.heap.size+1]?=some (.cells #[.string nm] 9)/\V.heap[w.heap.size+1+1]?=some zI):=⟨⟨b0,hz⟩,m0,m1,m2⟩;clear h m0 m1 m2 hz b0;clear hM hsh;dsimp only[V,U]at *;clear V U
 go_enter func52,ntmps52
 go_wp2_with(first
  | (go_at_call 98;refine(HF.o _ aa).mono ?_;rintro e w5 ⟨rfl,bf⟩;have BB:=Below.on aa bf;clear aa bf;have gx:=Aj (Ag HM.o.2.1 BB (by rw[HM.o.1.2];omega)) (oI (k:Int));have g0:=five gx;have ag:=HO.o w5 BB;have d0:=Aj (Ag HM.o.2.1 BB (by rw[HM.o.1.2];omega)) (oI (k:Int));have x1:=five d0;have ck:(w5.alloc (oI (k:Int))).cell? (aZ w5.heap.size)=some (iI (k:Int)):=one (Aw _ _);have HV:Hd (Bw w (w5.alloc (oI (k:Int)))/\(w5.alloc (oI (k:Int))).heap[w.heap.size+1+1]?=some zI/\w.heap.size+1+1<(w5.alloc (oI (k:Int))).heap.size):=⟨(Below.on HM.o.1.1 BB).alloc (by have:=BB.size;rw[HM.o.1.2]at this;omega) _,Aj (Ag HM.o.2.2.2 BB (by rw[HM.o.1.2];omega)) _,(by have:=BB.size;rw[HM.o.1.2]at this;have ah:(w5.alloc (oI (k:Int))).heap.size=w5.heap.size+1:=(by simp);omega)⟩;clear d0)
  | (go_at_call 97;refine(FL _ hNm).mono ?_;rintro e w2 ⟨rfl,b2⟩;have aa:=Below.on b1 b2;clear b1 b2;have ai:=one (Ag HM.o.2.2.1 aa (by rw[HM.o.1.2];omega));have fx:=Ag HM.o.2.1 aa (by rw[HM.o.1.2];omega);have f0:=five fx)
  | (go_at_call 38;refine ac.mono ?_;rintro e w1 ⟨rfl,b1⟩;have cn:=one (Ag HM.o.2.2.1 b1 (by rw[HM.o.1.2];omega));have dx:=Ag HM.o.2.1 b1 (by rw[HM.o.1.2];omega);obtain⟨d0,d1,d2,d3,d4⟩:=five dx))
 refine ag.mono ?_;intro e w3 hA;obtain⟨val,ga,gc,la,lc,oa,oc,ta,tc,rfl,hO,b1,hI⟩:=hA.open;dsimp only;have k3:=Ag HV.o.2.1 b1 HV.o.2.2;have z0:=five k3;have y0:=Aq k3;have HP:Hd (OI w3 (w5.alloc (oI (k:Int))).heap.size val M):=hO;have HB:Hd (Bw w w3):=Below.on HV.o.1 b1;have HI:Hd (AB M.g val=.agg (aI M ga gc la lc oa oc ta tc)):=hI;clear hO b1 hI ag hA;go_wp2_with fail;have i1:w.heap.size<=w.heap.size+1+1:=oM;have ab:∀a,Af M a->(val a).ownBlock≠some (w.heap.size+1+1):=fun a ha e=>by have:=((HP.o.row a ha).lt _ e).1;have:=HV.o.2.2;omega
 refine AY (v:=.tuple #[.agg (aI M ga gc la lc oa oc ta tc),iI 0]) (by simp[results,results52,go_sem,z0]) rfl ⟨val,by rw[HI.o],OI.mono (((((HP.o.far ab).far ab).far ab).far ab).far ab) (by have:=HV.o.2.2;omega),((((HB.o.setCell i1 _).setCell i1 _).setCell i1 _).setCell i1 _).setCell i1 _⟩
theorem WW (h:Al w v m)(hR:Ao m=0)(nm:ByteArray)(hM:GV m nm=M)(hE:EL m nm=E):Cl 52 #[v,.string nm] w (Bo w w.heap.size M E):=by
 have h':=h;obtain⟨ra,rc,sa,sc,fa,fc,na,nc,rfl,_⟩:=h.parts;subst hM hE
 by_cases h0:EL m nm=0
 ·obtain⟨hC,hn,hx,h3,e,hs,_⟩:=Pr h0;rw[h0];rw[R6]at e hs;exact WV m ra rc sa sc fa fc na nc nm _ w h' hC hn rfl (by rw[hx];rfl) h3 (Qv _ _) hs _ e.symm
 ·rw[R5 h0];unfold EL
  by_cases hC:Ao m=0
  ·rw[Aa (fun x=>x hC)]
   by_cases hn:BG nm=false
   ·rw[Ab hn];exact WU m ra rc sa sc fa fc na nc nm w h' hC hn
   ·rw[Aa hn];have aa:BG nm=true:=by simpa using hn
    by_cases hx:(BU m.p nm).isSome=true
    ·rw[Ab hx];exact WY m ra rc sa sc fa fc na nc nm _ w h' hC aa rfl hx
    ·rw[Aa hx]
     by_cases h3:m.p.length=3
     ·rw[Ab h3];exact WT m ra rc sa sc fa fc na nc nm _ w h' hC aa rfl (by simpa using hx) h3
     ·exact absurd (by unfold EL;rw[Aa (fun x=>x hC),Aa hn,Aa hx,Aa h3]) h0
  ·exact absurd hR hC

theorem Vq (m:Ac)(ra:Option Addr)(rc:Nat)(sa:Option Addr)(sc:Nat)(fa:Option Addr)(fc:Nat)(na:Option Addr)(nc:Nat)(nm:ByteArray)(N k:Nat)(w:World)(h:Al w (.agg (aI m ra rc sa sc fa fc na nc)) m)(hE:Ao m=0)(hk:Cy m.p nm=k)(hx:(BU m.p nm).isSome=false):Cl 102 #[.agg (aI m ra rc sa sc fa fc na nc),.string nm,.func (.func N) #[] #[]] w (Bo w w.heap.size AZ 5):=by
 let U:=(cA m ra rc sa sc fa fc na nc)
 let V:=((w.alloc U).alloc (.cells #[.func (.func N) #[] #[]] 62))
 have b0:Bw w (V.alloc zI):=(((AG _ _).alloc (by simp[V,U];try omega) _).alloc (by simp[V,U];try omega) _).alloc (by simp[V,U];try omega) _;have q0:(w.alloc U).heap[w.heap.size]?=some U:=AR (by simp[V,U]);have m0:(V.alloc zI).heap[w.heap.size]?=some U:=(Aj (Aj q0 _) _);have q1:V.heap[w.heap.size+1]?=some (.cells #[.func (.func N) #[] #[]] 62):=AR (by simp[V,U]);have m1:(V.alloc zI).heap[w.heap.size+1]?=some (.cells #[.func (.func N) #[] #[]] 62):=(Aj q1 _);have q2:(V.alloc zI).heap[w.heap.size+1+1]?=some zI:=AR (by simp[V,U]);have m2:(V.alloc zI).heap[w.heap.size+1+1]?=some zI:=q2;have hz:(V.alloc zI).heap.size=w.heap.size+1+1+1:=by simp[V,U]
 clear q0 q1 q2;have aa:=EU (h.below b0) hE;have ac:=h.four.2.2.2;have ad:=(GF _).1 (Au (A0 hE)).2.2.2.1;have ab:=(Au (A0 hE)).1;have HF:Hd (∀w2,Below (V.alloc zI).heap.size (V.alloc zI) w2->Cl 98 #[.slice na m.p.length nc,.string nm] w2 fun r w'=>r=.returned (.tuple #[iI (k:Int),.bool false])/\Bw w2 w'):=fun w2 hb2=>LQ ((ac.below b0).below hb2) ad ab nm hk hx
 clear ac ad ab;have c0:=five m0;have HM:Hd ((Bw w (V.alloc zI)/\(V.alloc zI).heap.size=w.heap.size+1+1+1)/\(V.alloc zI).heap[w.heap.size]?=some U/\(V.alloc zI).heap[w.heap.size+1]?=some (.cells #[.func (.func N) #[] #[]] 62)/\(V.alloc zI).heap[w.heap.size+1+1]?=some zI):=⟨⟨b0,hz⟩,m0,m1,m2⟩;clear h m0 m1 m2 hz b0;dsimp only[V,U]at *;clear V U
 go_enter func102,ntmps102
 go_wp2_with(first
  | (go_at_call 98;refine(HF.o _ b1).mono ?_;rintro e w5 ⟨rfl,bf⟩;have BB:=Below.on b1 bf;clear b1 bf;have gx:=Aj (Ag HM.o.2.1 BB (by rw[HM.o.1.2];omega)) (oI (k:Int));have g0:=five gx;have k3:=Aj (Ag HM.o.2.2.2 BB (by rw[HM.o.1.2];omega)) (oI (k:Int));have z0:=five k3;have y0:=Aq k3;have HB:Hd (Bw w (w5.alloc (oI (k:Int)))):=(Below.on HM.o.1.1 BB).alloc (by have:=BB.size;rw[HM.o.1.2]at this;omega) _;have hsz:w.heap.size+1+1+1<=w5.heap.size:=(by have:=BB.size;rw[HM.o.1.2]at this;omega);clear k3)
  | (go_at_call 38;refine aa.mono ?_;rintro e w1 ⟨rfl,b1⟩;have dx:=Ag HM.o.2.1 b1 (by rw[HM.o.1.2];omega);have d0:=five dx))
 have i1:w.heap.size<=w.heap.size+1+1:=oM;refine AY (v:=.tuple #[.agg #[iI 0,nl,nl,nl,nl],iI 5]) (by simp[results,results102,go_sem,z0]) rfl (Bo.bad 5 (((((HB.o.setCell i1 _).setCell i1 _).setCell i1 _).setCell i1 _).setCell i1 _))
theorem Vr (m:Ac)(ra:Option Addr)(rc:Nat)(sa:Option Addr)(sc:Nat)(fa:Option Addr)(fc:Nat)(na:Option Addr)(nc:Nat)(nm:ByteArray)(N k:Nat)(w:World)(h:Al w (.agg (aI m ra rc sa sc fa fc na nc)) m)(hE:Ao m=0)(hk:Cy m.p nm=k)(hx:(BU m.p nm).isSome=true)(M0 M:Ac)(hNN:∀ (args:Array Value) (w:World),(callFunc N args).run prog w=.ok (.enter N args) w)(hTurn:∀ (W:World) (D B:Nat) (val:Nm->Value),B<=W.heap.size->DK W B D val m->Cl N #[pZ D,iI (k:Int)] W fun r W'=>∃val',r=.returned (.tuple #[])/\Ay W W' B D m val AF M0 val')(hsh:As M0=0)(hM:At M0=M):Cl 102 #[.agg (aI m ra rc sa sc fa fc na nc),.string nm,.func (.func N) #[] #[]] w (Bo w w.heap.size M 0):=by
 let U:=(cA m ra rc sa sc fa fc na nc)
 let V:=(((w.alloc U).alloc (.cells #[.func (.func N) #[] #[]] 62)).alloc zI)
 have b0:Bw w V:=(((AG _ _).alloc (by simp[V,U];try omega) _).alloc (by simp[V,U];try omega) _).alloc (by simp[V,U];try omega) _;have q0:(w.alloc U).heap[w.heap.size]?=some U:=AR (by simp[V,U]);have m0:V.heap[w.heap.size]?=some U:=(Aj (Aj q0 _) _);have q1:((w.alloc U).alloc (.cells #[.func (.func N) #[] #[]] 62)).heap[w.heap.size+1]?=some (.cells #[.func (.func N) #[] #[]] 62):=AR (by simp[V,U]);have m1:V.heap[w.heap.size+1]?=some (.cells #[.func (.func N) #[] #[]] 62):=(Aj q1 _);have q2:V.heap[w.heap.size+1+1]?=some zI:=by have:=C2 ((w.alloc U).alloc (.cells #[.func (.func N) #[] #[]] 62)) zI;simpa[V,U] using this
 have m2:V.heap[w.heap.size+1+1]?=some zI:=q2;have hz:V.heap.size=w.heap.size+1+1+1:=by simp[V,U]
 clear q0 q1 q2;have ab:=EU (h.below b0) hE;have ad:=h.four.2.2.2;have ae:=(GF _).1 (Au (A0 hE)).2.2.2.1;have ac:=(Au (A0 hE)).1;have HF:Hd (∀w2,Below V.heap.size V w2->Cl 98 #[.slice na m.p.length nc,.string nm] w2 fun r w'=>r=.returned (.tuple #[iI (k:Int),.bool true])/\Bw w2 w'):=fun w2 hb2=>LQ ((ad.below b0).below hb2) ae ac nm hk hx
 clear ad ae ac;have HO:Hd (∀w5,Below V.heap.size V w5->Cl 39 #[.agg (aI m ra rc sa sc fa fc na nc),.func (.func 168) #[] #[pZ (w.heap.size+1),pZ w5.heap.size]] (w5.alloc (oI (k:Int))) (Bo (w5.alloc (oI (k:Int))) (w5.alloc (oI (k:Int))).heap.size M 0)):=fun w5 b5=>by
  have hsz:w.heap.size+1+1+1<=w5.heap.size:=(by have:=b5.size;rw[hz]at this;exact this);have b6:Below V.heap.size V (w5.alloc (oI (k:Int))):=b5.alloc (by rw[hz];exact hsz) _;have ag:(w5.alloc (oI (k:Int))).heap.size=w5.heap.size+1:=by simp[V,U]
  have ho:=K8 (h.below (Below.on b0 b6)) (JV (A0 hE)) (enters_of func168 kR rfl) (jQ (one (Ag m1 b6 (by rw[hz];omega))) (one (Aw _ _)) oM oM hNN hTurn);have e1:Gg (some M0)=M:=by unfold Gg;dsimp only;rw[Ab hsh];exact hM
  have e2:IH (some M0)=0:=hsh;rw[e1,e2]at ho;exact ho
 have c0:=five m0;have HM:Hd ((Bw w V/\V.heap.size=w.heap.size+1+1+1)/\V.heap[w.heap.size]?=some U/\V.heap[w.heap.size+1]?=some (.cells #[.func (.func N) #[] #[]] 62)/\V.heap[w.heap.size+1+1]?=some zI):=⟨⟨b0,hz⟩,m0,m1,m2⟩;clear h m0 m1 m2 hz b0;clear hM hsh hTurn hNN;dsimp only[V,U]at *;clear V U
 go_enter func102,ntmps102
 go_wp2_with(first
  | (go_at_call 98;refine(HF.o _ b1).mono ?_;rintro e w5 ⟨rfl,bf⟩;have BB:=Below.on b1 bf;clear b1 bf;have gx:=Aj (Ag HM.o.2.1 BB (by rw[HM.o.1.2];omega)) (oI (k:Int));have g0:=five gx;have af:=HO.o w5 BB;have d0:=Aj (Ag HM.o.2.1 BB (by rw[HM.o.1.2];omega)) (oI (k:Int));have x1:=five d0;have ck:(w5.alloc (oI (k:Int))).cell? (aZ w5.heap.size)=some (iI (k:Int)):=one (Aw _ _);have HV:Hd (Bw w (w5.alloc (oI (k:Int)))/\(w5.alloc (oI (k:Int))).heap[w.heap.size+1+1]?=some zI/\w.heap.size+1+1<(w5.alloc (oI (k:Int))).heap.size):=⟨(Below.on HM.o.1.1 BB).alloc (by have:=BB.size;rw[HM.o.1.2]at this;omega) _,Aj (Ag HM.o.2.2.2 BB (by rw[HM.o.1.2];omega)) _,(by have:=BB.size;rw[HM.o.1.2]at this;have ag:(w5.alloc (oI (k:Int))).heap.size=w5.heap.size+1:=(by simp);omega)⟩;clear d0)
  | (go_at_call 38;refine ab.mono ?_;rintro e w1 ⟨rfl,b1⟩;have dx:=Ag HM.o.2.1 b1 (by rw[HM.o.1.2];omega);obtain⟨d0,d1,d2,d3,d4⟩:=five dx))
 refine af.mono ?_;intro e w3 hA;obtain⟨val,ga,gc,la,lc,oa,oc,ta,tc,rfl,hO,b1,hI⟩:=hA.open;dsimp only;have k3:=Ag HV.o.2.1 b1 HV.o.2.2;have z0:=five k3;have y0:=Aq k3;have HP:Hd (OI w3 (w5.alloc (oI (k:Int))).heap.size val M):=hO;have HB:Hd (Bw w w3):=Below.on HV.o.1 b1;have HI:Hd (AB M.g val=.agg (aI M ga gc la lc oa oc ta tc)):=hI;clear hO b1 hI af hA;go_wp2_with fail;have i1:w.heap.size<=w.heap.size+1+1:=oM;have aa:∀a,Af M a->(val a).ownBlock≠some (w.heap.size+1+1):=fun a ha e=>by have:=((HP.o.row a ha).lt _ e).1;have:=HV.o.2.2;omega
 refine AY (v:=.tuple #[.agg (aI M ga gc la lc oa oc ta tc),iI 0]) (by simp[results,results102,go_sem,z0]) rfl ⟨val,by rw[HI.o],OI.mono (((((HP.o.far aa).far aa).far aa).far aa).far aa) (by have:=HV.o.2.2;omega),((((HB.o.setCell i1 _).setCell i1 _).setCell i1 _).setCell i1 _).setCell i1 _⟩
theorem fs (h:Al w v m)(hR:Ao m=0)(nm:ByteArray)(hM:GL m nm=M)(hE:CW m nm=E):Cl 102 #[v,.string nm,.func (.func 103) #[] #[]] w (Bo w w.heap.size M E):=by
 have h':=h;obtain⟨ra,rc,sa,sc,fa,fc,na,nc,rfl,_⟩:=h.parts;subst hM hE
 by_cases h0:CW m nm=0
 ·obtain⟨hC,k,hk,hl,e,hs,_⟩:=QN h0;rw[h0];have hN:=(GF _).1 (Au (A0 hC)).2.2.2.1;have h3:=(Au (A0 hC)).1;exact Vr m ra rc sa sc fa fc na nc nm _ k w h' hC (Qw hN hk) (by rw[hk];rfl) (Ih m k) _ (enters_of func103 kR rfl) (fun W D B val hB hD=>fl hD hB hl oM (A0 hC)) hs e.symm
 ·rw[UJ h0];unfold CW at h0 ⊢
  by_cases hC:Ao m=0
  ·rw[Aa (fun x=>x hC)]at h0 ⊢
   cases hx:BU m.p nm with
   | some k=>rw[hx]at h0;exact absurd rfl h0
   | none=>exact Vq m ra rc sa sc fa fc na nc nm _ _ w h' hC rfl (by rw[hx];rfl)
  ·exact absurd hR hC
theorem Xp (h:Al w v m)(hR:Ao m=0)(nm:ByteArray)(hM:Gt m nm=M)(hE:CW m nm=E):Cl 102 #[v,.string nm,.func (.func 104) #[] #[]] w (Bo w w.heap.size M E):=by
 have h':=h;obtain⟨ra,rc,sa,sc,fa,fc,na,nc,rfl,_⟩:=h.parts;subst hM hE
 by_cases h0:CW m nm=0
 ·obtain⟨hC,k,hk,hl,e,hs,_⟩:=Pz h0;rw[h0];have hN:=(GF _).1 (Au (A0 hC)).2.2.2.1;have h3:=(Au (A0 hC)).1;exact Vr m ra rc sa sc fa fc na nc nm _ k w h' hC (Qw hN hk) (by rw[hk];rfl) (Dk m k) _ (enters_of func104 kR rfl) (fun W D B val hB hD=>Xl hD hB hl oM) hs e.symm
 ·rw[Sg h0];unfold CW at h0 ⊢
  by_cases hC:Ao m=0
  ·rw[Aa (fun x=>x hC)]at h0 ⊢
   cases hx:BU m.p nm with
   | some k=>rw[hx]at h0;exact absurd rfl h0
   | none=>exact Vq m ra rc sa sc fa fc na nc nm _ _ w h' hC rfl (by rw[hx];rfl)
  ·exact absurd hR hC


theorem fm (h:Al w v m)(hR:Ao m=0)(nm:ByteArray)(hM:GL m nm=M)(hE:CW m nm=E):Cl 53 #[v,.string nm] w (Bo w w.heap.size M E):=by
 have h':=h;obtain⟨ra,rc,sa,sc,fa,fc,na,nc,rfl,_⟩:=h.parts;have b0:Bw w ((w.alloc (cA m ra rc sa sc fa fc na nc)).alloc zI):=(Av).alloc (by simp) _;have m0:((w.alloc (cA m ra rc sa sc fa fc na nc)).alloc zI).heap[w.heap.size]?=some (cA m ra rc sa sc fa fc na nc):=Aj (Aw _ _) _;have m1:((w.alloc (cA m ra rc sa sc fa fc na nc)).alloc zI).heap[w.heap.size+1]?=some zI:=AR (by simp);have hz:((w.alloc (cA m ra rc sa sc fa fc na nc)).alloc zI).heap.size=w.heap.size+1+1:=by simp
 have aa:=fs (h'.below b0) hR nm hM hE;have c0:=five m0;have HM:Hd (((w.alloc (cA m ra rc sa sc fa fc na nc)).alloc zI).heap[w.heap.size+1]?=some zI/\Bw w ((w.alloc (cA m ra rc sa sc fa fc na nc)).alloc zI)/\((w.alloc (cA m ra rc sa sc fa fc na nc)).alloc zI).heap.size=w.heap.size+1+1):=⟨m1,b0,hz⟩;clear h h' m0 m1 b0 hM hE
 go_enter func53,ntmps53
 go_wp2_with fail;refine aa.mono ?_;intro e w3 hA;obtain⟨val,ga,gc,la,lc,oa,oc,ta,tc,rfl,hO,b1,hI⟩:=hA.open;dsimp only;have k3:=Ag HM.o.1 b1 (by rw[HM.o.2.2];omega);have z0:=five k3;have y0:=Aq k3;have HP:Hd (OI w3 (w.heap.size+1+1) val M):=by rw[HM.o.2.2]at hO;exact hO
 have HB:Hd (Bw w w3):=Below.on HM.o.2.1 b1;have HI:Hd (AB M.g val=.agg (aI M ga gc la lc oa oc ta tc)):=hI;clear hO b1 hI aa hA;go_wp2_with fail;have i1:w.heap.size<=w.heap.size+1:=oM;have ab:∀a,Af M a->(val a).ownBlock≠some (w.heap.size+1):=fun a ha e=>by have:=((HP.o.row a ha).lt _ e).1;omega
 refine AY (v:=.tuple #[.agg (aI M ga gc la lc oa oc ta tc),iI E]) (by simp[results,results53,go_sem,z0]) rfl ⟨val,by rw[HI.o],OI.mono (((((HP.o.far ab).far ab).far ab).far ab).far ab) oM,((((HB.o.setCell i1 _).setCell i1 _).setCell i1 _).setCell i1 _).setCell i1 _⟩
theorem Xn (h:Al w v m)(hR:Ao m=0)(nm:ByteArray)(hM:Gt m nm=M)(hE:CW m nm=E):Cl 54 #[v,.string nm] w (Bo w w.heap.size M E):=by
 have h':=h;obtain⟨ra,rc,sa,sc,fa,fc,na,nc,rfl,_⟩:=h.parts;have b0:Bw w ((w.alloc (cA m ra rc sa sc fa fc na nc)).alloc zI):=(Av).alloc (by simp) _;have m0:((w.alloc (cA m ra rc sa sc fa fc na nc)).alloc zI).heap[w.heap.size]?=some (cA m ra rc sa sc fa fc na nc):=Aj (Aw _ _) _;have m1:((w.alloc (cA m ra rc sa sc fa fc na nc)).alloc zI).heap[w.heap.size+1]?=some zI:=AR (by simp);have hz:((w.alloc (cA m ra rc sa sc fa fc na nc)).alloc zI).heap.size=w.heap.size+1+1:=by simp
 have aa:=Xp (h'.below b0) hR nm hM hE;have c0:=five m0;have HM:Hd (((w.alloc (cA m ra rc sa sc fa fc na nc)).alloc zI).heap[w.heap.size+1]?=some zI/\Bw w ((w.alloc (cA m ra rc sa sc fa fc na nc)).alloc zI)/\((w.alloc (cA m ra rc sa sc fa fc na nc)).alloc zI).heap.size=w.heap.size+1+1):=⟨m1,b0,hz⟩;clear h h' m0 m1 b0 hM hE
 go_enter func54,ntmps54
 go_wp2_with fail;refine aa.mono ?_;intro e w3 hA;obtain⟨val,ga,gc,la,lc,oa,oc,ta,tc,rfl,hO,b1,hI⟩:=hA.open;dsimp only;have k3:=Ag HM.o.1 b1 (by rw[HM.o.2.2];omega);have z0:=five k3;have y0:=Aq k3;have HP:Hd (OI w3 (w.heap.size+1+1) val M):=by rw[HM.o.2.2]at hO;exact hO
 have HB:Hd (Bw w w3):=Below.on HM.o.2.1 b1;have HI:Hd (AB M.g val=.agg (aI M ga gc la lc oa oc ta tc)):=hI;clear hO b1 hI aa hA;go_wp2_with fail;have i1:w.heap.size<=w.heap.size+1:=oM;have ab:∀a,Af M a->(val a).ownBlock≠some (w.heap.size+1):=fun a ha e=>by have:=((HP.o.row a ha).lt _ e).1;omega
 refine AY (v:=.tuple #[.agg (aI M ga gc la lc oa oc ta tc),iI E]) (by simp[results,results54,go_sem,z0]) rfl ⟨val,by rw[HI.o],OI.mono (((((HP.o.far ab).far ab).far ab).far ab).far ab) oM,((((HB.o.setCell i1 _).setCell i1 _).setCell i1 _).setCell i1 _).setCell i1 _⟩

theorem DC {x:ByteArray}{a:Array UInt8}(h:x.data.toList=a.toList):x=⟨a⟩:=OD (Oz.1 h)
theorem QA (hR:Ao m=0)(n:Nat):(Jp m n).size<=4096:=by
 unfold Jp
 split
 ·rename_i he
  have hs:=A0 hR;have hl:=CQ hs;obtain⟨_,_,hn⟩:=Ge he;rw[A5];unfold Fp;rcases J2 hs hl.2 n oM with e|e|⟨j,e,h1,hj,hk⟩
  ·rw[Ab oM];decide
  ·rw[Ab oM];decide
  ·rw[Aa oM,e,A5];have e:m.s.getD j default=m.s[j]:=by simp[List.getD,hj]
   have ok:=DO (Au hs).2.1 hj;have aa:m.s[j].1=1:=by rw[<-hk];unfold kd;simp[List.getD,hj]
   unfold B1 Cb at ok;rw[Aa (by rw[aa];decide),Ab aa]at ok;simp at ok
   rw[e,ok.1];decide
 ·decide
theorem Xt {o:Nat}(h:BW w b o m)(ho:o<w.heap.size)(hR:Ao m=0)(hV:Lv B w)(hB:B<=b)(x r:ByteArray)(hr:r.size<=4096):Cl 22 #[pZ b,.string x,.string r] w (B8 w b o m (B2 m x.data.toList r.data.toList)):=by
 have er:Ai r.data.toList=r:=Kx r;unfold B2
 split
 ·rename_i e;rw[DC (a:=#[114,101,97,100]) e]
  exact jp h hV hB r hr (fun n=>QA hR n) (Ah fun W v n hI=>eO hI n rfl rfl)
 split
 ·rename_i e;rw[DC (a:=#[115,105,122,101]) e]
  exact Rb h ho hV hB r hr (B3 ⟨rfl,rfl⟩) (Ah fun W v n hI=>fi hI hR n)
 split
 ·rename_i e;rw[DC (a:=#[119,105,112,101]) e]
  exact Rb h ho hV hB r hr (BM (B3 ⟨rfl,rfl⟩)) (Ah fun W v n hI=>jO hI n)
 split
 ·rename_i e;rw[DC (a:=#[112,117,110,99,104]) e]
  exact Rb h ho hV hB r hr (BM (BM ⟨rfl,rfl⟩)) (Ah fun W v n hI=>eA hI n)
 split
 ·rename_i e;rw[DC (a:=#[119,114,105,116,101]) e]
  split
  ·rename_i hc
   exact jq h ho hV hB r hr (Ai (Lib.cut r.data.toList [32]).1) (Ai (Lib.cut r.data.toList [32]).2.1) hc rfl rfl (by
    rw[Cx];have:=CG r;rcases KE 32 r.data.toList with⟨_,e⟩|⟨x,y,e1,_,e⟩
    ·rw[e];simp only[];omega
    ·rw[e];rw[e1,Bl,BF]at this;simp only[];omega) (Ah fun W v n hI=>km hI n _)
  ·rename_i hc;exact jj h hV r hr (by simpa using hc) rfl
 rw[er]
 split
 ·rename_i e;rw[DC (a:=#[115,110,97,112]) e]
  exact Ra h ho r (B3 ⟨rfl,rfl⟩) (Ah fun W v hI=>WW hI hR r rfl rfl)
 split
 ·rename_i e;rw[DC (a:=#[98,97,99,107]) e]
  exact Ra h ho r (BM (B3 ⟨rfl,rfl⟩)) (Ah fun W v hI=>fm hI hR r rfl rfl)
 split
 ·rename_i e;rw[DC (a:=#[100,114,111,112]) e]
  exact Ra h ho r (BM (BM ⟨rfl,rfl⟩)) (Ah fun W v hI=>Xn hI hR r rfl rfl)
 exact jo h x r (by assumption) (by assumption) (by assumption) (by assumption) (by assumption) (by assumption) (by assumption) (by assumption)
theorem Xg {o:Nat}(h:BW w b o m)(ho:o<w.heap.size)(hR:Ao m=0)(hV:Lv B w)(hB:B<=b)(x:ByteArray):Cl 23 #[pZ b,.string x] w (B8 w b o m (Hm m x.data.toList)):=by
 have hs:=A0 hR;have hsl:=(Au hs).2.1;have h40:=(A4 hsl).2;unfold Hm
 split
 ·rename_i e;rw[DC (a:=#[112,97,99,107]) e]
  exact VQ h ho (Ah fun W v hI=>dw hI hR rfl hR)
 split
 ·rename_i e;rw[DC (a:=#[109,97,112]) e]
  exact VO h hR hV hB
 split
 ·rename_i e;rw[DC (a:=#[117,115,101,100]) e,EN (by have:Cc m.s<=m.s.length:=MF;omega),EN oM]
  exact VS h hV hB hsl h40
 split
 ·rename_i e;rw[DC (a:=#[115,97,118,101]) e,EN (by have:=KO hs;omega)]
  exact VR h ho hV hB (Ai (Dh m)) _ (Cx _) (KO hs) (Ah fun W v hI=>kv hI hR (by unfold Rh;rw[Ab hR]) hR) (Ah fun W=>kg _ W (by
   unfold Jn;rw[Aa (by rw[Cx];have:=KO hs;omega)]
   show (match Ie (Dh m) with|some m=>(m,0)|none=>(AZ,1))=(m,(0:Int))
   rw[eF hR]))
 exact VP h x (by assumption) (by assumption) (by assumption) (by assumption)
theorem Q7 (hR:Ao m=0)(w r:List UInt8):0<=(B2 m w r).1/\(B2 m w r).1<=9:=by
 have hL:∀n:Nat,Br m n=0\/Br m n=3:=fun n=>by unfold Br;rw[Aa (by simpa using hR)];split<;>simp
 have hO:∀p:Option Ac,Ev p=0\/Ev p=7:=fun p=>by unfold Ev;split<;>simp
 have hn:∀ (l:List UInt8) f,(∀n,0<=(f n:Int × Ac × List UInt8).1/\(f n).1<=9)->0<=(Cu l f).1/\(Cu l f).1<=9:=fun l f h=>J4 (p:=fun q=>0<=q.1/\q.1<=9) dE h
 have hp:∀ (n:Nat) e,0<=Gk m n e/\Gk m n e<=9:=fun n e=>by
  have:=hL n;unfold Gk;split
  ·have:=hO (C8 m (n:Int).toNat e);omega
  ·omega
 have hz:∀n:Nat,0<=Ft m n/\Ft m n<=9:=fun n=>by
  unfold Ft;rw[Aa (by simpa using hR)];split
  ·have:=hO (E8 m (n:Int).toNat);omega
  ·omega
 unfold B2
 split;· exact hn _ _ fun n=>by have:=hL n;dsimp only;omega
 split;· exact hn _ _ fun n=>hz n
 split;· exact hn _ _ fun n=>hp n _
 split;· exact hn _ _ fun n=>hp n _
 split
 ·split
  ·exact hn _ _ fun n=>by
    have:=hL n;dsimp only;unfold IQ;split
    ·omega
    ·split
     ·have:=hO (Ec m (n:Int).toNat (Ai (Lib.cut r [32]).2.1));omega
     ·omega
  ·decide
 have hc:0<=EL m (Ai r)/\EL m (Ai r)<=9:=by
  unfold EL;rw[Aa (by simpa using hR)];repeat' split
  all_goals decide
 split;· exact hc
 have hq:0<=CW m (Ai r)/\CW m (Ai r)<=9:=by unfold CW;rw[Aa (by simpa using hR)];split<;>omega
 split;· exact hq
 split;· exact hq
 decide
theorem RI (m:Ac)(w:List UInt8):0<=(Hm m w).1/\(Hm m w).1<=9:=by
 unfold Hm;repeat' split
 all_goals (dsimp only;decide)
theorem ZD (h:BW w b b m)(hR:Ao m=0)(hV:Lv B w)(hB:B<=b)(l:ByteArray)(hl:l.size<=4096):Cl 11 #[pZ b,.string l] w fun r w'=>r=.returned (.string (Ai (Da m l.data.toList).2))/\BW w' b b (Da m l.data.toList).1/\Fr b w w':=
 VT h hV hB l hl (Ah fun _ x y h1 h2 h3 _ h5=>Xt h1 h2 hR h3 hB x y h5) (Ah fun _ x h1 h2 h3 _=>Xg h1 h2 hR h3 hB x) (Q7 hR) (RI m)

theorem Lm (rb ro rc:Nat)(sa:Option Addr)(sc:Nat)(fb fo fc:Nat)(na:Option Addr)(nc:Nat)(m:Ac)(n:Nat)(page:ByteArray)(w:World)(h:Al w (.agg (aI m (sD rb ro) rc sa sc (sD fb fo) fc na nc)) m)(hrc:∀j,j<m.r.length->w.cell? (aD rb (ro+j))=some (iI (m.r.getD j 0)))(hrl:rb<w.heap.size)(hfc:∀j,j<m.f.length->w.cell? (aD fb (fo+j))=some (iI (m.f.getD j 0)))(hfl:fb<w.heap.size)(hC:Ao m=0)(hn:(n:Int)<m.g)(hp:page.size=4)(t:Nat)(ht:m.r.getD (n/4) 0=(t:Int))(e:Int)(he:Be m m.r n=e)(MA:Ac)(EA:Int)(hway:Hd ((∃ (hin:∃en:Nat,1<=en/\e=(en:Int)) (hel:e.toNat<m.s.length) (hrt1:m.f.getD t 0=1) (hre1:m.f.getD e.toNat 0=1) (hke:kd m.s e.toNat=1) (htbe:(m.s.getD e.toNat default).2.2=[]),{m with s:=m.s.set e.toNat (1,page,[])} = MA/\EA=0)\/∃ (bb:Bool) (tn:Nat) (dd:Int) (M1:Ac),(EV m n=M1/\AM m (n/4)=tn)/\(bb=true/\(0<e->1<=t)/\(1<=t->1<m.f.getD t 0)/\((AK m.s=40/\MA=AZ/\EA=7)\/(AK m.s=tn/\1<=m.s.length/\m.s.length<=40/\tn<40/\1<=tn/\tn<=m.s.length)/\((1<=M1.s.length/\M1.s.length<=40/\(if AK M1.s=40 then (0:Int) else AK M1.s)=dd)/\(dd=0/\MA=AZ/\EA=7\/∃ (dn:Nat) (M3:Ac),dd=(dn:Int)/\(dn<=M1.s.length/\1<=dn/\tn<(A3 M1.s dn (1,page,[])).length/\(A3 M1.s dn (1,page,[])).getD tn default=(2,⟨#[]⟩,Ak m (n/4))/\(A3 M1.s dn (1,page,[])).set tn (2,⟨#[]⟩,(Ak m (n/4)).set (n%4) (dn:Int))=wL m n page)/\({M1 with s:=wL m n page} = M3/\As {M3 with f:=BX M3.s} = 0)/\MA=At M3/\EA=0)))\/bb=false/\1<=t/\m.f.getD t 0=1/\(0<e->e.toNat<m.s.length/\m.f.getD e.toNat 0≠1)/\Cq m (n/4)=true/\t=tn/\((1<=M1.s.length/\M1.s.length<=40/\(if AK M1.s=40 then (0:Int) else AK M1.s)=dd)/\(dd=0/\MA=AZ/\EA=7\/∃ (dn:Nat) (M3:Ac),dd=(dn:Int)/\(dn<=M1.s.length/\1<=dn/\tn<(A3 M1.s dn (1,page,[])).length/\(A3 M1.s dn (1,page,[])).getD tn default=(2,⟨#[]⟩,Ak m (n/4))/\(A3 M1.s dn (1,page,[])).set tn (2,⟨#[]⟩,(Ak m (n/4)).set (n%4) (dn:Int))=wL m n page)/\({M1 with s:=wL m n page} = M3/\As {M3 with f:=BX M3.s} = 0)/\MA=At M3/\EA=0))))):Cl 71 #[.agg (aI m (sD rb ro) rc sa sc (sD fb fo) fc na nc),iI (n:Int),.string page] w (Cp w MA EA):=by
 let V:=((w.alloc (cA m (sD rb ro) rc sa sc (sD fb fo) fc na nc)).alloc zI)
 have b0:Bw w V:=(Av).alloc (by simp[V]) _;have m0:V.heap[w.heap.size]?=some (cA m (sD rb ro) rc sa sc (sD fb fo) fc na nc):=Aj (Aw _ _) _;have m1:V.heap[w.heap.size+1]?=some zI:=by have:=C2 (w.alloc (cA m (sD rb ro) rc sa sc (sD fb fo) fc na nc)) zI;simpa[V] using this
 have hsz:w.heap.size+1<V.heap.size:=by simp[V]
 have hs:=A0 hC;have b8:=Dg hs;have hrt:=CQ hs;have hr:n/4<m.r.length:=oM;have b9:t<m.s.length:=by obtain⟨t',bT,h'⟩:=Js hs hr;omega
 have hrf:m.f.length=m.s.length:=(Au hs).2.2.1;have hlen:(Ak m (n/4)).length=4:=Dv (ET hs hr).1;have I0:=h.below b0;have hlk:=Jk I0 (n:Int) (NP hC hn);have e4:((n/4:Nat):Int)=(n:Int)/4:=oM;have bP:((n:Int)/4).toNat=n/4:=oM;have bQ:((n:Int)%4).toNat=n%4:=oM;have bR:(n:Int)/4<(m.r.length:Int):=oM;have h4:n%4<4:=oM;have bM:(n:Int)%4<4:=oM;have bL:n<16:=oM;have bJ:¬(n:Int)/4<0:=oM;have bK:¬(n:Int)%4<0:=oM;have bG:0<=(n:Int)/4:=oM;have bH:0<=(n:Int)%4:=oM;have bO:((page.size:Int) != 4)=false:=by rw[hp];rfl
 have aH:Hd (V.cell? (aD rb (ro+n/4))=some (iI (t:Int))/\rb<V.heap.size):=⟨by rw[<-ht];exact(b0.cell (p:=(aD rb (ro+n/4))) hrl).trans (hrc (n/4) hr),AO hrl b0.size⟩;have aG:Hd (∀j,j<m.f.length->V.cell? (aD fb (fo+j))=some (iI (m.f.getD j 0))/\fb<V.heap.size):=fun j hj=>⟨(b0.cell (p:=(aD fb (fo+j))) hfl).trans (hfc j hj),AO hfl b0.size⟩
 have HP:Hd (Ao m=0/\As m=0/\m.r.getD (n/4) 0=(t:Int)/\Be m m.r n=e/\(n:Int)<m.g/\(Ak m (n/4)).length=4/\m.f.length=m.s.length/\page.size=4):=⟨hC,hs,ht,he,hn,hlen,hrf,hp⟩;clear h hrc hrl hfc hfl hC hs b8 hrt hn ht he hlen hrf hp;dsimp only[V]at *;clear V
 go_enter func71,ntmps71
 have c0:=five m0;go_wp2_with(go_at_call 33;refine hlk.mono ?_;rintro e1 w1 ⟨rfl,b1⟩);clear c0;have aE:w.heap.size+1<w1.heap.size:=AO hsz b1.size;have n0:=Ag m0 b1 oM;have n1:=Ag m1 b1 hsz;have I1:=I0.below b1;have bw:Bw w w1:=Below.on b0 b1;have cR:w1.cell? (aD rb (ro+n/4))=some (iI (t:Int)):=(b1.cell (p:=(aD rb (ro+n/4))) aH.o.2).trans aH.o.1;have aj:rb<w1.heap.size:=AO aH.o.2 b1.size;have HF:Hd (∀j,j<m.f.length->w1.cell? (aD fb (fo+j))=some (iI (m.f.getD j 0))/\fb<w1.heap.size):=fun j hj=>⟨(b1.cell (p:=(aD fb (fo+j))) (aG.o j hj).2).trans (aG.o j hj).1,AO (aG.o j hj).2 b1.size⟩
 have bf:Hd (∀W,Bw w1 W->Cl 63 #[.agg (aI m (sD rb ro) rc sa sc (sD fb fo) fc na nc),iI (n:Int)] W fun r w'=>r=.returned (iI e)/\Bw W w'):=fun W hW=>P8 (I1.below hW) (n:Int) (NP HP.o.1 HP.o.2.2.2.2.1) (by rw[A5];exact HP.o.2.2.2.1)
 have bh:Hd (∀W,Bw w1 W->Cl 126 #[.agg (aI m (sD rb ro) rc sa sc (sD fb fo) fc na nc)] W fun r w'=>∃val,r=.returned (AB m.g val)/\OX w' W.heap.size val m/\Bw W w'):=fun W hW=>J6 (I1.below hW) HP.o.2.1
 have aJ:Hd (∀W,Bw w1 W->Cl 130 #[.agg (aI m (sD rb ro) rc sa sc (sD fb fo) fc na nc),iI (t:Int)] W fun r w'=>∃g cap,r=.returned (lZ g 4 cap)/\w'.ownsRow W.heap.size 3 1 (lZ g 4 cap) 4 (Ae (Ak m (n/4)))/\W.heap.size<=g/\Bw W w'):=fun W hW=>by
  have e:=Mr HP.o.2.2.1;refine(Mv (I1.below hW) b9 (by rw[e,HP.o.2.2.2.2.2.1];decide)).mono ?_;rintro r w' ⟨v,rfl,h1,h2,h3⟩;rw[e,HP.o.2.2.2.2.2.1]at h1;obtain⟨g,cap,rfl⟩:=Eo h1;exact⟨g,cap,rfl,h1,h2 g rfl,h3⟩
 clear b0 b1 m0 m1 I0 I1 aH aG hlk hsz;refine BT (S:=(fun X:World=>X.heap[w.heap.size]?=some (cA m (sD rb ro) rc sa sc (sD fb fo) fc na nc)/\X.cell? (aD rb (ro+n/4))=some (iI (t:Int)))) kR ⟨n0,cR⟩ (fun hHeld=>?_);refine BD 0 (pQ w.heap.size 1) ?_;refine BD 1 (lD rb ro m.r.length rc) ?_;refine BD 2 (iI ((n:Int)/4)) ?_;refine BD 3 (pQ rb (ro+n/4)) ?_;refine BD 4 (iI (t:Int)) ?_;refine BD 5 (.agg (aI m (sD rb ro) rc sa sc (sD fb fo) fc na nc)) ?_;refine BD 6 (iI (n:Int)) ?_;simp only[lays];refine AC 7 rfl (fun K hK=>?_);clear hHeld;simp only[lays];rw[Ab (by rfl)];go_wp2_with(go_at_call 63;refine(bf.o _ (Cg Eu)).mono ?_;rintro e2 w2 ⟨rfl,b2⟩);have b2:Bw w1 w2:=BR b2;have k0:=Ag n0 b2 oM;have bi:=(b2.cell (p:=(aD rb (ro+n/4))) aj).trans cR;refine hK.out _ _ ⟨k0,bi⟩ (fun hHeld=>?_);clear hK K;try simp only[lays]
 refine Ar 8 (iI (t:Int)) ?_;refine Ar 9 (iI e) ?_;simp only[lays];clear hHeld;refine BQ kR ?_ _;have c0:=five k0;go_upto_region 9 with(go_at_call 126;refine(bh.o w2 b2).mono ?_;rintro e3 w3 ⟨val,rfl,hO,b3⟩;obtain⟨p0,q0,p1,q1,p2,q2,p3,q3,x0,x1,x2,x3⟩:=hO.four';unfold AB;rw[x0,x1,x2,x3]);have s2:=b2.size;have s3:=b3.size;have ah:Hd (AX w1 (w3.alloc (cA m p0 q0 p1 q1 p2 q2 p3 q3)) w3.heap.size m):=⟨⟨val,(hO.mono s2).alloc _,by rw[x0,x1,x2,x3];exact Aw _ _,hO.lt lE⟩,oM,(b2.trans (b3.mono s2)).alloc oM _⟩;clear hO x0 x1 x2 x3 c0 k0 bi bf bh;have M0:=Ag n0 ah.o.bel oM;have c0:=five M0;have aq:Hd (∀j,j<m.f.length->(w3.alloc (cA m p0 q0 p1 q1 p2 q2 p3 q3)).cell? (aD fb (fo+j))=some (iI (m.f.getD j 0))):=fun j hj=>(ah.o.bel.cell (p:=(aD fb (fo+j))) (HF.o j hj).2).trans (HF.o j hj).1
 clear b2 b3 M0;have bj:w1.heap.size<=w3.heap.size:=ah.o.ge;rcases hway.o with⟨hin,hel,hrt1,hre1,hke,htbe,hM,hEA⟩|⟨bb,tn,dd,M1,hm1,hq⟩
 ·clear hway;subst hEA;have HM:Hd ({m with s:=m.s.set e.toNat ((m.s.getD e.toNat default).1,page,(m.s.getD e.toNat default).2.2)} = MA):=by
   show _=MA
   rw[htbe,<-hM];unfold kd at hke;rw[hke]
  clear hM hke htbe
  go_cut [54] from 14 (fun s wx=>s=.bool true/\Hd (AX w1 wx w3.heap.size m))
  case first=>
   obtain⟨en,e1,rfl⟩:∃en:Nat,1<=en/\e=(en:Int):=hin;rw[A5]at hel hre1;have g1:decide (0<(en:Int))=true:=by simp;omega
   have ct:=aq.o t (by have:=HP.o.2.2.2.2.2.2.1;omega);rw[hrt1]at ct;have ce:=aq.o en (by have:=HP.o.2.2.2.2.2.2.1;omega);rw[hre1]at ce;have l1:(t:Int)<(m.f.length:Int):=by have:=HP.o.2.2.2.2.2.2.1;omega
   have l2:(en:Int)<(m.f.length:Int):=by have:=HP.o.2.2.2.2.2.2.1;omega
   go_wp2_with fail;go_meet;exact⟨rfl,ah⟩
  case rest=>
  obtain⟨rfl,ag⟩:=hcut;clear ah aq c0;obtain⟨wa,aY⟩:∃X,X=wc:=⟨_,rfl⟩;subst aY;go_upto_region 10 with fail;obtain⟨en,e1,rfl⟩:∃en:Nat,1<=en/\e=(en:Int):=hin;rw[A5]at hel HM
  go_cut [] from 14 (fun wx=>Hd (AX w1 wx w3.heap.size MA))
  case first=>
   obtain⟨val,hX,ab,ac⟩:=ag.o.ex;have aa:=ag.o.bel;obtain⟨p0,q0,p1,q1,p2,q2,p3,q3,x0,x1,x2,x3⟩:=hX.four';have ae:=ab;rw[x0,x1,x2,x3]at ae;have d0:=five ae;obtain⟨ao,cap,xs,hg⟩:=hX.forms .s (Ad.s m);obtain⟨sg,rfl⟩:=hg (by show 0<m.s.length;omega);rw[x1]at xs;simp only[BP]at xs;obtain⟨rfl,_,_⟩:=xs;have af:=hX.row .s (Ad.s m);rw[x1]at af;have af:wa.ownsRow w1.heap.size 85 3 (lZ sg m.s.length q1) m.s.length (A2 m.s (fun j=>val (.tab j))):=af;have bz:=(af.cellAt (en*3+1) oM).trans (D3 hel).2.1;have aN:=af.frozenAt (en*3+1);have l2:(en:Int)<(m.s.length:Int):=oM;go_wp2_with fail;go_meet;rw[<-HM.o];exact da hX aa ab ag.o.ge ac x1 hel page
  case rest=>
  have be:Hd (AX w1 wc w3.heap.size MA):=hcut;clear hcut ag;obtain⟨val,hX,ab,ac⟩:=be.o.ex;have aa:=be.o.bel;obtain⟨p0,q0,p1,q1,p2,q2,p3,q3,x0,x1,x2,x3⟩:=hX.four';have ae:=ab;rw[x0,x1,x2,x3]at ae;have d0:=five ae;have z9:=Ag n1 aa aE;have z0:=five z9;have y0:=Aq z9;have ba:¬w3.heap.size=w.heap.size+1:=oM;have bc:¬w.heap.size+1=w3.heap.size:=oM;go_wp2_with fail;have aW:∀a,Ad MA a->(val a).ownBlock≠some (w.heap.size+1):=fun a ha e=>by
   have:=((hX.row a ha).lt _ e).1;omega
  have hI:=fun a0 a1 a2 a3 a4=>hX.five aW a0 a1 a2 a3 a4
  have eI:AB MA.g val=.agg (aI MA p0 q0 p1 q1 p2 q2 p3 q3):=by unfold AB;rw[x0,x1,x2,x3]
  refine AY (v:=.tuple #[.agg (aI MA p0 q0 p1 q1 p2 q2 p3 q3),iI 0]) (by simp[results,results71,go_sem,z0]) rfl ⟨p0,q0,p1,q1,p2,q2,p3,q3,rfl,fun W' hW=>(by have:=((hI _ _ _ _ _).keep (fun q hq _=>hW q oM)).img;rw[eI]at this;exact this),CP (Below.on bw aa) (Cw _) _ _ _ _ _⟩
 ·clear hway;have ay:Hd (EV m n=M1/\AM m (n/4)=tn):=hm1;have HQ:Hd (bb=true/\(0<e->1<=t)/\(1<=t->1<m.f.getD t 0)/\((AK m.s=40/\MA=AZ/\EA=7)\/(AK m.s=tn/\1<=m.s.length/\m.s.length<=40/\tn<40/\1<=tn/\tn<=m.s.length)/\((1<=M1.s.length/\M1.s.length<=40/\(if AK M1.s=40 then (0:Int) else AK M1.s)=dd)/\(dd=0/\MA=AZ/\EA=7\/∃ (dn:Nat) (M3:Ac),dd=(dn:Int)/\(dn<=M1.s.length/\1<=dn/\tn<(A3 M1.s dn (1,page,[])).length/\(A3 M1.s dn (1,page,[])).getD tn default=(2,⟨#[]⟩,Ak m (n/4))/\(A3 M1.s dn (1,page,[])).set tn (2,⟨#[]⟩,(Ak m (n/4)).set (n%4) (dn:Int))=wL m n page)/\({M1 with s:=wL m n page} = M3/\As {M3 with f:=BX M3.s} = 0)/\MA=At M3/\EA=0)))\/bb=false/\1<=t/\m.f.getD t 0=1/\(0<e->e.toNat<m.s.length/\m.f.getD e.toNat 0≠1)/\Cq m (n/4)=true/\t=tn/\((1<=M1.s.length/\M1.s.length<=40/\(if AK M1.s=40 then (0:Int) else AK M1.s)=dd)/\(dd=0/\MA=AZ/\EA=7\/∃ (dn:Nat) (M3:Ac),dd=(dn:Int)/\(dn<=M1.s.length/\1<=dn/\tn<(A3 M1.s dn (1,page,[])).length/\(A3 M1.s dn (1,page,[])).getD tn default=(2,⟨#[]⟩,Ak m (n/4))/\(A3 M1.s dn (1,page,[])).set tn (2,⟨#[]⟩,(Ak m (n/4)).set (n%4) (dn:Int))=wL m n page)/\({M1 with s:=wL m n page} = M3/\As {M3 with f:=BX M3.s} = 0)/\MA=At M3/\EA=0))):=hq;clear hm1 hq
  go_cut [54] from 14 (fun s wx=>s=.bool false/\Hd (AX w1 wx w3.heap.size m))
  case first=>
   rcases HQ.o with⟨-,hnot,hmany,-⟩|⟨-,ht1,hrt1,hnot,-⟩
   ·skip
    by_cases hpos:0<e
    ·obtain⟨en,rfl⟩:=FV (Int.le_of_lt hpos);have g1:decide (0<(en:Int))=true:=by simpa using hpos
     have ct:=aq.o t (by have:=HP.o.2.2.2.2.2.2.1;omega);have l1:(t:Int)<(m.f.length:Int):=by have:=HP.o.2.2.2.2.2.2.1;omega
     obtain⟨xt,aC⟩:=nM (m.f.getD t 0);have am:=hmany (hnot hpos);rw[aC]at ct am;have g3:(xt == 1)=false:=by simp;omega
     clear aC am hnot hmany;go_wp2_with fail;go_meet;exact⟨rfl,ah⟩
    ·have g1:decide (0<e)=false:=by simpa using hpos
     go_wp2_with fail;go_meet;exact⟨rfl,ah⟩
   ·skip
    by_cases hpos:0<e
    ·obtain⟨en,rfl⟩:=FV (Int.le_of_lt hpos);have g1:decide (0<(en:Int))=true:=by simpa using hpos
     have ct:=aq.o t (by have:=HP.o.2.2.2.2.2.2.1;omega);have l1:(t:Int)<(m.f.length:Int):=by have:=HP.o.2.2.2.2.2.2.1;omega
     rw[hrt1]at ct;obtain⟨hel,aO⟩:=hnot hpos;rw[A5]at hel aO;have ce:=aq.o en (by have:=HP.o.2.2.2.2.2.2.1;omega);obtain⟨xe,bo⟩:=nM (m.f.getD en 0);rw[bo]at ce aO;have l2:(en:Int)<(m.f.length:Int):=by have:=HP.o.2.2.2.2.2.2.1;omega
     have g3:(xe == 1)=false:=by simpa using aO
     clear aO bo hnot;go_wp2_with fail;go_meet;exact⟨rfl,ah⟩
    ·have g1:decide (0<e)=false:=by simpa using hpos
     go_wp2_with fail;go_meet;exact⟨rfl,ah⟩
  case rest=>
  obtain⟨rfl,ag⟩:=hcut;clear ah aq c0;obtain⟨wa,aY⟩:∃X,X=wc:=⟨_,rfl⟩;subst aY;go_upto_region 12 with fail;have M0:=Ag n0 ag.o.bel oM;have c0:=five M0;have aQ:Hd (∀j,j<m.f.length->wa.cell? (aD fb (fo+j))=some (iI (m.f.getD j 0))):=fun j hj=>(ag.o.bel.cell (p:=(aD fb (fo+j))) (HF.o j hj).2).trans (HF.o j hj).1
  go_cut [71] from 14 (fun s wx=>s=.bool bb/\Hd (AX w1 wx w3.heap.size m))
  case first=>
   rcases HQ.o with⟨hbb,hnot,hmany,-⟩|⟨hbb,ht1,hrt1,hnot,-⟩
   ·subst hbb;rcases Eg t with h0|h1
    ·subst h0;go_wp2_with fail;go_meet;exact⟨rfl,ag⟩
    ·have g1:((t:Int) == 0)=false:=by simp;omega
     have ct:=aQ.o t (by have:=HP.o.2.2.2.2.2.2.1;omega);obtain⟨xt,aC⟩:=nM (m.f.getD t 0);have am:=hmany h1;rw[aC]at ct am;have l1:(t:Int)<(m.f.length:Int):=by have:=HP.o.2.2.2.2.2.2.1;omega
     have g3:decide (1<xt)=true:=by simp;omega
     clear aC hmany;go_wp2_with fail;go_meet;exact⟨rfl,ag⟩
   ·subst hbb;have g1:((t:Int) == 0)=false:=by simp;omega
    have ct:=aQ.o t (by have:=HP.o.2.2.2.2.2.2.1;omega);rw[hrt1]at ct;have l1:(t:Int)<(m.f.length:Int):=by have:=HP.o.2.2.2.2.2.2.1;omega
    go_wp2_with fail;go_meet;exact⟨rfl,ag⟩
  case rest=>
  obtain⟨rfl,ai⟩:=hcut;clear ag aQ M0 c0;obtain⟨wb,bA⟩:∃X,X=wc:=⟨_,rfl⟩;subst bA
  go_upto_if 71 with fail
  go_cut [10] from 14 (fun s wx=>s=iI (tn:Int)/\Hd (AX w1 wx w3.heap.size M1/\((1<=M1.s.length/\M1.s.length<=40/\(if AK M1.s=40 then (0:Int) else AK M1.s)=dd)/\(dd=0/\MA=AZ/\EA=7\/∃ (dn:Nat) (M3:Ac),dd=(dn:Int)/\(dn<=M1.s.length/\1<=dn/\tn<(A3 M1.s dn (1,page,[])).length/\(A3 M1.s dn (1,page,[])).getD tn default=(2,⟨#[]⟩,Ak m (n/4))/\(A3 M1.s dn (1,page,[])).set tn (2,⟨#[]⟩,(Ak m (n/4)).set (n%4) (dn:Int))=wL m n page)/\({M1 with s:=wL m n page} = M3/\As {M3 with f:=BX M3.s} = 0)/\MA=At M3/\EA=0))))
  case first=>
   rcases HQ.o with⟨hbb,hnot,hmany,⟨hg,hMA,hEA⟩|⟨hg,hrs⟩⟩|⟨hbb,ht1,hrt1,hnot,hLo,htt,hrs⟩
   ·subst hbb;subst hEA;subst hMA;have HG:Hd (AK m.s=40/\1<=m.s.length/\m.s.length<=40):=⟨hg,A4 (Au HP.o.2.1).2.1⟩;clear hg;clear HQ hnot hmany;obtain⟨val,hX,ab,ac⟩:=ai.o.ex;have aa:=ai.o.bel;obtain⟨p0,q0,p1,q1,p2,q2,p3,q3,x0,x1,x2,x3⟩:=hX.four';have ae:=ab;rw[x0,x1,x2,x3]at ae;have d0:=five ae;have hS:BA wb (val .s) m.s:=Al.four (show Al wb (.agg #[_,_,_,_,_]) m from hX.img) |>.2.1
    have hG:=PT hS HG.o.2.1 HG.o.2.2 (c:=0) (Ab HG.o.1);rw[x1]at hG;have z9:=Ag n1 aa aE;have z0:=five z9;have y0:=Aq z9;have ba:¬w3.heap.size=w.heap.size+1:=oM;have bc:¬w.heap.size+1=w3.heap.size:=oM;clear hX ab ac ae aJ cR aj HF;go_wp2_with(go_at_call 128;refine hG.mono ?_;rintro e4 w4 ⟨rfl,hw⟩;rw[hw];clear hw);have aS:Bw w wb:=Below.on bw ai.o.bel;refine AY (v:=.tuple #[.agg #[iI 0,nl,nl,nl,nl],iI 7]) (by simp[results,results71,go_sem,z0]) rfl ⟨none,0,none,0,none,0,none,0,rfl,fun W' _=>FK W',CP aS (Cw _) _ _ _ _ _⟩
   ·subst hbb;have HG:Hd (AK m.s=tn/\1<=m.s.length/\m.s.length<=40/\tn<40/\1<=tn/\tn<=m.s.length):=hg;have bs:Hd ((1<=M1.s.length/\M1.s.length<=40/\(if AK M1.s=40 then (0:Int) else AK M1.s)=dd)/\(dd=0/\MA=AZ/\EA=7\/∃ (dn:Nat) (M3:Ac),dd=(dn:Int)/\(dn<=M1.s.length/\1<=dn/\tn<(A3 M1.s dn (1,page,[])).length/\(A3 M1.s dn (1,page,[])).getD tn default=(2,⟨#[]⟩,Ak m (n/4))/\(A3 M1.s dn (1,page,[])).set tn (2,⟨#[]⟩,(Ak m (n/4)).set (n%4) (dn:Int))=wL m n page)/\({M1 with s:=wL m n page} = M3/\As {M3 with f:=BX M3.s} = 0)/\MA=At M3/\EA=0)):=hrs;clear HQ hnot hmany hg hrs;obtain⟨val,hX,ab,ac⟩:=ai.o.ex;have aa:=ai.o.bel;obtain⟨p0,q0,p1,q1,p2,q2,p3,q3,x0,x1,x2,x3⟩:=hX.four';have ae:=ab;rw[x0,x1,x2,x3]at ae;have d0:=five ae;have hS:BA wb (val .s) m.s:=Al.four (show Al wb (.agg #[_,_,_,_,_]) m from hX.img) |>.2.1
    have hG:=PT hS HG.o.2.1 HG.o.2.2.1 (c:=(tn:Int)) (by rw[HG.o.1,Aa (by have:=HG.o.2.2.2.1;omega)]);rw[x1]at hG;have aX:((tn:Int) == 0)=false:=by have:=HG.o.2.2.2.2.1;simp;omega
    go_upto_region 16 with(go_at_call 128;refine hG.mono ?_;rintro e4 w4 ⟨rfl,hw⟩;rw[hw];clear hw);clear hG hS aX d0
    go_cut [] from 14 (fun wx=>Hd (AX w1 wx w3.heap.size {m with s:=Bj m (n/4) (Ak m (n/4))}))
    case first=>
     have aL:w3.heap.size<wb.heap.size:=(AA ae);have MX:=Ag n0 aa oM;have aK:=(aa.cell (p:=(aD rb (ro+n/4))) aj).trans cR;have ap:=aa.size;refine BT (S:=(fun X:World=>X.heap[w.heap.size]?=some (cA m (sD rb ro) rc sa sc (sD fb fo) fc na nc)/\X.cell? (aD rb (ro+n/4))=some (iI (t:Int)))) kR ⟨MX,aK⟩ (fun hHeld=>?_);refine BD 1 (iI (tn:Int)) ?_;refine BD 2 (.agg (aI m (sD rb ro) rc sa sc (sD fb fo) fc na nc)) ?_;refine BD 3 (pQ w.heap.size 1) ?_;refine BD 4 (lD rb ro m.r.length rc) ?_;refine BD 5 (iI ((n:Int)/4)) ?_;refine BD 6 (pQ rb (ro+n/4)) ?_;refine BD 7 (iI (t:Int)) ?_;simp only[lays];refine Jo 0 8 rfl rfl (fun K hK=>?_) (fun K hK=>?_)
     ·clear hHeld;simp only[lays];rw[Ab (by rfl)];have bv:wb.drew.heap[w3.heap.size]?=some (cA m p0 q0 p1 q1 p2 q2 p3 q3):=ae;obtain⟨v0,v1,v2,v3,v4⟩:=five bv;go_simp;refine hK.out _ _ ⟨MX,aK⟩ (fun hHeld=>?_);clear hK K v0 v1 v2 v3 v4;try simp only[lays]
      refine AC 8 rfl (fun K hK=>?_);clear hHeld;simp only[lays];rw[Ab (by rfl)];go_wp2_with(go_at_call 130;refine(aJ.o _ (Cg aa)).mono ?_;rintro e5 w4 ⟨g,cap,rfl,al,aA,b4⟩);have b4:Bw wb w4:=BR b4;have aA:wb.heap.size<=g:=aA;have al:w4.ownsRow w1.heap.size 3 1 (lZ g 4 cap) (Ak m (n/4)).length (Ae (Ak m (n/4))):=by
       rw[HP.o.2.2.2.2.2.1];exact CL al (show w1.heap.size<=wb.heap.size from ap)
      have b6:g<w4.heap.size:=(al.lt g rfl).2;have s4:=b4.size;have av:=Ag MX b4 oM;have D4:=Ag ae b4 aL;have aw:=(b4.cell (p:=(aD rb (ro+n/4))) (AO aj ap)).trans aK;refine hK.out _ _ ⟨av,aw⟩ (fun hHeld=>?_);clear hK K;try simp only[lays]
      refine BD 9 (.agg #[iI 2,.string ⟨#[]⟩,lZ g 4 cap]) ?_;simp only[lays];have aU:OX w4 w1.heap.size val m:=hX.below b4;have hL:=NK m.g (k:=2) (d:=⟨#[]⟩) aU (Bg ap s4) HG.o.2.2.2.2.2 (by have:=HG.o.2.2.1;omega) al (fun b hb _ q hq x=>by have h1:=((hX.row b hb).lt q x).2;have hq:g=q:=BJ hq;omega);unfold AB at hL;rw[x0,x1,x2,x3]at hL;have HL:Hd (Cl 129 #[.agg (aI m p0 q0 p1 q1 p2 q2 p3 q3),iI (tn:Int),.agg #[iI 2,.string ⟨#[]⟩,lZ g 4 cap]] w4 fun r w'=>∃ad,r=.returned (AB m.g ad)/\OX w' w1.heap.size ad {m with s:=A3 m.s tn (2,⟨#[]⟩,Ak m (n/4))}/\Below w1.heap.size w4 w'/\BC w4 w' m val/\DB w4 m val (lZ g 4 cap) {m with s:=A3 m.s tn (2,⟨#[]⟩,Ak m (n/4))} ad):=hL.mono fun r w' ⟨v,a1,a2,a3,a4,a5,_⟩=>⟨v,a1,a2,a3,a4,a5⟩
      clear hL;obtain⟨MA,hMA⟩:∃X:Ac,{m with s:=A3 m.s tn (2,⟨#[]⟩,Ak m (n/4))} = X:=⟨_,rfl⟩;rw[hMA]at HL;have a8:MA.g=m.g:=by rw[<-hMA]
      have az:Hd ({m with s:=Bj m (n/4) (Ak m (n/4))} = MA/\MA.g=m.g):=⟨by rw[<-hMA];unfold Bj;rw[ay.o.2],a8⟩;clear hMA a8;refine AC 10 rfl (fun K hK=>?_);clear hHeld;simp only[lays];rw[Ab (by rfl)];go_wp2_with(go_at_call 129;refine HL.o.mono ?_;rintro e6 w5 ⟨ad,rfl,an,b5,k5,s5⟩;obtain⟨g0,h0,g1,h1,g2,h2,g3,h3,y0,y1,y2,y3⟩:=an.four';unfold AB;rw[y0,y1,y2,y3]);have a6:=Ag av b5 oM;have D5:=(k5 w3.heap.size oM ac).trans D4;have a7:=(b5.cell (p:=(aD rb (ro+n/4))) aj).trans aw;refine hK.out _ _ ⟨a6,a7⟩ (fun hHeld=>?_);clear hK K;try simp only[lays]
      refine AC 11 rfl (fun K hK=>?_);clear hHeld;simp only[lays];rw[Ab (by rfl)];have bS:=fun a0 a1 a2 a3 a4=>CP (w:=w5) (AG w1.heap.size w5) bj a0 a1 a2 a3 a4
      obtain⟨v0,v1,v2,v3,v4⟩:=five D5;have u0:=Aq D5;go_simp;refine hK.out _ _ ⟨(Jf _ _ _ _ _ _ oM).trans a6,((bS _ _ _ _ _).cell (p:=(aD rb (ro+n/4))) aj).trans a7⟩ (fun hHeld=>?_);clear hK K hHeld;try simp only[lays]
      refine BQ kR ?_ _;go_wp2_with fail;go_meet;have hO:=NU (Below.trans aa (b4.mono ap)) (by rw[x0,x1,x2,x3];exact D4) ai.o.ge ac an b5 k5 s5 (fun x=>by have hx:g=w3.heap.size:=BJ x;omega);rw[y0,y1,y2,y3,az.o.2]at hO;rw[az.o.1];exact hO
     ·clear hHeld;simp only[lays];rw[Ab (by rfl)];go_wp2_with(go_at_call 130;refine(aJ.o _ (Cg aa)).mono ?_;rintro e5 w4 ⟨g,cap,rfl,al,aA,b4⟩);have b4:Bw wb w4:=BR b4;have aA:wb.heap.size<=g:=aA;have al:w4.ownsRow w1.heap.size 3 1 (lZ g 4 cap) (Ak m (n/4)).length (Ae (Ak m (n/4))):=by
       rw[HP.o.2.2.2.2.2.1];exact CL al (show w1.heap.size<=wb.heap.size from ap)
      have b6:g<w4.heap.size:=(al.lt g rfl).2;have s4:=b4.size;have av:=Ag MX b4 oM;have D4:=Ag ae b4 aL;have aw:=(b4.cell (p:=(aD rb (ro+n/4))) (AO aj ap)).trans aK;refine hK.out _ _ ⟨av,aw⟩ (fun hHeld=>?_);clear hK K;try simp only[lays]
      refine BD 9 (.agg #[iI 2,.string ⟨#[]⟩,lZ g 4 cap]) ?_;simp only[lays];refine AC 0 rfl (fun K hK=>?_);clear hHeld;simp only[lays];rw[Ab (by rfl)];obtain⟨v0,v1,v2,v3,v4⟩:=five D4;go_simp;refine hK.out _ _ ⟨av,aw⟩ (fun hHeld=>?_);clear hK K v0 v1 v2 v3 v4;try simp only[lays]
      have aU:OX w4 w1.heap.size val m:=hX.below b4;have hL:=NK m.g (k:=2) (d:=⟨#[]⟩) aU (Bg ap s4) HG.o.2.2.2.2.2 (by have:=HG.o.2.2.1;omega) al (fun b hb _ q hq x=>by have h1:=((hX.row b hb).lt q x).2;have hq:g=q:=BJ hq;omega);unfold AB at hL;rw[x0,x1,x2,x3]at hL;have HL:Hd (Cl 129 #[.agg (aI m p0 q0 p1 q1 p2 q2 p3 q3),iI (tn:Int),.agg #[iI 2,.string ⟨#[]⟩,lZ g 4 cap]] w4 fun r w'=>∃ad,r=.returned (AB m.g ad)/\OX w' w1.heap.size ad {m with s:=A3 m.s tn (2,⟨#[]⟩,Ak m (n/4))}/\Below w1.heap.size w4 w'/\BC w4 w' m val/\DB w4 m val (lZ g 4 cap) {m with s:=A3 m.s tn (2,⟨#[]⟩,Ak m (n/4))} ad):=hL.mono fun r w' ⟨v,a1,a2,a3,a4,a5,_⟩=>⟨v,a1,a2,a3,a4,a5⟩
      clear hL;obtain⟨MA,hMA⟩:∃X:Ac,{m with s:=A3 m.s tn (2,⟨#[]⟩,Ak m (n/4))} = X:=⟨_,rfl⟩;rw[hMA]at HL;have a8:MA.g=m.g:=by rw[<-hMA]
      have az:Hd ({m with s:=Bj m (n/4) (Ak m (n/4))} = MA/\MA.g=m.g):=⟨by rw[<-hMA];unfold Bj;rw[ay.o.2],a8⟩;clear hMA a8;refine AC 10 rfl (fun K hK=>?_);clear hHeld;simp only[lays];rw[Ab (by rfl)];go_wp2_with(go_at_call 129;refine HL.o.mono ?_;rintro e6 w5 ⟨ad,rfl,an,b5,k5,s5⟩;obtain⟨g0,h0,g1,h1,g2,h2,g3,h3,y0,y1,y2,y3⟩:=an.four';unfold AB;rw[y0,y1,y2,y3]);have a6:=Ag av b5 oM;have D5:=(k5 w3.heap.size oM ac).trans D4;have a7:=(b5.cell (p:=(aD rb (ro+n/4))) aj).trans aw;refine hK.out _ _ ⟨a6,a7⟩ (fun hHeld=>?_);clear hK K;try simp only[lays]
      refine AC 11 rfl (fun K hK=>?_);clear hHeld;simp only[lays];rw[Ab (by rfl)];have bS:=fun a0 a1 a2 a3 a4=>CP (w:=w5) (AG w1.heap.size w5) bj a0 a1 a2 a3 a4
      obtain⟨v0,v1,v2,v3,v4⟩:=five D5;have u0:=Aq D5;go_simp;refine hK.out _ _ ⟨(Jf _ _ _ _ _ _ oM).trans a6,((bS _ _ _ _ _).cell (p:=(aD rb (ro+n/4))) aj).trans a7⟩ (fun hHeld=>?_);clear hK K hHeld;try simp only[lays]
      refine BQ kR ?_ _;go_wp2_with fail;go_meet;have hO:=NU (Below.trans aa (b4.mono ap)) (by rw[x0,x1,x2,x3];exact D4) ai.o.ge ac an b5 k5 s5 (fun x=>by have hx:g=w3.heap.size:=BJ x;omega);rw[y0,y1,y2,y3,az.o.2]at hO;rw[az.o.1];exact hO
    case rest=>
    have aP:Hd (AX w1 wc w3.heap.size {m with s:=Bj m (n/4) (Ak m (n/4))}):=hcut;clear hcut ai hX ab ac aa ae x0 x1 x2 x3;obtain⟨wd,bB⟩:∃X,X=wc:=⟨_,rfl⟩;subst bB;go_upto_region 17 with fail;obtain⟨val,hX,ab,ac⟩:=aP.o.ex;have aa:=aP.o.bel;obtain⟨p0,q0,p1,q1,p2,q2,p3,q3,x0,x1,x2,x3⟩:=hX.four';have ae:=ab;rw[x0,x1,x2,x3]at ae;have d0:=five ae;obtain⟨ao,cap,xs,hg⟩:=hX.forms .r (Ad.r _);obtain⟨rg,rfl⟩:=hg (by show 0<m.r.length;omega);rw[x0]at xs;simp only[BP]at xs;obtain⟨rfl,_,_⟩:=xs;have af:=hX.row .r (Ad.r _);rw[x0]at af;have af:wd.ownsRow w1.heap.size 3 1 (lZ rg m.r.length q0) m.r.length (Ae m.r):=af;have bz:=(af.cellAt (n/4) oM).trans (show (Ae m.r)[n/4]?=some (iI (t:Int)) by unfold Ae;rw[Dm,Co hr,<-HP.o.2.2.1];simp[List.getD,hr]);have aN:=af.frozenAt (n/4);go_wp2_with fail;go_meet;have hO:=db hX aa ab aP.o.ge ac x0 (n/4) (tn:Int);refine⟨rfl,?_,bs.o⟩;rw[<-ay.o.1];unfold EV;rw[ay.o.2];exact hO
   ·subst hbb;have HL:Hd (Cq m (n/4)=true/\t=tn/\((1<=M1.s.length/\M1.s.length<=40/\(if AK M1.s=40 then (0:Int) else AK M1.s)=dd)/\(dd=0/\MA=AZ/\EA=7\/∃ (dn:Nat) (M3:Ac),dd=(dn:Int)/\(dn<=M1.s.length/\1<=dn/\tn<(A3 M1.s dn (1,page,[])).length/\(A3 M1.s dn (1,page,[])).getD tn default=(2,⟨#[]⟩,Ak m (n/4))/\(A3 M1.s dn (1,page,[])).set tn (2,⟨#[]⟩,(Ak m (n/4)).set (n%4) (dn:Int))=wL m n page)/\({M1 with s:=wL m n page} = M3/\As {M3 with f:=BX M3.s} = 0)/\MA=At M3/\EA=0))):=⟨hLo,htt,hrs⟩;clear HQ hnot hLo htt hrs ht1 hrt1;go_wp2_with fail;go_meet;refine⟨by rw[HL.o.2.1],?_,HL.o.2.2⟩;rw[<-ay.o.1,jY HP.o.1 hr HL.o.1];exact ai.o
  case rest=>
  obtain⟨rfl,ak⟩:=hcut;have ax:Hd (AX w1 wc w3.heap.size M1):=ak.o.1;have HT:Hd (1<=M1.s.length/\M1.s.length<=40/\(if AK M1.s=40 then (0:Int) else AK M1.s)=dd):=ak.o.2.1;have HR:Hd (dd=0/\MA=AZ/\EA=7\/∃ (dn:Nat) (M3:Ac),dd=(dn:Int)/\(dn<=M1.s.length/\1<=dn/\tn<(A3 M1.s dn (1,page,[])).length/\(A3 M1.s dn (1,page,[])).getD tn default=(2,⟨#[]⟩,Ak m (n/4))/\(A3 M1.s dn (1,page,[])).set tn (2,⟨#[]⟩,(Ak m (n/4)).set (n%4) (dn:Int))=wL m n page)/\({M1 with s:=wL m n page} = M3/\As {M3 with f:=BX M3.s} = 0)/\MA=At M3/\EA=0):=ak.o.2.2;clear ai HQ ak;obtain⟨we,bC⟩:∃X,X=wc:=⟨_,rfl⟩;subst bC;obtain⟨val,hX,ab,ac⟩:=ax.o.ex;have aa:=ax.o.bel;obtain⟨p0,q0,p1,q1,p2,q2,p3,q3,x0,x1,x2,x3⟩:=hX.four';have ae:=ab;rw[x0,x1,x2,x3]at ae;have d0:=five ae;have hS:BA we (val .s) M1.s:=Al.four (show Al we (.agg #[_,_,_,_,_]) M1 from hX.img) |>.2.1
  have hG:=PT hS HT.o.1 HT.o.2.1 HT.o.2.2;rw[x1]at hG;rcases HR.o with⟨hd,hMA,hEA⟩|⟨dn,M3,hd,hE,hM3,hMA,hEA⟩
  ·subst hd;subst hMA;subst hEA;clear HR;have z9:=Ag n1 aa aE;have z0:=five z9;have y0:=Aq z9;have ba:¬w3.heap.size=w.heap.size+1:=oM;have bc:¬w.heap.size+1=w3.heap.size:=oM;clear hX ab ac ae aJ cR aj HF;go_wp2_with(go_at_call 128;refine hG.mono ?_;rintro e4 w4 ⟨rfl,hw⟩;rw[hw];clear hw);have aS:Bw w we:=Below.on bw ax.o.bel;refine AY (v:=.tuple #[.agg #[iI 0,nl,nl,nl,nl],iI 7]) (by simp[results,results71,go_sem,z0]) rfl ⟨none,0,none,0,none,0,none,0,rfl,fun W' _=>FK W',CP aS (Cw _) _ _ _ _ _⟩
  subst hd;subst hMA;subst hEA;have HE:Hd (dn<=M1.s.length/\1<=dn/\tn<(A3 M1.s dn (1,page,[])).length/\(A3 M1.s dn (1,page,[])).getD tn default=(2,⟨#[]⟩,Ak m (n/4))/\(A3 M1.s dn (1,page,[])).set tn (2,⟨#[]⟩,(Ak m (n/4)).set (n%4) (dn:Int))=wL m n page):=hE;have bg:Hd ({M1 with s:=wL m n page} = M3/\As {M3 with f:=BX M3.s} = 0):=hM3;clear HR hE hM3;have aV:((dn:Int) == 0)=false:=by have:=HE.o.2.1;simp;omega
  go_upto_region 21 with(go_at_call 128;refine hG.mono ?_;rintro e4 w4 ⟨rfl,hw⟩;rw[hw];clear hw);clear hG hS aV;obtain⟨M2,aM⟩:∃X:Ac,{M1 with s:=A3 M1.s dn (1,page,[])} = X:=⟨_,rfl⟩;have hL:=NK M1.g (k:=1) (d:=page) (ev:=nl) (es:=[]) hX aa.size HE.o.1 (by have:=HT.o.2.1;omega) (DG _ _ _ _) (Np _ _ _ _ _);unfold AB at hL;rw[x0,x1,x2,x3,aM]at hL;have HL:Hd (Cl 129 #[.agg (aI M1 p0 q0 p1 q1 p2 q2 p3 q3),iI (dn:Int),.agg #[iI 1,.string page,nl]] we fun r w'=>∃ad,r=.returned (AB M1.g ad)/\OX w' w1.heap.size ad M2/\Below w1.heap.size we w'/\BC we w' M1 val/\DB we M1 val (nl) M2 ad):=hL.mono fun r w' ⟨v,a1,a2,a3,a4,a5,_⟩=>⟨v,a1,a2,a3,a4,a5⟩
  clear hL;have aR:Hd ({M1 with s:=A3 M1.s dn (1,page,[])} = M2/\M2.g=M1.g):=⟨aM,by rw[<-aM]⟩;clear aM;have aL:w3.heap.size<we.heap.size:=(AA ae)
  go_cut [] from 14 (fun wx=>Hd (AX w1 wx w3.heap.size M2))
  case first=>
   go_wp2_with(go_at_call 129;refine HL.o.mono ?_;rintro e6 w5 ⟨ad,rfl,an,b5,k5,s5⟩;obtain⟨g0,h0,g1,h1,g2,h2,g3,h3,y0,y1,y2,y3⟩:=an.four';have D5:=(k5 w3.heap.size aL ac).trans ae;obtain⟨v0,v1,v2,v3,v4⟩:=five D5;have u0:=Aq D5;unfold AB;rw[y0,y1,y2,y3]);go_meet;have hO:=NU aa ab ax.o.ge ac an b5 k5 s5 (fun x=>by cases x);rw[y0,y1,y2,y3,aR.o.2]at hO;exact hO
  case rest=>
  have aF:Hd (AX w1 wc w3.heap.size M2):=hcut;clear hcut ax HL hX ab ac aa ae x0 x1 x2 x3 d0;obtain⟨wf,bD⟩:∃X,X=wc:=⟨_,rfl⟩;subst bD;go_upto_region 22 with fail
  go_cut [] from 14 (fun wx=>Hd (AX w1 wx w3.heap.size M3))
  case first=>
   obtain⟨val,hX,ab,ac⟩:=aF.o.ex;have aa:=aF.o.bel;obtain⟨p0,q0,p1,q1,p2,q2,p3,q3,x0,x1,x2,x3⟩:=hX.four';have ae:=ab;rw[x0,x1,x2,x3]at ae;have d0:=five ae;have hsl:M2.s=A3 M1.s dn (1,page,[]):=by rw[<-aR.o.1]
   have au:tn<M2.s.length:=by rw[hsl];exact HE.o.2.2.1
   have aB:M2.s.getD tn default=(2,⟨#[]⟩,Ak m (n/4)):=by rw[hsl];exact HE.o.2.2.2.1
   have ar:CN M2 tn=Ak m (n/4):=by show (M2.s.getD tn default).2.2=_;rw[aB]
   have bl:CN M2 tn≠[]:=fun x=>by have:=HP.o.2.2.2.2.2.1;rw[<-ar,x]at this;cases this
   obtain⟨ao,cap,xs,hg⟩:=hX.forms .s (Ad.s _);obtain⟨sg,rfl⟩:=hg (by show 0<M2.s.length;omega);rw[x1]at xs;simp only[BP]at xs;obtain⟨rfl,_,_⟩:=xs;have af:=hX.row .s (Ad.s _);rw[x1]at af;have af:wf.ownsRow w1.heap.size 85 3 (lZ sg M2.s.length q1) M2.s.length (A2 M2.s (fun j=>val (.tab j))):=af;have hrt:=hX.row (.tab tn) (Ad.tab ⟨au,bl⟩);have hrt:wf.ownsRow w1.heap.size 3 1 (val (.tab tn)) (CN M2 tn).length (Ae (CN M2 tn)):=hrt;rw[ar,HP.o.2.2.2.2.2.1]at hrt;obtain⟨tg,tc,xt⟩:=Eo hrt;rw[xt]at hrt;have bk:=(af.cellAt (tn*3+2) oM).trans (D3 au).2.2;have bk:wf.cell? (aD sg (tn*3+2))=some (lZ tg 4 tc):=bk.trans (congrArg some xt);obtain⟨xo,bp⟩:=nM ((Ak m (n/4)).getD (n%4) 0);have bN:wf.cell? (aD tg (n%4))=some (iI xo):=by
    refine(hrt.cellAt (n%4) oM).trans ?_;unfold Ae;rw[Dm,Co (by rw[HP.o.2.2.2.2.2.1];exact h4),<-bp];simp[List.getD,HP.o.2.2.2.2.2.1,h4]
   have aN:=hrt.frozenAt (n%4);have bn:(tn:Int)<(M2.s.length:Int):=oM;have bt:Hd (M2.s.getD tn default=(2,⟨#[]⟩,Ak m (n/4))):=aB;clear bp hsl aB ar;go_wp2_with fail;go_meet;have aB:=bt.o;have hO:=df hX aa ab aF.o.ge ac au bl xt (n%4) (dn:Int);rw[aB]at hO;have e3 : {M2 with s:=M2.s.set tn (2,⟨#[]⟩,(Ak m (n/4)).set (n%4) (dn:Int))} = M3:=by
    rw[<-aR.o.1]
    show {M1 with s:=(A3 M1.s dn (1,page,[])).set tn (2,⟨#[]⟩,(Ak m (n/4)).set (n%4) (dn:Int))} = M3
    rw[HE.o.2.2.2.2];exact bg.o.1
   rw[<-e3];exact hO
  case rest=>
  have bd:Hd (AX w1 wc w3.heap.size M3):=hcut;clear hcut aF;obtain⟨wg,bE⟩:∃X,X=wc:=⟨_,rfl⟩;subst bE;obtain⟨val,hX,ab,ac⟩:=bd.o.ex;have aa:=bd.o.bel;obtain⟨p0,q0,p1,q1,p2,q2,p3,q3,x0,x1,x2,x3⟩:=hX.four';have ae:=ab;rw[x0,x1,x2,x3]at ae;have d0:=five ae;have z9:=Ag n1 aa aE;have z0:=five z9;have y0:=Aq z9;have ba:¬w3.heap.size=w.heap.size+1:=oM;have bc:¬w.heap.size+1=w3.heap.size:=oM;have hc:=KC hX aa.size bg.o.2;unfold AB at hc;rw[x0,x1,x2,x3]at hc;have br:Hd (Cl 127 #[.agg (aI M3 p0 q0 p1 q1 p2 q2 p3 q3)] wg fun r w'=>∃ad,r=.returned (AB M3.g ad)/\OX w' w1.heap.size ad (At M3)/\Below w1.heap.size wg w'/\BC wg w' M3 val/\DB wg M3 val (nl) (At M3) ad):=hc;have bF:w.heap.size+1<wg.heap.size:=AO aE aa.size;have aN:∀a,Ad M3 a->(val a).ownBlock≠some (w.heap.size+1):=fun a ha x=>by have:=((hX.row a ha).lt _ x).1;omega
  clear hc;go_wp2_with(go_at_call 127;refine br.o.mono ?_;rintro e7 w7 ⟨val2,rfl,aT,b7,k7,s7⟩;obtain⟨u0,v0,u1,v1,u2,v2,u3,v3,j0,j1,j2,j3⟩:=aT.four';have bq:=(k7 (w.heap.size+1) bF aN).trans z9;have o0:=five bq;have bU:=Aq bq;unfold AB;rw[j0,j1,j2,j3]);have aW:∀a,Ad (At M3) a->(val2 a).ownBlock≠some (w.heap.size+1):=fun a ha x=>by
   have:=((aT.row a ha).lt _ x).1;omega
  have hI:=fun x0 x1 x2 x3 x4=>aT.five aW x0 x1 x2 x3 x4
  have eI:AB (At M3).g val2=.agg #[iI M3.g,.slice u0 (At M3).r.length v0,.slice u1 (At M3).s.length v1,.slice u2 (At M3).f.length v2,.slice u3 (At M3).p.length v3]:=by unfold AB;rw[j0,j1,j2,j3];rfl
  have bu:Bw w w7:=(Below.on bw aa).trans (b7.mono oM);refine AY (v:=.tuple #[.agg #[iI M3.g,.slice u0 (At M3).r.length v0,.slice u1 (At M3).s.length v1,.slice u2 (At M3).f.length v2,.slice u3 (At M3).p.length v3],iI 0]) (by simp[results,results71,go_sem,o0]) rfl ⟨u0,v0,u1,v1,u2,v2,u3,v3,rfl,fun W' hW=>(by have:=((hI _ _ _ _ _).keep (fun q hq _=>hW q oM)).img;rw[eI]at this;exact this),CP bu (Cw _) _ _ _ _ _⟩

theorem jZ (ra:Option Addr)(rc:Nat)(sa:Option Addr)(sc:Nat)(fa:Option Addr)(fc:Nat)(na:Option Addr)(nc:Nat)(m:Ac)(n:Int)(page:ByteArray)(w:World)(h:Al w (.agg (aI m ra rc sa sc fa fc na nc)) m)(E:Int)(hE:Br m n=E)(hne:(E != 0)=true):Cl 71 #[.agg (aI m ra rc sa sc fa fc na nc),iI n,.string page] w (Cp w AZ E):=by
 let V:=(w.alloc (cA m ra rc sa sc fa fc na nc))
 have b0:Bw w (V.alloc zI):=(Av).alloc (by simp[V]) _;have m0:(V.alloc zI).heap[w.heap.size]?=some (cA m ra rc sa sc fa fc na nc):=Aj (Aw _ _) _;have m1:(V.alloc zI).heap[w.heap.size+1]?=some zI:=AR (by simp[V]);have hsz:w.heap.size+1<(V.alloc zI).heap.size:=by simp[V]
 have c0:=five m0;have hlk:=Jk (h.below b0) n hE;clear h hE;dsimp only[V]at *;clear V
 go_enter func71,ntmps71
 go_wp2_with(go_at_call 33;refine hlk.mono ?_;rintro e1 w1 ⟨rfl,b1⟩;have n0:=Ag m0 b1 oM;have n1:=Ag m1 b1 hsz;have d0:=five n0;have z0:=five n1;have y0:=Aq n1);refine AY (v:=.tuple #[.agg #[iI 0,nl,nl,nl,nl],iI E]) (by simp[results,results71,go_sem,z0]) rfl ⟨none,0,none,0,none,0,none,0,rfl,fun W' _=>FK W',CP (Below.on b0 b1) (Cw _) _ _ _ _ _⟩
theorem j5 (ra:Option Addr)(rc:Nat)(sa:Option Addr)(sc:Nat)(fa:Option Addr)(fc:Nat)(na:Option Addr)(nc:Nat)(m:Ac)(n:Int)(page:ByteArray)(w:World)(h:Al w (.agg (aI m ra rc sa sc fa fc na nc)) m)(hE:Br m n=0)(hne:((page.size:Int) != 4)=true):Cl 71 #[.agg (aI m ra rc sa sc fa fc na nc),iI n,.string page] w (Cp w AZ 1):=by
 let V:=(w.alloc (cA m ra rc sa sc fa fc na nc))
 have b0:Bw w (V.alloc zI):=(Av).alloc (by simp[V]) _;have m0:(V.alloc zI).heap[w.heap.size]?=some (cA m ra rc sa sc fa fc na nc):=Aj (Aw _ _) _;have m1:(V.alloc zI).heap[w.heap.size+1]?=some zI:=AR (by simp[V]);have hsz:w.heap.size+1<(V.alloc zI).heap.size:=by simp[V]
 have c0:=five m0;have hlk:=Jk (h.below b0) n hE;clear h hE;dsimp only[V]at *;clear V
 go_enter func71,ntmps71
 go_wp2_with(go_at_call 33;refine hlk.mono ?_;rintro e1 w1 ⟨rfl,b1⟩;have n0:=Ag m0 b1 oM;have n1:=Ag m1 b1 hsz;have d0:=five n0;have z0:=five n1;have y0:=Aq n1);refine AY (v:=.tuple #[.agg #[iI 0,nl,nl,nl,nl],iI 1]) (by simp[results,results71,go_sem,z0]) rfl ⟨none,0,none,0,none,0,none,0,rfl,fun W' _=>FK W',CP (Below.on b0 b1) (Cw _) _ _ _ _ _⟩
theorem j6 (h:Al w v m)(hC:Ao m=0){n:Nat}(hn:(n:Int)<m.g){page:ByteArray}(hp:page.size=4):Cl 71 #[v,iI (n:Int),.string page] w (Cp w ((Ec m n page).getD AZ) (Ev (Ec m n page))):=by
 have h':=h;obtain⟨ra,rc,sa,sc,fa,fc,na,nc,rfl,_⟩:=h.parts;have hs:=A0 hC;have an:=Dg hs;have hrt:=CQ hs;have hr:n/4<m.r.length:=oM;have ah:=A4 (Au hs).2.1;have hrf:m.f.length=m.s.length:=(Au hs).2.2.1;obtain⟨ao,cap,ev,_,_,ab⟩:=h'.four.1;obtain⟨rb,ro,rfl,hrl,hrc⟩:=ab (by intro x;rw[x]at hr;simp at hr);simp only[BP]at ev;obtain⟨rfl,_,rfl⟩:=ev;obtain⟨ao,cap,ev,_,_,ab⟩:=h'.four.2.2.1;obtain⟨fb,fo,rfl,ae,ad⟩:=ab (by intro x;rw[x]at hrf;simp at hrf;omega);simp only[BP]at ev;obtain⟨rfl,_,rfl⟩:=ev;obtain⟨t,ht,hT⟩:=Uy hC hr;have ap:=Th hC hr;have av:=iH hC hr;obtain⟨e,he⟩:=nM (Be m m.r n);have hlk:=Tk hC hr;rw[he]at hlk;have hpos:0<e->1<=t:=fun x=>by
  rcases Eg t with h0|h0
  ·exfalso
   unfold Be at he;rw[ht,h0,Ab (show ((0:Nat):Int)=0 from rfl)]at he;omega
  ·exact h0
 by_cases hi:Fw m n=true
 ·have e1:Ec m n page=some {m with s:=m.s.set e.toNat (1,page,[])}:=by unfold Ec;rw[Ab hi,he]
  rw[e1];have ag:=hi;unfold Fw at ag;rw[he]at ag;simp only[B5,C4,DH]at ag;obtain⟨p0,al,am⟩:=ag;rcases hlk with x|⟨en,aj,ai,hke,_⟩
  ·omega
  ·have aa:=al;unfold Cq at aa;rw[ht,A5]at aa;simp only[B5,Iu,DH]at aa;have af:e.toNat=en:=oM;exact Lm rb ro _ sa sc fb fo _ na nc m n page w h' hrc hrl ad ae hC hn hp t ht e he _ _ (.inl ⟨⟨en,ai,aj⟩,(by rw[af];exact GC (by rw[hke];decide)),aa.2,am,(by rw[af];exact hke),(by rw[af];exact Vd (Au hs).2.1 hke),rfl,rfl⟩)
 ·by_cases hin:Cq m (n/4)=true
  ·have aa:=hin;unfold Cq at aa;rw[ht,A5]at aa;simp only[B5,Iu,DH]at aa;have t1:1<=t:=oM;have ac:AM m (n/4)=t:=by unfold AM;rw[Ab hin,ht];simp
   have au:t<m.s.length:=by obtain⟨t',ar,h'⟩:=Js hs hr;omega
   have h40:AM m (n/4)≠40:=by rw[ac];omega
   obtain⟨f1,f2,f3,f4,f5⟩:=Ri hC hn h40;have hnot:0<e->e.toNat<m.s.length/\m.f.getD e.toNat 0≠1:=fun x=>by
    rcases hlk with y|⟨en,aj,ai,hke,_⟩
    ·omega
    ·have af:e.toNat=en:=oM;refine⟨by rw[af];exact GC (by rw[hke];decide),fun y=>hi ?_⟩;unfold Fw;rw[he,hin,y];simp;omega
   by_cases hd:wD m n=40
   ·have e1:Ec m n page=none:=by unfold Ec;rw[Aa hi,Aa h40,Ab hd]
    rw[e1];exact Lm rb ro _ sa sc fb fo _ na nc m n page w h' hrc hrl ad ae hC hn hp t ht e he _ _ (.inr ⟨false,_,0,_,⟨rfl,ac⟩,.inr ⟨rfl,t1,aa.2,hnot,hin,rfl,⟨f1,f2,Ab hd⟩,.inl ⟨rfl,rfl,rfl⟩⟩⟩)
   ·have e1:Ec m n page=some (At {EV m n with s:=wL m n page}):=by unfold Ec;rw[Aa hi,Aa h40,Aa hd];rfl
    rw[e1];have hE:=Vt hC hn h40 hd hp;rw[ac]at hE;exact Lm rb ro _ sa sc fb fo _ na nc m n page w h' hrc hrl ad ae hC hn hp t ht e he _ _ (.inr ⟨false,_,_,_,⟨rfl,ac⟩,.inr ⟨rfl,t1,aa.2,hnot,hin,rfl,⟨f1,f2,Aa hd⟩,.inr ⟨_,_,rfl,hE,⟨rfl,Vs hC hn h40 hd hp⟩,rfl,rfl⟩⟩⟩)
  ·have ac:AM m (n/4)=AK m.s:=by unfold AM;rw[Aa hin]
   have hmany:1<=t->1<m.f.getD t 0:=fun t1=>by
    rcases hT with x|⟨_,_,hc,aq⟩
    ·omega
    ·have:¬m.f.getD t 0=1:=fun x=>hin (by
      unfold Cq;rw[ht,A5,x];simp;omega)
     omega
   by_cases h40:AM m (n/4)=40
   ·have e1:Ec m n page=none:=by unfold Ec;rw[Aa hi,Ab h40]
    rw[e1];exact Lm rb ro _ sa sc fb fo _ na nc m n page w h' hrc hrl ad ae hC hn hp t ht e he _ _ (.inr ⟨true,_,0,_,⟨rfl,rfl⟩,.inl ⟨rfl,hpos,hmany,.inl ⟨(by rw[<-ac];exact h40),rfl,rfl⟩⟩⟩)
   ·obtain⟨f1,f2,f3,f4,f5⟩:=Ri hC hn h40;obtain⟨_,tl,ak,_,_⟩:=Ju hC hr h40
    by_cases hd:wD m n=40
    ·have e1:Ec m n page=none:=by unfold Ec;rw[Aa hi,Aa h40,Ab hd]
     rw[e1];exact Lm rb ro _ sa sc fb fo _ na nc m n page w h' hrc hrl ad ae hC hn hp t ht e he _ _ (.inr ⟨true,_,0,_,⟨rfl,rfl⟩,.inl ⟨rfl,hpos,hmany,.inr ⟨⟨ac.symm,ah.1,ah.2,ak,f4,tl⟩,⟨f1,f2,Ab hd⟩,.inl ⟨rfl,rfl,rfl⟩⟩⟩⟩)
    ·have e1:Ec m n page=some (At {EV m n with s:=wL m n page}):=by unfold Ec;rw[Aa hi,Aa h40,Aa hd];rfl
     rw[e1];exact Lm rb ro _ sa sc fb fo _ na nc m n page w h' hrc hrl ad ae hC hn hp t ht e he _ _ (.inr ⟨true,_,_,_,⟨rfl,rfl⟩,.inl ⟨rfl,hpos,hmany,.inr ⟨⟨ac.symm,ah.1,ah.2,ak,f4,tl⟩,⟨f1,f2,Aa hd⟩,.inr ⟨_,_,rfl,Vt hC hn h40 hd hp,⟨rfl,Vs hC hn h40 hd hp⟩,rfl,rfl⟩⟩⟩⟩)
theorem kh (h:Al w v m)(n:Int)(page:ByteArray)(hM:Jy m n page=M)(hE:IQ m n page=E):Cl 71 #[v,iI n,.string page] w (Cp w M E):=by
 have h':=h;obtain⟨ra,rc,sa,sc,fa,fc,na,nc,rfl,_⟩:=h.parts;subst hM hE;unfold Jy IQ
 by_cases hl:Br m n=0
 ·have hne:¬Br m n≠0:=by simpa using hl
  rw[Aa hne,Aa hne]
  by_cases hp:page.size=4
  ·rw[Ab hp,Ab hp];obtain⟨hC,n0,hn⟩:=Ge hl;obtain⟨k,rfl⟩:=FV n0;exact j6 h' hC hn hp
  ·rw[Aa hp,Aa hp];exact j5 ra rc sa sc fa fc na nc m n page w h' hl (by simp;omega)
 ·rw[Ab hl,Ab hl];exact jZ ra rc sa sc fa fc na nc m n page w h' _ rfl (by simpa using hl)

def Mh (W:World) (D:Nat):Nat:=match W.cell? (aD D 1) with|some (.slice _ n _)=>n|_=>0
theorem Uq {n c:Nat}{a:Option Addr}{x3 x4:Value}{T:TypeId}(h:W.heap[D]?=some (.cells #[x0,.slice a n c,x2,x3,x4] T)):Mh W D=n:=by
 unfold Mh;rw[(five h).2.1]
theorem AX.below {V X':World}{p:Ac}(h:AX V X D p)(hb:Bw X X'):AX V X' D p:=by
 obtain⟨val,h1,h2,h3⟩:=h.ex;exact⟨⟨val,h1.below hb,Ag h2 hb (AA h2),h3⟩,h.ge,h.bel.trans (hb.mono h.bel.size)⟩
theorem TE {V:World}(hX:OX X V.heap.size val m)(hbel:Bw V X)(hbox:X.heap[D]?=some (.cells #[iI m.g,val .r,val .s,val .f,val .p] 33))(hge:V.heap.size<=D)(hfar:∀a,Ad m a->(val a).ownBlock≠some D)(g:Int):AX V (X.setCell (aZ D) (iI g)) D {m with g:=g}:=by
 have h1:OX (X.setCell (aZ D) (iI g)) V.heap.size val m:=hX.far hfar;exact⟨⟨val,⟨h1.row,h1.apart,h1.loose⟩,Bf hbox 0 _,hfar⟩,hge,hbel.setCell (p:=(aZ D)) hge _⟩

theorem QD (ra:Option Addr)(rc:Nat)(sa:Option Addr)(sc:Nat)(fa:Option Addr)(fc:Nat)(na:Option Addr)(nc:Nat)(m:Ac)(g:Nat)(w:World)(h:Al w (.agg (aI m ra rc sa sc fa fc na nc)) m)(hC:Ao m=0)(hg:g<=16)(Mc MG MR:Ac)(HMG:Hd ({Mc with g:=(g:Int)} = MG/\Dl Mc g=MR))(HSh:Hd (As {MR with f:=BX MR.s} = 0))(hway:Hd (((g%4=0\/m.r.length<=g/4)/\m=Mc)\/((∃ (rb ro t:Nat),ra=some (aD rb ro)/\(∀j,j<m.r.length->w.cell? (aD rb (ro+j))=some (iI (m.r.getD j 0)))/\rb<w.heap.size/\(g%4≠0/\g/4<m.r.length)/\(m.r.getD (g/4) 0=(t:Int)/\t<m.s.length/\(Ak m (g/4)).length=4)/\(Bp (Ak m (g/4))=0/\(AU (Ak m (g/4)) (g%4)).length=4))/\(AU (Ak m (g/4)) (g%4))=Ak m (g/4)/\m=Mc)\/((∃ (rb ro t:Nat),ra=some (aD rb ro)/\(∀j,j<m.r.length->w.cell? (aD rb (ro+j))=some (iI (m.r.getD j 0)))/\rb<w.heap.size/\(g%4≠0/\g/4<m.r.length)/\(m.r.getD (g/4) 0=(t:Int)/\t<m.s.length/\(Ak m (g/4)).length=4)/\(Bp (Ak m (g/4))=0/\(AU (Ak m (g/4)) (g%4)).length=4))/\(AU (Ak m (g/4)) (g%4))≠Ak m (g/4)/\(m.f.length=m.s.length/\m.s.length<=40)/\¬(BE (AU (Ak m (g/4)) (g%4))=false/\AM m (g/4)=40)/\CM m (g/4) (AU (Ak m (g/4)) (g%4))=Mc/\Mc.g=m.g))):Cl 72 #[.agg (aI m ra rc sa sc fa fc na nc),iI (g:Int)] w (Cp w (At MR) 0):=by
 let U:=((w.alloc (cA m ra rc sa sc fa fc na nc)).alloc zI)
 have b0:Bw w U:=(Av).alloc (by simp[U]) _;have m0:U.heap[w.heap.size]?=some (cA m ra rc sa sc fa fc na nc):=Aj (Aw _ _) _;have m1:U.heap[w.heap.size+1]?=some zI:=AR (by simp[U]);have hsz:w.heap.size+1<U.heap.size:=by simp[U]
 have hs:=A0 hC;have I0:=h.below b0;have bh:=F9 I0 hC;have hd:decide (0<=(g:Int)/\(g:Int)<=16)=true:=by simp[U];omega
 have e4:((g/4:Nat):Int)=(g:Int)/4:=oM;have e5:((g%4:Nat):Int)=(g:Int)%4:=oM;have bS:((g:Int)/4).toNat=g/4:=oM;have bQ:¬(g:Int)/4<0:=oM;have bP:0<=(g:Int)/4:=oM;have aY:Hd (∀W,Below U.heap.size U W->Cl 126 #[.agg (aI m ra rc sa sc fa fc na nc)] W fun r w'=>∃val,r=.returned (AB m.g val)/\OX w' W.heap.size val m/\Bw W w'):=fun W hW=>J6 (I0.below hW) hs
 have aW:Hd (Al U (.agg (aI m ra rc sa sc fa fc na nc)) m):=I0;have HP:Hd (Ao m=0/\As m=0/\g<=16):=⟨hC,hs,hg⟩;clear h hC hs I0;dsimp only[U]at *;clear U
 go_enter func72,ntmps72
 have c0:=five m0;go_upto_region 8 with(first
  | (go_at_call 126;refine(aY.o w1 b1).mono ?_;rintro e3 w3 ⟨val,rfl,hO,b3⟩;obtain⟨p0,q0,p1,q1,p2,q2,p3,q3,x0,x1,x2,x3⟩:=hO.four';unfold AB;rw[x0,x1,x2,x3])
  | (go_at_call 65;refine(Dy _ _ _ _).mono ?_;rintro e2 w' ⟨rfl,hw⟩;rw[hw,hd];clear hw)
  | (go_at_call 66;refine bh.mono ?_;rintro e1 w1 ⟨rfl,b1⟩;have n0:=Ag m0 b1 oM;have d0:=five n0))
 clear c0;clear d0;have bj:w.heap.size+1<w1.heap.size:=AO hsz b1.size;have n1:=Ag m1 b1 hsz;have bw:Bw w w1:=Below.on b0 b1;have I1:=aW.o.below b1;have s3:=b3.size;have ay:Hd (AX w1 (w3.alloc (cA m p0 q0 p1 q1 p2 q2 p3 q3)) w3.heap.size m):=⟨⟨val,hO.alloc _,by rw[x0,x1,x2,x3];exact Aw _ _,hO.lt lE⟩,oM,b3.alloc oM _⟩;clear hO x0 x1 x2 x3 b0 m0 m1 bh aY aW hsz b1 b3;have M0:=Ag n0 ay.o.bel oM;have c0:=five M0;have bR:w1.heap.size<=w3.heap.size:=ay.o.ge;obtain⟨bb,hbb⟩:∃b,b=decide (g%4≠0/\g/4<m.r.length):=⟨_,rfl⟩;have am:Hd (bb=decide (g%4≠0/\g/4<m.r.length)):=hbb;clear hbb
 go_cut [36] from 13 (fun s wx=>s=.bool bb/\Hd (AX w1 wx w3.heap.size m))
 case first=>
  by_cases hgo:g%4≠0/\g/4<m.r.length
  ·have e1:bb=true:=by rw[am.o];exact C3 hgo
   subst e1;clear am;have g1:((g:Int)%4 != 0)=true:=by have:=hgo.1;simp;omega
   have g2:decide ((g:Int)/4<(m.r.length:Int))=true:=by have:=hgo.2;simp;omega
   go_wp2_with fail;go_meet;exact⟨rfl,ay⟩
  ·have e1:bb=false:=by rw[am.o];exact Dn hgo
   subst e1;clear am;have aM:g%4=0\/m.r.length<=g/4:=oM;rcases aM with aM|aM
   ·have g1:((g:Int)%4 != 0)=false:=by simp;omega
    go_wp2_with fail;go_meet;exact⟨rfl,ay⟩
   ·by_cases h0:g%4=0
    ·have g1:((g:Int)%4 != 0)=false:=by simp;omega
     go_wp2_with fail;go_meet;exact⟨rfl,ay⟩
    ·have g1:((g:Int)%4 != 0)=true:=by simp;omega
     have g2:decide ((g:Int)/4<(m.r.length:Int))=false:=by simp;omega
     go_wp2_with fail;go_meet;exact⟨rfl,ay⟩
 case rest=>
 obtain⟨rfl,ar⟩:=hcut;clear ay M0 c0;obtain⟨wa,bF⟩:∃X,X=wc:=⟨_,rfl⟩;subst bF
 go_upto_if 36 with fail
 go_cut [] from 13 (fun wx=>Hd (AX w1 wx w3.heap.size Mc))
 case first=>
  rcases hway.o with⟨aM,hMc⟩|⟨⟨rb,ro,t,hra,hrc,hrl,hgo,hT,hK'⟩,hSm,hMc⟩|⟨⟨rb,ro,t,hra,hrc,hrl,hgo,hT,hK'⟩,hNe,hRf,hFu,hTM,hTg⟩
  ·have e1:bb=false:=by rw[am.o];exact Dn oM
   subst e1;subst hMc;go_wp2_with fail;go_meet;exact ar
  ·subst hra;have e1:bb=true:=by rw[am.o];exact C3 hgo
   subst e1;have HT:Hd (m.r.getD (g/4) 0=(t:Int)/\t<m.s.length/\(Ak m (g/4)).length=4):=hT;have HK:Hd (Bp (Ak m (g/4))=0/\(AU (Ak m (g/4)) (g%4)).length=4):=hK';have aH:rb<w1.heap.size:=AO hrl bw.size;have cR:w1.cell? (aD rb (ro+g/4))=some (iI (t:Int)):=by rw[<-hT.1];exact(bw.cell (p:=(aD rb (ro+g/4))) hrl).trans (hrc (g/4) hgo.2)
   clear hway hrc hrl hT hK' am;have bt:Hd ((AU (Ak m (g/4)) (g%4))=Ak m (g/4)):=hSm;subst hMc;clear hSm;obtain⟨val,a6,af,ab⟩:=ar.o.ex;have aa:=ar.o.bel;obtain⟨p0,q0,p1,q1,p2,q2,p3,q3,x0,x1,x2,x3⟩:=a6.four';have al:=af;rw[x0,x1,x2,x3]at al
   skip
   have MX:=Ag n0 aa oM;have az:=(aa.cell (p:=(aD rb (ro+g/4))) aH).trans cR;have bE:(g:Int)/4<(m.r.length:Int):=by have:=hgo.2;omega
   have a8:Hd (∀W,Bw w1 W->Cl 130 #[.agg (aI m (sD rb ro) rc sa sc fa fc na nc),iI (t:Int)] W fun r w'=>∃g' cap,r=.returned (lZ g' 4 cap)/\w'.ownsRow W.heap.size 3 1 (lZ g' 4 cap) 4 (Ae (Ak m (g/4)))/\W.heap.size<=g'/\Bw W w'):=fun W hW=>by
    have e:=Mr HT.o.1;refine(Mv (I1.below hW) HT.o.2.1 (by rw[e,HT.o.2.2];decide)).mono ?_;rintro r w' ⟨v,rfl,h1,h2,h3⟩;rw[e,HT.o.2.2]at h1;obtain⟨g',cap,rfl⟩:=Eo h1;exact⟨g',cap,rfl,h1,h2 g' rfl,h3⟩
   go_upto_region 9 with fail;refine BT (S:=(fun X:World=>X.heap[w.heap.size]?=some (cA m (sD rb ro) rc sa sc fa fc na nc)/\X.cell? (aD rb (ro+g/4))=some (iI (t:Int)))) kR ⟨MX,az⟩ (fun hHeld=>?_);refine BD 0 (.agg (aI m (sD rb ro) rc sa sc fa fc na nc)) ?_;refine BD 1 (pQ w.heap.size 1) ?_;refine BD 2 (lD rb ro m.r.length rc) ?_;refine BD 3 (iI ((g:Int)/4)) ?_;refine BD 4 (pQ rb (ro+g/4)) ?_;refine BD 5 (iI (t:Int)) ?_;simp only[lays];refine AC 6 rfl (fun K hK=>?_);clear hHeld;simp only[lays];rw[Ab (by rfl)];go_wp2_with(go_at_call 130;refine(a8.o _ (Cg aa)).mono ?_;rintro bu w4 ⟨tg,tc,rfl,aG,aR,b4⟩);have b4:Bw wa w4:=BR b4;have sA:=aa.size;have s4:=b4.size;have aB:=Ag MX b4 oM;have aC:=(b4.cell (p:=(aD rb (ro+g/4))) (AO aH sA)).trans az;refine hK.out _ _ ⟨aB,aC⟩ (fun hHeld=>?_);clear hK K;try simp only[lays]
   refine Ar 7 (lZ tg 4 tc) ?_;simp only[lays];clear hHeld;refine BQ kR ?_ _;have ai:Sl w4 (lZ tg 4 tc) (Ak m (g/4)):=CY (show w4.ownsRow _ 3 1 _ (Ak m (g/4)).length _ from by rw[HT.o.2.2];exact aG);have hcc:=Ps _ _ (g%4) _ ai HK.o.1 oM;rw[e5]at hcc;have an:Hd (OX wa w1.heap.size val m/\wa.heap[w3.heap.size]?=some (.cells #[iI m.g,val .r,val .s,val .f,val .p] 33)/\(∀a,Ad m a->(val a).ownBlock≠some w3.heap.size)/\Bw w1 wa/\Bw wa w4):=⟨a6,af,ab,aa,b4⟩;have ao:Hd (val .r=.slice p0 m.r.length q0/\val .s=.slice p1 m.s.length q1/\val .f=.slice p2 m.f.length q2/\val .p=.slice p3 m.p.length q3):=⟨x0,x1,x2,x3⟩;clear a6 af al ab aa x0 x1 x2 x3 MX az aB aC a8 aG aR b4;go_wp2_with(first|(go_at_call 132;refine(gM ap (by rw[bt.o];exact aq)).mono ?_;rintro e6 w6 ⟨rfl,b6⟩)|(go_at_call 131;refine hcc.mono ?_;rintro bv w5 ⟨cg,cc,rfl,a7,b5⟩;have ap:Sl w5 (lZ cg 4 cc) (AU (Ak m (g/4)) (g%4)):=CY (show w5.ownsRow _ 3 1 _ (AU (Ak m (g/4)) (g%4)).length _ from by rw[HK.o.2];exact a7);have aq:=ai.below b5));have aO:Hd (AX w1 w6 w3.heap.size m):=AX.below (AX.below (AX.below ar.o an.o.2.2.2.2) b5) b6;go_meet;exact aO
  ·subst hra;have e1:bb=true:=by rw[am.o];exact C3 hgo
   subst e1;have HT:Hd (m.r.getD (g/4) 0=(t:Int)/\t<m.s.length/\(Ak m (g/4)).length=4):=hT;have HK:Hd (Bp (Ak m (g/4))=0/\(AU (Ak m (g/4)) (g%4)).length=4):=hK';have aH:rb<w1.heap.size:=AO hrl bw.size;have cR:w1.cell? (aD rb (ro+g/4))=some (iI (t:Int)):=by rw[<-hT.1];exact(bw.cell (p:=(aD rb (ro+g/4))) hrl).trans (hrc (g/4) hgo.2)
   clear hway hrc hrl hT hK' am;have bs:Hd ((AU (Ak m (g/4)) (g%4))≠Ak m (g/4)):=hNe;have ba:Hd (m.f.length=m.s.length/\m.s.length<=40):=hRf;have bq:Hd (¬(BE (AU (Ak m (g/4)) (g%4))=false/\AM m (g/4)=40)):=hFu;have bc:Hd (CM m (g/4) (AU (Ak m (g/4)) (g%4))=Mc/\Mc.g=m.g):=⟨hTM,hTg⟩;clear hNe hRf hFu hTM hTg;obtain⟨val,a6,af,ab⟩:=ar.o.ex;have aa:=ar.o.bel;obtain⟨p0,q0,p1,q1,p2,q2,p3,q3,x0,x1,x2,x3⟩:=a6.four';have al:=af;rw[x0,x1,x2,x3]at al
   skip
   have MX:=Ag n0 aa oM;have az:=(aa.cell (p:=(aD rb (ro+g/4))) aH).trans cR;have bE:(g:Int)/4<(m.r.length:Int):=by have:=hgo.2;omega
   have a8:Hd (∀W,Bw w1 W->Cl 130 #[.agg (aI m (sD rb ro) rc sa sc fa fc na nc),iI (t:Int)] W fun r w'=>∃g' cap,r=.returned (lZ g' 4 cap)/\w'.ownsRow W.heap.size 3 1 (lZ g' 4 cap) 4 (Ae (Ak m (g/4)))/\W.heap.size<=g'/\Bw W w'):=fun W hW=>by
    have e:=Mr HT.o.1;refine(Mv (I1.below hW) HT.o.2.1 (by rw[e,HT.o.2.2];decide)).mono ?_;rintro r w' ⟨v,rfl,h1,h2,h3⟩;rw[e,HT.o.2.2]at h1;obtain⟨g',cap,rfl⟩:=Eo h1;exact⟨g',cap,rfl,h1,h2 g' rfl,h3⟩
   go_upto_region 9 with fail;refine BT (S:=(fun X:World=>X.heap[w.heap.size]?=some (cA m (sD rb ro) rc sa sc fa fc na nc)/\X.cell? (aD rb (ro+g/4))=some (iI (t:Int)))) kR ⟨MX,az⟩ (fun hHeld=>?_);refine BD 0 (.agg (aI m (sD rb ro) rc sa sc fa fc na nc)) ?_;refine BD 1 (pQ w.heap.size 1) ?_;refine BD 2 (lD rb ro m.r.length rc) ?_;refine BD 3 (iI ((g:Int)/4)) ?_;refine BD 4 (pQ rb (ro+g/4)) ?_;refine BD 5 (iI (t:Int)) ?_;simp only[lays];refine AC 6 rfl (fun K hK=>?_);clear hHeld;simp only[lays];rw[Ab (by rfl)];go_wp2_with(go_at_call 130;refine(a8.o _ (Cg aa)).mono ?_;rintro bu w4 ⟨tg,tc,rfl,aG,aR,b4⟩);have b4:Bw wa w4:=BR b4;have sA:=aa.size;have s4:=b4.size;have aB:=Ag MX b4 oM;have aC:=(b4.cell (p:=(aD rb (ro+g/4))) (AO aH sA)).trans az;refine hK.out _ _ ⟨aB,aC⟩ (fun hHeld=>?_);clear hK K;try simp only[lays]
   refine Ar 7 (lZ tg 4 tc) ?_;simp only[lays];clear hHeld;refine BQ kR ?_ _;have ai:Sl w4 (lZ tg 4 tc) (Ak m (g/4)):=CY (show w4.ownsRow _ 3 1 _ (Ak m (g/4)).length _ from by rw[HT.o.2.2];exact aG);have hcc:=Ps _ _ (g%4) _ ai HK.o.1 oM;rw[e5]at hcc;have an:Hd (OX wa w1.heap.size val m/\wa.heap[w3.heap.size]?=some (.cells #[iI m.g,val .r,val .s,val .f,val .p] 33)/\(∀a,Ad m a->(val a).ownBlock≠some w3.heap.size)/\Bw w1 wa/\Bw wa w4):=⟨a6,af,ab,aa,b4⟩;have ao:Hd (val .r=.slice p0 m.r.length q0/\val .s=.slice p1 m.s.length q1/\val .f=.slice p2 m.f.length q2/\val .p=.slice p3 m.p.length q3):=⟨x0,x1,x2,x3⟩;clear a6 af al ab aa x0 x1 x2 x3 MX az aB aC a8 aG aR b4;go_upto_region 13 with(first|(go_at_call 132;refine(UN ap aq (by rw[HK.o.2,HT.o.2.2]) bs.o).mono ?_;rintro e6 w6 ⟨rfl,b6⟩)|(go_at_call 131;refine hcc.mono ?_;rintro bv w5 ⟨cg,cc,rfl,a7,b5⟩;have ap:Sl w5 (lZ cg 4 cc) (AU (Ak m (g/4)) (g%4)):=CY (show w5.ownsRow _ 3 1 _ (AU (Ak m (g/4)) (g%4)).length _ from by rw[HK.o.2];exact a7);have aq:=ai.below b5));have s5:=b5.size;have s6:=b6.size;have aK:Bw wa w6:=((an.o.2.2.2.2).trans (b5.mono s4)).trans (b6.mono oM);have av:OX w6 w1.heap.size val m:=an.o.1.below aK;have bf:w3.heap.size<wa.heap.size:=(B6.1 an.o.2.1).1;have ak:=Ag an.o.2.1 aK bf;have aw:Bw w1 w6:=an.o.2.2.2.1.trans (aK.mono sA);have bA:w4.heap.size<=cg:=(a7.lt cg rfl).1;have ax:w6.ownsRow w1.heap.size 3 1 (lZ cg 4 cc) (AU (Ak m (g/4)) (g%4)).length (Ae (AU (Ak m (g/4)) (g%4))):=by
    rw[HK.o.2];exact CL (CX a7 (fun q e=>b6.block q (by have:=(a7.lt q e).2;omega))) oM
   have ae:=ak;rw[ao.o.1,ao.o.2.1,ao.o.2.2.1,ao.o.2.2.2]at ae;have d0:=five ae;have be:=Aq ae;have br:Hd (Cl 133 #[.agg (aI m p0 q0 p1 q1 p2 q2 p3 q3),iI ((g:Int)/4),lZ cg 4 cc] w6 (fun r w'=>∃ah,r=.returned (.tuple #[AB m.g ah,.bool true])/\OX w' w1.heap.size ah Mc/\Below w1.heap.size w6 w'/\BC w6 w' m val/\DB w6 m val (lZ cg 4 cc) Mc ah)):=by
    have hc:=Ok m.g (k:=g/4) av oM hgo.2 HT.o.1 HT.o.2.1 ax (fun a b hb _ q hq x=>by have h1:=((an.o.1.row b hb).lt q x).2;have hq:cg=q:=BJ hq;omega) ba.o.1 ba.o.2;rw[e4]at hc;unfold AB at hc;rw[ao.o.1,ao.o.2.1,ao.o.2.2.1,ao.o.2.2.2]at hc;exact hc.mono (fun r w' hh=>by rw[bc.o.1]at hh;rcases hh with⟨h1,h2,_⟩|⟨_,hok⟩;(exact absurd ⟨h1,h2⟩ bq.o);exact hok)
   have aA:Hd (Bw w1 w6/\w6.heap[w3.heap.size]?=some (.cells #[iI m.g,val .r,val .s,val .f,val .p] 33)/\w3.heap.size<w6.heap.size/\w6.heap[w3.heap.size]?=some (cA m p0 q0 p1 q1 p2 q2 p3 q3)/\wa.heap.size<=cg):=⟨aw,ak,oM,ae,oM⟩;clear ae ak aw av ax a7 b5 b6 aK ap aq ai;go_wp2_with(go_at_call 133;refine br.o.mono ?_;rintro e7 w7 ⟨ah,rfl,bg,b7,k7,s7⟩;obtain⟨u0,v0,u1,v1,u2,v2,u3,v3,y0,y1,y2,y3⟩:=bg.four';have bl:=(k7 w3.heap.size aA.o.2.2.1 an.o.2.2.1).trans aA.o.2.2.2.1;have k0:=five bl;have bO:=Aq bl;unfold AB;rw[y0,y1,y2,y3]);have aO:Hd (AX w1 (((((w7.setCell (aZ w3.heap.size) (iI m.g)).setCell (aD w3.heap.size 1) (.slice u0 Mc.r.length v0)).setCell (aD w3.heap.size 2) (.slice u1 Mc.s.length v1)).setCell (aD w3.heap.size 3) (.slice u2 Mc.f.length v2)).setCell (aD w3.heap.size 4) (.slice u3 Mc.p.length v3)) w3.heap.size Mc):=by
    have hO:=NU aA.o.1 aA.o.2.1 ar.o.ge an.o.2.2.1 bg b7 k7 s7 (fun x=>by have hx:cg=w3.heap.size:=BJ x;have:=aA.o.2.2.2.2;omega);rw[y0,y1,y2,y3,bc.o.2]at hO;exact hO
   go_meet;exact aO
 case rest=>
 have aN:Hd (AX w1 wc w3.heap.size Mc):=hcut;clear hcut ar hway am;obtain⟨wb,bG⟩:∃X,X=wc:=⟨_,rfl⟩;subst bG;go_upto_region 16 with fail
 go_cut [] from 13 (fun wx=>Hd (AX w1 wx w3.heap.size MG))
 case first=>
  obtain⟨val,hX,ad,ab⟩:=aN.o.ex;have ac:=aN.o.bel;obtain⟨p0,q0,p1,q1,p2,q2,p3,q3,x0,x1,x2,x3⟩:=hX.four';have ae:=ad;rw[x0,x1,x2,x3]at ae;have d0:=five ae;have be:=Aq ae;go_wp2_with fail;go_meet;rw[<-HMG.o.1];exact TE hX ac ad aN.o.ge ab (g:Int)
 case rest=>
 have bp:Hd (AX w1 wc w3.heap.size MG):=hcut;clear hcut;obtain⟨wf,bK⟩:∃X,X=wc:=⟨_,rfl⟩;subst bK;have aT:(((g+3)/4:Nat):Int)=((g:Int)+3)/4:=oM;obtain⟨wn,aU⟩:∃x:Nat,(g+3)/4=x:=⟨_,rfl⟩;rw[aU]at aT;have bd:Hd ((g+3)/4=wn/\wn<=4):=⟨aU,by have:=HP.o.2.2;omega⟩;have aJ:Hd (∀W,Cl 24 #[iI (g:Int)] W fun r w'=>r=.returned (iI (wn:Int))/\w'=W):=fun W=>by
  have:=Oo (g:Int) W (by have:=HP.o.2.2;omega);rw[<-aT]at this;exact this
 clear aU aT;go_wp2_with fail
 go_loopw [] (fun wr=>∃j:Nat,Hd (AX w1 wr w3.heap.size {MG with r:=MG.r++List.replicate j 0}/\(j=0\/MG.r.length+j<=wn))) (fun wr=>wn-Mh wr w3.heap.size)
 case atStart=>exact⟨0,⟨by have e : {MG with r:=MG.r++List.replicate 0 0} = MG:=(by simp);rw[e];exact bp.o,.inl rfl⟩⟩
 case round=>
  obtain⟨j,HR⟩:=hrel;obtain⟨X5,b9⟩:∃X,X=wr:=⟨_,rfl⟩;subst b9;obtain⟨MJ,aL⟩:∃X:Ac,{MG with r:=MG.r++List.replicate j 0} = X:=⟨_,rfl⟩;have au:Hd (MJ.r=MG.r++List.replicate j 0/\{MG with r:=MG.r++List.replicate j 0} = MJ/\(j=0\/MG.r.length+j<=wn)):=⟨by rw[<-aL],aL,HR.o.2⟩;have HO:Hd (AX w1 X5 w3.heap.size MJ):=by show AX w1 X5 w3.heap.size MJ;rw[<-aL];exact HR.o.1
  clear HR aL;obtain⟨val,hX,ad,ab⟩:=HO.o.ex;have ac:=HO.o.bel;obtain⟨p0,q0,p1,q1,p2,q2,p3,q3,x0,x1,x2,x3⟩:=hX.four';have ae:=ad;rw[x0,x1,x2,x3]at ae;have hrl:Mh X5 w3.heap.size=MJ.r.length:=Uq ae
  by_cases hlt:MJ.r.length<wn
  ·have aQ:decide ((MJ.r.length:Int)<(wn:Int))=true:=by simp;omega
   go_upto_region 17 with fail;refine BT (S:=(fun X:World=>X.heap[w3.heap.size]?=some (cA MJ p0 q0 p1 q1 p2 q2 p3 q3))) kR ae (fun hHeld=>?_);refine Cs 0 (pQ w3.heap.size 1) ?_;refine Cs 1 (.slice p0 MJ.r.length q0) ?_;refine Cs 2 (iI (MJ.r.length:Int)) ?_;refine Cs 3 (iI (g:Int)) ?_;simp only[lays];refine AC 4 rfl (fun K hK=>?_);clear hHeld;simp only[lays];rw[Ab (by rfl)];go_wp2_with(go_at_call 24;refine(aJ.o _).mono ?_;rintro e9 w9 ⟨rfl,hw⟩;rw[hw];clear hw);refine hK.out _ _ ae (fun hHeld=>?_);clear hK K;try simp only[lays]
   refine Ar 5 (.bool true) ?_;simp only[lays];clear hHeld;refine BQ kR ?_ _;have aj:Hd (AX w1 X5.drew w3.heap.size MJ):=HO.o.drew;clear HO hX ad ab ac x0 x1 x2 x3 ae aQ;obtain⟨X6,av⟩:=nM (X5.drew);rw[av]at aj ⊢;clear av;obtain⟨val,hX,ad,ab⟩:=aj.o.ex;have ac:=aj.o.bel;obtain⟨p0,q0,p1,q1,p2,q2,p3,q3,x0,x1,x2,x3⟩:=hX.four';have aF:=ad;rw[x0,x1,x2,x3]at aF;have ag:=hX.row .r (Ad.r _);rw[x0]at ag;have ag:X6.ownsRow w1.heap.size 3 1 (.slice p0 MJ.r.length q0) MJ.r.length (Ae MJ.r):=ag;have A:Hd (X6.ownsRow w1.heap.size 3 1 (.slice p0 MJ.r.length q0) MJ.r.length (Ae MJ.r)/\MJ.r.length<=1000/\w1.heap.size<=X6.heap.size):=⟨ag,by have:=bd.o.2;omega,ac.size⟩;have bf:w3.heap.size<X6.heap.size:=(AA aF);have HF:Hd (∀a,Ad MJ a->(val a).ownBlock≠some w3.heap.size):=ab;have HX:Hd (OX X6 w1.heap.size val MJ/\X6.heap[w3.heap.size]?=some (.cells #[iI MJ.g,val .r,val .s,val .f,val .p] 33)/\val .r=.slice p0 MJ.r.length q0):=⟨hX,ad,x0⟩;have HB:Hd (Bw w1 X6):=ac;have bn:Hd (X6.heap[w3.heap.size]?=some (cA MJ p0 q0 p1 q1 p2 q2 p3 q3)):=aF;have d0:=five aF;clear hX ad ab x0 x1 x2 x3 ac ag aF;go_wp2_with(at_builtin;refine j7 (B:=w1.heap.size) (n:=MJ.r.length) (v:=.slice p0 MJ.r.length q0) (xs:=MJ.r) rfl _ _ rfl (by rfl) (N:=X6.heap.size) (by rfl) rfl A.o.1 A.o.2.1 A.o.2.2 ?_;intro v' w8 t1 t2 t3;obtain⟨pa,pc,rfl⟩:=B0 t1.o;have kb:w8.heap[w3.heap.size]?=some (cA MJ p0 q0 p1 q1 p2 q2 p3 q3):=(t2.o.block w3.heap.size (by simp;omega) (fun e=>HF.o .r (Ad.r _) (by rw[HX.o.2.2];exact e.symm))).trans (Aj bn.o _);have k0:=five kb;have bO:=Aq kb);have b8:=NV (V:=w1) (W:=w8) (r:=MJ.r++[0]) HX.o.1 HX.o.2.1 aj.o.ge HF.o (by rw[Bl];exact t1.o) (fun q hq hne=>(t2.o.block q (by simp;omega) (fun e=>hne (by rw[HX.o.2.2];exact e.symm))).trans (Ch _ _ q hq)) ((HB.o.alloc A.o.2.2 _).grown t2.o (by simp;have:=A.o.2.2;omega) (fun k e=>by have h:=(HX.o.1.row .r (Ad.r _)).lt k (by rw[HX.o.2.2];exact e);exact h.1)) (by
    rcases t3.o with x|x
    ·left;rw[HX.o.2.2];exact x
    ·right;intro q hq;rw[x]at hq;have:=BJ hq;omega)
   have aS:Mh (w8.setCell (aD w3.heap.size 1) (.slice pa (MJ.r.length+1) pc)) w3.heap.size=MJ.r.length+1:=Uq (Bf kb 1 _);have bD:MG.r.length+(j+1)<=wn:=by have h:=congrArg List.length au.o.1;rw[Bl,He]at h;omega
   have e8 : {MJ with r:=MJ.r++[0]} = {MG with r:=MG.r++List.replicate (j+1) 0}:=by
    rw[au.o.1,Ip,<-List.replicate_succ'];rw[<-au.o.2.1]
   go_roundw
   case rel=>exact⟨j+1,⟨by rw[<-e8];exact b8,.inr bD⟩⟩
   case measure=>rw[aS,hrl];omega
  ·have aQ:decide ((MJ.r.length:Int)<(wn:Int))=false:=by simp;omega
   go_upto_region 17 with fail;refine BT (S:=(fun X:World=>X.heap[w3.heap.size]?=some (cA MJ p0 q0 p1 q1 p2 q2 p3 q3))) kR ae (fun hHeld=>?_);refine Cs 0 (pQ w3.heap.size 1) ?_;refine Cs 1 (.slice p0 MJ.r.length q0) ?_;refine Cs 2 (iI (MJ.r.length:Int)) ?_;refine Cs 3 (iI (g:Int)) ?_;simp only[lays];refine AC 4 rfl (fun K hK=>?_);clear hHeld;simp only[lays];rw[Ab (by rfl)];go_wp2_with(go_at_call 24;refine(aJ.o _).mono ?_;rintro e9 w9 ⟨rfl,hw⟩;rw[hw];clear hw);refine hK.out _ _ ae (fun hHeld=>?_);clear hK K;try simp only[lays]
   refine Ar 5 (.bool false) ?_;simp only[lays];clear hHeld;refine BQ kR ?_ _;have aj:Hd (AX w1 X5.drew w3.heap.size MJ):=HO.o.drew;have aX:Hd ({MJ with r:=MJ.r.take wn} = MR):=by
    show {MJ with r:=MJ.r.take wn} = MR
    rw[<-HMG.o.2];rw[au.o.1,eZ (by have h:=congrArg List.length au.o.1;rw[Bl,He]at h;omega) au.o.2.2,<-au.o.2.1,<-HMG.o.1];unfold Dl;rw[bd.o.1]
   clear HO hX ad ab ac x0 x1 x2 x3 ae hrl aQ au;obtain⟨X6,av⟩:=nM (X5.drew);rw[av]at aj ⊢;clear av;go_upto_region 19 with fail
   go_cut [] from 13 (fun wx=>Hd (AX w1 wx w3.heap.size MR))
   case first=>
    obtain⟨val,hX,ad,ab⟩:=aj.o.ex;have ac:=aj.o.bel;obtain⟨p0,q0,p1,q1,p2,q2,p3,q3,x0,x1,x2,x3⟩:=hX.four';have ae:=ad;rw[x0,x1,x2,x3]at ae;have d0:=five ae;have ag:=hX.row .r (Ad.r _);rw[x0]at ag;have ag:X6.ownsRow w1.heap.size 3 1 (.slice p0 MJ.r.length q0) MJ.r.length (Ae MJ.r):=ag;obtain⟨htk,bT⟩:=gj (k:=wn) ag oM;have bi:wn<=MJ.r.length:=oM;have bH:(wn:Int)<=(q0:Int):=oM;have bJ:¬(q0:Int)<(wn:Int):=oM;have bM:¬(wn:Int)<0:=oM;have aE:X6.drew.heap[w3.heap.size]?=some (cA MJ p0 q0 p1 q1 p2 q2 p3 q3):=ae;have be:=Aq aE;refine BT (S:=(fun X:World=>True)) kR trivial (fun hHeld=>?_);refine Ar 0 (pQ w3.heap.size 1) ?_;refine Ar 2 (iI (g:Int)) ?_;simp only[lays];refine Jo 1 3 rfl rfl (fun K hK=>?_) (fun K hK=>?_)
    ·clear hHeld;simp only[lays];rw[Ab (by rfl)];obtain⟨v0,v1,v2,v3,v4⟩:=five aE;go_simp;refine hK.out _ _ trivial (fun hHeld=>?_);clear hK K;try simp only[lays]
     refine AC 3 rfl (fun K hK=>?_);clear hHeld;simp only[lays];rw[Ab (by rfl)];go_wp2_with(go_at_call 24;refine(aJ.o _).mono ?_;rintro e9 w9 ⟨rfl,hw⟩;rw[hw];clear hw);refine hK.out _ _ trivial (fun hHeld=>?_);clear hK K;try simp only[lays]
     refine Ar 4 (.slice p0 wn q0) ?_;refine Ar 5 (pQ w3.heap.size 1) ?_;simp only[lays];refine AC 6 rfl (fun K hK=>?_);clear hHeld;simp only[lays];rw[Ab (by rfl)];obtain⟨v0,v1,v2,v3,v4⟩:=five aE;go_simp;refine hK.out _ _ trivial (fun hHeld=>?_);clear hK K hHeld;try simp only[lays]
     refine BQ kR ?_ _;go_wp2_with fail;go_meet;rw[<-aX.o];exact NV (V:=w1) (W:=X6.drew) (r:=MJ.r.take wn) (OX.drew hX) ad aj.o.ge ab (by rw[BI,OU bi];exact htk.drew) (fun q hq _=>rfl) (Cg ac) (.inl (by rw[x0];cases p0<;>rfl))
    ·clear hHeld;simp only[lays];rw[Ab (by rfl)];go_wp2_with(go_at_call 24;refine(aJ.o _).mono ?_;rintro e9 w9 ⟨rfl,hw⟩;rw[hw];clear hw);refine hK.out _ _ trivial (fun hHeld=>?_);clear hK K;try simp only[lays]
     refine AC 1 rfl (fun K hK=>?_);clear hHeld;simp only[lays];rw[Ab (by rfl)];obtain⟨v0,v1,v2,v3,v4⟩:=five aE;go_simp;refine hK.out _ _ trivial (fun hHeld=>?_);clear hK K;try simp only[lays]
     refine Ar 4 (.slice p0 wn q0) ?_;refine Ar 5 (pQ w3.heap.size 1) ?_;simp only[lays];refine AC 6 rfl (fun K hK=>?_);clear hHeld;simp only[lays];rw[Ab (by rfl)];obtain⟨v0,v1,v2,v3,v4⟩:=five aE;go_simp;refine hK.out _ _ trivial (fun hHeld=>?_);clear hK K hHeld;try simp only[lays]
     refine BQ kR ?_ _;go_wp2_with fail;go_meet;rw[<-aX.o];exact NV (V:=w1) (W:=X6.drew) (r:=MJ.r.take wn) (OX.drew hX) ad aj.o.ge ab (by rw[BI,OU bi];exact htk.drew) (fun q hq _=>rfl) (Cg ac) (.inl (by rw[x0];cases p0<;>rfl))
   case rest=>
   have aV:Hd (AX w1 wc w3.heap.size MR):=hcut;clear hcut aj;obtain⟨wg,bL⟩:∃X,X=wc:=⟨_,rfl⟩;subst bL;obtain⟨val,hX,ad,ab⟩:=aV.o.ex;have ac:=aV.o.bel;obtain⟨p0,q0,p1,q1,p2,q2,p3,q3,x0,x1,x2,x3⟩:=hX.four';have ae:=ad;rw[x0,x1,x2,x3]at ae;have d0:=five ae;have z9:=Ag n1 ac bj;have z0:=five z9;have y0:=Aq z9;have bU:¬w3.heap.size=w.heap.size+1:=oM;have bV:¬w.heap.size+1=w3.heap.size:=oM;have hc:=KC hX ac.size HSh.o;unfold AB at hc;rw[x0,x1,x2,x3]at hc;have bo:Hd (Cl 127 #[.agg (aI MR p0 q0 p1 q1 p2 q2 p3 q3)] wg fun r w'=>∃ah,r=.returned (AB MR.g ah)/\OX w' w1.heap.size ah (At MR)/\Below w1.heap.size wg w'/\BC wg w' MR val/\DB wg MR val (nl) (At MR) ah):=hc;have bN:w.heap.size+1<wg.heap.size:=AO bj ac.size;have bC:∀a,Ad MR a->(val a).ownBlock≠some (w.heap.size+1):=fun a ha x=>by have:=((hX.row a ha).lt _ x).1;omega
   clear hc;go_wp2_with(go_at_call 127;refine bo.o.mono ?_;rintro e7 w7 ⟨val2,rfl,aP,b7,k7,s7⟩;obtain⟨u0,v0,u1,v1,u2,v2,u3,v3,j0,j1,j2,j3⟩:=aP.four';have bk:=(k7 (w.heap.size+1) bN bC).trans z9;have o0:=five bk;have bW:=Aq bk;unfold AB;rw[j0,j1,j2,j3]);have bB:∀a,Ad (At MR) a->(val2 a).ownBlock≠some (w.heap.size+1):=fun a ha x=>by
    have:=((aP.row a ha).lt _ x).1;omega
   have hI:=fun x0 x1 x2 x3 x4=>aP.five bB x0 x1 x2 x3 x4
   have eI:AB (At MR).g val2=.agg #[iI MR.g,.slice u0 (At MR).r.length v0,.slice u1 (At MR).s.length v1,.slice u2 (At MR).f.length v2,.slice u3 (At MR).p.length v3]:=by unfold AB;rw[j0,j1,j2,j3];rfl
   have bz:Bw w w7:=(Below.on bw ac).trans (b7.mono oM);refine AY (v:=.tuple #[.agg #[iI MR.g,.slice u0 (At MR).r.length v0,.slice u1 (At MR).s.length v1,.slice u2 (At MR).f.length v2,.slice u3 (At MR).p.length v3],iI 0]) (by simp[results,results72,go_sem,o0]) rfl ⟨u0,v0,u1,v1,u2,v2,u3,v3,rfl,fun W' hW=>(by have:=((hI _ _ _ _ _).keep (fun q hq _=>hW q oM)).img;rw[eI]at this;exact this),CP bz (Cw _) _ _ _ _ _⟩

theorem fH (rb ro:Nat)(rc:Nat)(sa:Option Addr)(sc:Nat)(fa:Option Addr)(fc:Nat)(na:Option Addr)(nc:Nat)(m:Ac)(g:Nat)(w:World)(h:Al w (.agg (aI m (sD rb ro) rc sa sc fa fc na nc)) m)(hC:Ao m=0)(hg:g<=16)(hrc:∀j,j<m.r.length->w.cell? (aD rb (ro+j))=some (iI (m.r.getD j 0)))(hrl:rb<w.heap.size)(hgo:g%4≠0/\g/4<m.r.length)(t:Nat)(HT:Hd (m.r.getD (g/4) 0=(t:Int)/\t<m.s.length/\(Ak m (g/4)).length=4))(HK:Hd (Bp (Ak m (g/4))=0/\(AU (Ak m (g/4)) (g%4)).length=4))(HNe:Hd ((AU (Ak m (g/4)) (g%4))≠Ak m (g/4)))(HRf:Hd (m.f.length=m.s.length/\m.s.length<=40))(HFu:Hd (BE (AU (Ak m (g/4)) (g%4))=false/\AM m (g/4)=40)):Cl 72 #[.agg (aI m (sD rb ro) rc sa sc fa fc na nc),iI (g:Int)] w (Cp w AZ 7):=by
 let V:=((w.alloc (cA m (sD rb ro) rc sa sc fa fc na nc)).alloc zI)
 have b0:Bw w V:=(Av).alloc (by simp[V]) _;have m0:V.heap[w.heap.size]?=some (cA m (sD rb ro) rc sa sc fa fc na nc):=Aj (Aw _ _) _;have m1:V.heap[w.heap.size+1]?=some zI:=by have:=C2 (w.alloc (cA m (sD rb ro) rc sa sc fa fc na nc)) zI;simpa[V] using this
 have hsz:w.heap.size+1<V.heap.size:=by simp[V]
 have hs:=A0 hC;have I0:=h.below b0;have aC:=F9 I0 hC;have hd:decide (0<=(g:Int)/\(g:Int)<=16)=true:=by simp[V];omega
 have e4:((g/4:Nat):Int)=(g:Int)/4:=oM;have e5:((g%4:Nat):Int)=(g:Int)%4:=oM;have aX:((g:Int)/4).toNat=g/4:=oM;have aV:¬(g:Int)/4<0:=oM;have aU:0<=(g:Int)/4:=oM;have a6:Hd (∀W,Below V.heap.size V W->Cl 126 #[.agg (aI m (sD rb ro) rc sa sc fa fc na nc)] W fun r w'=>∃val,r=.returned (AB m.g val)/\OX w' W.heap.size val m/\Bw W w'):=fun W hW=>J6 (I0.below hW) hs
 have az:Hd (Al V (.agg (aI m (sD rb ro) rc sa sc fa fc na nc)) m):=I0;have HP:Hd (Ao m=0/\As m=0/\g<=16):=⟨hC,hs,hg⟩;have av:Hd (V.cell? (aD rb (ro+g/4))=some (iI (t:Int))/\rb<V.heap.size):=⟨by rw[<-HT.o.1];exact(b0.cell (p:=(aD rb (ro+g/4))) hrl).trans (hrc (g/4) hgo.2),AO hrl b0.size⟩;clear hrc hrl;clear h hC hs I0;dsimp only[V]at *;clear V
 go_enter func72,ntmps72
 obtain⟨c0,c1,c2,c3,c4⟩:=five m0;go_upto_region 8 with(first
  | (go_at_call 126;refine(a6.o w1 b1).mono ?_;rintro e3 w3 ⟨val,rfl,hO,b3⟩;obtain⟨p0,q0,p1,q1,p2,q2,p3,q3,x0,x1,x2,x3⟩:=hO.four';unfold AB;rw[x0,x1,x2,x3])
  | (go_at_call 65;refine(Dy _ _ _ _).mono ?_;rintro e2 w' ⟨rfl,hw⟩;rw[hw,hd];clear hw)
  | (go_at_call 66;refine aC.mono ?_;rintro e1 w1 ⟨rfl,b1⟩;have n0:=Ag m0 b1 oM;have d0:=five n0))
 clear c0 c1 c2 c3 c4;clear d0;have aF:w.heap.size+1<w1.heap.size:=AO hsz b1.size;have n1:=Ag m1 b1 hsz;have bw:Bw w w1:=Below.on b0 b1;have I1:=az.o.below b1;have s3:=b3.size;have aq:Hd (AX w1 (w3.alloc (cA m p0 q0 p1 q1 p2 q2 p3 q3)) w3.heap.size m):=⟨⟨val,hO.alloc _,by rw[x0,x1,x2,x3];exact Aw _ _,hO.lt lE⟩,oM,b3.alloc oM _⟩;have cR:w1.cell? (aD rb (ro+g/4))=some (iI (t:Int)):=(b1.cell (p:=(aD rb (ro+g/4))) av.o.2).trans av.o.1;have aJ:rb<w1.heap.size:=AO av.o.2 b1.size;clear hO x0 x1 x2 x3 b0 m0 m1 aC a6 az hsz b1 b3;have M0:=Ag n0 aq.o.bel oM;obtain⟨c0,c1,c2,c3,c4⟩:=five M0;have aW:w1.heap.size<=w3.heap.size:=aq.o.ge
 go_cut [36] from 13 (fun s wx=>s=.bool true/\Hd (AX w1 wx w3.heap.size m))
 case first=>
  have g1:((g:Int)%4 != 0)=true:=by have:=hgo.1;simp;omega
  have g2:decide ((g:Int)/4<(m.r.length:Int))=true:=by have:=hgo.2;simp;omega
  go_wp2_with fail;go_meet;exact⟨rfl,aq⟩
 case rest=>
 obtain⟨rfl,ay⟩:=hcut;clear aq M0 c0 c1 c2 c3 c4;obtain⟨wa,aQ⟩:∃X,X=wc:=⟨_,rfl⟩;subst aQ;obtain⟨val,ax,ac,an⟩:=ay.o.ex;have aa:=ay.o.bel;obtain⟨p0,q0,p1,q1,p2,q2,p3,q3,x0,x1,x2,x3⟩:=ax.four';have al:=ac;rw[x0,x1,x2,x3]at al
 skip
 have MX:=Ag n0 aa oM;have aw:=(aa.cell (p:=(aD rb (ro+g/4))) aJ).trans cR;have aY:(g:Int)/4<(m.r.length:Int):=by have:=hgo.2;omega
 have a7:Hd (∀W,Bw w1 W->Cl 130 #[.agg (aI m (sD rb ro) rc sa sc fa fc na nc),iI (t:Int)] W fun r w'=>∃g' cap,r=.returned (lZ g' 4 cap)/\w'.ownsRow W.heap.size 3 1 (lZ g' 4 cap) 4 (Ae (Ak m (g/4)))/\W.heap.size<=g'/\Bw W w'):=fun W hW=>by
  have e:=Mr HT.o.1;refine(Mv (I1.below hW) HT.o.2.1 (by rw[e,HT.o.2.2];decide)).mono ?_;rintro r w' ⟨v,rfl,h1,h2,h3⟩;rw[e,HT.o.2.2]at h1;obtain⟨g',cap,rfl⟩:=Eo h1;exact⟨g',cap,rfl,h1,h2 g' rfl,h3⟩
 go_upto_region 9 with fail;refine BT (S:=(fun X:World=>X.heap[w.heap.size]?=some (cA m (sD rb ro) rc sa sc fa fc na nc)/\X.cell? (aD rb (ro+g/4))=some (iI (t:Int)))) kR ⟨MX,aw⟩ (fun hHeld=>?_);refine BD 0 (.agg (aI m (sD rb ro) rc sa sc fa fc na nc)) ?_;refine BD 1 (pQ w.heap.size 1) ?_;refine BD 2 (lD rb ro m.r.length rc) ?_;refine BD 3 (iI ((g:Int)/4)) ?_;refine BD 4 (pQ rb (ro+g/4)) ?_;refine BD 5 (iI (t:Int)) ?_;simp only[lays];refine AC 6 rfl (fun K hK=>?_);clear hHeld;simp only[lays];rw[Ab (by rfl)];go_wp2_with(go_at_call 130;refine(a7.o _ (Cg aa)).mono ?_;rintro aR w4 ⟨tg,tc,rfl,aE,aP,b4⟩);have b4:Bw wa w4:=BR b4;have sA:=aa.size;have s4:=b4.size;have a8:=Ag MX b4 oM;have aA:=(b4.cell (p:=(aD rb (ro+g/4))) (AO aJ sA)).trans aw;refine hK.out _ _ ⟨a8,aA⟩ (fun hHeld=>?_);clear hK K;try simp only[lays]
 refine Ar 7 (lZ tg 4 tc) ?_;simp only[lays];clear hHeld;refine BQ kR ?_ _;have ah:Sl w4 (lZ tg 4 tc) (Ak m (g/4)):=CY (show w4.ownsRow _ 3 1 _ (Ak m (g/4)).length _ from by rw[HT.o.2.2];exact aE);have hcc:=Ps _ _ (g%4) _ ah HK.o.1 oM;rw[e5]at hcc;have ag:Hd (OX wa w1.heap.size val m/\wa.heap[w3.heap.size]?=some (.cells #[iI m.g,val .r,val .s,val .f,val .p] 33)/\(∀a,Ad m a->(val a).ownBlock≠some w3.heap.size)/\Bw w1 wa/\Bw wa w4):=⟨ax,ac,an,aa,b4⟩;have ad:Hd (val .r=.slice p0 m.r.length q0/\val .s=.slice p1 m.s.length q1/\val .f=.slice p2 m.f.length q2/\val .p=.slice p3 m.p.length q3):=⟨x0,x1,x2,x3⟩;clear ax ac al an aa x0 x1 x2 x3 MX aw a8 aA a7 aE aP b4;go_upto_region 13 with(first|(go_at_call 132;refine(UN ao ap (by rw[HK.o.2,HT.o.2.2]) HNe.o).mono ?_;rintro e6 w6 ⟨rfl,b6⟩)|(go_at_call 131;refine hcc.mono ?_;rintro aS w5 ⟨cg,cc,rfl,am,b5⟩;have ao:Sl w5 (lZ cg 4 cc) (AU (Ak m (g/4)) (g%4)):=CY (show w5.ownsRow _ 3 1 _ (AU (Ak m (g/4)) (g%4)).length _ from by rw[HK.o.2];exact am);have ap:=ah.below b5));have s5:=b5.size;have s6:=b6.size;have ar:Bw wa w6:=((ag.o.2.2.2.2).trans (b5.mono s4)).trans (b6.mono oM);have aB:OX w6 w1.heap.size val m:=ag.o.1.below ar;have aN:w3.heap.size<wa.heap.size:=(B6.1 ag.o.2.1).1;have ae:=Ag ag.o.2.1 ar aN;have ab:Bw w1 w6:=ag.o.2.2.2.1.trans (ar.mono sA);have aO:w4.heap.size<=cg:=(am.lt cg rfl).1;have af:w6.ownsRow w1.heap.size 3 1 (lZ cg 4 cc) (AU (Ak m (g/4)) (g%4)).length (Ae (AU (Ak m (g/4)) (g%4))):=by
  rw[HK.o.2];exact CL (CX am (fun q e=>b6.block q (by have:=(am.lt q e).2;omega))) oM
 have ak:=ae;rw[ad.o.1,ad.o.2.1,ad.o.2.2.1,ad.o.2.2.2]at ak;have d0:=five ak;have aT:=Aq ak;have aK:Hd (Cl 133 #[.agg (aI m p0 q0 p1 q1 p2 q2 p3 q3),iI ((g:Int)/4),lZ cg 4 cc] w6 (fun r w'=>∃g0 a0 b0 c0 a1 b1 c1 a2 b2 c2 a3 b3 c3,r=.returned (.tuple #[.agg (bI g0 a0 b0 c0 a1 b1 c1 a2 b2 c2 a3 b3 c3),.bool false])/\Below w1.heap.size w6 w'/\BC w6 w' m val)):=by
  have hc:=Ok m.g (k:=g/4) aB oM hgo.2 HT.o.1 HT.o.2.1 af (fun a b hb _ q hq x=>by have h1:=((ag.o.1.row b hb).lt q x).2;have hq:cg=q:=BJ hq;omega) HRf.o.1 HRf.o.2;rw[e4]at hc;unfold AB at hc;rw[ad.o.1,ad.o.2.1,ad.o.2.2.1,ad.o.2.2.2]at hc;exact hc.mono (fun r w' hh=>by rcases hh with⟨_,_,⟨v,⟨g0,a0,b0,c0,a1,b1,c1,a2,b2,c2,a3,b3,c3,rfl⟩,rfl⟩,h1,h2⟩|⟨hno,_⟩;(exact⟨g0,a0,b0,c0,a1,b1,c1,a2,b2,c2,a3,b3,c3,rfl,h1,h2⟩);exact absurd HFu.o hno)
 have z6:=Ag n1 ab aF;have bb:¬w3.heap.size=w.heap.size+1:=oM;have bc:¬w.heap.size+1=w3.heap.size:=oM;have aL:Hd (w6.heap[w.heap.size+1]?=some zI):=z6;have au:Hd (w6.heap[w3.heap.size]?=some (cA m p0 q0 p1 q1 p2 q2 p3 q3)):=ak;have aj:Bw w w6:=Below.on bw ab;have ai:Hd (w3.heap.size<w6.heap.size/\w.heap.size+1<w6.heap.size/\w1.heap.size<=w6.heap.size/\Bw w w6):=⟨oM,oM,oM,aj⟩;clear ak ae z6 ab aj aB af am b5 b6 ar ao ap ah;go_wp2_with(go_at_call 133;refine aK.o.mono ?_;rintro e7 w7 ⟨g0,a0,r0,c0,a1,r1,c1,a2,r2,c2,a3,r3,c3,rfl,b7,k7⟩;have aG:=(k7 w3.heap.size ai.o.1 ag.o.2.2.1).trans au.o;have aH:=(b7.block (w.heap.size+1) aF).trans aL.o;have k0:=five aG;have ba:=Aq aG;have z0:=five aH;have y0:=Aq aH);have aM:Bw w w7:=ai.o.2.2.2.trans (b7.mono oM);refine AY (v:=.tuple #[.agg #[iI 0,nl,nl,nl,nl],iI 7]) (by simp[results,results72,go_sem,z0]) rfl ⟨none,0,none,0,none,0,none,0,rfl,fun W' _=>FK W',CP (CP aM (show w.heap.size<=w3.heap.size by omega) _ _ _ _ _) (Cw _) _ _ _ _ _⟩

theorem fJ (ra:Option Addr)(rc:Nat)(sa:Option Addr)(sc:Nat)(fa:Option Addr)(fc:Nat)(na:Option Addr)(nc:Nat)(m:Ac)(g:Int)(w:World)(h:Al w (.agg (aI m ra rc sa sc fa fc na nc)) m)(hE:Ao m=0)(hd:decide (0<=g/\g<=16)=false):Cl 72 #[.agg (aI m ra rc sa sc fa fc na nc),iI g] w (Cp w AZ 3):=by
 let V:=(w.alloc (cA m ra rc sa sc fa fc na nc))
 have b0:Bw w (V.alloc zI):=(Av).alloc (by simp[V]) _;have m0:(V.alloc zI).heap[w.heap.size]?=some (cA m ra rc sa sc fa fc na nc):=Aj (Aw _ _) _;have m1:(V.alloc zI).heap[w.heap.size+1]?=some zI:=AR (by simp[V]);have hsz:w.heap.size+1<(V.alloc zI).heap.size:=by simp[V]
 have c0:=five m0;have aa:=F9 (h.below b0) hE;clear h hE;dsimp only[V]at *;clear V
 go_enter func72,ntmps72
 go_wp2_with(first|(go_at_call 65;refine(Dy _ _ _ _).mono ?_;rintro e2 w' ⟨rfl,hw⟩;rw[hw,hd];clear hw)|(go_at_call 66;refine aa.mono ?_;rintro e1 w1 ⟨rfl,b1⟩;have n0:=Ag m0 b1 oM;have n1:=Ag m1 b1 hsz;have d0:=five n0;have z0:=five n1;have y0:=Aq n1));refine AY (v:=.tuple #[.agg #[iI 0,nl,nl,nl,nl],iI 3]) (by simp[results,results72,go_sem,z0]) rfl ⟨none,0,none,0,none,0,none,0,rfl,fun W' _=>FK W',CP (Below.on b0 b1) (Cw _) _ _ _ _ _⟩
theorem Xd {g:Nat}{es:List Int}(hnf:¬(BE es=false/\AM m k=40)):∃M,DP m k es=some M/\At (Dl M g)=At (Dl (CM m k es) g)/\{Dl M g with f:=BX (Dl M g).s} = {Dl (CM m k es) g with f:=BX (Dl (CM m k es) g).s}:=by
 by_cases hb:BE es=true
 ·refine⟨{m with r:=m.r.set k 0},by unfold DP;rw[Ab hb],?_,?_⟩
  ·have e2:CM m k es = {m with r:=m.r.set k 0}:=by unfold CM;rw[Ab hb]
   rw[e2]
  ·have e2:CM m k es = {m with r:=m.r.set k 0}:=by unfold CM;rw[Ab hb]
   rw[e2]
 ·have aa:BE es=false:=by simpa using hb
  have e2:CM m k es = {m with r:=m.r.set k (AM m k:Int),s:=Bj m k es}:=by unfold CM;rw[Aa hb]
  refine⟨FQ m k (AM m k) (Bj m k es) (BX (Bj m k es)),by unfold DP;rw[Aa hb,Aa (fun x=>hnf ⟨aa,x⟩)],?_,?_⟩
  ·rw[e2];rfl
  ·rw[e2];rfl
theorem fI (h:Al w v m)(hC:Ao m=0){g:Nat}(hg:g<=16):Cl 72 #[v,iI (g:Int)] w (Cp w ((E8 m g).getD AZ) (Ev (E8 m g))):=by
 have h':=h;obtain⟨ra,rc,sa,sc,fa,fc,na,nc,rfl,_⟩:=h.parts;have hs:=A0 hC;have hrf:m.f.length=m.s.length:=(Au hs).2.2.1;have ac:=A4 (Au hs).2.1
 by_cases hgo:g%4≠0/\g/4<m.r.length
 ·have hr:=hgo.2;obtain⟨ao,cap,ev,_,_,aa⟩:=h'.four.1;obtain⟨rb,ro,rfl,hrl,hrc⟩:=aa (by intro x;rw[x]at hr;simp at hr);simp only[BP]at ev;obtain⟨rfl,_,rfl⟩:=ev;obtain⟨t,ht,ah⟩:=Js hs hr;obtain⟨ad,ai⟩:=ET hs hr;have hlen:=Dv ad;have HT:Hd (m.r.getD (g/4) 0=(t:Int)/\t<m.s.length/\(Ak m (g/4)).length=4):=⟨ht,ah,hlen⟩;have HK:Hd (Bp (Ak m (g/4))=0/\(AU (Ak m (g/4)) (g%4)).length=4):=⟨ad,Pu hlen oM⟩
  by_cases hsm:(AU (Ak m (g/4)) (g%4))=Ak m (g/4)
  ·have e1:EM m g=some m:=by unfold EM;rw[Aa (fun x=>x.2.2 hsm)]
   have e2:E8 m g=some (At (Dl m g)):=by unfold E8;rw[e1];rfl
   rw[e2];exact QD _ _ sa sc fa fc na nc m g w h' hC hg m _ _ ⟨rfl,rfl⟩ (Kb (J7 hC hg e1)) (.inr (.inl ⟨⟨rb,ro,t,rfl,hrc,hrl,hgo,HT,HK⟩,hsm,rfl⟩))
  ·have e1:EM m g=DP m (g/4) (AU (Ak m (g/4)) (g%4)):=by unfold EM;rw[Ab ⟨hgo.1,hgo.2,hsm⟩]
   by_cases hf:(BE (AU (Ak m (g/4)) (g%4))=false/\AM m (g/4)=40)
   ·have e2:E8 m g=none:=by unfold E8;rw[e1];unfold DP;rw[Aa (by rw[hf.1];decide),Ab hf.2];rfl
    rw[e2];exact fH rb ro _ sa sc fa fc na nc m g w h' hC hg hrc hrl hgo t HT HK hsm ⟨hrf,ac.2⟩ hf
   ·obtain⟨M,hM,ae,af⟩:=Xd (m:=m) (k:=g/4) (g:=g) (es:=(AU (Ak m (g/4)) (g%4))) hf;have e2:E8 m g=some (At (Dl (CM m (g/4) (AU (Ak m (g/4)) (g%4))) g)):=by unfold E8;rw[e1,hM,It,ae]
    rw[e2];have ab:=Kb (J7 hC hg (e1.trans hM));rw[af]at ab;exact QD _ _ sa sc fa fc na nc m g w h' hC hg _ _ _ ⟨rfl,rfl⟩ ab (.inr (.inr ⟨⟨rb,ro,t,rfl,hrc,hrl,hgo,HT,HK⟩,hsm,⟨hrf,ac.2⟩,hf,rfl,Ve _ _ _⟩))
 ·have e1:EM m g=some m:=by unfold EM;rw[Aa (fun x=>hgo ⟨x.1,x.2.1⟩)]
  have e2:E8 m g=some (At (Dl m g)):=by unfold E8;rw[e1];rfl
  rw[e2];have ag:g%4=0\/m.r.length<=g/4:=by
   by_cases x:g%4=0
   ·exact .inl x
   ·exact .inr (by have:¬g/4<m.r.length:=fun y=>hgo ⟨x,y⟩;omega)
  exact QD ra rc sa sc fa fc na nc m g w h' hC hg m _ _ ⟨rfl,rfl⟩ (Kb (J7 hC hg e1)) (.inl ⟨ag,rfl⟩)
theorem fe (h:Al w v m)(hR:Ao m=0)(g:Int)(hM:Gn m g=M)(hE:Ft m g=E):Cl 72 #[v,iI g] w (Cp w M E):=by
 have h':=h;obtain⟨ra,rc,sa,sc,fa,fc,na,nc,rfl,_⟩:=h.parts;subst hM hE;unfold Gn Ft
 by_cases hC:Ao m=0
 ·have hne:¬Ao m≠0:=by simpa using hC
  rw[Aa hne,Aa hne]
  by_cases hr:0<=g/\g<=16
  ·rw[Ab hr,Ab hr];obtain⟨k,rfl⟩:=FV hr.1;exact fI h' hC oM
  ·rw[Aa hr,Aa hr];exact fJ ra rc sa sc fa fc na nc m g w h' hC (by simpa using hr)
 ·exact absurd hR hC
end Go.Proofs.YtfciijncfbepjaaGreatDoor
