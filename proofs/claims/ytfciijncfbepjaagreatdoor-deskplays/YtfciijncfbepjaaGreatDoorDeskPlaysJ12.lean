/- Texts joined: NoT, NoC, NoR, NoD, DkY, DkV, DkU, DkT. -/
import Derived.Test.YtfciijncfbepjaaGreatDoorDeskPlaysJ8
import Derived.Test.YtfciijncfbepjaaGreatDoorDeskPlaysJ2
import Derived.Test.YtfciijncfbepjaaGreatDoorDeskPlaysJ9
import Derived.Test.YtfciijncfbepjaaGreatDoorDeskPlaysJ6
import Derived.Test.YtfciijncfbepjaaGreatDoorDeskPlaysJ11
import Derived.Test.YtfciijncfbepjaaGreatDoorDeskPlaysJ5
import Derived.Test.YtfciijncfbepjaaGreatDoorDeskPlaysJ3
import Derived.Test.YtfciijncfbepjaaGreatDoorDeskPlaysJ10
set_option linter.unusedVariables false
set_option linter.unusedSimpArgs false
set_option maxHeartbeats 200000000
set_option maxRecDepth 20000
namespace Go.Proofs.YtfciijncfbepjaaGreatDoor
open Go.Proofs.Tryz
variable {M m:Ac}{D k:Nat}{a:Nm}{val:Nm->Value}{v:Value}{V X w:World}{s:ByteArray}{E:Int}{l:List UInt8}
open Go.RowKit Go.Shelf
theorem JS (hk:k<m.p.length)(h:Ad (Dk m k) a):Ad m (Ci k a):=by
 have he:(m.p.eraseIdx k).length=m.p.length-1:=by rw[MO,Ab hk]
 rcases h with⟨h1,h2⟩|⟨h1,h2⟩|⟨h1,h2⟩
 ·have:a.kind≠5:=oM;unfold Ci;rw[Aa this];exact .inl ⟨h1,h2⟩
 ·have:a.kind≠5:=oM;unfold Ci;rw[Aa this];exact .inr (.inl ⟨h1,h2⟩)
 ·unfold Ci;rw[Ab h1];have h2:a.ix<(m.p.eraseIdx k).length:=h2;exact Ad.sr (by unfold skip;split<;>omega)
theorem KW (h:Ad m a)(e:a.kind=3):a=.p:=GD h.live e
theorem OX.del {W W':World}{B:Nat}(h:OX W B val m)(hk:k<m.p.length)(hv:W'.ownsRow B 87 3 v (m.p.length-1) ((A8 m.p (fun j=>val (.sr j))).take (k*3)++(A8 m.p (fun j=>val (.sr j))).drop ((k+1)*3)))(hg:W.grownBy W' (val .p).ownBlock)(hb:v.ownBlock=(val .p).ownBlock):OX W' B (GW val v k) (Dk m k):=by
 refine⟨fun a ha=>?_,fun a b ha hb2 hab g hga=>?_,fun j hj he=>h.loose j hj he⟩
 ·by_cases e:a.kind=3
  ·have ea:=KW ha e;subst ea;rw[<-Ss hk]at hv;have hl:(Dk m k).p.length=m.p.length-1:=by show (m.p.eraseIdx k).length=_;rw[MO,Ab hk]
   show W'.ownsRow B 87 3 v (Dk m k).p.length (A8 (m.p.eraseIdx k) (fun j=>val (.sr (skip k j))))
   rw[hl];exact hv
  ·have hr:=h.row (Ci k a) (JS hk ha);have hne:(val (Ci k a)).ownBlock=none\/(val (Ci k a)).ownBlock≠(val .p).ownBlock:=by
    cases eq:(val (Ci k a)).ownBlock with
    | none=>exact .inl rfl
    | some g=>exact .inr (fun x=>h.apart (Ci k a) .p (JS hk ha) (Ad.p m) (fun y=>e (by rw[<-Gs k a,y])) g eq x.symm)
   have hr:=hr.kept hg hne;rw[Hq e];have e1:En (Ci k a)=En a:=by unfold En;rw[Gs]
   have e2:Em (Ci k a)=Em a:=by unfold Em;rw[Gs]
   rw[e1,e2]at hr;rcases ha.cases with rfl|rfl|rfl|rfl|⟨j,rfl,hj,_⟩|⟨j,rfl,hj⟩
   ·exact hr
   ·exact hr
   ·exact hr
   ·exact absurd rfl e
   ·exact hr
   ·have e3:AP (Dk m k) (.sr j)=AP m (Ci k (.sr j)):=by
     show ((m.p.eraseIdx k).getD j default).2.2.length=(m.p.getD (skip k j) default).2.2.length
     rw[LU]
    have e4:Bn (Dk m k) (GW val v k) (.sr j)=Bn m val (Ci k (.sr j)):=by
     show Ae ((m.p.eraseIdx k).getD j default).2.2=Ae (m.p.getD (skip k j) default).2.2
     rw[LU]
    rw[e3,e4];exact hr
 ·by_cases ea:a.kind=3
  ·have aa:=KW ha ea;have eb:b.kind≠3:=fun x=>hab (aa.trans (KW hb2 x).symm)
   subst aa;rw[Hq eb];exact h.apart .p (Ci k b) (Ad.p m) (JS hk hb2) (fun y=>eb (by rw[<-Gs k b,<-y])) g (hb.symm.trans hga)
  ·rw[Hq ea]at hga
   by_cases eb:b.kind=3
   ·have ab:=KW hb2 eb;subst ab;intro x;exact h.apart (Ci k a) .p (JS hk ha) (Ad.p m) (fun y=>ea (by rw[<-Gs k a,y])) g hga (hb.symm.trans x)
   ·rw[Hq eb];exact h.apart _ _ (JS hk ha) (JS hk hb2) (Se hab) g hga
theorem c7 {W':World}(hX:OX X V.heap.size val m)(hbel:Bw V X)(hbox:X.heap[D]?=some (.cells #[iI m.g,val .r,val .s,val .f,val .p] 33))(hge:V.heap.size<=D)(hfar:∀a,Ad m a->(val a).ownBlock≠some D)(hk:k<m.p.length)(hv:W'.ownsRow V.heap.size 87 3 v (m.p.length-1) ((A8 m.p (fun j=>val (.sr j))).take (k*3)++(A8 m.p (fun j=>val (.sr j))).drop ((k+1)*3)))(hg:X.grownBy W' (val .p).ownBlock)(hb:v.ownBlock=(val .p).ownBlock):AX V (W'.setCell (aD D 4) v) D (Dk m k):=by
 have aa:=(AA hbox);have hf:∀a,Ad (Dk m k) a->(GW val v k a).ownBlock≠some D:=fun a ha=>by
  by_cases e:a.kind=3
  ·have ea:=KW ha e;subst ea
   show v.ownBlock≠some D
   rw[hb];exact hfar .p (Ad.p m)
  ·rw[Hq e];exact hfar _ (JS hk ha)
 have hO:=hX.del hk hv hg hb;have ab:Below V.heap.size X W':=IV Eu hg hbel.size (fun q e=>((hX.row .p (Ad.p m)).lt q e).1);have ac:=(hg.block D aa (fun e=>hfar .p (Ad.p m) e.symm)).trans hbox;exact⟨⟨_,hO.far hf,Bf ac 4 v,hf⟩,hge,(hbel.trans ab).setCell (p:=(aD D 4)) hge _⟩
def Fc (k:Nat) (a:Nm):Nm:=if a.kind=5/\a.ix=k then .sr (k+1) else if a.kind=5/\a.ix=k+1 then .sr k else a
theorem QZ (k:Nat)(a:Nm):(Fc k a).kind=a.kind:=by
 unfold Fc
 split
 ·rename_i e;rw[e.1]
 ·split
  ·rename_i e;rw[e.1]
  ·rfl
theorem Q0 (h:a.kind≠5):Fc k a=a:=by unfold Fc;rw[Aa (fun e=>h e.1),Aa (fun e=>h e.1)]
theorem U9 (k:Nat)(a:Nm):Fc k (Fc k a)=a:=by
 obtain⟨x,i⟩:=a;unfold Fc
 by_cases h1:x=5
 ·subst h1
  by_cases h2:i=k
  ·subst h2;simp
  ·by_cases h3:i=k+1
   ·subst h3;simp
   ·simp[h2,h3]
 ·simp[h1]
def ES (k j:Nat):Nat:=if j=k then k+1 else if j=k+1 then k else j
theorem Og (k j:Nat):Fc k (.sr j)=.sr (ES k j):=by
 unfold Fc ES
 by_cases h1:j=k
 ·rw[Ab ⟨rfl,h1⟩,Ab h1]
 ·rw[Aa (fun e=>h1 e.2),Aa h1]
  by_cases h2:j=k+1
  ·rw[Ab ⟨rfl,h2⟩,Ab h2]
  ·rw[Aa (fun e=>h2 e.2),Aa h2]
def IM (val:Nm->Value) (k:Nat):Nm->Value:=fun a=>val (Fc k a)
theorem PS {S:List AE}{s:AE}(hk:k<S.length)(j:Nat):(CC k S s).getD j default=(CC (k+1) S s).getD (ES k j) default:=by
 rw[Gc s oM,Gc s oM];unfold ES Fa
 by_cases h1:j=k
 ·rw[Ab h1,Ab h1,Ab rfl]
 ·rw[Aa h1,Aa h1]
  by_cases h2:j=k+1
  ·rw[Ab h2,Aa oM,Aa oM,Ab oM];congr 1;omega
  ·rw[Aa h2,Aa h2]
   by_cases h3:j<k
   ·rw[Ab h3,Ab oM]
   ·rw[Aa h3,Aa oM]
theorem iK {j n:Nat}(hk:k+1<n)(hj:j<n):ES k j<n:=by unfold ES;split<;>(try split)<;>omega
theorem NO {s:AE}(hk:k<m.p.length)(h:Ad (Bq m k s) a):Ad (Bq m (k+1) s) (Fc k a):=by
 have e1:(Bq m k s).p.length=m.p.length+1:=GZ s oM;have e2:(Bq m (k+1) s).p.length=m.p.length+1:=GZ s oM;rcases h with⟨h1,h2⟩|⟨h1,h2⟩|⟨h1,h2⟩
 ·rw[Q0 oM];exact .inl ⟨h1,h2⟩
 ·rw[Q0 oM];exact .inr (.inl ⟨h1,h2⟩)
 ·obtain⟨x,i⟩:=a;dsimp only at h1 h2;subst h1;rw[show (⟨5,i⟩:Nm)=.sr i from rfl,Og];exact Ad.sr (by rw[e2];exact iK oM oM)
theorem X7 {S:List AE}{s:AE}(hk:k<S.length)(qv:Nat->Value):A8 (CC k S s) (fun j=>qv (ES k j))=((((((A8 (CC (k+1) S s) qv).set (k*3) (.string s.1)).set (k*3+1) (iI s.2.1)).set (k*3+2) (qv (k+1))).set ((k+1)*3) (.string (S.getD k default).1)).set ((k+1)*3+1) (iI (S.getD k default).2.1)).set ((k+1)*3+2) (qv k):=by
 have l1:=GZ (S:=S) (k:=k) s oM;have l2:=GZ (S:=S) (k:=k+1) s oM;have hL:=GX (CC (k+1) S s) qv;refine Nl (n:=S.length+1) (by rw[GX,l1]) (by simp only[Bi];rw[hL,l2]) fun q hq=>?_
 obtain⟨a,b,c⟩:=Ew (S:=CC k S s) (qv:=fun j=>qv (ES k j)) (j:=q) oM;rw[a,b,c,PS hk];simp only[List.getElem?_set,Bi,hL,l2]
 by_cases h1:q=k
 ·subst h1;have e:(CC (q+1) S s).getD (q+1) default=s:=by rw[Gc s oM,Ab rfl]
  have es:ES q q=q+1:=by unfold ES;rw[Ab rfl]
  rw[es,e];refine⟨?_,?_,?_⟩
  ·rw[Aa oM,Aa oM,Aa oM,Aa oM,Aa oM,Ab rfl,Ab oM]
  ·rw[Aa oM,Aa oM,Aa oM,Aa oM,Ab rfl,Ab oM]
  ·rw[Aa oM,Aa oM,Aa oM,Ab rfl,Ab oM]
 ·by_cases h2:q=k+1
  ·subst h2;have e:(CC (k+1) S s).getD k default=S.getD k default:=by rw[Gc s oM,Aa oM];unfold Fa;rw[Ab oM]
   have es:ES k (k+1)=k:=by unfold ES;rw[Aa oM,Ab rfl]
   rw[es,e];refine⟨?_,?_,?_⟩
   ·rw[Aa oM,Aa oM,Ab rfl,Ab oM]
   ·rw[Aa oM,Ab rfl,Ab oM]
   ·rw[Ab rfl,Ab oM]
  ·have es:ES k q=q:=by unfold ES;rw[Aa h1,Aa h2]
   obtain⟨a',b',c'⟩:=Ew (S:=CC (k+1) S s) (qv:=qv) (j:=q) oM;rw[es];refine⟨?_,?_,?_⟩
   ·rw[Aa oM,Aa oM,Aa oM,Aa oM,Aa oM,Aa oM,a']
   ·rw[Aa oM,Aa oM,Aa oM,Aa oM,Aa oM,Aa oM,b']
   ·rw[Aa oM,Aa oM,Aa oM,Aa oM,Aa oM,Aa oM,c']
theorem de {g cap:Nat}{s:AE}(hk:k<m.p.length)(hX:OX X V.heap.size val (Bq m (k+1) s))(hbel:Bw V X)(hbox:X.heap[D]?=some (.cells #[iI m.g,val .r,val .s,val .f,val .p] 33))(hge:V.heap.size<=D)(hfar:∀a,Ad (Bq m (k+1) s) a->(val a).ownBlock≠some D)(hv:val .p=lZ g (m.p.length+1) cap):AX V ((((((X.setCell (aD g (k*3)) (.string s.1)).setCell (aD g (k*3+1)) (iI s.2.1)).setCell (aD g (k*3+2)) (val (.sr (k+1)))).setCell (aD g ((k+1)*3)) (.string (m.p.getD k default).1)).setCell (aD g ((k+1)*3+1)) (iI (m.p.getD k default).2.1)).setCell (aD g ((k+1)*3+2)) (val (.sr k))) D (Bq m k s):=by
 have ac:X.ownsRow V.heap.size 87 3 (val .p) (Bq m (k+1) s).p.length (A8 (Bq m (k+1) s).p (fun j=>val (.sr j))):=hX.row .p (Ad.p _);have l1:(Bq m k s).p.length=m.p.length+1:=GZ s oM;have l2:(Bq m (k+1) s).p.length=m.p.length+1:=GZ s oM;rw[l2,hv]at ac;have ad:V.heap.size<=g:=(Gm ac).1;have ah:D≠g:=fun e=>hfar .p (Ad.p _) (by rw[hv,e];rfl)
 have aa:∀ (W:World) (i:Nat) (u:Value) (q:Nat),q≠g->(W.setCell (aD g i) u).heap[q]?=W.heap[q]?:=fun W i u q hq=>AN W (aD g i) u q hq
 have h6:=(((((((ac.stored (k*3) (.string s.1)).1).stored (k*3+1) (iI s.2.1)).1).stored (k*3+2) (val (.sr (k+1)))).1).stored ((k+1)*3) (.string (m.p.getD k default).1)).1;have h6:=(h6.stored ((k+1)*3+1) (iI (m.p.getD k default).2.1)).1;have h6:=(h6.stored ((k+1)*3+2) (val (.sr k))).1;have af:∀a,Ad (Bq m (k+1) s) a->a.kind≠3->∀q,(val a).ownBlock=some q->q≠g:=fun a ha e q hq x=>hX.apart a .p ha (Ad.p _) (fun y=>e (by rw[y])) q hq (by rw[hv,x];rfl)
 have ab:∀q,q≠g->((((((X.setCell (aD g (k*3)) (.string s.1)).setCell (aD g (k*3+1)) (iI s.2.1)).setCell (aD g (k*3+2)) (val (.sr (k+1)))).setCell (aD g ((k+1)*3)) (.string (m.p.getD k default).1)).setCell (aD g ((k+1)*3+1)) (iI (m.p.getD k default).2.1)).setCell (aD g ((k+1)*3+2)) (val (.sr k))).heap[q]?=X.heap[q]?:=fun q hq=>by
  rw[aa _ _ _ q hq,aa _ _ _ q hq,aa _ _ _ q hq,aa _ _ _ q hq,aa _ _ _ q hq,aa _ _ _ q hq]
 have ae:∀a:Nm,a.kind≠5->IM val k a=val a:=fun a ha=>by unfold IM;rw[Q0 ha]
 have ag:(fun j=>IM val k (.sr j))=fun j=>(fun i=>val (.sr i)) (ES k j):=by funext j;show val (Fc k (.sr j))=_;rw[Og]
 have hO:OX ((((((X.setCell (aD g (k*3)) (.string s.1)).setCell (aD g (k*3+1)) (iI s.2.1)).setCell (aD g (k*3+2)) (val (.sr (k+1)))).setCell (aD g ((k+1)*3)) (.string (m.p.getD k default).1)).setCell (aD g ((k+1)*3+1)) (iI (m.p.getD k default).2.1)).setCell (aD g ((k+1)*3+2)) (val (.sr k))) V.heap.size (IM val k) (Bq m k s):=by
  refine⟨fun a ha=>?_,fun a b ha hb hab q hq=>?_,fun j hj he=>hX.loose j hj he⟩
  ·by_cases e:a.kind=3
   ·have ea:=KW ha e;subst ea
    show World.ownsRow _ V.heap.size 87 3 (IM val k .p) (Bq m k s).p.length (A8 (CC k m.p s) (fun j=>IM val k (.sr j)))
    rw[ag,X7 hk (fun i=>val (.sr i)),l1,ae .p dE,hv];exact h6
   ·have hl:=NO hk ha;have hr:=hX.row _ hl;have hr:=CX hr (fun q hq=>ab q (af _ hl (by rw[QZ];exact e) q hq));have e1:En (Fc k a)=En a:=by unfold En;rw[QZ]
    have e2:Em (Fc k a)=Em a:=by unfold Em;rw[QZ]
    rw[e1,e2]at hr;rcases ha.cases with rfl|rfl|rfl|rfl|⟨j,rfl,hj,_⟩|⟨j,rfl,hj⟩
    ·exact hr
    ·exact hr
    ·exact hr
    ·exact absurd rfl e
    ·exact hr
    ·have e3:AP (Bq m k s) (.sr j)=AP (Bq m (k+1) s) (Fc k (.sr j)):=by
      rw[Og]
      show ((CC k m.p s).getD j default).2.2.length=((CC (k+1) m.p s).getD (ES k j) default).2.2.length
      rw[PS hk]
     have e4:Bn (Bq m k s) (IM val k) (.sr j)=Bn (Bq m (k+1) s) val (Fc k (.sr j)):=by
      rw[Og]
      show Ae ((CC k m.p s).getD j default).2.2=Ae ((CC (k+1) m.p s).getD (ES k j) default).2.2
      rw[PS hk]
     rw[e3,e4];exact hr
  ·exact hX.apart _ _ (NO hk ha) (NO hk hb) (fun e=>hab (by rw[<-U9 k a,e,U9])) q hq
 have hf:∀a,Ad (Bq m k s) a->(IM val k a).ownBlock≠some D:=fun a ha=>hfar _ (NO hk ha)
 refine⟨⟨IM val k,hO,?_,hf⟩,hge,(((((hbel.setCell (p:=(aD g (k*3))) ad _).setCell (p:=(aD g (k*3+1))) ad _).setCell (p:=(aD g (k*3+2))) ad _).setCell (p:=(aD g ((k+1)*3))) ad _).setCell (p:=(aD g ((k+1)*3+1))) ad _).setCell (p:=(aD g ((k+1)*3+2))) ad _⟩;rw[ae .r dE,ae .s dE,ae .f dE,ae .p dE];exact(ab D ah).trans hbox

theorem Z7 (ra:Option Addr)(rc:Nat)(sa:Option Addr)(sc:Nat)(fa:Option Addr)(fc:Nat)(na:Option Addr)(nc:Nat)(m:Ac)(nm:ByteArray)(w:World)(h:Al w (.agg (aI m ra rc sa sc fa fc na nc)) m)(hE:Ao m=0)(hNm:BG nm=false):Cl 68 #[.agg (aI m ra rc sa sc fa fc na nc),.string nm] w (Cp w AZ 4):=by
 let V:=(w.alloc (cA m ra rc sa sc fa fc na nc))
 have b0:Bw w (V.alloc zI):=(Av).alloc (by simp[V]) _;have m0:(V.alloc zI).heap[w.heap.size]?=some (cA m ra rc sa sc fa fc na nc):=Aj (Aw _ _) _;have m1:(V.alloc zI).heap[w.heap.size+1]?=some zI:=AR (by simp[V]);have hsz:w.heap.size+1<(V.alloc zI).heap.size:=by simp[V]
 have I0:=h.below b0;have c0:=five m0;have aa:=F9 I0 hE;clear h hE I0;dsimp only[V]at *;clear V
 go_enter func68,ntmps68
 go_wp2_with(first|(go_at_call 124;refine(GA _ hNm).mono ?_;rintro e2 w' ⟨rfl,hw⟩;rw[hw];clear hw)|(go_at_call 66;refine aa.mono ?_;rintro e1 wA ⟨rfl,bA⟩;have n0:=Ag m0 bA oM;have n1:=Ag m1 bA hsz;have d0:=five n0;have z0:=five n1;have y0:=Aq n1));refine AY (v:=.tuple #[.agg #[iI 0,nl,nl,nl,nl],iI 4]) (by simp[results,results68,go_sem,z0]) rfl ⟨none,0,none,0,none,0,none,0,rfl,fun W' _=>FK W',CP (Below.on b0 bA) (Cw _) _ _ _ _ _⟩
theorem cw (ra:Option Addr)(rc:Nat)(sa:Option Addr)(sc:Nat)(fa:Option Addr)(fc:Nat)(na:Option Addr)(nc:Nat)(m:Ac)(nm:ByteArray)(w:World)(h:Al w (.agg (aI m ra rc sa sc fa fc na nc)) m)(hE:Ao m=0)(hNm:BG nm=true)(k:Nat)(hi:G0 (BU m.p nm)=(k:Int)):Cl 68 #[.agg (aI m ra rc sa sc fa fc na nc),.string nm] w (Cp w AZ 6):=by
 let V:=((w.alloc (cA m ra rc sa sc fa fc na nc)).alloc zI)
 have b0:Bw w V:=(Av).alloc (by simp[V]) _;have m0:V.heap[w.heap.size]?=some (cA m ra rc sa sc fa fc na nc):=Aj (Aw _ _) _;have m1:V.heap[w.heap.size+1]?=some zI:=AR (by simp[V]);have hsz:w.heap.size+1<V.heap.size:=by simp[V]
 have I0:=h.below b0;have c0:=five m0;have ab:=F9 I0 hE;have aa:Hd (∀W,Below V.heap.size V W->Cl 125 #[.agg (aI m ra rc sa sc fa fc na nc),.string nm] W fun r w'=>r=.returned (iI (k:Int))/\Bw W w'):=fun W hW=>Kc (I0.below hW) nm (by have:=(Au (A0 hE)).1;omega) hi
 have hk0:decide ((0:Int)<=(k:Int))=true:=by simp[V]
 clear h hE I0;dsimp only[V]at *;clear V
 go_enter func68,ntmps68
 go_wp2_with(first|(go_at_call 125;refine(aa.o _ bA).mono ?_;rintro e2 wB ⟨rfl,bB⟩;have bC:=Below.on bA bB;have k0:=Ag m0 bC oM;have k1:=Ag m1 bC hsz;have g0:=five k0;have z0:=five k1;have y0:=Aq k1)|(go_at_call 124;refine(GA _ hNm).mono ?_;rintro e2 w' ⟨rfl,hw⟩;rw[hw];clear hw)|(go_at_call 66;refine ab.mono ?_;rintro e1 wA ⟨rfl,bA⟩;have n0:=Ag m0 bA oM;have d0:=five n0));refine AY (v:=.tuple #[.agg #[iI 0,nl,nl,nl,nl],iI 6]) (by simp[results,results68,go_sem,z0]) rfl ⟨none,0,none,0,none,0,none,0,rfl,fun W' _=>FK W',CP (Below.on b0 bC) (Cw _) _ _ _ _ _⟩
theorem Z6 (ra:Option Addr)(rc:Nat)(sa:Option Addr)(sc:Nat)(fa:Option Addr)(fc:Nat)(na:Option Addr)(nc:Nat)(m:Ac)(nm:ByteArray)(w:World)(h:Al w (.agg (aI m ra rc sa sc fa fc na nc)) m)(hE:Ao m=0)(hNm:BG nm=true)(hi:G0 (BU m.p nm) = -1)(h3:decide (3<=m.p.length)=true):Cl 68 #[.agg (aI m ra rc sa sc fa fc na nc),.string nm] w (Cp w AZ 2):=by
 let V:=((w.alloc (cA m ra rc sa sc fa fc na nc)).alloc zI)
 have b0:Bw w V:=(Av).alloc (by simp[V]) _;have m0:V.heap[w.heap.size]?=some (cA m ra rc sa sc fa fc na nc):=Aj (Aw _ _) _;have m1:V.heap[w.heap.size+1]?=some zI:=AR (by simp[V]);have hsz:w.heap.size+1<V.heap.size:=by simp[V]
 have I0:=h.below b0;have c0:=five m0;have ab:=F9 I0 hE;have aa:Hd (∀W,Below V.heap.size V W->Cl 125 #[.agg (aI m ra rc sa sc fa fc na nc),.string nm] W fun r w'=>r=.returned (iI (-1))/\Bw W w'):=fun W hW=>Kc (I0.below hW) nm (by have:=(Au (A0 hE)).1;omega) hi
 have ac:decide ((3:Int)<=(m.p.length:Int))=true:=by simp[V]at h3 ⊢;omega
 clear h hE I0;dsimp only[V]at *;clear V
 go_enter func68,ntmps68
 go_wp2_with(first|(go_at_call 125;refine(aa.o _ bA).mono ?_;rintro e2 wB ⟨rfl,bB⟩;have bC:=Below.on bA bB;have k0:=Ag m0 bC oM;have k1:=Ag m1 bC hsz;have g0:=five k0;have z0:=five k1;have y0:=Aq k1)|(go_at_call 124;refine(GA _ hNm).mono ?_;rintro e2 w' ⟨rfl,hw⟩;rw[hw];clear hw)|(go_at_call 66;refine ab.mono ?_;rintro e1 wA ⟨rfl,bA⟩;have n0:=Ag m0 bA oM;have d0:=five n0));refine AY (v:=.tuple #[.agg #[iI 0,nl,nl,nl,nl],iI 2]) (by simp[results,results68,go_sem,z0]) rfl ⟨none,0,none,0,none,0,none,0,rfl,fun W' _=>FK W',CP (Below.on b0 bC) (Cw _) _ _ _ _ _⟩
theorem AX.drewN {p:Ac}(h:AX V X D p)(n:Nat):AX V (X.drewN n) D p:=by
 obtain⟨⟨val,hX,ab,ac⟩,ad,aa⟩:=h;exact⟨⟨val,hX.keep (fun _ _ _=>rfl),ab,ac⟩,ad,⟨aa.os,aa.tape,aa.output,aa.size,aa.block⟩⟩
theorem Y8 (m:Ac)(s:AE):{m with p:=m.p++[s]} = Bq m m.p.length s:=by
 unfold Bq CC;rw[Fz,Lu]
theorem Z8 (ra:Option Addr)(rc:Nat)(sa:Option Addr)(sc:Nat)(fa:Option Addr)(fc:Nat)(na:Option Addr)(nc:Nat)(m:Ac)(nm:ByteArray)(w:World)(h:Al w (.agg (aI m ra rc sa sc fa fc na nc)) m)(hC:Ao m=0)(hNm:BG nm=true)(hi:G0 (BU m.p nm) = -1)(h3:decide (3<=m.p.length)=false)(MR:Ac)(HMR:Hd (Bq m (Cy m.p nm) (nm,m.g,m.r)=MR))(HSh:Hd (As {MR with f:=BX MR.s} = 0)):Cl 68 #[.agg (aI m ra rc sa sc fa fc na nc),.string nm] w (Cp w (At MR) 0):=by
  let V:=((w.alloc (cA m ra rc sa sc fa fc na nc)).alloc zI)
  have b0:Bw w V:=(Av).alloc (by simp[V]) _;have m0:V.heap[w.heap.size]?=some (cA m ra rc sa sc fa fc na nc):=Aj (Aw _ _) _;have m1:V.heap[w.heap.size+1]?=some zI:=AR (by simp[V]);have hsz:w.heap.size+1<V.heap.size:=by simp[V]
  have I0:=h.below b0;have hs:=A0 hC;have bJ:=F9 I0 hC;have bj:Hd (∀W,Below V.heap.size V W->Cl 125 #[.agg (aI m ra rc sa sc fa fc na nc),.string nm] W fun r w'=>r=.returned (iI (-1))/\Bw W w'):=fun W hW=>Kc (I0.below hW) nm (by have:=(Au (A0 hC)).1;omega) hi
  have cj:decide ((3:Int)<=(m.p.length:Int))=false:=by simp[V]at h3 ⊢;omega
  have cm:m.p.length<3:=by simpa[V] using h3
  obtain⟨f1,f2,f3,_⟩:=Fb hs (s:=(⟨#[]⟩,m.g,m.r)) CD;dsimp only at f1 f2 f3;have bU:m.r.length<=1000:=oM;have HN:Hd (Iw m.p/\BU m.p nm=none):=⟨(GF _).1 (Au hs).2.2.2.1,by cases e:BU m.p nm with|none=>rfl|some x=>rw[e]at hi;simp[V,G0]at hi⟩;obtain⟨c0,c1,c2,c3,c4⟩:=five m0;clear h hC hi f1 f2 f3;dsimp only[V]at *;clear V
  go_enter func68,ntmps68
  go_upto_region 10 with(first|(go_at_call 125;refine(bj.o _ bA).mono ?_;rintro e2 wB ⟨rfl,bB⟩;have bC:=Below.on bA bB;have k0:=Ag m0 bC oM;have k1:=Ag m1 bC hsz;obtain⟨g0,g1,g2,g3,g4⟩:=five k0;skip)|(go_at_call 124;refine(GA _ hNm).mono ?_;rintro e2 w' ⟨rfl,hw⟩;rw[hw];clear hw)|(go_at_call 66;refine bJ.mono ?_;rintro e1 wA ⟨rfl,bA⟩;have n0:=Ag m0 bA oM;obtain⟨d0,d1,d2,d3,d4⟩:=five n0));clear c0 c1 c2 c3 c4 d0 d1 d2 d3 d4 g0 g1 g2 g3 g4 k0 k1 n0;obtain⟨w1,aY⟩:∃X,X=wB:=⟨_,rfl⟩;have b1:Below ((w.alloc (cA m ra rc sa sc fa fc na nc)).alloc zI).heap.size ((w.alloc (cA m ra rc sa sc fa fc na nc)).alloc zI) w1:=by rw[aY];exact bC
  rw[<-aY];clear aY;have bu:w.heap.size+1<w1.heap.size:=AO hsz b1.size;have n0:=Ag m0 b1 oM;have n1:=Ag m1 b1 hsz;have bw:Bw w w1:=Below.on b0 b1;have I1:=I0.below b1;obtain⟨f0,f1,f2,f3,f4⟩:=five n0;have bi:=J6 I1 hs
  go_cut [7] from 11 (fun s wx=>∃D,s=pZ D/\Hd (AX w1 wx D m))
  case first=>
    go_wp2_with(go_at_call 126;refine bi.mono ?_;rintro e3 w3 ⟨val,rfl,hO,b3⟩;obtain⟨p0,q0,p1,q1,p2,q2,p3,q3,x0,x1,x2,x3⟩:=hO.four';unfold AB;rw[x0,x1,x2,x3]);go_meet;have s3:=b3.size;exact⟨_,rfl,⟨⟨val,hO.alloc _,by rw[x0,x1,x2,x3];exact Aw _ _,hO.lt lE⟩,s3,b3.alloc s3 _⟩⟩
  case rest=>
  obtain⟨D,rfl,aO⟩:=hcut;obtain⟨wa,bZ⟩:∃X,X=wc:=⟨_,rfl⟩;subst bZ;clear bi f0 f1 f2 f3 f4;clear bj;go_upto_region 11 with fail
  go_cut [] from 11 (fun wx=>Hd (AX w1 wx D {m with p:=m.p++[(nm,m.g,m.r)]}))
  case first=>
    obtain⟨val,hX,ac,ad⟩:=aO.o.ex;have ab:=aO.o.bel;have aj:=aO.o.ge;obtain⟨p0,q0,p1,q1,p2,q2,p3,q3,x0,x1,x2,x3⟩:=hX.four';have af:=ac;rw[x0,x1,x2,x3]at af;have aw:=(AA af);have bq:=ab.size;obtain⟨d0,d1,d2,d3,d4⟩:=five af;have HX:Hd (OX wa w1.heap.size val m/\Bw w1 wa/\(∀a,Ad m a->(val a).ownBlock≠some D)/\wa.heap[D]?=some (cA m p0 q0 p1 q1 p2 q2 p3 q3)/\val .p=.slice p3 m.p.length q3):=⟨hX,ab,ad,af,x3⟩;have b4:Hd (wa.heap[D]?=some (.cells #[iI m.g,val .r,val .s,val .f,val .p] 33)):=ac;have HL:Hd (wa.cell? (aD D 4)=some (.slice p3 m.p.length q3)):=d4;have aQ:Hd ((fun X:World=>X.heap[w.heap.size]?=some (cA m ra rc sa sc fa fc na nc)) wa):=Ag n0 ab oM;have HR:Hd (Sl wa (.slice ra m.r.length rc) m.r):=(I1.four.1).below ab;have aT:Hd (wa.ownsRow w1.heap.size 87 3 (.slice p3 m.p.length q3) m.p.length (A8 m.p (fun j=>val (.sr j)))):=by have:=hX.row .p (Ad.p m);rw[x3]at this;exact this
    clear hX ac ad ab af x0 x1 x2 x3 d0 d1 d2 d3 d4;refine BT (S:=(fun X:World=>X.heap[w.heap.size]?=some (cA m ra rc sa sc fa fc na nc))) kR aQ.o (fun hHeld=>?_);refine Ar 0 (pQ D 4) ?_;refine Ar 2 (.string nm) ?_;refine Ar 3 (pZ w.heap.size) ?_;refine Cs 4 (iI m.g) ?_;refine Ar 6 (pQ w.heap.size 1) ?_;refine Cs 7 (.slice ra m.r.length rc) ?_;simp only[lays];have ag:=aQ;have aP:=HL
    repeat' (refine Ig [1,5,8,9,10,11,12,13] (.c rfl ?_ (.c rfl ?_ (.c rfl ?_ (.c rfl ?_ (.c rfl ?_ (.c rfl ?_ (.c rfl ?_ (.c rfl ?_ .n))))))))<;>(intro t hc K hK;first|exact absurd hc (by decide +kernel)|(clear hc hHeld;simp only[lays];rw[Ab (by rfl)];first
      | (have _:Tg 1:=t;clear t
         have l4:=aP.o;go_simp;clear l4;refine hK.out _ _ ag.o (fun hHeld=>?_);clear hK K;try simp only[lays])
      | (have _:Tg 5:=t;clear t
         go_simp;obtain⟨X1,ae⟩:∃X,X=(wa.alloc (.cells #[] 3)).drew:=⟨_,rfl⟩;have b5:Bw wa X1:=by rw[ae];exact(Av).drew
         have cp:X1.heap.size=wa.heap.size+1:=by rw[ae];show (wa.alloc (.cells #[] 3)).heap.size=_;simp
         have k5:X1.heap[wa.heap.size]?=some (.cells #[] 3):=by rw[ae];exact Aw _ _
         have ag:Hd ((fun X:World=>X.heap[w.heap.size]?=some (cA m ra rc sa sc fa fc na nc)) X1):=Ag aQ.o b5 oM;rw[<-ae];clear ae;have aP:Hd (X1.cell? (aD D 4)=some (.slice p3 m.p.length q3)):=(b5.cell (p:=(aD D 4)) aw).trans HL.o;refine hK.out _ _ ag.o (fun hHeld=>?_);clear hK K;try simp only[lays])
      | (have _:Tg 8:=t;clear t
         refine Ov _ _ (by rfl) (g:=wa.heap.size) (B:=w1.heap.size) (by rfl) k5 bq (src:=.slice ra m.r.length rc) (by rfl) (HR.o.below b5) bU ?_;intro v1 w8 h1 h2 h3;obtain⟨va,vc,hy⟩:=B0 h1.o;subst hy;have aG:∀q,q<wa.heap.size->w8.heap[q]?=wa.heap[q]?:=fun q hq=>(h2.block q oM (by intro e;injection e with e;omega)).trans (b5.block q hq)
         have co:wa.heap.size+1<=w8.heap.size:=by have:=h2.size;omega
         have b8:Bw wa w8:=IV b5 h2 oM (fun q e=>by injection e with e;omega);have ag:Hd ((fun X:World=>X.heap[w.heap.size]?=some (cA m ra rc sa sc fa fc na nc)) w8):=(aG _ oM).trans aQ.o;have aP:Hd (w8.cell? (aD D 4)=some (.slice p3 m.p.length q3)):=(b8.cell (p:=(aD D 4)) aw).trans HL.o;have H8:Hd (w8.ownsRow w1.heap.size 3 1 (.slice va m.r.length vc) m.r.length (Ae m.r)/\((Value.slice va m.r.length vc).ownBlock=some wa.heap.size\/(Value.slice va m.r.length vc).ownBlock=some X1.heap.size)):=⟨h1.o,h3.o⟩;clear h1 h2 h3;refine hK.out _ _ ag.o (fun hHeld=>?_);clear hK K;try simp only[lays])
      | (have _:Tg 9:=t;clear t
         go_simp;refine hK.out _ _ ag.o (fun hHeld=>?_);clear hK K;try simp only[lays])
      | (have _:Tg 10:=t;clear t
         go_simp;have ag:Hd ((fun X:World=>X.heap[w.heap.size]?=some (cA m ra rc sa sc fa fc na nc)) (w8.alloc (oN nm m.g va m.r.length vc))):=Aj ag.o _;have aP:Hd ((w8.alloc (oN nm m.g va m.r.length vc)).cell? (aD D 4)=some (.slice p3 m.p.length q3)):=((b8.alloc oM _).cell (p:=(aD D 4)) aw).trans HL.o;refine hK.out _ _ ag.o (fun hHeld=>?_);clear hK K;try simp only[lays])
      | (have _:Tg 11:=t;clear t
         refine Ou _ _ 31 87 _ underlying31 J1 (by rfl) (by rfl) (B:=w1.heap.size) (n:=m.p.length) (v:=.slice p3 m.p.length q3) (xs:=A8 m.p (fun j=>val (.sr j))) (c0:=.string nm) (c1:=iI m.g) (c2:=.slice va m.r.length vc) (by rfl) (by rfl) (by rfl) (by rfl) (N:=w8.heap.size) (by rfl) rfl (CX aT.o (fun q e=>aG q ((aT.o.lt q e).2))) oM oM ?_;intro v9 w9 g1 g2 g3;obtain⟨ya,yc,hy⟩:=B0 g1.o;subst hy;have aU:w9.heap[D]?=some (cA m p0 q0 p1 q1 p2 q2 p3 q3):=(g2.block D (by simp;omega) (fun e=>HX.o.2.2.1 .p (Ad.p m) (by rw[HX.o.2.2.2.2];exact e.symm))).trans (Aj ((aG D aw).trans HX.o.2.2.2.1) _);have ag:Hd ((fun X:World=>X.heap[w.heap.size]?=some (cA m ra rc sa sc fa fc na nc)) w9):=(g2.block w.heap.size (by simp;omega) (fun e=>by have:=(aT.o.lt _ e.symm).1;omega)).trans ag.o;have HF:Hd (AX w1 (w9.setCell (aD D 4) (.slice ya (m.p.length+1) yc)) D {m with p:=m.p++[(nm,m.g,m.r)]}):=by
           have bH:Bw w1 (w8.alloc (oN nm m.g va m.r.length vc)):=(HX.o.2.1.trans (b8.mono bq)).alloc oM _;have bG:OX (w8.alloc (oN nm m.g va m.r.length vc)) w1.heap.size val m:=(HX.o.1.keep (fun q _ hq=>aG q hq)).alloc _;have aM:∀q,(Value.slice va m.r.length vc).ownBlock=some q->wa.heap.size<=q:=fun q e=>by rcases H8.o.2 with x|x<;>(rw[x]at e;injection e with e;omega)
           refine Qn (es:=m.r) bG bH (Aj ((aG D aw).trans b4.o) _) aj HX.o.2.2.1 (CX H8.o.1 (fun q e=>Ch w8 _ q (H8.o.1.lt q e).2)) (fun b hb _ q e x=>by have:=aM q e;have:=((HX.o.1.row b hb).lt q x).2;omega) (fun e=>by have:=aM D e;omega) (by rw[HX.o.2.2.2.2];exact g2) g1.o ?_;rcases g3.o with x|x
           · exact .inl (by rw[x,HX.o.2.2.2.2])
           · exact .inr (fun q e=>by rw[x]at e;injection e with e;simp;omega)
         clear g1 g2 g3;refine hK.out _ _ ag.o (fun hHeld=>?_);clear hK K;try simp only[lays])
      | (have _:Tg 12:=t;clear t
         go_simp;refine hK.out _ _ ag.o (fun hHeld=>?_);clear hK K;try simp only[lays])
      | (have _:Tg 13:=t;clear t
         have r0:=five aU;have cv:=Aq aU;have bD:Hd ((fun X:World=>X.heap[w.heap.size]?=some (cA m ra rc sa sc fa fc na nc)) (w9.setCell (aD D 4) (.slice ya (m.p.length+1) yc))):=Bt ag.o oM _ _;clear aU;go_simp;refine hK.out _ _ bD.o (fun hHeld=>?_);clear hK K hHeld;try simp only[lays]
         refine BQ kR ?_ _;go_wp2_with fail;go_meet;exact HF))))
  case rest=>
  have bh:Hd (AX w1 wc D (Bq m m.p.length (nm,m.g,m.r))):=by have:=hcut.o;rw[Y8]at this;exact this
  obtain⟨wb,ca⟩:∃X,X=wc:=⟨_,rfl⟩;subst ca;clear hcut aO;have HP:Hd (Cy m.p nm<=m.p.length/\m.p.length<=3):=⟨Qv _ _,oM⟩;obtain⟨ci,bl,ax,aJ⟩:=bh.o.ex;have aq:=ax;obtain⟨p0,q0,p1,q1,p2,q2,p3,q3,x0,x1,x2,x3⟩:=bl.four';rw[x0,x1,x2,x3]at aq;have bk:(Bq m m.p.length (nm,m.g,m.r)).p.length=m.p.length+1:=GZ _ lE;rw[bk]at aq;obtain⟨d0,d1,d2,d3,d4⟩:=five aq;clear bl ax aJ aq x0 x1 x2 x3 bk;have hlen:IntKind.i64.wrap (((m.p.length+1:Nat):Int)-1)=(m.p.length:Int):=by rw[G9];omega
  have bp:IntKind.i64.wrap ((m.p.length:Int)+1-1)=(m.p.length:Int):=by rw[G9];omega
  go_wp2_with fail;clear d0 d1 d2 d3 d4
  go_loopw [8] (fun i wr=>∃k:Nat,Cy m.p nm<=k/\k<=m.p.length/\i=iI k/\Hd (AX w1 wr D (Bq m k (nm,m.g,m.r)))) (fun i _=>(intOf i).toNat)
  case atStart=>exact⟨m.p.length,HP.o.1,Bc _,rfl,bh⟩
  case round=>
    obtain⟨k,bT,bn,rfl,HC⟩:=hrel;obtain⟨wq,cb⟩:∃X,X=wr:=⟨_,rfl⟩;subst cb;have cn:m.p.length<=3:=HP.o.2;have eL:(Bq m k (nm,m.g,m.r)).p.length=m.p.length+1:=GZ _ bn;obtain⟨bb,hbb⟩:∃b,b=decide (Cy m.p nm<k):=⟨_,rfl⟩;have av:Hd (bb=decide (Cy m.p nm<k)):=hbb;clear hbb;go_upto_region 13 with fail
    go_cut [70] from 53 to 94 (fun s wx=>s=.bool bb/\Hd (AX w1 wx D (Bq m k (nm,m.g,m.r))))
    case first=>
      rcases Eg k with e0|e0
      · subst e0
        have e1:bb=false:=by rw[av.o];simp
        subst e1;clear eL
        go_quiet(fail)
        go_wp2_with fail;go_meet;exact⟨rfl,HC.o.drewN _⟩
      · obtain⟨j,rfl⟩:∃j,k=j+1:=⟨k-1,oM⟩
        have hj:j<m.p.length:=oM;obtain⟨val,hX,ac,ad⟩:=HC.o.ex;have ab:=HC.o.bel;have aj:=HC.o.ge;obtain⟨p0,q0,p1,q1,p2,q2,p3,q3,x0,x1,x2,x3⟩:=hX.four';have af:=ac;rw[x0,x1,x2,x3,eL]at af;have aa:wq.ownsRow w1.heap.size 87 3 (val .p) (Bq m (j+1) (nm,m.g,m.r)).p.length (A8 (Bq m (j+1) (nm,m.g,m.r)).p (fun i=>val (.sr i))):=hX.row .p (Ad.p _);rw[x3,eL]at aa;obtain⟨_,_,e3,aX⟩:=hX.forms .p (Ad.p _);rw[x3]at e3;simp only[BP]at e3;obtain⟨rfl,a7,rfl⟩:=e3;clear a7;obtain⟨g,rfl⟩:=aX (by show 0<(Bq m (j+1) (nm,m.g,m.r)).p.length;rw[eL];omega);obtain⟨⟨xn,xg,xr⟩,a8⟩:∃s,m.p[j]=s:=⟨_,rfl⟩;have aR:Hd (m.p[j]=(xn,xg,xr)):=a8;have aK:(Bq m (j+1) (nm,m.g,m.r)).p.getD j default=(xn,xg,xr):=by show (CC (j+1) m.p _).getD j default=_;rw[Gc _ oM,Aa oM];unfold Fa;rw[Ab oM,<-a8];simp[List.getD,hj]
        have aL:(Bq m (j+1) (nm,m.g,m.r)).p.getD (j+1) default=(nm,m.g,m.r):=by show (CC (j+1) m.p _).getD (j+1) default=_;rw[Gc _ oM,Ab rfl]
        obtain⟨a0,a1,a2⟩:=Ew (S:=(Bq m (j+1) (nm,m.g,m.r)).p) (qv:=fun i=>val (.sr i)) (j:=j) (by rw[eL];omega);obtain⟨az,ah,ai⟩:=Ew (S:=(Bq m (j+1) (nm,m.g,m.r)).p) (qv:=fun i=>val (.sr i)) (j:=j+1) (by rw[eL];omega);rw[aK]at a0 a1;rw[aL]at az ah;have v0:wq.cell? (aD g (j*3))=some (.string xn):=(aa.cellAt (j*3+0) oM).trans a0;have v1:wq.cell? (aD g (j*3+1))=some (iI xg):=(aa.cellAt (j*3+1) oM).trans a1;have v2:wq.cell? (aD g (j*3+1+1))=some (val (.sr j)):=(aa.cellAt (j*3+2) oM).trans a2;have u0:wq.cell? (aD g ((j+1)*3))=some (.string nm):=(aa.cellAt ((j+1)*3+0) oM).trans az;have u1:wq.cell? (aD g ((j+1)*3+1))=some (iI m.g):=(aa.cellAt ((j+1)*3+1) oM).trans ah;have u2:wq.cell? (aD g ((j+1)*3+1+1))=some (val (.sr (j+1))):=(aa.cellAt ((j+1)*3+2) oM).trans ai;have o0:=five af;clear a0 a1 a2 az ah ai aK aL a8 eL;have bQ:IntKind.i64.wrap (((j+1:Nat):Int)-1)=(j:Int):=by rw[G9];omega
        have aW:IntKind.i64.wrap ((j:Int)+1-1)=(j:Int):=by rw[G9];omega
        have i1:(j:Int)<((m.p.length+1:Nat):Int):=oM;have i2:((j+1:Nat):Int)<((m.p.length+1:Nat):Int):=oM;have i3:(j:Int)<(m.p.length:Int)+1:=oM;have i4:(j:Int)+1<(m.p.length:Int)+1:=oM;have i5:j<m.p.length+1:=oM;have hne:(xn.toList == nm.toList)=false:=by have:=QU HN.o.2 (m.p[j]) (BS hj);rw[aR.o]at this;simpa using this
        have an:=NW HN.o.1 nm hj;rw[aR.o]at an;rcases OB (Op.bytesLess xn.toList nm.toList) with hl|hl
        · have e1:bb=false:=by rw[av.o];have:=an.1 hl;simp;omega
          subst e1;clear an
          go_quiet(fail)
          go_wp2_with fail;go_meet;exact⟨rfl,HC.o.drewN _⟩
        · have e1:bb=true:=by
            rw[av.o];have:¬j<Cy m.p nm:=fun x=>by have:=an.2 x;rw[show Dx xn nm=Op.bytesLess xn.toList nm.toList from rfl,hl]at this;cases this
            simp;omega
          subst e1;clear an
          go_quiet(fail)
          go_wp2_with fail;go_meet;exact⟨rfl,HC.o.drewN _⟩
    case rest=>
    obtain⟨rfl,aC⟩:=hcut;obtain⟨wr,cc⟩:∃X,X=wc:=⟨_,rfl⟩;subst cc;clear HC
    cases bb with
    | true=>
      obtain⟨j,rfl⟩:∃j,k=j+1:=⟨k-1,by have:=av.o;simp at this;omega⟩;have hj:j<m.p.length:=oM;have bS:Cy m.p nm<=j:=by have:=av.o;simp at this;omega
      clear av;have ap:(Bq m (j+1) (nm,m.g,m.r)).p.length=m.p.length+1:=eL;clear eL;obtain⟨val,hX,ac,ad⟩:=aC.o.ex;have ab:=aC.o.bel;have aj:=aC.o.ge;obtain⟨p0,q0,p1,q1,p2,q2,p3,q3,x0,x1,x2,x3⟩:=hX.four';have af:=ac;rw[x0,x1,x2,x3,ap]at af;have aa:wr.ownsRow w1.heap.size 87 3 (val .p) (Bq m (j+1) (nm,m.g,m.r)).p.length (A8 (Bq m (j+1) (nm,m.g,m.r)).p (fun i=>val (.sr i))):=hX.row .p (Ad.p _);rw[x3,ap]at aa;obtain⟨_,_,e3,aX⟩:=hX.forms .p (Ad.p _);rw[x3]at e3;simp only[BP]at e3;obtain⟨rfl,a7,rfl⟩:=e3;clear a7;obtain⟨g,rfl⟩:=aX (by show 0<(Bq m (j+1) (nm,m.g,m.r)).p.length;rw[ap];omega);obtain⟨⟨xn,xg,xr⟩,a8⟩:∃s,m.p[j]=s:=⟨_,rfl⟩;have aR:Hd (m.p[j]=(xn,xg,xr)):=a8;have aK:(Bq m (j+1) (nm,m.g,m.r)).p.getD j default=(xn,xg,xr):=by show (CC (j+1) m.p _).getD j default=_;rw[Gc _ oM,Aa oM];unfold Fa;rw[Ab oM,<-a8];simp[List.getD,hj]
      have aL:(Bq m (j+1) (nm,m.g,m.r)).p.getD (j+1) default=(nm,m.g,m.r):=by show (CC (j+1) m.p _).getD (j+1) default=_;rw[Gc _ oM,Ab rfl]
      obtain⟨a0,a1,a2⟩:=Ew (S:=(Bq m (j+1) (nm,m.g,m.r)).p) (qv:=fun i=>val (.sr i)) (j:=j) (by rw[ap];omega);obtain⟨az,ah,ai⟩:=Ew (S:=(Bq m (j+1) (nm,m.g,m.r)).p) (qv:=fun i=>val (.sr i)) (j:=j+1) (by rw[ap];omega);rw[aK]at a0 a1;rw[aL]at az ah;have v0:wr.cell? (aD g (j*3))=some (.string xn):=(aa.cellAt (j*3+0) oM).trans a0;have v1:wr.cell? (aD g (j*3+1))=some (iI xg):=(aa.cellAt (j*3+1) oM).trans a1;have v2:wr.cell? (aD g (j*3+1+1))=some (val (.sr j)):=(aa.cellAt (j*3+2) oM).trans a2;have u0:wr.cell? (aD g ((j+1)*3))=some (.string nm):=(aa.cellAt ((j+1)*3+0) oM).trans az;have u1:wr.cell? (aD g ((j+1)*3+1))=some (iI m.g):=(aa.cellAt ((j+1)*3+1) oM).trans ah;have u2:wr.cell? (aD g ((j+1)*3+1+1))=some (val (.sr (j+1))):=(aa.cellAt ((j+1)*3+2) oM).trans ai;have o0:=five af;clear a0 a1 a2 az ah ai aK aL a8;obtain⟨xa,xc,ex,_⟩:=hX.forms (.sr j) (Ad.sr (by rw[ap];omega));obtain⟨ya,yc,ey,_⟩:=hX.forms (.sr (j+1)) (Ad.sr (by rw[ap];omega));obtain⟨xl,br⟩:=nM (AP (Bq m (j+1) (nm,m.g,m.r)) (.sr j));obtain⟨yl,bt⟩:=nM (AP (Bq m (j+1) (nm,m.g,m.r)) (.sr (j+1)));rw[br]at ex;rw[bt]at ey;rw[ex]at v2;rw[ey]at u2;clear br bt;have bQ:IntKind.i64.wrap (((j+1:Nat):Int)-1)=(j:Int):=by rw[G9];omega
      have aW:IntKind.i64.wrap ((j:Int)+1-1)=(j:Int):=by rw[G9];omega
      have bR:IntKind.i64.wrap (j:Int)=(j:Int):=by rw[G9];omega
      have ck:¬(j:Int)+1<0:=oM;have cl:0<=(j:Int)+1:=oM;have hjt:((j:Int)+1).toNat=j+1:=oM;have i1:(j:Int)<((m.p.length+1:Nat):Int):=oM;have i2:((j+1:Nat):Int)<((m.p.length+1:Nat):Int):=oM;have i3:(j:Int)<(m.p.length:Int)+1:=oM;have i4:(j:Int)+1<(m.p.length:Int)+1:=oM;have i5:j<m.p.length+1:=oM;have ay:g<wr.heap.size:=(Gm aa).2.1;have aw:D<wr.heap.size:=(AA af);have bM:¬D=g:=fun e=>ad .p (Ad.p _) (by rw[x3,e];rfl)
      have bN:¬g=D:=fun e=>bM e.symm
      have ao:Hd (∀X,Bw wr X->(fun X:World=>X.heap[D]?=some (.cells #[iI m.g,.slice p0 m.r.length q0,.slice p1 m.s.length q1,.slice p2 m.f.length q2,lZ g (m.p.length+1) q3] 33)/\(X.cell? (aD g (j*3))=some (.string xn)/\X.cell? (aD g (j*3+1))=some (iI xg)/\X.cell? (aD g (j*3+1+1))=some (.slice xa xl xc))/\X.cell? (aD g ((j+1)*3))=some (.string nm)/\X.cell? (aD g ((j+1)*3+1))=some (iI m.g)/\X.cell? (aD g ((j+1)*3+1+1))=some (.slice ya yl yc)) X):=fun X bX=>⟨Ag af bX aw,⟨(bX.cell (p:=(aD g (j*3))) ay).trans v0,(bX.cell (p:=(aD g (j*3+1))) ay).trans v1,(bX.cell (p:=(aD g (j*3+1+1))) ay).trans v2⟩,(bX.cell (p:=(aD g ((j+1)*3))) ay).trans u0,(bX.cell (p:=(aD g ((j+1)*3+1))) ay).trans u1,(bX.cell (p:=(aD g ((j+1)*3+1+1))) ay).trans u2⟩
      have bE:Hd (OX wr w1.heap.size val (Bq m (j+1) (nm,m.g,m.r))/\Bw w1 wr/\wr.heap[D]?=some (.cells #[iI m.g,val .r,val .s,val .f,val .p] 33)/\(∀a,Ad (Bq m (j+1) (nm,m.g,m.r)) a->(val a).ownBlock≠some D)/\val .p=lZ g (m.p.length+1) q3/\val (.sr j)=.slice xa xl xc/\val (.sr (j+1))=.slice ya yl yc):=⟨hX,ab,ac,ad,by rw[x3,ap],ex,ey⟩;have bP:∀X,Bw wr X->X.heap[g]?=wr.heap[g]?:=fun X bX=>bX.block g ay
      obtain⟨cur,aH⟩:∃cur,wr.heap[g]?=some (.cells cur 87):=by
        rcases aa.2 with⟨e,_⟩|⟨g',c',cur,e,_,hg,_⟩
        · cases e
        · simp only[BP,Ct,FR,Hh,Jb]at e
          obtain⟨rfl,rfl⟩:=e;exact⟨cur,hg⟩
      have b9:Hd (wr.heap[g]?=some (.cells cur 87)):=aH;clear hX ab ac ad x0 x1 x2 x3 ex ey aa af v0 v1 v2 u0 u1 u2 o0 aH bP ap;go_upto_region 15 with fail
      go_cut [9,10] from 53 to 94 (fun a b wx=>∃bx aB,a=pZ bx/\b=pZ aB/\Hd (wx.heap[bx]?=some (oN xn xg xa xl xc)/\wx.heap[aB]?=some (oN nm m.g ya yl yc)/\Bw wr wx/\wr.heap.size<=bx/\wr.heap.size<=aB))
      case first=>
        refine BT (S:=(fun X:World=>X.heap[D]?=some (.cells #[iI m.g,.slice p0 m.r.length q0,.slice p1 m.s.length q1,.slice p2 m.f.length q2,lZ g (m.p.length+1) q3] 33)/\(X.cell? (aD g (j*3))=some (.string xn)/\X.cell? (aD g (j*3+1))=some (iI xg)/\X.cell? (aD g (j*3+1+1))=some (.slice xa xl xc))/\X.cell? (aD g ((j+1)*3))=some (.string nm)/\X.cell? (aD g ((j+1)*3+1))=some (iI m.g)/\X.cell? (aD g ((j+1)*3+1+1))=some (.slice ya yl yc))) kR (ao.o _ (AG _ _).drew) (fun hHeld=>?_);refine Ar 0 (pQ D 4) ?_;simp only[lays];refine Fe 1 (lZ g (m.p.length+1) q3) rfl (B3 ⟨by rfl,fun w' hSw=>by obtain⟨qa,⟨qb,qc,qd⟩,qe,qf,qg⟩:=hSw;obtain⟨j0,j1,j2,j3,j4⟩:=five qa;go_simp⟩) hHeld ?_;simp only[lays];refine Ar 2 (iI ((j+1:Nat):Int)) ?_;refine Ar 3 (iI (j:Int)) ?_;refine Ar 4 (pQ g (j*3)) ?_;simp only[lays];refine Fe 5 (.agg #[.string xn,iI xg,.slice xa xl xc]) rfl (B3 ⟨by rfl,fun w' hSw=>by obtain⟨qa,⟨qb,qc,qd⟩,qe,qf,qg⟩:=hSw;obtain⟨j0,j1,j2,j3,j4⟩:=five qa;go_simp⟩) hHeld ?_;simp only[lays];refine Ar 6 (pQ D 4) ?_;simp only[lays];refine Fe 7 (lZ g (m.p.length+1) q3) rfl (B3 ⟨by rfl,fun w' hSw=>by obtain⟨qa,⟨qb,qc,qd⟩,qe,qf,qg⟩:=hSw;obtain⟨j0,j1,j2,j3,j4⟩:=five qa;go_simp⟩) hHeld ?_;simp only[lays];refine Ar 8 (iI ((j+1:Nat):Int)) ?_;refine Ar 9 (pQ g ((j+1)*3)) ?_;simp only[lays];refine Fe 10 (.agg #[.string nm,iI m.g,.slice ya yl yc]) rfl (B3 ⟨by rfl,fun w' hSw=>by obtain⟨qa,⟨qb,qc,qd⟩,qe,qf,qg⟩:=hSw;obtain⟨j0,j1,j2,j3,j4⟩:=five qa;go_simp⟩) hHeld ?_;simp only[lays];refine Jo 11 12 rfl rfl (fun K hK=>?_) (fun K hK=>?_)
        · clear hHeld
          simp only[lays];rw[Ab (by rfl)];go_simp;obtain⟨X1,ae⟩:∃X,X=(wr.alloc zP).drew:=⟨_,rfl⟩;have ah:Bw wr X1:=by rw[ae];exact(Av).drew
          have bc:wr.heap.size+1<=X1.heap.size:=by rw[ae];show _<=(wr.alloc zP).heap.size;simp
          have aN:X1.heap[wr.heap.size]?=some zP:=by rw[ae];exact Aw _ _
          rw[<-ae];clear ae;refine hK.out _ _ (ao.o X1 ah) (fun hHeld=>?_);clear hK K;try simp only[lays]
          refine AC 12 rfl (fun K hK=>?_);clear hHeld;simp only[lays];rw[Ab (by rfl)];go_simp;obtain⟨X2,ak⟩:∃X,X=(X1.alloc zP):=⟨_,rfl⟩;have ai:Bw wr X2:=by rw[ak];exact ah.alloc oM _
          have ar:X2.heap[wr.heap.size]?=some zP:=by rw[ak];exact Aj aN _
          have au:X2.heap[X1.heap.size]?=some zP:=by rw[ak];exact Aw _ _
          have gx:wr.heap.size<=wr.heap.size:=oM;have gy:wr.heap.size<=X1.heap.size:=oM;have hxy:¬wr.heap.size=X1.heap.size:=oM;have ba:¬X1.heap.size=wr.heap.size:=oM;rw[<-ak];clear ak;refine hK.out _ _ (ao.o X2 ai) (fun hHeld=>?_);clear hK K;try simp only[lays]
          refine AC 13 rfl (fun K hK=>?_);clear hHeld;simp only[lays];rw[Ab (by rfl)];obtain⟨t0,t1,t2⟩:=Fv ar;have y0:=Aq ar 0;have y1:=Aq ar 1;have y2:=Aq ar 2;go_simp;obtain⟨X3,al⟩:∃X,X=(((X2.setCell (aZ wr.heap.size) (.string xn)).setCell (aD wr.heap.size 1) (iI xg)).setCell (aD wr.heap.size 2) (.slice xa xl xc)):=⟨_,rfl⟩;have aE:Bw wr X3:=by rw[al];exact((ai.setCell (p:=(aZ wr.heap.size)) gx _).setCell (p:=(aD wr.heap.size 1)) gx _).setCell (p:=(aD wr.heap.size 2)) gx _
          have bd:X3.heap[wr.heap.size]?=some (oN xn xg xa xl xc):=by rw[al];exact LV ar _ _ _
          have aA:X3.heap[X1.heap.size]?=some zP:=by rw[al];exact(JZ _ _ _ ba).trans au
          rw[<-al];clear al t0 t1 t2 y0 y1 y2 aN ar au;refine hK.out _ _ (ao.o X3 aE) (fun hHeld=>?_);clear hK K;try simp only[lays]
          refine AC 14 rfl (fun K hK=>?_);clear hHeld;simp only[lays];rw[Ab (by rfl)];obtain⟨t0,t1,t2⟩:=Fv aA;have y0:=Aq aA;go_simp;obtain⟨X4,am⟩:∃X,X=(((X3.setCell (aZ X1.heap.size) (.string nm)).setCell (aD X1.heap.size 1) (iI m.g)).setCell (aD X1.heap.size 2) (.slice ya yl yc)):=⟨_,rfl⟩;have aF:Bw wr X4:=by rw[am];exact((aE.setCell (p:=(aZ X1.heap.size)) gy _).setCell (p:=(aD X1.heap.size 1)) gy _).setCell (p:=(aD X1.heap.size 2)) gy _
          have be:X4.heap[wr.heap.size]?=some (oN xn xg xa xl xc):=by rw[am];exact(JZ _ _ _ hxy).trans bd
          have bf:X4.heap[X1.heap.size]?=some (oN nm m.g ya yl yc):=by rw[am];exact LV aA _ _ _
          rw[<-am];clear am t0 t1 t2 y0;refine hK.out _ _ (ao.o X4 aF) (fun hHeld=>?_);clear hK K hHeld;try simp only[lays]
          refine BQ kR ?_ _;go_wp2_with fail;go_meet;exact⟨_,_,rfl,rfl,⟨be,bf,aF,gx,gy⟩⟩
        · clear hHeld
          simp only[lays];rw[Ab (by rfl)];go_simp;obtain⟨X1,ae⟩:∃X,X=(wr.alloc zP).drew:=⟨_,rfl⟩;have ah:Bw wr X1:=by rw[ae];exact(Av).drew
          have bc:wr.heap.size+1<=X1.heap.size:=by rw[ae];show _<=(wr.alloc zP).heap.size;simp
          have aN:X1.heap[wr.heap.size]?=some zP:=by rw[ae];exact Aw _ _
          rw[<-ae];clear ae;refine hK.out _ _ (ao.o X1 ah) (fun hHeld=>?_);clear hK K;try simp only[lays]
          refine AC 11 rfl (fun K hK=>?_);clear hHeld;simp only[lays];rw[Ab (by rfl)];go_simp;obtain⟨X2,ak⟩:∃X,X=(X1.alloc zP):=⟨_,rfl⟩;have ai:Bw wr X2:=by rw[ak];exact ah.alloc oM _
          have ar:X2.heap[wr.heap.size]?=some zP:=by rw[ak];exact Aj aN _
          have au:X2.heap[X1.heap.size]?=some zP:=by rw[ak];exact Aw _ _
          have gx:wr.heap.size<=X1.heap.size:=oM;have gy:wr.heap.size<=wr.heap.size:=oM;have hxy:¬X1.heap.size=wr.heap.size:=oM;have ba:¬wr.heap.size=X1.heap.size:=oM;rw[<-ak];clear ak;refine hK.out _ _ (ao.o X2 ai) (fun hHeld=>?_);clear hK K;try simp only[lays]
          refine AC 13 rfl (fun K hK=>?_);clear hHeld;simp only[lays];rw[Ab (by rfl)];obtain⟨t0,t1,t2⟩:=Fv au;have y0:=Aq au 0;have y1:=Aq au 1;have y2:=Aq au 2;go_simp;obtain⟨X3,al⟩:∃X,X=(((X2.setCell (aZ X1.heap.size) (.string xn)).setCell (aD X1.heap.size 1) (iI xg)).setCell (aD X1.heap.size 2) (.slice xa xl xc)):=⟨_,rfl⟩;have aE:Bw wr X3:=by rw[al];exact((ai.setCell (p:=(aZ X1.heap.size)) gx _).setCell (p:=(aD X1.heap.size 1)) gx _).setCell (p:=(aD X1.heap.size 2)) gx _
          have bd:X3.heap[X1.heap.size]?=some (oN xn xg xa xl xc):=by rw[al];exact LV au _ _ _
          have aA:X3.heap[wr.heap.size]?=some zP:=by rw[al];exact(JZ _ _ _ ba).trans ar
          rw[<-al];clear al t0 t1 t2 y0 y1 y2 aN ar au;refine hK.out _ _ (ao.o X3 aE) (fun hHeld=>?_);clear hK K;try simp only[lays]
          refine AC 14 rfl (fun K hK=>?_);clear hHeld;simp only[lays];rw[Ab (by rfl)];obtain⟨t0,t1,t2⟩:=Fv aA;have y0:=Aq aA;go_simp;obtain⟨X4,am⟩:∃X,X=(((X3.setCell (aZ wr.heap.size) (.string nm)).setCell (aD wr.heap.size 1) (iI m.g)).setCell (aD wr.heap.size 2) (.slice ya yl yc)):=⟨_,rfl⟩;have aF:Bw wr X4:=by rw[am];exact((aE.setCell (p:=(aZ wr.heap.size)) gy _).setCell (p:=(aD wr.heap.size 1)) gy _).setCell (p:=(aD wr.heap.size 2)) gy _
          have be:X4.heap[X1.heap.size]?=some (oN xn xg xa xl xc):=by rw[am];exact(JZ _ _ _ hxy).trans bd
          have bf:X4.heap[wr.heap.size]?=some (oN nm m.g ya yl yc):=by rw[am];exact LV aA _ _ _
          rw[<-am];clear am t0 t1 t2 y0;refine hK.out _ _ (ao.o X4 aF) (fun hHeld=>?_);clear hK K hHeld;try simp only[lays]
          refine BQ kR ?_ _;go_wp2_with fail;go_meet;exact⟨_,_,rfl,rfl,⟨be,bf,aF,gx,gy⟩⟩
      case rest=>
      obtain⟨bx,aB,rfl,rfl,bg⟩:=hcut;obtain⟨ws,cd⟩:∃X,X=wc:=⟨_,rfl⟩;subst cd;obtain⟨kx,ky,bs,gx,gy⟩:=bg.o;obtain⟨qa,⟨qb,qc,qd⟩,qe,qf,qg⟩:=ao.o _ bs;have o0:=five qa;obtain⟨t0,t1,t2⟩:=Fv kx;obtain⟨s0,s1,s2⟩:=Fv ky;have a6:=(bs.block g ay).trans b9.o;have z0:=Aq a6 (j*3);have z1:=Aq a6 (j*3+1);have z2:=Aq a6 (j*3+1+1);have z3:=Aq a6 ((j+1)*3);have z4:=Aq a6 ((j+1)*3+1);have z5:=Aq a6 ((j+1)*3+1+1);have cs:¬bx=g:=oM;have cf:¬g=bx:=oM;have ct:¬aB=g:=oM;have cg:¬g=aB:=oM;have bz:Hd (Bw wr ws):=bs;clear kx ky bs qa bg a6;go_wp2_with fail;go_roundw
      case rel=>
        obtain⟨hX,ab,ac,ad,bV,bW,bY⟩:=bE.o;have bs:=bz.o;have key:=de (k:=j) (m:=m) (s:=(nm,m.g,m.r)) hj (hX.below bs) (Below.on ab bs) (Ag ac bs aw) aj ad bV;have bO:m.p.getD j default=(xn,xg,xr):=by rw[<-aR.o];simp[List.getD,hj]
        rw[bO,bW,bY]at key;exact⟨j,bS,oM,by first|rfl|go_num,key⟩
      case measure=>simp[intOf]
    | false=>
      have bo:k=Cy m.p nm:=by have:=av.o;simp at this;omega
      have aS:Hd (AX w1 wr D MR):=by have:=aC.o;rw[bo,HMR.o]at this;exact this
      clear aC av eL bo bT bn;obtain⟨val,hX,ac,ad⟩:=aS.o.ex;have ab:=aS.o.bel;have aj:=aS.o.ge;obtain⟨p0,q0,p1,q1,p2,q2,p3,q3,x0,x1,x2,x3⟩:=hX.four';have af:=ac;rw[x0,x1,x2,x3]at af;obtain⟨d0,d1,d2,d3,d4⟩:=five af;have z9:=Ag n1 ab bu;obtain⟨z0,z1,z2,z3,z4⟩:=five z9;have y0:=Aq z9;have cq:¬D=w.heap.size+1:=oM;have cr:¬w.heap.size+1=D:=oM;have hc:=KC hX ab.size HSh.o;unfold AB at hc;rw[x0,x1,x2,x3]at hc;have b6:Hd (Cl 127 #[.agg (aI MR p0 q0 p1 q1 p2 q2 p3 q3)] wr fun r w'=>∃val',r=.returned (AB MR.g val')/\OX w' w1.heap.size val' (At MR)/\Below w1.heap.size wr w'/\BC wr w' MR val/\DB wr MR val (nl) (At MR) val'):=hc;have ce:w.heap.size+1<wr.heap.size:=AO bu ab.size;have bL:∀a,Ad MR a->(val a).ownBlock≠some (w.heap.size+1):=fun a ha x=>by have:=((hX.row a ha).lt _ x).1;omega
      clear hc;go_wp2_with(go_at_call 127;refine b6.o.mono ?_;rintro e7 w7 ⟨val2,rfl,aV,b7,k7,s7⟩;obtain⟨u0,v0,u1,v1,u2,v2,u3,v3,j0,j1,j2,j3⟩:=aV.four';have bv:=(k7 (w.heap.size+1) ce bL).trans z9;have o0:=five bv;have cu:=Aq bv;unfold AB;rw[j0,j1,j2,j3]);have bK:∀a,Ad (At MR) a->(val2 a).ownBlock≠some (w.heap.size+1):=fun a ha x=>by
        have:=((aV.row a ha).lt _ x).1;omega
      have hI:=fun x0 x1 x2 x3 x4=>aV.five bK x0 x1 x2 x3 x4
      have eI:AB (At MR).g val2=.agg #[iI MR.g,.slice u0 (At MR).r.length v0,.slice u1 (At MR).s.length v1,.slice u2 (At MR).f.length v2,.slice u3 (At MR).p.length v3]:=by unfold AB;rw[j0,j1,j2,j3];rfl
      have bF:Bw w w7:=(Below.on bw ab).trans (b7.mono oM);refine AY (v:=.tuple #[.agg #[iI MR.g,.slice u0 (At MR).r.length v0,.slice u1 (At MR).s.length v1,.slice u2 (At MR).f.length v2,.slice u3 (At MR).p.length v3],iI 0]) (by simp[results,results68,go_sem,o0]) rfl ⟨u0,v0,u1,v1,u2,v2,u3,v3,rfl,fun W' hW=>(by have:=((hI _ _ _ _ _).keep (fun q hq _=>hW q oM)).img;rw[eI]at this;exact this),CP bF (Cw _) _ _ _ _ _⟩
theorem Z9 (h:Al w v m)(hR:Ao m=0)(nm:ByteArray)(hM:GV m nm=M)(hE:EL m nm=E):Cl 68 #[v,.string nm] w (Cp w M E):=by
 have h':=h;obtain⟨ra,rc,sa,sc,fa,fc,na,nc,rfl,_⟩:=h.parts;subst hM hE
 by_cases h0:EL m nm=0
 ·obtain⟨hC,hn,hx,h3,e,hs,_⟩:=Pr h0;rw[h0,e];rw[R6]at hs ⊢;exact Z8 ra rc sa sc fa fc na nc m nm w h' hC hn (by rw[hx];rfl) (by simp;omega) _ rfl (Kb hs)
 ·rw[R5 h0];unfold EL
  by_cases hC:Ao m=0
  ·rw[Aa (fun x=>x hC)]
   by_cases hn:BG nm=false
   ·rw[Ab hn];exact Z7 ra rc sa sc fa fc na nc m nm w h' hC hn
   ·rw[Aa hn];have aa:BG nm=true:=by simpa using hn
    cases hx:BU m.p nm with
    | some k=>rw[Ab (show (some k).isSome=true from rfl)];exact cw ra rc sa sc fa fc na nc m nm w h' hC aa k (by rw[hx];rfl)
    | none=>
     rw[Aa (by simp)]
     by_cases h3:m.p.length=3
     ·rw[Ab h3];exact Z6 ra rc sa sc fa fc na nc m nm w h' hC aa (by rw[hx];rfl) (by simp;omega)
     ·exact absurd (by unfold EL;rw[Aa (fun x=>x hC),Aa hn,hx,Aa (by simp),Aa h3]) h0
  ·exact absurd hR hC

theorem cE (ra:Option Addr)(rc:Nat)(sa:Option Addr)(sc:Nat)(fa:Option Addr)(fc:Nat)(na:Option Addr)(nc:Nat)(m:Ac)(nm:ByteArray)(w:World)(h:Al w (.agg (aI m ra rc sa sc fa fc na nc)) m)(hE:Ao m=0)(hi:G0 (BU m.p nm) = -1):Cl 69 #[.agg (aI m ra rc sa sc fa fc na nc),.string nm] w (Cp w AZ 5):=by
 let V:=((w.alloc (cA m ra rc sa sc fa fc na nc)).alloc zI)
 have b0:Bw w V:=(Av).alloc (by simp[V]) _;have m0:V.heap[w.heap.size]?=some (cA m ra rc sa sc fa fc na nc):=Aj (Aw _ _) _;have m1:V.heap[w.heap.size+1]?=some zI:=AR (by simp[V]);have hsz:w.heap.size+1<V.heap.size:=by simp[V]
 have I0:=h.below b0;have c0:=five m0;have ab:=F9 I0 hE;have aa:Hd (∀W,Below V.heap.size V W->Cl 125 #[.agg (aI m ra rc sa sc fa fc na nc),.string nm] W fun r w'=>r=.returned (iI (-1))/\Bw W w'):=fun W hW=>Kc (I0.below hW) nm (by have:=(Au (A0 hE)).1;omega) hi
 clear h hE I0;dsimp only[V]at *;clear V
 go_enter func69,ntmps69
 go_wp2_with(first|(go_at_call 125;refine(aa.o _ bA).mono ?_;rintro e2 wB ⟨rfl,bB⟩;have bC:=Below.on bA bB;have k0:=Ag m0 bC oM;have k1:=Ag m1 bC hsz;have g0:=five k0;have z0:=five k1;have y0:=Aq k1)|(go_at_call 66;refine ab.mono ?_;rintro e1 wA ⟨rfl,bA⟩;have n0:=Ag m0 bA oM;have d0:=five n0));refine AY (v:=.tuple #[.agg #[iI 0,nl,nl,nl,nl],iI 5]) (by simp[results,results69,go_sem,z0]) rfl ⟨none,0,none,0,none,0,none,0,rfl,fun W' _=>FK W',CP (Below.on b0 bC) (Cw _) _ _ _ _ _⟩
theorem cF (ra:Option Addr)(rc:Nat)(sa:Option Addr)(sc:Nat)(fa:Option Addr)(fc:Nat)(nb no:Nat)(nc:Nat)(m:Ac)(nm:ByteArray)(k:Nat)(w:World)(h:Al w (.agg (aI m ra rc sa sc fa fc (sD nb no) nc)) m)(hC:Ao m=0)(hi:G0 (BU m.p nm)=(k:Int))(hk:k<m.p.length)(hnb:nb<w.heap.size)(sn:ByteArray)(sg:Int)(sr:List Int)(rv:Value)(s1:w.cell? (aD nb (no+k*3+1))=some (iI sg))(s2:w.cell? (aD nb (no+k*3+1+1))=some rv)(hsl:Sl w rv sr)(hs4:sr.length<=4)(MR:Ac)(HMR:Hd ({ {m with g:=sg} with r:=sr} = MR))(HSh:Hd (As {MR with f:=BX MR.s} = 0)):Cl 69 #[.agg (aI m ra rc sa sc fa fc (sD nb no) nc),.string nm] w (Cp w (At MR) 0):=by
 let U:=((w.alloc (cA m ra rc sa sc fa fc (sD nb no) nc)).alloc zI)
 have b0:Bw w U:=(Av).alloc (by simp[U]) _;have m0:U.heap[w.heap.size]?=some (cA m ra rc sa sc fa fc (sD nb no) nc):=Aj (Aw _ _) _;have m1:U.heap[w.heap.size+1]?=some zI:=by have:=C2 (w.alloc (cA m ra rc sa sc fa fc (sD nb no) nc)) zI;simpa[U] using this
 have hsz:w.heap.size+1<U.heap.size:=by simp[U]
 have I0:=h.below b0;have hs:=A0 hC;have a7:=F9 I0 hC;have aq:Hd (∀W,Below U.heap.size U W->Cl 125 #[.agg (aI m ra rc sa sc fa fc (sD nb no) nc),.string nm] W fun r w'=>r=.returned (iI (k:Int))/\Bw W w'):=fun W hW=>Kc (I0.below hW) nm (by have:=(Au (A0 hC)).1;omega) hi
 have hk0:¬(k:Int)<0:=oM;have aB:decide ((k:Int)<0)=false:=by simp[U]
 have aK:(k:Int)<(m.p.length:Int):=oM;have c0:=five m0;have af:Hd (U.cell? (aD nb (no+k*3+1))=some (iI sg)/\U.cell? (aD nb (no+k*3+1+1))=some rv/\Sl U rv sr/\nb<U.heap.size):=⟨(b0.cell (p:=(aD nb (no+k*3+1))) hnb).trans s1,(b0.cell (p:=(aD nb (no+k*3+1+1))) hnb).trans s2,hsl.below b0,AO hnb b0.size⟩;obtain⟨va,vc,rfl⟩:=hsl.form;clear h hC s1 s2 hsl hi;dsimp only[U]at *;clear U
 go_enter func69,ntmps69
 go_upto_region 7 with(first|(go_at_call 125;refine(aq.o _ bA).mono ?_;rintro e2 wB ⟨rfl,bB⟩;have bC:=Below.on bA bB;have kB:=Ag m0 bC oM;have g0:=five kB)|(go_at_call 66;refine a7.mono ?_;rintro e1 wA ⟨rfl,bA⟩;have nA:=Ag m0 bA oM;have d0:=five nA));clear c0 d0 g0 kB nA;obtain⟨w1,ao⟩:∃X,X=wB:=⟨_,rfl⟩;have b1:Below ((w.alloc (cA m ra rc sa sc fa fc (sD nb no) nc)).alloc zI).heap.size ((w.alloc (cA m ra rc sa sc fa fc (sD nb no) nc)).alloc zI) w1:=by rw[ao];exact bC
 rw[<-ao];clear ao;have au:w.heap.size+1<w1.heap.size:=AO hsz b1.size;have n0:=Ag m0 b1 oM;have n1:=Ag m1 b1 hsz;have bw:Bw w w1:=Below.on b0 b1;have I1:=I0.below b1;have f0:=five n0;have ap:=J6 I1 hs
 go_cut [8] from 9 (fun s wx=>∃D,s=pZ D/\Hd (AX w1 wx D m))
 case first=>
  go_wp2_with(go_at_call 126;refine ap.mono ?_;rintro e3 w3 ⟨val,rfl,hO,b3⟩;obtain⟨p0,q0,p1,q1,p2,q2,p3,q3,x0,x1,x2,x3⟩:=hO.four';unfold AB;rw[x0,x1,x2,x3]);go_meet;have s3:=b3.size;exact⟨_,rfl,⟨⟨val,hO.alloc _,by rw[x0,x1,x2,x3];exact Aw _ _,hO.lt lE⟩,s3,b3.alloc s3 _⟩⟩
 case rest=>
 obtain⟨D,rfl,ah⟩:=hcut;obtain⟨wa,aC⟩:∃X,X=wc:=⟨_,rfl⟩;subst aC;clear ap f0;have ag:Hd (w1.cell? (aD nb (no+k*3+1))=some (iI sg)/\w1.cell? (aD nb (no+k*3+1+1))=some (.slice va sr.length vc)/\Sl w1 (.slice va sr.length vc) sr/\nb<w1.heap.size):=⟨(b1.cell (p:=(aD nb (no+k*3+1))) af.o.2.2.2).trans af.o.1,(b1.cell (p:=(aD nb (no+k*3+1+1))) af.o.2.2.2).trans af.o.2.1,af.o.2.2.1.below b1,AO af.o.2.2.2 b1.size⟩;clear af aq;go_upto_region 8 with fail
 go_cut [] from 9 (fun wx=>Hd (AX w1 wx D {m with g:=sg}))
 case first=>
  obtain⟨val,hX,ab,ac⟩:=ah.o.ex;have aa:=ah.o.bel;have ae:=ah.o.ge;obtain⟨p0,q0,p1,q1,p2,q2,p3,q3,x0,x1,x2,x3⟩:=hX.four';have ad:=ab;rw[x0,x1,x2,x3]at ad;have az:=(AA ad);have aj:=aa.size;have d0:=five ad;have aJ:=Aq ad;have cg:=(aa.cell (p:=(aD nb (no+k*3+1))) ag.o.2.2.2).trans ag.o.1;have nX:=Ag n0 aa oM;have g0:=five nX;go_wp2_with fail;go_meet;exact TE hX aa ab ae ac sg
 case rest=>
 have ai:=hcut;obtain⟨wb,aE⟩:∃X,X=wc:=⟨_,rfl⟩;subst aE;clear hcut ah;go_upto_region 9 with fail
 go_cut [] from 9 (fun wx=>Hd (AX w1 wx D MR))
 case first=>
  obtain⟨val,hX,ab,ac⟩:=ai.o.ex;have aa:=ai.o.bel;have ae:=ai.o.ge;obtain⟨p0,q0,p1,q1,p2,q2,p3,q3,x0,x1,x2,x3⟩:=hX.four';have ad:=ab;rw[x0,x1,x2,x3]at ad;have az:=(AA ad);have aj:=aa.size;have d0:=five ad;have cg:=(aa.cell (p:=(aD nb (no+k*3+1+1))) ag.o.2.2.2).trans ag.o.2.1;have aH:(wb.alloc (.cells #[] 3)).cell? (aD nb (no+k*3+1+1))=some (.slice va sr.length vc):=((Av).cell (p:=(aD nb (no+k*3+1+1))) (AO ag.o.2.2.2 aj)).trans cg;have nX:=Aj (Ag n0 aa oM) (.cells #[] 3);have g0:=five nX;have an:Sl (wb.alloc (.cells #[] 3)) (.slice va sr.length vc) sr:=(ag.o.2.2.1.below aa).below (Av);have hne:wb.heap[wb.heap.size]?=none:=by simp
  have HX:Hd (OX wb w1.heap.size val {m with g:=sg}/\wb.heap[D]?=some (.cells #[iI sg,val .r,val .s,val .f,val .p] 33)/\(∀a,Ad {m with g:=sg} a->(val a).ownBlock≠some D)/\Bw w1 wb):=⟨hX,ab,ac,aa⟩;have ax:Hd (wb.heap[D]?=some (cB sg p0 m.r.length q0 p1 m.s.length q1 p2 m.f.length q2 p3 m.p.length q3)):=ad;clear hX ab ac aa ad x0 x1 x2 x3 hne;go_wp2_with(at_builtin;refine Ot (by rfl) _ _ (by rfl) (B:=w1.heap.size) (by rfl) (Aw _ _) aj (by rfl) an oM ?_;intro v1 w8 h1 h2 h3;obtain⟨ya,yc,hy⟩:=B0 h1.o;subst hy;have al:w8.heap[D]?=some (cB sg p0 m.r.length q0 p1 m.s.length q1 p2 m.f.length q2 p3 m.p.length q3):=(h2.block D (by simp;omega) (by intro e;injection e with e;omega)).trans (Aj ax.o _);have r0:=five al;have aO:=Aq al;have H2:Hd ((wb.alloc (.cells #[] 3)).grownBy w8 (some wb.heap.size)):=h2;clear h2 al);go_meet;obtain⟨hX,ab,ac,aa⟩:=HX.o;rw[<-HMR.o];have ar:=H2.o;have a6:Bw w1 w8:=IV (aa.alloc aj _) ar (by simp;omega) (fun q e=>by injection e with e;omega);refine NV (V:=w1) (X:=wb) (W:=w8) (r:=sr) hX ab ae ac h1.o (fun q hq _=>?_) a6 (.inr (fun q e=>?_))
  ·exact(ar.block q (by simp;omega) (by intro e;injection e with e;omega)).trans (Ch wb _ q hq)
  ·rcases h3.o with x|x
   ·rw[x]at e;injection e with e;omega
   ·rw[x]at e;injection e with e;simp at e;omega
 case rest=>
 have ak:=hcut;obtain⟨wg,aF⟩:∃X,X=wc:=⟨_,rfl⟩;subst aF;clear hcut ai;obtain⟨val,hX,ab,ac⟩:=ak.o.ex;have aa:=ak.o.bel;have ae:=ak.o.ge;obtain⟨p0,q0,p1,q1,p2,q2,p3,q3,x0,x1,x2,x3⟩:=hX.four';have ad:=ab;rw[x0,x1,x2,x3]at ad;have d0:=five ad;have z9:=Ag n1 aa au;have z0:=five z9;have y0:=Aq z9;have aL:¬D=w.heap.size+1:=oM;have aM:¬w.heap.size+1=D:=oM;have hc:=KC hX aa.size HSh.o;unfold AB at hc;rw[x0,x1,x2,x3]at hc;have aw:Hd (Cl 127 #[.agg (aI MR p0 q0 p1 q1 p2 q2 p3 q3)] wg fun r w'=>∃val',r=.returned (AB MR.g val')/\OX w' w1.heap.size val' (At MR)/\Below w1.heap.size wg w'/\BC wg w' MR val/\DB wg MR val (nl) (At MR) val'):=hc;have aG:w.heap.size+1<wg.heap.size:=AO au aa.size;have aA:∀a,Ad MR a->(val a).ownBlock≠some (w.heap.size+1):=fun a ha x=>by have:=((hX.row a ha).lt _ x).1;omega
 clear hc;go_wp2_with(go_at_call 127;refine aw.o.mono ?_;rintro e7 w7 ⟨val2,rfl,am,b7,k7,s7⟩;obtain⟨u0,v0,u1,v1,u2,v2,u3,v3,j0,j1,j2,j3⟩:=am.four';have av:=(k7 (w.heap.size+1) aG aA).trans z9;have o0:=five av;have aN:=Aq av;unfold AB;rw[j0,j1,j2,j3]);have a8:∀a,Ad (At MR) a->(val2 a).ownBlock≠some (w.heap.size+1):=fun a ha x=>by
  have:=((am.row a ha).lt _ x).1;omega
 have hI:=fun x0 x1 x2 x3 x4=>am.five a8 x0 x1 x2 x3 x4
 have eI:AB (At MR).g val2=.agg #[iI MR.g,.slice u0 (At MR).r.length v0,.slice u1 (At MR).s.length v1,.slice u2 (At MR).f.length v2,.slice u3 (At MR).p.length v3]:=by unfold AB;rw[j0,j1,j2,j3];rfl
 have ay:Bw w w7:=(Below.on bw aa).trans (b7.mono oM);refine AY (v:=.tuple #[.agg #[iI MR.g,.slice u0 (At MR).r.length v0,.slice u1 (At MR).s.length v1,.slice u2 (At MR).f.length v2,.slice u3 (At MR).p.length v3],iI 0]) (by simp[results,results69,go_sem,o0]) rfl ⟨u0,v0,u1,v1,u2,v2,u3,v3,rfl,fun W' hW=>(by have:=((hI _ _ _ _ _).keep (fun q hq _=>hW q oM)).img;rw[eI]at this;exact this),CP ay (Cw _) _ _ _ _ _⟩
theorem cG (h:Al w v m)(hR:Ao m=0)(nm:ByteArray)(hM:GL m nm=M)(hE:CW m nm=E):Cl 69 #[v,.string nm] w (Cp w M E):=by
 have h':=h;obtain⟨ra,rc,sa,sc,fa,fc,na,nc,rfl,_⟩:=h.parts;subst hM hE
 by_cases h0:CW m nm=0
 ·obtain⟨hC,k,hk,hl,e,hs,_⟩:=QN h0;rw[h0,e];obtain⟨nb,no,aa,ev,_,hlt,hS⟩:=h'.four.2.2.2.open oM;simp only[BP]at ev;obtain⟨rfl,_,rfl⟩:=ev;obtain⟨rv,a0,a1,a2,a3⟩:=hS k hl;have hg:m.p[k]=m.p.getD k default:=by simp[List.getD,hl]
  obtain⟨f1,f2,f3,_⟩:=Fb (A0 hC) (s:=m.p[k]) (CA _ (BS hl));exact cF ra rc sa sc fa fc nb no nc m nm k w h' hC (by rw[hk];rfl) hl hlt m.p[k].1 m.p[k].2.1 m.p[k].2.2 rv a1 a2 a3 oM _ (by rw[hg];rfl) (Kb hs)
 ·rw[UJ h0];unfold CW at h0 ⊢
  by_cases hC:Ao m=0
  ·rw[Aa (fun x=>x hC)]at h0 ⊢
   cases hx:BU m.p nm with
   | some k=>rw[hx]at h0;exact absurd rfl h0
   | none=>exact cE ra rc sa sc fa fc na nc m nm w h' hC (by rw[hx];rfl)
  ·exact absurd hR hC

theorem cy (ra:Option Addr)(rc:Nat)(sa:Option Addr)(sc:Nat)(fa:Option Addr)(fc:Nat)(na:Option Addr)(nc:Nat)(m:Ac)(nm:ByteArray)(w:World)(h:Al w (.agg (aI m ra rc sa sc fa fc na nc)) m)(hE:Ao m=0)(hi:G0 (BU m.p nm) = -1):Cl 70 #[.agg (aI m ra rc sa sc fa fc na nc),.string nm] w (Cp w AZ 5):=by
 let V:=((w.alloc (cA m ra rc sa sc fa fc na nc)).alloc zI)
 have b0:Bw w V:=(Av).alloc (by simp[V]) _;have m0:V.heap[w.heap.size]?=some (cA m ra rc sa sc fa fc na nc):=Aj (Aw _ _) _;have m1:V.heap[w.heap.size+1]?=some zI:=AR (by simp[V]);have hsz:w.heap.size+1<V.heap.size:=by simp[V]
 have I0:=h.below b0;have c0:=five m0;have ab:=F9 I0 hE;have aa:Hd (∀W,Below V.heap.size V W->Cl 125 #[.agg (aI m ra rc sa sc fa fc na nc),.string nm] W fun r w'=>r=.returned (iI (-1))/\Bw W w'):=fun W hW=>Kc (I0.below hW) nm (by have:=(Au (A0 hE)).1;omega) hi
 clear h hE I0;dsimp only[V]at *;clear V
 go_enter func70,ntmps70
 go_wp2_with(first|(go_at_call 125;refine(aa.o _ bA).mono ?_;rintro e2 wB ⟨rfl,bB⟩;have bC:=Below.on bA bB;have k0:=Ag m0 bC oM;have k1:=Ag m1 bC hsz;have g0:=five k0;have z0:=five k1;have y0:=Aq k1)|(go_at_call 66;refine ab.mono ?_;rintro e1 wA ⟨rfl,bA⟩;have n0:=Ag m0 bA oM;have d0:=five n0));refine AY (v:=.tuple #[.agg #[iI 0,nl,nl,nl,nl],iI 5]) (by simp[results,results70,go_sem,z0]) rfl ⟨none,0,none,0,none,0,none,0,rfl,fun W' _=>FK W',CP (Below.on b0 bC) (Cw _) _ _ _ _ _⟩
theorem V0 {B n g c:Nat}{xs:List Value}(hk:k<n)(h:w.ownsRow B 87 3 (lZ g n c) n xs)(h1:∀u∈xs,u.oneCell'=true)(hx:n-(k+1)≠0->True):∃W',(∀ty mc o,(o=(k+1)*3\/n=k+1)->(Builtin.append_ #[31,31] ty #[lZ g k c,lD g o (n-(k+1)) mc]).run prog w=.ok (lZ g (n-1) c) W')/\W'.ownsRow B 87 3 (lZ g (n-1) c) (n-1) (xs.take (k*3)++xs.drop ((k+1)*3))/\w.grownBy W' (some g):=by
 rcases h.2 with⟨e,_⟩|⟨g',c',cur,e,hgB,hg,hnc,hcm,hsz,htk⟩
 ·cases e
 ·simp only[BP,Ct,FR,Hh,Jb]at e;obtain⟨rfl,rfl⟩:=e;have ab:cur.toList.length=c*3:=by rw[Gp];exact hsz
  have ac:=h.1;have aa:((cur.toList.take (n*3)).drop ((k+1)*3)).length=(n-(k+1))*3:=by rw[CZ,BI,ab];omega
  refine⟨w.setRow g (Ej cur.toList n k).toArray,fun ty mc o ho=>?_,?_,?_⟩
  ·have:=UI w ty g k c (aD g o) (n-(k+1)) mc cur 87 ((cur.toList.take (n*3)).drop ((k+1)*3)) hg aa oM
    (fun j v hj=>by
     rcases ho with rfl|ho
     ·rw[IR];rw[Gq,Fg]at hj
      split at hj
      ·simp only[World.cell?];rw[hg]
       simpa using hj
      ·cases hj
     ·rw[show n-(k+1)=0 by omega,Nat.zero_mul,Iq]at aa;rw[aa]at hj
      cases hj)
    (by rw[aa,hsz];omega) (fun u hu=>h1 u (by rw[htk]at hu;exact OO hu))
   rw[show k+(n-(k+1))=n-1 by omega]at this;exact this
  ·refine⟨?_,.inr ⟨g,c,_,rfl,hgB,Ja w g _ _ 87 (0,0) hg,oM,hcm,?_,?_⟩⟩
   ·rw[Bl,BI,CZ,ac];omega
   ·rw[EG,Px hk hnc ab]
   ·rw[<-htk];have:((Ej cur.toList n k).toArray.toList.take ((n-1)*3))=(cur.toList.take (n*3)).take (k*3)++(cur.toList.take (n*3)).drop ((k+1)*3):=by
     unfold Ej;rw[Vz (by rw[Bl,aa,BI,ab];omega),DF (by rw[Bl,aa,BI,ab];omega),List.take_take,OU oM]
    exact this
  ·exact⟨rfl,rfl,rfl,by simp,fun q _ hq=>JL _ g q _ (fun e=>hq (by rw[e]))⟩
theorem cz (ra:Option Addr)(rc:Nat)(sa:Option Addr)(sc:Nat)(fa:Option Addr)(fc:Nat)(nb no:Nat)(nc:Nat)(m:Ac)(nm:ByteArray)(k:Nat)(w:World)(h:Al w (.agg (aI m ra rc sa sc fa fc (sD nb no) nc)) m)(hC:Ao m=0)(hi:G0 (BU m.p nm)=(k:Int))(hk:k<m.p.length)(hnb:nb<w.heap.size)(MR:Ac)(HMR:Hd (Dk m k=MR))(HSh:Hd (As {MR with f:=BX MR.s} = 0)):Cl 70 #[.agg (aI m ra rc sa sc fa fc (sD nb no) nc),.string nm] w (Cp w (At MR) 0):=by
 let V:=((w.alloc (cA m ra rc sa sc fa fc (sD nb no) nc)).alloc zI)
 have b0:Bw w V:=(Av).alloc (by simp[V]) _;have m0:V.heap[w.heap.size]?=some (cA m ra rc sa sc fa fc (sD nb no) nc):=Aj (Aw _ _) _;have m1:V.heap[w.heap.size+1]?=some zI:=by have:=C2 (w.alloc (cA m ra rc sa sc fa fc (sD nb no) nc)) zI;simpa[V] using this
 have hsz:w.heap.size+1<V.heap.size:=by simp[V]
 have I0:=h.below b0;have hs:=A0 hC;have aH:=F9 I0 hC;have a6:Hd (∀W,Below V.heap.size V W->Cl 125 #[.agg (aI m ra rc sa sc fa fc (sD nb no) nc),.string nm] W fun r w'=>r=.returned (iI (k:Int))/\Bw W w'):=fun W hW=>Kc (I0.below hW) nm (by have:=(Au (A0 hC)).1;omega) hi
 have hk0:¬(k:Int)<0:=oM;have aL:decide ((k:Int)<0)=false:=by simp[V]
 have aQ:(k:Int)<(m.p.length:Int):=oM;have c0:=five m0;clear h hC hi;dsimp only[V]at *;clear V
 go_enter func70,ntmps70
 go_upto_region 7 with(first|(go_at_call 125;refine(a6.o _ bA).mono ?_;rintro e2 wB ⟨rfl,bB⟩;have bC:=Below.on bA bB;have kB:=Ag m0 bC oM;have g0:=five kB)|(go_at_call 66;refine aH.mono ?_;rintro e1 wA ⟨rfl,bA⟩;have nA:=Ag m0 bA oM;have d0:=five nA));clear c0 d0 g0 kB nA;obtain⟨w1,an⟩:∃X,X=wB:=⟨_,rfl⟩;have b1:Below ((w.alloc (cA m ra rc sa sc fa fc (sD nb no) nc)).alloc zI).heap.size ((w.alloc (cA m ra rc sa sc fa fc (sD nb no) nc)).alloc zI) w1:=by rw[an];exact bC
 rw[<-an];clear an;have aA:w.heap.size+1<w1.heap.size:=AO hsz b1.size;have n0:=Ag m0 b1 oM;have n1:=Ag m1 b1 hsz;have bw:Bw w w1:=Below.on b0 b1;have I1:=I0.below b1;have f0:=five n0;have az:=J6 I1 hs
 go_cut [8] from 9 (fun s wx=>∃D,s=pZ D/\Hd (AX w1 wx D m))
 case first=>
  go_wp2_with(go_at_call 126;refine az.mono ?_;rintro e3 w3 ⟨val,rfl,hO,b3⟩;obtain⟨p0,q0,p1,q1,p2,q2,p3,q3,x0,x1,x2,x3⟩:=hO.four';unfold AB;rw[x0,x1,x2,x3]);go_meet;have s3:=b3.size;exact⟨_,rfl,⟨⟨val,hO.alloc _,by rw[x0,x1,x2,x3];exact Aw _ _,hO.lt lE⟩,s3,b3.alloc s3 _⟩⟩
 case rest=>
 obtain⟨D,rfl,am⟩:=hcut;obtain⟨wa,aM⟩:∃X,X=wc:=⟨_,rfl⟩;subst aM;clear az f0;clear a6;go_upto_region 8 with fail
 go_cut [] from 9 (fun wx=>Hd (AX w1 wx D MR))
 case first=>
  obtain⟨val,hX,ab,ac⟩:=am.o.ex;have aa:=am.o.bel;have aj:=am.o.ge;obtain⟨p0,q0,p1,q1,p2,q2,p3,q3,x0,x1,x2,x3⟩:=hX.four';have ae:=ab;rw[x0,x1,x2,x3]at ae;have aG:=(AA ae);have aR:=aa.size;have d0:=five ae;have ad:wa.ownsRow w1.heap.size 87 3 (val .p) m.p.length (A8 m.p (fun j=>val (.sr j))):=hX.row .p (Ad.p m);obtain⟨_,_,e3,a8⟩:=hX.forms .p (Ad.p m);rw[x3]at e3;simp only[BP]at e3;obtain⟨rfl,ar,rfl⟩:=e3;clear ar;obtain⟨g,rfl⟩:=a8 (by show 0<m.p.length;omega);rw[x3]at ad;have a7:∀u∈A8 m.p (fun j=>val (.sr j)),u.oneCell'=true:=PI fun j hj=>UW (hX.row (.sr j) (Ad.sr hj))
  obtain⟨ak,af⟩:=(Gm ad).2.2;obtain⟨W8,al,ag,aq⟩:=V0 hk (World.ownsRow.drew ad) a7 (fun _=>trivial);obtain⟨o2,au⟩:∃o,(q3=k+1/\o=0)\/(¬q3=k+1/\o=(k+1)*3):=by
   by_cases e:q3=k+1
   ·exact⟨0,.inl ⟨e,rfl⟩⟩
   ·exact⟨_,.inr ⟨e,rfl⟩⟩
  have aw:Hd ((q3=k+1/\o2=0)\/(¬q3=k+1/\o2=(k+1)*3)):=au;have ay:Hd (o2=(k+1)*3\/m.p.length=k+1):=by rcases au with⟨e,_⟩|⟨_,e⟩;exact .inr oM;exact .inl e
  have av:Hd ((∀ty mc o,(o=(k+1)*3\/m.p.length=k+1)->(Builtin.append_ #[31,31] ty #[lZ g k q3,lD g o (m.p.length-(k+1)) mc]).run prog wa.drew=.ok (lZ g (m.p.length-1) q3) W8)/\True):=⟨al,trivial⟩;have aF:D≠g:=fun e=>ac .p (Ad.p m) (by rw[x3,e];rfl)
  have ax:Hd (W8.heap[D]?=some (cA m p0 q0 p1 q1 p2 q2 (sZ g) q3)):=(aq.block D aG (by intro e;injection e with e;exact aF e)).trans ae;have ai:Hd (Hd (AX w1 (W8.setCell (aD D 4) (lZ g (m.p.length-1) q3)) D MR)):=by
   rw[<-HMR.o];exact c7 hX.drew aa.drew ab aj ac hk ag (by rw[x3];exact aq) (by rw[x3];rfl)
  have an:IntKind.i64.wrap ((k:Int)+1)=(k:Int)+1:=by rw[G9];unfold maxLen at af;omega
  have t1:(k:Int)<=(q3:Int):=oM;have t2:k<=q3:=oM;have t3:(0:Int)<=(k:Int)+1:=oM;have t4:(k:Int)+1<=(m.p.length:Int):=oM;have t5:k+1<=m.p.length:=oM;have t6:((k:Int)+1).toNat=k+1:=oM;have t7:¬q3=0:=oM;clear hX ab ac aa ad a7 al ag aq ae x0 x1 x2 x3 ak af au a8;refine BT (S:=fun _=>True) kR trivial (fun hHeld=>?_);refine Ar 0 (pQ D 4) ?_;refine Ar 2 (iI (k:Int)) ?_;refine Ar 4 (pQ D 4) ?_;refine Ar 6 (iI (k:Int)) ?_;refine Ar 7 (iI ((k:Int)+1)) ?_;simp only[lays];refine Jo 1 5 rfl rfl (fun K hK=>?_) (fun K hK=>?_)
  ·clear hHeld;simp only[lays];rw[Ab (by rfl)];go_simp;refine hK.out _ _ trivial (fun hHeld=>?_);clear hK K;try simp only[lays]
   refine Ar 3 (lZ g k q3) ?_;simp only[lays];refine AC 5 rfl (fun K hK=>?_);clear hHeld;simp only[lays];rw[Ab (by rfl)];go_simp;refine hK.out _ _ trivial (fun hHeld=>?_);clear hK K;try simp only[lays]
   refine Fe 8 (lD g o2 (m.p.length-(k+1)) (q3-(k+1))) rfl (B3 ⟨by rfl,fun w' hSw=>by rcases aw.o with⟨hcc,rfl⟩|⟨hcc,rfl⟩<;>go_simp⟩) hHeld ?_;simp only[lays];refine AC 9 rfl (fun K hK=>?_);clear hHeld;simp only[lays];rw[Ab (by rfl)];refine Rn _ _ 31 31 (by rfl) (lZ g k q3) (lD g o2 (m.p.length-(k+1)) (q3-(k+1))) (by simp[Act.eval,Act.put]) (by simp[Act.eval,Act.put]) (av.o.1 _ _ _ ay.o) ?_;refine hK.out _ _ trivial (fun hHeld=>?_);clear hK K;try simp only[lays]
   refine Ar 10 (pQ D 4) ?_;simp only[lays];refine AC 11 rfl (fun K hK=>?_);clear hHeld;simp only[lays];rw[Ab (by rfl)];have ah:W8.heap[D]?=some (cA m p0 q0 p1 q1 p2 q2 (sZ g) q3):=ax.o;have r0:=five ah;have aP:=Aq ah;clear ah;go_simp;refine hK.out _ _ trivial (fun hHeld=>?_);clear hK K hHeld;try simp only[lays]
   refine BQ kR ?_ _;go_wp2_with fail;go_meet;exact ai.o
  ·clear hHeld;simp only[lays];rw[Ab (by rfl)];go_simp;refine hK.out _ _ trivial (fun hHeld=>?_);clear hK K;try simp only[lays]
   refine Fe 8 (lD g o2 (m.p.length-(k+1)) (q3-(k+1))) rfl (B3 ⟨by rfl,fun w' hSw=>by rcases aw.o with⟨hcc,rfl⟩|⟨hcc,rfl⟩<;>go_simp⟩) hHeld ?_;simp only[lays];refine AC 1 rfl (fun K hK=>?_);clear hHeld;simp only[lays];rw[Ab (by rfl)];go_simp;refine hK.out _ _ trivial (fun hHeld=>?_);clear hK K;try simp only[lays]
   refine Ar 3 (lZ g k q3) ?_;simp only[lays];refine AC 9 rfl (fun K hK=>?_);clear hHeld;simp only[lays];rw[Ab (by rfl)];refine Rn _ _ 31 31 (by rfl) (lZ g k q3) (lD g o2 (m.p.length-(k+1)) (q3-(k+1))) (by simp[Act.eval,Act.put]) (by simp[Act.eval,Act.put]) (av.o.1 _ _ _ ay.o) ?_;refine hK.out _ _ trivial (fun hHeld=>?_);clear hK K;try simp only[lays]
   refine Ar 10 (pQ D 4) ?_;simp only[lays];refine AC 11 rfl (fun K hK=>?_);clear hHeld;simp only[lays];rw[Ab (by rfl)];have ah:W8.heap[D]?=some (cA m p0 q0 p1 q1 p2 q2 (sZ g) q3):=ax.o;have r0:=five ah;have aP:=Aq ah;clear ah;go_simp;refine hK.out _ _ trivial (fun hHeld=>?_);clear hK K hHeld;try simp only[lays]
   refine BQ kR ?_ _;go_wp2_with fail;go_meet;exact ai.o
 case rest=>
 have ao:=hcut;obtain⟨wg,aN⟩:∃X,X=wc:=⟨_,rfl⟩;subst aN;clear hcut am;obtain⟨val,hX,ab,ac⟩:=ao.o.ex;have aa:=ao.o.bel;have aj:=ao.o.ge;obtain⟨p0,q0,p1,q1,p2,q2,p3,q3,x0,x1,x2,x3⟩:=hX.four';have ae:=ab;rw[x0,x1,x2,x3]at ae;have d0:=five ae;have z9:=Ag n1 aa aA;have z0:=five z9;have y0:=Aq z9;have aS:¬D=w.heap.size+1:=oM;have aT:¬w.heap.size+1=D:=oM;have hc:=KC hX aa.size HSh.o;unfold AB at hc;rw[x0,x1,x2,x3]at hc;have aC:Hd (Cl 127 #[.agg (aI MR p0 q0 p1 q1 p2 q2 p3 q3)] wg fun r w'=>∃val',r=.returned (AB MR.g val')/\OX w' w1.heap.size val' (At MR)/\Below w1.heap.size wg w'/\BC wg w' MR val/\DB wg MR val (nl) (At MR) val'):=hc;have aO:w.heap.size+1<wg.heap.size:=AO aA aa.size;have aK:∀a,Ad MR a->(val a).ownBlock≠some (w.heap.size+1):=fun a ha x=>by have:=((hX.row a ha).lt _ x).1;omega
 clear hc;go_wp2_with(go_at_call 127;refine aC.o.mono ?_;rintro e7 w7 ⟨val2,rfl,ap,b7,k7,s7⟩;obtain⟨u0,v0,u1,v1,u2,v2,u3,v3,j0,j1,j2,j3⟩:=ap.four';have aB:=(k7 (w.heap.size+1) aO aK).trans z9;obtain⟨o0,o1,o2,o3,o4⟩:=five aB;have aU:=Aq aB;unfold AB;rw[j0,j1,j2,j3]);have aJ:∀a,Ad (At MR) a->(val2 a).ownBlock≠some (w.heap.size+1):=fun a ha x=>by
  have:=((ap.row a ha).lt _ x).1;omega
 have hI:=fun x0 x1 x2 x3 x4=>ap.five aJ x0 x1 x2 x3 x4
 have eI:AB (At MR).g val2=.agg #[iI MR.g,.slice u0 (At MR).r.length v0,.slice u1 (At MR).s.length v1,.slice u2 (At MR).f.length v2,.slice u3 (At MR).p.length v3]:=by unfold AB;rw[j0,j1,j2,j3];rfl
 have aE:Bw w w7:=(Below.on bw aa).trans (b7.mono oM);refine AY (v:=.tuple #[.agg #[iI MR.g,.slice u0 (At MR).r.length v0,.slice u1 (At MR).s.length v1,.slice u2 (At MR).f.length v2,.slice u3 (At MR).p.length v3],iI 0]) (by simp[results,results70,go_sem,o0,o1,o2,o3,o4]) rfl ⟨u0,v0,u1,v1,u2,v2,u3,v3,rfl,fun W' hW=>(by have:=((hI _ _ _ _ _).keep (fun q hq _=>hW q oM)).img;rw[eI]at this;exact this),CP aE (Cw _) _ _ _ _ _⟩
theorem cC (h:Al w v m)(hR:Ao m=0)(nm:ByteArray)(hM:Gt m nm=M)(hE:CW m nm=E):Cl 70 #[v,.string nm] w (Cp w M E):=by
 have h':=h;obtain⟨ra,rc,sa,sc,fa,fc,na,nc,rfl,_⟩:=h.parts;subst hM hE
 by_cases h0:CW m nm=0
 ·obtain⟨hC,k,hk,hl,e,hs,_⟩:=Pz h0;rw[h0,e];obtain⟨nb,no,aa,ev,_,hlt,hS⟩:=h'.four.2.2.2.open oM;simp only[BP]at ev;obtain⟨rfl,_,rfl⟩:=ev;exact cz ra rc sa sc fa fc nb no nc m nm k w h' hC (by rw[hk];rfl) hl hlt _ rfl (Kb hs)
 ·rw[Sg h0];unfold CW at h0 ⊢
  by_cases hC:Ao m=0
  ·rw[Aa (fun x=>x hC)]at h0 ⊢
   cases hx:BU m.p nm with
   | some k=>rw[hx]at h0;exact absurd rfl h0
   | none=>exact cy ra rc sa sc fa fc na nc m nm w h' hC (by rw[hx];rfl)
  ·exact absurd hR hC

def EB (s:List UInt8):Int:=if 4096<s.length\/60<s.count 10 then 2 else if s≠[]/\s.getLast?≠some 10 then 1 else 0
def GI (s:List UInt8):List UInt8:=if EB s=0 then DW (Hs 0) [] s else []
theorem QX (hR:Ao m=0)(l:List UInt8):(Da m l).2.length<=5000:=by
 have hd:∀n:Nat,n<=4096->(dg n).length<=4097:=fun n h=>by rw[EN oM];have:=Ga n;omega
 have hs:=A0 hR;have h40:=(A4 (Au hs).2.1).2;have hu:Cc m.s<=m.s.length:=MF;have key:∀w r,(B2 m w r).2.2.length<=5000:=by
  intro w r;have hn:∀ (l:List UInt8) f,(∀n,(f n:Int × Ac × List UInt8).2.2.length<=5000)->(Cu l f).2.2.length<=5000:=fun l f h=>J4 (p:=fun q=>q.2.2.length<=5000) dE h
  unfold B2
  split;· exact hn _ _ fun n=>by dsimp only;rw[BH,CG];have:=QA hR n;omega
  split;· exact hn _ _ fun n=>by dsimp only;decide
  split;· exact hn _ _ fun n=>by dsimp only;decide
  split;· exact hn _ _ fun n=>by dsimp only;decide
  split
  ·split
   ·exact hn _ _ fun n=>by dsimp only;decide
   ·decide
  split;· dsimp only;decide
  split;· dsimp only;decide
  split;· dsimp only;decide
  decide
 have hl:(El m l).2.2.length<=5000:=by
  unfold El;split
  ·exact key _ _
  ·unfold Hm
   split;· dsimp only;decide
   split
   ·dsimp only;unfold E5;split
    ·decide
    ·have hg:=Dg hs;have:=SQ 42 ((List.range m.g.toNat).map fun n=>ED (Be m m.r n)) (fun x hx=>by
      obtain⟨j,hj,rfl⟩:=Fh.1 hx;have:=CR.1 hj;exact QP (LP hR oM).2)
     rw[BH,Ly]at this;omega
   split
   ·dsimp only;rw[Bl,BF,EN oM,EN oM];have:=Ga (Cc m.s);have:=Ga m.s.length;omega
   split
   ·dsimp only;have:=hd _ (KO hs);omega
   decide
 unfold Da;dsimp only;split
 ·exact hl
 ·unfold CF;have h9:0<=(El m l).1/\(El m l).1<=9:=by
   unfold El;split
   ·exact Q7 hR _ _
   ·exact RI m _
  have:=hd (El m l).1.toNat oM;simp only[BF];omega
theorem N6:∀ (l:List UInt8) {m:Ac},Ao m=0->∀cur,(DW m cur l).length<=5001*l.length
 | [],_,_,_=>by simp[DW]
 | b::l,m,hR,cur=>by
  unfold DW;split
  ·have h1:=QX hR cur;have h2:=N6 l (QY hR cur) [];rw[Bl,BF,BF];omega
  ·have:=N6 l hR (cur++[b]);rw[BF];omega
def LH (T:List UInt8):Prop:=T=[]\/T.getLast? = some 10
theorem LH.first {T:List UInt8}(h:LH T)(hn:T≠[]):∃a c,T=a++10::c/\(10:UInt8) ∉ a/\Lib.cut T [10]=(a,c,true)/\LH c:=by
 rcases h with e|e
 ·exact absurd e hn
 have hm:(10:UInt8)∈T:=List.mem_of_getLast? e;obtain⟨a,c,rfl,ha⟩:=Nq hm;refine⟨a,c,rfl,ha,Pv ha,?_⟩;rcases List.eq_nil_or_concat c with rfl|⟨d,z,rfl⟩
 ·exact B3 rfl
 ·refine BM ?_;rw[List.concat_eq_append]at e ⊢;rw[show a++10::(d++[z])=(a++10::d)++[z] by simp,MN]at e;rw[MN];exact e
theorem LS:Ns 0=0/\Ao (Hs 0)=0:=by
 have h:Ns 0=0:=by decide +kernel
 exact⟨h,UL h⟩
structure RF (w0:World) (b:Nat) (R T U:List UInt8) (m:Ac) (wr:World):Prop where
 desk:BW wr b b m
 right:Ao m=0
 ends:LH T
 len:T.length<=4096
 same:U++DW m [] T=R
 bel:Bw w0 wr
theorem SI (hn:l≠[]):Lib.hasSuffix l [10]=decide (l.getLast? = some 10):=by
 rcases List.eq_nil_or_concat l with rfl|⟨d,z,rfl⟩
 ·exact absurd rfl hn
 ·rw[List.concat_eq_append,MN];unfold Lib.hasSuffix
  by_cases e:z=10
  ·subst e;rw[C3 rfl];exact List.isSuffixOf_iff_suffix.2 ⟨d,rfl⟩
  ·rw[Dn (by simpa using e)];refine Bool.eq_false_iff.2 fun h=>?_
   obtain⟨t,ht⟩:=List.isSuffixOf_iff_suffix.1 h;have:=congrArg List.getLast? ht;rw[MN,MN]at this;exact e (BJ this).symm
theorem dW (s:ByteArray)(w:World)(E:Int)(hE:EB s.data.toList=E)(hne:E≠0):Cl 4 #[.string s] w fun r w'=>r=.returned (.tuple #[.string ⟨#[]⟩,iI E])/\Bw w w':=by
 unfold EB at hE;rw[CG]at hE
 by_cases h1:4096<s.size
 ·rw[Ab (B3 h1)]at hE;subst hE;have aa:(4096:Int)<(s.size:Int):=oM;clear hne
  go_enter func4,ntmps4
  go_wp2_with fail
  go_ret2
  exact⟨rfl,AG _ _⟩
 have aa:¬(4096:Int)<(s.size:Int):=oM;have HC:=Ah (strings_Count_one s 10 w);unfold Lib.countByte at HC
 by_cases h2:60<s.data.toList.count 10
 ·rw[Ab (BM h2)]at hE;subst hE;obtain⟨n,hn⟩:=nM (s.data.toList.count 10);rw[hn]at HC h2;have ab:(60:Int)<(n:Int):=oM;clear hne hn
  go_enter func4,ntmps4
  go_wp2_with(go_at_call 7;refine HC.o.mono ?_;rintro e w1 ⟨rfl,hw⟩;rw[hw];clear hw)
  go_ret2
  exact⟨rfl,AG _ _⟩
 rw[Aa oM]at hE
 by_cases h3:s.data.toList≠[]/\s.data.toList.getLast?≠some 10
 ·rw[Ab h3]at hE;subst hE;obtain⟨n,hn⟩:=nM (s.data.toList.count 10);rw[hn]at HC h2;have ab:¬(60:Int)<(n:Int):=oM;have HS:=Ah (strings_HasSuffix s ⟨#[10]⟩ w oM);rw[show (⟨#[10]⟩:ByteArray).data.toList=[10] from rfl,SI h3.1,Dn h3.2]at HS;have q1:s.toList.isEmpty=false:=PA h3.1;clear hne hn h3
  go_enter func4,ntmps4
  go_wp2_with(first|(go_at_call 7;refine HC.o.mono ?_;rintro e w1 ⟨rfl,hw⟩;rw[hw];clear hw)|(go_at_call 8;refine HS.o.mono ?_;rintro e w1 ⟨rfl,hw⟩;rw[hw];clear hw))
  go_ret2
  exact⟨rfl,AG _ _⟩
 ·rw[Aa h3]at hE;exact absurd hE.symm hne
theorem dX (s:ByteArray)(w:World)(hV:L0 w)(hE:EB s.data.toList=0):Cl 4 #[.string s] w fun r w'=>r=.returned (.tuple #[.string (Ai (DW (Hs 0) [] s.data.toList)),iI 0])/\Bw w w':=by
 have hl:=CG s;obtain⟨h1,h2,ai⟩:s.size<=4096/\s.data.toList.count 10<=60/\LH s.data.toList:=by
  unfold EB at hE
  split at hE
  ·cases hE
  ·rename_i q
   split at hE
   ·cases hE
   ·rename_i q2
    refine⟨oM,oM,?_⟩
    by_cases e:s.data.toList=[]
    ·exact B3 e
    ·exact BM (EW fun x=>q2 ⟨e,x⟩)
 have ao:¬(4096:Int)<(s.size:Int):=oM;have HC:=Ah (strings_Count_one s 10 w);unfold Lib.countByte at HC;obtain⟨n,hn⟩:=nM (s.data.toList.count 10);rw[hn]at HC h2;have ap:¬(60:Int)<(n:Int):=oM;obtain⟨M,hM⟩:=nM (Hs 0);obtain⟨R,hR⟩:=nM (DW (Hs 0) [] s.data.toList);have HR:Hd (R.length<=30000000/\DW M [] s.data.toList=R/\Ao M=0):=⟨by rw[<-hR];have:=N6 s.data.toList LS.2 [];omega,by rw[<-hM];exact hR,by rw[<-hM];exact LS.2⟩;have HF:=Ah (Yn 0 w hM LS.1);rw[hR];have HV:=Ah hV.all;have aj:=Ah (AW ai h1);have af:s.toList.isEmpty=true\/(s.toList.isEmpty=false/\Hd (Cl 8 #[.string s,.string ⟨#[10]⟩] w fun e w'=>e=.returned (.bool true)/\w'=w)):=by
  by_cases e:s.data.toList=[]
  ·exact B3 (PB e)
  ·refine BM ⟨PA e,?_⟩;have:=strings_HasSuffix s ⟨#[10]⟩ w oM;rw[show (⟨#[10]⟩:ByteArray).data.toList=[10] from rfl,SI e,C3 (ai.resolve_left e)]at this;exact this
 clear hE hn ai hV hl h1 hM hR;rcases af with q1|⟨q1,HS⟩
 all_goals
  go_enter func4,ntmps4
  go_wp2_with(first|(go_at_call 7;refine HC.o.mono ?_;rintro e w1 ⟨rfl,hw⟩;rw[hw];clear hw)|(go_at_call 8;refine HS.o.mono ?_;rintro e w1 ⟨rfl,hw⟩;rw[hw];clear hw));refine HF.o.mono ?_;intro e w1 hA;obtain⟨ra,rc,sa,sc,fa,fc,na,nc,rfl,hY,b1⟩:=hA.opened;dsimp only;obtain⟨W0,ae⟩:=nM ((w1.alloc (cA M ra rc sa sc fa fc na nc)).alloc (.cells (aI M ra rc sa sc fa fc na nc) 37));have hk:∀q,q<w1.heap.size->W0.heap[q]?=w1.heap[q]?:=fun q hq=>by rw[<-ae,Ch _ _ q (by simp;omega),Ch _ _ q hq]
  have am:W0.heap[w1.heap.size+1]?=some (.cells (aI M ra rc sa sc fa fc na nc) 37):=by rw[<-ae];have:=C2 (w1.alloc (cA M ra rc sa sc fa fc na nc)) (.cells (aI M ra rc sa sc fa fc na nc) 37);simpa using this
  have HP:Hd (RF w (w1.heap.size+1) R s.data.toList [] M W0):=⟨⟨ra,rc,sa,sc,fa,fc,na,nc,am,fun W hW=>hY W fun q _ hl=>(hW q oM oM (Ea hl (hk q hl))).trans (hk q hl)⟩,HR.o.2.2,aj.o.1,by rw[CG];exact aj.o.2,HR.o.2.1,by rw[<-ae];exact(b1.alloc b1.size _).alloc (by simp;have:=b1.size;omega) _⟩;have hz:=b1.size;clear hA hY b1 hk am;go_wp2_with fail;try rw[ae]
  clear ae
  go_loopw [0,7,8,9,10] (fun sv ov _ _ _ wr=>∃T U m S O,sv=.string S/\ov=.string O/\Hd (S=Ai T/\O=Ai U/\RF w (w1.heap.size+1) R T U m wr)) (fun sv _ _ _ _ _=>Ml sv)
  case atStart=>exact⟨s.data.toList,[],M,s,⟨#[]⟩,rfl,rfl,(Kx s).symm,rfl,HP.o⟩
  case round=>
   obtain⟨T,U,m,S,O,rfl,rfl,HT⟩:=hrel;obtain⟨x,an⟩:∃X,X=wr:=⟨_,rfl⟩;subst an;obtain⟨e1,e2,hP⟩:=HT.o;have ad:S.data.toList=T:=by rw[e1];rfl
   by_cases hT:T=[]
   ·have q2:S.toList.isEmpty=true:=PB (ad.trans hT);have HU:Hd (O=Ai R):=by show _=_;rw[e2,<-hP.same,hT];simp[DW]
    have HB:=Ah hP.bel;clear hP e1 e2 ad hT HT;go_wp2_with fail
    go_ret2
    exact⟨by rw[<-HU.o];rfl,HB.o⟩
   ·have q2:S.toList.isEmpty=false:=PA (by rw[ad];exact hT);obtain⟨a,c,ab,ha,hcut,ac⟩:=hP.ends.first hT;have al:=hP.len;have ak:=Ah (HV.o.on hP.bel);have ah:=Ah (Nj S 10 x (by rw[e1,Cx];exact al) ak.o.at);rw[ad,hcut]at ah;dsimp only at ah;have ag:a.length+c.length<T.length:=by rw[ab,Bl,BF];omega
    obtain⟨A1,aa⟩:=nM (Ai (Da m a).2);have HA:Hd (∀W,Bw x W->Cl 11 #[pZ (w1.heap.size+1),.string (Ai a)] W fun r w'=>r=.returned (.string A1)/\BW w' (w1.heap.size+1) (w1.heap.size+1) (Da m a).1/\Fr (w1.heap.size+1) W w'):=fun W h1=>by rw[<-aa];exact ZD (hP.desk.on h1.block) hP.right (ak.o.to hP.bel.size h1) oM (Ai a) (by rw[Cx];omega)
    have z1:A1.size<=5000:=by rw[<-aa,Cx];exact QX hP.right a
    have z2:O.size<=30000000:=by
     rw[e2,Cx];have:=congrArg List.length hP.same;have:=HR.o.1;rw[Bl]at *;omega
    have s1:¬9223372036854775807<(A1.size:Int)+1:=oM;have s2:¬9223372036854775807<(O.size:Int)+((A1.size:Int)+1):=oM;have HX:=Ah (AW e2 (AW hP (AW aa (AW ab (AW ha (AW ac (AW e1 ag)))))));clear hP e1 e2 ad hT HT aa ab ha hcut ac al ag z1 z2;go_wp2_with(go_at_call 10;refine ah.o.mono ?_;rintro e w2 ⟨rfl,b2⟩);refine(HA.o w2 b2).mono ?_;rintro e w3 ⟨rfl,hD,hF⟩;dsimp only;have HD:=Ah (AW hD (AW hF b2));clear hD hF b2;go_wp2_with fail;go_roundw
    case rel=>
     obtain⟨e2,hP,aa,ab,ha,ac,e1,ag⟩:=HX.o;obtain⟨hD,hF,b2⟩:=HD.o;refine⟨c,U++((Da m a).2++[10]),(Da m a).1,Ai c,O++(A1++⟨#[10]⟩),rfl,rfl,rfl,?_,?_⟩
     ·rw[e2,<-aa,FI,FI];rfl
     ·refine⟨hD,QY hP.right a,ac,by have:=hP.len;omega,?_,?_⟩
      ·rw[<-hP.same,ab,gF ha];simp
      ·exact(hP.bel.trans (b2.mono hP.bel.size)).trans (hF.1.mono oM)
    case measure=>
     obtain⟨e2,hP,aa,ab,ha,ac,e1,ag⟩:=HX.o
     show (Ai c).size<S.size
     rw[e1,Cx,Cx];omega
theorem Ua (s:ByteArray)(w:World)(hV:L0 w):Cl 4 #[.string s] w fun r w'=>r=.returned (.tuple #[.string (Ai (GI s.data.toList)),iI (EB s.data.toList)])/\Bw w w':=by
 by_cases h:EB s.data.toList=0
 ·have:=dX s w hV h;rw[h];unfold GI;rw[Ab h];exact this
 ·unfold GI;rw[Aa h];exact dW s w _ rfl h

theorem cH {E:Nat->Int}{t:Nat->List UInt8}:(if (Cu l fun n=>(E n,m,t n)).1=0 then (Cu l fun n=>(E n,m,t n)).2.1 else m)=m:=by
 unfold Cu;split<;>simp
theorem NR {E:Nat->Int}{M:Nat->Ac}(h:(Cu l fun n=>(E n,M n,B9)).1=0):(Cu l fun n=>(E n,M n,B9)).2.2=B9:=by
 unfold Cu at *;split
 ·rfl
 ·rename_i e;rw[e]at h;cases h
theorem Mo (h:(32:UInt8) ∉ l):El m l=Hm m l:=by unfold El;rw[Pw h];rfl
theorem YF (hI:∀W:World,(∀q,q≠D->q<w.heap.size->W.heap[q]?=w.heap[q]?)->Al W v m)(hD:D<w.heap.size)(hR:Ao m=0)(l:ByteArray)(hl:l.size<=4096):Cl 13 #[v,.string l] w (Du w D (Da m l.data.toList)):=by
 have hs:=A0 hR;have hsl:=(Au hs).2.1;have h40:=(A4 hsl).2
 by_cases k0:l.data.toList=[112,97,99,107]
 ·have e:Da m l.data.toList=(Ib m,B9):=by rw[k0];unfold Da;rw[Mo dE];rfl
  rw[e];exact YB hI hD hR l hl (DC (a:=#[112,97,99,107]) k0)
 by_cases k1:l.data.toList=[109,97,112]
 ·have e:Da m l.data.toList=(m,E5 m):=by rw[k1];unfold Da;rw[Mo dE];rfl
  rw[e];exact YA hI hD hR l hl (DC (a:=#[109,97,112]) k1)
 by_cases k2:l.data.toList=[117,115,101,100]
 ·have e:Da m l.data.toList=(m,dg (Cc m.s)++32::dg m.s.length):=by rw[k2];unfold Da;rw[Mo dE];rfl
  rw[e,EN (by have:Cc m.s<=m.s.length:=MF;omega),EN oM];exact YE hI hD hsl h40 l hl (DC (a:=#[117,115,101,100]) k2)
 by_cases k3:l.data.toList=[115,97,118,101]
 ·have e:Da m l.data.toList=(m,dg (Dh m).length):=by rw[k3];unfold Da;rw[Mo dE];rfl
  rw[e,EN (by have:=KO hs;omega)];exact YD hI hD hR l hl (DC (a:=#[115,97,118,101]) k3)
 have ab:(Ai (Lib.cut l.data.toList [32]).2.1).size<=4096:=by
  rw[Cx];have:=CG l;rcases KE 32 l.data.toList with⟨_,e⟩|⟨x,y,e1,_,e⟩
  ·rw[e];simp
  ·rw[e];rw[e1,Bl,BF]at this;simp only[];omega
 have ae:(Ai (Lib.cut l.data.toList [32]).1).size<=4096:=by
  rw[Cx];have:=CG l;rcases KE 32 l.data.toList with⟨_,e⟩|⟨x,y,e1,_,e⟩
  ·rw[e];simp only[];omega
  ·rw[e];rw[e1,Bl,BF]at this;simp only[];omega
 by_cases hc':(Lib.cut l.data.toList [32]).2.2=false
 ·have e:Da m l.data.toList=(m,CF 1):=by
   have hq:El m l.data.toList=(1,AZ,[]):=by
    rcases KE 32 l.data.toList with⟨h,e⟩|⟨x,y,e1,_,e⟩
    ·rw[Mo h];unfold Hm;rw[Aa k0,Aa k1,Aa k2,Aa k3]
    ·rw[e]at hc';cases hc'
   unfold Da;rw[hq];rfl
  rw[e];exact SC hI hD l hl k0 k1 k2 k3 (B3 hc')
 have hc:(Lib.cut l.data.toList [32]).2.2=true:=by simpa using hc'
 obtain⟨x,hx⟩:=nM (Ai (Lib.cut l.data.toList [32]).1);obtain⟨y,hy⟩:=nM (Ai (Lib.cut l.data.toList [32]).2.1);have ac:(Lib.cut l.data.toList [32]).1=x.data.toList:=by rw[<-hx];rfl
 have af:(Lib.cut l.data.toList [32]).2.1=y.data.toList:=by rw[<-hy];rfl
 have hq:El m l.data.toList=B2 m x.data.toList y.data.toList:=by unfold El;rw[Ab hc,ac,af]
 rw[hy]at ab;rw[hx]at ae;have ad:Da m l.data.toList=(if (B2 m x.data.toList y.data.toList).1=0 then (B2 m x.data.toList y.data.toList).2.1 else m,if (B2 m x.data.toList y.data.toList).1=0 then (B2 m x.data.toList y.data.toList).2.2 else CF (B2 m x.data.toList y.data.toList).1):=by unfold Da;rw[hq]
 rw[ad];have h9:=Q7 hR x.data.toList y.data.toList;have er:Ai y.data.toList=y:=Kx y
 by_cases n0:x.data.toList=[114,101,97,100]
 ·have e:B2 m x.data.toList y.data.toList=Cu y.data.toList fun n=>(Br m n,m,(Jp m n).data.toList.map Df):=by unfold B2;rw[Ab n0]
  rw[e,cH];exact YC hI hD l y hl hc (ac.trans n0) hy ab k0 k1 k2 k3 (Ah fun W v n h=>Jk h n rfl) (Ah fun W v n h0 h=>eK h n h0 rfl) (fun n=>by unfold Br;rw[Aa (by simpa using hR)];split<;>omega) (fun n=>QA hR n)
 have key:∀ {E:Int} {M:Ac},(x=⟨#[115,105,122,101]⟩\/x=⟨#[119,105,112,101]⟩\/x=⟨#[112,117,110,99,104]⟩\/x=⟨#[119,114,105,116,101]⟩\/x=⟨#[115,110,97,112]⟩\/x=⟨#[98,97,99,107]⟩\/x=⟨#[100,114,111,112]⟩)->(B2 m x.data.toList y.data.toList).1=E->(B2 m x.data.toList y.data.toList).2.1=M->(E=0->(B2 m x.data.toList y.data.toList).2.2=B9)->
   Hd (∀ (W:World) (v:Value),Al W v m->Cl 36 #[v,.string x,.string y] W (EZ W (E,M)))->Cl 13 #[v,.string l] w (Du w D (if (B2 m x.data.toList y.data.toList).1=0 then (B2 m x.data.toList y.data.toList).2.1 else m,if (B2 m x.data.toList y.data.toList).1=0 then (B2 m x.data.toList y.data.toList).2.2 else CF (B2 m x.data.toList y.data.toList).1)):=by
  intro E M hw e1 e2 e3 HC;have e4:(if (B2 m x.data.toList y.data.toList).1=0 then (B2 m x.data.toList y.data.toList).2.2 else CF (B2 m x.data.toList y.data.toList).1)=if E=0 then B9 else CF E:=by
   rw[e1];split
   ·rename_i h;exact e3 h
   ·rfl
  rw[e4,e1,e2];exact Yz hI hD l x y hl hc hx hy k0 k1 k2 k3 hw HC (by rw[<-e1];exact h9)
 by_cases n1:x.data.toList=[115,105,122,101]
 ·have e:B2 m x.data.toList y.data.toList=Cu y.data.toList fun n=>(Ft m n,Gn m n,B9):=by unfold B2;rw[Aa n0,Ab n1]
  have aa:=DC (a:=#[115,105,122,101]) n1;refine key (B3 aa) (by rw[e]) (by rw[e]) (by rw[e];exact NR) (Ah fun W v h=>by rw[aa];exact Pj h y ab (B3 ⟨rfl,rfl⟩) (Ah fun W v n h=>fe h hR n rfl rfl))
 by_cases n2:x.data.toList=[119,105,112,101]
 ·have e:B2 m x.data.toList y.data.toList=Cu y.data.toList fun n=>(Gk m n (-1),Ic m n (-1),B9):=by unfold B2;rw[Aa n0,Aa n1,Ab n2]
  have aa:=DC (a:=#[119,105,112,101]) n2;refine key (BM (B3 aa)) (by rw[e]) (by rw[e]) (by rw[e];exact NR) (Ah fun W v h=>by rw[aa];exact Pj h y ab (BM (B3 ⟨rfl,rfl⟩)) (Ah fun W v n h=>jL h n rfl rfl))
 by_cases n3:x.data.toList=[112,117,110,99,104]
 ·have e:B2 m x.data.toList y.data.toList=Cu y.data.toList fun n=>(Gk m n 0,Ic m n 0,B9):=by unfold B2;rw[Aa n0,Aa n1,Aa n2,Ab n3]
  have aa:=DC (a:=#[112,117,110,99,104]) n3;refine key (BM (BM (B3 aa))) (by rw[e]) (by rw[e]) (by rw[e];exact NR) (Ah fun W v h=>by rw[aa];exact Pj h y ab (BM (BM ⟨rfl,rfl⟩)) (Ah fun W v n h=>eu h n rfl rfl))
 by_cases n4:x.data.toList=[119,114,105,116,101]
 ·have e:B2 m x.data.toList y.data.toList=if (Lib.cut y.data.toList [32]).2.2=true then Cu (Lib.cut y.data.toList [32]).1 fun n=>(IQ m n (Ai (Lib.cut y.data.toList [32]).2.1),Jy m n (Ai (Lib.cut y.data.toList [32]).2.1),B9) else (1,AZ,[]):=by unfold B2;rw[Aa n0,Aa n1,Aa n2,Aa n3,Ab n4]
  have aa:=DC (a:=#[119,114,105,116,101]) n4
  by_cases hc2:(Lib.cut y.data.toList [32]).2.2=true
  ·rw[Ab hc2]at e;refine key (BM (BM (BM (B3 aa)))) (by rw[e]) (by rw[e]) (by rw[e];exact NR) (Ah fun W v h=>by
    rw[aa];exact Ws h y ab (Ai (Lib.cut y.data.toList [32]).1) (Ai (Lib.cut y.data.toList [32]).2.1) hc2 rfl rfl (by
     rw[Cx];have:=CG y;rcases KE 32 y.data.toList with⟨_,e⟩|⟨x,z,e1,_,e⟩
     ·rw[e];simp only[];omega
     ·rw[e];rw[e1,Bl,BF]at this;simp only[];omega) (Ah fun W v n h=>kh h n _ rfl rfl))
  ·rw[Aa hc2]at e;refine key (BM (BM (BM (B3 aa)))) (by rw[e]) (by rw[e]) (fun h=>by cases h) (Ah fun W v h=>by rw[aa];exact Wr h y ab (by simpa using hc2) rfl)
 by_cases n5:x.data.toList=[115,110,97,112]
 ·have e:B2 m x.data.toList y.data.toList=(EL m y,GV m y,B9):=by unfold B2;rw[Aa n0,Aa n1,Aa n2,Aa n3,Aa n4,Ab n5,er]
  have aa:=DC (a:=#[115,110,97,112]) n5;refine key (BM (BM (BM (BM (B3 aa))))) (by rw[e]) (by rw[e]) (fun _=>by rw[e]) (Ah fun W v h=>by rw[aa];exact Pi h y (B3 ⟨rfl,rfl⟩) (Ah fun W v h=>Z9 h hR y rfl rfl))
 by_cases n6:x.data.toList=[98,97,99,107]
 ·have e:B2 m x.data.toList y.data.toList=(CW m y,GL m y,B9):=by unfold B2;rw[Aa n0,Aa n1,Aa n2,Aa n3,Aa n4,Aa n5,Ab n6,er]
  have aa:=DC (a:=#[98,97,99,107]) n6;refine key (BM (BM (BM (BM (BM (B3 aa)))))) (by rw[e]) (by rw[e]) (fun _=>by rw[e]) (Ah fun W v h=>by rw[aa];exact Pi h y (BM (B3 ⟨rfl,rfl⟩)) (Ah fun W v h=>cG h hR y rfl rfl))
 by_cases n7:x.data.toList=[100,114,111,112]
 ·have e:B2 m x.data.toList y.data.toList=(CW m y,Gt m y,B9):=by unfold B2;rw[Aa n0,Aa n1,Aa n2,Aa n3,Aa n4,Aa n5,Aa n6,Ab n7,er]
  have aa:=DC (a:=#[100,114,111,112]) n7;refine key (BM (BM (BM (BM (BM (BM aa)))))) (by rw[e]) (by rw[e]) (fun _=>by rw[e]) (Ah fun W v h=>by rw[aa];exact Pi h y (BM (BM ⟨rfl,rfl⟩)) (Ah fun W v h=>cC h hR y rfl rfl))
 have e:B2 m x.data.toList y.data.toList=(1,AZ,[]):=by unfold B2;rw[Aa n0,Aa n1,Aa n2,Aa n3,Aa n4,Aa n5,Aa n6,Aa n7]
 rw[e,Aa dE,Aa dE];rw[<-ac]at n0 n1 n2 n3 n4 n5 n6 n7;exact SC hI hD l hl k0 k1 k2 k3 (BM ⟨hc,n0,n1,n2,n3,n4,n5,n6,n7⟩)

theorem Yk {W:World}{gr gs gf:Nat}(hs:W.heap[gs]?=some zS)(hf:W.heap[gf]?=some (oI 0)):Al W (.agg #[iI 0,lZ gr 0 0,lZ gs 1 1,lZ gf 1 1,nl]) zD:=by
 have ls:=(AA hs);have lf:=(AA hf);refine⟨_,_,_,_,rfl,⟨_,_,rfl,A7 _,Bc _,fun h=>absurd rfl h⟩,⟨_,_,rfl,by unfold maxLen;decide,Bc _,fun _=>⟨gs,0,rfl,ls,fun j hj=>?_⟩⟩,⟨_,_,rfl,by unfold maxLen;decide,Bc _,fun _=>⟨gf,0,rfl,lf,fun j hj=>?_⟩⟩,⟨_,_,rfl,A7 _,Bc _,fun h=>absurd rfl h⟩⟩
 ·match j,hj with
  | 0,_=>exact⟨nl,by simp[World.cell?,hs,zD],by simp[World.cell?,hs,zD],by simp[World.cell?,hs],⟨_,_,rfl,A7 _,Bc _,fun h=>absurd rfl h⟩⟩
 ·match j,hj with
  | 0,_=>simp[World.cell?,hf,zD]
theorem SA:Hs 0=zD:=by unfold Hs Gn;rw[Aa (by decide +kernel),Ab dE];rfl
def PD (w:World) (D:Nat) (m:Ac):Prop:=∃ra rc sa sc fa fc na nc,w.heap[D]?=some (cA m ra rc sa sc fa fc na nc)/\∀W:World,(∀q,q≠D->q<w.heap.size->W.heap[q]?=w.heap[q]?)->Al W (.agg (aI m ra rc sa sc fa fc na nc)) m
structure O8 (w0:World) (D:Nat) (R l U:List UInt8) (f k:Nat) (m:Ac) (wr:World):Prop where
 box:PD wr D m
 right:Ao m=0
 same:U++DW m ((l.take k).drop f) (l.drop k)=R
 bel:Bw w0 wr
theorem Sh (hk:k<s.size):s.data.toList.drop k=s[k]::s.data.toList.drop (k+1):=by
 have h:=KJ hk;have hl:k<s.data.toList.length:=by rw[CG];exact hk
 rw[Co hl]at h;rw[Lt hl,BJ h]
theorem R1 (hk:k<s.size):(s.data.toList.take (k+1)).count 10=(s.data.toList.take k).count 10+if s[k]=10 then 1 else 0:=by
 rw[My hk,IY,OG]
 congr 1
 by_cases h:s[k]=10
 ·rw[Ab h,Ab (by simpa using h)]
 ·rw[Aa h,Aa (by simpa using h)]
theorem WL (l:List UInt8)(k:Nat):(l.take k).count 10<=l.count 10:=by
 have:=IY (a:=(10:UInt8)) (l₁:=l.take k) (l₂:=l.drop k);rw[Rw]at this;omega
theorem S5 (h:0<s.size):s.data.toList.getLast? = some (s[s.size-1]):=by
 rw[List.getLast?_eq_getElem?,CG];exact KJ oM
theorem Tt (h:s.data.toList≠[]):0<s.size:=by rw[<-CG];exact List.length_pos_iff.2 h
theorem Zt (hn:0<s.size)(h:s.data.toList.getLast?≠some 10)(hlt:s.size-1<s.size):((s[s.size-1]'hlt).toNat:Int)≠10:=fun e=>h (by
 rw[S5 hn];refine congrArg some (JI.1 ?_)
 show (s[s.size-1]'hlt).toNat=10;omega)
theorem Zu (hn:0<s.size)(h:s.data.toList.getLast? = some 10)(hlt:s.size-1<s.size):((s[s.size-1]'hlt).toNat:Int)=10:=by
 rw[S5 hn]at h;rw[BJ h];rfl
theorem dV (s:ByteArray)(w:World)(hz:s.size<=9000000000000000000):Cl 5 #[.string s] w fun r w'=>r=.returned (.tuple #[.string (Ai (GI s.data.toList)),iI (EB s.data.toList)])/\Bw w w':=by
  have HZ:=Ah hz;clear hz
  go_enter func5,ntmps5
  go_wp2_with fail
  go_loop [4,5] (fun n i=>∃k c:Nat,k<=s.size/\n=iI (c:Int)/\i=iI (k:Int)/\c<=61/\Hd ((s.data.toList.take k).count 10=c)) (fun _ i=>s.size-(intOf i).toNat)
  case atStart=>exact⟨0,0,A7 _,rfl,rfl,oM,rfl⟩
  case round=>
    obtain⟨k,c,hk,rfl,rfl,hc,HC⟩:=hrel
    by_cases hgo:k<s.size/\c<=60
    · obtain⟨hlk,a6⟩:=hgo
      have aE:(k:Int)<(s.size:Int):=oM;have a7:(c:Int)<=60:=oM;have aC:(k:Int)+1<=9223372036854775807:=by have:=HZ.o;omega
      by_cases h1:(s[k]'hlk).toNat=10
      · have ab:((s[k]'hlk).toNat:Int)=10:=oM
        have HN:Hd ((s.data.toList.take (k+1)).count 10=c+1):=by show _=_;rw[R1 hlk,HC.o,Ab (JI.1 (h1.trans rfl))]
        go_wp2_with fail
        go_round
        case rel=>exact⟨k+1,c+1,oM,by go_num,by go_num,oM,HN.o⟩
        case measure=>simp[intOf];omega
      · have ab:¬((s[k]'hlk).toNat:Int)=10:=oM
        have HN:Hd ((s.data.toList.take (k+1)).count 10=c):=by show _=_;rw[R1 hlk,HC.o,Aa (fun e=>h1 (by rw[e];rfl))];rfl
        have hb:=FA.2 ab;clear h1 ab;go_wp2_with fail
        go_round
        case rel=>exact⟨k+1,c,oM,by go_num,by go_num,oM,HN.o⟩
        case measure=>simp[intOf];omega
    · have HK:Hd (60<c↔60<s.data.toList.count 10):=by
        show _↔_
        have h1:=WL s.data.toList k;rw[HC.o]at h1
        constructor
        · intro h;omega
        · intro h
          by_cases hlk:k<s.size
          · omega
          · have:=HC.o
            rw[DF (by rw[CG];omega)]at this;omega
      have aa:(¬(k:Int)<(s.size:Int))\/((k:Int)<(s.size:Int)/\¬(c:Int)<=60):=oM;clear hgo;have HE:∀ (E:Int) (V:List UInt8),EB s.data.toList=E->GI s.data.toList=V->((Ending.returned (.tuple #[.string (Ai V),iI E]))=.returned (.tuple #[.string (Ai (GI s.data.toList)),iI (EB s.data.toList)])):=fun E V h1 h2=>by rw[h1,h2]
      have ai:=Ah HE;clear HE
      by_cases hmany:60<c
      · have ay:(60:Int)<(c:Int):=oM
        have he:EB s.data.toList=2:=by unfold EB;rw[Ab (BM (HK.o.1 hmany))]
        have HV:=Ah (ai.o 2 [] he (by unfold GI;rw[he];rfl));clear he hmany;rcases aa with h5|⟨h5,h6⟩
        all_goals
          by_cases an:(4096:Int)<(s.size:Int)
          all_goals
            go_wp2_with fail
            go_ret2
            exact⟨HV.o,AG _ _⟩
      have ay:¬(60:Int)<(c:Int):=oM;have h5:=aa.resolve_right oM;clear aa
      by_cases hbig:4096<s.size
      · have an:(4096:Int)<(s.size:Int):=oM
        have he:EB s.data.toList=2:=by unfold EB;rw[CG,Ab (B3 hbig)]
        have HV:=Ah (ai.o 2 [] he (by unfold GI;rw[he];rfl));clear he hbig;go_wp2_with fail
        go_ret2
        exact⟨HV.o,AG _ _⟩
      have an:¬(4096:Int)<(s.size:Int):=oM;have ac:EB s.data.toList=if s.data.toList≠[]/\s.data.toList.getLast?≠some 10 then 1 else 0:=by
        unfold EB;rw[CG,Aa (by have:=HK.o;omega)]
      by_cases hlast:s.data.toList≠[]/\s.data.toList.getLast?≠some 10
      · have hpos:=Tt hlast.1
        have aq:(0:Int)<(s.size:Int):=oM;have av:((s.size:Int)-1).toNat=s.size-1:=oM;have hlt:s.size-1<s.size:=oM;have hb:=FA.2 (Zt hpos hlast.2 hlt);have ad:(((s[s.size-1]'hlt).toNat:Int) != 10)=true:=by rw[bne,hb];rfl
        have HV:=Ah (ai.o 1 [] (by rw[ac,Ab hlast]) (by unfold GI;rw[ac,Ab hlast];rfl));clear ac hlast hpos;go_wp2_with fail
        go_ret2
        exact⟨HV.o,AG _ _⟩
      · obtain⟨R,hR⟩:=nM (DW (Hs 0) [] s.data.toList)
        rw[Aa hlast]at ac;have HV:=Ah (ai.o 0 R ac (by unfold GI;rw[ac];exact hR));have aG:s.size<=4096:=oM;have HR:Hd (R.length<=30000000/\DW zD [] s.data.toList=R/\Ao zD=0):=⟨by rw[<-hR];have:=N6 s.data.toList LS.2 [];rw[CG]at this;omega,by rw[<-SA];exact hR,by rw[<-SA];exact LS.2⟩;have au:=Ah (Yl 0 0 w oM (Ah fun W=>Oo 0 W oM));have af:(¬(0:Int)<(s.size:Int))\/((0:Int)<(s.size:Int)/\((s.size:Int)-1).toNat=s.size-1/\s.size-1<s.size/\∀hlt:s.size-1<s.size,(((s[s.size-1]'hlt).toNat:Int) == 10)=true/\(((s[s.size-1]'hlt).toNat:Int) != 10)=false):=by
          by_cases hn:s.data.toList=[]
          · have:s.size=0:=by rw[<-CG,hn];rfl
            exact B3 oM
          · have hp:=Tt hn
            refine BM ⟨oM,oM,oM,fun hlt=>?_⟩;have:=Zu hp (EW fun e=>hlast ⟨hn,e⟩) hlt;rw[this];exact⟨rfl,rfl⟩
        clear ac hlast hR hbig hmany;rcases af with aq|⟨aq,av,hlt,hq⟩
        all_goals
          try obtain⟨hb,ad⟩:=hq hlt
          go_wp2_with fail;refine au.o.mono ?_;rintro e w1 ⟨gr,gs,gf,rfl,hr,hs,hf,l1,l2,l3,b1⟩;dsimp only;obtain⟨W0,ae⟩:=nM (w1.alloc (.cells #[iI 0,lZ gr 0 0,lZ gs 1 1,lZ gf 1 1,nl] 33));have ao:W0.heap[w1.heap.size]?=some (.cells #[iI 0,lZ gr 0 0,lZ gs 1 1,lZ gf 1 1,nl] 33):=by rw[<-ae];exact Aw _ _
          have ah:∀q,q<w1.heap.size->W0.heap[q]?=w1.heap[q]?:=fun q hq=>by rw[<-ae];exact Ch _ _ q hq
          have HP:Hd (O8 w w1.heap.size R s.data.toList [] 0 0 zD W0):=⟨⟨_,_,_,_,_,_,_,_,ao,fun W hW=>Yk (gr:=gr)
              ((hW gs (OW (AA hs)) (Ea (AA hs) (ah gs (AA hs)))).trans ((ah gs (AA hs)).trans hs))
              ((hW gf (OW (AA hf)) (Ea (AA hf) (ah gf (AA hf)))).trans ((ah gf (AA hf)).trans hf))⟩,HR.o.2.2,HR.o.2.1,by rw[<-ae];exact b1.alloc b1.size _⟩
          have aH:=b1.size;clear hr hs hf l1 l2 l3 b1 ao ah;have am:=Ah ae;clear ae;go_wp2_with fail;rw[am.o];clear am
          go_loopw [7,8,9,10] (fun ov fv iv _ wr=>∃ (j f:Nat) (U:List UInt8) (m:Ac) (O:ByteArray),f<=j/\j<=s.size/\ov=.string O/\fv=iI (f:Int)/\iv=iI (j:Int)/\Hd (O=Ai U/\O8 w w1.heap.size R s.data.toList U f j m wr)) (fun _ _ iv _ _=>s.size-(intOf iv).toNat)
          case atStart=>exact⟨0,0,[],zD,⟨#[]⟩,Bc _,A7 _,rfl,rfl,rfl,rfl,HP.o⟩
          case round=>
            obtain⟨j,f,U,m,O,a8,hj,rfl,rfl,rfl,HT⟩:=hrel;obtain⟨x,az⟩:∃X,X=wr:=⟨_,rfl⟩;subst az
            by_cases hlj:j<s.size
            · have aw:(j:Int)<(s.size:Int):=oM
              have aA:(j:Int)+1<=9223372036854775807:=oM
              first
              | (exfalso;omega)
              | (by_cases h1:(s[j]'hlj).toNat=10
                 · obtain⟨ra,rc,sa,sc,fa,fc,na,nc,hb,hI⟩:=HT.o.2.box
                   have ab:((s[j]'hlj).toNat:Int)=10:=oM;have ax:=(AA hb);have aF:(f:Int)<=(j:Int):=oM;have aB:(j:Int)<=(s.size:Int):=oM;have HI:=Ah hI;have HB:=Ah hb;have HL:=Ah ax;have ar:(s.extract f j).size<=4096:=by rw[Nn,Cx,BI,CZ,CG];omega
                   have ag:(s.extract f j).data.toList=(s.data.toList.take j).drop f:=by rw[Nn,List.drop_take];rfl
                   have HG:=Ah (YF (w:=x.drew) (D:=w1.heap.size) (v:=.agg (aI m ra rc sa sc fa fc na nc)) (fun W hW=>HI.o W hW) HL.o HT.o.2.right (s.extract f j) ar);rw[ag]at HG;obtain⟨q,hq⟩:=nM (Da m ((s.data.toList.take j).drop f));rw[hq]at HG;have HQ:=Ah hq;have ap:(Ai q.2).size<=5000:=by rw[<-hq,Cx];exact QX HT.o.2.right _
                   have hO:O.size<=30000000:=by
                     rw[HT.o.1,Cx];have:=congrArg List.length HT.o.2.same;have:=HR.o.1;rw[Bl]at *;omega
                   obtain⟨T1,aj⟩:=nM (Ai q.2);have al:=Ah aj;rw[aj]at ap;have s1:¬9223372036854775807<(O.size:Int)+(T1.size:Int):=oM;have s2:¬9223372036854775807<(O.size:Int)+(T1.size:Int)+1:=oM;have HS:=Ah (AW s1 s2);clear ag ar hq hI ap hO aj h1 s1 s2;go_wp2_with fail;refine BT (S:=fun _:World=>True) kR trivial (fun hHeld=>?_);refine Ar 1 (.string s) ?_;refine Ar 2 (iI (f:Int)) ?_;refine Ar 3 (iI (j:Int)) ?_;refine Ar 4 (.string (s.extract f j)) ?_;have c0:=five HB.o;refine AC 0 rfl (fun K hK=>?_);simp only[lays];rw[Ab (by rfl)];go_wp2_with fail;refine hK.out _ _ trivial (fun hHeld=>?_);clear hK K c0;refine AC 5 rfl (fun K hK=>?_);simp only[lays];rw[Ab (by rfl)];go_wp2_with fail;refine HG.o.mono ?_;rintro e w2 ⟨qa,qc,pa,pc,ka,kc,ja,jc,rfl,hY,b2⟩;have b2:=BR b2;rw[al.o];dsimp only;refine hK.out _ _ trivial (fun hHeld=>?_);clear hK K;refine Ar 6 (.tuple #[.agg (bI q.1.g qa q.1.r.length qc pa q.1.s.length pc ka q.1.f.length kc ja q.1.p.length jc),.string T1]) ?_;refine Ar 7 (.agg (bI q.1.g qa q.1.r.length qc pa q.1.s.length pc ka q.1.f.length kc ja q.1.p.length jc)) ?_;refine Ar 8 (.string T1) ?_;have ad:=(b2.block w1.heap.size HL.o).trans HB.o;have c0:=five ad;have y0:=Aq ad;refine AC 9 rfl (fun K hK=>?_);simp only[lays];rw[Ab (by rfl)];go_wp2_with fail;obtain⟨W4,ak⟩:=nM (((((w2.setCell (aZ w1.heap.size) (iI q.1.g)).setCell (aD w1.heap.size 1) (.slice qa q.1.r.length qc)).setCell (aD w1.heap.size 2) (.slice pa q.1.s.length pc)).setCell (aD w1.heap.size 3) (.slice ka q.1.f.length kc)).setCell (aD w1.heap.size 4) (.slice ja q.1.p.length jc));rw[ak];have HW:=Ah (Ep ad ak);have HY:=Ah (AW hY b2);clear ak ad hY b2 c0 y0;refine hK.out _ _ trivial (fun hHeld=>?_);clear hK K;refine AC 10 rfl (fun K hK=>?_);simp only[lays];rw[Ab (by rfl)];go_wp2_with fail;refine hK.out _ _ trivial (fun hHeld=>?_);clear hK K;refine BQ kR ?_ _;obtain⟨s1,s2⟩:=HS.o;go_wp2_with fail;refine⟨⟨_,_,_,_,_,_,_,_,_,_,_,_,_,_,_,_,_,_,_,_,_,_,_,_,_,_,_,_,_,?rel,rfl⟩,?measure⟩
                   case rel=>
                     refine⟨j+1,j+1,U++(q.2++[10]),q.1,O++T1++⟨#[10]⟩,Bc _,oM,rfl,by go_num,by go_num,?_,?_⟩
                     · rw[HT.o.1,<-al.o,<-Ip,FI,FI];rfl
                     · refine⟨⟨qa,qc,pa,pc,ka,kc,ja,jc,HW.o.1,fun W hW=>HY.o.1 W fun p hp hl=>?_⟩,by rw[<-HQ.o];exact QY HT.o.2.right _,?_,(HT.o.2.bel.trans (HY.o.2.mono HT.o.2.bel.size)).trans (HW.o.2.2.mono oM)⟩
                       · have e:=HW.o.2.1 p hp
                         exact(hW p hp (Ea hl e)).trans e
                       · rw[<-HT.o.2.same,Sh hlj,DW,Ab (JI.1 (by show (s[j]'hlj).toNat=10;omega)),HQ.o,MI (l:=List.take _ _) (by rw[BI];omega)];simp
                   case measure=>simp[intOf];omega
                 · have ab:¬((s[j]'hlj).toNat:Int)=10:=oM
                   have hbb:=FA.2 ab;have HN:Hd (O8 w w1.heap.size R s.data.toList U f (j+1) m x):=⟨HT.o.2.box,HT.o.2.right,by
                     rw[<-HT.o.2.same,Sh hlj,DW,Aa (fun e=>h1 (by rw[e];rfl)),My hlj,Vy (by rw[BI,CG];omega)],HT.o.2.bel⟩
                   clear h1 ab;go_wp2_with fail;go_roundw
                   case rel=>exact⟨j+1,f,U,m,O,oM,oM,rfl,rfl,by go_num,HT.o.1,HN.o⟩
                   case measure=>simp[intOf];omega)
            · have aw:¬(j:Int)<(s.size:Int):=oM
              have HO:Hd (O=Ai R):=by
                show _=_
                rw[HT.o.1,<-HT.o.2.same,show s.data.toList.drop j=[] from MI (by rw[CG];omega)];simp[DW]
              have HB:=Ah HT.o.2.bel;go_wp2_with fail
              go_ret2
              exact⟨by rw[<-HV.o,<-HO.o];rfl,HB.o⟩

theorem Xh:EB (⟨([115,105,122,101,32,54,10,119,114,105,116,101,32,48,32,97,98,99,100,10,115,110,97,112,32,111,110,101,10,119,114,105,116,101,32,48,32,101,102,103,104,10,119,105,112,101,32,53,10,109,97,112,10,117,115,101,100,10,98,97,99,107].append [32,111,110,101,10,114,101,97,100,32,48,10,114,101,97,100,32,49,10,100,114,111,112,32,111,110,101,10,117,115,101,100,10,112,97,99,107,10,117,115,101,100,10,115,97,118,101,10,119,114,105,116,101,32,48,32,97,98,99,10,120,10]).toArray⟩:ByteArray).data.toList=0:=by decide +kernel
theorem Xi:GI (⟨([115,105,122,101,32,54,10,119,114,105,116,101,32,48,32,97,98,99,100,10,115,110,97,112,32,111,110,101,10,119,114,105,116,101,32,48,32,101,102,103,104,10,119,105,112,101,32,53,10,109,97,112,10,117,115,101,100,10,98,97,99,107].append [32,111,110,101,10,114,101,97,100,32,48,10,114,101,97,100,32,49,10,100,114,111,112,32,111,110,101,10,117,115,101,100,10,112,97,99,107,10,117,115,101,100,10,115,97,118,101,10,119,114,105,116,101,32,48,32,97,98,99,10,120,10]).toArray⟩:ByteArray).data.toList=(⟨([111,107,10,111,107,10,111,107,10,111,107,10,111,107,10,52,32,46,32,46,32,46,32,46,32,48,10,53,32,54,10,111,107,10,97,98,99,100].append [10,46,46,46,46,10,111,107,10,50,32,54,10,111,107,10,50,32,51,10,49,54,10,101,114,114,111,114,32,49,10,101,114,114,111,114,32,49,10]).toArray⟩:ByteArray).data.toList:=by decide +kernel
theorem Xr (w:World)(hV:L0 w):Cl 6 #[] w fun r w'=>r=.returned (.bool true)/\Bw w w':=by
 have HP:Hd (Cl 4 #[.string ⟨([115,105,122,101,32,54,10,119,114,105,116,101,32,48,32,97,98,99,100,10,115,110,97,112,32,111,110,101,10,119,114,105,116,101,32,48,32,101,102,103,104,10,119,105,112,101,32,53,10,109,97,112,10,117,115,101,100,10,98,97,99,107].append [32,111,110,101,10,114,101,97,100,32,48,10,114,101,97,100,32,49,10,100,114,111,112,32,111,110,101,10,117,115,101,100,10,112,97,99,107,10,117,115,101,100,10,115,97,118,101,10,119,114,105,116,101,32,48,32,97,98,99,10,120,10]).toArray⟩] w fun r w'=>r=.returned (.tuple #[.string ⟨([111,107,10,111,107,10,111,107,10,111,107,10,111,107,10,52,32,46,32,46,32,46,32,46,32,48,10,53,32,54,10,111,107,10,97,98,99,100].append [10,46,46,46,46,10,111,107,10,50,32,54,10,111,107,10,50,32,51,10,49,54,10,101,114,114,111,114,32,49,10,101,114,114,111,114,32,49,10]).toArray⟩,iI 0])/\Bw w w'):=
  (Ua _ w hV).mono fun e w' ⟨h1,h2⟩=>⟨h1.trans (by rw[Xh,Xi];rfl),h2⟩
 clear hV
 go_enter func6,ntmps6
 go_wp2_with(go_at_call 4;refine HP.o.mono ?_;rintro e w1 ⟨rfl,b1⟩);go_ret;exact⟨rfl,b1⟩
theorem Xs (s:ByteArray)(w:World)(hV:L0 w)(hz:s.size<=9000000000000000000):Cl 3 #[.string s] w fun r w'=>r=.returned (.bool true)/\Bw w w':=by
 obtain⟨S,hS⟩:=nM (Ai (GI s.data.toList));obtain⟨E,hE⟩:=nM (EB s.data.toList);have H1:=Ah (Ua s w hV);have H2:=Ah (fun W=>dV s W hz);have H3:=Ah (fun W (h:Bw w W)=>Xr W (hV.all W h));rw[hS,hE]at H1 H2;clear hS hE hV hz
 go_enter func3,ntmps3
 go_wp2_with fail;refine H1.o.mono ?_;rintro e w1 ⟨rfl,b1⟩;dsimp only;go_wp2_with fail;refine(H2.o w1).mono ?_;rintro e w2 ⟨rfl,b2⟩;dsimp only;have aa:=Below.on b1 b2;go_wp2_with fail;refine(H3.o w2 aa).mono ?_;rintro e w3 ⟨rfl,b3⟩;dsimp only;go_wp2_with fail;go_ret;exact⟨rfl,Below.on aa b3⟩
end Go.Proofs.YtfciijncfbepjaaGreatDoor
