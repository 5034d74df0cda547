/- Texts joined: SnV, SnQ, PkP, PkN, PkT, PkQ, PkU, PkR, PkG, PkH, PkV, PkW, DkP, DkG, DkH, DkI, FlFirst, PgSplit, FlOps, SkI, ClnS, SkW, Pair, FrI, SkC, RdP, RdB, SkR, CpyS. -/
import Derived.Test.YtfciijncfbepjaaGreatDoorDeskPlaysJ8
import Derived.Test.YtfciijncfbepjaaGreatDoorDeskPlaysJ2
import Derived.Test.YtfciijncfbepjaaGreatDoorDeskPlaysJ6
import Derived.Test.YtfciijncfbepjaaGreatDoorDeskPlaysJ4
import Derived.Test.YtfciijncfbepjaaGreatDoorDeskPlaysJ7
import Derived.Test.YtfciijncfbepjaaGreatDoorDeskPlaysJ3
import Derived.Test.YtfciijncfbepjaaGreatDoorDeskPlaysJ5
import Derived.Laws.CopyOwn
import Derived.Deep.OwnRows
import Derived.Deep.RegionHeld
import Derived.Deep.AppendLies
set_option linter.unusedVariables false
set_option linter.unusedSimpArgs false
set_option maxHeartbeats 200000000
set_option maxRecDepth 20000
namespace Go.Proofs.YtfciijncfbepjaaGreatDoor
open Go.Proofs.Tryz
variable {B D bm i j k lb n1 r rb rk:Nat}{S:List AE}{val:Nm->Value}{lv rv v:Value}{a b:Nm}{M g m:Ac}{s:AE}{W W' w w' wr:World}{nm:ByteArray}{K L:List An}{l:List UInt8}{E e:Int}{R xs:List Int}
open Go.RowKit Go.Shelf
def CC (k:Nat) (S:List AE) (s:AE):List AE:=S.take k++s::S.drop k
theorem GZ (s:AE)(hk:k<=S.length):(CC k S s).length=S.length+1:=by
 unfold CC;simp;omega
theorem Rd {p:AE->Bool}:∀ (L:List AE),L.takeWhile p=L.take (L.takeWhile p).length/\L.dropWhile p=L.drop (L.takeWhile p).length
 | []=>⟨rfl,rfl⟩
 | a::L=>by
  have ih:=Rd (p:=p) L
  cases e:p a with
  | true=>rw[Ki,List.dropWhile_cons,Ab e,Ab e];simp only[BF,List.take_succ_cons,List.drop_succ_cons];exact⟨by rw[<-ih.1],ih.2⟩
  | false=>rw[Ki,List.dropWhile_cons,Aa (by rw[e];decide),Aa (by rw[e];decide)];exact⟨rfl,rfl⟩
theorem Y4 (S:List AE)(s:AE):IF S s=CC (Cy S s.1) S s:=by
 unfold IF CC Cy;rw[<-(Rd S).1,<-(Rd S).2]
def Fa (k j:Nat):Nat:=if j<k then j else j-1
theorem Gc (s:AE)(hk:k<=S.length)(j:Nat):(CC k S s).getD j default=if j=k then s else S.getD (Fa k j) default:=by
 have ht:(S.take k).length=k:=by rw[BI];omega
 unfold CC Fa;simp only[Es,DY,ht]
 by_cases h:j<k
 ·rw[Ab h,Aa oM,Ab h,Fg,Ab h]
 ·rw[Aa h,Aa h]
  by_cases e:j=k
  ·rw[Ab e,e];simp
  ·rw[Aa e];obtain⟨d,rfl⟩:∃d,j=k+d+1:=⟨j-k-1,oM⟩;rw[show k+d+1-k=d+1 by omega,List.getElem?_cons_succ,Gq,show k+d+1-1=k+d by omega]
def KR (qv:Nat->Value) (rv:Value) (k:Nat):Nat->Value:=fun j=>if j=k then rv else qv (Fa k j)
theorem XX (s:AE)(rv:Value)(hk:k<=S.length)(qv:Nat->Value):A8 (CC k S s) (KR qv rv k)=(A8 S qv).take (k*3)++[.string s.1,iI s.2.1,rv]++(A8 S qv).drop (k*3):=by
 have hl:=GX S qv;have he:=GZ s hk;have ht:((A8 S qv).take (k*3)).length=k*3:=by rw[BI,hl];omega
 refine Nl (n:=S.length+1) (by rw[GX,he]) (by simp only[Bl,CZ,ht,hl,BF,C1];omega) fun q hq=>?_
 obtain⟨a,b,c⟩:=Ew (S:=CC k S s) (qv:=KR qv rv k) (j:=q) oM;rw[a,b,c,Gc s hk];unfold KR;simp only[Ip,DY,ht]
 by_cases h:q<k
 ·obtain⟨a',b',c'⟩:=Ew (S:=S) (qv:=qv) (j:=q) oM;have n1:¬q=k:=oM;have p0:q*3<k*3:=oM;have p1:q*3+1<k*3:=oM;have p2:q*3+2<k*3:=oM;rw[Aa n1,Aa n1,Ab p0,Ab p1,Ab p2];simp only[Fg,Ab p0,Ab p1,Ab p2];rw[a',b',c'];unfold Fa;rw[Ab h];exact⟨rfl,rfl,rfl⟩
 ·rw[Aa (show ¬q*3<k*3 by omega),Aa (show ¬q*3+1<k*3 by omega),Aa (show ¬q*3+2<k*3 by omega)]
  by_cases e:q=k
  ·subst e;rw[Ab rfl,Ab rfl,show q*3-q*3=0 by omega,show q*3+1-q*3=1 by omega,show q*3+2-q*3=2 by omega];exact⟨rfl,rfl,rfl⟩
  ·rw[Aa e,Aa e];obtain⟨a',b',c'⟩:=Ew (S:=S) (qv:=qv) (j:=q-1) oM;unfold Fa;rw[Aa h,<-a',<-b',<-c'];simp only[BF,C1];rw[Aa (show ¬q*3-k*3<0+1+1+1 by omega),Aa (show ¬q*3+1-k*3<0+1+1+1 by omega),Aa (show ¬q*3+2-k*3<0+1+1+1 by omega)];simp only[Gq];exact⟨by congr 1;omega,by congr 1;omega,by congr 1;omega⟩
def Gy (val:Nm->Value) (v rv:Value) (k:Nat):Nm->Value:=fun a=>if a.kind=5 then KR (fun j=>val (.sr j)) rv k a.ix else if a.kind=3 then v else val a
def Ek (k:Nat) (a:Nm):Nm:=if a.kind=5 then .sr (Fa k a.ix) else a
def GB (k:Nat) (a:Nm):Prop:=a.kind=5/\a.ix=k
def Bq (m:Ac) (k:Nat) (s:AE):Ac:={m with p:=CC k m.p s}
theorem LY (h:GB k a):Gy val v rv k a=rv:=by
 unfold Gy KR;rw[Ab h.1,Ab h.2]
theorem KS (h:a.kind≠3)(hn:¬GB k a):Gy val v rv k a=val (Ek k a):=by
 unfold Gy Ek
 by_cases e:a.kind=5
 ·rw[Ab e,Ab e];unfold KR;rw[Aa (fun x=>hn ⟨e,x⟩)]
 ·rw[Aa e,Aa e,Aa h]
theorem LX (k:Nat)(a:Nm):(Ek k a).kind=a.kind:=by
 unfold Ek
 split
 ·rename_i e;rw[e]
 ·rfl
theorem Jg (hk:k<=m.p.length)(h:Af (Bq m k s) a)(hn:¬GB k a):Af m (Ek k a):=by
 have he:=GZ s hk;rcases h with⟨h1,h2⟩|⟨h1,h2⟩|⟨h1,h2⟩
 ·have:a.kind≠5:=oM;unfold Ek;rw[Aa this];exact .inl ⟨h1,h2⟩
 ·have:a.kind≠5:=oM;unfold Ek;rw[Aa this];exact .inr (.inl ⟨h1,h2⟩)
 ·unfold Ek;rw[Ab h1];have h2:a.ix<(CC k m.p s).length:=h2;have hne:a.ix≠k:=fun x=>hn ⟨h1,x⟩
  exact Af.sr (by unfold Fa;split<;>omega)
theorem Y3 (h:a≠b)(ha:¬GB k a)(hb:¬GB k b):Ek k a≠Ek k b:=fun e=>by
 have hk:=congrArg Nm.kind e;rw[LX,LX]at hk
 apply h
 unfold Ek at e
 by_cases h5:a.kind=5
 ·rw[Ab h5,Ab (hk ▸ h5)]at e;have e:=congrArg Nm.ix e;have e:Fa k a.ix=Fa k b.ix:=e;have na:a.ix≠k:=fun x=>ha ⟨h5,x⟩
  have nb:b.ix≠k:=fun x=>hb ⟨hk ▸ h5,x⟩
  have:a.ix=b.ix:=by unfold Fa at e;split at e<;>split at e<;>omega
  cases a;cases b;simp_all
 ·rw[Aa h5,Aa (hk ▸ h5)]at e;exact e
theorem P1 (h:GB k a):a=.sr k:=by obtain⟨x,y⟩:=a;obtain⟨h1,h2⟩:=h;simp_all
theorem OI.ins (h:OI W B val m)(hk:k<=m.p.length)(hr:W.ownsRow B 3 1 rv s.2.2.length (Ae s.2.2))(hrf:∀b,Af m b->∀g,rv.ownBlock=some g->(val b).ownBlock≠some g)(hv:W'.ownsRow B 87 3 v (m.p.length+1) ((A8 m.p (fun j=>val (.sr j))).take (k*3)++[.string s.1,iI s.2.1,rv]++(A8 m.p (fun j=>val (.sr j))).drop (k*3)))(hg:W.grownBy W' (val .p).ownBlock)(hb:v.ownBlock=(val .p).ownBlock\/v.ownBlock=some W.heap.size):OI W' B (Gy val v rv k) (Bq m k s):=by
 have ac:∀a,Af m a->a≠.p->∀g,(val a).ownBlock=some g->v.ownBlock≠some g:=fun a ha hne g aa x=>by
  rcases hb with e|e
  ·exact h.apart a .p ha (Af.p m) hne g aa (e.symm.trans x)
  ·rw[e]at x;have:=((h.row a ha).lt g aa).2;have x:=BJ x;omega
 have ab:∀g,rv.ownBlock=some g->v.ownBlock≠some g:=fun g aa x=>by
  rcases hb with e|e
  ·exact hrf .p (Af.p m) g aa (e.symm.trans x)
  ·rw[e]at x;have:=(hr.lt g aa).2;have x:=BJ x;omega
 have ae:∀ {a:Nm},a.kind≠3->Ek k a≠.p:=fun {a} e y=>e (by rw[<-LX k a,y])
 refine⟨fun a ha=>?_,fun a b ha hb2 hab g aa=>?_⟩
 ·by_cases e:a.kind=3
  ·have ea:=GD ha e;subst ea;rw[<-XX s rv hk,<-GZ s hk]at hv;exact hv
  ·by_cases en:GB k a
   ·have ea:=P1 en;subst ea;have ah:=hr.kept hg (by
     cases eq:rv.ownBlock with
     | none=>exact .inl rfl
     | some g=>exact .inr (fun x=>hrf .p (Af.p m) g eq x.symm))
    rw[LY en];have e3:AP (Bq m k s) (.sr k)=s.2.2.length:=by
     show ((CC k m.p s).getD k default).2.2.length=_
     rw[Gc s hk,Ab rfl]
    have e4:Bn (Bq m k s) (Gy val v rv k) (.sr k)=Ae s.2.2:=by
     show Ae ((CC k m.p s).getD k default).2.2=_
     rw[Gc s hk,Ab rfl]
    rw[e3,e4];exact ah
   ·have hl:=Jg hk ha en;have hr:=h.row (Ek k a) hl;have hr:=hr.kept hg (by
     cases eq:(val (Ek k a)).ownBlock with
     | none=>exact .inl rfl
     | some g=>exact .inr (fun x=>h.apart (Ek k a) .p hl (Af.p m) (ae e) g eq x.symm))
    rw[KS e en];have e1:En (Ek k a)=En a:=by unfold En;rw[LX]
    have e2:Em (Ek k a)=Em a:=by unfold Em;rw[LX]
    rw[e1,e2]at hr;rcases ha.cases with rfl|rfl|rfl|rfl|⟨j,rfl,hj⟩|⟨j,rfl,hj⟩
    ·exact hr
    ·exact hr
    ·exact hr
    ·exact absurd rfl e
    ·exact hr
    ·have ag:j≠k:=fun x=>en ⟨rfl,x⟩
     have e3:AP (Bq m k s) (.sr j)=AP m (Ek k (.sr j)):=by
      show ((CC k m.p s).getD j default).2.2.length=(m.p.getD (Fa k j) default).2.2.length
      rw[Gc s hk,Aa ag]
     have e4:Bn (Bq m k s) (Gy val v rv k) (.sr j)=Bn m val (Ek k (.sr j)):=by
      show Ae ((CC k m.p s).getD j default).2.2=Ae (m.p.getD (Fa k j) default).2.2
      rw[Gc s hk,Aa ag]
     rw[e3,e4];exact hr
 ·by_cases ea:a.kind=3
  ·have af:=GD ha ea;have eb:b.kind≠3:=fun x=>hab (af.trans (GD hb2 x).symm)
   subst af;have aa:v.ownBlock=some g:=aa
   by_cases nb:GB k b
   ·rw[LY nb];exact fun x=>ab g x aa
   ·rw[KS eb nb];exact fun x=>ac _ (Jg hk hb2 nb) (ae eb) g x aa
  ·by_cases na:GB k a
   ·rw[LY na]at aa
    by_cases eb:b.kind=3
    ·have ad:=GD hb2 eb;subst ad;exact ab g aa
    ·have nb:¬GB k b:=fun x=>hab ((P1 na).trans (P1 x).symm)
     rw[KS eb nb];exact hrf _ (Jg hk hb2 nb) g aa
   ·rw[KS ea na]at aa
    by_cases eb:b.kind=3
    ·have ad:=GD hb2 eb;subst ad;exact ac _ (Jg hk ha na) (ae ea) g aa
    ·by_cases nb:GB k b
     ·rw[LY nb];exact fun x=>hrf _ (Jg hk ha na) g x aa
     ·rw[KS eb nb];exact h.apart _ _ (Jg hk ha na) (Jg hk hb2 nb) (Y3 hab na nb) g aa
theorem Ay.ins (h:DK W B D val m)(hB:B<=W.heap.size)(hk:k<=m.p.length)(hr:W.ownsRow B 3 1 rv s.2.2.length (Ae s.2.2))(hrf:∀b,Af m b->∀g,rv.ownBlock=some g->(val b).ownBlock≠some g)(hrD:rv.ownBlock≠some D)(hv:W'.ownsRow B 87 3 v (m.p.length+1) ((A8 m.p (fun j=>val (.sr j))).take (k*3)++[.string s.1,iI s.2.1,rv]++(A8 m.p (fun j=>val (.sr j))).drop (k*3)))(hg:W.grownBy W' (val .p).ownBlock)(hb:v.ownBlock=(val .p).ownBlock\/v.ownBlock=some W.heap.size):Ay W (W'.setCell (aD D 4) v) B D m val rv (Bq m k s) (Gy val v rv k):=by
 have aa:∀q,q<W.heap.size->rv.ownBlock≠some q->(∀b,Af m b->(val b).ownBlock≠some q)->∀a,Af (Bq m k s) a->(Gy val v rv k a).ownBlock≠some q:=fun q hq hrq hm a ha=>by
  by_cases e:a.kind=3
  ·have ea:=GD ha e;subst ea
   show v.ownBlock≠some q
   rcases hb with x|x
   ·rw[x];exact hm .p (Af.p m)
   ·rw[x];intro y;have:=BJ y;omega
  ·by_cases en:GB k a
   ·rw[LY en];exact hrq
   ·rw[KS e en];exact hm _ (Jg hk ha en)
 have hf:=aa D h.lt hrD h.far;have ab:Below B W W':=IV Eu hg hB (fun q e=>((h.own.row .p (Af.p m)).lt q e).1);refine⟨⟨(h.own.ins hk hr hrf hv hg hb).far hf,?_,h.ge,hf⟩,ab.setCell h.ge _,fun q hq hD _ hm=>(AN W' (aD D 4) v q hD).trans (hg.block q hq (fun e=>hm .p (Af.p m) e.symm)),fun q hq hrq hm=>aa q hq hrq hm⟩;have ac:=(hg.block D h.lt (fun e=>h.far .p (Af.p m) e.symm)).trans h.box;exact Bf ac 4 v

def EL (m:Ac) (nm:ByteArray):Int:=if Ao m≠0 then Ao m else if BG nm=false then 4 else if (BU m.p nm).isSome=true then 6 else if m.p.length=3 then 2 else 0
def GV (m:Ac) (nm:ByteArray):Ac:=if EL m nm=0 then At (Je m nm) else AZ
def GL (m:Ac) (nm:ByteArray):Ac:=if Ao m≠0 then AZ else match BU m.p nm with|some k=>At (Ih m k)|none=>AZ
def Gt (m:Ac) (nm:ByteArray):Ac:=if Ao m≠0 then AZ else match BU m.p nm with|some k=>At (Dk m k)|none=>AZ
theorem Zj {α:Type}{o:Option α}(h:¬o.isSome=true):o=none:=by cases o with|none=>rfl|some x=>exact absurd rfl h
theorem Pr (h:EL m nm=0):Ao m=0/\BG nm=true/\BU m.p nm=none/\m.p.length<3/\GV m nm=At (Je m nm)/\As (Je m nm)=0/\Ao (GV m nm)=0/\(GV m nm).s=m.s:=by
 have e:GV m nm=At (Je m nm):=by unfold GV;rw[Ab h]
 unfold EL at h
 by_cases hC:Ao m=0
 ·rw[Aa (fun x=>x hC)]at h
  by_cases hn:BG nm=false
  ·rw[Ab hn]at h;cases h
  ·rw[Aa hn]at h
   by_cases hx:(BU m.p nm).isSome=true
   ·rw[Ab hx]at h;cases h
   ·rw[Aa hx]at h
    by_cases h3:m.p.length=3
    ·rw[Ab h3]at h;cases h
    ·have hn:BG nm=true:=by simpa using hn
     have hx:=Zj hx;have h3:m.p.length<3:=by have:=(Au (A0 hC)).1;omega
     have hs:=WX (A0 hC) hn hx h3;exact⟨hC,hn,hx,h3,e,hs,e ▸ KD hs,e ▸ iF hC hs rfl (Yh m nm)⟩
 ·rw[Ab hC]at h;exact absurd h hC
theorem R5 (h:EL m nm≠0):GV m nm=AZ:=by unfold GV;rw[Aa h]
theorem T0 (h:CW m nm=0):Ao m=0/\∃k,BU m.p nm=some k/\k<m.p.length:=by
 unfold CW at h
 by_cases hC:Ao m=0
 ·rw[Aa (fun x=>x hC)]at h
  cases e:BU m.p nm with
  | none=>rw[e]at h;cases h
  | some k=>exact⟨hC,k,rfl,QV e⟩
 ·rw[Ab hC]at h;exact absurd h hC
theorem QN (h:CW m nm=0):Ao m=0/\∃k,BU m.p nm=some k/\k<m.p.length/\GL m nm=At (Ih m k)/\As (Ih m k)=0/\Ao (GL m nm)=0/\Cc (GL m nm).s<=Cc m.s:=by
 obtain⟨hC,k,hk,hl⟩:=T0 h;have e:GL m nm=At (Ih m k):=by unfold GL;rw[Aa (fun x=>x hC),hk]
 have hs:=fp (A0 hC) hl;exact⟨hC,k,hk,hl,e,hs,e ▸ KD hs,e ▸ Vm _ _⟩
theorem Pz (h:CW m nm=0):Ao m=0/\∃k,BU m.p nm=some k/\k<m.p.length/\Gt m nm=At (Dk m k)/\As (Dk m k)=0/\Ao (Gt m nm)=0/\Cc (Gt m nm).s<=Cc m.s:=by
 obtain⟨hC,k,hk,hl⟩:=T0 h;have e:Gt m nm=At (Dk m k):=by unfold Gt;rw[Aa (fun x=>x hC),hk]
 have hs:=Xo (A0 hC) k;exact⟨hC,k,hk,hl,e,hs,e ▸ KD hs,e ▸ Vm _ _⟩
theorem UJ (h:CW m nm≠0):GL m nm=AZ:=by
 unfold GL;unfold CW at h
 split
 ·rfl
 ·rename_i hC
  rw[Aa hC]at h
  cases e:BU m.p nm with
  | none=>rfl
  | some k=>rw[e]at h;exact absurd rfl h
theorem Sg (h:CW m nm≠0):Gt m nm=AZ:=by
 unfold Gt;unfold CW at h
 split
 ·rfl
 ·rename_i hC
  rw[Aa hC]at h
  cases e:BU m.p nm with
  | none=>rfl
  | some k=>rw[e]at h;exact absurd rfl h
theorem R6 (m:Ac)(nm:ByteArray):Je m nm=Bq m (Cy m.p nm) (nm,m.g,m.r):=by
 unfold Je Bq;rw[Y4]

def kept (L:List An) (k:Nat):Bool:=k == 0 || kd L k != 0
def Bd (L:List An):List Nat:=(List.range L.length).filter (kept L)
def AJ (L:List An) (k:Nat):Nat:=((List.range k).filter (kept L)).length
def Ba (L:List An) (e:Int):Int:=if 0<=e/\e.toNat<L.length/\kept L e.toNat=true then (AJ L e.toNat:Int) else e
def Gi (L:List An) (s:An):An:=(s.1,s.2.1,s.2.2.map (Ba L))
def CK (L:List An):List An:=(Bd L).map (fun k=>Gi L (L.getD k default))
def Gh (L:List An) (s:AE):AE:=(s.1,s.2.1,s.2.2.map (Ba L))
def CU (m:Ac):Ac:=⟨m.g,m.r.map (Ba m.s),CK m.s,(Bd m.s).map (fun k=>m.f.getD k 0),m.p.map (Gh m.s)⟩
theorem eC {n:Nat}(h:k<n):List.range n=List.range k++k::(List.range n).drop (k+1):=by
 have e1:(List.range n).take k=List.range k:=by rw[List.take_range];congr 1;omega
 have e2:(List.range n)[k]'(by simpa using h)=k:=by simp
 have:=Rw k (List.range n);rw[e1,Lt (by simpa using h),e2]at this;exact this.symm
theorem KT (hk:k<L.length)(h:kept L k=true):(Bd L)[AJ L k]?=some k:=by
 unfold Bd AJ;rw[eC hk,Ha,Lw,Ab h,OJ lE,Is]
 rfl
theorem NI:k∈Bd L↔k<L.length/\kept L k=true:=by
 unfold Bd;rw[Kg,CR]
theorem SW (L:List An):(Bd L).Nodup:=List.Pairwise.filter _ List.nodup_range
theorem IK (hk:k<L.length)(h:kept L k=true):AJ L k<(Bd L).length:=(MK.1 (KT hk h)).1
theorem Tw {l:List Nat}(h:l.Nodup)(hi:i<l.length)(hj:j<l.length)(e:l[i]=l[j]):i=j:=by
 have hp:=MQ.1 h;rcases OS i j with x|x|x
 ·exact absurd e (hp i j hi hj x)
 ·exact x
 ·exact absurd e.symm (hp j i hj hi x)
theorem NG (hi:i<(Bd L).length):(Bd L)[i]<L.length/\kept L (Bd L)[i]=true/\AJ L (Bd L)[i]=i:=by
 obtain⟨h1,h2⟩:=NI.1 (BS hi);refine⟨h1,h2,?_⟩;have e:=KT h1 h2;have hl:=IK h1 h2;rw[Co hl]at e;exact Tw (SW L) hl hi (BJ e)
theorem fF (hk:k<L.length)(h:kept L k=true)(hj:j<L.length)(h':kept L j=true)(e:AJ L k=AJ L j):k=j:=by
 have a:=KT hk h;rw[e,KT hj h']at a;exact(BJ a).symm
theorem Zo (L:List An):kept L 0=true:=rfl
theorem Lc (L:List An):AJ L 0=0:=rfl
theorem Ka (h:1<=k):1<=AJ L k:=by
 unfold AJ;obtain⟨d,rfl⟩:∃d,k=d+1:=⟨k-1,oM⟩;rw[List.range_succ_eq_map,Lw,Ab (Zo L)];simp
theorem Jj (h:kd L k≠0):kept L k=true:=by unfold kept;simp[h]
theorem Zp (h1:1<=k)(h:kept L k=true):kd L k≠0:=by
 unfold kept at h;have:(k == 0)=false:=by simp;omega
 rw[this]at h
 simpa using h
theorem GJ:Ba L 0=0:=by
 unfold Ba
 split
 ·rw[show (0:Int).toNat=0 from rfl,Lc];rfl
 ·rfl
theorem Jq:Ba L (-1) = -1:=by unfold Ba;rw[Aa oM]
theorem Fq (hk:k<L.length)(h:kept L k=true):Ba L (k:Int)=(AJ L k:Int):=by
 unfold Ba;rw[Ab ⟨Int.natCast_nonneg _,by rw[A5];exact hk,by rw[A5];exact h⟩,A5]
theorem GH (L:List An):(CK L).length=(Bd L).length:=by unfold CK;rw[BH]
theorem NH (L:List An):(Bd L).length<=L.length:=by
 unfold Bd;have:=Ru (kept L) (List.range L.length);rwa [Ly]at this
theorem Qs (hk:k<L.length)(h:kept L k=true):(CK L).getD (AJ L k) default=Gi L (L.getD k default):=by
 unfold CK;rw[Es,Dm,KT hk h]
 rfl
theorem Md (hk:k<L.length)(h:kept L k=true):kd (CK L) (AJ L k)=kd L k:=by
 show ((CK L).getD (AJ L k) default).1=_;rw[Qs hk h];rfl
theorem TS (hk:k<L.length)(h:kept L k=true):AH (CK L) (AJ L k:Int)=(AH L (k:Int)).map (Ba L):=by
 unfold AH;rw[A5,A5,Qs hk h];rfl
def DI (L:List An) (e:Int):Prop:=e=0\/e = -1\/∃j:Nat,e=j/\1<=j/\j<L.length/\kept L j=true
theorem eP (h:DI L e):DI (CK L) (Ba L e):=by
 rcases h with rfl|rfl|⟨j,rfl,j1,jl,hk⟩
 ·exact .inl GJ
 ·exact .inr (.inl Jq)
 ·refine .inr (.inr ⟨AJ L j,Fq jl hk,Ka j1,by rw[GH];exact IK jl hk,Jj ?_⟩);rw[Md jl hk];exact Zp j1 hk
theorem eQ (h1:1<=L.length){a b:Int}(ha:DI L a)(hb:DI L b)(e:Ba L a=Ba L b):a=b:=by
 rcases ha with rfl|rfl|⟨j,rfl,j1,jl,hj⟩<;>rcases hb with rfl|rfl|⟨k,rfl,k1,kl,hk⟩
 ·rfl
 ·rw[GJ,Jq]at e;omega
 ·rw[GJ,Fq kl hk]at e;have:=Ka (L:=L) k1;omega
 ·rw[GJ,Jq]at e;omega
 ·rfl
 ·rw[Jq,Fq kl hk]at e;omega
 ·rw[GJ,Fq jl hj]at e;have:=Ka (L:=L) j1;omega
 ·rw[Jq,Fq jl hj]at e;omega
 ·rw[Fq jl hj,Fq kl hk]at e;rw[fF jl hj kl hk oM]
theorem Va (h:tabE L e=true):e=0\/e = -1\/∃j:Nat,e=j/\1<=j/\j<L.length/\kd L j=1:=by
 unfold tabE C6 at h
 by_cases h0:e=0
 ·exact .inl h0
 ·by_cases h1:e = -1
  ·exact .inr (.inl h1)
  ·simp[h0,h1]at h
   obtain⟨⟨a,b⟩,c⟩:=h;obtain⟨j,rfl⟩:=FV a;rw[A5]at c;exact .inr (.inr ⟨j,rfl,oM,oM,c⟩)
theorem Q2 (h:e=0\/e = -1\/∃j:Nat,e=j/\1<=j/\j<L.length/\kd L j=1):tabE L e=true:=by
 unfold tabE C6;rcases h with rfl|rfl|⟨j,rfl,j1,jl,hk⟩
 ·rfl
 ·rfl
 ·have e1:(L.getD (Int.toNat (j:Int)) default).1=1:=by rw[A5];exact hk
  have e2:decide (0<=(j:Int)/\(j:Int)<(L.length:Int))=true:=by rw[C4];omega
  rw[e1,e2];simp
theorem QF (h:BZ L e=true):e=0\/∃j:Nat,e=j/\1<=j/\j<L.length/\kd L j=2:=by
 unfold BZ C6 at h
 by_cases h0:e=0
 ·exact .inl h0
 ·simp[h0]at h
  obtain⟨⟨a,b⟩,c⟩:=h;obtain⟨j,rfl⟩:=FV a;rw[A5]at c;exact .inr ⟨j,rfl,oM,oM,c⟩
theorem Ut (h:e=0\/∃j:Nat,e=j/\1<=j/\j<L.length/\kd L j=2):BZ L e=true:=by
 unfold BZ C6;rcases h with rfl|⟨j,rfl,j1,jl,hk⟩
 ·rfl
 ·have e1:(L.getD (Int.toNat (j:Int)) default).1=2:=by rw[A5];exact hk
  have e2:decide (0<=(j:Int)/\(j:Int)<(L.length:Int))=true:=by rw[C4];omega
  rw[e1,e2];simp
theorem fK (h:BZ L e=true):BZ (CK L) (Ba L e)=true:=by
 rcases QF h with rfl|⟨j,rfl,j1,jl,hk⟩
 ·rw[GJ];exact Ut (.inl rfl)
 ·have hp:kept L j=true:=Jj (by rw[hk];decide);exact Ut (.inr ⟨AJ L j,Fq jl hp,Ka j1,by rw[GH];exact IK jl hp,by rw[Md jl hp];exact hk⟩)
theorem iM (h:tabE L e=true):tabE (CK L) (Ba L e)=true:=by
 rcases Va h with rfl|rfl|⟨j,rfl,j1,jl,hk⟩
 ·rw[GJ];exact Q2 (.inl rfl)
 ·rw[Jq];exact Q2 (.inr (.inl rfl))
 ·have hp:kept L j=true:=Jj (by rw[hk];decide);exact Q2 (.inr (.inr ⟨AJ L j,Fq jl hp,Ka j1,by rw[GH];exact IK jl hp,by rw[Md jl hp];exact hk⟩))
theorem QE (h:BZ L e=true):DI L e:=by
 rcases QF h with rfl|⟨j,rfl,j1,jl,hk⟩
 ·exact .inl rfl
 ·exact .inr (.inr ⟨j,rfl,j1,jl,Jj (by rw[hk];decide)⟩)
theorem Q1 (h:tabE L e=true):DI L e:=by
 rcases Va h with rfl|rfl|⟨j,rfl,j1,jl,hk⟩
 ·exact .inl rfl
 ·exact .inr (.inl rfl)
 ·exact .inr (.inr ⟨j,rfl,j1,jl,Jj (by rw[hk];decide)⟩)

def Cd (L:List An) (l:List Nat):List MapEntry:=l.map (fun (k:Nat)=>{key:=iI (k:Int),val:=iI (AJ L k:Int),born:=AJ L k})
theorem LR {L:List An}:∀ {l:List Nat} {k:Int},(∀j∈l,(j:Int)≠k)->∀i,Instr.findNow (.int .i64) (iI k) (Cd L l) i=some none
 | [],_,_,_=>rfl
 | a::l,k,h,i=>by
  have e:(k == (a:Int))=false:=by have:=h a CD;simp;omega
  show (match Instr.sameNow (.int .i64) (iI k) (iI (a:Int)) with|some true=>_|some false=>Instr.findNow (.int .i64) (iI k) (Cd L l) (i+1)|none=>none)=_
  simp only[Instr.sameNow,if_true,e];exact LR (fun j hj=>h j (CA _ hj)) (i+1)
theorem PF {L:List An}:∀ {l:List Nat} {k:Nat},k∈l->∀i,∃p,Instr.findNow (.int .i64) (iI (k:Int)) (Cd L l) i=some (some (p,iI (AJ L k:Int)))
 | [],_,h,_=>by cases h
 | a::l,k,h,i=>by
  by_cases e:k=a
  ·subst e;refine⟨i,?_⟩
   show (match Instr.sameNow (.int .i64) (iI (k:Int)) (iI (k:Int)) with|some true=>some (some (i,iI (AJ L k:Int)))|some false=>_|none=>none)=_
   simp[Instr.sameNow]
  ·have e1:((k:Int) == (a:Int))=false:=by simp;omega
   rcases Ir.1 h with x|x
   ·exact absurd x e
   ·obtain⟨p,hp⟩:=PF (L:=L) x (i+1);refine⟨p,?_⟩
    show (match Instr.sameNow (.int .i64) (iI (k:Int)) (iI (a:Int)) with|some true=>_|some false=>Instr.findNow (.int .i64) (iI (k:Int)) (Cd L l) (i+1)|none=>none)=_
    simp only[Instr.sameNow,if_true,e1];exact hp
theorem PC:((Cd L ((List.range k).filter (kept L))).toArray).size=AJ L k:=by unfold Cd AJ;simp
theorem Sj (h:kept L k=true):(Cd L ((List.range (k+1)).filter (kept L))).toArray=((Cd L ((List.range k).filter (kept L))).toArray).push {key:=iI (k:Int),val:=iI (AJ L k:Int),born:=AJ L k}:=by
 rw[DD,Ha];unfold Cd;simp[h]
theorem Xw (h:kept L k=false):(Cd L ((List.range (k+1)).filter (kept L))).toArray=(Cd L ((List.range k).filter (kept L))).toArray:=by
 rw[DD,Ha];simp[h]
theorem Mk (h:kept L k=true):AJ L (k+1)=AJ L k+1:=by
 unfold AJ;rw[DD,Ha];simp[h]
theorem N0 (h:kept L k=false):AJ L (k+1)=AJ L k:=by
 unfold AJ;rw[DD,Ha];simp[h]
theorem J3 {c:Nat}{es:Array MapEntry}(h:W.heap[r]?=some (.map es c))(o:Obj):(W.alloc o).heap[r]?=some (.map es c):=
 (Ch W o r (AA h)).trans h
theorem cM (b off cap:Nat)(L:List An)(w:World)(h40:L.length<=40)(hlt:b<w.heap.size)(HC:Hd (∀j,(h:j<L.length)->B7 w b (off+j*3) L[j])):Cl 107 #[lD b off L.length cap] w fun r w'=>r=.returned (.map (some w.heap.size))/\w'.heap[w.heap.size]?=some (.map ((Cd L ((List.range L.length).filter (kept L))).toArray) (AJ L L.length))/\Bw w w':=by
 have af:=@run_makeMap prog;have g0:=O2 w (.map #[] 0);have ad:Hd ((w.alloc (.map #[] 0)).heap[w.heap.size]?=some (.map ((Cd L ((List.range 0).filter (kept L))).toArray) (AJ L 0))/\Bw w (w.alloc (.map #[] 0))):=⟨g0,Av⟩;clear g0
 go_enter func107,ntmps107
 go_wp2_with fail
 go_loopw [10] (fun i wr=>∃k:Nat,k<=L.length/\i=iI k/\Hd (wr.heap[w.heap.size]?=some (.map ((Cd L ((List.range k).filter (kept L))).toArray) (AJ L k))/\Bw w wr)) (fun i _=>L.length-(intOf i).toNat)
 case atStart=>exact⟨0,A7 _,rfl,ad⟩
 case round=>
  obtain⟨k,hk,rfl,HM⟩:=hrel
  by_cases hkl:k<L.length
  ·have ae:(k:Int)<(L.length:Int):=oM;obtain⟨tv,q0,q1,q2,qs⟩:=HC.o k hkl;obtain⟨⟨kk,dd,es⟩,ab⟩:∃s,L[k]=s:=⟨_,rfl⟩;have HS:Hd (kd L k=kk):=by show kd L k=kk;rw[<-NE hkl,ab]
   rw[ab]at q0 q1 qs;obtain⟨ta,tc,rfl⟩:=qs.form;obtain⟨tn,ac⟩:∃n,n=es.length:=⟨_,rfl⟩;have v0:wr.cell? (aD b (off+k*3))=some (iI kk):=(HM.o.2.cell (p:=(aD b (off+k*3))) hlt).trans q0;have v1:wr.cell? (aD b (off+k*3+1))=some (.string dd):=(HM.o.2.cell (p:=(aD b (off+k*3+1))) hlt).trans q1;have v2:wr.cell? (aD b (off+k*3+1+1))=some (.slice ta tn tc):=by rw[ac];exact(HM.o.2.cell (p:=(aD b (off+k*3+1+1))) hlt).trans q2
   clear ab ac q0 q1 q2 qs
   by_cases k0:k=0
   ·have aa:kept L k=true:=by rw[k0];rfl
    have c0:((k:Int) == 0)=true:=by simp;omega
    clear k0
    skip
    obtain⟨W1,u1,g1,b1,z1⟩:=Mz (P:=prog) (w:=wr.alloc (oS kk dd ta tn tc)) 119 3 3 w.heap.size (AJ L k) ((Cd L ((List.range k).filter (kept L))).toArray) (k:Int) (iI (AJ L k:Int)) underlying119 underlying3 (J3 HM.o.1 _) (LR (L:=L) (l:=(List.range k).filter (kept L)) (k:=(k:Int)) (fun j hj=>by have:=CR.1 (Kg.1 hj).1;omega) 0) lE (HM.o.2.alloc HM.o.2.size _);have hlen:∀ty,(Builtin.len_ #[119] ty #[.map (some w.heap.size)]).run prog (wr.alloc (oS kk dd ta tn tc))=.ok (iI (AJ L k:Int)) (wr.alloc (oS kk dd ta tn tc)):=fun ty=>by
     have:=run_len_map (P:=prog) (w:=wr.alloc (oS kk dd ta tn tc)) 119 ty w.heap.size ((Cd L ((List.range k).filter (kept L))).toArray) (AJ L k) kR (J3 HM.o.1 _);rw[this];unfold goInt;rw[PC]
    have G1:Hd (W1.heap[w.heap.size]?=some (.map ((Cd L ((List.range (k+1)).filter (kept L))).toArray) (AJ L (k+1)))/\Bw w W1):=⟨by rw[g1,Sj aa,Mk aa],b1⟩;clear g1 b1 z1;go_wp2_with fail;go_roundw
    case rel=>exact⟨k+1,oM,by go_num,G1⟩
    case measure=>first|(simp[intOf];done)|(simp[intOf];omega)
   ·have c0:((k:Int) == 0)=false:=by simp;omega
    have ag:¬(k:Int)=0:=oM
    by_cases hz:kk=0
    ·have aa:kept L k=false:=by unfold kept;rw[HS.o,hz];simp;omega
     have c1:(kk != 0)=false:=by simp[hz]
     have GN:Hd ((wr.alloc (oS kk dd ta tn tc)).heap[w.heap.size]?=some (.map ((Cd L ((List.range (k+1)).filter (kept L))).toArray) (AJ L (k+1)))/\Bw w (wr.alloc (oS kk dd ta tn tc))):=⟨by rw[Xw aa,N0 aa];exact J3 HM.o.1 _,HM.o.2.alloc HM.o.2.size _⟩;subst hz
     skip
     go_wp2_with fail;go_roundw
     case rel=>exact⟨k+1,oM,by go_num,GN⟩
     case measure=>first|(simp[intOf];done)|(simp[intOf];omega)
    ·have aa:kept L k=true:=Jj (by rw[HS.o];exact hz);have c1:(kk != 0)=true:=by simp[hz]
     skip
     obtain⟨W1,u1,g1,b1,z1⟩:=Mz (P:=prog) (w:=wr.alloc (oS kk dd ta tn tc)) 119 3 3 w.heap.size (AJ L k) ((Cd L ((List.range k).filter (kept L))).toArray) (k:Int) (iI (AJ L k:Int)) underlying119 underlying3 (J3 HM.o.1 _) (LR (L:=L) (l:=(List.range k).filter (kept L)) (k:=(k:Int)) (fun j hj=>by have:=CR.1 (Kg.1 hj).1;omega) 0) lE (HM.o.2.alloc HM.o.2.size _);have hlen:∀ty,(Builtin.len_ #[119] ty #[.map (some w.heap.size)]).run prog (wr.alloc (oS kk dd ta tn tc))=.ok (iI (AJ L k:Int)) (wr.alloc (oS kk dd ta tn tc)):=fun ty=>by
      have:=run_len_map (P:=prog) (w:=wr.alloc (oS kk dd ta tn tc)) 119 ty w.heap.size ((Cd L ((List.range k).filter (kept L))).toArray) (AJ L k) kR (J3 HM.o.1 _);rw[this];unfold goInt;rw[PC]
     have G1:Hd (W1.heap[w.heap.size]?=some (.map ((Cd L ((List.range (k+1)).filter (kept L))).toArray) (AJ L (k+1)))/\Bw w W1):=⟨by rw[g1,Sj aa,Mk aa],b1⟩;clear g1 b1 z1;go_wp2_with fail;go_roundw
     case rel=>exact⟨k+1,oM,by go_num,G1⟩
     case measure=>first|(simp[intOf];done)|(simp[intOf];omega)
  ·have e:k=L.length:=oM;subst e;go_wp2_with fail;go_ret;exact⟨rfl,HM.o.1,HM.o.2⟩
theorem cO (h:BA w v L)(hE:AD L=0):Cl 107 #[v] w fun r w'=>r=.returned (.map (some w.heap.size))/\w'.heap[w.heap.size]?=some (.map ((Cd L ((List.range L.length).filter (kept L))).toArray) (AJ L L.length))/\Bw w w':=by
 obtain⟨b,off,cap,rfl,_,hlt,hc⟩:=h.open (A4 hE).1;exact cM b off cap L w (A4 hE).2 hlt hc

theorem YM {a b c:World}{row:Option Nat}(h:a.grownBy b row)(k:b.grownBy c row):a.grownBy c row:=
 ⟨k.os.trans h.os,k.tape.trans h.tape,k.output.trans h.output,Bg h.size k.size,fun q hq hr=>(k.block q (AO hq h.size) hr).trans (h.block q hq hr)⟩
def F6 (W:World) (bm r:Nat) (L:List An):Prop:=W.heap[bm]?=some (.cells #[.map (some r)] 119)/\W.heap[r]?=some (.map ((Cd L ((List.range L.length).filter (kept L))).toArray) (AJ L L.length))
theorem jt (h:F6 W bm r L)(e:Int){x:Int}(hx:Ba L e=x):Cl 110 #[iI e,pZ bm] W fun q W'=>q=.returned (iI x)/\W'=W:=by
 have c0:W.cell? (aZ bm)=some (.map (some r)):=by simp[World.cell?,h.1]
 subst hx
 by_cases hk:0<=e/\e.toNat<L.length/\kept L e.toNat=true
 ·obtain⟨k,rfl⟩:=FV hk.1;rw[A5]at hk;obtain⟨p,hp⟩:=PF (L:=L) (l:=(List.range L.length).filter (kept L)) (k:=k) (Kg.2 ⟨CR.2 hk.2.1,hk.2.2⟩) 0;have hl:=L7 (P:=prog) (w:=W) 119 3 3 r (AJ L L.length) ((Cd L ((List.range L.length).filter (kept L))).toArray) (k:Int) (iI (AJ L k:Int)) p underlying119 underlying3 h.2 (by simpa using hp);rw[Fq hk.2.1 hk.2.2];clear h hk hp
  go_enter func110,ntmps110
  go_wp2_with fail;go_ret;exact⟨rfl,rfl⟩
 ·have hn:∀j∈(List.range L.length).filter (kept L),(j:Int)≠e:=fun j hj x=>by
   obtain⟨h1,h2⟩:=Kg.1 hj;have h1:=CR.1 h1;subst x;exact hk ⟨Int.natCast_nonneg _,by rw[A5];exact h1,by rw[A5];exact h2⟩
  have hl:=Qb (P:=prog) (w:=W) 119 3 3 r (AJ L L.length) ((Cd L ((List.range L.length).filter (kept L))).toArray) e (iI 0) underlying119 underlying3 h.2 (by simpa using LR (L:=L) hn 0) kR;have e1:Ba L e=e:=by unfold Ba;rw[Aa hk]
  rw[e1];clear h hk hn e1
  go_enter func110,ntmps110
  go_wp2_with fail;go_ret;exact⟨rfl,rfl⟩
def Hw (f:Int->Int) (k:Nat) (xs:List Int):List Int:=(xs.take k).map f++xs.drop k
theorem ZV {f:Int->Int}(hk:k<xs.length):(Hw f k xs)[k]?=some xs[k]:=by
 have ht:((xs.take k).map f).length=k:=by rw[BH,BI];omega
 unfold Hw;rw[OJ oM,ht,Is,Gq,Fi,Co hk]
theorem ZW {f:Int->Int}(hk:k<xs.length):Hw f (k+1) xs=(Hw f k xs).set k (f xs[k]):=by
 have ht:((xs.take k).map f).length=k:=by rw[BH,BI];omega
 unfold Hw;rw[List.set_append,ht,Aa (JG k),Is,Lt hk,DE,<-Hg hk,DQ,Ip]
 rfl
theorem ZU (f:Int->Int)(xs:List Int):Hw f xs.length xs=xs.map f:=by unfold Hw;rw[Fz,Lu,JA]
theorem jr (g cap bm r B:Nat)(L:List An)(xs:List Int)(W:World)(hm:xs.length<=1000)(HR:Hd (W.ownsRow B 3 1 (lZ g xs.length cap) xs.length (Ae xs)))(HN:Hd (F6 W bm r L/\bm≠g/\r≠g)):Cl 169 #[lZ g xs.length cap,.func (.func 110) #[] #[pZ bm]] W fun q W'=>q=.returned (.tuple #[])/\W'.ownsRow B 3 1 (lZ g xs.length cap) xs.length (Ae (xs.map (Ba L)))/\W.grownBy W' (some g):=by
 have hN:∀ (args:Array Value) (w:World),(callFunc 110 args).run prog w=.ok (.enter 110 args) w:=enters_of func110 kR rfl;have ad:Hd (W.grownBy W (some g)):=⟨rfl,rfl,rfl,Bc _,fun _ _ _=>rfl⟩
 go_enter func169,ntmps169
 go_wp2_with fail
 go_loopw [8] (fun i wr=>∃k:Nat,k<=xs.length/\i=iI k/\Hd (wr.ownsRow B 3 1 (lZ g xs.length cap) xs.length (Ae (Hw (Ba L) k xs))/\W.grownBy wr (some g))) (fun i _=>xs.length-(intOf i).toNat)
 case atStart=>exact⟨0,A7 _,rfl,HR,ad⟩
 case round=>
  obtain⟨k,hk,rfl,HC⟩:=hrel
  by_cases hkl:k<xs.length
  ·have ag:(k:Int)<(xs.length:Int):=oM;obtain⟨x,hx⟩:=nM (xs[k]);have c0:wr.cell? (aD g k)=some (iI x):=by
    have:=HC.o.1.cellAt k oM;rw[this]
    show (List.map (Value.int .i64) (Hw (Ba L) k xs))[k]?=_
    rw[Dm,ZV hkl,hx];rfl
   have hf:wr.frozen? (aD g k)=false:=HC.o.1.frozenAt k;have hlt:=(Gm HC.o.1).2.1;have af:=(Gm HR.o).2.1;have ac:F6 wr bm r L:=⟨(HC.o.2.block bm (B6.1 HN.o.1.1).1 (by intro e;injection e with e;exact HN.o.2.1 e)).trans HN.o.1.1,(HC.o.2.block r (B6.1 HN.o.1.2).1 (by intro e;injection e with e;exact HN.o.2.2 e)).trans HN.o.1.2⟩;have aa:=jt ac x rfl;obtain⟨y,hy⟩:∃y,y=Ba L x:=⟨_,rfl⟩;have ab:=HC.o.1.stored k (iI y);have ae:Hd ((wr.setCell (aD g k) (iI y)).ownsRow B 3 1 (lZ g xs.length cap) xs.length (Ae (Hw (Ba L) (k+1) xs))/\W.grownBy (wr.setCell (aD g k) (iI y)) (some g)):=⟨by rw[ZW hkl,Jh,hx,<-hy];exact ab.1,YM HC.o.2 ab.2⟩;rw[<-hy]at aa;clear hx hy ab ac af hlt;go_wp2_with fail;refine aa.mono ?_;rintro e' w' ⟨rfl,hw⟩;rw[hw];clear hw;dsimp only;go_wp2_with fail;go_roundw
   case rel=>exact⟨k+1,oM,by go_num,ae⟩
   case measure=>first|(simp[intOf];done)|(simp[intOf];omega)
  ·have e:k=xs.length:=oM;subst e;go_wp2_with fail
   go_end0
   have:=HC.o;rw[ZU]at this;exact⟨rfl,this.1,this.2⟩
theorem Rc {g':Option Nat}(hm:xs.length<=1000)(hR:W.ownsRow B 3 1 v xs.length (Ae xs))(hN:F6 W bm r L)(h1:v.ownBlock≠some bm)(h2:v.ownBlock≠some r):Cl 169 #[v,.func (.func 110) #[] #[pZ bm]] W fun q W'=>q=.returned (.tuple #[])/\W'.ownsRow B 3 1 v xs.length (Ae (xs.map (Ba L)))/\W.grownBy W' v.ownBlock:=by
 rcases Di hR with⟨rfl,hn⟩|⟨g,cap,rfl,_⟩
 ·have hx:xs=[]:=IZ hn;subst hx;have HR:Hd (W.ownsRow B 3 1 (nl) 0 (Ae [])):=hR;clear hR hN h1 h2
  go_enter func169,ntmps169
  go_wp2_with fail
  go_loopw [8] (fun i wr=>i=iI 0/\wr=W) (fun _ _=>0)
  case atStart=>exact⟨rfl,rfl⟩
  case round=>
   obtain⟨rfl,rfl⟩:=hrel;go_wp2_with fail
   go_end0
   exact⟨rfl,HR.o,⟨rfl,rfl,rfl,Bc _,fun _ _ _=>rfl⟩⟩
 ·exact jr g cap bm r B L xs W hm hR ⟨hN,fun e=>h1 (by rw[e];rfl),fun e=>h2 (by rw[e];rfl)⟩

theorem Ze (h40:L.length<=40)(h:DI L e):Cf (Ba L e)=true:=by
 rcases eP h with x|x|⟨j,x,j1,jl,_⟩
 ·rw[x];rfl
 ·rw[x];rfl
 ·rw[x];have:=NH L;rw[GH]at jl;unfold Cf;have e1:decide ((1:Int)<=(j:Int))=true:=by rw[C4];omega
  have e2:decide ((j:Int)<40)=true:=by rw[C4];omega
  rw[e1,e2];simp
theorem cY (h40:L.length<=40){s:An}(h:B1 s=true)(he:∀e∈s.2.2,DI L e):B1 (Gi L s)=true:=by
 obtain⟨k,d,t⟩:=s;unfold B1 Cb Gi at *;dsimp only at *
 by_cases h0:k=0
 ·rw[Ab h0]at h ⊢;simpa using h
 ·rw[Aa h0]at h ⊢
  by_cases h1:k=1
  ·rw[Ab h1]at h ⊢;simpa using h
  ·rw[Aa h1]at h ⊢
   by_cases h2:k=2
   ·rw[Ab h2]at h ⊢;rw[C4]at h ⊢;obtain⟨a,b,c⟩:=h;have hl:t.length=4:=by unfold Bp at a;split at a;rename_i x;exact x.1;cases a
    have ha:Bp (t.map (Ba L))=0:=by
     unfold Bp;refine Ab ⟨by rw[BH];exact hl,?_⟩;rw[Ax];intro x hx;obtain⟨e,aa,rfl⟩:=Fh.1 hx;exact Ze h40 (he e aa)
    refine⟨ha,?_,c⟩;unfold EJ at b ⊢;rw[Ab a]at b;rw[Ab ha]
    cases hb:BE (t.map (Ba L)) with
    | false=>rfl
    | true=>
     exfalso
     have:BE t=true:=by
      unfold BE at hb ⊢;rw[Ax]at hb ⊢;intro e aa;have hz:=hb _ (Fh.2 ⟨e,aa,rfl⟩);have hz:Ba L e=0:=by simpa using hz
      rcases he e aa with x|x|⟨j,x,j1,jl,hj⟩
      ·rw[x];rfl
      ·rw[x,Jq]at hz;omega
      ·rw[x,Fq jl hj]at hz;have:=Ka (L:=L) j1;omega
     rw[this]at b;cases b
   ·rw[Aa h2]at h;cases h
theorem Oj (h:As m=0){s:An}(hs:s∈m.s):∀e∈s.2.2,tabE m.s e=true:=fun e he=>by
 have:=(Au h).2.2.2.2.2.1;unfold Cm at this;rw[Ax]at this;exact Ax.1 (this s hs) e he
theorem KI (hk:k<L.length):L.getD k default∈L:=by rw[<-D6 hk];exact BS hk
theorem Zl (h:1<=L.length):1<=(Bd L).length:=by have:=IK (L:=L) (k:=0) oM rfl;omega
theorem dy (h:As m=0):AD (CK m.s)=0:=by
 obtain⟨l1,aa⟩:=A4 (Au h).2.1;have hs:=(Au h).2.1;have ab:=Zl l1;have ac:=NH m.s;have hall:m.s.all B1=true/\(m.s.headD default).1=0:=by
  unfold AD at hs;rw[Ab ⟨l1,aa⟩]at hs
  split at hs
  ·assumption
  ·cases hs
 unfold AD;rw[Ab ⟨by rw[GH];exact ab,by rw[GH];omega⟩];refine Ab ⟨?_,?_⟩
 ·rw[Ax];intro s hsm;unfold CK at hsm;obtain⟨k,hk,rfl⟩:=Fh.1 hsm;have hkl:=(NI.1 hk).1;exact cY aa (Ax.1 hall.1 _ (KI hkl)) (fun e he=>Q1 (Oj h (KI hkl) e he))
 ·have e0:=Qs (L:=m.s) (k:=0) oM rfl;rw[Lc]at e0;have:(CK m.s).headD default=(CK m.s).getD 0 default:=by cases CK m.s<;>rfl
  rw[this,e0]
  show (m.s.getD 0 default).1=0
  have:m.s.headD default=m.s.getD 0 default:=by cases m.s<;>rfl
  rw[<-this];exact hall.2
theorem Z0 {f:AE->AE}(hf:∀s,(f s).1=s.1):Cr (S.map f)=Cr S:=by
 have hg:∀k,((S.map f).getD k default).1=(S.getD k default).1\/S.length<=k:=fun k=>by
  by_cases hk:k<S.length
  ·left
   rw[Es,Dm,Co hk,Es,Co hk];exact hf _
  ·right;omega
 have e:∀k,k<S.length->CJ (S.map f) k=CJ S k:=fun k hk=>by
  unfold CJ;rcases hg k with a|a
  ·rcases hg (k-1) with b|b
   ·rw[a,b]
   ·omega
  ·omega
 unfold Cr;rw[BH,IW,Ax,Ax]
 constructor
 ·intro h k hk;rw[<-e k (CR.1 hk)];exact h k hk
 ·intro h k hk;rw[e k (CR.1 hk)];exact h k hk
theorem Tn (r:List Int)(i:Nat):(r.map (Ba L)).getD i 0=Ba L (r.getD i 0):=by
 rw[Es,Dm,Es]
 cases r[i]? with
 | none=>exact GJ.symm
 | some x=>rfl
theorem iS {x:Int}(h:BZ L x=true)(hx:x≠0):AH (CK L) (Ba L x)=(AH L x).map (Ba L):=by
 rcases QF h with e|⟨j,rfl,j1,jl,hk⟩
 ·exact absurd e hx
 ·have hp:kept L j=true:=Jj (by rw[hk];decide);rw[Fq jl hp,TS jl hp]
theorem Uv {g:Int}{r:List Int}(h:Bk L g r=true):Bk (CK L) g (r.map (Ba L))=true:=by
 unfold Bk at h ⊢;rw[B5,B5]at h ⊢;obtain⟨a,b,c⟩:=h;rw[Ax]at b;refine⟨by rw[BH];exact a,by rw[Ax];intro x hx;obtain⟨e,he,rfl⟩:=Fh.1 hx;exact fK (b e he),?_⟩;unfold Gd at c ⊢;rw[Kd,Kd]at c ⊢;rcases c with c|c|c
 ·exact .inl c
 ·refine .inr (.inl ?_);rw[BH,Tn];have:r.getD (r.length-1) 0=0:=by simpa using c
  rw[this,GJ];rfl
 ·refine .inr ?_;rw[BH,Tn]
  by_cases hz:r.getD (r.length-1) 0=0
  ·left;rw[hz,GJ];rfl
  ·right
   have hl:r.length-1<r.length:=EW fun x=>hz (by rw[Es,Ed oM];rfl)
   have hm:r.getD (r.length-1) 0∈r:=by rw[Es,Co hl];exact BS hl
   rw[iS (b _ hm) hz,<-List.map_drop,List.all_map];rw[Ax]at c ⊢;intro e he;have:=c e he;have:e=0:=by simpa using this
   show (Ba L e == 0)=true
   rw[this,GJ];rfl
theorem Qt (h:As m=0):As (CU m)=0:=by
 obtain⟨z1,z2,z3,z4,z5,z6,z7⟩:=Au h;have r1:(BN (CU m)).all (fun s=>BK s.2.1)=true:=by
  show (((⟨#[]⟩,m.g,m.r.map (Ba m.s)):AE)::m.p.map (Gh m.s)).all _=true
  rw[GP,List.all_map];have:(BN m).all (fun s=>BK s.2.1)=true:=z5;exact this
 have r2:(BN (CU m)).all (fun s=>Bk (CK m.s) s.2.1 s.2.2)=true:=by
  show (((⟨#[]⟩,m.g,m.r.map (Ba m.s)):AE)::m.p.map (Gh m.s)).all _=true
  have z7:(((⟨#[]⟩,m.g,m.r):AE)::m.p).all (fun s=>Bk m.s s.2.1 s.2.2)=true:=z7;rw[GP,B5]at z7 ⊢;refine⟨Uv z7.1,?_⟩;rw[List.all_map,Ax];intro s hs;exact Uv (Ax.1 z7.2 s hs)
 have r3:Cm (CK m.s)=true:=by
  unfold Cm;rw[Ax];intro s hs;unfold CK at hs;obtain⟨k,hk,rfl⟩:=Fh.1 hs;have hkl:=(NI.1 hk).1;rw[Ax];intro x hx;obtain⟨e,he,rfl⟩:=Fh.1 hx;exact iM (Oj h (KI hkl) e he)
 unfold As;rw[Aa (by show ¬3<(m.p.map (Gh m.s)).length;rw[BH];omega),Aa (by show ¬AD (CK m.s)≠0;rw[dy h];simp),Aa,Aa (by rw[r1];decide),Aa (by show ¬Cm (CK m.s)=false;rw[r3];decide),Aa (by show ¬((BN (CU m)).all fun s=>Bk (CK m.s) s.2.1 s.2.2)=false;rw[r2];decide)];rintro(e|e)
 ·exact e (by show ((Bd m.s).map _).length=(CK m.s).length;rw[BH,GH])
 ·have e:Cr (m.p.map (Gh m.s))=false:=e;rw[Z0 (f:=Gh m.s) (fun _=>rfl),z4]at e;cases e

theorem OI.turn {m':Ac}(h:OI W B val m)(ha:Af m a)(hrow:W'.ownsRow B (En a) (Em a) (val a) (AP m' a) (Bn m' val a))(hg:W.grownBy W' (val a).ownBlock)(hlive:∀b,Af m' b↔Af m b)(hsame:∀b,Af m b->b≠a->AP m' b=AP m b/\Bn m' val b=Bn m val b):OI W' B val m':=by
 refine⟨fun b hb=>?_,fun b c hb hc=>h.apart b c ((hlive b).1 hb) ((hlive c).1 hc)⟩;have hb:=(hlive b).1 hb
 by_cases e:b=a
 ·subst e;exact hrow
 ·rw[(hsame b hb e).1,(hsame b hb e).2];refine(h.row b hb).kept hg ?_
  cases eq:(val b).ownBlock with
  | none=>exact .inl rfl
  | some g=>exact .inr (fun x=>h.apart b a hb ha e g eq x.symm)
theorem Ay.turn {m0 m':Ac}(h:Ay w W B D m0 val AF m val)(hB:B<=w.heap.size)(hlm:∀b,Af m b↔Af m0 b)(ha:Af m a)(hrow:W'.ownsRow B (En a) (Em a) (val a) (AP m' a) (Bn m' val a))(hg:W.grownBy W' (val a).ownBlock)(hlive:∀b,Af m' b↔Af m b)(hguest:m'.g=m.g)(hsame:∀b,Af m b->b≠a->AP m' b=AP m b/\Bn m' val b=Bn m val b):Ay w W' B D m0 val AF m' val:=by
 have aa:Below B W W':=IV Eu hg (Bg hB h.bel.size) (fun q e=>((h.dk.own.row a ha).lt q e).1);refine⟨⟨h.dk.own.turn ha hrow hg hlive hsame,?_,h.dk.ge,fun b hb=>h.dk.far b ((hlive b).1 hb)⟩,h.bel.trans aa,fun q hq hD hev hm=>?_,fun q hq hev hm b hb=>h.src q hq hev hm b ((hlive b).1 hb)⟩
 ·rw[hguest];exact(hg.block D h.dk.lt (fun e=>h.dk.far a ha e.symm)).trans h.dk.box
 ·exact(hg.block q (AO hq h.bel.size) (fun e=>hm a ((hlm a).1 ha) e.symm)).trans (h.keep q hq hD hev hm)
def DV (L:List An) (j:Nat) (S:List AE):List AE:=(S.take j).map (Gh L)++S.drop j
def DU (L:List An) (i:Nat) (K:List An):List An:=(K.take i).map (Gi L)++K.drop i
def Ca (L:List An) (j i:Nat) (g:Ac):Ac:={g with r:=g.r.map (Ba L),p:=DV L j g.p,s:=DU L i g.s}
theorem Mj (L:List An)(j:Nat)(S:List AE):(DV L j S).length=S.length:=by unfold DV;simp;omega
theorem Mi (L:List An)(i:Nat)(K:List An):(DU L i K).length=K.length:=by unfold DU;simp;omega
theorem J9 (hk:k<S.length):(DV L j S).getD k default=if k<j then Gh L (S.getD k default) else S.getD k default:=by
 have ht:((S.take j).map (Gh L)).length=min j S.length:=by rw[BH,BI]
 unfold DV;rw[Es,DY,ht]
 by_cases h:k<j
 ·rw[Ab oM,Ab h,Dm,Fg,Ab h,Co hk,Es,Co hk];rfl
 ·rw[Aa oM,Aa h,Gq,Es];congr 2;omega
theorem J8 (hk:k<K.length):(DU L i K).getD k default=if k<i then Gi L (K.getD k default) else K.getD k default:=by
 have ht:((K.take i).map (Gi L)).length=min i K.length:=by rw[BH,BI]
 unfold DU;rw[Es,DY,ht]
 by_cases h:k<i
 ·rw[Ab oM,Ab h,Dm,Fg,Ab h,Co hk,Es,Co hk];rfl
 ·rw[Aa oM,Aa h,Gq,Es];congr 2;omega
theorem Gl (L:List An)(j i:Nat)(g:Ac)(b:Nm):Af (Ca L j i g) b↔Af g b:=IG (m:=g) (m':=Ca L j i g) (Mi _ _ _) (Mj _ _ _) b
theorem PJ {qv:Nat->Value}:A8 (DV L j S) qv=A8 S qv:=by
 unfold A8;rw[Mj];refine congrArg List.flatten (Ef fun k hk=>?_);rw[J9 (CR.1 hk)]
 split<;>rfl
theorem PM {tv:Nat->Value}:A2 (DU L i K) tv=A2 K tv:=by
 unfold A2;rw[Mi];refine congrArg List.flatten (Ef fun k hk=>?_);rw[J8 (CR.1 hk)]
 split<;>rfl
theorem fA (b:Nm)(hb:Af g b)(hne:b≠.sr j):AP (Ca L (j+1) i g) b=AP (Ca L j i g) b/\Bn (Ca L (j+1) i g) val b=Bn (Ca L j i g) val b:=by
 rcases hb.cases with rfl|rfl|rfl|rfl|⟨k,rfl,hk⟩|⟨k,rfl,hk⟩
 ·exact⟨rfl,rfl⟩
 ·exact⟨rfl,rfl⟩
 ·exact⟨rfl,rfl⟩
 ·refine⟨?_,?_⟩
  ·show (DV L (j+1) g.p).length=(DV L j g.p).length;rw[Mj,Mj]
  ·show A8 (DV L (j+1) g.p) _=A8 (DV L j g.p) _;rw[PJ,PJ]
 ·exact⟨rfl,rfl⟩
 ·have aa:k≠j:=fun e=>hne (by rw[e])
  have e:(DV L (j+1) g.p).getD k default=(DV L j g.p).getD k default:=by
   rw[J9 hk,J9 hk]
   by_cases h:k<j
   ·rw[Ab oM,Ab h]
   ·rw[Aa oM,Aa h]
  exact⟨by show ((DV L (j+1) g.p).getD k default).2.2.length=((DV L j g.p).getD k default).2.2.length;rw[e],by show Ae ((DV L (j+1) g.p).getD k default).2.2=Ae ((DV L j g.p).getD k default).2.2;rw[e]⟩
theorem fw (b:Nm)(hb:Af g b)(hne:b≠.tab i):AP (Ca L j (i+1) g) b=AP (Ca L j i g) b/\Bn (Ca L j (i+1) g) val b=Bn (Ca L j i g) val b:=by
 rcases hb.cases with rfl|rfl|rfl|rfl|⟨k,rfl,hk⟩|⟨k,rfl,hk⟩
 ·exact⟨rfl,rfl⟩
 ·refine⟨?_,?_⟩
  ·show (DU L (i+1) g.s).length=(DU L i g.s).length;rw[Mi,Mi]
  ·show A2 (DU L (i+1) g.s) _=A2 (DU L i g.s) _;rw[PM,PM]
 ·exact⟨rfl,rfl⟩
 ·exact⟨rfl,rfl⟩
 ·have aa:k≠i:=fun e=>hne (by rw[e])
  have e:(DU L (i+1) g.s).getD k default=(DU L i g.s).getD k default:=by
   rw[J8 hk,J8 hk]
   by_cases h:k<i
   ·rw[Ab oM,Ab h]
   ·rw[Aa oM,Aa h]
  exact⟨by show ((DU L (i+1) g.s).getD k default).2.2.length=((DU L i g.s).getD k default).2.2.length;rw[e],by show Ae ((DU L (i+1) g.s).getD k default).2.2=Ae ((DU L i g.s).getD k default).2.2;rw[e]⟩
 ·exact⟨rfl,rfl⟩
structure F7 (W wr:World) (B D bm r:Nat) (L:List An) (g m:Ac) (val:Nm->Value):Prop where
 dto:Ay W wr B D g val AF m val
 num:F6 wr bm r L
theorem F6.grown {o:Option Nat}(h:F6 W bm r L)(hg:W.grownBy W' o)(h1:o≠some bm)(h2:o≠some r):F6 W' bm r L:=
 ⟨(hg.block bm (B6.1 h.1).1 (fun e=>h1 e.symm)).trans h.1,(hg.block r (B6.1 h.2).1 (fun e=>h2 e.symm)).trans h.2⟩
theorem F6.below (h:F6 W bm r L)(hb:Bw W W'):F6 W' bm r L:=
 ⟨(hb.block bm (B6.1 h.1).1).trans h.1,(hb.block r (B6.1 h.2).1).trans h.2⟩
theorem F7.alloc (h:F7 W wr B D bm r L g m val)(hB:B<=W.heap.size)(o:Obj):F7 W (wr.alloc o) B D bm r L g m val:=
 ⟨h.dto.alloc hB o,h.num.below ((AG _ _).alloc lE o)⟩

theorem SU (h:As m=0):kd m.s 0=0:=by
 have hs:=(Au h).2.1;have hp:=A4 hs;unfold AD at hs;rw[Ab hp]at hs
 split at hs
 ·rename_i x
  have:m.s.headD default=m.s.getD 0 default:=by cases m.s<;>rfl
  unfold kd;rw[<-this];exact x.2
 ·cases hs
theorem Po (h1:1<=L.length){P:List Int}(hP:∀e∈P,DI L e){k:Int}(hk:DI L k):(P.map (Ba L)).count (Ba L k)=P.count k:=by
 induction P with
 | nil=>rfl
 | cons a P ih=>
  rw[Dc,MH,MH,ih (fun e he=>hP e (CA _ he))]
  congr 1
  by_cases e:a=k
  ·rw[e];simp
  ·have:Ba L a≠Ba L k:=fun x=>e (eQ h1 (hP a CD) hk x)
   have e1:(Ba L a == Ba L k)=false:=by simpa using this
   have e2:(a == k)=false:=by simpa using e
   rw[e1,e2]
theorem ZX (h1:1<=L.length){P:List Int}(hP:∀e∈P,DI L e){k:Int}(hk:DI L k):Ba L k∈P.map (Ba L)↔k∈P:=by
 rw[<-Fy,<-Fy,Po h1 hP hk]
theorem U6 {p:Nat->Bool}{f:Nat->Nat}:∀ (l:List Nat),(∀k∈l,p k=false->f k=0)->((l.filter p).map f).sum=(l.map f).sum
 | [],_=>rfl
 | a::l,h=>by
  have ih:=U6 (p:=p) (f:=f) l (fun k hk=>h k (CA _ hk))
  cases e:p a with
  | true=>rw[Lw,Ab e,Dc,Dc,OP,OP,ih]
  | false=>rw[Lw,Aa (by rw[e];decide),ih,Dc,OP,h a CD e,Eh]
theorem Zn (L:List An):(Bd L).map (AJ L)=List.range (Bd L).length:=by
 apply EX
 ·simp
 ·intro i h1 h2;rw[Lx,List.getElem_range];exact(NG (by simpa using h1)).2.2
theorem Yb (m:Ac):AV (CU m)=(AV m).map (Ba m.s):=by
 rw[Hr,Hr,DQ,List.map_flatMap]
 show m.r.map (Ba m.s)++(m.p.map (Gh m.s)).flatMap (fun s=>s.2.2)=_
 rw[List.flatMap_map]
 rfl
theorem Yi (h:As m=0):∀e∈AV m,BZ m.s e=true:=fun e he=>by
 obtain⟨s,hs,hm⟩:=I3.1 he;exact Ax.1 (Fb h hs).2.2.2 e hm
theorem iN (h:As m=0)(k:Nat):∀e∈AH m.s (k:Int),tabE m.s e=true:=fun e he=>by
 unfold AH at he;rw[A5]at he
 by_cases hk:k<m.s.length
 ·exact Oj h (KI hk) e he
 ·rw[Es,Ed oM]at he
  cases he
theorem du (h:As m=0)(hk:k<m.s.length)(hp:kept m.s k=true):C5 (CK m.s) (AV (CU m)) (AJ m.s k)=C5 m.s (AV m) k:=by
 obtain⟨l1,_⟩:=A4 (Au h).2.1
 by_cases k0:k=0
 ·subst k0;rw[Lc];rfl
 ·have k1:1<=k:=oM;have r1:=Ka (L:=m.s) k1;have hP:∀e∈AV m,DI m.s e:=fun e he=>QE (Yi h e he)
  have hE:DI m.s (k:Int):=.inr (.inr ⟨k,rfl,k1,hk,hp⟩);have er:=Fq hk hp;unfold C5;rw[Aa oM,Aa k0,Yb,<-er,Po l1 hP hE]
  congr 2
  unfold Db;rw[GH,<-Zn,OM];have e1:∀j∈Bd m.s,(Cn (CK m.s) ((AV m).map (Ba m.s)) (Ba m.s (k:Int)) ∘ AJ m.s) j=Cn m.s (AV m) (k:Int) j:=fun j hj=>by
   obtain⟨jl,hj⟩:=NI.1 hj
   show Cn (CK m.s) ((AV m).map (Ba m.s)) (Ba m.s (k:Int)) (AJ m.s j)=_
   unfold Cn;rw[Md jl hj]
   by_cases hkd:kd m.s j=2
   ·have j1:1<=j:=by
     rcases Eg j with e|e
     ·subst e;have:=SU h;rw[this]at hkd;cases hkd
     ·exact e
    have ab:DI m.s (j:Int):=.inr (.inr ⟨j,rfl,j1,jl,hj⟩);have ej:=Fq jl hj;have aa:((AJ m.s j:Nat):Int)∈(AV m).map (Ba m.s)↔(j:Int)∈AV m:=by rw[<-ej];exact ZX l1 hP ab
    by_cases hm:(j:Int)∈AV m
    ·rw[Ab ⟨hkd,aa.2 hm⟩,Ab ⟨hkd,hm⟩,TS jl hj];exact Po l1 (fun e he=>Q1 (iN h j e he)) hE
    ·rw[Aa (fun x=>hm (aa.1 x.2)),Aa (fun x=>hm x.2)]
   ·rw[Aa (fun x=>hkd x.1),Aa (fun x=>hkd x.1)]
  rw[Ef e1];unfold Bd;refine U6 _ (fun j hj hf=>?_);unfold Cn;rw[Aa];intro x;rw[Jj (by rw[x.1];decide)]at hf
  cases hf
theorem TT (h:As m=0)(hk:k<m.s.length)(hp:kept m.s k=true):(AL (CU m)).getD (AJ m.s k) 0=(AL m).getD k 0:=by
 rw[E3 (Qt h) _ (by show AJ m.s k<(CK m.s).length;rw[GH];exact IK hk hp),E3 h k hk];exact du h hk hp
theorem TU (hC:Ao m=0):Ao (CU m)=0:=by
 obtain⟨h,hr,hf⟩:=IB hC;have hs:=Qt h;have hl:(AL (CU m)).length=(CK m.s).length:=EK (CU m);unfold Ao;rw[Aa (by rw[hs];simp),Aa,Ab]
 ·rw[Ax];intro i hi;have hi:i<(CK m.s).length:=CR.1 hi;rw[GH]at hi;obtain⟨kl,hp,er⟩:=NG hi;unfold EO;have e1:((CU m).s.getD i default).1=(m.s.getD (Bd m.s)[i] default).1:=by
   have:=Md kl hp;rw[er]at this;exact this
  have e2:=TT h kl hp;rw[er]at e2;rw[e1,e2];exact hf _ kl
 ·intro hne
  apply hne
  apply EX
  ·rw[hl,GH];show _=((Bd m.s).map _).length;rw[BH]
  ·intro i h1 h2;have hi:i<(Bd m.s).length:=by rw[hl,GH]at h1;exact h1
   obtain⟨kl,hp,er⟩:=NG hi;have e2:=TT h kl hp;rw[er]at e2;have e3:(AL (CU m))[i]=(AL (CU m)).getD i 0:=by simp[List.getD,h1]
   rw[e3,e2,hr];exact(Lx (fun k=>m.f.getD k 0) (h:=h2)).symm
theorem gb (h:As m=0)(hs:s∈BN m):∀e∈s.2.2,BZ m.s e=true:=fun e he=>Ax.1 (Fb h hs).2.2.2 e he

theorem Yd {tv tv':Nat->Value}(h:∀j,j<K.length->tv j=tv' j):A2 K tv=A2 K tv':=by
 unfold A2;refine congrArg List.flatten (Ef fun j hj=>?_);rw[h j (CR.1 hj)]
def gS (L:List An) (k:Nat):List An:=((List.range k).filter (kept L)).map (fun j=>L.getD j default)++List.replicate ((Bd L).length-AJ L k) C9
def gR (L:List An) (R:List Int) (k:Nat):List Int:=((List.range k).filter (kept L)).map (fun j=>R.getD j 0)++List.replicate ((Bd L).length-AJ L k) 0
theorem fG (hk:k<=L.length):AJ L k<=(Bd L).length:=by
 unfold AJ Bd;obtain⟨d,hd⟩:∃d,L.length=k+d:=⟨L.length-k,oM⟩;have:(List.range k).Sublist (List.range L.length):=by
  rw[hd];exact List.range_sublist.2 oM
 exact(this.filter _).length_le
theorem NZ (L:List An):AJ L L.length=(Bd L).length:=rfl
theorem Yp (hk:k<=L.length):(gR L R k).length=(Bd L).length:=by
 have:=fG hk;unfold gR;rw[Bl,BH,He]
 show AJ L k+_=_;omega
theorem UR {α:Type}(A:List α)(z x:α)(n:Nat):(A++List.replicate (n+1) z).set A.length x=A++[x]++List.replicate n z:=by
 rw[List.set_append,Aa (JG _),Is,List.replicate_succ,DE,Ip];rfl
theorem Yu (hk:k<L.length)(h:kept L k=true):gS L (k+1)=(gS L k).set (AJ L k) (L.getD k default):=by
 have hlt:=IK hk h;have e:(((List.range k).filter (kept L)).map (fun j=>L.getD j default)).length=AJ L k:=by rw[BH];rfl
 unfold gS;rw[Mk h,show (Bd L).length-AJ L k=((Bd L).length-(AJ L k+1))+1 by omega,<-e,UR,DD,Ha,DQ];simp[h]
theorem Yr (hk:k<L.length)(h:kept L k=true):gR L R (k+1)=(gR L R k).set (AJ L k) (R.getD k 0):=by
 have hlt:=IK hk h;have e:(((List.range k).filter (kept L)).map (fun j=>R.getD j 0)).length=AJ L k:=by rw[BH];rfl
 unfold gR;rw[Mk h,show (Bd L).length-AJ L k=((Bd L).length-(AJ L k+1))+1 by omega,<-e,UR,DD,Ha,DQ];simp[h]
theorem Yt (h:kept L k=false):gS L (k+1)=gS L k:=by
 unfold gS;rw[N0 h,DD,Ha];simp[h]
theorem Yq (h:kept L k=false):gR L R (k+1)=gR L R k:=by
 unfold gR;rw[N0 h,DD,Ha];simp[h]
theorem Ys (L:List An):gS L L.length=(Bd L).map (fun j=>L.getD j default):=by
 unfold gS;rw[NZ,Is];simp[Bd]
theorem Yo (L:List An)(R:List Int):gR L R L.length=(Bd L).map (fun j=>R.getD j 0):=by
 unfold gR;rw[NZ,Is];simp[Bd]
def gT (L:List An) (val:Nm->Value) (k:Nat):Nat->Value:=fun i=>if i<AJ L k then val (.tab ((Bd L).getD i 0)) else AF
theorem Zm (hk:k<L.length)(h:kept L k=true):(Bd L).getD (AJ L k) 0=k:=by
 rw[Es,KT hk h];rfl
theorem Yw (hk:k<L.length)(h:kept L k=true):(∀j,j≠AJ L k->gT L val (k+1) j=gT L val k j)/\gT L val (k+1) (AJ L k)=val (.tab k):=by
 unfold gT;rw[Mk h];refine⟨fun j hj=>?_,?_⟩
 ·by_cases e:j<AJ L k
  ·rw[Ab oM,Ab e]
  ·rw[Aa oM,Aa e]
 ·rw[Ab oM,Zm hk h]
theorem Yv (h:kept L k=false):gT L val (k+1)=gT L val k:=by unfold gT;rw[N0 h]
def Ce (m:Ac):Ac:={m with s:=(Bd m.s).map (fun j=>m.s.getD j default),f:=(Bd m.s).map (fun j=>m.f.getD j 0)}
def Gx (L:List An) (a:Nm):Nm:=if a.kind=4 then .tab ((Bd L).getD a.ix 0) else a
def EQ (L:List An) (val:Nm->Value) (lv rv:Value):Nm->Value:=fun a=>if a.kind=1 then lv else if a.kind=2 then rv else val (Gx L a)
theorem SH (L:List An)(a:Nm):(Gx L a).kind=a.kind:=by
 unfold Gx
 split
 ·rename_i e;rw[e]
 ·rfl
theorem Nx (h1:a.kind≠1)(h2:a.kind≠2):EQ L val lv rv a=val (Gx L a):=by unfold EQ;rw[Aa h1,Aa h2]
theorem PR (hi:i<(Bd m.s).length):(Bd m.s).getD i 0<m.s.length/\(Ce m).s.getD i default=m.s.getD ((Bd m.s).getD i 0) default:=by
 have e:(Bd m.s).getD i 0=(Bd m.s)[i]:=by simp[List.getD,hi]
 refine⟨by rw[e];exact(NG hi).1,?_⟩
 show ((Bd m.s).map (fun j=>m.s.getD j default)).getD i default=_
 rw[Es,Dm,Co hi,e];rfl
theorem Nv (h:Af (Ce m) a):Af m (Gx m.s a):=by
 rcases h with⟨h1,h2⟩|⟨h1,h2⟩|⟨h1,h2⟩
 ·have:a.kind≠4:=oM;unfold Gx;rw[Aa this];exact .inl ⟨h1,h2⟩
 ·unfold Gx;rw[Ab h1];have h2:a.ix<((Bd m.s).map (fun j=>m.s.getD j default)).length:=h2;rw[BH]at h2;exact Af.tab (PR h2).1
 ·have:a.kind≠4:=oM;unfold Gx;rw[Aa this];exact .inr (.inr ⟨h1,h2⟩)
theorem Yx (ha:Af (Ce m) a)(hb:Af (Ce m) b)(h:a≠b):Gx m.s a≠Gx m.s b:=fun e=>by
 have hk:=congrArg Nm.kind e;rw[SH,SH]at hk
 by_cases h4:a.kind=4
 ·unfold Gx at e;rw[Ab h4,Ab (hk ▸ h4)]at e;have e:=congrArg Nm.ix e;have e:(Bd m.s).getD a.ix 0=(Bd m.s).getD b.ix 0:=e;have hlen:(Ce m).s.length=(Bd m.s).length:=by show ((Bd m.s).map _).length=_;rw[BH]
  have la:a.ix<(Bd m.s).length:=by rcases ha with x|x|x;omega;rw[<-hlen];exact x.2;omega
  have lb:b.ix<(Bd m.s).length:=by rcases hb with x|x|x;omega;rw[<-hlen];exact x.2;omega
  have e:(Bd m.s)[a.ix]=(Bd m.s)[b.ix]:=by simpa[List.getD,la,lb] using e
  have:=Tw (SW _) la lb e
  apply h
  obtain⟨ak,ai⟩:=a;obtain⟨bk,bi⟩:=b
  simp_all
 ·unfold Gx at e;rw[Aa h4,Aa (hk ▸ h4)]at e;exact h e
theorem Tf (ha:Af m a)(hb:Af m b)(h:a.kind=b.kind)(h4:a.kind<4):a=b:=by
 obtain⟨ak,ai⟩:=a;obtain⟨bk,bi⟩:=b;dsimp only at h h4;subst h;have e1:ai=0:=by rcases ha with x|x|x;exact x.2;(have:=x.1;dsimp only at this;omega);(have:=x.1;dsimp only at this;omega)
 have e2:bi=0:=by rcases hb with x|x|x;exact x.2;(have:=x.1;dsimp only at this;omega);(have:=x.1;dsimp only at this;omega)
 rw[e1,e2]
theorem OI.gath {N:Nat}(h:OI W B val m)(hB:B<=N)(hold:∀a,Af m a->∀g,(val a).ownBlock=some g->g<N)(hl:W.ownsRow N 85 3 lv (Bd m.s).length (A2 (Ce m).s (gT m.s val m.s.length)))(hr:W.ownsRow N 3 1 rv (Bd m.s).length (Ae (Ce m).f))(hne:∀g,lv.ownBlock=some g->rv.ownBlock≠some g):OI W B (EQ m.s val lv rv) (Ce m):=by
 have hlen:(Ce m).s.length=(Bd m.s).length:=by show ((Bd m.s).map _).length=_;rw[BH]
 have ab:(Ce m).f.length=(Bd m.s).length:=by show ((Bd m.s).map _).length=_;rw[BH]
 have ac:∀ {e:TypeId} {size n:Nat} {v:Value} {xs:List Value},W.ownsRow N e size v n xs->W.ownsRow B e size v n xs:=fun hx=>CL hx hB
 have ho:∀a,Af (Ce m) a->a.kind≠1->a.kind≠2->∀g,(EQ m.s val lv rv a).ownBlock=some g->g<N:=fun a ha h1 h2 g hg=>by rw[Nx h1 h2]at hg;exact hold _ (Nv ha) g hg
 have ad:∀g,lv.ownBlock=some g->N<=g:=fun g hg=>(hl.lt g hg).1
 have ae:∀g,rv.ownBlock=some g->N<=g:=fun g hg=>(hr.lt g hg).1
 refine⟨fun a ha=>?_,fun a b ha hb hab g aa=>?_⟩
 ·rcases ha.cases with rfl|rfl|rfl|rfl|⟨j,rfl,hj⟩|⟨j,rfl,hj⟩
  ·exact h.row .r (Af.r m)
  ·show W.ownsRow B 85 3 lv (Ce m).s.length (A2 (Ce m).s (fun j=>EQ m.s val lv rv (.tab j)))
   rw[hlen];rw[Yd (tv':=fun j=>EQ m.s val lv rv (.tab j)) (fun j hj=>?_)]at hl
   ·exact ac hl
   ·rw[hlen]at hj
    show (if j<AJ m.s m.s.length then _ else _)=_
    rw[NZ,Ab hj];rfl
  ·show W.ownsRow B 3 1 rv (Ce m).f.length (Ae (Ce m).f)
   rw[ab];exact ac hr
  ·exact h.row .p (Af.p m)
  ·have af:j<(Bd m.s).length:=by rw[<-hlen];exact hj
   obtain⟨t1,t2⟩:=PR (m:=m) af;have:=h.row (.tab ((Bd m.s).getD j 0)) (Af.tab t1);have e1:AP (Ce m) (.tab j)=AP m (.tab ((Bd m.s).getD j 0)):=by
    show ((Ce m).s.getD j default).2.2.length=_
    rw[t2];rfl
   have e2:Bn (Ce m) (EQ m.s val lv rv) (.tab j)=Bn m val (.tab ((Bd m.s).getD j 0)):=by
    show Ae ((Ce m).s.getD j default).2.2=_
    rw[t2];rfl
   rw[e1,e2];exact this
  ·exact h.row (.sr j) (Af.sr hj)
 ·by_cases a1:a.kind=1
  ·have aa:lv.ownBlock=some g:=by unfold EQ at aa;rw[Ab a1]at aa;exact aa
   by_cases b1:b.kind=1
   ·exact absurd (Tf ha hb (by rw[a1,b1]) oM) hab
   ·by_cases b2:b.kind=2
    ·unfold EQ;rw[Aa b1,Ab b2];exact hne g aa
    ·intro x;have:=ho b hb b1 b2 g x;have:=ad g aa;omega
  ·by_cases a2:a.kind=2
   ·have aa:rv.ownBlock=some g:=by unfold EQ at aa;rw[Aa a1,Ab a2]at aa;exact aa
    by_cases b1:b.kind=1
    ·unfold EQ;rw[Ab b1];exact fun x=>hne g x aa
    ·by_cases b2:b.kind=2
     ·exact absurd (Tf ha hb (by rw[a2,b2]) oM) hab
     ·intro x;have:=ho b hb b1 b2 g x;have:=ae g aa;omega
   ·have ag:=ho a ha a1 a2 g aa
    by_cases b1:b.kind=1
    ·unfold EQ;rw[Ab b1];intro x;have:=ad g x;omega
    ·by_cases b2:b.kind=2
     ·unfold EQ;rw[Aa b1,Ab b2];intro x;have:=ae g x;omega
     ·rw[Nx a1 a2]at aa;rw[Nx b1 b2];exact h.apart _ _ (Nv ha) (Nv hb) (Yx ha hb hab) g aa
theorem Ay.gath (h:DK W B D val m)(hB:B<=W.heap.size)(hb:Bw W wr)(hl:wr.ownsRow W.heap.size 85 3 lv (Bd m.s).length (A2 (Ce m).s (gT m.s val m.s.length)))(hr:wr.ownsRow W.heap.size 3 1 rv (Bd m.s).length (Ae (Ce m).f))(hne:∀g,lv.ownBlock=some g->rv.ownBlock≠some g):Ay W ((wr.setCell (aD D 2) lv).setCell (aD D 3) rv) B D m val AF (Ce m) (EQ m.s val lv rv):=by
 have hO:=(h.own.below hb).gath hB (fun a ha g hg=>((h.own.row a ha).lt g hg).2) hl hr hne;have ac:∀g,lv.ownBlock=some g->W.heap.size<=g:=fun g hg=>(hl.lt g hg).1
 have ad:∀g,rv.ownBlock=some g->W.heap.size<=g:=fun g hg=>(hr.lt g hg).1
 have aa:∀q,q<W.heap.size->(∀b,Af m b->(val b).ownBlock≠some q)->∀a,Af (Ce m) a->(EQ m.s val lv rv a).ownBlock≠some q:=fun q hq hm a ha=>by
  by_cases a1:a.kind=1
  ·unfold EQ;rw[Ab a1];intro x;have:=ac q x;omega
  ·by_cases a2:a.kind=2
   ·unfold EQ;rw[Aa a1,Ab a2];intro x;have:=ad q x;omega
   ·rw[Nx a1 a2];exact hm _ (Nv ha)
 have hf:=aa D h.lt h.far;have ab:=(hb.block D h.lt).trans h.box;have ae:=Bf ab 2 lv;have af:=Bf ae 3 rv;refine⟨⟨(hO.far hf).far hf,af,h.ge,hf⟩,((hb.mono hB).setCell h.ge _).setCell h.ge _,fun q hq hD _ hm=>?_,fun q hq _ hm=>aa q hq hm⟩;exact(AN _ (aD D 3) rv q hD).trans ((AN _ (aD D 2) lv q hD).trans (hb.block q hq))

theorem YZ:(prog.info? 85).map (fun i=>(i.zero,i.size,i.bytes))=some (some (.agg #[iI 0,.string ⟨#[]⟩,nl]),3,48):=by kernel_rfl
theorem ZY (n1:Nat)(hn:n1<=40)(W:World):(Instr.makeSlice 30 (iI (n1:Int)) (iI (n1:Int))).run prog W=.ok (lZ W.heap.size n1 n1) (W.alloc (.cells (A2 (List.replicate n1 C9) (fun _=>AF)).toArray 85)):=by
 have hi:=YZ
 cases h:prog.info? 85 with
 | none=>rw[h]at hi;cases hi
 | some i=>
  rw[h]at hi;simp at hi
  have:=run_make (P:=prog) W 30 85 i (.agg #[iI 0,.string ⟨#[]⟩,nl]) underlying30 h hi.1 .i64 .i64 n1 n1 oM oM (by rw[hi.2.2];omega) oM;rw[this,hi.2.1];have e:madeCells (Value.agg #[iI 0,.string ⟨#[]⟩,nl]).cells (((n1:Int)).toNat*3)=(A2 (List.replicate n1 C9) (fun _=>AF)).toArray:=by
   apply Oz.1
   rw[A5];refine Nl (n:=n1) (by simp[madeCells]) (by rw[LB,Gv,He]) fun q hq=>?_
   obtain⟨a,b,c⟩:=D3 (L:=List.replicate n1 C9) (tv:=fun _=>AF) (j:=q) (by rw[He];exact hq);have hz:(List.replicate n1 C9).getD q default=C9:=by rw[Es,OK,Ab hq];rfl
   rw[hz]at a b;rw[LB,a,b,c];have m0:q*3%3=0:=oM;have m1:(q*3+1)%3=1:=oM;have m2:(q*3+2)%3=2:=oM;refine⟨?_,?_,?_⟩
   ·simp[madeCells,Value.cells,m0,C9,show q*3<n1*3 by omega]
   ·simp[madeCells,Value.cells,m1,C9,show q*3+1<n1*3 by omega]
   ·simp[madeCells,Value.cells,m2,C9,show q*3+2<n1*3 by omega]
  rw[e];simp
theorem Fv {a b c:Value}{t:TypeId}(h:W.heap[B]?=some (.cells #[a,b,c] t)):W.cell? (aZ B)=some a/\W.cell? (aD B 1)=some b/\W.cell? (aD B 2)=some c:=by
 refine⟨?_,?_,?_⟩<;>simp[World.cell?,h]
theorem Ny {q o1 o2 o3:Nat}(a0 a1 a2:Value)(hq:q≠D):(((W.setCell (aD D o1) a0).setCell (aD D o2) a1).setCell (aD D o3) a2).heap[q]?=W.heap[q]?:=
 (AN _ (aD D o3) a2 q hq).trans ((AN _ (aD D o2) a1 q hq).trans (AN _ (aD D o1) a0 q hq))
structure Dz (W wr:World) (lb rb n1:Nat) (m:Ac) (val:Nm->Value) (k:Nat):Prop where
 bel:Bw W wr
 l:wr.ownsRow W.heap.size 85 3 (lZ lb n1 n1) n1 (A2 (gS m.s k) (gT m.s val k))
 r:wr.ownsRow W.heap.size 3 1 (lZ rb n1 n1) n1 (Ae (gR m.s m.f k))
 ne:lb≠rb
theorem Dz.below {wx:World}(h:Dz W wr lb rb n1 m val k)(hb:Bw wr wx):Dz W wx lb rb n1 m val k:=
 ⟨Below.on h.bel hb,CX h.l (fun q e=>hb.block q (h.l.lt q e).2),CX h.r (fun q e=>hb.block q (h.r.lt q e).2),h.ne⟩
theorem Dz.drew (h:Dz W wr lb rb n1 m val k):Dz W wr.drew lb rb n1 m val k:=⟨h.bel.drew,h.l.drew,h.r.drew,h.ne⟩
theorem Dz.begin {wx:World}(hn:(Bd m.s).length=n1/\n1<=40)(hb:Bw W wx)(h1:W.heap.size<=lb)(h2:W.heap.size<=rb)(hne:lb≠rb)(hl:wx.heap[lb]?=some (.cells (A2 (List.replicate n1 C9) (fun _=>AF)).toArray 85))(hr:wx.heap[rb]?=some (.cells (Array.replicate n1 (iI 0)) 3)):Dz W wx lb rb n1 m val 0:=by
 have hx:(40:Nat)<=maxLen:=by decide
 have e1:gS m.s 0=List.replicate n1 C9:=by unfold gS;rw[Lc,Nat.sub_zero,hn.1];rfl
 have e2:gR m.s m.f 0=List.replicate n1 0:=by unfold gR;rw[Lc,Nat.sub_zero,hn.1];rfl
 have e3:gT m.s val 0=fun _=>AF:=by funext i;unfold gT;rw[Lc,Aa (Dr _)]
 refine⟨hb,?_,?_,hne⟩
 ·rw[e1,e3];exact⟨by rw[Gv,He],.inr ⟨lb,n1,_,rfl,h1,hl,Bc _,Bg hn.2 hx,by rw[EG,Gv,He],by rw[LB,DF (by rw[Gv,He];omega)]⟩⟩
 ·rw[e2];exact⟨by simp[Ae],.inr ⟨rb,n1,_,rfl,h2,hr,Bc _,Bg hn.2 hx,by simp,by simp[Ae,DF]⟩⟩
theorem QW {e:TypeId}{size:Nat}{xs:List Value}(h:W.ownsRow B e size (lZ lb n1 n1) n1 xs)(hi:i<n1*size):∃u,W.cell? (aD lb i)=some u:=by
 have:=h.cellAt i hi;rw[this];exact⟨_,Co (by rw[h.1];exact hi)⟩
theorem Dz.cells3 (h:Dz W wr lb rb n1 m val k)(hr:rk<n1):(∃u,wr.cell? (aD lb (rk*3))=some u)/\(∃u,wr.cell? (aD lb (rk*3+1))=some u)/\(∃u,wr.cell? (aD lb (rk*3+1+1))=some u)/\wr.frozen? (aD lb (rk*3))=false/\wr.frozen? (aD lb (rk*3+1))=false/\wr.frozen? (aD lb (rk*3+1+1))=false:=
 ⟨QW h.l oM,QW h.l oM,QW h.l oM,h.l.frozenAt _,h.l.frozenAt _,h.l.frozenAt _⟩
theorem Dz.put {tn tc:Nat}{ta:Option Addr}{kk:Int}{dd:ByteArray}(h:Dz W wr lb rb n1 m val k)(hk:k<m.s.length)(hp:kept m.s k=true)(hr:AJ m.s k=rk)(hs:∃es,m.s.getD k default=(kk,dd,es))(hv:val (.tab k)=.slice ta tn tc):(((wr.setCell (aD lb (rk*3)) (iI kk)).setCell (aD lb (rk*3+1)) (.string dd)).setCell (aD lb (rk*3+2)) (.slice ta tn tc)).ownsRow W.heap.size 85 3 (lZ lb n1 n1) n1 (A2 (gS m.s (k+1)) (gT m.s val (k+1)))/\Bw W (((wr.setCell (aD lb (rk*3)) (iI kk)).setCell (aD lb (rk*3+1)) (.string dd)).setCell (aD lb (rk*3+2)) (.slice ta tn tc)):=by
 obtain⟨es,hs⟩:=hs;have hlb:=(Gm h.l).1;refine⟨?_,((h.bel.setCell (p:=(aD lb (rk*3))) hlb _).setCell (p:=(aD lb (rk*3+1))) hlb _).setCell (p:=(aD lb (rk*3+2))) hlb _⟩;have h6:=(((h.l.stored (rk*3) (iI kk)).1.stored (rk*3+1) (.string dd)).1.stored (rk*3+2) (.slice ta tn tc)).1;obtain⟨g1,g2⟩:=Yw (val:=val) hk hp;rw[hr]at g1 g2;rw[Yu hk hp,hs,hr,Nr (tv:=gT m.s val k) kk dd es g1,g2,hv];exact h6
theorem Dz.last {Y:World}{fk:Int}(hl:Y.ownsRow W.heap.size 85 3 (lZ lb n1 n1) n1 (A2 (gS m.s (k+1)) (gT m.s val (k+1))))(hb:Bw W Y)(hr:Y.ownsRow W.heap.size 3 1 (lZ rb n1 n1) n1 (Ae (gR m.s m.f k)))(hne:lb≠rb)(hk:k<m.s.length)(hp:kept m.s k=true)(hrk:AJ m.s k=rk)(hf:m.f.getD k 0=fk):Dz W (Y.setCell (aD rb rk) (iI fk)) lb rb n1 m val (k+1):=by
 have aa:=(Gm hr).1;refine⟨hb.setCell (p:=(aD rb rk)) aa _,CX hl (fun q e=>AN Y (aD rb rk) _ q (fun x=>hne (by have e':some lb=some q:=e;have:=BJ e';have x:q=rb:=x;omega))),?_,hne⟩;rw[Yr hk hp,hrk,hf,Jh];exact(hr.stored rk _).1
theorem Yy (hK:DK W B D val m)(hB:B<=W.heap.size)(hM:W.heap[r]?=some (.map ((Cd m.s ((List.range m.s.length).filter (kept m.s))).toArray) (AJ m.s m.s.length)))(hs:As m=0):Cl 108 #[pZ D,.map (some r)] W fun q W'=>q=.returned (.tuple #[])/\∃val',Ay W W' B D m val AF (Ce m) val':=by
 obtain⟨l1,bn⟩:=A4 (Au hs).2.1;have hrl:=(Au hs).2.2.1;obtain⟨ra,rc,e0,_⟩:=hK.own.forms .r (Af.r m);obtain⟨sa,sc,e1,aU⟩:=hK.own.forms .s (Af.s m);obtain⟨fa,fc,e2,aQ⟩:=hK.own.forms .f (Af.f m);obtain⟨na,nc,e3,_⟩:=hK.own.forms .p (Af.p m);obtain⟨sb,rfl⟩:=aU (by show 0<m.s.length;omega);obtain⟨fb,rfl⟩:=aQ (by show 0<m.f.length;omega);have e0:val .r=.slice ra m.r.length rc:=e0;have e1:val .s=lZ sb m.s.length sc:=e1;have e2:val .f=lZ fb m.f.length fc:=e2;have e3:val .p=.slice na m.p.length nc:=e3;have ai:=hK.box;rw[e0,e1,e2,e3]at ai;obtain⟨n1,aK⟩:=nM ((Bd m.s).length);have aj:n1<=40:=by have:=NH m.s;omega
 have am:Hd ((Bd m.s).length=n1/\n1<=40):=⟨aK,aj⟩;have ac:Hd (W.heap[r]?=some (.map ((Cd m.s ((List.range m.s.length).filter (kept m.s))).toArray) (AJ m.s m.s.length))):=hM;have ao:Hd (∀ty (X:World),X.heap[r]?=some (.map ((Cd m.s ((List.range m.s.length).filter (kept m.s))).toArray) (AJ m.s m.s.length))->(Builtin.len_ #[119] ty #[.map (some r)]).run prog X=.ok (iI (n1:Int)) X):=fun ty X hX=>by
  have:=run_len_map (P:=prog) (w:=X) 119 ty r ((Cd m.s ((List.range m.s.length).filter (kept m.s))).toArray) (AJ m.s m.s.length) kR hX;rw[this];unfold goInt;rw[PC,NZ,aK]
 have be:∀X:World,(Instr.makeSlice 30 (iI (n1:Int)) (iI (n1:Int))).run prog X=.ok (lZ X.heap.size n1 n1) (X.alloc (.cells (A2 (List.replicate n1 C9) (fun _=>AF)).toArray 85)):=fun X=>ZY n1 aj X
 have bd:∀X:World,(Instr.makeSlice 29 (iI (n1:Int)) (iI (n1:Int))).run prog X=.ok (lZ X.heap.size n1 n1) (X.alloc (.cells (Array.replicate n1 (iI 0)) 3)):=fun X=>by have:=KY n1 aj X;simpa using this
 have HK:Hd (DK W B D val m/\B<=W.heap.size/\val .s=lZ sb m.s.length sc/\val .f=lZ fb m.f.length fc):=⟨hK,hB,e1,e2⟩;have aA:=hK.lt;have ab:W.ownsRow B 85 3 (val .s) m.s.length (A2 m.s (fun j=>val (.tab j))):=hK.own.row .s (Af.s m);have aa:W.ownsRow B 3 1 (val .f) m.f.length (Ae m.f):=hK.own.row .f (Af.f m);rw[e1]at ab;rw[e2]at aa;have ak:=(Gm ab).2.1;have ap:=(Gm aa).2.1;have au:Hd (W.ownsRow B 85 3 (lZ sb m.s.length sc) m.s.length (A2 m.s (fun j=>val (.tab j)))/\W.ownsRow B 3 1 (lZ fb m.f.length fc) m.f.length (Ae m.f)):=⟨ab,aa⟩;have aY:Hd (m.f.length=m.s.length):=hrl;clear hK hB hM hs e0 e1 e2 e3 aK ab aa hrl aU aQ
 go_enter func108,ntmps108
 go_upto_region 0 with fail
 go_cut [4,5] from 10 (fun a b wx=>∃lb rb,a=lZ lb n1 n1/\b=lZ rb n1 n1/\Hd (Dz W wx lb rb n1 m val 0))
 case first=>
  refine BT (S:=(fun X:World=>X.heap[r]?=some (.map ((Cd m.s ((List.range m.s.length).filter (kept m.s))).toArray) (AJ m.s m.s.length)))) kR ac.o (fun hHeld=>?_);refine Ar 0 (.map (some r)) ?_;simp only[lays];refine Fe 1 (iI (n1:Int)) rfl (B3 ⟨by rfl,fun w' hSw=>by have hq:=fun ty=>ao.o ty _ hSw;go_simp⟩) hHeld ?_;simp only[lays];refine Ar 3 (.map (some r)) ?_;simp only[lays];refine Fe 4 (iI (n1:Int)) rfl (B3 ⟨by rfl,fun w' hSw=>by have hq:=fun ty=>ao.o ty _ hSw;go_simp⟩) hHeld ?_;simp only[lays];refine Jo 2 5 rfl rfl (fun K hK=>?_) (fun K hK=>?_)
  ·clear hHeld;simp only[lays];rw[Ab (by rfl)];go_simp;obtain⟨X1,ad⟩:∃X,X=(W.alloc (.cells (A2 (List.replicate n1 C9) (fun _=>AF)).toArray 85)).drew:=⟨_,rfl⟩;have b1:Bw W X1:=by rw[ad];exact(Av).drew
   have bh:W.heap.size+1<=X1.heap.size:=by rw[ad];show _<=(W.alloc (.cells (A2 (List.replicate n1 C9) (fun _=>AF)).toArray 85)).heap.size;simp
   have k1:X1.heap[W.heap.size]?=some (.cells (A2 (List.replicate n1 C9) (fun _=>AF)).toArray 85):=by rw[ad];exact Aw _ _
   have aB:X1.heap[r]?=some (.map ((Cd m.s ((List.range m.s.length).filter (kept m.s))).toArray) (AJ m.s m.s.length)):=(b1.block r (B6.1 ac.o).1).trans ac.o;rw[<-ad];clear ad;refine hK.out _ _ aB (fun hHeld=>?_);clear hK K;try simp only[lays]
   refine Ar 6 (lZ W.heap.size n1 n1) ?_;simp only[lays];refine AC 5 rfl (fun K hK=>?_);clear hHeld;simp only[lays];rw[Ab (by rfl)];go_simp;obtain⟨X2,ae⟩:∃X,X=(X1.alloc (.cells (Array.replicate n1 (iI 0)) 3)):=⟨_,rfl⟩;have b2:Bw W X2:=by rw[ae];exact b1.alloc oM _
   have k1:X2.heap[W.heap.size]?=some (.cells (A2 (List.replicate n1 C9) (fun _=>AF)).toArray 85):=by rw[ae];exact(Ch X1 _ _ oM).trans k1
   have k2:X2.heap[X1.heap.size]?=some (.cells (Array.replicate n1 (iI 0)) 3):=by rw[ae];exact Aw _ _
   have aC:X2.heap[r]?=some (.map ((Cd m.s ((List.range m.s.length).filter (kept m.s))).toArray) (AJ m.s m.s.length)):=(b2.block r (B6.1 ac.o).1).trans ac.o;rw[<-ae];clear ae;refine hK.out _ _ aC (fun hHeld=>?_);clear hK K;try simp only[lays]
   refine Ar 7 (lZ X1.heap.size n1 n1) ?_;simp only[lays];clear hHeld;refine BQ kR ?_ _;go_wp2_with fail;go_meet;exact⟨W.heap.size,X1.heap.size,rfl,rfl,Dz.begin (lb:=W.heap.size) (rb:=X1.heap.size) am.o b2 oM oM oM k1 k2⟩
  ·clear hHeld;simp only[lays];rw[Ab (by rfl)];go_simp;obtain⟨X1,ad⟩:∃X,X=(W.alloc (.cells (Array.replicate n1 (iI 0)) 3)).drew:=⟨_,rfl⟩;have b1:Bw W X1:=by rw[ad];exact(Av).drew
   have bh:W.heap.size+1<=X1.heap.size:=by rw[ad];show _<=(W.alloc (.cells (Array.replicate n1 (iI 0)) 3)).heap.size;simp
   have k1:X1.heap[W.heap.size]?=some (.cells (Array.replicate n1 (iI 0)) 3):=by rw[ad];exact Aw _ _
   have aB:X1.heap[r]?=some (.map ((Cd m.s ((List.range m.s.length).filter (kept m.s))).toArray) (AJ m.s m.s.length)):=(b1.block r (B6.1 ac.o).1).trans ac.o;rw[<-ad];clear ad;refine hK.out _ _ aB (fun hHeld=>?_);clear hK K;try simp only[lays]
   refine AC 2 rfl (fun K hK=>?_);clear hHeld;simp only[lays];rw[Ab (by rfl)];go_simp;obtain⟨X2,ae⟩:∃X,X=(X1.alloc (.cells (A2 (List.replicate n1 C9) (fun _=>AF)).toArray 85)):=⟨_,rfl⟩;have b2:Bw W X2:=by rw[ae];exact b1.alloc oM _
   have k1:X2.heap[W.heap.size]?=some (.cells (Array.replicate n1 (iI 0)) 3):=by rw[ae];exact(Ch X1 _ _ oM).trans k1
   have k2:X2.heap[X1.heap.size]?=some (.cells (A2 (List.replicate n1 C9) (fun _=>AF)).toArray 85):=by rw[ae];exact Aw _ _
   have aC:X2.heap[r]?=some (.map ((Cd m.s ((List.range m.s.length).filter (kept m.s))).toArray) (AJ m.s m.s.length)):=(b2.block r (B6.1 ac.o).1).trans ac.o;rw[<-ae];clear ae;refine hK.out _ _ aC (fun hHeld=>?_);clear hK K;try simp only[lays]
   refine Ar 6 (lZ X1.heap.size n1 n1) ?_;refine Ar 7 (lZ W.heap.size n1 n1) ?_;simp only[lays];clear hHeld;refine BQ kR ?_ _;go_wp2_with fail;go_meet;exact⟨X1.heap.size,W.heap.size,rfl,rfl,Dz.begin (lb:=X1.heap.size) (rb:=W.heap.size) am.o b2 oM oM oM k2 k1⟩
 case rest=>
 obtain⟨lb,rb,rfl,rfl,aN⟩:=hcut;obtain⟨w1,bg⟩:∃X,X=wc:=⟨_,rfl⟩;subst bg;have aP:=Ag ai aN.o.bel aA;have d0:=five aP;clear be bd;go_wp2_with fail;clear d0 aP
 go_loopw [22] (fun i wr=>∃k:Nat,k<=m.s.length/\i=iI k/\Hd (Dz W wr lb rb n1 m val k)) (fun i _=>m.s.length-(intOf i).toNat)
 case atStart=>exact⟨0,A7 _,rfl,aN⟩
 case round=>
  obtain⟨k,hk,rfl,HC⟩:=hrel;have ah:=HC.o.bel;have av:=Ag ai ah aA;have ba:D<wr.heap.size:=AO aA ah.size
  by_cases hkl:k<m.s.length
  ·have bk:(k:Int)<(m.s.length:Int):=oM;obtain⟨g0,g1,g2⟩:=D3 (tv:=fun j=>val (.tab j)) hkl;obtain⟨⟨kk,dd,es⟩,az⟩:∃s,m.s.getD k default=s:=⟨_,rfl⟩;rw[az]at g0 g1;obtain⟨ta,tc,eq,_⟩:=HK.o.1.own.forms (.tab k) (Af.tab hkl);obtain⟨tn,aM⟩:=nM (AP m (.tab k));rw[aM]at eq;have v0:wr.cell? (aD sb (k*3))=some (iI kk):=(ah.cell (p:=(aD sb (k*3))) ak).trans ((au.o.1.cellAt (k*3+0) oM).trans g0);have v1:wr.cell? (aD sb (k*3+1))=some (.string dd):=(ah.cell (p:=(aD sb (k*3+1))) ak).trans ((au.o.1.cellAt (k*3+1) oM).trans g1);have v2:wr.cell? (aD sb (k*3+1+1))=some (.slice ta tn tc):=(ah.cell (p:=(aD sb (k*3+1+1))) ak).trans ((au.o.1.cellAt (k*3+2) oM).trans (g2.trans (by rw[<-eq])));have aJ:=(ah.block r (B6.1 ac.o).1).trans ac.o;have ay:(wr.alloc (oS kk dd ta tn tc)).heap[r]?=some (.map ((Cd m.s ((List.range m.s.length).filter (kept m.s))).toArray) (AJ m.s m.s.length)):=J3 aJ _
   by_cases hp:kept m.s k=true
   ·obtain⟨p,aR⟩:=PF (L:=m.s) (l:=(List.range m.s.length).filter (kept m.s)) (k:=k) (Kg.2 ⟨CR.2 hkl,hp⟩) 0;obtain⟨rk,af⟩:=nM (AJ m.s k);have hlk:=L7 (P:=prog) (w:=wr.alloc (oS kk dd ta tn tc)) 119 3 3 r (AJ m.s m.s.length) ((Cd m.s ((List.range m.s.length).filter (kept m.s))).toArray) (k:Int) (iI (AJ m.s k:Int)) p underlying119 underlying3 ay (by simpa using aR);rw[af]at hlk;have aT:rk<n1:=by rw[<-af,<-am.o.1];exact IK hkl hp
    have bf:(rk:Int)<(n1:Int):=oM;have ag:Hd (k<m.s.length/\kept m.s k=true/\AJ m.s k=rk/\(∃es,m.s.getD k default=(kk,dd,es))/\val (.tab k)=.slice ta tn tc):=⟨hkl,hp,af,⟨es,az⟩,eq⟩;obtain⟨fk,aG⟩:=nM (m.f.getD k 0);have aW:Hd (m.f.getD k 0=fk):=aG;have aS:k<m.f.length:=by rw[aY.o];exact hkl
    have bc:(k:Int)<(m.f.length:Int):=oM;have cf:wr.cell? (aD fb k)=some (iI fk):=by
     refine(ah.cell (p:=(aD fb k)) ap).trans ((au.o.2.cellAt k oM).trans ?_)
     show (List.map (Value.int .i64) m.f)[k]?=_
     rw[Dm,Co aS,<-aG];simp[List.getD,aS]
    have bb:fb<wr.heap.size:=AO ap ah.size;have aH:=Gm HC.o.l;have aL:=Gm HC.o.r;have al:Hd (lb≠wr.heap.size/\lb≠D/\lb≠fb/\rb≠wr.heap.size/\rb≠D/\rb≠fb):=⟨oM,oM,oM,oM,oM,oM⟩;have aX:Hd (∃u,(Ae (gR m.s m.f k))[rk]?=some u):=⟨_,Co (by rw[ER,Yp oM,am.o.1];exact aT)⟩;clear aR af hp aG g0 g1 g2 az eq aM ay aJ aH aL;go_upto_region 6 with fail;obtain⟨X9,aw⟩:∃X,X=wr.alloc (oS kk dd ta tn tc):=⟨_,rfl⟩;have b9:Bw wr X9:=by rw[aw];exact Av
    have k9:X9.heap[wr.heap.size]?=some (oS kk dd ta tn tc):=by rw[aw];exact Aw _ _
    rw[<-aw];clear aw;have a8:X9.heap[D]?=some (.cells (aI m ra rc (sZ sb) sc (sZ fb) fc na nc) 64):=(b9.block D ba).trans av;have aF:X9.cell? (aD fb k)=some (iI fk):=(b9.cell (p:=(aD fb k)) bb).trans cf;have aO:Hd (Dz W X9 lb rb n1 m val (k)):=HC.o.below b9;refine BT (S:=(fun X:World=>X.heap[wr.heap.size]?=some (oS kk dd ta tn tc)/\X.heap[D]?=some (.cells (aI m ra rc (sZ sb) sc (sZ fb) fc na nc) 64)/\X.cell? (aD fb k)=some (iI fk))) kR ⟨k9,a8,aF⟩ (fun hHeld=>?_);obtain⟨Y0,ax⟩:∃Y,Y=X9.drew:=⟨_,rfl⟩;have an:Hd (Dz W Y0 lb rb n1 m val (k)):=by rw[ax];exact aO.o.drew
    have kY:Y0.heap[wr.heap.size]?=some (oS kk dd ta tn tc)/\Y0.heap[D]?=some (.cells (aI m ra rc (sZ sb) sc (sZ fb) fc na nc) 64)/\Y0.cell? (aD fb k)=some (iI fk):=by rw[ax];exact⟨k9,a8,aF⟩
    have bl:wr.heap.size<Y0.heap.size:=(B6.1 kY.1).1;rw[<-ax]at hHeld ⊢;clear ax k9 a8 aF b9 aO;refine Ar 0 (lZ lb n1 n1) ?_;refine Ar 1 (iI (rk:Int)) ?_;refine Ar 2 (lZ rb n1 n1) ?_;refine Ar 3 (iI (rk:Int)) ?_;simp only[lays];refine Fe 4 (.agg #[iI kk,.string dd,.slice ta tn tc]) rfl (B3 ⟨by rfl,fun w' hSw=>by obtain⟨qa,qb,qc⟩:=hSw;obtain⟨t0,t1,t2⟩:=Fv qa;have j0:=five qb;go_simp⟩) hHeld ?_;simp only[lays];refine Ar 5 (pZ D) ?_;refine Ar 6 (pZ D) ?_;refine Ar 7 (pZ D) ?_;refine Ar 8 (pQ D 3) ?_;simp only[lays];refine Fe 9 (lZ fb m.f.length fc) rfl (B3 ⟨by rfl,fun w' hSw=>by obtain⟨qa,qb,qc⟩:=hSw;obtain⟨t0,t1,t2⟩:=Fv qa;have j0:=five qb;go_simp⟩) hHeld ?_;simp only[lays];refine Ar 10 (iI (k:Int)) ?_;refine Ar 11 (pQ fb k) ?_;simp only[lays];refine Fe 12 (iI fk) rfl (B3 ⟨by rfl,fun w' hSw=>by obtain⟨qa,qb,qc⟩:=hSw;obtain⟨t0,t1,t2⟩:=Fv qa;have j0:=five qb;go_simp⟩) hHeld ?_;simp only[lays];refine Ar 13 (pQ lb (rk*3)) ?_;simp only[lays];obtain⟨⟨u0,z0⟩,⟨u1,z1⟩,⟨u2,z2⟩,z3,z4,z5⟩:=an.o.cells3 aT;have a6:Hd ((((Y0.setCell (aD lb (rk*3)) (iI kk)).setCell (aD lb (rk*3+1)) (.string dd)).setCell (aD lb (rk*3+2)) (.slice ta tn tc)).ownsRow W.heap.size 85 3 (lZ lb n1 n1) n1 (A2 (gS m.s (k+1)) (gT m.s val (k+1)))/\Bw W (((Y0.setCell (aD lb (rk*3)) (iI kk)).setCell (aD lb (rk*3+1)) (.string dd)).setCell (aD lb (rk*3+2)) (.slice ta tn tc))):=an.o.put ag.o.1 ag.o.2.1 ag.o.2.2.1 ag.o.2.2.2.1 ag.o.2.2.2.2;have aq:(((Y0.setCell (aD lb (rk*3)) (iI kk)).setCell (aD lb (rk*3+1)) (.string dd)).setCell (aD lb (rk*3+2)) (.slice ta tn tc)).heap[wr.heap.size]?=some (oS kk dd ta tn tc)/\(((Y0.setCell (aD lb (rk*3)) (iI kk)).setCell (aD lb (rk*3+1)) (.string dd)).setCell (aD lb (rk*3+2)) (.slice ta tn tc)).heap[D]?=some (.cells (aI m ra rc (sZ sb) sc (sZ fb) fc na nc) 64)/\(((Y0.setCell (aD lb (rk*3)) (iI kk)).setCell (aD lb (rk*3+1)) (.string dd)).setCell (aD lb (rk*3+2)) (.slice ta tn tc)).cell? (aD fb k)=some (iI fk):=⟨(Ny _ _ _ (fun e=>al.o.1 e.symm)).trans kY.1,(Ny _ _ _ (fun e=>al.o.2.1 e.symm)).trans kY.2.1,(Rz (Ny _ _ _ (fun e=>al.o.2.2.1 e.symm))).trans kY.2.2⟩;have ar:Hd ((((Y0.setCell (aD lb (rk*3)) (iI kk)).setCell (aD lb (rk*3+1)) (.string dd)).setCell (aD lb (rk*3+2)) (.slice ta tn tc)).ownsRow W.heap.size 3 1 (lZ rb n1 n1) n1 (Ae (gR m.s m.f k))):=CX an.o.r (fun q e=>Ny _ _ _ (fun x=>an.o.ne (by have e':some rb=some q:=e;have:=BJ e';have x:q=lb:=x;omega)));refine AC 14 rfl (fun K hK=>?_);clear hHeld;simp only[lays];rw[Ab (by rfl)];go_simp;obtain⟨Y1,aE⟩:∃Y,Y=(((Y0.setCell (aD lb (rk*3)) (iI kk)).setCell (aD lb (rk*3+1)) (.string dd)).setCell (aD lb (rk*3+2)) (.slice ta tn tc)):=⟨_,rfl⟩;rw[<-aE]at a6 aq ar
    first|rw[<-aE]|skip
    clear aE z0 z1 z2 z3 z4 z5;refine hK.out _ _ aq (fun hHeld=>?_);clear hK K;try simp only[lays]
    have c5:Y1.cell? (aD rb rk)=(Ae (gR m.s m.f k))[rk]?:=ar.o.cellAt rk oM;obtain⟨uu,aV⟩:∃u,(Ae (gR m.s m.f k))[rk]?=some u:=aX.o;rw[aV]at c5;have f5:Y1.frozen? (aD rb rk)=false:=ar.o.frozenAt rk;have a7:Hd (Dz W (Y1.setCell (aD rb rk) (iI fk)) lb rb n1 m val (k+1)):=Dz.last a6.o.1 a6.o.2 ar.o an.o.ne ag.o.1 ag.o.2.1 ag.o.2.2.1 aW.o;have bi:(Y1.setCell (aD rb rk) (iI fk)).heap[wr.heap.size]?=some (oS kk dd ta tn tc)/\(Y1.setCell (aD rb rk) (iI fk)).heap[D]?=some (.cells (aI m ra rc (sZ sb) sc (sZ fb) fc na nc) 64)/\(Y1.setCell (aD rb rk) (iI fk)).cell? (aD fb k)=some (iI fk):=⟨Bt aq.1 (fun e=>al.o.2.2.2.1 e.symm) _ _,Bt aq.2.1 (fun e=>al.o.2.2.2.2.1 e.symm) _ _,(Rz (AN Y1 (aD rb rk) _ fb (fun e=>al.o.2.2.2.2.2 e.symm))).trans aq.2.2⟩;clear aV;refine Ar 15 (pQ rb rk) ?_;simp only[lays];refine AC 16 rfl (fun K hK=>?_);clear hHeld;simp only[lays];rw[Ab (by rfl)];go_simp;refine hK.out _ _ bi (fun hHeld=>?_);clear hK K hHeld;try simp only[lays]
    refine BQ kR ?_ _;go_wp2_with fail;go_roundw
    case rel=>exact⟨k+1,oM,by go_num,a7⟩
    case measure=>first|(simp[intOf];done)|(simp[intOf];omega)
   ·have hp:kept m.s k=false:=by simpa using hp
    have hlk:=Qb (P:=prog) (w:=wr.alloc (oS kk dd ta tn tc)) 119 3 3 r (AJ m.s m.s.length) ((Cd m.s ((List.range m.s.length).filter (kept m.s))).toArray) (k:Int) (iI 0) underlying119 underlying3 ay (by simpa using LR (L:=m.s) (l:=(List.range m.s.length).filter (kept m.s)) (k:=(k:Int)) (fun j hj x=>by have:=(Kg.1 hj).2;have e:j=k:=oM;rw[e,hp]at this;cases this) 0) kR;have a7:Hd (Dz W (wr.alloc (oS kk dd ta tn tc)) lb rb n1 m val (k+1)):=by
     have:=HC.o.below ((AG _ _).alloc lE (oS kk dd ta tn tc));exact⟨this.bel,by rw[Yt hp,Yv hp];exact this.l,by rw[Yq hp];exact this.r,this.ne⟩
    clear hp g0 g1 g2 az eq aM ay aJ;go_wp2_with fail;go_roundw
    case rel=>exact⟨k+1,oM,by go_num,a7⟩
    case measure=>first|(simp[intOf];done)|(simp[intOf];omega)
  ·have e:k=m.s.length:=oM;subst e;have d0:=five av;have bj:=Aq av;clear av;go_wp2_with fail
   go_end0
   have hl:=HC.o.l;have hr:=HC.o.r;rw[Ys]at hl;rw[Yo]at hr;refine⟨rfl,_,Ay.gath HK.o.1 HK.o.2.1 HC.o.bel (lv:=lZ lb n1 n1) (rv:=lZ rb n1 n1) (by rw[am.o.1];exact hl) (by rw[am.o.1];exact hr) (fun g e x=>HC.o.ne (by have e':some lb=some g:=e;have x':some rb=some g:=x;have:=BJ e';have:=BJ x';omega))⟩

theorem fB (h:F7 W wr B D bm r L g (Ca L k i g) val)(hB:B<=W.heap.size)(hk:k<g.p.length)(hl:(g.p.getD k default).2.2.length<=1000)(hfar:∀a,Af g a->(val a).ownBlock≠some bm/\(val a).ownBlock≠some r):Cl 169 #[val (.sr k),.func (.func 110) #[] #[pZ bm]] wr fun q W'=>q=.returned (.tuple #[])/\F7 W W' B D bm r L g (Ca L (k+1) i g) val:=by
 have ha:Af (Ca L k i g) (.sr k):=(Gl _ _ _ _ _).2 (Af.sr hk);have hr:=h.dto.dk.own.row _ ha;have e1:AP (Ca L k i g) (.sr k)=(g.p.getD k default).2.2.length:=by
  show ((DV L k g.p).getD k default).2.2.length=_
  rw[J9 hk,Aa oM]
 have e2:Bn (Ca L k i g) val (.sr k)=Ae (g.p.getD k default).2.2:=by
  show Ae ((DV L k g.p).getD k default).2.2=_
  rw[J9 hk,Aa oM]
 rw[e1,e2]at hr;have hr:wr.ownsRow B 3 1 (val (.sr k)) (g.p.getD k default).2.2.length (Ae (g.p.getD k default).2.2):=hr;obtain⟨f1,f2⟩:=hfar (.sr k) (Af.sr hk);refine(Rc (g':=none) hl hr h.num f1 f2).mono ?_;rintro q W' ⟨rfl,k1,k2⟩;have e3:AP (Ca L (k+1) i g) (.sr k)=(g.p.getD k default).2.2.length:=by
  show ((DV L (k+1) g.p).getD k default).2.2.length=_
  rw[J9 hk,Ab oM]
  show ((g.p.getD k default).2.2.map (Ba L)).length=_
  rw[BH]
 have e4:Bn (Ca L (k+1) i g) val (.sr k)=Ae ((g.p.getD k default).2.2.map (Ba L)):=by
  show Ae ((DV L (k+1) g.p).getD k default).2.2=_
  rw[J9 hk,Ab oM];rfl
 refine⟨rfl,h.dto.turn hB (Gl _ _ _ _) ha (by rw[e3,e4];exact k1) k2 (fun b=>(Gl _ _ _ _ b).trans (Gl _ _ _ _ b).symm) rfl (fun b hb hne=>fA b ((Gl _ _ _ _ b).1 hb) hne),h.num.grown k2 f1 f2⟩
theorem fy (h:F7 W wr B D bm r L g (Ca L j k g) val)(hB:B<=W.heap.size)(hk:k<g.s.length)(hl:(g.s.getD k default).2.2.length<=1000)(hfar:∀a,Af g a->(val a).ownBlock≠some bm/\(val a).ownBlock≠some r):Cl 169 #[val (.tab k),.func (.func 110) #[] #[pZ bm]] wr fun q W'=>q=.returned (.tuple #[])/\F7 W W' B D bm r L g (Ca L j (k+1) g) val:=by
 have ha:Af (Ca L j k g) (.tab k):=(Gl _ _ _ _ _).2 (Af.tab hk);have hr:=h.dto.dk.own.row _ ha;have e1:AP (Ca L j k g) (.tab k)=(g.s.getD k default).2.2.length:=by
  show ((DU L k g.s).getD k default).2.2.length=_
  rw[J8 hk,Aa oM]
 have e2:Bn (Ca L j k g) val (.tab k)=Ae (g.s.getD k default).2.2:=by
  show Ae ((DU L k g.s).getD k default).2.2=_
  rw[J8 hk,Aa oM]
 rw[e1,e2]at hr;have hr:wr.ownsRow B 3 1 (val (.tab k)) (g.s.getD k default).2.2.length (Ae (g.s.getD k default).2.2):=hr;obtain⟨f1,f2⟩:=hfar (.tab k) (Af.tab hk);refine(Rc (g':=none) hl hr h.num f1 f2).mono ?_;rintro q W' ⟨rfl,k1,k2⟩;have e3:AP (Ca L j (k+1) g) (.tab k)=(g.s.getD k default).2.2.length:=by
  show ((DU L (k+1) g.s).getD k default).2.2.length=_
  rw[J8 hk,Ab oM]
  show ((g.s.getD k default).2.2.map (Ba L)).length=_
  rw[BH]
 have e4:Bn (Ca L j (k+1) g) val (.tab k)=Ae ((g.s.getD k default).2.2.map (Ba L)):=by
  show Ae ((DU L (k+1) g.s).getD k default).2.2=_
  rw[J8 hk,Ab oM];rfl
 refine⟨rfl,h.dto.turn hB (Gl _ _ _ _) ha (by rw[e3,e4];exact k1) k2 (fun b=>(Gl _ _ _ _ b).trans (Gl _ _ _ _ b).symm) rfl (fun b hb hne=>fw b ((Gl _ _ _ _ b).1 hb) hne),h.num.grown k2 f1 f2⟩
theorem eT (hK:DK W B D val g)(hB:B<=W.heap.size)(hN:F6 W bm r L)(hfar:∀a,Af g a->(val a).ownBlock≠some bm/\(val a).ownBlock≠some r)(hl0:g.r.length<=1000)(hn1:g.p.length<=1000)(hn2:g.s.length<=1000)(hl1:∀k,k<g.p.length->(g.p.getD k default).2.2.length<=1000)(hl2:∀k,k<g.s.length->(g.s.getD k default).2.2.length<=1000):Cl 109 #[pZ D,.func (.func 110) #[] #[pZ bm]] W fun q W'=>q=.returned (.tuple #[])/\Ay W W' B D g val AF (Ca L g.p.length g.s.length g) val:=by
 obtain⟨ra,rc,e0,_⟩:=hK.own.forms .r (Af.r g);obtain⟨sa,sc,e1,_⟩:=hK.own.forms .s (Af.s g);obtain⟨na,nc,e3,_⟩:=hK.own.forms .p (Af.p g);have e0:val .r=.slice ra g.r.length rc:=e0;have e1:val .s=.slice sa g.s.length sc:=e1;have e3:val .p=.slice na g.p.length nc:=e3;have HV:Hd (val .r=.slice ra g.r.length rc/\val .s=.slice sa g.s.length sc/\val .p=.slice na g.p.length nc):=⟨e0,e1,e3⟩;have HL:Hd (g.r.length<=1000/\(∀k,k<g.p.length->(g.p.getD k default).2.2.length<=1000)/\∀k,k<g.s.length->(g.s.getD k default).2.2.length<=1000):=⟨hl0,hl1,hl2⟩;have HB:Hd (B<=W.heap.size):=hB;have HF:Hd (∀a,Af g a->(val a).ownBlock≠some bm/\(val a).ownBlock≠some r):=hfar;have hr:W.ownsRow B 3 1 (val .r) g.r.length (Ae g.r):=hK.own.row .r (Af.r g);obtain⟨f1,f2⟩:=hfar .r (Af.r g);have ab:Cl 169 #[.slice ra g.r.length rc,.func (.func 110) #[] #[pZ bm]] W fun q W'=>q=.returned (.tuple #[])/\F7 W W' B D bm r L g (Ca L 0 0 g) val:=by
  have hc:=Rc (g':=none) hl0 hr hN f1 f2;rw[e0]at hc;refine hc.mono ?_;rintro q W' ⟨rfl,k1,k2⟩;rw[<-e0]at k1 k2;refine⟨rfl,(Ay.refl hK AF).turn hB (fun _=>Ke) (Af.r g) (a:=.r) (m':=Ca L 0 0 g) ?_ k2 (Gl _ _ _ _) rfl (fun b hb hne=>?_),hN.grown k2 f1 f2⟩
  ·show W'.ownsRow B 3 1 (val .r) (g.r.map (Ba L)).length (Ae (g.r.map (Ba L)))
   rw[BH];exact k1
  ·rcases hb.cases with rfl|rfl|rfl|rfl|⟨k,rfl,hk⟩|⟨k,rfl,hk⟩
   ·exact absurd rfl hne
   ·exact⟨rfl,rfl⟩
   ·exact⟨rfl,rfl⟩
   ·exact⟨rfl,rfl⟩
   ·exact⟨rfl,rfl⟩
   ·exact⟨rfl,rfl⟩
 obtain⟨_,c1,_,_,_⟩:=hK.five;rw[e0]at c1;clear hK hB hN hfar hl0 hl1 hl2 hr f1 f2 e0 e1 e3
 go_enter func109,ntmps109
 go_wp2_with fail;refine ab.mono ?_;rintro e' w1 ⟨rfl,hR⟩;dsimp only;have d4:w1.cell? (aD D 4)=some (.slice na g.p.length nc):=by have:=hR.dto.dk.five.2.2.2.2;rw[HV.o.2.2]at this;exact this
 have af:Hd (F7 W w1 B D bm r L g (Ca L 0 0 g) val):=hR;clear hR c1 ab;go_wp2_with fail;clear d4
 go_loopw [21] (fun i wr=>∃k:Nat,k<=g.p.length/\i=iI k/\Hd (F7 W wr B D bm r L g (Ca L k 0 g) val)) (fun i _=>g.p.length-(intOf i).toNat)
 case atStart=>exact⟨0,A7 _,rfl,af⟩
 case round=>
  obtain⟨k,hk,rfl,HC⟩:=hrel
  by_cases hkl:k<g.p.length
  ·have ag:(k:Int)<(g.p.length:Int):=oM;have aa:wr.ownsRow B 87 3 (val .p) g.p.length (A8 g.p (fun j=>val (.sr j))):=by
    have:=HC.o.dto.dk.own.row .p (Af.p _);have e1:AP (Ca L k 0 g) .p=g.p.length:=by exact Mj _ _ _
    have e2:Bn (Ca L k 0 g) val .p=A8 g.p (fun j=>val (.sr j)):=PJ;rw[e1,e2]at this;exact this
   rw[HV.o.2.2]at aa;obtain⟨cb,ae⟩:∃b,na=some (aZ b):=by
    rcases Di aa with⟨e,hn⟩|⟨b,c,e,_⟩
    ·omega
    ·simp only[BP]at e;exact⟨b,e.1⟩
   subst ae;obtain⟨g0,g1,g2⟩:=Ew (qv:=fun j=>val (.sr j)) hkl;obtain⟨x0,hx0⟩:∃x,x=(g.p.getD k default).1:=⟨_,rfl⟩;obtain⟨x1,ad⟩:∃x,x=(g.p.getD k default).2.1:=⟨_,rfl⟩;rw[<-hx0]at g0;rw[<-ad]at g1;obtain⟨qa,qc,eq,_⟩:=HC.o.dto.dk.own.forms (.sr k) ((Gl _ _ _ _ _).2 (Af.sr hkl));obtain⟨qn,ac⟩:=nM (AP (Ca L k 0 g) (.sr k));rw[ac]at eq;have v0:wr.cell? (aD cb (k*3))=some (.string x0):=(aa.cellAt (k*3+0) oM).trans g0;have v1:wr.cell? (aD cb (k*3+1))=some (iI x1):=(aa.cellAt (k*3+1) oM).trans g1;have v2:wr.cell? (aD cb (k*3+1+1))=some (.slice qa qn qc):=(aa.cellAt (k*3+2) oM).trans (g2.trans (by rw[<-eq]));have ab:=fB (HC.o.alloc HB.o (oN x0 x1 qa qn qc)) HB.o hkl (HL.o.2.1 k hkl) HF.o;rw[eq]at ab;clear g0 g1 g2 hx0 ad eq ac aa;go_wp2_with fail;refine ab.mono ?_;rintro e' w1 ⟨rfl,hR⟩;have HR:Hd (F7 W w1 B D bm r L g (Ca L (k+1) 0 g) val):=hR;clear hR;dsimp only;go_wp2_with fail;go_roundw
   case rel=>exact⟨k+1,oM,by go_num,HR⟩
   case measure=>first|(simp[intOf];done)|(simp[intOf];omega)
  ·have e:k=g.p.length:=oM;subst e;have d2:wr.cell? (aD D 2)=some (.slice sa g.s.length sc):=by have:=HC.o.dto.dk.five.2.2.1;rw[HV.o.2.1]at this;exact this
   obtain⟨w5,ah⟩:∃X,X=wr:=⟨_,rfl⟩;subst ah;go_wp2_with fail;clear d2
   go_loopw [36] (fun i wr=>∃k:Nat,k<=g.s.length/\i=iI k/\Hd (F7 W wr B D bm r L g (Ca L g.p.length k g) val)) (fun i _=>g.s.length-(intOf i).toNat)
   case atStart=>exact⟨0,A7 _,rfl,HC⟩
   case round=>
    clear HC;obtain⟨k,hk,rfl,HC⟩:=hrel
    by_cases hkl:k<g.s.length
    ·have ag:(k:Int)<(g.s.length:Int):=oM;have aa:wr.ownsRow B 85 3 (val .s) g.s.length (A2 g.s (fun j=>val (.tab j))):=by
      have:=HC.o.dto.dk.own.row .s (Af.s _);have e1:AP (Ca L g.p.length k g) .s=g.s.length:=by exact Mi _ _ _
      have e2:Bn (Ca L g.p.length k g) val .s=A2 g.s (fun j=>val (.tab j)):=PM;rw[e1,e2]at this;exact this
     rw[HV.o.2.1]at aa;obtain⟨cb,ae⟩:∃b,sa=some (aZ b):=by
      rcases Di aa with⟨e,hn⟩|⟨b,c,e,_⟩
      ·omega
      ·simp only[BP]at e;exact⟨b,e.1⟩
     subst ae;obtain⟨g0,g1,g2⟩:=D3 (tv:=fun j=>val (.tab j)) hkl;obtain⟨x0,hx0⟩:∃x,x=(g.s.getD k default).1:=⟨_,rfl⟩;obtain⟨x1,ad⟩:∃x,x=(g.s.getD k default).2.1:=⟨_,rfl⟩;rw[<-hx0]at g0;rw[<-ad]at g1;obtain⟨qa,qc,eq,_⟩:=HC.o.dto.dk.own.forms (.tab k) ((Gl _ _ _ _ _).2 (Af.tab hkl));obtain⟨qn,ac⟩:=nM (AP (Ca L g.p.length k g) (.tab k));rw[ac]at eq;have v0:wr.cell? (aD cb (k*3))=some (iI x0):=(aa.cellAt (k*3+0) oM).trans g0;have v1:wr.cell? (aD cb (k*3+1))=some (.string x1):=(aa.cellAt (k*3+1) oM).trans g1;have v2:wr.cell? (aD cb (k*3+1+1))=some (.slice qa qn qc):=(aa.cellAt (k*3+2) oM).trans (g2.trans (by rw[<-eq]));have ab:=fy (HC.o.alloc HB.o (oS x0 x1 qa qn qc)) HB.o hkl (HL.o.2.2 k hkl) HF.o;rw[eq]at ab;clear g0 g1 g2 hx0 ad eq ac aa;go_wp2_with fail;refine ab.mono ?_;rintro e' w1 ⟨rfl,hR⟩;have HR:Hd (F7 W w1 B D bm r L g (Ca L g.p.length (k+1) g) val):=hR;clear hR;dsimp only;go_wp2_with fail;go_roundw
     case rel=>exact⟨k+1,oM,by go_num,HR⟩
     case measure=>first|(simp[intOf];done)|(simp[intOf];omega)
    ·have e:k=g.s.length:=oM;subst e;go_wp2_with fail
     go_end0
     exact⟨rfl,HC.o.dto⟩

theorem fu (m:Ac):Ca m.s (Ce m).p.length (Ce m).s.length (Ce m)=CU m:=by
 unfold Ca DV DU CU;rw[Fz,Lu,Fz,Lu,JA,JA];have:(Ce m).s.map (Gi m.s)=CK m.s:=by
  show ((Bd m.s).map (fun j=>m.s.getD j default)).map (Gi m.s)=_
  rw[OM];rfl
 rw[this]
 rfl
theorem XS (h:As m=0):(Ce m).r.length<=1000/\(Ce m).p.length<=1000/\(Ce m).s.length<=1000/\(∀k,k<(Ce m).p.length->((Ce m).p.getD k default).2.2.length<=1000)/\∀k,k<(Ce m).s.length->((Ce m).s.getD k default).2.2.length<=1000:=by
 obtain⟨l1,aa⟩:=A4 (Au h).2.1;obtain⟨f1,f2,f3,_⟩:=Fb h (s:=(⟨#[]⟩,m.g,m.r)) CD;dsimp only at f1 f2 f3;have hk:=NH m.s;have hlen:(Ce m).s.length=(Bd m.s).length:=by show ((Bd m.s).map _).length=_;rw[BH]
 refine⟨by show m.r.length<=1000;omega,by have:=(Au h).1;show m.p.length<=1000;omega,oM,fun k hk=>?_,fun k hk=>?_⟩
 ·have hk:k<m.p.length:=hk;have hm:m.p.getD k default∈m.p:=by rw[show m.p.getD k default=m.p[k] by simp[List.getD,hk]];exact BS hk
  obtain⟨g1,g2,g3,_⟩:=Fb h (CA _ hm)
  show (m.p.getD k default).2.2.length<=1000
  omega
 ·rw[hlen]at hk;obtain⟨t1,t2⟩:=PR (m:=m) hk;rw[t2];have hs:=(Au h).2.1;have hall:m.s.all B1=true:=by
   unfold AD at hs;rw[Ab ⟨l1,aa⟩]at hs
   split at hs
   ·rename_i x;exact x.1
   ·cases hs
  have:=NT (Ax.1 hall _ (KI t1));omega
theorem dz (hs:As m=0):Hl w 106 #[] m (some (CU m)):=by
 intro W D B val hb h1 h2 hK
 show Cl 106 #[pZ D] W (fun r W'=>∃val',r=.returned (.tuple #[])/\Ay W W' B D m val AF (CU m) val')
 have aj:BA W (val .s) m.s:=hK.own.img.four.2.1;have ag:=cO aj (Au hs).2.1;obtain⟨sa,sc,e1,_⟩:=hK.own.forms .s (Af.s m);have e1:val .s=.slice sa m.s.length sc:=e1;have d2:=hK.five.2.2.1;rw[e1]at ag d2;have al:=hK.lt;have HK:Hd (DK W B D val m/\B<=W.heap.size/\As m=0):=⟨hK,h2,hs⟩;clear hK aj h1 h2 hs hb e1
 go_enter func106,ntmps106
 go_wp2_with(go_at_call 107;refine ag.mono ?_;rintro e' w1 ⟨rfl,af,b1⟩;have HM:Hd (w1.heap[W.heap.size]?=some (.map ((Cd m.s ((List.range m.s.length).filter (kept m.s))).toArray) (AJ m.s m.s.length))/\Bw W w1):=⟨af,b1⟩;clear af b1);have b2:Bw W (w1.alloc (.cells #[.map (some W.heap.size)] 119)):=HM.o.2.alloc HM.o.2.size _;have an:W.heap.size+1<=w1.heap.size:=(B6.1 HM.o.1).1;have ac:=J3 HM.o.1 (.cells #[.map (some W.heap.size)] 119);have hK2:=HK.o.1.below b2;have hg:=Yy hK2 (Bg HK.o.2.1 b2.size) ac HK.o.2.2;refine hg.mono ?_;rintro e' w3 ⟨rfl,ab,hT⟩;dsimp only;have ao:(w1.alloc (.cells #[.map (some W.heap.size)] 119)).heap.size=w1.heap.size+1:=by simp
 have ad:∀q,W.heap.size<=q->∀a,Af m a->(val a).ownBlock≠some q:=fun q hq a ha e=>by have:=((HK.o.1.own.row a ha).lt q e).2;omega
 have hN:F6 w3 w1.heap.size W.heap.size m.s:=⟨(hT.keep w1.heap.size oM oM (GG _) (ad _ oM)).trans (Aw _ _),(hT.keep W.heap.size oM oM (GG _) (ad _ lE)).trans ac⟩;have ae:∀a,Af (Ce m) a->(ab a).ownBlock≠some w1.heap.size/\(ab a).ownBlock≠some W.heap.size:=fun a ha=>⟨hT.src _ oM (GG _) (ad _ oM) a ha,hT.src _ oM (GG _) (ad _ lE) a ha⟩
 have ak:=HK.o.2.2;have aa:=XS ak;have ah:=eT hT.dk (Bg (Bg HK.o.2.1 b2.size) hT.bel.size) hN ae aa.1 aa.2.1 aa.2.2.1 aa.2.2.2.1 aa.2.2.2.2;rw[fu]at ah;have cb:w3.cell? (aZ w1.heap.size)=some (.map (some W.heap.size)):=by simp[World.cell?,hN.1]
 have HT:Hd (∀w4,Ay w3 w4 B D (Ce m) ab AF (CU m) ab->Ay W w4 B D m val AF (CU m) ab):=fun w4 h4=>Ay.first b2 HK.o.2.1 (hT.andThen h4) (fun q e=>by cases e)
 clear hT hN ae aa hg hK2 ac ad;have am:∀ (fn:Fn) (first cap:Array Value) (w:World),(Instr.makeFunc fn first cap).run prog w=.ok (.func fn first cap) w:=fun _ _ _ _=>rfl
 go_wp2_with fail;refine ah.mono ?_;rintro e' w4 ⟨rfl,h4⟩;dsimp only;have HF:=HT.o w4 h4;have ai:Hd (Ay W w4 B D m val AF (CU m) ab):=HF;clear h4 HF;go_wp2_with fail
 go_end0
 first|exact⟨_,rfl,ai.o⟩|exact⟨rfl,_,ai.o⟩
def Ib (m:Ac):Ac:=if Ao m=0 then CU m else AZ
theorem dv (m:Ac)(ra:Option Addr)(rc:Nat)(sa:Option Addr)(sc:Nat)(fa:Option Addr)(fc:Nat)(na:Option Addr)(nc:Nat)(w:World)(h:Al w (.agg (aI m ra rc sa sc fa fc na nc)) m)(hE:Ao m=0)(M:Ac)(hM:CU m=M):Cl 55 #[.agg (aI m ra rc sa sc fa fc na nc)] w (Bo w w.heap.size M 0):=by
 let U:=(cA m ra rc sa sc fa fc na nc)
 let V:=((w.alloc U).alloc zI)
 have b0:Bw w V:=((AG _ _).alloc (by simp[V,U];try omega) _).alloc (by simp[V,U];try omega) _;have q0:(w.alloc U).heap[w.heap.size]?=some U:=AR (by simp[V,U]);have m0:V.heap[w.heap.size]?=some U:=(Aj q0 _);have q1:V.heap[w.heap.size+1]?=some zI:=AR (by simp[V,U]);have m1:V.heap[w.heap.size+1]?=some zI:=q1;have hz:V.heap.size=w.heap.size+1+1:=by simp[V,U]
 clear q0 q1;have ab:=EU (h.below b0) hE;have c0:=five m0;have HO:Hd (∀w1,Below V.heap.size V w1->Cl 39 #[.agg (aI m ra rc sa sc fa fc na nc),.func (.func 106) #[] #[]] w1 (Bo w1 w1.heap.size M 0)):=fun w1 b1=>by
  have ho:=K8 (h.below (Below.on b0 b1)) (JV (A0 hE)) (enters_of func106 kR rfl) (dz (w:=w1) (A0 hE));have ad:=Qt (A0 hE);have e1:Gg (some (CU m))=M:=by unfold Gg;dsimp only;rw[Ab ad,Ni (TU hE)];exact hM
  have e2:IH (some (CU m))=0:=ad;rw[e1,e2]at ho;exact ho
 have HM:Hd ((Bw w V/\V.heap.size=w.heap.size+1+1)/\V.heap[w.heap.size]?=some U/\V.heap[w.heap.size+1]?=some zI):=⟨⟨b0,hz⟩,m0,m1⟩;clear h m0 m1 hz b0 hE hM;dsimp only[V,U]at *;clear V U
 go_enter func55,ntmps55
 go_wp2_with(go_at_call 38;refine ab.mono ?_;rintro e w1 ⟨rfl,b1⟩;have d0:=Ag HM.o.2.1 b1 (by rw[HM.o.1.2];omega);have x1:=five d0;have ac:=HO.o w1 b1;have HV:Hd (Bw w w1/\w1.heap[w.heap.size+1]?=some zI/\w.heap.size+1<w1.heap.size):=(⟨Below.on HM.o.1.1 b1,Ag HM.o.2.2 b1 (by rw[HM.o.1.2];omega),by have:=b1.size;rw[HM.o.1.2]at this;omega⟩);clear b1 d0);refine ac.mono ?_;intro e w3 hA;obtain⟨val,ga,gc,la,lc,oa,oc,ta,tc,rfl,hO,b1,hI⟩:=hA.open;dsimp only;have k3:=Ag HV.o.2.1 b1 HV.o.2.2;have z0:=five k3;have y0:=Aq k3;have HP:Hd (OI w3 w1.heap.size val M):=hO;have HB:Hd (Bw w w3):=Below.on HV.o.1 b1;have HI:Hd (AB M.g val=.agg (aI M ga gc la lc oa oc ta tc)):=hI;clear hO b1 hI ac hA;go_wp2_with fail;have i1:w.heap.size<=w.heap.size+1:=oM;have aa:∀a,Af M a->(val a).ownBlock≠some (w.heap.size+1):=fun a ha e=>by have:=((HP.o.row a ha).lt _ e).1;have:=HV.o.2.2;omega
 refine AY (v:=.tuple #[.agg (aI M ga gc la lc oa oc ta tc),iI 0]) (by simp[results,results55,go_sem,z0]) rfl ⟨val,by rw[HI.o],OI.mono (((((HP.o.far aa).far aa).far aa).far aa).far aa) (by have:=HV.o.2.2;omega),((((HB.o.setCell i1 _).setCell i1 _).setCell i1 _).setCell i1 _).setCell i1 _⟩
theorem dw (h:Al w v m)(hR:Ao m=0)(hM:Ib m=M)(hE:Ao m=E):Cl 55 #[v] w (Bo w w.heap.size M E):=by
 have h':=h;obtain⟨ra,rc,sa,sc,fa,fc,na,nc,rfl,_⟩:=h.parts
 by_cases hC:Ao m=0
 ·have e:E=0:=hE.symm.trans hC;subst e;exact dv m ra rc sa sc fa fc na nc w h' hC M (by unfold Ib at hM;rw[Ab hC]at hM;exact hM)
 ·exact absurd hR hC
def Hm (m:Ac) (w:List UInt8):Int × Ac × List UInt8:=
 if w=[112,97,99,107] then (0,Ib m,B9) else if w=[109,97,112] then (0,m,E5 m)
 else if w=[117,115,101,100] then (0,m,dg (Cc m.s)++32::dg m.s.length)
 else if w=[115,97,118,101] then (0,m,dg (Dh m).length) else (1,AZ,[])
def B2 (m:Ac) (w r:List UInt8):Int × Ac × List UInt8:=
 if w=[114,101,97,100] then Cu r fun n=>(Br m n,m,(Jp m n).data.toList.map Df)
 else if w=[115,105,122,101] then Cu r fun n=>(Ft m n,Gn m n,B9)
 else if w=[119,105,112,101] then Cu r fun n=>(Gk m n (-1),Ic m n (-1),B9)
 else if w=[112,117,110,99,104] then Cu r fun n=>(Gk m n 0,Ic m n 0,B9)
 else if w=[119,114,105,116,101] then (if (Lib.cut r [32]).2.2=true then Cu (Lib.cut r [32]).1 fun n=>(IQ m n (Ai (Lib.cut r [32]).2.1),Jy m n (Ai (Lib.cut r [32]).2.1),B9) else (1,AZ,[]))
 else if w=[115,110,97,112] then (EL m (Ai r),GV m (Ai r),B9)
 else if w=[98,97,99,107] then (CW m (Ai r),GL m (Ai r),B9)
 else if w=[100,114,111,112] then (CW m (Ai r),Gt m (Ai r),B9) else (1,AZ,[])
def El (m:Ac) (l:List UInt8):Int × Ac × List UInt8:=if (Lib.cut l [32]).2.2=true then B2 m (Lib.cut l [32]).1 (Lib.cut l [32]).2.1 else Hm m (Lib.cut l [32]).1
def Da (m:Ac) (l:List UInt8):Ac × List UInt8:=(if (El m l).1=0 then (El m l).2.1 else m,if (El m l).1=0 then (El m l).2.2 else CF (El m l).1)
def DW:Ac->List UInt8->List UInt8->List UInt8
 | _,_,[]=>[]
 | m,cur,b::l=>if b=10 then (Da m cur).2++10::DW (Da m cur).1 [] l else DW m (cur++[b]) l
theorem gF {a b:List UInt8}(h:(10:UInt8) ∉ a):∀cur,DW m cur (a++10::b)=(Da m (cur++a)).2++10::DW (Da m (cur++a)).1 [] b:=by
 induction a with
 | nil=>intro cur;simp[DW]
 | cons c a ih=>
  intro cur;rw[Er,DW,Aa (fun e=>h (by rw[<-e];exact CD ..)),ih (fun e=>h (CA _ e))];simp
theorem ke {n:Int}{page:ByteArray}(he:IQ m n page=0):Ao (Jy m n page)=0:=by
 unfold IQ at he
 by_cases hl:Br m n=0
 ·rw[Aa (by simpa using hl)]at he
  by_cases hp:page.size=4
  ·rw[Ab hp]at he;obtain⟨M,hM⟩:=PE he;unfold Jy;rw[Aa (by simpa using hl),Ab hp,hM];obtain⟨hC,h0,hn⟩:=Ge hl;obtain⟨n,rfl⟩:∃k:Nat,n=(k:Int):=⟨n.toNat,oM⟩;rw[A5]at hM
   show Ao M=0
   unfold Ec at hM
   by_cases hi:Fw m n=true
   ·rw[Ab hi]at hM;simp only[Ct]at hM;obtain⟨e,he,_,_,ek,_⟩:=Y2 hC hn hi;rw[<-hM,he,A5];exact(UP (page:=page) hC ek hp).1
   ·rw[Aa hi]at hM
    by_cases h1:AM m (n/4)=40
    ·rw[Ab h1]at hM;cases hM
    ·rw[Aa h1]at hM
     by_cases h2:wD m n=40
     ·rw[Ab h2]at hM;cases hM
     ·rw[Aa h2]at hM;simp only[Ct]at hM;rw[<-hM];exact KD (Ro hC hn h1 h2 hp).1.shape
  ·rw[Aa hp]at he;cases he
 ·rw[Ab hl]at he;exact absurd he hl
theorem Ud {n:Int}(h01:e=0\/e = -1)(he:Gk m n e=0):Ao (Ic m n e)=0:=by
 unfold Gk at he
 by_cases hl:Br m n=0
 ·rw[Ab hl]at he;obtain⟨M,hM⟩:=PE he;unfold Ic;rw[Ab hl,hM];obtain⟨hC,h0,hn⟩:=Ge hl;obtain⟨n,rfl⟩:∃k:Nat,n=(k:Int):=⟨n.toNat,oM⟩;rw[A5]at hM;have h:=A0 hC;have hr:=CQ h;have hg:=Dg h;have hk:n/4<m.r.length:=oM
  show Ao M=0
  unfold C8 at hM
  split at hM
  ·simp only[Ct]at hM;rw[<-hM];exact hC
  ·cases ht:DP m (n/4) ((Ak m (n/4)).set (n%4) e) with
   | none=>rw[ht]at hM;cases hM
   | some T=>
    rw[ht]at hM;simp only[It,Ct]at hM;rw[<-hM];obtain⟨ab,aa⟩:=ET h hk;exact KD (Lk hC hk (Jt ab (by rcases h01 with rfl|rfl<;>rfl)) (fun x hx=>by
     rcases KX hx with hx|rfl
     ·exact aa x hx
     ·rcases h01 with rfl|rfl<;>rfl) (Mw (Lj h _) hn rfl hr.1 e) ht).1.shape
 ·rw[Aa hl]at he;exact absurd he hl
theorem UL {g:Int}(he:Ft m g=0):Ao (Gn m g)=0:=by
 unfold Ft at he
 by_cases hl:Ao m=0
 ·rw[Aa (by simpa using hl)]at he
  by_cases hp:0<=g/\g<=16
  ·rw[Ab hp]at he;obtain⟨M,hM⟩:=PE he;unfold Gn;rw[Aa (by simpa using hl),Ab hp,hM]
   show Ao M=0
   unfold E8 at hM
   cases ht:EM m g.toNat with
   | none=>rw[ht]at hM;cases hM
   | some T=>
    rw[ht]at hM;simp only[It,Ct]at hM;rw[<-hM];exact KD (J7 hl oM ht)
  ·rw[Aa hp]at he;cases he
 ·rw[Ab hl]at he;exact absurd he hl
theorem J4 {p:Int × Ac × List UInt8->Prop}{f:Nat->Int × Ac × List UInt8}(h1:p (1,AZ,[]))(h2:∀n,p (f n)):p (Cu l f):=by
 unfold Cu;split
 ·exact h2 _
 ·exact h1
theorem ZE (hR:Ao m=0)(l:List UInt8)(h:(El m l).1=0):Ao (El m l).2.1=0:=by
 revert h
 have key:∀w r,(B2 m w r).1=0->Ao (B2 m w r).2.1=0:=by
  intro w r;unfold B2
  split;· exact J4 (p:=fun q=>q.1=0->Ao q.2.1=0) (fun e=>by cases e) (fun n _=>hR)
  split;· exact J4 (p:=fun q=>q.1=0->Ao q.2.1=0) (fun e=>by cases e) (fun n=>UL)
  split;· exact J4 (p:=fun q=>q.1=0->Ao q.2.1=0) (fun e=>by cases e) (fun n=>Ud (BM rfl))
  split;· exact J4 (p:=fun q=>q.1=0->Ao q.2.1=0) (fun e=>by cases e) (fun n=>Ud (B3 rfl))
  split
  ·split
   ·exact J4 (p:=fun q=>q.1=0->Ao q.2.1=0) (fun e=>by cases e) (fun n=>ke)
   ·exact fun e=>by cases e
  split;· exact fun e=>(Pr e).2.2.2.2.2.2.1
  split;· exact fun e=>by obtain⟨_,_,_,_,_,_,h,_⟩:=QN e;exact h
  split;· exact fun e=>by obtain⟨_,_,_,_,_,_,h,_⟩:=Pz e;exact h
  exact fun e=>by cases e
 unfold El;split
 ·exact key _ _
 ·unfold Hm
  split;· exact fun _=>by unfold Ib;rw[Ab hR];exact TU hR
  split;· exact fun _=>hR
  split;· exact fun _=>hR
  split;· exact fun _=>hR
  exact fun e=>by cases e
theorem QY (hR:Ao m=0)(l:List UInt8):Ao (Da m l).1=0:=by
 unfold Da;dsimp only;split
 ·rename_i h;exact ZE hR l h
 ·exact hR
theorem Al.cut (h:∀W':World,(∀q,B<=q->W'.heap[q]?=w'.heap[q]?)->Al W' v M)(Y:World)(hY:∀q,B<=q->q<w'.heap.size->Y.heap[q]?=w'.heap[q]?)(hz:B<w'.heap.size):Al Y v M:=by
 have hl:=Ea oM (hY (w'.heap.size-1) oM oM);have e:∀q,({w' with heap:=Y.heap.extract 0 w'.heap.size} : World).heap[q]?=if q<w'.heap.size then Y.heap[q]? else none:=fun q=>by
  show (Y.heap.extract 0 w'.heap.size)[q]?=_
  rw[Array.getElem?_extract,Eh];split
  ·rw[Ab oM]
  ·rw[Aa oM]
 refine(h {w' with heap:=Y.heap.extract 0 w'.heap.size} fun q hq=>?_).agree fun q hq=>?_
 ·rw[e];split
  ·exact hY q hq (by assumption)
  ·rw[ME oM]
 ·rw[e,Ab];have:(Y.heap.extract 0 w'.heap.size).size<=w'.heap.size:=by rw[Rp];omega
  exact AO hq this
def EZ (w:World) (q:Int × Ac) (r:Ending) (w':World):Prop:=∃g ra rn rc sa sn sc fa fn fc na nn nc,r=.returned (.tuple #[.agg (bI g ra rn rc sa sn sc fa fn fc na nn nc),iI q.1])/\
 (q.1=0->g=q.2.g/\rn=q.2.r.length/\sn=q.2.s.length/\fn=q.2.f.length/\nn=q.2.p.length/\∀Y:World,(∀p,w.heap.size<=p->p<w'.heap.size->Y.heap[p]?=w'.heap[p]?)->Al Y (.agg (bI g ra rn rc sa sn sc fa fn fc na nn nc)) q.2)/\Bw w w'
theorem Me (n:Nat)(hn:n<100)(w:World):Cl 26 #[iI (n:Int)] w fun r w'=>r=.returned (.string (Ai (CF n)))/\Bw w w':=by
 have HC:=Ah (KG n w oM);obtain⟨S1,h1⟩:=nM (Ai (Lib.decDigits n));rw[h1]at HC;have s1:¬9223372036854775807<6+(S1.size:Int):=by have:=Ga n;rw[<-h1,Cx];omega
 have HE:Hd ((⟨#[101,114,114,111,114,32]⟩:ByteArray)++S1=Ai (CF n)):=by
  show _=_;rw[<-h1];unfold CF;rw[A5,EN oM,<-List.singleton_append]
  exact(FI [101,114,114,111,114,32] (Lib.decDigits n)).symm
 clear h1 hn
 go_enter func26,ntmps26
 go_wp2_with(go_at_call 27;refine HC.o.mono ?_;rintro e w1 ⟨rfl,b1⟩);go_ret;exact⟨by rw[<-HE.o];rfl,b1⟩
def E6 (f:Nat->List UInt8):Nat->List UInt8
 | 0=>[]
 | k+1=>(if 0<k then E6 f k++[32] else E6 f k)++f k
theorem Tl (f:Nat->List UInt8):∀k,E6 f k=Lib.join ((List.range k).map f) [32]
 | 0=>rfl
 | 1=>by simp[E6,Lib.join_one]
 | k+2=>by
  have h:∀ (x:List UInt8) (r:List (List UInt8)) (y:List UInt8),Lib.join (x::(r++[y])) [32]=Lib.join (x::r) [32]++[32]++y:=fun x r y=>by
   rw[Lib.join_cons,Lib.join_cons];unfold Lib.joinTail;simp
  rw[E6,Ab oM,Tl f (k+1),DD (n:=k+1),DQ];rw[List.range_succ_eq_map,Dc];exact(h _ _ _).symm

theorem Tm (f:Nat->List UInt8):∀k,(∀j,j<k->(f j).length<=42)->(E6 f k).length<=43*k
 | 0,_=>by simp[E6]
 | k+1,h=>by
  have h1:=Tm f k (fun j hj=>h j oM);have h2:=h k oM;rw[E6,Bl];split
  ·rw[Bl,Hf];omega
  ·omega
theorem ie (e:Int):1<=(ED e).length:=by
 unfold ED;split
 ·simp
 ·split
  ·simp
  ·unfold dg LO;split<;>simp
theorem Xv (h:l≠[]):(Ai l).toList.isEmpty=false:=by rw[IX];cases l with|nil=>exact absurd rfl h|cons _ _=>rfl
theorem ZT (h:Al w v m)(hR:Ao m=0):Cl 29 #[v] w fun r w'=>r=.returned (.string (Ai (E5 m)))/\Bw w w':=by
 have h':=h;obtain⟨ra,rc,sa,sc,fa,fc,na,nc,rfl,_⟩:=h.parts;have hg:=Dg (A0 hR);obtain⟨g,aa⟩:∃g:Nat,m.g=(g:Int):=⟨m.g.toNat,oM⟩;obtain⟨f,hf⟩:∃f:Nat->List UInt8,f=fun n=>ED (Be m m.r n):=⟨_,rfl⟩
 have b0:Bw w (w.alloc (.cells #[iI m.g,.slice ra m.r.length rc,.slice sa m.s.length sc,.slice fa m.f.length fc,.slice na m.p.length nc] 33)):=Av;have m0:=C2 w (.cells #[iI m.g,.slice ra m.r.length rc,.slice sa m.s.length sc,.slice fa m.f.length fc,.slice na m.p.length nc] 33);obtain⟨X0,af⟩:=nM (w.alloc (.cells #[iI m.g,.slice ra m.r.length rc,.slice sa m.s.length sc,.slice fa m.f.length fc,.slice na m.p.length nc] 33));rw[af]at b0 m0;have HI:=Ah h';have HG:Hd (m.g=(g:Int)/\g<=16/\Ao m=0/\f=fun n=>ED (Be m m.r n)):=⟨aa,oM,hR,hf⟩;have HK:Hd (∀k,k<=g->(E6 f k).length<=43*k):=fun k hk=>Tm f k fun j hj=>by rw[hf];exact QP (LP hR oM).2
 have HB:Hd (E5 m=if g=0 then [110,111,110,101] else E6 f g):=by
  show _=_;unfold E5;rw[aa]
  by_cases e:g=0
  ·rw[Ab e,Ab oM]
  ·rw[Aa e,Aa oM,Tl,hf];rfl
 have HM:=Ah (AW m0 b0);rw[aa]at HM;rw[aa]at HI;rw[aa]at af;rw[aa];clear h h' hg aa hf hR m0 b0
 go_enter func29,ntmps29
 go_wp2_with fail;try rw[af]
 clear af
 go_loopw [3,4,5] (fun s n _ wr=>∃ (k:Nat) (S:ByteArray),k<=g/\s=.string S/\n=iI k/\Hd (S=Ai (E6 f k))/\Bw X0 wr) (fun _ n _ _=>g-(intOf n).toNat)
 case atStart=>exact⟨0,⟨#[]⟩,A7 _,rfl,rfl,rfl,AG _ _⟩
 case round=>
  obtain⟨k,S,hk,rfl,rfl,HS,ab⟩:=hrel;obtain⟨x,av⟩:∃X,X=wr:=⟨_,rfl⟩;subst av;have aq:w.heap.size<X0.heap.size:=(B6.1 HM.o.1).1;have kx:=(ab.block w.heap.size aq).trans HM.o.1;have c0:=five kx;have ao:Bw w x:=HM.o.2.trans (ab.mono HM.o.2.size);have ag:=Ah ao;clear kx aq ao
  by_cases hlk:k<g
  ·have au:(k:Int)<(g:Int):=oM;have aa:=HG.o.1;have hr:=LP HG.o.2.2.1 (k:=k) oM;have HL:=Ah (P8 (m:=m) (by have:=HI.o.below ag.o;rw[<-aa]at this;exact this) (k:Int) (NP HG.o.2.2.1 oM) rfl);rw[A5,aa]at HL;obtain⟨c,hc⟩:=nM (Be m m.r k);have HF:Hd (f k=ED c):=by show _=_;rw[HG.o.2.2.2,<-hc]
   rw[hc]at HL hr;have hz:=HK.o k hk;have ap:S.size<=700:=by rw[HS.o,Cx];have:=HG.o.2.1;omega
   have s1:¬9223372036854775807<(S.size:Int)+1:=oM;have an:Hd (∀n:Nat,c=(n:Int)->∀W,Cl 27 #[iI c] W fun r w'=>r=.returned (.string (Ai (Lib.decDigits n)))/\Bw W w'):=fun n hn W=>by rw[hn];exact KG n W oM
   have ar:g<=16:=HG.o.2.1;have ae:(k:Int)+1<=9223372036854775807:=oM;clear aa hc hz
   by_cases hk0:0<k
   ·have ac:Hd (Ai (E6 f (k+1))=S++⟨#[32]⟩++Ai (f k)):=by show _=_;rw[E6,Ab hk0,FI,FI,<-HS.o];rfl
    have al:(0:Int)<(k:Int):=oM;have s2:¬9223372036854775807<(S.size:Int)+1+1:=oM;go_wp2_with fail;refine HL.o.mono ?_;rintro e w1 ⟨rfl,b1⟩;dsimp only;have ad:=Below.on ab b1;clear c0
    by_cases hc0:c=0
    ·subst hc0;go_wp2_with fail;go_roundw
     case rel=>exact⟨k+1,_,oM,rfl,by go_num,by show _=_;rw[ac.o,HF.o];rfl,ad⟩
     case measure=>simp[intOf];omega
    by_cases hc1:c = -1
    ·subst hc1;go_wp2_with fail;go_roundw
     case rel=>exact⟨k+1,_,oM,rfl,by go_num,by show _=_;rw[ac.o,HF.o];rfl,ad⟩
     case measure=>simp[intOf];omega
    ·obtain⟨n,hn⟩:∃n:Nat,c=(n:Int):=⟨c.toNat,oM⟩;have HD:=Ah (an.o n hn w1);obtain⟨S1,h1⟩:=nM (Ai (Lib.decDigits n));have am:S1.size<=50:=by have:=Ga n;rw[<-h1,Cx];omega
     have H3:=Ah (show ¬9223372036854775807<(S.size:Int)+1+(S1.size:Int) by omega);have ah:Hd (Ai (f k)=S1):=by show _=_;rw[HF.o,<-h1];unfold ED;rw[Aa hc0,Aa hc1,EN oM,hn];rfl
     rw[h1]at HD;have H4:=Ah ae;have aj:(c == 0)=false:=FA.2 hc0;have ak:(c == -1)=false:=FA.2 hc1;clear h1 am hn hr s1 s2 ap ae hc0 hc1;go_wp2_with fail;refine HD.o.mono ?_;rintro e w2 ⟨rfl,b2⟩;dsimp only;have ai:=Below.on ad b2;have s3:=H3.o;have ae:=H4.o;clear H3 H4 aj ak;go_wp2_with fail;go_roundw
     case rel=>exact⟨k+1,_,oM,rfl,by go_num,by show _=_;rw[ac.o,ah.o],ai⟩
     case measure=>simp[intOf];omega
   ·have ac:Hd (Ai (E6 f (k+1))=S++Ai (f k)):=by show _=_;rw[E6,Aa hk0,FI,<-HS.o]
    have al:¬(0:Int)<(k:Int):=oM;have s2:¬9223372036854775807<(S.size:Int)+1:=oM;go_wp2_with fail;refine HL.o.mono ?_;rintro e w1 ⟨rfl,b1⟩;dsimp only;have ad:=Below.on ab b1;clear c0
    by_cases hc0:c=0
    ·subst hc0;go_wp2_with fail;go_roundw
     case rel=>exact⟨k+1,_,oM,rfl,by go_num,by show _=_;rw[ac.o,HF.o];rfl,ad⟩
     case measure=>simp[intOf];omega
    by_cases hc1:c = -1
    ·subst hc1;go_wp2_with fail;go_roundw
     case rel=>exact⟨k+1,_,oM,rfl,by go_num,by show _=_;rw[ac.o,HF.o];rfl,ad⟩
     case measure=>simp[intOf];omega
    ·obtain⟨n,hn⟩:∃n:Nat,c=(n:Int):=⟨c.toNat,oM⟩;have HD:=Ah (an.o n hn w1);obtain⟨S1,h1⟩:=nM (Ai (Lib.decDigits n));have am:S1.size<=50:=by have:=Ga n;rw[<-h1,Cx];omega
     have H3:=Ah (show ¬9223372036854775807<(S.size:Int)+(S1.size:Int) by omega);have ah:Hd (Ai (f k)=S1):=by show _=_;rw[HF.o,<-h1];unfold ED;rw[Aa hc0,Aa hc1,EN oM,hn];rfl
     rw[h1]at HD;have H4:=Ah ae;have aj:(c == 0)=false:=FA.2 hc0;have ak:(c == -1)=false:=FA.2 hc1;clear h1 am hn hr s1 s2 ap ae hc0 hc1;go_wp2_with fail;refine HD.o.mono ?_;rintro e w2 ⟨rfl,b2⟩;dsimp only;have ai:=Below.on ad b2;have s3:=H3.o;have ae:=H4.o;clear H3 H4 aj ak;go_wp2_with fail;go_roundw
     case rel=>exact⟨k+1,_,oM,rfl,by go_num,by show _=_;rw[ac.o,ah.o],ai⟩
     case measure=>simp[intOf];omega
  ·have au:¬(k:Int)<(g:Int):=oM;have e4:k=g:=oM
   by_cases hg0:g=0
   ·have q:S.toList.isEmpty=true:=PB (by rw[HS.o,e4,hg0];rfl);have HR:Hd (E5 m=[110,111,110,101]):=by show _=_;rw[HB.o,Ab hg0]
    clear e4 hg0;go_wp2_with fail;go_ret;exact⟨by rw[HR.o];rfl,ag.o⟩
   ·have q:S.toList.isEmpty=false:=by
     rw[HS.o];refine Xv fun e=>?_
     have hp:1<=(f (k-1)).length:=by rw[HG.o.2.2.2];exact ie _
     have:=congrArg List.length e;rw[show k=(k-1)+1 by omega,E6,Bl]at this;simp only[C1]at this;omega
    have HR:Hd (Ai (E5 m)=S):=by show _=_;rw[HB.o,Aa hg0,HS.o,e4]
    clear e4 hg0;go_wp2_with fail;go_ret;exact⟨by rw[HR.o];rfl,ag.o⟩

theorem G7 (w:World)(o1 o2:Obj):∃X,(w.alloc o1).alloc o2=X/\X.heap[w.heap.size]?=some o1/\X.heap[w.heap.size+1]?=some o2/\X.heap.size=w.heap.size+2/\Bw w X:=by
 refine⟨_,rfl,(Ch _ _ _ (by simp)).trans (C2 w o1),?_,by simp,(Av).alloc (by simp) _⟩;have:=C2 (w.alloc o1) o2;simpa using this
theorem Al.small (h:∀W':World,(∀q,B<=q->W'.heap[q]?=w'.heap[q]?)->Al W' v M)(Y:World)(hY:∀q,B<=q->q<w'.heap.size->Y.heap[q]?=w'.heap[q]?):Al Y v M:=by
 by_cases hz:B<w'.heap.size
 ·exact Al.cut h Y hY hz
 ·refine(h {w' with heap:=Y.heap.extract 0 w'.heap.size} fun q hq=>?_).agree fun q hq=>?_
  ·show (Y.heap.extract 0 w'.heap.size)[q]?=_
   rw[ME (by rw[Rp];omega),ME oM]
  ·show _=(Y.heap.extract 0 w'.heap.size)[q]?
   have:q<(Y.heap.extract 0 w'.heap.size).size:=hq;rw[Rp]at this;rw[Array.getElem?_extract,Eh,Ab oM]
theorem Cp.opened {r:Ending}(h:Cp w M E r w'):∃qa qc pa pc ka kc ja jc,r=.returned (.tuple #[.agg (aI M qa qc pa pc ka kc ja jc),iI E])/\
  (∀Y:World,(∀q,w.heap.size<=q->q<w'.heap.size->Y.heap[q]?=w'.heap[q]?)->Al Y (.agg (aI M qa qc pa pc ka kc ja jc)) M)/\Bw w w':=by
 obtain⟨qa,qc,pa,pc,ka,kc,ja,jc,e,hI,b⟩:=h;exact⟨qa,qc,pa,pc,ka,kc,ja,jc,e,fun Y hY=>Al.small hI Y hY,b⟩
theorem EZ.new {X W4:World}{c:Nat}{qa:Option Addr}{qc:Nat}{pa:Option Addr}{pc:Nat}{ka:Option Addr}{kc:Nat}{ja:Option Addr}{jc:Nat}(hY:∀Y:World,(∀q,X.heap.size<=q->q<W.heap.size->Y.heap[q]?=W.heap[q]?)->Al Y (.agg (aI M qa qc pa pc ka kc ja jc)) M)(hk:∀q,q≠c->W4.heap[q]?=W.heap[q]?)(hc:c<X.heap.size)(hz:w.heap.size<=c)(b:Bw w W4):EZ w (E,M) (.returned (.tuple #[.agg (aI M qa qc pa pc ka kc ja jc),iI E])) W4:=
 ⟨_,_,_,_,_,_,_,_,_,_,_,_,_,rfl,fun _=>⟨rfl,rfl,rfl,rfl,rfl,fun Y h=>hY Y fun q hq hl=>(h q oM (Ea hl (hk q oM))).trans (hk q oM)⟩,b⟩
theorem EZ.no {W4:World}{q:Int × Ac}{ra:Option Addr}{rc:Nat}{sa:Option Addr}{sc:Nat}{fa:Option Addr}{fc:Nat}{na:Option Addr}{nc:Nat}(hq:q.1=e)(he:e≠0)(b:Bw w W4):EZ w q (.returned (.tuple #[.agg (aI m ra rc sa sc fa fc na nc),iI e])) W4:=
 ⟨_,_,_,_,_,_,_,_,_,_,_,_,_,by rw[hq],fun h=>absurd (hq.symm.trans h) he,b⟩
theorem Bb {X:World}(h:Bw X W)(hz:X.heap.size=w.heap.size+2):W.heap[w.heap.size+1]?=X.heap[w.heap.size+1]?/\W.heap[w.heap.size]?=X.heap[w.heap.size]?:=⟨h.block _ oM,h.block _ oM⟩
theorem Pi {word:ByteArray}{f:Nat}(h:Al w v m)(r:ByteArray)(hw:(word=⟨#[115,110,97,112]⟩/\f=68)\/(word=⟨#[98,97,99,107]⟩/\f=69)\/(word=⟨#[100,114,111,112]⟩/\f=70))(HO:Hd (∀ (W:World) (v:Value),Al W v m->Cl f #[v,.string r] W (Cp W M E))):Cl 36 #[v,.string word,.string r] w (EZ w (E,M)):=by
 have h':=h;obtain⟨ra,rc,sa,sc,fa,fc,na,nc,rfl,_⟩:=h.parts;obtain⟨X0,ab,m0,m1,hz,b0⟩:=G7 w (cA m ra rc sa sc fa fc na nc) zI;have HI:=Ah h';have HM:=Ah (AW m0 (AW m1 (AW hz b0)));clear h h' m0 m1 hz b0;have d0:=five HM.o.1;rcases hw with⟨rfl,rfl⟩|⟨rfl,rfl⟩|⟨rfl,rfl⟩
 all_goals
  go_enter func36,ntmps36
  go_wp2_with fail;try rw[ab]
  refine(HO.o X0 _ (HI.o.below HM.o.2.2.2)).mono ?_;intro e w2 hA;obtain⟨qa,qc,pa,pc,ka,kc,ja,jc,rfl,hY,b2⟩:=hA.opened;dsimp only;have HY:=Ah (AW hY b2);have hc:=((Bb b2 HM.o.2.2.1).1).trans HM.o.2.1;have c0:=five hc;have y0:=Aq hc;clear hY b2 hA d0 ab;go_wp2_with fail;obtain⟨W4,aa⟩:=nM (((((w2.setCell (aZ (w.heap.size+1)) (iI M.g)).setCell (aD (w.heap.size+1) 1) (.slice qa M.r.length qc)).setCell (aD (w.heap.size+1) 2) (.slice pa M.s.length pc)).setCell (aD (w.heap.size+1) 3) (.slice ka M.f.length kc)).setCell (aD (w.heap.size+1) 4) (.slice ja M.p.length jc));try rw[aa]
  have HW:=Ah (Ep hc aa);clear aa hc c0 y0;have z0:=five HW.o.1;refine AY (v:=.tuple #[.agg (aI M qa qc pa pc ka kc ja jc),iI E]) (by simp[results,results36,go_sem,z0]) rfl ?_;exact EZ.new HY.o.1 HW.o.2.1 (by have:=HM.o.2.2.1;omega) oM ((HM.o.2.2.2.trans (HY.o.2.mono HM.o.2.2.2.size)).trans (HW.o.2.2.mono oM))
theorem Qk {n:Nat}(h:DJ l=some n):Hx l=(n:Int):=by unfold Hx;rw[h]
theorem Qj (h:DJ l=none):Hx l = -1:=by unfold Hx;rw[h]
theorem Pj {word:ByteArray}{f:Nat}{M:Nat->Ac}{E:Nat->Int}(h:Al w v m)(r:ByteArray)(hr:r.size<=4096)(hw:(word=⟨#[115,105,122,101]⟩/\f=72)\/(word=⟨#[119,105,112,101]⟩/\f=73)\/(word=⟨#[112,117,110,99,104]⟩/\f=74))(HO:Hd (∀ (W:World) (v:Value) (n:Nat),Al W v m->Cl f #[v,iI (n:Int)] W (Cp W (M n) (E n)))):Cl 36 #[v,.string word,.string r] w (EZ w ((Cu r.data.toList fun n=>(E n,M n,B9)).1,(Cu r.data.toList fun n=>(E n,M n,B9)).2.1)):=by
 have h':=h;obtain⟨ra,rc,sa,sc,fa,fc,na,nc,rfl,_⟩:=h.parts;obtain⟨X0,ab,m0,m1,hz,b0⟩:=G7 w (cA m ra rc sa sc fa fc na nc) zI;have HI:=Ah h';have HM:=Ah (AW m0 (AW m1 (AW hz b0)));clear h h' m0 m1 hz b0;have ac:=Ah (fun W=>(Im r W hr).mono fun e w' ⟨e1,e2⟩=>(⟨e1,by obtain⟨n,rfl⟩:=e2;exact⟨rfl,rfl,rfl,Bc _,fun _ _=>rfl⟩⟩:_/\Bw W w'))
 cases hn:DJ r.data.toList with
 | none=>
  have HN:Hd (∀W,Cl 32 #[.string r] W fun e w'=>e=.returned (iI (-1))/\Bw W w'):=fun W=>by have:=K7 r W oM;rw[Qj hn]at this;exact this
  have HQ:=Ah (KZ (f:=fun n=>(E n,M n,B9)) hn).1;clear hn;rcases hw with⟨rfl,rfl⟩|⟨rfl,rfl⟩|⟨rfl,rfl⟩
  all_goals
   go_enter func36,ntmps36
   go_wp2_with fail;try rw[ab]
   refine(ac.o X0).mono ?_;rintro e wA ⟨rfl,bA⟩;dsimp only;clear ab;go_wp2_with fail;refine(HN.o wA).mono ?_;rintro e wB ⟨rfl,bB⟩;dsimp only;have bB:=Below.on bA bB;clear bA;have hc:=((Bb bB HM.o.2.2.1).1).trans HM.o.2.1;have c0:=five hc;have y0:=Aq hc;have d0:=five ((Bb bB HM.o.2.2.1).2.trans HM.o.1);have HB:=Ah bB;clear bB;go_wp2_with fail;obtain⟨W4,aa⟩:=nM (((((wB.setCell (aZ (w.heap.size+1)) (iI m.g)).setCell (aD (w.heap.size+1) 1) (.slice ra m.r.length rc)).setCell (aD (w.heap.size+1) 2) (.slice sa m.s.length sc)).setCell (aD (w.heap.size+1) 3) (.slice fa m.f.length fc)).setCell (aD (w.heap.size+1) 4) (.slice na m.p.length nc));try rw[aa]
   have HW:=Ah (Ep hc aa);clear aa hc c0 y0;have z0:=five HW.o.1;refine AY (v:=.tuple #[.agg (aI m ra rc sa sc fa fc na nc),iI 1]) (by simp[results,results36,go_sem,z0]) rfl ?_;exact EZ.no HQ.o dE ((HM.o.2.2.2.trans (HB.o.mono HM.o.2.2.2.size)).trans (HW.o.2.2.mono oM))
 | some n=>
  have HN:Hd (∀W,Cl 32 #[.string r] W fun e w'=>e=.returned (iI (n:Int))/\Bw W w'):=fun W=>by have:=K7 r W oM;rw[Qk hn]at this;exact this
  have hq:=(K5 (f:=fun n=>(E n,M n,B9)) hn).1;have ad:¬(n:Int)<0:=oM;rw[hq];clear hn hq;rcases hw with⟨rfl,rfl⟩|⟨rfl,rfl⟩|⟨rfl,rfl⟩
  all_goals
   go_enter func36,ntmps36
   go_wp2_with fail;try rw[ab]
   refine(ac.o X0).mono ?_;rintro e wA ⟨rfl,bA⟩;dsimp only;clear ab;go_wp2_with fail;refine(HN.o wA).mono ?_;rintro e wB ⟨rfl,bB⟩;dsimp only;have bB:=Below.on bA bB;clear bA;go_wp2_with fail;refine BT (S:=fun X:World=>X.heap[w.heap.size]?=some (cA m ra rc sa sc fa fc na nc)) kR ((Bb bB HM.o.2.2.1).2.trans HM.o.1) (fun hHeld=>?_);refine Cs 0 (.agg (aI m ra rc sa sc fa fc na nc)) ?_;refine Ar 1 (.string r) ?_;refine AC 2 rfl (fun K hK=>?_);clear hHeld;simp only[lays];rw[Ab (by rfl)];go_wp2_with fail;refine(HN.o _).mono ?_;rintro e w3 ⟨rfl,b3⟩;dsimp only;have b3:=Below.on bB (BR b3);refine hK.out _ _ ((Bb b3 HM.o.2.2.1).2.trans HM.o.1) (fun hHeld=>?_);clear hK K;refine AC 3 rfl (fun K hK=>?_);simp only[lays];rw[Ab (by rfl)];go_wp2_with fail;refine(HO.o w3 _ n (HI.o.below (HM.o.2.2.2.trans (b3.mono HM.o.2.2.2.size)))).mono ?_;intro e w2 hA;obtain⟨qa,qc,pa,pc,ka,kc,ja,jc,rfl,hY,b4⟩:=hA.opened;dsimp only;have b2:=Below.on b3 b4;have HY:=Ah (AW hY b2);have ae:=b3.size;refine hK.out _ _ ((Bb b2 HM.o.2.2.1).2.trans HM.o.1) (fun hHeld=>?_);clear hK K;refine Ar 4 (.agg #[iI (M n).g,.slice qa (M n).r.length qc,.slice pa (M n).s.length pc,.slice ka (M n).f.length kc,.slice ja (M n).p.length jc]) ?_;refine Ar 5 (iI (E n)) ?_;have hc:=((Bb b2 HM.o.2.2.1).1).trans HM.o.2.1;have c0:=five hc;have y0:=Aq hc;clear hY b4 b2 hA;refine AC 6 rfl (fun K hK=>?_);simp only[lays];rw[Ab (by rfl)];go_wp2_with fail;obtain⟨W4,aa⟩:=nM (((((w2.setCell (aZ (w.heap.size+1)) (iI (M n).g)).setCell (aD (w.heap.size+1) 1) (.slice qa (M n).r.length qc)).setCell (aD (w.heap.size+1) 2) (.slice pa (M n).s.length pc)).setCell (aD (w.heap.size+1) 3) (.slice ka (M n).f.length kc)).setCell (aD (w.heap.size+1) 4) (.slice ja (M n).p.length jc));try rw[aa]
   have HW:=Ah (Ep hc aa);clear aa hc c0 y0;refine hK.out _ _ ((HW.o.2.1 w.heap.size oM).trans ((Bb HY.o.2 HM.o.2.2.1).2.trans HM.o.1)) (fun hHeld=>?_);clear hK K;refine AC 7 rfl (fun K hK=>?_);simp only[lays];rw[Ab (by rfl)];go_wp2_with fail;refine hK.out _ _ ((HW.o.2.1 w.heap.size oM).trans ((Bb HY.o.2 HM.o.2.2.1).2.trans HM.o.1)) (fun hHeld=>?_);clear hK K;refine BQ kR ?_ _;go_wp2_with fail;have z0:=five HW.o.1;refine AY (v:=.tuple #[.agg #[iI (M n).g,.slice qa (M n).r.length qc,.slice pa (M n).s.length pc,.slice ka (M n).f.length kc,.slice ja (M n).p.length jc],iI (E n)]) (by simp[results,results36,go_sem,z0]) rfl ?_;exact EZ.new (X:=w3) HY.o.1 HW.o.2.1 (by have:=HM.o.2.2.1;omega) oM ((HM.o.2.2.2.trans (HY.o.2.mono HM.o.2.2.2.size)).trans (HW.o.2.2.mono oM))
theorem Ws {M:Nat->Ac}{E:Nat->Int}(h:Al w v m)(r:ByteArray)(hr:r.size<=4096)(a pg:ByteArray)(hc:(Lib.cut r.data.toList [32]).2.2=true)(ha:Ai (Lib.cut r.data.toList [32]).1=a)(hp:Ai (Lib.cut r.data.toList [32]).2.1=pg)(hz:a.size<=4096)(HO:Hd (∀ (W:World) (v:Value) (n:Nat),Al W v m->Cl 71 #[v,iI (n:Int),.string pg] W (Cp W (M n) (E n)))):Cl 36 #[v,.string ⟨#[119,114,105,116,101]⟩,.string r] w (EZ w ((Cu a.data.toList fun n=>(E n,M n,B9)).1,(Cu a.data.toList fun n=>(E n,M n,B9)).2.1)):=by
 have ac:=Ah (fun W=>(Im r W hr).mono fun e w' ⟨e1,e2⟩=>(⟨e1,by obtain⟨n,rfl⟩:=e2;exact⟨rfl,rfl,rfl,Bc _,fun _ _=>rfl⟩⟩:_/\Bw W w'));rw[hc,ha,hp]at ac;have h':=h;obtain⟨ra,rc,sa,sc,fa,fc,na,nc,rfl,_⟩:=h.parts;obtain⟨X0,ab,m0,m1,hz0,b0⟩:=G7 w (cA m ra rc sa sc fa fc na nc) zI;have HI:=Ah h';have HM:=Ah (AW m0 (AW m1 (AW hz0 b0)));clear h h' m0 m1 hz0 b0
 cases hn:DJ a.data.toList with
 | none=>
  have HN:Hd (∀W,Cl 32 #[.string a] W fun e w'=>e=.returned (iI (-1))/\Bw W w'):=fun W=>by have:=K7 a W oM;rw[Qj hn]at this;exact this
  have HQ:=Ah (KZ (f:=fun n=>(E n,M n,B9)) hn).1;clear hn hc ha hp hz
  go_enter func36,ntmps36
  go_wp2_with fail;try rw[ab]
  refine(ac.o X0).mono ?_;rintro e wA ⟨rfl,bA⟩;dsimp only;clear ab;go_wp2_with fail;refine(HN.o wA).mono ?_;rintro e wB ⟨rfl,bB⟩;dsimp only;have bB:=Below.on bA bB;clear bA;have hc:=((Bb bB HM.o.2.2.1).1).trans HM.o.2.1;have c0:=five hc;have y0:=Aq hc;have d0:=five ((Bb bB HM.o.2.2.1).2.trans HM.o.1);have HB:=Ah bB;clear bB;go_wp2_with fail;obtain⟨W4,aa⟩:=nM (((((wB.setCell (aZ (w.heap.size+1)) (iI m.g)).setCell (aD (w.heap.size+1) 1) (.slice ra m.r.length rc)).setCell (aD (w.heap.size+1) 2) (.slice sa m.s.length sc)).setCell (aD (w.heap.size+1) 3) (.slice fa m.f.length fc)).setCell (aD (w.heap.size+1) 4) (.slice na m.p.length nc));try rw[aa]
  have HW:=Ah (Ep hc aa);clear aa hc c0 y0;have z0:=five HW.o.1;refine AY (v:=.tuple #[.agg (aI m ra rc sa sc fa fc na nc),iI 1]) (by simp[results,results36,go_sem,z0]) rfl ?_;exact EZ.no HQ.o dE ((HM.o.2.2.2.trans (HB.o.mono HM.o.2.2.2.size)).trans (HW.o.2.2.mono oM))
 | some n=>
  have HN:Hd (∀W,Cl 32 #[.string a] W fun e w'=>e=.returned (iI (n:Int))/\Bw W w'):=fun W=>by have:=K7 a W oM;rw[Qk hn]at this;exact this
  have hq:=(K5 (f:=fun n=>(E n,M n,B9)) hn).1;have ad:¬(n:Int)<0:=oM;rw[hq];clear hn hq hc ha hp hz
  go_enter func36,ntmps36
  go_wp2_with fail;try rw[ab]
  refine(ac.o X0).mono ?_;rintro e wA ⟨rfl,bA⟩;dsimp only;clear ab;go_wp2_with fail;refine(HN.o wA).mono ?_;rintro e wB ⟨rfl,bB⟩;dsimp only;have bB:=Below.on bA bB;clear bA;go_wp2_with fail;refine BT (S:=fun X:World=>X.heap[w.heap.size]?=some (cA m ra rc sa sc fa fc na nc)) kR ((Bb bB HM.o.2.2.1).2.trans HM.o.1) (fun hHeld=>?_);refine Cs 0 (.agg (aI m ra rc sa sc fa fc na nc)) ?_;refine Ar 1 (.string a) ?_;refine Ar 3 (.string pg) ?_;refine AC 2 rfl (fun K hK=>?_);clear hHeld;simp only[lays];rw[Ab (by rfl)];go_wp2_with fail;refine(HN.o _).mono ?_;rintro e w3 ⟨rfl,b3⟩;dsimp only;have b3:=Below.on bB (BR b3);refine hK.out _ _ ((Bb b3 HM.o.2.2.1).2.trans HM.o.1) (fun hHeld=>?_);clear hK K;refine AC 4 rfl (fun K hK=>?_);simp only[lays];rw[Ab (by rfl)];go_wp2_with fail;refine(HO.o w3 _ n (HI.o.below (HM.o.2.2.2.trans (b3.mono HM.o.2.2.2.size)))).mono ?_;intro e w2 hA;obtain⟨qa,qc,pa,pc,ka,kc,ja,jc,rfl,hY,b4⟩:=hA.opened;dsimp only;have b2:=Below.on b3 b4;have HY:=Ah (AW hY b2);have ae:=b3.size;refine hK.out _ _ ((Bb b2 HM.o.2.2.1).2.trans HM.o.1) (fun hHeld=>?_);clear hK K;refine Ar 5 (.agg #[iI (M n).g,.slice qa (M n).r.length qc,.slice pa (M n).s.length pc,.slice ka (M n).f.length kc,.slice ja (M n).p.length jc]) ?_;refine Ar 6 (iI (E n)) ?_;have hc:=((Bb b2 HM.o.2.2.1).1).trans HM.o.2.1;have c0:=five hc;have y0:=Aq hc;clear hY b4 b2 hA;refine AC 7 rfl (fun K hK=>?_);simp only[lays];rw[Ab (by rfl)];go_wp2_with fail;obtain⟨W4,aa⟩:=nM (((((w2.setCell (aZ (w.heap.size+1)) (iI (M n).g)).setCell (aD (w.heap.size+1) 1) (.slice qa (M n).r.length qc)).setCell (aD (w.heap.size+1) 2) (.slice pa (M n).s.length pc)).setCell (aD (w.heap.size+1) 3) (.slice ka (M n).f.length kc)).setCell (aD (w.heap.size+1) 4) (.slice ja (M n).p.length jc));try rw[aa]
  have HW:=Ah (Ep hc aa);clear aa hc c0 y0;refine hK.out _ _ ((HW.o.2.1 w.heap.size oM).trans ((Bb HY.o.2 HM.o.2.2.1).2.trans HM.o.1)) (fun hHeld=>?_);clear hK K;refine AC 8 rfl (fun K hK=>?_);simp only[lays];rw[Ab (by rfl)];go_wp2_with fail;refine hK.out _ _ ((HW.o.2.1 w.heap.size oM).trans ((Bb HY.o.2 HM.o.2.2.1).2.trans HM.o.1)) (fun hHeld=>?_);clear hK K;refine BQ kR ?_ _;go_wp2_with fail;have z0:=five HW.o.1;refine AY (v:=.tuple #[.agg #[iI (M n).g,.slice qa (M n).r.length qc,.slice pa (M n).s.length pc,.slice ka (M n).f.length kc,.slice ja (M n).p.length jc],iI (E n)]) (by simp[results,results36,go_sem,z0]) rfl ?_;exact EZ.new (X:=w3) HY.o.1 HW.o.2.1 (by have:=HM.o.2.2.1;omega) oM ((HM.o.2.2.2.trans (HY.o.2.mono HM.o.2.2.2.size)).trans (HW.o.2.2.mono oM))
theorem Wr (h:Al w v m)(r:ByteArray)(hr:r.size<=4096)(hc:(Lib.cut r.data.toList [32]).2.2=false){q:Int × Ac}(hq:q.1=1):Cl 36 #[v,.string ⟨#[119,114,105,116,101]⟩,.string r] w (EZ w q):=by
 have ab:=Ah (fun W=>(Im r W hr).mono fun e w' ⟨e1,e2⟩=>(⟨e1,by obtain⟨n,rfl⟩:=e2;exact⟨rfl,rfl,rfl,Bc _,fun _ _=>rfl⟩⟩:_/\Bw W w'));rw[hc]at ab;have HQ:=Ah hq;have h':=h;obtain⟨ra,rc,sa,sc,fa,fc,na,nc,rfl,_⟩:=h.parts;obtain⟨X0,ac,m0,m1,hz,b0⟩:=G7 w (cA m ra rc sa sc fa fc na nc) zI;have HI:=Ah h';have HM:=Ah (AW m0 (AW m1 (AW hz b0)));clear h h' m0 m1 hz b0;clear hc hq
 go_enter func36,ntmps36
 go_wp2_with fail;try rw[ac]
 refine(ab.o X0).mono ?_;rintro e wA ⟨rfl,bA⟩;dsimp only;clear ac;have hc:=((Bb bA HM.o.2.2.1).1).trans HM.o.2.1;have c0:=five hc;have y0:=Aq hc;have d0:=five ((Bb bA HM.o.2.2.1).2.trans HM.o.1);have HB:=Ah bA;clear bA;go_wp2_with fail;obtain⟨W4,aa⟩:=nM (((((wA.setCell (aZ (w.heap.size+1)) (iI m.g)).setCell (aD (w.heap.size+1) 1) (.slice ra m.r.length rc)).setCell (aD (w.heap.size+1) 2) (.slice sa m.s.length sc)).setCell (aD (w.heap.size+1) 3) (.slice fa m.f.length fc)).setCell (aD (w.heap.size+1) 4) (.slice na m.p.length nc));try rw[aa]
 have HW:=Ah (Ep hc aa);clear aa hc c0 y0;have z0:=five HW.o.1;refine AY (v:=.tuple #[.agg (aI m ra rc sa sc fa fc na nc),iI 1]) (by simp[results,results36,go_sem,z0]) rfl ?_;exact EZ.no HQ.o dE ((HM.o.2.2.2.trans (HB.o.mono HM.o.2.2.2.size)).trans (HW.o.2.2.mono oM))



theorem Nf {g:Nat}{A:Array Value}{t:TypeId}{fr:Nat × Nat}(h:W.heap[g]?=some (.cells A t fr))(hv:A[j]?=some v):W.cell? (aD g j)=some v:=by
 simp[World.cell?,h,hv]

def zD:Ac:=⟨0,[],[(0,⟨#[]⟩,[])],[0],[]⟩
def Hs (g:Int):Ac:=Gn zD g
def Ns (g:Int):Int:=Ft zD g
theorem RG (W:World)(a b:Obj):((W.alloc a).alloc b).heap[W.heap.size]?=some a:=(Ch _ _ _ (by simp)).trans (C2 W a)
theorem RH (W:World)(a b:Obj):((W.alloc a).alloc b).heap[(W.alloc a).heap.size]?=some b:=Aw _ _
theorem kw {x y:Nat}(hx:W.heap[x]?=some zS)(hy:W.heap[y]?=some (oI 0)):Al W (.agg #[iI 0,nl,lZ x 1 1,lZ y 1 1,nl]) zD:=by
 refine⟨_,_,_,_,rfl,Sl.nil W,?_,?_,?_⟩
 ·refine⟨some (aZ x),1,rfl,show (1:Nat)<=maxLen by decide,Bc _,fun _=>⟨x,0,rfl,(AA hx),?_⟩⟩;intro j hj;have h1:j<1:=hj
  match j,h1 with
  | 0,_=>exact⟨_,Nf hx rfl,Nf hx rfl,Nf hx rfl,Sl.nil W⟩
 ·refine⟨some (aZ y),1,rfl,show (1:Nat)<=maxLen by decide,Bc _,fun _=>⟨y,0,rfl,(AA hy),fun j hj=>?_⟩⟩;have h1:j<1:=hj
  match j,h1 with
  | 0,_=>exact Nf hy rfl
 ·exact⟨none,0,rfl,A7 _,Bc _,fun x=>absurd rfl x⟩
theorem Ym (g:Int)(w:World)(M:Ac)(E:Int)(hM:Hs g=M)(hE:Ns g=E):Cl 9 #[iI g] w (Bo w w.heap.size M E):=by
 have m0:(w.alloc zI).heap[w.heap.size]?=some zI:=Aw _ _;have HR:Hd (∀ (W:World) (x y:Nat),W.heap[x]?=some zS->W.heap[y]?=some (oI 0)->Cl 18 #[.agg #[iI 0,nl,lZ x 1 1,lZ y 1 1,nl],iI g] W (Bo W W.heap.size M E)):=fun W x y hx hy=>fj (kw hx hy) g hM hE
 have ab:Bw w ((w.alloc zI).alloc zS |>.alloc (oI 0)).drew:=(((Av).alloc (by simp) _).alloc (by simp;omega) _).drew;have ac:Bw w ((w.alloc zI).alloc (oI 0) |>.alloc zS).drew:=(((Av).alloc (by simp) _).alloc (by simp;omega) _).drew;clear hM hE
 go_enter func9,ntmps9
 have hm1:∀w,(Instr.makeSlice 30 (iI 1) (iI 1)).run prog w=.ok (lZ w.heap.size 1 1) (w.alloc zS):=fun _=>by kernel_rfl
 have ad:∀w,(Instr.makeSlice 29 (iI 1) (iI 1)).run prog w=.ok (lZ w.heap.size 1 1) (w.alloc (oI 0)):=fun _=>by kernel_rfl
 have x1:(((w.alloc zI).alloc zS).alloc (oI 0)).heap[w.heap.size+1]?=some zS:=by have:=RG (w.alloc zI) zS (oI 0);simpa using this
 have y1:(((w.alloc zI).alloc zS).alloc (oI 0)).heap[w.heap.size+1+1]?=some (oI 0):=by have:=RH (w.alloc zI) zS (oI 0);simpa using this
 have x2:(((w.alloc zI).alloc (oI 0)).alloc zS).heap[w.heap.size+1+1]?=some zS:=by have:=RH (w.alloc zI) (oI 0) zS;simpa using this
 have y2:(((w.alloc zI).alloc (oI 0)).alloc zS).heap[w.heap.size+1]?=some (oI 0):=by have:=RG (w.alloc zI) (oI 0) zS;simpa using this
 go_upto_region 1 with fail
 go_region_with (go_at_call 18;refine(HR.o _ _ _ (by first|exact x1|exact x2) (by first|exact y1|exact y2)).mono ?_;intro e w2 hA;obtain⟨val,a1,a2,a3,a4,a5,a6,a7,a8,rfl,hO,bb,hI⟩:=hA.open;have zz:=(bb.block w.heap.size (by simp<;>omega)).trans (Aj (Aj m0 _) _);have z0:=five zz;have f0:=Aq zz;have HO:Hd (OI w2 _ val M/\_=AB M.g val):=⟨hO,hI.symm⟩;have HB:Hd (Bw w w2):=(by first|exact ab.trans (bb.mono (by simp<;>omega))|exact ac.trans (bb.mono (by simp<;>omega)));clear hA hO hI bb)
 all_goals
  go_wp2_with fail;have i1:w.heap.size<=w.heap.size:=Bc _;have aa:∀a,Af M a->(val a).ownBlock≠some w.heap.size:=fun a ha e=>by
   have:=((HO.o.1.row a ha).lt _ e).1;simp at this
   omega
  refine AY (v:=.tuple #[.agg (aI M a1 a2 a3 a4 a5 a6 a7 a8),iI E]) (by simp[results,results9,go_sem,z0]) rfl ⟨val,by rw[<-HO.o.2],OI.mono (((((HO.o.1.far aa).far aa).far aa).far aa).far aa) (by simp<;>omega),((((HB.o.setCell i1 _).setCell i1 _).setCell i1 _).setCell i1 _).setCell i1 _⟩
theorem Yn (g:Int)(w:World)(hM:Hs g=M)(hE:Ns g=E):Cl 9 #[iI g] w (Bo w w.heap.size M E):=Ym g w M E hM hE


theorem XO {p:AE->Bool}{L:List AE}(hk:k<L.length)(h:p L[k]=true)(ha:∀j,(hj:j<L.length)->j<k->p L[j]=false):L.findIdx? p=some k:=by
 rw[OH];exact⟨hk,h,fun j hj=>by rw[ha j oM hj];decide⟩
theorem XP {p:AE->Bool}{L:List AE}(ha:∀j,(hj:j<L.length)->p L[j]=false):L.findIdx? p=none:=by
 rw[List.findIdx?_eq_none_iff];intro x hx;obtain⟨j,hj,rfl⟩:=Ee hx;exact ha j hj

theorem dC (gm:Int)(ra:Option Addr)(rn rc:Nat)(sa:Option Addr)(sn sc:Nat)(fa:Option Addr)(fn fc:Nat)(na:Option Addr)(nn nc:Nat)(e:Int)(w:World)(he:e<=0):Cl 67 #[.agg (bI gm ra rn rc sa sn sc fa fn fc na nn nc),iI e] w fun r w'=>r=.returned (.string Z4)/\Bw w w':=by
 have b0:Bw w (w.alloc (cB gm ra rn rc sa sn sc fa fn fc na nn nc)):=Av
 go_enter func67,ntmps67
 go_wp2_with(go_at_call 123;refine(kA _).mono ?_;rintro e w1 ⟨rfl,hw⟩;subst hw);go_ret;exact⟨rfl,b0⟩
theorem dB (gm:Int)(ra:Option Addr)(rn rc:Nat)(sb so:Nat)(sn sc:Nat)(fa:Option Addr)(fn fc:Nat)(na:Option Addr)(nn nc:Nat)(j:Nat)(d:ByteArray)(w:World)(h1:1<=j)(hj:j<sn)(hsb:sb<w.heap.size)(hc:w.cell? (aD sb (so+j*3+1))=some (.string d)):Cl 67 #[.agg (bI gm ra rn rc (sD sb so) sn sc fa fn fc na nn nc),iI j] w fun r w'=>r=.returned (.string d)/\Bw w w':=by
 have b0:Bw w (w.alloc (cB gm ra rn rc (sD sb so) sn sc fa fn fc na nn nc)):=Av;have hc1:=(b0.cell (p:=(aD sb (so+j*3+1))) hsb).trans hc;have h0:¬(j:Int)<=0:=oM;have aa:(j:Int)<(sn:Int):=oM
 go_enter func67,ntmps67
 go_wp2_with fail;go_ret;exact⟨rfl,b0⟩
theorem dA (h:Al w v m)(he:e=0\/e = -1\/∃j:Nat,e=j/\1<=j/\j<m.s.length){p:ByteArray}(hp:Fp m.s e=p):Cl 67 #[v,iI e] w fun r w'=>r=.returned (.string p)/\Bw w w':=by
 obtain⟨ra,rc,sa,sc,fa,fc,na,nc,rfl,h1,h2,h3,h4⟩:=h.parts;unfold Fp at hp
 by_cases hz:e<=0
 ·rw[Ab hz]at hp;subst hp;exact dC m.g ra _ rc sa _ sc fa _ fc na _ nc e w hz
 ·rcases he with he|he|⟨j,rfl,aa,hj⟩
  ·omega
  ·omega
  ·rw[Aa oM]at hp;obtain⟨sb,so,rfl,ab,tv,_,c2,_⟩:=h2.at j hj;have e:m.s.getD (j:Int).toNat default=m.s[j]:=by simp[List.getD,hj]
   rw[e]at hp;rw[hp]at c2;exact dB m.g ra _ rc sb so _ sc fa _ fc na _ nc j p w aa hj ab c2
theorem eJ (gm:Int)(ra:Option Addr)(rn rc:Nat)(sa:Option Addr)(sn sc:Nat)(fa:Option Addr)(fn fc:Nat)(na:Option Addr)(nn nc:Nat)(m:Ac)(n:Int)(w:World)(h:Al w (.agg (bI gm ra rn rc sa sn sc fa fn fc na nn nc)) m)(hE:Br m n=0)(p:ByteArray)(hp:Fp m.s (Be m m.r n.toNat)=p):Cl 35 #[.agg (bI gm ra rn rc sa sn sc fa fn fc na nn nc),iI n] w fun r w'=>r=.returned (.string p)/\Bw w w':=by
 let V:=(w.alloc (cB gm ra rn rc sa sn sc fa fn fc na nn nc))
 have b0:Bw w V:=Av;have m0:V.heap[w.heap.size]?=some (cB gm ra rn rc sa sn sc fa fn fc na nn nc):=Aw _ _;have z0:w.heap.size<V.heap.size:=by simp[V]
 obtain⟨c,hc⟩:=nM (Be m m.r n.toNat);have h1:=fun W (hW:Bw w W)=>P8 (h.below hW) n hE hc
 have aa:=Tj hE;rw[hc]at aa hp;have h2:=fun W (hW:Bw w W)=>dA (h.below hW) aa hp
 obtain⟨c0,c1,c2,c3,c4⟩:=five m0;clear h hE aa hp hc;dsimp only[V]at *;clear V
 go_enter func35,ntmps35
 go_wp2_with fail
 go_region_held3 (fun w'=>w'.cell? (aZ w.heap.size)=some (iI gm)/\w'.cell? (aD w.heap.size (0+1))=some (.slice ra rn rc)/\w'.cell? (aD w.heap.size (0+1+1))=some (.slice sa sn sc)/\w'.cell? (aD w.heap.size (0+1+1+1))=some (.slice fa fn fc)/\w'.cell? (aD w.heap.size (0+1+1+1+1))=some (.slice na nn nc)) (first|exact⟨f0,f1,f2,f3,f4⟩|exact⟨d0,d1,d2,d3,d4⟩|exact⟨c0,c1,c2,c3,c4⟩)
  (first
  | (go_at_call 63;refine(h1 _ (Cg b0)).mono ?_;rintro e w1 ⟨rfl,b1⟩;have b1:=BR b1;have m1:=Ag m0 b1 z0;have ab:=Below.on b0 b1;have z1:=(AA m1);obtain⟨d0,d1,d2,d3,d4⟩:=five m1)
  | (go_at_call 67;refine(h2 _ ab).mono ?_;rintro e w2 ⟨rfl,b2⟩;have m2:=Ag m1 b2 z1;have ac:=Below.on ab b2;obtain⟨f0,f1,f2,f3,f4⟩:=five m2))
 go_wp2_with fail;go_ret;exact⟨rfl,ac⟩
theorem eK (h:Al w v m)(n:Int)(hE:Br m n=0){p:ByteArray}(hp:Jp m n=p):Cl 35 #[v,iI n] w fun r w'=>r=.returned (.string p)/\Bw w w':=by
 have h':=h;obtain⟨ra,rc,sa,sc,fa,fc,na,nc,rfl,_⟩:=h.parts;unfold Jp at hp;rw[Ab hE]at hp;exact eJ m.g ra _ rc sa _ sc fa _ fc na _ nc m n w h' hE p hp
theorem iG (gm:Int)(ra:Option Addr)(rn rc:Nat)(sa:Option Addr)(sn sc:Nat)(fa:Option Addr)(fn fc:Nat)(na:Option Addr)(nn nc:Nat)(S:List AE)(nm:ByteArray)(w:World)(hN:Do w (.slice na nn nc) S)(hnn:S.length=nn)(hn3:nn<=1000)(i:Int)(hi:G0 (BU S nm)=i):Cl 125 #[.agg (bI gm ra rn rc sa sn sc fa fn fc na nn nc),.string nm] w fun r w'=>r=.returned (iI i)/\Bw w w':=by
 let V:=(w.alloc (cB gm ra rn rc sa sn sc fa fn fc na nn nc))
 have b0:Bw w V:=Av;have m0:V.heap[w.heap.size]?=some (cB gm ra rn rc sa sn sc fa fn fc na nn nc):=Aw _ _;have z0:w.heap.size<V.heap.size:=by simp[V]
 have H1:Hd (Do w (.slice na nn nc) S/\S.length=nn/\G0 (BU S nm)=i):=⟨hN,hnn,hi⟩;have c0:=five m0;clear hN hnn hi;dsimp only[V]at *;clear V
 go_enter func125,ntmps125
 go_wp2_with fail
 go_loopw [5] (fun i wq=>∃k:Nat,k<=nn/\i=iI k/\Hd (∀j,(h:j<S.length)->j<k->(S[j].1.toList == nm.toList)=false)/\wq=(w.alloc (cB gm ra rn rc sa sn sc fa fn fc na nn nc))) (fun i _=>nn-(intOf i).toNat)
 case atStart=>exact⟨0,A7 _,rfl,fun j h hj=>absurd hj oM,rfl⟩
 case round=>
  obtain⟨k,hk,rfl,HA,hw⟩:=hrel;subst hw
  by_cases hlk:k<nn
  ·have aa:k<S.length:=by rw[H1.o.2.1];exact hlk
   obtain⟨b,off,rfl,hlt,hS⟩:=H1.o.1.at k aa;have ab:(k:Int)<(nn:Int):=oM;obtain⟨s,hs⟩:∃s,s=S[k]:=⟨_,rfl⟩;obtain⟨kk,dd,tt⟩:=s;rw[<-hs]at hS;obtain⟨tv,s1,_⟩:=hS;have HX:Hd (S[k]=(kk,dd,tt)):=hs.symm;have s1:=(b0.cell (p:=(aD b (off+k*3))) hlt).trans s1;clear hs
   cases hq:kk.toList == nm.toList with
   | true=>
    go_wp2_with fail;go_ret;exact⟨by rw[<-H1.o.2.2];unfold BU;rw[XO (p:=fun s=>s.1.toList == nm.toList) aa (by rw[HX.o];exact hq) HA.o];rfl,b0⟩
   | false=>
    go_wp2_with fail;go_roundw
    case rel=>exact⟨k+1,oM,by go_num,fun j h hj=>by
     by_cases e:j=k
     ·subst e;rw[HX.o];exact hq
     ·exact HA.o j h oM,trivial⟩
    case measure=>simp[intOf];omega
  ·have e4:k=nn:=oM;subst e4;go_wp2_with fail;go_ret;exact⟨by rw[<-H1.o.2.2];unfold BU;rw[XP (p:=fun s=>s.1.toList == nm.toList) (fun j hj=>HA.o j hj (by rw[H1.o.2.1]at hj;exact hj))];rfl,b0⟩
theorem Kc (h:Al w v m)(nm:ByteArray)(hn:m.p.length<=1000){i:Int}(hi:G0 (BU m.p nm)=i):Cl 125 #[v,.string nm] w fun r w'=>r=.returned (iI i)/\Bw w w':=by
 obtain⟨ra,rc,sa,sc,fa,fc,na,nc,rfl,h1,h2,h3,h4⟩:=h.parts;exact iG m.g ra _ rc sa _ sc fa _ fc na _ nc m.p nm w h4 rfl hn i hi
end Go.Proofs.YtfciijncfbepjaaGreatDoor
