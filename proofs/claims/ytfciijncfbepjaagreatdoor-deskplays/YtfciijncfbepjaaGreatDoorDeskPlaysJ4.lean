/- Texts joined: WrP, WrQ, OwnI, OwnJ, CopyI, ClnI, LayI, TabI, CtdI, DeskI, CpyH, FitP, WiP, WiA, WiS, WiW, Strs, PgPlain, WiR. -/
import Derived.Test.YtfciijncfbepjaaGreatDoorDeskPlaysJ3
import Derived.Test.YtfciijncfbepjaaGreatDoorDeskPlaysJ2
import Derived.OneCell
import Derived.Laws.OwnMore
import Derived.Maps.AppendAt
import Derived.Deep.AppendLies
import Derived.Lib.SliceRun
import Derived.Deep.RegionHeld3
import Derived.Lib.AppendStr
import Derived.Laws.IdiomStrings
import Derived.Lib.BufferRead
import Derived.Lib.Strings
import Derived.Lib.Join
import Derived.Lib.Repeat
set_option linter.unusedVariables false
set_option linter.unusedSimpArgs false
set_option maxHeartbeats 200000000
set_option maxRecDepth 20000
namespace Go.Proofs.YtfciijncfbepjaaGreatDoor
open Go.Proofs.Tryz
variable {L:List An}{B D N b cap g i j k n q size t:Nat}{es xs:List Int}{page:ByteArray}{m m' m1 m2:Ac}{e:TypeId}{x:Int}{W W' w w1 w2:World}{ev ov src u v:Value}{l:List UInt8}{qv tv tv':Nat->Value}{o:Oper}{Q:Exit->Act->World->Prop}{ops:Array Oper}{rest:List Oper}{A:Array Value}
open Go.RowKit Go.Shelf
def Hu (L:List An):Nat->Nat->Nat
 | 0,j=>j
 | f+1,j=>if j<L.length/\kd L j≠0 then Hu L f (j+1) else j
def AK (L:List An):Nat:=Hu L L.length 1
theorem SD (L:List An):∀ (f j:Nat),L.length<=j+f->j<=L.length->j<=Hu L f j/\Hu L f j<=L.length/\(∀i,j<=i->i<Hu L f j->kd L i≠0)/\(Hu L f j<L.length->kd L (Hu L f j)=0)
 | 0,j,h,hj=>⟨Bc _,hj,fun i h1 h2=>by simp[Hu]at h2;omega,fun h2=>by simp[Hu]at h2;omega⟩
 | f+1,j,h,hj=>by
  unfold Hu
  by_cases c:j<L.length/\kd L j≠0
  ·rw[Ab c];obtain⟨a,b,d,e⟩:=SD L f (j+1) oM oM;refine⟨oM,b,fun i h1 h2=>?_,e⟩
   by_cases ei:i=j
   ·subst ei;exact c.2
   ·exact d i oM h2
  ·rw[Aa c];refine⟨Bc _,hj,fun i h1 h2=>oM,fun h2=>?_⟩;exact EW fun x=>c ⟨h2,x⟩
theorem NE (h:j<L.length):L[j].1=kd L j:=by unfold kd;simp[List.getD,h]
theorem Gw (h1:1<=L.length):1<=AK L/\AK L<=L.length/\(∀i,1<=i->i<AK L->kd L i≠0)/\kd L (AK L)=0:=by
 obtain⟨a,b,c,d⟩:=SD L L.length 1 oM h1;refine⟨a,b,c,?_⟩;rcases Dq (AK L) L.length with h|h
 ·exact d h
 ·exact EW fun x=>by have:=GC x;omega
theorem KM (h1:1<=L.length):E0 L (AK L):=by
 obtain⟨a,b,c,d⟩:=Gw h1;exact⟨a,b,fun j hj h1 h2=>by rw[NE hj];exact c j h1 h2,fun h=>by rw[NE h];exact d⟩
theorem SE (h:AD L=0):AK L<=40:=by
 have:=A4 h;have:=Gw this.1;omega
def A3 (L:List An) (n:Nat) (s:An):List An:=if n=L.length then L++[s] else L.set n s
theorem D7 {s:An}:(A3 L n s).length=if n=L.length then L.length+1 else L.length:=by
 unfold A3;split<;>simp
theorem Ey {s:An}(hn:n<=L.length)(j:Nat):(A3 L n s).getD j default=if j=n then s else L.getD j default:=by
 unfold A3
 by_cases e:n=L.length
 ·rw[Ab e];subst e
  by_cases ej:j=L.length
  ·subst ej;rw[Ab rfl];simp[List.getD]
  ·rw[Aa ej]
   by_cases hj:j<L.length
   ·simp[List.getD,DY,hj]
   ·have a:L.getD j default=default:=by simp[List.getD,hj]
    have b:(L++[s]).getD j default=default:=by
     have:¬j<(L++[s]).length:=by simp;omega
     unfold List.getD;rw[Ed oM];rfl
    rw[a,b]
 ·rw[Aa e]
  by_cases ej:j=n
  ·subst ej;rw[Ab rfl];simp[List.getD,show j<L.length by omega]
  ·rw[Aa ej];simp[List.getD,Ne.symm ej]
theorem FM {s:An}(hn:n<=L.length)(j:Nat):kd (A3 L n s) j=if j=n then s.1 else kd L j:=by
 unfold kd;rw[Ey hn];split<;>rfl
theorem KV {s:An}(hn:n<=L.length)(h40:L.length<=40)(hn40:n<40):(A3 L n s).length<=40/\L.length<=(A3 L n s).length/\n<(A3 L n s).length:=by
 rw[D7];split<;>omega
theorem TC (hes:Bp es=0)(hb:BE es=false):B1 (2,⟨#[]⟩,es)=true:=by
 have:EJ es=false:=by unfold EJ;rw[Ab hes,hb]
 show Cb 2 ⟨#[]⟩ es=true
 rw[UZ];exact C3 ⟨hes,this,rfl⟩
theorem TB (h:page.size=4):B1 (1,page,[])=true:=by
 show Cb 1 page []=true
 unfold Cb;rw[Aa dE,Ab rfl];exact C3 ⟨h,rfl⟩
theorem XB (h0:AD L=0)(ht:t<=L.length)(t1:1<=t)(t40:t<40)(hk:kd L t=0\/kd L t=2)(hes:Bp es=0)(hb:BE es=false)(hents:∀e∈es,tabE L e=true):Dj L (A3 L t (2,⟨#[]⟩,es)) t es:=by
 have hp:=A4 h0;have ad:=KV (s:=(2,⟨#[]⟩,es)) ht hp.2 t40;have ac:kd L t≠1:=by rcases hk with e|e<;>rw[e]<;>decide
 refine⟨ad.1,fun j hj _=>by rw[Ey ht,Aa hj],by rw[Ey ht,Ab rfl],ac,fun j hj=>?_,?_,fun j hj hk2=>?_,fun e he=>?_⟩
 ·rw[Ey ht]
  by_cases ej:j=t
  ·rw[Ab ej];exact TC hes hb
  ·rw[Aa ej];have ab:j<L.length:=by rw[D7]at hj;split at hj<;>omega
   rw[<-D6 ab];exact DO h0 ab
 ·rw[FM ht,Aa oM];exact DX h0
 ·rw[FM ht,Aa hj]at hk2;exact hk2
 ·rcases Ms (hents e he) with e0|e1|⟨j,rfl,hj,aa⟩
  ·rw[e0];rfl
  ·rw[e1];rfl
  ·have j1:1<=j:=by
    rcases Eg j with e|e
    ·subst e;rw[DX h0]at aa;simp at aa
    ·exact e
   have hjt:j≠t:=fun e=>ac (by rw[<-e];exact aa)
   rw[IP oM oM];exact Ji oM (by rw[FM ht,Aa hjt];exact aa)
theorem XC {d:Nat}(h0:AD L=0)(ht:t<=L.length)(t1:1<=t)(t40:t<40)(hk:kd L t=0\/kd L t=2)(hes:Bp es=0)(hb:BE es=false)(hd:d<=(A3 L t (2,⟨#[]⟩,es)).length)(d1:1<=d)(d40:d<40)(hdt:d≠t)(hkd:kd L d=0)(hp4:page.size=4)(hents:∀e∈es,tabE L e=true\/e=(d:Int)):Dj L (A3 (A3 L t (2,⟨#[]⟩,es)) d (1,page,[])) t es:=by
 have hp:=A4 h0;have af:=KV (s:=(2,⟨#[]⟩,es)) ht hp.2 t40;have ab:=KV (s:=((1,page,[]):An)) hd af.1 d40;have ae:kd L t≠1:=by rcases hk with e|e<;>rw[e]<;>decide
 refine⟨ab.1,fun j hj aa=>?_,?_,ae,fun j hj=>?_,?_,fun j hj hk2=>?_,fun e he=>?_⟩
 ·have ac:j≠d:=fun e=>aa (by rw[e];exact hkd)
  rw[Ey hd,Aa ac,Ey ht,Aa hj]
 ·rw[Ey hd,Aa (fun e=>hdt e.symm),Ey ht,Ab rfl]
 ·rw[Ey hd]
  by_cases ed:j=d
  ·rw[Ab ed];exact TB hp4
  ·rw[Aa ed,Ey ht]
   by_cases ej:j=t
   ·rw[Ab ej];exact TC hes hb
   ·rw[Aa ej];have ad:j<L.length:=by
     rw[D7]at hj;rw[D7]at hj hd
     split at hj<;>split at hj<;>split at hd<;>omega
    rw[<-D6 ad];exact DO h0 ad
 ·rw[FM hd,Aa oM,FM ht,Aa oM];exact DX h0
 ·rw[FM hd]at hk2
  by_cases ed:j=d
  ·rw[Ab ed]at hk2;simp at hk2
  ·rw[Aa ed,FM ht,Aa hj]at hk2;exact hk2
 ·rcases hents e he with hE|hE
  ·rcases Ms hE with e0|e1|⟨j,rfl,hj,aa⟩
   ·rw[e0];rfl
   ·rw[e1];rfl
   ·have j1:1<=j:=by
     rcases Eg j with e|e
     ·subst e;rw[DX h0]at aa;simp at aa
     ·exact e
    have hjt:j≠t:=fun e=>ae (by rw[<-e];exact aa)
    have ac:j≠d:=fun e=>by rw[e,hkd]at aa;simp at aa
    rw[IP oM oM];exact Ji oM (by rw[FM hd,Aa ac,FM ht,Aa hjt];exact aa)
  ·rw[hE,IP oM oM];exact Ji ab.2.2 (by rw[FM hd,Ab rfl])
theorem LN {t:Int}:∀ (l:List Int) (i k:Nat),i<k->k<l.length->l.getD i 0=t->l.getD k 0=t->2<=l.count t
 | [],i,k,_,hk,_,_=>absurd hk (by simp)
 | a::l,0,k+1,_,hk,h1,h2=>by
  have h1:a=t:=by simpa using h1
  have h2:l.getD k 0=t:=by simpa using h2
  have hk:k<l.length:=by simpa using hk
  have:t∈l:=by rw[<-h2,DS hk];exact BS hk
  have:=Fy.2 this;rw[MH,h1];simp;omega
 | a::l,i+1,k+1,hik,hk,h1,h2=>by
  have:=LN l i k oM (by simpa using hk) (by simpa using h1) (by simpa using h2);rw[MH];omega
theorem Hr (m:Ac):AV m=m.r++m.p.flatMap (fun s=>s.2.2):=rfl
theorem Ti (hk:k<m.r.length)(ht:m.r.getD k 0=(t:Int))(hc:(AV m).count (t:Int)=1):Jc m k t:=by
 rw[Hr,IY]at hc;have aa:(t:Int)∈m.r:=by rw[<-ht,DS hk];exact BS hk
 have h1:=Fy.2 aa;refine⟨fun i hi hne e=>?_,fun s hs hm=>?_⟩
 ·have:2<=m.r.count (t:Int):=by
   rcases Dq i k with h|h
   ·exact LN m.r i k h hk e ht
   ·exact LN m.r k i oM hi ht e
  omega
 ·have:(t:Int)∈m.p.flatMap (fun s=>s.2.2):=by rw[I3];exact⟨s,hs,hm⟩
  have:=Fy.2 this;omega
theorem ZG (h:As m=0)(t1:1<=t)(ht:kd m.s t=0):Jc m k t:=by
 have hno:(t:Int) ∉ AV m:=fun hm=>by have:=(Il h hm t1).2.1;rw[ht]at this;simp at this
 rw[Hr]at hno;refine⟨fun i hi _ e=>hno (JC _ (by rw[<-e,DS hi];exact BS hi)),fun s hs hm=>hno (Lz _ (by rw[I3];exact⟨s,hs,hm⟩))⟩
def Ak (m:Ac) (k:Nat):List Int:=if m.r.getD k 0=0 then [0,0,0,0] else AH m.s (m.r.getD k 0)
def Cq (m:Ac) (k:Nat):Bool:=m.r.getD k 0 != 0 && m.f.getD (m.r.getD k 0).toNat 0 == 1
def AM (m:Ac) (k:Nat):Nat:=if Cq m k=true then (m.r.getD k 0).toNat else AK m.s
theorem ET (h:As m=0)(hk:k<m.r.length):Bp (Ak m k)=0/\∀e∈Ak m k,tabE m.s e=true:=by
 have hr:=CQ h;unfold Ak
 by_cases hz:m.r.getD k 0=0
 ·rw[Ab hz];refine⟨by decide,fun e he=>?_⟩;have:e=0:=by simpa using he
  rw[this];rfl
 ·rw[Aa hz];have hE:=E2 hr.2 hk;rw[E9 hz]at hE;obtain⟨j,e,hj,hk2⟩:=Gz hE;rw[e];refine⟨?_,fun x hx=>Ax.1 (Oi (Au h).2.2.2.2.2.1 _) x hx⟩;have:=J5 (DO (Au h).2.1 hj) hk2;unfold AH
  simpa[List.getD,hj] using this.2
theorem Ju (hC:Ao m=0)(hk:k<m.r.length)(h40:AM m k≠40):1<=AM m k/\AM m k<=m.s.length/\AM m k<40/\(kd m.s (AM m k)=0\/kd m.s (AM m k)=2)/\Jc m k (AM m k):=by
 obtain⟨h,aa,_⟩:=IB hC;obtain⟨z1,z2,z3,z4,z5,z6,z7⟩:=Au h;have hp:=A4 z2;unfold AM at h40 ⊢
 by_cases hi:Cq m k=true
 ·rw[Ab hi]at h40 ⊢;unfold Cq at hi;simp at hi
  obtain⟨hz,hrf⟩:=hi;have hz:m.r.getD k 0≠0:=hz;have hrf:m.f.getD (m.r.getD k 0).toNat 0=1:=hrf;have hE:=E2 (CQ h).2 hk;rcases Jr hE with e|⟨j,e,hj,ab⟩
  ·exact absurd e hz
  ·have ac:(j:Int)∈AV m:=by rw[Hr];exact JC _ (by rw[<-e,DS hk];exact BS hk)
   rw[e,A5]at hrf ⊢;have j1:1<=j:=oM;have hc1:(AV m).count (j:Int)=1:=by
    rw[<-aa,E3 h j hj]at hrf;unfold C5 at hrf;rw[Aa oM,Mp z6 _ j1 (by rw[ab];decide)]at hrf;omega
   exact⟨j1,oM,oM,.inr ab,Ti hk e hc1⟩
 ·rw[Aa hi]at h40 ⊢;obtain⟨a,b,c,d⟩:=Gw hp.1;exact⟨a,b,oM,.inl d,ZG h a d⟩
def Iz (m:Ac) (k:Nat) (es:List Int):Prop:=k=m.r.length-1->m.g%4≠0->(es.drop (m.g%4).toNat).all (fun e=>e == 0)=true
theorem Lj (h:As m=0)(k:Nat):Iz m k (Ak m k):=by
 intro hk hg;have hf:=Ax.1 (Au h).2.2.2.2.2.2 (⟨#[]⟩,m.g,m.r) CD;unfold Bk Gd at hf;dsimp only at hf;simp only[B5]at hf;have hl:=hf.2.2;have aa:(m.g%4 == 0)=false:=by simpa using hg
 rw[aa,EF,<-hk]at hl;unfold Ak
 by_cases hz:m.r.getD k 0=0
 ·rw[Ab hz];have:∀j,([0,0,0,0]:List Int).drop j=List.replicate (4-j) 0:=fun j=>by
   have:([0,0,0,0]:List Int)=List.replicate 4 0:=rfl;rw[this,List.drop_replicate]
  rw[this];simp
 ·rw[Aa hz];have ab:(m.r.getD k 0 == 0)=false:=by simpa using hz
  rw[ab,EF]at hl;exact hl
theorem Mw (h:Iz m k es)(hn:(n:Int)<m.g)(hk:n/4=k)(hr:(m.r.length:Int)=(m.g+3)/4)(e:Int):Iz m k (es.set (n%4) e):=by
 intro h1 h2;have:=h h1 h2;rw[List.drop_set_of_lt oM];exact this
theorem Jt (h:Bp es=0){e:Int}(he:Cf e=true):Bp (es.set i e)=0:=by
 refine LM (by rw[Bi];exact Dv h) ?_;rw[Ax];intro x hx;rcases List.mem_or_eq_of_mem_set hx with hm|hm
 ·exact Ax.1 (Pk h) x hm
 ·rw[hm];exact he
theorem RM (hi:i<es.length)(h:es.getD i 0≠0):BE es=false:=by
 unfold BE;exact L9 hi (by simpa using h)
theorem UQ (hi:i<es.length)(e:Int):(es.set i e).getD i 0=e:=by rw[Fm,Ab ⟨rfl,hi⟩]
theorem KX {e:Int}(h:x∈es.set i e):x∈es\/x=e:=List.mem_or_eq_of_mem_set h
def BX (L:List An):List Int:=List.replicate L.length 0
def Bj (m:Ac) (k:Nat) (es:List Int):List An:=A3 m.s (AM m k) (2,⟨#[]⟩,es)
def DP (m:Ac) (k:Nat) (es:List Int):Option Ac:=
 if BE es=true then some {m with r:=m.r.set k 0} else if AM m k=40 then none else some (FQ m k (AM m k) (Bj m k es) (BX (Bj m k es)))
def C8 (m:Ac) (n:Nat) (e:Int):Option Ac:=if (Ak m (n/4)).getD (n%4) 0=e then some m else (DP m (n/4) ((Ak m (n/4)).set (n%4) e)).map At
def Fw (m:Ac) (n:Nat):Bool:=decide (0<Be m m.r n) && (Cq m (n/4) && m.f.getD (Be m m.r n).toNat 0 == 1)
def wD (m:Ac) (n:Nat):Nat:=AK (Bj m (n/4) (Ak m (n/4)))
def EE (m:Ac) (n:Nat):List Int:=(Ak m (n/4)).set (n%4) (wD m n:Int)
def wL (m:Ac) (n:Nat) (page:ByteArray):List An:=A3 (Bj m (n/4) (EE m n)) (wD m n) (1,page,[])
def Ec (m:Ac) (n:Nat) (page:ByteArray):Option Ac:=
 if Fw m n=true then some {m with s:=m.s.set (Be m m.r n).toNat (1,page,[])}
 else if AM m (n/4)=40 then none else if wD m n=40 then none else some (At (FQ m (n/4) (AM m (n/4)) (wL m n page) (BX (wL m n page))))
theorem P9 (m:Ac)(n:Nat):Be m m.r n=(Ak m (n/4)).getD (n%4) 0:=by
 unfold Be Ak
 split
 ·have h4:n%4<4:=LC _ dE;have:∀i,i<4->([0,0,0,0]:List Int).getD i 0=0:=by decide
  rw[this _ h4]
 ·rfl
theorem Vw (hC:Ao m=0)(hn:(n:Int)<m.g)(h40:AM m (n/4)≠40)(hd40:wD m n≠40)(hp:page.size=4):Dj m.s (wL m n page) (AM m (n/4)) (EE m n)/\Jc m (n/4) (AM m (n/4))/\Iz m (n/4) (EE m n)/\n/4<m.r.length/\1<=wD m n/\wD m n<40/\kd m.s (wD m n)=0/\wD m n≠AM m (n/4):=by
 obtain⟨h,_,_⟩:=IB hC;have hr:=CQ h;have hg:=Dg h;have hk:n/4<m.r.length:=oM;obtain⟨t1,tl,ah,tk,hl⟩:=Ju hC hk h40;obtain⟨ag,ae⟩:=ET h hk;have hs:=(Au h).2.1;have ad:=A4 hs;have al:=KV (s:=((2,⟨#[]⟩,Ak m (n/4)):An)) tl ad.2 ah;obtain⟨d1,dl,ak,aa⟩:=Gw (L:=Bj m (n/4) (Ak m (n/4))) (by unfold Bj;omega);have ac:wD m n≠AM m (n/4):=fun e=>by
  have:kd (Bj m (n/4) (Ak m (n/4))) (wD m n)=0:=aa;unfold Bj at this;rw[FM tl,Ab e]at this;simp at this
 have hkd:kd m.s (wD m n)=0:=by
  have:kd (Bj m (n/4) (Ak m (n/4))) (wD m n)=0:=aa;unfold Bj at this;rw[FM tl,Aa ac]at this;exact this
 have aj:wD m n<=(A3 m.s (AM m (n/4)) (2,⟨#[]⟩,EE m n)).length:=by
  have:wD m n<=(Bj m (n/4) (Ak m (n/4))).length:=dl;unfold Bj at this;rw[D7]at this ⊢;exact this
 have ab:wD m n<40:=by
  have:wD m n<=(Bj m (n/4) (Ak m (n/4))).length:=dl;unfold Bj at this;omega
 have af:1<=wD m n:=d1;have h4:n%4<(Ak m (n/4)).length:=by rw[Dv ag];omega
 have ai:Cf (wD m n:Int)=true:=by rw[NC];omega
 refine⟨?_,hl,?_,hk,af,ab,hkd,ac⟩
 ·refine XC hs tl t1 ah tk (Jt ag ai) (RM (i:=n%4) (by unfold EE;rw[Bi];exact h4) (by unfold EE;rw[UQ h4];omega)) aj af ab ac hkd hp (fun e he=>?_);rcases KX he with hm|hm
  ·exact .inl (ae e hm)
  ·exact .inr hm
 ·exact Mw (Lj h _) hn rfl hr.1 _

def VD (L:List An) (e:Int):Prop:=e=0\/e = -1\/∃j:Nat,e=j/\1<=j/\j<L.length/\kd L j=1
structure Laid (m M:Ac) (k:Nat) (es:List Int):Prop where
 shape:As M=0
 g:M.g=m.g
 p:M.p=m.p
 rlen:M.r.length=m.r.length
 look:∀q,q/4<m.r.length->Be M M.r q=if q/4=k then es.getD (q%4) 0 else Be m m.r q
 past:∀s∈m.p,∀q,q/4<s.2.2.length->Be M s.2.2 q=Be m s.2.2 q
 page:∀e,VD m.s e->Fp M.s e=Fp m.s e
theorem SZ {L':List An}{rf:List Int}(h:As m=0)(hk:k<m.r.length)(hx:Dj m.s L' t es)(hl:Jc m k t)(hrf:rf.length=L'.length)(hz:Iz m k es):Laid m (FQ m k t L' rf) k es:=by
 have hs:=(Au h).2.1;have hr:=CQ h;refine⟨iP h hk hx hl hrf hz,rfl,rfl,by show (m.r.set k _).length=_;rw[Bi],fun q hq=>ZS hx hs hl hr.2 q hq,fun s hsm q hq=>?_,fun e he=>dD hx he⟩;have hf:=Ax.1 (Au h).2.2.2.2.2.2 s (CA _ hsm);unfold Bk at hf;simp only[B5]at hf;exact ZQ hx hs hf.2.1 (hl.snap s hsm) q hq
theorem QB (h:As m=0){g:Int}{r:List Int}(hg:BK g=true)(hf:Bk m.s g r=true):As {m with g:=g,r:=r} = 0:=by
 obtain⟨z1,z2,z3,z4,z5,z6,z7⟩:=Au h;unfold BN at z5 z7;rw[GP]at z5 z7;simp only[B5]at z5 z7;have aa:(BN {m with g:=g,r:=r}).all (fun s=>BK s.2.1)=true:=by
  show (((⟨#[]⟩,g,r):AE)::m.p).all _=true
  rw[GP,z5.2,OA];exact hg
 have hall:(BN {m with g:=g,r:=r}).all (fun s=>Bk m.s s.2.1 s.2.2)=true:=by
  show (((⟨#[]⟩,g,r):AE)::m.p).all _=true
  rw[GP,z7.2,OA];exact hf
 unfold As;rw[Aa (by show ¬3<m.p.length;omega),Aa (by show ¬AD m.s≠0;simpa using z2),Aa,Aa (by rw[aa];decide),Aa (by show ¬Cm m.s=false;rw[z6];decide),Aa (by show ¬((BN {m with g:=g,r:=r}).all fun s=>Bk m.s s.2.1 s.2.2)=false;rw[hall];decide)];rintro(e|e)
 ·exact e z3
 ·have:Cr m.p=false:=e;rw[z4]at this;cases this
theorem QG (h:As m=0):Bk m.s m.g m.r=true:=Ax.1 (Au h).2.2.2.2.2.2 (⟨#[]⟩,m.g,m.r) CD
theorem PV (h:As m=0):BK m.g=true:=Ax.1 (Au h).2.2.2.2.1 (⟨#[]⟩,m.g,m.r) CD
theorem fP {g:Int}{r:List Int}(h:Bk L g r=true)(k:Nat):Bk L g (r.set k 0)=true:=by
 unfold Bk at h ⊢;simp only[B5,C4]at h ⊢;refine⟨by rw[Bi];exact h.1,?_,?_⟩
 ·rw[Ax];intro x hx;rcases KX hx with hm|hm
  ·exact Ax.1 h.2.1 x hm
  ·rw[hm];rfl
 ·have hl:=h.2.2;unfold Gd at hl ⊢;rw[Bi,Fm]
  by_cases e:k=r.length-1/\r.length-1<r.length
  ·rw[Ab e];simp
  ·rw[Aa e];exact hl
theorem Zs {k:Nat}(h:As m=0)(hb:BE es=true):Laid m {m with r:=m.r.set k 0} k es:=by
 refine⟨QB h (PV h) (fP (QG h) k),rfl,rfl,Bi,fun q hq=>?_,fun _ _ _ _=>rfl,fun _ _=>rfl⟩;have hg:=Fm m.r k (q/4) 0
 by_cases e:q/4=k
 ·rw[Ab (⟨e.symm,hq⟩:k=q/4/\q/4<m.r.length)]at hg;rw[Ab e];unfold Be
  show (if (m.r.set k 0).getD (q/4) 0=0 then 0 else _)=_
  rw[hg,Ab rfl];unfold BE at hb
  by_cases hi:q%4<es.length
  ·have:=Ax.1 hb _ (BS hi);have e0:es[q%4]=0:=by simpa using this
   rw[DS hi,e0]
  ·simp[List.getD,hi]
 ·rw[Aa (fun x=>e x.1.symm)]at hg;rw[Aa e];unfold Be
  show (if (m.r.set k 0).getD (q/4) 0=0 then 0 else (AH m.s ((m.r.set k 0).getD (q/4) 0)).getD (q%4) 0)=_
  rw[hg]
theorem Lk (hC:Ao m=0)(hk:k<m.r.length)(hes:Bp es=0)(hents:∀e∈es,tabE m.s e=true)(hz:Iz m k es){M:Ac}(hM:DP m k es=some M):Laid m M k es/\M.s.length<=m.s.length+1:=by
 obtain⟨h,_,_⟩:=IB hC;unfold DP at hM
 split at hM
 ·rename_i hb
  simp at hM
  subst hM;exact⟨Zs h hb,Cw _⟩
 ·rename_i hb
  have hb:BE es=false:=by simpa using hb
  split at hM
  ·cases hM
  ·rename_i h40
   simp at hM
   subst hM;obtain⟨t1,tl,aa,tk,hl⟩:=Ju hC hk h40;refine⟨SZ h hk (XB (Au h).2.1 tl t1 aa tk hes hb hents) hl (by simp[BX,Bj]) hz,?_⟩
   show (A3 _ _ _).length<=_
   rw[D7];split<;>omega
theorem Fb (h:As m=0){s:AE}(hs:s∈BN m):0<=s.2.1/\s.2.1<=16/\(s.2.2.length:Int)=(s.2.1+3)/4/\s.2.2.all (BZ m.s)=true:=by
 have hf:=Ax.1 (Au h).2.2.2.2.2.2 s hs;have hg:=Ax.1 (Au h).2.2.2.2.1 s hs;unfold Bk at hf;unfold BK at hg;simp only[B5,C4]at hf hg;exact⟨hg.1,hg.2,hf.1,hf.2.1⟩
theorem Ro (hC:Ao m=0)(hn:(n:Int)<m.g)(h40:AM m (n/4)≠40)(hd40:wD m n≠40)(hp:page.size=4):Laid m (FQ m (n/4) (AM m (n/4)) (wL m n page) (BX (wL m n page))) (n/4) (EE m n)/\Fp (wL m n page) (wD m n)=page/\(wL m n page).length<=m.s.length+2:=by
 obtain⟨hx,hl,hz,hk,d1,ac,hkd,ad⟩:=Vw hC hn h40 hd40 hp;refine⟨SZ (A0 hC) hk hx hl (by simp[BX]) hz,?_,?_⟩
 ·unfold Fp;rw[Aa oM,A5];have aa:wD m n<=(Bj m (n/4) (EE m n)).length:=by
   obtain⟨t1,tl,ab,tk,_⟩:=Ju hC hk h40;have ae:=KV (s:=((2,⟨#[]⟩,Ak m (n/4)):An)) tl (A4 (Au (A0 hC)).2.1).2 ab;have:=(Gw (L:=Bj m (n/4) (Ak m (n/4))) (by unfold Bj;omega)).2.1;unfold Bj at this ⊢;rw[D7]at this ⊢;exact this
  unfold wL;rw[Ey aa,Ab rfl]
 ·unfold wL Bj;rw[D7,D7]
  split<;>split<;>omega
theorem Zk {e:Nat}(hk:kd L e=1)(j:Nat):kd (L.set e (1,page,[])) j=kd L j:=by
 by_cases h:e=j
 ·subst h;have:=GC (L:=L) (j:=e) (by rw[hk];decide);rw[hk];unfold kd;simp[List.getD,this]
 ·unfold kd;simp[List.getD,h]
theorem Vd (hs:AD L=0){e:Nat}(hk:kd L e=1):(L.getD e default).2.2=[]:=by
 have he:=GC (L:=L) (j:=e) (by rw[hk];decide);have ok:=DO hs he;rw[D6 he]at ok;unfold kd at hk;unfold B1 at ok;rw[hk,QS]at ok
 simpa using (JK ok).2
theorem iT (hs:AD L=0){e:Nat}(hk:kd L e=1)(x:Int):AH (L.set e (1,page,[])) x=AH L x:=by
 unfold AH
 by_cases h:e=x.toNat
 ·have:=GC (L:=L) (j:=e) (by rw[hk];decide);rw[<-h,Vd hs hk];simp[List.getD,this]
 ·simp[List.getD,h]
theorem UP {e:Nat}(hC:Ao m=0)(hk:kd m.s e=1)(hp:page.size=4):Ao {m with s:=m.s.set e (1,page,[])} = 0/\∀r q,Be {m with s:=m.s.set e (1,page,[])} r q=Be m r q:=by
 obtain⟨h,ad,ac⟩:=IB hC;obtain⟨z1,z2,z3,z4,z5,z6,z7⟩:=Au h;have he:=GC (L:=m.s) (j:=e) (by rw[hk];decide);have hkd:=fun j=>Zk (page:=page) hk j
 have aa:=fun x=>iT (page:=page) z2 hk x
 have ab:∀x kind,C6 (m.s.set e (1,page,[])) x kind=C6 m.s x kind:=fun x kind=>by
  have:=hkd x.toNat;unfold kd at this;unfold C6;rw[Bi,this]
 have ai:∀x,tabE (m.s.set e (1,page,[])) x=tabE m.s x:=fun x=>by unfold tabE;rw[ab]
 have ah:∀x,BZ (m.s.set e (1,page,[])) x=BZ m.s x:=fun x=>by unfold BZ;rw[ab]
 have hs:AD (m.s.set e (1,page,[]))=0:=by
  refine Mm (by rw[Bi];exact(A4 z2).1) (by rw[Bi];exact(A4 z2).2) (fun j hj=>?_) ?_
  ·rw[Bi]at hj;rw[MM]
   split
   ·exact TB hp
   ·exact DO z2 hj
  ·rw[NE (by rw[Bi];exact(A4 z2).1),hkd];exact DX z2
 have ae:Cm (m.s.set e (1,page,[]))=true:=by
  unfold Cm;rw[Ax];intro s hsm;obtain⟨j,hj,rfl⟩:=Ee hsm;rw[Bi]at hj;rw[Ax];intro x hx;rw[ai];have e1:=aa (j:Int);unfold AH at e1;rw[A5]at e1;rw[D6 (by rw[Bi];exact hj),e1]at hx;exact Ax.1 (Oi z6 (j:Int)) x (by unfold AH;rw[A5];exact hx)
 have hrf:∀g r,Bk (m.s.set e (1,page,[])) g r=Bk m.s g r:=fun g r=>by
  unfold Bk Gd;rw[show BZ (m.s.set e (1,page,[]))=BZ m.s from funext ah];simp only[aa]
 have ag:As {m with s:=m.s.set e (1,page,[])} = 0:=by
  unfold As;rw[Aa (by show ¬3<m.p.length;omega),Aa (by show ¬AD _≠0;simpa using hs),Aa,Aa (by show ¬(BN m).all _=false;rw[z5];decide),Aa (by show ¬Cm _=false;rw[ae];decide),Aa]
  ·show ¬((BN m).all fun s=>Bk (m.s.set e (1,page,[])) s.2.1 s.2.2)=false
   simp only[hrf];rw[z7];decide
  ·rintro(x|x)
   ·apply x;show m.f.length=(m.s.set e _).length;rw[Bi];exact z3
   ·have:Cr m.p=false:=x;rw[z4]at this;cases this
 have af:AL {m with s:=m.s.set e (1,page,[])} = AL m:=by
  rw[Lb (EK _),Lb (EK m)]
  show rl (m.s.set e _).length _=_
  rw[Bi];refine IJ fun j hj=>?_
  rw[E3 ag j (by show j<(m.s.set e _).length;rw[Bi];exact hj),E3 h j hj]
  show C5 (m.s.set e (1,page,[])) (AV m) j=C5 m.s (AV m) j
  unfold C5;have:Db (m.s.set e (1,page,[])) (AV m) j=Db m.s (AV m) j:=by
   unfold Db;rw[Bi];refine Mq _ fun q _=>?_
   unfold Cn;rw[hkd,aa]
  rw[this]
 refine⟨?_,fun r q=>?_⟩
 ·unfold Ao;rw[Aa (by simpa using ag),af]
  show (if AL m≠m.f then (9:Int) else _)=0
  rw[Aa (by rw[ad];simp),Ab];rw[Ax];intro j hj;have hj:j<m.s.length:=by
   have:j<(m.s.set e (1,page,[])).length:=by simpa using hj
   rwa [Bi]at this
  have:=ac j hj;unfold EO at this ⊢;rw[af];have e1:=hkd j;unfold kd at e1
  show (((m.s.set e (1,page,[])).getD j default).1 == 0) == _
  rw[e1];exact this
 ·unfold Be
  show (if r.getD (q/4) 0=0 then (0:Int) else (AH (m.s.set e (1,page,[])) (r.getD (q/4) 0)).getD (q%4) 0)=_
  rw[aa]
structure Nm where
 kind:Nat
 ix:Nat
abbrev Nm.r:Nm:=⟨0,0⟩
abbrev Nm.s:Nm:=⟨1,0⟩
abbrev Nm.f:Nm:=⟨2,0⟩
abbrev Nm.p:Nm:=⟨3,0⟩
abbrev Nm.tab (j:Nat):Nm:=⟨4,j⟩
abbrev Nm.sr (j:Nat):Nm:=⟨5,j⟩
variable {a:Nm}{val val1 val2:Nm->Value}
def Af (m:Ac) (a:Nm):Prop:=(a.kind<4/\a.ix=0)\/(a.kind=4/\a.ix<m.s.length)\/(a.kind=5/\a.ix<m.p.length)
theorem Af.cases (h:Af m a):a=.r\/a=.s\/a=.f\/a=.p\/(∃j,a=.tab j/\j<m.s.length)\/∃j,a=.sr j/\j<m.p.length:=by
 obtain⟨k,j⟩:=a;rcases h with⟨h1,h2⟩|⟨h1,h2⟩|⟨h1,h2⟩
 ·dsimp only at h1 h2;subst h2
  match k,h1 with
  | 0,_=>exact .inl rfl
  | 1,_=>exact .inr (.inl rfl)
  | 2,_=>exact .inr (.inr (.inl rfl))
  | 3,_=>exact .inr (.inr (.inr (.inl rfl)))
 ·dsimp only at h1 h2;subst h1;exact .inr (.inr (.inr (.inr (.inl ⟨j,rfl,h2⟩))))
 ·dsimp only at h1 h2;subst h1;exact .inr (.inr (.inr (.inr (.inr ⟨j,rfl,h2⟩))))
theorem Af.r (m:Ac):Af m .r:=.inl ⟨by decide,rfl⟩
theorem Af.s (m:Ac):Af m .s:=.inl ⟨by decide,rfl⟩
theorem Af.f (m:Ac):Af m .f:=.inl ⟨by decide,rfl⟩
theorem Af.p (m:Ac):Af m .p:=.inl ⟨by decide,rfl⟩
theorem Af.tab (h:j<m.s.length):Af m (.tab j):=.inr (.inl ⟨rfl,h⟩)
theorem Af.sr (h:j<m.p.length):Af m (.sr j):=.inr (.inr ⟨rfl,h⟩)
theorem IG (h1:m'.s.length=m.s.length)(h2:m'.p.length=m.p.length)(b:Nm):Af m' b↔Af m b:=by unfold Af;rw[h1,h2]
def A2 (L:List An) (tv:Nat->Value):List Value:=(List.range L.length).flatMap (fun j=>[iI (L.getD j default).1,.string (L.getD j default).2.1,tv j])
def A8 (S:List AE) (qv:Nat->Value):List Value:=(List.range S.length).flatMap (fun j=>[.string (S.getD j default).1,iI (S.getD j default).2.1,qv j])
def Ae (l:List Int):List Value:=l.map (Value.int .i64)
def En (a:Nm):TypeId:=match a.kind with|1=>85|3=>87|_=>3
def Em (a:Nm):Nat:=match a.kind with|1=>3|3=>3|_=>1
def AP (m:Ac) (a:Nm):Nat:=match a.kind with
 | 0=>m.r.length
 | 1=>m.s.length
 | 2=>m.f.length
 | 3=>m.p.length
 | 4=>(m.s.getD a.ix default).2.2.length
 | _=>(m.p.getD a.ix default).2.2.length
def Bn (m:Ac) (val:Nm->Value) (a:Nm):List Value:=match a.kind with
 | 0=>Ae m.r
 | 1=>A2 m.s (fun j=>val (.tab j))
 | 2=>Ae m.f
 | 3=>A8 m.p (fun j=>val (.sr j))
 | 4=>Ae (m.s.getD a.ix default).2.2
 | _=>Ae (m.p.getD a.ix default).2.2
def AB (g:Int) (val:Nm->Value):Value:=.agg #[iI g,val .r,val .s,val .f,val .p]
structure OI (W:World) (B:Nat) (val:Nm->Value) (m:Ac):Prop where
 row:∀a,Af m a->W.ownsRow B (En a) (Em a) (val a) (AP m a) (Bn m val a)
 apart:∀a b,Af m a->Af m b->a≠b->∀g,(val a).ownBlock=some g->(val b).ownBlock≠some g
theorem OI.keep (h:OI W B val m)(hk:∀g,B<=g->g<W.heap.size->W'.heap[g]?=W.heap[g]?):OI W' B val m:=by
 refine⟨fun a ha=>?_,h.apart⟩;have hr:=h.row a ha;refine⟨hr.1,?_⟩;rcases hr.2 with hn|⟨g,cap,cur,hv,hb,hg,rest⟩
 ·exact .inl hn
 ·exact .inr ⟨g,cap,cur,hv,hb,(hk g hb (AA hg)).trans hg,rest⟩
theorem OI.below (h:OI W B val m)(hb:Bw W W'):OI W' B val m:=h.keep fun g _ hg=>hb.block g hg
theorem OI.alloc (h:OI W B val m)(o:Obj):OI (W.alloc o) B val m:=h.below ((AG _ _).alloc lE o)
theorem OI.drew (h:OI W B val m):OI W.drew B val m:=⟨fun a ha=>(h.row a ha).drew,h.apart⟩
theorem ER (l:List Int):(Ae l).length=l.length:=by simp[Ae]
theorem CY {l:List Int}(h:W.ownsRow B 3 1 v l.length (Ae l)):Sl W v l:=by
 rcases h.2 with⟨rfl,hn⟩|⟨g,cap,cur,rfl,_⟩
 ·have:l=[]:=IZ hn;subst this;exact Sl.nil W
 ·exact VK h
theorem PH (f:Nat->Value × Value × Value):∀ (n j i:Nat),j<n->i<3->((List.range n).flatMap (fun j=>[(f j).1,(f j).2.1,(f j).2.2]))[j*3+i]?=some (if i=0 then (f j).1 else if i=1 then (f j).2.1 else (f j).2.2)
 | 0,j,i,hj,_=>absurd hj oM
 | n+1,j,i,hj,hi=>by
  have hl:∀n,((List.range n).flatMap (fun j=>[(f j).1,(f j).2.1,(f j).2.2])).length=n*3:=fun n=>by
   induction n with
   | zero=>rfl
   | succ n ih=>rw[DD,Hb,Bl,ih];simp;omega
  rw[DD,Hb]
  by_cases e:j<n
  ·rw[List.getElem?_append_left (by rw[hl];omega)];exact PH f n j i e hi
  ·have:j=n:=oM;subst this;rw[OJ (by rw[hl];omega),hl]
   match i,hi with
   | 0,_=>simp
   | 1,_=>simp
   | 2,_=>simp
theorem D3 (hj:j<L.length):(A2 L tv)[j*3]?=some (iI (L.getD j default).1)/\(A2 L tv)[j*3+1]?=some (.string (L.getD j default).2.1)/\(A2 L tv)[j*3+2]?=some (tv j):=by
 have h:=fun i hi=>PH (fun j=>(iI (L.getD j default).1,.string (L.getD j default).2.1,tv j)) L.length j i hj hi
 exact⟨h 0 oM,h 1 oM,h 2 oM⟩
theorem Ew {S:List AE}(hj:j<S.length):(A8 S qv)[j*3]?=some (.string (S.getD j default).1)/\(A8 S qv)[j*3+1]?=some (iI (S.getD j default).2.1)/\(A8 S qv)[j*3+2]?=some (qv j):=by
 have h:=fun i hi=>PH (fun j=>(.string (S.getD j default).1,iI (S.getD j default).2.1,qv j)) S.length j i hj hi
 exact⟨h 0 oM,h 1 oM,h 2 oM⟩
theorem Gm {xs:List Value}(h:W.ownsRow B e size (lZ g n cap) n xs):B<=g/\g<W.heap.size/\n<=cap/\cap<=maxLen:=by
 rcases h.2 with⟨h',_⟩|⟨g',cap',cur,h',hb,hg,hnc,hcm,_⟩
 ·simp at h'
 ·simp only[BP,Ct,FR,Hh,Jb]at h';obtain⟨rfl,rfl⟩:=h';exact⟨hb,(AA hg),hnc,hcm⟩
theorem Di {xs:List Value}(h:W.ownsRow B e size v n xs):(v=nl/\n=0)\/∃g cap,v=lZ g n cap/\B<=g/\g<W.heap.size/\n<=cap/\cap<=maxLen:=by
 have h':=h;rcases h.2 with hn|⟨g,cap,cur,rfl,_⟩
 ·exact .inl hn
 ·exact .inr ⟨g,cap,rfl,Gm h'⟩
theorem QL (h:W.ownsRow B 85 3 v L.length (A2 L tv))(ht:∀j,j<L.length->Sl W (tv j) (L.getD j default).2.2):BA W v L:=by
 have h':=h;rcases Di h with⟨rfl,hn⟩|⟨g,cap,rfl,hb,hg,hnc,hcm⟩
 ·have:L=[]:=IZ hn;subst this;exact⟨none,0,rfl,A7 _,A7 _,fun h=>absurd rfl h⟩
 ·refine⟨_,cap,rfl,Bg hnc hcm,hnc,fun _=>⟨g,0,rfl,hg,fun j hj=>?_⟩⟩;have hc:=fun i (hi:i<3)=>h'.cellAt (j*3+i) oM
  obtain⟨g0,g1,g2⟩:=D3 (tv:=tv) hj;have e:L[j]=L.getD j default:=by simp[List.getD,hj]
  rw[e,Eh];exact⟨tv j,(hc 0 oM).trans g0,(hc 1 oM).trans g1,(hc 2 oM).trans g2,ht j hj⟩
theorem UD {S:List AE}(h:W.ownsRow B 87 3 v S.length (A8 S qv))(ht:∀j,j<S.length->Sl W (qv j) (S.getD j default).2.2):Do W v S:=by
 have h':=h;rcases Di h with⟨rfl,hn⟩|⟨g,cap,rfl,hb,hg,hnc,hcm⟩
 ·have:S=[]:=IZ hn;subst this;exact⟨none,0,rfl,A7 _,A7 _,fun h=>absurd rfl h⟩
 ·refine⟨_,cap,rfl,Bg hnc hcm,hnc,fun _=>⟨g,0,rfl,hg,fun j hj=>?_⟩⟩;have hc:=fun i (hi:i<3)=>h'.cellAt (j*3+i) oM
  obtain⟨g0,g1,g2⟩:=Ew (qv:=qv) hj;have e:S[j]=S.getD j default:=by simp[List.getD,hj]
  rw[e,Eh];exact⟨qv j,(hc 0 oM).trans g0,(hc 1 oM).trans g1,(hc 2 oM).trans g2,ht j hj⟩
theorem OI.img (h:OI W B val m):Al W (AB m.g val) m:=
 ⟨_,_,_,_,rfl,CY (h.row .r (Af.r m)),QL (h.row .s (Af.s m)) (fun j hj=>CY (h.row (.tab j) (Af.tab hj))),CY (h.row .f (Af.f m)),UD (h.row .p (Af.p m)) (fun j hj=>CY (h.row (.sr j) (Af.sr hj)))⟩
theorem OI.store (h:OI W B val m)(ha:Af m a)(hv:val a=lZ g n cap)(i:Nat)(u:Value)(hlive:∀b,Af m' b↔Af m b)(hn:∀b,Af m b->AP m' b=AP m b)(hsame:∀b,Af m b->b≠a->Bn m' val b=Bn m val b)(hset:Bn m' val a=(Bn m val a).set i u):OI (W.setCell (aD g i) u) B val m':=by
 refine⟨fun b hb=>?_,fun b c hb hc=>h.apart b c ((hlive b).1 hb) ((hlive c).1 hc)⟩;have hb:=(hlive b).1 hb;rw[hn b hb]
 by_cases e:b=a
 ·subst e;have hr:=h.row b hb;rw[hset];have aa:n=AP m b:=by
   rcases Di hr with⟨e,_⟩|⟨g',cap',e,_⟩
   ·rw[hv]at e;simp at e
   ·rw[hv]at e;simp at e;exact e.2.1
  subst aa;rw[hv]at hr ⊢;exact(hr.stored i u).1
 ·rw[hsame b hb e];exact Ds (h.row b hb) (h.apart a b ha hb (fun x=>e x.symm) g (by rw[hv];rfl)) u
theorem Ht (l:List An)(i j:Nat)(s:An):(l.set i s).getD j default=if i=j/\j<l.length then s else l.getD j default:=by
 by_cases hj:j<l.length
 ·by_cases e:i=j
  ·subst e;simp[List.getD,hj]
  ·simp[List.getD,e]
 ·simp[List.getD,hj]
theorem Jh (l:List Int)(i:Nat)(x:Int):Ae (l.set i x)=(Ae l).set i (iI x):=by unfold Ae;rw[ON]
theorem OI.setRoot (h:OI W B val m)(hv:val .r=lZ g n cap)(i:Nat)(x:Int):OI (W.setCell (aD g i) (iI x)) B val {m with r:=m.r.set i x}:=by
 refine h.store (a:=.r) (Af.r m) hv i _ (IG rfl rfl) (fun b hb=>?_) (fun b hb hne=>?_) (Jh _ _ _)
 ·rcases hb.cases with rfl|rfl|rfl|rfl|⟨j,rfl,hj⟩|⟨j,rfl,hj⟩<;>first|rfl|exact Bi
 ·rcases hb.cases with rfl|rfl|rfl|rfl|⟨j,rfl,hj⟩|⟨j,rfl,hj⟩<;>first|rfl|exact absurd rfl hne
theorem OI.setRefs (h:OI W B val m)(hv:val .f=lZ g n cap)(i:Nat)(x:Int):OI (W.setCell (aD g i) (iI x)) B val {m with f:=m.f.set i x}:=by
 refine h.store (a:=.f) (Af.f m) hv i _ (IG rfl rfl) (fun b hb=>?_) (fun b hb hne=>?_) (Jh _ _ _)
 ·rcases hb.cases with rfl|rfl|rfl|rfl|⟨j,rfl,hj⟩|⟨j,rfl,hj⟩<;>first|rfl|exact Bi
 ·rcases hb.cases with rfl|rfl|rfl|rfl|⟨j,rfl,hj⟩|⟨j,rfl,hj⟩<;>first|rfl|exact absurd rfl hne
def Az (val:Nm->Value) (a:Nm) (v:Value):Nm->Value:=fun b=>if b.kind=a.kind/\b.ix=a.ix then v else val b
theorem Bh (val:Nm->Value)(a:Nm)(v:Value):Az val a v a=v:=by unfold Az;rw[Ab ⟨rfl,rfl⟩]
theorem Ap (val:Nm->Value){b:Nm}(v:Value)(h:b≠a):Az val a v b=val b:=by
 unfold Az;rw[Aa];intro e
 apply h
 obtain⟨k,i⟩:=a;obtain⟨k',i'⟩:=b;obtain⟨e1,e2⟩:=e;dsimp only at e1 e2;rw[e1,e2]
def EH (m:Ac) (val:Nm->Value) (a:Nm) (v:Value):Prop:=∀b,Af m b->b≠a->∀g,v.ownBlock=some g->(val b).ownBlock≠some g
theorem XI (h:OI W B val m)(a:Nm)(hv:∀g,v.ownBlock=some g->W.heap.size<=g):EH m val a v:=fun b hb _ g hg e=>by
 have:=((h.row b hb).lt g e).2;have:=hv g hg;omega
theorem XJ (m:Ac)(val:Nm->Value)(a:Nm)(n cap:Nat):EH m val a (.slice none n cap):=fun _ _ _ g hg=>by cases hg
theorem OI.swap (h:OI W B val m)(ha:Af m a)(hv:W.ownsRow B (En a) (Em a) v (AP m' a) (Bn m' (Az val a v) a))(hfar:EH m val a v)(hlive:∀b,Af m' b↔Af m b)(hsame:∀b,Af m b->b≠a->AP m' b=AP m b/\Bn m' (Az val a v) b=Bn m val b):OI W B (Az val a v) m':=by
 refine⟨fun b hb=>?_,fun b c hb hc hne g hg=>?_⟩
 ·have hb:=(hlive b).1 hb
  by_cases e:b=a
  ·subst e;rw[Bh];exact hv
  ·rw[Ap val v e,(hsame b hb e).1,(hsame b hb e).2];exact h.row b hb
 ·have hb:=(hlive b).1 hb;have hc:=(hlive c).1 hc
  by_cases e:b=a
  ·subst e;rw[Bh]at hg;rw[Ap val v (fun x=>hne x.symm)];exact hfar c hc (fun x=>hne x.symm) g hg
  ·rw[Ap val v e]at hg
   by_cases e2:c=a
   ·subst e2;rw[Bh];exact fun x=>hfar b hb e g x hg
   ·rw[Ap val v e2];exact h.apart b c hb hc hne g hg
theorem OI.swapRoot (h:OI W B val m){r:List Int}(hv:W.ownsRow B 3 1 v r.length (Ae r))(hfar:EH m val .r v)(g:Int):OI W B (Az val .r v) {m with g:=g,r:=r}:=by
 refine h.swap (a:=.r) (Af.r m) hv hfar (IG rfl rfl) (fun b hb hne=>?_);rcases hb.cases with rfl|rfl|rfl|rfl|⟨j,rfl,hj⟩|⟨j,rfl,hj⟩<;>first|exact⟨rfl,rfl⟩|exact absurd rfl hne
theorem OI.swapRefs (h:OI W B val m){r:List Int}(hv:W.ownsRow B 3 1 v r.length (Ae r))(hfar:EH m val .f v):OI W B (Az val .f v) {m with f:=r}:=by
 refine h.swap (a:=.f) (Af.f m) hv hfar (IG rfl rfl) (fun b hb hne=>?_);rcases hb.cases with rfl|rfl|rfl|rfl|⟨j,rfl,hj⟩|⟨j,rfl,hj⟩<;>first|exact⟨rfl,rfl⟩|exact absurd rfl hne
theorem Sr (f:Nat->Value × Value × Value)(n:Nat):((List.range n).flatMap (fun j=>[(f j).1,(f j).2.1,(f j).2.2])).length=n*3:=by
 induction n with
 | zero=>rfl
 | succ n ih=>rw[DD,Hb,Bl,ih];simp;omega
theorem Gv (L:List An)(tv:Nat->Value):(A2 L tv).length=L.length*3:=Sr (fun j=>(iI (L.getD j default).1,.string (L.getD j default).2.1,tv j)) L.length
theorem GX (S:List AE)(qv:Nat->Value):(A8 S qv).length=S.length*3:=Sr (fun j=>(.string (S.getD j default).1,iI (S.getD j default).2.1,qv j)) S.length
theorem Nr (k:Int)(d:ByteArray)(es:List Int)(htv:∀j,j≠t->tv' j=tv j):A2 (L.set t (k,d,es)) tv'=(((A2 L tv).set (t*3) (iI k)).set (t*3+1) (.string d)).set (t*3+2) (tv' t):=by
 apply JB
 intro i;rcases Dq i (L.length*3) with hi|hi
 ·obtain⟨j,r,hj,hr,rfl⟩:∃j r,j<L.length/\r<3/\i=j*3+r:=⟨i/3,i%3,oM,LC _ dE,oM⟩;obtain⟨a0,a1,a2⟩:=D3 (L:=L.set t (k,d,es)) (tv:=tv') (j:=j) (by rw[Bi];exact hj);obtain⟨b0,b1,b2⟩:=D3 (L:=L) (tv:=tv) hj;rw[Ht]at a0 a1;have hlen:=Gv L tv
  by_cases e:t=j
  ·subst e;rw[Ab ⟨rfl,hj⟩]at a0 a1
   match r,hr with
   | 0,_=>rw[Fi,a0,FX oM,FX oM,ML (by rw[hlen];omega)]
   | 1,_=>rw[a1,FX oM,ML (by rw[Bi,hlen];omega)]
   | 2,_=>rw[a2,ML (by rw[Bi,Bi,hlen];omega)]
  ·rw[Aa (fun x=>e x.1)]at a0 a1;rw[htv j (fun x=>e x.symm)]at a2;rw[FX oM,FX oM,FX oM]
   match r,hr with
   | 0,_=>rw[Fi,a0,b0]
   | 1,_=>rw[a1,b1]
   | 2,_=>rw[a2,b2]
 ·rw[Ed (by rw[Gv,Bi];exact hi),Ed (by rw[Bi,Bi,Bi,Gv];exact hi)]
theorem OI.setSlot (h:OI W B val m)(ht:t<m.s.length)(hv:val .s=lZ g n cap)(k:Int)(d:ByteArray)(es:List Int)(hev:W.ownsRow B 3 1 ev es.length (Ae es))(hfar:EH m val (.tab t) ev):OI (((W.setCell (aD g (t*3)) (iI k)).setCell (aD g (t*3+1)) (.string d)).setCell (aD g (t*3+2)) ev) B (Az val (.tab t) ev) {m with s:=m.s.set t (k,d,es)}:=by
 have ac:=fun j=>Ht m.s t j (k,d,es)
 have ae:n=m.s.length:=by
  rcases Di (h.row .s (Af.s m)) with⟨e,_⟩|⟨g',cap',e,_⟩
  ·rw[hv]at e;simp at e
  ·rw[hv]at e;simp at e;exact e.2.1
 have ab:∀ {e:TypeId} {size:Nat} {v:Value} {q:Nat} {xs:List Value},W.ownsRow B e size v q xs->v.ownBlock≠some g->
   (((W.setCell (aD g (t*3)) (iI k)).setCell (aD g (t*3+1)) (.string d)).setCell (aD g (t*3+2)) ev).ownsRow B e size v q xs:=fun hr hne=>
  Ds (Ds (Ds hr hne _) hne _) hne _
 refine⟨fun b hb=>?_,fun b c hb hc hne q hq=>?_⟩
 ·have aa:Af m b:=(IG (m:=m) (m':={m with s:=m.s.set t (k,d,es)}) Bi rfl b).1 hb
  by_cases es0:b=.s
  ·subst es0;rw[Ap val ev (by nofun)];have hr:=h.row .s aa;have e1:Bn {m with s:=m.s.set t (k,d,es)} (Az val (.tab t) ev) .s=(((Bn m val .s).set (t*3) (iI k)).set (t*3+1) (.string d)).set (t*3+2) ev:=by
    have:=Nr (L:=m.s) (tv:=fun j=>val (.tab j)) (tv':=fun j=>Az val (.tab t) ev (.tab j)) (t:=t) k d es (fun j hj=>Ap val ev (by intro x;apply hj;injection x));rw[Bh]at this;exact this
   have e2:AP {m with s:=m.s.set t (k,d,es)} .s=AP m .s:=Bi;rw[e1,e2];have hN:AP m .s=n:=ae.symm;rw[hN]at hr ⊢;rw[hv]at hr ⊢;exact((((hr.stored (t*3) (iI k)).1).stored (t*3+1) (.string d)).1.stored (t*3+2) ev).1
  ·have ad:(val b).ownBlock≠some g:=h.apart .s b (Af.s m) aa (fun x=>es0 x.symm) g (by rw[hv];rfl)
   by_cases et:b=.tab t
   ·subst et;rw[Bh];have e1:Bn {m with s:=m.s.set t (k,d,es)} (Az val (.tab t) ev) (.tab t)=Ae es:=by
     show Ae ((m.s.set t (k,d,es)).getD t default).2.2=_
     rw[ac,Ab ⟨rfl,ht⟩]
    have e2:AP {m with s:=m.s.set t (k,d,es)} (.tab t)=es.length:=by
     show ((m.s.set t (k,d,es)).getD t default).2.2.length=_
     rw[ac,Ab ⟨rfl,ht⟩]
    rw[e1,e2];exact ab hev (fun x=>hfar .s (Af.s m) (by intro y;cases y) g x (by rw[hv];rfl))
   ·rw[Ap val ev et];have e1:Bn {m with s:=m.s.set t (k,d,es)} (Az val (.tab t) ev) b=Bn m val b/\AP {m with s:=m.s.set t (k,d,es)} b=AP m b:=by
     rcases aa.cases with rfl|rfl|rfl|rfl|⟨j,rfl,hj⟩|⟨j,rfl,hj⟩
     ·exact⟨rfl,rfl⟩
     ·exact absurd rfl es0
     ·exact⟨rfl,rfl⟩
     ·exact⟨rfl,rfl⟩
     ·have hjt:t≠j:=fun x=>et (by rw[x])
      constructor
      ·show Ae ((m.s.set t (k,d,es)).getD j default).2.2=Ae (m.s.getD j default).2.2
       rw[ac,Aa (fun x=>hjt x.1)]
      ·show ((m.s.set t (k,d,es)).getD j default).2.2.length=(m.s.getD j default).2.2.length
       rw[ac,Aa (fun x=>hjt x.1)]
     ·exact⟨rfl,rfl⟩
    rw[e1.1,e1.2];exact ab (h.row b aa) ad
 ·have aa:Af m b:=(IG (m:=m) (m':={m with s:=m.s.set t (k,d,es)}) Bi rfl b).1 hb;have hc':Af m c:=(IG (m:=m) (m':={m with s:=m.s.set t (k,d,es)}) Bi rfl c).1 hc
  by_cases e:b=.tab t
  ·subst e;rw[Bh]at hq;rw[Ap val ev (fun x=>hne x.symm)];exact hfar c hc' (fun x=>hne x.symm) q hq
  ·rw[Ap val ev e]at hq
   by_cases e2:c=.tab t
   ·subst e2;rw[Bh];exact fun x=>hfar b aa e q x hq
   ·rw[Ap val ev e2];exact h.apart b c aa hc' hne q hq
theorem Su (L:List An)(tv tv':Nat->Value)(s:An)(htv:∀j,j<L.length->tv' j=tv j):A2 (L++[s]) tv'=A2 L tv++[iI s.1,.string s.2.1,tv' L.length]:=by
 unfold A2;rw[Bl,Hf,DD,Hb];have e1:(List.range L.length).flatMap (fun j=>[iI ((L++[s]).getD j default).1,.string ((L++[s]).getD j default).2.1,tv' j])=(List.range L.length).flatMap (fun j=>[iI (L.getD j default).1,.string (L.getD j default).2.1,tv j]):=by
  refine congrArg List.flatten (Ef fun j hj=>?_);have hj:=CR.1 hj;have e:(L++[s]).getD j default=L.getD j default:=by simp[List.getD,DY,hj]
  rw[e,htv j hj]
 rw[e1];simp
theorem Si {T:TypeId}(hg:W.heap[g]?=some (.cells #[] T))(hB:B<=g):W.ownsRow B T size (lZ g 0 0) 0 []:=
 ⟨by simp,.inr ⟨g,0,#[],rfl,hB,hg,Bc _,A7 _,by simp,by simp⟩⟩
theorem gG (W:World)(ty:TypeId)(g n c:Nat)(hn:n<=c)(c':Nat):(Builtin.append_ #[29,29] ty #[lZ g n c,.slice none 0 c']).run prog W=.ok (lZ g n c) W:=by
 simp[Builtin.append_,go_sem,hn]
theorem gI (ty:TypeId)(hg:W.heap[g]?=some (.cells #[] 3))(hB:B<=g)(hsl:Sl W src xs)(hlen:xs.length<=1000):∃v' w',(Builtin.append_ #[29,29] ty #[lZ g 0 0,src]).run prog W=.ok v' w'/\w'.ownsRow B 3 1 v' xs.length (Ae xs)/\W.grownBy w' (some g)/\(v'.ownBlock=some g\/v'.ownBlock=some W.heap.size):=by
 have af:=(AA hg);obtain⟨ao,cap,rfl,hm,ae,hc⟩:=hsl
 cases ao with
 | none=>
  have hx:xs=[]:=EW fun hne=>by obtain⟨_,_,e,_⟩:=hc hne;cases e
  subst hx;refine⟨_,W,gG W ty g 0 0 lE cap,Si hg hB,⟨rfl,rfl,rfl,Bc _,fun _ _ _=>rfl⟩,.inl rfl⟩
 | some a=>
  obtain⟨i0,hi,hz0,ac,ad⟩:=Fj info3;have ab:∀j u,(Ae xs)[j]?=some u->W.cell? (a.add j)=some u:=fun j u hu=>by
   have hj:j<xs.length:=by
    rcases Dq j xs.length with h|h
    ·exact h
    ·rw[Ed (by rw[ER];exact h)]at hu;cases hu
   obtain⟨b,off,e,_,aa⟩:=hc (by intro e;rw[e]at hj;simp at hj);simp only[Ct]at e;subst e;rw[EI,aa j hj];unfold Ae at hu;rw[Dm,Co hj]at hu;simp at hu
   simp[List.getD,hj,hu]
  obtain⟨v',w',h1,h2,h3,_,h5⟩:=run_append_own_at (P:=prog) W B 29 ty 3 i0 (iI 0) 1 8 underlying29 hi hz0 ac ad rfl dE (lZ g 0 0) 0 [] (Si hg hB) a xs.length cap (Ae xs) (by rw[ER];omega) ab (MT .i64 xs) oM oM oM;exact⟨v',w',h1,by simpa using h2,h3,h5⟩
theorem Ov {a:Act}{K:Act->World->Prop}(s x:Operand)(ho:o.op=.call {callee:=.builtin .append,args:=#[s,x],argTypes:=#[29,29]})(hs:a.eval s=lZ g 0 0)(hg:W.heap[g]?=some (.cells #[] 3))(hB:B<=g)(hx:a.eval x=src)(hsl:Sl W src xs)(hlen:xs.length<=1000)(h:∀v' w',Hd (w'.ownsRow B 3 1 v' xs.length (Ae xs))->W.grownBy w' (some g)->Hd (v'.ownBlock=some g\/v'.ownBlock=some W.heap.size)->K (a.put o.dst v') w'):o.wp prog a W K Q:=by
 obtain⟨v',w',hr,h2,h3,h4⟩:=gI o.type hg hB hsl hlen;unfold Oper.wp execOp;simp only[ho,resolve,invoke,builtin,Sem.run_bind,Sem.run_pure,GS,GQ,Dc,Gr,hs,hx,hr];exact h v' w' h2 h3 h4
theorem Ot {a:Act}(hgd:o.guard=none)(s x:Operand)(ho:o.op=.call {callee:=.builtin .append,args:=#[s,x],argTypes:=#[29,29]})(hs:a.eval s=lZ g 0 0)(hg:W.heap[g]?=some (.cells #[] 3))(hB:B<=g)(hx:a.eval x=src)(hsl:Sl W src xs)(hlen:xs.length<=1000)(h:∀v' w',Hd (w'.ownsRow B 3 1 v' xs.length (Ae xs))->W.grownBy w' (some g)->Hd (v'.ownBlock=some g\/v'.ownBlock=some W.heap.size)->wpList prog ops Q rest (a.put o.dst v') w'):wpList prog ops Q (o::rest) a W:=
 JN hgd fun _ hK=>Ov s x ho hs hg hB hx hsl hlen fun v' w' h2 h3 h4=>hK _ _ (h v' w' h2 h3 h4)
theorem J0:(prog.info? 85).map (fun i=>(i.zero,i.size,i.bytes))=some (some (.agg #[iI 0,.string ByteArray.empty,nl]),3,48):=by kernel_rfl
theorem J1:(prog.info? 87).map (fun i=>(i.zero,i.size,i.bytes))=some (some (.agg #[.string ByteArray.empty,iI 0,nl]),3,48):=by kernel_rfl
theorem jg (W:World)(T:TypeId)(x y z:Value):∀ (j:Nat) (u:Value),[x,y,z][j]?=some u->(W.alloc (.cells #[x,y,z] T)).cell? (((aZ W.heap.size):Addr).add j)=some u:=by
 intro j u hj;rw[EI,GT _ _ _ _ rfl]
 match j,hj with
 | 0,hj=>simpa using hj
 | 1,hj=>simpa using hj
 | 2,hj=>simpa using hj
theorem UW {xs:List Value}(h:W.ownsRow B e size v n xs):v.oneCell'=true:=by
 rcases Di h with⟨rfl,_⟩|⟨_,_,rfl,_⟩<;>rfl
theorem Ou {a:Act}{K:Act->World->Prop}(s x:Operand)(t e:TypeId)(z0:Value)(ht:prog.underlying t=some (.slice e))(hinfo:(prog.info? e).map (fun i=>(i.zero,i.size,i.bytes))=some (some z0,3,48))(hz3:z0.cells.size=3)(ho:o.op=.call {callee:=.builtin .append,args:=#[s,x],argTypes:=#[t,t]}){xs:List Value}{c0 c1 c2:Value}(h1:c0.oneCell'=true)(h2:c1.oneCell'=true)(h3:c2.oneCell'=true)(hs:a.eval s=v)(hx:a.eval x=lZ N 1 1)(hN:N=W.heap.size)(hown:W.ownsRow B e 3 v n xs)(hn:n<=1000)(hB:B<=W.heap.size)(h:∀v' w',Hd (w'.ownsRow B e 3 v' (n+1) (xs++[c0,c1,c2]))->(W.alloc (.cells #[c0,c1,c2] e)).grownBy w' v.ownBlock->Hd (v'.ownBlock=v.ownBlock\/v'.ownBlock=some (W.heap.size+1))->K (a.put o.dst v') w'):o.wp prog a (W.alloc (.cells #[c0,c1,c2] e)) K Q:=by
 subst hN;obtain⟨i0,hi,hz0,aa,ab⟩:=Fj hinfo;obtain⟨v',w',hr,g2,g3,_,g5⟩:=run_append_own_at (P:=prog) (W.alloc (.cells #[c0,c1,c2] e)) B t o.type e i0 z0 3 48 ht hi hz0 aa ab hz3 dE v n xs (hown.alloc _) (aZ W.heap.size) 1 1 [c0,c1,c2] rfl (jg W e c0 c1 c2) (by intro u hu;simp at hu;rcases hu with rfl|rfl|rfl<;>assumption) (by unfold maxLen;omega) oM (by simp;omega);unfold Oper.wp execOp;simp only[ho,resolve,invoke,builtin,Sem.run_bind,Sem.run_pure,GS,GQ,Dc,Gr,hs,hx,hr];have g6:v'.ownBlock=v.ownBlock\/v'.ownBlock=some (W.heap.size+1):=by simpa using g5
 exact h v' w' g2 g3 g6
theorem Lo {a:Act}(hgd:o.guard=none)(s x:Operand)(t e:TypeId)(z0:Value)(ht:prog.underlying t=some (.slice e))(hinfo:(prog.info? e).map (fun i=>(i.zero,i.size,i.bytes))=some (some z0,3,48))(hz3:z0.cells.size=3)(ho:o.op=.call {callee:=.builtin .append,args:=#[s,x],argTypes:=#[t,t]}){xs:List Value}{c0 c1 c2:Value}(h1:c0.oneCell'=true)(h2:c1.oneCell'=true)(h3:c2.oneCell'=true)(hs:a.eval s=v)(hx:a.eval x=lZ N 1 1)(hN:N=W.heap.size)(hown:W.ownsRow B e 3 v n xs)(hn:n<=1000)(hB:B<=W.heap.size)(h:∀v' w',Hd (w'.ownsRow B e 3 v' (n+1) (xs++[c0,c1,c2]))->(W.alloc (.cells #[c0,c1,c2] e)).grownBy w' v.ownBlock->Hd (v'.ownBlock=v.ownBlock\/v'.ownBlock=some (W.heap.size+1))->wpList prog ops Q rest (a.put o.dst v') w'):wpList prog ops Q (o::rest) a (W.alloc (.cells #[c0,c1,c2] e)):=
 JN hgd fun _ hK=>Ou s x t e z0 ht hinfo hz3 ho h1 h2 h3 hs hx hN hown hn hB fun v' w' g2 g3 g4=>hK _ _ (h v' w' g2 g3 g4)
theorem Zc:∀u∈Ae xs,u.oneCell'=true:=MT .i64 xs
theorem UV (h:Sl W v xs):v.oneCell'=true:=by obtain⟨ao,cap,rfl,_⟩:=h;rfl
theorem Ye (h:∀j,j<L.length->(tv j).oneCell'=true):∀u∈A2 L tv,u.oneCell'=true:=fun u hu=>by
 unfold A2 at hu;rw[I3]at hu;obtain⟨j,hj,hu⟩:=hu;rw[CR]at hj;simp only[Ir,List.not_mem_nil,or_false]at hu;rcases hu with rfl|rfl|rfl
 ·rfl
 ·rfl
 ·exact h j hj
theorem PI {L:List AE}(h:∀j,j<L.length->(tv j).oneCell'=true):∀u∈A8 L tv,u.oneCell'=true:=fun u hu=>by
 unfold A8 at hu;rw[I3]at hu;obtain⟨j,hj,hu⟩:=hu;rw[CR]at hj;simp only[Ir,List.not_mem_nil,or_false]at hu;rcases hu with rfl|rfl|rfl
 ·rfl
 ·rfl
 ·exact h j hj
def EC:Nat:=140737488355328
theorem N1:EC=140737488355328:=rfl
theorem Qd (hb:0<b)(h:n*b<=EC):n<=maxLen:=by
 have:=Bg (Nat.le_mul_of_pos_right n hb) h;rw[N1]at this;unfold maxLen;omega
theorem Wu (n c:Nat)(w:World):Cl 100 #[.slice none n c] w fun r w'=>r=.returned (nl)/\w'=w:=by
 have aa:∀ (w:World) (a:Option Addr) (n c n' c':Nat),(binOp .eql 29 (.slice a n c) (.slice none n' c')).run prog w=.ok (.bool a.isNone) w:=fun w a n c n' c'=>Lib.run_eql_slice_nil w _ _ a n c n' c' underlying29
 go_enter func100,ntmps100
 go_wp2
 go_ret;exact⟨rfl,rfl⟩
theorem Wt (a:Addr)(n c:Nat)(news:List Value)(w:World)(hl:news.length=n*1)(hbig:n*8<=EC)(hc:∀j u,news[j]?=some u->w.cell? (a.add j)=some u)(h1:∀u∈news,u.oneCell'=true):Cl 100 #[.slice (some a) n c] w fun r w'=>∃v',r=.returned v'/\w'.ownsRow w.heap.size 3 1 v' n news/\Bw w w':=by
 have af:∀ (w:World) (a:Option Addr) (n c n' c':Nat),(binOp .eql 29 (.slice a n c) (.slice none n' c')).run prog w=.ok (.bool a.isNone) w:=fun w a n c n' c'=>Lib.run_eql_slice_nil w _ _ a n c n' c' underlying29
 obtain⟨i0,hi,hz0,ad,ae⟩:=Fj info3;have A:Hd ((∀j u,news[j]?=some u->w.cell? (a.add j)=some u)/\news.length=n*1/\n*8<=EC/\(∀u∈news,u.oneCell'=true)/\prog.info? 3=some i0/\i0.zero=some (iI 0)/\i0.size=1/\i0.bytes=8):=⟨hc,hl,hbig,h1,hi,hz0,ad,ae⟩;clear hc hl hbig h1 hi hz0 ad ae
 go_enter func100,ntmps100
 go_wp2_with(at_builtin;refine RC _ rfl _ _ 29 rfl w.heap.size 3 i0 (iI 0) 1 8 underlying29 A.o.2.2.2.2.1 A.o.2.2.2.2.2.1 A.o.2.2.2.2.2.2.1 A.o.2.2.2.2.2.2.2 rfl dE _ _ _ rfl (O0 w #[] 0 lE (A7 _) (by simp)) a n c news rfl A.o.2.1 ?qc2 A.o.2.2.2.1 ?qc4 ?qc5 ?qc6 ?_)
 case qc2=>
  intro j u hj;exact Lib.cell?_alloc_some _ (A.o.1 j u hj)
 case qc4=>rw[Eh];exact Qd dE A.o.2.2.1
 case qc5=>rw[Eh];exact A.o.2.2.1
 case qc6=>simp
 intro v' w1 ab aa ac;have HO:Hd (w1.ownsRow w.heap.size 3 1 v' n news):=ab;have HG:Hd (Bw w w1):=((AG _ w).alloc lE _).grown aa (by simp) (by intro k hk;simp[Value.ownBlock]at hk;omega);clear ab aa ac
 go_wp2
 go_ret;exact⟨v',rfl,HO.o,HG.o⟩
theorem KB (h:Sl w v xs)(hb:xs.length*8<=EC):Cl 100 #[v] w fun r w'=>∃v',r=.returned v'/\w'.ownsRow w.heap.size 3 1 v' xs.length (Ae xs)/\Bw w w':=by
 obtain⟨ao,cap,rfl,hm,ab,hc⟩:=h
 cases ao with
 | none=>
  have hx:xs=[]:=EW fun hne=>by obtain⟨_,_,e,_⟩:=hc hne;cases e
  subst hx;refine(Wu _ _ w).mono ?_;rintro e w' ⟨rfl,rfl⟩;exact⟨_,rfl,DG _ _ _ _,AG _ _⟩
 | some a=>
  refine Wt a xs.length cap (Ae xs) w (by rw[ER];omega) hb (fun j u hu=>?_) Zc;have hj:j<xs.length:=by
   rcases Dq j xs.length with h|h
   ·exact h
   ·rw[Ed (by rw[ER];exact h)]at hu;cases hu
  obtain⟨b,off,e,_,aa⟩:=hc (by intro e;rw[e]at hj;simp at hj);simp only[Ct]at e;subst e;rw[EI,aa j hj];unfold Ae at hu;rw[Dm,Co hj]at hu;simp at hu
  simp[List.getD,hj,hu]
abbrev Tv:Value:=nl
theorem RV {p:Nat->Value->Prop}(h:∀i,i<n->∃s,p i s):∃f:Nat->Value,∀i,i<n->p i (f i):=
 ⟨fun i=>if hi:i<n then (h i hi).choose else nl,fun i hi=>by simp only[dif_pos hi];exact(h i hi).choose_spec⟩
theorem Wy (n c:Nat)(w:World):Cl 140 #[.slice none n c] w fun r w'=>r=.returned (nl)/\w'=w:=by
 have aa:∀ (w:World) (a:Option Addr) (n c n' c':Nat),(binOp .eql 30 (.slice a n c) (.slice none n' c')).run prog w=.ok (.bool a.isNone) w:=fun w a n c n' c'=>Lib.run_eql_slice_nil w _ _ a n c n' c' underlying30
 go_enter func140,ntmps140
 go_wp2
 go_ret;exact⟨rfl,rfl⟩
theorem Wx (a:Addr)(n c:Nat)(news:List Value)(w:World)(hl:news.length=n*3)(hbig:n*48<=EC)(hc:∀j u,news[j]?=some u->w.cell? (a.add j)=some u)(h1:∀u∈news,u.oneCell'=true):Cl 140 #[.slice (some a) n c] w fun r w'=>∃v',r=.returned v'/\w'.ownsRow w.heap.size 85 3 v' n news/\Bw w w':=by
 have af:∀ (w:World) (a:Option Addr) (n c n' c':Nat),(binOp .eql 30 (.slice a n c) (.slice none n' c')).run prog w=.ok (.bool a.isNone) w:=fun w a n c n' c'=>Lib.run_eql_slice_nil w _ _ a n c n' c' underlying30
 obtain⟨i0,hi,hz0,ad,ae⟩:=Fj J0;have A:Hd ((∀j u,news[j]?=some u->w.cell? (a.add j)=some u)/\news.length=n*3/\n*48<=EC/\(∀u∈news,u.oneCell'=true)/\prog.info? 85=some i0/\i0.zero=some (.agg #[iI 0,.string ByteArray.empty,nl])/\i0.size=3/\i0.bytes=48):=⟨hc,hl,hbig,h1,hi,hz0,ad,ae⟩;clear hc hl hbig h1 hi hz0 ad ae
 go_enter func140,ntmps140
 go_wp2_with(at_builtin;refine RC _ rfl _ _ 30 rfl w.heap.size 85 i0 (.agg #[iI 0,.string ByteArray.empty,nl]) 3 48 underlying30 A.o.2.2.2.2.1 A.o.2.2.2.2.2.1 A.o.2.2.2.2.2.2.1 A.o.2.2.2.2.2.2.2 rfl dE _ _ _ rfl (O0 w #[] 0 lE (A7 _) (by simp)) a n c news rfl A.o.2.1 ?qc2 A.o.2.2.2.1 ?qc4 ?qc5 ?qc6 ?_)
 case qc2=>
  intro j u hj;exact Lib.cell?_alloc_some _ (A.o.1 j u hj)
 case qc4=>rw[Eh];exact Qd dE A.o.2.2.1
 case qc5=>rw[Eh];exact A.o.2.2.1
 case qc6=>simp
 intro v' w1 ab aa ac;have HO:Hd (w1.ownsRow w.heap.size 85 3 v' n news):=ab;have HG:Hd (Bw w w1):=((AG _ w).alloc lE _).grown aa (by simp) (by intro k hk;simp[Value.ownBlock]at hk;omega);clear ab aa ac
 go_wp2
 go_ret;exact⟨v',rfl,HO.o,HG.o⟩
theorem Wz (h:BA w v L)(hb:L.length*48<=EC):∃tv:Nat->Value,(∀j,j<L.length->Sl w (tv j) (L.getD j default).2.2)/\∀W,Bw w W->Cl 140 #[v] W fun r w'=>∃v',r=.returned v'/\w'.ownsRow W.heap.size 85 3 v' L.length (A2 L tv)/\Bw W w':=by
 obtain⟨ao,cap,rfl,hm,ac,hc⟩:=h
 cases ao with
 | none=>
  have hx:L=[]:=EW fun hne=>by obtain⟨_,_,e,_⟩:=hc hne;cases e
  subst hx;refine⟨fun _=>Tv,fun j hj=>absurd hj (Dr _),fun W _=>(Wy _ _ W).mono ?_⟩;rintro e w' ⟨rfl,rfl⟩;exact⟨_,rfl,DG _ _ _ _,AG _ _⟩
 | some a=>
  have hx:∀j,j<L.length->∃tv,Sl w tv (L.getD j default).2.2/\∀W,Bw w W->W.cell? (a.add (j*3))=some (iI (L.getD j default).1)/\W.cell? (a.add (j*3+1))=some (.string (L.getD j default).2.1)/\W.cell? (a.add (j*3+2))=some tv:=fun j hj=>by
   obtain⟨b,off,e,hlt,aa⟩:=hc (by intro e;rw[e]at hj;simp at hj);simp only[Ct]at e;subst e;obtain⟨tv,c1,c2,c3,hs⟩:=aa j hj;have eg:L[j]=L.getD j default:=by simp[List.getD,hj]
   rw[eg]at c1 c2 hs;exact⟨tv,hs,fun W hW=>⟨by rw[EI];exact(hW.cell (p:=(aD b (off+j*3))) hlt).trans c1,by rw[EI];exact(hW.cell (p:=(aD b (off+j*3+1))) hlt).trans c2,by rw[EI];exact(hW.cell (p:=(aD b (off+j*3+1+1))) hlt).trans c3⟩⟩
  obtain⟨tv,ab⟩:=RV hx;refine⟨tv,fun j hj=>(ab j hj).1,fun W hW=>Wx a L.length cap (A2 L tv) W (Gv L tv) hb (fun i u hu=>?_) (Ye (fun j hj=>UV (ab j hj).1))⟩;have hi:i<L.length*3:=by
   rcases Dq i (L.length*3) with h|h
   ·exact h
   ·rw[Ed (by rw[Gv];exact h)]at hu;cases hu
  obtain⟨j,r,hj,hr,rfl⟩:∃j r,j<L.length/\r<3/\i=j*3+r:=⟨i/3,i%3,oM,LC _ dE,oM⟩;obtain⟨g0,g1,g2⟩:=D3 (tv:=tv) hj;obtain⟨c0,c1,c2⟩:=(ab j hj).2 W hW
  match r,hr with
  | 0,_=>rw[Fi]at hu ⊢;rw[g0]at hu;cases hu;exact c0
  | 1,_=>rw[g1]at hu;cases hu;exact c1
  | 2,_=>rw[g2]at hu;cases hu;exact c2
theorem Ww (n c:Nat)(w:World):Cl 141 #[.slice none n c] w fun r w'=>r=.returned (nl)/\w'=w:=by
 have aa:∀ (w:World) (a:Option Addr) (n c n' c':Nat),(binOp .eql 31 (.slice a n c) (.slice none n' c')).run prog w=.ok (.bool a.isNone) w:=fun w a n c n' c'=>Lib.run_eql_slice_nil w _ _ a n c n' c' underlying31
 go_enter func141,ntmps141
 go_wp2
 go_ret;exact⟨rfl,rfl⟩
theorem Wv (a:Addr)(n c:Nat)(news:List Value)(w:World)(hl:news.length=n*3)(hbig:n*48<=EC)(hc:∀j u,news[j]?=some u->w.cell? (a.add j)=some u)(h1:∀u∈news,u.oneCell'=true):Cl 141 #[.slice (some a) n c] w fun r w'=>∃v',r=.returned v'/\w'.ownsRow w.heap.size 87 3 v' n news/\Bw w w':=by
 have af:∀ (w:World) (a:Option Addr) (n c n' c':Nat),(binOp .eql 31 (.slice a n c) (.slice none n' c')).run prog w=.ok (.bool a.isNone) w:=fun w a n c n' c'=>Lib.run_eql_slice_nil w _ _ a n c n' c' underlying31
 obtain⟨i0,hi,hz0,ad,ae⟩:=Fj J1;have A:Hd ((∀j u,news[j]?=some u->w.cell? (a.add j)=some u)/\news.length=n*3/\n*48<=EC/\(∀u∈news,u.oneCell'=true)/\prog.info? 87=some i0/\i0.zero=some (.agg #[.string ByteArray.empty,iI 0,nl])/\i0.size=3/\i0.bytes=48):=⟨hc,hl,hbig,h1,hi,hz0,ad,ae⟩;clear hc hl hbig h1 hi hz0 ad ae
 go_enter func141,ntmps141
 go_wp2_with(at_builtin;refine RC _ rfl _ _ 31 rfl w.heap.size 87 i0 (.agg #[.string ByteArray.empty,iI 0,nl]) 3 48 underlying31 A.o.2.2.2.2.1 A.o.2.2.2.2.2.1 A.o.2.2.2.2.2.2.1 A.o.2.2.2.2.2.2.2 rfl dE _ _ _ rfl (O0 w #[] 0 lE (A7 _) (by simp)) a n c news rfl A.o.2.1 ?qc2 A.o.2.2.2.1 ?qc4 ?qc5 ?qc6 ?_)
 case qc2=>
  intro j u hj;exact Lib.cell?_alloc_some _ (A.o.1 j u hj)
 case qc4=>rw[Eh];exact Qd dE A.o.2.2.1
 case qc5=>rw[Eh];exact A.o.2.2.1
 case qc6=>simp
 intro v' w1 ab aa ac;have HO:Hd (w1.ownsRow w.heap.size 87 3 v' n news):=ab;have HG:Hd (Bw w w1):=((AG _ w).alloc lE _).grown aa (by simp) (by intro k hk;simp[Value.ownBlock]at hk;omega);clear ab aa ac
 go_wp2
 go_ret;exact⟨v',rfl,HO.o,HG.o⟩
theorem WA {L:List AE}(h:Do w v L)(hb:L.length*48<=EC):∃tv:Nat->Value,(∀j,j<L.length->Sl w (tv j) (L.getD j default).2.2)/\∀W,Bw w W->Cl 141 #[v] W fun r w'=>∃v',r=.returned v'/\w'.ownsRow W.heap.size 87 3 v' L.length (A8 L tv)/\Bw W w':=by
 obtain⟨ao,cap,rfl,hm,ac,hc⟩:=h
 cases ao with
 | none=>
  have hx:L=[]:=EW fun hne=>by obtain⟨_,_,e,_⟩:=hc hne;cases e
  subst hx;refine⟨fun _=>Tv,fun j hj=>absurd hj (Dr _),fun W _=>(Ww _ _ W).mono ?_⟩;rintro e w' ⟨rfl,rfl⟩;exact⟨_,rfl,DG _ _ _ _,AG _ _⟩
 | some a=>
  have hx:∀j,j<L.length->∃tv,Sl w tv (L.getD j default).2.2/\∀W,Bw w W->W.cell? (a.add (j*3))=some (.string (L.getD j default).1)/\W.cell? (a.add (j*3+1))=some (iI (L.getD j default).2.1)/\W.cell? (a.add (j*3+2))=some tv:=fun j hj=>by
   obtain⟨b,off,e,hlt,aa⟩:=hc (by intro e;rw[e]at hj;simp at hj);simp only[Ct]at e;subst e;obtain⟨tv,c1,c2,c3,hs⟩:=aa j hj;have eg:L[j]=L.getD j default:=by simp[List.getD,hj]
   rw[eg]at c1 c2 hs;exact⟨tv,hs,fun W hW=>⟨by rw[EI];exact(hW.cell (p:=(aD b (off+j*3))) hlt).trans c1,by rw[EI];exact(hW.cell (p:=(aD b (off+j*3+1))) hlt).trans c2,by rw[EI];exact(hW.cell (p:=(aD b (off+j*3+1+1))) hlt).trans c3⟩⟩
  obtain⟨tv,ab⟩:=RV hx;refine⟨tv,fun j hj=>(ab j hj).1,fun W hW=>Wv a L.length cap (A8 L tv) W (GX L tv) hb (fun i u hu=>?_) (PI (fun j hj=>UV (ab j hj).1))⟩;have hi:i<L.length*3:=by
   rcases Dq i (L.length*3) with h|h
   ·exact h
   ·rw[Ed (by rw[GX];exact h)]at hu;cases hu
  obtain⟨j,r,hj,hr,rfl⟩:∃j r,j<L.length/\r<3/\i=j*3+r:=⟨i/3,i%3,oM,LC _ dE,oM⟩;obtain⟨g0,g1,g2⟩:=Ew (qv:=tv) hj;obtain⟨c0,c1,c2⟩:=(ab j hj).2 W hW
  match r,hr with
  | 0,_=>rw[Fi]at hu ⊢;rw[g0]at hu;cases hu;exact c0
  | 1,_=>rw[g1]at hu;cases hu;exact c1
  | 2,_=>rw[g2]at hu;cases hu;exact c2
theorem B0 {xs:List Value}(h:W.ownsRow B e size v n xs):∃ao cap,v=.slice ao n cap:=by
 rcases Di h with⟨rfl,rfl⟩|⟨g,cap,rfl,_⟩
 ·exact⟨none,0,rfl⟩
 ·exact⟨_,cap,rfl⟩

theorem OI.far (h:OI W B val m)(hg:∀a,Af m a->(val a).ownBlock≠some g):OI (W.setCell (aD g i) u) B val m:=
 ⟨fun a ha=>Ds (h.row a ha) (hg a ha) u,h.apart⟩
theorem OI.lt (h:OI W B val m)(hg:W.heap.size<=g):∀a,Af m a->(val a).ownBlock≠some g:=fun a ha e=>by
 have:=((h.row a ha).lt g e).2;omega
theorem Eo {xs:List Value}(h:W.ownsRow B e size v (n+1) xs):∃g cap,v=lZ g (n+1) cap:=by
 rcases Di h with⟨_,e⟩|⟨g,cap,e,_⟩
 ·cases e
 ·exact⟨g,cap,e⟩
theorem Aq {t:TypeId}(h:W.heap[b]?=some (.cells A t))(i:Nat):W.frozen? (aD b i)=false:=by simp[World.frozen?,h]
theorem OI.forms (h:OI W B val m)(a:Nm)(ha:Af m a):∃ao cap,val a=.slice ao (AP m a) cap/\(0<AP m a->∃g,ao=some (aZ g)):=by
 rcases Di (h.row a ha) with⟨e,hn⟩|⟨g,cap,e,_⟩
 ·exact⟨none,0,by rw[e,hn],fun hp=>absurd hp oM⟩
 ·exact⟨_,cap,e,fun _=>⟨g,rfl⟩⟩

theorem Tu (W:World)(l:List Int)(hl:l.length<=1000)(hB:B<=W.heap.size):(W.alloc (.cells (Ae l).toArray 3)).ownsRow B 3 1 (lZ W.heap.size l.length l.length) l.length (Ae l):=
 ⟨by simp[ER],.inr ⟨W.heap.size,l.length,(Ae l).toArray,rfl,hB,Aw _ _,Bc _,by unfold maxLen;omega,by simp[ER],by rw[OV];exact DF (by simp[ER])⟩⟩
def O7 (w:World) (v:Value):Prop:=∀g,v.ownBlock=some g->w.heap.size<=g
theorem iV (gm:Int)(ra:Option Addr)(rn rc:Nat)(sa:Option Addr)(sn sc:Nat)(fa:Option Addr)(fn fc:Nat)(na:Option Addr)(nn nc:Nat)(w:World):Cl 130 #[.agg (bI gm ra rn rc sa sn sc fa fn fc na nn nc),iI 0] w fun r w'=>∃v,r=.returned v/\w'.ownsRow w.heap.size 3 1 v 4 (Ae [0,0,0,0])/\O7 w v/\Bw w w':=by
 go_enter func130,ntmps130
 have aa:∀w,(Instr.makeSlice 29 (iI 4) (iI 4)).run prog w=.ok (lZ w.heap.size 4 4) (w.alloc (.cells #[iI 0,iI 0,iI 0,iI 0] 3)):=fun _=>by kernel_rfl
 go_wp2_with fail;go_ret;have hr:=Tu (w.alloc (cB gm ra rn rc sa sn sc fa fn fc na nn nc)) [0,0,0,0] dE (B:=w.heap.size) (by simp);rw[show (w.alloc (cB gm ra rn rc sa sn sc fa fn fc na nn nc)).heap.size=w.heap.size+1 by simp]at hr;refine⟨lZ (w.heap.size+1) 4 4,rfl,hr,fun g e=>by cases e;show w.heap.size<=w.heap.size+1;omega,(Av).alloc (by simp) _⟩
theorem iW (gm:Int)(ra:Option Addr)(rn rc:Nat)(sa:Option Addr)(sn sc:Nat)(fa:Option Addr)(fn fc:Nat)(na:Option Addr)(nn nc:Nat)(L:List An)(t b off:Nat)(w:World)(ht:1<=t)(htl:t<L.length)(hsa:sa=some (aD b off))(hsn:L.length<=sn)(hb:b<w.heap.size)(tv:Value)(hc:w.cell? (aD b (off+t*3+2))=some tv)(es:List Int)(hes:Sl w tv es)(hel:es.length<=1000):Cl 130 #[.agg (bI gm ra rn rc sa sn sc fa fn fc na nn nc),iI (t:Int)] w fun r w'=>∃v,r=.returned v/\w'.ownsRow w.heap.size 3 1 v es.length (Ae es)/\O7 w v/\Bw w w':=by
 let V:=(cB gm ra rn rc (sD b off) sn sc fa fn fc na nn nc)
 subst hsa;have t0:¬(t:Int)=0:=oM;have tb:((t:Int) == 0)=false:=by simp[V];omega
 have t1:(t:Int)<(sn:Int):=oM;have m0:(w.alloc V).heap[w.heap.size]?=some V:=Aw _ _;have c0:=five m0;have b0:Bw w (w.alloc V):=Av;have aa:((w.alloc V).alloc (.cells #[] 3)).cell? (aD b (off+t*3+2))=some tv:=((b0.alloc (by simp[V]) _).cell (p:=(aD b (off+t*3+2))) hb).trans hc;dsimp only[V]at *;clear V
 go_enter func130,ntmps130
 go_wp2_with(at_builtin;refine Ot (by rfl) _ _ (by rfl) (g:=w.heap.size+1) (B:=w.heap.size) (by rfl) (by have:=C2 (w.alloc (cB gm ra rn rc (sD b off) sn sc fa fn fc na nn nc)) (.cells #[] 3);simpa using this) oM (src:=tv) (xs:=es) (by rfl) (hes.below (b0.alloc (by simp) _)) hel ?_;intro v1 w1 h1 h2 h3);go_ret;refine⟨v1,rfl,h1.o,fun g e=>?_,IV (b0.alloc (by simp) _) h2 (by simp<;>omega) (fun q e=>by cases e;omega)⟩;rcases h3.o with x|x
 ·rw[x]at e;cases e;omega
 ·rw[x]at e;simp at e;omega
def Li (L:List An) (t:Nat):List Int:=if t=0 then [0,0,0,0] else (L.getD t default).2.2
theorem Mv (h:Al w v m)(ht:t<m.s.length)(hl:(Li m.s t).length<=1000):Cl 130 #[v,iI (t:Int)] w fun r w'=>∃v,r=.returned v/\w'.ownsRow w.heap.size 3 1 v (Li m.s t).length (Ae (Li m.s t))/\O7 w v/\Bw w w':=by
 obtain⟨rv,sv,fv,nv,rfl,⟨ra,rc,rfl,_⟩,⟨sa,sc,rfl,_,_,hs⟩,⟨fa,fc,rfl,_⟩,⟨na,nc,rfl,_⟩⟩:=h;unfold Li at hl ⊢
 by_cases e:t=0
 ·subst e;rw[Ab rfl]at hl ⊢;exact iV _ _ _ _ _ _ _ _ _ _ _ _ _ w
 ·rw[Aa e]at hl ⊢;obtain⟨b,off,ha,hb,hc⟩:=hs (by intro x;rw[x]at ht;simp at ht);obtain⟨tv,_,_,h3,h4⟩:=hc t ht;have eg:m.s[t]=m.s.getD t default:=by simp[List.getD,ht]
  rw[eg]at h4;exact iW _ _ _ _ _ _ _ _ _ _ _ _ _ m.s t b off w oM ht ha lE hb tv h3 _ h4 hl

def CB (m:Ac) (k:Nat):Ac:={m with f:=AL m,s:=(List.range m.s.length).map (fun j=>if j<k/\(AL m).getD j 0=0 then C9 else m.s.getD j default)}
theorem FJ (m:Ac)(k:Nat):(CB m k).s.length=m.s.length:=by simp[CB]
theorem JW (m:Ac)(k:Nat)(hj:j<m.s.length):(CB m k).s.getD j default=if j<k/\(AL m).getD j 0=0 then C9 else m.s.getD j default:=by
 unfold CB;simp only[List.getD,Dm,List.getElem?_range hj,It,Rx]
theorem Mn {M:List An}(hl:L.length=M.length)(h:∀j,j<L.length->L.getD j default=M.getD j default):L=M:=by
 apply EX hl
 intro j h1 h2;have:=h j h1
 simpa[List.getD,h1,h2] using this
theorem Sy (m:Ac):CB m 0 = {m with f:=AL m}:=by
 have e:(CB m 0).s=m.s:=Mn (FJ m 0) (fun j hj=>by
  rw[FJ]at hj;rw[JW m 0 hj,Aa oM])
 show Ac.mk _ _ (CB m 0).s _ _=_
 rw[e]
theorem PO (m:Ac):CB m m.s.length=At m:=by
 have e:(CB m m.s.length).s=EP m.s (AL m):=Mn (by rw[FJ,KH]) (fun j hj=>by
  rw[FJ]at hj;rw[JW m _ hj,JX hj]
  by_cases c:(AL m).getD j 0=0
  ·rw[Ab ⟨hj,c⟩,Ab c]
  ·rw[Aa (fun x=>c x.2),Aa c])
 show Ac.mk _ _ (CB m m.s.length).s _ _=_
 rw[e];rfl
theorem Sw (m:Ac)(hc:(AL m).getD k 0=0):CB m (k+1) = {CB m k with s:=(CB m k).s.set k C9}:=by
 have e:(CB m (k+1)).s=(CB m k).s.set k C9:=Mn (by rw[Bi,FJ,FJ]) (fun j hj=>by
  rw[FJ]at hj;rw[Ht,JW m _ hj,FJ]
  by_cases e:k=j
  ·subst e;rw[Ab ⟨oM,hc⟩,Ab ⟨rfl,hj⟩]
  ·rw[show (if k=j/\j<m.s.length then C9 else (CB m k).s.getD j default)=(CB m k).s.getD j default from Aa (fun x=>e x.1),JW m k hj]
   by_cases c:(AL m).getD j 0=0
   ·by_cases l:j<k
    ·rw[Ab ⟨oM,c⟩,Ab ⟨l,c⟩]
    ·rw[Aa oM,Aa (fun x=>l x.1)]
   ·rw[Aa (fun x=>c x.2),Aa (fun x=>c x.2)])
 show Ac.mk _ _ (CB m (k+1)).s _ _=_
 rw[e];rfl
theorem Sx (m:Ac)(hc:(AL m).getD k 0≠0):CB m (k+1)=CB m k:=by
 have e:(CB m (k+1)).s=(CB m k).s:=Mn (by rw[FJ,FJ]) (fun j hj=>by
  rw[FJ]at hj;rw[JW m _ hj,JW m _ hj]
  by_cases c:(AL m).getD j 0=0
  ·have:j≠k:=fun x=>hc (by rw[<-x];exact c)
   by_cases l:j<k
   ·rw[Ab ⟨oM,c⟩,Ab ⟨l,c⟩]
   ·rw[Aa oM,Aa (fun x=>l x.1)]
  ·rw[Aa (fun x=>c x.2),Aa (fun x=>c x.2)])
 show Ac.mk _ _ (CB m (k+1)).s _ _=_
 rw[e];rfl
theorem Bf {t:TypeId}(h:W.heap[b]?=some (.cells A t))(i:Nat)(v:Value):(W.setCell (aD b i) v).heap[b]?=some (.cells (A.setIfInBounds i v) t):=by
 obtain⟨hlt,hk⟩:=B6.1 h
 show (W.heap.modify b _)[b]?=_
 rw[IU (by rw[Oy];exact hlt),Ox,hk];simp
theorem Bt {o:Option Obj}(h:W.heap[b]?=o)(hg:b≠g)(i:Nat)(v:Value):(W.setCell (aD g i) v).heap[b]?=o:=(AN W (aD g i) v b hg).trans h
theorem UC {l:List Int}(h:Bz W g l)(hB:B<=g)(hl:l.length<=1000):W.ownsRow B 3 1 (lZ g l.length l.length) l.length (Ae l):=
 ⟨by simp[ER],.inr ⟨g,l.length,(Ae l).toArray,rfl,hB,h,Bc _,by unfold maxLen;omega,by simp[ER],by rw[OV];exact DF (by simp[ER])⟩⟩

theorem Al.four {a b c d e:Value}(h:Al w (.agg #[a,b,c,d,e]) m):Sl w b m.r/\BA w c m.s/\Sl w d m.f/\Do w e m.p:=by
 obtain⟨_,_,_,_,e,h1,h2,h3,h4⟩:=h;simp only[Value.agg.injEq,Array.mk.injEq,List.cons.injEq,Hh]at e;obtain⟨_,rfl,rfl,rfl,rfl⟩:=e;exact⟨h1,h2,h3,h4⟩
structure DK (W:World) (B D:Nat) (val:Nm->Value) (m:Ac):Prop where
 own:OI W B val m
 box:W.heap[D]?=some (.cells #[iI m.g,val .r,val .s,val .f,val .p] 64)
 ge:B<=D
 far:∀a,Af m a->(val a).ownBlock≠some D
theorem DK.lt (h:DK W B D val m):D<W.heap.size:=(B6.1 h.box).1
theorem DK.below (h:DK W B D val m)(hb:Bw W W'):DK W' B D val m:=⟨h.own.below hb,(hb.block D h.lt).trans h.box,h.ge,h.far⟩
theorem DK.drew (h:DK W B D val m):DK W.drew B D val m:=⟨h.own.drew,h.box,h.ge,h.far⟩
theorem DK.alloc (h:DK W B D val m)(o:Obj):DK (W.alloc o) B D val m:=h.below ((AG _ _).alloc lE o)
structure Ay (w w':World) (B D:Nat) (m:Ac) (val:Nm->Value) (ev:Value) (m':Ac) (val':Nm->Value):Prop where
 dk:DK w' B D val' m'
 bel:Below B w w'
 keep:∀q,q<w.heap.size->q≠D->ev.ownBlock≠some q->(∀a,Af m a->(val a).ownBlock≠some q)->w'.heap[q]?=w.heap[q]?
 src:∀q,q<w.heap.size->ev.ownBlock≠some q->(∀b,Af m b->(val b).ownBlock≠some q)->∀a,Af m' a->(val' a).ownBlock≠some q
abbrev AF:Value:=nl
theorem GG (q:Nat):AF.ownBlock≠some q:=by intro e;cases e
theorem Ay.refl (h:DK w B D val m)(ev:Value):Ay w w B D m val ev m val:=⟨h,AG _ _,fun _ _ _ _ _=>rfl,fun _ _ _ hm=>hm⟩
theorem Ay.trans {ev':Value}(h:Ay w w1 B D m val ev m1 val1)(k:Ay w1 w2 B D m1 val1 ev' m2 val2)(he:∀q,ev'.ownBlock=some q->ev.ownBlock=some q\/w.heap.size<=q\/∃a,Af m a/\(val a).ownBlock=some q):Ay w w2 B D m val ev m2 val2:=by
 have hx:∀q,q<w.heap.size->ev.ownBlock≠some q->(∀b,Af m b->(val b).ownBlock≠some q)->ev'.ownBlock≠some q:=fun q hq hev hm e=>by
  rcases he q e with x|x|⟨a,ha,x⟩
  ·exact hev x
  ·omega
  ·exact hm a ha x
 refine⟨k.dk,h.bel.trans k.bel,fun q hq hD hev hm=>?_,fun q hq hev hm=>?_⟩
 ·exact(k.keep q (AO hq h.bel.size) hD (hx q hq hev hm) (h.src q hq hev hm)).trans (h.keep q hq hD hev hm)
 ·exact k.src q (AO hq h.bel.size) (hx q hq hev hm) (h.src q hq hev hm)
theorem Ay.andThen (h:Ay w w1 B D m val AF m1 val1)(k:Ay w1 w2 B D m1 val1 AF m2 val2):Ay w w2 B D m val AF m2 val2:=
 h.trans k (fun q e=>by cases e)
theorem Ay.first (hb:Bw w w1)(hB:B<=w.heap.size)(h:Ay w1 w2 B D m val ev m1 val1)(he:∀q,ev.ownBlock=some q->w.heap.size<=q):Ay w w2 B D m val AF m1 val1:=
 ⟨h.dk,(hb.mono hB).trans h.bel,fun q hq hD _ hm=>(h.keep q (AO hq hb.size) hD (fun e=>by have:=he q e;omega) hm).trans (hb.block q hq),fun q hq _ hm=>h.src q (AO hq hb.size) (fun e=>by have:=he q e;omega) hm⟩
theorem Ay.below (h:Ay w w1 B D m val ev m1 val1)(hB:B<=w.heap.size)(hb:Bw w1 w2):Ay w w2 B D m val ev m1 val1:=
 ⟨h.dk.below hb,h.bel.trans (hb.mono (Bg hB h.bel.size)),fun q hq hD hev hm=>(hb.block q (AO hq h.bel.size)).trans (h.keep q hq hD hev hm),h.src⟩
theorem Ay.drew (h:Ay w w1 B D m val ev m1 val1):Ay w w1.drew B D m val ev m1 val1:=⟨h.dk.drew,h.bel.drew,h.keep,h.src⟩
theorem Ay.alloc (h:Ay w w1 B D m val ev m1 val1)(hB:B<=w.heap.size)(o:Obj):Ay w (w1.alloc o) B D m val ev m1 val1:=h.below hB ((AG _ _).alloc lE o)
theorem DK.setFar (h:DK W B D val m)(hD:D≠g)(hg:∀a,Af m a->(val a).ownBlock≠some g):DK (W.setCell (aD g i) u) B D val m:=⟨h.own.far hg,Bt h.box hD _ _,h.ge,h.far⟩
theorem Ay.setNew (h:Ay w w1 B D m val ev m1 val1)(hB:B<=w.heap.size)(hg:w.heap.size<=g)(hD:D≠g)(hf:∀a,Af m1 a->(val1 a).ownBlock≠some g):Ay w (w1.setCell (aD g i) u) B D m val ev m1 val1:=
 ⟨h.dk.setFar hD hf,h.bel.setCell (Bg hB hg) _,fun q hq hqD hev hm=>(AN w1 (aD g i) u q (fun e=>by have e:q=g:=e;omega)).trans (h.keep q hq hqD hev hm),h.src⟩
theorem Ay.cells (h:Ay w w1 B D m val ev m1 val1){t:TypeId}(hq:w.heap[q]?=some (.cells A t))(hD:q≠D)(hev:ev.ownBlock≠some q)(hm:∀a,Af m a->(val a).ownBlock≠some q):w1.heap[q]?=some (.cells A t):=
 (h.keep q (AA hq) hD hev hm).trans hq
theorem DK.five (h:DK W B D val m):W.cell? (aZ D)=some (iI m.g)/\W.cell? (aD D 1)=some (val .r)/\W.cell? (aD D 2)=some (val .s)/\W.cell? (aD D 3)=some (val .f)/\W.cell? (aD D 4)=some (val .p):=Go.Proofs.YtfciijncfbepjaaGreatDoor.five h.box
theorem DK.frozen (h:DK W B D val m)(i:Nat):W.frozen? (aD D i)=false:=Aq h.box i
theorem DK.swapRefs (h:DK W B D val m){r:List Int}(hv:W.ownsRow B 3 1 v r.length (Ae r))(hfar:EH m val .f v)(hD:v.ownBlock≠some D):DK (W.setCell (aD D 3) v) B D (Az val .f v) {m with f:=r}:=by
 have hf:∀a,Af m a->(Az val .f v a).ownBlock≠some D:=fun a ha=>by
  by_cases e:a=.f
  ·subst e;rw[Bh];exact hD
  ·rw[Ap _ _ e];exact h.far a ha
 refine⟨(h.own.swapRefs hv hfar).far hf,?_,h.ge,hf⟩;have:=Bf h.box 3 v;rw[Bh,Ap _ _ (by nofun),Ap _ _ (by nofun),Ap _ _ (by nofun)];exact this
theorem DK.swapRoot (h:DK W B D val m){r:List Int}(hv:W.ownsRow B 3 1 v r.length (Ae r))(hfar:EH m val .r v)(hD:v.ownBlock≠some D):DK (W.setCell (aD D 1) v) B D (Az val .r v) {m with r:=r}:=by
 have hf:∀a,Af m a->(Az val .r v a).ownBlock≠some D:=fun a ha=>by
  by_cases e:a=.r
  ·subst e;rw[Bh];exact hD
  ·rw[Ap _ _ e];exact h.far a ha
 refine⟨(h.own.swapRoot hv hfar m.g).far hf,?_,h.ge,hf⟩;have:=Bf h.box 1 v;rw[Bh,Ap _ _ (by nofun),Ap _ _ (by nofun),Ap _ _ (by nofun)];exact this
theorem OI.reguest (h:OI W B val m)(g:Int):OI W B val {m with g:=g}:=⟨fun a ha=>h.row a ha,fun a b ha hb=>h.apart a b ha hb⟩
theorem DK.setGuest (h:DK W B D val m)(g:Int):DK (W.setCell (aZ D) (iI g)) B D val {m with g:=g}:=
 ⟨(h.own.reguest g).far h.far,Bf h.box 0 _,h.ge,h.far⟩
theorem Ay.setOwn (h:Ay w w1 B D m val ev m1 val1)(ha:Af m1 a)(hv:val1 a=lZ g n cap)(hdk:DK (w1.setCell (aD g i) u) B D val2 m2)(hs:∀q,ev.ownBlock≠some q->(∀b,Af m1 b->(val1 b).ownBlock≠some q)->q<w.heap.size->∀b,Af m2 b->(val2 b).ownBlock≠some q):Ay w (w1.setCell (aD g i) u) B D m val ev m2 val2:=by
 have hg:=((h.dk.own.row a ha).lt g (by rw[hv];rfl)).1;refine⟨hdk,h.bel.setCell hg _,fun q hq hD hev hm=>?_,fun q hq hev hm=>hs q hev (h.src q hq hev hm) hq⟩;exact(AN w1 (aD g i) u q (fun e=>h.src q hq hev hm a ha (by rw[hv];exact congrArg some e.symm))).trans (h.keep q hq hD hev hm)
theorem Ay.setDesk (h:Ay w w1 B D m val ev m1 val1)(hdk:DK (w1.setCell (aD D i) u) B D val2 m2)(hs:∀q,ev.ownBlock≠some q->(∀b,Af m1 b->(val1 b).ownBlock≠some q)->q<w.heap.size->∀b,Af m2 b->(val2 b).ownBlock≠some q):Ay w (w1.setCell (aD D i) u) B D m val ev m2 val2:=
 ⟨hdk,h.bel.setCell h.dk.ge _,fun q hq hD hev hm=>(AN w1 (aD D i) u q hD).trans (h.keep q hq hD hev hm),fun q hq hev hm=>hs q hev (h.src q hq hev hm) hq⟩
theorem DK.setRoot (h:DK W B D val m)(hv:val .r=lZ g n cap)(i:Nat)(x:Int):DK (W.setCell (aD g i) (iI x)) B D val {m with r:=m.r.set i x}:=
 ⟨h.own.setRoot hv i x,Bt h.box (fun e=>h.far .r (Af.r m) (by rw[hv,e];rfl)) _ _,h.ge,h.far⟩
theorem DK.setRefs (h:DK W B D val m)(hv:val .f=lZ g n cap)(i:Nat)(x:Int):DK (W.setCell (aD g i) (iI x)) B D val {m with f:=m.f.set i x}:=
 ⟨h.own.setRefs hv i x,Bt h.box (fun e=>h.far .f (Af.f m) (by rw[hv,e];rfl)) _ _,h.ge,h.far⟩
theorem Ay.setRoot (h:Ay w w1 B D m val ev m1 val1)(hv:val1 .r=lZ g n cap)(i:Nat)(x:Int):Ay w (w1.setCell (aD g i) (iI x)) B D m val ev {m1 with r:=m1.r.set i x} val1:=
 h.setOwn (Af.r m1) hv (h.dk.setRoot hv i x) (fun _ _ hm _=>hm)
theorem Ay.setRefs (h:Ay w w1 B D m val ev m1 val1)(hv:val1 .f=lZ g n cap)(i:Nat)(x:Int):Ay w (w1.setCell (aD g i) (iI x)) B D m val ev {m1 with f:=m1.f.set i x} val1:=
 h.setOwn (Af.f m1) hv (h.dk.setRefs hv i x) (fun _ _ hm _=>hm)
theorem Ay.setGuest (h:Ay w w1 B D m val ev m1 val1)(x:Int):Ay w (w1.setCell (aZ D) (iI x)) B D m val ev {m1 with g:=x} val1:=
 h.setDesk (h.dk.setGuest x) (fun _ _ hm _=>hm)
theorem Re (hl:∀b,Af m2 b->b≠a->Af m1 b)(hv:∀q,v.ownBlock=some q->ev.ownBlock=some q\/n<=q):∀q,ev.ownBlock≠some q->(∀b,Af m1 b->(val1 b).ownBlock≠some q)->q<n->∀b,Af m2 b->(Az val1 a v b).ownBlock≠some q:=fun q hev hm hq b hb=>by
 by_cases e:b=a
 ·subst e;rw[Bh];intro x;rcases hv q x with y|y
  ·exact hev y
  ·omega
 ·rw[Ap _ _ e];exact hm b (hl b hb e)
theorem Ay.swapRoot (h:Ay w w1 B D m val ev m1 val1){r:List Int}(hv:w1.ownsRow B 3 1 v r.length (Ae r))(hfar:EH m1 val1 .r v)(hD:v.ownBlock≠some D)(hs:∀q,v.ownBlock=some q->ev.ownBlock=some q\/w.heap.size<=q):Ay w (w1.setCell (aD D 1) v) B D m val ev {m1 with r:=r} (Az val1 .r v):=
 h.setDesk (h.dk.swapRoot hv hfar hD) (Re (fun _ hb _=>hb) hs)
theorem Ay.swapRefs (h:Ay w w1 B D m val ev m1 val1){r:List Int}(hv:w1.ownsRow B 3 1 v r.length (Ae r))(hfar:EH m1 val1 .f v)(hD:v.ownBlock≠some D)(hs:∀q,v.ownBlock=some q->ev.ownBlock=some q\/w.heap.size<=q):Ay w (w1.setCell (aD D 3) v) B D m val ev {m1 with f:=r} (Az val1 .f v):=
 h.setDesk (h.dk.swapRefs hv hfar hD) (Re (fun _ hb _=>hb) hs)
theorem Ay.setSlot (h:Ay w w1 B D m val ev m1 val1)(ht:t<m1.s.length)(hv:val1 .s=lZ g n cap)(k:Int)(d:ByteArray)(es:List Int){e2:Value}(hev:w1.ownsRow B 3 1 e2 es.length (Ae es))(hfar:EH m1 val1 (.tab t) e2)(hD:e2.ownBlock≠some D)(hs:∀q,e2.ownBlock=some q->ev.ownBlock=some q\/w.heap.size<=q):Ay w (((w1.setCell (aD g (t*3)) (iI k)).setCell (aD g (t*3+1)) (.string d)).setCell (aD g (t*3+2)) e2) B D m val ev {m1 with s:=m1.s.set t (k,d,es)} (Az val1 (.tab t) e2):=by
 have aa:D≠g:=fun e=>h.dk.far .s (Af.s m1) (by rw[hv,e];rfl)
 have hg:=((h.dk.own.row .s (Af.s m1)).lt g (by rw[hv];rfl)).1;have hl:∀b,Af {m1 with s:=m1.s.set t (k,d,es)} b->Af m1 b:=fun b hb=>(IG (m:=m1) (m':={m1 with s:=m1.s.set t (k,d,es)}) Bi rfl b).1 hb
 have hu:∀q,ev.ownBlock≠some q->(∀b,Af m1 b->(val1 b).ownBlock≠some q)->q<w.heap.size->∀b,Af {m1 with s:=m1.s.set t (k,d,es)} b->(Az val1 (.tab t) e2 b).ownBlock≠some q:=Re (fun b hb _=>hl b hb) hs;refine⟨⟨h.dk.own.setSlot ht hv k d es hev hfar,?_,h.dk.ge,fun a ha=>?_⟩,((h.bel.setCell hg _).setCell hg _).setCell hg _,fun q hq hqD hev' hm=>?_,fun q hq hev' hm=>hu q hev' (h.src q hq hev' hm) hq⟩
 ·rw[Ap _ _ (by nofun),Ap _ _ (by nofun),Ap _ _ (by nofun),Ap _ _ (by nofun)];exact Bt (Bt (Bt h.dk.box aa _ _) aa _ _) aa _ _
 ·by_cases e:a=.tab t
  ·subst e;rw[Bh];exact hD
  ·rw[Ap _ _ e];exact h.dk.far a (hl a ha)
 ·have ab:q≠g:=fun e=>h.src q hq hev' hm .s (Af.s m1) (by rw[hv];exact congrArg some e.symm)
  exact(Bt (Bt (Bt rfl ab _ _) ab _ _) ab _ _).trans (h.keep q hq hqD hev' hm)
def Bo (w:World) (B:Nat) (m:Ac) (err:Int) (r:Ending) (w':World):Prop:=∃val,r=.returned (.tuple #[AB m.g val,iI err])/\OI w' B val m/\Below B w w'
def AZ:Ac:=⟨0,[],[],[],[]⟩
def MB:Nm->Value:=fun _=>AF
theorem OI.zero (W:World)(B:Nat):OI W B MB AZ:=⟨fun a ha=>by
 rcases ha.cases with rfl|rfl|rfl|rfl|⟨j,rfl,hj⟩|⟨j,rfl,hj⟩
 ·exact DG _ _ _ _
 ·exact DG _ _ _ _
 ·exact DG _ _ _ _
 ·exact DG _ _ _ _
 ·exact absurd hj (Dr _)
 ·exact absurd hj (Dr _),fun _ _ _ _ _ g hg=>by cases hg⟩
theorem Bo.bad {w':World}(err:Int)(hb:Below B w w'):Bo w B AZ err (.returned (.tuple #[.agg #[iI 0,AF,AF,AF,AF],iI err])) w':=⟨MB,rfl,OI.zero _ _,hb⟩

def Fo (k l:Nat) (a:Nm):Prop:=(a.kind<4/\a.ix=0)\/(a.kind=4/\a.ix<k)\/(a.kind=5/\a.ix<l)
def Ii (m:Ac) (val:Nm->Value) (tv qv:Nat->Value) (k l:Nat) (a:Nm):List Value:=match a.kind with
 | 0=>Ae m.r
 | 1=>A2 m.s (fun j=>if j<k then val (.tab j) else tv j)
 | 2=>Ae m.f
 | 3=>A8 m.p (fun j=>if j<l then val (.sr j) else qv j)
 | 4=>Ae (m.s.getD a.ix default).2.2
 | _=>Ae (m.p.getD a.ix default).2.2
structure HC (W:World) (B:Nat) (val:Nm->Value) (m:Ac) (tv qv:Nat->Value) (k l:Nat):Prop where
 row:∀a,Fo k l a->W.ownsRow B (En a) (Em a) (val a) (AP m a) (Ii m val tv qv k l a)
 apart:∀a b,Fo k l a->Fo k l b->a≠b->∀g,(val a).ownBlock=some g->(val b).ownBlock≠some g
theorem Fo.cases {l:Nat}(h:Fo k l a):a=.r\/a=.s\/a=.f\/a=.p\/(∃j,a=.tab j/\j<k)\/∃j,a=.sr j/\j<l:=by
 obtain⟨x,j⟩:=a;rcases h with⟨h1,h2⟩|⟨h1,h2⟩|⟨h1,h2⟩
 ·dsimp only at h1 h2;subst h2
  match x,h1 with
  | 0,_=>exact .inl rfl
  | 1,_=>exact .inr (.inl rfl)
  | 2,_=>exact .inr (.inr (.inl rfl))
  | 3,_=>exact .inr (.inr (.inr (.inl rfl)))
 ·dsimp only at h1 h2;subst h1;exact .inr (.inr (.inr (.inr (.inl ⟨j,rfl,h2⟩))))
 ·dsimp only at h1 h2;subst h1;exact .inr (.inr (.inr (.inr (.inr ⟨j,rfl,h2⟩))))
theorem Fo.old {l:Nat}(h:Fo (k+1) l a)(hne:a≠.tab k):Fo k l a:=by
 rcases h.cases with rfl|rfl|rfl|rfl|⟨j,rfl,hj⟩|⟨j,rfl,hj⟩
 ·exact .inl ⟨by decide,rfl⟩
 ·exact .inl ⟨by decide,rfl⟩
 ·exact .inl ⟨by decide,rfl⟩
 ·exact .inl ⟨by decide,rfl⟩
 ·refine .inr (.inl ⟨rfl,?_⟩);rcases Dq j k with h|h
  ·exact h
  ·exact absurd (by rw[show j=k by omega]) hne
 ·exact .inr (.inr ⟨rfl,hj⟩)
theorem Fo.old' {l:Nat}(h:Fo k (l+1) a)(hne:a≠.sr l):Fo k l a:=by
 rcases h.cases with rfl|rfl|rfl|rfl|⟨j,rfl,hj⟩|⟨j,rfl,hj⟩
 ·exact .inl ⟨by decide,rfl⟩
 ·exact .inl ⟨by decide,rfl⟩
 ·exact .inl ⟨by decide,rfl⟩
 ·exact .inl ⟨by decide,rfl⟩
 ·exact .inr (.inl ⟨rfl,hj⟩)
 ·refine .inr (.inr ⟨rfl,?_⟩);rcases Dq j l with h|h
  ·exact h
  ·exact absurd (by rw[show j=l by omega]) hne
theorem HC.below {l:Nat}(h:HC W B val m tv qv k l)(hb:Bw W W'):HC W' B val m tv qv k l:=by
 refine⟨fun a ha=>?_,h.apart⟩;have hr:=h.row a ha;refine⟨hr.1,?_⟩;rcases hr.2 with hn|⟨g,cap,cur,hv,aa,hg,rest⟩
 ·exact .inl hn
 ·exact .inr ⟨g,cap,cur,hv,aa,(hb.block g (AA hg)).trans hg,rest⟩
theorem HC.done (h:HC W B val m tv qv m.s.length m.p.length):OI W B val m:=by
 refine⟨fun a ha=>?_,fun a b ha hb=>h.apart a b ha hb⟩;have e:Ii m val tv qv m.s.length m.p.length a=Bn m val a:=by
  rcases ha.cases with rfl|rfl|rfl|rfl|⟨j,rfl,hj⟩|⟨j,rfl,hj⟩<;>first|rfl|skip
  ·show A2 _ _=A2 _ _
   unfold A2;refine congrArg List.flatten (Ef fun j hj=>?_);dsimp only;rw[Ab (CR.1 hj)]
  ·show A8 _ _=A8 _ _
   unfold A8;refine congrArg List.flatten (Ef fun j hj=>?_);dsimp only;rw[Ab (CR.1 hj)]
 rw[<-e];exact h.row a ha
theorem XW {L:List AE}(h:∀j,j<L.length->tv' j=tv j):A8 L tv'=A8 L tv:=by
 unfold A8;refine congrArg List.flatten (Ef fun j hj=>?_);rw[h j (CR.1 hj)]
theorem Yg (htv:∀j,j≠t->tv' j=tv j):A2 L tv'=(A2 L tv).set (t*3+2) (tv' t):=by
 apply JB
 intro i;have hlen:=Gv L tv;rcases Dq i (L.length*3) with hi|hi
 ·obtain⟨j,r,hj,hr,rfl⟩:∃j r,j<L.length/\r<3/\i=j*3+r:=⟨i/3,i%3,oM,LC _ dE,oM⟩;obtain⟨a0,a1,a2⟩:=D3 (L:=L) (tv:=tv') hj;obtain⟨b0,b1,b2⟩:=D3 (L:=L) (tv:=tv) hj
  by_cases e:t=j
  ·subst e
   match r,hr with
   | 0,_=>rw[Fi,a0,FX oM,b0]
   | 1,_=>rw[a1,FX oM,b1]
   | 2,_=>rw[a2,ML (by rw[hlen];omega)]
  ·rw[htv j (fun x=>e x.symm)]at a2;rw[FX oM]
   match r,hr with
   | 0,_=>rw[Fi,a0,b0]
   | 1,_=>rw[a1,b1]
   | 2,_=>rw[a2,b2]
 ·rw[Ed (by rw[Gv];exact hi),Ed (by rw[Bi,Gv];exact hi)]
theorem XY {L:List AE}(htv:∀j,j≠t->tv' j=tv j):A8 L tv'=(A8 L tv).set (t*3+2) (tv' t):=by
 apply JB
 intro i;have hlen:=GX L tv;rcases Dq i (L.length*3) with hi|hi
 ·obtain⟨j,r,hj,hr,rfl⟩:∃j r,j<L.length/\r<3/\i=j*3+r:=⟨i/3,i%3,oM,LC _ dE,oM⟩;obtain⟨a0,a1,a2⟩:=Ew (S:=L) (qv:=tv') hj;obtain⟨b0,b1,b2⟩:=Ew (S:=L) (qv:=tv) hj
  by_cases e:t=j
  ·subst e
   match r,hr with
   | 0,_=>rw[Fi,a0,FX oM,b0]
   | 1,_=>rw[a1,FX oM,b1]
   | 2,_=>rw[a2,ML (by rw[hlen];omega)]
  ·rw[htv j (fun x=>e x.symm)]at a2;rw[FX oM]
   match r,hr with
   | 0,_=>rw[Fi,a0,b0]
   | 1,_=>rw[a1,b1]
   | 2,_=>rw[a2,b2]
 ·rw[Ed (by rw[GX];exact hi),Ed (by rw[Bi,GX];exact hi)]
theorem HC.tab {l:Nat}(h:HC W B val m tv qv k l)(hv:val .s=lZ g n cap)(hr:W.ownsRow B 3 1 v (m.s.getD k default).2.2.length (Ae (m.s.getD k default).2.2))(hf:∀a,Fo k l a->∀q,v.ownBlock=some q->(val a).ownBlock≠some q):HC (W.setCell (aD g (k*3+2)) v) B (Az val (.tab k) v) m tv qv (k+1) l:=by
 have hsl:Fo k l .s:=.inl ⟨by decide,rfl⟩;have ac:v.ownBlock≠some g:=fun e=>hf .s hsl g e (by rw[hv];rfl)
 have ab:n=m.s.length:=by
  rcases Di (h.row .s hsl) with⟨e,_⟩|⟨g',cap',e,_⟩
  ·rw[hv]at e;simp at e
  ·rw[hv]at e;simp at e;exact e.2.1
 refine⟨fun a ha=>?_,fun a b ha hb hne q hq=>?_⟩
 ·by_cases e:a=.tab k
  ·subst e;rw[Bh];exact Ds hr ac v
  ·have aa:=ha.old e;rw[Ap _ _ e]
   by_cases es:a=.s
   ·subst es;have hrs:=h.row .s hsl;have e1:Ii m (Az val (.tab k) v) tv qv (k+1) l .s=(Ii m val tv qv k l .s).set (k*3+2) v:=by
     have:=Yg (L:=m.s) (tv:=fun j=>if j<k then val (.tab j) else tv j) (tv':=fun j=>if j<k+1 then Az val (.tab k) v (.tab j) else tv j) (t:=k) (fun j hj=>by
      by_cases h1:j<k
      ·rw[Ab oM,Ab h1,Ap _ _ (by intro x;injection x with _ x;omega)]
      ·rw[Aa oM,Aa h1])
     rw[Ab oM,Bh]at this;exact this
    rw[e1];have hN:AP m .s=n:=ab.symm;rw[hN,hv]at hrs ⊢;exact(hrs.stored (k*3+2) v).1
   ·have e1:Ii m (Az val (.tab k) v) tv qv (k+1) l a=Ii m val tv qv k l a:=by
     rcases aa.cases with rfl|rfl|rfl|rfl|⟨j,rfl,hj⟩|⟨j,rfl,hj⟩<;>first|rfl|exact absurd rfl es
    rw[e1];exact Ds (h.row a aa) (h.apart .s a hsl aa (fun x=>es x.symm) g (by rw[hv];rfl)) v
 ·by_cases e:a=.tab k
  ·subst e;rw[Bh]at hq;rw[Ap _ _ (fun x=>hne x.symm)];exact hf b (hb.old (fun x=>hne x.symm)) q hq
  ·rw[Ap _ _ e]at hq
   by_cases e2:b=.tab k
   ·subst e2;rw[Bh];exact fun x=>hf a (ha.old e) q x hq
   ·rw[Ap _ _ e2];exact h.apart a b (ha.old e) (hb.old e2) hne q hq
theorem HC.sr {l:Nat}(h:HC W B val m tv qv k l)(hv:val .p=lZ g n cap)(hr:W.ownsRow B 3 1 v (m.p.getD l default).2.2.length (Ae (m.p.getD l default).2.2))(hf:∀a,Fo k l a->∀q,v.ownBlock=some q->(val a).ownBlock≠some q):HC (W.setCell (aD g (l*3+2)) v) B (Az val (.sr l) v) m tv qv k (l+1):=by
 have hsl:Fo k l .p:=.inl ⟨by decide,rfl⟩;have ac:v.ownBlock≠some g:=fun e=>hf .p hsl g e (by rw[hv];rfl)
 have ab:n=m.p.length:=by
  rcases Di (h.row .p hsl) with⟨e,_⟩|⟨g',cap',e,_⟩
  ·rw[hv]at e;simp at e
  ·rw[hv]at e;simp at e;exact e.2.1
 refine⟨fun a ha=>?_,fun a b ha hb hne q hq=>?_⟩
 ·by_cases e:a=.sr l
  ·subst e;rw[Bh];exact Ds hr ac v
  ·have aa:=ha.old' e;rw[Ap _ _ e]
   by_cases es:a=.p
   ·subst es;have hrs:=h.row .p hsl;have e1:Ii m (Az val (.sr l) v) tv qv k (l+1) .p=(Ii m val tv qv k l .p).set (l*3+2) v:=by
     have:=XY (L:=m.p) (tv:=fun j=>if j<l then val (.sr j) else qv j) (tv':=fun j=>if j<l+1 then Az val (.sr l) v (.sr j) else qv j) (t:=l) (fun j hj=>by
      by_cases h1:j<l
      ·rw[Ab oM,Ab h1,Ap _ _ (by intro x;injection x with _ x;omega)]
      ·rw[Aa oM,Aa h1])
     rw[Ab oM,Bh]at this;exact this
    rw[e1];have hN:AP m .p=n:=ab.symm;rw[hN,hv]at hrs ⊢;exact(hrs.stored (l*3+2) v).1
   ·have e1:Ii m (Az val (.sr l) v) tv qv k (l+1) a=Ii m val tv qv k l a:=by
     rcases aa.cases with rfl|rfl|rfl|rfl|⟨j,rfl,hj⟩|⟨j,rfl,hj⟩<;>first|rfl|exact absurd rfl es
    rw[e1];exact Ds (h.row a aa) (h.apart .p a hsl aa (fun x=>es x.symm) g (by rw[hv];rfl)) v
 ·by_cases e:a=.sr l
  ·subst e;rw[Bh]at hq;rw[Ap _ _ (fun x=>hne x.symm)];exact hf b (hb.old' (fun x=>hne x.symm)) q hq
  ·rw[Ap _ _ e]at hq
   by_cases e2:b=.sr l
   ·subst e2;rw[Bh];exact fun x=>hf a (ha.old' e) q x hq
   ·rw[Ap _ _ e2];exact h.apart a b (ha.old' e) (hb.old' e2) hne q hq
structure Hi (m:Ac):Prop where
 r:m.r.length*8<=EC
 s:m.s.length*48<=EC
 f:m.f.length*8<=EC
 p:m.p.length*48<=EC
 tab:∀j,j<m.s.length->(m.s.getD j default).2.2.length*8<=EC
 sr:∀j,j<m.p.length->(m.p.getD j default).2.2.length*8<=EC
def On (vr vs vf vn:Value):Nm->Value:=fun a=>if a.kind=0 then vr else if a.kind=1 then vs else if a.kind=2 then vf else vn
theorem HC.start {vr vs vf vn:Value}(h0:W.ownsRow B 3 1 vr m.r.length (Ae m.r))(h1:W.ownsRow B 85 3 vs m.s.length (A2 m.s tv))(h2:W.ownsRow B 3 1 vf m.f.length (Ae m.f))(h3:W.ownsRow B 87 3 vn m.p.length (A8 m.p qv))(a01:∀q,vs.ownBlock=some q->vr.ownBlock≠some q)(a02:∀q,vf.ownBlock=some q->vr.ownBlock≠some q)(a03:∀q,vn.ownBlock=some q->vr.ownBlock≠some q)(a12:∀q,vs.ownBlock=some q->vf.ownBlock≠some q)(a13:∀q,vn.ownBlock=some q->vs.ownBlock≠some q)(a23:∀q,vn.ownBlock=some q->vf.ownBlock≠some q):HC W B (On vr vs vf vn) m tv qv 0 0:=by
 refine⟨fun a ha=>?_,fun a b ha hb hne q hq=>?_⟩
 ·rcases ha.cases with rfl|rfl|rfl|rfl|⟨j,rfl,hj⟩|⟨j,rfl,hj⟩
  ·exact h0
  ·exact h1
  ·exact h2
  ·exact h3
  ·exact absurd hj (Dr _)
  ·exact absurd hj (Dr _)
 ·rcases ha.cases with rfl|rfl|rfl|rfl|⟨j,rfl,hj⟩|⟨j,rfl,hj⟩
  ·rcases hb.cases with rfl|rfl|rfl|rfl|⟨j,rfl,hj⟩|⟨j,rfl,hj⟩
   ·exact absurd rfl hne
   ·exact fun x=>a01 q x hq
   ·exact fun x=>a02 q x hq
   ·exact fun x=>a03 q x hq
   ·exact absurd hj (Dr _)
   ·exact absurd hj (Dr _)
  ·rcases hb.cases with rfl|rfl|rfl|rfl|⟨j,rfl,hj⟩|⟨j,rfl,hj⟩
   ·exact a01 q hq
   ·exact absurd rfl hne
   ·exact a12 q hq
   ·exact fun x=>a13 q x hq
   ·exact absurd hj (Dr _)
   ·exact absurd hj (Dr _)
  ·rcases hb.cases with rfl|rfl|rfl|rfl|⟨j,rfl,hj⟩|⟨j,rfl,hj⟩
   ·exact a02 q hq
   ·exact fun x=>a12 q x hq
   ·exact absurd rfl hne
   ·exact fun x=>a23 q x hq
   ·exact absurd hj (Dr _)
   ·exact absurd hj (Dr _)
  ·rcases hb.cases with rfl|rfl|rfl|rfl|⟨j,rfl,hj⟩|⟨j,rfl,hj⟩
   ·exact a03 q hq
   ·exact a13 q hq
   ·exact a23 q hq
   ·exact absurd rfl hne
   ·exact absurd hj (Dr _)
   ·exact absurd hj (Dr _)
  ·exact absurd hj (Dr _)
  ·exact absurd hj (Dr _)
theorem NT {s:An}(h:B1 s=true):s.2.2.length<=4:=by
 unfold B1 Cb at h
 split at h
 ·simp at h;rw[h.2];exact A7 _
 ·split at h
  ·simp at h;rw[h.2];exact A7 _
  ·split at h
   ·simp at h;rw[Dv h.1];exact Bc _
   ·cases h
theorem JV (h:As m=0):Hi m:=by
 obtain⟨h1,h2,h3,h4,h5,h6,h7⟩:=Au h;have hs:=A4 h2;have hR:∀s∈BN m,s.2.2.length<=5:=fun s hs=>by
  have hg:=Ax.1 h5 s hs;have hf:=Ax.1 h7 s hs;unfold BK at hg;unfold Bk at hf;simp only[B5,C4]at hg hf;omega
 have aa:=hR (⟨#[]⟩,m.g,m.r) CD;have aa:m.r.length<=5:=aa;have hr:EC=140737488355328:=N1;refine⟨oM,oM,oM,oM,fun j hj=>?_,fun j hj=>?_⟩
 ·have ok:=DO h2 hj;have e:m.s.getD j default=m.s[j]:=by simp[List.getD,hj]
  rw[e];have:m.s[j].2.2.length<=4:=NT ok;omega
 ·have e:m.p.getD j default=m.p[j]:=by simp[List.getD,hj]
  rw[e];have:=hR m.p[j] (CA _ (BS hj));omega
def Am (x:Int):UInt8:=UInt8.ofNat (x%256).toNat
def Bu (a:UInt8):Int:=if a.toNat=255 then -1 else (a.toNat:Int)
theorem RQ (h0:0<=x)(h:x<256):(Am x).toNat=x.toNat:=by
 unfold Am;rw[Ry];omega
theorem Xu {e:Int}(h:Cf e=true):Bu (Am e)=e:=by
 unfold Cf at h;simp only[Kd,B5,DH,C4]at h;rcases h with h|h|⟨h1,h2⟩
 ·subst h;rfl
 ·subst h;rfl
 ·unfold Bu;rw[RQ oM oM,Aa oM];omega
def Bv (s:An):List UInt8:=Am s.1::(s.2.1.data.toList++s.2.2.map Am)
def Ck (s:AE):List UInt8:=Am (s.1.size:Int)::(s.1.data.toList++Am s.2.1::s.2.2.map Am)
def Dh (m:Ac):List UInt8:=Am m.g::Am (m.s.length:Int)::(m.s.flatMap Bv++Am (m.p.length:Int)::(m.p.flatMap Ck++m.r.map Am))
def DL:List UInt8->Option (Nat × List UInt8)
 | []=>none
 | a::r=>some (a.toNat,r)
def II (n:Nat) (l:List UInt8):Option (List UInt8 × List UInt8):=if n<=l.length then some (l.take n,l.drop n) else none
def FN (n:Nat) (l:List UInt8):Option (List Int × List UInt8):=if n<=l.length then some ((l.take n).map Bu,l.drop n) else none
def Ma (k:Nat) (r:List UInt8):Option (An × List UInt8):=
 if k=0 then some ((0,⟨#[]⟩,[]),r) else if k=1 then (II 4 r).map (fun q=>((1,⟨q.1.toArray⟩,[]),q.2)) else if k=2 then (FN 4 r).map (fun q=>((2,⟨#[]⟩,q.1),q.2)) else none
def Ez (l:List UInt8):Option (An × List UInt8):=(DL l).bind fun a=>Ma a.1 a.2
def CT {α:Type} (f:List UInt8->Option (α × List UInt8)):Nat->List UInt8->Option (List α × List UInt8)
 | 0,l=>some ([],l)
 | n+1,l=>(CT f n l).bind fun q=>(f q.2).map fun p=>(q.1++[p.1],p.2)
def FO (l:List UInt8):Option (AE × List UInt8):=
 (DL l).bind fun a=>(II a.1 a.2).bind fun t=>(DL t.2).bind fun g=>(FN ((g.1+3)/4) g.2).map fun r=>((⟨t.1.toArray⟩,(g.1:Int),r.1),r.2)
def E7 (l:List UInt8):Option (Ac × List UInt8):=
 (DL l).bind fun g=>(DL g.2).bind fun n=>(CT Ez n.1 n.2).bind fun S=>(DL S.2).bind fun k=>(CT FO k.1 k.2).bind fun N=>(FN ((g.1+3)/4) N.2).map fun r=>(⟨(g.1:Int),r.1,S.1,[],N.1⟩,r.2)
def Gj (l:List UInt8):Option Ac:=(E7 l).bind fun q=>if q.2=[] then some q.1 else none
theorem Fk {α β:Type}{o:Option α}{f:α->Option β}{b:β}(h:o.bind f=some b):∃a,o=some a/\f a=some b:=by
 cases o with
 | none=>simp at h
 | some a=>exact⟨a,rfl,h⟩
theorem Jm {α β:Type}{o:Option α}{f:α->β}{b:β}(h:o.map f=some b):∃a,o=some a/\f a=b:=by
 cases o with
 | none=>simp at h
 | some a=>exact⟨a,rfl,by simpa using h⟩
theorem TR (t r:List UInt8):II t.length (t++r)=some (t,r):=by
 unfold II;rw[Ab (by simp)];simp
theorem Qo (es:List Int)(h:∀e∈es,Cf e=true)(r:List UInt8):FN es.length (es.map Am++r)=some (es,r):=by
 unfold FN;rw[Ab (by simp)];have e1:(es.map Am++r).take es.length=es.map Am:=by rw[Vz (by simp),DF (by simp)]
 have e2:(es.map Am++r).drop es.length=r:=by rw[Vy (by simp),MI (by simp)];rfl
 rw[e1,e2,OM];have:es.map (Bu ∘ Am)=es:=by
  conv=>rhs;rw[<-List.map_id es]
  exact Ef fun e he=>Xu (h e he)
 rw[this]
theorem RK {d:ByteArray}(h:d.size=0):d=⟨#[]⟩:=by
 obtain⟨a⟩:=d;have:a=#[]:=Vx h;rw[this]
theorem dm {s:An}(h:B1 s=true)(r:List UInt8):Ez (Bv s++r)=some (s,r):=by
 obtain⟨k,d,t⟩:=s;have he:=TA h;unfold B1 Cb at h;dsimp only at h he
 show Ma (Am k).toNat ((d.data.toList++t.map Am)++r)=_
 unfold Ma
 by_cases h0:k=0
 ·rw[Ab h0]at h;obtain⟨h1,h2⟩:=JK h;have h2:=Iq.1 h2;have hd:=RK h1;subst hd h2 h0;rw[Ab (by rfl)]
  rfl
 ·rw[Aa h0]at h
  by_cases h1:k=1
  ·rw[Ab h1]at h;obtain⟨h2,h3⟩:=JK h;have h3:=Iq.1 h3;subst h1 h3;have h4:d.data.toList.length=4:=h2;have:=TR d.data.toList r;rw[h4]at this;rw[Aa dE,Ab dE,Gr,JA,this]
   rfl
  ·rw[Aa h1]at h
   by_cases h2:k=2
   ·rw[Ab h2]at h;obtain⟨h3,_,h5⟩:=JK h;have hd:=RK h5;subst hd h2;have h4:t.length=4:=Dv h3;have:=Qo t he r;rw[h4]at this;rw[Aa dE,Aa dE,Ab dE]
    show Option.map _ (FN 4 (t.map Am++r))=_
    rw[this]
    rfl
   ·rw[Aa h2]at h;cases h
theorem Qq {α:Type}{f:List UInt8->Option (α × List UInt8)}{B:α->List UInt8}(L:List α)(hf:∀s∈L,∀r,f (B s++r)=some (s,r))(r:List UInt8):∀k,k<=L.length->CT f k (L.flatMap B++r)=some (L.take k,(L.drop k).flatMap B++r)
 | 0,_=>rfl
 | k+1,h=>by
  have hk:k<L.length:=oM;have ih:=Qq L hf r k oM
  show (CT f k (L.flatMap B++r)).bind _=_
  rw[ih]
  show Option.map _ (f ((L.drop k).flatMap B++r))=_
  rw[Lt hk,Rr,Ip,hf _ (BS hk)]
  show some (L.take k++[L[k]],(L.drop (k+1)).flatMap B++r)=_
  rw[Hg hk]
theorem Us (h40:L.length<=40){e:Int}(h:BZ L e=true):Cf e=true:=by
 unfold BZ C6 at h;unfold Cf;simp only[Bool.not_eq_true',Bool.and_eq_false_iff,bne_eq_false_iff_eq,Bool.not_eq_false',B5,C4]at h;simp only[Kd,B5,DH,C4];rcases h with h|⟨⟨h1,h2⟩,_⟩
 ·exact .inl h
 ·by_cases h0:e=0
  ·exact .inl h0
  ·exact .inr (.inr ⟨oM,oM⟩)
theorem L8 {L:List AE}(h:Cr L=true){s:AE}(hs:s∈L):s.1.size<=8:=by
 obtain⟨j,hj,e⟩:=Ee hs;have:=Ax.1 h j (CR.2 hj);unfold CJ BG at this;simp only[B5,C4]at this;have h8:=this.1.1.2;have e2:L.getD j default=s:=by simp[List.getD,hj,e]
 rw[e2]at h8;exact h8
theorem Mb (h0:0<=x)(h:x<256)(r:List UInt8):DL (Am x::r)=some (x.toNat,r):=by
 show some ((Am x).toNat,r)=_
 rw[RQ h0 h]
theorem dp (h:As m=0){s:AE}(hs:s∈m.p)(r:List UInt8):FO (Ck s++r)=some (s,r):=by
 obtain⟨f1,f2,f3,f4⟩:=Fb h (s:=s) (CA _ hs);have h8:=L8 (Au h).2.2.2.1 hs;have h40:=(A4 (Au h).2.1).2;obtain⟨nm,g,es⟩:=s;have f1:0<=g:=f1;have f2:g<=16:=f2;have f3:(es.length:Int)=(g+3)/4:=f3;have h8:nm.size<=8:=h8;have he:∀e∈es,Cf e=true:=fun e he=>Us h40 (Ax.1 f4 e he)
 have hl:nm.data.toList.length=nm.size:=rfl;have e1:DL (Ck (nm,g,es)++r)=some (nm.data.toList.length,(nm.data.toList++(Am g::(es.map Am++r)))):=by
  show DL (Am (nm.size:Int)::((nm.data.toList++Am g::es.map Am)++r))=_
  rw[Mb oM oM,Ip,Er,hl];simp
 have hg:(g.toNat+3)/4=es.length:=oM;unfold FO;rw[e1];simp only[I4];rw[TR];simp only[I4];rw[Mb f1 oM];simp only[I4];rw[hg,Qo es he]
 show some (((⟨nm.data.toList.toArray⟩:ByteArray),(g.toNat:Int),es),r)=_
 rw[Rq f1]
theorem dj (h:As m=0):E7 (Dh m)=some ({m with f:=[]},[]):=by
 obtain⟨z1,z2,_,_,_,_,_⟩:=Au h;have h40:=(A4 z2).2;obtain⟨g0,g16⟩:=Dg h;obtain⟨r1,r2⟩:=CQ h;have hall:m.s.all B1=true:=by
  unfold AD at z2;rw[Ab (A4 (Au h).2.1)]at z2
  split at z2
  ·rename_i hx;exact hx.1
  ·simp at z2
 have he:∀e∈m.r,Cf e=true:=fun e he=>Us h40 (Ax.1 r2 e he)
 have hg:(m.g.toNat+3)/4=m.r.length:=oM;unfold E7 Dh;rw[Mb g0 oM];simp only[I4];rw[Mb oM oM,A5];simp only[I4];rw[Qq m.s (fun s hs r=>dm (Ax.1 hall s hs) r) _ _ lE,Fz,Lu];simp only[I4,List.flatMap_nil,EY];rw[Mb oM oM,A5];simp only[I4];rw[Qq m.p (fun s hs r=>dp h hs r) _ _ lE,Fz,Lu];simp only[I4,List.flatMap_nil,EY];have:=Qo m.r he [];rw[JA]at this;rw[hg,this]
 show some ((⟨(m.g.toNat:Int),m.r,m.s,[],m.p⟩:Ac),([]:List UInt8))=_
 rw[Rq g0]
theorem dI (h:As m=0):Gj (Dh m)=some {m with f:=[]}:=by
 unfold Gj;rw[dj h]
 rfl
def Fx (m:Ac):Ac:={m with f:=AL m}
def Jz (m:Ac):Ac:={m with f:=BX m.s}
def ID (m:Ac):Bool:=As (Jz m) == 0 && Ao (Fx m) == 0
def Ie (l:List UInt8):Option Ac:=(Gj l).bind fun m=>if ID m=true then some (Fx m) else none
theorem Vp (h:Ao m=0):Fx {m with f:=[]} = m:=by
 unfold Fx;have:AL m=m.f:=by
  unfold Ao at h;rw[Aa (by rw[A0 (by unfold Ao;exact h)];simp)]at h
  split at h
  ·simp at h
  ·rename_i hx;simpa using hx
 show (⟨m.g,m.r,m.s,AL m,m.p⟩:Ac)=m
 rw[this]
theorem eF (h:Ao m=0):Ie (Dh m)=some m:=by
 have hs:=A0 h;unfold Ie;rw[dI hs]
 show (if ID {m with f:=[]} = true then some (Fx {m with f:=[]}) else none)=some m
 rw[Vp h,Ab];unfold ID;rw[Vp h,h];have:As (Jz {m with f:=[]})=0:=by
  obtain⟨z1,z2,z3,z4,z5,z6,z7⟩:=Au hs;have e:As (Jz {m with f:=[]})=As m:=by
   unfold As Jz BX;have:(List.replicate m.s.length (0:Int)).length=m.s.length:=by simp
   show (if 3<m.p.length then _ else if AD m.s≠0 then _ else if (List.replicate m.s.length (0:Int)).length≠m.s.length\/Cr m.p=false then _ else _)=_
   rw[this,z3]
   rfl
  rw[e];exact hs
 rw[this]
 rfl
theorem Fl {α:Type}{B:α->List UInt8}{c:Nat}:∀ (L:List α),(∀s∈L,(B s).length<=c)->(L.flatMap B).length<=c*L.length
 | [],_=>by simp
 | s::L,h=>by
  have h1:=h s CD;have h2:=Fl L (fun x hx=>h x (CA _ hx));rw[Rr,Bl,BF,Nat.mul_add];omega
theorem G5 {s:An}(h:B1 s=true):(Bv s).length<=9:=by
 have h4:=NT h;have h5:s.2.1.size<=4:=by
  obtain⟨k,d,t⟩:=s;unfold B1 Cb at h;dsimp only at h ⊢
  split at h
  ·have:=(JK h).1;omega
  ·split at h
   ·have:=(JK h).1;omega
   ·split at h
    ·have:=(JK h).2.2;omega
    ·cases h
 have:s.2.1.data.toList.length=s.2.1.size:=rfl;unfold Bv;simp only[BF,Bl,BH];omega
theorem KO (h:As m=0):(Dh m).length<=4096:=by
 obtain⟨z1,z2,_,z4,_,_,_⟩:=Au h;have h40:=(A4 z2).2;obtain⟨g0,g16⟩:=Dg h;obtain⟨r1,r2⟩:=CQ h;have hall:m.s.all B1=true:=by
  unfold AD at z2;rw[Ab (A4 (Au h).2.1)]at z2
  split at z2
  ·rename_i hx;exact hx.1
  ·simp at z2
 have l1:=Fl (c:=9) (B:=Bv) m.s (fun s hs=>G5 (Ax.1 hall s hs));have l2:=Fl (c:=14) (B:=Ck) m.p (fun s hs=>by
  obtain⟨f1,f2,f3,f4⟩:=Fb h (s:=s) (CA _ hs);have h8:=L8 z4 hs;have:s.1.data.toList.length=s.1.size:=rfl;unfold Ck;simp only[BF,Bl,BH];omega)
 unfold Dh;simp only[BF,Bl,BH];omega
section
open Go.Lib
def CS (l:List UInt8):List Value:=l.map (fun b=>Value.int .u8 (b.toNat:Int))
theorem Wc (l:List UInt8):(CS l).length=l.length:=by unfold CS;simp
theorem Pe (a b:List UInt8):CS (a++b)=CS a++CS b:=by unfold CS;simp
theorem Wd (s:ByteArray):strCells s=CS s.data.toList:=by
 first|rfl|(unfold strCells CS;simp)|(unfold strCells CS;simp[ByteArray.toList])
theorem NB:(prog.info? 5).map (fun i=>(i.zero,i.size,i.bytes))=some (some (.int .u8 0),1,1):=by kernel_rfl
theorem Kz (x:Int):((Am x).toNat:Int)=IntKind.u8.wrap x:=by
 unfold Am;rw[Ry];have e:IntKind.u8.wrap x=x%256:=by first|rfl|(simp[IntKind.wrap];done)|(unfold IntKind.wrap;simp)
 rw[e];omega
theorem cZ (W:World)(x:Value):∀ (j:Nat) (u:Value),[x][j]?=some u->(W.alloc (.cells #[x] 5)).cell? (((aZ W.heap.size):Addr).add j)=some u:=by
 intro j u hj;rw[EI,GT _ _ _ _ rfl]
 match j,hj with
 | 0,hj=>simpa using hj
theorem Ln {a:Act}(hgd:o.guard=none)(s x:Operand)(ho:o.op=.call {callee:=.builtin .append,args:=#[s,x],argTypes:=#[82,82]}){xs:List UInt8}{c:Int}(b:UInt8)(hc:c=(b.toNat:Int))(hs:a.eval s=v)(hx:a.eval x=lZ N 1 1)(hN:N=W.heap.size)(hown:W.ownsRow B 5 1 v n (CS xs))(hn:n<=100000)(hB:B<=W.heap.size)(h:∀v' w',Hd (w'.ownsRow B 5 1 v' (n+1) (CS (xs++[b])))->Hd ((W.alloc (.cells #[.int .u8 c] 5)).grownBy w' v.ownBlock)->wpList prog ops Q rest (a.put o.dst v') w'):wpList prog ops Q (o::rest) a (W.alloc (.cells #[.int .u8 c] 5)):=by
 subst hN;subst hc;obtain⟨i0,hi,hz0,aa,ab⟩:=Fj NB;refine JN hgd fun _ hK=>?_
 obtain⟨v',w',hr,g2,g3,_,g5⟩:=run_append_own_at (P:=prog) (W.alloc (.cells #[.int .u8 (b.toNat:Int)] 5)) B 82 o.type 5 i0 (.int .u8 0) 1 1 underlying82 hi hz0 aa ab rfl dE v n (CS xs) (hown.alloc _) (aZ W.heap.size) 1 1 [.int .u8 (b.toNat:Int)] rfl (cZ W _) (by intro u hu;simp at hu;subst hu;rfl) (by unfold maxLen;omega) oM (by simp;omega);unfold Oper.wp execOp;simp only[ho,resolve,invoke,builtin,Sem.run_bind,Sem.run_pure,GS,GQ,Dc,Gr,hs,hx,hr];exact hK _ _ (h v' w' (by rw[Pe];exact g2) g3)
theorem Rk {a:Act}(hgd:o.guard=none)(s x:Operand)(ho:o.op=.call {callee:=.builtin .append,args:=#[s,x],argTypes:=#[82,9]}){xs:List UInt8}(t:ByteArray)(hs:a.eval s=v)(hx:a.eval x=.string t)(hown:W.ownsRow B 5 1 v n (CS xs))(hn:n+t.size<=100000)(hB:B<=W.heap.size)(h:∀v' w',Hd (w'.ownsRow B 5 1 v' (n+t.size) (CS (xs++t.data.toList)))->Hd (W.grownBy w' v.ownBlock)->wpList prog ops Q rest (a.put o.dst v') w'):wpList prog ops Q (o::rest) a W:=by
 obtain⟨i0,hi,hz0,aa,ab⟩:=Fj NB;refine JN hgd fun _ hK=>?_
 obtain⟨v',w',hr,g2,g3,_⟩:=run_append_own_string (P:=prog) (w:=W) B 82 9 o.type 5 i0 underlying82 kR hi hz0 aa ab v n (CS xs) hown t (by unfold maxLen;omega) oM hB;unfold Oper.wp execOp;simp only[ho,resolve,invoke,builtin,Sem.run_bind,Sem.run_pure,GS,GQ,Dc,Gr,hs,hx,hr];exact hK _ _ (h v' w' (by rw[Pe,<-Wd];exact g2) g3)
def FE (W:World) (D q:Nat):Prop:=q<D\/(q≠D/\q<W.heap.size/\∀c z,W.heap[q]?≠some (.cells c 5 z))
structure Bs (W W':World) (D:Nat):Prop where
 os:W'.os=W.os
 tape:W'.tape=W.tape
 output:W'.output=W.output
 size:W.heap.size<=W'.heap.size
 keep:∀q,q<W.heap.size->FE W D q->W'.heap[q]?=W.heap[q]?
theorem Bs.refl (W:World)(D:Nat):Bs W W D:=⟨rfl,rfl,rfl,Bc _,fun _ _ _=>rfl⟩
theorem Bs.safe (h:Bs W W' D)(hq:q<W.heap.size)(hs:FE W D q):FE W' D q:=by
 rcases hs with x|⟨x,y,z⟩
 ·exact .inl x
 ·exact .inr ⟨x,AO y h.size,by rw[h.keep q hq (.inr ⟨x,y,z⟩)];exact z⟩
theorem Bs.trans {W'':World}(h:Bs W W' D)(k:Bs W' W'' D):Bs W W'' D:=
 ⟨k.os.trans h.os,k.tape.trans h.tape,k.output.trans h.output,Bg h.size k.size,fun q hq hs=>(k.keep q (AO hq h.size) (h.safe hq hs)).trans (h.keep q hq hs)⟩
theorem Bs.alloc (h:Bs W W' D)(o:Obj):Bs W (W'.alloc o) D:=
 h.trans ⟨rfl,rfl,rfl,by simp,fun q hq _=>Ch _ _ q hq⟩
theorem Bs.set (h:Bs W W' D)(i:Nat)(v:Value)(hD:D<W'.heap.size):Bs W (W'.setCell (aD D i) v) D:=
 h.trans ⟨rfl,rfl,rfl,by simp,fun q hq hs=>AN _ (aD D i) v q (by rcases hs with x|x;exact OW x;exact x.1)⟩
theorem Bs.below (h:Bs W W' D)(hB:B<=D)(hD:D<=W.heap.size):Below B W W':=⟨h.os,h.tape,h.output,h.size,fun q hq=>h.keep q oM (.inl oM)⟩
structure B4 (W:World) (D:Nat) (ov:Value) (l:List UInt8):Prop where
 box:W.heap[D]?=some (.cells #[ov] 127)
 row:W.ownsRow (D+1) 5 1 ov l.length (CS l)
theorem B4.lt (h:B4 W D ov l):D<W.heap.size:=(B6.1 h.box).1
theorem UE {xs:List Value}(h:W.ownsRow B e size v n xs)(hq:v.ownBlock=some q):∃c,W.heap[q]?=some (.cells c e (0,0)):=by
 rcases h.2 with⟨e1,_⟩|⟨g,cap,cur,e1,_,hg,_⟩
 ·rw[e1]at hq;cases hq
 ·rw[e1]at hq;cases hq;exact⟨cur,hg⟩
theorem gL (h:B4 W D ov l)(hs:FE W D q):some q≠ov.ownBlock:=fun e=>by
 rcases hs with x|⟨_,_,z⟩
 ·have:=(h.row.lt q e.symm).1;omega
 ·obtain⟨c,hc⟩:=UE h.row e.symm;exact z _ _ hc
theorem Vv {w':World}{v':Value}{l':List UInt8}(h:B4 W D ov l)(hn:l'.length=n)(g1:w'.ownsRow (D+1) 5 1 v' n (CS l'))(g2:W.grownBy w' ov.ownBlock):B4 (w'.setCell (aZ D) v') D v' l'/\Bs W (w'.setCell (aZ D) v') D:=by
 subst hn;have hD:=h.lt;have aa:some D≠ov.ownBlock:=fun e=>by have:=(h.row.lt D e.symm).1;omega
 have ab:v'.ownBlock≠some D:=fun e=>by have:=(g1.lt D e).1;omega
 have ac:=(g2.block D hD aa).trans h.box;refine⟨⟨Bf ac 0 v',Ds g1 (fun e=>ab e) _⟩,?_⟩;have hk:Bs W w' D:=⟨g2.os,g2.tape,g2.output,g2.size,fun q hq hs=>g2.block q hq (gL h hs)⟩;exact hk.set 0 v' (AO hD g2.size)
theorem B4.alloc (h:B4 W D ov l)(o:Obj):B4 (W.alloc o) D ov l:=⟨Aj h.box _,h.row.alloc _⟩
theorem Sl.kept {na:Option Addr}{nc:Nat}(h:Sl W (.slice na xs.length nc) xs)(hk:Bs W W' D)(hs:∀b off,xs≠[]->na=some (aD b off)->FE W D b):Sl W' (.slice na xs.length nc) xs:=by
 obtain⟨ao,cap,e,h1,h2,h3⟩:=h;refine⟨ao,cap,e,h1,h2,fun hne=>?_⟩;obtain⟨b,off,e2,hlt,hc⟩:=h3 hne;simp only[BP]at e;obtain⟨e3,_,_⟩:=e;have aa:=hk.keep b hlt (hs b off hne (e3.trans e2));exact⟨b,off,e2,AO hlt hk.size,fun j hj=>by rw[show W'.cell? (aD b (off+j))=W.cell? (aD b (off+j)) by simp only[World.cell?,aa]];exact hc j hj⟩
theorem eB (D:Nat)(na:Option Addr)(nc:Nat)(xs:List Int)(l:List UInt8)(ov:Value)(W:World)(hS:B4 W D ov l)(hx:Sl W (.slice na xs.length nc) xs)(hs:∀b off,xs≠[]->na=some (aD b off)->FE W D b)(hl:l.length+xs.length<=50000):Cl 114 #[pZ D,.slice na xs.length nc] W fun r W'=>r=.returned (.tuple #[])/\∃ov',B4 W' D ov' (l++xs.map Am)/\Bs W W' D:=by
 have HX:Hd (Sl W (.slice na xs.length nc) xs/\∀b off,xs≠[]->na=some (aD b off)->FE W D b):=⟨hx,hs⟩;have H0:Hd (∃ov',B4 W D ov' (l++(xs.take 0).map Am)/\Bs W W D):=⟨ov,by simpa using hS,Bs.refl _ _⟩;have an:xs.length<=50000:=oM;clear hS hx hs
 go_enter func114,ntmps114
 go_wp2_with fail
 go_loopw [5,8] (fun _ i wr=>∃k:Nat,k<=xs.length/\i=iI k/\Hd (∃ov',B4 wr D ov' (l++(xs.take k).map Am)/\Bs W wr D)) (fun _ i _=>xs.length-(RowKit.intOf i).toNat)
 case atStart=>exact⟨0,A7 _,rfl,H0⟩
 case round=>
  obtain⟨k,hk,rfl,HC⟩:=hrel;obtain⟨ov,hS,hK⟩:=HC.o
  by_cases hlk:k<xs.length
  ·have am:(k:Int)<(xs.length:Int):=oM;have ag:=HX.o.1.kept hK HX.o.2;obtain⟨b,off,ao,e0,_,aj,aa⟩:=ag.open oM;simp only[BP]at e0;obtain⟨rfl,_,rfl⟩:=e0;have cp:=aa k hlk;obtain⟨e,ae⟩:=nM (xs.getD k 0);rw[ae]at cp;have ab:xs[k]=e:=by rw[<-ae];simp[List.getD,hlk]
   have HT:Hd (l++(xs.take (k+1)).map Am=(l++(xs.take k).map Am)++[Am e]):=by
    show _=_
    rw[show xs.take (k+1)=xs.take k++[xs[k]] from (Hg hlk).symm,DQ,ab,Ip]
    rfl
   obtain⟨L,hL⟩:=nM (l++(xs.take k).map Am);rw[hL]at hS HT;have ai:L.length<=100000:=by rw[<-hL,Bl,BH,BI];omega
   have HS:Hd (B4 wr D ov L):=hS;have HK:Hd (Bs W wr D):=hK;have ac:=hS.row;have ad:=hS.box;have cD:wr.cell? (aZ D)=some ov:=by simp[World.cell?,ad]
   have fD:wr.frozen? (aZ D)=false:=Aq ad 0;have ah:=hS.lt;have al:(wr.alloc (.cells #[.int .u8 (IntKind.u8.wrap e)] 5)).cell? (aZ D)=some ov:=(I5 _ _ _ ah).trans cD;clear aa ae ab hL hS hK HC aj ag;go_wp2_with(at_builtin;refine Ln (by rfl) _ _ (by rfl) (W:=wr) (B:=D+1) (n:=L.length) (v:=ov) (xs:=L) (Am e) (by first|rfl|exact(Kz e).symm|(rw[Kz];done)|(rw[Kz];rfl)) (by rfl) (N:=wr.heap.size) (by rfl) (by rfl) ac ai oM ?_;intro v8 w8 g1 g2;obtain⟨ga,gc,ak⟩:=B0 g1.o;subst ak;have d8:=(g2.o.block D (by simp;omega) (fun e=>by have:=(ac.lt D e.symm).1;omega)).trans (Aj ad _);have c8:w8.cell? (aZ D)=some ov:=(by simp[World.cell?,d8]);have f8:w8.frozen? (aZ D)=false:=Aq d8 0);have HN:Hd (∃ov',B4 (w8.setCell (aZ D) (.slice ga (L.length+1) gc)) D ov' (l++(xs.take (k+1)).map Am)/\Bs W (w8.setCell (aZ D) (.slice ga (L.length+1) gc)) D):=by
    rw[HT.o];have af:=Vv (HS.o.alloc (.cells #[.int .u8 (IntKind.u8.wrap e)] 5)) (by simp) g1.o g2.o;exact⟨_,af.1,(HK.o.alloc _).trans af.2⟩
   go_roundw
   case rel=>exact⟨k+1,oM,by go_num,HN⟩
   case measure=>simp[RowKit.intOf];omega
  ·have ek:k=xs.length:=oM;subst ek;rw[Fz]at HC;go_wp2_with fail;obtain⟨ov',h1,h2⟩:=HC.o
   go_end0
   exact⟨rfl,ov',h1,h2⟩
theorem Jv {nv:Value}(hS:B4 W D ov l)(hx:Sl W nv xs)(hs:∀b off n c,xs≠[]->nv=lD b off n c->FE W D b)(hl:l.length+xs.length<=50000){L:List UInt8}(hL:l++xs.map Am=L):Cl 114 #[pZ D,nv] W fun r W'=>r=.returned (.tuple #[])/\∃ov',B4 W' D ov' L/\Bs W W' D:=by
 obtain⟨na,nc,rfl⟩:=hx.form;subst hL;exact eB D na nc xs l ov W hS hx (fun b off hn e=>hs b off _ _ hn (by rw[e])) hl
theorem Vh {t:ByteArray}(hS:B4 W D ov l)(hl:l.length+t.size<=50000){L:List UInt8}(hL:l++t.data.toList=L):Cl 170 #[pZ D,.string t] W fun r W'=>r=.returned (.tuple #[])/\∃ov',B4 W' D ov' L/\Bs W W' D:=by
 subst hL;have HS:Hd (B4 W D ov l):=hS;have aa:=hS.row;have ab:=hS.box;have cD:W.cell? (aZ D)=some ov:=by simp[World.cell?,ab]
 have fD:W.frozen? (aZ D)=false:=Aq ab 0;have ad:=hS.lt;clear hS
 go_enter func170,ntmps170
 go_wp2_with(at_builtin;refine Rk (by rfl) _ _ (by rfl) (B:=D+1) (n:=l.length) (v:=ov) (xs:=l) t (by rfl) (by rfl) aa oM oM ?_;intro v8 w8 g1 g2;obtain⟨ga,gc,ae⟩:=B0 g1.o;subst ae;have d8:=(g2.o.block D ad (fun e=>by have:=(aa.lt D e.symm).1;omega)).trans ab;have c8:w8.cell? (aZ D)=some ov:=(by simp[World.cell?,d8]);have f8:w8.frozen? (aZ D)=false:=Aq d8 0);have ac:=Vv HS.o (by rw[Bl];rfl) g1.o g2.o
 go_end0
 exact⟨rfl,_,ac.1,ac.2⟩
end
section
open Go.Lib
theorem Ik {c:Array Value}{z:Nat × Nat}(h:W.heap[q]?=some (.cells c e z))(hq:q≠D)(he:e≠5):FE W D q:=
 .inr ⟨hq,(AA h),fun c' z' x=>by rw[h]at x;injection x with x;injection x with _ x _;exact he x⟩
theorem Oa (h:W.heap[q]?=some (oI x)):Sl W (lZ q 1 1) [x]:=
 ⟨_,_,rfl,by unfold maxLen;simp,by simp,fun _=>⟨q,0,rfl,(AA h),fun j hj=>by
  have:j=0:=by simp at hj;exact hj
  subst this;simp[World.cell?,h]⟩⟩
theorem kr (D:Nat)(k:Int)(d:ByteArray)(ta:Option Addr)(tc:Nat)(es:List Int)(l:List UInt8)(ov:Value)(W:World)(hS:B4 W D ov l)(ht:Sl W (.slice ta es.length tc) es)(hts:∀b off,es≠[]->ta=some (aD b off)->FE W D b/\b<W.heap.size)(hl:l.length+d.size+es.length+10<=50000):Cl 115 #[pZ D,.agg #[iI k,.string d,.slice ta es.length tc]] W fun r W'=>r=.returned (.tuple #[])/\∃ov',B4 W' D ov' (l++Bv (k,d,es))/\Bs W W' D:=by
 let V:=(oS k d ta es.length tc)
 have aw:=hS.lt;have S0:=(hS.alloc V).alloc (oI k);have K0:Bs W ((W.alloc V).alloc (oI k)) D:=((Bs.refl W D).alloc V).alloc (oI k);have aa:((W.alloc V).alloc (oI k)).heap[W.heap.size]?=some V:=Aj (Aw _ _) _;have ac:((W.alloc V).alloc (oI k)).heap[W.heap.size+1]?=some (oI k):=AR (by simp[V]);have hx0:Sl ((W.alloc V).alloc (oI k)) (lZ (W.heap.size+1) 1 1) [k]:=Oa ac;have hz0:((W.alloc V).alloc (oI k)).heap.size=W.heap.size+2:=by simp[V]
 have af:(W.alloc V).heap[W.heap.size]?=some V:=Aw _ _;obtain⟨a0,a1,a2⟩:=BO af;obtain⟨al,am,an⟩:=BO aa;have ai:Hd (∃X,X=((W.alloc V).alloc (oI k))/\B4 X D ov l/\Bs W X D/\X.heap[W.heap.size]?=some V/\X.heap[W.heap.size+1]?=some (oI k)/\Sl X (lZ (W.heap.size+1) 1 1) [k]/\X.heap.size=W.heap.size+2):=⟨_,rfl,S0,K0,aa,ac,hx0,hz0⟩;have HT:Hd (Sl W (.slice ta es.length tc) es/\∀b off,es≠[]->ta=some (aD b off)->FE W D b/\b<W.heap.size):=⟨ht,hts⟩;clear S0 K0 aa ac hx0 af ht hts hS;dsimp only[V]at *;clear V
 go_enter func115,ntmps115
 go_wp2_with fail;clear a0 a1 a2 al am an hz0;obtain⟨w0,ag,S0,K0,aa,ac,hx0,hz0⟩:=ai.o;rw[<-ag];clear ag;refine(Jv S0 hx0 (fun b off n c _ e=>by simp only[BP,Ct,FR]at e;obtain⟨⟨rfl,_⟩,_⟩:=e;exact Ik ac oM dE) (by simp;omega) rfl).mono ?_;rintro e w1 ⟨rfl,aj,S1,K1⟩;have s1:=K1.size;have ab:w1.heap[W.heap.size]?=some (oS k d ta es.length tc):=(K1.keep _ (by have:=s1;simp<;>omega) (Ik aa oM dE)).trans aa;obtain⟨ao,ap,aq⟩:=BO ab;have H1:Hd (B4 w1 D aj (l++[k].map Am)/\Bs W w1 D/\w1.heap[W.heap.size]?=some (oS k d ta es.length tc)):=⟨S1,K0.trans K1,ab⟩;clear S0 K0 aa ac hx0 S1 K1 ab;go_wp2_with fail;clear ao ap aq;obtain⟨S1,K1,ab⟩:=H1.o;refine(Vh S1 (by simp;omega) rfl).mono ?_;rintro e w2 ⟨rfl,ak,S2,K2⟩;have s2:=K2.size;have ae:w2.heap[W.heap.size]?=some (oS k d ta es.length tc):=(K2.keep _ (by have:=s2;simp<;>omega) (Ik ab oM dE)).trans ab;obtain⟨ar,au,av⟩:=BO ae;have H2:Hd (B4 w2 D ak (l++[k].map Am++d.data.toList)/\Bs W w2 D):=⟨S2,K1.trans K2⟩;clear S1 K1 ab S2 K2 ae;go_wp2_with fail;clear ar au av;obtain⟨S2,K2⟩:=H2.o;refine(Jv S2 (HT.o.1.kept K2 (fun b off hn e=>(HT.o.2 b off hn e).1)) (fun b off n c hn e=>by simp only[BP]at e;exact K2.safe (HT.o.2 b off hn e.1).2 (HT.o.2 b off hn e.1).1) (by simp;have:d.data.toList.length=d.size:=rfl;omega) rfl).mono ?_;rintro e w9 ⟨rfl,ah,S9,K9⟩;have ad:B4 w9 D ah (l++Bv (k,d,es))/\Bs W w9 D:=by
  refine⟨?_,K2.trans K9⟩;have e9:l++Bv (k,d,es)=l++[k].map Am++d.data.toList++es.map Am:=by unfold Bv;simp
  rw[e9];exact S9
 clear S9 K9;go_wp2_with fail
 go_end0
 exact⟨rfl,ah,ad⟩
theorem ks (D:Nat)(k:Int)(d:ByteArray)(ta:Option Addr)(tc:Nat)(es:List Int)(l:List UInt8)(ov:Value)(W:World)(hS:B4 W D ov l)(ht:Sl W (.slice ta es.length tc) es)(hts:∀b off,es≠[]->ta=some (aD b off)->FE W D b/\b<W.heap.size)(hl:l.length+d.size+es.length+10<=50000):Cl 116 #[pZ D,.agg #[.string d,iI k,.slice ta es.length tc]] W fun r W'=>r=.returned (.tuple #[])/\∃ov',B4 W' D ov' (l++Ck (d,k,es))/\Bs W W' D:=by
 let U:=(oN d k ta es.length tc)
 let V:=((W.alloc U).alloc (oI (d.size:Int)))
 have aK:=hS.lt;have S0:=(hS.alloc U).alloc (oI (d.size:Int));have K0:Bs W V D:=((Bs.refl W D).alloc U).alloc (oI (d.size:Int));have aa:V.heap[W.heap.size]?=some U:=Aj (Aw _ _) _;have ac:V.heap[W.heap.size+1]?=some (oI (d.size:Int)):=AR (by simp[V,U]);have hx0:Sl V (lZ (W.heap.size+1) 1 1) [(d.size:Int)]:=Oa ac;have hz0:V.heap.size=W.heap.size+2:=by simp[V,U]
 have al:(W.alloc U).heap[W.heap.size]?=some U:=Aw _ _;obtain⟨a0,a1,a2⟩:=BO al;obtain⟨az,a6,a7⟩:=BO aa;have au:Hd (∃X,X=V/\B4 X D ov l/\Bs W X D/\X.heap[W.heap.size]?=some U/\X.heap[W.heap.size+1]?=some (oI (d.size:Int))/\Sl X (lZ (W.heap.size+1) 1 1) [(d.size:Int)]/\X.heap.size=W.heap.size+2):=⟨_,rfl,S0,K0,aa,ac,hx0,hz0⟩;have HT:Hd (Sl W (.slice ta es.length tc) es/\∀b off,es≠[]->ta=some (aD b off)->FE W D b/\b<W.heap.size):=⟨ht,hts⟩;clear S0 K0 aa ac hx0 al ht hts hS;dsimp only[V,U]at *;clear V U
 go_enter func116,ntmps116
 go_wp2_with fail;clear a0 a1 a2 az a6 a7 hz0;obtain⟨w0,am,S0,K0,aa,ac,hx0,hz0⟩:=au.o;rw[<-am];clear am;refine(Jv S0 hx0 (fun b off n c _ e=>by simp only[BP,Ct,FR]at e;obtain⟨⟨rfl,_⟩,_⟩:=e;exact Ik ac oM dE) (by simp;omega) rfl).mono ?_;rintro e w1 ⟨rfl,aw,S1,K1⟩;have s1:=K1.size;have ab:w1.heap[W.heap.size]?=some (oN d k ta es.length tc):=(K1.keep _ (by have:=s1;simp<;>omega) (Ik aa oM dE)).trans aa;obtain⟨a8,aA,aB⟩:=BO ab;have H1:Hd (B4 w1 D aw (l++[(d.size:Int)].map Am)/\Bs W w1 D/\w1.heap[W.heap.size]?=some (oN d k ta es.length tc)):=⟨S1,K0.trans K1,ab⟩;clear S0 K0 aa ac hx0 S1 K1 ab;go_wp2_with fail;clear a8 aA aB;obtain⟨S1,K1,ab⟩:=H1.o;refine(Vh S1 (by simp;omega) rfl).mono ?_;rintro e w2 ⟨rfl,ax,S2,K2⟩;have s2:=K2.size;have ae:w2.heap[W.heap.size]?=some (oN d k ta es.length tc):=(K2.keep _ (by have:=s2;simp<;>omega) (Ik ab oM dE)).trans ab;obtain⟨aC,aE,aF⟩:=BO ae;have aM:=K1.size;have aj:=S2.alloc (oI k);have ad:=Aj ae (oI k);have ah:(w2.alloc (oI k)).heap[w2.heap.size]?=some (oI k):=Aw _ _;have ao:=Oa ah;have ai:=(K1.trans K2).alloc (oI k);have H2:Hd (∃X,X=w2.alloc (oI k)/\B4 X D ax (l++[(d.size:Int)].map Am++d.data.toList)/\Bs W X D/\X.heap[W.heap.size]?=some (oN d k ta es.length tc)/\X.heap[w2.heap.size]?=some (oI k)/\Sl X (lZ w2.heap.size 1 1) [k]/\W.heap.size<w2.heap.size/\X.heap.size=w2.heap.size+1):=⟨_,rfl,aj,ai,ad,ah,ao,oM,by simp⟩;clear S1 K1 ab S2 K2 ae aj ai ad ah ao;go_wp2_with fail;clear aC aE aF;obtain⟨w3,an,S3,K3,af,aq,ap,av,aL⟩:=H2.o;rw[<-an];clear an;refine(Jv S3 ap (fun b off n c _ e=>by simp only[BP,Ct,FR]at e;obtain⟨⟨rfl,_⟩,_⟩:=e;exact Ik aq oM dE) (by simp;have:d.data.toList.length=d.size:=rfl;omega) rfl).mono ?_;rintro e w4 ⟨rfl,ay,S4,K4⟩;have s4:=K4.size;have ak:w4.heap[W.heap.size]?=some (oN d k ta es.length tc):=(K4.keep _ oM (Ik af oM dE)).trans af;obtain⟨aG,aH,aJ⟩:=BO ak;have H3:Hd (B4 w4 D ay (l++[(d.size:Int)].map Am++d.data.toList++[k].map Am)/\Bs W w4 D):=⟨S4,K3.trans K4⟩;clear S3 K3 af aq ap S4 K4 ak;go_wp2_with fail;clear aG aH aJ;obtain⟨S4,K4⟩:=H3.o;refine(Jv S4 (HT.o.1.kept K4 (fun b off hn e=>(HT.o.2 b off hn e).1)) (fun b off n c hn e=>by simp only[BP]at e;exact K4.safe (HT.o.2 b off hn e.1).2 (HT.o.2 b off hn e.1).1) (by simp;have:d.data.toList.length=d.size:=rfl;omega) rfl).mono ?_;rintro e w9 ⟨rfl,ar,S9,K9⟩;have ag:B4 w9 D ar (l++Ck (d,k,es))/\Bs W w9 D:=by
  refine⟨?_,K4.trans K9⟩;have e9:l++Ck (d,k,es)=l++[(d.size:Int)].map Am++d.data.toList++[k].map Am++es.map Am:=by unfold Ck;simp
  rw[e9];exact S9
 clear S9 K9;go_wp2_with fail
 go_end0
 exact⟨rfl,ar,ag⟩
end
section
open Go.Lib
def Ai (l:List UInt8):ByteArray:=⟨l.toArray⟩
def Rh (m:Ac):ByteArray:=if Ao m=0 then Ai (Dh m) else ⟨#[]⟩
theorem Ob (h:As m=0){s:AE}(hs:s∈m.p):(Ck s).length<=14:=by
 obtain⟨f1,f2,f3,f4⟩:=Fb h (s:=s) (CA _ hs);have h8:=L8 (Au h).2.2.2.1 hs;have:s.1.data.toList.length=s.1.size:=rfl;unfold Ck;simp only[BF,Bl,BH];omega
theorem U3 (h:As m=0):m.s.all B1=true:=by
 have z2:=(Au h).2.1;unfold AD at z2;rw[Ab (A4 (Au h).2.1)]at z2
 split at z2
 ·rename_i hx;exact hx.1
 ·simp at z2
theorem iu {y:Int}(h:W.heap[q]?=some (.cells #[iI x,iI y] 3)):Sl W (lZ q 2 2) [x,y]:=
 ⟨_,_,rfl,by unfold maxLen;simp,by simp,fun _=>⟨q,0,rfl,(AA h),fun j hj=>by
  have hj:j<2:=hj
  match j,hj with
  | 0,_=>simp[World.cell?,h]
  | 1,_=>simp[World.cell?,h]⟩⟩
theorem Qc {ra:Option Addr}{rc off c:Nat}(h:Sl w1 (.slice ra xs.length rc) xs)(hn:xs≠[])(e:Value.slice ra xs.length rc=lD b off n c):b<w1.heap.size:=by
 obtain⟨ao,cap,e1,_,_,hc⟩:=h;obtain⟨b',aa,e2,hlt,_⟩:=hc hn;rw[e]at e1;simp only[BP]at e1;rw[e2]at e1;have:=e1.1;simp only[Ct,FR]at this;rw[this.1];exact hlt
theorem R0 (h:W.ownsRow B 5 1 v l.length (CS l)):(convert 82 9 v).run prog W=.ok (.string (Ai l)) W:=by
 rcases h.2 with⟨e,hn⟩|⟨g,cap,cur,e,_,hg,_,_,_,ht⟩
 ·subst e;have:=Iq.1 hn;subst this;exact run_convert_nil_bytes W 82 9 5 0 underlying82 kR kR
 ·subst e;refine RA W 82 9 5 (aZ g) cap l underlying82 kR kR (fun j hj=>?_);have hr:=h.cells (g:=g) rfl j (.int .u8 (l[j].toNat:Int)) (by unfold CS;simp[hj]);exact hr
theorem Nb {wz wr:World}(h:Below D w1 wz)(k:Below D wz wr):Below D w1 wr:=h.trans k
theorem ku (ra:Option Addr)(rc:Nat)(sa:Option Addr)(sc:Nat)(fa:Option Addr)(fc:Nat)(na:Option Addr)(nc:Nat)(m:Ac)(w:World)(h:Al w (.agg (aI m ra rc sa sc fa fc na nc)) m)(hC:Ao m=0):Cl 60 #[.agg (aI m ra rc sa sc fa fc na nc)] w fun r w'=>r=.returned (.tuple #[.string (Ai (Dh m)),iI 0])/\Bw w w':=by
 let V:=(w.alloc (cA m ra rc sa sc fa fc na nc))
 have b0:Bw w V:=Av;have m0:V.heap[w.heap.size]?=some (cA m ra rc sa sc fa fc na nc):=Aw _ _;have aB:=EU (h.below b0) hC;have hs:=A0 hC;have h40:=(A4 (Au hs).2.1).2;have aQ:=(Au hs).1;have aK:=Dg hs;have hrt:=CQ hs;have aR:m.r.length<=4:=oM;have HP:Hd (Ao m=0/\As m=0):=⟨hC,hs⟩;have ag:Hd (m.s.all B1=true):=U3 hs;have c0:=five m0;have HM:Hd (V.heap[w.heap.size]?=some (cA m ra rc sa sc fa fc na nc)/\Bw w V/\Al V (.agg (aI m ra rc sa sc fa fc na nc)) m):=⟨m0,b0,h.below b0⟩;clear h m0 b0 hC hs aK hrt;dsimp only[V]at *;clear V
 go_enter func60,ntmps60
 go_wp2_with(go_at_call 38;refine aB.mono ?_;rintro e w1 ⟨rfl,b1⟩;have k1:=Ag HM.o.1 b1 (by simp);have d0:=five k1;have l1:=Aj k1 (.cells #[nl] 127);obtain⟨f0,f1,f2,f3,f4⟩:=five l1);clear c0 d0 f0 f1 f2 f3 f4 aB;have ar:w.heap.size<w1.heap.size:=by have:=b1.size;simp at this;omega
 have HI:Hd (Al w1 (.agg (aI m ra rc sa sc fa fc na nc)) m):=HM.o.2.2.below b1;have HD:Hd (w.heap.size<w1.heap.size/\Bw w1 (w1.alloc (.cells #[nl] 127))):=⟨ar,Av⟩;have HW:Hd (Bw w w1/\w1.heap[w.heap.size]?=some (cA m ra rc sa sc fa fc na nc)):=⟨Below.on HM.o.2.1 b1,k1⟩;have Sz:B4 (w1.alloc (.cells #[nl] 127)) w1.heap.size (nl) []:=⟨Aw _ _,DG _ _ _ _⟩;have S0:=Sz.alloc (.cells #[iI m.g,iI (m.s.length:Int)] 3);have au:((w1.alloc (.cells #[nl] 127)).alloc (.cells #[iI m.g,iI (m.s.length:Int)] 3)).heap[w1.heap.size+1]?=some (.cells #[iI m.g,iI (m.s.length:Int)] 3):=AR (by simp);have hx0:=iu au;have aH:Hd (Cl 114 #[pZ w1.heap.size,lZ (w1.heap.size+1) 2 2] ((w1.alloc (.cells #[nl] 127)).alloc (.cells #[iI m.g,iI (m.s.length:Int)] 3)) fun r W'=>r=.returned (.tuple #[])/\∃ov',B4 W' w1.heap.size ov' (Am m.g::Am (m.s.length:Int)::[])/\Bs ((w1.alloc (.cells #[nl] 127)).alloc (.cells #[iI m.g,iI (m.s.length:Int)] 3)) W' w1.heap.size):=Jv S0 hx0 (fun b off n c _ e=>by simp only[BP,Ct,FR]at e;obtain⟨⟨rfl,_⟩,_⟩:=e;exact Ik au oM dE) (by simp) rfl;have ai:Hd ((w1.alloc (.cells #[nl] 127)).heap[w.heap.size]?=some (cA m ra rc sa sc fa fc na nc)):=l1;clear S0 au hx0 Sz l1 k1 b1;refine aH.o.mono ?_;rintro e w2 ⟨rfl,aL,S2,K2⟩;have am:Bs (w1.alloc (.cells #[nl] 127)) w2 w1.heap.size:=(Bs.alloc (Bs.refl _ _) _).trans K2;have b2:w2.heap[w.heap.size]?=some (cA m ra rc sa sc fa fc na nc):=(am.keep _ (by simp;omega) (.inl HD.o.1)).trans ai.o;have ax:Hd (∃ov,B4 w2 w1.heap.size ov ((Am m.g::Am (m.s.length:Int)::[])++(m.s.take 0).flatMap Bv)/\Bs (w1.alloc (.cells #[nl] 127)) w2 w1.heap.size):=⟨aL,by simpa using S2,am⟩;clear S2 K2 am;have g0:=five b2;clear b2;go_wp2_with fail
 go_loopw [7,25] (fun _ i wr=>∃k:Nat,k<=m.s.length/\i=iI k/\Hd (∃ov,B4 wr w1.heap.size ov ((Am m.g::Am (m.s.length:Int)::[])++(m.s.take k).flatMap Bv)/\Bs (w1.alloc (.cells #[nl] 127)) wr w1.heap.size)) (fun _ i _=>m.s.length-(RowKit.intOf i).toNat)
 case atStart=>exact⟨0,A7 _,rfl,ax⟩
 case round=>
  obtain⟨k,hk,rfl,HC⟩:=hrel
  by_cases hlk:k<m.s.length
  ·have aj:(k:Int)<(m.s.length:Int):=oM;obtain⟨ov,hS,hK⟩:=HC.o;have ac:Bw w1 wr:=Nb HD.o.2 (hK.below (Bc w1.heap.size) (by simp));obtain⟨sb,so,aN,e,_,ad,ah⟩:=HI.o.four.2.1.open oM;simp only[BP]at e;obtain⟨rfl,_,rfl⟩:=e;obtain⟨tv,p0,p1,p2,ps⟩:=ah k hlk;obtain⟨⟨kk,dd,es⟩,af⟩:∃s,m.s[k]=s:=⟨_,rfl⟩;rw[af]at p0 p1 ps;have ps:Sl w1 tv es:=ps;obtain⟨ta,tc,rfl⟩:=ps.form;have q0:wr.cell? (aD sb (so+k*3))=some (iI kk):=(ac.cell (p:=(aD sb (so+k*3))) ad).trans p0;have q1:wr.cell? (aD sb (so+k*3+1))=some (.string dd):=(ac.cell (p:=(aD sb (so+k*3+1))) ad).trans p1;have q2:wr.cell? (aD sb (so+k*3+1+1))=some (.slice ta es.length tc):=(ac.cell (p:=(aD sb (so+k*3+1+1))) ad).trans p2;have qs:=ps.below ac;have aa:∀b off,es≠[]->ta=some (aD b off)->b<w1.heap.size:=fun b off hn e=>Qc ps hn (by rw[e])
   have ao:(((Am m.g::Am (m.s.length:Int)::[])++(m.s.take k).flatMap Bv)).length<=1000:=by
    have:=Fl (c:=9) (B:=Bv) (m.s.take k) (fun s hs=>G5 (Ax.1 ag.o s (Kh hs)));simp only[Bl,BF,C1,BI]at this ⊢;have:9*min k m.s.length<=360:=oM;omega
   have ap:dd.size+es.length<=100:=by
    have ae:(kk,dd,es)∈m.s:=by rw[<-af];exact BS _
    have:=G5 (Ax.1 ag.o (kk,dd,es) ae);unfold Bv at this;simp only[BF,Bl,BH]at this;have e:dd.data.toList.length=dd.size:=rfl;omega
   have al:Hd (((Am m.g::Am (m.s.length:Int)::[])++(m.s.take (k+1)).flatMap Bv)=((Am m.g::Am (m.s.length:Int)::[])++(m.s.take k).flatMap Bv)++Bv (kk,dd,es)):=by
    show _=_
    rw[show m.s.take (k+1)=m.s.take k++[m.s[k]] from (Hg hlk).symm,Hb,af];simp
   have aJ:=hS.lt;have ak:Hd (Cl 115 #[pZ w1.heap.size,.agg #[iI kk,.string dd,.slice ta es.length tc]] (wr.alloc (oS kk dd ta es.length tc)) fun r W'=>r=.returned (.tuple #[])/\∃ov',B4 W' w1.heap.size ov' (((Am m.g::Am (m.s.length:Int)::[])++(m.s.take k).flatMap Bv)++Bv (kk,dd,es))/\Bs (wr.alloc (oS kk dd ta es.length tc)) W' w1.heap.size):=kr w1.heap.size kk dd ta tc es _ ov _ (hS.alloc _) (qs.past _) (fun b off hn e=>⟨.inl (aa b off hn e),by have:=aa b off hn e;simp;omega⟩) oM;have HK:Hd (Bs (w1.alloc (.cells #[nl] 127)) wr w1.heap.size):=hK;clear ah af qs hS hK HC ac ao ap aa p0 p1 p2 ps ad;have ab:(wr.alloc (oS kk dd ta es.length tc)).heap[wr.heap.size]?=some (oS kk dd ta es.length tc):=Aw _ _;obtain⟨x0,x1,x2⟩:=BO ab;clear ab;go_wp2_with(go_at_call 115;refine ak.o.mono ?_;rintro e9 w9 ⟨rfl,aw,S9,K9⟩;have HN:Hd (∃ov,B4 w9 w1.heap.size ov ((Am m.g::Am (m.s.length:Int)::[])++(m.s.take (k+1)).flatMap Bv)/\Bs (w1.alloc (.cells #[nl] 127)) w9 w1.heap.size):=(by rw[al.o];exact⟨aw,S9,(HK.o.alloc _).trans K9⟩);clear S9 K9);go_roundw
   case rel=>exact⟨k+1,oM,by go_num,HN⟩
   case measure=>simp[RowKit.intOf];omega
  ·have ek:k=m.s.length:=oM;have aj:¬(k:Int)<(m.s.length:Int):=oM;clear g0 ax;obtain⟨ov,hS,hK⟩:=HC.o;rw[ek,Fz]at hS;have aF:Hd (k=m.s.length):=ek;clear ek;obtain⟨w3,aq⟩:∃X,X=wr:=⟨_,rfl⟩;subst aq;have b3:w3.heap[w.heap.size]?=some (cA m ra rc sa sc fa fc na nc):=(hK.keep _ (by simp;omega) (.inl HD.o.1)).trans ai.o;have aO:=hS.lt;have a8:=Aj b3 (oI (m.p.length:Int));have S3:=hS.alloc (oI (m.p.length:Int));have av:(w3.alloc (oI (m.p.length:Int))).heap[w3.heap.size]?=some (oI (m.p.length:Int)):=Aw _ _;have aC:=Oa av;have hlen:((Am m.g::Am (m.s.length:Int)::[])++m.s.flatMap Bv).length<=1000:=by
    have:=Fl (c:=9) (B:=Bv) m.s (fun s hs=>G5 (Ax.1 ag.o s hs));simp only[Bl,BF,C1];omega
   have a6:Hd (Cl 114 #[pZ w1.heap.size,lZ w3.heap.size 1 1] (w3.alloc (oI (m.p.length:Int))) fun r W'=>r=.returned (.tuple #[])/\∃ov',B4 W' w1.heap.size ov' ((Am m.g::Am (m.s.length:Int)::[])++m.s.flatMap Bv++[Am (m.p.length:Int)])/\Bs (w3.alloc (oI (m.p.length:Int))) W' w1.heap.size):=Jv S3 aC (fun b off n c _ e=>by simp only[BP,Ct,FR]at e;obtain⟨⟨rfl,_⟩,_⟩:=e;exact Ik av oM dE) (by simp only[Hf];omega) rfl;have az:Hd (Bs (w1.alloc (.cells #[nl] 127)) w3 w1.heap.size):=hK;have g0:=five b3;have j0:=five a8;clear S3 av aC hS hK HC b3 a8 hlen;go_wp2_with fail;refine a6.o.mono ?_;rintro e w4 ⟨rfl,aM,S4,K4⟩;have an:Bs (w1.alloc (.cells #[nl] 127)) w4 w1.heap.size:=(az.o.alloc _).trans K4;have b4:w4.heap[w.heap.size]?=some (cA m ra rc sa sc fa fc na nc):=(an.keep _ (by simp;omega) (.inl HD.o.1)).trans ai.o;have ay:Hd (∃ov,B4 w4 w1.heap.size ov (((Am m.g::Am (m.s.length:Int)::[])++m.s.flatMap Bv++[Am (m.p.length:Int)])++(m.p.take 0).flatMap Ck)/\Bs (w1.alloc (.cells #[nl] 127)) w4 w1.heap.size):=⟨aM,by simpa using S4,an⟩;clear S4 K4 an g0 j0 a6 az;have g0:=five b4;clear aj hlk hk b4 aF;go_wp2_with fail
   go_loopw [9,40] (fun _ i wr=>∃k:Nat,k<=m.p.length/\i=iI k/\Hd (∃ov,B4 wr w1.heap.size ov (((Am m.g::Am (m.s.length:Int)::[])++m.s.flatMap Bv++[Am (m.p.length:Int)])++(m.p.take k).flatMap Ck)/\Bs (w1.alloc (.cells #[nl] 127)) wr w1.heap.size)) (fun _ i _=>m.p.length-(RowKit.intOf i).toNat)
   case atStart=>exact⟨0,A7 _,rfl,ay⟩
   case round=>
    obtain⟨k,hk,rfl,HC⟩:=hrel
    by_cases hlk:k<m.p.length
    ·have aj:(k:Int)<(m.p.length:Int):=oM;obtain⟨ov,hS,hK⟩:=HC.o;have ac:Bw w1 wr:=Nb HD.o.2 (hK.below (Bc w1.heap.size) (by simp));obtain⟨sb,so,aN,e,_,ad,ah⟩:=HI.o.four.2.2.2.open oM;simp only[BP]at e;obtain⟨rfl,_,rfl⟩:=e;obtain⟨tv,p0,p1,p2,ps⟩:=ah k hlk;obtain⟨⟨dd,kk,es⟩,af⟩:∃s,m.p[k]=s:=⟨_,rfl⟩;rw[af]at p0 p1 ps;have ps:Sl w1 tv es:=ps;obtain⟨ta,tc,rfl⟩:=ps.form;have q0:wr.cell? (aD sb (so+k*3))=some (.string dd):=(ac.cell (p:=(aD sb (so+k*3))) ad).trans p0;have q1:wr.cell? (aD sb (so+k*3+1))=some (iI kk):=(ac.cell (p:=(aD sb (so+k*3+1))) ad).trans p1;have q2:wr.cell? (aD sb (so+k*3+1+1))=some (.slice ta es.length tc):=(ac.cell (p:=(aD sb (so+k*3+1+1))) ad).trans p2;have qs:=ps.below ac;have aa:∀b off,es≠[]->ta=some (aD b off)->b<w1.heap.size:=fun b off hn e=>Qc ps hn (by rw[e])
     have ao:((((Am m.g::Am (m.s.length:Int)::[])++m.s.flatMap Bv++[Am (m.p.length:Int)])++(m.p.take k).flatMap Ck)).length<=1000:=by
      have h1:=Fl (c:=9) (B:=Bv) m.s (fun s hs=>G5 (Ax.1 ag.o s hs));have h2:=Fl (c:=14) (B:=Ck) (m.p.take k) (fun s hs=>Ob HP.o.2 (Kh hs));simp only[Bl,BF,C1,BI]at h2 ⊢;have:14*min k m.p.length<=42:=oM;omega
     have ap:dd.size+es.length<=100:=by
      have ae:(dd,kk,es)∈m.p:=by rw[<-af];exact BS _
      obtain⟨f1,f2,f3,f4⟩:=Fb HP.o.2 (s:=(dd,kk,es)) (CA _ ae);have f2:kk<=16:=f2;have f3:(es.length:Int)=(kk+3)/4:=f3;have h8:dd.size<=8:=L8 (Au HP.o.2).2.2.2.1 ae;omega
     have al:Hd ((((Am m.g::Am (m.s.length:Int)::[])++m.s.flatMap Bv++[Am (m.p.length:Int)])++(m.p.take (k+1)).flatMap Ck)=(((Am m.g::Am (m.s.length:Int)::[])++m.s.flatMap Bv++[Am (m.p.length:Int)])++(m.p.take k).flatMap Ck)++Ck (dd,kk,es)):=by
      show _=_
      rw[show m.p.take (k+1)=m.p.take k++[m.p[k]] from (Hg hlk).symm,Hb,af];simp
     have aJ:=hS.lt;have ak:Hd (Cl 116 #[pZ w1.heap.size,.agg #[.string dd,iI kk,.slice ta es.length tc]] (wr.alloc (oN dd kk ta es.length tc)) fun r W'=>r=.returned (.tuple #[])/\∃ov',B4 W' w1.heap.size ov' ((((Am m.g::Am (m.s.length:Int)::[])++m.s.flatMap Bv++[Am (m.p.length:Int)])++(m.p.take k).flatMap Ck)++Ck (dd,kk,es))/\Bs (wr.alloc (oN dd kk ta es.length tc)) W' w1.heap.size):=ks w1.heap.size kk dd ta tc es _ ov _ (hS.alloc _) (qs.past _) (fun b off hn e=>⟨.inl (aa b off hn e),by have:=aa b off hn e;simp;omega⟩) oM;have HK:Hd (Bs (w1.alloc (.cells #[nl] 127)) wr w1.heap.size):=hK;clear ah af qs hS hK HC ac ao ap aa p0 p1 p2 ps ad;have ab:(wr.alloc (oN dd kk ta es.length tc)).heap[wr.heap.size]?=some (oN dd kk ta es.length tc):=Aw _ _;obtain⟨x0,x1,x2⟩:=BO ab;clear ab;go_wp2_with(go_at_call 116;refine ak.o.mono ?_;rintro e9 w9 ⟨rfl,aw,S9,K9⟩;have HN:Hd (∃ov,B4 w9 w1.heap.size ov (((Am m.g::Am (m.s.length:Int)::[])++m.s.flatMap Bv++[Am (m.p.length:Int)])++(m.p.take (k+1)).flatMap Ck)/\Bs (w1.alloc (.cells #[nl] 127)) w9 w1.heap.size):=(by rw[al.o];exact⟨aw,S9,(HK.o.alloc _).trans K9⟩);clear S9 K9);go_roundw
     case rel=>exact⟨k+1,oM,by go_num,HN⟩
     case measure=>simp[RowKit.intOf];omega
    ·have ek:k=m.p.length:=oM;have aj:¬(k:Int)<(m.p.length:Int):=oM;clear g0 ay;obtain⟨ov,hS,hK⟩:=HC.o;rw[ek,Fz]at hS;clear ek;obtain⟨w5,aq⟩:∃X,X=wr:=⟨_,rfl⟩;subst aq;have b5:w5.heap[w.heap.size]?=some (cA m ra rc sa sc fa fc na nc):=(hK.keep _ (by simp;omega) (.inl HD.o.1)).trans ai.o;have aA:=HI.o.below (show Bw w1 w5 from Nb HD.o.2 (hK.below (Bc w1.heap.size) (by simp)));have aa:∀b off n c,m.r≠[]->Value.slice ra m.r.length rc=lD b off n c->FE w5 w1.heap.size b:=fun b off n c hn e=>.inl (Qc HI.o.four.1 hn e)
     have hlen:(((Am m.g::Am (m.s.length:Int)::[])++m.s.flatMap Bv++[Am (m.p.length:Int)])++m.p.flatMap Ck).length<=1000:=by
      have h1:=Fl (c:=9) (B:=Bv) m.s (fun s hs=>G5 (Ax.1 ag.o s hs));have h2:=Fl (c:=14) (B:=Ck) m.p (fun s hs=>Ob HP.o.2 hs);simp only[Bl,BF,C1];omega
     have a7:Hd (Cl 114 #[pZ w1.heap.size,.slice ra m.r.length rc] w5 fun r W'=>r=.returned (.tuple #[])/\∃ov',B4 W' w1.heap.size ov' (Dh m)/\Bs w5 W' w1.heap.size):=Jv hS aA.four.1 aa oM (by unfold Dh;simp);have aG:Hd (Bs (w1.alloc (.cells #[nl] 127)) w5 w1.heap.size):=hK;have g0:=five b5;clear hS hK HC b5 aA aa hlen;go_wp2_with fail;refine a7.o.mono ?_;rintro e w6 ⟨rfl,aE,S6,K6⟩;clear g0;have cD:w6.cell? (aZ w1.heap.size)=some aE:=by simp[World.cell?,S6.box]
     have aP:(convert 82 9 aE).run prog w6=.ok (.string (Ai (Dh m))) w6:=R0 S6.row;have HB:Hd (Bw w w6):=HW.o.1.trans ((Nb HD.o.2 ((aG.o.trans K6).below (Bc w1.heap.size) (by simp))).mono (by have:=HD.o.1;omega));clear S6 K6 a7;go_wp2_with fail
     go_ret2
     exact⟨rfl,HB.o⟩
theorem kv (h:Al w v m)(hR:Ao m=0){S:ByteArray}{E:Int}(hS:Rh m=S)(hE:Ao m=E):Cl 60 #[v] w fun r w'=>r=.returned (.tuple #[.string S,iI E])/\Bw w w':=by
 have h':=h;obtain⟨ra,rc,sa,sc,fa,fc,na,nc,rfl,_⟩:=h.parts;subst hS
 by_cases hC:Ao m=0
 ·rw[hC]at hE;subst hE;unfold Rh;rw[Ab hC];exact ku ra rc sa sc fa fc na nc m w h' hC
 ·exact absurd hR hC
end
def bytes (s:ByteArray):List UInt8:=s.data.toList
def Tz (l:List UInt8):ByteArray:=⟨l.toArray⟩
theorem RS (s:ByteArray)(a b:Nat):bytes (s.extract a b)=((bytes s).drop a).take (b-a):=Lib.extract_data s a b
theorem eV (n:Nat):Lib.repeatL [0] n=List.replicate n 0:=by
 induction n with
 | zero=>rfl
 | succ n ih=>rw[Lib.repeatL,ih];rfl
section
open Go.Lib
abbrev kq:List PanicEntry:=[{v:=.iface 178 (.agg #[]),recovered:=false}]
theorem Kx (u:ByteArray):Ai (bytes u)=u:=by
 unfold Ai bytes
 cases u
 simp
theorem RR (l:List UInt8):bytes (Ai l)=l:=by unfold Ai bytes;simp
theorem Cx (l:List UInt8):(Ai l).size=l.length:=by unfold Ai;simp[ByteArray.size]
theorem Wb (l:List UInt8)(n:Nat):(Ai l).extract 0 n=Ai (l.take n):=by
 rw[<-Kx ((Ai l).extract 0 n),RS,RR];simp
theorem V9 (l:List UInt8)(n:Nat):(Ai l).extract n (Ai l).size=Ai (l.drop n):=by
 rw[<-Kx ((Ai l).extract n (Ai l).size),RS,RR,Cx];rw[DF (by simp)]
theorem QM (R n:Nat)(l:List UInt8)(W:World)(hb:W.heap[R]?=some (.cells #[.string (Ai (l))] 180))(hn:n<=l.length)(hm:l.length<=4096):Cl 228 #[pZ R,iI (n:Int)] W fun r W'=>r=.returned (.string (Ai (l.take n)))/\W'=W.setCell (aZ R) (.string (Ai (l.drop n))):=by
 have c0:W.cell? (aZ R)=some (.string (Ai l)):=by simp[World.cell?,hb]
 have f0:=Aq hb 0;have ht:=Wb l n;have hd:=V9 l n;obtain⟨u,hu⟩:=nM (Ai l);have hsz:u.size=l.length:=by rw[<-hu,Cx]
 rw[hu]at c0 ht hd;have h1:n<=u.size:=oM;have h2:(n:Int)<=(u.size:Int):=oM;have h3:¬(u.size:Int)<(n:Int):=oM;have h4:u.size<=4096:=oM;have HT:Hd (u.extract 0 n=Ai (l.take n)/\u.extract n u.size=Ai (l.drop n)):=⟨ht,hd⟩;clear ht hd hu hsz hb hm hn
 go_enter func228,ntmps228
 go_wp2
 go_ret;exact⟨by rw[<-HT.o.1];rfl,by rw[<-HT.o.2]⟩
theorem IL (R:Nat)(a:UInt8)(l:List UInt8)(W:World)(hb:W.heap[R]?=some (.cells #[.string (Ai (a::l))] 180))(hm:l.length<4096):Cl 204 #[pZ R] W fun r W'=>r=.returned (iI (a.toNat:Int))/\W'=W.setCell (aZ R) (.string (Ai l)):=by
 have hc:=QM R 1 (a::l) W hb (by simp) (by simp;omega);have ha:a.toNat<256:=a.toNat_lt;have aa:0<(Ai [a]).size:=by rw[Cx];simp
 have ab:(0:Int)<((Ai [a]).size:Int):=oM
 go_enter func204,ntmps204
 go_wp2_with(go_at_call 228;refine hc.mono ?_;rintro e w1 ⟨rfl,hw⟩;rw[hw];clear hw);go_ret;exact⟨Cj (by show wrap64 (a.toNat:Int)=(a.toNat:Int);unfold wrap64;omega),rfl⟩
end
end Go.Proofs.YtfciijncfbepjaaGreatDoor
