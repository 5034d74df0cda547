/- Texts joined: OwC, WiL, WiM, WiJ, WiK, First, With, Cut, SameInts, OxL, OxC, SlotRef, TbdI, TbdJ, OxT, FlPlain, WrR, WrA, SetI, CpyI. -/
import Derived.Test.YtfciijncfbepjaaGreatDoorDeskPlaysJ5
import Derived.Test.YtfciijncfbepjaaGreatDoorDeskPlaysJ2
import Derived.Test.YtfciijncfbepjaaGreatDoorDeskPlaysJ4
import Derived.Deep.RegionHeld
import Derived.Deep.CutRange
import Derived.Test.YtfciijncfbepjaaGreatDoorDeskPlaysJ3
import Derived.Defers
import Derived.Recover
import Derived.Laws.CopyOwn
import Derived.Deep.QuietTactic
import Derived.BigQuiet
set_option linter.unusedVariables false
set_option linter.unusedSimpArgs false
set_option maxHeartbeats 200000000
set_option maxRecDepth 20000
namespace Go.Proofs.YtfciijncfbepjaaGreatDoor
open Go.Proofs.Tryz
variable {M m p:Ac}{val:Nm->Value}{ev sv v va vb vc:Value}{B B' D R cap g i k n size:Nat}{W W' Wa X w w' w1 wr wr':World}{kk:Int}{dd:ByteArray}{es xs ys:List Int}{c:Option Nat}{L SS:List An}{L2 l:List UInt8}{e:TypeId}{qv tv:Nat->Value}
open Go.RowKit Go.Shelf
structure AX (w1 wr:World) (D:Nat) (p:Ac):Prop where
 ex:∃val,OX wr w1.heap.size val p/\wr.heap[D]?=some (.cells #[iI p.g,val .r,val .s,val .f,val .p] 33)/\∀a,Ad p a->(val a).ownBlock≠some D
 ge:w1.heap.size<=D
 bel:Bw w1 wr
theorem VM {s:AE}(h1:∀a,Ad m a->(val a).ownBlock≠some g)(h2:ev.ownBlock≠some g)(h3:sv.ownBlock≠some g):∀a,Ad {m with p:=m.p++[s]} a->(Az (Az val (.sr m.p.length) ev) .p sv a).ownBlock≠some g:=fun a ha=>by
 by_cases e1:a=.p
 ·subst e1;rw[Bh];exact h3
 rw[Ap _ _ e1]
 by_cases e2:a=.sr m.p.length
 ·subst e2;rw[Bh];exact h2
 rw[Ap _ _ e2]
 apply h1
 rcases ha.cases with rfl|rfl|rfl|rfl|⟨j,rfl,hj⟩|⟨j,rfl,hj⟩
 ·exact Ad.r m
 ·exact Ad.s m
 ·exact Ad.f m
 ·exact Ad.p m
 ·exact Ad.tab hj
 ·refine Ad.sr ?_;have hj:j<(m.p++[s]).length:=hj;rw[Bl,Hf]at hj;rcases Dq j m.p.length with h|h
  ·exact h
  ·exact absurd (by rw[show j=m.p.length by omega]) e2
theorem Qm (hX:OX Wa w1.heap.size val p)(hbel:Bw w1 Wa)(hbox:Wa.heap[D]?=some (.cells #[iI p.g,val .r,val .s,val .f,val .p] 33))(hge:w1.heap.size<=D)(hfar:∀a,Ad p a->(val a).ownBlock≠some D)(hev:es≠[]->Wa.ownsRow w1.heap.size 3 1 ev es.length (Ae es))(hev0:es=[]->∃ao cap,ev=.slice ao 0 cap)(hfe:es≠[]->Ei p val (.tab p.s.length) ev)(hDe:es≠[]->ev.ownBlock≠some D)(h2:Wa.grownBy w' (val .s).ownBlock)(h1:w'.ownsRow w1.heap.size 85 3 sv (p.s.length+1) (A2 p.s (fun j=>val (.tab j))++[iI kk,.string dd,ev]))(hblk:sv.ownBlock=(val .s).ownBlock\/∀g,sv.ownBlock=some g->Wa.heap.size<=g):AX w1 (w'.setCell (aD D 2) sv) D {p with s:=p.s++[(kk,dd,es)]}:=by
 have aa:=(AA hbox);have ad:sv.ownBlock≠some D:=fun e=>by
  rcases hblk with x|x
  ·rw[x]at e;exact hfar .s (Ad.s p) e
  ·have:=x D e;omega
 have hN:=hX.addSlot hev hev0 hfe h2 h1 hblk;have hF:=M7 (s:=(kk,dd,es)) hfar hDe ad;have ab:=(h2.block D aa (fun e=>hfar .s (Ad.s p) e.symm)).trans hbox;have ac:=Bf ab 2 sv;refine⟨⟨_,hN.far hF,?_,hF⟩,hge,(hbel.grown h2 hbel.size (fun k e=>((hX.row .s (Ad.s p)).lt k e).1)).setCell hge _⟩;rw[ac,Bh,Ap _ sv (a:=.s) (b:=.r) (by nofun),Ap _ ev (b:=.r) (by nofun),Ap _ sv (a:=.s) (b:=.f) (by nofun),Ap _ ev (b:=.f) (by nofun),Ap _ sv (a:=.s) (b:=.p) (by nofun),Ap _ ev (b:=.p) (by nofun)]
 rfl
theorem Qn (hX:OX Wa w1.heap.size val p)(hbel:Bw w1 Wa)(hbox:Wa.heap[D]?=some (.cells #[iI p.g,val .r,val .s,val .f,val .p] 33))(hge:w1.heap.size<=D)(hfar:∀a,Ad p a->(val a).ownBlock≠some D)(hev:Wa.ownsRow w1.heap.size 3 1 ev es.length (Ae es))(hfe:Ei p val (.sr p.p.length) ev)(hDe:ev.ownBlock≠some D)(h2:Wa.grownBy w' (val .p).ownBlock)(h1:w'.ownsRow w1.heap.size 87 3 sv (p.p.length+1) (A8 p.p (fun j=>val (.sr j))++[.string dd,iI kk,ev]))(hblk:sv.ownBlock=(val .p).ownBlock\/∀g,sv.ownBlock=some g->Wa.heap.size<=g):AX w1 (w'.setCell (aD D 4) sv) D {p with p:=p.p++[(dd,kk,es)]}:=by
 have aa:=(AA hbox);have ad:sv.ownBlock≠some D:=fun e=>by
  rcases hblk with x|x
  ·rw[x]at e;exact hfar .p (Ad.p p) e
  ·have:=x D e;omega
 have hN:=hX.addSnap hev hfe h2 h1 hblk;have hF:=VM (s:=(dd,kk,es)) hfar hDe ad;have ab:=(h2.block D aa (fun e=>hfar .p (Ad.p p) e.symm)).trans hbox;have ac:=Bf ab 4 sv;refine⟨⟨_,hN.far hF,?_,hF⟩,hge,(hbel.grown h2 hbel.size (fun k e=>((hX.row .p (Ad.p p)).lt k e).1)).setCell hge _⟩;rw[ac,Bh,Ap _ sv (a:=.p) (b:=.r) (by nofun),Ap _ ev (b:=.r) (by nofun),Ap _ sv (a:=.p) (b:=.s) (by nofun),Ap _ ev (b:=.s) (by nofun),Ap _ sv (a:=.p) (b:=.f) (by nofun),Ap _ ev (b:=.f) (by nofun)]
 rfl
theorem N4 (h:W.ownsRow B 3 1 v es.length (Ae es))(e:es=[]):∃ao cap,v=.slice ao 0 cap:=by
 subst e;rcases Di h with⟨x,_⟩|⟨g',cap',x,_⟩
 ·exact⟨_,_,x⟩
 ·exact⟨_,_,x⟩
theorem SK {w6:World}{o6:Obj}(hX:OX wr w1.heap.size val p)(bl:Bw w1 wr)(hbox:wr.heap[D]?=some (.cells #[iI p.g,val .r,val .s,val .f,val .p] 33))(r2:((wr.alloc o6).alloc e3).grownBy w6 (some (wr.heap.size+1)))(r3:v.ownBlock=some (wr.heap.size+1)\/v.ownBlock=some ((wr.alloc o6).alloc e3).heap.size):OX w6 w1.heap.size val p/\Bw w1 w6/\w6.heap[D]?=some (.cells #[iI p.g,val .r,val .s,val .f,val .p] 33)/\(∀a,Ad p a->(val a).ownBlock≠some wr.heap.size)/\v.ownBlock≠some wr.heap.size/\(∀g,v.ownBlock=some g->wr.heap.size<=g)/\v.ownBlock≠some D/\wr.heap.size+2<=w6.heap.size:=by
 have hz:((wr.alloc o6).alloc e3).heap.size=wr.heap.size+2:=by simp
 have ab:=(AA hbox);have ac:=bl.size;have hk:∀q,q<wr.heap.size->w6.heap[q]?=wr.heap[q]?:=fun q hq=>(r2.block q oM (fun e=>by have:=BJ e;omega)).trans ((Ch _ _ q (by simp;omega)).trans (Ch _ _ q hq))
 have aa:∀g,v.ownBlock=some g->wr.heap.size+1<=g:=fun g e=>by
  rcases r3 with x|x<;>rw[x]at e<;>have e:=BJ e<;>omega
 refine⟨hX.keep (fun g _ hg=>hk g hg),?_,(hk D ab).trans hbox,hX.lt lE,fun e=>by have:=aa _ e;omega,fun g e=>by have:=aa _ e;omega,fun e=>by have:=aa _ e;omega,?_⟩
 ·exact((bl.alloc ac _).alloc (by simp;omega) _).grown r2 (by rw[hz];omega) (fun k e=>by have:=BJ e;omega)
 ·have:=(AG 0 ((wr.alloc o6).alloc e3)).grown r2 (A7 _) (fun k _=>A7 _);have:=this.size;omega
def DM (m:Ac) (k:Nat):Ac:={m with s:=m.s.take k,p:=[]}
def DN (m:Ac) (k:Nat):Ac:={m with p:=m.p.take k}
theorem dY (m:Ac):DM m m.s.length=DN m 0:=by unfold DM DN;simp
theorem dZ (m:Ac):DN m m.p.length=m:=by unfold DN;simp
theorem Q4 {α:Type}(l:List α)(h:k<l.length):l.take (k+1)=l.take k++[l[k]]:=(Hg h).symm
theorem Ub (m:Ac)(h:k<m.s.length):DM m (k+1) = {DM m k with s:=(DM m k).s++[m.s[k]]}:=by unfold DM;rw[Q4 _ h]
theorem ee (m:Ac)(h:k<m.p.length):DN m (k+1) = {DN m k with p:=(DN m k).p++[m.p[k]]}:=by unfold DN;rw[Q4 _ h]
theorem OX.zero (W:World)(B:Nat):OX W B MB AZ:=by
 have h:=OI.zero W B;exact⟨fun a ha=>h.row a ha.live,fun a b ha hb=>h.apart a b ha.live hb.live,fun j hj=>absurd hj (Dr _)⟩
def Iy (w1:World) (xs:List Int) (W:World):Option (Nat ⊕ Value)->Prop
 | none=>True
 | some (.inl g)=>w1.heap.size<=g/\W.heap[g]?=some e3
 | some (.inr v)=>W.ownsRow w1.heap.size 3 1 v xs.length (Ae xs)
def Lh:Option (Nat ⊕ Value)->Option Nat
 | none=>none
 | some (.inl g)=>some g
 | some (.inr v)=>v.ownBlock
def Kt (w1 W:World):Option Nat->Prop
 | none=>True
 | some D=>w1.heap.size<=D/\W.heap[D]?=some zI
structure Dt (w1:World) (xs ys:List Int) (a b:Option (Nat ⊕ Value)) (c:Option Nat) (W:World):Prop where
 bel:Bw w1 W
 ha:Iy w1 xs W a
 hb:Iy w1 ys W b
 hc:Kt w1 W c
 ab:∀g,Lh a=some g->Lh b≠some g
 ac:∀g,Lh a=some g->c≠some g
 bc:∀g,Lh b=some g->c≠some g
theorem Iy.keep {a:Option (Nat ⊕ Value)}(h:Iy w1 xs W a)(hk:∀g,Lh a=some g->W'.heap[g]?=W.heap[g]?):Iy w1 xs W' a:=by
 match a,h with
 | none,_=>trivial
 | some (.inl g),h=>exact⟨h.1,(hk g rfl).trans h.2⟩
 | some (.inr v),h=>
  refine⟨h.1,?_⟩;rcases h.2 with hn|⟨g,cap,cur,hv,hb,hg,rest⟩
  ·exact .inl hn
  ·exact .inr ⟨g,cap,cur,hv,hb,(hk g (by show v.ownBlock=some g;rw[hv];rfl)).trans hg,rest⟩
theorem Iy.lt {a:Option (Nat ⊕ Value)}(h:Iy w1 xs W a)(e:Lh a=some g):w1.heap.size<=g/\g<W.heap.size:=by
 match a,h,e with
 | some (.inl g'),h,e=>have e:g'=g:=BJ e;subst e;exact⟨h.1,(B6.1 h.2).1⟩
 | some (.inr v),h,e=>exact World.ownsRow.lt h g e
theorem Kt.keep (h:Kt w1 W c)(hk:∀g,c=some g->W'.heap[g]?=W.heap[g]?):Kt w1 W' c:=by
 match c,h with
 | none,_=>trivial
 | some D,h=>exact⟨h.1,(hk D rfl).trans h.2⟩
theorem Kt.lt (h:Kt w1 W c)(e:c=some g):w1.heap.size<=g/\g<W.heap.size:=by
 subst e;exact⟨h.1,(B6.1 h.2).1⟩
theorem Dt.zero (w1:World)(xs ys:List Int):Dt w1 xs ys none none none w1:=⟨AG _ _,trivial,trivial,trivial,fun g h=>by (cases h),fun g h=>by (cases h),fun g h=>by (cases h)⟩
theorem Dt.drew {a b:Option (Nat ⊕ Value)}(h:Dt w1 xs ys a b c W):Dt w1 xs ys a b c W.drew:=
 ⟨h.bel.drew,h.ha.keep (fun _ _=>rfl),h.hb.keep (fun _ _=>rfl),h.hc.keep (fun _ _=>rfl),h.ab,h.ac,h.bc⟩
theorem Dt.a1 {b:Option (Nat ⊕ Value)}(h:Dt w1 xs ys none b c W):Dt w1 xs ys (some (.inl W.heap.size)) b c (W.alloc e3):=by
 refine⟨h.bel.alloc h.bel.size _,⟨h.bel.size,Aw _ _⟩,h.hb.keep (fun g e=>Ch W _ g (h.hb.lt e).2),h.hc.keep (fun g e=>Ch W _ g (h.hc.lt e).2),fun g e e2=>?_,fun g e e2=>?_,h.bc⟩
 ·have e:=BJ e;have:=(h.hb.lt e2).2;omega
 ·have e:=BJ e;have:=(h.hc.lt e2).2;omega
theorem Dt.b1 {a:Option (Nat ⊕ Value)}(h:Dt w1 xs ys a none c W):Dt w1 xs ys a (some (.inl W.heap.size)) c (W.alloc e3):=by
 refine⟨h.bel.alloc h.bel.size _,h.ha.keep (fun g e=>Ch W _ g (h.ha.lt e).2),⟨h.bel.size,Aw _ _⟩,h.hc.keep (fun g e=>Ch W _ g (h.hc.lt e).2),fun g e e2=>?_,h.ac,fun g e e2=>?_⟩
 ·have e2:=BJ e2;have:=(h.ha.lt e).2;omega
 ·have e:=BJ e;have:=(h.hc.lt e2).2;omega
theorem Dt.c1 {a b:Option (Nat ⊕ Value)}(h:Dt w1 xs ys a b none W):Dt w1 xs ys a b (some W.heap.size) (W.alloc zI):=by
 refine⟨h.bel.alloc h.bel.size _,h.ha.keep (fun g e=>Ch W _ g (h.ha.lt e).2),h.hb.keep (fun g e=>Ch W _ g (h.hb.lt e).2),⟨h.bel.size,Aw _ _⟩,h.ab,fun g e e2=>?_,fun g e e2=>?_⟩
 ·have e2:=BJ e2;have:=(h.ha.lt e).2;omega
 ·have e2:=BJ e2;have:=(h.hb.lt e).2;omega
theorem Dt.a2 {b:Option (Nat ⊕ Value)}(h:Dt w1 xs ys (some (.inl g)) b c W)(r1:w'.ownsRow w1.heap.size 3 1 v xs.length (Ae xs))(r2:W.grownBy w' (some g))(r3:v.ownBlock=some g\/v.ownBlock=some W.heap.size):Dt w1 xs ys (some (.inr v)) b c w':=by
 have hk:∀q,q<W.heap.size->q≠g->w'.heap[q]?=W.heap[q]?:=fun q hq hne=>r2.block q hq (fun e=>hne (BJ e))
 refine⟨h.bel.grown r2 h.bel.size (fun k e=>by cases e;exact h.ha.1),r1,h.hb.keep (fun q e=>hk q (h.hb.lt e).2 (fun x=>h.ab g rfl (x ▸ e))),h.hc.keep (fun q e=>hk q (h.hc.lt e).2 (fun x=>h.ac g rfl (x ▸ e))),fun q e e2=>?_,fun q e e2=>?_,h.bc⟩
 ·have e:v.ownBlock=some q:=e;rcases r3 with x|x<;>rw[x]at e<;>have e:=BJ e
  ·subst e;exact h.ab g rfl e2
  ·have:=(h.hb.lt e2).2;omega
 ·have e:v.ownBlock=some q:=e;rcases r3 with x|x<;>rw[x]at e<;>have e:=BJ e
  ·subst e;exact h.ac g rfl e2
  ·have:=(h.hc.lt e2).2;omega
theorem Dt.b2 {a:Option (Nat ⊕ Value)}(h:Dt w1 xs ys a (some (.inl g)) c W)(r1:w'.ownsRow w1.heap.size 3 1 v ys.length (Ae ys))(r2:W.grownBy w' (some g))(r3:v.ownBlock=some g\/v.ownBlock=some W.heap.size):Dt w1 xs ys a (some (.inr v)) c w':=by
 have hk:∀q,q<W.heap.size->q≠g->w'.heap[q]?=W.heap[q]?:=fun q hq hne=>r2.block q hq (fun e=>hne (BJ e))
 refine⟨h.bel.grown r2 h.bel.size (fun k e=>by cases e;exact h.hb.1),h.ha.keep (fun q e=>hk q (h.ha.lt e).2 (fun x=>h.ab q e (by rw[x];rfl))),r1,h.hc.keep (fun q e=>hk q (h.hc.lt e).2 (fun x=>h.bc g rfl (x ▸ e))),fun q e e2=>?_,h.ac,fun q e e2=>?_⟩
 ·have e2:v.ownBlock=some q:=e2;rcases r3 with x|x<;>rw[x]at e2<;>have e2:=BJ e2
  ·subst e2;exact h.ab g e rfl
  ·have:=(h.ha.lt e).2;omega
 ·have e:v.ownBlock=some q:=e;rcases r3 with x|x<;>rw[x]at e<;>have e:=BJ e
  ·subst e;exact h.bc g rfl e2
  ·have:=(h.hc.lt e2).2;omega
theorem Dt.last (h:Dt w1 m.r m.f (some (.inr va)) (some (.inr vb)) (some D) W):AX w1 (((((W.setCell (aZ D) (iI m.g)).setCell (aD D 1) va).setCell (aD D 2) (nl)).setCell (aD D 3) vb).setCell (aD D 4) (nl)) D (DM m 0):=by
 have hD:=h.hc;have ad:=Bf (Bf (Bf (Bf (Bf hD.2 0 (iI m.g)) 1 va) 2 (nl)) 3 vb) 4 (nl);have aa:Bw w1 (((((W.setCell (aZ D) (iI m.g)).setCell (aD D 1) va).setCell (aD D 2) (nl)).setCell (aD D 3) vb).setCell (aD D 4) (nl)):=((((h.bel.setCell (p:=(aZ D)) hD.1 _).setCell (p:=(aD D 1)) hD.1 _).setCell (p:=(aD D 2)) hD.1 _).setCell (p:=(aD D 3)) hD.1 _).setCell (p:=(aD D 4)) hD.1 _;have hk:∀q,q≠D->(((((W.setCell (aZ D) (iI m.g)).setCell (aD D 1) va).setCell (aD D 2) (nl)).setCell (aD D 3) vb).setCell (aD D 4) (nl)).heap[q]?=W.heap[q]?:=fun q hq=>by
  rw[AN _ _ _ q hq,AN _ _ _ q hq,AN _ _ _ q hq,AN _ _ _ q hq,AN _ _ _ q hq]
 have ha:Iy w1 m.r (((((W.setCell (aZ D) (iI m.g)).setCell (aD D 1) va).setCell (aD D 2) (nl)).setCell (aD D 3) vb).setCell (aD D 4) (nl)) (some (.inr va)):=h.ha.keep (fun g e=>hk g (fun x=>h.ac g e (by rw[x])));have hb:Iy w1 m.f (((((W.setCell (aZ D) (iI m.g)).setCell (aD D 1) va).setCell (aD D 2) (nl)).setCell (aD D 3) vb).setCell (aD D 4) (nl)) (some (.inr vb)):=h.hb.keep (fun g e=>hk g (fun x=>h.bc g e (by rw[x])));have h0:=OX.zero (((((W.setCell (aZ D) (iI m.g)).setCell (aD D 1) va).setCell (aD D 2) (nl)).setCell (aD D 3) vb).setCell (aD D 4) (nl)) w1.heap.size;have hz:∀a,(MB a).ownBlock=none:=fun a=>rfl
 have h1:=h0.swapRoot ha (fun b _ _ g _ e=>by rw[hz]at e;cases e) m.g;have h2:=h1.swapRefs hb (fun b hb' hne g hg e=>by
  by_cases e1:b=.r
  ·subst e1;rw[Bh]at e;exact h.ab g e hg
  ·rw[Ap _ _ e1,hz]at e;cases e)
 refine⟨⟨_,h2,?_,fun a ha' e=>?_⟩,hD.1,aa⟩
 ·rw[ad,Bh,Ap _ vb (a:=.f) (b:=.r) (by nofun),Bh,Ap _ vb (a:=.f) (b:=.s) (by nofun),Ap _ va (b:=.s) (by nofun),Ap _ vb (a:=.f) (b:=.p) (by nofun),Ap _ va (b:=.p) (by nofun)]
  rfl
 ·by_cases e1:a=.f
  ·subst e1;rw[Bh]at e;exact h.bc D e rfl
  ·rw[Ap _ _ e1]at e
   by_cases e2:a=.r
   ·subst e2;rw[Bh]at e;exact h.ac D e rfl
   ·rw[Ap _ _ e2,hz]at e;cases e
theorem dh (ra:Option Addr)(rc:Nat)(sa:Option Addr)(sc:Nat)(fa:Option Addr)(fc:Nat)(na:Option Addr)(nc:Nat)(m:Ac)(w:World)(h:Al w (.agg (aI m ra rc sa sc fa fc na nc)) m)(hr:m.r.length<=1000)(hf:m.f.length<=1000)(hs:m.s.length<=1000)(hn:m.p.length<=1000)(ht:∀j (hj:j<m.s.length),m.s[j].2.2.length<=1000)(hq:∀j (hj:j<m.p.length),m.p[j].2.2.length<=1000):Cl 126 #[.agg (aI m ra rc sa sc fa fc na nc)] w fun r w'=>∃val,r=.returned (AB m.g val)/\OX w' w.heap.size val m/\Bw w w':=by
 let V:=(w.alloc (cA m ra rc sa sc fa fc na nc))
 have b0:Bw w (V.alloc zI):=(Av).alloc (by simp[V]) _;have m0:(V.alloc zI).heap[w.heap.size]?=some (cA m ra rc sa sc fa fc na nc):=Aj (Aw _ _) _;have m1:(V.alloc zI).heap[w.heap.size+1]?=some zI:=AR (by simp[V]);have I1:=h.below b0;have hsz:w.heap.size+1<(V.alloc zI).heap.size:=by simp[V]
 clear h;dsimp only[V]at *;clear V
 go_enter func126,ntmps126
 go_upto_region 1 with fail;obtain⟨w1,aw⟩:=nM (((w.alloc (cA m ra rc sa sc fa fc na nc)).alloc zI));rw[aw]at b0 m0 m1 I1 hsz ⊢;clear aw;have H1:=I1.four.1;have H3:=I1.four.2.2.1;have ao:Hd (Dt w1 m.r m.f none none none w1):=Dt.zero _ _ _;have HS:Hd (∀X,Bw w1 X->(fun X:World=>X.cell? (aZ w.heap.size)=some (iI m.g)/\X.cell? (aD w.heap.size 1)=some (.slice ra m.r.length rc)/\X.cell? (aD w.heap.size 3)=some (.slice fa m.f.length fc)) X):=fun X hX=>by
  have hb:=(hX.block w.heap.size oM).trans m0;exact⟨(five hb).1,(five hb).2.1,(five hb).2.2.2.1⟩
 go_cut [3] from 8 (fun s wx=>∃D:Nat,s=pZ D/\Hd (AX w1 wx D (DM m 0)))
 case first=>
  refine BT (S:=(fun X:World=>X.cell? (aZ w.heap.size)=some (iI m.g)/\X.cell? (aD w.heap.size 1)=some (.slice ra m.r.length rc)/\X.cell? (aD w.heap.size 3)=some (.slice fa m.f.length fc))) kR (HS.o _ (Cg Eu)) (fun ad=>?_);refine Cz 0 (pZ w.heap.size) ?_;refine Cz 1 (iI m.g) ?_;refine Cz 3 (pQ w.heap.size 1) ?_;refine Cz 4 (.slice ra m.r.length rc) ?_;refine Cz 7 (pQ w.heap.size 3) ?_;refine Cz 8 (.slice fa m.f.length fc) ?_;simp only[lays];have N:=A9 ao.o.drew;obtain⟨X,hX⟩:=nM (w1.drew);rw[hX]at N ⊢;clear hX;have ad:=HS.o _ N.o.bel
  repeat' (refine Ig [2,5,6,9,11,10,12] (.c rfl ?_ (.c rfl ?_ (.c rfl ?_ (.c rfl ?_ (.c rfl ?_ (.c rfl ?_ (.c rfl ?_ .n)))))))<;>(intro t hc K hK;first|exact absurd hc (by decide +kernel)|(clear hc ad;simp only[lays];rw[Ab (by rfl)];first
   | (have _:Tg 2:=t;clear t;go_simp;obtain⟨X,hX⟩:=nM (X.alloc (.cells #[] 3));replace N:=A9 N.o.a1;rw[hX]at N ⊢;clear hX;refine hK.out _ _ (HS.o _ N.o.bel) (fun ad=>?_);clear hK K;try simp only[lays])
   | (have _:Tg 5:=t;clear t;refine Ov _ _ (by rfl) (B:=w1.heap.size) (by rfl) N.o.ha.2 N.o.ha.1 (src:=.slice ra m.r.length rc) (by rfl) (H1.below N.o.bel) hr ?_;intro v X r1 r2 r3;replace N:=A9 (N.o.a2 r1.o r2 r3.o);obtain⟨pa,ca,rfl⟩:=B0 r1.o;clear r1 r2 r3;refine hK.out _ _ (HS.o _ N.o.bel) (fun ad=>?_);clear hK K;try simp only[lays])
   | (have _:Tg 6:=t;clear t;go_simp;obtain⟨X,hX⟩:=nM (X.alloc (.cells #[] 3));replace N:=A9 N.o.b1;rw[hX]at N ⊢;clear hX;refine hK.out _ _ (HS.o _ N.o.bel) (fun ad=>?_);clear hK K;try simp only[lays])
   | (have _:Tg 9:=t;clear t;refine Ov _ _ (by rfl) (B:=w1.heap.size) (by rfl) N.o.hb.2 N.o.hb.1 (src:=.slice fa m.f.length fc) (by rfl) (H3.below N.o.bel) hf ?_;intro v X r1 r2 r3;replace N:=A9 (N.o.b2 r1.o r2 r3.o);obtain⟨pb,cb,rfl⟩:=B0 r1.o;clear r1 r2 r3;refine hK.out _ _ (HS.o _ N.o.bel) (fun ad=>?_);clear hK K;try simp only[lays])
   | (have _:Tg 11:=t;clear t;go_simp;obtain⟨X,hX⟩:=nM (X.alloc zI);replace N:=A9 N.o.c1;rw[hX]at N ⊢;clear hX;refine hK.out _ _ (HS.o _ N.o.bel) (fun ad=>?_);clear hK K;try simp only[lays])
   | (have _:Tg 10:=t;clear t;go_simp;refine hK.out _ _ (HS.o _ N.o.bel) (fun ad=>?_);clear hK K;try simp only[lays])
   | (have _:Tg 12:=t;clear t;have zz:=N.o.hc.2;obtain⟨z0,z1,z2,z3,z4⟩:=five zz;have y0:=Aq zz;go_simp;replace N:=A9 N.o.last;refine hK.out _ _ (HS.o _ N.o.bel) (fun ad=>?_);clear hK K ad;refine BQ kR ?_ _;go_wp2_with fail;go_meet;exact⟨_,rfl,N⟩))))
 case rest=>
  obtain⟨D,rfl,HD⟩:=hcut;clear HS ao H1 H3;have HI:Hd (Al w1 (.agg (aI m ra rc sa sc fa fc na nc)) m):=I1;have HM:Hd (w1.heap[w.heap.size]?=some (cA m ra rc sa sc fa fc na nc)/\w1.heap[w.heap.size+1]?=some zI/\Bw w w1):=⟨m0,m1,b0⟩;clear I1 m0 m1 b0;go_wp2_with fail
  go_loopw [4] (fun i wr=>∃k:Nat,k<=m.s.length/\i=iI k/\Hd (AX w1 wr D (DM m k))) (fun i _=>m.s.length-(intOf i).toNat)
  case atStart=>exact⟨0,A7 _,rfl,HD⟩
  case round=>
   obtain⟨k,hk,rfl,HC⟩:=hrel;have bl:=HC.o.bel;have n0:=Ag HM.o.1 bl oM;obtain⟨c0,c1,c2,c3,c4⟩:=five n0
   by_cases hlk:k<m.s.length
   ·have aH:(k:Int)<(m.s.length:Int):=oM;obtain⟨val,hX,aa,ab⟩:=HC.o.ex;have ai:=HC.o.ge;have aE:D<wr.heap.size:=(AA aa);have hlt:(DM m k).s.length=k:=by show (m.s.take k).length=k;rw[BI];omega
    obtain⟨pa,pc,hp,_⟩:=hX.forms .s (Ad.s _);have hp:val .s=.slice pa k pc:=by rw[hp];show Value.slice pa (DM m k).s.length pc=_;rw[hlt]
    have ac:=hX.row .s (Ad.s _);have ac:wr.ownsRow w1.heap.size 85 3 (val .s) (DM m k).s.length (A2 (DM m k).s (fun j=>val (.tab j))):=ac;rw[hlt]at ac;obtain⟨sb,so,aL,e,_,aF,aj⟩:=(HI.o.four.2.1.below bl).open oM;simp only[BP]at e;obtain⟨rfl,_,rfl⟩:=e;obtain⟨tv,q0,q1,q2,qs⟩:=aj k hlk;obtain⟨⟨kk,dd,es⟩,ag⟩:∃s,m.s[k]=s:=⟨_,rfl⟩;have an:es.length<=1000:=by have:=ht k hlk;rw[ag]at this;exact this
    have HS:Hd (m.s[k]=(kk,dd,es)):=ag;rw[ag]at q0 q1 qs;have q0:wr.cell? (aD sb (so+k*3))=some (iI kk):=q0;have q1:wr.cell? (aD sb (so+k*3+1))=some (.string dd):=q1;have qs:Sl wr tv es:=qs;obtain⟨ta,tc,rfl⟩:=qs.form;clear aj ag n0;have HX:Hd (OX wr w1.heap.size val (DM m k)/\(∀a,Ad (DM m k) a->(val a).ownBlock≠some D)/\Bw w1 wr/\val .s=.slice pa k pc/\(DM m k).s.length=k/\wr.heap[D]?=some (.cells #[iI (DM m k).g,val .r,val .s,val .f,val .p] 33)):=⟨hX,ab,bl,hp,hlt,aa⟩;rw[hp]at aa ac;have d0:=five aa;have f2:=Aq aa 2;have am:(Value.slice pa k pc).ownBlock≠some D:=by rw[<-hp];exact ab .s (Ad.s _)
    have al:¬D=wr.heap.size:=oM;have aK:¬wr.heap.size=D:=oM;clear hX ab hp hlt
    by_cases hes:es=[]
    ·subst hes;have aG:Sl wr (.slice ta 0 tc) []:=qs;clear qs;go_wp2_with(at_builtin;refine Lo (by rfl) _ _ 30 85 _ underlying30 J0 (by rfl) (by rfl) (B:=w1.heap.size) (v:=.slice pa k pc) (c0:=iI kk) (c1:=.string dd) (c2:=.slice ta 0 tc) (by rfl) (by rfl) (by rfl) (by rfl) (by rfl) (by simp) (ac.alloc _) oM (by have:=bl.size;simp;omega) ?_;intro v1 w8 h1 h2 h3;obtain⟨g1,ae,ak⟩:=Eo h1.o;subst ak;have z2:=(h2.block D (by simp;omega) (fun e=>am e.symm)).trans (Aj (Aj aa _) _);have x0:=five z2;have y2:=Aq z2 2);have HN:Hd (AX w1 (w8.setCell (aD D 2) (lZ g1 (k+1) ae)) D (DM m (k+1))):=by
      obtain⟨hX,ab,bl,hp,hlt,aa⟩:=HX.o;rw[Ub m hlk,HS.o];refine Qm ((hX.alloc _).alloc _) ((bl.alloc bl.size _).alloc (by simp;have:=bl.size;omega) _) (Aj (Aj aa _) _) ai ab (fun x=>absurd rfl x) (fun _=>⟨_,_,rfl⟩) (fun x=>absurd rfl x) (fun x=>absurd rfl x) (by rw[hp];exact h2) (by rw[hlt];exact h1.o) ?_;rw[hp];rcases h3.o with x|x
      ·exact .inl x
      ·refine .inr (fun g e=>?_);rw[x]at e
       cases e
       simp
     go_roundw
     case rel=>exact⟨k+1,oM,by go_num,HN⟩
     case measure=>simp[intOf];omega
    ·have hpos:0<es.length:=List.length_pos_iff.2 hes;have HE:Hd (es≠[]):=hes;have av:decide (0<es.length)=true:=by simp[hpos]
     clear hes;go_wp2_with(first
      | (at_builtin;refine Ot (by rfl) _ _ (by rfl) (g:=wr.heap.size+1) (B:=w1.heap.size) (by rfl) (AR (by simp)) (by have:=bl.size;omega) (src:=.slice ta es.length tc) (xs:=es) (by rfl) (qs.below ((Av).alloc (by simp) _)) an ?_;intro v6 w6 r1 r2 r3;obtain⟨xa,xc,rfl⟩:=B0 r1.o;have u5:=(r2.block wr.heap.size (by simp<;>omega) (fun e=>by have:=BJ e;omega)).trans (Aj (C2 wr _) _);obtain⟨t0,t1,t2⟩:=BO u5;have tf:=Aq u5 2;have z6:=(r2.block D (by simp<;>omega) (fun e=>by have:=BJ e;omega)).trans (Aj (Aj aa _) _);have x0:=five z6;have y2:=Aq z6 2;have af:=(((ac.alloc _).alloc _).kept r2 (.inr (fun e=>by have:=(ac.lt _ e).2;omega)));have HW:Hd (OX w6 w1.heap.size val (DM m k)/\Bw w1 w6/\w6.heap[D]?=some (.cells #[iI (DM m k).g,val .r,val .s,val .f,val .p] 33)/\(∀a,Ad (DM m k) a->(val a).ownBlock≠some wr.heap.size)/\(Value.slice xa es.length xc).ownBlock≠some wr.heap.size/\(∀g,(Value.slice xa es.length xc).ownBlock=some g->wr.heap.size<=g)/\(Value.slice xa es.length xc).ownBlock≠some D/\wr.heap.size+2<=w6.heap.size):=SK HX.o.1 HX.o.2.2.1 HX.o.2.2.2.2.2 r2 r3.o)
      | (at_builtin;refine Lo (by rfl) _ _ 30 85 _ underlying30 J0 (by rfl) (by rfl) (B:=w1.heap.size) (v:=.slice pa k pc) (c0:=iI kk) (c1:=.string dd) (c2:=.slice xa es.length xc) (by rfl) (by rfl) (by rfl) (by rfl) (by rfl) (by simp) (Ds af (fun e=>JG _ (ac.lt _ e).2) _) oM (by have:=bl.size;have:=HW.o.2.1.size;simp;omega) ?_;intro v1 w8 h1 h2 h3;obtain⟨g1,ae,ak⟩:=Eo h1.o;subst ak;have z2:=(h2.block D (by simp;have:=HW.o.2.2.2.2.2.2.2;omega) (fun e=>am e.symm)).trans (Aj (Bt (by have:=HW.o.2.2.1;exact this) al _ _) _);have s0:=five z2;have aM:=Aq z2 2))
     have HN:Hd (AX w1 (w8.setCell (aD D 2) (lZ g1 (k+1) ae)) D (DM m (k+1))):=by
      obtain⟨hX,ab,bl,hp,hlt,aa⟩:=HX.o;rw[Ub m hlk,HS.o];refine Qm ((HW.o.1.far HW.o.2.2.2.1).alloc _) ((HW.o.2.1.setCell bl.size _).alloc (by have:=bl.size;have:=HW.o.2.2.2.2.2.2;simp;omega) _) (Aj (Bt HW.o.2.2.1 al _ _) _) ai ab (fun _=>(Ds r1.o HW.o.2.2.2.2.1 _).alloc _) (N4 r1.o) (fun _=>IC hX _ HW.o.2.2.2.2.2.1) (fun _=>HW.o.2.2.2.2.2.2.1) (by rw[hp];exact h2) (by rw[hlt];exact h1.o) ?_;rw[hp];rcases h3.o with x|x
      ·exact .inl x
      ·refine .inr (fun g e=>?_);rw[x]at e
       cases e
       simp
     go_roundw
     case rel=>exact⟨k+1,oM,by go_num,HN⟩
     case measure=>simp[intOf];omega
   ·have ek:k=m.s.length:=oM;subst ek;have aC:Hd (AX w1 wr D (DN m 0)):=by rw[<-dY];exact HC.o
    clear HC HD;obtain⟨wx,aJ⟩:∃X,X=wr:=⟨_,rfl⟩;subst aJ;go_wp2_with fail
    go_loopw [6] (fun i wr=>∃k:Nat,k<=m.p.length/\i=iI k/\Hd (AX w1 wr D (DN m k))) (fun i _=>m.p.length-(intOf i).toNat)
    case atStart=>exact⟨0,A7 _,rfl,aC⟩
    case round=>
     clear c0 c1 c2 c3 c4;obtain⟨k,hk,rfl,HC⟩:=hrel;have bl:=HC.o.bel;have n0:=Ag HM.o.1 bl oM;obtain⟨c0,c1,c2,c3,c4⟩:=five n0
     by_cases hlk:k<m.p.length
     ·have aH:(k:Int)<(m.p.length:Int):=oM;obtain⟨val,hX,aa,ab⟩:=HC.o.ex;have ai:=HC.o.ge;have aE:D<wr.heap.size:=(AA aa);have hlt:(DN m k).p.length=k:=by show (m.p.take k).length=k;rw[BI];omega
      obtain⟨pa,pc,hp,_⟩:=hX.forms .p (Ad.p _);have hp:val .p=.slice pa k pc:=by rw[hp];show Value.slice pa (DN m k).p.length pc=_;rw[hlt]
      have ac:=hX.row .p (Ad.p _);have ac:wr.ownsRow w1.heap.size 87 3 (val .p) (DN m k).p.length (A8 (DN m k).p (fun j=>val (.sr j))):=ac;rw[hlt]at ac;obtain⟨sb,so,aL,e,_,aF,aj⟩:=(HI.o.four.2.2.2.below bl).open oM;simp only[BP]at e;obtain⟨rfl,_,rfl⟩:=e;obtain⟨tv,q0,q1,q2,qs⟩:=aj k hlk;obtain⟨⟨dd,kk,es⟩,ag⟩:∃s,m.p[k]=s:=⟨_,rfl⟩;have an:es.length<=1000:=by have:=hq k hlk;rw[ag]at this;exact this
      have HS:Hd (m.p[k]=(dd,kk,es)):=ag;rw[ag]at q0 q1 qs;have q0:wr.cell? (aD sb (so+k*3))=some (.string dd):=q0;have q1:wr.cell? (aD sb (so+k*3+1))=some (iI kk):=q1;have qs:Sl wr tv es:=qs;obtain⟨ta,tc,rfl⟩:=qs.form;clear aj ag n0;have HX:Hd (OX wr w1.heap.size val (DN m k)/\(∀a,Ad (DN m k) a->(val a).ownBlock≠some D)/\Bw w1 wr/\val .p=.slice pa k pc/\(DN m k).p.length=k/\wr.heap[D]?=some (.cells #[iI (DN m k).g,val .r,val .s,val .f,val .p] 33)):=⟨hX,ab,bl,hp,hlt,aa⟩;rw[hp]at aa ac;have d0:=five aa;have f4:=Aq aa 4;have am:(Value.slice pa k pc).ownBlock≠some D:=by rw[<-hp];exact ab .p (Ad.p _)
      have al:¬D=wr.heap.size:=oM;have aK:¬wr.heap.size=D:=oM;clear hX ab hp hlt;go_wp2_with(first
       | (at_builtin;refine Ot (by rfl) _ _ (by rfl) (g:=wr.heap.size+1) (B:=w1.heap.size) (by rfl) (AR (by simp)) (by have:=bl.size;omega) (src:=.slice ta es.length tc) (xs:=es) (by rfl) (qs.below ((Av).alloc (by simp) _)) an ?_;intro v6 w6 r1 r2 r3;obtain⟨xa,xc,rfl⟩:=B0 r1.o;have u5:=(r2.block wr.heap.size (by simp<;>omega) (fun e=>by have:=BJ e;omega)).trans (Aj (C2 wr _) _);obtain⟨t0,t1,t2⟩:=BO u5;have tf:=Aq u5 2;have z6:=(r2.block D (by simp<;>omega) (fun e=>by have:=BJ e;omega)).trans (Aj (Aj aa _) _);have x0:=five z6;have y2:=Aq z6 4;have af:=(((ac.alloc _).alloc _).kept r2 (.inr (fun e=>by have:=(ac.lt _ e).2;omega)));have HW:Hd (OX w6 w1.heap.size val (DN m k)/\Bw w1 w6/\w6.heap[D]?=some (.cells #[iI (DN m k).g,val .r,val .s,val .f,val .p] 33)/\(∀a,Ad (DN m k) a->(val a).ownBlock≠some wr.heap.size)/\(Value.slice xa es.length xc).ownBlock≠some wr.heap.size/\(∀g,(Value.slice xa es.length xc).ownBlock=some g->wr.heap.size<=g)/\(Value.slice xa es.length xc).ownBlock≠some D/\wr.heap.size+2<=w6.heap.size):=SK HX.o.1 HX.o.2.2.1 HX.o.2.2.2.2.2 r2 r3.o)
       | (at_builtin;refine Lo (by rfl) _ _ 31 87 _ underlying31 J1 (by rfl) (by rfl) (B:=w1.heap.size) (v:=.slice pa k pc) (c0:=.string dd) (c1:=iI kk) (c2:=.slice xa es.length xc) (by rfl) (by rfl) (by rfl) (by rfl) (by rfl) (by simp) (Ds af (fun e=>JG _ (ac.lt _ e).2) _) oM (by have:=bl.size;have:=HW.o.2.1.size;simp;omega) ?_;intro v1 w8 h1 h2 h3;obtain⟨g1,ae,ak⟩:=Eo h1.o;subst ak;have z2:=(h2.block D (by simp;have:=HW.o.2.2.2.2.2.2.2;omega) (fun e=>am e.symm)).trans (Aj (Bt (by have:=HW.o.2.2.1;exact this) al _ _) _);have s0:=five z2;have aN:=Aq z2 4))
      have HN:Hd (AX w1 (w8.setCell (aD D 4) (lZ g1 (k+1) ae)) D (DN m (k+1))):=by
       obtain⟨hX,ab,bl,hp,hlt,aa⟩:=HX.o;rw[ee m hlk,HS.o];refine Qn ((HW.o.1.far HW.o.2.2.2.1).alloc _) ((HW.o.2.1.setCell bl.size _).alloc (by have:=bl.size;have:=HW.o.2.2.2.2.2.2;simp;omega) _) (Aj (Bt HW.o.2.2.1 al _ _) _) ai ab ((Ds r1.o HW.o.2.2.2.2.1 _).alloc _) (IC hX _ HW.o.2.2.2.2.2.1) (HW.o.2.2.2.2.2.2.1) (by rw[hp];exact h2) (by rw[hlt];exact h1.o) ?_;rw[hp];rcases h3.o with x|x
       ·exact .inl x
       ·refine .inr (fun g e=>?_);rw[x]at e
        cases e
        simp
      go_roundw
      case rel=>exact⟨k+1,oM,by go_num,HN⟩
      case measure=>simp[intOf];omega
     ·have ek:k=m.p.length:=oM;subst ek;obtain⟨val,hX,aa,ab⟩:=HC.o.ex;rw[dZ]at hX aa ab;obtain⟨ax,a7,ap,_⟩:=hX.forms .r (Ad.r _);obtain⟨ay,a8,aq,_⟩:=hX.forms .s (Ad.s _);obtain⟨az,aA,ar,_⟩:=hX.forms .f (Ad.f _);obtain⟨a6,aB,au,_⟩:=hX.forms .p (Ad.p _);have HX:Hd (OX wr w1.heap.size val m/\val .r=.slice ax m.r.length a7/\val .s=.slice ay m.s.length a8/\val .f=.slice az m.f.length aA/\val .p=.slice a6 m.p.length aB):=⟨hX,ap,aq,ar,au⟩;rw[HX.o.2.1,HX.o.2.2.1,HX.o.2.2.2.1,HX.o.2.2.2.2]at aa;have d0:=five aa;have n1:=Ag HM.o.2.1 bl oM;obtain⟨z0,z1,z2,z3,z4⟩:=five n1;have y0:=Aq n1;have ai:=HC.o.ge;have g1:¬D=w.heap.size+1:=oM;have g2:¬w.heap.size+1=D:=oM;have ah:∀a,Ad m a->(val a).ownBlock≠some (w.heap.size+1):=fun a ha e=>by
       have:=((hX.row a ha).lt _ e).1;omega
      have HB:Hd (Bw w wr):=HM.o.2.2.trans (bl.mono oM);clear hX ap aq ar au ab;go_wp2_with fail;have i1:w.heap.size<=w.heap.size+1:=Cw _;refine AY (v:=.agg (aI m ax a7 ay a8 az aA a6 aB)) (by simp[results,results126,go_sem,z0,z1,z2,z3,z4]) rfl ⟨val,by unfold AB;rw[HX.o.2.1,HX.o.2.2.1,HX.o.2.2.2.1,HX.o.2.2.2.2],OX.mono (((((HX.o.1.far ah).far ah).far ah).far ah).far ah) oM,((((HB.o.setCell i1 _).setCell i1 _).setCell i1 _).setCell i1 _).setCell i1 _⟩
theorem iU (h:AD L=0)(j:Nat)(hj:j<L.length):L[j].2.2.length<=1000:=by
 have ok:=DO h hj
 generalize L[j]=s at ok ⊢
 obtain⟨k,d,es⟩:=s;unfold B1 Cb at ok;dsimp only at ok ⊢
 split at ok
 ·simp at ok;rw[ok.2];decide
 ·split at ok
  ·simp at ok;rw[ok.2];decide
  ·split at ok
   ·simp at ok;have:=Dv ok.1;omega
   ·cases ok
theorem J6 (h:Al w v m)(hE:As m=0):Cl 126 #[v] w fun r w'=>∃val,r=.returned (AB m.g val)/\OX w' w.heap.size val m/\Bw w w':=by
 have h':=h;obtain⟨ra,rc,sa,sc,fa,fc,na,nc,rfl,_⟩:=h.parts;obtain⟨z1,z2,z3,z4,z5,z6,z7⟩:=Au hE;have hg:=Dg hE;have aa:=CQ hE;have h40:=(A4 z2).2;refine dh ra rc sa sc fa fc na nc m w h' oM oM oM oM (iU z2) (fun j hj=>?_);have:=Fb hE (s:=m.p[j]) (CA _ (BS hj));omega
section
open Go.Lib
structure De (w X:World) (R D:Nat) (l:List UInt8) (M:Ac):Prop where
 t:A6 w X R l
 hR:R<w.heap.size
 hD:w.heap.size<=D
 ex:∃val,OX X (D+1) val M/\X.heap[D]?=some (.cells #[iI M.g,val .r,val .s,val .f,val .p] 33)
theorem A6.grow {Y:World}(h:A6 W X R l)(hR:R<W.heap.size)(g:X.grownBy Y v.ownBlock)(hv:∀q,v.ownBlock=some q->W.heap.size<=q):A6 W Y R l:=
 ⟨g.os.trans h.os,g.tape.trans h.tape,g.output.trans h.output,Bg h.size g.size,fun q hq hn=>(g.block q (AO hq h.size) (fun e=>by have:=hv q e.symm;omega)).trans (h.keep q hq hn),(g.block R h.lt (fun e=>by have:=hv R e.symm;omega)).trans h.box⟩
theorem A6.drew (h:A6 W X R l):A6 W X.drew R l:=⟨h.os,h.tape,h.output,h.size,h.keep,h.box⟩
theorem De.drew (h:De w X R D l M):De w X.drew R D l M:=by
 obtain⟨val,hX,hb⟩:=h.ex;exact⟨h.t.drew,h.hR,h.hD,val,hX.drew,hb⟩
theorem De.read {Y:World}{l':List UInt8}(h:De w X R D l M)(t:A6 X Y R l'):De w Y R D l' M:=by
 obtain⟨val,hX,hb⟩:=h.ex;have hR:=h.hR;have hD:=h.hD;exact⟨h.t.trans t,h.hR,h.hD,val,hX.keep (fun g hg hl=>t.keep g hl oM),(t.keep D (AA hb) oM).trans hb⟩
theorem De.start (t:A6 w X R l)(hR:R<w.heap.size)(g:Int):De w (X.alloc (.cells #[iI g,nl,nl,nl,nl] 33)) R X.heap.size l ⟨g,[],[],[],[]⟩:=by
 have h0:=OX.zero (X.alloc (.cells #[iI g,nl,nl,nl,nl] 33)) (X.heap.size+1);have h1:=h0.swapRoot (v:=nl) (r:=[]) (DG _ _ _ _) (fun b _ _ g hg _=>by cases hg) g;refine⟨t.alloc _,hR,t.size,_,h1,?_⟩;rw[C2,Bh,Ap _ _ (b:=.s) (by nofun),Ap _ _ (b:=.f) (by nofun),Ap _ _ (b:=.p) (by nofun)]
 rfl
theorem De.slot (t:A6 w Wa R l)(hR:R<w.heap.size)(hD:w.heap.size<=D)(hX:OX Wa (D+1) val M)(hbox:Wa.heap[D]?=some (.cells #[iI M.g,val .r,val .s,val .f,val .p] 33))(hev:Wa.ownsRow (D+1) 3 1 ev es.length (Ae es))(hfe:Ei M val (.tab M.s.length) ev)(h2:Wa.grownBy w' (val .s).ownBlock)(h1:w'.ownsRow (D+1) 85 3 sv (M.s.length+1) (A2 M.s (fun j=>val (.tab j))++[iI kk,.string dd,ev]))(hblk:sv.ownBlock=(val .s).ownBlock\/∀g,sv.ownBlock=some g->Wa.heap.size<=g):De w (w'.setCell (aD D 2) sv) R D l {M with s:=M.s++[(kk,dd,es)]}:=by
 have aa:=(AA hbox);have hlt:=fun q e=>((hX.row .s (Ad.s M)).lt q e).1
 have hN:=hX.addSlot (fun _=>hev) (N4 hev) (fun _=>hfe) h2 h1 hblk;have ab:=(h2.block D aa (fun e=>by have:=hlt D e.symm;omega)).trans hbox;have ac:=Bf ab 2 sv;refine⟨(t.grow hR h2 (fun q e=>by have:=hlt q e;omega)).other hD hR _,hR,hD,_,hN.far (fun a ha e=>by have:=((hN.row a ha).lt D e).1;omega),?_⟩;rw[ac,Bh,Ap _ sv (a:=.s) (b:=.r) (by nofun),Ap _ ev (b:=.r) (by nofun),Ap _ sv (a:=.s) (b:=.f) (by nofun),Ap _ ev (b:=.f) (by nofun),Ap _ sv (a:=.s) (b:=.p) (by nofun),Ap _ ev (b:=.p) (by nofun)]
 rfl
theorem De.snap (t:A6 w Wa R l)(hR:R<w.heap.size)(hD:w.heap.size<=D)(hX:OX Wa (D+1) val M)(hbox:Wa.heap[D]?=some (.cells #[iI M.g,val .r,val .s,val .f,val .p] 33))(hev:Wa.ownsRow (D+1) 3 1 ev es.length (Ae es))(hfe:Ei M val (.sr M.p.length) ev)(h2:Wa.grownBy w' (val .p).ownBlock)(h1:w'.ownsRow (D+1) 87 3 sv (M.p.length+1) (A8 M.p (fun j=>val (.sr j))++[.string dd,iI kk,ev]))(hblk:sv.ownBlock=(val .p).ownBlock\/∀g,sv.ownBlock=some g->Wa.heap.size<=g):De w (w'.setCell (aD D 4) sv) R D l {M with p:=M.p++[(dd,kk,es)]}:=by
 have aa:=(AA hbox);have hlt:=fun q e=>((hX.row .p (Ad.p M)).lt q e).1
 have hN:=hX.addSnap hev hfe h2 h1 hblk;have ab:=(h2.block D aa (fun e=>by have:=hlt D e.symm;omega)).trans hbox;have ac:=Bf ab 4 sv;refine⟨(t.grow hR h2 (fun q e=>by have:=hlt q e;omega)).other hD hR _,hR,hD,_,hN.far (fun a ha e=>by have:=((hN.row a ha).lt D e).1;omega),?_⟩;rw[ac,Bh,Ap _ sv (a:=.p) (b:=.r) (by nofun),Ap _ ev (b:=.r) (by nofun),Ap _ sv (a:=.p) (b:=.s) (by nofun),Ap _ ev (b:=.s) (by nofun),Ap _ sv (a:=.p) (b:=.f) (by nofun),Ap _ ev (b:=.f) (by nofun)]
 rfl
theorem De.r (t:A6 w X R l)(hR:R<w.heap.size)(hD:w.heap.size<=D)(hX:OX X (D+1) val M)(hbox:X.heap[D]?=some (.cells #[iI M.g,val .r,val .s,val .f,val .p] 33))(hev:X.ownsRow (D+1) 3 1 ev es.length (Ae es))(hfe:Ei M val .r ev):De w (X.setCell (aD D 1) ev) R D l {M with r:=es}:=by
 have hN:=hX.swapRoot hev hfe M.g;have aa:=Bf hbox 1 ev;refine⟨t.other hD hR _,hR,hD,_,hN.far (fun a ha e=>by have:=((hN.row a ha).lt D e).1;omega),?_⟩;rw[aa,Bh,Ap _ _ (b:=.s) (by nofun),Ap _ _ (b:=.f) (by nofun),Ap _ _ (b:=.p) (by nofun)]
 rfl
theorem De.img (h:De w X R D l M):∃a0 c0 a1 c1 a2 c2 a3 c3,X.heap[D]?=some (cA M a0 c0 a1 c1 a2 c2 a3 c3)/\Al X (.agg (aI M a0 c0 a1 c1 a2 c2 a3 c3)) M/\∀Y,(∀q,D<q->q<X.heap.size->Y.heap[q]?=X.heap[q]?)->Al Y (.agg (aI M a0 c0 a1 c1 a2 c2 a3 c3)) M:=by
 obtain⟨val,hX,hb⟩:=h.ex;obtain⟨a0,c0,e0,_⟩:=hX.forms .r (Ad.r _);obtain⟨a1,c1,e1,_⟩:=hX.forms .s (Ad.s _);obtain⟨a2,c2,e2,_⟩:=hX.forms .f (Ad.f _);obtain⟨a3,c3,e3,_⟩:=hX.forms .p (Ad.p _);have hI:=hX.img;have hF:∀Y:World,(∀q,D<q->q<X.heap.size->Y.heap[q]?=X.heap[q]?)->Al Y (AB M.g val) M:=fun Y hY=>(hX.keep (fun g hg hl=>hY g hg hl)).img
 unfold AB at hI hF;rw[e0,e1,e2,e3]at hb hI hF;exact⟨a0,c0,a1,c1,a2,c2,a3,c3,hb,hI,hF⟩
theorem Qp {α:Type}{f:List UInt8->Option (α × List UInt8)}{l:List UInt8}{k:Nat}(h:CT f k l=none):∀n,k<=n->CT f n l=none
 | 0,hk=>by rw[show k=0 by omega]at h;exact h
 | n+1,hk=>by
  by_cases e:k=n+1
  ·rw[<-e];exact h
  ·show (CT f n l).bind _=none
   rw[Qp h n oM];rfl
theorem TL {α:Type}{f:List UInt8->Option (α × List UInt8)}{r r':List UInt8}{S:List α}{s:α}(h:CT f k l=some (S,r))(h2:f r=some (s,r')):CT f (k+1) l=some (S++[s],r'):=by
 show (CT f k l).bind _=_
 rw[h];show (f r).map _=_;rw[h2];rfl
theorem TN {α:Type}{f:List UInt8->Option (α × List UInt8)}{r:List UInt8}{S:List α}(h:CT f k l=some (S,r))(h2:f r=none):CT f (k+1) l=none:=by
 show (CT f k l).bind _=_
 rw[h];show (f r).map _=_;rw[h2];rfl
theorem Qr {r:List UInt8}{s:An}(h:Ez l=some (s,r)):r.length<=l.length:=by
 obtain⟨a,h1,h2⟩:=Fk h
 cases l with
 | nil=>simp[DL]at h1
 | cons b t=>
  simp only[DL,Ct]at h1;subst h1;unfold Ma at h2;simp only at h2
  split at h2
  ·simp only[Ct,LD]at h2;rw[<-h2.2];simp
  ·split at h2
   ·obtain⟨q,h3,h4⟩:=Jm h2;unfold II at h3
    split at h3
    ·simp only[Ct]at h3;subst h3;simp only[LD]at h4;rw[<-h4.2];simp only[CZ,BF];omega
    ·simp at h3
   ·split at h2
    ·obtain⟨q,h3,h4⟩:=Jm h2;unfold FN at h3
     split at h3
     ·simp only[Ct]at h3;subst h3;simp only[LD]at h4;rw[<-h4.2];simp only[CZ,BF];omega
     ·simp at h3
    ·simp at h2
theorem TO {q:Nat × List UInt8}(h:DL l=some q):q.2.length<=l.length:=by
 cases l with
 | nil=>simp[DL]at h
 | cons b t=>simp only[DL,Ct]at h;subst h;simp
theorem dq {q:List UInt8 × List UInt8}(h:II n l=some q):q.2.length<=l.length:=by
 unfold II at h
 split at h
 ·simp only[Ct]at h;subst h;simp
 ·simp at h
theorem di {q:List Int × List UInt8}(h:FN n l=some q):q.2.length<=l.length:=by
 unfold FN at h
 split at h
 ·simp only[Ct]at h;subst h;simp
 ·simp at h
theorem TP {r:List UInt8}{s:AE}(h:FO l=some (s,r)):r.length<=l.length:=by
 obtain⟨a,h1,h⟩:=Fk h;obtain⟨t,h2,h⟩:=Fk h;obtain⟨g,h3,h⟩:=Fk h;obtain⟨q,h4,h5⟩:=Jm h;simp only[LD]at h5;rw[<-h5.2];have:=TO h1;have:=dq h2;have:=TO h3;have:=di h4;omega
theorem La {α:Type}{f:List UInt8->Option (α × List UInt8)}(hf:∀l s r,f l=some (s,r)->r.length<=l.length){l:List UInt8}:∀k S r,CT f k l=some (S,r)->r.length<=l.length/\S.length=k
 | 0,S,r,h=>by simp only[CT,Ct,LD]at h;rw[<-h.1,<-h.2];exact⟨Bc _,rfl⟩
 | k+1,S,r,h=>by
  obtain⟨q,h1,h2⟩:=Fk h;obtain⟨p,h3,h4⟩:=Jm h2;have ih:=La hf k q.1 q.2 h1;have:=hf q.2 p.1 p.2 h3;simp only[LD]at h4;rw[<-h4.1,<-h4.2];exact⟨oM,by simp[ih.2]⟩
end
section
open Go.Lib
def VG (w:World) (R:Nat) (L:List UInt8) (e:Ending) (W':World):Prop:=
 (∃m r,E7 L=some (m,r)/\∃a0 c0 a1 c1 a2 c2 a3 c3,e=.returned (.agg (aI m a0 c0 a1 c1 a2 c2 a3 c3))/\A6 w W' R r/\∀Y:World,(∀q,w.heap.size<=q->q<W'.heap.size->Y.heap[q]?=W'.heap[q]?)->Al Y (.agg (aI m a0 c0 a1 c1 a2 c2 a3 c3)) m)\/(E7 L=none/\e=.panicked kq/\∃l',A6 w W' R l')
theorem CL {xs:List Value}(h:W.ownsRow B e size v n xs)(hB:B'<=B):W.ownsRow B' e size v n xs:=by
 refine⟨h.1,?_⟩;rcases h.2 with hn|⟨g,cap,cur,hv,hb,rest⟩
 ·exact .inl hn
 ·exact .inr ⟨g,cap,cur,hv,oM,rest⟩
theorem Z3 {g n:UInt8}{lk:List UInt8}{Sk:List An}(h:CT Ez k L2=some (Sk,lk))(h2:Ez lk=none)(hk:k<n.toNat):E7 (g::n::L2)=none:=by
 have:=Qp (TN h h2) n.toNat oM
 show (CT Ez n.toNat L2).bind _=none
 rw[this];rfl
theorem Z2 {g n:UInt8}(h:CT Ez n.toNat L2=some (SS,[])):E7 (g::n::L2)=none:=by
 show (CT Ez n.toNat L2).bind _=none
 rw[h];rfl
theorem Z5 {g n h:UInt8}{L4 lk:List UInt8}{Sk:List AE}(hs:CT Ez n.toNat L2=some (SS,h::L4))(hp:CT FO k L4=some (Sk,lk))(h2:FO lk=none)(hk:k<h.toNat):E7 (g::n::L2)=none:=by
 have:=Qp (TN hp h2) h.toNat oM
 show (CT Ez n.toNat L2).bind _=none
 rw[hs]
 show (CT FO h.toNat L4).bind _=none
 rw[this];rfl
theorem YR {g n h:UInt8}{L4 L5:List UInt8}{NN:List AE}(hs:CT Ez n.toNat L2=some (SS,h::L4))(hp:CT FO h.toNat L4=some (NN,L5)):E7 (g::n::L2)=(FN ((g.toNat+3)/4) L5).map fun r=>(⟨(g.toNat:Int),r.1,SS,[],NN⟩,r.2):=by
 show (CT Ez n.toNat L2).bind _=_
 rw[hs]
 show (CT FO h.toNat L4).bind _=_
 rw[hp];rfl
theorem A6.toA {o:Obj}(h:A6 (w.alloc o) X R l):A6 w X R l:=by
 have hs:=h.size;have hz:(w.alloc o).heap.size=w.heap.size+1:=by simp
 exact⟨h.os,h.tape,h.output,oM,fun q hq hn=>(h.keep q oM hn).trans (Ch _ _ q hq),h.box⟩
end
section
open Go.Lib
def RD (w:World) (m:Ac) (ra:Option Addr) (rc:Nat) (sa:Option Addr) (sc:Nat) (na:Option Addr) (nc:Nat) (r:Ending) (w':World):Prop:=∃g,w.heap.size<=g/\r=.returned (.tuple #[.agg #[iI m.g,.slice ra m.r.length rc,.slice sa m.s.length sc,lZ g m.s.length m.s.length,.slice na m.p.length nc],iI 0])/\Bz w' g (AL m)/\Bw w w'
theorem kz (h:W.heap[g]?=some (.cells ((List.replicate n (0:Int)).map (Value.int .i64)).toArray 3))(hn:n<=1000):Sl W (lZ g n n) (List.replicate n 0):=by
 refine⟨some (aZ g),n,by rw[He],by rw[He];unfold maxLen;omega,by rw[He];exact Bc _,fun _=>⟨g,0,rfl,(AA h),fun j hj=>?_⟩⟩;have hj:j<n:=by simpa using hj
 simp[World.cell?,h,List.getD,hj]
theorem PW {gv r s f n fv:Value}{l:List Int}(h:Al w (.agg #[gv,r,s,f,n]) m)(hb:Bw w W)(hl:Sl W fv l):Al W (.agg #[gv,r,s,fv,n]) {m with f:=l}:=by
 have hW:=h.below hb;obtain⟨r',s',f',n',e,h1,h2,h3,h4⟩:=hW;simp only[Value.agg.injEq,Array.mk.injEq,List.cons.injEq,Hh]at e;obtain⟨e0,e1,e2,e3,e4⟩:=e;subst e1 e2 e4;exact⟨_,_,_,_,by rw[e0],h1,h2,hl,h4⟩
theorem WO (ra:Option Addr)(rc:Nat)(sa:Option Addr)(sc:Nat)(fa:Option Addr)(fc:Nat)(na:Option Addr)(nc:Nat)(m:Ac)(w:World)(h:Al w (.agg (aI m ra rc sa sc fa fc na nc)) m)(hs9:m.s.length<=1000)(hE:As (Jz m)=0)(hC:Ao (Fx m)=0):Cl 118 #[.agg (aI m ra rc sa sc fa fc na nc)] w (RD w m ra rc sa sc na nc):=by
 let U:=(w.alloc (.cells #[iI m.g,.slice ra m.r.length rc,.slice sa m.s.length sc,lZ (w.heap.size+1+1) m.s.length m.s.length,.slice na m.p.length nc] 33))
 let V:=((U.alloc zI).alloc (.cells (Array.replicate m.s.length (iI 0)) 3))
 have an:∀W,(Instr.makeSlice 29 (iI (m.s.length:Int)) (iI (m.s.length:Int))).run prog W=.ok (lZ W.heap.size m.s.length m.s.length) (W.alloc (.cells (Array.replicate m.s.length (iI 0)) 3)):=fun W=>by have:=Tp m.s.length hs9 W;simpa[V,U] using this
 have b0:Bw w V:=((Av).alloc (by simp[V,U]) _).alloc (by simp[V,U];omega) _;have m0:V.heap[w.heap.size]?=some (.cells #[iI m.g,.slice ra m.r.length rc,.slice sa m.s.length sc,lZ (w.heap.size+1+1) m.s.length m.s.length,.slice na m.p.length nc] 33):=Aj (Aj (Aw _ _) _) _;have m1:V.heap[w.heap.size+1]?=some zI:=Aj (AR (by simp[V,U])) _;have m2:V.heap[w.heap.size+1+1]?=some (.cells (Array.replicate m.s.length (iI 0)) 3):=by have:=C2 (U.alloc zI) (.cells (Array.replicate m.s.length (iI 0)) 3);simpa[V,U] using this
 have af:Al V (.agg #[iI m.g,.slice ra m.r.length rc,.slice sa m.s.length sc,lZ (w.heap.size+1+1) m.s.length m.s.length,.slice na m.p.length nc]) (Jz m):=PW h b0 (kz (by rw[m2];simp[V,U]) hs9);have hz:V.heap.size=w.heap.size+3:=by simp[V,U]
 have HI:Hd (Al w (.agg (aI m ra rc sa sc fa fc na nc)) m/\Bw w V):=⟨h,b0⟩;have HM:Hd (V.heap[w.heap.size]?=some (.cells #[iI m.g,.slice ra m.r.length rc,.slice sa m.s.length sc,lZ (w.heap.size+1+1) m.s.length m.s.length,.slice na m.p.length nc] 33)/\V.heap[w.heap.size+1]?=some zI/\V.heap.size=w.heap.size+3):=⟨m0,m1,hz⟩;have ae:=A9 (show Cl 79 #[.agg #[iI m.g,.slice ra m.r.length rc,.slice sa m.s.length sc,lZ (w.heap.size+1+1) m.s.length m.s.length,.slice na m.p.length nc]] V fun e w'=>(∃g,V.heap.size<=g/\e=.returned (.tuple #[lZ g m.s.length m.s.length,iI 0])/\Bz w' g (AL m))/\Below V.heap.size V w' from (by have h9:=Pq (m:=Jz m) af hE;exact h9));clear af m0 m1 m2 b0 h hz;dsimp only[V,U]at *;clear V U
 go_enter func118,ntmps118
 go_wp2_with fail;refine ae.o.mono ?_;rintro e w3 ⟨⟨g,hg,rfl,hL⟩,b3⟩;have s3:=b3.size;rw[HM.o.2.2]at s3;have n0:=Ag HM.o.1 b3 (by rw[HM.o.2.2];omega);have n1:=Ag HM.o.2.1 b3 (by rw[HM.o.2.2];omega);have ah:=A9 (Below.on HI.o.2 b3);rw[HM.o.2.2]at hg;have al:g≠w.heap.size:=oM;have c0:=five n0;have f3:=Aq n0 3;obtain⟨w4,aa⟩:=nM (w3.setCell (aD w.heap.size 3) (lZ g m.s.length m.s.length));have ad:=A9 (show Bw w w4 by rw[<-aa];exact ah.o.setCell (p:=(aD w.heap.size 3)) lE _);have o0:w4.heap[w.heap.size]?=some (.cells #[iI m.g,.slice ra m.r.length rc,.slice sa m.s.length sc,lZ g m.s.length m.s.length,.slice na m.p.length nc] 33):=by rw[<-aa];exact Bf n0 3 _
 have o1:w4.heap[w.heap.size+1]?=some zI:=by rw[<-aa];exact(AN _ (aD w.heap.size 3) _ _ (by show w.heap.size+1≠w.heap.size;omega)).trans n1
 have ac:Bz w4 g (AL m):=by rw[<-aa];exact(AN _ (aD w.heap.size 3) _ _ al).trans hL
 have ag:Al w4 (.agg #[iI m.g,.slice ra m.r.length rc,.slice sa m.s.length sc,lZ g m.s.length m.s.length,.slice na m.p.length nc]) (Fx m):=PW HI.o.1 ad.o (Bz.sl ac (EK m) (by unfold maxLen;omega));have aj:=A9 (EU ag hC);have am:=ac.lt;have ak:=A9 aa;have d0:=five o0;have HO:=A9 (AW o0 (AW o1 ac));clear b3 n0 n1 ae an hL aa o0 o1 ac ag;go_upto_region 4 with fail;rw[ak.o];clear c0 f3;go_wp2_with(go_at_call 38;refine aj.o.mono ?_;rintro e w5 ⟨rfl,b5⟩;have p0:=Ag HO.o.1 b5 (B6.1 HO.o.1).1;have p1:=Ag HO.o.2.1 b5 (B6.1 HO.o.2.1).1;have ai:=A9 (Below.on ad.o b5);have HG:=A9 (AW (show Bz w5 g (AL m) from (b5.block g am).trans HO.o.2.2) hg);clear b5;have z0:=five p1;have y0:=Aq p1;have q0:=five p0);have i1:w.heap.size<=w.heap.size+1:=Cw _;refine AY (v:=.tuple #[.agg #[iI m.g,.slice ra m.r.length rc,.slice sa m.s.length sc,lZ g m.s.length m.s.length,.slice na m.p.length nc],iI 0]) (by simp[results,results118,go_sem,z0]) rfl ⟨g,by have:=HG.o.2;omega,rfl,?_,((((ai.o.setCell i1 _).setCell i1 _).setCell i1 _).setCell i1 _).setCell i1 _⟩;have ab:g≠w.heap.size+1:=by have:=HG.o.2;omega
 unfold Bz;rw[AN _ (aD (w.heap.size+1) 4) _ g ab,AN _ (aD (w.heap.size+1) 3) _ g ab,AN _ (aD (w.heap.size+1) 2) _ g ab,AN _ (aD (w.heap.size+1) 1) _ g ab,AN _ (aZ (w.heap.size+1)) _ g ab];exact HG.o.1
end
section
open Go.Lib
theorem dM (p q:Addr)(w:World):CallsD prog 171 #[.pointer (some p),.pointer (some q)] .returning w fun e u' w'=>e=.returned (.tuple #[])/\u'=.returning/\w'=w:=by
 refine MS func171 rfl fun c₀ cs hu=>?_
 apply wpS_seq
 apply MW
 simp[wpOpsS,go_sem,recoverD,hu,ntmps171,Exit.thenS]
 refine MV ?_;simp only[FT,FU,FY,FW,EY,Er,DR,DE,DZ]
 go_wp2
 cases c₀
 simp_all[bodyPostS,results,results171]
end
theorem Tryz.size3:(prog.info? 3).map (·.size)=some 1:=by kernel_rfl
theorem iJ (xs:List Int)(n:Nat)(h4:xs.length=4)(hn:n<=4):splice [iI 0,iI 0,iI 0,iI 0] 0 ((xs.take n).map (Value.int .i64))=(AU xs n).map (Value.int .i64):=by
 match xs,h4 with
 | [a,b,c,d],_=>
  match n,hn with
  | 0,_=>rfl
  | 1,_=>rfl
  | 2,_=>rfl
  | 3,_=>rfl
  | 4,_=>rfl
theorem gX (xs:List Int)(n k:Nat)(h4:xs.length=4)(hn:n<=k)(hk:k<4):((AU xs n).map (Value.int .i64)).toArray.setIfInBounds k (iI 0)=((AU xs n).map (Value.int .i64)).toArray:=by
 match xs,h4 with
 | [a,b,c,d],_=>
  match k,hk with
  | 0,_=>match n,hn with
   | 0,_=>rfl
  | 1,_=>match n,hn with
   | 0,_=>rfl
   | 1,_=>rfl
  | 2,_=>match n,hn with
   | 0,_=>rfl
   | 1,_=>rfl
   | 2,_=>rfl
  | 3,_=>match n,hn with
   | 0,_=>rfl
   | 1,_=>rfl
   | 2,_=>rfl
   | 3,_=>rfl
theorem Xa (xs:List Int)(n:Nat)(h4:xs.length=4)(hn:n<=4):(AU xs n).length=4:=by
 unfold AU;simp;omega
theorem WJ (b off cap n:Nat)(xs:List Int)(w:World)(h4:xs.length=4)(hn:n<=4)(hb:b<w.heap.size)(hc:∀j,j<4->w.cell? (aD b (off+j))=some (iI (xs.getD j 0))):∃W2,(Builtin.copy_ #[29,29] 3 #[lZ w.heap.size 4 4,lD b off n cap]).run prog (w.alloc (.cells #[iI 0,iI 0,iI 0,iI 0] 3))=.ok (iI n) W2/\
   W2.heap[w.heap.size]?=some (.cells ((AU xs n).map (Value.int .i64)).toArray 3 (0,0))/\Bw w W2:=by
 obtain⟨X,hX⟩:∃X,X=(xs.take n).map (Value.int .i64):=⟨_,rfl⟩;have aa:X.length=n:=by rw[hX];simp;rw[h4];omega
 have ac:∀j v,X[j]?=some v->(w.alloc (.cells #[iI 0,iI 0,iI 0,iI 0] 3)).cell? (((aD b off):Addr).add j)=some v:=by
  intro j v hj;have ad:j<n:=by have:=(MK.1 hj).1;rw[aa]at this;exact this
  rw[hX]at hj;have:v=iI (xs.getD j 0):=by
   rw[Dm,Fg,Ab ad]at hj;simp[List.getD,show j<xs.length by omega]at hj ⊢
   exact hj.symm
  rw[this];rw[EI];exact(I5 _ _ _ hb).trans (hc j oM)
 have hg:=O2 w (.cells #[iI 0,iI 0,iI 0,iI 0] 3);have ab:=run_copy_row (P:=prog) _ 29 29 3 3 w.heap.size 0 4 4 (aD b off) n cap _ 3 X underlying29 Tryz.size3 hg (by rw[aa];exact(OU hn).symm) ac (by rw[aa];simp;omega) (by rw[hX];exact MT _ _);refine⟨_,ab.trans (by rw[aa];rfl),?_,below_setRow (Av) lE _⟩;rw[Ja _ _ _ _ _ _ hg,hX];have:=iJ xs n h4 hn;unfold splice at this;rw[<-this];simp[h4]
theorem XR (b off cap n:Nat)(xs:List Int)(w:World)(h4:xs.length=4)(hn:n<=4)(hcap:4<=cap)(hb:b<w.heap.size)(hc:∀j,j<4->w.cell? (aD b (off+j))=some (iI (xs.getD j 0))):Cl 143 #[lD b off 4 cap,iI n] w fun r w'=>∃g cap',r=.returned (lZ g 4 cap')/\w'.ownsRow w.heap.size 3 1 (lZ g 4 cap') 4 ((AU xs n).map (.int .i64))/\Bw w w':=by
 obtain⟨W2,ae,ab,ad⟩:=WJ b off cap n xs w h4 hn hb hc;clear hc;have HL:Hd ((AU xs n).length=4):=Xa xs n h4 hn;have HS:Hd (∀k,n<=k->k<4->((AU xs n).map (Value.int .i64)).toArray.setIfInBounds k (iI 0)=((AU xs n).map (Value.int .i64)).toArray):=fun k h1 h2=>gX xs n k h4 h1 h2
 obtain⟨R,hR⟩:∃R,R=(AU xs n).map (Value.int .i64):=⟨_,rfl⟩;rw[<-hR]at ab HS ⊢;have HR:Hd (R=(AU xs n).map (Value.int .i64)):=hR;have ac:Hd (W2.heap[w.heap.size]?=some (.cells R.toArray 3 (0,0))):=ab;clear hR ab h4;have ai:∀w,(Instr.makeSlice 29 (iI 4) (iI 4)).run prog w=.ok (lZ w.heap.size 4 4) (w.alloc (.cells #[iI 0,iI 0,iI 0,iI 0] 3)):=fun _=>by kernel_rfl
 have aj:(n:Int)<=4:=oM
 go_enter func143,ntmps143
 go_wp2
 clear ae
 go_loopw [6] (fun i wr=>∃k:Nat,n<=k/\k<=4/\i=iI k/\wr.heap[w.heap.size]?=some (.cells R.toArray 3 (0,0))/\Bw w wr) (fun i _=>4-(intOf i).toNat)
 case atStart=>exact⟨n,Bc _,hn,rfl,ac.o,ad⟩
 case round=>
  obtain⟨k,af,hk,rfl,hg,aa⟩:=hrel;have HG:Hd (wr.heap[w.heap.size]?=some (.cells R.toArray 3 (0,0))):=hg;clear hg
  by_cases hlt:k<4
  ·have ah:wr.frozen? (aD w.heap.size k)=false:=frozen_of_row _ _ _ _ _ HG.o;obtain⟨u,ag⟩:∃u,wr.cell? (aD w.heap.size k)=some u:=by
    rw[cell_of_row _ _ _ _ _ _ HG.o];have:k<R.length:=by rw[HR.o];simp;rw[HL.o];exact hlt
    exact⟨R[k],by simp[this]⟩
   go_wp2
   go_roundw
   case rel=>exact⟨k+1,oM,oM,by go_num,by rw[heap_setCell_same _ _ _ _ _ _ HG.o,HS.o k af hlt],aa.setCell lE _⟩
   case measure=>simp[intOf];omega
  ·have e4:k=4:=oM;subst e4
   go_wp2
   go_ret;exact⟨w.heap.size,4,rfl,⟨by rw[HR.o];simp;exact HL.o,.inr ⟨w.heap.size,4,R.toArray,rfl,Bc _,HG.o,Bc _,by decide,by simp;rw[HR.o];simp;exact HL.o,by rw[DF];rw[HR.o];simp;rw[HL.o];exact Bc _⟩⟩,aa⟩
theorem Sq (v:Value)(xs:List Int)(n:Int)(w:World)(h:Sl w v xs)(h4:xs.length=4)(h0:0<=n)(hn:n<=4):Cl 143 #[v,iI n] w fun r w'=>∃g cap',r=.returned (lZ g 4 cap')/\w'.ownsRow w.heap.size 3 1 (lZ g 4 cap') 4 ((AU xs n.toNat).map (.int .i64))/\Bw w w':=by
 obtain⟨b,off,cap,rfl,ab,hlt,aa⟩:=h.four h4;obtain⟨n,rfl⟩:=FV h0;rw[A5];exact XR b off cap n xs w h4 oM ab hlt aa
theorem W7 (h4:xs.length=4):AU xs 4=xs:=by unfold AU;rw[DF oM];simp
theorem Tryz.info3:(prog.info? 3).map (fun i=>(i.zero,i.size,i.bytes))=some (some (iI 0),1,8):=by kernel_rfl
theorem VZ (v:Value)(xs:List Int)(w:World)(h:Sl w v xs)(h4:xs.length=4):∃g cap W2,(Builtin.append_ #[29,29] 29 #[lZ w.heap.size 0 0,v]).run prog (w.alloc (.cells #[] 3))=.ok (lZ g 4 cap) W2/\
   W2.ownsRow w.heap.size 3 1 (lZ g 4 cap) 4 (xs.map (Value.int .i64))/\Bw w W2:=by
 obtain⟨b,off,cap,rfl,ai,hlt,ab⟩:=h.four h4;obtain⟨i0,hi,hz0,ag,ah⟩:=Fj Tryz.info3;have ad:(w.alloc (.cells #[] 3)).ownsRow w.heap.size 3 1 (lZ w.heap.size 0 0) 0 []:=O0 w #[] 0 lE dE (by simp);obtain⟨v',w',ae,aa,ac,_⟩:=run_append_own (P:=prog) (w.alloc (.cells #[] 3)) w.heap.size 29 29 3 i0 (iI 0) 1 8 underlying29 hi hz0 ag ah rfl dE _ 0 [] ad (aD b off) 4 cap (xs.map (Value.int .i64)) (by simp;exact h4)
  (by
   intro j u hj;have af:j<4:=by have:=(MK.1 hj).1;simp[h4]at this;exact this
   have:u=iI (xs.getD j 0):=by
    simp[List.getD,show j<xs.length by omega]at hj ⊢
    exact hj.symm
   rw[this,EI];exact(I5 _ _ _ hlt).trans (ab j af)) (MT _ _) dE dE (by simp)
 rw[Eh,EY]at aa;have hb:Bw w w':=((AG _ w).alloc lE (.cells #[] 3)).grown ac (by simp) (fun k hk=>by simp[Value.ownBlock]at hk;omega);rcases aa.2 with⟨_,h'⟩|⟨g,cap',cur,rfl,_⟩
 ·cases h'
 ·exact⟨g,cap',w',ae,aa,hb⟩
theorem VY {ops:Array Oper}{rest:List Oper}{o:Oper}{a:Act}{Q:Exit->Act->World->Prop}(hgd:o.guard=none)(s x:Operand)(ho:o.op=.call {callee:=.builtin .append,args:=#[s,x],argTypes:=#[29,29]})(v:Value)(xs:List Int)(hs:a.eval s=lZ w.heap.size 0 0)(hx:a.eval x=v)(hT:o.type=29)(hSl:Sl w v xs)(h4:xs.length=4)(h:∀g cap w',Hd (w'.ownsRow w.heap.size 3 1 (lZ g 4 cap) 4 (xs.map (Value.int .i64)))->Bw w w'->wpList prog ops Q rest (a.put o.dst (lZ g 4 cap)) w'):wpList prog ops Q (o::rest) a (w.alloc (.cells #[] 3)):=by
 obtain⟨g,cap,W2,ab,aa,hb⟩:=VZ v xs w hSl h4;refine JN hgd fun K hK=>?_
 unfold Oper.wp;simp[execOp,ho,resolve,invoke,builtin,hs,hx,hT,ab,Result.andThen]
 exact hK _ _ (h g cap W2 aa hb)
def Ko (xs:List Int) (n k:Nat):List Int:=xs.take n++List.replicate (k-n) 0++xs.drop k
theorem kG (xs:List Int)(n:Nat):Ko xs n n=xs:=by simp[Ko]
theorem kF (xs:List Int)(n:Nat)(h4:xs.length=4):Ko xs n 4=AU xs n:=by unfold Ko AU;rw[MI oM];simp
theorem kH (xs:List Int)(n k:Nat)(h4:xs.length=4)(hn:n<=k)(hk:k<4):(Ko xs n k).set k 0=Ko xs n (k+1):=by
 match xs,h4 with
 | [a,b,c,d],_=>
  match k,hk with
  | 0,_=>match n,hn with
   | 0,_=>rfl
  | 1,_=>match n,hn with
   | 0,_=>rfl
   | 1,_=>rfl
  | 2,_=>match n,hn with
   | 0,_=>rfl
   | 1,_=>rfl
   | 2,_=>rfl
  | 3,_=>match n,hn with
   | 0,_=>rfl
   | 1,_=>rfl
   | 2,_=>rfl
   | 3,_=>rfl
theorem gN (ao bo:Option Addr)(n cap cap':Nat)(xs:List Int)(w:World)(hn:xs.length=n)(hm:n<=9223372036854775807)(hc:∀j,j<n->∃b off,ao=some (aD b off)/\b<w.heap.size/\w.cell? (aD b (off+j))=some (iI (xs.getD j 0)))(hd:∀j,j<n->∃b off,bo=some (aD b off)/\b<w.heap.size/\w.cell? (aD b (off+j))=some (iI (xs.getD j 0))):Cl 132 #[.slice ao n cap,.slice bo n cap'] w fun r w'=>r=.returned (.bool true)/\Bw w w':=by
 have HC:Hd (∀j,j<n->∃b off,ao=some (aD b off)/\b<w.heap.size/\w.cell? (aD b (off+j))=some (iI (xs.getD j 0))):=hc;have HD:Hd (∀j,j<n->∃b off,bo=some (aD b off)/\b<w.heap.size/\w.cell? (aD b (off+j))=some (iI (xs.getD j 0))):=hd;clear hc hd;have HN:Hd (xs.length=n):=hn;clear hn
 go_enter func132,ntmps132
 go_wp2
 go_loopw [5] (fun i wr=>∃k:Nat,k<=n/\i=iI k/\Bw w wr) (fun i _=>n-(intOf i).toNat)
 case atStart=>exact⟨0,oM,rfl,AG _ _⟩
 case round=>
  obtain⟨k,hk,rfl,aa⟩:=hrel
  by_cases hlt:k<n
  ·obtain⟨x,hx⟩:=nM (xs.getD k 0);obtain⟨b,off,ag,ae,ad⟩:=HC.o k hlt;obtain⟨b',ac,ah,af,ab⟩:=HD.o k hlt;rw[hx]at ad ab;clear hx;have g1:wr.cell? (aD b (off+k))=some (iI x):=(aa.cell (p:=(aD b (off+k))) ae).trans ad;have g2:wr.cell? (aD b' (ac+k))=some (iI x):=(aa.cell (p:=(aD b' (ac+k))) af).trans ab;have i1:(k:Int)<(n:Int):=oM
   go_wp2
   go_quiet(fail)
   go_wp2
   go_roundw
   case rel=>exact⟨k+1,oM,by go_num,below_drewN aa _⟩
   case measure=>simp[intOf];omega
  ·have e4:k=n:=oM;subst e4
   go_wp2
   go_ret;exact⟨rfl,aa⟩
theorem gM {u:Value}(h:Sl w v xs)(k:Sl w u xs):Cl 132 #[v,u] w fun r w'=>r=.returned (.bool true)/\Bw w w':=by
 obtain⟨ao,cap,rfl⟩:=h.form;obtain⟨bo,cap',rfl⟩:=k.form;obtain⟨hn,hm,_,hc⟩:=h.cells;obtain⟨_,_,_,hd⟩:=k.cells;exact gN ao bo _ cap cap' xs w hn hm hc hd
theorem Zw (m:Ac)(gm:Int)(ra:Option Addr)(rn rc:Nat)(sa:Option Addr)(sc:Nat)(fa:Option Addr)(fn fc:Nat)(na:Option Addr)(nn nc:Nat)(k:Int)(d:ByteArray)(ea:Option Addr)(en ec:Nat)(es:List Int)(B:Nat)(val:Nm->Value)(w:World)(hO:OX w B val m)(e0:val .r=.slice ra rn rc)(e1:val .s=.slice sa m.s.length sc)(e2:val .f=.slice fa fn fc)(e3:val .p=.slice na nn nc)(hB:B<=w.heap.size)(he:w.ownsRow B 3 1 (.slice ea en ec) es.length (Ae es))(hfar:Ei m val (.tab m.s.length) (.slice ea en ec))(hle:m.s.length<=1000):Cl 129 #[.agg (bI gm ra rn rc sa m.s.length sc fa fn fc na nn nc),iI (m.s.length:Int),.agg #[iI k,.string d,.slice ea en ec]] w fun r w'=>∃val',r=.returned (AB gm val')/\OX w' B val' {m with s:=m.s++[(k,d,es)]}/\Below B w w'/\BC w w' m val/\DB w m val (.slice ea en ec) {m with s:=m.s++[(k,d,es)]} val'/\(∀a,a≠.s->a≠.tab m.s.length->val' a=val a):=by
 let V:=((w.alloc (cB gm ra rn rc sa m.s.length sc fa fn fc na nn nc)).alloc (oS k d ea en ec))
 have m0:(V.alloc zI).heap[w.heap.size]?=some (cB gm ra rn rc sa m.s.length sc fa fn fc na nn nc):=Aj (Aj (Aw _ _) _) _;have m1:(V.alloc zI).heap[w.heap.size+1]?=some (oS k d ea en ec):=Aj (AR (by simp[V])) _;have m2:(V.alloc zI).heap[w.heap.size+1+1]?=some zI:=AR (by simp[V]);obtain⟨c0,c1,c2,c3,c4⟩:=five m0;dsimp only[V]at *;clear V
 go_enter func129,ntmps129
 have ad:(((w.alloc (cB gm ra rn rc sa m.s.length sc fa fn fc na nn nc)).alloc (oS k d ea en ec)).alloc zI).ownsRow B 85 3 (.slice sa m.s.length sc) m.s.length (A2 m.s (fun j=>val (.tab j))):=by
  have:=hO.row .s (Ad.s m);rw[e1]at this;exact((this.alloc _).alloc _).alloc _
 go_wp2_with(at_builtin;refine Lo (by rfl) _ _ 30 85 _ underlying30 J0 (by rfl) (by rfl) (B:=B) (v:=.slice sa m.s.length sc) (c0:=iI k) (c1:=.string d) (c2:=.slice ea en ec) (by rfl) (by rfl) (by rfl) (by rfl) (by rfl) (by simp) ad hle (by simp<;>omega) ?_;intro v1 w1 h1 h2 h3;obtain⟨g1,aa,ah⟩:=Eo h1.o;subst ah;have q0:=(h2.block w.heap.size (by simp<;>omega) (TG hO (Ad.s m) e1 lE)).trans (Aj m0 _);have d0:=five q0;have f2:=Aq q0 2;have q2:=(h2.block (w.heap.size+1+1) (by simp<;>omega) (TG hO (Ad.s m) e1 oM)).trans (Aj m2 _);have z0:=five q2;have y0:=Aq q2);have hA:OX ((((w.alloc (cB gm ra rn rc sa m.s.length sc fa fn fc na nn nc)).alloc (oS k d ea en ec)).alloc zI).alloc (oS k d ea en ec)) B val m:=(((hO.alloc _).alloc _).alloc _).alloc _;have hz:((((w.alloc (cB gm ra rn rc sa m.s.length sc fa fn fc na nn nc)).alloc (oS k d ea en ec)).alloc zI).alloc (oS k d ea en ec)).heap.size=w.heap.size+4:=by simp
 have hz0:(((w.alloc (cB gm ra rn rc sa m.s.length sc fa fn fc na nn nc)).alloc (oS k d ea en ec)).alloc zI).heap.size=w.heap.size+3:=by simp
 have ac:(lZ g1 (m.s.length+1) aa).ownBlock=(val .s).ownBlock\/(lZ g1 (m.s.length+1) aa).ownBlock=some (w.heap.size+4):=by
  rcases h3.o with e|e
  ·exact .inl (e.trans (by rw[e1]))
  ·refine .inr (e.trans ?_);rw[hz0]
 have hN:=hA.addSlot (k:=k) (d:=d) (fun _=>(((he.alloc _).alloc _).alloc _).alloc _) (N4 he) (fun _=>hfar) (by rw[e1];exact h2) h1.o (ac.imp id (fun e g hg=>by rw[e]at hg;cases hg;omega));have ae:∀g,w.heap.size<=g->(Value.slice ea en ec).ownBlock≠some g:=fun g hg e=>by have:=(he.lt g e).2;omega
 have af:∀g,w.heap.size<=g->g<w.heap.size+4->(lZ g1 (m.s.length+1) aa).ownBlock≠some g:=fun g hg hg4 e=>by
  rcases ac with x|x
  ·rw[x]at e;exact hO.lt hg .s (Ad.s m) e
  ·rw[x]at e;cases e;omega
 have ag:=M7 (s:=(k,d,es)) (hO.lt lE) (fun _=>ae _ lE) (af w.heap.size lE oM);have ab:=M7 (s:=(k,d,es)) (hO.lt (g:=w.heap.size+1+1) oM) (fun _=>ae _ oM) (af (w.heap.size+1+1) oM oM);have kB:BC w w1 m val:=BC.grown (((((BC.refl w m val).alloc lE _).alloc (by simp) _).alloc (by simp<;>omega) _).alloc (by simp<;>omega) _) (by simp<;>omega) (Ad.s m) e1 h2;have bB:Below B w w1:=by
  refine IV (row:=(Value.slice sa m.s.length sc).ownBlock) (((((AG B w).alloc hB _).alloc (by simp<;>omega) _).alloc (by simp<;>omega) _).alloc (by simp<;>omega) _) h2 (by simp<;>omega) (fun q e=>?_);exact((hO.row .s (Ad.s m)).lt q (by rw[e1];exact e)).1
 refine AY (v:=.agg #[iI gm,.slice ra rn rc,lZ g1 (m.s.length+1) aa,.slice fa fn fc,.slice na nn nc]) (by simp[results,results129,go_sem,z0]) rfl ⟨_,?_,(((((hN.far ag).far ab).far ab).far ab).far ab).far ab,(((((bB.setCell hB _).setCell (by show _<=w.heap.size+1+1;omega) _).setCell (by show _<=w.heap.size+1+1;omega) _).setCell (by show _<=w.heap.size+1+1;omega) _).setCell (by show _<=w.heap.size+1+1;omega) _).setCell (by show _<=w.heap.size+1+1;omega) _,((((((kB.new lE).new oM).new oM).new oM).new oM).new oM),fun g hg hev' hm=>M7 hm (fun _=>hev') (fun e=>by rcases ac with x|x;(rw[x]at e;exact hm .s (Ad.s m) e);(rw[x]at e;have e:w.heap.size+4=g:=BJ e;omega)),fun a h1 h2=>?_⟩
 ·unfold AB;rw[Bh,Ap _ _ (by nofun),Ap _ _ (by nofun),Ap _ _ (by nofun),Ap _ _ (by nofun),Ap _ _ (by nofun),Ap _ _ (by nofun),e0,e2,e3]
 ·rw[Ap _ _ h1,Ap _ _ h2]
theorem Zx (m:Ac)(gm:Int)(ra:Option Addr)(rn rc:Nat)(sc:Nat)(fa:Option Addr)(fn fc:Nat)(na:Option Addr)(nn nc:Nat)(k:Int)(d:ByteArray)(ea:Option Addr)(en ec:Nat)(es:List Int)(i:Nat)(g:Nat)(B:Nat)(val:Nm->Value)(w:World)(hO:OX w B val m)(e0:val .r=.slice ra rn rc)(e1:val .s=lZ g m.s.length sc)(e2:val .f=.slice fa fn fc)(e3:val .p=.slice na nn nc)(hB:B<=w.heap.size)(he:w.ownsRow B 3 1 (.slice ea en ec) es.length (Ae es))(hfar:Ei m val (.tab i) (.slice ea en ec))(hi:i<m.s.length):Cl 129 #[.agg (bI gm ra rn rc (sZ g) m.s.length sc fa fn fc na nn nc),iI (i:Int),.agg #[iI k,.string d,.slice ea en ec]] w fun r w'=>∃val',r=.returned (AB gm val')/\OX w' B val' {m with s:=m.s.set i (k,d,es)}/\Below B w w'/\BC w w' m val/\DB w m val (.slice ea en ec) {m with s:=m.s.set i (k,d,es)} val'/\(∀a,a≠.s->a≠.tab i->val' a=val a):=by
 let V:=((w.alloc (cB gm ra rn rc (sZ g) m.s.length sc fa fn fc na nn nc)).alloc (oS k d ea en ec))
 have m0:(V.alloc zI).heap[w.heap.size]?=some (cB gm ra rn rc (sZ g) m.s.length sc fa fn fc na nn nc):=Aj (Aj (Aw _ _) _) _;have m1:(V.alloc zI).heap[w.heap.size+1]?=some (oS k d ea en ec):=Aj (by have:=C2 (w.alloc (cB gm ra rn rc (sZ g) m.s.length sc fa fn fc na nn nc)) (oS k d ea en ec);simpa[V] using this) _;have m2:(V.alloc zI).heap[w.heap.size+1+1]?=some zI:=AR (by simp[V]);have c0:=five m0;have z0:=five m2;have y0:=Aq m2;have hA:OX (V.alloc zI) B val m:=((hO.alloc _).alloc _).alloc _;have hr:=hA.row .s (Ad.s m);rw[e1]at hr;obtain⟨s0,s1,s2⟩:=D3 (tv:=fun j=>val (.tab j)) hi;have t0:(V.alloc zI).cell? (aD g (i*3))=some _:=(hr.cellAt (i*3) (by show _<_*3;omega)).trans s0;have t1:(V.alloc zI).cell? (aD g (i*3+1))=some _:=(hr.cellAt (i*3+1) (by show _<_*3;omega)).trans s1;have t2:(V.alloc zI).cell? (aD g (i*3+2))=some _:=(hr.cellAt (i*3+2) (by show _<_*3;omega)).trans s2;have u0:=hr.frozenAt (i*3);have u1:=hr.frozenAt (i*3+1);have u2:=hr.frozenAt (i*3+2);have hne:((i:Int) == (m.s.length:Int))=false:=by simp[V];omega
 have ac:¬(i:Int)=(m.s.length:Int):=oM;have ae:(i:Int)<(m.s.length:Int):=oM;have ad:g<w.heap.size:=by
  have:=hO.row .s (Ad.s m);rw[e1]at this;exact(this.lt g rfl).2
 have hgB:B<=g:=by
  have:=hO.row .s (Ad.s m);rw[e1]at this;exact(this.lt g rfl).1
 have g1:¬g=w.heap.size:=oM;have g2:¬w.heap.size=g:=oM;have g3:¬g=w.heap.size+1+1:=oM;have g4:¬w.heap.size+1+1=g:=oM;dsimp only[V]at *;clear V
 go_enter func129,ntmps129
 go_wp2_with fail;have hN:=hA.setSlot hi e1 k d es (((he.alloc _).alloc _).alloc _) hfar;have ab:∀g,w.heap.size<=g->(Value.slice ea en ec).ownBlock≠some g:=fun g hg e=>by have:=(he.lt g e).2;omega
 have aa:=QO (s:=(k,d,es)) (hO.lt (g:=w.heap.size+1+1) oM) (ab (w.heap.size+1+1) oM) (i:=i);have kB:BC w (((w.alloc (cB gm ra rn rc (sZ g) m.s.length sc fa fn fc na nn nc)).alloc (oS k d ea en ec)).alloc zI) m val:=(((BC.refl w m val).alloc lE _).alloc (by simp) _).alloc (by simp<;>omega) _;have bB:Below B w (((w.alloc (cB gm ra rn rc (sZ g) m.s.length sc fa fn fc na nn nc)).alloc (oS k d ea en ec)).alloc zI):=(((AG B w).alloc hB _).alloc (by simp<;>omega) _).alloc (by simp<;>omega) _;refine AY (v:=.agg (bI gm ra rn rc (sZ g) m.s.length sc fa fn fc na nn nc)) (by simp[results,results129,go_sem,z0]) rfl ⟨_,?_,((((hN.far aa).far aa).far aa).far aa).far aa,(((((((bB.setCell hgB _).setCell hgB _).setCell hgB _).setCell (by show _<=w.heap.size+1+1;omega) _).setCell (by show _<=w.heap.size+1+1;omega) _).setCell (by show _<=w.heap.size+1+1;omega) _).setCell (by show _<=w.heap.size+1+1;omega) _).setCell (by show _<=w.heap.size+1+1;omega) _,((((((((kB.own (Ad.s m) e1).own (Ad.s m) e1).own (Ad.s m) e1).new oM).new oM).new oM).new oM).new oM),fun _ _ hev' hm=>QO hm hev',fun a _ h2=>Ap _ _ h2⟩;unfold AB;rw[Ap _ _ (by nofun),Ap _ _ (by nofun),Ap _ _ (by nofun),Ap _ _ (by nofun),e0,e1,e2,e3]
theorem NK (gm:Int){k:Int}{d:ByteArray}(hO:OX w B val m)(hB:B<=w.heap.size)(hi:i<=m.s.length)(hle:m.s.length<=1000)(he:w.ownsRow B 3 1 ev es.length (Ae es))(hfar:Ei m val (.tab i) ev):Cl 129 #[AB gm val,iI (i:Int),.agg #[iI k,.string d,ev]] w fun r w'=>∃val',r=.returned (AB gm val')/\OX w' B val' {m with s:=A3 m.s i (k,d,es)}/\Below B w w'/\BC w w' m val/\DB w m val ev {m with s:=A3 m.s i (k,d,es)} val'/\(∀a,a≠.s->a≠.tab i->val' a=val a):=by
 obtain⟨ra,rc,e0,_⟩:=hO.forms .r (Ad.r m);obtain⟨sa,sc,e1,hs⟩:=hO.forms .s (Ad.s m);obtain⟨fa,fc,e2,_⟩:=hO.forms .f (Ad.f m);obtain⟨na,nc,e3,_⟩:=hO.forms .p (Ad.p m);have aa:∃ea en ec,ev=.slice ea en ec:=by
  rcases Di he with⟨e,_⟩|⟨g,cap,e,_⟩
  ·exact⟨_,_,_,e⟩
  ·exact⟨_,_,_,e⟩
 obtain⟨ea,en,ec,rfl⟩:=aa;have e1:val .s=.slice sa m.s.length sc:=e1;unfold AB;rw[e0,e1,e2,e3];unfold A3
 by_cases e:i=m.s.length
 ·subst e;rw[Ab rfl];exact Zw m gm ra _ rc sa sc fa _ fc na _ nc k d ea en ec es B val w hO e0 e1 e2 e3 hB he hfar hle
 ·rw[Aa e];obtain⟨g,rfl⟩:=hs (by show 0<m.s.length;omega);exact Zx m gm ra _ rc sc fa _ fc na _ nc k d ea en ec es i g B val w hO e0 e1 e2 e3 hB he hfar oM

theorem Te {a:Nm}(h:Ad (CB m k) a):Ad m a:=by
 rcases h.cases with rfl|rfl|rfl|rfl|⟨j,rfl,hj,hn⟩|⟨j,rfl,hj⟩
 ·exact Ad.r m
 ·exact Ad.s m
 ·exact Ad.f m
 ·exact Ad.p m
 ·rw[FJ]at hj;refine Ad.tab ⟨hj,fun e=>hn ?_⟩
  show ((CB m k).s.getD j default).2.2=[]
  rw[JW m k hj]
  split
  ·rfl
  ·exact e
 ·exact Ad.sr hj
theorem ZF {a:Nm}(h:Ad (At m) a):Ad m a:=by
 rw[<-PO]at h;exact Te h
structure MY (w wr:World) (B:Nat) (m:Ac) (val:Nm->Value) (k:Nat):Prop where
 own:∃vk,OX wr B vk (CB m k)/\vk .r=val .r/\vk .s=val .s/\vk .f=lZ (w.heap.size+4) m.s.length m.s.length/\vk .p=val .p/\(∀a,Ad m a->a≠.f->∀q,q<w.heap.size+2->(∀b,Ad m b->(val b).ownBlock≠some q)->(vk a).ownBlock≠some q)
 box:wr.heap[w.heap.size]?=some (.cells #[iI m.g,val .r,val .s,lZ (w.heap.size+4) m.s.length m.s.length,val .p] 33)
 res:wr.heap[w.heap.size+1]?=some zI
 bel:Below B w wr
 kep:BC w wr m val
theorem WN (m:Ac)(ra:Option Addr)(rn rc:Nat)(g sc:Nat)(fa:Option Addr)(fn fc:Nat)(na:Option Addr)(nn nc:Nat)(B:Nat)(val:Nm->Value)(w:World)(hO:OX w B val m)(e0:val .r=.slice ra rn rc)(e1:val .s=lZ g m.s.length sc)(e3:val .p=.slice na nn nc)(hB:B<=w.heap.size)(hE:As {m with f:=BX m.s} = 0):Cl 127 #[.agg (bI m.g ra rn rc (sZ g) m.s.length sc fa fn fc na nn nc)] w fun r w'=>∃val',r=.returned (AB m.g val')/\OX w' B val' (At m)/\Below B w w'/\BC w w' m val/\DB w m val (nl) (At m) val':=by
 let V:=(cB m.g ra rn rc (sZ g) m.s.length sc fa fn fc na nn nc)
 have m0:((w.alloc V).alloc zI).heap[w.heap.size]?=some V:=Aj (Aw _ _) _;have m2:((w.alloc V).alloc zI).heap[w.heap.size+1]?=some zI:=AR (by simp[V]);have c0:=five m0;have f3:=Aq m0 3;have h40:m.s.length<=40:=(A4 (Au hE).2.1).2;have aC:1<=m.s.length:=(A4 (Au hE).2.1).1;have aB:=KY m.s.length h40;dsimp only[V]at *;clear V
 go_enter func127,ntmps127
 have hz0:((w.alloc (.cells #[iI m.g,.slice ra rn rc,lZ g m.s.length sc,lZ (w.heap.size+1+1) m.s.length m.s.length,.slice na nn nc] 33)).alloc zI).heap.size=w.heap.size+1+1:=by simp
 have ap:(((w.alloc (.cells #[iI m.g,.slice ra rn rc,lZ g m.s.length sc,lZ (w.heap.size+1+1) m.s.length m.s.length,.slice na nn nc] 33)).alloc zI).alloc (.cells (Array.replicate m.s.length (iI 0)) 3)).heap.size=w.heap.size+3:=by simp
 have ar:(BX m.s).length=m.s.length:=by simp[BX]
 have ay:Array.replicate m.s.length (iI 0)=(Ae (BX m.s)).toArray:=by simp[Ae,BX]
 have ao:(((w.alloc (.cells #[iI m.g,.slice ra rn rc,lZ g m.s.length sc,lZ (w.heap.size+1+1) m.s.length m.s.length,.slice na nn nc] 33)).alloc zI).alloc (.cells (Array.replicate m.s.length (iI 0)) 3)).ownsRow B 3 1 (lZ (w.heap.size+1+1) m.s.length m.s.length) (BX m.s).length (Ae (BX m.s)):=by
  have:=Tu ((w.alloc (.cells #[iI m.g,.slice ra rn rc,lZ g m.s.length sc,lZ (w.heap.size+1+1) m.s.length m.s.length,.slice na nn nc] 33)).alloc zI) (BX m.s) (by rw[ar];omega) (B:=B) (by rw[hz0];omega);rw[hz0,ar]at this;rw[ay,ar];exact this
 have aq:OX ((w.alloc (.cells #[iI m.g,.slice ra rn rc,lZ g m.s.length sc,lZ (w.heap.size+1+1) m.s.length m.s.length,.slice na nn nc] 33)).alloc zI) B val m:=(hO.alloc _).alloc _;have hZ:=(aq.alloc (.cells (Array.replicate m.s.length (iI 0)) 3)).swapRefs ao (IC aq .f (fun q e=>by cases e;rw[hz0];exact Bc _));have hI:=hZ.img;have aa:=R3 hI hE;have eI:AB m.g (Az val .f (lZ (w.heap.size+1+1) m.s.length m.s.length))=.agg #[iI m.g,.slice ra rn rc,lZ g m.s.length sc,lZ (w.heap.size+1+1) m.s.length m.s.length,.slice na nn nc]:=by
  unfold AB;rw[Bh,Ap _ _ (by nofun),Ap _ _ (by nofun),Ap _ _ (by nofun),e0,e1,e3]
 have aa:Cl 122 #[.agg #[iI m.g,.slice ra rn rc,lZ g m.s.length sc,lZ (w.heap.size+1+1) m.s.length m.s.length,.slice na nn nc]] (((w.alloc (.cells #[iI m.g,.slice ra rn rc,lZ g m.s.length sc,lZ (w.heap.size+1+1) m.s.length m.s.length,.slice na nn nc] 33)).alloc zI).alloc (.cells (Array.replicate m.s.length (iI 0)) 3)) fun r w'=>(r=.returned (lZ (w.heap.size+4) m.s.length m.s.length)/\Hd (Bz w' (w.heap.size+4) (AL m)))/\Hd (Below (w.heap.size+3) (((w.alloc (.cells #[iI m.g,.slice ra rn rc,lZ g m.s.length sc,lZ (w.heap.size+1+1) m.s.length m.s.length,.slice na nn nc] 33)).alloc zI).alloc (.cells (Array.replicate m.s.length (iI 0)) 3)) w'):=by
  have h:=aa;unfold Bw at h;rw[ap,show AB ({m with f:=BX m.s} : Ac).g (Az val .f (lZ (w.heap.size+1+1) m.s.length m.s.length))=.agg #[iI m.g,.slice ra rn rc,lZ g m.s.length sc,lZ (w.heap.size+1+1) m.s.length m.s.length,.slice na nn nc] from eI]at h;exact h
 have p0:(((w.alloc (.cells #[iI m.g,.slice ra rn rc,lZ g m.s.length sc,lZ (w.heap.size+1+1) m.s.length m.s.length,.slice na nn nc] 33)).alloc zI).alloc (.cells (Array.replicate m.s.length (iI 0)) 3)).heap[w.heap.size]?=some (.cells #[iI m.g,.slice ra rn rc,lZ g m.s.length sc,lZ (w.heap.size+1+1) m.s.length m.s.length,.slice na nn nc] 33):=Aj (Aj (Aw _ _) _) _;have p1:(((w.alloc (.cells #[iI m.g,.slice ra rn rc,lZ g m.s.length sc,lZ (w.heap.size+1+1) m.s.length m.s.length,.slice na nn nc] 33)).alloc zI).alloc (.cells (Array.replicate m.s.length (iI 0)) 3)).heap[w.heap.size+1]?=some zI:=Aj (by have:=C2 (w.alloc (.cells #[iI m.g,.slice ra rn rc,lZ g m.s.length sc,lZ (w.heap.size+1+1) m.s.length m.s.length,.slice na nn nc] 33)) zI;simpa using this) _;have ac:∀a,Ad m a->(val a).ownBlock≠some w.heap.size/\(val a).ownBlock≠some (w.heap.size+1):=fun a ha=>⟨hO.lt lE a ha,hO.lt oM a ha⟩
 have az:Below B w (((w.alloc (.cells #[iI m.g,.slice ra rn rc,lZ g m.s.length sc,lZ (w.heap.size+1+1) m.s.length m.s.length,.slice na nn nc] 33)).alloc zI).alloc (.cells (Array.replicate m.s.length (iI 0)) 3)):=(((AG B w).alloc hB _).alloc (by simp<;>omega) _).alloc (by simp<;>omega) _;have au:OX (((w.alloc (.cells #[iI m.g,.slice ra rn rc,lZ g m.s.length sc,lZ (w.heap.size+1+1) m.s.length m.s.length,.slice na nn nc] 33)).alloc zI).alloc (.cells (Array.replicate m.s.length (iI 0)) 3)) B val m:=aq.alloc _;have am:(AL m).length=m.s.length:=EK m;clear hI hZ ao ay;go_wp2_with(go_at_call 122;refine aa.mono ?_;rintro e w3 ⟨⟨rfl,hL⟩,al⟩;have q0:=Ag p0 al.o oM;have q1:=Ag p1 al.o oM;have d0:=five q0;have fz:=Aq q0 3);have ah:Below (((w.alloc (.cells #[iI m.g,.slice ra rn rc,lZ g m.s.length sc,lZ (w.heap.size+1+1) m.s.length m.s.length,.slice na nn nc] 33)).alloc zI).alloc (.cells (Array.replicate m.s.length (iI 0)) 3)).heap.size (((w.alloc (.cells #[iI m.g,.slice ra rn rc,lZ g m.s.length sc,lZ (w.heap.size+1+1) m.s.length m.s.length,.slice na nn nc] 33)).alloc zI).alloc (.cells (Array.replicate m.s.length (iI 0)) 3)) w3:=by rw[ap];exact al.o
 have a6:OX w3 B val m:=au.below ah;have hrc:w3.ownsRow B 3 1 (lZ (w.heap.size+4) m.s.length m.s.length) (AL m).length (Ae (AL m)):=by
  have:=UC hL.o (B:=B) oM (by rw[am];omega);rw[am]at this ⊢;exact this
 have a7:=a6.swapRefs hrc (IC au .f (fun q e=>by cases e;rw[ap];show w.heap.size+3<=w.heap.size+4;omega));have av:∀a,Ad m a->a≠.f->∀q,q<w.heap.size+2->(∀b,Ad m b->(val b).ownBlock≠some q)->(Az val .f (lZ (w.heap.size+4) m.s.length m.s.length) a).ownBlock≠some q:=fun a ha hne q _ hm=>by rw[Ap _ _ hne];exact hm a ha
 have a8:Hd (∀b,Ad m b->(val b).ownBlock≠some (w.heap.size+1)):=fun b hb=>(ac b hb).2
 have HS:Hd (MY w (w3.setCell (aD w.heap.size 3) (lZ (w.heap.size+4) m.s.length m.s.length)) B m val 0):=by
  refine⟨⟨Az val .f (lZ (w.heap.size+4) m.s.length m.s.length),?_,Ap _ _ (by nofun),Ap _ _ (by nofun),Bh _ _ _,Ap _ _ (by nofun),av⟩,?_,Bt q1 oM _ _,(az.trans (ah.mono (by rw[ap];omega))).setCell hB _,(BC.below ((((BC.refl w m val).alloc lE _).alloc (by simp) _).alloc (by simp<;>omega) _) (n:=w.heap.size+3) oM al.o).new lE⟩
  ·rw[Sy];refine a7.far (fun a ha=>?_)
   by_cases e:a=.f
   ·subst e;rw[Bh];intro x;have x:w.heap.size+4=w.heap.size:=BJ x;omega
   ·exact av a ha e w.heap.size oM (fun b hb=>(ac b hb).1)
  ·have:=Bf q0 3 (lZ (w.heap.size+4) m.s.length m.s.length);rw[e0,e1,e3];exact this
 have HV:Hd (val .r=.slice ra rn rc/\val .s=lZ g m.s.length sc/\val .p=.slice na nn nc):=⟨e0,e1,e3⟩;have HG:Hd (B<=g/\g<w.heap.size):=by
  have:=hO.row .s (Ad.s m);rw[e1]at this;exact this.lt g rfl
 clear ah a6 hrc a7 av ac az au aq hO hE hz0 ap ar aa hL al q0 q1 d0 fz p0 p1 m0 m2 c0 f3 e0 e1 e3 aB eI
 go_loopw [3] (fun i wr=>∃k:Nat,k<=m.s.length/\i=iI k/\Hd (MY w wr B m val k)) (fun i _=>m.s.length-(intOf i).toNat)
 case atStart=>exact⟨0,A7 _,rfl,HS⟩
 case round=>
  obtain⟨k,hk,rfl,HC⟩:=hrel;obtain⟨⟨vk,ag,v0,v1,v2,v3,ai⟩,ab,ad,ae,af⟩:=HC.o;obtain⟨e0,e1,e3⟩:=HV.o;rw[e0]at v0;rw[e1]at v1;rw[e3]at v3;rw[e0,e1,e3]at ab;have d0:=five ab;have aw:=HG.o;have g1:¬g=w.heap.size:=oM;have g2:¬w.heap.size=g:=oM;have g3:¬g=w.heap.size+1:=oM;have g4:¬w.heap.size+1=g:=oM
  by_cases hlk:k<m.s.length
  ·have aE:(k:Int)<(m.s.length:Int):=oM;obtain⟨x,hx⟩:∃x,x=(AL m).getD k 0:=⟨_,rfl⟩;have cx:wr.cell? (aD (w.heap.size+4) k)=some (iI x):=by
    have hr:=ag.row .f (Ad.f _);rw[v2]at hr;have hr:wr.ownsRow B 3 1 (lZ (w.heap.size+4) m.s.length m.s.length) (AL m).length (Ae (AL m)):=hr;rw[am]at hr;rw[hx];refine(hr.cellAt k oM).trans ?_;unfold Ae;rw[Dm,Co (by rw[am];exact hlk)];simp[List.getD,am,hlk]
   have HX:Hd (x=(AL m).getD k 0):=hx;clear hx
   by_cases h0:x=0
   ·have aA:(x == 0)=true:=by simp[h0]
    have H0:Hd ((AL m).getD k 0=0):=HX.o.symm.trans h0;clear h0;have an:=FJ m k;have hr:=ag.row .s (Ad.s _);rw[v1]at hr;obtain⟨s0,s1,s2⟩:=D3 (L:=(CB m k).s) (tv:=fun j=>vk (.tab j)) (j:=k) (by rw[an];exact hlk);have hr:wr.ownsRow B 85 3 (lZ g m.s.length sc) m.s.length (A2 (CB m k).s (fun j=>vk (.tab j))):=by rw[<-an];rw[<-an]at hr;exact hr
    have t0:wr.cell? (aD g (k*3))=some _:=(hr.cellAt (k*3) oM).trans s0;have t1:wr.cell? (aD g (k*3+1))=some _:=(hr.cellAt (k*3+1) oM).trans s1;have t2:wr.cell? (aD g (k*3+2))=some _:=(hr.cellAt (k*3+2) oM).trans s2;have u0:=hr.frozenAt (k*3);have u1:=hr.frozenAt (k*3+1);have u2:=hr.frozenAt (k*3+2);have HN:Hd (MY w (((wr.setCell (aD g (k*3)) (iI 0)).setCell (aD g (k*3+1)) (.string ⟨#[]⟩)).setCell (aD g (k*3+2)) (nl)) B m val (k+1)):=by
     have hN:=ag.setSlot (t:=k) (by rw[an];exact hlk) v1 0 ⟨#[]⟩ [] (ev:=nl) (DG _ _ _ _) (Np _ _ _ _ _);refine⟨⟨Az vk (.tab k) (nl),?_,(Ap _ _ (by nofun)).trans (v0.trans e0.symm),(Ap _ _ (by nofun)).trans (v1.trans e1.symm),(Ap _ _ (by nofun)).trans v2,(Ap _ _ (by nofun)).trans (v3.trans e3.symm),fun a ha hne q hq hm=>?_⟩,?_,?_,((ae.setCell aw.1 _).setCell aw.1 _).setCell aw.1 _,((af.own (Ad.s m) e1).own (Ad.s m) e1).own (Ad.s m) e1⟩
     ·rw[Sw m H0.o];exact hN
     ·by_cases e:a=.tab k
      ·subst e;rw[Bh];intro x;cases x
      ·rw[Ap _ _ e];exact ai a ha hne q hq hm
     ·rw[e0,e1,e3];exact Bt (Bt (Bt ab g2 _ _) g2 _ _) g2 _ _
     ·exact Bt (Bt (Bt ad g4 _ _) g4 _ _) g4 _ _
    clear af ag ab ad ae hr s0 s1 s2 e0 e1 e3 v0 v1 v2 v3 ai HC HX H0 an;go_wp2_with fail;go_roundw
    case rel=>exact⟨k+1,oM,by go_num,HN⟩
    case measure=>simp[intOf];omega
   ·have aA:(x == 0)=false:=by simp[h0]
    have HN:Hd (MY w wr B m val (k+1)):=by
     refine⟨⟨vk,?_,v0.trans e0.symm,v1.trans e1.symm,v2,v3.trans e3.symm,ai⟩,HC.o.box,HC.o.res,HC.o.bel,HC.o.kep⟩;rw[Sx m (fun e=>h0 (HX.o.trans e))];exact ag
    clear af ag ab ad ae e0 e1 e3 v0 v1 v2 v3 ai HC HX;go_wp2_with fail;go_roundw
    case rel=>exact⟨k+1,oM,by go_num,HN⟩
    case measure=>simp[intOf];omega
  ·have ek:k=m.s.length:=oM;subst ek;have z0:=five ad;have y0:=Aq ad;have aj:∀a,Ad (CB m m.s.length) a->(vk a).ownBlock≠some (w.heap.size+1):=fun a ha=>by
    by_cases e:a=.f
    ·subst e;rw[v2];intro x;have x:w.heap.size+4=w.heap.size+1:=BJ x;omega
    ·exact(ai a (Te ha) e _ oM a8.o)
   have hF:OX wr B vk (CB m m.s.length):=ag;rw[PO]at hF aj;have HF:Hd (OX wr B vk (At m)):=hF;have ax:DB w m val (nl) (At m) vk:=fun q hq _ hm a ha=>by
    by_cases e:a=.f
    ·subst e;rw[v2];intro x;have x:w.heap.size+4=q:=BJ x;omega
    ·exact ai a (ZF ha) e q oM hm
   clear hF ag HC;go_wp2_with fail;have ak:B<=w.heap.size+1:=oM;refine AY (v:=.agg #[iI m.g,.slice ra rn rc,lZ g m.s.length sc,lZ (w.heap.size+4) m.s.length m.s.length,.slice na nn nc]) (by simp[results,results127,go_sem,z0]) rfl ⟨vk,?_,((((HF.o.far aj).far aj).far aj).far aj).far aj,((((ae.setCell ak _).setCell ak _).setCell ak _).setCell ak _).setCell ak _,((((af.new oM).new oM).new oM).new oM).new oM,ax⟩;unfold AB;rw[v0,v1,v2,v3]
theorem KC (hO:OX w B val m)(hB:B<=w.heap.size)(hE:As {m with f:=BX m.s} = 0):Cl 127 #[AB m.g val] w fun r w'=>∃val',r=.returned (AB m.g val')/\OX w' B val' (At m)/\Below B w w'/\BC w w' m val/\DB w m val (nl) (At m) val':=by
 obtain⟨ra,rc,e0,_⟩:=hO.forms .r (Ad.r m);obtain⟨sa,sc,e1,hs⟩:=hO.forms .s (Ad.s m);obtain⟨fa,fc,e2,_⟩:=hO.forms .f (Ad.f m);obtain⟨na,nc,e3,_⟩:=hO.forms .p (Ad.p m);have aa:1<=m.s.length:=(A4 (Au hE).2.1).1;obtain⟨g,rfl⟩:=hs (by show 0<m.s.length;omega);have e1:val .s=lZ g m.s.length sc:=e1;unfold AB;rw[e0,e1,e2,e3];exact WN m ra _ rc g sc fa _ fc na _ nc B val w hO e0 e1 e3 hB hE
theorem SF (b off cap n g:Nat)(L:List An)(w:World)(hn:L.length=n)(h1:1<=n)(h40:n<=40)(hc:∀j,(h:j<L.length)->B7 w b (off+j*3) L[j])(hg:E0 L g)(c:Int)(hcc:(if g=40 then (0:Int) else g)=c):Cl 128 #[lD b off n cap] w fun r w'=>r=.returned (iI c)/\w'=w:=by
 have HQ:Hd ((if g=40 then (0:Int) else g)=c):=hcc;clear hcc;have HC:Hd (∀j,(h:j<L.length)->B7 w b (off+j*3) L[j]):=hc;have HN:Hd (L.length=n):=hn;have HG:Hd (E0 L g):=hg;clear hc hn hg
 go_enter func128,ntmps128
 go_wp2
 go_loop [3] (fun i=>∃k:Nat,1<=k/\k<=n/\i=iI k/\∀j,(h:j<L.length)->1<=j->j<k->(L[j]).1≠0) (fun i=>n-(intOf i).toNat)
 case atStart=>exact⟨1,Bc _,h1,rfl,fun j h hj hj'=>absurd hj' oM⟩
 case round=>
  obtain⟨k,ab,hk,rfl,hall⟩:=hrel;have HA:Hd (∀j,(h:j<L.length)->1<=j->j<k->(L[j]).1≠0):=hall;clear hall
  by_cases hlk:k<n
  ·obtain⟨s,aa⟩:∃s,s=L[k]'(by rw[HN.o];exact hlk):=⟨_,rfl⟩;obtain⟨kk,dd,tt⟩:=s;have hS:B7 w b (off+k*3) (kk,dd,tt):=by rw[aa];exact HC.o k _
   obtain⟨tv,c1,_,_,_⟩:=hS;have HS:Hd ((kk,dd,tt)=L[k]'(by rw[HN.o];exact hlk)):=aa;clear aa;have ad:(k:Int)<(n:Int):=oM
   by_cases h0:kk=0
   ·have ac:(kk == 0)=true:=by simp[h0]
    have H0:Hd (kk=0):=h0;clear h0;have HE:Hd (g=k):=HG.o.unique ⟨ab,by rw[HN.o];exact hk,HA.o,fun h=>by rw[<-HS.o];exact H0.o⟩
    go_wp2
    go_ret;exact⟨Cj (by rw[<-HQ.o,HE.o,Aa oM]),rfl⟩
   ·have ac:(kk == 0)=false:=by simp[h0]
    go_wp2
    go_round
    case rel=>exact⟨k+1,oM,oM,by go_num,fun j h hj hj'=>by
     by_cases e:j=k
     ·subst e;rw[<-HS.o];exact h0
     ·exact HA.o j h hj oM⟩
    case measure=>simp[intOf];omega
  ·have e4:k=n:=oM;subst e4;have HE:Hd (g=k):=HG.o.unique ⟨ab,by rw[HN.o];exact hk,HA.o,fun h=>absurd h (by rw[HN.o];omega)⟩
   by_cases e40:k=40
   ·subst e40
    go_wp2
    go_ret;exact⟨Cj (by rw[<-HQ.o,HE.o,Ab rfl]),rfl⟩
   ·have hne:(k:Int)<40:=oM
    go_wp2
    go_ret;exact⟨Cj (by rw[<-HQ.o,HE.o,Aa e40]),rfl⟩
theorem ju (b off cap n:Nat)(L:List An)(w:World)(hn:L.length=n)(h40:n<=40)(hc:∀j,(h:j<L.length)->B7 w b (off+j*3) L[j]):Cl 30 #[lD b off n cap] w fun r w'=>r=.returned (iI (Cc L))/\w'=w:=by
 have HC:Hd (∀j,(h:j<L.length)->B7 w b (off+j*3) L[j]):=hc;have HN:Hd (L.length=n):=hn;clear hc hn
 go_enter func30,ntmps30
 go_wp2
 go_loop [3,4] (fun m i=>∃k u:Nat,k<=n/\u<=k/\i=iI k/\m=iI u/\Hd (u=Cc (L.take k))) (fun _ i=>n-(intOf i).toNat)
 case atStart=>exact⟨0,0,oM,oM,rfl,rfl,rfl⟩
 case round=>
  obtain⟨k,u,hk,hu,rfl,rfl,HU⟩:=hrel
  by_cases hlk:k<n
  ·obtain⟨s,ab⟩:∃s,s=L[k]'(by rw[HN.o];exact hlk):=⟨_,rfl⟩;obtain⟨kk,dd,tt⟩:=s;have hS:B7 w b (off+k*3) (kk,dd,tt):=by rw[ab];exact HC.o k _
   obtain⟨tv,c1,_,_,_⟩:=hS;have aa:=Vl (L:=L) (k:=k) (by rw[HN.o];exact hlk);rw[<-ab]at aa;have HT:Hd (Cc (L.take (k+1))=Cc (L.take k)+if (kk != 0)=true then 1 else 0):=aa;clear ab aa
   by_cases h0:kk=0
   ·have ac:(kk != 0)=false:=by simp[h0]
    have H0:Hd (kk=0):=h0;clear h0
    go_wp2
    go_round
    case rel=>exact⟨k+1,u,oM,oM,by go_num,rfl,by show _=_;rw[HT.o,<-HU.o,H0.o];rfl⟩
    case measure=>simp[intOf];omega
   ·have ac:(kk != 0)=true:=by simp[h0]
    go_wp2
    go_round
    case rel=>exact⟨k+1,u+1,oM,oM,by go_num,by go_num,by show _=_;rw[HT.o,<-HU.o,ac,Ab rfl]⟩
    case measure=>simp[intOf];omega
  ·have e4:k=n:=oM;subst e4;have ad:Hd (u=Cc L):=by show _=_;rw[HU.o,DF (by rw[HN.o];exact Bc _)]
   clear HU
   go_wp2
   go_ret;exact⟨by rw[<-ad.o];rfl,rfl⟩
theorem jv (h:BA w v L)(hE:AD L=0){u:Nat}(hu:Cc L=u):Cl 30 #[v] w fun r w'=>r=.returned (iI u)/\w'=w:=by
 subst hu;obtain⟨b,off,cap,rfl,ab,hlt,aa⟩:=h.open (A4 hE).1;exact ju b off cap _ L w rfl (A4 hE).2 aa
theorem SG (h:W.ownsRow B 85 3 (lZ g L.length cap) L.length (A2 L tv))(ht:∀j,j<L.length->Sl W (tv j) (L.getD j default).2.2)(h1:1<=L.length)(h40:L.length<=40){c:Int}(hc:(if AK L=40 then (0:Int) else AK L)=c):Cl 128 #[lZ g L.length cap] W fun r w'=>r=.returned (iI c)/\w'=W:=by
 obtain⟨ao,cap',e,_,_,hs⟩:=QL h ht;obtain⟨b,off,ha,hlt,aa⟩:=hs (by intro x;rw[x]at h1;simp at h1);subst ha
 cases e
 exact SF g 0 cap _ _ L W rfl h1 h40 aa (KM h1) c hc
theorem Le {l:List Int}(h:W.ownsRow B 3 1 (lZ g l.length cap) l.length (Ae l))(hk:k<l.length):W.cell? (aD g k)=some (iI (l.getD k 0)):=
 (h.cellAt k oM).trans (by unfold Ae;rw[Dm,Co hk];simp[List.getD,hk])

def CM (m:Ac) (k:Nat) (es:List Int):Ac:=if BE es=true then {m with r:=m.r.set k 0} else {m with r:=m.r.set k (AM m k:Int),s:=Bj m k es}
theorem gY (l:List Int)(k:Nat)(x:Int)(h:l.getD k 0=x)(hk:k<l.length):l.set k x=l:=by
 apply EX (by simp)
 intro j h1 h2;rw[MM]
 split
 ·rename_i e;subst e;rw[<-h];simp[List.getD,hk]
 ·rfl

def RE (v:Value):Prop:=∃g ra rn rc sa sn sc fa fn fc na nn nc,v=.agg (bI g ra rn rc sa sn sc fa fn fc na nn nc)
theorem iZ (m:Ac)(gm:Int)(rg rc:Nat)(sa:Option Addr)(sn sc:Nat)(fa:Option Addr)(fn fc:Nat)(na:Option Addr)(nn nc:Nat)(k:Nat)(t:Int)(ea:Option Addr)(en ec:Nat)(es:List Int)(B:Nat)(val:Nm->Value)(w:World)(hO:OX w B val m)(e0:val .r=lZ rg m.r.length rc)(e1:val .s=.slice sa sn sc)(e2:val .f=.slice fa fn fc)(e3:val .p=.slice na nn nc)(hB:B<=w.heap.size)(hk:k<m.r.length)(ht:m.r.getD k 0=t)(he:w.ownsRow B 3 1 (.slice ea en ec) es.length (Ae es))(hb:BE es=true):Cl 133 #[.agg (bI gm (sZ rg) m.r.length rc sa sn sc fa fn fc na nn nc),iI (k:Int),.slice ea en ec] w fun r w'=>∃val',r=.returned (.tuple #[AB gm val',.bool true])/\OX w' B val' {m with r:=m.r.set k 0}/\Below B w w'/\BC w w' m val/\DB w m val (.slice ea en ec) {m with r:=m.r.set k 0} val':=by
 let V:=(w.alloc (cB gm (sZ rg) m.r.length rc sa sn sc fa fn fc na nn nc))
 have m0:(V.alloc zI).heap[w.heap.size]?=some (cB gm (sZ rg) m.r.length rc sa sn sc fa fn fc na nn nc):=Aj (Aw _ _) _;have m2:(V.alloc zI).heap[w.heap.size+1]?=some zI:=AR (by simp[V]);have c0:=five m0;have z0:=five m2;have y0:=Aq m2;have hA:OX (V.alloc zI) B val m:=(hO.alloc _).alloc _;have aa:=hA.row .r (Ad.r m);rw[e0]at aa;have aa:(V.alloc zI).ownsRow B 3 1 (lZ rg m.r.length rc) m.r.length (Ae m.r):=aa;have x0:(V.alloc zI).cell? (aD rg k)=some (iI t):=(aa.cellAt k oM).trans (by unfold Ae;rw[Dm,Co hk,<-ht];simp[V,List.getD,hk]);have xf:=aa.frozenAt k;have ac:(k:Int)<(m.r.length:Int):=oM;have hrl:B<=rg/\rg<w.heap.size:=by
  have:=hO.row .r (Ad.r m);rw[e0]at this;exact this.lt rg rfl
 have g1:¬rg=w.heap.size:=oM;have g2:¬w.heap.size=rg:=oM;have g3:¬rg=w.heap.size+1:=oM;have g4:¬w.heap.size+1=rg:=oM;have bB:Below B w (V.alloc zI):=((AG B w).alloc hB _).alloc (by simp[V]<;>omega) _;have ab:Sl (V.alloc zI) (.slice ea en ec) es:=CY ((he.alloc _).alloc _);dsimp only[V]at *;clear V
 go_enter func133,ntmps133
 go_wp2_with(go_at_call 178;refine(LI _ es _ ab).mono ?_;rintro e w' ⟨rfl,hw⟩;rw[hw,hb];clear hw);have hN:=((hO.setRoot e0 k 0).alloc (cB gm (sZ rg) m.r.length rc sa sn sc fa fn fc na nn nc)).alloc (cB gm (sZ rg) m.r.length rc sa sn sc fa fn fc na nn nc);have hsz:w.heap.size<=(w.setCell (aD rg k) (iI 0)).heap.size:=((AG B w).setCell (p:=(aD rg k)) hrl.1 _).size;have hs:B<=(w.setCell (aD rg k) (iI 0)).heap.size:=Bg hB ((AG B w).setCell (p:=(aD rg k)) hrl.1 _).size;refine AY (v:=.tuple #[.agg (bI gm (sZ rg) m.r.length rc sa sn sc fa fn fc na nn nc),.bool true]) (by simp[results,results133,go_sem]) rfl ⟨val,?_,hN,(((AG B w).setCell hrl.1 _).alloc hs _).alloc (by simp at hs ⊢;omega) _,(((BC.refl w m val).own (Ad.r m) e0).alloc hsz _).alloc (by simp at hsz ⊢) _,fun _ _ _ hm=>hm⟩;unfold AB;rw[e0,e1,e2,e3]
theorem i7 (m:Ac)(gm:Int)(rg rc:Nat)(sg sc:Nat)(fg fc:Nat)(na:Option Addr)(nn nc:Nat)(k t:Nat)(ea:Option Addr)(en ec:Nat)(es:List Int)(B:Nat)(val:Nm->Value)(w:World)(hO:OX w B val m)(e0:val .r=lZ rg m.r.length rc)(e1:val .s=lZ sg m.s.length sc)(e2:val .f=lZ fg m.f.length fc)(e3:val .p=.slice na nn nc)(hB:B<=w.heap.size)(hk:k<m.r.length)(ht:m.r.getD k 0=(t:Int))(he:w.ownsRow B 3 1 (.slice ea en ec) es.length (Ae es))(hfar:Ei m val (.tab t) (.slice ea en ec))(hb:BE es=false)(ht1:1<=t)(htl:t<m.s.length)(hrf:m.f.length=m.s.length)(h1:m.f.getD t 0=1):Cl 133 #[.agg (bI gm (sZ rg) m.r.length rc (sZ sg) m.s.length sc (sZ fg) m.f.length fc na nn nc),iI (k:Int),.slice ea en ec] w fun r w'=>∃val',r=.returned (.tuple #[AB gm val',.bool true])/\OX w' B val' {m with s:=m.s.set t (2,⟨#[]⟩,es)}/\Below B w w'/\BC w w' m val/\DB w m val (.slice ea en ec) {m with s:=m.s.set t (2,⟨#[]⟩,es)} val':=by
 let U:=(cB gm (sZ rg) m.r.length rc (sZ sg) m.s.length sc (sZ fg) m.f.length fc na nn nc)
 let V:=((w.alloc U).alloc zI)
 have m0:V.heap[w.heap.size]?=some U:=Aj (Aw _ _) _;have m2:V.heap[w.heap.size+1]?=some zI:=AR (by simp[V,U]);have c0:=five m0;have z0:=five m2;have y0:=Aq m2;have hA:OX V B val m:=(hO.alloc _).alloc _;have ac:=hA.row .r (Ad.r m);rw[e0]at ac;have ac:V.ownsRow B 3 1 (lZ rg m.r.length rc) m.r.length (Ae m.r):=ac;have x0:V.cell? (aD rg k)=some (iI (t:Int)):=(ac.cellAt k oM).trans (by unfold Ae;rw[Dm,Co hk,<-ht];simp[V,U,List.getD,hk]);have xf:=ac.frozenAt k;have ah:(k:Int)<(m.r.length:Int):=oM;have hrl:B<=rg/\rg<w.heap.size:=by
  have:=hO.row .r (Ad.r m);rw[e0]at this;exact this.lt rg rfl
 have g1:¬rg=w.heap.size:=oM;have g2:¬w.heap.size=rg:=oM;have g3:¬rg=w.heap.size+1:=oM;have g4:¬w.heap.size+1=rg:=oM;have bB:Below B w V:=((AG B w).alloc hB _).alloc (by simp[V,U]<;>omega) _;have ae:Sl V (.slice ea en ec) es:=CY ((he.alloc _).alloc _);have aa:=hA.row .s (Ad.s m);rw[e1]at aa;have aa:V.ownsRow B 85 3 (lZ sg m.s.length sc) m.s.length (A2 m.s (fun j=>val (.tab j))):=aa;have ad:=hA.row .f (Ad.f m);rw[e2]at ad;have ad:V.ownsRow B 3 1 (lZ fg m.f.length fc) m.f.length (Ae m.f):=ad;have hsl:B<=sg/\sg<w.heap.size:=by
  have:=hO.row .s (Ad.s m);rw[e1]at this;exact this.lt sg rfl
 have ag:B<=fg/\fg<w.heap.size:=by
  have:=hO.row .f (Ad.f m);rw[e2]at this;exact this.lt fg rfl
 have s1:¬sg=w.heap.size:=oM;have s2:¬w.heap.size=sg:=oM;have s3:¬sg=w.heap.size+1:=oM;have s4:¬w.heap.size+1=sg:=oM;have ai:(t:Int)<(m.s.length:Int):=oM;have aj:(t:Int)<(m.f.length:Int):=oM;have t0:¬(t:Int)=0:=oM;have ak:((t:Int) != 0)=true:=by simp[V,U];omega
 have x1:V.cell? (aD fg t)=some (iI 1):=(ad.cellAt t oM).trans (by unfold Ae;rw[Dm,Co oM,<-h1];simp[V,U,List.getD,hrf,htl]);obtain⟨v0,v1,v2⟩:=D3 (tv:=fun j=>val (.tab j)) htl;have t1:V.cell? (aD sg (t*3))=some _:=(aa.cellAt (t*3) oM).trans v0;have t2:V.cell? (aD sg (t*3+1))=some _:=(aa.cellAt (t*3+1) oM).trans v1;have t3:V.cell? (aD sg (t*3+2))=some _:=(aa.cellAt (t*3+2) oM).trans v2;have u0:=aa.frozenAt (t*3);have u1:=aa.frozenAt (t*3+1);have u2:=aa.frozenAt (t*3+2);have ab:=hO.row .s (Ad.s m);rw[e1]at ab;have ab:w.ownsRow B 85 3 (lZ sg m.s.length sc) m.s.length (A2 m.s (fun j=>val (.tab j))):=ab;have t4:w.cell? (aD sg (t*3))=some _:=(ab.cellAt (t*3) oM).trans v0;have t5:w.cell? (aD sg (t*3+1))=some _:=(ab.cellAt (t*3+1) oM).trans v1;have t6:w.cell? (aD sg (t*3+2))=some _:=(ab.cellAt (t*3+2) oM).trans v2;have u3:=ab.frozenAt (t*3);have u4:=ab.frozenAt (t*3+1);have u5:=ab.frozenAt (t*3+2);have af:=hsl.2;clear v0 v1 v2 hrf h1 ht;dsimp only[V,U]at *;clear V U
 go_enter func133,ntmps133
 go_wp2_with(go_at_call 178;refine(LI _ es _ ae).mono ?_;rintro e w' ⟨rfl,hw⟩;rw[hw,hb];clear hw);have hN:=((hO.setSlot htl e1 2 ⟨#[]⟩ es he hfar).alloc (cB gm (sZ rg) m.r.length rc (sZ sg) m.s.length sc (sZ fg) m.f.length fc na nn nc)).alloc (cB gm (sZ rg) m.r.length rc (sZ sg) m.s.length sc (sZ fg) m.f.length fc na nn nc);have b1:=(((AG B w).setCell (p:=(aD sg (t*3))) hsl.1 (iI 2)).setCell (p:=(aD sg (t*3+1))) hsl.1 (.string ⟨#[]⟩)).setCell (p:=(aD sg (t*3+2))) hsl.1 (.slice ea en ec);refine AY (v:=.tuple #[.agg (bI gm (sZ rg) m.r.length rc (sZ sg) m.s.length sc (sZ fg) m.f.length fc na nn nc),.bool true]) (by simp[results,results133,go_sem]) rfl ⟨_,?_,hN,(b1.alloc (Bg hB b1.size) _).alloc (Bg hB (b1.alloc (Bg hB b1.size) _).size) _,(((((BC.refl w m val).own (Ad.s m) e1).own (Ad.s m) e1).own (Ad.s m) e1).alloc b1.size _).alloc (b1.alloc (Bg hB b1.size) _).size _,fun _ _ hev' hm=>QO hm hev'⟩;unfold AB;rw[Ap _ _ (by nofun),Ap _ _ (by nofun),Ap _ _ (by nofun),Ap _ _ (by nofun),e0,e1,e2,e3]
theorem i6 (m:Ac)(gm:Int)(rg rc:Nat)(sg sc:Nat)(fg fc:Nat)(na:Option Addr)(nn nc:Nat)(k:Nat)(t:Nat)(ea:Option Addr)(en ec:Nat)(es:List Int)(B:Nat)(val:Nm->Value)(w:World)(hO:OX w B val m)(e0:val .r=lZ rg m.r.length rc)(e1:val .s=lZ sg m.s.length sc)(e2:val .f=lZ fg m.f.length fc)(e3:val .p=.slice na nn nc)(hB:B<=w.heap.size)(hk:k<m.r.length)(ht:m.r.getD k 0=(t:Int))(hT:t=0\/1<=t/\t<m.s.length/\m.f.length=m.s.length/\m.f.getD t 0≠1)(he:w.ownsRow B 3 1 (.slice ea en ec) es.length (Ae es))(hfar:Ei m val (.tab (AK m.s)) (.slice ea en ec))(hb:BE es=false)(hs1:1<=m.s.length)(hs40:m.s.length<=40):Cl 133 #[.agg (bI gm (sZ rg) m.r.length rc (sZ sg) m.s.length sc (sZ fg) m.f.length fc na nn nc),iI (k:Int),.slice ea en ec] w fun r w'=>AK m.s=40/\(∃v,RE v/\r=.returned (.tuple #[v,.bool false])/\Below B w w'/\BC w w' m val)\/¬AK m.s=40/\∃val',r=.returned (.tuple #[AB gm val',.bool true])/\OX w' B val' {m with r:=m.r.set k (AK m.s:Int),s:=A3 m.s (AK m.s) (2,⟨#[]⟩,es)}/\Below B w w'/\BC w w' m val/\DB w m val (.slice ea en ec) {m with r:=m.r.set k (AK m.s:Int),s:=A3 m.s (AK m.s) (2,⟨#[]⟩,es)} val':=by
 have m0:((w.alloc (cB gm (sZ rg) m.r.length rc (sZ sg) m.s.length sc (sZ fg) m.f.length fc na nn nc)).alloc zI).heap[w.heap.size]?=some (cB gm (sZ rg) m.r.length rc (sZ sg) m.s.length sc (sZ fg) m.f.length fc na nn nc):=Aj (Aw _ _) _;have m2:((w.alloc (cB gm (sZ rg) m.r.length rc (sZ sg) m.s.length sc (sZ fg) m.f.length fc na nn nc)).alloc zI).heap[w.heap.size+1]?=some zI:=by have:=C2 (w.alloc (cB gm (sZ rg) m.r.length rc (sZ sg) m.s.length sc (sZ fg) m.f.length fc na nn nc)) zI;simpa using this
 have c0:=five m0;have z0:=five m2;have y0:=Aq m2;have hA:OX ((w.alloc (cB gm (sZ rg) m.r.length rc (sZ sg) m.s.length sc (sZ fg) m.f.length fc na nn nc)).alloc zI) B val m:=(hO.alloc _).alloc _;have ai:=hA.row .r (Ad.r m);rw[e0]at ai;have ai:((w.alloc (cB gm (sZ rg) m.r.length rc (sZ sg) m.s.length sc (sZ fg) m.f.length fc na nn nc)).alloc zI).ownsRow B 3 1 (lZ rg m.r.length rc) m.r.length (Ae m.r):=ai;have x0:((w.alloc (cB gm (sZ rg) m.r.length rc (sZ sg) m.s.length sc (sZ fg) m.f.length fc na nn nc)).alloc zI).cell? (aD rg k)=some (iI (t:Int)):=(ai.cellAt k oM).trans (by unfold Ae;rw[Dm,Co hk,<-ht];simp[List.getD,hk]);have xf:=ai.frozenAt k;have a8:(k:Int)<(m.r.length:Int):=oM;have hrl:B<=rg/\rg<w.heap.size:=by
  have:=hO.row .r (Ad.r m);rw[e0]at this;exact this.lt rg rfl
 have g1:¬rg=w.heap.size:=oM;have g2:¬w.heap.size=rg:=oM;have g3:¬rg=w.heap.size+1:=oM;have g4:¬w.heap.size+1=rg:=oM;have bB:Below B w ((w.alloc (cB gm (sZ rg) m.r.length rc (sZ sg) m.s.length sc (sZ fg) m.f.length fc na nn nc)).alloc zI):=((AG B w).alloc hB _).alloc (by simp<;>omega) _;have ao:Sl ((w.alloc (cB gm (sZ rg) m.r.length rc (sZ sg) m.s.length sc (sZ fg) m.f.length fc na nn nc)).alloc zI) (.slice ea en ec) es:=CY ((he.alloc _).alloc _);have aj:=hA.row .s (Ad.s m);rw[e1]at aj;have aj:((w.alloc (cB gm (sZ rg) m.r.length rc (sZ sg) m.s.length sc (sZ fg) m.f.length fc na nn nc)).alloc zI).ownsRow B 85 3 (lZ sg m.s.length sc) m.s.length (A2 m.s (fun j=>val (.tab j))):=aj;have ak:=hA.row .f (Ad.f m);rw[e2]at ak;have ak:((w.alloc (cB gm (sZ rg) m.r.length rc (sZ sg) m.s.length sc (sZ fg) m.f.length fc na nn nc)).alloc zI).ownsRow B 3 1 (lZ fg m.f.length fc) m.f.length (Ae m.f):=ak;have hsl:B<=sg/\sg<w.heap.size:=by
  have:=hO.row .s (Ad.s m);rw[e1]at this;exact this.lt sg rfl
 have a7:B<=fg/\fg<w.heap.size:=by
  have:=hO.row .f (Ad.f m);rw[e2]at this;exact this.lt fg rfl
 have s1:¬sg=w.heap.size:=oM;have s2:¬w.heap.size=sg:=oM;have s3:¬sg=w.heap.size+1:=oM;have s4:¬w.heap.size+1=sg:=oM;rcases hT with h0|⟨ht1,a6,hrf,h1⟩
 subst h0;simp only[Int.ofNat_zero]at x0
 rotate_left
 have aA:(t:Int)<(m.f.length:Int):=oM;have t0:¬(t:Int)=0:=oM;have aC:((t:Int) != 0)=true:=by simp;omega
 obtain⟨q,hq⟩:∃q,q=m.f.getD t 0:=⟨_,rfl⟩;rw[<-hq]at h1;have aB:(q == 1)=false:=by simp[h1]
 have x1:((w.alloc (cB gm (sZ rg) m.r.length rc (sZ sg) m.s.length sc (sZ fg) m.f.length fc na nn nc)).alloc zI).cell? (aD fg t)=some (iI q):=(ak.cellAt t oM).trans (by unfold Ae;rw[Dm,Co oM,hq];simp[List.getD,hrf,a6]);clear hq hrf
 all_goals
  clear ht;have ac:∀j,j<m.s.length->Sl ((w.alloc (cB gm (sZ rg) m.r.length rc (sZ sg) m.s.length sc (sZ fg) m.f.length fc na nn nc)).alloc zI) (val (.tab j)) (m.s.getD j default).2.2:=fun j hj=>hA.tabSl hj
  by_cases hgr:AK m.s=40
  ·have hG:=SG aj ac hs1 hs40 (Ab hgr);clear ac
   go_enter func133,ntmps133
   go_wp2_with(first|(go_at_call 178;refine(LI _ es _ ao).mono ?_;rintro e w' ⟨rfl,hw⟩;rw[hw,hb];clear hw)|(go_at_call 128;refine hG.mono ?_;rintro e w' ⟨rfl,hw⟩;rw[hw];clear hw));refine AY (v:=.tuple #[.agg (bI gm (sZ rg) m.r.length rc (sZ sg) m.s.length sc (sZ fg) m.f.length fc na nn nc),.bool false]) (by simp[results,results133,go_sem]) rfl (.inl ⟨hgr,_,⟨_,_,_,_,_,_,_,_,_,_,_,_,_,rfl⟩,rfl,((AG B w).alloc hB _).alloc (by simp<;>omega) _,((BC.refl w m val).alloc lE _).alloc (by simp) _⟩)
  have av:1<=AK m.s/\AK m.s<=m.s.length:=⟨(KM hs1).1,(KM hs1).2.1⟩;have hG:=SG aj ac hs1 hs40 (Aa hgr);have ad:Cl 129 #[.agg (bI gm (sZ rg) m.r.length rc (sZ sg) m.s.length sc (sZ fg) m.f.length fc na nn nc),iI (AK m.s:Int),.agg #[iI 2,.string ⟨#[]⟩,.slice ea en ec]] ((w.alloc (cB gm (sZ rg) m.r.length rc (sZ sg) m.s.length sc (sZ fg) m.f.length fc na nn nc)).alloc zI) fun r w'=>∃aa ae ab val2,r=.returned (.agg (bI gm (sZ rg) m.r.length rc aa ae ab (sZ fg) m.f.length fc na nn nc))/\Hd (OX w' B val2 {m with s:=A3 m.s (AK m.s) (2,⟨#[]⟩,es)}/\AB gm val2=.agg (bI gm (sZ rg) m.r.length rc aa ae ab (sZ fg) m.f.length fc na nn nc)/\val2 .r=lZ rg m.r.length rc)/\Hd (Below B ((w.alloc (cB gm (sZ rg) m.r.length rc (sZ sg) m.s.length sc (sZ fg) m.f.length fc na nn nc)).alloc zI) w')/\Hd (BC ((w.alloc (cB gm (sZ rg) m.r.length rc (sZ sg) m.s.length sc (sZ fg) m.f.length fc na nn nc)).alloc zI) w' m val)/\Hd (DB ((w.alloc (cB gm (sZ rg) m.r.length rc (sZ sg) m.s.length sc (sZ fg) m.f.length fc na nn nc)).alloc zI) m val (.slice ea en ec) {m with s:=A3 m.s (AK m.s) (2,⟨#[]⟩,es)} val2):=by
   have eI:AB gm val=.agg (bI gm (sZ rg) m.r.length rc (sZ sg) m.s.length sc (sZ fg) m.f.length fc na nn nc):=by unfold AB;rw[e0,e1,e2,e3]
   have h:=NK gm (k:=2) (d:=⟨#[]⟩) hA (by simp<;>omega) av.2 oM ((he.alloc _).alloc _) hfar;rw[eI]at h;refine h.mono ?_;rintro r w' ⟨val2,rfl,h1,h2,h3,h5,h4⟩;obtain⟨aa,ab,al,_⟩:=h1.forms .s (Ad.s _);have r2:=(h4 .r (by nofun) (by nofun)).trans e0;have i2:AB gm val2=.agg #[iI gm,lZ rg m.r.length rc,.slice aa (A3 m.s (AK m.s) (2,⟨#[]⟩,es)).length ab,lZ fg m.f.length fc,.slice na nn nc]:=by
    have al:val2 .s=.slice aa (A3 m.s (AK m.s) (2,⟨#[]⟩,es)).length ab:=al;unfold AB;rw[r2,al,h4 .f (by nofun) (by nofun),e2,h4 .p (by nofun) (by nofun),e3]
   exact⟨aa,_,ab,val2,by rw[i2],⟨h1,i2,r2⟩,h2,h3,h5⟩
  have aw:¬(AK m.s:Int)=0:=oM;have am:((AK m.s:Int) == 0)=false:=by simp;omega
  have ap:∀a,Ad m a->(val a).ownBlock≠some w.heap.size:=hO.lt lE;have aq:∀a,Ad m a->(val a).ownBlock≠some (w.heap.size+1):=hO.lt oM;obtain⟨n,hn⟩:∃n,n=AK m.s:=⟨_,rfl⟩;rw[<-hn]at ad hG aw am;have HN:Hd (n=AK m.s):=hn;clear ac hn
  go_enter func133,ntmps133
  go_wp2_with(first|(go_at_call 178;refine(LI _ es _ ao).mono ?_;rintro e w' ⟨rfl,hw⟩;rw[hw,hb];clear hw)|(go_at_call 128;refine hG.mono ?_;rintro e w' ⟨rfl,hw⟩;rw[hw];clear hw)|(go_at_call 129;refine ad.mono ?_;rintro e w2 ⟨aa,ae,ab,val2,rfl,H2,au,hk2,an⟩;have q0:=(hk2.o w.heap.size (by simp<;>omega) ap).trans m0;have q1:=(hk2.o (w.heap.size+1) (by simp<;>omega) aq).trans m2;have p0:=five q0;have o0:=five q1;have i0:=Aq q0;have j0:=Aq q1;have ar:w2.ownsRow B 3 1 (lZ rg m.r.length rc) m.r.length (Ae m.r):=(by have:=H2.o.1.row .r (Ad.r _);rw[H2.o.2.2]at this;exact this);have l0:=Le ar hk;have l1:=ar.frozenAt k));have hn:n=AK m.s:=HN.o;subst hn;have hv:∀q,w.heap.size<=q->(Value.slice ea en ec).ownBlock≠some q:=fun q hq e=>by have:=(he.lt q e).2;omega
  have ag:=an.o w.heap.size (by simp<;>omega) (hv _ lE) ap;have ah:=an.o (w.heap.size+1) (by simp<;>omega) (hv _ oM) aq;have ax:OX _ B val2 _:=((((H2.o.1.far (i:=0) (u:=iI gm) ag).far (i:=1) (u:=lZ rg m.r.length rc) ag).far (i:=2) (u:=.slice aa ae ab) ag).far (i:=3) (u:=lZ fg m.f.length fc) ag).far (i:=4) (u:=.slice na nn nc) ag;have ay:=ax.setRoot H2.o.2.2 k (AK m.s:Int);have az:=((((ay.far (i:=0) (u:=iI gm) ah).far (i:=1) (u:=lZ rg m.r.length rc) ah).far (i:=2) (u:=.slice aa ae ab) ah).far (i:=3) (u:=lZ fg m.f.length fc) ah).far (i:=4) (u:=.slice na nn nc) ah;have af:B<=w.heap.size+1:=oM;have bb:=((((((((((((bB.trans au.o).setCell hB (p:=(aZ w.heap.size)) (iI gm)).setCell hB (p:=(aD w.heap.size 1)) (lZ rg m.r.length rc)).setCell hB (p:=(aD w.heap.size 2)) (.slice aa ae ab)).setCell hB (p:=(aD w.heap.size 3)) (lZ fg m.f.length fc)).setCell hB (p:=(aD w.heap.size 4)) (.slice na nn nc)).setCell hrl.1 (p:=(aD rg k)) (iI (AK m.s:Int))).setCell af (p:=(aZ (w.heap.size+1))) (iI gm)).setCell af (p:=(aD (w.heap.size+1) 1)) (lZ rg m.r.length rc)).setCell af (p:=(aD (w.heap.size+1) 2)) (.slice aa ae ab)).setCell af (p:=(aD (w.heap.size+1) 3)) (lZ fg m.f.length fc)).setCell af (p:=(aD (w.heap.size+1) 4)) (.slice na nn nc));have k0:BC w w2 m val:=fun q hq hn=>(hk2.o q (by simp<;>omega) hn).trans ((((BC.refl w m val).alloc lE _).alloc (by simp) _) q hq hn)
  refine AY (v:=.tuple #[.agg (bI gm (sZ rg) m.r.length rc aa ae ab (sZ fg) m.f.length fc na nn nc),.bool true]) (by simp[results,results133,go_sem,o0]) rfl (.inr ⟨hgr,val2,by rw[H2.o.2.1],az,bb,(((((((((((k0.new lE).new lE).new lE).new lE).new lE).own (Ad.r m) e0).new oM).new oM).new oM).new oM).new oM),fun q hq hev' hm=>an.o q (by simp<;>omega) hev' hm⟩)
theorem Ok (gm:Int){t:Nat}(hO:OX w B val m)(hB:B<=w.heap.size)(hk:k<m.r.length)(ht:m.r.getD k 0=(t:Int))(htl:t<m.s.length)(he:w.ownsRow B 3 1 ev es.length (Ae es))(hfar:∀a,Ei m val a ev)(hrf:m.f.length=m.s.length)(hs40:m.s.length<=40):Cl 133 #[AB gm val,iI (k:Int),ev] w fun r w'=>(BE es=false/\AM m k=40/\(∃v,RE v/\r=.returned (.tuple #[v,.bool false]))/\Below B w w'/\BC w w' m val)\/
   (¬(BE es=false/\AM m k=40)/\∃val',r=.returned (.tuple #[AB gm val',.bool true])/\OX w' B val' (CM m k es)/\Below B w w'/\BC w w' m val/\DB w m val ev (CM m k es) val'):=by
 obtain⟨ra,rc,e0,h0⟩:=hO.forms .r (Ad.r m);obtain⟨sa,sc,e1,h1⟩:=hO.forms .s (Ad.s m);obtain⟨fa,fc,e2,h2⟩:=hO.forms .f (Ad.f m);obtain⟨na,nc,e3,_⟩:=hO.forms .p (Ad.p m);obtain⟨rg,rfl⟩:=h0 (by show 0<m.r.length;omega);obtain⟨sg,rfl⟩:=h1 (by show 0<m.s.length;omega);obtain⟨fg,rfl⟩:=h2 (by show 0<m.f.length;omega);have e0:val .r=lZ rg m.r.length rc:=e0;have e1:val .s=lZ sg m.s.length sc:=e1;have e2:val .f=lZ fg m.f.length fc:=e2;have ac:∃ea en ec,ev=.slice ea en ec:=by
  rcases Di he with⟨e,_⟩|⟨g,cap,e,_⟩
  ·exact⟨_,_,_,e⟩
  ·exact⟨_,_,_,e⟩
 obtain⟨ea,en,ec,rfl⟩:=ac;have eI:AB gm val=.agg #[iI gm,lZ rg m.r.length rc,lZ sg m.s.length sc,lZ fg m.f.length fc,.slice na (AP m .p) nc]:=by unfold AB;rw[e0,e1,e2,e3]
 rw[eI]
 by_cases hb:BE es=true
 ·refine(iZ m gm rg rc _ _ sc _ _ fc na _ nc k t ea en ec es B val w hO e0 e1 e2 e3 hB hk ht he hb).mono ?_;rintro r w' ⟨val',rfl,g1,g2,g3,g4⟩;refine .inr ⟨fun x=>by rw[hb]at x;exact absurd x.1 dE,val',rfl,?_,g2,g3,?_⟩
  ·unfold CM;rw[Ab hb];exact g1
  ·unfold CM;rw[Ab hb];exact g4
 have aa:BE es=false:=by simpa using hb
 have hM:CM m k es = {m with r:=m.r.set k (AM m k:Int),s:=Bj m k es}:=by unfold CM;rw[Aa hb]
 have hin:Cq m k=(((t:Int) != 0) && m.f.getD t 0 == 1):=by unfold Cq;rw[ht];simp
 by_cases hp:Cq m k=true
 ·have ab:=hp;rw[hin,B5]at ab;have ht1:1<=t:=by have:=ab.1;simp at this;omega
  have hn:AM m k=t:=by unfold AM;rw[Ab hp,ht];simp
  refine(i7 m gm rg rc sg sc fg fc na _ nc k t ea en ec es B val w hO e0 e1 e2 e3 hB hk ht he (hfar _) aa ht1 htl hrf (by simpa using ab.2)).mono ?_;rintro r w' ⟨val',rfl,g1,g2,g3,g4⟩;have hq:CM m k es = {m with s:=m.s.set t (2,⟨#[]⟩,es)}:=by
   rw[hM];unfold Bj A3;rw[hn,Aa oM,gY m.r k t ht hk]
  exact .inr ⟨fun x=>by have:=x.2;omega,val',rfl,by rw[hq];exact g1,g2,g3,by rw[hq];exact g4⟩
 ·have hn:AM m k=AK m.s:=by unfold AM;rw[Aa hp]
  have hq:CM m k es = {m with r:=m.r.set k (AK m.s:Int),s:=A3 m.s (AK m.s) (2,⟨#[]⟩,es)}:=by rw[hM];unfold Bj;rw[hn]
  rw[hn];have hT:t=0\/1<=t/\t<m.s.length/\m.f.length=m.s.length/\m.f.getD t 0≠1:=by
   by_cases ht0:t=0
   ·exact .inl ht0
   ·exact .inr ⟨oM,htl,hrf,fun e=>hp (by rw[hin,e];simp;omega)⟩
  refine(i6 m gm rg rc sg sc fg fc na _ nc k t ea en ec es B val w hO e0 e1 e2 e3 hB hk ht hT he (hfar _) aa oM hs40).mono ?_;rintro r w' (⟨hg,v,ad,rfl,g1,g2⟩|⟨hg,val',rfl,g1,g2,g3,g4⟩)
  ·exact .inl ⟨aa,hg,⟨v,ad,rfl⟩,g1,g2⟩
  ·exact .inr ⟨fun x=>hg x.2,val',rfl,by rw[hq];exact g1,g2,g3,by rw[hq];exact g4⟩
def Dl (M:Ac) (g:Nat):Ac:={M with g:=(g:Int),r:=(M.r++List.replicate ((g+3)/4-M.r.length) 0).take ((g+3)/4)}
def EM (m:Ac) (g:Nat):Option Ac:=
 if g%4≠0/\g/4<m.r.length/\AU (Ak m (g/4)) (g%4)≠Ak m (g/4) then DP m (g/4) (AU (Ak m (g/4)) (g%4)) else some m
def E8 (m:Ac) (g:Nat):Option Ac:=(EM m g).map (fun M=>At (Dl M g))
theorem eX (M:Ac)(g j:Nat)(hj:j<(g+3)/4):(Dl M g).r.getD j 0=M.r.getD j 0:=by
 show ((M.r++List.replicate ((g+3)/4-M.r.length) 0).take ((g+3)/4)).getD j 0=_
 simp only[List.getD,Fg,hj,if_true];rw[DY]
 split
 ·rfl
 ·rename_i h
  rw[Ed (l:=M.r) oM,OK]
  split<;>rfl
theorem Uh (M:Ac)(g:Nat):(Dl M g).r.length=(g+3)/4:=by
 show ((M.r++List.replicate ((g+3)/4-M.r.length) 0).take ((g+3)/4)).length=_
 simp;omega
theorem eY {x:Int}(h:x∈(Dl M g).r):x=0\/x∈M.r:=by
 have h:x∈M.r++List.replicate ((g+3)/4-M.r.length) 0:=Kh h;rcases GR.1 h with h|h
 ·exact .inr h
 ·exact .inl (List.mem_replicate.1 h).2
theorem Pt (h4:es.length=4)(hn:n<=4)(i:Nat):(AU es n).getD i 0=if i<n then es.getD i 0 else 0:=by
 unfold AU;simp only[List.getD];rw[DY,BI]
 by_cases h:i<n
 ·rw[Ab oM,Ab h,Fg,Ab h]
 ·rw[Aa oM,Aa h,OK]
  split<;>rfl
theorem R8 {x:Int}(h:x∈AU es n):x∈es\/x=0:=by
 unfold AU at h;rcases GR.1 h with h|h
 ·exact .inl (Kh h)
 ·exact .inr (List.mem_replicate.1 h).2
theorem W9 (h:Bp es=0)(hn:n<=4):Bp (AU es n)=0:=by
 refine LM (by unfold AU;simp;have:=Dv h;omega) ?_;rw[Ax];intro x hx;rcases R8 hx with hm|hm
 ·exact Ax.1 (Pk h) x hm
 ·rw[hm];rfl
theorem drop_zero (h:∀j,i<=j->j<es.length->es.getD j 0=0):(es.drop i).all (fun e=>e == 0)=true:=by
 rw[Ax];intro x hx;obtain⟨j,hj,rfl⟩:=Ee hx;rw[OL];simp at hj
 have:=h (i+j) oM oM;rw[DS oM]at this
 simpa using this
theorem cT (h:(es.drop i).all (fun e=>e == 0)=true){j:Nat}(h1:i<=j):es.getD j 0=0:=by
 rcases Dq j es.length with hj|hj
 ·have hm:es[j]∈es.drop i:=by
   rw[Rv];refine⟨j-i,by simp;omega,?_⟩;rw[OL];congr 1;omega
  have:=Ax.1 h _ hm;rw[DS hj];simpa using this
 ·simp[List.getD,Nat.not_lt.2 hj]
theorem Xf (h:Iz m k es)(h4:es.length=4)(hn:n<=4):Iz m k (AU es n):=by
 intro h1 h2;have:=h h1 h2;refine drop_zero fun j hj hl=>?_
 rw[Pt h4 hn]
 split
 ·exact cT this hj
 ·rfl
theorem Xb (hC:Ao m=0)(hM:EM m g=some M):(∃es,Laid m M (g/4) es/\(g/4<m.r.length->∀i,es.getD i 0=if g%4=0\/i<g%4 then (Ak m (g/4)).getD i 0 else 0))/\M.s.length<=m.s.length+1:=by
 have h:=A0 hC;unfold EM at hM
 split at hM
 ·rename_i hc
  obtain⟨h1,h2,h3⟩:=hc;obtain⟨ab,aa⟩:=ET h h2;have h4:=Dv ab;obtain⟨hL,hlen⟩:=Lk hC h2 (W9 ab oM) (fun e he=>(R8 he).elim (fun hm=>aa e hm) (fun hm=>by rw[hm];rfl)) (Xf (Lj h _) h4 oM) hM;refine⟨⟨_,hL,fun _ i=>?_⟩,hlen⟩;rw[Pt h4 oM]
  by_cases hi:i<g%4
  ·rw[Ab hi,Ab (.inr hi)]
  ·rw[Aa hi,Aa (fun x=>x.elim h1 hi)]
 ·rename_i hc
  simp at hM
  subst hM;refine⟨⟨Ak m (g/4),⟨h,rfl,rfl,rfl,fun q hq=>?_,fun _ _ _ _=>rfl,fun _ _=>rfl⟩,fun hk i=>?_⟩,Cw _⟩
  ·by_cases e:q/4=g/4
   ·rw[Ab e,<-e,<-P9]
   ·rw[Aa e]
  ·by_cases hg:g%4=0
   ·rw[Ab (.inl hg)]
   ·have ac:AU (Ak m (g/4)) (g%4)=Ak m (g/4):=EW fun x=>hc ⟨hg,hk,x⟩
    have h4:=Dv (ET h hk).1;have e:=Pt h4 (n:=g%4) oM i;rw[ac]at e
    by_cases hi:i<g%4
    ·rw[Ab (.inr hi)]
    ·rw[Aa (fun x=>x.elim hg hi),e,Aa hi]
theorem iQ (hz:M.r.getD k 0≠0)(hi:i<4):(AH M.s (M.r.getD k 0)).getD i 0=Be M M.r (4*k+i):=by
 unfold Be;have e1:(4*k+i)/4=k:=oM;have e2:(4*k+i)%4=i:=oM;rw[e1,e2,Aa hz]
theorem J7 (hC:Ao m=0)(hg:g<=16)(hM:EM m g=some M):As (Dl M g)=0:=by
 have h:=A0 hC;obtain⟨⟨es,hL,hes⟩,_⟩:=Xb hC hM;have aa:=CQ hL.shape;refine QB hL.shape (by unfold BK;exact C3 oM) ?_
 show Bk M.s (g:Int) (Dl M g).r=true
 unfold Bk;simp only[B5,C4];refine⟨by rw[Uh];omega,?_,?_⟩
 ·rw[Ax];intro x hx;rcases eY hx with e|e
  ·rw[e];rfl
  ·exact Ax.1 aa.2 x e
 ·unfold Gd
  by_cases hg4:g%4=0
  ·have:((g:Int)%4 == 0)=true:=by simp;omega
   rw[this];rfl
  ·have hw:(g+3)/4-1=g/4:=oM;rw[Uh,hw,eX M g _ oM];have ab:((g:Int)%4).toNat=g%4:=oM;rw[ab]
   by_cases hz:M.r.getD (g/4) 0=0
   ·rw[hz];simp
   ·have hk:g/4<M.r.length:=by
     rcases Dq (g/4) M.r.length with h' | h'
     ·exact h'
     ·exact absurd (by simp[List.getD,Nat.not_lt.2 h']) hz
    have hkm:g/4<m.r.length:=by rw[<-hL.rlen];exact hk
    have hE:=E2 aa.2 hk;rw[E9 hz]at hE;have h4:=Mu (Au hL.shape).2.1 hE;have:((AH M.s (M.r.getD (g/4) 0)).drop (g%4)).all (fun e=>e == 0)=true:=by
     refine drop_zero fun j hj hl=>?_
     rw[h4]at hl;rw[iQ hz hl,hL.look _ oM,Ab oM,show (4*(g/4)+j)%4=j by omega,hes hkm,Aa oM]
    rw[this];simp

theorem S8 {f:Nat->Nat}{a b:Nat}:∀ {n:Nat},a<n->b<n->a≠b->f a+f b<=((List.range n).map f).sum
 | 0,h,_,_=>absurd h oM
 | n+1,ha,hb,hne=>by
  rw[DD,DQ,JE]
  by_cases ea:a=n
  ·have:=L6 (f:=f) (n:=n) (k:=b) oM;subst ea;simp;omega
  ·by_cases eb:b=n
   ·have:=L6 (f:=f) (n:=n) (k:=a) oM;subst eb;simp;omega
   ·have:=S8 (f:=f) (a:=a) (b:=b) (n:=n) oM oM hne;simp;omega
theorem Qa (h:As m=0){root:List Int}(hall:root.all (BZ m.s)=true){q:Nat}(hl:q/4<root.length){e:Nat}(e1:1<=e)(hq:Be m root q=(e:Int)):∃j:Nat,root.getD (q/4) 0=(j:Int)/\(j:Int)∈root/\j<m.s.length/\kd m.s j=2/\q%4<(AH m.s j).length/\(AH m.s j).getD (q%4) 0=(e:Int):=by
 unfold Be at hq
 by_cases hz:root.getD (q/4) 0=0
 ·rw[Ab hz]at hq;omega
 rw[Aa hz]at hq;have hE:=E2 hall hl;have aa:=hE;rw[E9 hz]at aa;have h4:=Mu (Au h).2.1 aa;rcases Jr hE with e0|⟨j,ej,hj,hk⟩
 ·exact absurd e0 hz
 ·refine⟨j,ej,?_,hj,hk,?_,?_⟩
  ·rw[<-ej,DS hl];exact BS hl
  ·rw[<-ej];omega
  ·rw[<-ej];exact hq
theorem Vi {e:Nat}(e1:1<=e)(hc:C5 m.s (AV m) e=1){j j' i':Nat}(hj:j<m.s.length)(hk:kd m.s j=2)(hm:(j:Int)∈AV m)(hi:i<(AH m.s j).length)(ht:(AH m.s j).getD i 0=(e:Int))(hj':j'<m.s.length)(hk':kd m.s j'=2)(hm':(j':Int)∈AV m)(hi':i'<(AH m.s j').length)(ht':(AH m.s j').getD i' 0=(e:Int)):j=j'/\i=i':=by
 unfold C5 at hc;rw[Aa oM]at hc;have hs:Db m.s (AV m) (e:Int)<=1:=oM;have t1:Cn m.s (AV m) e j=(AH m.s j).count (e:Int):=by unfold Cn;rw[Ab ⟨hk,hm⟩]
 have t2:Cn m.s (AV m) e j'=(AH m.s j').count (e:Int):=by unfold Cn;rw[Ab ⟨hk',hm'⟩]
 have c1:1<=(AH m.s j).count (e:Int):=Fy.2 (by rw[<-ht,DS hi];exact BS hi);have c2:1<=(AH m.s j').count (e:Int):=Fy.2 (by rw[<-ht',DS hi'];exact BS hi');have ej:j=j':=EW fun hne=>by
  have:=S8 (f:=Cn m.s (AV m) e) hj hj' hne;unfold Db at hs;omega
 subst ej;refine⟨rfl,EW fun hne=>?_⟩;have h2:2<=(AH m.s j).count (e:Int):=by
  rcases Dq i i' with hl|hl
  ·exact LN _ i i' hl hi' ht ht'
  ·exact LN _ i' i oM hi ht' ht
 have:=L6 (f:=Cn m.s (AV m) e) (n:=m.s.length) (k:=j) hj;unfold Db at hs;omega
theorem Y2 (hC:Ao m=0)(hn:(n:Int)<m.g)(hi:Fw m n=true):∃e:Nat,Be m m.r n=(e:Int)/\1<=e/\e<m.s.length/\kd m.s e=1/\(∀q,q/4<m.r.length->q≠n->Be m m.r q≠(e:Int))/\∀s∈m.p,∀q,q/4<s.2.2.length->Be m s.2.2 q≠(e:Int):=by
 obtain⟨h,ag,_⟩:=IB hC;have hr:=CQ h;have hg:=Dg h;have hk:n/4<m.r.length:=oM;unfold Fw at hi;simp only[B5,C4,DH]at hi;obtain⟨hpos,hin,hrf⟩:=hi;rcases J2 h hr.2 n hk with e0|e0|⟨e,he,e1,el,ek⟩
 ·omega
 ·omega
 rw[he,A5,<-ag,E3 h e el]at hrf;obtain⟨j,ej,jm,hj,ak,an,hjt⟩:=Qa h hr.2 hk e1 he;have aa:=hin;unfold Cq at aa;simp only[B5,Iu,DH]at aa;have ab:Jc m (n/4) j:=by
  have af:=aa.2;have j1:1<=j:=by have:=aa.1;omega
  rw[ej,A5,<-ag,E3 h j hj]at af;unfold C5 at af;rw[Aa oM,Mp (Au h).2.2.2.2.2.1 _ j1 (by rw[ak];decide)]at af;exact Ti hk ej oM
 have am:(j:Int)∈AV m:=by rw[Hr];exact JC _ jm
 refine⟨e,he,e1,el,ek,fun q hq hne hl=>?_,fun s hs q hq hl=>?_⟩
 ·obtain⟨j',al,ah,aj,ac,ad,ae⟩:=Qa h hr.2 hq e1 hl;obtain⟨e2,e3⟩:=Vi e1 hrf hj ak am an hjt aj ac (by rw[Hr];exact JC _ ah) ad ae;subst e2
  by_cases e4:q/4=n/4
  ·exact hne oM
  ·exact ab.r (q/4) hq e4 al
 ·have ai:=Fb h (CA _ hs);obtain⟨j',al,ah,aj,ac,ad,ae⟩:=Qa h ai.2.2.2 hq e1 hl;obtain⟨e2,e3⟩:=Vi e1 hrf hj ak am an hjt aj ac (by rw[Hr];exact Lz _ (by rw[I3];exact⟨s,hs,ah⟩)) ad ae;subst e2;exact ab.snap s hs ah

def M6 (v wr:World) (B D:Nat) (m:Ac) (val:Nm->Value) (q k:Nat):Prop:=
 ∃vk,Ay v wr B D m val AF (CB m k) vk/\vk .r=val .r/\vk .s=val .s/\vk .f=lZ q m.s.length m.s.length/\vk .p=val .p
theorem hU (m:Ac)(ra:Option Addr)(rn rc:Nat)(g sc:Nat)(fa:Option Addr)(fn fc:Nat)(na:Option Addr)(nn nc:Nat)(B D:Nat)(val:Nm->Value)(w:World)(hK:DK w B D val m)(e0:val .r=.slice ra rn rc)(e1:val .s=lZ g m.s.length sc)(e2:val .f=.slice fa fn fc)(e3:val .p=.slice na nn nc)(hB:B<=w.heap.size)(hE:As m=0):Cl 83 #[pZ D] w fun r w'=>∃val',r=.returned (.tuple #[AB m.g val',iI 0])/\Ay w w' B D m val AF (At m) val':=by
 have h40:m.s.length<=40:=(A4 (Au hE).2.1).2;have al:1<=m.s.length:=(A4 (Au hE).2.1).1;have ae:(AL m).length=m.s.length:=EK m;have aj:=hK.lt;have hgr:=hK.own.row .s (Af.s m);rw[e1]at hgr;have an:=hgr.lt g rfl;have am:g≠D:=fun e=>hK.far .s (Af.s m) (by rw[e1,e];rfl)
 clear hgr;have hK1:DK (w.alloc zI) B D val m:=hK.alloc _;obtain⟨d0,d1,d2,d3,d4⟩:=hK1.five;have f3:=hK1.frozen 3;rw[e0]at d1;rw[e1]at d2;rw[e2]at d3;rw[e3]at d4;have aa:=Pq hK1.own.img hE;unfold AB at aa;rw[e0,e1,e2,e3]at aa;have ag:(w.alloc zI).heap.size=w.heap.size+1:=by simp
 have mR:(w.alloc zI).heap[w.heap.size]?=some zI:=Aw _ _;have D1:¬D=w.heap.size:=oM;have D2:¬w.heap.size=D:=oM
 go_enter func83,ntmps83
 go_wp2_with(go_at_call 79;refine aa.mono ?_;rintro e w2 ⟨⟨q,hq,rfl,hL⟩,ah⟩;have hK2:=hK1.below ah;obtain⟨c0,c1,c2,c3,c4⟩:=hK2.five;have f2:=hK2.frozen 3;rw[e0]at c1;rw[e1]at c2;rw[e2]at c3;rw[e3]at c4);have ac:Below (w.alloc zI).heap.size (w.alloc zI) w2:=ah;have ak:=hq;have hq:w.heap.size+1<=q:=by rw[ag]at hq;exact hq
 have af:w2.ownsRow B 3 1 (lZ q m.s.length m.s.length) (AL m).length (Ae (AL m)):=by
  have:=UC hL (B:=B) oM (by rw[ae];omega);rw[ae]at this ⊢;exact this
 have hS:=(Ay.refl hK1 AF).below (by rw[ag];omega) ac;have hS:=hS.swapRefs af (XI hK1.own .f (fun p e=>by cases e;rw[ag];exact hq)) (fun e=>by have e:q=D:=BJ e;omega) (fun p e=>by cases e;rw[ag];exact .inr hq);have HS:Hd (M6 (w.alloc zI) (w2.setCell (aD D 3) (lZ q m.s.length m.s.length)) B D m val q 0):=by
  refine⟨Az val .f (lZ q m.s.length m.s.length),?_,Ap _ _ (by nofun),Ap _ _ (by nofun),Bh _ _ _,Ap _ _ (by nofun)⟩;rw[Sy];exact hS
 have HV:Hd (val .r=.slice ra rn rc/\val .s=lZ g m.s.length sc/\val .p=.slice na nn nc):=⟨e0,e1,e3⟩;have HK:Hd (DK w B D val m):=hK;clear ac ah af hS hL ak hK1 hK2 c0 c1 c2 c3 c4 d0 d1 d2 d3 d4 f2 f3 aa hE e0 e1 e2 e3 hK mR ag
 go_loopw [27] (fun i wr=>∃k:Nat,k<=m.s.length/\i=iI k/\Hd (M6 (w.alloc zI) wr B D m val q k)) (fun i _=>m.s.length-(intOf i).toNat)
 case atStart=>exact⟨0,A7 _,rfl,HS⟩
 case round=>
  obtain⟨k,hk,rfl,HC⟩:=hrel;obtain⟨vk,hT,v0,v1,v2,v3⟩:=HC.o;obtain⟨e0,e1,e3⟩:=HV.o;rw[e0]at v0;rw[e1]at v1;rw[e3]at v3;obtain⟨d0,d1,d2,d3,d4⟩:=hT.dk.five;have d0:wr.cell? (aZ D)=some (iI m.g):=d0;rw[v0]at d1;rw[v1]at d2;rw[v2]at d3;rw[v3]at d4;have ab:=FJ m k
  by_cases hlk:k<m.s.length
  ·have ao:(k:Int)<(m.s.length:Int):=oM;obtain⟨x,hx⟩:∃x,x=(AL m).getD k 0:=⟨_,rfl⟩;have cx:wr.cell? (aD q k)=some (iI x):=by
    have hr:=hT.dk.own.row .f (Af.f _);rw[v2]at hr;have hr:wr.ownsRow B 3 1 (lZ q m.s.length m.s.length) (AL m).length (Ae (AL m)):=hr;rw[ae]at hr;rw[hx];refine(hr.cellAt k oM).trans ?_;unfold Ae;rw[Dm,Co (by rw[ae];exact hlk)];simp[List.getD,ae,hlk]
   have HX:Hd (x=(AL m).getD k 0):=hx;clear hx
   by_cases h0:x=0
   ·have ai:(x == 0)=true:=by simp[h0]
    have H0:Hd ((AL m).getD k 0=0):=HX.o.symm.trans h0;clear h0;have hr:=hT.dk.own.row .s (Af.s _);rw[v1]at hr;obtain⟨s0,s1,s2⟩:=D3 (L:=(CB m k).s) (tv:=fun j=>vk (.tab j)) (j:=k) (by rw[ab];exact hlk);have hr:wr.ownsRow B 85 3 (lZ g m.s.length sc) m.s.length (A2 (CB m k).s (fun j=>vk (.tab j))):=by rw[<-ab];rw[<-ab]at hr;exact hr
    have t0:wr.cell? (aD g (k*3))=some _:=(hr.cellAt (k*3) oM).trans s0;have t1:wr.cell? (aD g (k*3+1))=some _:=(hr.cellAt (k*3+1) oM).trans s1;have t2:wr.cell? (aD g (k*3+2))=some _:=(hr.cellAt (k*3+2) oM).trans s2;have u0:=hr.frozenAt (k*3);have u1:=hr.frozenAt (k*3+1);have u2:=hr.frozenAt (k*3+2);have HN:Hd (M6 (w.alloc zI) (((wr.setCell (aD g (k*3)) (iI 0)).setCell (aD g (k*3+1)) (.string ⟨#[]⟩)).setCell (aD g (k*3+2)) (nl)) B D m val q (k+1)):=by
     have hN:=hT.setSlot (t:=k) (by rw[ab];exact hlk) v1 0 ⟨#[]⟩ [] (e2:=nl) (DG _ _ _ _) (XJ _ _ _ _ _) (GG _) (fun p e=>by cases e);refine⟨Az vk (.tab k) (nl),?_,(Ap _ _ (by nofun)).trans (v0.trans e0.symm),(Ap _ _ (by nofun)).trans (v1.trans e1.symm),(Ap _ _ (by nofun)).trans v2,(Ap _ _ (by nofun)).trans (v3.trans e3.symm)⟩;rw[Sw m H0.o];exact hN
    clear hT hr s0 s1 s2 e0 e1 e3 v0 v1 v2 v3 HC HX H0 ab;go_wp2_with fail;go_roundw
    case rel=>exact⟨k+1,oM,by go_num,HN⟩
    case measure=>simp[intOf];omega
   ·have ai:(x == 0)=false:=by simp[h0]
    have HN:Hd (M6 (w.alloc zI) wr B D m val q (k+1)):=by
     refine⟨vk,?_,v0.trans e0.symm,v1.trans e1.symm,v2,v3.trans e3.symm⟩;rw[Sx m (fun e=>h0 (HX.o.trans e))];exact hT
    clear hT e0 e1 e3 v0 v1 v2 v3 HC HX ab;go_wp2_with fail;go_roundw
    case rel=>exact⟨k+1,oM,by go_num,HN⟩
    case measure=>simp[intOf];omega
  ·have ek:k=m.s.length:=oM;subst ek;have hR:wr.heap[w.heap.size]?=some zI:=hT.cells (Aw _ _) oM (GG _) (HK.o.own.lt lE);have z0:=five hR;have y0:=Aq hR;rw[PO]at hT;have ad:∀a,Af (At m) a->(vk a).ownBlock≠some w.heap.size:=hT.src w.heap.size (by simp) (GG _) (HK.o.own.lt lE);have HF:Hd (Ay w wr B D m val AF (At m) vk):=Ay.first (Av) hB hT (fun p e=>by cases e);clear hT HC ab;go_wp2_with fail;have hn:w.heap.size<=w.heap.size:=Bc _;refine AY (v:=.tuple #[.agg #[iI m.g,.slice ra rn rc,lZ g m.s.length sc,lZ q m.s.length m.s.length,.slice na nn nc],iI 0]) (by simp[results,results83,go_sem,z0]) rfl ⟨vk,?_,((((HF.o.setNew hB hn D1 ad).setNew hB hn D1 ad).setNew hB hn D1 ad).setNew hB hn D1 ad).setNew hB hn D1 ad⟩;unfold AB;rw[v0,v1,v2,v3]
theorem ib (m:Ac)(E:Int)(ra:Option Addr)(rn rc:Nat)(sa:Option Addr)(sn sc:Nat)(fa:Option Addr)(fn fc:Nat)(na:Option Addr)(nn nc:Nat)(B D:Nat)(val:Nm->Value)(w:World)(hK:DK w B D val m)(e0:val .r=.slice ra rn rc)(e1:val .s=.slice sa sn sc)(e2:val .f=.slice fa fn fc)(e3:val .p=.slice na nn nc)(hE:As m=E)(hne:(E != 0)=true):Cl 83 #[pZ D] w fun r w'=>r=.returned (.tuple #[.agg #[iI 0,AF,AF,AF,AF],iI E])/\Bw w w':=by
 have ac:=hK.lt;have hK1:DK (w.alloc zI) B D val m:=hK.alloc _;obtain⟨d0,d1,d2,d3,d4⟩:=hK1.five;rw[e0]at d1;rw[e1]at d2;rw[e2]at d3;rw[e3]at d4;have aa:=R4 hK1.own.img hE hne;unfold AB at aa;rw[e0,e1,e2,e3]at aa;have mR:(w.alloc zI).heap[w.heap.size]?=some zI:=Aw _ _;have b0:Bw w (w.alloc zI):=Av;clear hE
 go_enter func83,ntmps83
 go_wp2_with(go_at_call 79;refine aa.mono ?_;rintro e w2 ⟨rfl,ab⟩;have hR:=Ag mR ab (by simp);have z0:=five hR;have y0:=Aq hR);have hb:=Below.on b0 ab;have hn:w.heap.size<=w.heap.size:=Bc _;refine AY (v:=.tuple #[.agg #[iI 0,AF,AF,AF,AF],iI E]) (by simp[results,results83,go_sem,z0]) rfl ⟨rfl,((((hb.setCell hn _).setCell hn _).setCell hn _).setCell hn _).setCell hn _⟩
theorem ia {E:Int}(hK:DK w B D val m)(hE:As m=E)(hne:E≠0):Cl 83 #[pZ D] w fun r w'=>r=.returned (.tuple #[.agg #[iI 0,AF,AF,AF,AF],iI E])/\Bw w w':=by
 obtain⟨ra,rc,e0,_⟩:=hK.own.forms .r (Af.r m);obtain⟨sa,sc,e1,_⟩:=hK.own.forms .s (Af.s m);obtain⟨fa,fc,e2,_⟩:=hK.own.forms .f (Af.f m);obtain⟨na,nc,e3,_⟩:=hK.own.forms .p (Af.p m);exact ib m E ra _ rc sa _ sc fa _ fc na _ nc B D val w hK e0 e1 e2 e3 hE (by simpa using hne)
theorem ic (hK:DK w B D val m)(hB:B<=w.heap.size)(hE:As m=0):Cl 83 #[pZ D] w fun r w'=>∃val',r=.returned (.tuple #[AB m.g val',iI 0])/\Ay w w' B D m val AF (At m) val':=by
 have aa:1<=m.s.length:=(A4 (Au hE).2.1).1;obtain⟨ra,rc,e0,_⟩:=hK.own.forms .r (Af.r m);obtain⟨sa,sc,e1,hs⟩:=hK.own.forms .s (Af.s m);obtain⟨fa,fc,e2,_⟩:=hK.own.forms .f (Af.f m);obtain⟨na,nc,e3,_⟩:=hK.own.forms .p (Af.p m);obtain⟨g,rfl⟩:=hs (by show 0<m.s.length;omega);exact hU m ra _ rc g sc fa _ fc na _ nc B D val w hK e0 e1 e2 e3 hB hE

def VB (w:World) (m:Ac) (sa:Option Addr) (sn sc:Nat) (na:Option Addr) (nn nc:Nat) (wx:World):Prop:=∃qa qc ka kc,wx.heap[w.heap.size]?=some (cB m.g qa m.r.length qc sa sn sc ka m.f.length kc na nn nc)/\wx.heap[w.heap.size+1]?=some zI/\Bw w wx/\wx.ownsRow (w.heap.size+2) 3 1 (.slice qa m.r.length qc) m.r.length (Ae m.r)/\wx.ownsRow (w.heap.size+2) 3 1 (.slice ka m.f.length kc) m.f.length (Ae m.f)/\∀q,(Value.slice ka m.f.length kc).ownBlock=some q->(Value.slice qa m.r.length qc).ownBlock≠some q
def VC (w:World) (m:Ac) (tv qv:Nat->Value) (wx:World):Prop:=∃qa qc pa pc ka kc ja jc,wx.heap[w.heap.size]?=some (cA m qa qc pa pc ka kc ja jc)/\wx.heap[w.heap.size+1]?=some zI/\Bw w wx/\HC wx (w.heap.size+2) (On (.slice qa m.r.length qc) (.slice pa m.s.length pc) (.slice ka m.f.length kc) (.slice ja m.p.length jc)) m tv qv 0 0
theorem Lf {n' size':Nat}{e':TypeId}{v':Value}{xs xs':List Value}(h:W.ownsRow B e size v n xs)(h':W'.ownsRow B' e' size' v' n' xs')(hB:W.heap.size<=B'):∀q,v'.ownBlock=some q->v.ownBlock≠some q:=fun q e x=>by
 have h1:=(h.lt q x).2;have h2:=(h'.lt q e).1;omega
theorem Ij {xs:List Value}(h:W.ownsRow B e size v n xs)(hb:Bw W W'):W'.ownsRow B e size v n xs:=by
 refine⟨h.1,?_⟩;rcases h.2 with hn|⟨g,cap,cur,hv,aa,hg,rest⟩
 ·exact .inl hn
 ·exact .inr ⟨g,cap,cur,hv,aa,(hb.block g (AA hg)).trans hg,rest⟩
theorem OI.mono (h:OI W B val m)(hB:B'<=B):OI W B' val m:=⟨fun a ha=>CL (h.row a ha) hB,h.apart⟩
structure FC (w wr:World) (m:Ac) (tv qv:Nat->Value) (va vb vc vd:Value) (k l:Nat):Prop where
 own:∃val,HC wr (w.heap.size+2) val m tv qv k l/\val .r=va/\val .s=vb/\val .f=vc/\val .p=vd
 box:wr.heap[w.heap.size]?=some (.cells #[iI m.g,va,vb,vc,vd] 33)
 res:wr.heap[w.heap.size+1]?=some zI
 bel:Bw w wr
theorem FC.below {vd:Value}{l:Nat}(h:FC w wr m tv qv va vb vc vd k l)(hb:Bw wr wr'):FC w wr' m tv qv va vb vc vd k l:=by
 obtain⟨⟨val,hH,e⟩,h1,h2,h3⟩:=h;exact⟨⟨val,hH.below hb,e⟩,Ag h1 hb (AA h1),Ag h2 hb (AA h2),Below.on h3 hb⟩
theorem FC.tab {vd:Value}{l:Nat}(h:FC w wr m tv qv va (lZ g n cap) vc vd k l)(hb:Bw wr wr')(hr:wr'.ownsRow wr.heap.size 3 1 v (m.s.getD k default).2.2.length (Ae (m.s.getD k default).2.2)):FC w (wr'.setCell (aD g (k*3+2)) v) m tv qv va (lZ g n cap) vc vd (k+1) l:=by
 have hk:=h.below hb;obtain⟨⟨val,hH,e0,e1,e2,e3⟩,h1,h2,h3⟩:=h;obtain⟨_,k1,k2,k3⟩:=hk;have hg:=(hH.row .s (.inl ⟨by decide,rfl⟩)).lt g (by rw[e1];rfl);have hsz:w.heap.size+2<=wr.heap.size:=(AA h2);refine⟨⟨Az val (.tab k) v,(hH.below hb).tab e1 (CL hr hsz) (fun a ha q hq x=>?_),(Ap _ _ (by nofun)).trans e0,(Ap _ _ (by nofun)).trans e1,(Ap _ _ (by nofun)).trans e2,(Ap _ _ (by nofun)).trans e3⟩,Bt k1 oM _ _,Bt k2 oM _ _,k3.setCell (by show _<=g;omega) _⟩;have x1:=((hH.row a ha).lt q x).2;have x2:=(hr.lt q hq).1;omega
theorem FC.sr {l:Nat}(h:FC w wr m tv qv va vb vc (lZ g n cap) k l)(hb:Bw wr wr')(hr:wr'.ownsRow wr.heap.size 3 1 v (m.p.getD l default).2.2.length (Ae (m.p.getD l default).2.2)):FC w (wr'.setCell (aD g (l*3+2)) v) m tv qv va vb vc (lZ g n cap) k (l+1):=by
 have hk:=h.below hb;obtain⟨⟨val,hH,e0,e1,e2,e3⟩,h1,h2,h3⟩:=h;obtain⟨_,k1,k2,k3⟩:=hk;have hg:=(hH.row .p (.inl ⟨by decide,rfl⟩)).lt g (by rw[e3];rfl);have hsz:w.heap.size+2<=wr.heap.size:=(AA h2);refine⟨⟨Az val (.sr l) v,(hH.below hb).sr e3 (CL hr hsz) (fun a ha q hq x=>?_),(Ap _ _ (by nofun)).trans e0,(Ap _ _ (by nofun)).trans e1,(Ap _ _ (by nofun)).trans e2,(Ap _ _ (by nofun)).trans e3⟩,Bt k1 oM _ _,Bt k2 oM _ _,k3.setCell (by show _<=g;omega) _⟩;have x1:=((hH.row a ha).lt q x).2;have x2:=(hr.lt q hq).1;omega
theorem WH (m:Ac)(ra:Option Addr)(rn rc:Nat)(sa:Option Addr)(sn sc:Nat)(fa:Option Addr)(fn fc:Nat)(na:Option Addr)(nn nc:Nat)(w:World)(h0:Sl w (.slice ra rn rc) m.r)(h1:BA w (.slice sa sn sc) m.s)(h2:Sl w (.slice fa fn fc) m.f)(h3:Do w (.slice na nn nc) m.p)(hF:Hi m):Cl 82 #[.agg (bI m.g ra rn rc sa sn sc fa fn fc na nn nc)] w fun r w'=>∃val,r=.returned (AB m.g val)/\OI w' w.heap.size val m/\Bw w w':=by
 let V:=(w.alloc (cB m.g ra rn rc sa sn sc fa fn fc na nn nc))
 have m0:(V.alloc zI).heap[w.heap.size]?=some (cB m.g ra rn rc sa sn sc fa fn fc na nn nc):=Aj (Aw _ _) _;have mz:(V.alloc zI).heap[w.heap.size+1]?=some zI:=AR (by simp[V]);obtain⟨c0,c1,c2,c3,c4⟩:=five m0;have b0:Bw w (V.alloc zI):=(Av).alloc (by simp[V]) _;obtain⟨W0,aw⟩:=nM ((V.alloc zI));dsimp only[V]at *;clear V
 go_enter func82,ntmps82
 go_upto_region 1 with fail;rw[aw]at m0 mz c0 c1 c2 c3 c4 b0;have hz0:w.heap.size+2<=W0.heap.size:=by rw[<-aw];simp
 clear aw
 go_cut [] from 7 (fun wx=>VB w m sa sn sc na nn nc wx)
 case first=>
  go_region_with
   (first
    | (go_at_call 100;refine(KB (h0.below (Cg b0)) hF.r).mono ?_;rintro e w1 ⟨vr,rfl,af,aa⟩;have aa:=BR aa;have m1:=Ag m0 aa oM;have am:=Ag mz aa oM;have d0:=five m1;obtain⟨qa,qc,rfl⟩:=B0 af)
    | (go_at_call 100;refine(KB ((h2.below b0).below aa) hF.f).mono ?_;rintro e w2 ⟨vf,rfl,aj,ag⟩;have m2:=Ag m1 ag (AA m1);have al:=Ag am ag (AA am);have g0:=five m2;have f1:=Aq m2;obtain⟨ka,kc,rfl⟩:=B0 aj))
  all_goals
   go_wp2_with fail;go_meet;have a8:w.heap.size+2<=w1.heap.size:=Bg hz0 aa.size;have az:W0.heap.size=W0.drew.heap.size:=rfl;have a6:=af;have af:=CL (Ij af ag) (B':=w.heap.size+2) (by rw[<-az];exact hz0);have a7:=CL aj (B':=w.heap.size+2) a8;refine⟨qa,qc,ka,kc,?_,Bt (Bt al oM _ _) oM _ _,((Below.on b0 (Below.on aa ag)).setCell lE _).setCell lE _,ownsRow_setCell_below (ownsRow_setCell_below af (show w.heap.size<w.heap.size+2 by omega) _) (show w.heap.size<w.heap.size+2 by omega) _,ownsRow_setCell_below (ownsRow_setCell_below a7 (show w.heap.size<w.heap.size+2 by omega) _) (show w.heap.size<w.heap.size+2 by omega) _,?_⟩
   ·exact Bf (Bf m2 1 _) 3 _
   ·exact Lf a6 aj lE
 case rest=>
 obtain⟨qa,qc,ka,kc,m1,am,b1,af,aj,ap⟩:=hcut;have d0:=five m1;have av:w.heap.size+2<=wc.heap.size:=(AA am);obtain⟨tv,ae,aB⟩:=Wz h1 hF.s;obtain⟨qv,aC,aA⟩:=WA h3 hF.p;clear h0 h2 m0 mz c0 c1 c2 c3 c4 b0 hz0;go_upto_region 2 with fail
 go_cut [] from 15 (fun wx=>VC w m tv qv wx)
 case first=>
  go_region_with
   (first
    | (go_at_call 140;refine(aB _ (Cg b1)).mono ?_;rintro e w1 ⟨vr,rfl,aq,aa⟩;have aa:=BR aa;have m2:=Ag m1 aa oM;have al:=Ag am aa oM;have g0:=five m2;obtain⟨pa,pc,rfl⟩:=B0 aq)
    | (go_at_call 141;refine(aA _ (Below.on b1 aa)).mono ?_;rintro e w2 ⟨vf,rfl,ar,ag⟩;have m3:=Ag m2 ag (AA m2);have aL:=Ag al ag (AA al);have i0:=five m3;have f2:=Aq m3;obtain⟨ja,jc,rfl⟩:=B0 ar))
  all_goals
   go_wp2_with fail;go_meet;have a8:w.heap.size+2<=w1.heap.size:=Bg av aa.size;have aH:wc.heap.size=wc.drew.heap.size:=rfl;have ak:=Below.on aa ag;have aO:=CL (Ij aq ag) (B':=w.heap.size+2) (by rw[<-aH];exact av);have aR:=CL ar (B':=w.heap.size+2) a8;have aM:=Ij af ak;have aP:=Ij aj ak;have ai:∀ {B n size:Nat} {e:TypeId} {v:Value} {xs:List Value} {u u':Value},w2.ownsRow B e size v n xs->w.heap.size<B->((w2.setCell (aD w.heap.size 2) u).setCell (aD w.heap.size 4) u').ownsRow B e size v n xs:=fun h hB=>ownsRow_setCell_below (ownsRow_setCell_below h hB _) hB _
   have aG:Bw w ((w2.setCell (aD w.heap.size 2) (.slice pa m.s.length pc)).setCell (aD w.heap.size 4) (.slice ja m.p.length jc)):=((Below.on b1 ak).setCell lE _).setCell lE _;have hlt:w.heap.size<w.heap.size+2:=oM;have aN:=Ij af aa;have aQ:=Ij aj aa;refine⟨qa,qc,pa,pc,ka,kc,ja,jc,?_,Bt (Bt aL oM _ _) oM _ _,aG,HC.start (ai aM hlt) (ai aO hlt) (ai aP hlt) (ai aR hlt) (Lf af aq lE) ap (Lf aN ar lE) (Lf aj aq lE) (Lf aq ar lE) (Lf aQ ar lE)⟩;exact Bf (Bf m3 2 _) 4 _
 case rest=>
 obtain⟨qa,qc,pa,pc,ka,kc,ja,jc,m2,al,b2,hH⟩:=hcut;have HS:Hd (FC w wc m tv qv (.slice qa m.r.length qc) (.slice pa m.s.length pc) (.slice ka m.f.length kc) (.slice ja m.p.length jc) 0 0):=⟨⟨_,hH,rfl,rfl,rfl,rfl⟩,m2,al,b2⟩;have HT:Hd (∀j,j<m.s.length->Sl w (tv j) (m.s.getD j default).2.2):=ae;have HQ:Hd (∀j,j<m.p.length->Sl w (qv j) (m.p.getD j default).2.2):=aC;have HL:Hd (m.s.length<=9223372036854775807/\m.p.length<=9223372036854775807):=⟨h1.small,h3.small⟩;obtain⟨e0,e1,e2,e3,e4⟩:=five m2;clear hH m2 al b2 ae aC aB aA h1 h3 d0 m1 am b1 af aj ap av;go_wp2_with fail;clear e0 e1 e2 e3 e4
 go_loopw [26] (fun i wr=>∃k:Nat,k<=m.s.length/\i=iI k/\Hd (FC w wr m tv qv (.slice qa m.r.length qc) (.slice pa m.s.length pc) (.slice ka m.f.length kc) (.slice ja m.p.length jc) k 0)) (fun i _=>m.s.length-(intOf i).toNat)
 case atStart=>exact⟨0,A7 _,rfl,HS⟩
 case round=>
  obtain⟨k,hk,rfl,HC⟩:=hrel
  by_cases hlk:k<m.s.length
  ·obtain⟨g,rfl⟩:∃g,pa=some (aZ g):=by
    obtain⟨⟨val,hH,_,e1,_⟩,_⟩:=HC.o;have hr:=hH.row .s (.inl ⟨by decide,rfl⟩);rw[e1]at hr;rcases Di hr with⟨e,hn⟩|⟨g,cap,e,_⟩
    ·have hn:m.s.length=0:=hn;omega
    ·simp at e;exact⟨g,e.1⟩
   obtain⟨s,hs⟩:∃s,s=m.s.getD k default:=⟨_,rfl⟩;obtain⟨kk,dd,tt⟩:=s;have ah:=HT.o k hlk;obtain⟨ta,tc,ae⟩:=ah.form;have an:Hd (Sl w (.slice ta tt.length tc) tt/\tv k=.slice ta tt.length tc):=by rw[<-hs]at ah ae;exact⟨ae ▸ ah,ae⟩
   have HK:Hd ((kk,dd,tt)=m.s.getD k default):=hs;clear hs ah ae;have aJ:(k:Int)<(m.s.length:Int):=oM;have hL:=HL.o.1;have aE:(k:Int)+1<=9223372036854775807:=oM;obtain⟨⟨val,hH,_,e1,_⟩,ad,ab,ac⟩:=HC.o;have hr:=hH.row .s (.inl ⟨by decide,rfl⟩);rw[e1]at hr;have hr:wr.ownsRow (w.heap.size+2) 85 3 (lZ g m.s.length pc) m.s.length (A2 m.s (fun j=>if j<k then val (.tab j) else tv j)):=hr;have ay:=hr.lt g rfl;obtain⟨s0,s1,s2⟩:=D3 (L:=m.s) (tv:=fun j=>if j<k then val (.tab j) else tv j) (j:=k) hlk;rw[<-HK.o]at s0 s1;rw[Aa (JG k),an.o.2]at s2;have t0:wr.cell? (aD g (k*3))=some (iI kk):=(hr.cellAt (k*3) oM).trans s0;have t1:wr.cell? (aD g (k*3+1))=some (.string dd):=(hr.cellAt (k*3+1) oM).trans s1;have t2:wr.cell? (aD g (k*3+2))=some (.slice ta tt.length tc):=(hr.cellAt (k*3+2) oM).trans s2;have hA:=Ch wr (oS kk dd ta tt.length tc);have ba:Bw wr (wr.alloc (oS kk dd ta tt.length tc)):=Av;have aF:w.heap.size+2<=wr.heap.size:=(AA ab);have x0:=five (Ag ad ba oM);have ms:(wr.alloc (oS kk dd ta tt.length tc)).heap[wr.heap.size]?=some (oS kk dd ta tt.length tc):=Aw _ _;obtain⟨y0,y1,y2⟩:=BO ms;have ax:=KB (w:=(wr.alloc (oS kk dd ta tt.length tc)).drew) ((an.o.1.below ac).below (Cg ba)) (by have:=hF.tab k hlk;rw[<-HK.o]at this;exact this);clear hA hH e1 ad ab ac hr s0 s1 s2;go_wp2_with fail
   go_region_with (first|(go_at_call 100;refine ax.mono ?_;rintro e w1 ⟨vt,rfl,hrt,bt⟩;have bt:=BR bt;have bw:=Below.on ba bt;have hN:=HC.o.below bw;have z0:=five hN.box;have au:Hd (w1.ownsRow wr.heap.size 3 1 vt tt.length (Ae tt)):=CL hrt (by show _<=(wr.alloc _).heap.size;simp);obtain⟨oa,oc,rfl⟩:=B0 hrt;have q2:=(bw.cell (p:=(aD g (k*3+2))) ay.2).trans t2;have qf:w1.frozen? (aD g (k*3+2))=false:=by (obtain⟨⟨val,hH,_,e1,_⟩,_⟩:=hN;have hr:=hH.row .s (.inl ⟨by decide,rfl⟩);rw[e1]at hr;exact hr.frozenAt _)))
   all_goals
    have HN:Hd (FC w (w1.setCell (aD g (k*3+2)) (.slice oa tt.length oc)) m tv qv (.slice qa m.r.length qc) (lZ g m.s.length pc) (.slice ka m.f.length kc) (.slice ja m.p.length jc) (k+1) 0):=HC.o.tab bw (by rw[<-HK.o];exact au.o);go_wp2_with fail;go_roundw
    case rel=>exact⟨k+1,oM,by go_num,HN⟩
    case measure=>simp[intOf];omega
  ·have ek:k=m.s.length:=oM;subst ek;obtain⟨x,aK⟩:∃X,X=wr:=⟨_,rfl⟩;subst aK;obtain⟨y0,y1,y2,y3,y4⟩:=five HC.o.box;go_wp2_with fail;clear y0 y1 y2 y3 y4
   go_loopw [43] (fun i wr=>∃l:Nat,l<=m.p.length/\i=iI l/\Hd (FC w wr m tv qv (.slice qa m.r.length qc) (.slice pa m.s.length pc) (.slice ka m.f.length kc) (.slice ja m.p.length jc) m.s.length l)) (fun i _=>m.p.length-(intOf i).toNat)
   case atStart=>exact⟨0,A7 _,rfl,HC⟩
   case round=>
    obtain⟨l,hl,rfl,HD⟩:=hrel
    by_cases hll:l<m.p.length
    ·obtain⟨g,rfl⟩:∃g,ja=some (aZ g):=by
      obtain⟨⟨val,hH,_,_,_,e3⟩,_⟩:=HD.o;have hr:=hH.row .p (.inl ⟨by decide,rfl⟩);rw[e3]at hr;rcases Di hr with⟨e,hn⟩|⟨g,cap,e,_⟩
      ·have hn:m.p.length=0:=hn;omega
      ·simp at e;exact⟨g,e.1⟩
     obtain⟨s,hs⟩:∃s,s=m.p.getD l default:=⟨_,rfl⟩;obtain⟨nm,sg,tt⟩:=s;have ah:=HQ.o l hll;obtain⟨ta,tc,ae⟩:=ah.form;have an:Hd (Sl w (.slice ta tt.length tc) tt/\qv l=.slice ta tt.length tc):=by rw[<-hs]at ah ae;exact⟨ae ▸ ah,ae⟩
     have HK:Hd ((nm,sg,tt)=m.p.getD l default):=hs;clear hs ah ae;have aJ:(l:Int)<(m.p.length:Int):=oM;have hL:=HL.o.2;have aE:(l:Int)+1<=9223372036854775807:=oM;obtain⟨⟨val,hH,_,_,_,e3⟩,ad,ab,ac⟩:=HD.o;have hr:=hH.row .p (.inl ⟨by decide,rfl⟩);rw[e3]at hr;have hr:wr.ownsRow (w.heap.size+2) 87 3 (lZ g m.p.length jc) m.p.length (A8 m.p (fun j=>if j<l then val (.sr j) else qv j)):=hr;have ay:=hr.lt g rfl;obtain⟨s0,s1,s2⟩:=Ew (S:=m.p) (qv:=fun j=>if j<l then val (.sr j) else qv j) (j:=l) hll;rw[<-HK.o]at s0 s1;rw[Aa (JG l),an.o.2]at s2;have t0:wr.cell? (aD g (l*3))=some (.string nm):=(hr.cellAt (l*3) oM).trans s0;have t1:wr.cell? (aD g (l*3+1))=some (iI sg):=(hr.cellAt (l*3+1) oM).trans s1;have t2:wr.cell? (aD g (l*3+2))=some (.slice ta tt.length tc):=(hr.cellAt (l*3+2) oM).trans s2;have ba:Bw wr (wr.alloc (oN nm sg ta tt.length tc)):=Av;have aF:w.heap.size+2<=wr.heap.size:=(AA ab);have x0:=five (Ag ad ba oM);have ms:(wr.alloc (oN nm sg ta tt.length tc)).heap[wr.heap.size]?=some (oN nm sg ta tt.length tc):=Aw _ _;obtain⟨y0,y1,y2⟩:=BO ms;have ax:=KB (w:=(wr.alloc (oN nm sg ta tt.length tc)).drew) ((an.o.1.below ac).below (Cg ba)) (by have:=hF.sr l hll;rw[<-HK.o]at this;exact this);clear hH e3 ad ab ac hr s0 s1 s2;go_wp2_with fail
     go_region_with (first|(go_at_call 100;refine ax.mono ?_;rintro e w1 ⟨vt,rfl,hrt,bt⟩;have bt:=BR bt;have bw:=Below.on ba bt;have hN:=HD.o.below bw;have z0:=five hN.box;have au:Hd (w1.ownsRow wr.heap.size 3 1 vt tt.length (Ae tt)):=CL hrt (by show _<=(wr.alloc _).heap.size;simp);obtain⟨oa,oc,rfl⟩:=B0 hrt;have q2:=(bw.cell (p:=(aD g (l*3+2))) ay.2).trans t2;have qf:w1.frozen? (aD g (l*3+2))=false:=by (obtain⟨⟨val,hH,_,_,_,e3⟩,_⟩:=hN;have hr:=hH.row .p (.inl ⟨by decide,rfl⟩);rw[e3]at hr;exact hr.frozenAt _)))
     all_goals
      have HN:Hd (FC w (w1.setCell (aD g (l*3+2)) (.slice oa tt.length oc)) m tv qv (.slice qa m.r.length qc) (.slice pa m.s.length pc) (.slice ka m.f.length kc) (lZ g m.p.length jc) m.s.length (l+1)):=HD.o.sr bw (by rw[<-HK.o];exact au.o);go_wp2_with fail;go_roundw
      case rel=>exact⟨l+1,oM,by go_num,HN⟩
      case measure=>simp[intOf];omega
    ·have el:l=m.p.length:=oM;subst el;obtain⟨⟨val,hH,e0,e1,e2,e3⟩,ad,ab,ac⟩:=HD.o;have x0:=five ad;have z0:=five ab;have y0:=Aq ab;have HF:Hd (OI wr (w.heap.size+2) val m):=hH.done;clear hH;go_wp2_with fail;have hf:∀a,Af m a->(val a).ownBlock≠some (w.heap.size+1):=fun a ha e=>by have:=((HF.o.row a ha).lt _ e).1;omega
     have ao:w.heap.size<=w.heap.size+1:=Cw _;refine AY (v:=.agg (aI m qa qc pa pc ka kc ja jc)) (by simp[results,results82,go_sem,z0]) rfl ⟨val,?_,OI.mono (((((HF.o.far hf).far hf).far hf).far hf).far hf) oM,((((ac.setCell ao _).setCell ao _).setCell ao _).setCell ao _).setCell ao _⟩;unfold AB;rw[e0,e1,e2,e3]
theorem Pn (h:Al w v m)(hF:Hi m):Cl 82 #[v] w fun r w'=>∃val,r=.returned (AB m.g val)/\OI w' w.heap.size val m/\Bw w w':=by
 obtain⟨ra,rc,sa,sc,fa,fc,na,nc,rfl,h1,h2,h3,h4⟩:=h.parts;exact WH m ra _ rc sa _ sc fa _ fc na _ nc w h1 h2 h3 h4 hF
end Go.Proofs.YtfciijncfbepjaaGreatDoor
