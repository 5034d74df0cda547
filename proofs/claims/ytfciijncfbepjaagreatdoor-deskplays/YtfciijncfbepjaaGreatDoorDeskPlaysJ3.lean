/- Texts joined: Counts, TCheck, TChk2, RefA, RefB, CntF, RefP, RefC, BareIn, SlotErr, RefD, RefE, TLook, Z4, RtI, Cted, ExtP, Grab. -/
import Derived.Test.YtfciijncfbepjaaGreatDoorDeskPlaysJ2
import Derived.Deep.QuietTactic
import Derived.BigQuiet
import Derived.Deep.RegionHeld3
import Derived.WalkKit
set_option linter.unusedVariables false
set_option linter.unusedSimpArgs false
set_option maxHeartbeats 200000000
set_option maxRecDepth 20000
namespace Go.Proofs.YtfciijncfbepjaaGreatDoor
open Go.Proofs.Tryz
variable {W X w:World}{L L':List An}{P es l r rf:List Int}{B:Bool}{g i j n sn t:Nat}{box:Obj}{m:Ac}{v:Value}{E c e k:Int}{f:Nat->Int}
open Go.RowKit Go.Shelf
section
attribute [local go_sem] OY
theorem info3:(prog.info? 3).map (fun i=>(i.zero,i.size,i.bytes))=some (some (iI 0),1,8):=by kernel_rfl
theorem KY (n:Nat)(hn:n<=40)(W:World):(Instr.makeSlice 29 (iI (n:Int)) (iI (n:Int))).run prog W=.ok (lZ W.heap.size n n) (W.alloc (.cells ((List.replicate n (0:Int)).map (Value.int .i64)).toArray 3)):=by
 have hi:=info3
 cases h:prog.info? 3 with
 | none=>rw[h]at hi;cases hi
 | some i=>
  rw[h]at hi;simp at hi
  have:=run_make (P:=prog) W 29 3 i (iI 0) underlying29 h hi.1 .i64 .i64 n n oM oM (by rw[hi.2.2];omega) oM;rw[this,hi.2.1];have e:madeCells (iI 0).cells (((n:Int)).toNat*1)=((List.replicate n (0:Int)).map (Value.int .i64)).toArray:=by
   apply Array.ext
   ·simp[madeCells]
   ·intro j h1 h2;simp[madeCells,Value.cells,Nat.mod_one]
  rw[e];simp
abbrev GU (w:World) (L:List An):Type:={p:Hj × AE // Rt w p.1 p.2/\Bk L p.2.2.1 p.2.2.2=true/\BK p.2.2.1=true}
theorem UA {w:World}{L:List An}:∀ (zs:List (Ix w)),(∀x∈zs,Bk L x.1.2.2.1 x.1.2.2.2=true/\BK x.1.2.2.1=true)->∃ys:List (GU w L),ys.map (fun x=>x.1.1)=zs.map (fun x=>x.1.1)/\ys.map (fun x=>x.1.2)=zs.map (fun x=>x.1.2)
 | [],_=>⟨[],rfl,rfl⟩
 | x::zs,h=>by
  obtain⟨ys,h1,h2⟩:=UA zs (fun y hy=>h y (CA _ hy));exact⟨⟨x.1,x.2,h x CD⟩::ys,by rw[Dc,Dc,h1],by rw[Dc,Dc,h2]⟩
def E4 {w:World} (L:List An) (pre:List (GU w L)):List Int:=(pre.flatMap (fun x=>x.1.2.2.2)).foldl (stepC L) (List.replicate L.length 0)
theorem YH (L:List An)(pre:List (GU w L))(x:GU w L):E4 L (pre++[x])=x.1.2.2.2.foldl (stepC L) (E4 L pre):=by
 unfold E4;rw[Hb,Rs];simp
theorem PN (L:List An)(r:List Int):∀l:List Int,(r.foldl (stepC L) l).length=l.length:=by
 induction r with
 | nil=>exact fun l=>rfl
 | cons k r ih=>exact fun l=>by rw[List.foldl_cons,ih,U4]
theorem YG (L:List An)(pre:List (GU w L)):(E4 L pre).length=L.length:=by unfold E4;rw[PN];simp
theorem Oh (h:AD L=0)(k:Int):(AH L k).length<=4:=by
 unfold AH
 by_cases hk:k.toNat<L.length
 ·have:=DO h hk;have e:L.getD k.toNat default=L[k.toNat]:=by simp[List.getD,hk]
  rw[e];unfold B1 Cb at this
  split at this
  ·simp at this;rw[this.2];exact A7 _
  ·split at this
   ·simp at this;rw[this.2];exact A7 _
   ·split at this
    ·simp at this;have:=Dv this.1;omega
    ·cases this
 ·have e:L.getD k.toNat default=default:=by simp[List.getD,hk]
  rw[e];exact A7 _
theorem CO.stepC (h:AD L=0){B:Nat}(hb:CO l B)(k:Int):CO (stepC L l k) (B+5):=by
 unfold Go.Proofs.YtfciijncfbepjaaGreatDoor.stepC
 split
 ·exact hb.mono oM
 ·split
  ·exact((hb.inc k).pagesC).mono (by have:=Oh h k;omega)
  ·exact(hb.inc k).mono oM
theorem CO.fold {L:List An}(h:AD L=0):∀ {r l:List Int} {B:Nat},CO l B->CO (r.foldl (Go.Proofs.YtfciijncfbepjaaGreatDoor.stepC L) l) (B+5*r.length)
 | [],_,_,hb=>hb
 | k::r,l,B,hb=>by
  have:=CO.fold h (r:=r) (hb.stepC h k);exact this.mono (by simp;omega)
theorem Ur (x:GU w L):x.1.2.2.2.length<=4:=by
 have h:=x.2.2.1;have hg:=x.2.2.2;unfold Bk at h;unfold BK at hg;simp only[B5,C4]at h hg;omega
theorem fL (x:GU w L):x.1.2.2.2.all (BZ L)=true:=by
 have h:=x.2.2.1;unfold Bk at h;simp only[B5]at h;exact h.2.1
theorem Sv {w:World}{L:List An}:∀pre:List (GU w L),(pre.flatMap (fun x=>x.1.2.2.2)).length<=4*pre.length
 | []=>A7 _
 | x::pre=>by
  have h1:=Sv pre;have h2:=Ur x;rw[Rr,Bl,BF];omega
theorem CO.gone (h:AD L=0)(pre:List (GU w L)):CO (E4 L pre) (20*pre.length):=by
 unfold E4;exact(CO.fold h (CO.zero L.length)).mono (by have:=Sv pre;omega)
theorem Yj (L:List An)(l r:List Int)(k:Nat)(hk:k<r.length):(r.take (k+1)).foldl (stepC L) l=stepC L ((r.take k).foldl (stepC L) l) (r.getD k 0):=by
 have e:r.getD k 0=r[k]:=by simp[List.getD,hk]
 rw[LA,Co hk,OZ,Rs,e]
 rfl
theorem CE.cellsAt {B:Nat}{W':World}{A:Array Value}{t:TypeId}{fr:Nat × Nat}(h:CE g W W')(hne:B≠g)(hb:W.heap[B]?=some (.cells A t fr)):W'.heap[B]?=some (.cells A t fr):=(h.block B hne).trans hb
theorem CE.keepsFrom {W':World}(h:CE g W W')(hl:Bz W g l):KeepsFrom n W W':=⟨JF h.size.symm,fun k o _ hk ho=>by
 by_cases e:k=g
 ·subst e;rw[show W.heap[k]?=_ from hl]at hk
  cases hk
  cases ho
 ·exact(h.block k e).trans hk⟩
structure CI (w:World) (sn g:Nat) (box:Obj) (l:List Int) (W:World):Prop where
 l:Bz W g l
 x:Boxed W (g+1) 29 (lZ g sn sn)
 m:W.heap[w.heap.size]?=some box
 k:W.heap[g+1+1]?=some box
 b:Bw w W
 z:g+1+1+1<=W.heap.size
theorem CI.own {Y:World}{row:Option Nat}(h:CI w sn g box l X)(hg:X.grownBy Y row)(hr:∀r,row=some r->∃o:Obj,X.heap[r]?=some o/\o.isCells=false)(hz:∀r,row=some r->g+1+1<r/\w.heap.size<r):CI w sn g box l Y:=by
 refine⟨LL h.l hg hr,LL h.x hg hr,(hg.block _ (B6.1 h.m).1 (fun e=>?_)).trans h.m,(hg.block _ (B6.1 h.k).1 (fun e=>?_)).trans h.k,h.b.grown hg h.b.size (fun k e=>OR (hz k e).2),Bg h.z hg.size⟩
 ·have:=(hz _ e.symm).2;omega
 ·have:=(hz _ e.symm).1;omega
theorem CI.alloc (h:CI w sn g box l X)(o:Obj):CI w sn g box l (X.alloc o):=h.own (World.grownBy_alloc X o none) (by simp) (by simp)
theorem CI.only {l':List Int}{Y:World}(h:CI w sn g box l X)(ho:CE g X Y)(hl:Bz Y g l')(hg:w.heap.size<g):CI w sn g box l' Y:=
 ⟨hl,(ho.block _ oM).trans h.x,(ho.block _ oM).trans h.m,(ho.block _ oM).trans h.k,h.b.trans (ho.below (OR hg)),by rw[ho.size];exact h.z⟩
theorem WR (gm:Int)(ra:Option Addr)(rn rc:Nat)(sa:Option Addr)(sn sc:Nat)(fa:Option Addr)(fn fc:Nat)(na:Option Addr)(nn nc:Nat)(m:Ac)(E:Int)(w:World)(h:Al w (Value.agg (bI gm ra rn rc sa sn sc fa fn fc na nn nc)) m)(hE:As m=E)(hne:(E != 0)=true):Cl 79 #[Value.agg (bI gm ra rn rc sa sn sc fa fn fc na nn nc)] w fun r w'=>r=.returned (.tuple #[nl,iI E])/\Bw w w':=by
 have b0:Bw w (w.alloc (cB gm ra rn rc sa sn sc fa fn fc na nn nc)):=Av;have aa:=UU (h.below b0) hE;clear h hE;refine(D0 (n:=9)).1 ?_;refine Kl func79 rfl trivial ?_ rfl;simp only[ntmps79,EG,BF,C1,Nat.reduceAdd,Nat.reduceSub,FT,FU,FY,FW,EY,Er]
 gi_wp2_with (refine⟨trivial,?_⟩;gi_at_call 137;refine(D0.2 aa).mono ?_;rintro e w1 ⟨rfl,b1⟩)
 refine⟨_,results_tmp2 rfl _ _ _,rfl,Below.on b0 b1⟩
set_option maxRecDepth 100000 in
theorem WQ (gm:Int)(ra:Option Addr)(rn rc:Nat)(sb so:Nat)(sn sc:Nat)(fa:Option Addr)(fn fc:Nat)(na:Option Addr)(nn nc:Nat)(r:List Int)(L:List An)(S:List AE)(refs:List Int)(w:World)(hr:Sl w (.slice ra rn rc) r)(hs:BA w (lD sb so sn sc) L)(hf:Sl w (.slice fa fn fc) refs)(hS:Do w (.slice na nn nc) S)(hsn:L.length=sn)(hsn40:sn<=40)(hsb:sb<w.heap.size)(hcl:∀j,(h:j<L.length)->B7 w sb (so+j*3) L[j])(hE:As ⟨gm,r,L,refs,S⟩=0)(hLs:AD L=0)(hS3:S.length<=3)(hT:Cm L=true)(hG:((⟨#[]⟩,gm,r)::S).all (fun s=>BK s.2.1)=true)(hF:((⟨#[]⟩,gm,r)::S).all (fun s=>Bk L s.2.1 s.2.2)=true):Cl 79 #[Value.agg (bI gm ra rn rc (sD sb so) sn sc fa fn fc na nn nc)] w fun e w'=>(∃g,w.heap.size<=g/\e=.returned (.tuple #[lZ g sn sn,iI 0])/\Bz w' g ((((⟨#[]⟩,gm,r)::S).flatMap (fun s=>s.2.2)).foldl (stepC L) (List.replicate L.length 0)))/\Bw w w':=by
 have b0:Bw w (w.alloc (cB gm ra rn rc (sD sb so) sn sc fa fn fc na nn nc)):=Av;have m0:(w.alloc (cB gm ra rn rc (sD sb so) sn sc fa fn fc na nn nc)).heap[w.heap.size]?=some (cB gm ra rn rc (sD sb so) sn sc fa fn fc na nn nc):=Aw _ _;have hI:Al w (Value.agg (bI gm ra rn rc (sD sb so) sn sc fa fn fc na nn nc)) ⟨gm,r,L,refs,S⟩:=⟨_,_,_,_,rfl,hr,hs,hf,hS⟩;have aa:=UU (hI.below b0) hE;have ba:=KY sn hsn40;clear hI hE hf;refine(D0 (n:=9)).1 ?_;refine Kl func79 rfl trivial ?_ rfl;simp only[ntmps79,EG,BF,C1,Nat.reduceAdd,Nat.reduceSub,FT,FU,FY,FW,EY,Er]
 gi_wp2_with (first
  | (refine⟨trivial,?_⟩;gi_at_call 137;refine(D0.2 aa).mono ?_;rintro e w1 ⟨rfl,b1⟩;have m1:=Ag m0 b1 (by simp);obtain⟨c0,c1,c2,c3,c4⟩:=five m1;have m2:=Aj (Aj m1 (.cells (Array.replicate sn (iI 0)) 3)) (.cells #[lZ w1.heap.size sn sn] 29);obtain⟨d0,d1,d2,d3,d4⟩:=five m2)
  | (refine⟨trivial,?_⟩;gi_at_call 138;refine(QI Fence.wide _ trivial rfl _ _ _ _ _ _).mono ?_;rintro e w3 ⟨rfl,rfl⟩))
 have al:=Below.on b0 b1;have ai:w.heap.size<w1.heap.size:=(AA m1);obtain⟨Wm,an⟩:=nM ((w1.alloc (.cells (Array.replicate sn (iI 0)) 3)).alloc (.cells #[lZ w1.heap.size sn sn] 29));have l2:Bz Wm w1.heap.size (List.replicate sn 0):=by
  rw[<-an];have:=Aj (C2 w1 (.cells (Array.replicate sn (iI 0)) 3)) (.cells #[lZ w1.heap.size sn sn] 29)
  show _=_
  rw[this];simp
 have x2:Boxed Wm (w1.heap.size+1) 29 (lZ w1.heap.size sn sn):=by
  rw[<-an];have:=Boxed.new (w1.alloc (.cells (Array.replicate sn (iI 0)) 3)) 29 (lZ w1.heap.size sn sn)
  simpa using this
 have a6:Bw w Wm:=by
  rw[<-an];exact(al.alloc al.size _).alloc (by have:=al.size;simp;omega) _
 have av:Wm.heap.size=w1.heap.size+1+1:=by rw[<-an];simp
 rw[an]at m2 d0 d1 d2 d3 d4 ⊢;have aC:=JF av;have aE:=JF av.symm;have m3:(Wm.alloc (cB gm ra rn rc (sD sb so) sn sc fa fn fc na nn nc)).heap[w1.heap.size+1+1]?=some (cB gm ra rn rc (sD sb so) sn sc fa fn fc na nn nc):=by rw[<-av];exact Aw _ _
 have aG:=Aj m2 (cB gm ra rn rc (sD sb so) sn sc fa fn fc na nn nc);have l3:Bz (Wm.alloc (cB gm ra rn rc (sD sb so) sn sc fa fn fc na nn nc)) w1.heap.size (List.replicate sn 0):=Aj l2 _;have x3:=x2.alloc (cB gm ra rn rc (sD sb so) sn sc fa fn fc na nn nc);have a7:Bw w (Wm.alloc (cB gm ra rn rc (sD sb so) sn sc fa fn fc na nn nc)):=a6.alloc a6.size _;have aF:(Wm.alloc (cB gm ra rn rc (sD sb so) sn sc fa fn fc na nn nc)).heap.size<=w1.heap.size+1+1+1:=by simp;omega
 have ar:w1.heap.size+1+1+1<=(Wm.alloc (cB gm ra rn rc (sD sb so) sn sc fa fn fc na nn nc)).heap.size:=by simp;omega
 obtain⟨bc,ay,am⟩:=QH hr hS hS3 a7 m3;obtain⟨xs,aL,aM⟩:=UA (L:=L) bc (fun x hx=>by
  rw[<-am,Ax]at hF hG;exact⟨hF x.1.2 (Fh.2 ⟨x,hx,rfl⟩),hG x.1.2 (Fh.2 ⟨x,hx,rfl⟩)⟩)
 have aJ:Hd (xs.map (fun x=>x.1.2)=(⟨#[]⟩,gm,r)::S):=aM.trans am;have bp:xs.length<=4:=by
  have:=congrArg List.length aJ.o;simp at this
  omega
 rw[<-aL]at ay;obtain⟨W0,az⟩:=nM (Wm.alloc (cB gm ra rn rc (sD sb so) sn sc fa fn fc na nn nc));rw[az]at m3 aG l3 x3 a7 aF ar ay;rw[az];have HN:Hd (L.length=sn):=hsn;have aS:CI w sn w1.heap.size (cB gm ra rn rc (sD sb so) sn sc fa fn fc na nn nc) (E4 L ([]:List (GU w L))) W0:=⟨by have:=l3;rw[<-HN.o]at this;exact this,x3,aG,m3,a7,ar⟩;have ak:∀j,(h:j<L.length)->∃tv,w.cell? (aD sb (so+j*3+2))=some tv/\Sl w tv L[j].2.2:=fun j h=>by
  obtain⟨tv,_,_,c3,hsl⟩:=hcl j h;exact⟨tv,c3,hsl⟩
 have aN:Hd (∀j,(h:j<L.length)->∃tv,w.cell? (aD sb (so+j*3+2))=some tv/\Sl w tv L[j].2.2):=ak;clear an az aa ba c0 c1 c2 c3 c4 d0 d1 d2 d3 d4 m0 m1 m2 l2 x2 b0 b1 a6 av aC aE m3 aG l3 x3 aL aM am hsn ak hcl;refine wpIn_rangeFunc_ownH rfl oM (gf:=182) (lb:=#[pZ (w1.heap.size+1+1)]) rfl trivial (enters_of func182 kR rfl)
  (QJ (fun x:GU w L=>x.1.1) Fence.wide 8 trivial rfl oM (w1.heap.size+1+1) w.heap.size xs W0 ay oM oM) CV.trans (CV.put oM oM) Eu (fun _=>rfl)
  (fun ad W=>CI w sn w1.heap.size (cB gm ra rn rc (sD sb so) sn sc fa fn fc na nn nc) (E4 L ad) W)
  (fun _ _ _=>False)
  (fun ad X Y row hs hg hr=>hs.own hg (fun r e=>(hr r e).2) (fun r e=>by have:=(hr r e).1;omega))
  (fun _ _ _ _ _ hs _ _=>hs)
  aS
  (fun x a' W=>∃Bx,W.heap[Bx]?=some (.cells #[.string x.1.1.nm,iI x.1.1.g,.slice x.1.1.a x.1.1.n x.1.1.c] 87)/\w1.heap.size+1+1+1<=Bx/\a' = {tmps:=#[Value.agg (bI gm ra rn rc (sD sb so) sn sc fa fn fc na nn nc),pZ w.heap.size,nl,iI 0,iI 0,pZ (w1.heap.size+1),pZ Bx,undef,undef,Value.agg (bI gm ra rn rc (sD sb so) sn sc fa fn fc na nn nc),iI 0,iI 0,.bool false,undef,pQ w.heap.size 2,lD sb so sn sc,iI sn,lZ w1.heap.size sn sn,Value.agg (bI gm ra rn rc (sD sb so) sn sc fa fn fc na nn nc),.func (.func 182) #[] #[pZ (w1.heap.size+1+1)],.agg #[.string x.1.1.nm,iI x.1.1.g,.slice x.1.1.a x.1.1.n x.1.1.c],undef,undef,undef,undef,undef,undef,undef,undef,undef,undef,undef,undef,undef,undef,undef,undef,undef,undef,undef,undef,undef,undef,undef,undef,undef,undef,undef,undef,undef,undef],defers:=[]})
  (fun x a' _ X Y row hs hg hr=>by obtain⟨Bx,e1,e2,e3⟩:=hs;exact⟨Bx,LL e1 hg (fun r e=>(hr r e).2),e2,e3⟩)
  ?assign ?body ?done ?stop
 case assign=>
  rintro l ad x W K hI hK;unfold JT
  gi_wp2
  exact hK _ _ ((KeepsOthers.alloc _ _).from _) (CV.alloc (by have:=hI.z;omega) (by have:=hI.z;omega) _) (hI.alloc _) ⟨W.heap.size,Aw _ _,hI.z,rfl⟩
 case stop=>
  rintro D c ad W _ _ h _;exact h.elim
 case done=>
  rintro D ys W hD rfl hI hK;have cX:=hI.x.cell;have a8:Bz (W.putObj D (.deferred none)) w1.heap.size ((((⟨#[]⟩,gm,r)::S).flatMap (fun s=>s.2.2)).foldl (stepC L) (List.replicate L.length 0)):=by
   have:=hI.l;unfold E4 at this;rw[show ys.flatMap (fun x=>x.1.2.2.2)=(ys.map (fun x=>x.1.2)).flatMap (fun s=>s.2.2) by rw[List.flatMap_map],aJ.o]at this;exact(O1 oM).trans this
  gi_wp2
  refine⟨by simp,.inl ⟨_,_,rfl,Km hK,?_⟩⟩;exact⟨_,results_tmp2 rfl _ _ _,⟨w1.heap.size,oM,rfl,a8⟩,JQ hI.b oM _⟩
 case body=>
  rintro l ad x a' W hl ⟨rr,bl⟩ hI ⟨Bx,aR,aQ,rfl⟩ hlt;obtain⟨e0,e1,e2⟩:=BO aR;have h4:=Ur x;obtain⟨hrl,bk,_,hcc⟩:=x.2.1.2.2.cells;have HR:Hd (x.1.2.2.2.length=x.1.1.n):=hrl;have bb:x.1.1.n<=4:=oM;have HC:Hd (∀j,j<x.1.1.n->∃b off,x.1.1.a=some (aD b off)/\b<w.heap.size/\w.cell? (aD b (off+j))=some (iI (x.1.2.2.2.getD j 0))):=hcc;have HI:Hd (CI w sn w1.heap.size (cB gm ra rn rc (sD sb so) sn sc fa fn fc na nn nc) (E4 L ad) W):=hI;have bj:ad.length<=4:=oM;obtain⟨xa,aK⟩:=nM (x.1.1.a);obtain⟨xn,aB⟩:=nM (x.1.1.n);rw[aK,aB]at HC e2 ⊢;rw[aB]at bb HR;clear hcc hrl h4 hI aK aB
  gi_wp2
  gi_loopw [8,24] (fun _ i wr=>∃k:Nat,k<=xn/\i=iI k/\Hd (Bz wr w1.heap.size ((x.1.2.2.2.take k).foldl (stepC L) (E4 L ad)))/\CE w1.heap.size W wr) (fun _ i _=>xn-(intOf i).toNat)
  case atStart=>exact⟨0,A7 _,rfl,HI.o.l,CE.refl _ _⟩
  case round=>
   obtain⟨k,hk,rfl,aw,aj⟩:=hrel
   by_cases hlk:k<xn
   ·obtain⟨b,off,rfl,aT,af⟩:=HC.o k hlk;have bi:(k:Int)<(xn:Int):=oM;have aA:k<x.1.2.2.2.length:=by rw[HR.o];exact hlk
    have hE:=E2 (fL x) aA;have ab:=Yj L (E4 L ad) x.1.2.2.2 k aA;obtain⟨q,hq⟩:=nM (x.1.2.2.2.getD k 0);rw[hq]at hE ab af;obtain⟨lk,ag⟩:=nM ((x.1.2.2.2.take k).foldl (stepC L) (E4 L ad));have hlen:lk.length=sn:=by rw[<-ag,PN,YG,HN.o]
    have au:CO lk 100:=by
     rw[<-ag];refine(CO.fold hLs (CO.gone hLs ad)).mono ?_;have:(x.1.2.2.2.take k).length<=4:=by simp;omega
     omega
    rw[ag]at ab;have ae:Hd (Bz wr w1.heap.size lk):=by rw[<-ag];exact aw
    have aU:Bw w wr:=HI.o.b.trans (aj.below (OR ai));have c1:wr.cell? (aD b (off+k))=some (iI q):=(aU.cell (p:=(aD b (off+k))) aT).trans af;have aH:Hd (CI w sn w1.heap.size (cB gm ra rn rc (sD sb so) sn sc fa fn fc na nn nc) lk wr):=HI.o.only aj ae.o ai;have HS:Hd ((x.1.2.2.2.take (k+1)).foldl (stepC L) (E4 L ad)=stepC L lk q):=ab;clear ab ag af hq aA aw
    by_cases h0:q=0
    ·have aP:(q == 0)=true:=by simp[h0]
     have H0:Hd (q=0):=h0;clear h0 hE
     gi_wp2
     go_roundw
     case rel=>exact⟨k+1,oM,by go_num,by show Bz _ _ _;rw[HS.o];unfold stepC;rw[Ab H0.o];exact ae.o,aj⟩
     case measure=>simp[intOf];omega
    ·have aP:(q == 0)=false:=by simp[h0]
     rw[E9 h0]at hE;obtain⟨j,rfl,hj,hkd⟩:=Gz hE;have bh:j<sn:=by rw[<-HN.o];exact hj
     have bg:(j:Int)<(sn:Int):=oM;obtain⟨c,hc⟩:=nM (lk.getD j 0);have cq:wr.cell? (aD w1.heap.size j)=some (iI c):=by rw[<-hc];exact ae.o.cell oM
     have fq:wr.frozen? (aD w1.heap.size j)=false:=ae.o.frozen j;have ap:=au j;rw[hc]at ap;have aV:=ap.1;have aW:=ap.2;have cX:=aH.o.x.cell;have ao:Hd (Bz (wr.setCell (aD w1.heap.size j) (iI (c+1))) w1.heap.size (inc lk j)):=by
      show Bz _ _ _
      unfold inc;rw[A5,hc];exact ae.o.set j (c+1)
     have ax:Hd (CE w1.heap.size wr (wr.setCell (aD w1.heap.size j) (iI (c+1)))):=CE.set _ _ _ _;have ac:Hd (CI w sn w1.heap.size (cB gm ra rn rc (sD sb so) sn sc fa fn fc na nn nc) (inc lk j) (wr.setCell (aD w1.heap.size j) (iI (c+1)))):=aH.o.only ax.o ao.o ai;have bd:=ac.o.x.cell;have be:(wr.setCell (aD w1.heap.size j) (iI (c+1))).cell? (aD w1.heap.size j)=some (iI (c+1)):=by
      have:=ao.o.cell (j:=j) (by rw[KP];omega);rw[this];unfold inc;rw[A5,Fm,Ab ⟨rfl,oM⟩,hc]
     have ah:(inc lk j).getD j 0=c+1:=by
      unfold inc;rw[A5,Fm,Ab ⟨rfl,oM⟩,hc]
     have f0:=five ac.o.m;obtain⟨tv,ct,hsl⟩:=aN.o j hj;have hok:=J5 (DO hLs hj) hkd;obtain⟨tb,tw,tc,rfl,bo,bn,_⟩:=hsl.four hok.1;have bf:(wr.setCell (aD w1.heap.size j) (iI (c+1))).cell? (aD sb (so+j*3+2))=some (lD tb tw 4 tc):=(ac.o.b.cell (p:=(aD sb (so+j*3+2))) hsb).trans ct;have aO:Hd (AH L (j:Int)=L[j].2.2):=by show _=_;unfold AH;simp[List.getD,hj]
     by_cases hc0:c=0
     ·have aX:(c+1 == 1)=true:=by simp[hc0]
      have HZ:Hd (stepC L lk j=pagesC (inc lk j) L[j].2.2):=by
       show _=_
       unfold stepC;rw[Aa h0,A5,ah,Ab oM,aO.o]
      have aq:∀e∈L[j].2.2,e=0\/e = -1\/(1<=e/\e<(sn:Int)):=fun e he=>by
       unfold Cm at hT;rw[Ax]at hT;have h1:=hT _ (BS hj);rw[Ax]at h1;have h2:=h1 e he
       by_cases e0:e=0
       ·exact .inl e0
       by_cases e1:e = -1
       ·exact .inr (.inl e1)
       rw[IP e0 e1]at h2;obtain⟨i,rfl,hi,_⟩:=Gz h2;exact .inr (.inr ⟨oM,by have:=HN.o;omega⟩)
      have aa:∀V:World,Bz V w1.heap.size (inc lk j)->Bw w V->Cl 139 #[lZ w1.heap.size sn sn,lD tb tw 4 tc] V fun r w'=>(∃v,r=.returned v)/\Bz w' w1.heap.size (pagesC (inc lk j) L[j].2.2)/\CE w1.heap.size V w':=
       fun V h1 h2=>WK w1.heap.size sn (inc lk j) _ 4 tc L[j].2.2 101 V w (by rw[KP,hlen]) hsn40 hok.1 lE oM h1 (au.inc j) h2 oM hsl aq
      clear hc hc0 h0 hE ap hok hsl aq ct ah au;have aY:prog.follows .mixedOrders=true:=by kernel_rfl
      gi_wp2
      gi_region_with_o (first|(refine⟨trivial,?_⟩;gi_at_call 139;refine(CallsIn.inRound l (D0.2 (aa _ ?_ ?_))).mono ?_;(first|exact ao.o|skip);(first|exact⟨ac.o.b.os,ac.o.b.tape,ac.o.b.output,ac.o.b.size,ac.o.b.block⟩|skip);rintro e w6 ⟨⟨v6,rfl⟩,l6,o6⟩)|(gi_at_call 139;refine(CallsIn.inRound l (D0.2 (aa _ ?_ ?_))).mono ?_;(first|exact ao.o|skip);(first|exact⟨ac.o.b.os,ac.o.b.tape,ac.o.b.output,ac.o.b.size,ac.o.b.block⟩|skip);rintro e w6 ⟨⟨v6,rfl⟩,l6,o6⟩))
      all_goals gi_wp2
      all_goals
       go_roundw
       case rel=>exact⟨k+1,oM,by go_num,by show Bz _ _ _;rw[HS.o,HZ.o];exact l6,aj.trans (ax.o.trans ⟨o6.os,o6.tape,o6.output,o6.size,o6.block⟩)⟩
       case measure=>simp[intOf];omega
     ·have aX:(c+1 == 1)=false:=by simp;omega
      have HZ:Hd (stepC L lk j=inc lk j):=by
       show _=_
       unfold stepC;rw[Aa h0,A5,ah,Aa oM]
      clear hc hc0 h0 hE ap hok hsl ct ah au
      gi_wp2
      go_roundw
      case rel=>exact⟨k+1,oM,by go_num,by show Bz _ _ _;rw[HS.o,HZ.o];exact ao.o,aj.trans ax.o⟩
      case measure=>simp[intOf];omega
   ·have e4:k=xn:=oM;subst e4;have HE:Hd (CI w sn w1.heap.size (cB gm ra rn rc (sD sb so) sn sc fa fn fc na nn nc) (E4 L (ad++[x])) wr):=HI.o.only aj (by
     have:=aw.o;rw[DF (by rw[HR.o];exact Bc _)]at this;rw[YH];exact this) ai
    have HK:Hd (KeepsFrom W0.heap.size W wr/\CV w.heap.size (w1.heap.size+1+1) W wr):=⟨aj.keepsFrom HI.o.l,aj.below oM,aj.block _ oM⟩
    gi_wp2
    exact⟨HK.o.1,HK.o.2,HE.o⟩
end
def AL (m:Ac):List Int:=((BN m).flatMap (fun s=>s.2.2)).foldl (stepC m.s) (List.replicate m.s.length 0)
theorem EK (m:Ac):(AL m).length=m.s.length:=by unfold AL;rw[PN];simp
theorem Bz.sl (h:Bz W g l)(hn:l.length=n)(hm:n<=maxLen):Sl W (lZ g n n) l:=by
 subst hn;exact⟨_,_,rfl,hm,Bc _,fun _=>⟨g,0,rfl,h.lt,fun j hj=>by rw[Eh];exact h.cell hj⟩⟩
theorem Au (h:As m=0):m.p.length<=3/\AD m.s=0/\m.f.length=m.s.length/\Cr m.p=true/\(BN m).all (fun s=>BK s.2.1)=true/\Cm m.s=true/\(BN m).all (fun s=>Bk m.s s.2.1 s.2.2)=true:=by
 unfold As at h
 split at h
 ·simp at h
 rename_i h1
 split at h
 ·rename_i h2;exact absurd h h2
 rename_i h2
 split at h
 ·simp at h
 rename_i h3
 split at h
 ·simp at h
 rename_i h4
 split at h
 ·simp at h
 rename_i h5
 split at h
 ·simp at h
 rename_i h6
 refine⟨oM,by simpa using h2,?_,?_,by simpa using h4,by simpa using h5,by simpa using h6⟩
 ·exact EW fun e=>h3 (.inl e)
 ·cases e:Cr m.p with
  | true=>rfl
  | false=>exact absurd (.inr e) h3
theorem Pq (h:Al w v m)(hE:As m=0):Cl 79 #[v] w fun e w'=>(∃g,w.heap.size<=g/\e=.returned (.tuple #[lZ g m.s.length m.s.length,iI 0])/\Bz w' g (AL m))/\Bw w w':=by
 obtain⟨z1,z2,z3,z4,z5,z6,z7⟩:=Au hE;obtain⟨ra,rc,sa,sc,fa,fc,na,nc,rfl,h1,h2,h3,h4⟩:=h.parts;have hp:=A4 z2;have ab:=h2;obtain⟨sb,so,ad,e,ac,hlt,aa⟩:=h2.open hp.1;simp at e
 obtain⟨rfl,rfl⟩:=e;refine(WQ m.g ra _ rc sb so _ sc fa _ fc na _ nc m.r m.s m.p m.f w h1 ab h3 h4 rfl hp.2 hlt aa hE z2 z1 z6 z5 z7).mono fun e w' hr=>⟨?_,hr.2⟩
 obtain⟨g,hg,e1,e2⟩:=hr.1;exact⟨g,hg,e1,e2⟩
theorem WS (h:Al w v m)(hE:As m=0):Cl 79 #[v] w fun e w'=>(∃lv,e=.returned (.tuple #[lv,iI 0])/\Sl w' lv (AL m))/\Bw w w':=by
 have hp:=A4 (Au hE).2.1;refine(Pq h hE).mono fun e w' hr=>⟨?_,hr.2⟩
 obtain⟨g,_,e1,e2⟩:=hr.1;exact⟨_,e1,Bz.sl e2 (EK m) (by unfold maxLen;omega)⟩
theorem R4 (h:Al w v m)(hE:As m=E)(hne:(E != 0)=true):Cl 79 #[v] w fun r w'=>r=.returned (.tuple #[nl,iI E])/\Bw w w':=by
 have h':=h;obtain⟨ra,rc,sa,sc,fa,fc,na,nc,rfl,_⟩:=h.parts;exact WR m.g ra _ rc sa _ sc fa _ fc na _ nc m E w h' hE hne
theorem XA (ao bo:Option Addr)(n cap cap':Nat)(xs ys:List Int)(w:World)(hn:xs.length=n)(hn':ys.length=n)(hm:n<=9223372036854775807)(hc:∀j,j<n->∃b off,ao=some (aD b off)/\w.cell? (aD b (off+j))=some (iI (xs.getD j 0)))(hd:∀j,j<n->∃b off,bo=some (aD b off)/\w.cell? (aD b (off+j))=some (iI (ys.getD j 0))):Cl 80 #[.slice ao n cap,.slice bo n cap'] w fun r w'=>r=.returned (.bool (xs == ys))/\Bw w w':=by
 have H:Hd (xs.length=n/\ys.length=n):=⟨hn,hn'⟩;have HC:Hd (∀j,j<n->∃b off,ao=some (aD b off)/\w.cell? (aD b (off+j))=some (iI (xs.getD j 0))):=hc;have HD:Hd (∀j,j<n->∃b off,bo=some (aD b off)/\w.cell? (aD b (off+j))=some (iI (ys.getD j 0))):=hd;clear hn hn' hc hd
 go_enter func80,ntmps80
 go_wp2
 go_loopw [5,13] (fun _ i wr=>∃k:Nat,k<=n/\i=iI k/\Hd (∀j,j<k->xs.getD j 0=ys.getD j 0)/\(Bw w wr/\∀a,wr.cell? a=w.cell? a)) (fun _ i _=>n-(intOf i).toNat)
 case atStart=>exact⟨0,A7 _,rfl,fun j hj=>absurd hj oM,AG _ _,fun _=>rfl⟩
 case round=>
  obtain⟨k,hk,rfl,HA,aa,ab⟩:=hrel
  by_cases hlk:k<n
  ·obtain⟨b,off,rfl,c1⟩:=HC.o k hlk;obtain⟨b',ad,rfl,c2⟩:=HD.o k hlk;have ae:(k:Int)<(n:Int):=oM;obtain⟨x,hx⟩:=nM (xs.getD k 0);obtain⟨y,hy⟩:=nM (ys.getD k 0);rw[hx]at c1;rw[hy]at c2;have c1:wr.cell? (aD b (off+k))=some (iI x):=(ab _).trans c1;have c2:wr.cell? (aD b' (ad+k))=some (iI y):=(ab _).trans c2;have HX:Hd (xs.getD k 0=x/\ys.getD k 0=y):=⟨hx,hy⟩;clear hx hy
   by_cases hxy:x=y
   ·have hb:(x != y)=false:=by simp[hxy]
    have ac:Hd (x=y):=hxy;clear hxy
    go_wp2
    go_region
    go_wp2
    go_roundw
    case rel=>exact⟨k+1,oM,by go_num,fun j hj=>by
     by_cases e:j=k
     ·subst e;rw[HX.o.1,HX.o.2,ac.o]
     ·exact HA.o j oM,⟨aa.os,aa.tape,aa.output,aa.size,aa.block⟩,fun a=>ab a⟩
    case measure=>simp[intOf];omega
   ·have hb:(x != y)=true:=by simp[hxy]
    have ac:Hd (x≠y):=hxy;clear hxy
    go_wp2
    go_region
    go_wp2
    go_ret;refine⟨D8 ?_,⟨aa.os,aa.tape,aa.output,aa.size,aa.block⟩⟩
    symm
    rw[FA];intro e;exact ac.o (by rw[<-HX.o.1,<-HX.o.2,e])
  ·have e4:k=n:=oM;subst e4
   go_wp2
   go_ret;refine⟨D8 ?_,aa⟩
   symm
   rw[DH]
   apply EX
   ·rw[H.o.1,H.o.2]
   ·intro j h1 h2;have:=HA.o j (by rw[H.o.1]at h1;exact h1)
    simpa[List.getD,h1,h2] using this

def EO (m:Ac) (i:Nat):Bool:=((m.s.getD i default).1 == 0) == ((AL m).getD i 0 == 0)
def Ao (m:Ac):Int:=if As m≠0 then As m else if AL m≠m.f then 9 else if (List.range m.s.length).all (EO m)=true then 0 else 9
theorem jf (gm:Int)(ra:Option Addr)(rn rc:Nat)(sa:Option Addr)(sn sc:Nat)(fa:Option Addr)(fn fc:Nat)(na:Option Addr)(nn nc:Nat)(m:Ac)(E:Int)(w:World)(h:Al w (.agg (bI gm ra rn rc sa sn sc fa fn fc na nn nc)) m)(hE:As m=E)(hne:(E != 0)=true):Cl 38 #[.agg (bI gm ra rn rc sa sn sc fa fn fc na nn nc)] w fun r w'=>r=.returned (iI E)/\Bw w w':=by
 have b0:Bw w (w.alloc (cB gm ra rn rc sa sn sc fa fn fc na nn nc)):=Av;have aa:=R4 (h.below b0) hE hne;clear h hE
 go_enter func38,ntmps38
 go_wp2_with(go_at_call 79;refine aa.mono ?_;rintro e w1 ⟨rfl,b1⟩);go_ret;exact⟨rfl,Below.on b0 b1⟩
theorem Nk {u:Value}{xs ys:List Int}(h:Sl w u xs)(k:Sl w v ys)(hl:xs.length=ys.length)(hB:(xs == ys)=B):Cl 80 #[u,v] w fun r w'=>r=.returned (.bool B)/\Bw w w':=by
 subst hB;obtain⟨ao,cap,rfl⟩:=h.form;obtain⟨bo,cap',rfl⟩:=k.form;obtain⟨_,hm,_,hc⟩:=h.cells;obtain⟨_,_,_,hd⟩:=k.cells;rw[<-hl]at hd ⊢;refine XA ao bo _ cap cap' xs ys w rfl hl.symm hm (fun j hj=>?_) (fun j hj=>?_)
 ·obtain⟨b,off,e,_,c⟩:=hc j hj;exact⟨b,off,e,c⟩
 ·obtain⟨b,off,e,_,c⟩:=hd j hj;exact⟨b,off,e,c⟩
theorem je (gm:Int)(ra:Option Addr)(rn rc:Nat)(sb so:Nat)(sn sc:Nat)(fa:Option Addr)(fn fc:Nat)(na:Option Addr)(nn nc:Nat)(m:Ac)(E:Int)(w:World)(h:Al w (.agg (bI gm ra rn rc (sD sb so) sn sc fa fn fc na nn nc)) m)(hf:Sl w (.slice fa fn fc) m.f)(hsn:m.s.length=sn)(hsb:sb<w.heap.size)(h40:sn<=40)(hcl:∀j,(h:j<m.s.length)->B7 w sb (so+j*3) m.s[j])(hE:As m=0)(hc:Ao m=E):Cl 38 #[.agg (bI gm ra rn rc (sD sb so) sn sc fa fn fc na nn nc)] w fun r w'=>r=.returned (iI E)/\Bw w w':=by
 have b0:Bw w (w.alloc (cB gm ra rn rc (sD sb so) sn sc fa fn fc na nn nc)):=Av;have m0:(w.alloc (cB gm ra rn rc (sD sb so) sn sc fa fn fc na nn nc)).heap[w.heap.size]?=some (cB gm ra rn rc (sD sb so) sn sc fa fn fc na nn nc):=Aw _ _;have ac:=WS (h.below b0) hE;have hz:=(Au hE).2.2.1;have am:Hd ((AL m).length=m.f.length):=by show _=_;rw[EK,hz]
 have HN:Hd (m.s.length=sn):=hsn;have an:Hd (∀j,(h:j<m.s.length)->B7 w sb (so+j*3) m.s[j]):=hcl;have HE:Hd (Ao m=if AL m≠m.f then 9 else if (List.range m.s.length).all (EO m)=true then 0 else 9):=by
  show _=_
  unfold Ao;rw[Aa (by simpa using hE)]
 have Hc:Hd (Ao m=E):=hc;clear h hE hz hsn hcl hc
 cases hq:AL m == m.f with
 | false=>
  have H9:Hd (E=9):=by
   show _=_
   rw[<-Hc.o,HE.o,Ab (by simpa using hq)]
  go_enter func38,ntmps38
  go_wp2_with fail;refine ac.mono ?_;rintro e w1 ⟨⟨lv,rfl,ae⟩,b1⟩;have m1:=Ag m0 b1 (by simp);have c0:=five m1;have ag:=hf.below (Below.on b0 b1);have ab:=Nk ae ag am.o hq;obtain⟨la,lc,rfl⟩:=ae.form;clear ac ae ag;go_wp2_with fail;refine ab.mono ?_;rintro e w2 ⟨rfl,b2⟩;go_wp2_with fail;go_ret;exact⟨by rw[H9.o];rfl,Below.on' b0 b1 b2⟩
 | true=>
  have H9:Hd (E=if (List.range m.s.length).all (EO m)=true then 0 else 9):=by
   show _=_
   rw[<-Hc.o,HE.o,Aa (by simpa using hq)]
  go_enter func38,ntmps38
  go_wp2_with fail;refine ac.mono ?_;rintro e w1 ⟨⟨lv,rfl,ae⟩,b1⟩;have m1:=Ag m0 b1 (by simp);have c0:=five m1;have ag:=hf.below (Below.on b0 b1);have ab:=Nk ae ag am.o hq;obtain⟨la,lc,rfl⟩:=ae.form;clear ac ag;go_wp2_with fail;refine ab.mono ?_;rintro e w2 ⟨rfl,b2⟩;have m2:=Ag m1 b2 (AA m1);have d0:=five m2;have ah:=ae.below b2;have ai:=Below.on' b0 b1 b2;obtain⟨_,ao,_,af⟩:=ah.cells;have al:Hd (∀j,j<(AL m).length->∃b off,la=some (aD b off)/\b<w2.heap.size/\w2.cell? (aD b (off+j))=some (iI ((AL m).getD j 0))):=af;have ak:(AL m).length=sn:=by rw[EK,HN.o]
  have ap:Hd ((AL m).length=sn):=ak;rw[ak]at al ⊢;clear ab ae ah af c0 ak ao hf;go_wp2_with fail
  go_loopw [5,6,23] (fun _ _ i wr=>∃k:Nat,k<=sn/\i=iI k/\Hd (∀j,j<k->EO m j=true)/\Bw w2 wr) (fun _ _ i _=>sn-(intOf i).toNat)
  case atStart=>exact⟨0,A7 _,rfl,fun j hj=>absurd hj oM,AG _ _⟩
  case round=>
   obtain⟨k,hk,rfl,HA,ad⟩:=hrel
   by_cases hlk:k<sn
   ·have aq:(k:Int)<(sn:Int):=oM;have hkm:k<m.s.length:=by rw[HN.o];exact hlk
    obtain⟨lb,lo,rfl,hlb,af⟩:=al.o k hlk;obtain⟨s,hs⟩:∃s,s=m.s[k]'hkm:=⟨_,rfl⟩;obtain⟨kk,dd,tt⟩:=s;have hS:B7 w sb (so+k*3) (kk,dd,tt):=by rw[hs];exact an.o k _
    obtain⟨tv,e1,e2,e3,hsl⟩:=hS;obtain⟨ta,tc,rfl⟩:=hsl.form;have aj:=Below.on ai ad;obtain⟨c,hc⟩:=nM ((AL m).getD k 0);rw[hc]at af;have e1:wr.cell? (aD sb (so+k*3))=some (iI kk):=(aj.cell (p:=(aD sb (so+k*3))) hsb).trans e1;have e2:wr.cell? (aD sb (so+k*3+1))=some (.string dd):=(aj.cell (p:=(aD sb (so+k*3+1))) hsb).trans e2;have e3:wr.cell? (aD sb (so+k*3+1+1))=some (.slice ta tt.length tc):=(aj.cell (p:=(aD sb (so+k*3+1+1))) hsb).trans e3;have el:(wr.alloc (oS kk dd ta tt.length tc)).cell? (aD lb (lo+k))=some (iI c):=((ad.alloc ad.size _).cell (p:=(aD lb (lo+k))) hlb).trans af;have HF:Hd (EO m k=((kk == 0) == (c == 0))):=by
     show _=_
     unfold EO;rw[hc];simp[List.getD,hkm,<-hs]
    have aa:Bw w2 (wr.alloc (oS kk dd ta tt.length tc)):=ad.alloc ad.size _;clear hs af hc hsl
    cases hx:kk == 0 with
    | true=>
     cases hy:c == 0 with
     | true=>
      go_wp2_with fail
      go_region
      go_wp2_with fail;go_roundw
      case rel=>exact⟨k+1,oM,by go_num,fun j hj=>by
       by_cases e:j=k
       ·subst e;rw[HF.o,hx,hy];rfl
       ·exact HA.o j oM,⟨aa.os,aa.tape,aa.output,aa.size,aa.block⟩⟩
      case measure=>simp[intOf];omega
     | false=>
      have HB:Hd (E=9):=by
       show _=_
       rw[H9.o,Aa];intro e;rw[Ax]at e;have:=e k (by simpa using hkm);rw[HF.o,hx,hy]at this
       cases this
      go_wp2_with fail
      go_region
      go_wp2_with fail;go_ret;exact⟨Cj HB.o.symm,Below.on ai ⟨aa.os,aa.tape,aa.output,aa.size,aa.block⟩⟩
    | false=>
     cases hy:c == 0 with
     | true=>
      have HB:Hd (E=9):=by
       show _=_
       rw[H9.o,Aa];intro e;rw[Ax]at e;have:=e k (by simpa using hkm);rw[HF.o,hx,hy]at this
       cases this
      go_wp2_with fail
      go_region
      go_wp2_with fail;go_ret;exact⟨Cj HB.o.symm,Below.on ai ⟨aa.os,aa.tape,aa.output,aa.size,aa.block⟩⟩
     | false=>
      go_wp2_with fail
      go_region
      go_wp2_with fail;go_roundw
      case rel=>exact⟨k+1,oM,by go_num,fun j hj=>by
       by_cases e:j=k
       ·subst e;rw[HF.o,hx,hy];rfl
       ·exact HA.o j oM,⟨aa.os,aa.tape,aa.output,aa.size,aa.block⟩⟩
      case measure=>simp[intOf];omega
   ·have e4:k=sn:=oM;subst e4;go_wp2_with fail;go_ret;refine⟨Cj ?_,Below.on ai ad⟩;rw[H9.o,Ab];rw[Ax];intro j hj;exact HA.o j (by rw[<-HN.o];simpa using hj)
theorem EU (h:Al w v m)(hE:Ao m=E):Cl 38 #[v] w fun r w'=>r=.returned (iI E)/\Bw w w':=by
 have h':=h;obtain⟨ra,rc,sa,sc,fa,fc,na,nc,rfl,h1,h2,h3,h4⟩:=h.parts
 by_cases h0:As m=0
 ·have z2:=(Au h0).2.1;have hp:=A4 z2;obtain⟨sb,so,ac,e,ab,hlt,aa⟩:=h2.open hp.1;simp at e
  obtain⟨rfl,rfl⟩:=e;exact je m.g ra _ rc sb so _ sc fa _ fc na _ nc m E w h' h3 rfl hlt hp.2 aa h0 hE
 ·have e:As m=E:=by rw[<-hE];unfold Ao;rw[Ab h0]
  exact jf m.g ra _ rc sa _ sc fa _ fc na _ nc m E w h' e (by rw[<-e];simpa using h0)

theorem Oo (g:Int)(w:World)(h:0<=g/\g<=16):Cl 24 #[iI g] w fun r w'=>r=.returned (iI ((g+3)/4))/\w'=w:=by
 obtain⟨k,rfl⟩:∃k:Nat,g=k:=⟨g.toNat,oM⟩;have hk:k<=16:=oM;clear h
 go_enter func24,ntmps24
 go_wp2
 go_ret;exact⟨Cj oM,rfl⟩
theorem ji (ao:Option Addr)(n cap:Nat)(xs:List Int)(y:Int)(w:World)(hn:xs.length=n)(hm:n<=1000000)(hc:∀j,j<n->∃b off,ao=some (aD b off)/\b<w.heap.size/\w.cell? (aD b (off+j))=some (iI (xs.getD j 0))):Cl 176 #[.slice ao n cap,iI y] w fun r w'=>r=.returned (iI (xs.count y))/\w'=w:=by
 have HN:Hd (xs.length=n):=hn;have HC:Hd (∀j,j<n->∃b off,ao=some (aD b off)/\b<w.heap.size/\w.cell? (aD b (off+j))=some (iI (xs.getD j 0))):=hc;clear hn hc
 go_enter func176,ntmps176
 go_wp2
 go_loopw [5,6] (fun c i wr=>∃k u:Nat,k<=n/\u<=k/\i=iI k/\c=iI u/\Hd (u=(xs.take k).count y)/\wr=w) (fun _ i _=>n-(intOf i).toNat)
 case atStart=>exact⟨0,0,A7 _,A7 _,rfl,rfl,by show _=_;simp,rfl⟩
 case round=>
  obtain⟨k,u,hk,hu,rfl,rfl,HU,hw⟩:=hrel;subst hw
  by_cases hlk:k<n
  ·obtain⟨b,off,rfl,hlt,aa⟩:=HC.o k hlk;have ac:(k:Int)<(n:Int):=oM;have ab:k<xs.length:=by rw[HN.o];exact hlk
   obtain⟨x,hx⟩:=nM (xs.getD k 0);rw[hx]at aa;have HT:Hd ((xs.take (k+1)).count y=(xs.take k).count y+if x == y then 1 else 0):=by
    show _=_
    have e:xs[k]=x:=by rw[<-hx];simp[List.getD,ab]
    rw[LA,Co ab,OZ,IY,e,OG]
   clear hx ab
   cases hxy:x == y with
   | true=>
    go_wp2
    go_roundw
    case rel=>exact⟨k+1,u+1,oM,oM,by go_num,by go_num,by show _=_;rw[HT.o,hxy,<-HU.o];rfl,trivial⟩
    case measure=>simp[intOf];omega
   | false=>
    go_wp2
    go_roundw
    case rel=>exact⟨k+1,u,oM,oM,by go_num,rfl,by show _=_;rw[HT.o,hxy,<-HU.o];rfl,trivial⟩
    case measure=>simp[intOf];omega
  ·have e4:k=n:=oM;subst e4;have HE:Hd (u=xs.count y):=by show _=_;rw[HU.o,DF (by rw[HN.o];exact Bc _)]
   go_wp2
   go_ret;exact⟨Cj (by rw[HE.o]),rfl⟩
theorem Q9 {xs:List Int}(h:Sl w v xs)(hm:xs.length<=1000000)(y:Int)(hc:(xs.count y:Int)=c):Cl 176 #[v,iI y] w fun r w'=>r=.returned (iI c)/\w'=w:=by
 subst hc;obtain⟨ao,cap,rfl⟩:=h.form;obtain⟨_,_,_,hc⟩:=h.cells;exact ji ao _ cap xs y w rfl hm hc

def G2 (L:List An) (n:Int):Int:=if 1<=n/\n<L.length then (L.getD n.toNat default).1 else -1
theorem Zr (gm:Int)(ra:Option Addr)(rn rc:Nat)(sa:Option Addr)(sn sc:Nat)(fa:Option Addr)(fn fc:Nat)(na:Option Addr)(nn nc:Nat)(n:Int)(w:World)(hsn:sn<=1000000)(hd:decide (1<=n/\n<=(sn:Int)-1)=false):Cl 174 #[.agg (bI gm ra rn rc sa sn sc fa fn fc na nn nc),iI n] w fun r w'=>r=.returned (iI (-1))/\Bw w w':=by
 have b0:Bw w (w.alloc (cB gm ra rn rc sa sn sc fa fn fc na nn nc)):=Av;have HD:Hd (decide (1<=n/\n<=(sn:Int)-1)=false):=hd;clear hd
 go_enter func174,ntmps174
 go_wp2_with(go_at_call 65;refine(Dy _ _ _ _).mono ?_;rintro e w' ⟨rfl,hw⟩;subst hw;rw[HD.o]);go_ret;exact⟨rfl,b0⟩
theorem Zq (gm:Int)(ra:Option Addr)(rn rc:Nat)(sb so:Nat)(sn sc:Nat)(fa:Option Addr)(fn fc:Nat)(na:Option Addr)(nn nc:Nat)(n:Nat)(k:Int)(w:World)(hsn:sn<=1000000)(hd:decide ((1:Int)<=(n:Int)/\(n:Int)<=(sn:Int)-1)=true)(hn:n<sn)(hsb:sb<w.heap.size)(hc:w.cell? (aD sb (so+n*3))=some (iI k)):Cl 174 #[.agg (bI gm ra rn rc (sD sb so) sn sc fa fn fc na nn nc),iI n] w fun r w'=>r=.returned (iI k)/\Bw w w':=by
 have b0:Bw w (w.alloc (cB gm ra rn rc (sD sb so) sn sc fa fn fc na nn nc)):=Av;have hc1:=(b0.cell (p:=(aD sb (so+n*3))) hsb).trans hc;have HD:Hd (decide ((1:Int)<=(n:Int)/\(n:Int)<=(sn:Int)-1)=true):=hd;have aa:(n:Int)<(sn:Int):=oM;clear hd
 go_enter func174,ntmps174
 go_wp2_with(go_at_call 65;refine(Dy _ _ _ _).mono ?_;rintro e w' ⟨rfl,hw⟩;subst hw;rw[HD.o]);go_ret;exact⟨rfl,b0⟩
theorem SX (h:Al w v m)(hL:m.s.length<=1000000)(n:Int)(hk:G2 m.s n=k):Cl 174 #[v,iI n] w fun r w'=>r=.returned (iI k)/\Bw w w':=by
 obtain⟨ra,rc,sa,sc,fa,fc,na,nc,rfl,h1,h2,h3,h4⟩:=h.parts;unfold G2 at hk
 by_cases hn:1<=n/\n<m.s.length
 ·rw[Ab hn]at hk;obtain⟨j,rfl⟩:∃j:Nat,n=j:=⟨n.toNat,oM⟩;have hj:j<m.s.length:=oM;obtain⟨sb,so,ac,e,_,ab,aa⟩:=h2.open oM;simp at e
  obtain⟨rfl,rfl⟩:=e;obtain⟨tv,c1,_⟩:=aa j hj;have e:m.s.getD j default=m.s[j]:=by simp[List.getD,hj]
  rw[A5,e]at hk;rw[hk]at c1;exact Zq m.g ra _ rc sb so _ sc fa _ fc na _ nc j k w hL (C3 oM) hj ab c1
 ·rw[Aa hn]at hk;subst hk;exact Zr m.g ra _ rc sa _ sc fa _ fc na _ nc n w hL (Dn oM)
theorem Zh (s:ByteArray)(w:World):Cl 124 #[.string s] w fun r w'=>r=.returned (.bool (BG s))/\w'=w:=by
 by_cases hs:1<=s.size/\s.size<=8
 ·have HS:Hd (BG s=s.data.toList.all Dw):=by
   show _=_
   unfold BG;rw[C3 hs];rfl
  have HD:Hd (decide ((1:Int)<=(s.size:Int)/\(s.size:Int)<=8)=true):=C3 oM;have h8:=hs.2;clear hs
  go_enter func124,ntmps124
  go_wp2_with(go_at_call 65;refine(Dy _ _ _ _).mono ?_;rintro e w' ⟨rfl,hw⟩;subst hw;rw[HD.o])
  go_loop [3] (fun i=>∃k:Nat,k<=s.size/\i=iI k/\Hd (∀j,(h:j<s.size)->j<k->Dw s[j]=true)) (fun i=>s.size-(intOf i).toNat)
  case atStart=>exact⟨0,A7 _,rfl,fun j h hj=>absurd hj oM⟩
  case round=>
   obtain⟨k,hk,rfl,HA⟩:=hrel
   by_cases hlk:k<s.size
   ·have ac:(k:Int)<(s.size:Int):=oM
    by_cases h1:(s[k]'hlk).toNat<97
    ·have HB:Hd (Dw s[k]=false):=by show _=_;unfold Dw;exact Dn oM
     have aa:((s[k]'hlk).toNat:Int)<97:=oM
     go_wp2
     go_ret;exact⟨D8 (by rw[HS.o,P7 hlk HB.o]),rfl⟩
    by_cases h2:122<(s[k]'hlk).toNat
    ·have HB:Hd (Dw s[k]=false):=by show _=_;unfold Dw;exact Dn oM
     have ab:(122:Int)<((s[k]'hlk).toNat:Int):=oM;have aa:¬((s[k]'hlk).toNat:Int)<97:=oM
     go_wp2
     go_ret;exact⟨D8 (by rw[HS.o,P7 hlk HB.o]),rfl⟩
    ·have HG:Hd (Dw s[k]=true):=by show _=_;unfold Dw;exact C3 oM
     have ab:¬(122:Int)<((s[k]'hlk).toNat:Int):=oM;have aa:¬((s[k]'hlk).toNat:Int)<97:=oM
     go_wp2
     go_round
     case rel=>exact⟨k+1,oM,by go_num,fun j h hj=>by
      by_cases e:j=k
      ·subst e;exact HG.o
      ·exact HA.o j h oM⟩
     case measure=>simp[intOf];omega
   ·have e4:k=s.size:=oM;subst e4
    go_wp2
    go_ret;exact⟨D8 (by rw[HS.o,Td (fun j hj=>HA.o j hj hj)]),rfl⟩
 ·have HS:Hd (BG s=false):=by
   show _=_
   unfold BG;rw[Dn hs];rfl
  have HD:Hd (decide ((1:Int)<=(s.size:Int)/\(s.size:Int)<=8)=false):=Dn oM;clear hs
  go_enter func124,ntmps124
  go_wp2_with(go_at_call 65;refine(Dy _ _ _ _).mono ?_;rintro e w' ⟨rfl,hw⟩;subst hw;rw[HD.o]);go_ret;exact⟨by rw[HS.o];rfl,rfl⟩

def kd (L:List An) (k:Nat):Int:=(L.getD k default).1
def Cn (L:List An) (P:List Int) (i:Int) (k:Nat):Nat:=if kd L k=2/\(k:Int)∈P then (AH L k).count i else 0
def Db (L:List An) (P:List Int) (i:Int):Nat:=((List.range L.length).map (Cn L P i)).sum
def C5 (L:List An) (P:List Int) (i:Nat):Int:=if i=0 then 0 else ((P.count (i:Int)+Db L P i:Nat):Int)
theorem U7 {f g:Nat->Nat}{k d:Nat}:∀n,k<n->g k=f k+d->(∀j,j≠k->g j=f j)->((List.range n).map g).sum=((List.range n).map f).sum+d
 | 0,h,_,_=>absurd h oM
 | n+1,h,hk,ho=>by
  rw[DD,DQ,DQ,JE,JE]
  by_cases e:k=n
  ·subst e;have:(List.range k).map g=(List.range k).map f:=Ef fun j hj=>ho j (by have:=CR.1 hj;omega)
   rw[this];simp[hk];omega
  ·rw[U7 n oM hk ho];simp[ho n (fun x=>e x.symm)];omega
theorem Mq {f g:Nat->Nat}(n:Nat)(h:∀j,j<n->g j=f j):((List.range n).map g).sum=((List.range n).map f).sum:=by
 rw[Ef fun j hj=>h j (CR.1 hj)]
theorem LW (l:List Int)(k:Int)(j:Nat)(hj:j<l.length):(inc l k).getD j 0=l.getD j 0+if k.toNat=j then 1 else 0:=by
 unfold inc;rw[Fm]
 by_cases e:k.toNat=j
 ·subst e;rw[Ab ⟨rfl,hj⟩,Ab rfl]
 ·rw[Aa (fun h=>e h.1),Aa e];simp
theorem TW (i:Nat)(hi:1<=i):∀ (t l:List Int),i<l.length->(∀e∈t,e=0\/e = -1\/1<=e)->(pagesC l t).getD i 0=l.getD i 0+(t.count (i:Int):Nat)
 | [],l,_,_=>by simp[pagesC]
 | e::t,l,hl,ht=>by
  have:pagesC l (e::t)=pagesC (incE l e) t:=rfl;rw[this,TW i hi t (incE l e) (by rw[SM];exact hl) (fun x hx=>ht x (CA _ hx)),MH];unfold incE;rcases ht e CD with h|h|h
  ·rw[Ab (.inl h),Aa (by simp;omega)];omega
  ·rw[Ab (.inr h),Aa (by simp;omega)];omega
  ·rw[Aa oM,LW l e i hl]
   by_cases g:e=i
   ·rw[Ab oM,Ab (by simpa using g)];omega
   ·rw[Aa oM,Aa (by simpa using g)];omega
theorem TX:∀ (t l:List Int),(∀e∈t,e=0\/e = -1\/1<=e)->(pagesC l t).getD 0 0=l.getD 0 0
 | [],l,_=>by simp[pagesC]
 | e::t,l,ht=>by
  have:pagesC l (e::t)=pagesC (incE l e) t:=rfl;rw[this,TX t (incE l e) (fun x hx=>ht x (CA _ hx))];unfold incE;rcases ht e CD with h|h|h
  ·rw[Ab (.inl h)]
  ·rw[Ab (.inr h)]
  ·rw[Aa oM];unfold inc;rw[Fm,Aa oM]
theorem DX (h:AD L=0):kd L 0=0:=by
 have hp:=A4 h;unfold AD at h;rw[Ab hp]at h
 split at h
 ·rename_i g
  have:=g.2
  cases L with
  | nil=>simp at hp
  | cons a t=>simpa[kd] using this
 ·simp at h
theorem Jr (h:BZ L k=true):k=0\/∃j:Nat,k=j/\j<L.length/\kd L j=2:=by
 by_cases e:k=0
 ·exact .inl e
 ·rw[E9 e]at h;obtain⟨j,rfl,hj,hk⟩:=Gz h;exact .inr ⟨j,rfl,hj,by unfold kd;simp[List.getD,hj,hk]⟩
theorem Ms (h:tabE L k=true):k=0\/k = -1\/∃j:Nat,k=j/\j<L.length/\kd L j=1:=by
 by_cases e:k=0
 ·exact .inl e
 by_cases e1:k = -1
 ·exact .inr (.inl e1)
 ·rw[IP e e1]at h;obtain⟨j,rfl,hj,hk⟩:=Gz h;exact .inr (.inr ⟨j,rfl,hj,by unfold kd;simp[List.getD,hj,hk]⟩)
theorem Oi (h:Cm L=true)(k:Int):(AH L k).all (tabE L)=true:=by
 unfold AH
 by_cases hk:k.toNat<L.length
 ·unfold Cm at h;rw[Ax]at h;have:=h _ (BS hk)
  simpa[List.getD,hk] using this
 ·have:L.getD k.toNat default=default:=by simp[List.getD,hk]
  rw[this];rfl
theorem Mt (h:Cm L=true)(k:Int)(he:e∈AH L k):e=0\/e = -1\/∃j:Nat,e=j/\j<L.length/\kd L j=1:=
 Ms (Ax.1 (Oi h k) e he)
theorem Vb (hs:AD L=0)(h:Cm L=true)(k:Int):∀e∈AH L k,e=0\/e = -1\/1<=e:=fun e he=>by
 rcases Mt h k he with h|h|⟨j,rfl,_,h1⟩
 ·exact .inl h
 ·exact .inr (.inl h)
 ·refine .inr (.inr ?_);rcases Eg j with e|e
  ·subst e;rw[DX hs]at h1;simp at h1
  ·omega
theorem iR (h:Cm L=true)(k:Int)(hi:1<=i)(hk:kd L i≠1):(AH L k).count (i:Int)=0:=by
 rw[Kf];intro he;rcases Mt h k he with h|h|⟨j,e,_,h1⟩
 ·omega
 ·omega
 ·have:i=j:=oM;subst this;exact hk h1
theorem Mp (h:Cm L=true)(P:List Int)(hi:1<=i)(hk:kd L i≠1):Db L P i=0:=by
 unfold Db;have:(List.range L.length).map (Cn L P i)=(List.range L.length).map (fun _=>0):=Ef fun j _=>by
  unfold Cn
  split
  ·exact iR h j hi hk
  ·rfl
 rw[this]
 generalize L.length=n
 induction n with
 | zero=>rfl
 | succ n ih=>rw[DD,DQ,JE,ih];rfl
theorem fX (h:∀k∈P,BZ L k=true)(hi:1<=i)(hk:kd L i≠2):P.count (i:Int)=0:=by
 rw[Kf];intro he;rcases Jr (h _ he) with h|⟨j,e,_,h1⟩
 ·omega
 ·have:i=j:=oM;subst this;exact hk h1
theorem WC (hs:AD L=0)(ht:Cm L=true)(hk:BZ L k=true)(hl:l.length=L.length)(h:∀i,i<L.length->l.getD i 0=C5 L P i):∀i,i<L.length->(stepC L l k).getD i 0=C5 L (P++[k]) i:=by
 intro i hi;unfold stepC;rcases Jr hk with rfl|⟨j,rfl,hj,aa⟩
 ·rw[Ab rfl,h i hi];unfold C5
  by_cases i0:i=0
  ·rw[Ab i0,Ab i0]
  rw[Aa i0,Aa i0];have e1:Db L (P++[0]) i=Db L P i:=Mq _ fun q _=>by
   unfold Cn
   by_cases q0:q=0
   ·subst q0;rw[Aa (by rw[DX hs];simp),Aa (by rw[DX hs];simp)]
   ·have:((q:Int)∈P++[0])↔(q:Int)∈P:=by simp;omega
    simp only[this]
  rw[e1,IY];have:List.count (i:Int) [0]=0:=by rw[Kf];simp;omega
  rw[this];simp
 ·have j0:j≠0:=fun e=>by subst e;rw[DX hs]at aa;simp at aa
  rw[Aa oM];have ab:(inc l (j:Int)).getD (j:Int).toNat 0=((P.count (j:Int):Nat):Int)+1:=by
   rw[A5,LW l j j oM,h j hj,Ab (by simp)];unfold C5;rw[Aa j0,Mp ht P oM (by rw[aa];decide)];omega
  rw[ab]
  by_cases hP:(j:Int)∈P
  ·have:0<P.count (j:Int):=Fy.2 hP;rw[Aa oM,LW l j i oM,h i hi];unfold C5
   by_cases i0:i=0
   ·subst i0;rw[Ab rfl,Ab rfl,Aa (by simp;omega)];rfl
   rw[Aa i0,Aa i0];have e1:Db L (P++[(j:Int)]) i=Db L P i:=Mq _ fun q _=>by
    unfold Cn;have:((q:Int)∈P++[(j:Int)])↔(q:Int)∈P:=by
     simp only[GR,JD];exact⟨fun x=>x.elim id (fun e=>e ▸ hP),.inl⟩
    simp only[this]
   rw[e1,IY,OG]
   by_cases e:j=i
   ·subst e;simp;omega
   ·rw[Aa (by simp;omega),Aa (by simp;omega)];simp
  ·have c0:P.count (j:Int)=0:=Kf.2 hP;rw[Ab oM];unfold C5
   by_cases i0:i=0
   ·subst i0;rw[Ab rfl,TX _ _ (Vb hs ht j),LW l j 0 oM,h 0 hi,Aa (by simp;omega)];rfl
   rw[Aa i0,TW i oM _ _ (by rw[KP,hl];exact hi) (Vb hs ht j),LW l j i oM,h i hi];unfold C5;rw[Aa i0];have e1:Db L (P++[(j:Int)]) i=Db L P i+(AH L j).count (i:Int):=by
    unfold Db;refine U7 (k:=j) _ hj ?_ ?_
    ·unfold Cn;rw[Ab ⟨aa,by simp⟩,Aa (fun x=>hP x.2)];omega
    ·intro q hq;unfold Cn;have:((q:Int)∈P++[(j:Int)])↔(q:Int)∈P:=by
      simp only[GR,JD];exact⟨fun x=>x.elim id (fun e=>absurd oM hq),.inl⟩
     simp only[this]
   rw[e1,IY,OG]
   by_cases e:j=i
   ·subst e;simp;omega
   ·rw[Aa (by simp;omega),Aa (by simp;omega)];omega
theorem RZ {L:List An}(hs:AD L=0)(ht:Cm L=true):∀ (Q P l:List Int),(∀k∈Q,BZ L k=true)->l.length=L.length->(∀i,i<L.length->l.getD i 0=C5 L P i)->
  ∀i,i<L.length->(Q.foldl (stepC L) l).getD i 0=C5 L (P++Q) i
 | [],P,l,_,_,h,i,hi=>by simpa using h i hi
 | k::Q,P,l,hQ,hl,h,i,hi=>by
  have:=RZ hs ht Q (P++[k]) (stepC L l k) (fun x hx=>hQ x (CA _ hx)) (by rw[U4,hl]) (WC hs ht (hQ k CD) hl h) i hi;rw[List.foldl_cons,this,Ip];rfl
def AV (m:Ac):List Int:=(BN m).flatMap (fun s=>s.2.2)
theorem PL (h:As m=0):∀k∈AV m,BZ m.s k=true:=by
 intro k hk;obtain⟨z1,z2,z3,z4,z5,z6,z7⟩:=Au h;unfold AV at hk;rw[I3]at hk;obtain⟨s,hs,aa⟩:=hk;have:=Ax.1 z7 s hs;unfold Bk at this;simp only[B5]at this;exact Ax.1 this.2.1 k aa
theorem E3 (h:As m=0)(i:Nat)(hi:i<m.s.length):(AL m).getD i 0=C5 m.s (AV m) i:=by
 obtain⟨z1,z2,z3,z4,z5,z6,z7⟩:=Au h;have:=RZ z2 z6 (AV m) [] (List.replicate m.s.length 0) (PL h) (by simp) (fun i hi=>?_) i hi
 ·simpa[AL,AV] using this
 ·have e:(List.replicate m.s.length (0:Int)).getD i 0=0:=by simp[List.getD,hi]
  rw[e];unfold C5
  split
  ·rfl
  ·have:Db m.s [] i=0:=by
    have e:Db m.s [] i=((List.range m.s.length).map (fun _=>0)).sum:=Mq _ fun q _=>by unfold Cn;rw[Aa (by simp)]
    rw[e]
    generalize m.s.length=n
    induction n with
    | zero=>rfl
    | succ n ih=>rw[DD,DQ,JE,ih];rfl
   rw[this];rfl

theorem KU {kind:Int}(h:k≠0)(hk:0<=kind):(G2 L k == kind)=C6 L k kind:=by
 unfold G2 C6
 by_cases h1:1<=k/\k<L.length
 ·rw[Ab h1,C3 oM];rfl
 ·rw[Aa h1,Dn oM];simp;omega
def Gu (L:List An) (g:Int) (r:List Int) (k:Nat):Bool:=
 r.getD k 0 == 0 || (G2 L (r.getD k 0) == 2 && (List.range 4).all (fun i=>decide (((k*4+i:Nat):Int)<g) || (AH L (r.getD k 0)).getD i 0 == 0))
def PG (L:List An) (g:Int) (r:List Int):Bool:=decide ((r.length:Int)=(g+3)/4) && (List.range r.length).all (Gu L g r)
theorem Mu (hs:AD L=0)(h:C6 L k 2=true):(AH L k).length=4:=by
 obtain⟨j,rfl,hj,hk⟩:=Gz h;have:=J5 (DO hs hj) hk;unfold AH
 simpa[List.getD,hj] using this.1
theorem XQ {g:Int}(hs:AD L=0)(hg:BK g=true):PG L g r=Bk L g r:=by
 unfold BK at hg;simp only[C4]at hg;unfold PG Bk
 by_cases hl0:¬((r.length:Int)=(g+3)/4)
 ·rw[Dn hl0];rfl
 have hl:(r.length:Int)=(g+3)/4:=Lr.1 hl0;rw[C3 hl,Ff,Ff,IW];simp only[Ax,B5,CR]
 constructor
 ·intro h;refine⟨fun x hx=>?_,?_⟩
  ·obtain⟨j,hj,rfl⟩:=Ee hx;have:=h j hj;unfold Gu at this;have e:r.getD j 0=r[j]:=by simp[List.getD,hj]
   rw[e]at this
   by_cases e0:r[j]=0
   ·rw[e0];rfl
   ·rw[E9 e0];rw[<-KU e0 dE];simp[e0]at this
    simpa using this.1
  ·unfold Gd
   by_cases g4:g%4=0
   ·simp[g4]
   ·have hlt:r.length-1<r.length:=oM;have:=h _ hlt;unfold Gu at this
    generalize r.getD (r.length-1) 0=x at this ⊢
    by_cases e0:x=0
    ·simp[e0]
    ·have hb:(x == 0)=false:=by simpa using e0
     rw[hb,EF]at this ⊢;simp only[B5,Ax,CR]at this;have hk:C6 L x 2=true:=by rw[<-KU e0 dE];exact this.1
     have h4:=Mu hs hk;simp only[Kd,Ax];refine .inr fun y hy=>?_
     obtain⟨j,hj,rfl⟩:=Ee hy;rw[OL];simp at hj
     have:=this.2 ((g%4).toNat+j) oM;rw[Dn oM]at this
     simpa[List.getD,show (g%4).toNat+j<(AH L x).length by omega] using this
 ·intro ⟨h1,h2⟩ k hk;unfold Gu;have e:r.getD k 0=r[k]:=by simp[List.getD,hk]
  have hE:=h1 _ (BS hk);rw[<-e]at hE;unfold Gd at h2
  by_cases hlast:k=r.length-1
  ·rw[<-hlast]at h2
   generalize r.getD k 0=x at hE h2 ⊢
   by_cases e0:x=0
   ·simp[e0]
   have hb:(x == 0)=false:=by simpa using e0
   rw[E9 e0]at hE;rw[hb,EF,KU e0 dE,hE,Ff,Ax];rw[hb,EF]at h2;have h4:=Mu hs hE;intro i hi;have hi:=CR.1 hi
   by_cases hlt:((k*4+i:Nat):Int)<g
   ·rw[C3 hlt];rfl
   ·rw[Dn hlt,EF];have g4:g%4≠0:=oM;have hg4:(g%4 == 0)=false:=by simpa using g4
    rw[hg4,EF,Ax]at h2;have hm:(AH L x).getD i 0∈(AH L x).drop (g%4).toNat:=by
     have:i<(AH L x).length:=oM;rw[Rv];refine⟨i-(g%4).toNat,by simp;omega,?_⟩;rw[OL];simp only[List.getD,Co this,Rx]
     congr 1;omega
    exact h2 _ hm
  ·by_cases e0:r.getD k 0=0
   ·rw[e0];rfl
   have hb:(r.getD k 0 == 0)=false:=by simpa using e0
   rw[E9 e0]at hE;rw[hb,EF,KU e0 dE,hE,Ff,Ax];intro i hi;have hi:=CR.1 hi;rw[C3 oM];rfl
def Gb (L:List An) (e:Int):Bool:=!(decide (0<e) && G2 L e != 1)
theorem Sm (h:Cf e=true):Gb L e=tabE L e:=by
 rw[NC]at h;unfold Gb;rcases h with rfl|rfl|h
 ·rfl
 ·rfl
 ·rw[IP oM oM,C3 oM,Ff,bne,Bool.not_not,KU oM dE]
theorem TA {s:An}(h:B1 s=true):∀e∈s.2.2,Cf e=true:=by
 unfold B1 Cb at h
 split at h
 ·simp at h;rw[h.2];intro e he;cases he
 split at h
 ·simp at h;rw[h.2];intro e he;cases he
 split at h
 ·simp at h;exact Ax.1 (Pk h.1)
 ·cases h
theorem Vg (hs:AD L=0):L.all (fun s=>s.2.2.all (Gb L))=Cm L:=by
 unfold Cm;rw[IW,Ax,Ax];have:∀s∈L,s.2.2.all (Gb L)=s.2.2.all (tabE L):=fun s hm=>by
  have hE:∀e∈s.2.2,Cf e=true:=by
   obtain⟨j,hj,rfl⟩:=Ee hm;exact TA (DO hs hj)
  rw[IW,Ax,Ax];exact⟨fun h e he=>by rw[<-Sm (hE e he)];exact h e he,fun h e he=>by rw[Sm (hE e he)];exact h e he⟩
 exact⟨fun h s hm=>by rw[<-this s hm];exact h s hm,fun h s hm=>by rw[this s hm];exact h s hm⟩

theorem Cg (h:Below n w W):Below n w W.drew:=⟨h.os,h.tape,h.output,h.size,h.block⟩
theorem fN (gm:Int)(ra:Option Addr)(rn rc:Nat)(sa:Option Addr)(sn sc:Nat)(fa:Option Addr)(fn fc:Nat)(na:Option Addr)(nn nc:Nat)(g:Nat)(qa:Option Addr)(qn qc:Nat)(w:World)(hg:g<=16)(_hq:qn<=9223372036854775807)(hl:qn≠(g+3)/4):Cl 175 #[.agg (bI gm ra rn rc sa sn sc fa fn fc na nn nc),iI g,.slice qa qn qc] w fun r w'=>r=.returned (.bool false)/\Bw w w':=by
 have b0:Bw w (w.alloc (cB gm ra rn rc sa sn sc fa fn fc na nn nc)):=Av;have hb:((qn:Int) != ((g:Int)+3)/4)=true:=by simp;omega
 clear hl
 go_enter func175,ntmps175
 go_wp2_with(go_at_call 24;refine(Oo _ _ oM).mono ?_;rintro e w' ⟨rfl,hw⟩;subst hw);go_ret;exact⟨rfl,b0⟩
theorem fM (gm:Int)(ra:Option Addr)(rn rc:Nat)(sa:Option Addr)(sn sc:Nat)(fa:Option Addr)(fn fc:Nat)(na:Option Addr)(nn nc:Nat)(m:Ac)(g:Nat)(qa:Option Addr)(qn qc:Nat)(r:List Int)(B:Bool)(w:World)(h:Al w (.agg (bI gm ra rn rc sa sn sc fa fn fc na nn nc)) m)(hsn:m.s.length=sn)(hcl:∀j,(h:j<m.s.length)->∃sb so,sa=some (aD sb so)/\sb<w.heap.size/\B7 w sb (so+j*3) m.s[j])(hs:AD m.s=0)(hqn:r.length=qn)(hg:g<=16)(hq4:qn<=4)(hl:((qn:Int) != ((g:Int)+3)/4)=false)(hq:∀j,j<qn->∃b off,qa=some (aD b off)/\b<w.heap.size/\w.cell? (aD b (off+j))=some (iI (r.getD j 0)))(hB:(List.range r.length).all (Gu m.s g r)=B):Cl 175 #[.agg (bI gm ra rn rc sa sn sc fa fn fc na nn nc),iI g,.slice qa qn qc] w fun r w'=>r=.returned (.bool B)/\Bw w w':=by
 have b0:Bw w (w.alloc (cB gm ra rn rc sa sn sc fa fn fc na nn nc)):=Av;have m0:(w.alloc (cB gm ra rn rc sa sn sc fa fn fc na nn nc)).heap[w.heap.size]?=some (cB gm ra rn rc sa sn sc fa fn fc na nn nc):=Aw _ _;have h40:sn<=40:=by rw[<-hsn];exact(A4 hs).2
 have H1:Hd (r.length=qn/\m.s.length=sn):=⟨hqn,hsn⟩;have H2:Hd (∀j,j<qn->∃b off,qa=some (aD b off)/\b<w.heap.size/\w.cell? (aD b (off+j))=some (iI (r.getD j 0))):=hq;have H3:Hd (∀j,(h:j<m.s.length)->∃sb so,sa=some (aD sb so)/\sb<w.heap.size/\B7 w sb (so+j*3) m.s[j]):=hcl;have H4:Hd (AD m.s=0):=hs;have H5:Hd ((List.range r.length).all (Gu m.s g r)=B):=hB;have H6:Hd (Al w (.agg (bI gm ra rn rc sa sn sc fa fn fc na nn nc)) m):=h;have H7:Hd (∀k,k<qn->Gu m.s g r k=false->B=false):=fun k hk hf=>by
  rw[<-hB]
  cases e:(List.range r.length).all (Gu m.s g r) with
  | false=>rfl
  | true=>
   rw[Ax]at e;have:=e k (by rw[hqn];simpa using hk);rw[hf]at this;cases this
 clear hqn hsn hq hcl hs hB h
 go_enter func175,ntmps175
 go_wp2_with(go_at_call 24;refine(Oo _ _ oM).mono ?_;rintro e w' ⟨rfl,hw⟩;subst hw)
 go_loopw [7,8,9] (fun k _ _ wr=>∃q:Nat,q<=qn/\k=iI q/\Hd (∀j,j<q->Gu m.s g r j=true)/\Below (w.alloc (cB gm ra rn rc sa sn sc fa fn fc na nn nc)).heap.size (w.alloc (cB gm ra rn rc sa sn sc fa fn fc na nn nc)) wr) (fun k _ _ _=>qn-(intOf k).toNat)
 case atStart=>exact⟨0,A7 _,rfl,fun j hj=>absurd hj oM,AG _ _⟩
 case round=>
  obtain⟨q,ay,rfl,HA,ab⟩:=hrel
  by_cases hlk:q<qn
  ·obtain⟨b,off,rfl,hlt,ac⟩:=H2.o q hlk;have ax:(q:Int)<(qn:Int):=oM;have af:=Below.on b0 ab;obtain⟨x,hx⟩:=nM (r.getD q 0);rw[hx]at ac;have hc1:wr.cell? (aD b (off+q))=some (iI x):=(af.cell (p:=(aD b (off+q))) hlt).trans ac;have HF:Hd (Gu m.s g r q=(x == 0 || (G2 m.s x == 2 && (List.range 4).all (fun i=>decide (((q*4+i:Nat):Int)<g) || (AH m.s x).getD i 0 == 0)))):=by
    show _=_
    unfold Gu;rw[hx]
   clear hx ac;have mr:=Ag m0 ab (by simp);obtain⟨c0,c1,c2,c3,c4⟩:=five mr
   by_cases hx0:x=0
   ·have ad:(x == 0)=true:=by simp[hx0]
    have HX:Hd (x=0):=hx0;clear hx0;go_wp2_with fail;go_roundw
    case rel=>exact⟨q+1,oM,by go_num,fun j hj=>by
     by_cases e:j=q
     ·subst e;rw[HF.o,ad];rfl
     ·exact HA.o j oM,ab⟩
    case measure=>simp[intOf];omega
   ·have ad:(x == 0)=false:=by simp[hx0]
    have HX:Hd (x≠0):=hx0;clear hx0;obtain⟨K,hK⟩:=nM (G2 m.s x);have ak:w.heap.size<wr.heap.size:=(AA mr);have aj:b<wr.heap.size:=AO hlt af.size;have ae:=fun W (hW:Bw w W)=>SX (H6.o.below hW) (by rw[H1.o.2];omega) x hK
    have HK:Hd (G2 m.s x=K):=hK;clear hK;go_wp2_with fail
    go_region_held3 (fun w'=>w'.cell? (aZ w.heap.size)=some (iI gm)/\w'.cell? (aD w.heap.size (0+1))=some (.slice ra rn rc)/\w'.cell? (aD w.heap.size (0+1+1))=some (.slice sa sn sc)/\w'.cell? (aD w.heap.size (0+1+1+1))=some (.slice fa fn fc)/\w'.cell? (aD w.heap.size (0+1+1+1+1))=some (.slice na nn nc)/\w'.cell? (aD b (off+q))=some (iI x)) (first|exact⟨c0,c1,c2,c3,c4,hc1⟩|exact⟨d0,d1,d2,d3,d4,e1⟩)
     (first|(go_at_call 174;refine(ae _ (Cg af)).mono ?_;rintro e w1 ⟨rfl,b1⟩;have b1:=BR b1;have m1:=Ag mr b1 ak;obtain⟨d0,d1,d2,d3,d4⟩:=five m1;have e1:=(b1.cell (p:=(aD b (off+q))) aj).trans hc1))
    have ah:=Below.on af b1;have aa:=ab.trans (b1.mono ab.size);clear ae hc1 c0 c1 c2 c3 c4 ab af
    by_cases hK2:K=2
    ·have ap:(K != 2)=false:=by simp[hK2]
     have hkd:C6 m.s x 2=true:=by rw[<-KU HX.o dE,HK.o,hK2];rfl
     obtain⟨t,ht,ag,hk2⟩:=Gz hkd;subst ht;have hok:=J5 (DO H4.o ag) hk2;obtain⟨sb,so,rfl,au,aq⟩:=H3.o t ag;obtain⟨tv,_,_,c3,hsl⟩:=aq;obtain⟨tb,tw,tc,rfl,_,av,am⟩:=hsl.four hok.1;have a6:t<sn:=by rw[<-H1.o.2];exact ag
     have az:(t:Int)<(sn:Int):=oM;have ct:w1.cell? (aD sb (so+t*3+2))=some (lD tb tw 4 tc):=(ah.cell (p:=(aD sb (so+t*3+2))) au).trans c3;have HT:Hd (∀j,j<4->w1.cell? (aD tb (tw+j))=some (iI ((AH m.s t).getD j 0))):=fun j hj=>by
      have:=(ah.cell (p:=(aD tb (tw+j))) av).trans (am j hj);rw[this];unfold AH;simp[List.getD,ag]
     have al:Hd (Gu m.s g r q=(List.range 4).all (fun i=>decide (((q*4+i:Nat):Int)<g) || (AH m.s t).getD i 0 == 0)):=by
      show _=_
      rw[HF.o,ad,HK.o,hK2];rfl
     have ao:Hd (∀i,i<4->¬((q*4+i:Nat):Int)<g->(AH m.s t).getD i 0≠0->B=false):=fun i hi h1 h2=>H7.o q hlk (by
      rw[al.o]
      cases e:(List.range 4).all (fun i=>decide (((q*4+i:Nat):Int)<g) || (AH m.s t).getD i 0 == 0) with
      | false=>rfl
      | true=>
       rw[Ax]at e;have:=e i (by simpa using hi);rw[Dn h1,EF]at this;exact absurd (by simpa using this) h2)
     clear hsl am c3 hok hk2 hkd hK2;go_wp2_with fail
     go_region
     go_wp2_with fail
     go_loopw [9] (fun i wr=>∃u:Nat,u<=4/\i=iI u/\Hd (∀j,j<u->(decide (((q*4+j:Nat):Int)<g) || (AH m.s t).getD j 0 == 0)=true)/\wr=w1.drew) (fun i _=>4-(intOf i).toNat)
     case atStart=>exact⟨0,A7 _,rfl,fun j hj=>absurd hj oM,rfl⟩
     case round=>
      obtain⟨u,hu,rfl,HI,hw⟩:=hrel;subst hw
      by_cases hu4:u<4
      ·have a7:(u:Int)<4:=oM;have cx:=HT.o u hu4;obtain⟨y,hy⟩:=nM ((AH m.s t).getD u 0);rw[hy]at cx;have HY:Hd ((AH m.s t).getD u 0=y):=hy;clear hy
       by_cases hlt:(q:Int)*4+u<g
       ·have ar:¬(g:Int)<=(q:Int)*4+u:=oM;go_wp2_with fail;go_roundw
        case rel=>exact⟨u+1,oM,by go_num,fun j hj=>by
         by_cases e:j=u
         ·subst e;rw[C3 oM];rfl
         ·exact HI.o j oM,trivial⟩
        case measure=>simp[intOf];omega
       ·have ar:(g:Int)<=(q:Int)*4+u:=oM
        by_cases hy0:y=0
        ·have aw:(y != 0)=false:=by simp[hy0]
         have ai:Hd (y=0):=hy0;clear hy0;go_wp2_with fail;go_roundw
         case rel=>exact⟨u+1,oM,by go_num,fun j hj=>by
          by_cases e:j=u
          ·subst e;rw[HY.o,ai.o];simp
          ·exact HI.o j oM,trivial⟩
         case measure=>simp[intOf];omega
        ·have aw:(y != 0)=true:=by simp[hy0]
         have ai:Hd (B=false):=ao.o u hu4 oM (by rw[HY.o];exact hy0);clear hy0;go_wp2_with fail;go_ret;exact⟨D8 ai.o.symm,Cg ah⟩
      ·have e4:u=4:=oM;subst e4;go_wp2_with fail;go_roundw
       case rel=>exact⟨q+1,oM,by go_num,fun j hj=>by
        by_cases e:j=q
        ·subst e;rw[al.o,Ax];intro i hi;exact HI.o i (by simpa using hi)
        ·exact HA.o j oM,⟨aa.os,aa.tape,aa.output,aa.size,aa.block⟩⟩
       case measure=>simp[intOf];omega
    ·have ap:(K != 2)=true:=by simp[hK2]
     have an:Hd (B=false):=H7.o q hlk (by rw[HF.o,ad,HK.o];simp[hK2]);clear hK2;go_wp2_with fail;go_ret;exact⟨D8 an.o.symm,ah⟩
  ·have e4:q=qn:=oM;subst e4;have HE:Hd (B=true):=by
    show _=_
    rw[<-H5.o,Ax];intro j hj;exact HA.o j (by rw[<-H1.o.1];simpa using hj)
   go_wp2_with fail;go_ret;exact⟨D8 HE.o.symm,Below.on b0 ab⟩
theorem BA.at {sa:Option Addr}{sc:Nat}(h:BA w (.slice sa n sc) L):∀j,(h:j<L.length)->∃sb so,sa=some (aD sb so)/\sb<w.heap.size/\B7 w sb (so+j*3) L[j]:=by
 intro j hj;obtain⟨sb,so,ac,e,_,ab,aa⟩:=h.open oM;simp at e
 exact⟨sb,so,e.1,ab,aa j hj⟩
theorem Uu {rv:Value}{g:Int}(h:Al w v m)(hs:AD m.s=0)(hg:BK g=true)(hr:Sl w rv r)(hB:Bk m.s g r=B):Cl 175 #[v,iI g,rv] w fun r w'=>r=.returned (.bool B)/\Bw w w':=by
 rw[<-XQ hs hg]at hB;unfold BK at hg;simp only[C4]at hg;obtain⟨k,rfl⟩:∃k:Nat,g=k:=⟨g.toNat,oM⟩;have h':=h;obtain⟨ra,rc,sa,sc,fa,fc,na,nc,rfl,h1,h2,h3,h4⟩:=h.parts;obtain⟨qa,qc,rfl⟩:=hr.form;obtain⟨_,hm,_,hc⟩:=hr.cells;unfold PG at hB
 by_cases hl:(r.length:Int)=((k:Int)+3)/4
 ·rw[C3 hl,Ff]at hB;exact fM m.g ra _ rc sa _ sc fa _ fc na _ nc m k qa _ qc r B w h' rfl h2.at hs rfl oM oM (by simp[hl]) hc hB
 ·rw[Dn hl,OC]at hB;subst hB;exact fN m.g ra _ rc sa _ sc fa _ fc na _ nc k qa _ qc w oM hm oM
theorem V3 (ao:Option Addr)(n cap:Nat)(xs:List Int)(w:World)(hn:xs.length=n)(hm:n<=9223372036854775807)(hc:∀j,j<n->∃b off,ao=some (aD b off)/\w.cell? (aD b (off+j))=some (iI (xs.getD j 0))):Cl 178 #[.slice ao n cap] w fun r w'=>r=.returned (.bool (BE xs))/\w'=w:=by
 have HC:Hd (∀j,j<n->∃b off,ao=some (aD b off)/\w.cell? (aD b (off+j))=some (iI (xs.getD j 0))):=hc;clear hc;have HN:Hd (xs.length=n):=hn;clear hn
 go_enter func178,ntmps178
 go_wp2
 go_loop [3] (fun i=>∃k:Nat,k<=n/\i=iI k/\∀j,j<k->((xs.getD j 0) == 0)=true) (fun i=>n-(intOf i).toNat)
 case atStart=>exact⟨0,oM,rfl,fun j hj=>absurd hj oM⟩
 case round=>
  obtain⟨k,hk,rfl,hall⟩:=hrel;have HA:Hd (∀j,j<k->((xs.getD j 0) == 0)=true):=hall;clear hall
  by_cases hlt:k<n
  ·obtain⟨x,hx⟩:=nM (xs.getD k 0);obtain⟨b,off,ad,ac⟩:=HC.o k hlt;rw[hx]at ac;have HX:Hd (xs.getD k 0=x):=hx;clear hx
   by_cases hE:x=0
   ·have ab:(x != 0)=false:=by simp[hE]
    have aa:Hd (x=0):=hE;clear hE
    go_wp2
    go_round
    case rel=>exact⟨k+1,oM,by go_num,Ol (p:=fun x=>x == 0) HA.o HX.o (by simp[aa.o])⟩
    case measure=>simp[intOf];omega
   ·have ab:(x != 0)=true:=by simp[hE]
    go_wp2
    go_ret;refine⟨?_,rfl⟩;rw[show BE xs=false from L9 (j:=k) (by rw[HN.o];exact hlt) (by rw[HX.o];simp[hE])];rfl
  ·have e4:k=n:=oM;subst e4
   go_wp2
   go_ret;refine⟨?_,rfl⟩;rw[show BE xs=true from M9 (by rw[HN.o];exact HA.o)];rfl
theorem LI (v:Value)(xs:List Int)(w:World)(h:Sl w v xs):Cl 178 #[v] w fun r w'=>r=.returned (.bool (BE xs))/\w'=w:=by
 obtain⟨ao,cap,rfl⟩:=h.form;obtain⟨hn,hm,aa,hc⟩:=h.cells;exact V3 ao _ cap xs w hn hm (fun j hj=>by obtain⟨b,off,h1,_,h2⟩:=hc j hj;exact⟨b,off,h1,h2⟩)
theorem UY (d:ByteArray)(xs:List Int):Cb 0 d xs=decide (d.size=0/\xs.length=0):=rfl
theorem QS (d:ByteArray)(xs:List Int):Cb 1 d xs=decide (d.size=4/\xs.length=0):=rfl
theorem UZ (d:ByteArray)(xs:List Int):Cb 2 d xs=decide (Bp xs=0/\EJ xs=false/\d.size=0):=rfl
theorem QT (d:ByteArray)(xs:List Int):Cb 2 d xs=true↔(d.size=0/\Bp xs=0/\BE xs=false):=by
 rw[UZ]
 by_cases h:Bp xs=0<;>simp[EJ,h,and_comm]
theorem Pd (h:k≠c):(k == c)=false:=by simpa using h
theorem iw (k:Int)(d:ByteArray)(ta:Option Addr)(tn tc:Nat)(xs:List Int)(w:World)(h:Sl w (.slice ta tn tc) xs):Cl 208 #[.agg #[iI k,.string d,.slice ta tn tc]] w fun r w'=>r=.returned (.bool (Cb k d xs))/\Bw w w':=by
 have hs:=h.past (oS k d ta tn tc);have hl:xs.length=tn:=h.cells.1;have HL:Hd (xs.length=tn):=hl;have b0:Bw w (w.alloc (oS k d ta tn tc)):=Av;clear hl
 by_cases h0:k=0
 ·subst h0
  by_cases hd:d.size=0
  ·have aa:d.toList.isEmpty=true:=by rw[Jd];simp[hd]
   have HD:Hd (d.size=0):=hd;clear hd
   go_enter func208,ntmps208
   go_wp2
   go_ret;exact⟨Fs (by rw[UY];simp[HD.o,<-HL.o]),b0⟩
  ·have aa:d.toList.isEmpty=false:=by rw[Jd];simp[hd]
   go_enter func208,ntmps208
   go_wp2
   go_ret;exact⟨Fs (by rw[UY];simp[hd]),b0⟩
 by_cases h1:k=1
 ·subst h1;clear h0
  by_cases hd:d.size=4
  ·have aa:((d.size:Int) == 4)=true:=by simp;omega
   have HD:Hd (d.size=4):=hd;clear hd
   go_enter func208,ntmps208
   go_wp2
   go_ret;exact⟨Fs (by rw[QS];simp[HD.o,<-HL.o]),b0⟩
  ·have aa:((d.size:Int) == 4)=false:=by simp;omega
   go_enter func208,ntmps208
   go_wp2
   go_ret;exact⟨Fs (by rw[QS];simp[hd]),b0⟩
 by_cases h2:k=2
 ·subst h2;clear h0 h1
  by_cases hd:d.size=0
  ·have aa:d.toList.isEmpty=true:=by rw[Jd];simp[hd]
   have HD:Hd (d.size=0):=hd;clear hd;rcases RW xs with hc|hc
   ·have HK:Hd (Bp xs=0):=hc
    go_enter func208,ntmps208
    go_wp2_with(first|(go_at_call 177;refine(Ph _ xs _ hs).mono ?_;rintro e w' ⟨rfl,rfl⟩)|(go_at_call 178;refine(LI _ xs _ hs).mono ?_;rintro e w' ⟨rfl,rfl⟩));go_ret;exact⟨Fs (by rw[QT];simp[HD.o,HK.o]),b0⟩
   ·have HK:Hd (Bp xs=1):=hc
    go_enter func208,ntmps208
    go_wp2_with(first|(go_at_call 177;refine(Ph _ xs _ hs).mono ?_;rintro e w' ⟨rfl,rfl⟩));go_ret;exact⟨Fs (by rw[QT];simp[HK.o]),b0⟩
  ·have aa:d.toList.isEmpty=false:=by rw[Jd];simp[hd]
   go_enter func208,ntmps208
   go_wp2
   go_ret;exact⟨Fs (by rw[QT];simp[hd]),b0⟩
 ·have HF:Hd (Cb k d xs=false):=by show _=_;unfold Cb;rw[Aa h0,Aa h1,Aa h2]
  have e0:=Pd h0;have e1:=Pd h1;have e2:=Pd h2;clear h0 h1 h2
  go_enter func208,ntmps208
  go_wp2
  go_ret;exact⟨by rw[HF.o];rfl,b0⟩
theorem UX (k:Int)(d:ByteArray)(tv:Value)(xs:List Int)(w:World)(h:Sl w tv xs):Cl 208 #[.agg #[iI k,.string d,tv]] w fun r w'=>r=.returned (.bool (Cb k d xs))/\Bw w w':=by
 obtain⟨ao,cap,rfl⟩:=h.form;exact iw k d ao _ cap xs w h
theorem iD (b off cap n:Nat)(L:List An)(w:World)(hn:L.length=n)(h1:1<=n)(h40:n<=40)(hlt:b<w.heap.size)(hc:∀j,(h:j<L.length)->B7 w b (off+j*3) L[j]):Cl 173 #[lD b off n cap] w fun r w'=>r=.returned (iI (AD L))/\Bw w w':=by
 have HC:Hd (∀j,(h:j<L.length)->B7 w b (off+j*3) L[j]):=hc;have HN:Hd (L.length=n):=hn;clear hc hn;have g1:(1:Int)<=(n:Int):=oM;have g2:(n:Int)<=(40:Int):=oM
 go_enter func173,ntmps173
 go_wp2_with(go_at_call 65;refine(Dy _ _ _ _).mono ?_;rintro e w' ⟨rfl,hw⟩;subst hw)
 go_loopw [3] (fun i wr=>∃k:Nat,k<=n/\i=iI k/\(∀j,(h:j<L.length)->j<k->B1 L[j]=true)/\Bw w' wr) (fun i _=>n-(intOf i).toNat)
 case atStart=>exact⟨0,A7 _,rfl,fun j h hj=>absurd hj oM,AG _ _⟩
 case round=>
  obtain⟨k,hk,rfl,hall,aa⟩:=hrel;have HA:Hd (∀j,(h:j<L.length)->j<k->B1 L[j]=true):=hall;clear hall
  by_cases hlk:k<n
  ·obtain⟨s,hs⟩:∃s,s=L[k]'(by rw[HN.o];exact hlk):=⟨_,rfl⟩;obtain⟨kk,dd,tt⟩:=s;have hS:B7 w' b (off+k*3) (kk,dd,tt):=by rw[hs];exact HC.o k _
   obtain⟨tv,c1,c2,c3,hsl⟩:=hS;obtain⟨ta,tc,ad⟩:=hsl.form;subst ad;have HS:Hd ((kk,dd,tt)=L[k]'(by rw[HN.o];exact hlk)):=hs;have c1:wr.cell? (aD b (off+k*3))=some (iI kk):=(aa.cell (p:=(aD b (off+k*3))) hlt).trans c1;have c2:wr.cell? (aD b (off+k*3+1))=some (.string dd):=(aa.cell (p:=(aD b (off+k*3+1))) hlt).trans c2;have c3:wr.cell? (aD b (off+k*3+1+1))=some (.slice ta tt.length tc):=(aa.cell (p:=(aD b (off+k*3+1+1))) hlt).trans c3;have ab:Sl wr (.slice ta tt.length tc) tt:=hsl.below aa;clear hs hsl
   cases hE:Cb kk dd tt with
   | true=>
    go_wp2_with fail;refine(UX kk dd _ tt _ ab).mono ?_;rintro e w2 ⟨rfl,b2⟩;go_wp2_with fail;go_roundw
    case rel=>exact⟨k+1,oM,by go_num,fun j h hj=>by
     by_cases e:j=k
     ·subst e;rw[<-HS.o];exact hE
     ·exact HA.o j h oM,Below.on aa b2⟩
    case measure=>simp[intOf];omega
   | false=>
    go_wp2_with fail;refine(UX kk dd _ tt _ ab).mono ?_;rintro e w2 ⟨rfl,b2⟩;go_wp2_with fail;go_ret;exact⟨Cj (U0 (by rw[HN.o];exact h1) (by rw[HN.o];exact h40) (by rw[HN.o];exact hlk) (by rw[<-HS.o];exact hE)).symm,Below.on aa b2⟩
  ·have e4:k=n:=oM;subst e4;obtain⟨s,hs⟩:∃s,s=L[0]'(by rw[HN.o];exact h1):=⟨_,rfl⟩;obtain⟨kk,dd,tt⟩:=s;have hS:B7 w' b (off+0*3) (kk,dd,tt):=by rw[hs];exact HC.o 0 _
   obtain⟨tv,c1,_,_,_⟩:=hS;have c1:wr.cell? (aD b off)=some (iI kk):=(aa.cell (p:=(aD b off)) hlt).trans (by simpa using c1);have HS:Hd ((kk,dd,tt)=L[0]'(by rw[HN.o];exact h1)):=hs;clear hs
   by_cases h0:kk=0
   ·have ac:(kk != 0)=false:=by simp[h0]
    have H0:Hd (kk=0):=h0;clear h0;go_wp2_with fail;go_ret;exact⟨Cj (Mm (by rw[HN.o];exact h1) (by rw[HN.o];exact h40) (fun j h=>HA.o j h (by rw[HN.o]at h;exact h)) (by rw[<-HS.o];exact H0.o)).symm,aa⟩
   ·have ac:(kk != 0)=true:=by simp[h0]
    go_wp2_with fail;go_ret;exact⟨Cj (U1 (by rw[HN.o];exact h1) (by rw[HN.o];exact h40) (by rw[<-HS.o];exact h0)).symm,aa⟩
theorem iE (ao:Option Addr)(n cap:Nat)(w:World)(h:decide ((1:Int)<=(n:Int)/\(n:Int)<=40)=false):Cl 173 #[.slice ao n cap] w fun r w'=>r=.returned (iI 2)/\Bw w w':=by
 go_enter func173,ntmps173
 go_wp2_with(go_at_call 65;refine(Dy _ _ _ _).mono ?_;rintro e w' ⟨rfl,hw⟩;subst hw;rw[h]);go_ret;exact⟨rfl,AG _ _⟩
theorem iC (v:Value)(L:List An)(w:World)(h:BA w v L):Cl 173 #[v] w fun r w'=>r=.returned (iI (AD L))/\Bw w w':=by
 obtain⟨ao,cap,rfl,hm,ab,hc⟩:=h
 by_cases hn:1<=L.length/\L.length<=40
 ·obtain⟨b,off,rfl,hlt,aa⟩:=hc (by intro e;rw[e]at hn;simp at hn);exact iD b off cap _ L w rfl hn.1 hn.2 hlt aa
 ·have e:AD L=2:=by unfold AD;rw[Aa hn]
  rw[e];exact iE ao _ cap w (by simp;omega)
theorem U2 (h:BA w v L)(hE:AD L=E):Cl 173 #[v] w fun r w'=>r=.returned (iI E)/\Bw w w':=by subst hE;exact iC v L w h
theorem ij (gm:Int)(ra:Option Addr)(rn rc:Nat)(sa:Option Addr)(sn sc:Nat)(fa:Option Addr)(fn fc:Nat)(na:Option Addr)(nn nc:Nat)(w:World)(hn:decide ((1:Int)<=(sn:Int)/\(sn:Int)<=40)=false\/3<nn)(_h:nn<=9223372036854775807):Cl 121 #[.agg (bI gm ra rn rc sa sn sc fa fn fc na nn nc)] w fun r w'=>r=.returned (iI 2)/\Bw w w':=by
 have b0:Bw w (w.alloc (cB gm ra rn rc sa sn sc fa fn fc na nn nc)):=Av
 cases hd:decide ((1:Int)<=(sn:Int)/\(sn:Int)<=40) with
 | false=>
  have HD:Hd (decide ((1:Int)<=(sn:Int)/\(sn:Int)<=40)=false):=hd;clear hn hd
  go_enter func121,ntmps121
  go_wp2_with(go_at_call 65;refine(Dy _ _ _ _).mono ?_;rintro e w' ⟨rfl,hw⟩;subst hw;rw[HD.o]);go_ret;exact⟨rfl,b0⟩
 | true=>
  have aa:(3:Int)<(nn:Int):=by
   rcases hn with h|h
   ·rw[hd]at h;cases h
   ·omega
  have HD:Hd (decide ((1:Int)<=(sn:Int)/\(sn:Int)<=40)=true):=hd;clear hn hd
  go_enter func121,ntmps121
  go_wp2_with(go_at_call 65;refine(Dy _ _ _ _).mono ?_;rintro e w' ⟨rfl,hw⟩;subst hw;rw[HD.o]);go_ret;exact⟨rfl,b0⟩
theorem ii (gm:Int)(ra:Option Addr)(rn rc:Nat)(sa:Option Addr)(sn sc:Nat)(fa:Option Addr)(fn fc:Nat)(na:Option Addr)(nn nc:Nat)(L:List An)(E:Int)(w:World)(hd:decide ((1:Int)<=(sn:Int)/\(sn:Int)<=40)=true)(hn:nn<=3)(hs:BA w (.slice sa sn sc) L)(hE:AD L=E)(_hf:fn<=9223372036854775807)(hor:E≠0\/fn≠sn):Cl 121 #[.agg (bI gm ra rn rc sa sn sc fa fn fc na nn nc)] w fun r w'=>r=.returned (iI 1)/\Bw w w':=by
 have b0:Bw w (w.alloc (cB gm ra rn rc sa sn sc fa fn fc na nn nc)):=Av;have m0:(w.alloc (cB gm ra rn rc sa sn sc fa fn fc na nn nc)).heap[w.heap.size]?=some (cB gm ra rn rc sa sn sc fa fn fc na nn nc):=Aw _ _;have HD:Hd (decide ((1:Int)<=(sn:Int)/\(sn:Int)<=40)=true):=hd;have aa:=U2 (hs.below b0) hE;have ac:¬(3:Int)<(nn:Int):=oM;clear hd hs hE
 by_cases h0:E=0
 ·have ab:((fn:Int) != (sn:Int))=true:=by
   rcases hor with h|h
   ·exact absurd h0 h
   ·simp;omega
  subst h0;clear hor
  go_enter func121,ntmps121
  go_wp2_with(first|(go_at_call 65;refine(Dy _ _ _ _).mono ?_;rintro e w' ⟨rfl,hw⟩;subst hw;rw[HD.o])|(go_at_call 173;refine aa.mono ?_;rintro e w1 ⟨rfl,b1⟩;have m1:=Ag m0 b1 (by simp);have c0:=five m1));go_ret;exact⟨rfl,Below.on b0 b1⟩
 ·have hb:(E != 0)=true:=by simp[h0]
  clear hor h0
  go_enter func121,ntmps121
  go_wp2_with(first|(go_at_call 65;refine(Dy _ _ _ _).mono ?_;rintro e w' ⟨rfl,hw⟩;subst hw;rw[HD.o])|(go_at_call 173;refine aa.mono ?_;rintro e w1 ⟨rfl,b1⟩;have m1:=Ag m0 b1 (by simp);have c0:=five m1));go_ret;exact⟨rfl,Below.on b0 b1⟩
theorem GA {s:ByteArray}(w:World)(hB:BG s=B):Cl 124 #[.string s] w fun r w'=>r=.returned (.bool B)/\w'=w:=by subst hB;exact Zh s w
set_option linter.unusedSimpArgs false in
theorem ig (gm:Int)(ra:Option Addr)(rn rc:Nat)(sb so:Nat)(sn sc:Nat)(fa:Option Addr)(fn fc:Nat)(na:Option Addr)(nn nc:Nat)(m:Ac)(E:Int)(w:World)(h:Al w (.agg (bI gm ra rn rc (sD sb so) sn sc fa fn fc na nn nc)) m)(hsn:m.s.length=sn)(hnn:m.p.length=nn)(hgm:m.g=gm)(hn3:nn<=3)(hfs:fn=sn)(hsb:sb<w.heap.size)(hcl:∀j,(h:j<m.s.length)->B7 w sb (so+j*3) m.s[j])(hs:AD m.s=0)(hr:Sl w (.slice ra rn rc) m.r)(hna:∀j,(h:j<m.p.length)->∃b off,na=some (aD b off)/\b<w.heap.size/\FH w b (off+j*3) m.p[j])(hE:As m=E)(hrf:m.f.length=m.s.length):Cl 121 #[.agg (bI gm ra rn rc (sD sb so) sn sc fa fn fc na nn nc)] w fun r w'=>r=.returned (iI E)/\Bw w w':=by
 have b0:Bw w (w.alloc (cB gm ra rn rc (sD sb so) sn sc fa fn fc na nn nc)):=Av;have m0:(w.alloc (cB gm ra rn rc (sD sb so) sn sc fa fn fc na nn nc)).heap[w.heap.size]?=some (cB gm ra rn rc (sD sb so) sn sc fa fn fc na nn nc):=Aw _ _;have hsl:BA w (lD sb so sn sc) m.s:=by
  obtain⟨_,_,_,_,e,_,h2,_⟩:=h;simp at e
  obtain⟨_,_,e2,_⟩:=e;rw[<-e2]at h2;exact h2
 have h40:sn<=40:=by rw[<-hsn];exact(A4 hs).2
 have aS:1<=sn:=by rw[<-hsn];exact(A4 hs).1
 have HD:Hd (decide ((1:Int)<=(sn:Int)/\(sn:Int)<=40)=true):=C3 oM;have aE:=U2 (hsl.below b0) hs;have aN:¬(3:Int)<(nn:Int):=oM;subst hfs;have HT:Hd (E=if Cr m.p=false then 1 else Fu m.s (BN m)):=by
  show _=_
  rw[<-hE];unfold As Fu;rw[Aa (by rw[hnn];omega),Aa (by simpa using hs)]
  by_cases hN:Cr m.p=false
  ·rw[Ab (.inr hN),Ab hN]
  ·rw[Aa (fun h=>h.elim (fun h=>h hrf) hN),Aa hN]
 have F1:Hd (∀k,k<nn->CJ m.p k=false->E=1):=fun k hk hb=>by
  rw[HT.o,Ab (Tq (by rw[hnn];exact hk) hb)]
 have F2:Hd (Cr m.p=true->∀s∈BN m,BK s.2.1=false->E=3):=fun hN s hm hg=>by
  rw[HT.o,Aa (by rw[hN];decide)];unfold Fu;rw[Ab];rw[<-Lq,Ax];intro hall;have:=hall s hm;rw[hg]at this;cases this
 have F3:Hd (Cr m.p=true->(BN m).all (fun s=>BK s.2.1)=true->∀n,(hn:n<m.s.length)->∀i,i<m.s[n].2.2.length->Gb m.s (m.s[n].2.2.getD i 0)=false->E=1):=fun hN hG n hn i hi hb=>by
  rw[HT.o,Aa (by rw[hN];decide)];unfold Fu;rw[Aa (by rw[hG];decide),Ab];rw[<-Lq,<-Vg hs,Ax];intro hall;have:=E2 (hall _ (BS hn)) hi;rw[hb]at this;cases this
 have F4:Hd (Cr m.p=true->(BN m).all (fun s=>BK s.2.1)=true->Cm m.s=true->∀s∈BN m,Bk m.s s.2.1 s.2.2=false->E=1):=fun hN hG hT s hm hb=>by
  rw[HT.o,Aa (by rw[hN];decide)];unfold Fu;rw[Aa (by rw[hG];decide),Aa (by rw[hT];decide),Ab];rw[<-Lq,Ax];intro hall;have:=hall s hm;rw[hb]at this;cases this
 have F5:Hd (Cr m.p=true->(BN m).all (fun s=>BK s.2.1)=true->Cm m.s=true->(BN m).all (fun s=>Bk m.s s.2.1 s.2.2)=true->E=0):=fun hN hG hT hR=>by
  rw[HT.o,Aa (by rw[hN];decide)];unfold Fu;rw[Aa (by rw[hG];decide),Aa (by rw[hT];decide),Aa (by rw[hR];decide)]
 have H1:Hd (m.s.length=fn/\m.p.length=nn/\m.g=gm):=⟨hsn,hnn,hgm⟩;have H2:Hd (∀j,(h:j<m.s.length)->B7 w sb (so+j*3) m.s[j]):=hcl;have H3:Hd (∀j,(h:j<m.p.length)->∃b off,na=some (aD b off)/\b<w.heap.size/\FH w b (off+j*3) m.p[j]):=hna;have H4:Hd (AD m.s=0):=hs;have H6:Hd (Al w (.agg (bI gm ra rn rc (sD sb so) fn sc fa fn fc na nn nc)) m):=h;have H7:Hd (Sl w (.slice ra rn rc) m.r):=hr;have aM:((fn:Int) != (fn:Int))=false:=by simp
 clear hsn hnn hgm hcl hna hs h hr HT hE hrf hsl
 go_enter func121,ntmps121
 go_wp2_with(first|(go_at_call 65;refine(Dy _ _ _ _).mono ?_;rintro e w' ⟨rfl,hw⟩;subst hw;rw[HD.o])|(go_at_call 173;refine aE.mono ?_;rintro e w1 ⟨rfl,b1⟩;have m1:=Ag m0 b1 (by simp);obtain⟨c0,c1,c2,c3,c4⟩:=five m1));clear aE HD
 go_loopw [3] (fun i wr=>∃k:Nat,k<=nn/\i=iI k/\Hd (∀j,j<k->CJ m.p j=true)/\Bw w1 wr) (fun i _=>nn-(intOf i).toNat)
 case atStart=>exact⟨0,A7 _,rfl,fun j hj=>absurd hj oM,AG _ _⟩
 case round=>
  obtain⟨k,hk,rfl,HA,aa⟩:=hrel;have ao:w.heap.size<w1.heap.size:=(AA m1);have mr:=Ag m1 aa ao;have ac:=Below.on (Below.on b0 b1) aa;clear c0 c1 c2 c3 c4;obtain⟨c0,c1,c2,c3,c4⟩:=five mr
  by_cases hlk:k<nn
  ·obtain⟨b,off,rfl,hlt,hS⟩:=H3.o k (by rw[H1.o.2.1];exact hlk);obtain⟨s,hs⟩:∃s,s=m.p[k]'(by rw[H1.o.2.1];exact hlk):=⟨_,rfl⟩;obtain⟨nm,gg,rr⟩:=s;rw[<-hs]at hS;obtain⟨rv,s1,s2,s3,hsl⟩:=hS;have s1:wr.cell? (aD b (off+k*3))=some (.string nm):=(ac.cell (p:=(aD b (off+k*3))) hlt).trans s1;have HE:Hd (∀hk0:k=0,CJ m.p k=BG nm):=fun hk0=>by
    have:=Qf (L:=m.p) (by rw[H1.o.2.1];omega);have e:m.p[0]'(by rw[H1.o.2.1];omega)=(nm,gg,rr):=by rw[hs];simp[hk0]
    rw[hk0,this,e]
   have HP:Hd (∀hk0:1<=k,∃pn,wr.cell? (aD b (off+(k-1)*3))=some (.string pn)/\CJ m.p k=(BG nm && Op.bytesLess pn.toList nm.toList)):=fun hk0=>by
    obtain⟨b',aR,e,_,aL⟩:=H3.o (k-1) (by rw[H1.o.2.1];omega);simp at e
    obtain⟨rfl,rfl⟩:=e;obtain⟨_,d1,_⟩:=aL;refine⟨_,(ac.cell (p:=(aD b (off+(k-1)*3))) hlt).trans d1,?_⟩;rw[NQ (L:=m.p) (by rw[H1.o.2.1];exact hlk) hk0,<-hs]
   have ap:Hd (CJ m.p k=true->∀j,j<k+1->CJ m.p j=true):=fun h j hj=>by
    by_cases e:j=k
    ·subst e;exact h
    ·exact HA.o j oM
   have ah:Hd (CJ m.p k=false->E=1):=F1.o k hlk;have h3:k=0\/k=1\/k=2:=oM;clear hs hsl HA s2 s3 b1 m1;rcases h3 with rfl|h3
   ·have aB:(0:Int)<(nn:Int):=oM;clear hlk;have s1:wr.cell? (aD b off)=some (.string nm):=s1;simp only[Ls];have HK:Hd (CJ m.p 0=BG nm):=HE.o rfl;clear HE HP
    cases hq:BG nm with
    | true=>
     go_wp2_with fail
     go_quiet((go_at_call 124;exact Calls.quiet_of_same (GA _ hq)))
     go_wp2_with fail;go_roundw
     case rel=>exact⟨1,oM,by rfl,ap.o (by rw[HK.o];exact hq),⟨aa.os,aa.tape,aa.output,aa.size,aa.block⟩⟩
     case measure=>simp[intOf];omega
    | false=>
     have ae:Hd (E=1):=ah.o (by rw[HK.o];exact hq);go_wp2_with fail
     go_quiet((go_at_call 124;exact Calls.quiet_of_same (GA _ hq)))
     go_wp2_with fail;go_ret;exact⟨Cj ae.o.symm,⟨ac.os,ac.tape,ac.output,ac.size,ac.block⟩⟩
   rcases h3 with rfl|rfl
   ·have aB:(1:Int)<(nn:Int):=oM;clear hlk;have s1:wr.cell? (aD b (off+3))=some (.string nm):=s1;simp only[Ls];obtain⟨pn,d1,hK⟩:=HP.o oM;have d1:wr.cell? (aD b off)=some (.string pn):=d1;have HK:Hd (CJ m.p 1=(BG nm && Op.bytesLess pn.toList nm.toList)):=hK;have aO:(0:Int)<(nn:Int):=oM;have hnn:0<nn:=oM;clear HE HP hK
    cases hq:BG nm with
    | true=>
     cases hla:Op.bytesLess pn.toList nm.toList with
     | true=>
      go_wp2_with fail
      go_quiet((go_at_call 124;exact Calls.quiet_of_same (GA _ hq)))
      go_wp2_with fail;go_roundw
      case rel=>exact⟨2,oM,by rfl,ap.o (by rw[HK.o,hq,hla];rfl),⟨aa.os,aa.tape,aa.output,aa.size,aa.block⟩⟩
      case measure=>simp[intOf];omega
     | false=>
      have ae:Hd (E=1):=ah.o (by rw[HK.o,hq,hla];rfl);go_wp2_with fail
      go_quiet((go_at_call 124;exact Calls.quiet_of_same (GA _ hq)))
      go_wp2_with fail;go_ret;exact⟨Cj ae.o.symm,⟨ac.os,ac.tape,ac.output,ac.size,ac.block⟩⟩
    | false=>
     have ae:Hd (E=1):=ah.o (by rw[HK.o,hq];rfl);go_wp2_with fail
     go_quiet((go_at_call 124;exact Calls.quiet_of_same (GA _ hq)))
     go_wp2_with fail;go_ret;exact⟨Cj ae.o.symm,⟨ac.os,ac.tape,ac.output,ac.size,ac.block⟩⟩
   ·have aB:(2:Int)<(nn:Int):=oM;clear hlk;have s1:wr.cell? (aD b (off+6))=some (.string nm):=s1;simp only[Ls];obtain⟨pn,d1,hK⟩:=HP.o oM;have d1:wr.cell? (aD b (off+3))=some (.string pn):=d1;have HK:Hd (CJ m.p 2=(BG nm && Op.bytesLess pn.toList nm.toList)):=hK;have aO:(1:Int)<(nn:Int):=oM;have hnn:1<nn:=oM;clear HE HP hK
    cases hq:BG nm with
    | true=>
     cases hla:Op.bytesLess pn.toList nm.toList with
     | true=>
      go_wp2_with fail
      go_quiet((go_at_call 124;exact Calls.quiet_of_same (GA _ hq)))
      go_wp2_with fail;go_roundw
      case rel=>exact⟨3,oM,by rfl,ap.o (by rw[HK.o,hq,hla];rfl),⟨aa.os,aa.tape,aa.output,aa.size,aa.block⟩⟩
      case measure=>simp[intOf];omega
     | false=>
      have ae:Hd (E=1):=ah.o (by rw[HK.o,hq,hla];rfl);go_wp2_with fail
      go_quiet((go_at_call 124;exact Calls.quiet_of_same (GA _ hq)))
      go_wp2_with fail;go_ret;exact⟨Cj ae.o.symm,⟨ac.os,ac.tape,ac.output,ac.size,ac.block⟩⟩
    | false=>
     have ae:Hd (E=1):=ah.o (by rw[HK.o,hq];rfl);go_wp2_with fail
     go_quiet((go_at_call 124;exact Calls.quiet_of_same (GA _ hq)))
     go_wp2_with fail;go_ret;exact⟨Cj ae.o.symm,⟨ac.os,ac.tape,ac.output,ac.size,ac.block⟩⟩
  ·have e4:k=nn:=oM;subst e4;have an:Hd (Cr m.p=true):=Tr (fun j hj=>HA.o j (by rw[H1.o.2.1]at hj;exact hj));clear HA F1;have aG:Hd (BK gm=decide ((0:Int)<=gm/\gm<=16)):=rfl
   cases hg:BK gm with
   | false=>
    have HW:Hd (decide ((0:Int)<=gm/\gm<=16)=false):=hg;have ae:Hd (E=3):=F2.o an.o (⟨#[]⟩,m.g,m.r) CD (by rw[H1.o.2.2];exact hg);clear hg;go_wp2_with(go_at_call 65;refine(Dy _ _ _ _).mono ?_;rintro e w' ⟨rfl,hw⟩;rw[hw];clear hw;rw[HW.o]);go_ret;exact⟨Cj ae.o.symm,ac⟩
   | true=>
    have HW:Hd (decide ((0:Int)<=gm/\gm<=16)=true):=hg;have a7:Hd (BK gm=true):=hg;clear hg;go_wp2_with(go_at_call 65;refine(Dy _ _ _ _).mono ?_;rintro e w' ⟨rfl,hw⟩;rw[hw];clear hw;rw[HW.o])
    go_loopw [4] (fun i wq=>∃q:Nat,q<=k/\i=iI q/\Hd (∀j,(h:j<m.p.length)->j<q->BK m.p[j].2.1=true)/\wq=wr) (fun i _=>k-(intOf i).toNat)
    case atStart=>exact⟨0,A7 _,rfl,fun j _ hj=>absurd hj oM,rfl⟩
    case round=>
     obtain⟨q,hq,rfl,HA,hw⟩:=hrel;subst hw
     by_cases hlk:q<k
     ·have aC:q<m.p.length:=by rw[H1.o.2.1];exact hlk
      obtain⟨b,off,rfl,hlt,hS⟩:=H3.o q aC;obtain⟨s,hs⟩:∃s,s=m.p[q]:=⟨_,rfl⟩;obtain⟨nm,gg,rr⟩:=s;rw[<-hs]at hS;obtain⟨rv,s1,s2,s3,hsl⟩:=hS;have s2:wr.cell? (aD b (off+q*3+1))=some (iI gg):=(ac.cell (p:=(aD b (off+q*3+1))) hlt).trans s2;have aU:(q:Int)<(k:Int):=oM;have HS:Hd (m.p[q]=(nm,gg,rr)):=hs.symm;clear hs hsl s1 s3
      cases hg:BK gg with
      | false=>
       have HV:Hd (decide ((0:Int)<=gg/\gg<=16)=false):=hg;have ae:Hd (E=3):=F2.o an.o (nm,gg,rr) (CA _ (by rw[<-HS.o];exact BS aC)) hg;clear hg;go_wp2_with(go_at_call 65;refine(Dy _ _ _ _).mono ?_;rintro e w' ⟨rfl,hw⟩;rw[hw];clear hw;rw[HV.o]);go_ret;exact⟨Cj ae.o.symm,ac⟩
      | true=>
       have HV:Hd (decide ((0:Int)<=gg/\gg<=16)=true):=hg;have aH:Hd (BK gg=true):=hg;clear hg;go_wp2_with(go_at_call 65;refine(Dy _ _ _ _).mono ?_;rintro e w' ⟨rfl,hw⟩;rw[hw];clear hw;rw[HV.o]);go_roundw
       case rel=>exact⟨q+1,oM,by go_num,fun j hj hj1=>by
        by_cases e:j=q
        ·subst e;rw[HS.o];exact aH.o
        ·exact HA.o j hj oM,trivial⟩
       case measure=>simp[intOf];omega
     ·have HG:Hd ((BN m).all (fun s=>BK s.2.1)=true):=by
       show _=_
       unfold BN;rw[GP,H1.o.2.2,a7.o,Ff,Ax];intro s hs;obtain⟨j,hj,rfl⟩:=Ee hs;exact HA.o j hj (by rw[H1.o.2.1]at hj;omega)
      have e4:q=k:=oM;subst e4;clear HA F2 aG;go_wp2_with fail;obtain⟨wa,al⟩:∃X,X=wr:=⟨_,rfl⟩;subst al
      go_loopw [5,6,7] (fun i _ _ wq=>∃n:Nat,n<=fn/\i=iI n/\Hd (∀j,(h:j<m.s.length)->j<n->m.s[j].2.2.all (Gb m.s)=true)/\Bw wa wq) (fun i _ _ _=>fn-(intOf i).toNat)
      case atStart=>exact⟨0,A7 _,rfl,fun j _ hj=>absurd hj oM,AG _ _⟩
      case round=>
       obtain⟨n,hn,rfl,HA,ar⟩:=hrel;obtain⟨wq,al⟩:∃X,X=wr:=⟨_,rfl⟩;subst al;have ay:w.heap.size<wa.heap.size:=(AA mr);have mq:=Ag mr ar ay;have ag:=Below.on ac ar;clear c0 c1 c2 c3 c4;obtain⟨c0,c1,c2,c3,c4⟩:=five mq
       by_cases hln:n<fn
       ·have aw:n<m.s.length:=by rw[H1.o.1];exact hln
        have aT:(n:Int)<(fn:Int):=oM;obtain⟨s,hs⟩:∃s,s=m.s[n]:=⟨_,rfl⟩;obtain⟨kk,dd,tt⟩:=s;have hS:=H2.o n aw;rw[<-hs]at hS;obtain⟨tv,s1,s2,s3,hsl⟩:=hS;obtain⟨ta,tc,rfl⟩:=hsl.form;have aP:tt.length<=4:=by
         have:=Oh H4.o n;unfold AH at this
         simpa[List.getD,aw,<-hs] using this
        have s3:wq.cell? (aD sb (so+n*3+2))=some (.slice ta tt.length tc):=(ag.cell (p:=(aD sb (so+n*3+2))) hsb).trans s3;have HS:Hd (m.s[n]=(kk,dd,tt)):=hs.symm;have a8:Hd (∀j,j<tt.length->∃b off,ta=some (aD b off)/\b<w.heap.size/\w.cell? (aD b (off+j))=some (iI (tt.getD j 0))):=hsl.cells.2.2.2;have a6:Hd (∀i,i<tt.length->Gb m.s (tt.getD i 0)=false->E=1):=fun i hi he=>F3.o an.o HG.o n aw i (by rw[HS.o];exact hi) (by rw[HS.o];exact he)
        obtain⟨tn,az⟩:=nM (tt.length);have aK:Hd (tt.length=tn):=az;rw[az]at s3 aP a8 a6;clear hs hsl s1 s2 az;go_wp2_with fail
        go_loopw [7] (fun i wp=>∃u:Nat,u<=tn/\i=iI u/\Hd (∀j,j<u->Gb m.s (tt.getD j 0)=true)/\Bw wq wp) (fun i _=>tn-(intOf i).toNat)
        case atStart=>exact⟨0,A7 _,rfl,fun j hj=>absurd hj oM,AG _ _⟩
        case round=>
         obtain⟨u,hu,rfl,HI,af⟩:=hrel;obtain⟨wp,al⟩:∃X,X=wr:=⟨_,rfl⟩;subst al;have am:w.heap.size<wq.heap.size:=(AA mq);have mp:=Ag mq af am;have ad:=Below.on ag af;clear c0 c1 c2 c3 c4;obtain⟨c0,c1,c2,c3,c4⟩:=five mp
         by_cases hun:u<tn
         ·obtain⟨b,off,rfl,hlt,av⟩:=a8.o u hun;have aQ:(u:Int)<(tn:Int):=oM;obtain⟨x,hx⟩:=nM (tt.getD u 0);rw[hx]at av;have HX:Hd (tt.getD u 0=x):=hx;have cx:wp.cell? (aD b (off+u))=some (iI x):=(ad.cell (p:=(aD b (off+u))) hlt).trans av;have ai:b<wp.heap.size:=AO hlt ad.size;have aj:w.heap.size<wp.heap.size:=(AA mp);clear hx av
          by_cases hx0:0<x
          ·obtain⟨K,hK⟩:=nM (G2 m.s x);have ab:=fun W (hW:Bw w W)=>SX (H6.o.below hW) (by rw[H1.o.1];omega) x hK
           have HK:Hd (G2 m.s x=K):=hK;clear hK
           cases hK1:K != 1 with
           | true=>
            have ae:Hd (E=1):=a6.o u hun (by rw[HX.o];unfold Gb;rw[HK.o,hK1,C3 hx0];rfl);go_wp2_with fail
            go_region_held3 (fun w'=>w'.cell? (aZ w.heap.size)=some (iI gm)/\w'.cell? (aD w.heap.size (0+1))=some (.slice ra rn rc)/\w'.cell? (aD w.heap.size (0+1+1))=some (lD sb so fn sc)/\w'.cell? (aD w.heap.size (0+1+1+1))=some (.slice fa fn fc)/\w'.cell? (aD w.heap.size (0+1+1+1+1))=some (.slice na q nc)/\w'.cell? (aD b (off+u))=some (iI x)) (first|exact⟨c0,c1,c2,c3,c4,cx⟩|exact⟨d0,d1,d2,d3,d4,e1⟩)
             (first|(go_at_call 174;refine(ab _ (Cg ad)).mono ?_;rintro e w2 ⟨rfl,b2⟩;have b2:=BR b2;have m2:=Ag mp b2 aj;obtain⟨d0,d1,d2,d3,d4⟩:=five m2;have e1:=(b2.cell (p:=(aD b (off+u))) ai).trans cx))
            go_wp2_with fail;go_ret;exact⟨Cj ae.o.symm,Below.on ad b2⟩
           | false=>
            have aq:Hd (Gb m.s x=true):=by show _=_;unfold Gb;rw[HK.o,hK1];simp
            go_wp2_with fail
            go_region_held3 (fun w'=>w'.cell? (aZ w.heap.size)=some (iI gm)/\w'.cell? (aD w.heap.size (0+1))=some (.slice ra rn rc)/\w'.cell? (aD w.heap.size (0+1+1))=some (lD sb so fn sc)/\w'.cell? (aD w.heap.size (0+1+1+1))=some (.slice fa fn fc)/\w'.cell? (aD w.heap.size (0+1+1+1+1))=some (.slice na q nc)/\w'.cell? (aD b (off+u))=some (iI x)) (first|exact⟨c0,c1,c2,c3,c4,cx⟩|exact⟨d0,d1,d2,d3,d4,e1⟩)
             (first|(go_at_call 174;refine(ab _ (Cg ad)).mono ?_;rintro e w2 ⟨rfl,b2⟩;have b2:=BR b2;have m2:=Ag mp b2 aj;obtain⟨d0,d1,d2,d3,d4⟩:=five m2;have e1:=(b2.cell (p:=(aD b (off+u))) ai).trans cx))
            go_wp2_with fail;go_roundw
            case rel=>exact⟨u+1,oM,by go_num,fun j hj=>by
             by_cases e:j=u
             ·subst e;rw[HX.o];exact aq.o
             ·exact HI.o j oM,Below.on af b2⟩
            case measure=>simp[intOf];omega
          ·have aV:x<=0:=oM;have aW:decide (0<x)=false:=Dn hx0;have aq:Hd (Gb m.s x=true):=by show _=_;unfold Gb;rw[Dn hx0];rfl
           go_wp2_with fail
           go_quiet(fail)
           go_wp2_with fail;go_roundw
           case rel=>exact⟨u+1,oM,by go_num,fun j hj=>by
            by_cases e:j=u
            ·subst e;rw[HX.o];exact aq.o
            ·exact HI.o j oM,⟨af.os,af.tape,af.output,af.size,af.block⟩⟩
           case measure=>simp[intOf];omega
         ·have e5:u=tn:=oM;subst e5;go_wp2_with fail;go_roundw
          case rel=>exact⟨n+1,oM,by go_num,fun j hj hj1=>by
           by_cases e:j=n
           ·subst e;rw[HS.o,Ax];intro y hy;obtain⟨i,hi,rfl⟩:=Ee hy;have:=HI.o i (by rw[<-aK.o];exact hi)
            simpa[List.getD,hi] using this
           ·exact HA.o j hj oM,Below.on ar af⟩
          case measure=>simp[intOf];omega
       ·have HT:Hd (Cm m.s=true):=by
         show _=_
         rw[<-Vg H4.o,Ax];intro s hs;obtain⟨j,hj,rfl⟩:=Ee hs;exact HA.o j hj (by rw[H1.o.1]at hj;omega)
        have e5:n=fn:=oM;clear HA F3;have ab:=Uu (H6.o.below ag) H4.o a7.o (H7.o.below ag) (rfl:Bk m.s gm m.r=_)
        cases hrt:Bk m.s gm m.r with
        | false=>
         rw[hrt]at ab;have ae:Hd (E=1):=F4.o an.o HG.o HT.o (⟨#[]⟩,m.g,m.r) CD (by rw[H1.o.2.2];exact hrt);clear hrt;subst e5;go_wp2_with(go_at_call 175;refine ab.mono ?_;rintro e w2 ⟨rfl,b2⟩);go_ret;exact⟨Cj ae.o.symm,Below.on ag b2⟩
        | true=>
         rw[hrt]at ab;have aJ:Hd (Bk m.s gm m.r=true):=hrt;clear hrt;subst e5;go_wp2_with(go_at_call 175;refine ab.mono ?_;rintro e w2 ⟨rfl,b2⟩);have am:w.heap.size<wq.heap.size:=(AA mq);have m2:=Ag mq b2 am;have au:=Below.on ag b2;clear ab
         go_loopw [8] (fun i wp=>∃u:Nat,u<=q/\i=iI u/\Hd (∀j,(h:j<m.p.length)->j<u->Bk m.s m.p[j].2.1 m.p[j].2.2=true)/\Bw w2 wp) (fun i _=>q-(intOf i).toNat)
         case atStart=>exact⟨0,A7 _,rfl,fun j _ hj=>absurd hj oM,AG _ _⟩
         case round=>
          obtain⟨u,hu,rfl,HA,af⟩:=hrel;obtain⟨wp,al⟩:∃X,X=wr:=⟨_,rfl⟩;subst al;have ax:w.heap.size<w2.heap.size:=(AA m2);have mp:=Ag m2 af ax;have ad:=Below.on au af;clear c0 c1 c2 c3 c4;obtain⟨c0,c1,c2,c3,c4⟩:=five mp;have aj:w.heap.size<wp.heap.size:=(AA mp)
          by_cases hlu:u<q
          ·have aF:u<m.p.length:=by rw[H1.o.2.1];exact hlu
           obtain⟨b,off,rfl,hlt,hS⟩:=H3.o u aF;obtain⟨s,hs⟩:∃s,s=m.p[u]:=⟨_,rfl⟩;obtain⟨nm,gg,rr⟩:=s;rw[<-hs]at hS;obtain⟨rv,s1,s2,s3,hsl⟩:=hS;have ak:(nm,gg,rr)∈BN m:=CA _ (by rw[hs];exact BS aF);have aA:BK gg=true:=Ax.1 HG.o _ ak;have ai:b<wp.heap.size:=AO hlt ad.size;have s2:wp.cell? (aD b (off+u*3+1))=some (iI gg):=(ad.cell (p:=(aD b (off+u*3+1))) hlt).trans s2;have s3:wp.cell? (aD b (off+u*3+2))=some rv:=(ad.cell (p:=(aD b (off+u*3+2))) hlt).trans s3;obtain⟨va,vc,rfl⟩:=hsl.form;have aQ:(u:Int)<(q:Int):=oM;obtain⟨B,hB⟩:=nM (Bk m.s gg rr);have ab:=fun W (hW:Bw w W)=>Uu (H6.o.below hW) H4.o aA (hsl.below hW) hB
           have HS:Hd (m.p[u]=(nm,gg,rr)/\Bk m.s gg rr=B/\(nm,gg,rr)∈BN m):=⟨hs.symm,hB,ak⟩;clear hs hsl s1 hB aA ak;go_wp2_with fail
           go_region_held3 (fun w'=>w'.cell? (aZ w.heap.size)=some (iI gm)/\w'.cell? (aD w.heap.size (0+1))=some (.slice ra rn rc)/\w'.cell? (aD w.heap.size (0+1+1))=some (lD sb so n sc)/\w'.cell? (aD w.heap.size (0+1+1+1))=some (.slice fa n fc)/\w'.cell? (aD w.heap.size (0+1+1+1+1))=some (lD b off q nc)/\w'.cell? (aD b (off+u*3+1))=some (iI gg)/\w'.cell? (aD b (off+u*3+2))=some (.slice va rr.length vc)) (first|exact⟨c0,c1,c2,c3,c4,s2,s3⟩|exact⟨d0,d1,d2,d3,d4,e1,e2⟩)
            (first|(go_at_call 175;refine(ab _ (Cg ad)).mono ?_;rintro e w3 ⟨rfl,b3⟩;have b3:=BR b3;have m3:=Ag mp b3 aj;obtain⟨d0,d1,d2,d3,d4⟩:=five m3;have e1:=(b3.cell (p:=(aD b (off+u*3+1))) ai).trans s2;have e2:=(b3.cell (p:=(aD b (off+u*3+2))) ai).trans s3))
           cases B with
           | false=>
            have ae:Hd (E=1):=F4.o an.o HG.o HT.o _ HS.o.2.2 HS.o.2.1;go_wp2_with fail;go_ret;exact⟨Cj ae.o.symm,Below.on ad b3⟩
           | true=>
            go_wp2_with fail;go_roundw
            case rel=>exact⟨u+1,oM,by go_num,fun j hj hj1=>by
             by_cases e:j=u
             ·subst e;rw[HS.o.1];exact HS.o.2.1
             ·exact HA.o j hj oM,Below.on af b3⟩
            case measure=>simp[intOf];omega
          ·have HR:Hd ((BN m).all (fun s=>Bk m.s s.2.1 s.2.2)=true):=by
            show _=_
            unfold BN;rw[GP,H1.o.2.2,aJ.o,Ff,Ax];intro s hs;obtain⟨j,hj,rfl⟩:=Ee hs;exact HA.o j hj (by rw[H1.o.2.1]at hj;omega)
           have ae:Hd (E=0):=F5.o an.o HG.o HT.o HR.o;have e6:u=q:=oM;subst e6;go_wp2_with fail;go_ret;exact⟨Cj ae.o.symm,ad⟩
theorem Do.at {sa:Option Addr}{sc:Nat}{L:List AE}(h:Do w (.slice sa n sc) L):∀j,(h:j<L.length)->∃sb so,sa=some (aD sb so)/\sb<w.heap.size/\FH w sb (so+j*3) L[j]:=by
 intro j hj;obtain⟨sb,so,ac,e,_,ab,aa⟩:=h.open oM;simp at e
 exact⟨sb,so,e.1,ab,aa j hj⟩
theorem UT (h:Al w v m)(hE:As m=E):Cl 121 #[v] w fun r w'=>r=.returned (iI E)/\Bw w w':=by
 have h':=h;obtain⟨ra,rc,sa,sc,fa,fc,na,nc,rfl,h1,h2,h3,h4⟩:=h.parts
 by_cases hm:decide ((1:Int)<=(m.s.length:Int)/\(m.s.length:Int)<=40)=false\/3<m.p.length
 ·have e2:E=2:=by
   rw[<-hE];unfold As
   by_cases h3:3<m.p.length
   ·rw[Ab h3]
   ·have hd:=hm.resolve_right h3;have:AD m.s=2:=by
     unfold AD;rw[Aa];intro hh;rw[C3 oM]at hd;cases hd
    rw[Aa h3,this,Ab dE]
  subst e2;exact ij m.g ra _ rc sa _ sc fa _ fc na _ nc w hm h4.small
 ·have hd:decide ((1:Int)<=(m.s.length:Int)/\(m.s.length:Int)<=40)=true:=by
   cases e:decide ((1:Int)<=(m.s.length:Int)/\(m.s.length:Int)<=40) with
   | true=>rfl
   | false=>exact absurd (.inl e) hm
  have ab:m.p.length<=3:=by
   rcases Dq 3 m.p.length with h|h
   ·exact absurd (.inr h) hm
   ·exact h
  by_cases hor:AD m.s≠0\/m.f.length≠m.s.length
  ·have e1:E=1:=by
    rw[<-hE];unfold As;rw[Aa oM]
    by_cases hs:AD m.s=0
    ·rw[Aa (by simpa using hs),Ab (.inl (hor.resolve_left (by simpa using hs)))]
    ·rw[Ab hs];rcases iB m.s with h|h|h
     ·exact absurd h hs
     ·exact h
     ·exfalso
      unfold AD at h;simp only[C4]at hd;rw[Ab oM]at h
      split at h<;>simp at h
   subst e1;exact ii m.g ra _ rc sa _ sc fa _ fc na _ nc m.s _ w hd ab h2 rfl h3.small hor
  ·have hs:AD m.s=0:=EW fun e=>hor (.inl e)
   have hr:m.f.length=m.s.length:=EW fun e=>hor (.inr e)
   have hp:=A4 hs;obtain⟨sb,so,ad,e,ac,hlt,aa⟩:=h2.open hp.1;simp at e
   obtain⟨rfl,rfl⟩:=e;exact ig m.g ra _ rc sb so _ sc fa _ fc na _ nc m E w h' rfl rfl rfl ab hr hlt aa hs h1 h4.at hE hr

def rl (n:Nat) (f:Nat->Int):List Int:=(List.range n).map f
theorem QC (n:Nat)(f:Nat->Int):(rl n f).length=n:=by simp[rl]
theorem Uo (h:j<n):(rl n f).getD j 0=f j:=by simp[rl,List.getD,h]
theorem Up {k:Nat}{g:Nat->Int}{x:Int}(hx:g k=x)(h:∀j,j<n->j≠k->g j=f j):(rl n f).set k x=rl n g:=by
 subst hx
 apply EX
 ·simp[rl]
 ·intro j h1 h2;have hj:j<n:=by simpa[rl] using h2
  rw[MM]
  by_cases e:k=j
  ·subst e;simp[rl]
  ·rw[Aa e];simp[rl];exact(h j hj (fun x=>e x.symm)).symm
theorem IJ {g:Nat->Int}(h:∀j,j<n->f j=g j):rl n f=rl n g:=Ef fun j hj=>h j (CR.1 hj)
theorem Lb (h:l.length=n):l=rl n (fun j=>l.getD j 0):=by
 subst h
 apply EX
 ·simp[rl]
 ·intro j h1 h2;simp[rl,List.getD,h1]
def f1 (P:List Int) (k j:Nat):Int:=if 1<=j/\j<k then ((P.count (j:Int):Nat):Int) else 0
def g1 (P:List Int) (j:Nat):Int:=if 1<=j then ((P.count (j:Int):Nat):Int) else 0
def g2 (L:List An) (P:List Int) (n j:Nat):Int:=if 1<=j/\j<n/\kd L j=1 then ((Db L P j:Nat):Int) else 0
def f2 (L:List An) (P:List Int) (n j:Nat):Int:=g1 P j+g2 L P n j
theorem Nt (h:1<=j):g1 P j=((P.count (j:Int):Nat):Int):=by unfold g1;rw[Ab h]
theorem Nu (h:1<=j/\j<n/\kd L j=1):g2 L P n j=((Db L P j:Nat):Int):=by unfold g2;rw[Ab h]
theorem JY (h:¬(1<=j/\j<n/\kd L j=1)):g2 L P n j=0:=by unfold g2;rw[Aa h]
theorem SB (h:j≠n\/kd L n≠1):g2 L P n j=g2 L P (n+1) j:=by
 by_cases c:1<=j/\j<n/\kd L j=1
 ·rw[Nu c,Nu ⟨c.1,oM,c.2.2⟩]
 ·rw[JY c,JY];rintro⟨d1,d2,d3⟩;refine c ⟨d1,?_,d3⟩;rcases Dq j n with h' | h'
  ·exact h'
  ·have:j=n:=oM;subst this;rcases h with h|h
   ·exact absurd rfl h
   ·exact absurd d3 h
def sT (L:List An) (P:List Int) (n k:Nat):Nat:=((List.range k).map (Cn L P n)).sum
def f3 (L:List An) (P:List Int) (n k j:Nat):Int:=if j=n then ((P.count (n:Int)+sT L P n k:Nat):Int) else f2 L P n j
theorem N7 (L:List An)(P:List Int)(n k:Nat):sT L P n (k+1)=sT L P n k+Cn L P n k:=by
 unfold sT;rw[DD,DQ,JE];simp
theorem gK (hs:AD L=0)(P:List Int)(n:Nat):sT L P n 1=0:=by
 rw[N7];unfold sT Cn;rw[Aa (by rw[DX hs];simp)];rfl
theorem UM {L:List An}(h:AD L=0)(P:List Int)(n:Nat):∀k,sT L P n k<=4*k
 | 0=>Bc _
 | k+1=>by
  rw[N7];have:=UM h P n k;have:Cn L P n k<=4:=by
   unfold Cn
   split
   ·exact Bg OE (Oh h k)
   ·omega
  omega
theorem Sp {q:Nat}(sn:Nat)(h:Cn L P n q=0):rl sn (f3 L P n q)=rl sn (f3 L P n (q+1)):=IJ fun j _=>by
 unfold f3;rw[N7,h];rfl
theorem c6 {A B:World}(h:CE g A B):CE g A B.drew:=⟨h.os,h.tape,h.output,h.size,h.block⟩
theorem XD (L:List An)(P:List Int)(sn:Nat):rl sn (f1 P sn)=rl sn (f2 L P 1):=IJ fun j hj=>by
 unfold f1 f2;rw[JY oM];unfold g1
 by_cases h:1<=j
 ·rw[Ab ⟨h,hj⟩,Ab h];simp
 ·rw[Aa oM,Aa h];rfl
theorem XF (hs:AD L=0)(P:List Int)(sn n:Nat)(hn:1<=n):rl sn (f2 L P n)=rl sn (f3 L P n 1):=IJ fun j _=>by
 unfold f3
 by_cases e:j=n
 ·subst e;rw[Ab rfl,gK hs];unfold f2;rw[Nt hn,JY oM];simp
 ·rw[Aa e]
theorem XH (P:List Int)(n:Nat)(hn:1<=n)(hk:kd L n=1):rl L.length (f3 L P n L.length)=rl L.length (f2 L P (n+1)):=IJ fun j _=>by
 unfold f3
 by_cases e:j=n
 ·subst e;rw[Ab rfl];unfold f2;rw[Nt hn,Nu ⟨hn,oM,hk⟩];unfold sT Db;omega
 ·rw[Aa e];unfold f2;rw[SB (.inl e)]
theorem XE (P:List Int)(sn n:Nat)(hk:kd L n≠1):rl sn (f2 L P n)=rl sn (f2 L P (n+1)):=IJ fun j _=>by
 unfold f2;rw[SB (.inr hk)]
theorem XG (h:As m=0):rl m.s.length (f2 m.s (AV m) m.s.length)=AL m:=by
 rw[Lb (EK m)];refine IJ fun j hj=>?_
 rw[E3 h j hj];obtain⟨z1,z2,z3,z4,z5,z6,z7⟩:=Au h;unfold f2 C5
 by_cases h1:1<=j
 ·rw[Nt h1,Aa oM]
  by_cases hk:kd m.s j=1
  ·rw[Nu ⟨h1,hj,hk⟩];omega
  ·rw[JY (fun d=>hk d.2.2),Mp z6 _ h1 hk];omega
 ·rw[JY oM,Ab oM];unfold g1;rw[Aa h1];rfl
theorem Yc (m:Ac)(q:Nat)(hq:q<m.p.length):(m.r++(m.p.take (q+1)).flatMap (fun s=>s.2.2))=(m.r++(m.p.take q).flatMap (fun s=>s.2.2))++m.p[q].2.2:=by
 rw[LA,Co hq,OZ,Hb,Ip];simp
theorem X8 (m:Ac):m.r++(m.p.take m.p.length).flatMap (fun s=>s.2.2)=AV m:=by
 rw[Fz];rfl
theorem fZ (h:As m=0):∀s∈BN m,s.2.2.length<=4:=fun s hs=>by
 obtain⟨z1,z2,z3,z4,z5,z6,z7⟩:=Au h;have h1:=Ax.1 z7 s hs;have h2:=Ax.1 z5 s hs;unfold Bk at h1;unfold BK at h2;simp only[B5,C4]at h1 h2;omega
set_option linter.unusedSimpArgs false in
theorem WP (gm:Int)(ra:Option Addr)(rn rc:Nat)(sb so:Nat)(sn sc:Nat)(fa:Option Addr)(fn fc:Nat)(na:Option Addr)(nn nc:Nat)(m:Ac)(w:World)(hsn:m.s.length=sn)(hnn:m.p.length=nn)(hsb:sb<w.heap.size)(hcl:∀j,(h:j<m.s.length)->B7 w sb (so+j*3) m.s[j])(hr:Sl w (.slice ra rn rc) m.r)(hna:∀j,(h:j<m.p.length)->∃b off,na=some (aD b off)/\b<w.heap.size/\FH w b (off+j*3) m.p[j])(hE:As m=0):Cl 122 #[.agg (bI gm ra rn rc (sD sb so) sn sc fa fn fc na nn nc)] w fun r w'=>(r=.returned (lZ (w.heap.size+1) sn sn)/\Bz w' (w.heap.size+1) (AL m))/\Bw w w':=by
 let V:=(w.alloc (cB gm ra rn rc (sD sb so) sn sc fa fn fc na nn nc))
 have b0:Bw w V:=Av;have m0:V.heap[w.heap.size]?=some (cB gm ra rn rc (sD sb so) sn sc fa fn fc na nn nc):=Aw _ _;obtain⟨z1,z2,z3,z4,z5,z6,z7⟩:=Au hE;have h40:sn<=40:=by rw[<-hsn];exact(A4 z2).2
 have aN:1<=sn:=by rw[<-hsn];exact(A4 z2).1
 have aQ:nn<=3:=by rw[<-hnn];exact z1
 have aG:=KY sn h40;have m1:=Aj m0 (.cells (Array.replicate sn (iI 0)) 3);have b1:Bw w (V.alloc (.cells (Array.replicate sn (iI 0)) 3)):=b0.alloc b0.size _;have l1:Bz (V.alloc (.cells (Array.replicate sn (iI 0)) 3)) (w.heap.size+1) (rl sn (f1 (AV m) 1)):=by
  have:=C2 V (.cells (Array.replicate sn (iI 0)) 3)
  show _=_
  have e:rl sn (f1 (AV m) 1)=List.replicate sn 0:=by
   rw[Lb (l:=List.replicate sn 0) (n:=sn) (by simp[V])];exact IJ fun j hj=>by unfold f1;rw[Aa oM];simp[V,List.getD,hj]
  rw[e]
  simpa[V] using this
 have H1:Hd (m.s.length=sn/\m.p.length=nn):=⟨hsn,hnn⟩;have H2:Hd (∀j,(h:j<m.s.length)->B7 w sb (so+j*3) m.s[j]):=hcl;have H3:Hd (∀j,(h:j<m.p.length)->∃b off,na=some (aD b off)/\b<w.heap.size/\FH w b (off+j*3) m.p[j]):=hna;have H4:Hd (AD m.s=0/\Cm m.s=true):=⟨z2,z6⟩;have H5:Hd (∀s∈BN m,s.2.2.length<=4):=fZ hE;have H6:Hd (As m=0):=hE;have H7:Hd (Sl w (.slice ra rn rc) m.r):=hr;clear z1 z2 z3 z4 z5 z6 z7 hsn hnn hcl hna hE hr;dsimp only[V]at *;clear V
 go_enter func122,ntmps122
 go_wp2_with fail;obtain⟨W1,am⟩:=nM ((w.alloc (cB gm ra rn rc (sD sb so) sn sc fa fn fc na nn nc)).alloc (.cells (Array.replicate sn (iI 0)) 3));have hg0:(w.alloc (cB gm ra rn rc (sD sb so) sn sc fa fn fc na nn nc)).heap.size=w.heap.size+1:=by simp
 have aM:W1.heap.size=w.heap.size+1+1:=by rw[<-am];simp
 have aS:w.heap.size+1<W1.heap.size:=oM;rw[am]at m1 b1 l1 ⊢;clear aG aM am m0 b0 hg0
 go_loopw [4,5,6] (fun i _ _ wq=>∃k:Nat,1<=k/\k<=sn/\i=iI k/\Bz wq (w.heap.size+1) (rl sn (f1 (AV m) k))/\CE (w.heap.size+1) W1 wq) (fun i _ _ _=>sn-(intOf i).toNat)
 case atStart=>exact⟨1,oM,oM,rfl,l1,CE.refl _ _⟩
 case round=>
  obtain⟨k,aE,hk,rfl,hL,hO⟩:=hrel;obtain⟨wa,af⟩:∃X,X=wr:=⟨_,rfl⟩;subst af;have mr:=hO.cellsAt oM m1;have c0:=five mr;have ab:Bw w wa:=b1.trans (hO.below oM)
  by_cases hlk:k<sn
  ·have aP:(k:Int)<(sn:Int):=oM;have hrt:=H7.o.below ab;have aa:=Q9 hrt (by have:=H5.o (⟨#[]⟩,m.g,m.r) CD;simp at this;omega) (k:Int) (rfl:((m.r.count (k:Int):Nat):Int)=_);have a8:m.r.count (k:Int)<=4:=by
    have h1:=H5.o (⟨#[]⟩,m.g,m.r) CD;have h2:m.r.count (k:Int)<=m.r.length:=OE;simp at h1;omega
   obtain⟨u0,ap⟩:=nM (m.r.count (k:Int));have ay:Hd (m.r.count (k:Int)=u0):=ap;rw[ap]at aa a8;clear hrt ap;go_wp2_with(go_at_call 176;refine aa.mono ?_;rintro e w' ⟨rfl,hw⟩;rw[hw];clear hw)
   go_loopw [5,6] (fun c i wq=>∃q u:Nat,q<=nn/\u<=4+4*q/\i=iI q/\c=iI u/\Hd (u=(m.r++(m.p.take q).flatMap (fun s=>s.2.2)).count (k:Int))/\wq=wa) (fun _ i _=>nn-(intOf i).toNat)
   case atStart=>exact⟨0,u0,A7 _,oM,rfl,rfl,by show _=_;rw[<-ay.o];simp,rfl⟩
   case round=>
    obtain⟨q,u,hq,hu,rfl,rfl,HU,hw⟩:=hrel;subst hw;obtain⟨wb,af⟩:∃X,X=wr:=⟨_,rfl⟩;subst af
    by_cases hlq:q<nn
    ·have ae:q<m.p.length:=by rw[H1.o.2];exact hlq
     obtain⟨b,off,rfl,hlt,hS⟩:=H3.o q ae;obtain⟨s,hs⟩:∃s,s=m.p[q]:=⟨_,rfl⟩;obtain⟨nm,gg,rr⟩:=s;rw[<-hs]at hS;obtain⟨rv,s1,s2,s3,hsl⟩:=hS;have aK:(q:Int)<(nn:Int):=oM;have s3:wb.cell? (aD b (off+q*3+2))=some rv:=(ab.cell (p:=(aD b (off+q*3+2))) hlt).trans s3;obtain⟨va,vc,rfl⟩:=hsl.form;have aL:rr.length<=4:=H5.o (nm,gg,rr) (CA _ (by rw[hs];exact BS ae));have ak:Sl w (.slice va rr.length vc) rr:=hsl;have ac:=Q9 (ak.below ab) (show rr.length<=1000000 by omega) (k:Int) (rfl:((rr.count (k:Int):Nat):Int)=_);have aq:rr.count (k:Int)<=4:=Bg OE aL;have HT:Hd ((m.r++(m.p.take (q+1)).flatMap (fun s=>s.2.2)).count (k:Int)=u+rr.count (k:Int)):=by
      show _=_
      rw[Yc m q ae,IY,<-HU.o,<-hs]
     obtain⟨v,hv⟩:=nM (rr.count (k:Int));rw[hv]at ac aq HT;clear hs hsl ak s1 s2 hv aa;go_wp2_with(go_at_call 176;refine ac.mono ?_;rintro e w' ⟨rfl,hw⟩;rw[hw];clear hw);go_roundw
     case rel=>exact⟨q+1,u+v,oM,oM,by go_num,by go_num,by show _=_;rw[HT.o],trivial⟩
     case measure=>simp[intOf];omega
    ·have HE:Hd (u=(AV m).count (k:Int)):=by
      show _=_
      rw[HU.o,<-X8,H1.o.2];have e:q=nn:=oM;rw[e]
     have e5:q=nn:=oM;subst e5;have aO:wb.cell? (aD (w.heap.size+1) k)=some (iI ((rl sn (f1 (AV m) k)).getD k 0)):=hL.cell (by rw[QC];exact hlk);have aC:=hL.frozen k;clear aa;go_wp2_with fail;go_roundw
     case rel=>exact⟨k+1,oM,oM,by go_num,by
      have:=hL.set k (u:Int)
      rwa [Up (g:=f1 (AV m) (k+1)) (by unfold f1;rw[Ab ⟨aE,oM⟩,<-HE.o]) (fun j _ hj=>by
       unfold f1
       by_cases c:1<=j/\j<k
       ·rw[Ab ⟨c.1,oM⟩,Ab c]
       ·rw[Aa (fun d=>c ⟨d.1,oM⟩),Aa c])]at this,hO.trans (CE.set _ _ _ _)⟩
     case measure=>simp[intOf];omega
  ·have e5:k=sn:=oM;subst e5;rw[XD m.s]at hL;go_wp2_with fail
   go_loopw [7,8] (fun i _ wq=>∃n:Nat,1<=n/\n<=k/\i=iI n/\Bz wq (w.heap.size+1) (rl k (f2 m.s (AV m) n))/\CE (w.heap.size+1) W1 wq) (fun i _ _=>k-(intOf i).toNat)
   case atStart=>exact⟨1,oM,oM,rfl,hL,hO⟩
   case round=>
    clear hL hO mr c0 ab;obtain⟨n,an,hn,rfl,hL,hO⟩:=hrel;obtain⟨wc,af⟩:∃X,X=wr:=⟨_,rfl⟩;subst af;have mr:=hO.cellsAt oM m1;have c0:=five mr;have ab:Bw w wc:=b1.trans (hO.below oM)
    by_cases hln:n<k
    ·have aR:(n:Int)<(k:Int):=oM;have au:n<m.s.length:=by rw[H1.o.1];exact hln
     obtain⟨tv,s1,_,_,_⟩:=H2.o n au;have ah:m.s[n].1=kd m.s n:=by unfold kd;simp[List.getD,au]
     rw[ah]at s1;obtain⟨K,hK⟩:=nM (kd m.s n);rw[hK]at s1;have s1:wc.cell? (aD sb (so+n*3))=some (iI K):=(ab.cell (p:=(aD sb (so+n*3))) hsb).trans s1;have HK:Hd (kd m.s n=K):=hK;clear hK ah
     by_cases hK1:K=1
     ·have az:(K != 1)=false:=by simp[hK1]
      have ag:Hd (K=1):=hK1;clear hK1;rw[XF H4.o.1 _ _ _ an]at hL;go_wp2_with fail
      go_loopw [8] (fun i wq=>∃q:Nat,1<=q/\q<=k/\i=iI q/\Bz wq (w.heap.size+1) (rl k (f3 m.s (AV m) n q))/\CE (w.heap.size+1) W1 wq) (fun i _=>k-(intOf i).toNat)
      case atStart=>exact⟨1,oM,oM,rfl,hL,hO⟩
      case round=>
       clear hL hO mr c0 ab;obtain⟨q,aJ,hq,rfl,hL,hO⟩:=hrel;obtain⟨wd,af⟩:∃X,X=wr:=⟨_,rfl⟩;subst af;have mr:=hO.cellsAt oM m1;have c0:=five mr;have ab:Bw w wd:=b1.trans (hO.below oM);clear s1
       by_cases hlq:q<k
       ·have aK:(q:Int)<(k:Int):=oM;have ae:q<m.s.length:=by rw[H1.o.1];exact hlq
        obtain⟨tv,t1,_,t3,hsl⟩:=H2.o q ae;have ah:m.s[q].1=kd m.s q:=by unfold kd;simp[List.getD,ae]
        rw[ah]at t1;obtain⟨Q,hQ⟩:=nM (kd m.s q);rw[hQ]at t1;have t1:wd.cell? (aD sb (so+q*3))=some (iI Q):=(ab.cell (p:=(aD sb (so+q*3))) hsb).trans t1;have t3:wd.cell? (aD sb (so+q*3+2))=some tv:=(ab.cell (p:=(aD sb (so+q*3+2))) hsb).trans t3;have HQ:Hd (kd m.s q=Q):=hQ;clear hQ ah
        by_cases hQ2:Q=2
        ·have a7:(Q == 2)=true:=by simp[hQ2]
         have aH:q≠n:=fun e=>by
          subst e;have:=HQ.o;rw[HK.o,ag.o,hQ2]at this;cases this
         have aB:wd.cell? (aD (w.heap.size+1) q)=some (iI (((AV m).count (q:Int):Nat):Int)):=by
          rw[hL.cell (by rw[QC];exact hlq),Uo hlq];unfold f3 f2;rw[Aa aH,Nt aJ,JY (fun d=>by have:=d.2.2;rw[HQ.o,hQ2]at this;cases this)];simp
         obtain⟨cq,ad⟩:=nM ((AV m).count (q:Int));rw[ad]at aB;have ar:Hd ((AV m).count (q:Int)=cq):=ad;have aw:Hd (Q=2):=hQ2;clear ad hQ2
         by_cases hpos:0<cq
         ·have aj:(0:Int)<(cq:Int):=oM;have ai:m.s[q].2.2=AH m.s q:=by unfold AH;simp[List.getD,ae]
          rw[ai]at hsl;have av:=Oh H4.o.1 (q:Int);obtain⟨va,vc,rfl⟩:=hsl.form;obtain⟨tl,ao⟩:=nM (AH m.s q);have ax:Hd (AH m.s q=tl):=ao;rw[ao]at t3 hsl av;have aa:=fun W (hW:Bw w W)=>Q9 (hsl.below hW) oM (n:Int) (rfl:((tl.count (n:Int):Nat):Int)=_)
          have aq:tl.count (n:Int)<=4:=Bg OE av;obtain⟨v,hv⟩:=nM (tl.count (n:Int));rw[hv]at aa aq;have HT:Hd (sT m.s (AV m) n (q+1)=sT m.s (AV m) n q+v):=by
           show _=_
           rw[N7];unfold Cn;rw[Ab ⟨by rw[HQ.o,aw.o],by rw[<-Fy,ar.o];exact hpos⟩,ax.o,hv]
          have aA:wd.cell? (aD (w.heap.size+1) n)=some (iI (((AV m).count (n:Int)+sT m.s (AV m) n q:Nat):Int)):=by
           rw[hL.cell (by rw[QC];exact hln),Uo hln];unfold f3;rw[Ab rfl]
          have aF:(AV m).count (n:Int)+sT m.s (AV m) n q<=0+160:=by
           rw[fX (PL H6.o) an (by rw[HK.o,ag.o];decide)];have:=UM H4.o.1 (AV m) n q;omega
          obtain⟨x,hx⟩:=nM ((AV m).count (n:Int)+sT m.s (AV m) n q);rw[hx]at aA aF;have HX:Hd ((AV m).count (n:Int)+sT m.s (AV m) n q=x):=hx;have aC:=hL.frozen n;clear hsl ao hv hx ai;go_wp2_with fail
          go_region_with (go_at_call 176;refine(aa _ (Cg ab)).mono ?_;rintro e w' ⟨rfl,hw⟩;rw[hw];clear hw)
          all_goals
           go_wp2_with fail;go_roundw
           case rel=>exact⟨q+1,oM,oM,by go_num,by
            have a6:Bz wd.drew (w.heap.size+1) (rl k (f3 m.s (AV m) n q)):=hL;have:=a6.set n ((x:Int)+(v:Int))
            rwa [Up (g:=f3 m.s (AV m) n (q+1)) (by unfold f3;rw[Ab rfl,HT.o,<-Kj,HX.o];omega) (fun j _ hj=>by unfold f3;rw[Aa hj,Aa hj])]at this,(c6 hO).trans (CE.set _ _ _ _)⟩
           case measure=>simp[intOf];omega
         ·have aj:¬(0:Int)<(cq:Int):=oM;have HZ:Hd (Cn m.s (AV m) n q=0):=by
           show _=_
           unfold Cn;rw[Aa];intro d;have:=Fy.2 d.2;rw[ar.o]at this;exact hpos this
          go_wp2_with fail;go_roundw
          case rel=>exact⟨q+1,oM,oM,by go_num,by rw[<-Sp _ HZ.o];exact hL,hO⟩
          case measure=>simp[intOf];omega
        ·have a7:(Q == 2)=false:=by simp[hQ2]
         have HZ:Hd (Cn m.s (AV m) n q=0):=by
          show _=_
          unfold Cn;rw[Aa];intro d;exact hQ2 (by rw[<-HQ.o];exact d.1)
         clear hQ2;go_wp2_with fail;go_roundw
         case rel=>exact⟨q+1,oM,oM,by go_num,by rw[<-Sp _ HZ.o];exact hL,hO⟩
         case measure=>simp[intOf];omega
       ·have e6:q=k:=oM;subst e6;have al:Bz wd (w.heap.size+1) (rl q (f2 m.s (AV m) (n+1))):=by
         have:=XH (AV m) n an (by rw[HK.o,ag.o]);rw[H1.o.1]at this;rw[<-this];exact hL
        go_wp2_with fail;go_roundw
        case rel=>exact⟨n+1,oM,oM,by go_num,al,hO⟩
        case measure=>simp[intOf];omega
     ·have az:(K != 1)=true:=by simp[hK1]
      have ag:Hd (kd m.s n≠1):=by show _≠_;rw[HK.o];exact hK1
      clear hK1;go_wp2_with fail;go_roundw
      case rel=>exact⟨n+1,oM,oM,by go_num,by rw[<-XE _ _ _ ag.o];exact hL,hO⟩
      case measure=>simp[intOf];omega
    ·have e6:n=k:=oM;subst e6;have al:Bz wc (w.heap.size+1) (AL m):=by
      rw[<-XG H6.o,H1.o.1];exact hL
     go_wp2_with fail;go_ret;exact⟨⟨rfl,al⟩,ab⟩
theorem R3 (h:Al w v m)(hE:As m=0):Cl 122 #[v] w fun r w'=>(r=.returned (lZ (w.heap.size+1) m.s.length m.s.length)/\Bz w' (w.heap.size+1) (AL m))/\Bw w w':=by
 obtain⟨ra,rc,sa,sc,fa,fc,na,nc,rfl,h1,h2,_,h4⟩:=h.parts;have hp:=A4 (Au hE).2.1;obtain⟨sb,so,ac,e,ab,hlt,aa⟩:=h2.open hp.1;simp at e
 obtain⟨rfl,rfl⟩:=e;exact WP m.g ra _ rc sb so _ sc fa _ fc na _ nc m w rfl rfl hlt aa h1 h4.at hE

def Be (m:Ac) (root:List Int) (n:Nat):Int:=if root.getD (n/4) 0=0 then 0 else (AH m.s (root.getD (n/4) 0)).getD (n%4) 0
def Br (m:Ac) (n:Int):Int:=if Ao m≠0 then Ao m else if 0<=n/\n<m.g then 0 else 3
theorem ZN (gm:Int)(ra:Option Addr)(rn rc:Nat)(sa:Option Addr)(sn sc:Nat)(fa:Option Addr)(fn fc:Nat)(na:Option Addr)(nn nc:Nat)(m:Ac)(E n:Int)(w:World)(h:Al w (.agg (bI gm ra rn rc sa sn sc fa fn fc na nn nc)) m)(hE:Ao m=E)(hne:(E != 0)=true):Cl 89 #[.agg (bI gm ra rn rc sa sn sc fa fn fc na nn nc),iI n] w fun r w'=>r=.returned (.tuple #[iI 0,iI E])/\Bw w w':=by
 have b0:Bw w (w.alloc (cB gm ra rn rc sa sn sc fa fn fc na nn nc)):=Av;have aa:=EU (h.below b0) hE;clear h hE
 go_enter func89,ntmps89
 go_wp2_with(go_at_call 38;refine aa.mono ?_;rintro e w1 ⟨rfl,b1⟩)
 go_ret2
 exact⟨rfl,Below.on b0 b1⟩
theorem ZP (gm:Int)(ra:Option Addr)(rn rc:Nat)(sa:Option Addr)(sn sc:Nat)(fa:Option Addr)(fn fc:Nat)(na:Option Addr)(nn nc:Nat)(m:Ac)(n:Int)(w:World)(h:Al w (.agg (bI gm ra rn rc sa sn sc fa fn fc na nn nc)) m)(hE:Ao m=0)(hn:n<0\/gm<=n):Cl 89 #[.agg (bI gm ra rn rc sa sn sc fa fn fc na nn nc),iI n] w fun r w'=>r=.returned (.tuple #[iI 0,iI 3])/\Bw w w':=by
 have b0:Bw w (w.alloc (cB gm ra rn rc sa sn sc fa fn fc na nn nc)):=Av;have m0:(w.alloc (cB gm ra rn rc sa sn sc fa fn fc na nn nc)).heap[w.heap.size]?=some (cB gm ra rn rc sa sn sc fa fn fc na nn nc):=Aw _ _;have aa:=EU (h.below b0) hE;clear h hE
 by_cases h0:n<0
 ·clear hn
  go_enter func89,ntmps89
  go_wp2_with(go_at_call 38;refine aa.mono ?_;rintro e w1 ⟨rfl,b1⟩)
  go_ret2
  exact⟨rfl,Below.on b0 b1⟩
 ·have h1:gm<=n:=oM;clear hn
  go_enter func89,ntmps89
  go_wp2_with(go_at_call 38;refine aa.mono ?_;rintro e w1 ⟨rfl,b1⟩;have m1:=Ag m0 b1 (by simp);have c0:=five m1)
  go_ret2
  exact⟨rfl,Below.on b0 b1⟩
theorem ZO (gm:Int)(rb ro:Nat)(rn rc:Nat)(sa:Option Addr)(sn sc:Nat)(fa:Option Addr)(fn fc:Nat)(na:Option Addr)(nn nc:Nat)(m:Ac)(n:Nat)(w:World)(h:Al w (.agg (bI gm (sD rb ro) rn rc sa sn sc fa fn fc na nn nc)) m)(hE:Ao m=0)(hn:(n:Int)<gm)(hrn:n/4<rn)(hn16:n<16)(hrb:rb<w.heap.size)(hc:w.cell? (aD rb (ro+n/4))=some (iI 0)):Cl 89 #[.agg (bI gm (sD rb ro) rn rc sa sn sc fa fn fc na nn nc),iI n] w fun r w'=>r=.returned (.tuple #[iI 0,iI 0])/\Bw w w':=by
 have b0:Bw w (w.alloc (cB gm (sD rb ro) rn rc sa sn sc fa fn fc na nn nc)):=Av;have m0:(w.alloc (cB gm (sD rb ro) rn rc sa sn sc fa fn fc na nn nc)).heap[w.heap.size]?=some (cB gm (sD rb ro) rn rc sa sn sc fa fn fc na nn nc):=Aw _ _;have aa:=EU (h.below b0) hE;have hq:((n:Int)/4).toNat=n/4:=oM;clear h hE
 go_enter func89,ntmps89
 go_wp2_with(go_at_call 38;refine aa.mono ?_;rintro e w1 ⟨rfl,b1⟩;have m1:=Ag m0 b1 (by simp);have c0:=five m1;have cr:w1.cell? (aD rb (ro+n/4))=some (iI 0):=((Below.on b0 b1).cell (p:=(aD rb (ro+n/4))) hrb).trans hc)
 go_ret2
 exact⟨rfl,Below.on b0 b1⟩
theorem ZR (gm:Int)(rb ro:Nat)(rn rc:Nat)(sb so:Nat)(sn sc:Nat)(fa:Option Addr)(fn fc:Nat)(na:Option Addr)(nn nc:Nat)(m:Ac)(n t:Nat)(w:World)(h:Al w (.agg (bI gm (sD rb ro) rn rc (sD sb so) sn sc fa fn fc na nn nc)) m)(hE:Ao m=0)(hn:(n:Int)<gm)(hrn:n/4<rn)(hn16:n<16)(hrb:rb<w.heap.size)(hc:w.cell? (aD rb (ro+n/4))=some (iI t))(ht0:0<t)(ht:t<sn)(hsb:sb<w.heap.size)(tb tw tc:Nat)(hct:w.cell? (aD sb (so+t*3+2))=some (lD tb tw 4 tc))(htb:tb<w.heap.size)(x:Int)(hx:w.cell? (aD tb (tw+n%4))=some (iI x)):Cl 89 #[.agg (bI gm (sD rb ro) rn rc (sD sb so) sn sc fa fn fc na nn nc),iI n] w fun r w'=>r=.returned (.tuple #[iI x,iI 0])/\Bw w w':=by
 let V:=(cB gm (sD rb ro) rn rc (sD sb so) sn sc fa fn fc na nn nc)
 have b0:Bw w (w.alloc V):=Av;have m0:(w.alloc V).heap[w.heap.size]?=some V:=Aw _ _;have aa:=EU (h.below b0) hE;have hq:((n:Int)/4).toNat=n/4:=oM;have ab:((n:Int)%4).toNat=n%4:=oM;have hne:((t:Int) == 0)=false:=by simp[V];omega
 have h4:n%4<4:=oM;clear h hE;dsimp only[V]at *;clear V
 go_enter func89,ntmps89
 go_wp2_with(go_at_call 38;refine aa.mono ?_;rintro e w1 ⟨rfl,b1⟩;have m1:=Ag m0 b1 (by simp);have c0:=five m1;have cr:w1.cell? (aD rb (ro+n/4))=some (iI t):=((Below.on b0 b1).cell (p:=(aD rb (ro+n/4))) hrb).trans hc;have ct:w1.cell? (aD sb (so+t*3+2))=some (lD tb tw 4 tc):=((Below.on b0 b1).cell (p:=(aD sb (so+t*3+2))) hsb).trans hct;have cx:w1.cell? (aD tb (tw+n%4))=some (iI x):=((Below.on b0 b1).cell (p:=(aD tb (tw+n%4))) htb).trans hx)
 go_ret2
 exact⟨rfl,Below.on b0 b1⟩
theorem A0 (h:Ao m=0):As m=0:=by
 unfold Ao at h
 split at h
 ·rename_i h1;exact absurd h h1
 ·rename_i h1;simpa using h1
theorem Jl (h:Al w v m)(n:Int)(hE:Br m n=E)(hc:(if E=0 then Be m m.r n.toNat else 0)=c):Cl 89 #[v,iI n] w fun r w'=>r=.returned (.tuple #[iI c,iI E])/\Bw w w':=by
 have h':=h;obtain⟨ra,rc,sa,sc,fa,fc,na,nc,rfl,h1,h2,h3,h4⟩:=h.parts;unfold Br at hE
 by_cases h0:Ao m=0
 ·rw[Aa (by simpa using h0)]at hE
  by_cases hn:0<=n/\n<m.g
  ·rw[Ab hn]at hE;subst hE;rw[Ab rfl]at hc;obtain⟨k,rfl⟩:∃k:Nat,n=k:=⟨n.toNat,oM⟩;rw[A5]at hc;obtain⟨z1,z2,z3,z4,z5,z6,z7⟩:=Au (A0 h0);have hg:BK m.g=true:=Ax.1 z5 (⟨#[]⟩,m.g,m.r) CD;have hrf:Bk m.s m.g m.r=true:=Ax.1 z7 (⟨#[]⟩,m.g,m.r) CD;unfold BK at hg;simp only[C4]at hg;unfold Bk at hrf;simp only[B5,C4]at hrf;have hkl:k/4<m.r.length:=oM;have ad:=E2 hrf.2.1 hkl;obtain⟨rb,ro,aj,e,_,ae,aa⟩:=h1.open oM;simp at e
   obtain⟨rfl,rfl⟩:=e;have ab:=aa (k/4) hkl;unfold Be at hc
   by_cases hz:m.r.getD (k/4) 0=0
   ·rw[Ab hz]at hc;subst hc;rw[hz]at ab;exact ZO m.g rb ro _ rc sa _ sc fa _ fc na _ nc m k w h' h0 hn.2 hkl oM ae ab
   ·rw[Aa hz]at hc;rw[E9 hz]at ad;obtain⟨t,ht,ac,hkd⟩:=Gz ad;have hok:=J5 (DO z2 ac) hkd;obtain⟨sb,so,ak,e,_,ag,af⟩:=h2.open oM;simp at e
    obtain⟨rfl,rfl⟩:=e;obtain⟨tv,_,_,c3,hsl⟩:=af t ac;obtain⟨tb,tw,tc,rfl,_,ah,ai⟩:=hsl.four hok.1;rw[ht]at ab hc hz;have e4:AH m.s (t:Int)=m.s[t].2.2:=by unfold AH;simp[List.getD,ac]
    rw[e4]at hc;have hx:=ai (k%4) oM;rw[hc]at hx;exact ZR m.g rb ro _ rc sb so _ sc fa _ fc na _ nc m k t w h' h0 hn.2 hkl oM ae ab oM ac ag tb tw tc c3 ah c hx
  ·rw[Aa hn]at hE;subst hE;rw[Aa dE]at hc;subst hc;exact ZP m.g ra _ rc sa _ sc fa _ fc na _ nc m n w h' h0 oM
 ·rw[Ab h0]at hE;rw[Aa (by rw[<-hE];exact h0)]at hc;subst hc;exact ZN m.g ra _ rc sa _ sc fa _ fc na _ nc m E n w h' hE (by rw[<-hE];simpa using h0)
def Z4:ByteArray:=⟨#[0,0,0,0]⟩
theorem IB (h:Ao m=0):As m=0/\AL m=m.f/\∀j,j<m.s.length->EO m j=true:=by
 have hs:=A0 h;unfold Ao at h;rw[Aa (by simpa using hs)]at h
 split at h
 ·simp at h
 ·rename_i hc
  split at h
  ·rename_i ha
   exact⟨hs,Lr.1 hc,fun j hj=>Ax.1 ha j (by simpa using hj)⟩
  ·simp at h
theorem DS (h:j<l.length):l.getD j 0=l[j]:=by simp[List.getD,h]
theorem Dg (h:As m=0):0<=m.g/\m.g<=16:=by
 have:=Ax.1 (Au h).2.2.2.2.1 (⟨#[]⟩,m.g,m.r) CD;unfold BK at this
 simpa using this
theorem CQ (h:As m=0):(m.r.length:Int)=(m.g+3)/4/\m.r.all (BZ m.s)=true:=by
 have:=Ax.1 (Au h).2.2.2.2.2.2 (⟨#[]⟩,m.g,m.r) CD;unfold Bk at this;simp only[B5,C4]at this;exact⟨this.1,this.2.1⟩
theorem J2 (h:As m=0){root:List Int}(hall:root.all (BZ m.s)=true)(n:Nat)(hl:n/4<root.length):Be m root n=0\/Be m root n = -1\/∃j:Nat,Be m root n=j/\1<=j/\j<m.s.length/\kd m.s j=1:=by
 obtain⟨z1,z2,z3,z4,z5,z6,z7⟩:=Au h;unfold Be
 by_cases hz:root.getD (n/4) 0=0
 ·rw[Ab hz];exact .inl rfl
 rw[Aa hz];have aa:=E2 hall hl;rw[E9 hz]at aa;have h4:=Mu z2 aa;have hm:n%4<(AH m.s (root.getD (n/4) 0)).length:=oM;have e:(AH m.s (root.getD (n/4) 0)).getD (n%4) 0=(AH m.s (root.getD (n/4) 0))[n%4]:=DS hm;rw[e];rcases Mt z6 _ (BS hm) with g|g|⟨j,g1,g2,g3⟩
 ·exact .inl g
 ·exact .inr (.inl g)
 ·refine .inr (.inr ⟨j,g1,?_,g2,g3⟩);rcases Eg j with e|e
  ·subst e;rw[DX z2]at g3;simp at g3
  ·exact e
theorem NP (hC:Ao m=0){k:Nat}(hk:(k:Int)<m.g):Br m k=0:=by
 unfold Br;rw[Aa (by simpa using hC),Ab ⟨oM,hk⟩]
def Fp (L:List An) (e:Int):ByteArray:=if e<=0 then Z4 else (L.getD e.toNat default).2.1
def Jp (m:Ac) (n:Int):ByteArray:=if Br m n=0 then Fp m.s (Be m m.r n.toNat) else ByteArray.empty
def G0 (o:Option Nat):Int:=match o with|some k=>(k:Int)|none=>-1
def BU (S:List AE) (nm:ByteArray):Option Nat:=S.findIdx? (fun s=>s.1.toList == nm.toList)
def CW (m:Ac) (nm:ByteArray):Int:=if Ao m≠0 then Ao m else match BU m.p nm with|some _=>0|none=>5
theorem QV {S:List AE}{nm:ByteArray}{k:Nat}(h:BU S nm=some k):k<S.length:=by
 unfold BU at h;rw[OH]at h;exact h.1

def C9:An:=(0,⟨#[]⟩,[])
def EP (L:List An) (c:List Int):List An:=(List.range L.length).map (fun j=>if c.getD j 0=0 then C9 else L.getD j default)
def At (m:Ac):Ac:={m with f:=AL m,s:=EP m.s (AL m)}
theorem KH (L:List An)(c:List Int):(EP L c).length=L.length:=by simp[EP]
theorem JX {c:List Int}(hj:j<L.length):(EP L c).getD j default=if c.getD j 0=0 then C9 else L.getD j default:=by
 unfold EP;simp only[List.getD,Dm,List.getElem?_range hj,It,Rx]
theorem PQ {c:List Int}(hj:j<L.length)(hc:c.getD j 0≠0):(EP L c).getD j default=L.getD j default:=by
 rw[JX hj,Aa hc]
theorem PP {c:List Int}(hj:j<L.length)(hc:c.getD j 0=0):(EP L c).getD j default=C9:=by
 rw[JX hj,Ab hc]
theorem L6 {f:Nat->Nat}:∀ {n k:Nat},k<n->f k<=((List.range n).map f).sum
 | 0,_,h=>absurd h oM
 | n+1,k,h=>by
  rw[DD,DQ,JE]
  by_cases e:k=n
  ·subst e;simp
  ·have:=L6 (f:=f) (n:=n) (k:=k) oM;simp;omega
theorem U8 {f:Nat->Nat}:∀ {n:Nat},0<((List.range n).map f).sum->∃k,k<n/\0<f k
 | 0,h=>absurd h (by simp)
 | n+1,h=>by
  rw[DD,DQ,JE]at h
  by_cases e:0<f n
  ·exact⟨n,oM,e⟩
  ·obtain⟨k,hk,hf⟩:=U8 (f:=f) (n:=n) (by simp at h;omega);exact⟨k,oM,hf⟩
theorem Il (h:As m=0)(hj:(j:Int)∈AV m)(h1:1<=j):j<m.s.length/\kd m.s j=2/\(AL m).getD j 0≠0:=by
 rcases Jr (PL h _ hj) with e|⟨i,e,hi,hk⟩
 ·omega
 ·have:j=i:=oM;subst this;refine⟨hi,hk,?_⟩;rw[E3 h j hi];unfold C5;have:=Fy.2 hj;rw[Aa oM];omega
theorem Q8 (h:As m=0)(hj:(j:Int)∈AV m)(h1:1<=j)(hi:(i:Int)∈AH m.s j)(hi1:1<=i):i<m.s.length/\kd m.s i=1/\(AL m).getD i 0≠0:=by
 obtain⟨aa,hk,_⟩:=Il h hj h1;rcases Mt (Au h).2.2.2.2.2.1 _ hi with e|e|⟨q,e,hq,ab⟩
 ·omega
 ·omega
 ·have:i=q:=oM;subst this;refine⟨hq,ab,?_⟩;rw[E3 h i hq];unfold C5;rw[Aa oM];have h2:Cn m.s (AV m) i j<=Db m.s (AV m) i:=L6 aa;have h3:Cn m.s (AV m) i j=(AH m.s j).count (i:Int):=by unfold Cn;rw[Ab ⟨hk,hj⟩]
  have:=Fy.2 hi;omega
theorem Pl (h:As m=0)(hj:j<m.s.length)(hc:(AL m).getD j 0≠0):1<=j/\((kd m.s j=2/\(j:Int)∈AV m)\/(kd m.s j=1/\∃k:Nat,1<=k/\(k:Int)∈AV m/\kd m.s k=2/\(j:Int)∈AH m.s k)):=by
 obtain⟨z1,z2,z3,z4,z5,z6,z7⟩:=Au h;rw[E3 h j hj]at hc;unfold C5 at hc
 by_cases h0:j=0
 ·rw[Ab h0]at hc;exact absurd rfl hc
 rw[Aa h0]at hc;refine⟨oM,?_⟩
 by_cases hp:0<(AV m).count (j:Int)
 ·have hm:=Fy.1 hp;exact .inl ⟨(Il h hm oM).2.1,hm⟩
 ·obtain⟨k,hk,hf⟩:=U8 (f:=Cn m.s (AV m) j) (n:=m.s.length) (by
   have:0<Db m.s (AV m) j:=oM;exact this)
  unfold Cn at hf
  split at hf
  ·rename_i hc2
   have hm:=Fy.1 hf;have k1:1<=k:=by
    rcases Eg k with e|e
    ·subst e;rw[DX z2]at hc2;simp at hc2
    ·exact e
   exact .inr ⟨(Q8 h hc2.2 k1 hm oM).2.1,k,k1,hc2.2,hc2.1,hm⟩
  ·omega
theorem NF (hj:j<m.s.length)(hc:(AL m).getD j 0≠0):kd (At m).s j=kd m.s j:=by
 unfold kd At;dsimp only;rw[PQ hj hc]
theorem Vc (hj:j<m.s.length)(hc:(AL m).getD j 0≠0):AH (At m).s j=AH m.s j:=by
 unfold AH At;dsimp only;rw[A5,PQ hj hc]
theorem Ji (hj:j<L.length)(hk:kd L j=k):C6 L j k=true:=by
 rw[P0 hj];unfold kd at hk;simp[List.getD,hj]at hk
 simp[hk]
theorem UB (m:Ac):BN (At m)=BN m:=rfl
theorem Ya (m:Ac):AV (At m)=AV m:=rfl
theorem cW:B1 C9=true:=by decide
theorem D6 (hj:j<L.length):L[j]=L.getD j default:=by simp[List.getD,hj]
theorem Pp (h:As m=0):As (At m)=0:=by
 obtain⟨z1,z2,z3,z4,z5,z6,z7⟩:=Au h;have hp:=A4 z2;have hlen:(At m).s.length=m.s.length:=KH _ _;have hs:AD (At m).s=0:=by
  refine Mm (by rw[hlen];exact hp.1) (by rw[hlen];exact hp.2) (fun j hj=>?_) ?_
  ·rw[hlen]at hj;rw[D6 (by rw[hlen];exact hj)]
   show B1 ((EP m.s (AL m)).getD j default)=true
   rw[JX hj]
   split
   ·exact cW
   ·rw[<-D6 hj];exact DO z2 hj
  ·rw[D6 (by rw[hlen];exact hp.1)]
   show ((EP m.s (AL m)).getD 0 default).1=0
   rw[JX hp.1]
   split
   ·rfl
   ·exact DX z2
 have ht:Cm (At m).s=true:=by
  unfold Cm;rw[Ax];intro s hsm;obtain⟨j,hj,rfl⟩:=Ee hsm;rw[hlen]at hj;rw[D6 (by rw[hlen];exact hj),Ax]
  show ∀e∈((EP m.s (AL m)).getD j default).2.2,tabE (At m).s e=true
  intro e he
  by_cases hc:(AL m).getD j 0=0
  ·rw[PP hj hc]at he;cases he
  ·rw[PQ hj hc]at he;have ad:e∈AH m.s (j:Int):=by unfold AH;rw[A5];exact he
   obtain⟨j1,aa⟩:=Pl h hj hc;rcases aa with⟨hk,hjm⟩|⟨hk,_⟩
   ·rcases Mt z6 _ ad with e0|e1|⟨i,rfl,hi,ac⟩
    ·rw[e0];rfl
    ·rw[e1];rfl
    ·have i1:1<=i:=by
      rcases Eg i with e|e
      ·subst e;rw[DX z2]at ac;simp at ac
      ·exact e
     obtain⟨_,_,af⟩:=Q8 h hjm j1 ad i1;rw[IP oM oM];exact Ji (by rw[hlen];exact hi) (by rw[NF hi af];exact ac)
   ·exfalso
    have ok:=DO z2 hj;rw[D6 hj]at ok;unfold kd at hk;unfold B1 Cb at ok;rw[Aa (by rw[hk];decide),Ab hk]at ok
    generalize m.s.getD j default=s at hk ok he
    simp at ok
    rw[ok.2]at he;cases he
 have hr:(BN (At m)).all (fun s=>Bk (At m).s s.2.1 s.2.2)=true:=by
  rw[UB,Ax];intro s hsm;have hf:=Ax.1 z7 s hsm;have ab:∀k∈s.2.2,k∈AV m:=fun k hk=>by unfold AV;rw[I3];exact⟨s,hsm,hk⟩
  unfold Bk at hf ⊢;simp only[B5]at hf ⊢;refine⟨hf.1,?_,?_⟩
  ·rw[Ax];intro k hk;rcases Jr (Ax.1 hf.2.1 k hk) with e|⟨j,rfl,hj,hk2⟩
   ·rw[e];rfl
   ·have j1:1<=j:=by
     rcases Eg j with e|e
     ·subst e;rw[DX z2]at hk2;simp at hk2
     ·exact e
    rw[E9 oM];obtain⟨_,_,hc⟩:=Il h (ab _ hk) j1;exact Ji (by rw[hlen];exact hj) (by rw[NF hj hc];exact hk2)
  ·have hl:=hf.2.2;unfold Gd at hl ⊢
   by_cases hg:s.2.1%4=0
   ·simp[hg]
   ·have ag:(s.2.1%4 == 0)=false:=by simpa using hg
    rw[ag,EF]at hl ⊢
    by_cases hx:s.2.2.getD (s.2.2.length-1) 0=0
    ·rw[hx];rfl
    ·have ah:(s.2.2.getD (s.2.2.length-1) 0 == 0)=false:=by simpa using hx
     rw[ah,EF]at hl ⊢;have hne:s.2.2.length-1<s.2.2.length:=by
      rcases Eg s.2.2.length with e|e
      ·exfalso;apply hx;rw[Iq.1 e];rfl
      ·omega
     have hE:=E2 hf.2.1 hne;have ae:s.2.2.getD (s.2.2.length-1) 0∈AV m:=ab _ (by rw[DS hne];exact BS hne)
     generalize s.2.2.getD (s.2.2.length-1) 0=x at hE ae hl hx ⊢
     rcases Jr hE with e|⟨j,rfl,hj,hk2⟩
     ·exact absurd e hx
     ·obtain⟨_,_,hc⟩:=Il h ae oM;rw[Vc hj hc];exact hl
 unfold As;rw[Aa (by show ¬3<m.p.length;omega),Aa (by simpa using hs),Aa,Aa (by rw[UB,z5];decide),Aa (by rw[ht];decide),Aa (by rw[hr];decide)];rintro(e|e)
 ·exact e (by rw[hlen];exact EK m)
 ·have:Cr m.p=false:=e;rw[z4]at this;cases this
theorem R2 (h:As m=0):AL (At m)=AL m:=by
 have hlen:(At m).s.length=m.s.length:=KH _ _;rw[Lb (EK (At m)),Lb (EK m),hlen];refine IJ fun j hj=>?_
 rw[E3 (Pp h) j (by rw[hlen];exact hj),E3 h j hj,Ya];unfold C5
 by_cases h0:j=0
 ·rw[Ab h0,Ab h0]
 rw[Aa h0,Aa h0];have e:Db (At m).s (AV m) j=Db m.s (AV m) j:=by
  unfold Db;rw[hlen];refine Mq _ fun k hk=>?_
  unfold Cn
  by_cases hm:(k:Int)∈AV m
  ·by_cases k0:k=0
   ·subst k0;rw[Aa (by rw[DX (Au (Pp h)).2.1];simp),Aa (by rw[DX (Au h).2.1];simp)]
   ·obtain⟨_,_,hc⟩:=Il h hm oM;rw[NF hk hc,Vc hk hc]
  ·rw[Aa (fun x=>hm x.2),Aa (fun x=>hm x.2)]
 rw[e]
theorem KD (h:As m=0):Ao (At m)=0:=by
 have hlen:(At m).s.length=m.s.length:=KH _ _;unfold Ao;rw[Aa (by simpa using Pp h),R2 h];have e:(At m).f=AL m:=rfl;rw[e,Aa (by simp),Ab];rw[Ax];intro j hj;have hj:j<m.s.length:=by rw[<-hlen];simpa using hj
 unfold EO;rw[R2 h]
 by_cases hc:(AL m).getD j 0=0
 ·have:((At m).s.getD j default).1=0:=by show ((EP m.s (AL m)).getD j default).1=0;rw[PP hj hc];rfl
  rw[this,hc];rfl
 ·obtain⟨_,hk⟩:=Pl h hj hc;have hne:kd m.s j≠0:=by
   rcases hk with⟨e,_⟩|⟨e,_⟩
   ·rw[e];decide
   ·rw[e];decide
  have e1:((At m).s.getD j default).1=kd m.s j:=NF hj hc;have e2:(((At m).s.getD j default).1 == 0)=false:=by rw[e1];simpa using hne
  have e3:((AL m).getD j 0 == 0)=false:=by simpa using hc
  rw[e2,e3];rfl
theorem Ni (h:Ao m=0):At m=m:=by
 obtain⟨hs,hc,hf⟩:=IB h;unfold At;have e:EP m.s (AL m)=m.s:=by
  apply EX
  ·exact KH _ _
  ·intro j h1 h2;rw[D6 h1,D6 h2,JX h2]
   split
   ·rename_i hz
    have aa:=hf j h2;unfold EO at aa;rw[hz]at aa;have hk:(m.s.getD j default).1=0:=by simpa using aa
    have ok:=DO (Au hs).2.1 h2;rw[D6 h2]at ok;unfold B1 Cb at ok;rw[Ab hk]at ok
    generalize m.s.getD j default=s at hk ok
    obtain⟨a,b,c⟩:=s;simp at hk ok
    subst hk;rw[ok.1,ok.2];rfl
   ·rfl
 rw[e,hc]

theorem GC (h:kd L j≠0):j<L.length:=by
 rcases Dq j L.length with h' | h'
 ·exact h'
 ·exfalso;apply h;unfold kd;rw[show L.getD j default=default by simp[List.getD,Nat.not_lt.2 h']];rfl
theorem iO (h:L'.getD j default=L.getD j default):AH L' j=AH L j:=by
 unfold AH;rw[A5,h]
theorem SR (h:L'.getD j default=L.getD j default):kd L' j=kd L j:=by
 unfold kd;rw[h]
structure Dj (L L':List An) (t:Nat) (es:List Int):Prop where
 len:L'.length<=40
 keep:∀j,j≠t->kd L j≠0->L'.getD j default=L.getD j default
 tab:L'.getD t default=(2,⟨#[]⟩,es)
 page:kd L t≠1
 ok:∀j,j<L'.length->B1 (L'.getD j default)=true
 head:kd L' 0=0
 tabs:∀j,j≠t->kd L' j=2->kd L j=2
 ents:∀e∈es,tabE L' e=true
theorem Dj.kdt (h:Dj L L' t es):kd L' t=2:=by unfold kd;rw[h.tab]
theorem Dj.tlt (h:Dj L L' t es):t<L'.length:=GC (by rw[h.kdt];decide)
theorem Dj.t1 (h:Dj L L' t es):1<=t:=by
 rcases Eg t with e|e
 ·have:=h.kdt;rw[e,h.head]at this;simp at this
 ·exact e
theorem Dj.tabt (h:Dj L L' t es):AH L' t=es:=by unfold AH;rw[A5,h.tab]
theorem Dj.data (h:Dj L L' t es)(hj:kd L j=1):L'.getD j default=L.getD j default:=
 h.keep j (fun e=>h.page (by rw[<-e];exact hj)) (by rw[hj];decide)
theorem Dj.s (h:Dj L L' t es):AD L'=0:=by
 refine Mm (by have:=h.tlt;omega) h.len (fun j hj=>?_) ?_
 ·rw[D6 hj];exact h.ok j hj
 ·rw[D6];exact h.head
theorem Dj.tabE (h:Dj L L' t es)(h0:AD L=0)(he:tabE L e=true):Go.Proofs.YtfciijncfbepjaaGreatDoor.tabE L' e=true:=by
 rcases Ms he with e0|e1|⟨j,rfl,hj,hk⟩
 ·rw[e0];rfl
 ·rw[e1];rfl
 ·have j1:1<=j:=by
   rcases Eg j with e|e
   ·subst e;rw[DX h0]at hk;simp at hk
   ·exact e
  rw[IP oM oM];have hd:=h.data hk;have aa:kd L' j=1:=by rw[SR hd];exact hk
  exact Ji (GC (by rw[aa];decide)) aa
theorem Dj.fit (h:Dj L L' t es)(h0:AD L=0)(hf:Cm L=true):Cm L'=true:=by
 unfold Cm;rw[Ax];intro s hs;obtain⟨j,hj,rfl⟩:=Ee hs;rw[D6 hj,Ax];intro e he
 by_cases hjt:j=t
 ·subst hjt;rw[h.tab]at he;exact h.ents e he
 ·by_cases hk:kd L' j=2
  ·have hk0:=h.tabs j hjt hk;have aa:=h.keep j hjt (by rw[hk0];decide);rw[aa]at he;have ab:e∈AH L (j:Int):=by unfold AH;rw[A5];exact he
   exact h.tabE h0 (Ax.1 (Oi hf j) e ab)
  ·exfalso
   have ok:=h.ok j hj;unfold kd at hk;unfold B1 Cb at ok
   generalize L'.getD j default=s at ok hk he
   rw[Aa (c:=s.1=2) hk]at ok
   split at ok
   ·simp at ok;rw[ok.2]at he;cases he
   split at ok
   ·simp at ok;rw[ok.2]at he;cases he
   ·cases ok
structure Jc (m:Ac) (k t:Nat):Prop where
 r:∀i,i<m.r.length->i≠k->m.r.getD i 0≠(t:Int)
 snap:∀s∈m.p,(t:Int) ∉ s.2.2
def FQ (m:Ac) (k t:Nat) (L':List An) (rf:List Int):Ac:={m with r:=m.r.set k (t:Int),s:=L',f:=rf}
theorem Ld (h:Dj L L' t es)(h0:AD L=0){x:Int}(hx:BZ L x=true)(hne:x≠(t:Int)):BZ L' x=true/\AH L' x=AH L x:=by
 rcases Jr hx with e|⟨j,rfl,hj,hk⟩
 ·subst e;refine⟨rfl,?_⟩;have a:AH L 0=[]:=by
   have ok:=DO h0 (A4 h0).1;rw[D6 (A4 h0).1]at ok;have hk:=DX h0;unfold kd at hk;unfold B1 Cb at ok;rw[Ab hk]at ok;simp at ok
   unfold AH
   simpa using ok.2
  have hs:=h.s;have b:AH L' 0=[]:=by
   have ok:=DO hs (A4 hs).1;rw[D6 (A4 hs).1]at ok;have hk:=h.head;unfold kd at hk;unfold B1 Cb at ok;rw[Ab hk]at ok;simp at ok
   unfold AH
   simpa using ok.2
  rw[a,b]
 ·have hjt:j≠t:=fun e=>hne (by rw[e])
  have aa:=h.keep j hjt (by rw[hk];decide);have ab:kd L' j=2:=by rw[SR aa];exact hk
  have j1:1<=j:=by
   rcases Eg j with e|e
   ·subst e;rw[DX h0]at hk;simp at hk
   ·exact e
  refine⟨?_,iO aa⟩;rw[E9 oM];exact Ji (GC (by rw[ab];decide)) ab
theorem fO (h:Dj L L' t es)(h0:AD L=0){g:Int}(hf:Bk L g r=true)(hne:(t:Int) ∉ r):Bk L' g r=true:=by
 unfold Bk at hf ⊢;simp only[B5,C4]at hf ⊢;refine⟨hf.1,?_,?_⟩
 ·rw[Ax];intro x hx;exact(Ld h h0 (Ax.1 hf.2.1 x hx) (fun e=>hne (e ▸ hx))).1
 ·have hl:=hf.2.2;unfold Gd at hl ⊢
  by_cases hr:r.length=0
  ·rw[Iq.1 hr];simp
  ·have hlt:r.length-1<r.length:=oM;have aa:r.getD (r.length-1) 0∈r:=by rw[DS hlt];exact BS hlt
   rw[(Ld h h0 (E2 hf.2.1 hlt) (fun e=>hne (e ▸ aa))).2];exact hl
theorem iP {k:Nat}(h:As m=0)(hk:k<m.r.length)(hx:Dj m.s L' t es)(hl:Jc m k t)(hrf:rf.length=L'.length)(hlast:k=m.r.length-1->m.g%4≠0->(es.drop (m.g%4).toNat).all (fun e=>e == 0)=true):As (FQ m k t L' rf)=0:=by
 obtain⟨z1,z2,z3,z4,z5,z6,z7⟩:=Au h;have hs:=hx.s;have ht:=hx.fit z2 z6;have aa:=Ax.1 z7 (⟨#[]⟩,m.g,m.r) CD;dsimp only at aa;have hr:Bk L' m.g (m.r.set k (t:Int))=true:=by
  unfold Bk at aa ⊢;simp only[B5,C4]at aa ⊢;refine⟨by rw[Bi];exact aa.1,?_,?_⟩
  ·rw[Ax];intro x ae;obtain⟨j,hj,rfl⟩:=Ee ae;rw[Bi]at hj;rw[MM]
   by_cases e:k=j
   ·rw[Ab e,E9 (by have:=hx.t1;omega)];exact Ji hx.tlt hx.kdt
   ·rw[Aa e];have hE:=E2 aa.2.1 hj;have hn:=hl.r j hj (fun x=>e x.symm);rw[DS hj]at hE hn;exact(Ld hx z2 hE hn).1
  ·unfold Gd;rw[Bi,Fm]
   by_cases hg:m.g%4=0
   ·simp[hg]
   have ad:(m.g%4 == 0)=false:=by simpa using hg
   rw[ad,EF];have hlt:m.r.length-1<m.r.length:=oM
   by_cases e:k=m.r.length-1
   ·rw[Ab ⟨e,hlt⟩,hx.tabt];have:=hlast e hg;rw[this];simp
   ·rw[Aa (fun x=>e x.1)];have ab:=aa.2.2;unfold Gd at ab;rw[ad,EF]at ab;rw[(Ld hx z2 (E2 aa.2.1 hlt) (hl.r _ hlt (fun x=>e x.symm))).2];exact ab
 have hall:(BN (FQ m k t L' rf)).all (fun s=>Bk L' s.2.1 s.2.2)=true:=by
  show (((⟨#[]⟩,m.g,m.r.set k (t:Int)):AE)::m.p).all _=true
  rw[GP,hr,Ff,Ax];intro s hsm;exact fO hx z2 (Ax.1 z7 s (CA _ hsm)) (hl.snap s hsm)
 have ac:(BN (FQ m k t L' rf)).all (fun s=>BK s.2.1)=true:=by
  show (((⟨#[]⟩,m.g,m.r.set k (t:Int)):AE)::m.p).all _=true
  have:=z5;unfold BN at this;rw[GP]at this ⊢;exact this
 unfold As;rw[Aa (by show ¬3<m.p.length;omega),Aa (by show ¬AD L'≠0;simpa using hs),Aa,Aa (by rw[ac];decide),Aa (by show ¬Cm L'=false;rw[ht];decide),Aa (by have e:=hall;show ¬((BN (FQ m k t L' rf)).all fun s=>Bk L' s.2.1 s.2.2)=false;rw[e];decide)];rintro(e|e)
 ·exact e hrf
 ·have:Cr m.p=false:=e;rw[z4]at this;cases this
theorem ZS {k:Nat}(hx:Dj m.s L' t es)(h0:AD m.s=0)(hl:Jc m k t)(hall:m.r.all (BZ m.s)=true)(n:Nat)(hn:n/4<m.r.length):Be (FQ m k t L' rf) (m.r.set k (t:Int)) n=if n/4=k then es.getD (n%4) 0 else Be m m.r n:=by
 have hg:=Fm m.r k (n/4) (t:Int)
 by_cases e:n/4=k
 ·rw[Ab (⟨e.symm,hn⟩:k=n/4/\n/4<m.r.length)]at hg;unfold Be;rw[hg,Ab e,Aa (by have:=hx.t1;omega)]
  show (AH L' (t:Int)).getD (n%4) 0=_
  rw[hx.tabt]
 ·rw[Aa (fun x=>e x.1.symm)]at hg;rw[Aa e];unfold Be;rw[hg]
  by_cases hz:m.r.getD (n/4) 0=0
  ·rw[Ab hz,Ab hz]
  ·rw[Aa hz,Aa hz]
   show (AH L' _).getD (n%4) 0=_
   rw[(Ld hx h0 (E2 hall hn) (hl.r _ hn e)).2]
theorem ZQ {k:Nat}(hx:Dj m.s L' t es)(h0:AD m.s=0)(hall:r.all (BZ m.s)=true)(hne:(t:Int) ∉ r)(n:Nat)(hn:n/4<r.length):Be (FQ m k t L' rf) r n=Be m r n:=by
 unfold Be
 by_cases hz:r.getD (n/4) 0=0
 ·rw[Ab hz,Ab hz]
 ·rw[Aa hz,Aa hz]
  show (AH L' _).getD (n%4) 0=_
  rw[(Ld hx h0 (E2 hall hn) (fun e=>hne (by rw[<-e,DS hn];exact BS hn))).2]
theorem dD (hx:Dj L L' t es)(he:e=0\/e = -1\/∃j:Nat,e=j/\1<=j/\j<L.length/\kd L j=1):Fp L' e=Fp L e:=by
 unfold Fp;rcases he with rfl|rfl|⟨j,rfl,j1,hj,hk⟩
 ·rfl
 ·rfl
 ·rw[Aa oM,Aa oM,A5,hx.data hk]
def E0 (L:List An) (g:Nat):Prop:=1<=g/\g<=L.length/\(∀j,(h:j<L.length)->1<=j->j<g->(L[j]).1≠0)/\∀h:g<L.length,(L[g]).1=0
theorem E0.unique {g':Nat}(h:E0 L g)(k:E0 L g'):g=g':=by
 obtain⟨h1,h2,h3,h4⟩:=h;obtain⟨k1,k2,k3,k4⟩:=k;rcases OS g g' with e|e|e
 ·exact absurd (h4 oM) (k3 g oM h1 e)
 ·exact e
 ·exact absurd (k4 oM) (h3 g' oM k1 e)
theorem YK (b off cap n:Nat)(L:List An)(w:World)(hn:L.length=n)(h1:1<=n)(h40:n<=40)(hlt:b<w.heap.size)(hc:∀j,(h:j<L.length)->B7 w b (off+j*3) L[j])(hs:BA w (lD b off n cap) L)(hE:AD L=0):Cl 160 #[lD b off n cap] w fun r w'=>((E0 L 40/\r=.returned (.tuple #[iI 0,iI 7]))\/∃g:Nat,g<40/\E0 L g/\r=.returned (.tuple #[iI g,iI 0]))/\Bw w w':=by
 have HC:Hd (∀j,(h:j<L.length)->B7 w b (off+j*3) L[j]):=hc;have HN:Hd (L.length=n):=hn;have HE:Hd (AD L=0):=hE;clear hc hn hE
 go_enter func160,ntmps160
 go_wp2_with(go_at_call 113;refine(Pg _ L _ hs).mono ?_;rintro e w1 ⟨he,b1⟩;rw[HE.o]at he;subst he)
 go_loop [5] (fun i=>∃k:Nat,1<=k/\k<=n/\i=iI k/\∀j,(h:j<L.length)->1<=j->j<k->(L[j]).1≠0) (fun i=>n-(intOf i).toNat)
 case atStart=>exact⟨1,Bc _,h1,rfl,fun j h hj hj'=>absurd hj' oM⟩
 case round=>
  obtain⟨k,ac,hk,rfl,hall⟩:=hrel;have HA:Hd (∀j,(h:j<L.length)->1<=j->j<k->(L[j]).1≠0):=hall;clear hall;have ab:∀g:Nat,E0 L g->g=k->((E0 L 40/\(k:Int)=40)\/(k:Int)≠40):=fun g hg e=>by
   subst e
   by_cases e:(g:Int)=40
   ·have:g=40:=oM;subst this;exact .inl ⟨hg,rfl⟩
   ·exact .inr e
  have HF:Hd (∀g:Nat,E0 L g->g=k->((E0 L 40/\(k:Int)=40)\/(k:Int)≠40)):=ab;clear ab
  by_cases hlk:k<n
  ·obtain⟨s,aa⟩:∃s,s=L[k]'(by rw[HN.o];exact hlk):=⟨_,rfl⟩;obtain⟨kk,dd,tt⟩:=s;have hS:B7 w b (off+k*3) (kk,dd,tt):=by rw[aa];exact HC.o k _
   obtain⟨tv,c1,_,_,_⟩:=hS;have c1:w1.cell? (aD b (off+k*3))=some (iI kk):=(b1.cell (p:=(aD b (off+k*3))) hlt).trans c1;have HS:Hd ((kk,dd,tt)=L[k]'(by rw[HN.o];exact hlk)):=aa;clear aa;have ae:(k:Int)<(n:Int):=oM
   by_cases h0:kk=0
   ·have ad:(kk != 0)=false:=by simp[h0]
    have H0:Hd (kk=0):=h0;clear h0;have hne:((k:Int) == 40)=false:=by simp;omega
    have HG:Hd (E0 L k):=⟨ac,by rw[HN.o];exact hk,HA.o,fun h=>by rw[<-HS.o];exact H0.o⟩
    go_wp2
    go_ret2
    exact⟨.inr ⟨k,oM,HG.o,rfl⟩,b1⟩
   ·have ad:(kk != 0)=true:=by simp[h0]
    go_wp2
    go_round
    case rel=>exact⟨k+1,oM,oM,by go_num,fun j h hj hj'=>by
     by_cases e:j=k
     ·subst e;rw[<-HS.o];exact h0
     ·exact HA.o j h hj oM⟩
    case measure=>simp[intOf];omega
  ·have e4:k=n:=oM;subst e4;have HG:Hd (E0 L k):=⟨ac,by rw[HN.o];exact hk,HA.o,fun h=>absurd h (by rw[HN.o];omega)⟩
   by_cases e40:k=40
   ·subst e40
    go_wp2
    go_ret2
    exact⟨.inl ⟨HG.o,rfl⟩,b1⟩
   ·have hne:((k:Int) == 40)=false:=by simp;omega
    go_wp2
    go_ret2
    exact⟨.inr ⟨k,oM,HG.o,rfl⟩,b1⟩
theorem YL (v:Value)(L:List An)(w:World)(h:BA w v L)(hE:AD L=0):Cl 160 #[v] w fun r w'=>((E0 L 40/\r=.returned (.tuple #[iI 0,iI 7]))\/∃g:Nat,g<40/\E0 L g/\r=.returned (.tuple #[iI g,iI 0]))/\Bw w w':=by
 have hs:=h;obtain⟨b,off,cap,rfl,ab,hlt,aa⟩:=h.open (A4 hE).1;exact YK b off cap _ L w rfl (A4 hE).1 (A4 hE).2 hlt aa hs hE
end Go.Proofs.YtfciijncfbepjaaGreatDoor
