/- Texts joined: FrO, SkF, SkO, PkO, WrC0, WrG, WrH, UpP, UpI, PkQ1, PkQ2, WiC, DkJ, DkK, DkR, DkW, SnI, SnD. -/
import Derived.Test.YtfciijncfbepjaaGreatDoorDeskPlaysJ3
import Derived.Test.YtfciijncfbepjaaGreatDoorDeskPlaysJ7
import Derived.Test.YtfciijncfbepjaaGreatDoorDeskPlaysJ2
import Derived.Test.YtfciijncfbepjaaGreatDoorDeskPlaysJ9
import Derived.Test.YtfciijncfbepjaaGreatDoorDeskPlaysJ4
import Derived.Deep.CutRange
import Derived.Test.YtfciijncfbepjaaGreatDoorDeskPlaysJ8
import Derived.Test.YtfciijncfbepjaaGreatDoorDeskPlaysJ6
import Derived.Test.YtfciijncfbepjaaGreatDoorDeskPlaysJ5
import Derived.Deep.RegionLaw
import Derived.Lib.SplitLaws
import Derived.Lib.ReplaceLaws
import Derived.Lib.AppendZerosOnto
import Derived.Lib.Overlaps
import Derived.Shelf.Spec.SlicesInsert
set_option linter.unusedVariables false
set_option linter.unusedSimpArgs false
set_option maxHeartbeats 200000000
set_option maxRecDepth 20000
namespace Go.Proofs.YtfciijncfbepjaaGreatDoor
open Go.Proofs.Tryz
variable {W X Y w w' w1:World}{B D c i k n wn:Nat}{a:Act}{b od ofr os:Option Nat}{o:Oper}{K:Act->World->Prop}{Q:Exit->Act->World->Prop}{v v':Value}{L cur x xs:List Value}{M m:Ac}{R:List Int}{oc:Option Value}{E:Nat->Int}
open Go.RowKit Go.Shelf
structure FZ (w1 X:World) (wn:Nat) (a b c:Option Nat):Prop where
 bel:Bw w1 X
 r:∀g,a=some g->w1.heap.size<=g/\X.heap[g]?=some (.cells (Array.replicate wn (iI 0)) 3)
 s:∀g,b=some g->w1.heap.size<=g/\X.heap[g]?=some zS
 f:∀g,c=some g->w1.heap.size<=g/\X.heap[g]?=some (oI 0)
theorem FZ.on {a c:Option Nat}(h:FZ w1 X wn a b c)(hb:Bw X Y):FZ w1 Y wn a b c:=
 ⟨h.bel.trans (hb.mono h.bel.size),fun g e=>⟨(h.r g e).1,Ag (h.r g e).2 hb (B6.1 (h.r g e).2).1⟩,fun g e=>⟨(h.s g e).1,Ag (h.s g e).2 hb (B6.1 (h.s g e).2).1⟩,fun g e=>⟨(h.f g e).1,Ag (h.f g e).2 hb (B6.1 (h.f g e).2).1⟩⟩
theorem FZ.r1 {c:Option Nat}(h:FZ w1 X wn none b c):FZ w1 (X.alloc (.cells (Array.replicate wn (iI 0)) 3)) wn (some X.heap.size) b c:=⟨h.bel.alloc h.bel.size _,fun g e=>by cases e;exact⟨h.bel.size,Aw _ _⟩,(h.on (Av)).s,(h.on (Av)).f⟩
theorem FZ.s1 {a c:Option Nat}(h:FZ w1 X wn a none c):FZ w1 (X.alloc zS) wn a (some X.heap.size) c:=⟨h.bel.alloc h.bel.size _,(h.on (Av)).r,fun g e=>by cases e;exact⟨h.bel.size,Aw _ _⟩,(h.on (Av)).f⟩
theorem FZ.f1 {a:Option Nat}(h:FZ w1 X wn a b none):FZ w1 (X.alloc (oI 0)) wn a b (some X.heap.size):=⟨h.bel.alloc h.bel.size _,(h.on (Av)).r,(h.on (Av)).s,fun g e=>by cases e;exact⟨h.bel.size,Aw _ _⟩⟩
theorem Yl (g wn:Nat)(w:World)(hwn:wn<=40)(HWa:Hd (∀W,Cl 24 #[iI (g:Int)] W fun r w'=>r=.returned (iI (wn:Int))/\w'=W)):Cl 12 #[iI (g:Int)] w (fun r w'=>∃gr gs gf,r=.returned (.agg #[iI (g:Int),lZ gr wn wn,lZ gs 1 1,lZ gf 1 1,nl])/\w'.heap[gr]?=some (.cells (Array.replicate wn (iI 0)) 3)/\w'.heap[gs]?=some zS/\w'.heap[gf]?=some (oI 0)/\w.heap.size<=gr/\w.heap.size<=gs/\w.heap.size<=gf/\Bw w w'):=by
 have mz:(w.alloc zI).heap[w.heap.size]?=some zI:=Aw _ _;have b0:Bw w (w.alloc zI):=Av;have p0:w.heap.size+1<=(w.alloc zI).heap.size:=by simp
 have ac:∀W,(Instr.makeSlice 29 (iI (wn:Int)) (iI (wn:Int))).run prog W=.ok (lZ W.heap.size wn wn) (W.alloc (.cells (Array.replicate wn (iI 0)) 3)):=fun W=>by have:=KY wn hwn W;simpa using this
 have hm1:∀w,(Instr.makeSlice 30 (iI 1) (iI 1)).run prog w=.ok (lZ w.heap.size 1 1) (w.alloc zS):=fun _=>by kernel_rfl
 have ab:∀w,(Instr.makeSlice 29 (iI 1) (iI 1)).run prog w=.ok (lZ w.heap.size 1 1) (w.alloc (oI 0)):=fun _=>by kernel_rfl
 go_enter func12,ntmps12
 go_upto_region 1 with fail;obtain⟨w1,aa⟩:=nM (w.alloc zI);rw[aa]at mz b0 p0 ⊢;clear aa;refine BT (S:=(fun X:World=>True)) kR trivial (fun hHeld=>?_);refine Ar 0 (iI (g:Int)) ?_;refine Ar 1 (iI (g:Int)) ?_;simp only[lays];have M:FZ w1 w1.drew wn none none none:=⟨Cg Eu,fun _ h=>(by cases h),fun _ h=>(by cases h),fun _ h=>(by cases h)⟩;obtain⟨X,hX⟩:=nM (w1.drew);rw[hX]at M ⊢;clear hX
 repeat' (refine Ig [2,3,4,5,6,7] (.c rfl ?_ (.c rfl ?_ (.c rfl ?_ (.c rfl ?_ (.c rfl ?_ (.c rfl ?_ .n))))))<;>(intro t hc K hK;first|exact absurd hc (by decide +kernel)|(clear hc hHeld;simp only[lays];rw[Ab (by rfl)];first
  | (have _:Tg 2:=t;clear t;go_wp2_with(go_at_call 24;refine(HWa.o _).mono ?_;rintro e9 w9 ⟨rfl,hw⟩;rw[hw];clear hw);refine hK.out _ _ trivial (fun hHeld=>?_);clear hK K;try simp only[lays])
  | (have _:Tg 3:=t;clear t;go_simp;obtain⟨X,hX⟩:=nM (X.alloc (.cells (Array.replicate wn (iI 0)) 3));replace M:=M.r1;rw[hX]at M ⊢;clear hX;refine hK.out _ _ trivial (fun hHeld=>?_);clear hK K;try simp only[lays])
  | (have _:Tg 4:=t;clear t;go_simp;obtain⟨X,hX⟩:=nM (X.alloc zS);replace M:=M.s1;rw[hX]at M ⊢;clear hX;refine hK.out _ _ trivial (fun hHeld=>?_);clear hK K;try simp only[lays])
  | (have _:Tg 5:=t;clear t;go_simp;obtain⟨X,hX⟩:=nM (X.alloc (oI 0));replace M:=M.f1;rw[hX]at M ⊢;clear hX;refine hK.out _ _ trivial (fun hHeld=>?_);clear hK K;try simp only[lays])
  | (have _:Tg 6:=t;clear t;go_simp;refine hK.out _ _ trivial (fun hHeld=>?_);clear hK K;try simp only[lays])
  | (have _:Tg 7:=t;clear t;have mX:=Ag mz M.bel p0;have z0:=five mX;have y0:=Aq mX;go_simp;refine hK.out _ _ trivial (fun hHeld=>?_);clear hK K hHeld;refine BQ kR ?_ _;go_wp2_with fail;refine AY (by simp[results,results12,go_sem,z0]) rfl ⟨_,_,_,rfl,(Jf _ _ _ _ _ _ (by have:=(M.r _ rfl).1;omega)).trans (M.r _ rfl).2,(Jf _ _ _ _ _ _ (by have:=(M.s _ rfl).1;omega)).trans (M.s _ rfl).2,(Jf _ _ _ _ _ _ (by have:=(M.f _ rfl).1;omega)).trans (M.f _ rfl).2,Bg b0.size (M.r _ rfl).1,Bg b0.size (M.s _ rfl).1,Bg b0.size (M.f _ rfl).1,CP (b0.trans (M.bel.mono b0.size)) lE _ _ _ _ _⟩))))
theorem fC (L:List An):AJ L 1=1:=rfl
theorem fE (L:List An)(k:Nat):AJ L (k+1)=AJ L k+if kept L k=true then 1 else 0:=by
 unfold AJ;rw[DD,Ha,Bl]
 congr 1
 by_cases h:kept L k=true<;>simp[Lw,h]
theorem Rm (s x:Operand)(ho:o.op=.call {callee:=.builtin .append,args:=#[s,x],argTypes:=#[29,29]}){xs:List Int}{e:Int}(hs:a.eval s=v){N:Nat}(hx:a.eval x=lZ N 1 1)(hN:N=W.heap.size)(hown:W.ownsRow B 3 1 v n (Ae xs))(hn:n<=1000)(hB:B<=W.heap.size)(h:∀v' w',Hd (w'.ownsRow B 3 1 v' (n+1) (Ae (xs++[e])))->Hd ((W.alloc (oI e)).grownBy w' v.ownBlock)->Hd (v'.ownBlock=v.ownBlock\/v'.ownBlock=some (W.heap.size+1))->K (a.put o.dst v') w'):o.wp prog a (W.alloc (oI e)) K Q:=by
 subst hN;obtain⟨i0,hi,hz0,aa,ab⟩:=Fj info3;obtain⟨v',w',hr,g2,g3,_,g5⟩:=run_append_own_at (P:=prog) (W.alloc (oI e)) B 29 o.type 3 i0 (iI 0) 1 8 underlying29 hi hz0 aa ab rfl dE v n (Ae xs) (hown.alloc _) (aZ W.heap.size) 1 1 [iI e] rfl (TD W _) (by intro u hu;simp at hu;subst hu;rfl) (by unfold maxLen;omega) oM (by simp;omega);unfold Oper.wp execOp;simp only[ho,resolve,invoke,builtin,Sem.run_bind,Sem.run_pure,GS,GQ,Dc,Gr,hs,hx,hr];have g6:v'.ownBlock=v.ownBlock\/v'.ownBlock=some (W.heap.size+1):=by simpa using g5
 have e1:Ae (xs++[e])=Ae xs++[iI e]:=by unfold Ae;simp
 exact h v' w' (by rw[e1];exact g2) g3 g6
theorem Uf (j:Int)(ra:Option Addr)(rc:Nat)(sa:Option Addr)(sc:Nat)(fa:Option Addr)(fc:Nat)(na:Option Addr)(nc:Nat)(m:Ac)(w:World)(hj:j<=0):Cl 119 #[.agg #[iI m.g,.slice ra m.r.length rc,.slice sa m.s.length sc,.slice fa m.f.length fc,.slice na m.p.length nc],iI j] w fun r w'=>r=.returned (iI j)/\Bw w w':=by
 go_enter func119,ntmps119
 go_wp2
 go_ret;exact⟨rfl,Av⟩
theorem eR (j sb so:Nat)(ra:Option Addr)(rc:Nat)(sc:Nat)(fa:Option Addr)(fc:Nat)(na:Option Addr)(nc:Nat)(m:Ac)(w:World)(hj:1<=j)(hjl:j<m.s.length)(h40:m.s.length<=40)(hsl:sb<w.heap.size)(hc:∀k,k<m.s.length->w.cell? (aD sb (so+k*3))=some (iI (kd m.s k))):Cl 119 #[.agg #[iI m.g,.slice ra m.r.length rc,lD sb so m.s.length sc,.slice fa m.f.length fc,.slice na m.p.length nc],iI (j:Int)] w fun r w'=>r=.returned (iI (AJ m.s j:Int))/\Bw w w':=by
 let V:=(w.alloc (.cells #[iI m.g,.slice ra m.r.length rc,lD sb so m.s.length sc,.slice fa m.f.length fc,.slice na m.p.length nc] 33))
 have m0:V.heap[w.heap.size]?=some (.cells #[iI m.g,.slice ra m.r.length rc,lD sb so m.s.length sc,.slice fa m.f.length fc,.slice na m.p.length nc] 33):=Aw _ _;have c0:=five m0;clear m0;have b0:Bw w V:=Av;have ac:Hd (∀k,k<m.s.length->V.cell? (aD sb (so+k*3))=some (iI (kd m.s k))):=fun k hk=>(b0.cell (p:=(aD sb (so+k*3))) hsl).trans (hc k hk)
 have HB:=b0;clear hc b0;have af:¬(j:Int)<=0:=oM;dsimp only[V]at *;clear V
 go_enter func119,ntmps119
 go_wp2
 go_loop [5,6] (fun c i=>∃k r:Nat,1<=k/\k<=j/\r<=k/\i=iI k/\c=iI r/\Hd (AJ m.s k=r)) (fun _ i=>j-(intOf i).toNat)
 case atStart=>exact⟨1,1,oM,hj,oM,rfl,rfl,fC _⟩
 case round=>
  obtain⟨k,r,ag,ah,ai,rfl,rfl,HR⟩:=hrel
  by_cases hlt:k<j
  ·have ad:(k:Int)<(j:Int):=oM;have hkl:k<m.s.length:=oM;have ae:(k:Int)<(m.s.length:Int):=oM;have cK:=ac.o k hkl;obtain⟨kk,aa⟩:=nM (kd m.s k);rw[aa]at cK;have hs:=fE m.s k;have ab:kept m.s k=(kk != 0):=by unfold kept;rw[aa,show (k == 0)=false by (simp;omega)];rfl
   rw[ab,HR.o]at hs;rcases OB (kk != 0) with hb|hb
   ·have HS:Hd (AJ m.s (k+1)=r+1):=by rw[hb]at hs;exact hs
    clear hs ab aa
    go_wp2
    go_round
    case rel=>exact⟨k+1,r+1,oM,oM,oM,by go_num,by go_num,HS⟩
    case measure=>simp[intOf];omega
   ·have HS:Hd (AJ m.s (k+1)=r):=by rw[hb]at hs;exact hs
    clear hs ab aa
    go_wp2
    go_round
    case rel=>exact⟨k+1,r,oM,oM,oM,by go_num,rfl,HS⟩
    case measure=>simp[intOf];omega
  ·have ad:¬(k:Int)<(j:Int):=oM;have HE:Hd (k=j):=by show k=j;omega
   go_wp2
   go_ret;exact⟨Cj (by rw[<-HE.o,HR.o]),HB⟩
theorem eS (h:Al w v m)(h40:m.s.length<=40){e r:Int}(he:DI m.s e)(hr:Ba m.s e=r):Cl 119 #[v,iI e] w fun x w'=>x=.returned (iI r)/\Bw w w':=by
 have h':=h;obtain⟨ra,rc,sa,sc,fa,fc,na,nc,rfl,_⟩:=h.parts;subst hr;rcases he with x|x|⟨j,rfl,j1,jl,jk⟩
 ·subst x;rw[GJ];exact Uf 0 ra rc sa sc fa fc na nc m w oM
 ·subst x;rw[Jq];exact Uf (-1) ra rc sa sc fa fc na nc m w oM
 ·rw[Fq jl jk];obtain⟨sb,so,ac,e,_,aa,ab⟩:=h'.four.2.1.open oM;simp only[BP]at e;obtain⟨rfl,_,rfl⟩:=e;exact eR j sb so ra rc _ fa fc na nc m w j1 jl h40 aa (fun k hk=>by
   obtain⟨tv,q0,_⟩:=ab k hk;have e:kd m.s k=m.s[k].1:=by unfold kd;simp[List.getD,hk]
   rw[e];exact q0)
structure O6 (w wr:World) (bx:Obj) (pa:Option Addr) (k pc:Nat) (ys:List Int):Prop where
 row:wr.ownsRow (w.heap.size+1) 3 1 (.slice pa k pc) k (Ae ys)
 bel:Bw w wr
 box:wr.heap[w.heap.size]?=some bx
theorem VN (la:Option Addr)(lc:Nat)(ra:Option Addr)(rc:Nat)(sa:Option Addr)(sc:Nat)(fa:Option Addr)(fc:Nat)(na:Option Addr)(nc:Nat)(m:Ac)(xs:List Int)(w:World)(h:Al w (.agg #[iI m.g,.slice ra m.r.length rc,.slice sa m.s.length sc,.slice fa m.f.length fc,.slice na m.p.length nc]) m)(hl:Sl w (.slice la xs.length lc) xs)(h40:m.s.length<=40)(hx:xs.length<=40)(he:∀e∈xs,DI m.s e):Cl 62 #[.agg #[iI m.g,.slice ra m.r.length rc,.slice sa m.s.length sc,.slice fa m.f.length fc,.slice na m.p.length nc],.slice la xs.length lc] w fun r w'=>∃va,r=.returned va/\w'.ownsRow (w.heap.size+1) 3 1 va xs.length (Ae (xs.map (Ba m.s)))/\Bw w w':=by
 let V:=(w.alloc (.cells #[iI m.g,.slice ra m.r.length rc,.slice sa m.s.length sc,.slice fa m.f.length fc,.slice na m.p.length nc] 33))
 have b0:Bw w V:=Av;have m0:V.heap[w.heap.size]?=some (.cells #[iI m.g,.slice ra m.r.length rc,.slice sa m.s.length sc,.slice fa m.f.length fc,.slice na m.p.length nc] 33):=Aw _ _;have HI:Hd (Al w (.agg #[iI m.g,.slice ra m.r.length rc,.slice sa m.s.length sc,.slice fa m.f.length fc,.slice na m.p.length nc]) m/\Sl w (.slice la xs.length lc) xs/\∀e∈xs,DI m.s e):=⟨h,hl,he⟩;have ak:Hd (O6 w V (.cells #[iI m.g,.slice ra m.r.length rc,.slice sa m.s.length sc,.slice fa m.f.length fc,.slice na m.p.length nc] 33) none 0 0 ((xs.take 0).map (Ba m.s))):=⟨DG _ _ _ _,b0,m0⟩;clear h hl he b0 m0;dsimp only[V]at *;clear V
 go_enter func62,ntmps62
 go_wp2_with fail;obtain⟨W0,am⟩:=nM ((w.alloc (.cells #[iI m.g,.slice ra m.r.length rc,.slice sa m.s.length sc,.slice fa m.f.length fc,.slice na m.p.length nc] 33)));rw[am]at ak ⊢;clear am
 go_loopw [5,6] (fun o i wr=>∃k pa pc,k<=xs.length/\i=iI (k:Int)/\o=.slice pa k pc/\Hd (O6 w wr (.cells #[iI m.g,.slice ra m.r.length rc,.slice sa m.s.length sc,.slice fa m.f.length fc,.slice na m.p.length nc] 33) pa k pc ((xs.take k).map (Ba m.s)))) (fun _ i _=>xs.length-(intOf i).toNat)
 case atStart=>exact⟨0,none,0,A7 _,rfl,rfl,ak⟩
 case round=>
  obtain⟨k,pa,pc,hk,rfl,rfl,HC⟩:=hrel;have bl:=HC.o.bel;have ah:=HC.o.box;have ao:=(AA ah)
  by_cases hlk:k<xs.length
  ·have aq:(k:Int)<(xs.length:Int):=oM;obtain⟨b,off,av,e0,_,ap,ac⟩:=HI.o.2.1.open oM;simp only[BP]at e0;obtain⟨rfl,_,rfl⟩:=e0;have cp:wr.cell? (aD b (off+k))=some (iI (xs.getD k 0)):=(bl.cell (p:=(aD b (off+k))) ap).trans (ac k hlk);obtain⟨e,aj⟩:=nM (xs.getD k 0);rw[aj]at cp;have ab:xs[k]=e:=by rw[<-aj];simp[List.getD,hlk]
   obtain⟨r,hr⟩:=nM (Ba m.s e);have HX:Hd ((xs.take (k+1)).map (Ba m.s)=(xs.take k).map (Ba m.s)++[r]):=by
    show _=_
    rw[show xs.take (k+1)=xs.take k++[xs[k]] from (Hg hlk).symm,DQ,ab,<-hr]
    rfl
   have an:Hd (∀W,Bw w W->Cl 119 #[.agg #[iI m.g,.slice ra m.r.length rc,.slice sa m.s.length sc,.slice fa m.f.length fc,.slice na m.p.length nc],iI e] W fun x w'=>x=.returned (iI r)/\Bw W w'):=fun W hW=>eS (HI.o.1.below hW) h40 (HI.o.2.2 e (by rw[<-ab];exact BS _)) hr
   clear aj ab hr;go_upto_region 5 with fail;refine BT (S:=(fun X:World=>X.heap[w.heap.size]?=some (.cells #[iI m.g,.slice ra m.r.length rc,.slice sa m.s.length sc,.slice fa m.f.length fc,.slice na m.p.length nc] 33)/\X.cell? (aD b (off+k))=some (iI e))) kR ⟨ah,cp⟩ (fun hHeld=>?_);refine BD 0 (.slice pa k pc) ?_;refine BD 1 (.agg #[iI m.g,.slice ra m.r.length rc,.slice sa m.s.length sc,.slice fa m.f.length fc,.slice na m.p.length nc]) ?_;refine BD 2 (lD b off xs.length lc) ?_;refine BD 3 (iI (k:Int)) ?_;refine BD 4 (pQ b (off+k)) ?_;refine BD 5 (iI e) ?_;simp only[lays];refine AC 6 rfl (fun K hK=>?_);clear hHeld;simp only[lays];rw[Ab (by rfl)];go_wp2_with(go_at_call 119;refine(an.o _ (Cg bl)).mono ?_;rintro x9 w4 ⟨rfl,b4⟩);replace b4:Bw wr w4:=BR b4;have s4:=b4.size;have ae:=Ag ah b4 ao;have au:=bl.size;have ag:w4.cell? (aD b (off+k))=some (iI e):=(b4.cell (p:=(aD b (off+k))) (by show b<_;omega)).trans cp;have r4:=CX HC.o.row (W':=w4) (fun q hq=>b4.block q (HC.o.row.lt q hq).2);refine hK.out _ _ ⟨ae,ag⟩ (fun hHeld=>?_);clear hK K;try simp only[lays]
   refine AC 7 rfl (fun K hK=>?_);clear hHeld;simp only[lays];rw[Ab (by rfl)];go_simp;refine hK.out _ _ ⟨Aj ae _,(I5 _ _ _ (by show b<_;omega)).trans ag⟩ (fun hHeld=>?_);clear hK K;try simp only[lays]
   refine AC 8 rfl (fun K hK=>?_);clear hHeld;simp only[lays];rw[Ab (by rfl)];refine Rm (B:=w.heap.size+1) (n:=k) (v:=.slice pa k pc) (xs:=(xs.take k).map (Ba m.s)) (e:=r) _ _ (by rfl) (by rfl) (N:=w4.heap.size) (by rfl) rfl r4 oM oM ?_;intro v8 w8 g1 g2 g3;obtain⟨ga,gc,ar⟩:=Eo g1.o;subst ar;have ad:(Value.slice pa k pc).ownBlock≠some w.heap.size:=fun e=>by have:=(HC.o.row.lt _ e).1;omega
   have aa:(Value.slice pa k pc).ownBlock≠some b:=fun e=>by have:=(HC.o.row.lt _ e).1;omega
   have hz:(w4.alloc (oI r)).heap.size=w4.heap.size+1:=by simp
   have af:=(g2.o.block w.heap.size (by rw[hz];omega) (fun e=>ad e.symm)).trans (Aj ae (oI r));have al:w8.heap[b]?=w4.heap[b]?:=(g2.o.block b (by rw[hz];omega) (fun e=>aa e.symm)).trans (Ch _ _ b oM);have ai:w8.cell? (aD b (off+k))=some (iI e):=by
    have:w8.cell? (aD b (off+k))=w4.cell? (aD b (off+k)):=by simp only[World.cell?,al]
    rw[this];exact ag
   have HN:Hd (O6 w w8 (.cells #[iI m.g,.slice ra m.r.length rc,.slice sa m.s.length sc,.slice fa m.f.length fc,.slice na m.p.length nc] 33) (sZ ga) (k+1) gc ((xs.take (k+1)).map (Ba m.s))):=by
    refine⟨by rw[HX.o];exact g1.o,?_,af⟩;exact((bl.trans (b4.mono au)).alloc oM _).grown g2.o (by rw[hz];omega) (fun q e=>by have:=(HC.o.row.lt _ e).1;omega)
   refine hK.out _ _ ⟨af,ai⟩ (fun hHeld=>?_);clear hK K;try simp only[lays]
   refine AC 9 rfl (fun K hK=>?_);clear hHeld;simp only[lays];rw[Ab (by rfl)];go_simp;refine hK.out _ _ ⟨af,ai⟩ (fun hHeld=>?_);clear hK K hHeld;try simp only[lays]
   refine BQ kR ?_ _;clear g1 g2 g3 af al ai ae ag r4 b4 aa ad;go_wp2_with fail;go_roundw
   case rel=>exact⟨k+1,some (aZ ga),gc,oM,by go_num,rfl,HN⟩
   case measure=>simp[intOf];omega
  ·have HE:Hd (k=xs.length):=by show k=xs.length;omega
   have aq:¬(k:Int)<(xs.length:Int):=oM;have HR:Hd (wr.ownsRow (w.heap.size+1) 3 1 (.slice pa k pc) xs.length (Ae (xs.map (Ba m.s)))/\Bw w wr):=by
    refine⟨?_,bl⟩;have h9:=HC.o.row;have e:=HE.o;rw[show xs.take k=xs by rw[e,Fz]]at h9;rw[e]at h9;rw[e];exact h9
   clear bl ah HC;go_wp2_with fail;go_ret;exact⟨.slice pa k pc,rfl,HR.o.1,HR.o.2⟩
theorem Pb {u:Value}{xs:List Int}(h:Al w v m)(hl:Sl w u xs)(h40:m.s.length<=40)(hx:xs.length<=40)(he:∀e∈xs,DI m.s e){ys:List Int}(hy:xs.map (Ba m.s)=ys):Cl 62 #[v,u] w fun r w'=>∃va,r=.returned va/\w'.ownsRow (w.heap.size+1) 3 1 va ys.length (Ae ys)/\Bw w w':=by
 have h':=h;obtain⟨ra,rc,sa,sc,fa,fc,na,nc,rfl,_⟩:=h.parts;obtain⟨la,lc,rfl⟩:=hl.form;subst hy;rw[BH];exact VN la lc ra rc sa sc fa fc na nc m xs w h' hl h40 hx he

theorem WM {l:List Int}{t:Int}(h:t ∉ l):l.count t=0:=Kf.2 h

def tC (m:Ac) (x:Nat):Nat:=(AV m).count (x:Int)
def pC (m:Ac) (x:Nat):Nat:=Db m.s (AV m) (x:Int)
theorem P3 (h:As m=0){x:Nat}(hk:kd m.s x≠0):1<=x/\x<m.s.length:=by
 refine⟨?_,GC hk⟩;rcases Eg x with e|e
 ·rw[e]at hk;exact absurd (DX (Au h).2.1) hk
 ·exact e
theorem WD (h:As m=0){x:Nat}(hk:kd m.s x=2):(AL m).getD x 0=(tC m x:Int):=by
 obtain⟨h1,hx⟩:=P3 h (x:=x) (by rw[hk];decide);rw[E3 h x hx];unfold C5 tC;rw[Aa oM,Mp (Au h).2.2.2.2.2.1 _ h1 (by rw[hk];decide),Fi]
theorem iL (h:As m=0){x:Nat}(h1:1<=x)(hk:kd m.s x≠2):tC m x=0:=
 WM (fun hm=>hk (Il h hm h1).2.1)
theorem WB (h:As m=0){x:Nat}(hk:kd m.s x=1):(AL m).getD x 0=(pC m x:Int):=by
 obtain⟨h1,hx⟩:=P3 h (x:=x) (by rw[hk];decide);rw[E3 h x hx];have h0:=iL h h1 (by rw[hk];decide);unfold tC at h0;unfold C5 pC;rw[Aa oM,h0,Eh]
def lo (m:Ac) (n:Nat):Bool:=m.r.getD (n/4) 0 != 0 && tC m (m.r.getD (n/4) 0).toNat == 1
def so (m:Ac) (n:Nat):Bool:=decide (0<Be m m.r n) && pC m (Be m m.r n).toNat == 1
theorem Uy (hC:Ao m=0)(hk:k<m.r.length):∃t:Nat,m.r.getD k 0=(t:Int)/\(t=0\/(1<=t/\kd m.s t=2/\1<=tC m t/\m.f.getD t 0=(tC m t:Int))):=by
 obtain⟨hs,hr,_⟩:=IB hC;obtain⟨t,ht,_⟩:=Js hs hk;refine⟨t,ht,?_⟩;rcases Eg t with e|e
 ·exact .inl e
 ·have hm:(t:Int)∈AV m:=by
   rw[Hr,<-ht,DS hk];exact JC _ (BS hk)
  have h2:=(Il hs hm e).2.1;refine .inr ⟨e,h2,Fy.2 hm,?_⟩;rw[<-hr];exact WD hs h2
theorem Tk (hC:Ao m=0)(hk:n/4<m.r.length):Be m m.r n<=0\/∃e:Nat,Be m m.r n=(e:Int)/\1<=e/\kd m.s e=1/\m.f.getD e 0=(pC m e:Int):=by
 obtain⟨hs,hr,_⟩:=IB hC;obtain⟨ad,ac⟩:=ET hs hk;rw[P9];have h4:n%4<(Ak m (n/4)).length:=by rw[Dv ad];omega
 have ab:(Ak m (n/4)).getD (n%4) 0∈Ak m (n/4):=by rw[DS h4];exact BS h4
 rcases Ms (ac _ ab) with e|e|⟨j,e,_,aa⟩
 ·left;omega
 ·left;omega
 ·right
  refine⟨j,e,(P3 hs (by rw[aa];decide)).1,aa,?_⟩;rw[<-hr];exact WB hs aa
theorem Th (hC:Ao m=0)(hk:n/4<m.r.length):lo m n=Cq m (n/4):=by
 obtain⟨t,ht,h⟩:=Uy hC hk;unfold lo Cq;rw[ht,A5];rcases h with h|⟨_,_,_,h⟩
 ·subst h;rfl
 ·rw[h]
  congr 1
  rw[IW];simp only[DH];omega
theorem iH (hC:Ao m=0)(hk:n/4<m.r.length):Fw m n=(lo m n && so m n):=by
 rw[Th hC hk];unfold Fw so;rcases Tk hC hk with h|⟨e,he,h1,_,h2⟩
 ·rw[show decide (0<Be m m.r n)=false by simp;omega];simp
 ·rw[he,A5,h2,show decide (0<(e:Int))=true by simp;omega,Ff,Ff]
  congr 1
  rw[IW];simp only[DH];omega



theorem XV {x0 x1 x2 x3 x4:Value}{T:TypeId}(h:W.heap[D]?=some (.cells #[x0,x1,x2,x3,x4] T))(a0 a1 a2 a3 a4:Value):((((((W.setCell (aZ D) (a0)).setCell (aD D 1) (a1)).setCell (aD D 2) (a2)).setCell (aD D 3) (a3)).setCell (aD D 4) (a4))).heap[D]?=some (.cells #[a0,a1,a2,a3,a4] T):=by
 have h0:=Bf h 0 a0;have h1:=Bf h0 1 a1;have h2:=Bf h1 2 a2;have h3:=Bf h2 3 a3;have h4:=Bf h3 4 a4;exact h4
theorem XU {q:Nat}(a0 a1 a2 a3 a4:Value)(hq:q≠D):((((((W.setCell (aZ D) (a0)).setCell (aD D 1) (a1)).setCell (aD D 2) (a2)).setCell (aD D 3) (a3)).setCell (aD D 4) (a4))).heap[q]?=W.heap[q]?:=
 (AN _ (aD D 4) a4 q hq).trans ((AN _ (aD D 3) a3 q hq).trans ((AN _ (aD D 2) a2 q hq).trans ((AN _ (aD D 1) a1 q hq).trans (AN _ (aZ D) a0 q hq))))

theorem TF {V:World}{val:Nm->Value}(hX:OX X V.heap.size val m)(hbox:X.heap[D]?=some (.cells #[iI m.g,val .r,val .s,val .f,val .p] 33))(hge:V.heap.size<=D)(hfar:∀a,Ad m a->(val a).ownBlock≠some D){r:List Int}(hown:W.ownsRow V.heap.size 3 1 v r.length (Ae r))(hblk:∀q,q<X.heap.size->(val .f).ownBlock≠some q->W.heap[q]?=X.heap[q]?)(hbel:Bw V W)(hv:v.ownBlock=(val .f).ownBlock\/∀q,v.ownBlock=some q->X.heap.size<=q):AX V (W.setCell (aD D 3) v) D {m with f:=r}:=by
 have ae:D<X.heap.size:=(AA hbox);have aa:∀ (r':List Int) a,Ad {m with f:=r'} a->Ad m a:=fun r' a ha=>(Hv (m:=m) (m':={m with f:=r'}) rfl rfl (fun _=>Ke) a).1 ha
 have h0:=hX.swapRefs (v:=nl) (r:=[]) (DG _ _ _ _) (Np _ _ _ _ _);have h1:OX W V.heap.size (Az val .f (nl)) {m with f:=[]}:=h0.blk (fun a ha q hq=>by
  by_cases ea:a=.f
  ·subst ea;rw[Bh]at hq;cases hq
  ·rw[Ap _ _ ea]at hq;have ac:=aa [] a ha;exact hblk q ((hX.row a ac).lt q hq).2 (fun e=>hX.apart .f a (Ad.f m) ac (fun x=>ea x.symm) q e hq))
 have h2:=h1.swapRefs (v:=v) (r:=r) hown (fun b hb hne g hg e=>by
  rw[Ap _ _ hne]at e;have ad:=aa [] b hb;rcases hv with x|x
  ·exact hX.apart .f b (Ad.f m) ad (fun y=>hne y.symm) g (x ▸ hg) e
  ·have:=x g hg;have:=((hX.row b ad).lt g e).2;omega)
 have ab:∀a,Ad {m with f:=r} a->(Az (Az val .f (nl)) .f v a).ownBlock≠some D:=fun a ha e=>by
  by_cases ea:a=.f
  ·subst ea;rw[Bh]at e;rcases hv with x|x
   ·exact hfar .f (Ad.f m) (x ▸ e)
   ·have:=x D e;omega
  ·rw[Ap _ _ ea,Ap _ _ ea]at e;exact hfar a (aa r a ha) e
 refine⟨⟨_,h2.far ab,?_,ab⟩,hge,hbel.setCell (p:=(aD D 3)) hge _⟩;rw[Bh,Ap _ v (a:=.f) (b:=.r) (by nofun),Ap _ _ (a:=.f) (b:=.r) (by nofun),Ap _ v (a:=.f) (b:=.s) (by nofun),Ap _ _ (a:=.f) (b:=.s) (by nofun),Ap _ v (a:=.f) (b:=.p) (by nofun),Ap _ _ (a:=.f) (b:=.p) (by nofun)];exact Bf ((hblk D ae (hfar .f (Ad.f m))).trans hbox) 3 v
structure DA (w1 X:World) (R:List Int) (oc:Option Value) (os ofr od:Option Nat):Prop where
 bel:Bw w1 X
 c:∀v,oc=some v->X.ownsRow w1.heap.size 3 1 v R.length (Ae R)
 s:∀g,os=some g->w1.heap.size<=g/\X.heap[g]?=some zS
 f:∀g,ofr=some g->w1.heap.size<=g/\X.heap[g]?=some (oI 0)
 d:∀g,od=some g->w1.heap.size<=g/\X.heap[g]?=some zI
 cs:∀v g,oc=some v->os=some g->v.ownBlock≠some g
 cf:∀v g,oc=some v->ofr=some g->v.ownBlock≠some g
 cd:∀v g,oc=some v->od=some g->v.ownBlock≠some g
 sf:∀g h,os=some g->ofr=some h->g≠h
 sd:∀g h,os=some g->od=some h->g≠h
 fd:∀g h,ofr=some g->od=some h->g≠h
theorem GE {g:Nat}{o:Obj}(h:X.heap[g]?=some o):g<X.heap.size:=(AA h)
theorem DA.zero (w1:World)(R:List Int):DA w1 w1 R none none none none:=⟨AG _ _,fun _ h=>(by cases h),fun _ h=>(by cases h),fun _ h=>(by cases h),fun _ h=>(by cases h),fun _ _ h=>(by cases h),fun _ _ h=>(by cases h),fun _ _ h=>(by cases h),fun _ _ h=>(by cases h),fun _ _ h=>(by cases h),fun _ _ h=>(by cases h)⟩
theorem DA.on (h:DA w1 X R oc os ofr od)(hb:Bw X Y):DA w1 Y R oc os ofr od:=
 ⟨h.bel.trans (hb.mono h.bel.size),fun v e=>CX (h.c v e) (fun q hq=>hb.block q ((h.c v e).lt q hq).2),fun g e=>⟨(h.s g e).1,(hb.block g (GE (h.s g e).2)).trans (h.s g e).2⟩,fun g e=>⟨(h.f g e).1,(hb.block g (GE (h.f g e).2)).trans (h.f g e).2⟩,fun g e=>⟨(h.d g e).1,(hb.block g (GE (h.d g e).2)).trans (h.d g e).2⟩,h.cs,h.cf,h.cd,h.sf,h.sd,h.fd⟩
theorem DA.drew (h:DA w1 X R oc os ofr od):DA w1 X.drew R oc os ofr od:=h.on (Cg Eu)
theorem DA.addC (h:DA w1 X R none os ofr od)(hb:Bw X Y)(hv:Y.ownsRow (X.heap.size+1) 3 1 v R.length (Ae R)):DA w1 Y R (some v) os ofr od:=by
 have h':=h.on hb;have hs:=h.bel.size;refine⟨h'.bel,fun u e=>?_,h'.s,h'.f,h'.d,fun u g e1 e2 e3=>?_,fun u g e1 e2 e3=>?_,fun u g e1 e2 e3=>?_,h.sf,h.sd,h.fd⟩
 ·cases e;exact CL hv oM
 ·cases e1;have:=(hv.lt g e3).1;have:=GE (h.s g e2).2;omega
 ·cases e1;have:=(hv.lt g e3).1;have:=GE (h.f g e2).2;omega
 ·cases e1;have:=(hv.lt g e3).1;have:=GE (h.d g e2).2;omega
theorem DA.addS (h:DA w1 X R oc none ofr od):DA w1 (X.alloc zS) R oc (some X.heap.size) ofr od:=by
 have h':=h.on (Y:=X.alloc zS) (Av);refine⟨h'.bel,h'.c,fun g e=>?_,h'.f,h'.d,fun u g e1 e2 e3=>?_,h.cf,h.cd,fun g q e1 e2 e3=>?_,fun g q e1 e2 e3=>?_,h.fd⟩
 ·cases e;exact⟨h.bel.size,Aw _ _⟩
 ·cases e2;have:=((h.c u e1).lt _ e3).2;omega
 ·cases e1;have:=GE (h.f q e2).2;omega
 ·cases e1;have:=GE (h.d q e2).2;omega
theorem DA.addF (h:DA w1 X R oc os none od):DA w1 (X.alloc (oI 0)) R oc os (some X.heap.size) od:=by
 have h':=h.on (Y:=X.alloc (oI 0)) (Av);refine⟨h'.bel,h'.c,h'.s,fun g e=>?_,h'.d,h.cs,fun u g e1 e2 e3=>?_,h.cd,fun g q e1 e2 e3=>?_,h.sd,fun g q e1 e2 e3=>?_⟩
 ·cases e;exact⟨h.bel.size,Aw _ _⟩
 ·cases e2;have:=((h.c u e1).lt _ e3).2;omega
 ·cases e2;have:=GE (h.s g e1).2;omega
 ·cases e1;have:=GE (h.d q e2).2;omega
theorem DA.addD (h:DA w1 X R oc os ofr none):DA w1 (X.alloc zI) R oc os ofr (some X.heap.size):=by
 have h':=h.on (Y:=X.alloc zI) (Av);refine⟨h'.bel,h'.c,h'.s,h'.f,fun g e=>?_,h.cs,h.cf,fun u g e1 e2 e3=>?_,h.sf,fun g q e1 e2 e3=>?_,fun g q e1 e2 e3=>?_⟩
 ·cases e;exact⟨h.bel.size,Aw _ _⟩
 ·cases e2;have:=((h.c u e1).lt _ e3).2;omega
 ·cases e2;have:=GE (h.s g e1).2;omega
 ·cases e2;have:=GE (h.f g e1).2;omega
theorem dU {va:Value}{gs gf:Nat}(g:Int)(h:DA w1 X R (some va) (some gs) (some gf) (some D)):AX w1 (((((X.setCell (aZ D) (iI g)).setCell (aD D 1) (va)).setCell (aD D 2) (lZ gs 1 1)).setCell (aD D 3) (lZ gf 1 1)).setCell (aD D 4) (nl)) D ⟨g,R,[(0,⟨#[]⟩,[])],[0],[]⟩:=by
 obtain⟨val,ab⟩:∃f:Nm->Value,f=Az (Az (Az MB .r va) .s (lZ gs 1 1)) .f (lZ gf 1 1):=⟨_,rfl⟩;have e0:val .r=va:=by rw[ab,Ap _ _ (by nofun),Ap _ _ (by nofun),Bh]
 have e1:val .s=lZ gs 1 1:=by rw[ab,Ap _ _ (by nofun),Bh]
 have e2:val .f=lZ gf 1 1:=by rw[ab,Bh]
 have e3:val .p=nl:=by rw[ab,Ap _ _ (by nofun),Ap _ _ (by nofun),Ap _ _ (by nofun)];rfl
 have e4:val (.tab 0)=nl:=by rw[ab,Ap _ _ (by nofun),Ap _ _ (by nofun),Ap _ _ (by nofun)];rfl
 have hs:=h.s gs rfl;have hf:=h.f gf rfl;have hd:=h.d D rfl;have ac:∀j:Nat,j<([(0,⟨#[]⟩,[])]:List An).length->j=0:=fun j hj=>by simp at hj;exact hj
 have hX:OX X w1.heap.size val ⟨g,R,[(0,⟨#[]⟩,[])],[0],[]⟩:=by
  refine⟨fun a ha=>?_,fun a b ha hb hne q hq e=>?_,fun j hj _=>?_⟩
  ·rcases ha.cases with rfl|rfl|rfl|rfl|⟨j,rfl,hj,ht⟩|⟨j,rfl,hj⟩
   ·show X.ownsRow w1.heap.size 3 1 (val .r) R.length (Ae R)
    rw[e0];exact h.c va rfl
   ·show X.ownsRow w1.heap.size 85 3 (val .s) 1 [iI 0,.string ⟨#[]⟩,val (.tab 0)]
    rw[e1,e4];exact⟨rfl,.inr ⟨gs,1,_,rfl,hs.1,hs.2,Bc _,by unfold maxLen;omega,rfl,rfl⟩⟩
   ·show X.ownsRow w1.heap.size 3 1 (val .f) 1 [iI 0]
    rw[e2];exact⟨rfl,.inr ⟨gf,1,_,rfl,hf.1,hf.2,Bc _,by unfold maxLen;omega,rfl,rfl⟩⟩
   ·show X.ownsRow w1.heap.size 87 3 (val .p) 0 []
    rw[e3];exact DG _ _ _ _
   ·have:=ac j hj;subst this;exact absurd rfl ht
   ·exact absurd hj (Dr _)
  ·rcases ha.cases with rfl|rfl|rfl|rfl|⟨j,rfl,hj,ht⟩|⟨j,rfl,hj⟩
   ·rw[e0]at hq;rcases hb.cases with rfl|rfl|rfl|rfl|⟨j,rfl,hj,ht⟩|⟨j,rfl,hj⟩
    ·exact hne rfl
    ·rw[e1]at e;cases e;exact h.cs va _ rfl rfl hq
    ·rw[e2]at e;cases e;exact h.cf va _ rfl rfl hq
    ·rw[e3]at e;cases e
    ·have:=ac j hj;subst this;exact absurd rfl ht
    ·exact absurd hj (Dr _)
   ·rw[e1]at hq
    cases hq
    rcases hb.cases with rfl|rfl|rfl|rfl|⟨j,rfl,hj,ht⟩|⟨j,rfl,hj⟩
    ·rw[e0]at e;exact h.cs va _ rfl rfl e
    ·exact hne rfl
    ·rw[e2]at e;cases e;exact h.sf _ _ rfl rfl rfl
    ·rw[e3]at e;cases e
    ·have:=ac j hj;subst this;exact absurd rfl ht
    ·exact absurd hj (Dr _)
   ·rw[e2]at hq
    cases hq
    rcases hb.cases with rfl|rfl|rfl|rfl|⟨j,rfl,hj,ht⟩|⟨j,rfl,hj⟩
    ·rw[e0]at e;exact h.cf va _ rfl rfl e
    ·rw[e1]at e;cases e;exact h.sf _ _ rfl rfl rfl
    ·exact hne rfl
    ·rw[e3]at e;cases e
    ·have:=ac j hj;subst this;exact absurd rfl ht
    ·exact absurd hj (Dr _)
   ·rw[e3]at hq;cases hq
   ·have:=ac j hj;subst this;exact absurd rfl ht
   ·exact absurd hj (Dr _)
  ·have:=ac j hj;subst this;exact⟨none,0,e4⟩
 have aa:∀a,Ad (⟨g,R,[(0,⟨#[]⟩,[])],[0],[]⟩:Ac) a->(val a).ownBlock≠some D:=fun a ha e=>by
  rcases ha.cases with rfl|rfl|rfl|rfl|⟨j,rfl,hj,ht⟩|⟨j,rfl,hj⟩
  ·rw[e0]at e;exact h.cd va _ rfl rfl e
  ·rw[e1]at e;cases e;exact h.sd _ _ rfl rfl rfl
  ·rw[e2]at e;cases e;exact h.fd _ _ rfl rfl rfl
  ·rw[e3]at e;cases e
  ·have:=ac j hj;subst this;exact absurd rfl ht
  ·exact absurd hj (Dr _)
 refine⟨⟨val,((((hX.far aa).far aa).far aa).far aa).far aa,?_,aa⟩,hd.1,((((h.bel.setCell (p:=(aZ D)) hd.1 _).setCell (p:=(aD D 1)) hd.1 _).setCell (p:=(aD D 2)) hd.1 _).setCell (p:=(aD D 3)) hd.1 _).setCell (p:=(aD D 4)) hd.1 _⟩;rw[e0,e1,e2,e3];exact XV hd.2 _ _ _ _ _
def Ia (L:List An) (k:Nat):List Nat:=(List.range k).filter (kept L)
def Cv (m:Ac) (k:Nat):Ac:=⟨m.g,m.r.map (Ba m.s),(Ia m.s k).map (fun j=>Gi m.s (m.s.getD j default)),(Ia m.s k).map (fun j=>m.f.getD j 0),[]⟩
def DT (m:Ac) (k:Nat):Ac:={CU m with p:=(m.p.take k).map (Gh m.s)}
theorem T8 (L:List An)(k:Nat):Ia L (k+1)=if kept L k=true then Ia L k++[k] else Ia L k:=by
 unfold Ia;rw[DD,Ha]
 by_cases h:kept L k=true<;>simp[Lw,h]
theorem dP (m:Ac)(h:kept m.s k=false):Cv m (k+1)=Cv m k:=by
 unfold Cv;rw[T8,Aa (by rw[h];decide)]
theorem dQ (m:Ac)(h:kept m.s k=true):Cv m (k+1) = {Cv m k with s:=(Cv m k).s++[Gi m.s (m.s.getD k default)],f:=(Cv m k).f++[m.f.getD k 0]}:=by
 unfold Cv;rw[T8,Ab h,DQ,DQ];rfl
theorem dO (m:Ac):Cv m m.s.length=DT m 0:=rfl
theorem dS (m:Ac)(h:k<m.p.length):DT m (k+1) = {DT m k with p:=(DT m k).p++[Gh m.s m.p[k]]}:=by
 unfold DT;rw[Q4 _ h,DQ];rfl
theorem dR (m:Ac):DT m m.p.length=CU m:=by unfold DT;rw[Fz];rfl
theorem dN (hC:Ao m=0):Cv m 1=⟨m.g,m.r.map (Ba m.s),[(0,⟨#[]⟩,[])],[0],[]⟩:=by
 have hs:=A0 hC;have h1:=(A4 (Au hs).2.1).1;have hk:=SU hs;have hok:B1 (m.s.getD 0 default)=true:=by
  have z2:=(Au hs).2.1;unfold AD at z2;rw[Ab (A4 (Au hs).2.1)]at z2
  split at z2
  ·rename_i hx;exact Ax.1 hx.1 _ (KI h1)
  ·simp at z2
 have hr:m.f.getD 0 0=0:=by
  have hc:AL m=m.f:=by
   have aa:=hC;unfold Ao at aa;rw[Aa (by rw[hs];simp)]at aa
   split at aa
   ·simp at aa
   ·rename_i hx;simpa using hx
  rw[<-hc];rw[E3 hs 0 h1]
  rfl
 obtain⟨⟨a,d,t⟩,ab⟩:∃s,m.s.getD 0 default=s:=⟨_,rfl⟩;unfold kd at hk;rw[ab]at hok hk;have hk:a=0:=hk;subst hk;unfold B1 Cb at hok;dsimp only at hok;rw[Ab rfl]at hok;obtain⟨h2,h3⟩:=JK hok;have h3:=Iq.1 h3;have hd:d=⟨#[]⟩:=by
  obtain⟨x⟩:=d;have:x=#[]:=Vx h2;rw[this]
 subst hd h3
 show (⟨m.g,m.r.map (Ba m.s),[Gi m.s (m.s.getD 0 default)],[m.f.getD 0 0],[]⟩:Ac)=_
 rw[ab,hr]
 rfl

theorem AX.belowP {V X':World}{p:Ac}(h:AX V X D p)(hb:Bw X X'):AX V X' D p:=by
 obtain⟨val,hX,aa,ab⟩:=h.ex;exact⟨⟨val,hX.below hb,(hb.block D (AA aa)).trans aa,ab⟩,h.ge,h.bel.trans (hb.mono h.bel.size)⟩
theorem SL {wr w6:World}{val:Nm->Value}{p:Ac}{o6:Obj}{ys:List Int}(hX:OX wr w1.heap.size val p)(bl:Bw w1 wr)(hbox:wr.heap[D]?=some (.cells #[iI p.g,val .r,val .s,val .f,val .p] 33))(b6:Below (wr.alloc o6).heap.size (wr.alloc o6) w6)(r1:w6.ownsRow ((wr.alloc o6).heap.size+1) 3 1 v ys.length (Ae ys)):OX w6 w1.heap.size val p/\Bw w1 w6/\w6.heap[D]?=some (.cells #[iI p.g,val .r,val .s,val .f,val .p] 33)/\(∀a,Ad p a->(val a).ownBlock≠some wr.heap.size)/\v.ownBlock≠some wr.heap.size/\(∀g,v.ownBlock=some g->wr.heap.size<=g)/\v.ownBlock≠some D/\wr.heap.size+1<=w6.heap.size:=by
 have hz:(wr.alloc o6).heap.size=wr.heap.size+1:=by simp
 have ab:=(AA hbox);have ac:=bl.size;have h6:=b6.size;have hk:∀q,q<wr.heap.size->w6.heap[q]?=wr.heap[q]?:=fun q hq=>(b6.block q oM).trans (Ch _ _ q hq)
 have aa:∀g,v.ownBlock=some g->wr.heap.size+2<=g:=fun g e=>by have:=(r1.lt g e).1;omega
 refine⟨hX.keep (fun g _ hg=>hk g hg),?_,(hk D ab).trans hbox,hX.lt lE,fun e=>by have:=aa _ e;omega,fun g e=>by have:=aa _ e;omega,fun e=>by have:=aa _ e;omega,oM⟩;exact(bl.alloc ac _).trans (b6.mono oM)
theorem dr (ra:Option Addr)(rc:Nat)(sa:Option Addr)(sc:Nat)(fa:Option Addr)(fc:Nat)(na:Option Addr)(nc:Nat)(m:Ac)(w:World)(h:Al w (.agg (aI m ra rc sa sc fa fc na nc)) m)(hC:Ao m=0)(R:List Int)(hR:m.r.map (Ba m.s)=R):Cl 28 #[.agg (aI m ra rc sa sc fa fc na nc)] w fun r w'=>∃val,r=.returned (AB m.g val)/\OX w' w.heap.size val (CU m)/\Bw w w':=by
 let V:=(w.alloc (cA m ra rc sa sc fa fc na nc))
 have b0:Bw w (V.alloc zI):=(Av).alloc (by simp[V]) _;have m0:(V.alloc zI).heap[w.heap.size]?=some (cA m ra rc sa sc fa fc na nc):=Aj (Aw _ _) _;have m1:(V.alloc zI).heap[w.heap.size+1]?=some zI:=AR (by simp[V]);have I1:=h.below b0;have hsz:w.heap.size+1<(V.alloc zI).heap.size:=by simp[V]
 have hs:=A0 hC;have h40:=(A4 (Au hs).2.1).2;have bE:=(A4 (Au hs).2.1).1;have bJ:=Dg hs;have hrt:=CQ hs;have aX:m.r.length<=40:=oM;have hrf:m.f.length=m.s.length:=(Au hs).2.2.1;have bS:=(Au hs).1;have HP:Hd (Ao m=0/\As m=0/\m.r.map (Ba m.s)=R):=⟨hC,hs,hR⟩;have bD:Hd (∀e∈m.r,DI m.s e):=fun e he=>QE (Ax.1 hrt.2 e he)
 have bB:Hd (m.f.length=m.s.length):=hrf;clear h hC hs hR bJ hrt hrf;dsimp only[V]at *;clear V
 go_enter func28,ntmps28
 go_upto_region 1 with fail;obtain⟨w1,bp⟩:=nM (((w.alloc (cA m ra rc sa sc fa fc na nc)).alloc zI));rw[bp]at b0 m0 m1 I1 hsz ⊢;clear bp;have be:Hd (∀W,Bw w1 W->Cl 62 #[.agg (aI m ra rc sa sc fa fc na nc),.slice ra m.r.length rc] W fun r w'=>∃va,r=.returned va/\w'.ownsRow (W.heap.size+1) 3 1 va R.length (Ae R)/\Bw W w'):=fun W hW=>Pb (I1.below hW) (I1.four.1.below hW) h40 aX bD.o HP.o.2.2
 have MZ:DA w1 w1 R none none none none:=DA.zero _ _;have hm1:∀w,(Instr.makeSlice 30 (iI 1) (iI 1)).run prog w=.ok (lZ w.heap.size 1 1) (w.alloc zS):=fun _=>by kernel_rfl
 have bN:∀w,(Instr.makeSlice 29 (iI 1) (iI 1)).run prog w=.ok (lZ w.heap.size 1 1) (w.alloc (oI 0)):=fun _=>by kernel_rfl
 go_cut [3] from 8 (fun s wx=>∃D:Nat,s=pZ D/\Hd (AX w1 wx D ⟨m.g,R,[(0,⟨#[]⟩,[])],[0],[]⟩))
 case first=>
  refine BT (S:=(fun X:World=>X.heap[w.heap.size]?=some (cA m ra rc sa sc fa fc na nc))) kR m0 (fun aa=>?_);refine Cs 0 (pZ w.heap.size) ?_;refine Cs 1 (iI m.g) ?_;refine Cs 2 (.agg (aI m ra rc sa sc fa fc na nc)) ?_;refine Cs 3 (pQ w.heap.size 1) ?_;refine Cs 4 (.slice ra m.r.length rc) ?_;simp only[lays];have M:=MZ.drew;obtain⟨X,hX⟩:=nM (w1.drew);rw[hX]at M ⊢;have aa:=Ag m0 M.bel oM;clear hX
  repeat' (refine Ig [5,6,7,9,8,10] (.c rfl ?_ (.c rfl ?_ (.c rfl ?_ (.c rfl ?_ (.c rfl ?_ (.c rfl ?_ .n))))))<;>(intro t hc K hK;first|exact absurd hc (by decide +kernel)|(clear hc aa;simp only[lays];rw[Ab (by rfl)];first
   | (have _:Tg 5:=t;clear t;go_wp2_with(go_at_call 62;refine(be.o _ M.bel).mono ?_;rintro e9 X ⟨va,rfl,hr,hb⟩;obtain⟨ca,cc,rfl⟩:=B0 hr);replace M:=M.addC hb hr;clear hb hr;refine hK.out _ _ (Ag m0 M.bel oM) (fun aa=>?_);clear hK K;try simp only[lays])
   | (have _:Tg 6:=t;clear t;go_simp;obtain⟨X,hX⟩:=nM (X.alloc zS);replace M:=M.addS;rw[hX]at M ⊢;clear hX;refine hK.out _ _ (Ag m0 M.bel oM) (fun aa=>?_);clear hK K;try simp only[lays])
   | (have _:Tg 7:=t;clear t;go_simp;obtain⟨X,hX⟩:=nM (X.alloc (oI 0));replace M:=M.addF;rw[hX]at M ⊢;clear hX;refine hK.out _ _ (Ag m0 M.bel oM) (fun aa=>?_);clear hK K;try simp only[lays])
   | (have _:Tg 9:=t;clear t;go_simp;obtain⟨X,hX⟩:=nM (X.alloc zI);replace M:=M.addD;rw[hX]at M ⊢;clear hX;refine hK.out _ _ (Ag m0 M.bel oM) (fun aa=>?_);clear hK K;try simp only[lays])
   | (have _:Tg 8:=t;clear t;go_simp;refine hK.out _ _ (Ag m0 M.bel oM) (fun aa=>?_);clear hK K;try simp only[lays])
   | (have _:Tg 10:=t;clear t;have zd:=(M.d _ rfl).2;obtain⟨z0,z1,z2,z3,z4⟩:=five zd;have y0:=Aq zd;go_simp;have hN:=dU m.g M;refine hK.out _ _ ((XU _ _ _ _ _ (by have:=(M.d _ rfl).1;omega)).trans (Ag m0 M.bel oM)) (fun aa=>?_);clear hK K aa z0 z1 z2 z3 z4 y0;refine BQ kR ?_ _;go_wp2_with fail;go_meet;exact⟨_,rfl,hN⟩))))
 case rest=>
  obtain⟨D,rfl,bf⟩:=hcut;have HD:Hd (AX w1 wc D (Cv m 1)):=by rw[dN HP.o.1,HP.o.2.2];exact bf.o
  clear bf be MZ hm1 bN;have HI:Hd (Al w1 (.agg (aI m ra rc sa sc fa fc na nc)) m):=I1;have HM:Hd (w1.heap[w.heap.size]?=some (cA m ra rc sa sc fa fc na nc)/\w1.heap[w.heap.size+1]?=some zI/\Bw w w1):=⟨m0,m1,b0⟩;clear I1 m0 m1 b0;go_wp2_with fail
  go_loopw [4] (fun i wr=>∃k:Nat,1<=k/\k<=m.s.length/\i=iI k/\Hd (AX w1 wr D (Cv m k))) (fun i _=>m.s.length-(intOf i).toNat)
  case atStart=>exact⟨1,oM,bE,rfl,HD⟩
  case round=>
   obtain⟨k,bK,hk,rfl,HC⟩:=hrel;have bl:=HC.o.bel;have n0:=Ag HM.o.1 bl oM;obtain⟨c0,c1,c2,c3,c4⟩:=five n0
   by_cases hlk:k<m.s.length
   ·have aU:(k:Int)<(m.s.length:Int):=oM;obtain⟨val,hX,ab,ae⟩:=HC.o.ex;have aM:=HC.o.ge;have bF:D<wr.heap.size:=(AA ab);obtain⟨kn,al⟩:=nM ((Cv m k).s.length);have aV:kn<=40:=by rw[<-al];show ((Ia m.s k).map _).length<=40;rw[BH];unfold Ia;have:=Ru (kept m.s) (List.range k);rw[Ly]at this;omega
    obtain⟨pa,pc,hp,_⟩:=hX.forms .s (Ad.s _);have hp:val .s=.slice pa kn pc:=by rw[hp];show Value.slice pa (Cv m k).s.length pc=_;rw[al]
    have ad:=hX.row .s (Ad.s _);have ad:wr.ownsRow w1.heap.size 85 3 (val .s) (Cv m k).s.length (A2 (Cv m k).s (fun j=>val (.tab j))):=ad;rw[al]at ad;obtain⟨sb,so,bQ,e,_,bG,aA⟩:=(HI.o.four.2.1.below bl).open oM;simp only[BP]at e;obtain⟨aB,_,ba⟩:=e;rw[aB]at c2;clear aB ba;obtain⟨tv,q0,q1,q2,qs⟩:=aA k hlk;obtain⟨⟨kk,dd,es⟩,av⟩:∃s,m.s[k]=s:=⟨_,rfl⟩;have HS:Hd (m.s[k]=(kk,dd,es)):=av;rw[av]at q0 q1 qs;have q0:wr.cell? (aD sb (so+k*3))=some (iI kk):=q0;have q1:wr.cell? (aD sb (so+k*3+1))=some (.string dd):=q1;have qs:Sl wr tv es:=qs;obtain⟨ta,tc,rfl⟩:=qs.form;obtain⟨ys,ax⟩:=nM (es.map (Ba m.s));have HY:Hd (es.map (Ba m.s)=ys):=ax;have ak:es.length<=40/\∀e∈es,DI m.s e:=by
     have ao:(kk,dd,es)∈m.s:=by rw[<-av];exact BS _
     refine⟨?_,fun e he=>Q1 (Oj HP.o.2.1 ao e he)⟩;have z2:=(Au HP.o.2.1).2.1;have hok:B1 (kk,dd,es)=true:=by
      unfold AD at z2;rw[Ab (A4 (Au HP.o.2.1).2.1)]at z2
      split at z2
      ·rename_i hx;exact Ax.1 hx.1 _ ao
      ·simp at z2
     have:=NT hok;have:es.length<=4:=this;omega
    have aO:Hd (∀W,Bw wr W->Cl 62 #[.agg (aI m ra rc sa sc fa fc na nc),.slice ta es.length tc] W fun r w'=>∃va,r=.returned va/\w'.ownsRow (W.heap.size+1) 3 1 va ys.length (Ae ys)/\Bw W w'):=fun W hW=>Pb ((HI.o.below bl).below hW) (qs.below hW) h40 ak.1 ak.2 ax
    have aE:=Aj n0 (oS kk dd ta es.length tc);have bs:=five aE;clear aA av n0 aE ax ak qs;have HX:Hd (OX wr w1.heap.size val (Cv m k)/\(∀a,Ad (Cv m k) a->(val a).ownBlock≠some D)/\Bw w1 wr/\val .s=.slice pa kn pc/\(Cv m k).s.length=kn/\wr.heap[D]?=some (.cells #[iI (Cv m k).g,val .r,val .s,val .f,val .p] 33)):=⟨hX,ae,bl,hp,al,ab⟩;rw[hp]at ab ad;have d0:=five ab;have f2:=Aq ab 2;have aL:(Value.slice pa kn pc).ownBlock≠some D:=by rw[<-hp];exact ae .s (Ad.s _)
    have aF:¬D=wr.heap.size:=oM;have bP:¬wr.heap.size=D:=oM;clear hX ae hp al;have hkd:kd m.s k=kk:=by unfold kd;rw[show m.s.getD k default=m.s[k] by simp[List.getD,hlk],HS.o]
    have aN:kept m.s k=(kk != 0):=by unfold kept;rw[hkd,show (k == 0)=false by simp;omega];rfl
    rcases OB (kk == 0) with hk0|hk0
    ·have HN:Hd (AX w1 (wr.alloc (oS kk dd ta es.length tc)) D (Cv m (k+1))):=by
      rw[dP m (by rw[aN];simp only[bne,hk0];rfl)];exact HC.o.belowP (Av)
     clear hkd aN;go_wp2_with fail;go_roundw
     case rel=>exact⟨k+1,oM,oM,by go_num,HN⟩
     case measure=>simp[intOf];omega
    ·have aW:kept m.s k=true:=by rw[aN];simp only[bne,hk0];rfl
     obtain⟨rk,aY⟩:=nM (m.f.getD k 0);have aw:=dQ m aW;rw[show m.s.getD k default=m.s[k] by simp[List.getD,hlk],HS.o,aY]at aw;have ay:Hd (Cv m (k+1) = {Cv m k with s:=(Cv m k).s++[(kk,dd,ys)],f:=(Cv m k).f++[rk]}):=by
      rw[aw]
      show _=_
      unfold Gi;dsimp only;rw[HY.o]
     have bC:Hd (m.f.getD k 0=rk/\kept m.s k=true):=⟨aY,aW⟩;clear hkd aN aW aw aY;go_upto_region 9 with(first|(go_at_call 62;refine(aO.o _ (Av)).mono ?_;rintro e9 w6 ⟨v6,rfl,r1,b6⟩;obtain⟨xa,xc,rfl⟩:=B0 r1;have s6:=b6.size;have HW:Hd (OX w6 w1.heap.size val (Cv m k)/\Bw w1 w6/\w6.heap[D]?=some (.cells #[iI (Cv m k).g,val .r,val .s,val .f,val .p] 33)/\(∀a,Ad (Cv m k) a->(val a).ownBlock≠some wr.heap.size)/\(Value.slice xa ys.length xc).ownBlock≠some wr.heap.size/\(∀g,(Value.slice xa ys.length xc).ownBlock=some g->wr.heap.size<=g)/\(Value.slice xa ys.length xc).ownBlock≠some D/\wr.heap.size+1<=w6.heap.size):=SL HX.o.1 HX.o.2.2.1 HX.o.2.2.2.2.2 b6 r1;have u5:=Ag (C2 wr (oS kk dd ta es.length tc)) b6 (by simp);obtain⟨t0,t1,t2⟩:=BO u5;have tf:=Aq u5 2;have z6:=Ag (Aj ab (oS kk dd ta es.length tc)) b6 (by simp;omega);have x0:=five z6;have y2:=Aq z6 2;have am:=CX (ad.alloc (oS kk dd ta es.length tc)) (W':=w6) (fun q hq=>b6.block q ((ad.alloc (oS kk dd ta es.length tc)).lt q hq).2);have r6:=CL r1 (B':=w1.heap.size) (by have:=bl.size;simp;omega))|(at_builtin;refine Lo (by rfl) _ _ 30 85 _ underlying30 J0 (by rfl) (by rfl) (B:=w1.heap.size) (v:=.slice pa kn pc) (c0:=iI kk) (c1:=.string dd) (c2:=.slice xa ys.length xc) (by rfl) (by rfl) (by rfl) (by rfl) (by rfl) (by simp) (Ds am (fun e=>JG _ (ad.lt _ e).2) _) oM (by have:=bl.size;have:=HW.o.2.1.size;simp;omega) ?_;intro v1 w8 h1 h2 h3;obtain⟨g1,ar,bb⟩:=Eo h1.o;subst bb;have z2:=(h2.block D (by simp;have:=HW.o.2.2.2.2.2.2.2;omega) (fun e=>aL e.symm)).trans (Aj (Bt (by have:=HW.o.2.2.1;exact this) aF _ _) _);have s0:=five z2;have b7:=Aq z2 2));have aP:Hd (AX w1 (w8.setCell (aD D 2) (lZ g1 (kn+1) ar)) D {Cv m k with s:=(Cv m k).s++[(kk,dd,ys)]}):=by
      obtain⟨hX,ae,bl,hp,al,ab⟩:=HX.o;refine Qm (es:=ys) ((HW.o.1.far HW.o.2.2.2.1).alloc _) ((HW.o.2.1.setCell bl.size _).alloc (by have:=bl.size;have:=HW.o.2.2.2.2.2.2;simp;omega) _) (Aj (Bt HW.o.2.2.1 aF _ _) _) aM ae (fun _=>(Ds r6 HW.o.2.2.2.2.1 _).alloc _) (N4 r6) (fun _=>IC hX _ HW.o.2.2.2.2.2.1) (fun _=>HW.o.2.2.2.2.2.2.1) (by rw[hp];exact h2) (by rw[al];exact h1.o) ?_;rw[hp];rcases h3.o with x|x
      ·exact .inl x
      ·refine .inr (fun g e=>?_);rw[x]at e
       cases e
       simp
     obtain⟨wa,bq⟩:=nM (w8.setCell (aD D 2) (lZ g1 (kn+1) ar));rw[bq]at aP ⊢;clear bq h1 h2 h3 HW u5 t0 t1 t2 tf z6 x0 y2 am r6 z2 s0 b7 r1 b6 HX ab ad d0 f2 aL c0 c1 c2 c3 c4 q0 q1 q2 s6 bs;obtain⟨PK,aJ⟩:=nM ({Cv m k with s:=(Cv m k).s++[(kk,dd,ys)]});have bg:Hd (Cv m (k+1) = {PK with f:=PK.f++[rk]}):=by show _=_;rw[ay.o,<-aJ]
     have bH:PK.f.length<=40:=by
      rw[<-aJ]
      show ((Ia m.s k).map _).length<=40;rw[BH];unfold Ia;have:=Ru (kept m.s) (List.range k);rw[Ly]at this;omega
     rw[aJ]at aP;clear aJ ay;have af:=aP.o;obtain⟨val2,aK,ag,an⟩:=af.ex;obtain⟨fn,a8⟩:=nM (PK.f.length);obtain⟨ai,aj,aq,_⟩:=aK.forms .f (Ad.f _);have aq:val2 .f=.slice ai fn aj:=by rw[aq];show Value.slice ai PK.f.length aj=_;rw[a8]
     have ap:=aK.row .f (Ad.f _);have ap:wa.ownsRow w1.heap.size 3 1 (val2 .f) PK.f.length (Ae PK.f):=ap;rw[a8,aq]at ap;rw[a8]at bH;have ah:Hd (OX wa w1.heap.size val2 PK/\wa.heap[D]?=some (.cells #[iI PK.g,val2 .r,val2 .s,val2 .f,val2 .p] 33)/\(∀a,Ad PK a->(val2 a).ownBlock≠some D)/\val2 .f=.slice ai fn aj/\PK.f.length=fn):=⟨aK,ag,an,aq,a8⟩;have a7:(Value.slice ai fn aj).ownBlock≠some D:=by rw[<-aq];exact an .f (Ad.f _)
     rw[aq]at ag;have hrf:=ap;have a6:D<wa.heap.size:=(AA ag);have ma:=Ag HM.o.1 af.bel oM;have bL:k<m.f.length:=by rw[bB.o];exact hlk
     obtain⟨fb,fo,bR,e0,_,aR,bi⟩:=HI.o.four.2.2.1.open oM;simp only[BP]at e0;obtain⟨bh,_,aS⟩:=e0;have b9:Hd (fa=some (aD fb fo)):=bh;clear bh aS;have ca:wa.cell? (aD fb (fo+k))=some (iI rk):=by
      have:=(af.bel.cell (p:=(aD fb (fo+k))) aR).trans (bi k bL);rw[bC.o.1]at this;exact this
     have bM:(k:Int)<(m.f.length:Int):=oM;clear aK an aq a8 ap bi;refine BT (S:=(fun X:World=>X.heap[w.heap.size]?=some (cA m ra rc sa sc fa fc na nc)/\X.cell? (aD fb (fo+k))=some (iI rk))) kR ⟨ma,ca⟩ (fun aa=>?_);refine BD 0 (pQ D 3) ?_;refine BD 2 (pQ w.heap.size 3) ?_;refine BD 3 (.slice fa m.f.length fc) ?_;refine BD 4 (iI (k:Int)) ?_;simp only[lays];refine Fe 5 (pQ fb (fo+k)) rfl (B3 ⟨by rfl,fun w' hSw=>by simp only[b9.o];go_simp⟩) aa ?_;simp only[lays];refine BD 6 (iI rk) ?_;simp only[lays];have af:AX w1 wa.drew D PK:=af.drew;have ah:Hd (OX wa.drew w1.heap.size val2 PK/\wa.drew.heap[D]?=some (.cells #[iI PK.g,val2 .r,val2 .s,val2 .f,val2 .p] 33)/\(∀a,Ad PK a->(val2 a).ownBlock≠some D)/\val2 .f=.slice ai fn aj/\PK.f.length=fn):=⟨ah.o.1.drew,ah.o.2⟩;have ag:wa.drew.heap[D]?=some (.cells #[iI PK.g,val2 .r,val2 .s,.slice ai fn aj,val2 .p] 33):=ag;have hrf:wa.drew.ownsRow w1.heap.size 3 1 (.slice ai fn aj) fn (Ae PK.f):=hrf.drew;have a6:D<wa.drew.heap.size:=a6;have ma:wa.drew.heap[w.heap.size]?=some (cA m ra rc sa sc fa fc na nc):=ma;have ca:wa.drew.cell? (aD fb (fo+k))=some (iI rk):=ca;obtain⟨wd,br⟩:=nM (wa.drew);rw[br]at af ah ag hrf a6 ma ca
     first|rw[br]|skip
     refine Jo 1 7 rfl rfl (fun K hK=>?_) (fun K hK=>?_)
     ·clear aa;simp only[lays];rw[Ab (by rfl)];have az:=ag;obtain⟨v0,v1,v2,v3,v4⟩:=five az;go_simp;refine hK.out _ _ ⟨ma,ca⟩ (fun aa=>?_);clear hK K v0 v1 v2 v3 v4 az;try simp only[lays]
      refine AC 7 rfl (fun K hK=>?_);clear aa;simp only[lays];rw[Ab (by rfl)];go_simp;refine hK.out _ _ ⟨Aj ma _,(I5 _ _ _ (by show fb<_;have:=af.bel.size;first|omega|(simp<;>omega))).trans ca⟩ (fun aa=>?_);clear hK K;try simp only[lays]
      refine AC 8 rfl (fun K hK=>?_);clear aa;simp only[lays];rw[Ab (by rfl)];refine Rm (W:=wd) (B:=w1.heap.size) (n:=fn) (v:=.slice ai fn aj) (xs:=PK.f) (e:=rk) _ _ (by rfl) (by rfl) (N:=wd.heap.size) (by rfl) rfl hrf oM (by have:=af.bel.size;omega) ?_;intro v9 w9 g1 g2 g3;obtain⟨ga,gc,bc⟩:=Eo g1.o;subst bc;have aC:(wd.alloc (oI rk)).heap.size=wd.heap.size+1:=by simp
      have ac:∀q,q<wd.heap.size->(Value.slice ai fn aj).ownBlock≠some q->w9.heap[q]?=wd.heap[q]?:=fun q hq hn=>(g2.o.block q (by rw[aC];omega) (fun e=>hn e.symm)).trans (Ch _ _ q hq)
      have aT:(Value.slice ai fn aj).ownBlock≠some w.heap.size:=fun e=>by have:=(hrf.lt _ e).1;omega
      have au:(Value.slice ai fn aj).ownBlock≠some fb:=fun e=>by have:=(hrf.lt _ e).1;omega
      have m9:=(ac w.heap.size (by have:=af.bel.size;omega) aT).trans ma;have c9:w9.cell? (aD fb (fo+k))=some (iI rk):=by
       have e9:=ac fb (by have:=af.bel.size;omega) au;have:w9.cell? (aD fb (fo+k))=wd.cell? (aD fb (fo+k)):=by simp only[World.cell?,e9]
       rw[this];exact ca
      have D9:=(ac D a6 a7).trans ag;have aQ:Hd (AX w1 (w9.setCell (aD D 3) (lZ ga (fn+1) gc)) D (Cv m (k+1))):=by
       have key:=TF (W:=w9) (v:=lZ ga (fn+1) gc) (r:=PK.f++[rk]) ah.o.1 ah.o.2.1 af.ge ah.o.2.2.1 (by have:=g1.o;rw[show (PK.f++[rk]).length=fn+1 by simp[ah.o.2.2.2.2]];exact this) (by rw[ah.o.2.2.2.1];exact ac) ((af.bel.alloc af.bel.size _).grown g2.o (by rw[aC];have:=af.bel.size;omega) (fun q e=>(hrf.lt q e).1)) (by
        rw[ah.o.2.2.2.1];rcases g3.o with x|x
        ·exact .inl x
        ·exact .inr (fun q e=>by rw[x]at e;cases e;first|omega|(simp<;>omega)))
       rw[bg.o];exact key
      refine hK.out _ _ ⟨m9,c9⟩ (fun aa=>?_);clear hK K;try simp only[lays]
      refine BD 9 (pQ D 3) ?_;simp only[lays];refine AC 10 rfl (fun K hK=>?_);clear aa;simp only[lays];rw[Ab (by rfl)];obtain⟨v0,v1,v2,v3,v4⟩:=five D9;have u3:=Aq D9 3;go_simp;have bd:¬w.heap.size=D:=by have:=af.ge;omega
      have aG:¬fb=D:=by have:=af.ge;omega
      refine hK.out _ _ ⟨(AN _ (aD D 3) _ _ bd).trans m9,by first|(simp[aG,c9];done)|(have e9:=AN w9 (aD D 3) (lZ ga (fn+1) gc) fb aG;have:(w9.setCell (aD D 3) (lZ ga (fn+1) gc)).cell? (aD fb (fo+k))=w9.cell? (aD fb (fo+k)):=(by simp only[World.cell?,e9]);rw[this];exact c9)⟩ (fun aa=>?_);clear hK K aa v0 v1 v2 v3 v4 u3;refine BQ kR ?_ _;clear g1 g2 g3 m9 c9 D9 ac;go_wp2_with fail;go_roundw
      case rel=>exact⟨k+1,oM,oM,by go_num,aQ⟩
      case measure=>simp[intOf];omega
     ·clear aa;simp only[lays];rw[Ab (by rfl)];go_simp;refine hK.out _ _ ⟨Aj ma _,(I5 _ _ _ (by show fb<_;have:=af.bel.size;first|omega|(simp<;>omega))).trans ca⟩ (fun aa=>?_);clear hK K;try simp only[lays]
      refine AC 1 rfl (fun K hK=>?_);clear aa;simp only[lays];rw[Ab (by rfl)];have az:=(Aj ag (oI rk));obtain⟨v0,v1,v2,v3,v4⟩:=five az;go_simp;refine hK.out _ _ ⟨Aj ma _,(I5 _ _ _ (by show fb<_;have:=af.bel.size;first|omega|(simp<;>omega))).trans ca⟩ (fun aa=>?_);clear hK K v0 v1 v2 v3 v4 az;try simp only[lays]
      refine AC 8 rfl (fun K hK=>?_);clear aa;simp only[lays];rw[Ab (by rfl)];refine Rm (W:=wd) (B:=w1.heap.size) (n:=fn) (v:=.slice ai fn aj) (xs:=PK.f) (e:=rk) _ _ (by rfl) (by rfl) (N:=wd.heap.size) (by rfl) rfl hrf oM (by have:=af.bel.size;omega) ?_;intro v9 w9 g1 g2 g3;obtain⟨ga,gc,bc⟩:=Eo g1.o;subst bc;have aC:(wd.alloc (oI rk)).heap.size=wd.heap.size+1:=by simp
      have ac:∀q,q<wd.heap.size->(Value.slice ai fn aj).ownBlock≠some q->w9.heap[q]?=wd.heap[q]?:=fun q hq hn=>(g2.o.block q (by rw[aC];omega) (fun e=>hn e.symm)).trans (Ch _ _ q hq)
      have aT:(Value.slice ai fn aj).ownBlock≠some w.heap.size:=fun e=>by have:=(hrf.lt _ e).1;omega
      have au:(Value.slice ai fn aj).ownBlock≠some fb:=fun e=>by have:=(hrf.lt _ e).1;omega
      have m9:=(ac w.heap.size (by have:=af.bel.size;omega) aT).trans ma;have c9:w9.cell? (aD fb (fo+k))=some (iI rk):=by
       have e9:=ac fb (by have:=af.bel.size;omega) au;have:w9.cell? (aD fb (fo+k))=wd.cell? (aD fb (fo+k)):=by simp only[World.cell?,e9]
       rw[this];exact ca
      have D9:=(ac D a6 a7).trans ag;have aQ:Hd (AX w1 (w9.setCell (aD D 3) (lZ ga (fn+1) gc)) D (Cv m (k+1))):=by
       have key:=TF (W:=w9) (v:=lZ ga (fn+1) gc) (r:=PK.f++[rk]) ah.o.1 ah.o.2.1 af.ge ah.o.2.2.1 (by have:=g1.o;rw[show (PK.f++[rk]).length=fn+1 by simp[ah.o.2.2.2.2]];exact this) (by rw[ah.o.2.2.2.1];exact ac) ((af.bel.alloc af.bel.size _).grown g2.o (by rw[aC];have:=af.bel.size;omega) (fun q e=>(hrf.lt q e).1)) (by
        rw[ah.o.2.2.2.1];rcases g3.o with x|x
        ·exact .inl x
        ·exact .inr (fun q e=>by rw[x]at e;cases e;first|omega|(simp<;>omega)))
       rw[bg.o];exact key
      refine hK.out _ _ ⟨m9,c9⟩ (fun aa=>?_);clear hK K;try simp only[lays]
      refine BD 9 (pQ D 3) ?_;simp only[lays];refine AC 10 rfl (fun K hK=>?_);clear aa;simp only[lays];rw[Ab (by rfl)];obtain⟨v0,v1,v2,v3,v4⟩:=five D9;have u3:=Aq D9 3;go_simp;have bd:¬w.heap.size=D:=by have:=af.ge;omega
      have aG:¬fb=D:=by have:=af.ge;omega
      refine hK.out _ _ ⟨(AN _ (aD D 3) _ _ bd).trans m9,by first|(simp[aG,c9];done)|(have e9:=AN w9 (aD D 3) (lZ ga (fn+1) gc) fb aG;have:(w9.setCell (aD D 3) (lZ ga (fn+1) gc)).cell? (aD fb (fo+k))=w9.cell? (aD fb (fo+k)):=(by simp only[World.cell?,e9]);rw[this];exact c9)⟩ (fun aa=>?_);clear hK K aa v0 v1 v2 v3 v4 u3;refine BQ kR ?_ _;clear g1 g2 g3 m9 c9 D9 ac;go_wp2_with fail;go_roundw
      case rel=>exact⟨k+1,oM,oM,by go_num,aQ⟩
      case measure=>simp[intOf];omega
   ·have ek:k=m.s.length:=oM;have b8:Hd (AX w1 wr D (DT m 0)):=by rw[<-dO,<-ek];exact HC.o
    clear HC HD ek;have aU:¬(k:Int)<(m.s.length:Int):=oM;obtain⟨wx,bO⟩:∃X,X=wr:=⟨_,rfl⟩;subst bO;go_wp2_with fail
    go_loopw [6] (fun i wr=>∃k:Nat,k<=m.p.length/\i=iI k/\Hd (AX w1 wr D (DT m k))) (fun i _=>m.p.length-(intOf i).toNat)
    case atStart=>exact⟨0,A7 _,rfl,b8⟩
    case round=>
     clear c0 c1 c2 c3 c4 hk bK hlk aU;obtain⟨k,hk,rfl,HC⟩:=hrel;have bl:=HC.o.bel;have n0:=Ag HM.o.1 bl oM;obtain⟨c0,c1,c2,c3,c4⟩:=five n0
     by_cases hlk:k<m.p.length
     ·have aU:(k:Int)<(m.p.length:Int):=oM;obtain⟨val,hX,ab,ae⟩:=HC.o.ex;have aM:=HC.o.ge;have bF:D<wr.heap.size:=(AA ab);obtain⟨kn,al⟩:=nM ((DT m k).p.length);have aV:kn<=40:=by rw[<-al];show ((m.p.take k).map _).length<=40;rw[BH,BI];omega
      obtain⟨pa,pc,hp,_⟩:=hX.forms .p (Ad.p _);have hp:val .p=.slice pa kn pc:=by rw[hp];show Value.slice pa (DT m k).p.length pc=_;rw[al]
      have ad:=hX.row .p (Ad.p _);have ad:wr.ownsRow w1.heap.size 87 3 (val .p) (DT m k).p.length (A8 (DT m k).p (fun j=>val (.sr j))):=ad;rw[al]at ad;obtain⟨sb,so,bQ,e,_,bG,aA⟩:=(HI.o.four.2.2.2.below bl).open oM;simp only[BP]at e;obtain⟨aB,_,ba⟩:=e;rw[aB]at c4;clear aB ba;obtain⟨tv,q0,q1,q2,qs⟩:=aA k hlk;obtain⟨⟨dd,kk,es⟩,av⟩:∃s,m.p[k]=s:=⟨_,rfl⟩;have HS:Hd (m.p[k]=(dd,kk,es)):=av;rw[av]at q0 q1 qs;have q0:wr.cell? (aD sb (so+k*3))=some (.string dd):=q0;have q1:wr.cell? (aD sb (so+k*3+1))=some (iI kk):=q1;have qs:Sl wr tv es:=qs;obtain⟨ta,tc,rfl⟩:=qs.form;obtain⟨ys,ax⟩:=nM (es.map (Ba m.s));have HY:Hd (es.map (Ba m.s)=ys):=ax;have ak:es.length<=40/\∀e∈es,DI m.s e:=by
       have ao:(dd,kk,es)∈BN m:=by rw[<-av];exact CA _ (BS _)
       obtain⟨f1,f2,f3,f4⟩:=Fb HP.o.2.1 ao;have f2:kk<=16:=f2;have f3:(es.length:Int)=(kk+3)/4:=f3;exact⟨oM,fun e he=>QE (gb HP.o.2.1 ao e he)⟩
      have aO:Hd (∀W,Bw wr W->Cl 62 #[.agg (aI m ra rc sa sc fa fc na nc),.slice ta es.length tc] W fun r w'=>∃va,r=.returned va/\w'.ownsRow (W.heap.size+1) 3 1 va ys.length (Ae ys)/\Bw W w'):=fun W hW=>Pb ((HI.o.below bl).below hW) (qs.below hW) h40 ak.1 ak.2 ax
      have aE:=Aj n0 (oN dd kk ta es.length tc);have bs:=five aE;clear aA av n0 aE ax ak qs;have HX:Hd (OX wr w1.heap.size val (DT m k)/\(∀a,Ad (DT m k) a->(val a).ownBlock≠some D)/\Bw w1 wr/\val .p=.slice pa kn pc/\(DT m k).p.length=kn/\wr.heap[D]?=some (.cells #[iI (DT m k).g,val .r,val .s,val .f,val .p] 33)):=⟨hX,ae,bl,hp,al,ab⟩;rw[hp]at ab ad;have d0:=five ab;have f2:=Aq ab 4;have aL:(Value.slice pa kn pc).ownBlock≠some D:=by rw[<-hp];exact ae .p (Ad.p _)
      have aF:¬D=wr.heap.size:=oM;have bP:¬wr.heap.size=D:=oM;clear hX ae hp al;go_wp2_with(first|(go_at_call 62;refine(aO.o _ (Av)).mono ?_;rintro e9 w6 ⟨v6,rfl,r1,b6⟩;obtain⟨xa,xc,rfl⟩:=B0 r1;have s6:=b6.size;have HW:Hd (OX w6 w1.heap.size val (DT m k)/\Bw w1 w6/\w6.heap[D]?=some (.cells #[iI (DT m k).g,val .r,val .s,val .f,val .p] 33)/\(∀a,Ad (DT m k) a->(val a).ownBlock≠some wr.heap.size)/\(Value.slice xa ys.length xc).ownBlock≠some wr.heap.size/\(∀g,(Value.slice xa ys.length xc).ownBlock=some g->wr.heap.size<=g)/\(Value.slice xa ys.length xc).ownBlock≠some D/\wr.heap.size+1<=w6.heap.size):=SL HX.o.1 HX.o.2.2.1 HX.o.2.2.2.2.2 b6 r1;have u5:=Ag (C2 wr (oN dd kk ta es.length tc)) b6 (by simp);obtain⟨t0,t1,t2⟩:=BO u5;have tf:=Aq u5 2;have z6:=Ag (Aj ab (oN dd kk ta es.length tc)) b6 (by simp;omega);have x0:=five z6;have y2:=Aq z6 4;have am:=CX (ad.alloc (oN dd kk ta es.length tc)) (W':=w6) (fun q hq=>b6.block q ((ad.alloc (oN dd kk ta es.length tc)).lt q hq).2);have r6:=CL r1 (B':=w1.heap.size) (by have:=bl.size;simp;omega))|(at_builtin;refine Lo (by rfl) _ _ 31 87 _ underlying31 J1 (by rfl) (by rfl) (B:=w1.heap.size) (v:=.slice pa kn pc) (c0:=.string dd) (c1:=iI kk) (c2:=.slice xa ys.length xc) (by rfl) (by rfl) (by rfl) (by rfl) (by rfl) (by simp) (Ds am (fun e=>JG _ (ad.lt _ e).2) _) oM (by have:=bl.size;have:=HW.o.2.1.size;simp;omega) ?_;intro v1 w8 h1 h2 h3;obtain⟨g1,ar,bb⟩:=Eo h1.o;subst bb;have z2:=(h2.block D (by simp;have:=HW.o.2.2.2.2.2.2.2;omega) (fun e=>aL e.symm)).trans (Aj (Bt (by have:=HW.o.2.2.1;exact this) aF _ _) _);have s0:=five z2;have b7:=Aq z2 4));have HN:Hd (AX w1 (w8.setCell (aD D 4) (lZ g1 (kn+1) ar)) D (DT m (k+1))):=by
       rw[dS m hlk,HS.o];unfold Gh;dsimp only;rw[HY.o];obtain⟨hX,ae,bl,hp,al,ab⟩:=HX.o;refine Qn (es:=ys) ((HW.o.1.far HW.o.2.2.2.1).alloc _) ((HW.o.2.1.setCell bl.size _).alloc (by have:=bl.size;have:=HW.o.2.2.2.2.2.2;simp;omega) _) (Aj (Bt HW.o.2.2.1 aF _ _) _) aM ae ((Ds r6 HW.o.2.2.2.2.1 _).alloc _) (IC hX _ HW.o.2.2.2.2.2.1) (HW.o.2.2.2.2.2.2.1) (by rw[hp];exact h2) (by rw[al];exact h1.o) ?_;rw[hp];rcases h3.o with x|x
       ·exact .inl x
       ·refine .inr (fun g e=>?_);rw[x]at e
        cases e
        simp
      go_roundw
      case rel=>exact⟨k+1,oM,by go_num,HN⟩
      case measure=>simp[intOf];omega
     ·have ek:k=m.p.length:=oM;subst ek;obtain⟨val,hX,ab,ae⟩:=HC.o.ex;obtain⟨MP,aH⟩:=nM (CU m);rw[dR,aH]at hX ab ae;have bj:MP.g=m.g:=by rw[<-aH];rfl
      obtain⟨bt,bz,bk,_⟩:=hX.forms .r (Ad.r _);obtain⟨bu,b3,bn,_⟩:=hX.forms .s (Ad.s _);obtain⟨bv,b4,aq,_⟩:=hX.forms .f (Ad.f _);obtain⟨bw,b5,bo,_⟩:=hX.forms .p (Ad.p _);have HX:Hd (OX wr w1.heap.size val MP/\val .r=.slice bt MP.r.length bz/\val .s=.slice bu MP.s.length b3/\val .f=.slice bv MP.f.length b4/\val .p=.slice bw MP.p.length b5):=⟨hX,bk,bn,aq,bo⟩;rw[HX.o.2.1,HX.o.2.2.1,HX.o.2.2.2.1,HX.o.2.2.2.2,bj]at ab;have d0:=five ab;have n1:=Ag HM.o.2.1 bl oM;obtain⟨z0,z1,z2,z3,z4⟩:=five n1;have y0:=Aq n1;have aM:=HC.o.ge;have g1:¬D=w.heap.size+1:=oM;have g2:¬w.heap.size+1=D:=oM;have au:∀a,Ad MP a->(val a).ownBlock≠some (w.heap.size+1):=fun a ha e=>by
       have:=((hX.row a ha).lt _ e).1;omega
      have HB:Hd (Bw w wr):=HM.o.2.2.trans (bl.mono oM);have bA:Hd (CU m=MP):=aH;clear hX bk bn aq bo ae aH bj ab n1 n0;go_wp2_with fail;have i1:w.heap.size<=w.heap.size+1:=Cw _;refine AY (v:=.agg (bI m.g bt MP.r.length bz bu MP.s.length b3 bv MP.f.length b4 bw MP.p.length b5)) (by simp[results,results28,go_sem,z0,z1,z2,z3,z4]) rfl ⟨val,by unfold AB;rw[HX.o.2.1,HX.o.2.2.1,HX.o.2.2.2.1,HX.o.2.2.2.2],by rw[bA.o];exact OX.mono (((((HX.o.1.far au).far au).far au).far au).far au) oM,((((HB.o.setCell i1 _).setCell i1 _).setCell i1 _).setCell i1 _).setCell i1 _⟩
theorem dt (h:Al w v m)(hC:Ao m=0)(hM:Ib m=M):Cl 28 #[v] w fun r w'=>∃val,r=.returned (AB M.g val)/\OX w' w.heap.size val M/\Bw w w':=by
 have h':=h;obtain⟨ra,rc,sa,sc,fa,fc,na,nc,rfl,_⟩:=h.parts;have e:Ib m=CU m:=by unfold Ib;rw[Ab hC]
 rw[e]at hM;subst hM;exact dr ra rc sa sc fa fc na nc m w h' hC _ rfl
section
open Go.Lib
theorem Ky (x:Int):((Am x).toNat:Int)=x%256:=by
 unfold Am;rw[Ry];omega
theorem LJ {x:Int}(h0:0<=x)(h:x<256):((Am x).toNat:Int)=x:=by rw[Ky];omega
theorem Qg {size q:Nat}{e:TypeId}{c:Array Value}{T:TypeId}{z:Nat × Nat}(h:W.ownsRow B e size v n xs)(hq:W.heap[q]?=some (.cells c T z))(hne:T≠e):v.ownBlock≠some q:=fun x=>by
 obtain⟨c',h'⟩:=UE h x;rw[hq]at h'
 injection h' with h'
 injection h' with _ h' _
 exact hne h'
theorem YP (ra:Option Addr)(rc:Nat)(sa:Option Addr)(sc:Nat)(fa:Option Addr)(fc:Nat)(na:Option Addr)(nc:Nat)(m:Ac)(w:World)(h:Al w (.agg (aI m ra rc sa sc fa fc na nc)) m)(hs:As m=0):Cl 31 #[.agg (aI m ra rc sa sc fa fc na nc)] w fun r w'=>r=.returned (.string (Ai (Dh m)))/\Bw w w':=by
 let V:=(w.alloc (cA m ra rc sa sc fa fc na nc))
 have b0:Bw w V:=Av;have m0:V.heap[w.heap.size]?=some (cA m ra rc sa sc fa fc na nc):=Aw _ _;have h40:=(A4 (Au hs).2.1).2;have bf:=(Au hs).1;have bb:=Dg hs;have hrt:=CQ hs;have bg:m.r.length<=4:=oM;have HP:Hd (True/\As m=0):=⟨trivial,hs⟩;have ax:Hd (m.s.all B1=true):=U3 hs;have HI:Hd (Al w (.agg (aI m ra rc sa sc fa fc na nc)) m):=h;have n1:(V.alloc (.cells #[.int .u8 (m.g%256),.int .u8 (m.s.length:Int)] 5)).heap[w.heap.size+1]?=some (.cells #[.int .u8 (m.g%256),.int .u8 (m.s.length:Int)] 5):=AR (by simp[V]);have aE:Hd (Dd w (V.alloc (.cells #[.int .u8 (m.g%256),.int .u8 (m.s.length:Int)] 5)) (cA m ra rc sa sc fa fc na nc) (lZ (w.heap.size+1) 2 2) ((Am m.g::Am (m.s.length:Int)::[])++(m.s.take 0).flatMap Bv)):=by
  refine⟨⟨rfl,.inr ⟨w.heap.size+1,2,_,rfl,Bc _,n1,Bc _,by unfold maxLen;omega,rfl,?_⟩⟩,b0.alloc (by simp[V]) _,Aj m0 _⟩
  show [Value.int .u8 (m.g%256),Value.int .u8 (m.s.length:Int)]=[Value.int .u8 ((Am m.g).toNat:Int),Value.int .u8 ((Am (m.s.length:Int)).toNat:Int)]
  rw[Ky,LJ oM oM]
 obtain⟨c0,c1,c2,c3,c4⟩:=five m0;have aT:=Aj m0 (.cells #[.int .u8 (m.g%256),.int .u8 (m.s.length:Int)] 5);have d0:=five aT;clear h m0 aT b0 n1 hs bb hrt;dsimp only[V]at *;clear V
 go_enter func31,ntmps31
 go_wp2_with fail;clear c0 c1 c2 c3 c4 d0;obtain⟨W0,aP⟩:=nM ((w.alloc (cA m ra rc sa sc fa fc na nc)).alloc (.cells #[.int .u8 (m.g%256),.int .u8 (m.s.length:Int)] 5));rw[aP]at aE ⊢;clear aP
 go_loopw [3,4,5] (fun b i _ wr=>∃ (k:Nat) (v:Value),k<=m.s.length/\i=iI k/\b=v/\Hd (Dd w wr (cA m ra rc sa sc fa fc na nc) v ((Am m.g::Am (m.s.length:Int)::[])++(m.s.take k).flatMap Bv))) (fun _ i _ _=>m.s.length-(RowKit.intOf i).toNat)
 case atStart=>exact⟨0,_,A7 _,rfl,rfl,aE⟩
 case round=>
  obtain⟨k,v,hk,rfl,rfl,HC⟩:=hrel
  by_cases hlk:k<m.s.length
  ·have aC:(k:Int)<(m.s.length:Int):=oM;have ah:=HC.o.bel;have ad:=HC.o.box;obtain⟨c0,c1,c2,c3,c4⟩:=five ad;obtain⟨sb,so,bd,e,_,ag,a7⟩:=HI.o.four.2.1.open oM;simp only[BP]at e;obtain⟨aA,_,aM⟩:=e;rw[aA]at c2;clear aA aM;obtain⟨tv,q0,q1,q2,qs⟩:=a7 k hlk;obtain⟨⟨kk,dd,es⟩,aj⟩:∃s,m.s[k]=s:=⟨_,rfl⟩;rw[aj]at q0 q1 qs;have q0:wr.cell? (aD sb (so+k*3))=some (iI kk):=(ah.cell (p:=(aD sb (so+k*3))) ag).trans q0;have q1:wr.cell? (aD sb (so+k*3+1))=some (.string dd):=(ah.cell (p:=(aD sb (so+k*3+1))) ag).trans q1;have qs:Sl w tv es:=qs;obtain⟨ta,tc,rfl⟩:=qs.form;have q2:wr.cell? (aD sb (so+k*3+1+1))=some (.slice ta es.length tc):=(ah.cell (p:=(aD sb (so+k*3+1+1))) ag).trans q2;have ay:(((Am m.g::Am (m.s.length:Int)::[])++(m.s.take k).flatMap Bv)).length<=1000:=by
    have:=Fl (c:=9) (B:=Bv) (m.s.take k) (fun s hs=>G5 (Ax.1 ax.o s (Kh hs)));simp only[Bl,BF,C1,BI]at this ⊢;have:9*min k m.s.length<=360:=oM;omega
   have ba:dd.size+es.length<=100:=by
    have ai:(kk,dd,es)∈m.s:=by rw[<-aj];exact BS _
    have:=G5 (Ax.1 ax.o (kk,dd,es) ai);unfold Bv at this;simp only[BF,Bl,BH]at this;have e:dd.data.toList.length=dd.size:=rfl;omega
   have aw:Hd (((Am m.g::Am (m.s.length:Int)::[])++(m.s.take (k+1)).flatMap Bv)=((Am m.g::Am (m.s.length:Int)::[])++(m.s.take k).flatMap Bv)++Bv (kk,dd,es)):=by
    show _=_
    rw[show m.s.take (k+1)=m.s.take k++[m.s[k]] from (Hg hlk).symm,Hb,aj];simp
   obtain⟨L,hL⟩:=nM (((Am m.g::Am (m.s.length:Int)::[])++(m.s.take k).flatMap Bv));rw[hL]at HC aw ay;obtain⟨N,hN⟩:=nM (L.length);rw[hN]at ay;have aa:=HC.o.row;rw[hN]at aa;obtain⟨pa,pc,rfl⟩:=B0 aa;have HL:Hd (L.length=N):=hN;have hlt:=HC.o.lt;have HQ:Hd (Sl w (.slice ta es.length tc) es):=qs;have ab:(wr.alloc (oS kk dd ta es.length tc)).heap[wr.heap.size]?=some (oS kk dd ta es.length tc):=Aw _ _;have aJ:=Aj ad (oS kk dd ta es.length tc);obtain⟨x0,x1,x2⟩:=BO ab;clear a7 aj qs hL hN ad ag;go_upto_region 7 with(at_builtin;refine Ln (by rfl) _ _ (by rfl) (W:=(wr.alloc (oS kk dd ta es.length tc))) (B:=w.heap.size+1) (n:=N) (v:=.slice pa N pc) (xs:=L) (Am kk) (by first|exact(Ky _).symm|exact(LJ oM oM).symm) (by rfl) (N:=wr.heap.size+1) (by first|rfl|simp) (by first|rfl|simp) (aa.alloc _) oM (by have:=hlt;first|omega|(simp<;>omega)) ?_;intro v6 w6 g1 g2;obtain⟨ae,af,hv⟩:=B0 g1.o;subst hv);have I6:Dd w w6 (cA m ra rc sa sc fa fc na nc) (.slice ae (N+1) af) (L++[Am kk]):=((HC.o.on (Av)).on (Av)).grow (by simp[HL.o]) g1.o g2.o;have an:w6.heap[wr.heap.size]?=some (oS kk dd ta es.length tc):=(g2.o.block wr.heap.size (by first|(simp;done)|(simp;omega)) (fun e=>by have:=(aa.lt _ e.symm).2;omega)).trans (Aj ab _);clear g1 g2 x0 x1 x2 c0 c1 c2 c3 c4 q0 q1 q2 aa ab aJ HC ah;obtain⟨x0,x1,x2⟩:=BO an;have am:w6.ownsRow (w.heap.size+1) 5 1 (.slice ae (N+1) af) (N+1) (CS (L++[Am kk])):=by have:=I6.row;rw[show (L++[Am kk]).length=N+1 by simp[HL.o]]at this;exact this
   have aK:=I6.lt;have H6:Hd (Dd w w6 (cA m ra rc sa sc fa fc na nc) (.slice ae (N+1) af) (L++[Am kk])/\w6.heap[wr.heap.size]?=some (oS kk dd ta es.length tc)):=⟨I6,an⟩;clear I6 an;go_upto_region 8 with(at_builtin;refine Rk (by rfl) _ _ (by rfl) (B:=w.heap.size+1) (n:=N+1) (v:=.slice ae (N+1) af) (xs:=L++[Am kk]) dd (by rfl) (by rfl) am oM oM ?_;intro v7 w7 g1 g2;obtain⟨ak,al,hv⟩:=B0 g1.o;subst hv);have ar:w7.heap[wr.heap.size]?=some (oS kk dd ta es.length tc):=(g2.o.block wr.heap.size (by have:=(B6.1 H6.o.2).1;exact this) (fun e=>Qg am H6.o.2 dE e.symm)).trans H6.o.2;have I7:Dd w w7 (cA m ra rc sa sc fa fc na nc) (.slice ak (N+1+dd.size) al) (L++[Am kk]++dd.data.toList):=H6.o.1.grow (by simp[HL.o];have:dd.data.toList.length=dd.size:=rfl;omega) g1.o g2.o;have aq:=g1.o;clear g1 g2 x0 x1 x2 am;obtain⟨x0,x1,x2⟩:=BO ar;have az:=I7.lt;have aQ:Sl w7 (.slice ta es.length tc) es:=HQ.o.below I7.bel;have H7:Hd (Dd w w7 (cA m ra rc sa sc fa fc na nc) (.slice ak (N+1+dd.size) al) (L++[Am kk]++dd.data.toList)):=I7;clear I7 ar H6;have au:Hd (Cl 64 #[.slice ta es.length tc] w7 fun r w'=>∃va,r=.returned va/\Iv w7 w' va (es.map Am)):=Pf aQ oM;clear aQ;go_wp2_with(first|(at_builtin;refine Rj (by rfl) _ _ (by rfl) (B:=w.heap.size+1) (n:=(N+1+dd.size)) (v:=.slice ak (N+1+dd.size) al) (xs:=(L++[Am kk]++dd.data.toList)) (by rfl) (by rfl) aB a8 (by rw[BH];omega) oM ?_;intro vA wA g1 g2;obtain⟨ao,ap,hv⟩:=B0 g1.o;subst hv)|(go_at_call 64;refine au.o.mono ?_;rintro e9 w9 ⟨va,rfl,ac⟩;have aB:=ac.row;have a8:=CX aq (W':=w9) (fun q hq=>ac.bel.block q (aq.lt q hq).2);have I9:=H7.o.on ac.bel;have a6:=I9.lt;have av:=A9 I9;clear I9 ac));have HN:Hd (Dd w wA (cA m ra rc sa sc fa fc na nc) (.slice ao ((N+1+dd.size)+es.length) ap) ((Am m.g::Am (m.s.length:Int)::[])++(m.s.take (k+1)).flatMap Bv)):=by
    rw[aw.o];have e1:L++Bv (kk,dd,es)=(L++[Am kk]++dd.data.toList)++es.map Am:=by unfold Bv;simp
    rw[e1];have key:=av.o.grow (l':=(L++[Am kk]++dd.data.toList)++es.map Am) (by simp[HL.o];have:dd.data.toList.length=dd.size:=rfl;omega) g1.o g2.o;rw[BH]at key;exact key
   go_roundw
   case rel=>exact⟨k+1,_,oM,by go_num,rfl,HN⟩
   case measure=>simp[RowKit.intOf];omega
  ·have aC:¬(k:Int)<(m.s.length:Int):=oM;have ek:k=m.s.length:=oM;have hI:=HC.o;rw[show m.s.take k=m.s by rw[ek,Fz]]at hI;obtain⟨w3,aL⟩:∃X,X=wr:=⟨_,rfl⟩;subst aL;obtain⟨L,hL⟩:=nM (((Am m.g::Am (m.s.length:Int)::[])++m.s.flatMap Bv));have hlen:L.length<=1000:=by
    rw[<-hL];have:=Fl (c:=9) (B:=Bv) m.s (fun s hs=>G5 (Ax.1 ax.o s hs));simp only[Bl,BF,C1];omega
   rw[hL]at hI;have aF:Hd (((Am m.g::Am (m.s.length:Int)::[])++m.s.flatMap Bv)=L):=hL;obtain⟨N,hN⟩:=nM (L.length);have aa:=hI.row;rw[hN]at aa hlen;obtain⟨pa,pc,rfl⟩:=B0 aa;have HL:Hd (L.length=N):=hN;have hlt:=hI.lt;have ad:=hI.box;obtain⟨c0,c1,c2,c3,c4⟩:=five ad;have aO:Hd (Dd w w3 (cA m ra rc sa sc fa fc na nc) (.slice pa N pc) L):=hI;clear hI hN hL HC aE ad ek hlk hk;go_upto_region 10 with(at_builtin;refine Ln (by rfl) _ _ (by rfl) (W:=w3) (B:=w.heap.size+1) (n:=N) (v:=.slice pa N pc) (xs:=L) (Am (m.p.length:Int)) (by first|exact(Ky _).symm|exact(LJ oM oM).symm) (by rfl) (N:=w3.heap.size) (by first|rfl|simp) (by first|rfl|simp) aa oM (by have:=hlt;first|omega|(simp<;>omega)) ?_;intro v4 w4 g1 g2;obtain⟨aX,aY,hv⟩:=B0 g1.o;subst hv);have aN:Hd (Dd w w4 (cA m ra rc sa sc fa fc na nc) (.slice aX (N+1) aY) (((Am m.g::Am (m.s.length:Int)::[])++m.s.flatMap Bv++[Am (m.p.length:Int)])++(m.p.take 0).flatMap Ck)):=by
    have e1:(((Am m.g::Am (m.s.length:Int)::[])++m.s.flatMap Bv++[Am (m.p.length:Int)])++(m.p.take 0).flatMap Ck)=L++[Am (m.p.length:Int)]:=by rw[aF.o];simp
    rw[e1];exact(aO.o.on (Av)).grow (by simp[HL.o]) g1.o g2.o
   clear g1 g2 c0 c1 c2 c3 c4 aa aO aC hlt hlen HL;go_wp2_with fail
   go_loopw [3,6,7] (fun b i _ wr=>∃ (k:Nat) (v:Value),k<=m.p.length/\i=iI k/\b=v/\Hd (Dd w wr (cA m ra rc sa sc fa fc na nc) v (((Am m.g::Am (m.s.length:Int)::[])++m.s.flatMap Bv++[Am (m.p.length:Int)])++(m.p.take k).flatMap Ck))) (fun _ i _ _=>m.p.length-(RowKit.intOf i).toNat)
   case atStart=>exact⟨0,_,A7 _,rfl,rfl,aN⟩
   case round=>
    obtain⟨k,v,hk,rfl,rfl,HC⟩:=hrel
    by_cases hlk:k<m.p.length
    ·have aC:(k:Int)<(m.p.length:Int):=oM;have ah:=HC.o.bel;have ad:=HC.o.box;obtain⟨c0,c1,c2,c3,c4⟩:=five ad;obtain⟨sb,so,bd,e,_,ag,a7⟩:=HI.o.four.2.2.2.open oM;simp only[BP]at e;obtain⟨aA,_,aM⟩:=e;rw[aA]at c4;clear aA aM;obtain⟨tv,q0,q1,q2,qs⟩:=a7 k hlk;obtain⟨⟨dd,kk,es⟩,aj⟩:∃s,m.p[k]=s:=⟨_,rfl⟩;rw[aj]at q0 q1 qs;have q0:wr.cell? (aD sb (so+k*3))=some (.string dd):=(ah.cell (p:=(aD sb (so+k*3))) ag).trans q0;have q1:wr.cell? (aD sb (so+k*3+1))=some (iI kk):=(ah.cell (p:=(aD sb (so+k*3+1))) ag).trans q1;have qs:Sl w tv es:=qs;obtain⟨ta,tc,rfl⟩:=qs.form;have q2:wr.cell? (aD sb (so+k*3+1+1))=some (.slice ta es.length tc):=(ah.cell (p:=(aD sb (so+k*3+1+1))) ag).trans q2;have ay:((((Am m.g::Am (m.s.length:Int)::[])++m.s.flatMap Bv++[Am (m.p.length:Int)])++(m.p.take k).flatMap Ck)).length<=1000:=by
      have h1:=Fl (c:=9) (B:=Bv) m.s (fun s hs=>G5 (Ax.1 ax.o s hs));have h2:=Fl (c:=14) (B:=Ck) (m.p.take k) (fun s hs=>Ob HP.o.2 (Kh hs));simp only[Bl,BF,C1,BI]at h2 ⊢;have:14*min k m.p.length<=42:=oM;omega
     have ba:dd.size+es.length<=100:=by
      have ai:(dd,kk,es)∈m.p:=by rw[<-aj];exact BS _
      obtain⟨f1,f2,f3,f4⟩:=Fb HP.o.2 (s:=(dd,kk,es)) (CA _ ai);have f2:kk<=16:=f2;have f3:(es.length:Int)=(kk+3)/4:=f3;have h8:dd.size<=8:=L8 (Au HP.o.2).2.2.2.1 ai;omega
     have aw:Hd ((((Am m.g::Am (m.s.length:Int)::[])++m.s.flatMap Bv++[Am (m.p.length:Int)])++(m.p.take (k+1)).flatMap Ck)=(((Am m.g::Am (m.s.length:Int)::[])++m.s.flatMap Bv++[Am (m.p.length:Int)])++(m.p.take k).flatMap Ck)++Ck (dd,kk,es)):=by
      show _=_
      rw[show m.p.take (k+1)=m.p.take k++[m.p[k]] from (Hg hlk).symm,Hb,aj];simp
     obtain⟨L,hL⟩:=nM ((((Am m.g::Am (m.s.length:Int)::[])++m.s.flatMap Bv++[Am (m.p.length:Int)])++(m.p.take k).flatMap Ck));rw[hL]at HC aw ay;obtain⟨N,hN⟩:=nM (L.length);rw[hN]at ay;have aa:=HC.o.row;rw[hN]at aa;obtain⟨pa,pc,rfl⟩:=B0 aa;have HL:Hd (L.length=N):=hN;have hlt:=HC.o.lt;have HQ:Hd (Sl w (.slice ta es.length tc) es):=qs;have ab:(wr.alloc (oN dd kk ta es.length tc)).heap[wr.heap.size]?=some (oN dd kk ta es.length tc):=Aw _ _;have aJ:=Aj ad (oN dd kk ta es.length tc);obtain⟨x0,x1,x2⟩:=BO ab;clear a7 aj qs hL hN ad ag;go_upto_region 15 with(at_builtin;refine Ln (by rfl) _ _ (by rfl) (W:=(wr.alloc (oN dd kk ta es.length tc))) (B:=w.heap.size+1) (n:=N) (v:=.slice pa N pc) (xs:=L) (Am (dd.size:Int)) (by first|exact(Ky _).symm|exact(LJ oM oM).symm) (by rfl) (N:=wr.heap.size+1) (by first|rfl|simp) (by first|rfl|simp) (aa.alloc _) oM (by have:=hlt;first|omega|(simp<;>omega)) ?_;intro v6 w6 g1 g2;obtain⟨ae,af,hv⟩:=B0 g1.o;subst hv);have I6:Dd w w6 (cA m ra rc sa sc fa fc na nc) (.slice ae (N+1) af) (L++[Am (dd.size:Int)]):=((HC.o.on (Av)).on (Av)).grow (by simp[HL.o]) g1.o g2.o;have an:w6.heap[wr.heap.size]?=some (oN dd kk ta es.length tc):=(g2.o.block wr.heap.size (by first|(simp;done)|(simp;omega)) (fun e=>by have:=(aa.lt _ e.symm).2;omega)).trans (Aj ab _);clear g1 g2 x0 x1 x2 c0 c1 c2 c3 c4 q0 q1 q2 aa ab aJ HC ah;obtain⟨x0,x1,x2⟩:=BO an;have am:w6.ownsRow (w.heap.size+1) 5 1 (.slice ae (N+1) af) (N+1) (CS (L++[Am (dd.size:Int)])):=by have:=I6.row;rw[show (L++[Am (dd.size:Int)]).length=N+1 by simp[HL.o]]at this;exact this
     have aK:=I6.lt;have H6:Hd (Dd w w6 (cA m ra rc sa sc fa fc na nc) (.slice ae (N+1) af) (L++[Am (dd.size:Int)])/\w6.heap[wr.heap.size]?=some (oN dd kk ta es.length tc)):=⟨I6,an⟩;clear I6 an;go_upto_region 16 with(at_builtin;refine Rk (by rfl) _ _ (by rfl) (B:=w.heap.size+1) (n:=N+1) (v:=.slice ae (N+1) af) (xs:=L++[Am (dd.size:Int)]) dd (by rfl) (by rfl) am oM oM ?_;intro v7 w7 g1 g2;obtain⟨ak,al,hv⟩:=B0 g1.o;subst hv);have ar:w7.heap[wr.heap.size]?=some (oN dd kk ta es.length tc):=(g2.o.block wr.heap.size (by have:=(B6.1 H6.o.2).1;exact this) (fun e=>Qg am H6.o.2 dE e.symm)).trans H6.o.2;have I7:Dd w w7 (cA m ra rc sa sc fa fc na nc) (.slice ak (N+1+dd.size) al) (L++[Am (dd.size:Int)]++dd.data.toList):=H6.o.1.grow (by simp[HL.o];have:dd.data.toList.length=dd.size:=rfl;omega) g1.o g2.o;have aq:=g1.o;clear g1 g2 x0 x1 x2 am;obtain⟨x0,x1,x2⟩:=BO ar;have az:=I7.lt;have H7:Hd (Dd w w7 (cA m ra rc sa sc fa fc na nc) (.slice ak (N+1+dd.size) al) (L++[Am (dd.size:Int)]++dd.data.toList)/\w7.heap[wr.heap.size]?=some (oN dd kk ta es.length tc)):=⟨I7,ar⟩;clear I7 ar H6;go_upto_region 17 with(at_builtin;refine Ln (by rfl) _ _ (by rfl) (W:=w7) (B:=w.heap.size+1) (n:=(N+1+dd.size)) (v:=.slice ak (N+1+dd.size) al) (xs:=(L++[Am (dd.size:Int)]++dd.data.toList)) (Am kk) (by first|exact(Ky _).symm|exact(LJ oM oM).symm) (by rfl) (N:=w7.heap.size) (by first|rfl|simp) (by first|rfl|simp) aq oM (by have:=az;first|omega|(simp<;>omega)) ?_;intro v8 w8 g1 g2;obtain⟨aG,aH,hv⟩:=B0 g1.o;subst hv);have aU:w8.heap[wr.heap.size]?=some (oN dd kk ta es.length tc):=(g2.o.block wr.heap.size (by have:=(B6.1 H7.o.2).1;simp;omega) (fun e=>Qg aq H7.o.2 dE e.symm)).trans (Aj H7.o.2 _);have I8:Dd w w8 (cA m ra rc sa sc fa fc na nc) (.slice aG (N+1+dd.size+1) aH) (L++[Am (dd.size:Int)]++dd.data.toList++[Am kk]):=(H7.o.1.on (Av)).grow (by simp[HL.o];have:dd.data.toList.length=dd.size:=rfl;omega) g1.o g2.o;have aS:=g1.o;clear g1 g2 x0 x1 x2 aq;obtain⟨x0,x1,x2⟩:=BO aU;have bc:=I8.lt;have aR:Sl w8 (.slice ta es.length tc) es:=HQ.o.below I8.bel;have H8:Hd (Dd w w8 (cA m ra rc sa sc fa fc na nc) (.slice aG (N+1+dd.size+1) aH) (L++[Am (dd.size:Int)]++dd.data.toList++[Am kk])):=I8;clear I8 aU H7;have au:Hd (Cl 64 #[.slice ta es.length tc] w8 fun r w'=>∃va,r=.returned va/\Iv w8 w' va (es.map Am)):=Pf aR oM;clear aR;go_wp2_with(first|(at_builtin;refine Rj (by rfl) _ _ (by rfl) (B:=w.heap.size+1) (n:=(N+1+dd.size+1)) (v:=.slice aG (N+1+dd.size+1) aH) (xs:=(L++[Am (dd.size:Int)]++dd.data.toList++[Am kk])) (by rfl) (by rfl) aB a8 (by rw[BH];omega) oM ?_;intro vA wA g1 g2;obtain⟨ao,ap,hv⟩:=B0 g1.o;subst hv)|(go_at_call 64;refine au.o.mono ?_;rintro e9 w9 ⟨va,rfl,ac⟩;have aB:=ac.row;have a8:=CX aS (W':=w9) (fun q hq=>ac.bel.block q (aS.lt q hq).2);have I9:=H8.o.on ac.bel;have a6:=I9.lt;have av:=A9 I9;clear I9 ac));have HN:Hd (Dd w wA (cA m ra rc sa sc fa fc na nc) (.slice ao ((N+1+dd.size+1)+es.length) ap) (((Am m.g::Am (m.s.length:Int)::[])++m.s.flatMap Bv++[Am (m.p.length:Int)])++(m.p.take (k+1)).flatMap Ck)):=by
      rw[aw.o];have e1:L++Ck (dd,kk,es)=(L++[Am (dd.size:Int)]++dd.data.toList++[Am kk])++es.map Am:=by unfold Ck;simp
      rw[e1];have key:=av.o.grow (l':=(L++[Am (dd.size:Int)]++dd.data.toList++[Am kk])++es.map Am) (by simp[HL.o];have:dd.data.toList.length=dd.size:=rfl;omega) g1.o g2.o;rw[BH]at key;exact key
     go_roundw
     case rel=>exact⟨k+1,_,oM,by go_num,rfl,HN⟩
     case measure=>simp[RowKit.intOf];omega
    ·have aC:¬(k:Int)<(m.p.length:Int):=oM;have ek:k=m.p.length:=oM;have hI:=HC.o;rw[show m.p.take k=m.p by rw[ek,Fz]]at hI;obtain⟨w5,aL⟩:∃X,X=wr:=⟨_,rfl⟩;subst aL;obtain⟨L5,hL⟩:=nM ((((Am m.g::Am (m.s.length:Int)::[])++m.s.flatMap Bv++[Am (m.p.length:Int)])++m.p.flatMap Ck));have hlen:L5.length<=1000:=by
      rw[<-hL];have h1:=Fl (c:=9) (B:=Bv) m.s (fun s hs=>G5 (Ax.1 ax.o s hs));have h2:=Fl (c:=14) (B:=Ck) m.p (fun s hs=>Ob HP.o.2 hs);simp only[Bl,BF,C1];omega
     rw[hL]at hI;have aF:Hd (Dh m=L5++m.r.map Am):=by show _=_;rw[<-hL];unfold Dh;simp
     obtain⟨N,hN⟩:=nM (L5.length);have aa:=hI.row;rw[hN]at aa hlen;obtain⟨pa,pc,rfl⟩:=B0 aa;have HL:Hd (L5.length=N):=hN;have hlt:=hI.lt;have ad:=hI.box;obtain⟨c0,c1,c2,c3,c4⟩:=five ad;have aW:Hd (Dd w w5 (cA m ra rc sa sc fa fc na nc) (.slice pa N pc) L5):=hI;have au:Hd (Cl 64 #[.slice ra m.r.length rc] w5 fun r w'=>∃va,r=.returned va/\Iv w5 w' va (m.r.map Am)):=Pf (HI.o.four.1.below hI.bel) oM;clear hI hN hL HC aN ad ek hlk hk;go_wp2_with(first|(at_builtin;refine Rj (by rfl) _ _ (by rfl) (B:=w.heap.size+1) (n:=N) (v:=.slice pa N pc) (xs:=L5) (by rfl) (by rfl) aB a8 (by rw[BH];omega) oM ?_;intro vA wA g1 g2;obtain⟨ao,ap,hv⟩:=B0 g1.o;subst hv;have IA:Dd w wA (cA m ra rc sa sc fa fc na nc) (.slice ao (N+(m.r.map Am).length) ap) (Dh m):=(by rw[aF.o];exact av.o.grow (by simp[HL.o]) g1.o g2.o);have be:(convert 82 9 (.slice ao (N+m.r.length) ap)).run prog wA=.ok (.string (Ai (Dh m))) wA:=(by have h9:=R0 IA.row;rw[BH]at h9;exact h9);have aV:Hd (Bw w wA):=IA.bel;clear IA g1 g2)|(go_at_call 64;refine au.o.mono ?_;rintro e9 w9 ⟨va,rfl,ac⟩;have aB:=ac.row;have a8:=CX aa (W':=w9) (fun q hq=>ac.bel.block q (aa.lt q hq).2);have I9:=aW.o.on ac.bel;have a6:=I9.lt;have av:=A9 I9;clear I9 ac));go_ret;exact⟨rfl,aV.o⟩
theorem YQ (h:Al w v m)(hs:As m=0){S:ByteArray}(hS:Ai (Dh m)=S):Cl 31 #[v] w fun r w'=>r=.returned (.string S)/\Bw w w':=by
 have h':=h;obtain⟨ra,rc,sa,sc,fa,fc,na,nc,rfl,_⟩:=h.parts;subst hS;exact YP ra rc sa sc fa fc na nc m w h' hs
end
def Du (w:World) (D:Nat) (q:Ac × List UInt8) (r:Ending) (w':World):Prop:=∃ra rc sa sc fa fc na nc,r=.returned (.tuple #[.agg (bI q.1.g ra q.1.r.length rc sa q.1.s.length sc fa q.1.f.length fc na q.1.p.length nc),.string (Ai q.2)])/\(∀W:World,(∀p,p≠D->p<w'.heap.size->W.heap[p]?=w'.heap[p]?)->Al W (.agg (bI q.1.g ra q.1.r.length rc sa q.1.s.length sc fa q.1.f.length fc na q.1.p.length nc)) q.1)/\Bw w w'
theorem IE (h:Bw w X)(k:Bw X W)(hz:X.heap.size=w.heap.size+2):Bw w W:=h.trans (k.mono oM)
theorem Du.old {W4:World}{t:List UInt8}{ra:Option Addr}{rc:Nat}{sa:Option Addr}{sc:Nat}{fa:Option Addr}{fc:Nat}{na:Option Addr}{nc:Nat}{o:Obj}(hI:∀W:World,(∀q,q≠D->q<w.heap.size->W.heap[q]?=w.heap[q]?)->Al W (.agg (aI m ra rc sa sc fa fc na nc)) m)(hz:X.heap.size=w.heap.size+2)(hX:Bw w X)(hW:Bw X W)(h4:W4.heap[w.heap.size+1]?=some o/\(∀q,q≠w.heap.size+1->W4.heap[q]?=W.heap[q]?)/\Below (w.heap.size+1) W W4):Du w D (m,t) (.returned (.tuple #[.agg (aI m ra rc sa sc fa fc na nc),.string (Ai t)])) W4:=by
 have b:=IE hX hW hz;refine⟨_,_,_,_,_,_,_,_,rfl,fun Y hY=>hI Y fun q hq hl=>?_,b.trans (h4.2.2.mono oM)⟩;have e:=(h4.2.1 q oM).trans (b.block q hl);exact(hY q hq (Ea hl e)).trans e
theorem Du.new {W4:World}{t:List UInt8}{qa:Option Addr}{qc:Nat}{pa:Option Addr}{pc:Nat}{ka:Option Addr}{kc:Nat}{ja:Option Addr}{jc:Nat}{o:Obj}(hY:∀Y:World,(∀q,B<=q->q<W.heap.size->Y.heap[q]?=W.heap[q]?)->Al Y (.agg (aI M qa qc pa pc ka kc ja jc)) M)(hB:w.heap.size+1<B)(hD:D<w.heap.size)(hz:X.heap.size=w.heap.size+2)(hX:Bw w X)(hW:Bw X W)(h4:W4.heap[w.heap.size+1]?=some o/\(∀q,q≠w.heap.size+1->W4.heap[q]?=W.heap[q]?)/\Below (w.heap.size+1) W W4):Du w D (M,t) (.returned (.tuple #[.agg (aI M qa qc pa pc ka kc ja jc),.string (Ai t)])) W4:=by
 have b:=IE hX hW hz;refine⟨_,_,_,_,_,_,_,_,rfl,fun Y h=>hY Y fun q hq hl=>?_,b.trans (h4.2.2.mono oM)⟩;have e:=h4.2.1 q oM;exact(h q oM (Ea hl e)).trans e
theorem YB (hI:∀W:World,(∀q,q≠D->q<w.heap.size->W.heap[q]?=w.heap[q]?)->Al W v m)(hD:D<w.heap.size)(hR:Ao m=0)(l:ByteArray)(hl:l.size<=4096)(e:l=⟨#[112,97,99,107]⟩):Cl 13 #[v,.string l] w (Du w D (Ib m,B9)):=by
 have ad:=Ah (fun W=>(Im l W hl).mono fun e w' ⟨e1,e2⟩=>(⟨e1,by obtain⟨n,rfl⟩:=e2;exact⟨rfl,rfl,rfl,Bc _,fun _ _=>rfl⟩⟩:_/\Bw W w'));have HR:=Ah hR;subst e;obtain⟨M,hM⟩:=nM (Ib m);rw[hM];have ac:=Ah hM;clear hM hR;have h:=hI w fun _ _ _=>rfl
 obtain⟨ra,rc,sa,sc,fa,fc,na,nc,rfl,_⟩:=h.parts;obtain⟨X0,ab,m0,m1,hz,b0⟩:=G7 w (cA m ra rc sa sc fa fc na nc) zI;have HI:=Ah hI;have HM:=Ah (AW m0 (AW m1 (AW hz b0)));clear h hI m0 m1 hz b0;have HD:=Ah hD;have ae:=enters_of func26 kR rfl
 go_enter func13,ntmps13
 go_wp2_with fail;try rw[ab]
 refine(ad.o X0).mono ?_;rintro e wA ⟨rfl,bA⟩;dsimp only;clear ab;have d0:=five ((Bb bA HM.o.2.2.1).2.trans HM.o.1);go_wp2_with fail;refine(dt (HI.o wA fun q hq hl=>(IE HM.o.2.2.2 bA HM.o.2.2.1).block q hl) HR.o ac.o).mono ?_;rintro e w2 ⟨val,rfl,hO,b2⟩;dsimp only;obtain⟨qa,qc,pa,pc,ka,kc,ja,jc,e0,e1,e2,e3⟩:=hO.four';have hv:AB M.g val=.agg (aI M qa qc pa pc ka kc ja jc):=by unfold AB;rw[e0,e1,e2,e3]
 have HY:Hd (∀Y:World,(∀q,wA.heap.size<=q->q<w2.heap.size->Y.heap[q]?=w2.heap[q]?)->Al Y (.agg (aI M qa qc pa pc ka kc ja jc)) M):=fun Y h=>hv ▸ (hO.keep h).img
 rw[hv];have af:=bA.size;have HB:=Ah (Below.on bA b2);have hc:=((Bb HB.o HM.o.2.2.1).1).trans HM.o.2.1;have c0:=five hc;have y0:=Aq hc;clear hO b2 hv e0 e1 e2 e3 d0;go_wp2_with fail;obtain⟨W4,aa⟩:=nM (((((w2.setCell (aZ (w.heap.size+1)) (iI M.g)).setCell (aD (w.heap.size+1) 1) (.slice qa M.r.length qc)).setCell (aD (w.heap.size+1) 2) (.slice pa M.s.length pc)).setCell (aD (w.heap.size+1) 3) (.slice ka M.f.length kc)).setCell (aD (w.heap.size+1) 4) (.slice ja M.p.length jc));try rw[aa]
 have HW:=Ah (Ep hc aa);clear aa hc c0 y0;have z0:=five HW.o.1;refine AY (v:=.tuple #[.agg (aI M qa qc pa pc ka kc ja jc),.string ⟨#[111,107]⟩]) (by simp[results,results13,go_sem,z0]) rfl ?_;exact Du.new HY.o (by have:=HM.o.2.2.1;omega) HD.o HM.o.2.2.1 HM.o.2.2.2 HB.o HW.o
theorem YA (hI:∀W:World,(∀q,q≠D->q<w.heap.size->W.heap[q]?=w.heap[q]?)->Al W v m)(hD:D<w.heap.size)(hR:Ao m=0)(l:ByteArray)(hl:l.size<=4096)(e:l=⟨#[109,97,112]⟩):Cl 13 #[v,.string l] w (Du w D (m,E5 m)):=by
 have ac:=Ah (fun W=>(Im l W hl).mono fun e w' ⟨e1,e2⟩=>(⟨e1,by obtain⟨n,rfl⟩:=e2;exact⟨rfl,rfl,rfl,Bc _,fun _ _=>rfl⟩⟩:_/\Bw W w'));have HR:=Ah hR;subst e;clear hR;have h:=hI w fun _ _ _=>rfl
 obtain⟨ra,rc,sa,sc,fa,fc,na,nc,rfl,_⟩:=h.parts;obtain⟨X0,ab,m0,m1,hz,b0⟩:=G7 w (cA m ra rc sa sc fa fc na nc) zI;have HI:=Ah hI;have HM:=Ah (AW m0 (AW m1 (AW hz b0)));clear h hI m0 m1 hz b0;have HD:=Ah hD;have ad:=enters_of func26 kR rfl
 go_enter func13,ntmps13
 go_wp2_with fail;try rw[ab]
 refine(ac.o X0).mono ?_;rintro e wA ⟨rfl,bA⟩;dsimp only;clear ab;go_wp2_with fail;refine BT (S:=fun X:World=>X.heap[w.heap.size]?=some (cA m ra rc sa sc fa fc na nc)) kR ((Bb bA HM.o.2.2.1).2.trans HM.o.1) (fun hHeld=>?_);refine Cs 0 (.agg (aI m ra rc sa sc fa fc na nc)) ?_;refine Cs 1 (.agg (aI m ra rc sa sc fa fc na nc)) ?_;refine AC 2 rfl (fun K hK=>?_);clear hHeld;simp only[lays];rw[Ab (by rfl)];go_wp2_with fail;refine(ZT (HI.o wA.drew fun q hq hl=>(IE HM.o.2.2.2 bA HM.o.2.2.1).block q hl) HR.o).mono ?_;rintro e w2 ⟨rfl,b2⟩;dsimp only;have b2:=Below.on bA (BR b2);refine hK.out _ _ ((Bb b2 HM.o.2.2.1).2.trans HM.o.1) (fun hHeld=>?_);clear hK K;have hc:=((Bb b2 HM.o.2.2.1).1).trans HM.o.2.1;have c0:=five hc;have y0:=Aq hc;refine AC 3 rfl (fun K hK=>?_);simp only[lays];rw[Ab (by rfl)];go_wp2_with fail;obtain⟨W4,aa⟩:=nM (((((w2.setCell (aZ (w.heap.size+1)) (iI m.g)).setCell (aD (w.heap.size+1) 1) (.slice ra m.r.length rc)).setCell (aD (w.heap.size+1) 2) (.slice sa m.s.length sc)).setCell (aD (w.heap.size+1) 3) (.slice fa m.f.length fc)).setCell (aD (w.heap.size+1) 4) (.slice na m.p.length nc));try rw[aa]
 have HW:=Ah (Ep hc aa);clear aa hc c0 y0;refine hK.out _ _ ((HW.o.2.1 w.heap.size oM).trans ((Bb b2 HM.o.2.2.1).2.trans HM.o.1)) (fun hHeld=>?_);clear hK K;refine AC 4 rfl (fun K hK=>?_);simp only[lays];rw[Ab (by rfl)];go_wp2_with fail;refine hK.out _ _ ((HW.o.2.1 w.heap.size oM).trans ((Bb b2 HM.o.2.2.1).2.trans HM.o.1)) (fun hHeld=>?_);clear hK K;refine BQ kR ?_ _;go_wp2_with fail;have z0:=five HW.o.1;refine AY (v:=.tuple #[.agg (aI m ra rc sa sc fa fc na nc),.string (Ai (E5 m))]) (by simp[results,results13,go_sem,z0]) rfl ?_;exact Du.old HI.o HM.o.2.2.1 HM.o.2.2.2 b2 HW.o
theorem YE (hI:∀W:World,(∀q,q≠D->q<w.heap.size->W.heap[q]?=w.heap[q]?)->Al W v m)(hD:D<w.heap.size)(hS:AD m.s=0)(h40:m.s.length<=40)(l:ByteArray)(hl:l.size<=4096)(e:l=⟨#[117,115,101,100]⟩):Cl 13 #[v,.string l] w (Du w D (m,Lib.decDigits (Cc m.s)++32::Lib.decDigits m.s.length)):=by
 have ac:=Ah (fun W=>(Im l W hl).mono fun e w' ⟨e1,e2⟩=>(⟨e1,by obtain⟨n,rfl⟩:=e2;exact⟨rfl,rfl,rfl,Bc _,fun _ _=>rfl⟩⟩:_/\Bw W w'));subst e;have hu:Cc m.s<=40:=Bg MF h40;have HU:=Ah hS;have H1:=Ah (fun W=>KG (Cc m.s) W oM);have H2:=Ah (fun W=>KG m.s.length W oM);obtain⟨S1,h1⟩:=nM (Ai (Lib.decDigits (Cc m.s)));obtain⟨S2,h2⟩:=nM (Ai (Lib.decDigits m.s.length));rw[h1]at H1;rw[h2]at H2;have z1:S1.size<=50:=by have:=Ga (Cc m.s);rw[<-h1,Cx];omega
 have z2:S2.size<=50:=by have:=Ga m.s.length;rw[<-h2,Cx];omega
 have H3:=Ah (show S1.size<=9223372036854775806 by omega);have H4:=Ah (show S1.size+1+S2.size<=9223372036854775807 by omega);have HE:Hd (S1++⟨#[32]⟩++S2=Ai (Lib.decDigits (Cc m.s)++32::Lib.decDigits m.s.length)):=by show _=_;rw[<-h1,<-h2,List.append_cons,FI,FI];rfl
 clear h1 h2 z1 z2 hu hS h40;have h:=hI w fun _ _ _=>rfl
 obtain⟨ra,rc,sa,sc,fa,fc,na,nc,rfl,_⟩:=h.parts;obtain⟨X0,ab,m0,m1,hz,b0⟩:=G7 w (cA m ra rc sa sc fa fc na nc) zI;have HI:=Ah hI;have HM:=Ah (AW m0 (AW m1 (AW hz b0)));clear h hI m0 m1 hz b0;have HD:=Ah hD;have ad:=enters_of func26 kR rfl
 go_enter func13,ntmps13
 go_wp2_with fail;try rw[ab]
 refine(ac.o X0).mono ?_;rintro e wA ⟨rfl,bA⟩;dsimp only;clear ab;go_wp2_with fail;refine BT (S:=fun X:World=>X.heap[w.heap.size]?=some (cA m ra rc sa sc fa fc na nc)) kR ((Bb bA HM.o.2.2.1).2.trans HM.o.1) (fun hHeld=>?_);refine Cs 0 (.agg (aI m ra rc sa sc fa fc na nc)) ?_;refine Ar 1 (pQ w.heap.size 2) ?_;refine Cs 2 (.slice sa m.s.length sc) ?_;refine Ar 6 (pQ w.heap.size 2) ?_;refine Cs 7 (.slice sa m.s.length sc) ?_;refine Ar 8 (iI (m.s.length:Int)) ?_;refine AC 3 rfl (fun K hK=>?_);clear hHeld;simp only[lays];rw[Ab (by rfl)];go_wp2_with fail;refine(jv (Al.four (HI.o wA.drew fun q hq hl=>(IE HM.o.2.2.2 bA HM.o.2.2.1).block q hl)).2.1 HU.o rfl).mono ?_;rintro e w2 ⟨rfl,hw⟩;rw[hw];clear hw;dsimp only;refine hK.out _ _ ((Bb bA HM.o.2.2.1).2.trans HM.o.1) (fun hHeld=>?_);clear hK K;refine AC 4 rfl (fun K hK=>?_);clear hHeld;simp only[lays];rw[Ab (by rfl)];go_wp2_with fail;refine(H1.o _).mono ?_;rintro e w2 ⟨rfl,b2⟩;dsimp only;have b2:=Below.on bA (BR b2);refine hK.out _ _ ((Bb b2 HM.o.2.2.1).2.trans HM.o.1) (fun hHeld=>?_);clear hK K;have s1:=H3.o;refine Ar 5 (.string (S1++⟨#[32]⟩)) ?_;clear s1;refine AC 9 rfl (fun K hK=>?_);simp only[lays];rw[Ab (by rfl)];go_wp2_with fail;refine(H2.o _).mono ?_;rintro e w3 ⟨rfl,b3⟩;dsimp only;have b3:=Below.on b2 b3;refine hK.out _ _ ((Bb b3 HM.o.2.2.1).2.trans HM.o.1) (fun hHeld=>?_);clear hK K;have s2:=H4.o;refine Ar 10 (.string (S1++⟨#[32]⟩++S2)) ?_;clear s2;have hc:=((Bb b3 HM.o.2.2.1).1).trans HM.o.2.1;have c0:=five hc;have y0:=Aq hc;refine AC 11 rfl (fun K hK=>?_);simp only[lays];rw[Ab (by rfl)];go_wp2_with fail;obtain⟨W4,aa⟩:=nM (((((w3.setCell (aZ (w.heap.size+1)) (iI m.g)).setCell (aD (w.heap.size+1) 1) (.slice ra m.r.length rc)).setCell (aD (w.heap.size+1) 2) (.slice sa m.s.length sc)).setCell (aD (w.heap.size+1) 3) (.slice fa m.f.length fc)).setCell (aD (w.heap.size+1) 4) (.slice na m.p.length nc));try rw[aa]
 have HW:=Ah (Ep hc aa);clear aa hc c0 y0;refine hK.out _ _ ((HW.o.2.1 w.heap.size oM).trans ((Bb b3 HM.o.2.2.1).2.trans HM.o.1)) (fun hHeld=>?_);clear hK K;refine AC 12 rfl (fun K hK=>?_);simp only[lays];rw[Ab (by rfl)];go_wp2_with fail;refine hK.out _ _ ((HW.o.2.1 w.heap.size oM).trans ((Bb b3 HM.o.2.2.1).2.trans HM.o.1)) (fun hHeld=>?_);clear hK K;refine BQ kR ?_ _;go_wp2_with fail;rw[HE.o];obtain⟨z0,z1,z2,z3,z4⟩:=five HW.o.1;refine AY (v:=.tuple #[.agg (aI m ra rc sa sc fa fc na nc),.string (Ai (Lib.decDigits (Cc m.s)++32::Lib.decDigits m.s.length))]) (by simp[results,results13,go_sem,z0,z1,z2,z3,z4]) rfl ?_;exact Du.old HI.o HM.o.2.2.1 HM.o.2.2.2 b3 HW.o
theorem YD (hI:∀W:World,(∀q,q≠D->q<w.heap.size->W.heap[q]?=w.heap[q]?)->Al W v m)(hD:D<w.heap.size)(hR:Ao m=0)(l:ByteArray)(hl:l.size<=4096)(e:l=⟨#[115,97,118,101]⟩):Cl 13 #[v,.string l] w (Du w D (m,Lib.decDigits (Dh m).length)):=by
 have ae:=Ah (fun W=>(Im l W hl).mono fun e w' ⟨e1,e2⟩=>(⟨e1,by obtain⟨n,rfl⟩:=e2;exact⟨rfl,rfl,rfl,Bc _,fun _ _=>rfl⟩⟩:_/\Bw W w'));subst e;have HR:=Ah (AW (A0 hR) (KO (A0 hR)));clear hR;obtain⟨Sb,aa⟩:=nM (Ai (Dh m));have hsz:Sb.size=(Dh m).length:=by rw[<-aa,Cx]
 have ad:=Ah aa;have H1:=Ah (fun W=>KG (Dh m).length W (by have:=HR.o.2;omega));clear aa;have h:=hI w fun _ _ _=>rfl
 obtain⟨ra,rc,sa,sc,fa,fc,na,nc,rfl,_⟩:=h.parts;obtain⟨X0,ac,m0,m1,hz,b0⟩:=G7 w (cA m ra rc sa sc fa fc na nc) zI;have HI:=Ah hI;have HM:=Ah (AW m0 (AW m1 (AW hz b0)));clear h hI m0 m1 hz b0;have HD:=Ah hD;have af:=enters_of func26 kR rfl
 go_enter func13,ntmps13
 go_wp2_with fail;try rw[ac]
 refine(ae.o X0).mono ?_;rintro e wA ⟨rfl,bA⟩;dsimp only;clear ac;go_wp2_with fail;refine BT (S:=fun X:World=>X.heap[w.heap.size]?=some (cA m ra rc sa sc fa fc na nc)) kR ((Bb bA HM.o.2.2.1).2.trans HM.o.1) (fun hHeld=>?_);refine Cs 0 (.agg (aI m ra rc sa sc fa fc na nc)) ?_;refine Cs 1 (.agg (aI m ra rc sa sc fa fc na nc)) ?_;refine AC 2 rfl (fun K hK=>?_);clear hHeld;simp only[lays];rw[Ab (by rfl)];go_wp2_with fail;refine(YQ (HI.o wA.drew fun q hq hl=>(IE HM.o.2.2.2 bA HM.o.2.2.1).block q hl) HR.o.1 ad.o).mono ?_;rintro e w2 ⟨rfl,b2⟩;dsimp only;have b2:=Below.on bA (BR b2);refine hK.out _ _ ((Bb b2 HM.o.2.2.1).2.trans HM.o.1) (fun hHeld=>?_);clear hK K;refine Ar 3 (iI ((Dh m).length:Int)) ?_;refine AC 4 rfl (fun K hK=>?_);simp only[lays];rw[Ab (by rfl)];go_wp2_with fail;refine(H1.o _).mono ?_;rintro e w3 ⟨rfl,b3⟩;dsimp only;have b3:=Below.on b2 b3;refine hK.out _ _ ((Bb b3 HM.o.2.2.1).2.trans HM.o.1) (fun hHeld=>?_);clear hK K;have hc:=((Bb b3 HM.o.2.2.1).1).trans HM.o.2.1;have c0:=five hc;have y0:=Aq hc;refine AC 5 rfl (fun K hK=>?_);simp only[lays];rw[Ab (by rfl)];go_wp2_with fail;obtain⟨W4,ab⟩:=nM (((((w3.setCell (aZ (w.heap.size+1)) (iI m.g)).setCell (aD (w.heap.size+1) 1) (.slice ra m.r.length rc)).setCell (aD (w.heap.size+1) 2) (.slice sa m.s.length sc)).setCell (aD (w.heap.size+1) 3) (.slice fa m.f.length fc)).setCell (aD (w.heap.size+1) 4) (.slice na m.p.length nc));try rw[ab]
 have HW:=Ah (Ep hc ab);clear ab hc c0 y0;refine hK.out _ _ ((HW.o.2.1 w.heap.size oM).trans ((Bb b3 HM.o.2.2.1).2.trans HM.o.1)) (fun hHeld=>?_);clear hK K;refine AC 6 rfl (fun K hK=>?_);simp only[lays];rw[Ab (by rfl)];go_wp2_with fail;refine hK.out _ _ ((HW.o.2.1 w.heap.size oM).trans ((Bb b3 HM.o.2.2.1).2.trans HM.o.1)) (fun hHeld=>?_);clear hK K;refine BQ kR ?_ _;go_wp2_with fail;have z0:=five HW.o.1;refine AY (v:=.tuple #[.agg (aI m ra rc sa sc fa fc na nc),.string (Ai (Lib.decDigits (Dh m).length))]) (by simp[results,results13,go_sem,z0]) rfl ?_;exact Du.old HI.o HM.o.2.2.1 HM.o.2.2.2 b3 HW.o

theorem YC (hI:∀W:World,(∀q,q≠D->q<w.heap.size->W.heap[q]?=w.heap[q]?)->Al W v m)(hD:D<w.heap.size){p:Nat->ByteArray}(l y:ByteArray)(hl:l.size<=4096)(hc:(Lib.cut l.data.toList [32]).2.2=true)(hx:(Lib.cut l.data.toList [32]).1=[114,101,97,100])(hy:Ai (Lib.cut l.data.toList [32]).2.1=y)(hyl:y.size<=4096)(k0:l.data.toList≠[112,97,99,107])(k1:l.data.toList≠[109,97,112])(k2:l.data.toList≠[117,115,101,100])(k3:l.data.toList≠[115,97,118,101])(HE:Hd (∀ (W:World) (v:Value) (n:Nat),Al W v m->Cl 33 #[v,iI (n:Int)] W fun r w'=>r=.returned (iI (E n))/\Bw W w'))(HP:Hd (∀ (W:World) (v:Value) (n:Nat),E n=0->Al W v m->Cl 35 #[v,iI (n:Int)] W fun r w'=>r=.returned (.string (p n))/\Bw W w'))(h9:∀n,0<=E n/\E n<=9)(hp:∀n,(p n).size<=4096):Cl 13 #[v,.string l] w (Du w D (m,if (Cu y.data.toList fun n=>(E n,m,(p n).data.toList.map Df)).1=0 then (Cu y.data.toList fun n=>(E n,m,(p n).data.toList.map Df)).2.2 else CF (Cu y.data.toList fun n=>(E n,m,(p n).data.toList.map Df)).1)):=by
 have ab:=Ah (fun W=>(Im l W hl).mono fun e w' ⟨e1,e2⟩=>(⟨e1,by obtain⟨n,rfl⟩:=e2;exact⟨rfl,rfl,rfl,Bc _,fun _ _=>rfl⟩⟩:_/\Bw W w'));rw[hc,hx,hy]at ab
 change Hd (∀W,Cl 25 #[.string l] W fun e w'=>e=.returned (.tuple #[.string ⟨#[114,101,97,100]⟩,.string y,.bool true])/\Bw W w') at ab
 have q0:=CH k0;have q1:=CH k1;have q2:=CH k2;have q3:=CH k3;clear k0 k1 k2 k3;have H9:=Ah h9;have Hp:=Ah hp;clear hc hx hy hl h9 hp;have h:=hI w fun _ _ _=>rfl
 obtain⟨ra,rc,sa,sc,fa,fc,na,nc,rfl,_⟩:=h.parts;obtain⟨X0,ac,m0,m1,hz,b0⟩:=G7 w (cA m ra rc sa sc fa fc na nc) zI;have HI:=Ah hI;have HM:=Ah (AW m0 (AW m1 (AW hz b0)));clear h hI m0 m1 hz b0;have HD:=Ah hD;have ae:=enters_of func26 kR rfl
 cases hn:DJ y.data.toList with
 | none=>
  have HN:Hd (∀W,Cl 32 #[.string y] W fun e w'=>e=.returned (iI (-1))/\Bw W w'):=fun W=>by have:=K7 y W oM;rw[Qj hn]at this;exact this
  have hq:=(KZ (f:=fun n=>(E n,m,(p n).data.toList.map Df)) hn).1;rw[hq,Aa dE];clear hn hq
  go_enter func13,ntmps13
  go_wp2_with fail;try rw[ac]
  refine(ab.o X0).mono ?_;rintro e wA ⟨rfl,bA⟩;dsimp only;clear ac;go_wp2_with fail;refine(HN.o wA).mono ?_;rintro e wB ⟨rfl,bB⟩;dsimp only;have bB:=Below.on bA bB;clear bA;go_wp2_with fail;refine BT (S:=fun X:World=>X.heap[w.heap.size]?=some (cA m ra rc sa sc fa fc na nc)) kR ((Bb bB HM.o.2.2.1).2.trans HM.o.1) (fun hHeld=>?_);refine Cs 0 (.agg (aI m ra rc sa sc fa fc na nc)) ?_;refine Ar 1 (.func (.func 26) #[] #[]) ?_;refine AC 2 rfl (fun K hK=>?_);clear hHeld;simp only[lays];rw[Ab (by rfl)];go_wp2_with fail;refine(Me 1 oM _).mono ?_;rintro e w2 ⟨rfl,b2⟩;dsimp only;have b2:=Below.on bB (BR b2);refine hK.out _ _ ((Bb b2 HM.o.2.2.1).2.trans HM.o.1) (fun hHeld=>?_);clear hK K;have hc:=((Bb b2 HM.o.2.2.1).1).trans HM.o.2.1;have c0:=five hc;have y0:=Aq hc;refine AC 3 rfl (fun K hK=>?_);simp only[lays];rw[Ab (by rfl)];go_wp2_with fail;obtain⟨W4,aa⟩:=nM (((((w2.setCell (aZ (w.heap.size+1)) (iI m.g)).setCell (aD (w.heap.size+1) 1) (.slice ra m.r.length rc)).setCell (aD (w.heap.size+1) 2) (.slice sa m.s.length sc)).setCell (aD (w.heap.size+1) 3) (.slice fa m.f.length fc)).setCell (aD (w.heap.size+1) 4) (.slice na m.p.length nc));try rw[aa]
  have HW:=Ah (Ep hc aa);clear aa hc c0 y0;refine hK.out _ _ ((HW.o.2.1 w.heap.size oM).trans ((Bb b2 HM.o.2.2.1).2.trans HM.o.1)) (fun hHeld=>?_);clear hK K;refine AC 4 rfl (fun K hK=>?_);simp only[lays];rw[Ab (by rfl)];go_wp2_with fail;refine hK.out _ _ ((HW.o.2.1 w.heap.size oM).trans ((Bb b2 HM.o.2.2.1).2.trans HM.o.1)) (fun hHeld=>?_);clear hK K;refine BQ kR ?_ _;go_wp2_with fail;have z0:=five HW.o.1;refine AY (v:=.tuple #[.agg (aI m ra rc sa sc fa fc na nc),.string (Ai (CF 1))]) (by simp[results,results13,go_sem,z0]) rfl ?_;exact Du.old HI.o HM.o.2.2.1 HM.o.2.2.2 b2 HW.o
 | some n=>
  have HN:Hd (∀W,Cl 32 #[.string y] W fun e w'=>e=.returned (iI (n:Int))/\Bw W w'):=fun W=>by have:=K7 y W oM;rw[Qk hn]at this;exact this
  have hq:=(K5 (f:=fun n=>(E n,m,(p n).data.toList.map Df)) hn).1;have af:¬(n:Int)<0:=oM;rw[hq];dsimp only;obtain⟨t,ht⟩:=nM ((if E n=0 then (p n).data.toList.map Df else CF (E n)));rw[ht];have HT:=Ah ht;clear hn hq ht
  go_enter func13,ntmps13
  go_wp2_with fail;try rw[ac]
  refine(ab.o X0).mono ?_;rintro e wA ⟨rfl,bA⟩;dsimp only;clear ac;go_wp2_with fail;refine(HN.o wA).mono ?_;rintro e wB ⟨rfl,bB⟩;dsimp only;have bB:=Below.on bA bB;clear bA;go_wp2_with fail;refine BT (S:=fun X:World=>X.heap[w.heap.size]?=some (cA m ra rc sa sc fa fc na nc)) kR ((Bb bB HM.o.2.2.1).2.trans HM.o.1) (fun hHeld=>?_);refine Cs 0 (.agg (aI m ra rc sa sc fa fc na nc)) ?_;refine Ar 1 (.string y) ?_;refine AC 2 rfl (fun K hK=>?_);clear hHeld;simp only[lays];rw[Ab (by rfl)];go_wp2_with fail;refine(HN.o _).mono ?_;rintro e wC ⟨rfl,bC⟩;dsimp only;have bC:=Below.on bB (BR bC);refine hK.out _ _ ((Bb bC HM.o.2.2.1).2.trans HM.o.1) (fun hHeld=>?_);clear hK K;refine AC 3 rfl (fun K hK=>?_);simp only[lays];rw[Ab (by rfl)];go_wp2_with fail;refine(HE.o wC _ n (HI.o wC fun q hq hl=>(IE HM.o.2.2.2 bC HM.o.2.2.1).block q hl)).mono ?_;rintro e wD ⟨rfl,bD⟩;dsimp only;have bD:=Below.on bC bD;refine hK.out _ _ ((Bb bD HM.o.2.2.1).2.trans HM.o.1) (fun hHeld=>?_);clear hK K;refine AC 4 rfl (fun K hK=>?_);simp only[lays];rw[Ab (by rfl)];go_wp2_with fail;refine hK.out _ _ ((Bb bD HM.o.2.2.1).2.trans HM.o.1) (fun hHeld=>?_);clear hK K;refine BQ kR ?_ _
  by_cases h0:E n=0
  ·have ht:=HT.o;rw[Ab h0]at ht;subst ht;rw[h0];go_wp2_with fail;refine BT (S:=fun X:World=>X.heap[w.heap.size]?=some (cA m ra rc sa sc fa fc na nc)) kR ((Bb bD HM.o.2.2.1).2.trans HM.o.1) (fun hHeld=>?_);refine Cs 0 (.agg (aI m ra rc sa sc fa fc na nc)) ?_;refine Cs 1 (.agg (aI m ra rc sa sc fa fc na nc)) ?_;refine Ar 2 (.string y) ?_;refine AC 3 rfl (fun K hK=>?_);clear hHeld;simp only[lays];rw[Ab (by rfl)];go_wp2_with fail;refine(HN.o _).mono ?_;rintro e w2 ⟨rfl,b2⟩;dsimp only;have b2:=Below.on bD (BR b2);refine hK.out _ _ ((Bb b2 HM.o.2.2.1).2.trans HM.o.1) (fun hHeld=>?_);clear hK K;refine AC 4 rfl (fun K hK=>?_);simp only[lays];rw[Ab (by rfl)];go_wp2_with fail;refine(HP.o w2 _ n h0 (HI.o w2 fun q hq hl=>(IE HM.o.2.2.2 b2 HM.o.2.2.1).block q hl)).mono ?_;rintro e w3 ⟨rfl,b3⟩;dsimp only;have b3:=Below.on b2 b3;refine hK.out _ _ ((Bb b3 HM.o.2.2.1).2.trans HM.o.1) (fun hHeld=>?_);clear hK K;refine AC 5 rfl (fun K hK=>?_);simp only[lays];rw[Ab (by rfl)];go_wp2_with fail;refine(iq (p n) w3 (Hp.o n)).mono ?_;rintro e w5 ⟨rfl,b5⟩;dsimp only;have b5:=Below.on b3 b5;refine hK.out _ _ ((Bb b5 HM.o.2.2.1).2.trans HM.o.1) (fun hHeld=>?_);clear hK K;have hc:=((Bb b5 HM.o.2.2.1).1).trans HM.o.2.1;have c0:=five hc;have y0:=Aq hc;refine AC 6 rfl (fun K hK=>?_);simp only[lays];rw[Ab (by rfl)];go_wp2_with fail;obtain⟨W4,aa⟩:=nM (((((w5.setCell (aZ (w.heap.size+1)) (iI m.g)).setCell (aD (w.heap.size+1) 1) (.slice ra m.r.length rc)).setCell (aD (w.heap.size+1) 2) (.slice sa m.s.length sc)).setCell (aD (w.heap.size+1) 3) (.slice fa m.f.length fc)).setCell (aD (w.heap.size+1) 4) (.slice na m.p.length nc));try rw[aa]
   have HW:=Ah (Ep hc aa);clear aa hc c0 y0;refine hK.out _ _ ((HW.o.2.1 w.heap.size oM).trans ((Bb b5 HM.o.2.2.1).2.trans HM.o.1)) (fun hHeld=>?_);clear hK K;refine AC 7 rfl (fun K hK=>?_);simp only[lays];rw[Ab (by rfl)];go_wp2_with fail;refine hK.out _ _ ((HW.o.2.1 w.heap.size oM).trans ((Bb b5 HM.o.2.2.1).2.trans HM.o.1)) (fun hHeld=>?_);clear hK K;refine BQ kR ?_ _;go_wp2_with fail;have z0:=five HW.o.1;refine AY (v:=.tuple #[.agg (aI m ra rc sa sc fa fc na nc),.string (Ai ((p n).data.toList.map Df))]) (by simp[results,results13,go_sem,z0]) rfl ?_;exact Du.old HI.o HM.o.2.2.1 HM.o.2.2.2 b5 HW.o
  ·have h9:=H9.o n;obtain⟨e,he⟩:∃e:Nat,E n=(e:Int):=⟨(E n).toNat,oM⟩;have ht:=HT.o;rw[Aa h0,he]at ht;subst ht;rw[he]at h0 ⊢;have ad:e<100:=oM;have hb:((e:Int) != 0)=true:=by simpa using h0
   clear h9 he HT;go_wp2_with fail;refine BT (S:=fun X:World=>X.heap[w.heap.size]?=some (cA m ra rc sa sc fa fc na nc)) kR ((Bb bD HM.o.2.2.1).2.trans HM.o.1) (fun hHeld=>?_);refine Cs 0 (.agg (aI m ra rc sa sc fa fc na nc)) ?_;refine Ar 1 (.func (.func 26) #[] #[]) ?_;refine Ar 2 (iI (e:Int)) ?_;refine AC 3 rfl (fun K hK=>?_);clear hHeld;simp only[lays];rw[Ab (by rfl)];go_wp2_with fail;refine(Me e ad _).mono ?_;rintro e w2 ⟨rfl,b2⟩;dsimp only;have b2:=Below.on bD (BR b2);refine hK.out _ _ ((Bb b2 HM.o.2.2.1).2.trans HM.o.1) (fun hHeld=>?_);clear hK K;have hc:=((Bb b2 HM.o.2.2.1).1).trans HM.o.2.1;have c0:=five hc;have y0:=Aq hc;refine AC 4 rfl (fun K hK=>?_);simp only[lays];rw[Ab (by rfl)];go_wp2_with fail;obtain⟨W4,aa⟩:=nM (((((w2.setCell (aZ (w.heap.size+1)) (iI m.g)).setCell (aD (w.heap.size+1) 1) (.slice ra m.r.length rc)).setCell (aD (w.heap.size+1) 2) (.slice sa m.s.length sc)).setCell (aD (w.heap.size+1) 3) (.slice fa m.f.length fc)).setCell (aD (w.heap.size+1) 4) (.slice na m.p.length nc));try rw[aa]
   have HW:=Ah (Ep hc aa);clear aa hc c0 y0;refine hK.out _ _ ((HW.o.2.1 w.heap.size oM).trans ((Bb b2 HM.o.2.2.1).2.trans HM.o.1)) (fun hHeld=>?_);clear hK K;refine AC 5 rfl (fun K hK=>?_);simp only[lays];rw[Ab (by rfl)];go_wp2_with fail;refine hK.out _ _ ((HW.o.2.1 w.heap.size oM).trans ((Bb b2 HM.o.2.2.1).2.trans HM.o.1)) (fun hHeld=>?_);clear hK K;refine BQ kR ?_ _;go_wp2_with fail;have z0:=five HW.o.1;refine AY (v:=.tuple #[.agg (aI m ra rc sa sc fa fc na nc),.string (Ai (CF (e:Int)))]) (by simp[results,results13,go_sem,z0]) rfl ?_;exact Du.old HI.o HM.o.2.2.1 HM.o.2.2.2 b2 HW.o
theorem Yz (hI:∀W:World,(∀q,q≠D->q<w.heap.size->W.heap[q]?=w.heap[q]?)->Al W v m)(hD:D<w.heap.size){E:Int}(l x y:ByteArray)(hl:l.size<=4096)(hc:(Lib.cut l.data.toList [32]).2.2=true)(hx:Ai (Lib.cut l.data.toList [32]).1=x)(hy:Ai (Lib.cut l.data.toList [32]).2.1=y)(k0:l.data.toList≠[112,97,99,107])(k1:l.data.toList≠[109,97,112])(k2:l.data.toList≠[117,115,101,100])(k3:l.data.toList≠[115,97,118,101])(hw:x=⟨#[115,105,122,101]⟩\/x=⟨#[119,105,112,101]⟩\/x=⟨#[112,117,110,99,104]⟩\/x=⟨#[119,114,105,116,101]⟩\/x=⟨#[115,110,97,112]⟩\/x=⟨#[98,97,99,107]⟩\/x=⟨#[100,114,111,112]⟩)(HC:Hd (∀ (W:World) (v:Value),Al W v m->Cl 36 #[v,.string x,.string y] W (EZ W (E,M))))(h9:0<=E/\E<=9):Cl 13 #[v,.string l] w (Du w D (if E=0 then M else m,if E=0 then B9 else CF E)):=by
 have ad:=Ah (fun W=>(Im l W hl).mono fun e w' ⟨e1,e2⟩=>(⟨e1,by obtain⟨n,rfl⟩:=e2;exact⟨rfl,rfl,rfl,Bc _,fun _ _=>rfl⟩⟩:_/\Bw W w'));rw[hc,hx,hy]at ad;have q0:=CH k0;have q1:=CH k1;have q2:=CH k2;have q3:=CH k3;clear k0 k1 k2 k3;clear hc hx hy hl;obtain⟨Q,hQ⟩:=nM (if E=0 then M else m,if E=0 then B9 else CF E);rw[hQ];have HQ:=Ah hQ;clear hQ;have h:=hI w fun _ _ _=>rfl
 obtain⟨ra,rc,sa,sc,fa,fc,na,nc,rfl,_⟩:=h.parts;obtain⟨X0,af,m0,m1,hz,b0⟩:=G7 w (cA m ra rc sa sc fa fc na nc) zI;have HI:=Ah hI;have HM:=Ah (AW m0 (AW m1 (AW hz b0)));clear h hI m0 m1 hz b0;have HD:=Ah hD;have aj:=enters_of func26 kR rfl;rcases hw with rfl|rfl|rfl|rfl|rfl|rfl|rfl
 all_goals
  go_enter func13,ntmps13
  go_wp2_with fail;try rw[af]
  refine(ad.o X0).mono ?_;rintro e wA ⟨rfl,bA⟩;dsimp only;clear af;have d0:=five ((Bb bA HM.o.2.2.1).2.trans HM.o.1);go_wp2_with fail;refine(HC.o wA _ (HI.o wA fun q hq hl=>(IE HM.o.2.2.2 bA HM.o.2.2.1).block q hl)).mono ?_;rintro e wB ⟨gg,qa,rn,qc,pa,sn,pc,ka,fn,kc,ja,nn,jc,rfl,hK,ae⟩;dsimp only;have bB:=Below.on bA ae;have ak:=bA.size;clear d0 bA ae
  by_cases h0:E=0
  ·have hq:=HQ.o;rw[Ab h0,Ab h0]at hq;subst hq;obtain⟨r1,r2,r3,r4,r5,hY⟩:=hK h0;dsimp only at r1 r2 r3 r4 r5;rw[r1,r2,r3,r4,r5];rw[r1,r2,r3,r4,r5]at hY;dsimp only at hY;have HY:=Ah hY;rw[h0];obtain⟨wC,aa⟩:=nM (wB.alloc (cA M qa qc pa pc ka kc ja jc));have kC:wC.heap[wB.heap.size]?=some (cA M qa qc pa pc ka kc ja jc):=by rw[<-aa];exact Aw _ _
   have ag:∀q,q<wB.heap.size->wC.heap[q]?=wB.heap[q]?:=fun q hq=>by rw[<-aa];exact Ch _ _ q hq
   have bC:Bw X0 wC:=by rw[<-aa];exact bB.alloc bB.size _
   have ac:=Ah (AW bC ag);have d0:=five kC;have hc:=((Bb bC HM.o.2.2.1).1).trans HM.o.2.1;have c0:=five hc;have y0:=Aq hc;have hne:¬wB.heap.size=w.heap.size+1:=by have:=bB.size;have:=HM.o.2.2.1;omega
   have ai:¬w.heap.size+1=wB.heap.size:=oM;clear h0 hK r1 r2 r3 r4 r5 hY kC ag bC;go_wp2_with fail;obtain⟨W4,ab⟩:=nM (((((wC.setCell (aZ (w.heap.size+1)) (iI M.g)).setCell (aD (w.heap.size+1) 1) (.slice qa M.r.length qc)).setCell (aD (w.heap.size+1) 2) (.slice pa M.s.length pc)).setCell (aD (w.heap.size+1) 3) (.slice ka M.f.length kc)).setCell (aD (w.heap.size+1) 4) (.slice ja M.p.length jc));try rw[aa]
   try rw[ab]
   have HW:=Ah (Ep hc ab);clear ab hc c0 y0;have z0:=five HW.o.1;refine AY (v:=.tuple #[.agg (aI M qa qc pa pc ka kc ja jc),.string ⟨#[111,107]⟩]) (by simp[results,results13,go_sem,z0]) rfl ?_;exact Du.new (B:=wA.heap.size) (fun Y h=>HY.o Y fun q hq hl=>(h q hq (Ea hl (ac.o.2 q hl))).trans (ac.o.2 q hl)) (by have:=HM.o.2.2.1;omega) HD.o HM.o.2.2.1 HM.o.2.2.2 ac.o.1 HW.o
  ·have hq:=HQ.o;rw[Aa h0,Aa h0]at hq;obtain⟨e,he⟩:∃e:Nat,E=(e:Int):=⟨E.toNat,oM⟩;subst he;subst hq;have ah:e<100:=oM;have hb:((e:Int) != 0)=true:=by simpa using h0
   obtain⟨wC,aa⟩:=nM (wB.alloc (cB gg qa rn qc pa sn pc ka fn kc ja nn jc));have bC:Bw X0 wC:=by rw[<-aa];exact bB.alloc bB.size _
   clear h9 hK bB;go_wp2_with fail;try rw[aa]
   clear aa;refine BT (S:=fun X:World=>X.heap[w.heap.size]?=some (cA m ra rc sa sc fa fc na nc)) kR ((Bb bC HM.o.2.2.1).2.trans HM.o.1) (fun hHeld=>?_);refine Cs 0 (.agg (aI m ra rc sa sc fa fc na nc)) ?_;refine Ar 1 (.func (.func 26) #[] #[]) ?_;refine Ar 2 (iI (e:Int)) ?_;refine AC 3 rfl (fun K hK=>?_);clear hHeld;simp only[lays];rw[Ab (by rfl)];go_wp2_with fail;refine(Me e ah _).mono ?_;rintro e w2 ⟨rfl,b2⟩;dsimp only;have b2:=Below.on bC (BR b2);refine hK.out _ _ ((Bb b2 HM.o.2.2.1).2.trans HM.o.1) (fun hHeld=>?_);clear hK K;have hc:=((Bb b2 HM.o.2.2.1).1).trans HM.o.2.1;have c0:=five hc;have y0:=Aq hc;refine AC 4 rfl (fun K hK=>?_);simp only[lays];rw[Ab (by rfl)];go_wp2_with fail;obtain⟨W4,ab⟩:=nM (((((w2.setCell (aZ (w.heap.size+1)) (iI m.g)).setCell (aD (w.heap.size+1) 1) (.slice ra m.r.length rc)).setCell (aD (w.heap.size+1) 2) (.slice sa m.s.length sc)).setCell (aD (w.heap.size+1) 3) (.slice fa m.f.length fc)).setCell (aD (w.heap.size+1) 4) (.slice na m.p.length nc));try rw[ab]
   have HW:=Ah (Ep hc ab);clear ab hc c0 y0;refine hK.out _ _ ((HW.o.2.1 w.heap.size oM).trans ((Bb b2 HM.o.2.2.1).2.trans HM.o.1)) (fun hHeld=>?_);clear hK K;refine AC 5 rfl (fun K hK=>?_);simp only[lays];rw[Ab (by rfl)];go_wp2_with fail;refine hK.out _ _ ((HW.o.2.1 w.heap.size oM).trans ((Bb b2 HM.o.2.2.1).2.trans HM.o.1)) (fun hHeld=>?_);clear hK K;refine BQ kR ?_ _;go_wp2_with fail;have z0:=five HW.o.1;refine AY (v:=.tuple #[.agg (aI m ra rc sa sc fa fc na nc),.string (Ai (CF (e:Int)))]) (by simp[results,results13,go_sem,z0]) rfl ?_;exact Du.old HI.o HM.o.2.2.1 HM.o.2.2.2 b2 HW.o
theorem SC (hI:∀W:World,(∀q,q≠D->q<w.heap.size->W.heap[q]?=w.heap[q]?)->Al W v m)(hD:D<w.heap.size)(l:ByteArray)(hl:l.size<=4096)(k0:l.data.toList≠[112,97,99,107])(k1:l.data.toList≠[109,97,112])(k2:l.data.toList≠[117,115,101,100])(k3:l.data.toList≠[115,97,118,101])(hw:(Lib.cut l.data.toList [32]).2.2=false\/((Lib.cut l.data.toList [32]).2.2=true/\(Lib.cut l.data.toList [32]).1≠[114,101,97,100]/\(Lib.cut l.data.toList [32]).1≠[115,105,122,101]/\(Lib.cut l.data.toList [32]).1≠[119,105,112,101]/\(Lib.cut l.data.toList [32]).1≠[112,117,110,99,104]/\(Lib.cut l.data.toList [32]).1≠[119,114,105,116,101]/\(Lib.cut l.data.toList [32]).1≠[115,110,97,112]/\(Lib.cut l.data.toList [32]).1≠[98,97,99,107]/\(Lib.cut l.data.toList [32]).1≠[100,114,111,112])):Cl 13 #[v,.string l] w (Du w D (m,CF 1)):=by
 have ab:=Ah (fun W=>(Im l W hl).mono fun e w' ⟨e1,e2⟩=>(⟨e1,by obtain⟨n,rfl⟩:=e2;exact⟨rfl,rfl,rfl,Bc _,fun _ _=>rfl⟩⟩:_/\Bw W w'));have q0:=CH k0;have q1:=CH k1;have q2:=CH k2;have q3:=CH k3;clear k0 k1 k2 k3;clear hl;obtain⟨x,hx⟩:=nM (Ai (Lib.cut l.data.toList [32]).1);have ae:x.data.toList=(Lib.cut l.data.toList [32]).1:=by rw[<-hx];rfl
 rw[<-ae]at hw;rw[hx]at ab;obtain⟨y,hy⟩:=nM (Ai (Lib.cut l.data.toList [32]).2.1);rw[hy]at ab;obtain⟨mo,ad⟩:=nM ((Lib.cut l.data.toList [32]).2.2);rw[ad]at ab hw;clear hx hy ae ad;have h:=hI w fun _ _ _=>rfl
 obtain⟨ra,rc,sa,sc,fa,fc,na,nc,rfl,_⟩:=h.parts;obtain⟨X0,ac,m0,m1,hz,b0⟩:=G7 w (cA m ra rc sa sc fa fc na nc) zI;have HI:=Ah hI;have HM:=Ah (AW m0 (AW m1 (AW hz b0)));clear h hI m0 m1 hz b0;have HD:=Ah hD;have af:=enters_of func26 kR rfl;rcases hw with rfl|⟨rfl,n0,n1,n2,n3,n4,n5,n6,n7⟩
 ·skip
  go_enter func13,ntmps13
  go_wp2_with fail;try rw[ac]
  refine(ab.o X0).mono ?_;rintro e wA ⟨rfl,bA⟩;dsimp only;clear ac;go_wp2_with fail;refine BT (S:=fun X:World=>X.heap[w.heap.size]?=some (cA m ra rc sa sc fa fc na nc)) kR ((Bb bA HM.o.2.2.1).2.trans HM.o.1) (fun hHeld=>?_);refine Cs 0 (.agg (aI m ra rc sa sc fa fc na nc)) ?_;refine Ar 1 (.func (.func 26) #[] #[]) ?_;refine AC 2 rfl (fun K hK=>?_);clear hHeld;simp only[lays];rw[Ab (by rfl)];go_wp2_with fail;refine(Me 1 oM _).mono ?_;rintro e w2 ⟨rfl,b2⟩;dsimp only;have b2:=Below.on bA (BR b2);refine hK.out _ _ ((Bb b2 HM.o.2.2.1).2.trans HM.o.1) (fun hHeld=>?_);clear hK K;have hc:=((Bb b2 HM.o.2.2.1).1).trans HM.o.2.1;have c0:=five hc;have y0:=Aq hc;refine AC 3 rfl (fun K hK=>?_);simp only[lays];rw[Ab (by rfl)];go_wp2_with fail;obtain⟨W4,aa⟩:=nM (((((w2.setCell (aZ (w.heap.size+1)) (iI m.g)).setCell (aD (w.heap.size+1) 1) (.slice ra m.r.length rc)).setCell (aD (w.heap.size+1) 2) (.slice sa m.s.length sc)).setCell (aD (w.heap.size+1) 3) (.slice fa m.f.length fc)).setCell (aD (w.heap.size+1) 4) (.slice na m.p.length nc));try rw[aa]
  have HW:=Ah (Ep hc aa);clear aa hc c0 y0;refine hK.out _ _ ((HW.o.2.1 w.heap.size oM).trans ((Bb b2 HM.o.2.2.1).2.trans HM.o.1)) (fun hHeld=>?_);clear hK K;refine AC 4 rfl (fun K hK=>?_);simp only[lays];rw[Ab (by rfl)];go_wp2_with fail;refine hK.out _ _ ((HW.o.2.1 w.heap.size oM).trans ((Bb b2 HM.o.2.2.1).2.trans HM.o.1)) (fun hHeld=>?_);clear hK K;refine BQ kR ?_ _;go_wp2_with fail;have z0:=five HW.o.1;refine AY (v:=.tuple #[.agg (aI m ra rc sa sc fa fc na nc),.string (Ai (CF 1))]) (by simp[results,results13,go_sem,z0]) rfl ?_;exact Du.old HI.o HM.o.2.2.1 HM.o.2.2.2 b2 HW.o
 ·skip
  have p0:=CH n0;have p1:=CH n1;have p2:=CH n2;have p3:=CH n3;have p4:=CH n4;have p5:=CH n5;have p6:=CH n6;have p7:=CH n7;clear n0 n1 n2 n3 n4 n5 n6 n7
  go_enter func13,ntmps13
  go_wp2_with fail;try rw[ac]
  refine(ab.o X0).mono ?_;rintro e wA ⟨rfl,bA⟩;dsimp only;clear ac;go_wp2_with fail;refine BT (S:=fun X:World=>X.heap[w.heap.size]?=some (cA m ra rc sa sc fa fc na nc)) kR ((Bb bA HM.o.2.2.1).2.trans HM.o.1) (fun hHeld=>?_);refine Cs 0 (.agg (aI m ra rc sa sc fa fc na nc)) ?_;refine Ar 1 (.func (.func 26) #[] #[]) ?_;refine AC 2 rfl (fun K hK=>?_);clear hHeld;simp only[lays];rw[Ab (by rfl)];go_wp2_with fail;refine(Me 1 oM _).mono ?_;rintro e w2 ⟨rfl,b2⟩;dsimp only;have b2:=Below.on bA (BR b2);refine hK.out _ _ ((Bb b2 HM.o.2.2.1).2.trans HM.o.1) (fun hHeld=>?_);clear hK K;have hc:=((Bb b2 HM.o.2.2.1).1).trans HM.o.2.1;have c0:=five hc;have y0:=Aq hc;refine AC 3 rfl (fun K hK=>?_);simp only[lays];rw[Ab (by rfl)];go_wp2_with fail;obtain⟨W4,aa⟩:=nM (((((w2.setCell (aZ (w.heap.size+1)) (iI m.g)).setCell (aD (w.heap.size+1) 1) (.slice ra m.r.length rc)).setCell (aD (w.heap.size+1) 2) (.slice sa m.s.length sc)).setCell (aD (w.heap.size+1) 3) (.slice fa m.f.length fc)).setCell (aD (w.heap.size+1) 4) (.slice na m.p.length nc));try rw[aa]
  have HW:=Ah (Ep hc aa);clear aa hc c0 y0;refine hK.out _ _ ((HW.o.2.1 w.heap.size oM).trans ((Bb b2 HM.o.2.2.1).2.trans HM.o.1)) (fun hHeld=>?_);clear hK K;refine AC 4 rfl (fun K hK=>?_);simp only[lays];rw[Ab (by rfl)];go_wp2_with fail;refine hK.out _ _ ((HW.o.2.1 w.heap.size oM).trans ((Bb b2 HM.o.2.2.1).2.trans HM.o.1)) (fun hHeld=>?_);clear hK K;refine BQ kR ?_ _;go_wp2_with fail;have z0:=five HW.o.1;refine AY (v:=.tuple #[.agg (aI m ra rc sa sc fa fc na nc),.string (Ai (CF 1))]) (by simp[results,results13,go_sem,z0]) rfl ?_;exact Du.old HI.o HM.o.2.2.1 HM.o.2.2.2 b2 HW.o

theorem eU:∀ (k:Nat) (l:List UInt8),l.length<=k->Lib.replaceK [0] [46] (l.count 0) l=l.map Df:=by
 intro k
 induction k using Nat.strongRecOn with
 | _ k ih=>
  intro l hk
  by_cases h:(0:UInt8)∈l
  ·obtain⟨a,b,rfl,ha⟩:=Nq h;have hb:b.length<k:=by rw[Bl,BF]at hk;omega
   have e1:(a++0::b).count 0=b.count 0+1:=by rw[IY,Kf.2 ha,List.count_cons_self];omega
   have e2:a.map Df=a:=by
    refine(Ef fun x hx=>?_).trans (List.map_id a);unfold Df;rw[Aa (fun e=>ha (by rw[<-e];exact hx))];rfl
   rw[e1,Lib.replaceK_hit _ _ _ _ a.length (P2 ha),DQ,Dc,e2];have e3:(a++0::b).drop (a.length + [(0:UInt8)].length)=b:=by simp[<-List.drop_drop]
   rw[e3,List.take_left,ih b.length hb b lE];simp[Df]
  ·rw[Kf.2 h,Lib.replaceK];refine((Ef fun x hx=>?_).trans (List.map_id l)).symm;unfold Df;rw[Aa (fun e=>h (by rw[<-e];exact hx))];rfl
theorem eW (s:ByteArray)(w:World)(hs:s.size<=4096)(hV:L0 w):Cl 43 #[.string s,.string ⟨#[0]⟩,.string ⟨#[46]⟩] w fun r w'=>r=.returned (.string (Ai (s.data.toList.map Df)))/\Bw w w':=by
 obtain⟨x,hx⟩:=hV.cell;have hc:=Lib.countB_mul_le ⟨#[0]⟩ dE s.size s lE;have h1:(⟨#[0]⟩:ByteArray).size=1:=rfl;have h2:(⟨#[46]⟩:ByteArray).size=1:=rfl;refine(strings_ReplaceAll s ⟨#[0]⟩ ⟨#[46]⟩ x w oM hx (by rw[h1];omega) (by rw[h2];rw[h1]at hc;omega)).mono ?_;rintro e w' ⟨rfl,b⟩;refine⟨?_,b⟩;have e:Lib.replaceAll s.data.toList [0] [46]=s.data.toList.map Df:=by
  unfold Lib.replaceAll Lib.replace Lib.replaceNum;rw[Aa dE,Ab (B3 dE),Lib.count_one];exact eU _ _ lE
 show Ending.returned (.string (Ai (Lib.replaceAll s.data.toList [0] [46])))=_
 rw[e]
theorem jp {b o:Nat}{p:Nat->ByteArray}(h:BW w b o m)(hV:Lv B w)(hB:B<=b)(r:ByteArray)(hr:r.size<=4096)(hp:∀n,(p n).size<=4096)(HO:Hd (∀ (W:World) (v:Value) (n:Nat),Al W v m->Cl 45 #[v,iI (n:Int)] W fun e w'=>e=.returned (.tuple #[.string (p n),iI (E n)])/\Bw W w')):Cl 22 #[pZ b,.string ⟨#[114,101,97,100]⟩,.string r] w (B8 w b o m (Cu r.data.toList fun n=>(E n,m,(p n).data.toList.map Df))):=by
 have HD:=Ah h;obtain⟨ra,rc,sa,sc,fa,fc,na,nc,hb,hI⟩:=h;have hlt:=(AA hb);have HN:Hd (∀W,Bw w W->Cl 46 #[.string r] W fun e w'=>e=Gf r.data.toList/\Bw w w'):=fun W hW=>(Ql r W oM (hV.to oM hW).at).mono fun e w' ⟨e1,e2⟩=>⟨e1,hW.trans (e2.mono hW.size)⟩
 have HI:=Ah hI;have HL:=Ah hlt;have HV:=Ah (fun W (hW:Bw w W)=>(hV.to oM hW).at);have HP:=Ah hp;clear hI hlt hV hB hp
 cases hn:DJ r.data.toList with
 | none=>
  obtain⟨hq,hR⟩:=KZ (f:=fun n=>(E n,m,(p n).data.toList.map Df)) hn;rw[hR]at HN;have HQ:=Ah hq;clear hn hR hq
  go_enter func22,ntmps22
  go_wp2_with fail;refine BT (S:=fun X:World=>X.heap[b]?=some (.cells (aI m ra rc sa sc fa fc na nc) 37)) kR hb (fun hHeld=>?_);refine Ar 0 (pZ b) ?_;refine Ar 1 (pZ b) ?_;refine Ar 2 (pZ b) ?_;refine Cs 3 (.agg (aI m ra rc sa sc fa fc na nc)) ?_;refine Ar 4 (.string r) ?_;refine AC 5 rfl (fun K hK=>?_);clear hHeld;simp only[lays];rw[Ab (by rfl)];go_wp2_with fail;refine(HN.o _ (AG _ _).drew).mono ?_;rintro e w1 ⟨rfl,b1⟩;exact⟨rfl,B8.no HD.o HL.o b1 HQ.o dE⟩
 | some n=>
  obtain⟨hq,hR⟩:=K5 (f:=fun n=>(E n,m,(p n).data.toList.map Df)) hn;rw[hR]at HN;have HQ:=Ah hq;clear hn hR hq
  go_enter func22,ntmps22
  go_wp2_with fail;refine BT (S:=fun X:World=>X.heap[b]?=some (.cells (aI m ra rc sa sc fa fc na nc) 37)) kR hb (fun hHeld=>?_);refine Ar 0 (pZ b) ?_;refine Ar 1 (pZ b) ?_;refine Ar 2 (pZ b) ?_;refine Cs 3 (.agg (aI m ra rc sa sc fa fc na nc)) ?_;refine Ar 4 (.string r) ?_;refine AC 5 rfl (fun K hK=>?_);clear hHeld;simp only[lays];rw[Ab (by rfl)];go_wp2_with fail;refine(HN.o _ (AG _ _).drew).mono ?_;rintro e w1 ⟨rfl,b1⟩;dsimp only;refine hK.out _ _ ((b1.block b HL.o).trans hb) (fun hHeld=>?_);clear hK K;refine AC 6 rfl (fun K hK=>?_);simp only[lays];rw[Ab (by rfl)];go_wp2_with fail;refine(HO.o w1 _ n (HI.o w1 fun q _ _ hq=>b1.block q hq)).mono ?_;rintro e w2 ⟨rfl,b2⟩;dsimp only;have aa:=Below.on b1 b2;refine hK.out _ _ ((aa.block b HL.o).trans hb) (fun hHeld=>?_);clear hK K;refine Ar 7 (.string (p n)) ?_;refine Ar 8 (iI (E n)) ?_;refine AC 9 rfl (fun K hK=>?_);simp only[lays];rw[Ab (by rfl)];go_wp2_with fail
  by_cases hE:E n=0
  ·rw[hE];refine(Un _ _).mono ?_;rintro e w3 ⟨rfl,hw⟩;rw[hw];clear hw;dsimp only;refine hK.out _ _ ((aa.block b HL.o).trans hb) (fun hHeld=>?_);clear hK K;refine AC 10 rfl (fun K hK=>?_);simp only[lays];rw[Ab (by rfl)];go_wp2_with fail;refine(eW (p n) w2 (HP.o n) (HV.o w2 aa)).mono ?_;rintro e w3 ⟨rfl,b3⟩;dsimp only;have ab:=Below.on aa b3;refine hK.out _ _ ((ab.block b HL.o).trans hb) (fun hHeld=>?_);clear hK K;refine AC 11 rfl (fun K hK=>?_);simp only[lays];rw[Ab (by rfl)];go_wp2_with fail;refine hK.out _ _ ((ab.block b HL.o).trans hb) (fun hHeld=>?_);clear hK K;refine BQ kR ?_ _;go_wp2_with fail;go_ret;exact B8.yes (by rw[HQ.o];exact HD.o.on ab.block) (Fr.of ab HL.o) (by rw[HQ.o];exact hE) (by rw[HQ.o];rfl)
  ·refine(ft _ (E n) (by simpa using hE) _).mono ?_;rintro e w3 ⟨rfl,hw⟩;rw[hw];exact⟨rfl,B8.no HD.o HL.o aa (by rw[HQ.o]) hE⟩

theorem jq {b o:Nat}{M:Nat->Ac}(h:BW w b o m)(ho:o<w.heap.size)(hV:Lv B w)(hB:B<=b)(r:ByteArray)(hr:r.size<=4096)(a pg:ByteArray)(hc:(Lib.cut r.data.toList [32]).2.2=true)(ha:Ai (Lib.cut r.data.toList [32]).1=a)(hp:Ai (Lib.cut r.data.toList [32]).2.1=pg)(hz:a.size<=4096)(HO:Hd (∀ (W:World) (v:Value) (n:Nat),Al W v m->Cl 51 #[v,iI (n:Int),.string pg] W (Bo W W.heap.size (M n) (E n)))):Cl 22 #[pZ b,.string ⟨#[119,114,105,116,101]⟩,.string r] w (B8 w b o m (Cu a.data.toList fun n=>(E n,M n,B9))):=by
  have HP:=Ah (dL r w hr hV.at hc);rw[ha,hp]at HP;clear hc ha hp hr;have HD:=Ah h;obtain⟨ra,rc,sa,sc,fa,fc,na,nc,hb,hI⟩:=h;have hlt:=(AA hb);have HN:Hd (∀W,Bw w W->Cl 46 #[.string a] W fun e w'=>e=Gf a.data.toList/\Bw w w'):=fun W hW=>(Ql a W oM (hV.to oM hW).at).mono fun e w' ⟨e1,e2⟩=>⟨e1,hW.trans (e2.mono hW.size)⟩
  have HI:=Ah hI;have HL:=Ah hlt;have af:=Ah ho;clear hI hlt hV hB ho
  cases hn:DJ a.data.toList with
  | none=>
    obtain⟨hq,hR⟩:=KZ (f:=fun n=>(E n,M n,B9)) hn;rw[hR]at HN;have HQ:=Ah hq;clear hn hR hq
    go_enter func22,ntmps22
    go_wp2_with fail;refine HP.o.mono ?_;rintro e w0 ⟨rfl,b0⟩;dsimp only;have ab:=Ah b0;have c0:=five ((b0.block b HL.o).trans hb);go_wp2_with fail;refine BT (S:=fun _:World=>True) kR trivial (fun hHeld=>?_);refine Ar 0 (pZ b) ?_;refine Ar 1 (pZ b) ?_;refine Ar 2 (pZ b) ?_;refine Ar 3 (pZ b) ?_;refine Ar 5 (.string a) ?_;refine Ar 7 (.string pg) ?_;refine Ig [4,6] (.c rfl ?_ (.c rfl ?_ .n))<;>(intro t hc K hK;clear hc hHeld;simp only[lays];rw[Ab (by rfl)];go_wp2_with fail;first
      | (have _:Tg 4:=t
         clear t;refine hK.out _ _ trivial (fun hHeld=>?_);clear hK K;refine AC 6 rfl (fun K hK=>?_);simp only[lays];rw[Ab (by rfl)];go_wp2_with fail;refine(HN.o _ ab.o.drew).mono ?_;rintro e w1 ⟨rfl,b1⟩;exact⟨rfl,B8.no HD.o HL.o b1 HQ.o dE⟩)
      | (have _:Tg 6:=t
         clear t;refine(HN.o _ ab.o.drew).mono ?_;rintro e w1 ⟨rfl,b1⟩;exact⟨rfl,B8.no HD.o HL.o b1 HQ.o dE⟩))
  | some n=>
    obtain⟨hq,hR⟩:=K5 (f:=fun n=>(E n,M n,B9)) hn;rw[hR]at HN;have HQ:=Ah hq;clear hn hR hq
    go_enter func22,ntmps22
    go_wp2_with fail;refine HP.o.mono ?_;rintro e w0 ⟨rfl,b0⟩;dsimp only;have ab:=Ah b0;have c0:=five ((b0.block b HL.o).trans hb);go_wp2_with fail;refine BT (S:=fun _:World=>True) kR trivial (fun hHeld=>?_);refine Ar 0 (pZ b) ?_;refine Ar 1 (pZ b) ?_;refine Ar 2 (pZ b) ?_;refine Ar 3 (pZ b) ?_;refine Ar 5 (.string a) ?_;refine Ar 7 (.string pg) ?_;refine Ig [4,6] (.c rfl ?_ (.c rfl ?_ .n))<;>(intro t hc K hK;clear hc hHeld;simp only[lays];rw[Ab (by rfl)];go_wp2_with fail;first
      | (have _:Tg 4:=t
         clear t;refine hK.out _ _ trivial (fun hHeld=>?_);clear hK K;refine AC 6 rfl (fun K hK=>?_);simp only[lays];rw[Ab (by rfl)];go_wp2_with fail;refine(HN.o _ ab.o.drew).mono ?_;rintro e w1 ⟨rfl,b1⟩;dsimp only;refine hK.out _ _ trivial (fun hHeld=>?_);clear hK K)
      | (have _:Tg 6:=t
         clear t;refine(HN.o _ ab.o.drew).mono ?_;rintro e w1 ⟨rfl,b1⟩;dsimp only;refine hK.out _ _ trivial (fun hHeld=>?_);clear hK K;have c0:=five ((b1.block b HL.o).trans hb);refine AC 4 rfl (fun K hK=>?_);simp only[lays];rw[Ab (by rfl)];go_wp2_with fail;refine hK.out _ _ trivial (fun hHeld=>?_);clear hK K))
    all_goals
      clear c0;refine AC 8 rfl (fun K hK=>?_);simp only[lays];rw[Ab (by rfl)];go_wp2_with fail;refine(HO.o w1 _ n (HI.o w1 fun q _ _ hq=>b1.block q hq)).mono ?_;intro e w2 hA;obtain⟨qa,qc,pa,pc,ka,kc,ja,jc,rfl,hY,b2⟩:=hA.opened;dsimp only;have aa:=b1.size;have ae:=(b2.block b (AO HL.o aa)).trans ((b1.block b HL.o).trans hb);have HY:=Ah hY;clear hY hA;refine hK.out _ _ trivial (fun hHeld=>?_);clear hK K;refine Ar 9 (.agg #[iI (M n).g,.slice qa (M n).r.length qc,.slice pa (M n).s.length pc,.slice ka (M n).f.length kc,.slice ja (M n).p.length jc]) ?_;refine Ar 10 (iI (E n)) ?_;refine AC 11 rfl (fun K hK=>?_);simp only[lays];rw[Ab (by rfl)];go_wp2_with fail
      by_cases hE:(E n)=0
      · rw[hE]
        refine(Mg _ _ _ _ _ _ _ _ _ _ _ _ _ _).mono ?_;rintro e w3 ⟨rfl,b3⟩;dsimp only;refine hK.out _ _ trivial (fun hHeld=>?_);clear hK K;refine Ar 12 (pZ b) ?_;refine Ar 13 (pZ b) ?_;have l2:b<w2.heap.size:=(AA ae);have ad:=(b3.block b l2).trans ae;have c0:=five ad;have y0:=Aq ad;refine AC 14 rfl (fun K hK=>?_);simp only[lays];rw[Ab (by rfl)];go_wp2_with fail;obtain⟨W4,ac⟩:=nM (((((w3.setCell (aZ b) (iI (M n).g)).setCell (aD b 1) (.slice qa (M n).r.length qc)).setCell (aD b 2) (.slice pa (M n).s.length pc)).setCell (aD b 3) (.slice ka (M n).f.length kc)).setCell (aD b 4) (.slice ja (M n).p.length jc));rw[ac];have HW:=Ah (BW.set ad (AO HL.o aa) (AO af.o aa) (fun Y hY=>HY.o Y fun q hq hl=>(hY q hq (Ea hl (b3.block q hl))).trans (b3.block q hl)) ac);have HF:=Ah (((Fr.of b1 HL.o).trans (Fr.of b2 (AO HL.o aa))).trans (Fr.of b3 l2));clear ac c0 y0;refine hK.out _ _ trivial (fun hHeld=>?_);clear hK K;refine BQ kR ?_ _;go_wp2_with fail;go_ret;exact B8.yes (by rw[HQ.o];exact HW.o.1) (HF.o.trans HW.o.2) (by rw[HQ.o];exact hE) (by rw[HQ.o];rfl)
      · refine(NY _ _ _ _ _ _ _ _ _ _ _ _ _ _ (E n) (by simpa using hE)).mono ?_
        rintro e w3 ⟨rfl,b3⟩;exact⟨rfl,B8.no HD.o HL.o (b1.trans ((b2.mono aa).trans (b3.mono (Bg aa b2.size)))) (by rw[HQ.o]) hE⟩
theorem jj {b o:Nat}(h:BW w b o m)(hV:Lv B w)(r:ByteArray)(hr:r.size<=4096)(hc:(Lib.cut r.data.toList [32]).2.2=false){q:Int × Ac × List UInt8}(hq:q.1=1):Cl 22 #[pZ b,.string ⟨#[119,114,105,116,101]⟩,.string r] w (B8 w b o m q):=by
 have HP:=Ah (dK r w hr hV.at hc);have HD:=Ah h;obtain⟨ra,rc,sa,sc,fa,fc,na,nc,hb,hI⟩:=h;have HL:=Ah (AA hb);have HQ:=Ah hq;clear hb hI hV hc hq
 go_enter func22,ntmps22
 go_wp2_with fail;refine HP.o.mono ?_;rintro e w0 ⟨rfl,b0⟩;exact⟨rfl,B8.no HD.o HL.o b0 HQ.o dE⟩
section
open Go.Lib
theorem N5 (w:World)(dT sT ty elem:TypeId)(g o dLen dCap:Nat)(a:Addr)(Ml sCap:Nat)(cur:Array Value)(t:TypeId)(cs:List Value)(hu:prog.underlying dT=some (.slice elem))(hs:(prog.info? elem).map (·.size)=some 3)(hg:w.heap[g]?=some (.cells cur t (0,0)))(hn:cs.length=Nat.min Ml dLen*3)(hsrc:∀j v,cs[j]?=some v->w.cell? (a.add j)=some v)(hfit:o+cs.length<=cur.size)(h1:∀v∈cs,v.oneCell'=true):(Builtin.copy_ #[dT,sT] ty #[lD g o dLen dCap,.slice (some a) Ml sCap]).run prog w =
   .ok (goInt (Nat.min Ml dLen)) (w.setRow g (cur.toList.take o++cs++cur.toList.drop (o+cs.length)).toArray):=by
 have hl:=run_loadCells_list (P:=prog) w a cs hsrc;have aa:=RB prog g o t cs 0 cur w hg (by simpa using hfit) h1
 cases hq:prog.info? elem with
 | none=>simp[hq]at hs
 | some i=>
  have hi:i.size=3:=by simpa[hq] using hs
  simp[Builtin.copy_,Kn hu,Builtin.lenOf,Builtin.firstCells,sizeOf,typeInfo,hq,hi,<-hn,hl,aa]
theorem KQ:(prog.info? 87).map (·.size)=some 3:=by kernel_rfl
def GM (cur:List Value) (n i:Nat):List Value:=cur.take ((i+1)*3)++(cur.take (n*3)).drop (i*3)++cur.drop ((i+1)*3+((cur.take (n*3)).drop (i*3)).length)
def Ex (L:List Value) (i:Nat) (x:List Value):List Value:=L.take (i*3)++x++L.drop (i*3+x.length)
theorem US (hi:i<n)(hc:n+1<=c)(h:cur.length=c*3):(GM cur n i).length=c*3:=by
 unfold GM;simp only[Bl,BI,CZ,h];omega
theorem PX (hi:i<c)(h:L.length=c*3)(hx:x.length=3):(Ex L i x).length=c*3:=by
 unfold Ex;simp only[Bl,BI,CZ,h,hx];omega
theorem YV (hi:i<n)(hc:n+1<=c)(h:cur.length=c*3)(hx:x.length=3):(Ex (GM cur n i) i x).take ((n+1)*3)=(cur.take (n*3)).take (i*3)++x++(cur.take (n*3)).drop (i*3):=by
 have hl:((cur.take (n*3)).drop (i*3)).length=(n-i)*3:=by simp only[BI,CZ,h];omega
 apply JB
 intro j;unfold Ex GM;rw[hl];simp only[Fg,DY,Gq,Bl,BI,CZ,h,hx]
 repeat' split
 all_goals first|rfl|omega|(congr 1;omega)|(exfalso;omega)|(rw[Ed oM])
theorem Za (g n c i N:Nat)(cur:Array Value)(x0 x1 x2:Value)(w:World)(hi:i<n)(hroom:n+1<=c)(hc:c<=9223372036854775807)(hNg:N≠g)(hg:w.heap[g]?=some (.cells cur 87))(hsz:cur.size=c*3)(hN:w.heap[N]?=some (.cells #[x0,x1,x2] 87))(h1:∀u∈cur.toList.take (n*3),u.oneCell'=true)(h1x:∀u∈[x0,x1,x2],u.oneCell'=true):Cl 101 #[lZ g n c,iI i,lZ N 1 1] w fun r w'=>r=.returned (lZ g (n+1) c)/\w'.heap[g]?=some (.cells (Ex (GM cur.toList n i) i [x0,x1,x2]).toArray 87)/\w.grownBy w' (some g):=by
 have am:¬((i:Int)=(n:Int)):=oM;have al:IntKind.i64.wrap ((i:Int)+1)=(i:Int)+1:=by rw[G9];omega
 have ag:(0:Int)<=(i:Int)+1:=oM;have hin:i<=n:=oM;have ak:((i:Int)+1).toNat=i+1:=oM;have ah:¬(c=i+1):=oM;have ai:(i:Int)<=(n:Int)+1:=oM;have aj:¬(c=i):=oM;have an:¬((c:Int)<(n:Int)+1):=oM;have af:∀lb cb,(callFunc 166 #[lZ N 1 1,lD g ((i+1)*3) lb cb]).run prog w=.ok (.value (.bool false)) w:=fun lb cb=>by
  rw[run_callFunc_extern func166 kR kR kR (e:=Extern.SlicesOverlaps.overlaps #[31,31] #[4]) kR,
   Lib.run_overlaps_apart w 31 4 87 kR 3 (fun w=>by kernel_rfl) (aZ N) (aD g ((i+1)*3)) 1 1 lb cb hNg 87 87 3 (c*3) (by simp[World.shape?,hN]) (by simp[World.shape?,hg,hsz]) oM (by simp[World.frozen?,hN]) (by simp[World.frozen?,hN])]
  rfl
 have aa:∀ty dc sc,(Builtin.copy_ #[31,31] ty #[lD g ((i+1)*3) (n-i) dc,lD g (i*3) (n+1-i) sc]).run prog w.drew=.ok (goInt (Nat.min (n+1-i) (n-i))) (w.drew.setRow g (GM cur.toList n i).toArray):=fun ty dc sc=>
  N5 w.drew 31 31 ty 87 g ((i+1)*3) (n-i) dc (aD g (i*3)) (n+1-i) sc cur 87 ((cur.toList.take (n*3)).drop (i*3)) kR KQ hg (by simp only[BI,CZ,Gp,hsz];simp only[OT];split<;>split<;>omega)
   (fun j v hj=>by
    rw[IR];rw[Gq,Fg]at hj
    split at hj
    ·simp only[World.cell?,World.drew];rw[hg]
     simpa using hj
    ·cases hj)
   (by simp only[BI,CZ,Gp,hsz];omega) (fun u hu=>h1 u (OO hu))
 have ab:(w.drew.setRow g (GM cur.toList n i).toArray).heap[g]?=some (.cells (GM cur.toList n i).toArray 87):=Ja w.drew g cur _ 87 (0,0) hg;have ae:(w.drew.setRow g (GM cur.toList n i).toArray).heap[N]?=some (.cells #[x0,x1,x2] 87):=(JL w.drew g N _ hNg).trans hN;obtain⟨W1,ad⟩:=nM (w.drew.setRow g (GM cur.toList n i).toArray);rw[ad]at aa ab ae;have ac:∀ty dc,(Builtin.copy_ #[31,31] ty #[lD g (i*3) (n+1-i) dc,lZ N 1 1]).run prog W1=.ok (goInt (Nat.min 1 (n+1-i))) (W1.setRow g (Ex (GM cur.toList n i) i [x0,x1,x2]).toArray):=fun ty dc=>by
  have:=N5 W1 31 31 ty 87 g (i*3) (n+1-i) dc (aZ N) 1 1 (GM cur.toList n i).toArray 87 [x0,x1,x2] kR KQ ab (by simp only[BF,C1,OT];split<;>omega)
   (fun j v hj=>by
    rw[IR];simp only[World.cell?];rw[ae]
    simpa using hj)
   (by simp only[EG,US hi hroom (show cur.toList.length=c*3 by rw[Gp];exact hsz),BF,C1];omega) h1x
  simpa[Ex] using this
 have HH:Hd (w.heap[g]?=some (.cells cur 87)/\w.heap[N]?=some (.cells #[x0,x1,x2] 87)):=⟨hg,hN⟩;clear hg hN;have mixed:prog.follows Departure.mixedOrders=true:=by kernel_rfl
 go_enter func101,ntmps101
 go_wp2_with(simp only[af])
 go_region_law_o (refine step_copy_runI rfl _ _ 31 31 rfl _ _ (by simp[Act.eval,Act.put]) (by simp[Act.eval,Act.put]) (aa _ _ _) ?_)
 go_wp2_with(at_builtin;refine wpList_copy_runI _ rfl _ _ 31 31 rfl _ _ rfl rfl (ac _ _) ?_);go_ret;refine⟨rfl,?_,?_⟩
 ·exact Ja W1 g _ _ 87 (0,0) ab
 ·subst ad;exact⟨rfl,rfl,rfl,by simp,fun k _ hk=>(JL _ g k _ (fun e=>hk (by rw[e]))).trans (JL _ g k _ (fun e=>hk (by rw[e])))⟩
def G8:Value:=.agg #[.string ByteArray.empty,iI 0,nl]
def KL (L xs:List Value) (i:Nat):List Value:=L.take ((i+1)*3)++xs.drop (i*3)++L.drop ((i+1)*3+(xs.drop (i*3)).length)
theorem YI (hi:i<n)(hc:n+1<=c)(h:L.length=c*3)(hx:xs.length=n*3):(KL L xs i).length=c*3:=by
 unfold KL;simp only[Bl,BI,CZ,h,hx];omega
theorem YU {Z:List Value}(hi:i<n)(hc:n+1<=c)(h:xs.length=n*3)(hZ:i*3+Z.length=c*3)(hx:x.length=3):(KL (Ex (xs.take (i*3)++Z) i x) xs i).take ((n+1)*3)=xs.take (i*3)++x++xs.drop (i*3):=by
 have hl:(xs.drop (i*3)).length=(n-i)*3:=by simp only[CZ,h];omega
 apply JB
 intro j;unfold KL Ex;rw[hl];simp only[Fg,DY,Gq,Bl,BI,CZ,h,hx]
 repeat' split
 all_goals first|rfl|omega|(congr 1;omega)|(exfalso;omega)|(rw[Ed oM])
theorem Y9 (g n i N:Nat)(cur:Array Value)(x0 x1 x2:Value)(w:World)(hi:i<n)(hn2:n<=1000)(hg:w.heap[g]?=some (.cells cur 87))(hsz:cur.size=n*3)(hN:w.heap[N]?=some (.cells #[x0,x1,x2] 87))(h1:∀u∈cur.toList,u.oneCell'=true)(h1x:∀u∈[x0,x1,x2],u.oneCell'=true):Cl 101 #[lZ g n n,iI i,lZ N 1 1] w fun r w'=>∃G Z,n+1<=G/\G<=maxLen/\i*3+Z.length=G*3/\r=.returned (lZ w.heap.size (n+1) G)/\w'.heap[w.heap.size]?=some (.cells (KL (Ex (cur.toList.take (i*3)++Z) i [x0,x1,x2]) cur.toList i).toArray 87)/\w.grownBy w' none:=by
 have aJ:¬((i:Int)=(n:Int)):=oM;have aH:IntKind.i64.wrap ((i:Int)+1)=(i:Int)+1:=by rw[G9];omega
 have aB:(0:Int)<=(i:Int)+1:=oM;have hin:i<=n:=oM;have aG:((i:Int)+1).toNat=i+1:=oM;have aC:(i:Int)<=(n:Int):=oM;have aF:(i:Int)<=(n:Int)+1:=oM;have aE:¬(n=i):=oM;have aK:(n:Int)<(n:Int)+1:=oM;have a8:g<w.heap.size:=(AA hg);have a7:N<w.heap.size:=(AA hN);obtain⟨i0,av,hz0,ay,ao⟩:=Fj J1;have ax:(n:Int)+1-(i:Int)=((n+1-i:Nat):Int):=oM;have hik:i+(n+1-i)=n+1:=oM;have af:(Builtin.firstCells i0.size i (lZ g i n)).run prog w.drew=.ok (cur.toList.take (i*3)).toArray w.drew:=by
  rw[ay];exact run_firstCells_some w.drew 3 i (aZ g) i n (cur.toList.take (i*3)) (by rw[BI,Gp];omega) (fun j v hj=>by
   rw[IR];rw[Fg]at hj
   split at hj
   ·simp only[World.cell?,World.drew];rw[hg]
    simpa using hj
   ·cases hj)
 have ag:∀ty,(Builtin.append_ #[31,3] ty #[lZ g i n,iI ((n:Int)+1-(i:Int))]).run prog w =
   .ok (lZ w.heap.size (n+1) (grownCap w (n+1) n 87)) (w.drew.alloc (.cells ((cur.toList.take (i*3)).toArray++Builtin.zeroCells G8.cells (n+1-i)++Builtin.zeroCells G8.cells (grownCap w (n+1) n 87-(n+1))) 87)):=fun ty=>by
  have h:=Lib.run_append_grow_zeros w 31 3 ty 87 i0 G8 .i64 .i64 kR kR av hz0 (sZ g) i n (cur.toList.take (i*3)) af (n+1-i) oM oM oM oM (by rw[ao];omega) (by rw[ao,hik];exact growslice_fits oM oM);rw[hik]at h;rw[ax];exact h
 have ap:n+1<=grownCap w (n+1) n 87:=grownCap_ge w _ _ _;have ah:grownCap w (n+1) n 87<=maxLen:=grownCap_le_maxLen w _ _ _ (by unfold maxLen;omega);obtain⟨G,hG⟩:=nM (grownCap w (n+1) n 87);rw[hG]at ag ap ah;have az:G<=9223372036854775807:=by unfold maxLen at ah;omega
 obtain⟨Z,hZ⟩:∃Z:List Value,(Builtin.zeroCells G8.cells (n+1-i)++Builtin.zeroCells G8.cells (G-(n+1))).toList=Z:=⟨_,rfl⟩;have ar:i*3+Z.length=G*3:=by
  rw[<-hZ,Gp,Array.size_append,size_zeroCells,size_zeroCells,show G8.cells.size=3 by rfl];omega
 have hR:(cur.toList.take (i*3)).toArray++Builtin.zeroCells G8.cells (n+1-i)++Builtin.zeroCells G8.cells (G-(n+1))=(cur.toList.take (i*3)++Z).toArray:=by
  rw[<-hZ];apply Oz.1;simp
 rw[hR]at ag;have ai:(cur.toList.take (i*3)++Z).length=G*3:=by rw[Bl,BI,Gp];omega
 obtain⟨L0,aj⟩:=nM (cur.toList.take (i*3)++Z);rw[aj]at ag ai;obtain⟨W1,ac⟩:=nM (w.drew.alloc (.cells L0.toArray 87));have ak:W1.heap[w.heap.size]?=some (.cells L0.toArray 87):=by rw[<-ac];exact C2 w.drew _
 have aa:∀k,k<w.heap.size->W1.heap[k]?=w.heap[k]?:=fun k hk=>by
  rw[<-ac];exact((AG w.drew.heap.size w.drew).alloc lE (.cells L0.toArray 87)).block k hk
 rw[ac]at ag;have aq:=(aa N a7).trans hN;have ae:∀ty dc,(Builtin.copy_ #[31,31] ty #[lD w.heap.size (i*3) (n+1-i) dc,lZ N 1 1]).run prog W1=.ok (goInt (Nat.min 1 (n+1-i))) (W1.setRow w.heap.size (Ex L0 i [x0,x1,x2]).toArray):=fun ty dc=>by
  have:=N5 W1 31 31 ty 87 w.heap.size (i*3) (n+1-i) dc (aZ N) 1 1 L0.toArray 87 [x0,x1,x2] kR KQ ak (by simp only[BF,C1,OT];split<;>omega)
   (fun j v hj=>by
    rw[IR];simp only[World.cell?];rw[aq]
    simpa using hj)
   (by simp only[EG,ai,BF,C1];omega) h1x
  simpa[Ex] using this
 obtain⟨W2,ad⟩:=nM (W1.setRow w.heap.size (Ex L0 i [x0,x1,x2]).toArray);have al:W2.heap[w.heap.size]?=some (.cells (Ex L0 i [x0,x1,x2]).toArray 87):=by rw[<-ad];exact Ja W1 _ _ _ 87 (0,0) ak
 have ab:∀k,k<w.heap.size->W2.heap[k]?=w.heap[k]?:=fun k hk=>by
  rw[<-ad];exact(JL W1 _ k _ oM).trans (aa k hk)
 rw[ad]at ae;have au:=(ab g a8).trans hg;have aw:(Ex L0 i [x0,x1,x2]).length=G*3:=PX oM ai rfl;have am:∀ty dc sc,(Builtin.copy_ #[31,31] ty #[lD w.heap.size ((i+1)*3) (n-i) dc,lD g (i*3) (n-i) sc]).run prog W2.drew=.ok (goInt (Nat.min (n-i) (n-i))) (W2.drew.setRow w.heap.size (KL (Ex L0 i [x0,x1,x2]) cur.toList i).toArray):=fun ty dc sc=>
  N5 W2.drew 31 31 ty 87 w.heap.size ((i+1)*3) (n-i) dc (aD g (i*3)) (n-i) sc (Ex L0 i [x0,x1,x2]).toArray 87 (cur.toList.drop (i*3)) kR KQ al (by simp only[CZ,Gp,hsz];simp only[OT];split<;>omega)
   (fun j v hj=>by
    rw[IR];rw[Gq]at hj;simp only[World.cell?,World.drew];rw[au]
    simpa using hj)
   (by simp only[CZ,Gp,hsz,EG,aw];omega) (fun u hu=>h1 u (OO hu))
 have an:W2.drew.heap[w.heap.size]?=some (.cells (Ex L0 i [x0,x1,x2]).toArray 87):=al;have aA:¬(G=i):=oM;have a6:¬(G=i+1):=oM;have HE:Hd (i*3+Z.length=G*3/\cur.toList.take (i*3)++Z=L0/\n+1<=G/\G<=maxLen):=⟨ar,aj,ap,ah⟩;have HG:Hd (w.grownBy W2 none):=by
  refine⟨?_,?_,?_,?_,fun k hk _=>ab k hk⟩<;>rw[<-ad,<-ac]
  ·rfl
  ·rfl
  ·rfl
  ·simp
 clear hg hN ax hik af hG hR hZ ar aj ah ak aa aq al ab au aw ai h1 h1x hsz av hz0 ay ao ac ad;have mixed:prog.follows Departure.mixedOrders=true:=by kernel_rfl
 go_enter func101,ntmps101
 go_wp2_with(first
  | (at_builtin;refine Lib.wpList_append_run _ rfl _ _ _ _ rfl _ _ rfl rfl _ _ (ag _) ?_)
  | (at_builtin;refine wpList_copy_runI _ rfl _ _ 31 31 rfl _ _ rfl rfl (ae _ _) ?_))
 go_region_law_o (refine step_copy_runI rfl _ _ 31 31 rfl _ _ (by simp[Act.eval,Act.put]) (by simp[Act.eval,Act.put]) (am _ _ _) ?_)
 go_wp2
 go_ret;refine⟨G,Z,HE.o.2.2.1,HE.o.2.2.2,HE.o.1,rfl,?_,?_⟩
 ·rw[HE.o.2.1];exact Ja W2.drew _ _ _ 87 (0,0) an
 ·exact⟨HG.o.os,HG.o.tape,HG.o.output,by simpa using HG.o.size,fun k hk _=>(JL W2.drew _ k _ oM).trans (HG.o.block k hk (by simp))⟩
theorem Y7 (B n N:Nat)(v:Value)(xs:List Value)(x0 x1 x2:Value)(w:World)(hB:B<=w.heap.size)(hn2:n<=1000)(h:w.ownsRow B 87 3 v n xs)(hN:w.heap[N]?=some (.cells #[x0,x1,x2] 87))(hNv:v.ownBlock≠some N)(h1x:∀u∈[x0,x1,x2],u.oneCell'=true):Cl 101 #[v,iI n,lZ N 1 1] w fun r w'=>∃v',r=.returned v'/\w'.ownsRow B 87 3 v' (n+1) (xs++[x0,x1,x2])/\w.grownBy w' v.ownBlock/\(v'.ownBlock=v.ownBlock\/v'.ownBlock=some w.heap.size):=by
 obtain⟨i0,ab,hz0,ad,ac⟩:=Fj J1;have aa:∀ty,∃v' w',(Builtin.append_ #[31,31] ty #[v,lZ N 1 1]).run prog w=.ok v' w'/\w'.ownsRow B 87 3 v' (n+1) (xs++[x0,x1,x2])/\w.grownBy w' v.ownBlock/\(v'.ownBlock=v.ownBlock\/v'.ownBlock=some w.heap.size):=fun ty=>by
  obtain⟨v',w',hr,g2,g3,_,g5⟩:=run_append_own_at (P:=prog) w B 31 ty 87 i0 _ 3 48 kR ab hz0 ad ac (by rfl) dE v n xs h (aZ N) 1 1 [x0,x1,x2] rfl (fun j u hj=>by
   rw[IR];simp only[World.cell?];rw[hN]
   simpa using hj) h1x (by unfold maxLen;omega) oM hB
  exact⟨v',w',hr,g2,g3,g5⟩
 obtain⟨v',w',hr,k1,k2,k3⟩:=aa 31;have HK:Hd (w'.ownsRow B 87 3 v' (n+1) (xs++[x0,x1,x2])/\w.grownBy w' v.ownBlock/\(v'.ownBlock=v.ownBlock\/v'.ownBlock=some w.heap.size)):=⟨k1,k2,k3⟩;rcases Di h with⟨e1,e2⟩|⟨g,c,e1,hgB,e2⟩
 ·subst e1 e2;clear h hN h1x aa k1 k2 k3
  go_enter func101,ntmps101
  go_wp2_with(at_builtin;refine Lib.wpList_append_run _ rfl _ _ _ _ rfl _ _ rfl rfl _ _ hr ?_);go_ret;exact⟨v',rfl,HK.o⟩
 ·have hnc:n<=c:=by
   rcases h.2 with⟨rfl,_⟩|⟨g',c',cur,e,_,_,hh,_⟩
   ·cases e1
   ·rw[e1]at e;cases e;exact hh
  subst e1;clear h hN h1x aa k1 k2 k3
  go_enter func101,ntmps101
  go_wp2_with(at_builtin;refine Lib.wpList_append_run _ rfl _ _ _ _ rfl _ _ rfl rfl _ _ hr ?_)
  all_goals (go_ret;exact⟨v',rfl,HK.o⟩)
theorem Zb (B n i N:Nat)(v:Value)(xs:List Value)(x0 x1 x2:Value)(w:World)(hB:B<=w.heap.size)(hn2:n<=1000)(hi:i<=n)(h:w.ownsRow B 87 3 v n xs)(h1:∀u∈xs,u.oneCell'=true)(hN:w.heap[N]?=some (.cells #[x0,x1,x2] 87))(hNv:v.ownBlock≠some N)(h1x:∀u∈[x0,x1,x2],u.oneCell'=true):Cl 101 #[v,iI i,lZ N 1 1] w fun r w'=>∃v',r=.returned v'/\w'.ownsRow B 87 3 v' (n+1) (xs.take (i*3)++[x0,x1,x2]++xs.drop (i*3))/\w.grownBy w' v.ownBlock/\(v'.ownBlock=v.ownBlock\/v'.ownBlock=some w.heap.size):=by
 have hl:=h.1;rcases Dq i n with hin|hin
 ·rcases h.2 with⟨_,e⟩|⟨g,c,cur,rfl,hgB,hg,hnc,hcm,hsz,htk⟩
  ·omega
  ·have ac:N≠g:=fun e=>hNv (by rw[e];rfl)
   have aa:cur.toList.length=c*3:=by rw[Gp];exact hsz
   rcases Dq c (n+1) with hc|hc
   ·have e:c=n:=oM;subst e;have ab:cur.toList=xs:=by rw[<-htk,DF oM]
    refine(Y9 g c i N cur x0 x1 x2 w hin hn2 hg hsz hN (by rw[ab];exact h1) h1x).mono ?_;rintro r w' ⟨G,Z,g1,g2,g3,rfl,g4,g5⟩;rw[ab]at g4;refine⟨_,rfl,⟨?_,.inr ⟨w.heap.size,G,_,rfl,hB,g4,g1,g2,?_,?_⟩⟩,⟨g5.os,g5.tape,g5.output,g5.size,fun k hk _=>g5.block k hk (by simp)⟩,.inr rfl⟩
    ·simp only[Bl,BI,CZ,BF,C1,hl];omega
    ·rw[EG];exact YI hin g1 (PX oM (by rw[Bl,BI,hl];omega) rfl) hl
    ·rw[LB];exact YU hin g1 hl g3 rfl
   ·refine(Za g n c i N cur x0 x1 x2 w hin hc (by unfold maxLen at hcm;omega) ac hg hsz hN (by rw[htk];exact h1) h1x).mono ?_;rintro r w' ⟨rfl,g4,g5⟩;refine⟨_,rfl,⟨?_,.inr ⟨g,c,_,rfl,hgB,g4,hc,hcm,?_,?_⟩⟩,g5,.inl rfl⟩
    ·simp only[Bl,BI,CZ,BF,C1,hl];omega
    ·rw[EG];exact PX oM (US hin hc aa) rfl
    ·rw[LB,<-htk];exact YV hin hc aa rfl
 ·have e:i=n:=oM;subst e;rw[DF oM,MI oM,JA];exact Y7 B i N v xs x0 x1 x2 w hB hn2 h hN hNv h1x
end
section
open Go.Lib
theorem UI (w:World)(ty:TypeId)(g n c:Nat)(a:Addr)(m mc:Nat)(cur:Array Value)(t:TypeId)(cs:List Value)(hg:w.heap[g]?=some (.cells cur t (0,0)))(hn:cs.length=m*3)(hroom:n+m<=c)(hsrc:∀j v,cs[j]?=some v->w.cell? (a.add j)=some v)(hfit:n*3+cs.length<=cur.size)(h1:∀v∈cs,v.oneCell'=true):(Builtin.append_ #[31,31] ty #[lZ g n c,.slice (some a) m mc]).run prog w =
   .ok (lZ g (n+m) c) (w.setRow g (cur.toList.take (n*3)++cs++cur.toList.drop (n*3+cs.length)).toArray):=by
 have hl:=run_loadCells_list (P:=prog) w a cs hsrc;have ab:=RB prog g (n*3) t cs 0 cur w hg (by simpa using hfit) h1;have hu:prog.underlying 31=some (.slice 87):=by kernel_rfl
 have aa:((aZ g):Addr).add (n*3)=(aD g (n*3)):=by rw[IR,Eh]
 cases hq:prog.info? 87 with
 | none=>have:=KQ;simp[hq]at this
 | some i=>
  have hi:i.size=3:=by have:=KQ;simpa[hq] using this
  simp[Builtin.append_,Kn hu,Builtin.lenOf,Builtin.firstCells,sizeOf,typeInfo,hq,hi,<-hn,hl,hroom,aa,ab]
theorem Rn (s x:Operand)(t t':TypeId)(ho:o.op=.call {callee:=.builtin .append,args:=#[s,x],argTypes:=#[t,t']})(v u:Value)(hs:a.eval s=v)(hx:a.eval x=u)(hr:(Builtin.append_ #[t,t'] o.type #[v,u]).run prog w=.ok v' w')(h:K (a.put o.dst v') w'):o.wp prog a w K Q:=by
 unfold Oper.wp execOp;simp only[ho,resolve,invoke,builtin,Sem.run_bind,Sem.run_pure,GS,GQ,Dc,Gr,hs,hx,hr];exact h
theorem U5 {ops:Array Oper}{E:Prop}(hgd:o.guard=none)(s x:Operand)(t t':TypeId)(ho:o.op=.call {callee:=.builtin .append,args:=#[s,x],argTypes:=#[t,t']})(v u:Value)(hs:a.eval s=v)(hx:a.eval x=u)(hr:(Builtin.append_ #[t,t'] o.type #[v,u]).run prog w=.ok v' w')(h:K (a.put o.dst v') w'):if Region.wanted o (yielded ops a.tmps)=true then Oper.wp prog o a w K Q else E:=by
 have hw:Region.wanted o (yielded ops a.tmps)=true:=by simp[Region.wanted,hgd]
 rw[Ab hw];exact Rn s x t t' ho v u hs hx hr h
theorem Rl {ops:Array Oper}{rest:List Oper}(hgd:o.guard=none)(s:Operand)(t:TypeId)(ho:o.op=.call {callee:=.builtin .clear,args:=#[s],argTypes:=#[t]})(v:Value)(hs:a.eval s=v)(hr:(Builtin.clear_ #[t] o.type #[v]).run prog w=.ok v' w')(h:wpList prog ops Q rest (a.put o.dst v') w'):wpList prog ops Q (o::rest) a w:=
 JN hgd fun _ hK=>by
  unfold Oper.wp execOp;simp only[ho,resolve,invoke,builtin,Sem.run_bind,Sem.run_pure,GS,GQ,Dc,Gr,hs,hr];exact hK _ _ h
def GO:List Value:=[.string ByteArray.empty,iI 0,nl]
def GY (L:List Value) (o:Nat) (x:List Value):List Value:=L.take o++x++L.drop (o+x.length)
theorem gH (w:World)(ty:TypeId)(g o c:Nat)(cur:Array Value)(t:TypeId)(hg:w.heap[g]?=some (.cells cur t (0,0)))(hfit:o+3<=cur.size):(Builtin.clear_ #[31] ty #[lD g o 1 c]).run prog w=.ok (.tuple #[]) (w.setRow g (GY cur.toList o GO).toArray):=by
 have aa:=RB prog g o t GO 0 cur w hg (by simpa[GO] using hfit) (by intro v hv;simp[GO]at hv;rcases hv with rfl|rfl|rfl<;>rfl);have hu:prog.underlying 31=some (.slice 87):=by kernel_rfl
 have hz:∀w,(zeroValue 87).run prog w=.ok G8 w:=fun w=>by kernel_rfl
 have ab:(Builtin.zeroCells G8.cells 1).toList=GO:=by
  have e:List.range 3=[0,1,2]:=by decide
  first
   | kernel_rfl
   | simp[Builtin.zeroCells,G8,Value.cells,GO,e]
 simp[Builtin.clear_,Kn hu,hz,ab,aa,GY]
def Ej (cur:List Value) (n i:Nat):List Value:=cur.take (i*3)++(cur.take (n*3)).drop ((i+1)*3)++cur.drop (i*3+((cur.take (n*3)).drop ((i+1)*3)).length)
theorem Px (hi:i<n)(hc:n<=c)(h:cur.length=c*3):(Ej cur n i).length=c*3:=by
 unfold Ej;simp only[Bl,BI,CZ,h];omega
theorem YS {o:Nat}(h:L.length=k)(ho:o+x.length<=k):(GY L o x).length=k:=by
 unfold GY;simp only[Bl,BI,CZ,h];omega
theorem YT (hi:i<n)(hc:n<=c)(h:cur.length=c*3)(hx:x.length=3):(GY (Ej cur n i) ((n-1)*3) x).take ((n-1)*3)=(cur.take (n*3)).take (i*3)++(cur.take (n*3)).drop ((i+1)*3):=by
 have hl:((cur.take (n*3)).drop ((i+1)*3)).length=(n-1-i)*3:=by simp only[BI,CZ,h];omega
 apply JB
 intro j;unfold GY Ej;rw[hl];simp only[Fg,DY,Gq,Bl,BI,CZ,h,hx]
 repeat' split
 all_goals first|rfl|omega|(congr 1;omega)|(exfalso;omega)|(rw[Ed oM])
theorem Xk (g n c i:Nat)(cur:Array Value)(w:World)(hi:i<n)(hnc:n<=c)(hc:c<=9223372036854775807)(hg:w.heap[g]?=some (.cells cur 87))(hsz:cur.size=c*3)(h1:∀u∈cur.toList.take (n*3),u.oneCell'=true):Cl 105 #[lZ g n c,iI i,iI ((i:Int)+1)] w fun r w'=>r=.returned (lZ g (n-1) c)/\w'.heap[g]?=some (.cells (GY (Ej cur.toList n i) ((n-1)*3) GO).toArray 87)/\w.grownBy w' (some g):=by
 have aw:¬((i:Int)=(i:Int)+1):=oM;have al:(0:Int)<=(i:Int)+1:=oM;have hin:i<=n:=oM;have av:((i:Int)+1).toNat=i+1:=oM;have am:(i:Int)+1<=(n:Int):=oM;have ao:i+1<=n:=oM;have an:¬(c=i):=oM;have ah:cur.toList.length=c*3:=by rw[Gp];exact hsz
 have ac:((cur.toList.take (n*3)).drop ((i+1)*3)).length=(n-(i+1))*3:=by simp only[BI,CZ,ah];omega
 have ak:i+(n-(i+1))=n-1:=oM;have ad:∀ty mc o,(o=(i+1)*3\/n-(i+1)=0)->(Builtin.append_ #[31,31] ty #[lZ g i c,lD g o (n-(i+1)) mc]).run prog w.drew=.ok (lZ g (n-1) c) (w.drew.setRow g (Ej cur.toList n i).toArray):=fun ty mc o ho=>by
  have:=UI w.drew ty g i c (aD g o) (n-(i+1)) mc cur 87 ((cur.toList.take (n*3)).drop ((i+1)*3)) hg ac oM
   (fun j v hj=>by
    rcases ho with rfl|ho
    ·rw[IR];rw[Gq,Fg]at hj
     split at hj
     ·simp only[World.cell?,World.drew];rw[hg]
      simpa using hj
     ·cases hj
    ·rw[ho,Nat.zero_mul,Iq]at ac;rw[ac]at hj
     cases hj)
   (by rw[ac];omega) (fun u hu=>h1 u (OO hu))
  rw[ak]at this;exact this
 have af:(w.drew.setRow g (Ej cur.toList n i).toArray).heap[g]?=some (.cells (Ej cur.toList n i).toArray 87):=Ja w.drew g cur _ 87 (0,0) hg;obtain⟨W1,ae⟩:=nM (w.drew.setRow g (Ej cur.toList n i).toArray);rw[ae]at ad af;have ag:∀ty cc,(Builtin.clear_ #[31] ty #[lD g ((n-1)*3) 1 cc]).run prog W1=.ok (.tuple #[]) (W1.setRow g (GY (Ej cur.toList n i) ((n-1)*3) GO).toArray):=fun ty cc=>by
  have:=gH W1 ty g ((n-1)*3) cc (Ej cur.toList n i).toArray 87 af (by rw[EG,Px hi hnc ah];omega)
  simpa using this
 have aa:n=i+1->W1=w.drew:=fun e=>by
  have hd:(cur.toList.take (n*3)).drop ((i+1)*3)=[]:=IZ (by rw[ac];omega);have aj:Ej cur.toList n i=cur.toList:=by unfold Ej;rw[hd];simp
  rw[<-ae,aj,Array.toArray_toList];exact setRow_self w.drew g cur 87 (0,0) hg
 clear h1 hg ac ah;have hm1:n-1<=n:=oM;have ar:¬(c=n-1):=oM;have au:n-(n-1)=1:=oM;have mixed:prog.follows Departure.mixedOrders=true:=by kernel_rfl
 have ab:∀v,v=(lZ g (n-1) c)->Ending.returned v=.returned (lZ g (n-1) c)/\(W1.setRow g (GY (Ej cur.toList n i) ((n-1)*3) GO).toArray).heap[g]?=some (.cells (GY (Ej cur.toList n i) ((n-1)*3) GO).toArray 87)/\w.grownBy (W1.setRow g (GY (Ej cur.toList n i) ((n-1)*3) GO).toArray) (some g):=by
  rintro v rfl;refine⟨rfl,Ja W1 g _ _ 87 (0,0) af,?_⟩;subst ae;exact⟨rfl,rfl,rfl,by simp,fun k _ hk=>(JL _ g k _ (fun e=>hk (by rw[e]))).trans (JL _ g k _ (fun e=>hk (by rw[e])))⟩
 clear af ae;have ap:(i:Int)<=(c:Int):=oM;have ai:i<=c:=oM
 by_cases hcc:c=i+1
 ·have e2:n=i+1:=oM;subst e2;subst hcc;have aq:(i:Int)<=(i:Int)+1:=oM;have hs:=aa rfl;subst hs;clear ad aa;simp only[Is,Nat.add_sub_cancel]at ag ab ⊢
  go_enter func105,ntmps105
  go_wp2_with(at_builtin;refine Rl rfl _ 31 rfl _ rfl (ag _ _) ?_)
  go_region_law_o (refine U5 rfl _ _ 31 31 rfl (lZ g i (i+1)) (lZ g 0 0) (by simp[Act.eval,Act.put]) (by simp[Act.eval,Act.put]) rfl ?_)
  go_wp2_with(at_builtin;refine Rl rfl _ 31 rfl _ rfl (ag _ _) ?_);go_ret;exact ab _ rfl
 ·have ad:=fun ty mc=>ad ty mc ((i+1)*3) (.inl rfl)
  go_enter func105,ntmps105
  go_wp2_with fail
  go_region_law_o (refine U5 rfl _ _ 31 31 rfl (lZ g i c) (lD g ((i+1)*3) (n-(i+1)) (c-(i+1))) (by simp[Act.eval,Act.put]) (by simp[Act.eval,Act.put]) (ad 31 (c-(i+1))) ?_)
  go_wp2_with(at_builtin;refine Rl rfl _ 31 rfl _ rfl (ag _ _) ?_);go_ret;exact ab _ rfl
theorem Xm (B n i:Nat)(v:Value)(xs:List Value)(w:World)(hi:i<n)(h:w.ownsRow B 87 3 v n xs)(h1:∀u∈xs,u.oneCell'=true):Cl 105 #[v,iI i,iI ((i:Int)+1)] w fun r w'=>∃v',r=.returned v'/\w'.ownsRow B 87 3 v' (n-1) (xs.take (i*3)++xs.drop ((i+1)*3))/\w.grownBy w' v.ownBlock/\v'.ownBlock=v.ownBlock:=by
 have hl:=h.1;rcases h.2 with⟨_,e⟩|⟨g,c,cur,rfl,hgB,hg,hnc,hcm,hsz,htk⟩
 ·omega
 ·have aa:cur.toList.length=c*3:=by rw[Gp];exact hsz
  refine(Xk g n c i cur w hi hnc (by unfold maxLen at hcm;omega) hg hsz (by rw[htk];exact h1)).mono ?_;rintro r w' ⟨rfl,g4,g5⟩;refine⟨_,rfl,⟨?_,.inr ⟨g,c,_,rfl,hgB,g4,oM,hcm,?_,?_⟩⟩,g5,rfl⟩
  ·simp only[Bl,BI,CZ,hl];omega
  ·rw[EG];exact YS (Px hi hnc aa) (by simp only[GO,BF,C1];omega)
  ·rw[LB,<-htk];exact YT hi hnc aa rfl
end
end Go.Proofs.YtfciijncfbepjaaGreatDoor
