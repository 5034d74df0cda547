/- Texts joined: WrU, WrE, WrZ, WrRz, WrB, PutI, WoA, RoA, WiN, WiQ, WiT, WiMo, WiQo, WiTo, DkL, SnP, SnT, SnF, SnG. -/
import Derived.Test.YtfciijncfbepjaaGreatDoorDeskPlaysJ7
import Derived.Test.YtfciijncfbepjaaGreatDoorDeskPlaysJ2
import Derived.Test.YtfciijncfbepjaaGreatDoorDeskPlaysJ6
import Derived.Test.YtfciijncfbepjaaGreatDoorDeskPlaysJ3
import Derived.BigQuiet
import Derived.Laws.CopyRow
import Derived.Laws.IdiomCopy
import Derived.Test.YtfciijncfbepjaaGreatDoorDeskPlaysJ4
import Derived.Test.YtfciijncfbepjaaGreatDoorDeskPlaysJ5
import Derived.Defers
import Derived.Recover
import Derived.Test.YtfciijncfbepjaaGreatDoorDeskPlaysJ1
set_option linter.unusedVariables false
set_option linter.unusedSimpArgs false
set_option maxHeartbeats 200000000
set_option maxRecDepth 20000
namespace Go.Proofs.YtfciijncfbepjaaGreatDoor
open Go.Proofs.Tryz
variable {a:Nm}{B D b cap g j k n o t:Nat}{M m:Ac}{xs:List Int}{val:Nm->Value}{V W W' X w w':World}{v x0 x1 x2 x3 x4:Value}{E:Int}{L:List An}{l:List UInt8}{s:AE}{nm u:ByteArray}{S:List AE}
open Go.RowKit Go.Shelf
def Ho (m:Ac) (g:Nat):Option Ac:=if g/4<m.r.length/\AU (Ak m (g/4)) (g%4)≠Ak m (g/4) then C7 m (g/4) (AU (Ak m (g/4)) (g%4)) else some m
def Lg (m:Ac) (g:Nat):Option Ac:=(Ho m g).map (fun M=>Dl M g)
theorem F0.reroot {a b:Ac}(h:F0 a b)(g:Nat):F0 (Dl a g) (Dl b g):=by
 refine⟨rfl,?_,h.s,h.p,h.f⟩
 show List.take _ _=List.take _ _
 rw[h.r]
theorem UK (hC:Ao m=0)(hg:g<=16):JP (Lg m g) (E8 m g):=by
 have hs:=A0 hC;have hrl:=(Au hs).2.2.1;unfold Lg E8
 by_cases h0:g%4=0
 ·have aa:EM m g=some m:=by unfold EM;rw[Aa (fun x=>x.1 h0)]
  have ac:=J7 hC hg aa;rw[aa];have ag:∀M,Ho m g=some M->Dl M g=Dl m g:=fun M hM=>by
   unfold Ho at hM
   split at hM
   ·rename_i hc
    have hz:AU (Ak m (g/4)) (g%4)=[0,0,0,0]:=by rw[h0];unfold AU;simp[List.replicate]
    rw[hz]at hM;have hM:C7 m (g/4) [0,0,0,0]=some {m with r:=m.r.set (g/4) 0}:=by unfold C7;rw[Ab dE]
    rename_i ab
    rw[hM]at ab
    cases ab
    unfold Dl;have e:(g+3)/4=g/4:=oM;simp only[Ac.mk.injEq,Jb,Hh];rw[Bi,e];have hl:=hc.1;rw[show g/4-m.r.length=0 by omega];simp only[List.replicate_zero,JA];rw[List.take_set_of_le lE]
   ·cases hM;rfl
  have hne:Ho m g≠none:=by
   unfold Ho
   split
   ·have hz:AU (Ak m (g/4)) (g%4)=[0,0,0,0]:=by rw[h0];unfold AU;simp[List.replicate]
    rw[hz];unfold C7;rw[Ab dE];simp
   ·simp
  cases hc:Ho m g with
  | none=>exact absurd hc hne
  | some M=>
   refine⟨fun x=>(by cases x),fun X hX=>?_⟩;simp only[It,Ct]at hX;rw[<-hX,ag M hc];exact⟨ac,rfl⟩
 ·have e:Ho m g=if g/4<m.r.length/\AU (Ak m (g/4)) (g%4)≠Ak m (g/4) then C7 m (g/4) (AU (Ak m (g/4)) (g%4)) else some m:=rfl
  by_cases hc:g/4<m.r.length/\AU (Ak m (g/4)) (g%4)≠Ak m (g/4)
  ·rw[e,Ab hc];have aa:EM m g=DP m (g/4) (AU (Ak m (g/4)) (g%4)):=by unfold EM;rw[Ab ⟨h0,hc⟩]
   obtain⟨ae,ad⟩:=P5 hC hc.1 (AU (Ak m (g/4)) (g%4))
   cases hl:C7 m (g/4) (AU (Ak m (g/4)) (g%4)) with
   | none=>
    rw[aa,ae.1 hl];exact⟨fun _=>rfl,fun M hM=>(by cases hM)⟩
   | some M=>
    obtain⟨M',ab,af⟩:=ad M hl;have hK:=(af (NJ hrl hl) (Q3 hrl ab)).reroot g;have ac:=J7 hC hg (aa.trans ab);rw[aa,ab];refine⟨fun x=>(by cases x),fun X hX=>?_⟩;simp only[It,Ct]at hX;subst hX;exact⟨hK.shape.trans ac,by simp only[It];rw[hK.counted]⟩
  ·rw[e,Aa hc];have aa:EM m g=some m:=by unfold EM;rw[Aa (fun x=>hc x.2)]
   have ac:=J7 hC hg aa;rw[aa];refine⟨fun x=>(by cases x),fun X hX=>?_⟩;simp only[It,Ct]at hX;subst hX;exact⟨ac,rfl⟩

theorem Xc (v:Value)(xs:List Int)(k:Nat)(w:World)(h:Sl w v xs)(h0:Bp xs=0)(hk4:k<=4):Cl 85 #[v,iI k] w fun r w'=>∃v',r=.returned (.tuple #[v',iI 0])/\w'.ownsRow w.heap.size 3 1 v' (AU xs k).length (Ae (AU xs k))/\Bw w w':=by
 have H4:Hd (xs.length=4):=Dv h0;have ad:(k:Int)<=4:=oM;have ac:¬(k:Int)<0:=oM
 go_enter func85,ntmps85
 go_wp2_with(first|(go_at_call 142;refine(Ng _ xs _ h).mono ?_;rintro e w' ⟨rfl,rfl⟩)|(go_at_call 143;refine(Sq _ xs _ _ h H4.o oM oM).mono ?_;rintro e w1 ⟨g,cap',rfl,aa,ab⟩;have HO:Hd (w1.ownsRow _ 3 1 (lZ g 4 cap') 4 ((AU xs (Int.toNat (k:Int))).map (.int .i64))):=aa;clear aa))
 go_ret2
 have hO:=HO.o;rw[A5]at hO;have hl:(AU xs k).length=4:=by unfold AU;simp[H4.o];omega
 rw[hl];exact⟨_,rfl,hO,ab⟩
theorem Pu (h:xs.length=4)(hk:k<=4):(AU xs k).length=4:=by unfold AU;simp[h];omega
theorem R7 (h:Bp xs=0)(hk:k<=4):Bp (AU xs k)=0:=by
 have h4:=Dv h;refine LM (Pu h4 hk) ?_;have ha:xs.all Cf=true:=by
  unfold Bp at h
  split at h
  ·rename_i h1;exact h1.2
  ·cases h
 rw[Ax]at ha ⊢;intro x hx;unfold AU at hx;rcases GR.1 hx with h1|h1
 ·exact ha x (Kh h1)
 ·rw[List.eq_of_mem_replicate h1];decide
theorem jJ (hK:DK w B D val m)(hB:B<=w.heap.size)(h16:g<=16)(hs:As m=0):Cl 41 #[pZ D,iI (g:Int)] w (E1 w B D m val AF (Ho m g)):=by
 obtain⟨ra,rc,e0,_⟩:=hK.own.forms .r (Af.r m);have d1:w.cell? (aD D 1)=some (.slice ra m.r.length rc):=hK.root5 e0;have e4:((g/4:Nat):Int)=(g:Int)/4:=oM;have e5:((g%4:Nat):Int)=(g:Int)%4:=oM;have hrl:=(Au hs).2.2.1;unfold Ho
 by_cases hr:g/4<m.r.length
 ·obtain⟨t,ht,ae⟩:=Js hs hr;have ac:=(ET hs hr).1;have aa:=Sn hK hr ht ae;rw[e4]at aa;have ag:¬(m.r.length:Int)<=(g:Int)/4:=oM;have ah:decide ((m.r.length:Int)<=(g:Int)/4)=false:=by simp;omega
  have HC:Hd (∀v w1,Sl w1 v (Ak m (g/4))->Cl 85 #[v,iI ((g:Int)%4)] w1 fun r w'=>∃v',r=.returned (.tuple #[v',iI 0])/\w'.ownsRow w1.heap.size 3 1 v' (AU (Ak m (g/4)) (g%4)).length (Ae (AU (Ak m (g/4)) (g%4)))/\Bw w1 w'):=fun v w1 h1=>by
   have:=Xc v _ (g%4) w1 h1 ac oM;rw[e5]at this;exact this
  by_cases hne:AU (Ak m (g/4)) (g%4)=Ak m (g/4)
  ·rw[Aa (fun x=>x.2 hne)];have HQ:Hd (∀u v W,W.ownsRow w.heap.size 3 1 u (AU (Ak m (g/4)) (g%4)).length (Ae (AU (Ak m (g/4)) (g%4)))->Sl W v (Ak m (g/4))->Cl 80 #[u,v] W fun r w'=>r=.returned (.bool true)/\Bw W w'):=fun u v W h1 h2=>Nk (CY h1) h2 (by rw[hne]) (by rw[hne];simp)
   have HF:Hd (∀W,Bw w W->Ay w W B D m val AF m val):=fun W hb=>(Ay.refl hK AF).below hB hb
   clear hK e0 e4 e5 hrl hr ht ae ac hne hs
   go_enter func41,ntmps41
   go_wp2_with(first|(go_at_call 80;refine(HQ.o _ _ _ (CL ad b1.size) (ab.below b2)).mono ?_;rintro e w3 ⟨rfl,b3⟩)|(go_at_call 85;refine(HC.o _ _ ab).mono ?_;rintro e w2 ⟨v2,rfl,ad,b2⟩)|(go_at_call 84;refine aa.mono ?_;rintro e w1 ⟨v1,rfl,ab,b1⟩))
   go_end0
   exact⟨rfl,val,HF.o _ (Below.on' b1 b2 b3)⟩
  ·rw[Ab ⟨hr,hne⟩];have af:=Dv ac;have HQ:Hd (∀u v W,W.ownsRow w.heap.size 3 1 u (AU (Ak m (g/4)) (g%4)).length (Ae (AU (Ak m (g/4)) (g%4)))->Sl W v (Ak m (g/4))->Cl 80 #[u,v] W fun r w'=>r=.returned (.bool false)/\Bw W w'):=fun u v W h1 h2=>Nk (CY h1) h2 (by rw[af];exact Pu af oM) (by simpa using hne)
   cases ho:C7 m (g/4) (AU (Ak m (g/4)) (g%4)) with
   | none=>
    have HL:Hd (∀ev W,Bw w W->W.ownsRow w.heap.size 3 1 ev (AU (Ak m (g/4)) (g%4)).length (Ae (AU (Ak m (g/4)) (g%4)))->Cl 86 #[pZ D,iI ((g:Int)/4),ev] W (E1 w B D m val AF none)):=fun ev W h1 h3=>by
     have:=Oq hK hB hr ht ae (.inr (Au hs).2.1) hrl h1 lE h3 (R7 ac oM) ho;rw[e4]at this;exact this
    clear hK e0 e4 e5 hrl hr ht ae ac hne hs af ho
    go_enter func41,ntmps41
    go_wp2_with(first|(go_at_call 86;refine(HL.o _ _ (Below.on' b1 b2 b3) (Ij (CL ad b1.size) b3)).mono ?_;rintro e w4 ⟨rfl,b4⟩;exact⟨rfl,rfl,b4⟩)|(go_at_call 80;refine(HQ.o _ _ _ (CL ad b1.size) (ab.below b2)).mono ?_;rintro e w3 ⟨rfl,b3⟩)|(go_at_call 85;refine(HC.o _ _ ab).mono ?_;rintro e w2 ⟨v2,rfl,ad,b2⟩)|(go_at_call 84;refine aa.mono ?_;rintro e w1 ⟨v1,rfl,ab,b1⟩))
   | some M=>
    have HL:Hd (∀ev W,Bw w W->W.ownsRow w.heap.size 3 1 ev (AU (Ak m (g/4)) (g%4)).length (Ae (AU (Ak m (g/4)) (g%4)))->Cl 86 #[pZ D,iI ((g:Int)/4),ev] W (E1 w B D m val AF (some M))):=fun ev W h1 h3=>by
     have:=Oq hK hB hr ht ae (.inr (Au hs).2.1) hrl h1 lE h3 (R7 ac oM) ho;rw[e4]at this;exact this
    clear hK e0 e4 e5 hrl hr ht ae ac hne hs af ho
    go_enter func41,ntmps41
    go_wp2_with(first|(go_at_call 86;refine(HL.o _ _ (Below.on' b1 b2 b3) (Ij (CL ad b1.size) b3)).mono ?_;rintro e w4 ⟨rfl,On,hT⟩)|(go_at_call 80;refine(HQ.o _ _ _ (CL ad b1.size) (ab.below b2)).mono ?_;rintro e w3 ⟨rfl,b3⟩)|(go_at_call 85;refine(HC.o _ _ ab).mono ?_;rintro e w2 ⟨v2,rfl,ad,b2⟩)|(go_at_call 84;refine aa.mono ?_;rintro e w1 ⟨v1,rfl,ab,b1⟩))
    go_end0
    exact⟨rfl,On,hT⟩
 ·rw[Aa (fun x=>hr x.1)];have ag:(m.r.length:Int)<=(g:Int)/4:=oM;have ah:decide ((m.r.length:Int)<=(g:Int)/4)=true:=by simp;omega
  have HF:Hd (Ay w w B D m val AF m val):=Ay.refl hK AF;clear hK e0 e4 e5 hrl hr hs
  go_enter func41,ntmps41
  go_wp2_with fail;refine AY (LG rfl _ _ _) rfl ?_;exact⟨rfl,val,HF.o⟩

def GK (xs:List Int) (n:Nat):List Int:=(xs++List.replicate (n-xs.length) 0).take n
theorem Ux (xs:List Int)(n:Nat):(GK xs n).length=n:=by unfold GK;simp;omega
theorem WI (h:Sl w v xs)(n:Nat):∃W2 c,(Builtin.copy_ #[29,29] 3 #[lZ w.heap.size n n,v]).run prog (w.alloc (.cells ((List.replicate n (0:Int)).map (Value.int .i64)).toArray 3))=.ok c W2/\
   W2.heap[w.heap.size]?=some (.cells ((GK xs n).map (Value.int .i64)).toArray 3)/\Bw w W2:=by
 obtain⟨ao,cap,rfl⟩:=h.form;obtain⟨_,_,_,hc⟩:=h.cells;have hg:=O2 w (.cells ((List.replicate n (0:Int)).map (Value.int .i64)).toArray 3)
 by_cases h0:min xs.length n=0
 ·have aa:=run_copy_none (P:=prog) (w.alloc (.cells ((List.replicate n (0:Int)).map (Value.int .i64)).toArray 3)) 29 29 3 3 (sZ w.heap.size) ao n n xs.length cap underlying29 Tryz.size3 h0;refine⟨_,_,aa,?_,Av⟩;have e:GK xs n=List.replicate n 0:=by
   unfold GK
   by_cases hn:n=0
   ·subst hn;simp
   ·have:xs=[]:=Iq.1 oM;subst this;simp
  rw[e];exact hg
 ·obtain⟨b,off,rfl,hb,_⟩:=hc 0 oM;have hc:∀j,j<xs.length->w.cell? (aD b (off+j))=some (iI (xs.getD j 0)):=fun j hj=>by
   obtain⟨b',ad,e,_,h2⟩:=hc j hj;simp only[Ct,FR,Hh]at e;obtain⟨rfl,rfl⟩:=e;exact h2
  obtain⟨X,hX⟩:∃X,X=(xs.take n).map (Value.int .i64):=⟨_,rfl⟩;have ab:X.length=min xs.length n:=by rw[hX];simp;omega
  have ac:∀j v,X[j]?=some v->(w.alloc (.cells ((List.replicate n (0:Int)).map (Value.int .i64)).toArray 3)).cell? (((aD b off):Addr).add j)=some v:=by
   intro j v hj;have ae:j<min xs.length n:=by have:=(MK.1 hj).1;rw[ab]at this;exact this
   rw[hX]at hj;have:v=iI (xs.getD j 0):=by
    rw[Dm,Fg,Ab oM]at hj;simp[List.getD,show j<xs.length by omega]at hj ⊢
    exact hj.symm
   rw[this];rw[EI];exact(I5 _ _ _ hb).trans (hc j oM)
  have aa:=run_copy_row (P:=prog) _ 29 29 3 3 w.heap.size 0 n n (aD b off) xs.length cap _ 3 X underlying29 Tryz.size3 hg ab ac (by rw[ab];simp;omega) (by rw[hX];exact MT _ _);refine⟨_,_,aa,?_,below_setRow (Av) lE _⟩;rw[Ja _ _ _ _ _ _ hg,hX];have e:(GK xs n).map (Value.int .i64)=(xs.take n).map (Value.int .i64)++((List.replicate n (0:Int)).map (Value.int .i64)).drop (min xs.length n):=by
   rw[<-List.map_drop,<-DQ]
   congr 1
   unfold GK;rw[List.take_append,List.take_replicate,List.drop_replicate]
   congr 2
   omega
  rw[e];simp[Nat.min_comm]
theorem gl (hB:B<=g)(h:W.heap[g]?=some (.cells (xs.map (Value.int .i64)).toArray 3))(hm:xs.length<=40):W.ownsRow B 3 1 (lZ g xs.length xs.length) xs.length (Ae xs):=by
 have hx:(40:Nat)<=maxLen:=by decide
 exact⟨by simp[Ae],.inr ⟨g,xs.length,_,rfl,hB,h,Bc _,Bg hm hx,by simp,by simp[Ae,DF]⟩⟩
theorem gJ {bg:Nat}(cg:w.cell? (aZ bg)=some (iI (g:Int)))(lg:bg<w.heap.size)(h16:g<=16)(hs:As m=0):Hl w 40 #[pZ bg] m (Lg m g):=by
 intro W D B val hb h1 h2 hK;have cg:=(hb.cell (p:=(aZ bg)) lg).trans cg;have hcut:=jJ hK h2 h16 hs
 show Cl 40 #[pZ D,pZ bg] W _
 unfold Lg
 cases hc:Ho m g with
 | none=>
  rw[hc]at hcut;clear hc hK hs
  go_enter func40,ntmps40
  go_wp2_with(go_at_call 41;refine hcut.mono ?_;rintro e w3 ⟨rfl,b3⟩;exact⟨rfl,rfl,b3⟩)
 | some M=>
  rw[hc]at hcut
  show Cl 40 #[pZ D,pZ bg] W (fun r W'=>∃val',r=.returned (.tuple #[])/\Ay W W' B D m val AF (Dl M g) val')
  obtain⟨N,hN⟩:=nM ((g+3)/4);have ag:N<=4:=oM;have e4:(N:Int)=((g:Int)+4-1)/4:=oM;have HE:Hd (Dl M g = {M with g:=(g:Int),r:=GK M.r N}):=by unfold Dl GK;rw[hN];exact rfl
  have ad:=KY N oM;obtain⟨Z,hZ⟩:=nM (((List.replicate N (0:Int)).map (Value.int .i64)).toArray);rw[hZ,e4]at ad;have HZ:Hd (((List.replicate N (0:Int)).map (Value.int .i64)).toArray=Z):=hZ;have HN:Hd (N<=4):=ag;have al:bg<B:=AO lg h1;have HH:Hd (B<=W.heap.size/\bg<B):=⟨h2,al⟩;clear hc hK hs hN ag e4 hZ hb lg h1 h2
  go_enter func40,ntmps40
  go_wp2_with(go_at_call 41;refine hcut.mono ?_;rintro e w1 ⟨rfl,val1,ab⟩;have am:=(ab.bel.cell (p:=(aZ bg)) HH.o.2).trans cg;obtain⟨ra,rc,e0,ak⟩:=ab.dk.own.forms .r (Af.r M);obtain⟨W2,cc,ac,ah,ai⟩:=WI (CY (ab.dk.own.row .r (Af.r M))) N;rw[HZ.o,e0]at ac;have ac:(Builtin.copy_ #[29,29] 3 #[lZ w1.heap.size N N,.slice ra M.r.length rc]).run prog (w1.alloc (.cells Z 3))=.ok cc W2:=ac;have d1:(w1.alloc (.cells Z 3)).cell? (aD D 1)=some (.slice ra M.r.length rc):=(ab.dk.alloc _).root5 e0;have aa:=ab.below HH.o.1 ai;have an:=(aa.bel.cell (p:=(aZ bg)) HH.o.2).trans cg;obtain⟨p0,p1,_,_,_⟩:=aa.dk.five;have f0:=aa.dk.frozen 0;have f1:=aa.dk.frozen 1;have HT:=A9 (AW aa (AW ah ab.bel.size));have HD:=A9 ab;clear aa ab ah ak e0)
  go_end0
  have aa:=HT.o.1;have ao:=HD.o.dk.lt;have aj:B<=w1.heap.size:=Bg HH.o.1 HT.o.2.2;have k1:=aa.setDesk (aa.dk.setGuest (g:Int)) (fun q _ hs _ b hb=>hs b hb);have af:(W2.setCell (aZ D) (iI (g:Int))).ownsRow B 3 1 (lZ w1.heap.size N N) (GK M.r N).length (Ae (GK M.r N)):=by
   have h0:(W2.setCell (aZ D) (iI (g:Int))).heap[w1.heap.size]?=some (.cells ((GK M.r N).map (Value.int .i64)).toArray 3):=Bt HT.o.2.1 oM 0 _;have:=gl aj h0 (by rw[Ux];have:=HN.o;omega);rw[Ux]at this ⊢;exact this
  have ae:∀b,Af M b->(val1 b).ownBlock≠some w1.heap.size:=HD.o.dk.own.lt lE;have hv:(lZ w1.heap.size N N).ownBlock=some w1.heap.size:=rfl;have k2:=k1.setDesk (k1.dk.swapRoot af (fun b hb _ q hq x=>by cases hq;exact ae b hb x) (fun x=>by rw[hv]at x;injection x with x;omega)) (fun q _ hs hq b hb=>by
   by_cases e:b=.r
   ·subst e;rw[Bh];intro x;rw[hv]at x
    injection x with x
    have:=HT.o.2.2;omega
   ·rw[Ap _ _ e];exact hs b hb)
  rw[HE.o];exact⟨_,rfl,k2⟩

theorem ff (m:Ac)(ra:Option Addr)(rn rc:Nat)(sa:Option Addr)(sn sc:Nat)(fa:Option Addr)(fn fc:Nat)(na:Option Addr)(nn nc:Nat)(g:Int)(E:Int)(w:World)(h:Al w (.agg (bI m.g ra rn rc sa sn sc fa fn fc na nn nc)) m)(hE:Ao m=E)(hne:(E != 0)=true):Cl 18 #[.agg (bI m.g ra rn rc sa sn sc fa fn fc na nn nc),iI g] w (Bo w w.heap.size AZ E):=by
 let U:=(cB m.g ra rn rc sa sn sc fa fn fc na nn nc)
 let V:=((w.alloc U).alloc (oI g))
 have b0:Bw w (V.alloc zI):=(((AG _ _).alloc (by simp[V,U];try omega) _).alloc (by simp[V,U];try omega) _).alloc (by simp[V,U];try omega) _;have q0:(w.alloc U).heap[w.heap.size]?=some U:=AR (by simp[V,U]);have m0:(V.alloc zI).heap[w.heap.size]?=some U:=(Aj (Aj q0 _) _);have q1:V.heap[w.heap.size+1]?=some (oI g):=AR (by simp[V,U]);have m1:(V.alloc zI).heap[w.heap.size+1]?=some (oI g):=(Aj q1 _);have q2:(V.alloc zI).heap[w.heap.size+1+1]?=some zI:=AR (by simp[V,U]);have m2:(V.alloc zI).heap[w.heap.size+1+1]?=some zI:=q2;have hz:(V.alloc zI).heap.size=w.heap.size+1+1+1:=by simp[V,U]
 clear q0 q1 q2;have aa:=EU (h.below b0) hE;have c0:=five m0;have HM:Hd ((V.alloc zI).heap[w.heap.size+1+1]?=some zI/\Bw w (V.alloc zI)/\(V.alloc zI).heap.size=w.heap.size+1+1+1/\(V.alloc zI).heap[w.heap.size+1]?=some (oI g)):=⟨m2,b0,hz,m1⟩;clear h m0 m1 m2 hz b0 hE;dsimp only[V,U]at *;clear V U
 go_enter func18,ntmps18
 go_wp2_with(go_at_call 38;refine aa.mono ?_;rintro e w1 ⟨rfl,b1⟩;have k3:=Ag HM.o.1 b1 (by rw[HM.o.2.2.1];omega);have z0:=five k3;have y0:=Aq k3;have cn:=one (Ag HM.o.2.2.2 b1 (by rw[HM.o.2.2.1];omega));have HB:Hd (Bw w w1):=Below.on HM.o.2.1 b1;clear b1 k3);have i1:w.heap.size<=w.heap.size+1+1:=oM;refine AY (v:=.tuple #[.agg #[iI 0,nl,nl,nl,nl],iI E]) (by simp[results,results18,go_sem,z0]) rfl (Bo.bad E (((((HB.o.setCell i1 _).setCell i1 _).setCell i1 _).setCell i1 _).setCell i1 _))
theorem Uj (m:Ac)(ra:Option Addr)(rn rc:Nat)(sa:Option Addr)(sn sc:Nat)(fa:Option Addr)(fn fc:Nat)(na:Option Addr)(nn nc:Nat)(g:Int)(w:World)(h:Al w (.agg (bI m.g ra rn rc sa sn sc fa fn fc na nn nc)) m)(hE:Ao m=0)(hg:g<0):Cl 18 #[.agg (bI m.g ra rn rc sa sn sc fa fn fc na nn nc),iI g] w (Bo w w.heap.size AZ 3):=by
 let U:=(cB m.g ra rn rc sa sn sc fa fn fc na nn nc)
 let V:=((w.alloc U).alloc (oI g))
 have b0:Bw w (V.alloc zI):=(((AG _ _).alloc (by simp[V,U];try omega) _).alloc (by simp[V,U];try omega) _).alloc (by simp[V,U];try omega) _;have q0:(w.alloc U).heap[w.heap.size]?=some U:=AR (by simp[V,U]);have m0:(V.alloc zI).heap[w.heap.size]?=some U:=(Aj (Aj q0 _) _);have q1:V.heap[w.heap.size+1]?=some (oI g):=AR (by simp[V,U]);have m1:(V.alloc zI).heap[w.heap.size+1]?=some (oI g):=(Aj q1 _);have q2:(V.alloc zI).heap[w.heap.size+1+1]?=some zI:=AR (by simp[V,U]);have m2:(V.alloc zI).heap[w.heap.size+1+1]?=some zI:=q2;have hz:(V.alloc zI).heap.size=w.heap.size+1+1+1:=by simp[V,U]
 clear q0 q1 q2;have g1:decide (g<0)=true:=by simp[V,U,hg]
 have aa:=EU (h.below b0) hE;have c0:=five m0;have HM:Hd ((V.alloc zI).heap[w.heap.size+1+1]?=some zI/\Bw w (V.alloc zI)/\(V.alloc zI).heap.size=w.heap.size+1+1+1/\(V.alloc zI).heap[w.heap.size+1]?=some (oI g)):=⟨m2,b0,hz,m1⟩;clear h m0 m1 m2 hz b0 hE;dsimp only[V,U]at *;clear V U
 go_enter func18,ntmps18
 go_wp2_with(go_at_call 38;refine aa.mono ?_;rintro e w1 ⟨rfl,b1⟩;have k3:=Ag HM.o.1 b1 (by rw[HM.o.2.2.1];omega);have z0:=five k3;have y0:=Aq k3;have cn:=one (Ag HM.o.2.2.2 b1 (by rw[HM.o.2.2.1];omega));have HB:Hd (Bw w w1):=Below.on HM.o.2.1 b1;clear b1 k3);have i1:w.heap.size<=w.heap.size+1+1:=oM;refine AY (v:=.tuple #[.agg #[iI 0,nl,nl,nl,nl],iI 3]) (by simp[results,results18,go_sem,z0]) rfl (Bo.bad 3 (((((HB.o.setCell i1 _).setCell i1 _).setCell i1 _).setCell i1 _).setCell i1 _))
theorem Ui (m:Ac)(ra:Option Addr)(rn rc:Nat)(sa:Option Addr)(sn sc:Nat)(fa:Option Addr)(fn fc:Nat)(na:Option Addr)(nn nc:Nat)(g:Int)(w:World)(h:Al w (.agg (bI m.g ra rn rc sa sn sc fa fn fc na nn nc)) m)(hE:Ao m=0)(hg:16<g):Cl 18 #[.agg (bI m.g ra rn rc sa sn sc fa fn fc na nn nc),iI g] w (Bo w w.heap.size AZ 3):=by
 let U:=(cB m.g ra rn rc sa sn sc fa fn fc na nn nc)
 let V:=((w.alloc U).alloc (oI g))
 have b0:Bw w (V.alloc zI):=(((AG _ _).alloc (by simp[V,U];try omega) _).alloc (by simp[V,U];try omega) _).alloc (by simp[V,U];try omega) _;have q0:(w.alloc U).heap[w.heap.size]?=some U:=AR (by simp[V,U]);have m0:(V.alloc zI).heap[w.heap.size]?=some U:=(Aj (Aj q0 _) _);have q1:V.heap[w.heap.size+1]?=some (oI g):=AR (by simp[V,U]);have m1:(V.alloc zI).heap[w.heap.size+1]?=some (oI g):=(Aj q1 _);have q2:(V.alloc zI).heap[w.heap.size+1+1]?=some zI:=AR (by simp[V,U]);have m2:(V.alloc zI).heap[w.heap.size+1+1]?=some zI:=q2;have hz:(V.alloc zI).heap.size=w.heap.size+1+1+1:=by simp[V,U]
 clear q0 q1 q2;have g1:decide (g<0)=false:=by simp[V,U];omega
 have g2:¬g<0:=oM;have g3:decide (16<g)=true:=by simp[V,U,hg]
 have aa:=EU (h.below b0) hE;have c0:=five m0;have HM:Hd ((V.alloc zI).heap[w.heap.size+1+1]?=some zI/\Bw w (V.alloc zI)/\(V.alloc zI).heap.size=w.heap.size+1+1+1/\(V.alloc zI).heap[w.heap.size+1]?=some (oI g)):=⟨m2,b0,hz,m1⟩;clear h m0 m1 m2 hz b0 hE;dsimp only[V,U]at *;clear V U
 go_enter func18,ntmps18
 go_wp2_with(go_at_call 38;refine aa.mono ?_;rintro e w1 ⟨rfl,b1⟩;have k3:=Ag HM.o.1 b1 (by rw[HM.o.2.2.1];omega);have z0:=five k3;have y0:=Aq k3;have cn:=one (Ag HM.o.2.2.2 b1 (by rw[HM.o.2.2.1];omega));have HB:Hd (Bw w w1):=Below.on HM.o.2.1 b1;clear b1 k3);have i1:w.heap.size<=w.heap.size+1+1:=oM;refine AY (v:=.tuple #[.agg #[iI 0,nl,nl,nl,nl],iI 3]) (by simp[results,results18,go_sem,z0]) rfl (Bo.bad 3 (((((HB.o.setCell i1 _).setCell i1 _).setCell i1 _).setCell i1 _).setCell i1 _))
theorem Uk (m:Ac)(ra:Option Addr)(rn rc:Nat)(sa:Option Addr)(sn sc:Nat)(fa:Option Addr)(fn fc:Nat)(na:Option Addr)(nn nc:Nat)(g:Nat)(w:World)(h:Al w (.agg (bI m.g ra rn rc sa sn sc fa fn fc na nn nc)) m)(hF:Hi m)(hE:Ao m=0)(h16:g<=16)(M:Ac)(hM:Gg (Lg m g)=M)(er:Int)(her:IH (Lg m g)=er):Cl 18 #[.agg (bI m.g ra rn rc sa sn sc fa fn fc na nn nc),iI (g:Int)] w (Bo w w.heap.size M er):=by
 let U:=(cB m.g ra rn rc sa sn sc fa fn fc na nn nc)
 let V:=((w.alloc U).alloc (oI (g:Int)))
 have b0:Bw w (V.alloc zI):=(((AG _ _).alloc (by simp[V,U];try omega) _).alloc (by simp[V,U];try omega) _).alloc (by simp[V,U];try omega) _;have q0:(w.alloc U).heap[w.heap.size]?=some U:=AR (by simp[V,U]);have m0:(V.alloc zI).heap[w.heap.size]?=some U:=(Aj (Aj q0 _) _);have q1:V.heap[w.heap.size+1]?=some (oI (g:Int)):=AR (by simp[V,U]);have m1:(V.alloc zI).heap[w.heap.size+1]?=some (oI (g:Int)):=(Aj q1 _);have q2:(V.alloc zI).heap[w.heap.size+1+1]?=some zI:=AR (by simp[V,U]);have m2:(V.alloc zI).heap[w.heap.size+1+1]?=some zI:=q2;have hz:(V.alloc zI).heap.size=w.heap.size+1+1+1:=by simp[V,U]
 clear q0 q1 q2;have hs:=A0 hE;have ab:=EU (h.below b0) hE;have c0:=five m0;have g1:decide ((g:Int)<0)=false:=by simp[V,U]
 have g3:decide ((16:Int)<(g:Int))=false:=by simp[V,U];omega
 have g4:¬(16:Int)<(g:Int):=oM;have HO:Hd (∀w1,Below (V.alloc zI).heap.size (V.alloc zI) w1->Cl 39 #[.agg (bI m.g ra rn rc sa sn sc fa fn fc na nn nc),.func (.func 40) #[] #[pZ (w.heap.size+1)]] w1 (Bo w1 w1.heap.size M er)):=fun w1 b1=>by
  have hsz:w.heap.size+1+1+1<=w1.heap.size:=(by have:=b1.size;rw[hz]at this;exact this);rw[<-hM,<-her];exact K8 (h.below (Below.on b0 b1)) hF (enters_of func40 kR rfl) (gJ (one (Ag m1 b1 (by rw[hz];omega))) oM h16 hs)
 have HM:Hd ((V.alloc zI).heap[w.heap.size]?=some U/\(V.alloc zI).heap[w.heap.size+1+1]?=some zI/\Bw w (V.alloc zI)/\(V.alloc zI).heap.size=w.heap.size+1+1+1/\(V.alloc zI).heap[w.heap.size+1]?=some (oI (g:Int))):=⟨m0,m2,b0,hz,m1⟩;clear h m0 m1 m2 hz b0 hE hs hM her hF h16;dsimp only[V,U]at *;clear V U
 go_enter func18,ntmps18
 go_wp2_with(go_at_call 38;refine ab.mono ?_;rintro e w1 ⟨rfl,b1⟩;have d0:=Ag HM.o.1 b1 (by rw[HM.o.2.2.2.1];omega);have d1:=five d0;have cn:=one (Ag HM.o.2.2.2.2 b1 (by rw[HM.o.2.2.2.1];omega));have ac:=HO.o w1 b1;have HV:Hd (Bw w w1/\w1.heap[w.heap.size+1+1]?=some zI/\w.heap.size+1+1<w1.heap.size):=(⟨Below.on HM.o.2.2.1 b1,Ag HM.o.2.1 b1 (by rw[HM.o.2.2.2.1];omega),by have:=b1.size;rw[HM.o.2.2.2.1]at this;omega⟩);clear b1 d0);refine ac.mono ?_;intro e w3 hA;obtain⟨val,ga,gc,la,lc,oa,oc,ta,tc,rfl,hO,b1,hI⟩:=hA.open;dsimp only;have k3:=Ag HV.o.2.1 b1 HV.o.2.2;have z0:=five k3;have y0:=Aq k3;have HP:Hd (OI w3 w1.heap.size val M):=hO;have HB:Hd (Bw w w3):=Below.on HV.o.1 b1;have HI:Hd (AB M.g val=.agg (aI M ga gc la lc oa oc ta tc)):=hI;clear hO b1 hI ac hA;go_wp2_with fail;have i1:w.heap.size<=w.heap.size+1+1:=oM;have aa:∀a,Af M a->(val a).ownBlock≠some (w.heap.size+1+1):=fun a ha e=>by have:=((HP.o.row a ha).lt _ e).1;have:=HV.o.2.2;omega
 refine AY (v:=.tuple #[.agg (aI M ga gc la lc oa oc ta tc),iI er]) (by simp[results,results18,go_sem,z0]) rfl ⟨val,by rw[HI.o],OI.mono (((((HP.o.far aa).far aa).far aa).far aa).far aa) (by have:=HV.o.2.2;omega),((((HB.o.setCell i1 _).setCell i1 _).setCell i1 _).setCell i1 _).setCell i1 _⟩
def Ft (m:Ac) (g:Int):Int:=if Ao m≠0 then Ao m else if 0<=g/\g<=16 then Ev (E8 m g.toNat) else 3
def Gn (m:Ac) (g:Int):Ac:=if Ao m≠0 then AZ else if 0<=g/\g<=16 then (E8 m g.toNat).getD AZ else AZ
theorem fh (h:Al w v m)(g:Int):Cl 18 #[v,iI g] w (Bo w w.heap.size (Gn m g) (Ft m g)):=by
 have h':=h;obtain⟨ra,rc,sa,sc,fa,fc,na,nc,rfl,_⟩:=h.parts;unfold Gn Ft
 by_cases hl:Ao m=0
 ·have hl0:¬Ao m≠0:=fun x=>x hl
  rw[Aa hl0,Aa hl0]
  by_cases hg:0<=g/\g<=16
  ·rw[Ab hg,Ab hg];obtain⟨j,rfl⟩:=FV hg.1;rw[A5];have aa:j<=16:=oM;have hM:=UK hl aa;exact Uk m ra _ rc sa _ sc fa _ fc na _ nc j w h' (JV (A0 hl)) hl aa _ hM.m _ hM.e
  ·rw[Aa hg,Aa hg]
   by_cases h0:g<0
   ·exact Uj m ra _ rc sa _ sc fa _ fc na _ nc g w h' hl h0
   ·exact Ui m ra _ rc sa _ sc fa _ fc na _ nc g w h' hl oM
 ·rw[Ab hl,Ab hl];exact ff m ra _ rc sa _ sc fa _ fc na _ nc g _ w h' rfl (by simp[hl])
theorem fi (h:Al w v m)(hR:Ao m=0)(g:Int):Cl 18 #[v,iI g] w (Bo w w.heap.size (Gn m g) (Ft m g)):=by
 have h':=h;obtain⟨ra,rc,sa,sc,fa,fc,na,nc,rfl,_⟩:=h.parts;unfold Gn Ft
 by_cases hl:Ao m=0
 ·have hl0:¬Ao m≠0:=fun x=>x hl
  rw[Aa hl0,Aa hl0]
  by_cases hg:0<=g/\g<=16
  ·rw[Ab hg,Ab hg];obtain⟨j,rfl⟩:=FV hg.1;rw[A5];have aa:j<=16:=oM;have hM:=UK hl aa;exact Uk m ra _ rc sa _ sc fa _ fc na _ nc j w h' (JV (A0 hl)) hl aa _ hM.m _ hM.e
  ·rw[Aa hg,Aa hg]
   by_cases h0:g<0
   ·exact Uj m ra _ rc sa _ sc fa _ fc na _ nc g w h' hl h0
   ·exact Ui m ra _ rc sa _ sc fa _ fc na _ nc g w h' hl oM
 ·exact absurd hR hl

def Gk (m:Ac) (n e:Int):Int:=if Br m n=0 then Ev (C8 m n.toNat e) else Br m n
def Ic (m:Ac) (n e:Int):Ac:=if Br m n=0 then (C8 m n.toNat e).getD AZ else AZ
theorem fj (h:Al w v m)(g:Int)(hM:Gn m g=M)(hE:Ft m g=E):Cl 18 #[v,iI g] w (Bo w w.heap.size M E):=by
 subst hM hE;exact fh h g
theorem PE {o:Option Ac}(h:Ev o=0):∃M,o=some M:=by
 cases o with
 | none=>exact absurd h dE
 | some M=>exact⟨M,rfl⟩

def Cp (w:World) (M:Ac) (err:Int) (r:Ending) (w':World):Prop:=∃a0 c0 a1 c1 a2 c2 a3 c3,r=.returned (.tuple #[.agg #[iI M.g,.slice a0 M.r.length c0,.slice a1 M.s.length c1,.slice a2 M.f.length c2,.slice a3 M.p.length c3],iI err])/\(∀W',(∀q,w.heap.size<=q->W'.heap[q]?=w'.heap[q]?)->Al W' (.agg #[iI M.g,.slice a0 M.r.length c0,.slice a1 M.s.length c1,.slice a2 M.f.length c2,.slice a3 M.p.length c3]) M)/\Bw w w'
theorem FK (W:World):Al W (.agg #[iI 0,nl,nl,nl,nl]) AZ:=(OI.zero W 0).img
theorem OX.four' (h:OX W B val m):∃a0 c0 a1 c1 a2 c2 a3 c3,val .r=.slice a0 m.r.length c0/\val .s=.slice a1 m.s.length c1/\val .f=.slice a2 m.f.length c2/\val .p=.slice a3 m.p.length c3:=by
 obtain⟨a0,c0,h0,_⟩:=h.forms .r (Ad.r _);obtain⟨a1,c1,h1,_⟩:=h.forms .s (Ad.s _);obtain⟨a2,c2,h2,_⟩:=h.forms .f (Ad.f _);obtain⟨a3,c3,h3,_⟩:=h.forms .p (Ad.p _);exact⟨a0,c0,a1,c1,a2,c2,a3,c3,h0,h1,h2,h3⟩
theorem OX.five (h:OX W B val m)(hf:∀a,Ad m a->(val a).ownBlock≠some D)(a0 a1 a2 a3 a4:Value):OX (((((W.setCell (aZ D) a0).setCell (aD D 1) a1).setCell (aD D 2) a2).setCell (aD D 3) a3).setCell (aD D 4) a4) B val m:=((((h.far hf).far hf).far hf).far hf).far hf
theorem CP (h:Below B w W)(hD:B<=D)(a0 a1 a2 a3 a4:Value):Below B w (((((W.setCell (aZ D) a0).setCell (aD D 1) a1).setCell (aD D 2) a2).setCell (aD D 3) a3).setCell (aD D 4) a4):=
 ((((h.setCell (p:=(aZ D)) hD _).setCell (p:=(aD D 1)) hD _).setCell (p:=(aD D 2)) hD _).setCell (p:=(aD D 3)) hD _).setCell (p:=(aD D 4)) hD _
theorem Jf (a0 a1 a2 a3 a4:Value)(q:Nat)(hq:q≠D):(((((W.setCell (aZ D) a0).setCell (aD D 1) a1).setCell (aD D 2) a2).setCell (aD D 3) a3).setCell (aD D 4) a4).heap[q]?=W.heap[q]?:=by
 rw[AN _ _ _ q hq,AN _ _ _ q hq,AN _ _ _ q hq,AN _ _ _ q hq,AN _ _ _ q hq]
theorem Mr (ht:m.r.getD k 0=(t:Int)):Li m.s t=Ak m k:=by
 unfold Li Ak;rw[ht]
 by_cases h:t=0
 ·rw[Ab h,Ab oM]
 ·rw[Aa h,Aa oM];unfold AH;rw[A5]
theorem Kb (h:As m=0):As {m with f:=BX m.s} = 0:=by
 obtain⟨z1,z2,z3,z4,z5,z6,z7⟩:=Au h;unfold As;rw[Aa (by show ¬3<m.p.length;omega),Aa (by show ¬AD m.s≠0;simpa using z2),Aa,Aa (by show ¬(BN m).all _=false;rw[z5];decide),Aa (by show ¬Cm m.s=false;rw[z6];decide),Aa (by show ¬(BN m).all _=false;rw[z7];decide)];rintro(x|x)
 ·apply x;show (BX m.s).length=m.s.length;simp[BX]
 ·have:Cr m.p=false:=x;rw[z4]at this;cases this
theorem iY (hC:Ao m=0)(hk:k<m.r.length){es:List Int}(hes:Bp es=0)(hents:∀e∈es,tabE m.s e=true)(hz:Iz m k es)(hnf:¬(BE es=false/\AM m k=40)):As {CM m k es with f:=BX (CM m k es).s} = 0/\∃M,DP m k es=some M/\At M=At (CM m k es):=by
 by_cases hb:BE es=true
 ·have e1:DP m k es=some {m with r:=m.r.set k 0}:=by unfold DP;rw[Ab hb]
  have e2:CM m k es = {m with r:=m.r.set k 0}:=by unfold CM;rw[Ab hb]
  have hL:=(Lk hC hk hes hents hz e1).1.shape;rw[e2];exact⟨Kb hL,_,e1,rfl⟩
 ·have aa:BE es=false:=by simpa using hb
  have e1:DP m k es=some (FQ m k (AM m k) (Bj m k es) (BX (Bj m k es))):=by unfold DP;rw[Aa hb,Aa (fun x=>hnf ⟨aa,x⟩)]
  have e2:CM m k es = {m with r:=m.r.set k (AM m k:Int),s:=Bj m k es}:=by unfold CM;rw[Aa hb]
  have hL:=(Lk hC hk hes hents hz e1).1.shape;rw[e2];exact⟨hL,_,e1,rfl⟩
theorem Ve (m:Ac)(k:Nat)(es:List Int):(CM m k es).g=m.g:=by unfold CM;split<;>rfl
theorem Qx (rb ro:Nat)(rc:Nat)(sa:Option Addr)(sc:Nat)(fa:Option Addr)(fc:Nat)(na:Option Addr)(nc:Nat)(m:Ac)(n:Nat)(e:Int)(w:World)(h:Al w (.agg (aI m (sD rb ro) rc sa sc fa fc na nc)) m)(hrc:∀j,j<m.r.length->w.cell? (aD rb (ro+j))=some (iI (m.r.getD j 0)))(hrl:rb<w.heap.size)(hC:Ao m=0)(hn:(n:Int)<m.g)(x:Int)(hx:(Ak m (n/4)).getD (n%4) 0=x)(MA:Ac)(EA:Int)(hway:Hd ((∃ (hxe:(x == e)=true),m=MA/\0=EA)\/(∃ (hxe:(x == e)=false) (hfull:(BE ((Ak m (n/4)).set (n%4) e)=false/\AM m (n/4)=40)),AZ=MA/\7=EA)\/(∃ (hxe:(x == e)=false) (hnf:¬(BE ((Ak m (n/4)).set (n%4) e)=false/\AM m (n/4)=40)) (TM:Ac) (hTM:CM m (n/4) ((Ak m (n/4)).set (n%4) e)=TM) (hSh:As {TM with f:=BX TM.s} = 0),(At TM)=MA/\0=EA))):Cl 134 #[.agg (aI m (sD rb ro) rc sa sc fa fc na nc),iI (n:Int),iI e] w (Cp w MA EA):=by
 let V:=((w.alloc (cA m (sD rb ro) rc sa sc fa fc na nc)).alloc zI)
 have b0:Bw w V:=(Av).alloc (by simp[V]) _;have m0:V.heap[w.heap.size]?=some (cA m (sD rb ro) rc sa sc fa fc na nc):=Aj (Aw _ _) _;have m1:V.heap[w.heap.size+1]?=some zI:=by have:=C2 (w.alloc (cA m (sD rb ro) rc sa sc fa fc na nc)) zI;simpa[V] using this
 have hsz:w.heap.size+1<V.heap.size:=by simp[V]
 have hs:=A0 hC;have aU:=Dg hs;have hrt:=CQ hs;have hr:n/4<m.r.length:=oM;obtain⟨t,ht,ar⟩:=Js hs hr;have I0:=h.below b0;have af:=J6 I0 hs;have hlen:(Ak m (n/4)).length=4:=Dv (ET hs hr).1;have e4:((n/4:Nat):Int)=(n:Int)/4:=oM;have bf:((n:Int)/4).toNat=n/4:=oM;have bg:((n:Int)%4).toNat=n%4:=oM;have bh:(n:Int)/4<(m.r.length:Int):=oM;have h4:n%4<4:=oM;have bd:(n:Int)%4<4:=oM;have bc:n<16:=oM;have ba:¬(n:Int)/4<0:=oM;have bb:¬(n:Int)%4<0:=oM;have aX:0<=(n:Int)/4:=oM;have aY:0<=(n:Int)%4:=oM;have HR:Hd (V.cell? (aD rb (ro+n/4))=some (iI (t:Int))/\rb<V.heap.size):=⟨by rw[<-ht];exact(b0.cell (p:=(aD rb (ro+n/4))) hrl).trans (hrc (n/4) hr),AO hrl b0.size⟩;have HT:Hd (∀W,Below V.heap.size V W->Cl 130 #[.agg (aI m (sD rb ro) rc sa sc fa fc na nc),iI (t:Int)] W fun r w'=>∃g cap,r=.returned (lZ g 4 cap)/\w'.ownsRow W.heap.size 3 1 (lZ g 4 cap) 4 (Ae (Ak m (n/4)))/\W.heap.size<=g/\Bw W w'):=fun W hW=>by
  have e:=Mr ht;refine(Mv (I0.below hW) ar (by rw[e,hlen];decide)).mono ?_;rintro r w' ⟨v,rfl,h1,h2,h3⟩;rw[e,hlen]at h1;obtain⟨g,cap,rfl⟩:=Eo h1;exact⟨g,cap,rfl,h1,h2 g rfl,h3⟩
 have ax:Hd (m.r.getD (n/4) 0=(t:Int)):=ht;have ah:Hd (m.f.length=m.s.length/\m.s.length<=40):=⟨(Au hs).2.2.1,(A4 (Au hs).2.1).2⟩;have ay:Hd ((Ak m (n/4)).length=4):=hlen;clear h I0 hrt aU hs hC hn ht;dsimp only[V]at *;clear V
 go_enter func134,ntmps134
 obtain⟨c0,c1,c2,c3,c4⟩:=five m0;go_wp2_with(go_at_call 126;refine af.mono ?_;rintro e1 w1 ⟨val,rfl,hO,b1⟩;obtain⟨p0,q0,p1,q1,p2,q2,p3,q3,x0,x1,x2,x3⟩:=hO.four';unfold AB;rw[x0,x1,x2,x3]);clear c0 c1 c2 c3 c4;have n0:=Aj (Ag m0 b1 oM) (cA m p0 q0 p1 q1 p2 q2 p3 q3);have n1:=Aj (Ag m1 b1 hsz) (cA m p0 q0 p1 q1 p2 q2 p3 q3);have nD:(w1.alloc (cA m p0 q0 p1 q1 p2 q2 p3 q3)).heap[w1.heap.size]?=some (cA m p0 q0 p1 q1 p2 q2 p3 q3):=Aw _ _;have ae:Below ((w.alloc (cA m (sD rb ro) rc sa sc fa fc na nc)).alloc zI).heap.size ((w.alloc (cA m (sD rb ro) rc sa sc fa fc na nc)).alloc zI) (w1.alloc (cA m p0 q0 p1 q1 p2 q2 p3 q3)):=b1.alloc b1.size _;have cR:=(ae.cell (p:=(aD rb (ro+n/4))) HR.o.2).trans HR.o.1;have aV:=b1.size;refine BT (S:=(fun X:World=>X.heap[w.heap.size]?=some (cA m (sD rb ro) rc sa sc fa fc na nc)/\X.cell? (aD rb (ro+n/4))=some (iI (t:Int)))) kR ⟨n0,cR⟩ (fun hHeld=>?_);refine BD 0 (.agg (aI m (sD rb ro) rc sa sc fa fc na nc)) ?_;refine BD 1 (pQ w.heap.size 1) ?_;refine BD 2 (lD rb ro m.r.length rc) ?_;refine BD 3 (iI ((n:Int)/4)) ?_;refine BD 4 (pQ rb (ro+n/4)) ?_;refine BD 5 (iI (t:Int)) ?_;simp only[lays];refine AC 6 rfl (fun K hK=>?_);clear hHeld;simp only[lays];rw[Ab (by rfl)];go_wp2_with(go_at_call 130;refine(HT.o _ (Cg ae)).mono ?_;rintro e2 w3 ⟨g,cap,rfl,ad,a7,b3⟩);have aa:Below (w1.alloc (cA m p0 q0 p1 q1 p2 q2 p3 q3)).heap.size (w1.alloc (cA m p0 q0 p1 q1 p2 q2 p3 q3)) w3:=BR b3;have aS:w1.heap.size+1<=g:=by have:(w1.alloc (cA m p0 q0 p1 q1 p2 q2 p3 q3)).heap.size<=g:=a7;simpa using this
 have bi:(w1.alloc (cA m p0 q0 p1 q1 p2 q2 p3 q3)).heap.size=w1.heap.size+1:=by simp
 have k0:=Ag n0 aa oM;have k1:=Ag n1 aa oM;have kD:=Ag nD aa oM;have az:=(aa.cell (p:=(aD rb (ro+n/4))) (by have:=HR.o.2;show rb<_;omega)).trans cR;have a6:OX w3 ((w.alloc (cA m (sD rb ro) rc sa sc fa fc na nc)).alloc zI).heap.size val m:=(hO.alloc _).below aa;refine hK.out _ _ ⟨k0,az⟩ (fun hHeld=>?_);clear hK K;try simp only[lays]
 refine Ar 7 (lZ g 4 cap) ?_;simp only[lays];clear hHeld;refine BQ kR ?_ _;have ad:w3.ownsRow (w1.heap.size+1) 3 1 (lZ g 4 cap) 4 (Ae (Ak m (n/4))):=CL ad (by show w1.heap.size+1<=(w1.alloc (cA m p0 q0 p1 q1 p2 q2 p3 q3)).heap.size;omega);have be:w3.cell? (aD g (n%4))=some (iI x):=by
  refine(ad.cellAt (n%4) oM).trans ?_;unfold Ae;rw[Dm,Co (by rw[hlen];exact h4),<-hx];simp[List.getD,hlen,h4]
 obtain⟨c0,c1,c2,c3,c4⟩:=five k0;have d0:=five kD;have z0:=five k1;have y0:=Aq k1;have HO:Hd (OX w3 ((w.alloc (cA m (sD rb ro) rc sa sc fa fc na nc)).alloc zI).heap.size val m/\Below ((w.alloc (cA m (sD rb ro) rc sa sc fa fc na nc)).alloc zI).heap.size ((w.alloc (cA m (sD rb ro) rc sa sc fa fc na nc)).alloc zI) w3/\w3.heap[w.heap.size+1]?=some zI/\w3.heap[w1.heap.size]?=some (cA m p0 q0 p1 q1 p2 q2 p3 q3)/\w1.heap.size+1<=w3.heap.size/\((w.alloc (cA m (sD rb ro) rc sa sc fa fc na nc)).alloc zI).heap.size<=w1.heap.size):=⟨a6,ae.trans (aa.mono oM),k1,kD,by have:=aa.size;omega,aV⟩;have aQ:=ad.frozenAt (n%4);have HE:Hd (w3.ownsRow (w1.heap.size+1) 3 1 (lZ g 4 cap) 4 (Ae (Ak m (n/4)))):=ad;have HX:Hd (val .r=.slice p0 m.r.length q0/\val .s=.slice p1 m.s.length q1/\val .f=.slice p2 m.f.length q2/\val .p=.slice p3 m.p.length q3):=⟨x0,x1,x2,x3⟩;have ac:Hd (∀a,Ad m a->∀q,(val a).ownBlock=some q->q<w1.heap.size):=fun a ha q hq=>((hO.row a ha).lt q hq).2
 have HB:Hd (Bw w w3):=b0.trans ((ae.trans (aa.mono oM)).mono oM);clear ad a6 hO af b1 b3 aa ae cR az k0 k1 kD n0 n1 nD m0 m1 HT HR a7 b0 x0 x1 x2 x3 hlen hx;rcases hway.o with⟨hxe,hMA,hEA⟩|⟨hxe,hfull,hMA,hEA⟩|⟨hxe,hnf,TM,hTM,hSh,hMA,hEA⟩
 ·clear hway;subst hEA;subst hMA;go_wp2_with fail;have ap:∀a,Ad m a->(val a).ownBlock≠some (w.heap.size+1):=fun a ha e=>by
   have:=((HO.o.1.row a ha).lt _ e).1;omega
  have hI:=fun a0 a1 a2 a3 a4=>HO.o.1.five ap a0 a1 a2 a3 a4
  have eI:AB m.g val=.agg (aI m p0 q0 p1 q1 p2 q2 p3 q3):=by unfold AB;rw[HX.o.1,HX.o.2.1,HX.o.2.2.1,HX.o.2.2.2]
  refine AY (v:=.tuple #[.agg (aI m p0 q0 p1 q1 p2 q2 p3 q3),iI 0]) (by simp[results,results134,go_sem,z0]) rfl ⟨p0,q0,p1,q1,p2,q2,p3,q3,rfl,fun W' hW=>(by have:=((hI _ _ _ _ _).keep (fun q hq _=>hW q oM)).img;rw[eI]at this;exact this),CP HB.o (Cw _) _ _ _ _ _⟩
 ·clear hway;subst hEA;subst hMA;have ab:g≠w1.heap.size:=oM;have hgr:g≠w.heap.size+1:=by have:=HO.o.2.2.2.2.2;omega
  have aT:g<w3.heap.size:=(HE.o.lt g rfl).2;have av:=Bt HO.o.2.2.2.1 (show w1.heap.size≠g from fun x=>ab x.symm) (n%4) (iI e);have au:=Bt HO.o.2.2.1 (show w.heap.size+1≠g from fun x=>hgr x.symm) (n%4) (iI e);have al:OX (w3.setCell (aD g (n%4)) (iI e)) ((w.alloc (cA m (sD rb ro) rc sa sc fa fc na nc)).alloc zI).heap.size val m:=HO.o.1.far (fun a ha x=>by have:=ac.o a ha g x;omega);have aq:(w3.setCell (aD g (n%4)) (iI e)).heap.size=w3.heap.size:=by simp
  have ao:(w3.setCell (aD g (n%4)) (iI e)).ownsRow ((w.alloc (cA m (sD rb ro) rc sa sc fa fc na nc)).alloc zI).heap.size 3 1 (lZ g 4 cap) ((Ak m (n/4)).set (n%4) e).length (Ae ((Ak m (n/4)).set (n%4) e)):=by
   have h1:=(HE.o.stored (n%4) (iI e)).1;rw[<-Jh]at h1;have h2:=CL h1 (B':=((w.alloc (cA m (sD rb ro) rc sa sc fa fc na nc)).alloc zI).heap.size) (by have:=HO.o.2.2.2.2.2;omega);rw[Bi,ay.o];exact h2
  have HK:Hd (Cl 133 #[.agg (aI m p0 q0 p1 q1 p2 q2 p3 q3),iI ((n:Int)/4),lZ g 4 cap] (w3.setCell (aD g (n%4)) (iI e)) (fun r w'=>∃g0 a0 b0 c0 a1 b1 c1 a2 b2 c2 a3 b3 c3,r=.returned (.tuple #[.agg (bI g0 a0 b0 c0 a1 b1 c1 a2 b2 c2 a3 b3 c3),.bool false])/\Below ((w.alloc (cA m (sD rb ro) rc sa sc fa fc na nc)).alloc zI).heap.size (w3.setCell (aD g (n%4)) (iI e)) w'/\BC (w3.setCell (aD g (n%4)) (iI e)) w' m val)):=by
   have hc:=Ok m.g (k:=n/4) al (by have:=HO.o.2.1.size;omega) hr ax.o ar ao (fun a b hb _ q hq x=>by have:=ac.o b hb q x;have hq:g=q:=BJ hq;omega) ah.o.1 ah.o.2;rw[e4]at hc;unfold AB at hc;rw[HX.o.1,HX.o.2.1,HX.o.2.2.1,HX.o.2.2.2]at hc;exact hc.mono (fun r w' hh=>by rcases hh with⟨_,_,⟨v,⟨g0,a0,b0,c0,a1,b1,c1,a2,b2,c2,a3,b3,c3,rfl⟩,rfl⟩,h1,h2⟩|⟨hno,_⟩;(exact⟨g0,a0,b0,c0,a1,b1,c1,a2,b2,c2,a3,b3,c3,rfl,h1,h2⟩);exact absurd hfull hno)
  have aW:¬w1.heap.size=w.heap.size+1:=by have:=HO.o.2.2.2.2.2;omega
  have aA:¬w.heap.size+1=w1.heap.size:=oM;have aJ:¬g=w1.heap.size:=ab;have aK:¬w1.heap.size=g:=fun x=>ab x.symm
  have aL:¬g=w.heap.size+1:=hgr;have aM:¬w.heap.size+1=g:=fun x=>hgr x.symm
  go_wp2_with(go_at_call 133;refine HK.o.mono ?_;rintro e2 w5 ⟨g0,a0,r0,c0,a1,r1,c1,a2,r2,c2,a3,r3,c3,rfl,b5,k5⟩;have ag:=(k5 w1.heap.size (by have:=HO.o.2.2.2.2.1;omega) (fun a ha x=>by have:=ac.o a ha _ x;omega)).trans av;have ai:=(k5 (w.heap.size+1) (by have:=HO.o.2.2.2.2.1;have:=HO.o.2.2.2.2.2;omega) (fun a ha x=>by have:=((HO.o.1.row a ha).lt _ x).1;omega)).trans au;have f0:=five ag;have aH:=Aq ag;have z0:=five ai;have y0:=Aq ai);have ak:Bw w w5:=(HB.o.setCell (p:=(aD g (n%4))) (show w.heap.size<=g by have:=HO.o.2.2.2.2.2;omega) _).trans (b5.mono oM);refine AY (v:=.tuple #[.agg #[iI 0,nl,nl,nl,nl],iI 7]) (by simp[results,results134,go_sem,z0]) rfl ⟨none,0,none,0,none,0,none,0,rfl,fun W' _=>FK W',CP (CP ak (show w.heap.size<=w1.heap.size by have:=HO.o.2.2.2.2.2;omega) _ _ _ _ _) (Cw _) _ _ _ _ _⟩
 ·clear hway;subst hEA;subst hMA;have aF:Hd (CM m (n/4) ((Ak m (n/4)).set (n%4) e)=TM):=hTM;have aE:Hd (As {TM with f:=BX TM.s} = 0):=hSh;have aw:Hd (TM.g=m.g):=by show TM.g=m.g;rw[<-hTM];exact Ve _ _ _
  clear hTM hSh;have ab:g≠w1.heap.size:=oM;have hgr:g≠w.heap.size+1:=by have:=HO.o.2.2.2.2.2;omega
  have aT:g<w3.heap.size:=(HE.o.lt g rfl).2;have av:=Bt HO.o.2.2.2.1 (show w1.heap.size≠g from fun x=>ab x.symm) (n%4) (iI e);have au:=Bt HO.o.2.2.1 (show w.heap.size+1≠g from fun x=>hgr x.symm) (n%4) (iI e);have al:OX (w3.setCell (aD g (n%4)) (iI e)) ((w.alloc (cA m (sD rb ro) rc sa sc fa fc na nc)).alloc zI).heap.size val m:=HO.o.1.far (fun a ha x=>by have:=ac.o a ha g x;omega);have aq:(w3.setCell (aD g (n%4)) (iI e)).heap.size=w3.heap.size:=by simp
  have ao:(w3.setCell (aD g (n%4)) (iI e)).ownsRow ((w.alloc (cA m (sD rb ro) rc sa sc fa fc na nc)).alloc zI).heap.size 3 1 (lZ g 4 cap) ((Ak m (n/4)).set (n%4) e).length (Ae ((Ak m (n/4)).set (n%4) e)):=by
   have h1:=(HE.o.stored (n%4) (iI e)).1;rw[<-Jh]at h1;have h2:=CL h1 (B':=((w.alloc (cA m (sD rb ro) rc sa sc fa fc na nc)).alloc zI).heap.size) (by have:=HO.o.2.2.2.2.2;omega);rw[Bi,ay.o];exact h2
  have HK:Hd (Cl 133 #[.agg (aI m p0 q0 p1 q1 p2 q2 p3 q3),iI ((n:Int)/4),lZ g 4 cap] (w3.setCell (aD g (n%4)) (iI e)) (fun r w'=>∃val',r=.returned (.tuple #[AB m.g val',.bool true])/\OX w' ((w.alloc (cA m (sD rb ro) rc sa sc fa fc na nc)).alloc zI).heap.size val' TM/\Below ((w.alloc (cA m (sD rb ro) rc sa sc fa fc na nc)).alloc zI).heap.size (w3.setCell (aD g (n%4)) (iI e)) w'/\BC (w3.setCell (aD g (n%4)) (iI e)) w' m val/\DB (w3.setCell (aD g (n%4)) (iI e)) m val (lZ g 4 cap) TM val')):=by
   have hc:=Ok m.g (k:=n/4) al (by have:=HO.o.2.1.size;omega) hr ax.o ar ao (fun a b hb _ q hq x=>by have:=ac.o b hb q x;have hq:g=q:=BJ hq;omega) ah.o.1 ah.o.2;rw[e4]at hc;unfold AB at hc;rw[HX.o.1,HX.o.2.1,HX.o.2.2.1,HX.o.2.2.2]at hc;exact hc.mono (fun r w' hh=>by rw[aF.o]at hh;rcases hh with⟨h1,h2,_⟩|⟨_,hok⟩;(exact absurd ⟨h1,h2⟩ hnf);exact hok)
  have aW:¬w1.heap.size=w.heap.size+1:=by have:=HO.o.2.2.2.2.2;omega
  have aA:¬w.heap.size+1=w1.heap.size:=oM;have aJ:¬g=w1.heap.size:=ab;have aK:¬w1.heap.size=g:=fun x=>ab x.symm
  have aL:¬g=w.heap.size+1:=hgr;have aM:¬w.heap.size+1=g:=fun x=>hgr x.symm
  go_wp2_with(first
   | (go_at_call 127;refine(aB.o _ _ _ _ _).mono ?_;rintro e3 w7 ⟨val2,rfl,an,b7,k7,s7⟩;obtain⟨u0,v0,u1,v1,u2,v2,u3,v3,j0,j1,j2,j3⟩:=an.four';have a8:=(k7 (w.heap.size+1) (by simp;have:=aG.o;omega) (fun a ha x=>by have:=((aC.o.row a ha).lt _ x).1;omega)).trans ((Jf _ _ _ _ _ _ aA).trans aj.o);have z0:=five a8;have y0:=Aq a8;unfold AB;rw[j0,j1,j2,j3])
   | (go_at_call 133;refine HK.o.mono ?_;rintro e2 w5 ⟨val1,rfl,am,b5,k5,s5⟩;obtain⟨a0,c0,a1,c1,a2,c2,a3,c3,i0,i1,i2,i3⟩:=am.four';have ag:=(k5 w1.heap.size (by have:=HO.o.2.2.2.2.1;omega) (fun a ha x=>by have:=ac.o a ha _ x;omega)).trans av;have ai:=(k5 (w.heap.size+1) (by have:=HO.o.2.2.2.2.1;have:=HO.o.2.2.2.2.2;omega) (fun a ha x=>by have:=((HO.o.1.row a ha).lt _ x).1;omega)).trans au;have f0:=five ag;have aH:=Aq ag;have aj:Hd (w5.heap[w.heap.size+1]?=some zI):=ai;have aC:Hd (OX w5 ((w.alloc (cA m (sD rb ro) rc sa sc fa fc na nc)).alloc zI).heap.size val1 TM):=am;have bj:=b5.size;have aG:Hd (w.heap.size+1<w5.heap.size):=(by have:=HO.o.2.2.2.2.1;have:=HO.o.2.2.2.2.2;show w.heap.size+1<w5.heap.size;omega);have aR:∀a,Ad TM a->(val1 a).ownBlock≠some w1.heap.size:=s5 w1.heap.size (by have:=HO.o.2.2.2.2.1;omega) (fun x=>ab (BJ x)) (fun b hb x=>by have:=ac.o b hb _ x;omega);have aB:Hd (∀x0 x1 x2 x3 x4,Cl 127 #[.agg (bI m.g a0 TM.r.length c0 a1 TM.s.length c1 a2 TM.f.length c2 a3 TM.p.length c3)] (((((w5.setCell (aZ w1.heap.size) x0).setCell (aD w1.heap.size 1) x1).setCell (aD w1.heap.size 2) x2).setCell (aD w1.heap.size 3) x3).setCell (aD w1.heap.size 4) x4) fun r w'=>∃val',r=.returned (AB m.g val')/\OX w' ((w.alloc (cA m (sD rb ro) rc sa sc fa fc na nc)).alloc zI).heap.size val' (At TM)/\Below ((w.alloc (cA m (sD rb ro) rc sa sc fa fc na nc)).alloc zI).heap.size (((((w5.setCell (aZ w1.heap.size) x0).setCell (aD w1.heap.size 1) x1).setCell (aD w1.heap.size 2) x2).setCell (aD w1.heap.size 3) x3).setCell (aD w1.heap.size 4) x4) w'/\BC (((((w5.setCell (aZ w1.heap.size) x0).setCell (aD w1.heap.size 1) x1).setCell (aD w1.heap.size 2) x2).setCell (aD w1.heap.size 3) x3).setCell (aD w1.heap.size 4) x4) w' TM val1/\DB (((((w5.setCell (aZ w1.heap.size) x0).setCell (aD w1.heap.size 1) x1).setCell (aD w1.heap.size 2) x2).setCell (aD w1.heap.size 3) x3).setCell (aD w1.heap.size 4) x4) TM val1 (nl) (At TM) val'):=(fun x0 x1 x2 x3 x4=>by have hc:=KC (am.five aR x0 x1 x2 x3 x4) (by simp;have:=HO.o.2.1.size;omega) aE.o;rw[aw.o]at hc;unfold AB at hc;rw[i0,i1,i2,i3]at hc;exact hc);unfold AB;rw[i0,i1,i2,i3]))
  have ap:∀a,Ad (At TM) a->(val2 a).ownBlock≠some (w.heap.size+1):=fun a ha x=>by
   have:=((an.row a ha).lt _ x).1;omega
  have hI:=fun x0 x1 x2 x3 x4=>an.five ap x0 x1 x2 x3 x4
  have eG:(At TM).g=m.g:=aw.o;have eI:AB (At TM).g val2=.agg #[iI m.g,.slice u0 (At TM).r.length v0,.slice u1 (At TM).s.length v1,.slice u2 (At TM).f.length v2,.slice u3 (At TM).p.length v3]:=by unfold AB;rw[j0,j1,j2,j3,eG]
  have ak:Bw w w5:=(HB.o.setCell (p:=(aD g (n%4))) (show w.heap.size<=g by have:=HO.o.2.2.2.2.2;omega) _).trans (b5.mono oM);have aP:w.heap.size<=w1.heap.size:=by have:=HO.o.2.2.2.2.2;omega
  have aN:=fun x0 x1 x2 x3 x4=>CP ak aP x0 x1 x2 x3 x4
  have aO:Bw w w7:=(aN _ _ _ _ _).trans (b7.mono oM);refine AY (v:=.tuple #[.agg #[iI m.g,.slice u0 (At TM).r.length v0,.slice u1 (At TM).s.length v1,.slice u2 (At TM).f.length v2,.slice u3 (At TM).p.length v3],iI 0]) (by simp[results,results134,go_sem,z0]) rfl ⟨u0,v0,u1,v1,u2,v2,u3,v3,by rw[eG],fun W' hW=>(by have:=((hI _ _ _ _ _).keep (fun q hq _=>hW q oM)).img;rw[eI]at this;rw[eG];exact this),CP aO (Cw _) _ _ _ _ _⟩
theorem Ue (h:Al w v m)(hC:Ao m=0)(hn:(n:Int)<m.g){e:Int}(he:e=0\/e = -1):Cl 134 #[v,iI (n:Int),iI e] w (Cp w ((C8 m n e).getD AZ) (Ev (C8 m n e))):=by
 have h':=h;obtain⟨ra,rc,sa,sc,fa,fc,na,nc,rfl,_⟩:=h.parts;have hs:=A0 hC;have ag:=Dg hs;have hrt:=CQ hs;have hr:n/4<m.r.length:=oM;obtain⟨ao,cap,ev,_,_,aa⟩:=h'.four.1;obtain⟨rb,ro,rfl,hrl,hrc⟩:=aa (by intro x;rw[x]at hr;simp at hr);simp only[BP]at ev;obtain⟨rfl,_,rfl⟩:=ev
 by_cases hx:(Ak m (n/4)).getD (n%4) 0=e
 ·have e1:C8 m n e=some m:=by unfold C8;rw[Ab hx]
  rw[e1];exact Qx rb ro _ sa sc fa fc na nc m n e w h' hrc hrl hC hn _ rfl _ _ (.inl ⟨DH.2 hx,rfl,rfl⟩)
 ·obtain⟨af,ac⟩:=ET hs hr;have hes:Bp ((Ak m (n/4)).set (n%4) e)=0:=Jt af (by rcases he with rfl|rfl<;>rfl);have ab:∀x∈(Ak m (n/4)).set (n%4) e,tabE m.s x=true:=fun x hx=>by
   rcases KX hx with hx|rfl
   ·exact ac x hx
   ·rcases he with rfl|rfl<;>rfl
  have hz:=Mw (Lj hs _) hn rfl hrt.1 e
  by_cases hf:(BE ((Ak m (n/4)).set (n%4) e)=false/\AM m (n/4)=40)
  ·have e1:C8 m n e=none:=by unfold C8 DP;rw[Aa hx,Aa (by rw[hf.1];decide),Ab hf.2];rfl
   rw[e1];exact Qx rb ro _ sa sc fa fc na nc m n e w h' hrc hrl hC hn _ rfl _ _ (.inr (.inl ⟨FA.2 hx,hf,rfl,rfl⟩))
  ·obtain⟨ae,M,hM,ad⟩:=iY hC hr hes ab hz hf;have e1:C8 m n e=some (At (CM m (n/4) ((Ak m (n/4)).set (n%4) e))):=by unfold C8;rw[Aa hx,hM,It,ad]
   rw[e1];exact Qx rb ro _ sa sc fa fc na nc m n e w h' hrc hrl hC hn _ rfl _ _ (.inr (.inr (⟨FA.2 hx,hf,_,rfl,ae,rfl,rfl⟩)))
theorem jK (ra:Option Addr)(rc:Nat)(sa:Option Addr)(sc:Nat)(fa:Option Addr)(fc:Nat)(na:Option Addr)(nc:Nat)(m:Ac)(n:Int)(w:World)(h:Al w (.agg (aI m ra rc sa sc fa fc na nc)) m)(E:Int)(hE:Br m n=E)(hne:(E != 0)=true):Cl 73 #[.agg (aI m ra rc sa sc fa fc na nc),iI n] w (Cp w AZ E):=by
 let V:=(w.alloc (cA m ra rc sa sc fa fc na nc))
 have b0:Bw w (V.alloc zI):=(Av).alloc (by simp[V]) _;have m0:(V.alloc zI).heap[w.heap.size]?=some (cA m ra rc sa sc fa fc na nc):=Aj (Aw _ _) _;have m1:(V.alloc zI).heap[w.heap.size+1]?=some zI:=AR (by simp[V]);have hsz:w.heap.size+1<(V.alloc zI).heap.size:=by simp[V]
 have c0:=five m0;have hlk:=Jk (h.below b0) n hE;clear h hE;dsimp only[V]at *;clear V
 go_enter func73,ntmps73
 go_wp2_with(go_at_call 33;refine hlk.mono ?_;rintro e1 w1 ⟨rfl,b1⟩;have n0:=Ag m0 b1 oM;have n1:=Ag m1 b1 hsz;have d0:=five n0;have z0:=five n1;have y0:=Aq n1);refine AY (v:=.tuple #[.agg #[iI 0,nl,nl,nl,nl],iI E]) (by simp[results,results73,go_sem,z0]) rfl ⟨none,0,none,0,none,0,none,0,rfl,fun W' _=>FK W',CP (Below.on b0 b1) (Cw _) _ _ _ _ _⟩
theorem jM (ra:Option Addr)(rc:Nat)(sa:Option Addr)(sc:Nat)(fa:Option Addr)(fc:Nat)(na:Option Addr)(nc:Nat)(m:Ac)(n:Nat)(w:World)(h:Al w (.agg (aI m ra rc sa sc fa fc na nc)) m)(hE:Br m (n:Int)=0)(M:Ac)(E:Int)(hM:(C8 m n (-1)).getD AZ=M)(hEr:Ev (C8 m n (-1))=E):Cl 73 #[.agg (aI m ra rc sa sc fa fc na nc),iI (n:Int)] w (Cp w M E):=by
 let V:=((w.alloc (cA m ra rc sa sc fa fc na nc)).alloc zI)
 have b0:Bw w V:=(Av).alloc (by simp[V]) _;have m0:V.heap[w.heap.size]?=some (cA m ra rc sa sc fa fc na nc):=Aj (Aw _ _) _;have m1:V.heap[w.heap.size+1]?=some zI:=AR (by simp[V]);have hsz:w.heap.size+1<V.heap.size:=by simp[V]
 have c0:=five m0;have hlk:=Jk (h.below b0) (n:Int) hE;have HP:Hd (∀w1,Below V.heap.size V w1->Cl 134 #[.agg (aI m ra rc sa sc fa fc na nc),iI (n:Int),iI (-1)] w1 (Cp w1 M E)):=fun w1 b1=>by
  have hl:=Ge hE;rw[<-hM,<-hEr];exact Ue ((h.below b0).below b1) hl.1 hl.2.2 dE
 clear h hE hM hEr;dsimp only[V]at *;clear V
 go_enter func73,ntmps73
 go_wp2_with(first
  | (go_at_call 134;refine(HP.o w1 b1).mono ?_;rintro e2 w2 ⟨a0,r0,a1,r1,a2,r2,a3,r3,rfl,ab,b2⟩;have aa:=Ag n1 b2 (by have:=b1.size;omega);have z0:=five aa;have y0:=Aq aa)
  | (go_at_call 33;refine hlk.mono ?_;rintro e1 w1 ⟨rfl,b1⟩;have n0:=Ag m0 b1 oM;have n1:=Ag m1 b1 hsz;have d0:=five n0;have z0:=five n1;have y0:=Aq n1))
 have ac:=b1.size;refine AY (v:=.tuple #[.agg (aI M a0 r0 a1 r1 a2 r2 a3 r3),iI E]) (by simp[results,results73,go_sem,z0]) rfl ⟨a0,r0,a1,r1,a2,r2,a3,r3,rfl,fun W' hW=>ab W' (fun q hq=>(hW q oM).trans (Jf _ _ _ _ _ q oM)),CP (Below.on (Below.on b0 b1) b2) (Cw _) _ _ _ _ _⟩
theorem jL (h:Al w v m)(n:Int)(hM:Ic m n (-1)=M)(hE:Gk m n (-1)=E):Cl 73 #[v,iI n] w (Cp w M E):=by
 have h':=h;obtain⟨ra,rc,sa,sc,fa,fc,na,nc,rfl,_⟩:=h.parts;subst hM hE;unfold Ic Gk
 by_cases hl:Br m n=0
 ·rw[Ab hl,Ab hl];obtain⟨k,rfl⟩:=FV (Ge hl).2.1;exact jM ra rc sa sc fa fc na nc m k w h' hl _ _ rfl rfl
 ·rw[Aa hl,Aa hl];exact jK ra rc sa sc fa fc na nc m n w h' _ rfl (by simpa using hl)
theorem eo (ra:Option Addr)(rc:Nat)(sa:Option Addr)(sc:Nat)(fa:Option Addr)(fc:Nat)(na:Option Addr)(nc:Nat)(m:Ac)(n:Int)(w:World)(h:Al w (.agg (aI m ra rc sa sc fa fc na nc)) m)(E:Int)(hE:Br m n=E)(hne:(E != 0)=true):Cl 74 #[.agg (aI m ra rc sa sc fa fc na nc),iI n] w (Cp w AZ E):=by
 let V:=(w.alloc (cA m ra rc sa sc fa fc na nc))
 have b0:Bw w (V.alloc zI):=(Av).alloc (by simp[V]) _;have m0:(V.alloc zI).heap[w.heap.size]?=some (cA m ra rc sa sc fa fc na nc):=Aj (Aw _ _) _;have m1:(V.alloc zI).heap[w.heap.size+1]?=some zI:=AR (by simp[V]);have hsz:w.heap.size+1<(V.alloc zI).heap.size:=by simp[V]
 have c0:=five m0;have hlk:=Jk (h.below b0) n hE;clear h hE;dsimp only[V]at *;clear V
 go_enter func74,ntmps74
 go_wp2_with(go_at_call 33;refine hlk.mono ?_;rintro e1 w1 ⟨rfl,b1⟩;have n0:=Ag m0 b1 oM;have n1:=Ag m1 b1 hsz;have d0:=five n0;have z0:=five n1;have y0:=Aq n1);refine AY (v:=.tuple #[.agg #[iI 0,nl,nl,nl,nl],iI E]) (by simp[results,results74,go_sem,z0]) rfl ⟨none,0,none,0,none,0,none,0,rfl,fun W' _=>FK W',CP (Below.on b0 b1) (Cw _) _ _ _ _ _⟩
theorem ew (ra:Option Addr)(rc:Nat)(sa:Option Addr)(sc:Nat)(fa:Option Addr)(fc:Nat)(na:Option Addr)(nc:Nat)(m:Ac)(n:Nat)(w:World)(h:Al w (.agg (aI m ra rc sa sc fa fc na nc)) m)(hE:Br m (n:Int)=0)(M:Ac)(E:Int)(hM:(C8 m n 0).getD AZ=M)(hEr:Ev (C8 m n 0)=E):Cl 74 #[.agg (aI m ra rc sa sc fa fc na nc),iI (n:Int)] w (Cp w M E):=by
 let V:=((w.alloc (cA m ra rc sa sc fa fc na nc)).alloc zI)
 have b0:Bw w V:=(Av).alloc (by simp[V]) _;have m0:V.heap[w.heap.size]?=some (cA m ra rc sa sc fa fc na nc):=Aj (Aw _ _) _;have m1:V.heap[w.heap.size+1]?=some zI:=AR (by simp[V]);have hsz:w.heap.size+1<V.heap.size:=by simp[V]
 have c0:=five m0;have hlk:=Jk (h.below b0) (n:Int) hE;have HP:Hd (∀w1,Below V.heap.size V w1->Cl 134 #[.agg (aI m ra rc sa sc fa fc na nc),iI (n:Int),iI 0] w1 (Cp w1 M E)):=fun w1 b1=>by
  have hl:=Ge hE;rw[<-hM,<-hEr];exact Ue ((h.below b0).below b1) hl.1 hl.2.2 dE
 clear h hE hM hEr;dsimp only[V]at *;clear V
 go_enter func74,ntmps74
 go_wp2_with(first
  | (go_at_call 134;refine(HP.o w1 b1).mono ?_;rintro e2 w2 ⟨a0,r0,a1,r1,a2,r2,a3,r3,rfl,ab,b2⟩;have aa:=Ag n1 b2 (by have:=b1.size;omega);have z0:=five aa;have y0:=Aq aa)
  | (go_at_call 33;refine hlk.mono ?_;rintro e1 w1 ⟨rfl,b1⟩;have n0:=Ag m0 b1 oM;have n1:=Ag m1 b1 hsz;have d0:=five n0;have z0:=five n1;have y0:=Aq n1))
 have ac:=b1.size;refine AY (v:=.tuple #[.agg (aI M a0 r0 a1 r1 a2 r2 a3 r3),iI E]) (by simp[results,results74,go_sem,z0]) rfl ⟨a0,r0,a1,r1,a2,r2,a3,r3,rfl,fun W' hW=>ab W' (fun q hq=>(hW q oM).trans (Jf _ _ _ _ _ q oM)),CP (Below.on (Below.on b0 b1) b2) (Cw _) _ _ _ _ _⟩
theorem eu (h:Al w v m)(n:Int)(hM:Ic m n 0=M)(hE:Gk m n 0=E):Cl 74 #[v,iI n] w (Cp w M E):=by
 have h':=h;obtain⟨ra,rc,sa,sc,fa,fc,na,nc,rfl,_⟩:=h.parts;subst hM hE;unfold Ic Gk
 by_cases hl:Br m n=0
 ·rw[Ab hl,Ab hl];obtain⟨k,rfl⟩:=FV (Ge hl).2.1;exact ew ra rc sa sc fa fc na nc m k w h' hl _ _ rfl rfl
 ·rw[Aa hl,Aa hl];exact eo ra rc sa sc fa fc na nc m n w h' _ rfl (by simpa using hl)

theorem PT (h:BA w v L)(h1:1<=L.length)(h40:L.length<=40){c:Int}(hc:(if AK L=40 then (0:Int) else AK L)=c):Cl 128 #[v] w fun r w'=>r=.returned (iI c)/\w'=w:=by
 obtain⟨b,off,cap,rfl,ab,hlt,aa⟩:=h.open h1;exact SF b off cap _ (AK L) L w rfl h1 h40 aa (KM h1) c hc
theorem NM {α:Type}{l:List α}{i:Nat}{x:α}(h:l[i]?=some x):l.set i x=l:=by
 apply JB
 intro j;rw[List.getElem?_set]
 split
 ·rename_i e
  subst e
  split
  ·exact h.symm
  ·rename_i hl
   rw[Ed oM]
 ·rfl
theorem Yf {tv:Nat->Value}(ht:t<L.length)(d:ByteArray):A2 (L.set t ((L.getD t default).1,d,(L.getD t default).2.2)) tv=(A2 L tv).set (t*3+1) (.string d):=by
 obtain⟨h0,h1,h2⟩:=D3 (tv:=tv) ht;rw[Nr (tv:=tv) (tv':=tv) (t:=t) _ d _ (fun _ _=>rfl),NM h0]
 apply NM
 rw[FX oM];exact h2
theorem OX.setPage (h:OX W B val m)(ht:t<m.s.length)(hv:val .s=lZ g n cap)(d:ByteArray):OX (W.setCell (aD g (t*3+1)) (.string d)) B val {m with s:=m.s.set t ((m.s.getD t default).1,d,(m.s.getD t default).2.2)}:=by
 have hg:=fun j=>Ht m.s t j ((m.s.getD t default).1,d,(m.s.getD t default).2.2)
 have aa:∀j,CN {m with s:=m.s.set t ((m.s.getD t default).1,d,(m.s.getD t default).2.2)} j=CN m j:=fun j=>by
  show ((m.s.set t _).getD j default).2.2=(m.s.getD j default).2.2
  rw[hg]
  split
  ·rename_i e;rw[e.1]
  ·rfl
 refine h.store (Ad.s m) hv (t*3+1) (.string d) (Hv Bi rfl (fun j=>by rw[aa])) (fun b hb=>?_) (fun b hb hne=>?_) ?_ (fun j hj e=>?_)
 ·rcases hb.cases with rfl|rfl|rfl|rfl|⟨j,rfl,hj⟩|⟨j,rfl,hj⟩
  ·rfl
  ·exact Bi
  ·rfl
  ·rfl
  ·show (CN _ j).length=(CN m j).length
   rw[aa]
  ·rfl
 ·rcases hb.cases with rfl|rfl|rfl|rfl|⟨j,rfl,hj⟩|⟨j,rfl,hj⟩
  ·rfl
  ·exact absurd rfl hne
  ·rfl
  ·rfl
  ·show Ae (CN _ j)=Ae (CN m j)
   rw[aa]
  ·rfl
 ·exact Yf ht d
 ·rw[aa]at e;have hj:j<(m.s.set t _).length:=hj;rw[Bi]at hj;exact⟨hj,e⟩
theorem XT {T:TypeId}(h:W.heap[D]?=some (.cells #[x0,x1,x2,x3,x4] T))(a0 a1 a2 a3 a4:Value):(((((W.setCell (aZ D) a0).setCell (aD D 1) a1).setCell (aD D 2) a2).setCell (aD D 3) a3).setCell (aD D 4) a4).heap[D]?=some (.cells #[a0,a1,a2,a3,a4] T):=
 Bf (Bf (Bf (Bf (Bf h 0 a0) 1 a1) 2 a2) 3 a3) 4 a4
theorem NU {val':Nm->Value}{m':Ac}{ev:Value}(hbel:Bw V X)(hbox:X.heap[D]?=some (.cells #[iI m.g,val .r,val .s,val .f,val .p] 33))(hge:V.heap.size<=D)(hfar:∀a,Ad m a->(val a).ownBlock≠some D)(hX:OX w' V.heap.size val' m')(b:Below V.heap.size X w')(k:BC X w' m val)(s:DB X m val ev m' val')(hev:ev.ownBlock≠some D):AX V (((((w'.setCell (aZ D) (iI m'.g)).setCell (aD D 1) (val' .r)).setCell (aD D 2) (val' .s)).setCell (aD D 3) (val' .f)).setCell (aD D 4) (val' .p)) D m':=by
 have hlt:D<X.heap.size:=(AA hbox);have aa:=s D hlt hev hfar;exact⟨⟨val',hX.five aa _ _ _ _ _,XT ((k D hlt hfar).trans hbox) _ _ _ _ _,aa⟩,hge,CP (hbel.trans b) hge _ _ _ _ _⟩
theorem db (hX:OX X V.heap.size val m)(hbel:Bw V X)(hbox:X.heap[D]?=some (.cells #[iI m.g,val .r,val .s,val .f,val .p] 33))(hge:V.heap.size<=D)(hfar:∀a,Ad m a->(val a).ownBlock≠some D)(hv:val .r=lZ g n cap)(i:Nat)(x:Int):AX V (X.setCell (aD g i) (iI x)) D {m with r:=m.r.set i x}:=by
 have aa:D≠g:=fun e=>hfar .r (Ad.r m) (by rw[hv,e];rfl)
 have hg:=((hX.row .r (Ad.r m)).lt g (by rw[hv];rfl)).1;exact⟨⟨val,hX.setRoot hv i x,Bt hbox aa _ _,fun a ha=>hfar a (by
  refine(Hv (m:=m) (m':={m with r:=m.r.set i x}) rfl rfl (fun _=>Ke) a).1 ha)⟩,hge,hbel.setCell (p:=(aD g i)) hg _⟩
theorem da (hX:OX X V.heap.size val m)(hbel:Bw V X)(hbox:X.heap[D]?=some (.cells #[iI m.g,val .r,val .s,val .f,val .p] 33))(hge:V.heap.size<=D)(hfar:∀a,Ad m a->(val a).ownBlock≠some D)(hv:val .s=lZ g n cap)(ht:t<m.s.length)(d:ByteArray):AX V (X.setCell (aD g (t*3+1)) (.string d)) D {m with s:=m.s.set t ((m.s.getD t default).1,d,(m.s.getD t default).2.2)}:=by
 have aa:D≠g:=fun e=>hfar .s (Ad.s m) (by rw[hv,e];rfl)
 have hg:=((hX.row .s (Ad.s m)).lt g (by rw[hv];rfl)).1;have ab:∀j,CN {m with s:=m.s.set t ((m.s.getD t default).1,d,(m.s.getD t default).2.2)} j=CN m j:=fun j=>by
  show ((m.s.set t _).getD j default).2.2=(m.s.getD j default).2.2
  rw[Ht]
  split
  ·rename_i e;rw[e.1]
  ·rfl
 exact⟨⟨val,hX.setPage ht hv d,Bt hbox aa _ _,fun a ha=>hfar a ((Hv (m:=m) (m':={m with s:=m.s.set t ((m.s.getD t default).1,d,(m.s.getD t default).2.2)}) Bi rfl (fun j=>by rw[ab]) a).1 ha)⟩,hge,hbel.setCell (p:=(aD g (t*3+1))) hg _⟩
theorem df (hX:OX X V.heap.size val m)(hbel:Bw V X)(hbox:X.heap[D]?=some (.cells #[iI m.g,val .r,val .s,val .f,val .p] 33))(hge:V.heap.size<=D)(hfar:∀a,Ad m a->(val a).ownBlock≠some D)(ht:t<m.s.length)(hnt:CN m t≠[])(hv:val (.tab t)=lZ g n cap)(i:Nat)(x:Int):AX V (X.setCell (aD g i) (iI x)) D {m with s:=m.s.set t ((m.s.getD t default).1,(m.s.getD t default).2.1,(m.s.getD t default).2.2.set i x)}:=by
 have hl:Ad m (.tab t):=Ad.tab ⟨ht,hnt⟩;have aa:D≠g:=fun e=>hfar (.tab t) hl (by rw[hv,e];rfl)
 have hg:=((hX.row (.tab t) hl).lt g (by rw[hv];rfl)).1;have ab:=fun j=>Ht m.s t j ((m.s.getD t default).1,(m.s.getD t default).2.1,(m.s.getD t default).2.2.set i x)
 refine⟨⟨val,hX.setTab ht hnt hv i x,Bt hbox aa _ _,fun a ha=>hfar a ?_⟩,hge,hbel.setCell (p:=(aD g i)) hg _⟩;refine(Hv (m:=m) (m':={m with s:=m.s.set t ((m.s.getD t default).1,(m.s.getD t default).2.1,(m.s.getD t default).2.2.set i x)}) Bi rfl (fun j=>?_) a).1 ha
 show ((m.s.set t _).getD j default).2.2=[]↔(m.s.getD j default).2.2=[]
 rw[ab]
 split
 ·rename_i e
  rw[<-e.1];exact⟨fun z=>IZ (by have:=congrArg List.length z;rwa [Bi]at this),fun z=>absurd z hnt⟩
 ·rfl
theorem Nw (h:j<L.length):L.getD j default=L[j]:=by simp[List.getD,h]
theorem iA (hs:As m=0)(hk:kd m.s t=2):m.s.getD t default=(2,⟨#[]⟩,AH m.s t):=by
 have hl:=GC (L:=m.s) (j:=t) (by rw[hk];decide);have hok:=DO (Au hs).2.1 hl;rw[Nw hl];unfold AH;rw[A5,Nw hl];unfold kd at hk;rw[Nw hl]at hk;unfold B1 Cb at hok;rw[hk]at hok;simp at hok
 have h0:m.s[t].2.1=⟨#[]⟩:=hok.2.2;rw[<-h0,<-hk]
theorem Zz {d:Nat}{s x:An}(ht:t<L.length)(hne:t≠d):(A3 L d s).set t x=A3 (L.set t x) d s:=by
 unfold A3;rw[Bi]
 split
 ·exact List.set_append_left _ _ ht
 ·exact List.set_comm _ _ (fun e=>hne e.symm)
theorem Zy {a b:An}(ht:t<=L.length):(A3 L t a).set t b=A3 L t b:=by
 unfold A3
 split
 ·rename_i e
  subst e;rw[List.set_append_right _ _ lE];simp
 ·exact List.set_set ..
def EV (m:Ac) (n:Nat):Ac:={m with r:=m.r.set (n/4) (AM m (n/4):Int),s:=Bj m (n/4) (Ak m (n/4))}
theorem jY (hC:Ao m=0)(hr:n/4<m.r.length)(hl:Cq m (n/4)=true):EV m n=m:=by
 have hs:=A0 hC;obtain⟨t,ht,t1,tl,_⟩:=PY hC hr hl;have aa:AM m (n/4)=t:=by unfold AM;rw[Ab hl,ht];simp
 have hk:kd m.s t=2:=by
  have hm:(t:Int)∈AV m:=by rw[Hr,<-ht,DS hr];exact JC _ (BS hr)
  exact(Il hs hm t1).2.1
 have h1:m.r.set (n/4) (t:Int)=m.r:=NM (by rw[Co hr,<-DS hr,ht]);have h2:Bj m (n/4) (Ak m (n/4))=m.s:=by
  unfold Bj A3;rw[aa,Aa oM];refine NM ?_;have e1:Ak m (n/4)=AH m.s t:=by unfold Ak;rw[ht,Aa oM]
  rw[e1,<-iA hs hk,Co tl,Nw tl]
 unfold EV;rw[aa,h1,h2]
theorem Ri (hC:Ao m=0)(hn:(n:Int)<m.g)(h40:AM m (n/4)≠40):1<=(EV m n).s.length/\(EV m n).s.length<=40/\AM m (n/4)<(EV m n).s.length/\1<=AM m (n/4)/\(EV m n).s.getD (AM m (n/4)) default=(2,⟨#[]⟩,Ak m (n/4)):=by
 have hs:=A0 hC;have ab:=Dg hs;have hrt:=CQ hs;have hr:n/4<m.r.length:=oM;have hp:=A4 (Au hs).2.1;obtain⟨t1,tl,aa,tk,_⟩:=Ju hC hr h40;have ac:=KV (s:=((2,⟨#[]⟩,Ak m (n/4)):An)) tl hp.2 aa;refine⟨?_,?_,?_,t1,?_⟩
 ·show 1<=(Bj m (n/4) (Ak m (n/4))).length
  unfold Bj;omega
 ·show (Bj m (n/4) (Ak m (n/4))).length<=40
  unfold Bj;omega
 ·show AM m (n/4)<(Bj m (n/4) (Ak m (n/4))).length
  unfold Bj;omega
 ·show (Bj m (n/4) (Ak m (n/4))).getD _ default=_
  unfold Bj;rw[Ey tl,Ab rfl]
theorem Vt (hC:Ao m=0)(hn:(n:Int)<m.g)(h40:AM m (n/4)≠40)(hd40:wD m n≠40){page:ByteArray}(hp:page.size=4):wD m n<=(EV m n).s.length/\1<=wD m n/\AM m (n/4)<(A3 (EV m n).s (wD m n) (1,page,[])).length/\(A3 (EV m n).s (wD m n) (1,page,[])).getD (AM m (n/4)) default=(2,⟨#[]⟩,Ak m (n/4))/\
   (A3 (EV m n).s (wD m n) (1,page,[])).set (AM m (n/4)) (2,⟨#[]⟩,(Ak m (n/4)).set (n%4) (wD m n:Int))=wL m n page:=by
 obtain⟨f1,f2,f3,f4,f5⟩:=Ri hC hn h40;obtain⟨hx,hl,hz,hk,d1,ac,hkd,ab⟩:=Vw hC hn h40 hd40 hp;obtain⟨t1,tl,ad,tk,_⟩:=Ju hC hk h40;have aa:wD m n<=(EV m n).s.length:=(Gw (L:=(EV m n).s) f1).2.1;refine⟨aa,d1,?_,?_,?_⟩
 ·rw[D7];split<;>omega
 ·rw[Ey aa,Aa (fun e=>ab e.symm)];exact f5
 ·rw[Zz f3 (fun e=>ab e.symm)];unfold wL EE
  congr 1
  exact Zy tl
theorem Vs (hC:Ao m=0)(hn:(n:Int)<m.g)(h40:AM m (n/4)≠40)(hd40:wD m n≠40){page:ByteArray}(hp:page.size=4):As {m with r:=m.r.set (n/4) (AM m (n/4):Int),s:=wL m n page,f:=BX (wL m n page)} = 0:=(Ro hC hn h40 hd40 hp).1.shape

theorem Ps (v:Value)(xs:List Int)(n:Nat)(w:World)(h:Sl w v xs)(h0:Bp xs=0)(hn:n<=4):Cl 131 #[v,iI n] w fun r w'=>∃g cap,r=.returned (.tuple #[lZ g 4 cap,iI 0])/\w'.ownsRow w.heap.size 3 1 (lZ g 4 cap) 4 (Ae (AU xs n))/\Bw w w':=by
 have H4:Hd (xs.length=4):=Dv h0;have ae:(n:Int)<=4:=oM;have hk0:0<=(n:Int):=oM
 go_enter func131,ntmps131
 go_wp2_with(first|(go_at_call 177;refine(Ph _ xs _ h).mono ?_;rintro e w' ⟨rfl,rfl⟩)|(go_at_call 65;refine(Dy _ _ _ _).mono ?_;rintro e w' ⟨rfl,rfl⟩)|(at_builtin;refine VY rfl _ _ rfl v xs rfl rfl rfl h H4.o ?_;intro g cap' w1 HO aa))
 go_loopw [8] (fun i wr=>∃k:Nat,n<=k/\k<=4/\i=iI k/\Hd (wr.ownsRow w'.heap.size 3 1 (lZ g 4 cap') 4 ((Ko xs n k).map (.int .i64)))/\Bw w' wr) (fun i _=>4-(intOf i).toNat)
 case atStart=>exact⟨n,Bc _,hn,rfl,by rw[kG];exact HO,aa⟩
 case round=>
  obtain⟨k,ab,hk,rfl,HG,hb⟩:=hrel
  by_cases hlt:k<4
  ·have ad:=HG.o.frozenAt k;obtain⟨u,ac⟩:=TH HG.o k oM
   go_wp2
   go_roundw
   case rel=>exact⟨k+1,oM,oM,by go_num,by rw[<-kH xs n k H4.o ab hlt];exact TJ HG.o k 0,hb.setCell (TI HG.o) _⟩
   case measure=>simp[intOf];omega
  ·have e4:k=4:=oM;subst e4
   go_wp2
   go_ret2
   have hO:=HG.o;rw[kF xs n H4.o]at hO;exact⟨g,cap',rfl,hO,hb⟩
theorem gO (ao bo:Option Addr)(n cap cap':Nat)(xs ys:List Int)(w:World)(hn:xs.length=n)(hn':ys.length=n)(hm:n<=9223372036854775807)(hne:xs≠ys)(hc:∀j,j<n->∃b off,ao=some (aD b off)/\b<w.heap.size/\w.cell? (aD b (off+j))=some (iI (xs.getD j 0)))(hd:∀j,j<n->∃b off,bo=some (aD b off)/\b<w.heap.size/\w.cell? (aD b (off+j))=some (iI (ys.getD j 0))):Cl 132 #[.slice ao n cap,.slice bo n cap'] w fun r w'=>r=.returned (.bool false)/\Bw w w':=by
 have HC:Hd (∀j,j<n->∃b off,ao=some (aD b off)/\b<w.heap.size/\w.cell? (aD b (off+j))=some (iI (xs.getD j 0))):=hc;have HD:Hd (∀j,j<n->∃b off,bo=some (aD b off)/\b<w.heap.size/\w.cell? (aD b (off+j))=some (iI (ys.getD j 0))):=hd;clear hc hd;have HN:Hd (¬∀j,j<n->xs.getD j 0=ys.getD j 0):=fun h=>hne (EX oM (fun j h1 h2=>by have:=h j oM;rwa [DS h1,DS h2]at this))
 clear hn hn' hne
 go_enter func132,ntmps132
 go_wp2
 go_loopw [5] (fun i wr=>∃k:Nat,k<=n/\i=iI k/\Bw w wr/\Hd (∀j,j<k->xs.getD j 0=ys.getD j 0)) (fun i _=>n-(intOf i).toNat)
 case atStart=>exact⟨0,oM,rfl,AG _ _,fun j hj=>absurd hj (Dr _)⟩
 case round=>
  obtain⟨k,hk,rfl,aa,HA⟩:=hrel
  by_cases hlt:k<n
  ·obtain⟨x,hx⟩:=nM (xs.getD k 0);obtain⟨y,hy⟩:=nM (ys.getD k 0);obtain⟨b,off,aj,ag,ae⟩:=HC.o k hlt;obtain⟨b',ac,ak,ah,ab⟩:=HD.o k hlt;have ad:Hd (xs.getD k 0=x/\ys.getD k 0=y):=⟨hx,hy⟩;rw[hx]at ae;rw[hy]at ab;clear hx hy;have g1:wr.cell? (aD b (off+k))=some (iI x):=(aa.cell (p:=(aD b (off+k))) ag).trans ae;have g2:wr.cell? (aD b' (ac+k))=some (iI y):=(aa.cell (p:=(aD b' (ac+k))) ah).trans ab;have i1:(k:Int)<(n:Int):=oM
   by_cases hxy:x=y
   ·have af:Hd (∀j,j<k+1->xs.getD j 0=ys.getD j 0):=fun j hj=>by
     by_cases e:j=k
     ·rw[e,ad.o.1,ad.o.2];exact hxy
     ·exact HA.o j oM
    subst hxy
    go_wp2
    go_quiet(fail)
    go_wp2
    go_roundw
    case rel=>exact⟨k+1,oM,by go_num,below_drewN aa _,af⟩
    case measure=>simp[intOf];omega
   ·have ai:(x != y)=true:=by simp[hxy]
    clear hxy
    go_wp2
    go_quiet(fail)
    go_wp2
    go_ret;exact⟨rfl,below_drewN aa _⟩
  ·exact absurd (fun j hj=>HA.o j oM) HN.o
theorem UN {u:Value}{ys:List Int}(h:Sl w v xs)(k:Sl w u ys)(hl:xs.length=ys.length)(hne:xs≠ys):Cl 132 #[v,u] w fun r w'=>r=.returned (.bool false)/\Bw w w':=by
 obtain⟨ao,cap,rfl⟩:=h.form;obtain⟨bo,cap',rfl⟩:=k.form;obtain⟨hn,hm,_,hc⟩:=h.cells;obtain⟨_,_,_,hd⟩:=k.cells;rw[<-hl]at hd ⊢;exact gO ao bo _ cap cap' xs ys w rfl hl.symm hm hne hc hd
theorem TD (W:World)(x:Value):∀ (j:Nat) (u:Value),[x][j]?=some u->(W.alloc (.cells #[x] 3)).cell? (((aZ W.heap.size):Addr).add j)=some u:=by
 intro j u hj;rw[EI,GT _ _ _ _ rfl]
 match j,hj with
 | 0,hj=>simpa using hj
theorem j7 {ops:Array Oper}{rest:List Oper}{o:Oper}{a:Act}{Q:Exit->Act->World->Prop}(hgd:o.guard=none)(s x:Operand)(ho:o.op=.call {callee:=.builtin .append,args:=#[s,x],argTypes:=#[29,29]})(hs:a.eval s=v){N:Nat}(hx:a.eval x=lZ N 1 1)(hN:N=W.heap.size)(hown:W.ownsRow B 3 1 v n (Ae xs))(hn:n<=1000)(hB:B<=W.heap.size)(h:∀v' w',Hd (w'.ownsRow B 3 1 v' (n+1) (Ae (xs++[0])))->Hd ((W.alloc (oI 0)).grownBy w' v.ownBlock)->Hd (v'.ownBlock=v.ownBlock\/v'.ownBlock=some (W.heap.size+1))->wpList prog ops Q rest (a.put o.dst v') w'):wpList prog ops Q (o::rest) a (W.alloc (oI 0)):=by
 subst hN;obtain⟨i0,hi,hz0,aa,ab⟩:=Fj info3;refine JN hgd fun _ hK=>?_
 obtain⟨v',w',hr,g2,g3,_,g5⟩:=run_append_own_at (P:=prog) (W.alloc (oI 0)) B 29 o.type 3 i0 (iI 0) 1 8 underlying29 hi hz0 aa ab rfl dE v n (Ae xs) (hown.alloc _) (aZ W.heap.size) 1 1 [iI 0] rfl (TD W _) (by intro u hu;simp at hu;subst hu;rfl) (by unfold maxLen;omega) oM (by simp;omega);unfold Oper.wp execOp;simp only[ho,resolve,invoke,builtin,Sem.run_bind,Sem.run_pure,GS,GQ,Dc,Gr,hs,hx,hr];have g6:v'.ownBlock=v.ownBlock\/v'.ownBlock=some (W.heap.size+1):=by simpa using g5
 exact hK _ _ (h v' w' (by rw[show Ae (xs++[0])=Ae xs++[iI 0] by (unfold Ae;simp)];exact g2) g3 g6)
theorem OX.blk (h:OX W B val m)(hk:∀a,Ad m a->∀q,(val a).ownBlock=some q->W'.heap[q]?=W.heap[q]?):OX W' B val m:=⟨fun a ha=>CX (h.row a ha) (fun q e=>hk a ha q e),h.apart,h.loose⟩
theorem NV (hX:OX X V.heap.size val m)(hbox:X.heap[D]?=some (.cells #[iI m.g,val .r,val .s,val .f,val .p] 33))(hge:V.heap.size<=D)(hfar:∀a,Ad m a->(val a).ownBlock≠some D){r:List Int}(hown:W.ownsRow V.heap.size 3 1 v r.length (Ae r))(hblk:∀q,q<X.heap.size->(val .r).ownBlock≠some q->W.heap[q]?=X.heap[q]?)(hbel:Bw V W)(hv:v.ownBlock=(val .r).ownBlock\/∀q,v.ownBlock=some q->X.heap.size<=q):AX V (W.setCell (aD D 1) v) D {m with r:=r}:=by
 have ae:D<X.heap.size:=(AA hbox);have aa:∀ (r':List Int) a,Ad {m with r:=r'} a->Ad m a:=fun r' a ha=>(Hv (m:=m) (m':={m with r:=r'}) rfl rfl (fun _=>Ke) a).1 ha
 have h0:=hX.swapRoot (v:=nl) (r:=[]) (DG _ _ _ _) (Np _ _ _ _ _) m.g;have h1:OX W V.heap.size (Az val .r (nl)) {m with g:=m.g,r:=[]}:=h0.blk (fun a ha q hq=>by
  by_cases ea:a=.r
  ·subst ea;rw[Bh]at hq;cases hq
  ·rw[Ap _ _ ea]at hq;have ac:=aa [] a ha;exact hblk q ((hX.row a ac).lt q hq).2 (fun e=>hX.apart .r a (Ad.r m) ac (fun x=>ea x.symm) q e hq))
 have h2:=h1.swapRoot (v:=v) (r:=r) hown (fun b hb hne g hg e=>by
  rw[Ap _ _ hne]at e;have ad:=aa [] b hb;rcases hv with x|x
  ·exact hX.apart .r b (Ad.r m) ad (fun y=>hne y.symm) g (x ▸ hg) e
  ·have:=x g hg;have:=((hX.row b ad).lt g e).2;omega) m.g
 have ab:∀a,Ad {m with g:=m.g,r:=r} a->(Az (Az val .r (nl)) .r v a).ownBlock≠some D:=fun a ha e=>by
  by_cases ea:a=.r
  ·subst ea;rw[Bh]at e;rcases hv with x|x
   ·exact hfar .r (Ad.r m) (x ▸ e)
   ·have:=x D e;omega
  ·rw[Ap _ _ ea,Ap _ _ ea]at e;exact hfar a (aa r a ha) e
 refine⟨⟨_,h2.far ab,?_,ab⟩,hge,hbel.setCell (p:=(aD D 1)) hge _⟩;rw[Bh,Ap _ v (a:=.r) (b:=.s) (by nofun),Ap _ _ (a:=.r) (b:=.s) (by nofun),Ap _ v (a:=.r) (b:=.f) (by nofun),Ap _ _ (a:=.r) (b:=.f) (by nofun),Ap _ v (a:=.r) (b:=.p) (by nofun),Ap _ _ (a:=.r) (b:=.p) (by nofun)];exact Bf ((hblk D ae (hfar .r (Ad.r m))).trans hbox) 1 v
theorem gj {ao:Option Addr}(h:W.ownsRow B 3 1 (.slice ao n cap) n (Ae xs))(hk:k<=n):W.ownsRow B 3 1 (.slice ao k cap) k (Ae (xs.take k))/\k<=cap:=by
 obtain⟨hl,hf⟩:=h;have aa:xs.length=n:=by rw[ER]at hl;omega
 refine⟨⟨by rw[ER,BI];omega,?_⟩,?_⟩
 ·rcases hf with⟨e,hn⟩|⟨g,c,cur,e,h1,h2,h3,h4,h5,h6⟩
  ·simp only[BP]at e
   left
   refine⟨by rw[e.1,e.2.2];congr 1;omega,oM⟩
  ·simp only[BP]at e
   right
   refine⟨g,c,cur,by rw[e.1,e.2.2],h1,h2,oM,h4,h5,?_⟩;have:Ae (xs.take k)=(Ae xs).take k:=by unfold Ae;rw[List.map_take]
   rw[this,<-h6,List.take_take]
   congr 1;omega
 ·rcases hf with⟨e,hn⟩|⟨g,c,cur,e,h1,h2,h3,h4,h5,h6⟩
  ·omega
  ·simp only[BP]at e;omega
theorem AX.drew {p:Ac}(h:AX V X D p):AX V X.drew D p:=by
 obtain⟨val,h1,h2,h3⟩:=h.ex;exact⟨⟨val,h1.drew,h2,h3⟩,h.ge,Cg h.bel⟩
theorem eZ {r:List Int}{wn:Nat}(h1:wn<=r.length+j)(h2:j=0\/r.length+j<=wn):(r++List.replicate j 0).take wn=(r++List.replicate (wn-r.length) 0).take wn:=by
 rcases h2 with h|h
 ·subst h;rw[show wn-r.length=0 by omega]
 ·rw[show wn-r.length=j by omega]
section
open Go.Lib
theorem jh (h:u.size=0):(u.toList == [])=true:=by
 have:u.toList=[]:=(Pc u).2 h;rw[this];rfl
end
section
open Go.Lib
def VH (w:World) (L:List UInt8) (e:Ending) (W':World):Prop:=
 (∃m,Gj L=some m/\∃a0 c0 a1 c1 a2 c2 a3 c3,e=.returned (.tuple #[(.agg (aI m a0 c0 a1 c1 a2 c2 a3 c3)),.bool true])/\(∀Y:World,(∀q,w.heap.size<=q->q<W'.heap.size->Y.heap[q]?=W'.heap[q]?)->Al Y (.agg (aI m a0 c0 a1 c1 a2 c2 a3 c3)) m)/\Bw w W')\/(Gj L=none/\e=.returned (.tuple #[(.agg #[iI 0,nl,nl,nl,nl]),.bool false])/\Bw w W')
theorem gZ {c:Nat}{y v0 v1 v2 v3 v4 u:Value}(hm:w.heap[b]?=some (.cells #[x0,x1,x2,x3,x4] 33))(hc:w.heap[c]?=some (.cells #[y] 4))(hbc:¬b=c)(hw:w'=(((((w.setCell (aZ b) v0).setCell (aD b 1) v1).setCell (aD b 2) v2).setCell (aD b 3) v3).setCell (aD b 4) v4).setCell (aZ c) u):w'.heap[b]?=some (.cells #[v0,v1,v2,v3,v4] 33)/\w'.heap[c]?=some (.cells #[u] 4)/\(∀q,q≠b->q≠c->w'.heap[q]?=w.heap[q]?)/\∀ (B:Nat) (W0:World),B<=b->B<=c->Below B W0 w->Below B W0 w':=by
 have h0:=Bf hm 0 v0;have h1:=Bf h0 1 v1;have h2:=Bf h1 2 v2;have h3:=Bf h2 3 v3;have h4:=Bf h3 4 v4;have aa:c≠b:=fun e=>hbc e.symm
 have hq:∀q,q≠b->(((((w.setCell (aZ b) v0).setCell (aD b 1) v1).setCell (aD b 2) v2).setCell (aD b 3) v3).setCell (aD b 4) v4).heap[q]?=w.heap[q]?:=fun q hq=>by rw[AN _ (aD b 4) _ q hq,AN _ (aD b 3) _ q hq,AN _ (aD b 2) _ q hq,AN _ (aD b 1) _ q hq,AN _ (aZ b) _ q hq]
 have h5:=(AN _ (aZ c) u b (fun e=>hbc e)).trans h4;have g5:=Bf ((hq c aa).trans hc) 0 u;refine⟨by rw[hw];exact h5,by rw[hw];exact g5,fun q hb hc'=>by rw[hw,AN _ (aZ c) u q hc'];exact hq q hb,fun B W0 hb hc' hB=>?_⟩;rw[hw];exact(((((hB.setCell (p:=(aZ b)) hb _).setCell (p:=(aD b 1)) hb _).setCell (p:=(aD b 2)) hb _).setCell (p:=(aD b 3)) hb _).setCell (p:=(aD b 4)) hb _).setCell (p:=(aZ c)) hc' _
theorem eH {R:Nat}(hb:Bw w W)(hR:W.heap.size=R+1)(hwR:w.heap.size<=R)(h:A6 W W' R l):Bw w W':=
 ⟨h.os.trans hb.os,h.tape.trans hb.tape,h.output.trans hb.output,Bg hb.size h.size,fun q hq=>(h.keep q oM oM).trans (hb.block q hq)⟩
end
section
open Go.Lib
def Jn (u:ByteArray):Ac × Int:=if 4096<u.size then (AZ,2) else match Ie (bytes u) with|some m=>(m,0)|none=>(AZ,1)
theorem eD (h:4096<u.size):Jn u=(AZ,2):=by unfold Jn;rw[Ab h]
theorem Qz (h:¬4096<u.size)(hp:Ie (bytes u)=none):Jn u=(AZ,1):=by unfold Jn;rw[Aa h,hp]
theorem eE (h:¬4096<u.size)(hp:Ie (bytes u)=some m):Jn u=(m,0):=by unfold Jn;rw[Aa h,hp]
theorem TZ (h:Gj l=some m):m.s.length<=255:=by
 obtain⟨q,h1,h2⟩:=Fk h
 split at h2
 ·have h2:q.1=m:=by simpa using h2
  subst h2;obtain⟨g,h3,h1⟩:=Fk h1;obtain⟨n,h4,h1⟩:=Fk h1;obtain⟨S,h5,h1⟩:=Fk h1;obtain⟨k,h6,h1⟩:=Fk h1;obtain⟨N,h7,h1⟩:=Fk h1;obtain⟨r,h8,h1⟩:=Jm h1;subst h1;have:=(La (f:=Ez) (fun l s r h=>Qr h) n.1 S.1 S.2 h5).2
  show S.1.length<=255
  rw[this]
  cases hg:g.2 with
  | nil=>rw[hg]at h4;simp[DL]at h4
  | cons a t=>
   rw[hg]at h4;simp only[DL,Ct]at h4;subst h4;have:=a.toNat_lt
   show a.toNat<=255
   omega
 ·simp at h2
theorem gW {v0 v1 v2 v3 v4:Value}(hm:w.heap[b]?=some (.cells #[x0,x1,x2,x3,x4] 33))(hw:w'=((((w.setCell (aZ b) v0).setCell (aD b 1) v1).setCell (aD b 2) v2).setCell (aD b 3) v3).setCell (aD b 4) v4):w'.heap[b]?=some (.cells #[v0,v1,v2,v3,v4] 33)/\(∀q,q≠b->w'.heap[q]?=w.heap[q]?)/\∀ (B:Nat) (W0:World),B<=b->Below B W0 w->Below B W0 w':=by
 have h0:=Bf hm 0 v0;have h1:=Bf h0 1 v1;have h2:=Bf h1 2 v2;have h3:=Bf h2 3 v3;have h4:=Bf h3 4 v4;refine⟨by rw[hw];exact h4,fun q hq=>by rw[hw,AN _ (aD b 4) _ q hq,AN _ (aD b 3) _ q hq,AN _ (aD b 2) _ q hq,AN _ (aD b 1) _ q hq,AN _ (aZ b) _ q hq],fun B W0 hb hB=>?_⟩;rw[hw];exact((((hB.setCell (p:=(aZ b)) hb _).setCell (p:=(aD b 1)) hb _).setCell (p:=(aD b 2)) hb _).setCell (p:=(aD b 3)) hb _).setCell (p:=(aD b 4)) hb _
end
section
open Go.Lib
theorem YO (R:Nat)(L:List UInt8)(w:World)(hb:w.heap[R]?=some (.cells #[.string (Ai (L))] 180))(hm:L.length<=4096)(mm:Ac × List UInt8)(Hpi:Hd (E7 L=some mm)):Cl 172 #[pZ R] w (VG w R L):=by
  have au:R<w.heap.size:=(AA hb);have ay:(w.alloc zI).heap[R]?=some (.cells #[.string (Ai (L))] 180):=Aj hb _;obtain⟨w1,aw⟩:=nM (w.alloc zI);have z1:w1.heap[w.heap.size]?=some zI:=by rw[<-aw];exact Aw _ _
  have s1:w.heap.size<w1.heap.size:=(AA z1);have hR:R<w1.heap.size:=oM;have aL:Hd (∀X l,A6 w1 X R l->A6 w X R l):=fun X l h=>by rw[<-aw]at h;exact h.toA
  rw[aw]at ay
  cases L with
  | nil=>
    exact absurd Hpi.o (by nofun)
  | cons g L1=>
    have HN:Hd (Cl 204 #[pZ R] w1 fun r W'=>r=.returned (iI (g.toNat:Int))/\A6 w1 W' R L1):=(IL R g L1 w1 ay (by simp at hm;omega)).mono fun r W' h=>⟨h.1,by rw[h.2];exact(A6.refl ay).set _⟩
    have hm1:L1.length<4096:=by simp at hm;omega
    have hg:=g.toNat_lt;clear hb hm ay
    go_enter func172,ntmps172
    go_upto_region 1 with fail;try rw[aw]
    clear aw;go_wp2_with fail;refine HN.o.mono ?_;rintro e9 wa ⟨rfl,Ta⟩;clear HN;have ap:=A9 (De.start Ta hR (g.toNat:Int));obtain⟨D,a7⟩:=nM (wa.heap.size);have aM:=Ta.size;rw[a7]at ap aM;clear Ta
    cases L1 with
    | nil=>
      exact absurd Hpi.o (by nofun)
    | cons n L2=>
      have HN:=A9 ((IL R n L2 _ ap.o.t.box (by simp at hm1;omega)).mono fun r W' h=>(show r=.returned (iI (n.toNat:Int))/\De w1 W' R D L2 ⟨(g.toNat:Int),[],[],[],[]⟩ from ⟨h.1,by rw[h.2];exact ap.o.read ((A6.refl ap.o.t.box).set _)⟩));have aR:L2.length<=4096:=by simp at hm1;omega
      have hn:=n.toNat_lt;go_upto_region 2 with fail;try rw[a7]
      clear hm1;go_wp2_with fail;refine HN.o.mono ?_;rintro e9 wc ⟨rfl,Mc⟩;have Mc:=A9 Mc;clear HN ap a7;go_wp2_with fail
      go_loopw [9] (fun i wr=>∃k:Nat,k<=n.toNat/\i=iI k/\∃lk Sk,CT Ez k L2=some (Sk,lk)/\Hd (De w1 wr R D lk (⟨(g.toNat:Int),[],Sk,[],[]⟩:Ac))) (fun i _=>n.toNat-(RowKit.intOf i).toNat)
      case atStart=>exact⟨0,A7 _,rfl,L2,[],rfl,Mc⟩
      case round=>
        clear Mc;obtain⟨k,hk,rfl,lk,Sk,ac,HM⟩:=hrel
        by_cases hlk:k<n.toNat
        · have aB:(k:Int)<(n.toNat:Int):=oM
          have am:=La (f:=Ez) (fun l s r h=>Qr h) k Sk lk ac;have ah:lk.length<=4096:=oM;obtain⟨wd,ax⟩:=nM (wr.drew);have ae:=HM.o.drew;rw[ax]at ae;obtain⟨M,aj⟩:=nM ((⟨(g.toNat:Int),[],Sk,[],[]⟩:Ac));rw[aj]at ae;obtain⟨val,hX,ab⟩:=ae.ex;have HT:Hd (A6 w1 wd R lk):=ae.t;have hD:=ae.hD;have ar:D<wd.heap.size:=(AA ab);have aq:D≠R:=oM;obtain⟨kn,ag⟩:=nM (M.s.length);have aC:kn<=300:=by rw[<-ag,<-aj];show Sk.length<=300;omega
          obtain⟨pa,pc,hp,_⟩:=hX.forms .s (Ad.s _);have hp:val .s=.slice pa kn pc:=by rw[hp];show Value.slice pa M.s.length pc=_;rw[ag]
          have aa:=hX.row .s (Ad.s _);have aa:wd.ownsRow (D+1) 85 3 (val .s) M.s.length (A2 M.s (fun j=>val (.tab j))):=aa;rw[ag,hp]at aa;have HX:Hd (OX wd (D+1) val M/\(val .s=.slice pa kn pc/\M.s.length=kn)/\some (.cells #[iI M.g,val .r,val .s,val .f,val .p] 33)=some ((.cells #[iI M.g,val .r,.slice pa kn pc,val .f,val .p] 33):Obj)):=⟨hX,⟨hp,ag⟩,by rw[hp]⟩;rw[hp]at ab;have a6:Hd ((⟨(g.toNat:Int),[],Sk,[],[]⟩:Ac)=M):=aj;clear hX hp ag ae aj HM;have ac:=A9 ac
          cases ai:Ez lk with
          | none=>exact absurd (Hpi.o.symm.trans (Z3 ac.o ai hlk)) (by nofun)
          | some p=>
            obtain⟨⟨s0,s1,es⟩,lr⟩:=p;have az:=A9 (show Cl 205 #[pZ R] wd fun e W'=>∃tv,e=.returned (.agg #[iI s0,.string s1,tv])/\A6 wd W' R lr/\W'.ownsRow wd.heap.size 3 1 tv es.length (Ae es) from gt (W:=wd) HT.o.box ah ai);have ai:=A9 ai;clear am;go_upto_region 4 with fail;refine BT (S:=(fun X:World=>True)) kR trivial (fun hHeld=>?_);refine Ar 0 (pQ D 2) ?_;refine Ar 2 (pZ R) ?_;simp only[lays]
            first|rw[ax]|skip
            have af:=ab
            repeat' (refine Ig [1,3,4,5,6,7] (.c rfl ?_ (.c rfl ?_ (.c rfl ?_ (.c rfl ?_ (.c rfl ?_ (.c rfl ?_ .n))))))<;>(intro t hc K hK;first|exact absurd hc (by decide +kernel)|(clear hc hHeld;simp only[lays];rw[Ab (by rfl)];first
              | (have _:Tg 1:=t;clear t
                 obtain⟨v0,v1,v2,v3,v4⟩:=five af;go_simp;clear v0 v1 v2 v3 v4;refine hK.out _ _ trivial (fun hHeld=>?_);clear hK K;try simp only[lays])
              | (have _:Tg 3:=t;clear t
                 go_wp2_with(go_at_call 205;refine az.o.mono ?_;rintro e9 w6 ⟨tv,rfl,T6,r6⟩;obtain⟨ta,tc,rfl⟩:=B0 r6);have T6:=A9 T6;have r6:=A9 r6;have q6:w6.heap[D]?=some (.cells #[iI M.g,val .r,.slice pa kn pc,val .f,val .p] 33):=(T6.o.keep D ar aq).trans ab;have s6:wd.heap.size<=w6.heap.size:=T6.o.size;clear af;have af:=q6;refine hK.out _ _ trivial (fun hHeld=>?_);clear hK K;try simp only[lays])
              | (have _:Tg 4:=t;clear t
                 go_simp;have af:=Aj q6 (oS s0 s1 ta es.length tc);refine hK.out _ _ trivial (fun hHeld=>?_);clear hK K;try simp only[lays])
              | (have _:Tg 5:=t;clear t
                 have ad:w6.ownsRow (D+1) 85 3 (.slice pa kn pc) kn (A2 M.s (fun j=>val (.tab j))):=CX aa (fun g e=>T6.o.keep g (aa.lt g e).2 (by have:=(aa.lt g e).1;omega));refine Ou _ _ 30 85 _ underlying30 J0 (by rfl) (by rfl) (B:=D+1) (v:=.slice pa kn pc) (c0:=iI s0) (c1:=.string s1) (c2:=.slice ta es.length tc) (by rfl) (by rfl) (by rfl) (by rfl) (by rfl) (by simp) ad oM oM ?_;intro v1 w8 h1 h2 h3;obtain⟨g1,an,aG⟩:=Eo h1.o;subst aG;have z2:w8.heap[D]?=some (.cells #[iI M.g,val .r,.slice pa kn pc,val .f,val .p] 33):=(h2.block D (by simp;omega) (fun e=>by have:=(aa.lt D e.symm).1;omega)).trans (Aj q6 _);have HN:Hd (De w1 (w8.setCell (aD D 2) (lZ g1 (kn+1) an)) R D lr {M with s:=M.s++[(s0,s1,es)]}):=by
                   have aA:=(HX.o.1.keep (W':=w6) (fun g hg hl=>T6.o.keep g hl oM));have aE:=CL (CX (W':=w6.alloc (oS s0 s1 ta es.length tc)) r6.o (fun g e=>Ch _ _ g (r6.o.lt g e).2)) (B':=D+1) oM;refine De.slot (es:=es) (kk:=s0) (dd:=s1) (ev:=.slice ta es.length tc) ((HT.o.trans T6.o).alloc (oS s0 s1 ta es.length tc)) hR hD (aA.alloc _) ((Aj q6 _).trans HX.o.2.2.symm) aE (IC HX.o.1 _ (fun g e=>(r6.o.lt g e).1)) (by rw[HX.o.2.1.1];exact h2) (by rw[HX.o.2.1.2];exact h1.o) ?_;rw[HX.o.2.1.1];rcases h3.o with x|x
                   · exact .inl x
                   · refine .inr (fun g e=>?_)
                     rw[x]at e
                     cases e
                     simp
                 refine hK.out _ _ trivial (fun hHeld=>?_);clear hK K;try simp only[lays])
              | (have _:Tg 6:=t;clear t
                 go_simp;refine hK.out _ _ trivial (fun hHeld=>?_);clear hK K;try simp only[lays])
              | (have _:Tg 7:=t;clear t
                 obtain⟨v0,v1,v2,v3,v4⟩:=five z2;have u3:=Aq z2 2;go_simp;refine hK.out _ _ trivial (fun hHeld=>?_);clear hK K;try simp only[lays]
                 clear hHeld v0 v1 v2 v3 v4 u3;refine BQ kR ?_ _;clear h1 h2 h3 z2 q6 ad T6 r6 af;go_wp2_with fail;go_roundw
                 case rel=>exact⟨k+1,oM,by go_num,lr,Sk++[(s0,s1,es)],TL ac.o ai.o,by rw[<-a6.o]at HN;exact HN⟩
                 case measure=>simp[RowKit.intOf];omega))))
        · have aB:¬(k:Int)<(n.toNat:Int):=oM
          have ek:k=n.toNat:=oM;subst ek;obtain⟨SS,a8⟩:=nM (Sk);subst a8;have am:=La (f:=Ez) (fun l s r h=>Qr h) _ _ lk ac;obtain⟨wv,hv⟩:∃X,X=wr:=⟨_,rfl⟩;subst hv
          cases lk with
          | nil=>
            exact absurd (Hpi.o.symm.trans (Z2 ac)) (by nofun)
          | cons h L4=>
            have hh:=h.toNat_lt;have aO:L4.length<4096:=by have:=am.1;simp at this;omega
            have HN:=A9 ((IL R h L4 _ HM.o.t.box aO).mono fun r W' q=>(show r=.returned (iI (h.toNat:Int))/\De w1 W' R D L4 ⟨(g.toNat:Int),[],Sk,[],[]⟩ from ⟨q.1,by rw[q.2];exact HM.o.read ((A6.refl HM.o.t.box).set _)⟩));have aJ:=A9 ac;clear am ac HM;go_wp2_with fail;refine HN.o.mono ?_;rintro e9 wx ⟨rfl,Mx⟩;have Mx:=A9 Mx;clear HN;obtain⟨SS,a8⟩:∃X,X=Sk:=⟨_,rfl⟩;subst a8;go_wp2_with fail
            go_loopw [21] (fun i wr=>∃k:Nat,k<=h.toNat/\i=iI k/\∃lk Sk,CT FO k L4=some (Sk,lk)/\Hd (De w1 wr R D lk (⟨(g.toNat:Int),[],SS,[],Sk⟩:Ac))) (fun i _=>h.toNat-(RowKit.intOf i).toNat)
            case atStart=>exact⟨0,A7 _,rfl,L4,[],rfl,Mx⟩
            case round=>
              clear Mx;obtain⟨k,hk,rfl,lk,Sk,ac,HM⟩:=hrel
              by_cases hlk:k<h.toNat
              · have aB:(k:Int)<(h.toNat:Int):=oM
                have am:=La (f:=FO) (fun l s r h=>TP h) k Sk lk ac;have ah:lk.length<=4096:=oM;obtain⟨wd,ax⟩:=nM (wr.drew);have ae:=HM.o.drew;rw[ax]at ae;obtain⟨M,aj⟩:=nM ((⟨(g.toNat:Int),[],SS,[],Sk⟩:Ac));rw[aj]at ae;obtain⟨val,hX,ab⟩:=ae.ex;have HT:Hd (A6 w1 wd R lk):=ae.t;have hD:=ae.hD;have ar:D<wd.heap.size:=(AA ab);have aq:D≠R:=oM;obtain⟨kn,ag⟩:=nM (M.p.length);have aC:kn<=300:=by rw[<-ag,<-aj];show Sk.length<=300;omega
                obtain⟨pa,pc,hp,_⟩:=hX.forms .p (Ad.p _);have hp:val .p=.slice pa kn pc:=by rw[hp];show Value.slice pa M.p.length pc=_;rw[ag]
                have aa:=hX.row .p (Ad.p _);have aa:wd.ownsRow (D+1) 87 3 (val .p) M.p.length (A8 M.p (fun j=>val (.sr j))):=aa;rw[ag,hp]at aa;have HX:Hd (OX wd (D+1) val M/\(val .p=.slice pa kn pc/\M.p.length=kn)/\some (.cells #[iI M.g,val .r,val .s,val .f,val .p] 33)=some ((.cells #[iI M.g,val .r,val .s,val .f,.slice pa kn pc] 33):Obj)):=⟨hX,⟨hp,ag⟩,by rw[hp]⟩;rw[hp]at ab;have a6:Hd ((⟨(g.toNat:Int),[],SS,[],Sk⟩:Ac)=M):=aj;clear hX hp ag ae aj HM;have ac:=A9 ac
                cases ai:FO lk with
                | none=>exact absurd (Hpi.o.symm.trans (Z5 aJ.o ac.o ai hlk)) (by nofun)
                | some p=>
                  obtain⟨⟨s0,s1,es⟩,lr⟩:=p;have az:=A9 (show Cl 206 #[pZ R] wd fun e W'=>∃tv,e=.returned (.agg #[.string s0,iI s1,tv])/\A6 wd W' R lr/\W'.ownsRow wd.heap.size 3 1 tv es.length (Ae es) from gw (W:=wd) HT.o.box ah ai);have ai:=A9 ai;clear am;go_upto_region 8 with fail;refine BT (S:=(fun X:World=>True)) kR trivial (fun hHeld=>?_);refine Ar 0 (pQ D 4) ?_;refine Ar 2 (pZ R) ?_;simp only[lays]
                  first|rw[ax]|skip
                  have af:=ab
                  repeat' (refine Ig [1,3,4,5,6,7] (.c rfl ?_ (.c rfl ?_ (.c rfl ?_ (.c rfl ?_ (.c rfl ?_ (.c rfl ?_ .n))))))<;>(intro t hc K hK;first|exact absurd hc (by decide +kernel)|(clear hc hHeld;simp only[lays];rw[Ab (by rfl)];first
                    | (have _:Tg 1:=t;clear t
                       obtain⟨v0,v1,v2,v3,v4⟩:=five af;go_simp;clear v0 v1 v2 v3 v4;refine hK.out _ _ trivial (fun hHeld=>?_);clear hK K;try simp only[lays])
                    | (have _:Tg 3:=t;clear t
                       go_wp2_with(go_at_call 206;refine az.o.mono ?_;rintro e9 w6 ⟨tv,rfl,T6,r6⟩;obtain⟨ta,tc,rfl⟩:=B0 r6);have T6:=A9 T6;have r6:=A9 r6;have q6:w6.heap[D]?=some (.cells #[iI M.g,val .r,val .s,val .f,.slice pa kn pc] 33):=(T6.o.keep D ar aq).trans ab;have s6:wd.heap.size<=w6.heap.size:=T6.o.size;clear af;have af:=q6;refine hK.out _ _ trivial (fun hHeld=>?_);clear hK K;try simp only[lays])
                    | (have _:Tg 4:=t;clear t
                       go_simp;have af:=Aj q6 (oN s0 s1 ta es.length tc);refine hK.out _ _ trivial (fun hHeld=>?_);clear hK K;try simp only[lays])
                    | (have _:Tg 5:=t;clear t
                       have ad:w6.ownsRow (D+1) 87 3 (.slice pa kn pc) kn (A8 M.p (fun j=>val (.sr j))):=CX aa (fun g e=>T6.o.keep g (aa.lt g e).2 (by have:=(aa.lt g e).1;omega));refine Ou _ _ 31 87 _ underlying31 J1 (by rfl) (by rfl) (B:=D+1) (v:=.slice pa kn pc) (c0:=.string s0) (c1:=iI s1) (c2:=.slice ta es.length tc) (by rfl) (by rfl) (by rfl) (by rfl) (by rfl) (by simp) ad oM oM ?_;intro v1 w8 h1 h2 h3;obtain⟨g1,an,aG⟩:=Eo h1.o;subst aG;have z2:w8.heap[D]?=some (.cells #[iI M.g,val .r,val .s,val .f,.slice pa kn pc] 33):=(h2.block D (by simp;omega) (fun e=>by have:=(aa.lt D e.symm).1;omega)).trans (Aj q6 _);have HN:Hd (De w1 (w8.setCell (aD D 4) (lZ g1 (kn+1) an)) R D lr {M with p:=M.p++[(s0,s1,es)]}):=by
                         have aA:=(HX.o.1.keep (W':=w6) (fun g hg hl=>T6.o.keep g hl oM));have aE:=CL (CX (W':=w6.alloc (oN s0 s1 ta es.length tc)) r6.o (fun g e=>Ch _ _ g (r6.o.lt g e).2)) (B':=D+1) oM;refine De.snap (es:=es) (kk:=s1) (dd:=s0) (ev:=.slice ta es.length tc) ((HT.o.trans T6.o).alloc (oN s0 s1 ta es.length tc)) hR hD (aA.alloc _) ((Aj q6 _).trans HX.o.2.2.symm) aE (IC HX.o.1 _ (fun g e=>(r6.o.lt g e).1)) (by rw[HX.o.2.1.1];exact h2) (by rw[HX.o.2.1.2];exact h1.o) ?_;rw[HX.o.2.1.1];rcases h3.o with x|x
                         · exact .inl x
                         · refine .inr (fun g e=>?_)
                           rw[x]at e
                           cases e
                           simp
                       refine hK.out _ _ trivial (fun hHeld=>?_);clear hK K;try simp only[lays])
                    | (have _:Tg 6:=t;clear t
                       go_simp;refine hK.out _ _ trivial (fun hHeld=>?_);clear hK K;try simp only[lays])
                    | (have _:Tg 7:=t;clear t
                       obtain⟨v0,v1,v2,v3,v4⟩:=five z2;have u3:=Aq z2 4;go_simp;refine hK.out _ _ trivial (fun hHeld=>?_);clear hK K;try simp only[lays]
                       clear hHeld v0 v1 v2 v3 v4 u3;refine BQ kR ?_ _;clear h1 h2 h3 z2 q6 ad T6 r6 af;go_wp2_with fail;go_roundw
                       case rel=>exact⟨k+1,oM,by go_num,lr,Sk++[(s0,s1,es)],TL ac.o ai.o,by rw[<-a6.o]at HN;exact HN⟩
                       case measure=>simp[RowKit.intOf];omega))))
              · have aB:¬(k:Int)<(h.toNat:Int):=oM
                have ek:k=h.toNat:=oM;subst ek;have am:=La (f:=FO) (fun l s r h=>TP h) _ _ lk ac;have ak:=YR (g:=g) aJ.o ac;have ah:lk.length<=4096:=oM;obtain⟨al,hv⟩:∃X,X=wr:=⟨_,rfl⟩;subst hv;obtain⟨rn,aF⟩:=nM ((g.toNat+3)/4);obtain⟨val,hX,ab⟩:=HM.o.ex;have hD:=HM.o.hD;have ar:D<al.heap.size:=(AA ab);have aq:D≠R:=oM;obtain⟨v0,v1,v2,v3,v4⟩:=five ab;have HX:Hd (OX al (D+1) val (⟨(g.toNat:Int),[],SS,[],Sk⟩:Ac)/\al.heap[D]?=some (.cells #[iI (g.toNat:Int),val .r,val .s,val .f,val .p] 33)):=⟨hX,ab⟩;have av:g.toNat<=255:=oM;rw[aF]at ak
                by_cases hrl:rn<=lk.length
                · have hE:Hd (E7 (g::n::L2)=some (⟨(g.toNat:Int),(lk.take rn).map Bu,SS,[],Sk⟩,lk.drop rn)):=by
                    show E7 _=_
                    rw[ak];unfold FN;rw[Ab hrl];rfl
                  have HN:=A9 (UF R g.toNat rn lk al HM.o.t.box av aF hrl ah);have aQ:rn<=1000:=oM;clear am ak ac hX ab aF;go_wp2_with fail;refine HN.o.mono ?_;rintro e9 w7 ⟨rfl,T7,g7⟩;have q7:=(T7.keep D ar aq).trans HX.o.2;obtain⟨u0,u1,u2,u3,u4⟩:=five q7;have f7:=Aq q7 1;have s7:=T7.size;have ao:((lk.take rn).map Bu).length=rn:=by rw[BH,BI];omega
                  have M8:De w1 (w7.setCell (aD D 1) (lZ al.heap.size rn rn)) R D (lk.drop rn) ⟨(g.toNat:Int),(lk.take rn).map Bu,SS,[],Sk⟩:=by
                    have aN:=HX.o.1.keep (W':=w7) (fun g hg hl=>T7.keep g hl oM);have aP:w7.ownsRow al.heap.size 3 1 (lZ al.heap.size rn rn) rn (Ae ((lk.take rn).map Bu)):=by
                      have:=QK (B:=al.heap.size) lE oM g7;rw[ao]at this;exact this
                    exact De.r (HM.o.t.trans T7) hR hD aN q7 (by rw[ao];exact CL aP oM) (IC HX.o.1 _ (fun g e=>by cases e;exact Bc _))
                  obtain⟨w8,aH⟩:=nM (w7.setCell (aD D 1) (lZ al.heap.size rn rn));rw[aH]at M8;have M8:=A9 M8;clear T7 g7 q7 HN ao;go_upto_region 11 with fail;try rw[aH]
                  clear u0 u1 u2 u3 u4 f7 aH v0 v1 v2 v3 v4;obtain⟨a0,c0,a1,c1,a2,c2,a3,c3,b8,I8,F8⟩:=M8.o.img;obtain⟨v0,v1,v2,v3,v4⟩:=five b8;have z8:=(M8.o.t.keep w.heap.size s1 oM).trans z1;obtain⟨z0,z1,z2,z3,z4⟩:=five z8;have y0:=Aq z8;have HF:=A9 F8;have aK:=A9 (aL.o _ _ M8.o.t);clear b8 I8 F8 z8 M8;go_wp2_with fail;refine AY (v:=.agg #[iI (g.toNat:Int),.slice a0 ((lk.take rn).map Bu).length c0,.slice a1 SS.length c1,.slice a2 ([]:List Int).length c2,.slice a3 Sk.length c3]) (by simp[results,results172,go_sem,z0,z1,z2,z3,z4];first|done|omega) rfl (B3 ⟨_,_,hE.o,a0,c0,a1,c1,a2,c2,a3,c3,rfl,?_,?_⟩)
                  · exact((((aK.o.other lE au _).other lE au _).other lE au _).other lE au _).other lE au _
                  · intro Y hY
                    refine HF.o _ (fun q hq hl=>?_);have hne:q≠w.heap.size:=oM;rw[hY q oM (by simpa using hl),AN _ (aD w.heap.size 4) _ q hne,AN _ (aD w.heap.size 3) _ q hne,AN _ (aD w.heap.size 2) _ q hne,AN _ (aD w.heap.size 1) _ q hne,AN _ (aZ w.heap.size) _ q hne]
                · have hE:Hd (E7 (g::n::L2)=none):=by
                    show E7 _=_
                    rw[ak];unfold FN;rw[Aa hrl];rfl
                  exact absurd (Hpi.o.symm.trans hE.o) (by nofun)
end
section
open Go.Lib
theorem Qu {L:List UInt8}(h:Gj L=some m):E7 L=some (m,[]):=by
 unfold Gj at h
 cases hp:E7 L with
 | none=>rw[hp]at h;cases h
 | some p=>
  obtain⟨a,r⟩:=p;rw[hp]at h;have h:(if r=[] then some a else none)=some m:=h
  by_cases hr:r=[]
  ·rw[Ab hr]at h;cases h;rw[hr]
  ·rw[Aa hr]at h;cases h
theorem dJ (L:List UInt8)(w:World)(hm:L.length<=4096)(mp:Ac)(Hpa:Hd (Gj L=some mp)):Cl 117 #[.string (Ai L)] w (VH w L):=by
 let V:=(((w.alloc zI).alloc (.cells #[.bool false] 4)).alloc (.cells #[.string (Ai L)] 180))
 have an:∀ (fn:Fn) (first cap:Array Value) (w:World),(Instr.makeFunc fn first cap).run prog w=.ok (.func fn first cap) w:=fun _ _ _ _=>rfl
 have m0:V.heap[w.heap.size]?=some zI:=Aj (Aj (Aw _ _) _) _;have m1:V.heap[w.heap.size+1]?=some (.cells #[.bool false] 4):=Aj (AR (by simp[V])) _;have m2:V.heap[w.heap.size+1+1]?=some (.cells #[.string (Ai L)] 180):=AR (by simp[V]);have ah:V.heap.size=w.heap.size+1+1+1:=by simp[V]
 have b0:Bw w V:=((Av).alloc (by simp[V]) _).alloc (by simp[V]<;>omega) _;have ae:=A9 (YO (w.heap.size+1+1) L V m2 hm _ (Qu Hpa.o));have HM:=A9 (AW m0 (AW m1 (AW ah b0)));clear m0 m1 m2 ah b0;dsimp only[V]at *;clear V
 go_enter_defers func117,ntmps117
 go_wp2_with fail;refine ae.o.mono ?_;rintro e W' (⟨m,r,hp,a0,c0,a1,c1,a2,c2,a3,c3,rfl,T,F⟩|⟨hp,rfl,l',T⟩)
 ·dsimp only;have bb:Bw w W':=eH HM.o.2.2.2 HM.o.2.2.1 oM T;have k0:=(T.keep w.heap.size (by rw[HM.o.2.2.1];omega) oM).trans HM.o.1;have k1:=(T.keep (w.heap.size+1) (by rw[HM.o.2.2.1];omega) oM).trans HM.o.2.1;have k2:=T.box;have sz:=HM.o.2.2.1;have x0:=five k0;have f0:=Aq k0;have g0:=Bf k0 0 (iI m.g);have g1:=Bf g0 1 (.slice a0 m.r.length c0);have g2:=Bf g1 2 (.slice a1 m.s.length c1);have g3:=Bf g2 3 (.slice a2 m.f.length c2);have g4:=Bf g3 4 (.slice a3 m.p.length c3);obtain⟨W4,aa⟩:=nM (((((W'.setCell (aZ w.heap.size) (iI m.g)).setCell (aD w.heap.size 1) (.slice a0 m.r.length c0)).setCell (aD w.heap.size 2) (.slice a1 m.s.length c1)).setCell (aD w.heap.size 3) (.slice a2 m.f.length c2)).setCell (aD w.heap.size 4) (.slice a3 m.p.length c3));have ac:∀q,q≠w.heap.size->W4.heap[q]?=W'.heap[q]?:=fun q hq=>by rw[<-aa,AN _ (aD w.heap.size 4) _ q hq,AN _ (aD w.heap.size 3) _ q hq,AN _ (aD w.heap.size 2) _ q hq,AN _ (aD w.heap.size 1) _ q hq,AN _ (aZ w.heap.size) _ q hq]
  have af:Bw w W4:=by rw[<-aa];exact((((bb.setCell (p:=(aZ w.heap.size)) lE _).setCell (p:=(aD w.heap.size 1)) lE _).setCell (p:=(aD w.heap.size 2)) lE _).setCell (p:=(aD w.heap.size 3)) lE _).setCell (p:=(aD w.heap.size 4)) lE _
  rw[aa]at g4;have k1:=(ac (w.heap.size+1) oM).trans k1;have k2:=(ac (w.heap.size+1+1) oM).trans k2;have HF:=A9 F;have Hk:=A9 (AW ac af);have Hz:=A9 sz;have r0:W4.cell? (aZ (w.heap.size+1+1))=some (.string (Ai r)):=by simp only[World.cell?,k2];rfl
  have HT:=A9 T;have ai:=A9 g4;have aj:=A9 k1;clear g0 g1 g2 g3 F T k2 sz ac af bb k0;go_upto_region 4 with fail;try rw[aa]
  clear x0 aa ae
  by_cases hr:r=[]
  ·subst hr;have hs:((Ai ([]:List UInt8)).toList == [])=true:=jh (by rw[Cx];rfl);have am:((Ai ([]:List UInt8)).toList != [])=false:=by rw[bne,hs];rfl
   obtain⟨u,hu⟩:=nM (Ai ([]:List UInt8));rw[hu]at r0 hs am;clear hu;have ab:Gj L=some m:=by unfold Gj;rw[hp];rfl
   have Hy:=A9 ab;have v0:=five g4;have f0:=Aq g4;have b1:W4.cell? (aZ (w.heap.size+1))=some (.bool false):=by simp only[World.cell?,k1];rfl
   have bf:=Aq k1 0;clear ab hp g4 k1;go_wp2_with fail;obtain⟨W6,ad⟩:∃X,X=(((((W4.setCell (aZ w.heap.size) (iI m.g)).setCell (aD w.heap.size 1) (.slice a0 m.r.length c0)).setCell (aD w.heap.size 2) (.slice a1 m.s.length c1)).setCell (aD w.heap.size 3) (.slice a2 m.f.length c2)).setCell (aD w.heap.size 4) (.slice a3 m.p.length c3)).setCell (aZ (w.heap.size+1)) (.bool true):=⟨_,rfl⟩;obtain⟨e1,e2,e3,e4⟩:=gZ ai.o aj.o oM ad;have ak:=e4 _ _ lE (Cw _) Hk.o.2;have al:∀Y:World,(∀q,w.heap.size<=q->q<W6.heap.size->Y.heap[q]?=W6.heap[q]?)->Al Y (.agg (aI m a0 c0 a1 c1 a2 c2 a3 c3)) m:=fun Y hY=>HF.o _ (fun q hq hl=>by
    have hz:=Hz.o;have ag:q≠w.heap.size:=oM;have h6:=(e3 q ag oM).trans (Hk.o.1 q ag);refine(hY q oM ?_).trans h6;rw[IU hl]at h6;exact(AA h6))
   rw[<-ad];clear ad e3 e4;have z0:=five e1;have ce:W6.cell? (aZ (w.heap.size+1))=some (.bool true):=by simp only[World.cell?,e2];rfl
   clear e1 e2;refine JJ (f:=171) (args:=#[pZ w.heap.size,pZ (w.heap.size+1)]) (by simp) (by simp[go_sem]) ?_;refine(dM _ _ _).mono ?_;rintro e u' ao ⟨rfl,rfl,rfl⟩;refine⟨.tuple #[(.agg (aI m a0 c0 a1 c1 a2 c2 a3 c3)),.bool true],?_,B3 ⟨m,Hy.o,a0,c0,a1,c1,a2,c2,a3,c3,rfl,al,ak⟩⟩;simp[results,results117,go_sem,z0,ce]
  ·exact absurd (congrArg (fun x=>x.2) (BJ (hp.symm.trans (Qu Hpa.o)))) hr
 ·exact absurd ((Qu Hpa.o).symm.trans hp) (by nofun)
end
section
open Go.Lib
def O5 (w:World) (M:Ac) (r:Ending) (w':World):Prop:=∃a0 c0 a1 c1 a2 c2 a3 c3,r=.returned (.tuple #[.agg #[iI M.g,.slice a0 M.r.length c0,.slice a1 M.s.length c1,.slice a2 M.f.length c2,.slice a3 M.p.length c3],iI 0])/\(∀W',(∀q,w.heap.size<=q->q<w'.heap.size->W'.heap[q]?=w'.heap[q]?)->Al W' (.agg #[iI M.g,.slice a0 M.r.length c0,.slice a1 M.s.length c1,.slice a2 M.f.length c2,.slice a3 M.p.length c3]) M)/\Bw w w'
theorem kf (u:ByteArray)(w:World)(h:¬4096<u.size)(m:Ac)(hp:Gj (bytes u)=some m)(hC:∀ (W:World) a0 c0 a1 c1 a2 c2 a3 c3,Al W (.agg (aI m a0 c0 a1 c1 a2 c2 a3 c3)) m->Cl 118 #[(.agg (aI m a0 c0 a1 c1 a2 c2 a3 c3))] W (RD W m a0 c0 a1 c1 a3 c3)):Cl 61 #[.string u] w (O5 w (Fx m)):=by
 have m0:(w.alloc zI).heap[w.heap.size]?=some zI:=Aw _ _;have b0:Bw w (w.alloc zI):=Av;have hi:¬(4096:Int)<(u.size:Int):=oM;have hz:(w.alloc zI).heap.size=w.heap.size+1:=by simp
 have hlen:(bytes u).length<=4096:=by rw[show (bytes u).length=u.size by unfold bytes;rfl];omega
 have HP:Hd (Cl 117 #[.string u] (w.alloc zI) fun e W'=>∃a0 c0 a1 c1 a2 c2 a3 c3,e=.returned (.tuple #[(.agg (aI m a0 c0 a1 c1 a2 c2 a3 c3)),.bool true])/\(∀Y:World,(∀q,(w.alloc zI).heap.size<=q->q<W'.heap.size->Y.heap[q]?=W'.heap[q]?)->Al Y (.agg (aI m a0 c0 a1 c1 a2 c2 a3 c3)) m)/\Below (w.alloc zI).heap.size (w.alloc zI) W'):=by
  have:=dJ (bytes u) (w.alloc zI) hlen m hp;rw[Kx]at this;refine this.mono fun e W' hA=>?_
  rcases hA with⟨m',hq,hA⟩|⟨hq,_⟩
  ·rw[hp]at hq;cases hq;exact hA
  ·rw[hp]at hq;cases hq
 have HM:=A9 (AW m0 (AW b0 hz));have HC:=A9 hC;have Hp:=A9 hp;clear m0 b0 hz hlen hp h hC
 go_enter func61,ntmps61
 go_wp2_with fail;refine HP.o.mono ?_;rintro e W' ⟨a0,c0,a1,c1,a2,c2,a3,c3,rfl,I1,b1⟩;have k0:=Ag HM.o.1 b1 (by rw[HM.o.2.2];omega);have HB:=A9 (show Bw w W' from HM.o.2.1.trans (b1.mono (by rw[HM.o.2.2];omega)));have ne:¬w.heap.size=W'.heap.size:=by have:=b1.size;rw[HM.o.2.2]at this;omega
 have al:¬W'.heap.size=w.heap.size:=fun e=>ne e.symm
 have aj:=HB.o.size;have HK:=A9 k0;have I2:=I1 (W'.alloc (cA m a0 c0 a1 c1 a2 c2 a3 c3)) (fun q _ hl=>Ch _ _ q hl);have ac:=A9 (HC.o _ _ _ _ _ _ _ _ _ I2);have ag:=A9 I1;clear k0 b1 I1 I2 HC HP;go_wp2_with fail;refine ac.o.mono ?_;rintro e W2 ⟨g,hg,rfl,L3,b3⟩;have aa:∀o:Obj,(W'.alloc o).heap.size=W'.heap.size+1:=fun o=>by simp
 have k1:=Ag (Aj HK.o _) b3 (by rw[aa];omega);have y0:=five k1;have f0:=Aq k1;have af:=A9 (show Bw w W2 from (HB.o.alloc aj _).trans (b3.mono (by rw[aa];omega)));have ai:=A9 (show ∀q,q<W'.heap.size->W2.heap[q]?=W'.heap[q]? from fun q hq=>(b3.block q (by rw[aa];omega)).trans (Ch _ _ q hq));have ah:=A9 k1;have HL:=A9 (AW L3 hg);clear b3 k1 ac aa L3 hg;go_wp2_with fail;obtain⟨W3,ab⟩:∃X,X=((((W2.setCell (aZ w.heap.size) (iI m.g)).setCell (aD w.heap.size 1) (.slice a0 m.r.length c0)).setCell (aD w.heap.size 2) (.slice a1 m.s.length c1)).setCell (aD w.heap.size 3) (lZ g m.s.length m.s.length)).setCell (aD w.heap.size 4) (.slice a3 m.p.length c3):=⟨_,rfl⟩;obtain⟨j0,j1,j2⟩:=gW ah.o ab;have z0:=five j0;rw[<-ab];clear ab;have ae:=HL.o.2;have ak:g≠w.heap.size:=by simp at ae;omega
 have ad:Bz W3 g (AL m):=(j1 g ak).trans HL.o.1;have hlen:(Fx m).f.length=m.s.length:=EK m;have hs:=TZ Hp.o;refine AY (v:=.tuple #[.agg #[iI m.g,.slice a0 m.r.length c0,.slice a1 m.s.length c1,lZ g m.s.length m.s.length,.slice a3 m.p.length c3],iI 0]) (by simp[results,results61,go_sem,z0]) rfl ⟨a0,c0,a1,c1,some (aZ g),m.s.length,a3,c3,by rw[hlen];rfl,fun Y hY=>?_,j2 _ _ lE af.o⟩;rw[hlen];have hI:=ag.o Y (fun q hq hl=>by
  rw[HM.o.2.2]at hq;have e3:=(j1 q oM).trans (ai.o q hl);exact(hY q oM (by rw[IU hl]at e3;exact(AA e3))).trans e3)
 exact PW hI Eu (Bz.sl ((hY g (by simp at ae;omega) (AA ad)).trans ad) (EK m) (by unfold maxLen;omega))
theorem kg (u:ByteArray)(w:World){m0:Ac}(hr:Jn u=(m0,0)):Cl 61 #[.string u] w (O5 w m0):=by
 by_cases h:4096<u.size
 ·rw[eD h]at hr;exact absurd (show (2:Int)=0 from congrArg Prod.snd hr) dE
 cases hp:Gj (bytes u) with
 | none=>
  rw[Qz h (by unfold Ie;rw[hp];rfl)]at hr;exact absurd (show (1:Int)=0 from congrArg Prod.snd hr) dE
 | some m=>
  have hs:=TZ hp
  by_cases h1:As (Jz m)=0
  ·by_cases h2:Ao (Fx m)=0
   ·rw[eE (m:=Fx m) h (by unfold Ie;rw[hp];show (if ID m=true then some (Fx m) else none)=_;rw[Ab (by unfold ID;rw[h1,h2];rfl)])]at hr;have e:Fx m=m0:=congrArg Prod.fst hr;rw[<-e];exact kf u w h m hp (fun W a0 c0 a1 c1 a2 c2 a3 c3 hI=>WO a0 c0 a1 c1 a2 c2 a3 c3 m W hI oM h1 h2)
   ·rw[Qz h (by unfold Ie;rw[hp];show (if ID m=true then some (Fx m) else none)=_;rw[Aa (by unfold ID;intro x;simp only[B5,DH]at x;exact h2 x.2)])]at hr;exact absurd (show (1:Int)=0 from congrArg Prod.snd hr) dE
  ·rw[Qz h (by unfold Ie;rw[hp];show (if ID m=true then some (Fx m) else none)=_;rw[Aa (by unfold ID;intro x;simp only[B5,DH]at x;exact h1 x.1)])]at hr;exact absurd (show (1:Int)=0 from congrArg Prod.snd hr) dE
end
theorem VO (h:BW w b o m)(hR:Ao m=0)(hV:Lv B w)(hB:B<=b):Cl 23 #[pZ b,.string ⟨#[109,97,112]⟩] w (B8 w b o m (0,m,E5 m)):=by
 have HC:=Ah (Xq h hR hV hB);have HD:=Ah h;have HL:Hd (b<w.heap.size):=by obtain⟨_,_,_,_,_,_,_,_,hb,_⟩:=h;exact(AA hb)
 clear h hR hV hB
 go_enter func23,ntmps23
 go_wp2_with fail;refine HC.o.mono ?_;rintro e w1 ⟨rfl,b1⟩;dsimp only;go_wp2_with fail;go_ret;exact B8.yes (HD.o.on b1.block) (Fr.of b1 HL.o) rfl rfl
theorem VS (h:BW w b o m)(hV:Lv B w)(hB:B<=b)(hS:AD m.s=0)(h40:m.s.length<=40):Cl 23 #[pZ b,.string ⟨#[117,115,101,100]⟩] w (B8 w b o m (0,m,Lib.decDigits (Cc m.s)++32::Lib.decDigits m.s.length)):=by
 have HD:=Ah h;obtain⟨ra,rc,sa,sc,fa,fc,na,nc,hb,hI⟩:=h;have hlt:=(AA hb);have hu:Cc m.s<=40:=Bg MF h40;have HU:=Ah (Vn ((hI w.drew fun _ _ _ _=>rfl).four.2.1) hS rfl);have HP:=Ah (fun W (hW:Bw w W)=>dH (Cc m.s) m.s.length oM oM W (hV.to oM hW).at);have HL:=Ah hlt;clear hI hV hB hS hlt hu h40
 go_enter func23,ntmps23
 go_wp2_with fail;refine BT (S:=fun X:World=>X.heap[b]?=some (.cells (aI m ra rc sa sc fa fc na nc) 37)) kR hb (fun hHeld=>?_);refine Ar 0 (pZ b) ?_;refine Ar 1 (pZ b) ?_;refine Ar 2 (pZ b) ?_;refine Ar 3 (pQ b 2) ?_;refine Cs 4 (.slice sa m.s.length sc) ?_;refine Ar 9 (pZ b) ?_;refine Ar 10 (pZ b) ?_;refine Ar 11 (pZ b) ?_;refine Ar 12 (pQ b 2) ?_;refine Cs 13 (.slice sa m.s.length sc) ?_;refine Ar 14 (iI (m.s.length:Int)) ?_;refine AC 5 rfl (fun K hK=>?_);clear hHeld;simp only[lays];rw[Ab (by rfl)];go_wp2_with fail;refine HU.o.mono ?_;rintro e w1 ⟨rfl,b1⟩;dsimp only;have b1:=BR b1;refine hK.out _ _ ((b1.block b HL.o).trans hb) (fun hHeld=>?_);clear hK K;refine Ar 6 (iI (Cc m.s:Int)) ?_;refine Ar 7 (iI 0) ?_;refine AC 8 rfl (fun K hK=>?_);simp only[lays];rw[Ab (by rfl)];go_wp2_with fail;refine(Um _ _).mono ?_;rintro e w2 ⟨rfl,hw⟩;rw[hw];clear hw;dsimp only;refine hK.out _ _ ((b1.block b HL.o).trans hb) (fun hHeld=>?_);clear hK K;refine AC 15 rfl (fun K hK=>?_);simp only[lays];rw[Ab (by rfl)];go_wp2_with fail;refine(HP.o w1 b1).mono ?_;rintro e w2 ⟨rfl,b2⟩;dsimp only;have aa:=Below.on b1 b2;refine hK.out _ _ ((aa.block b HL.o).trans hb) (fun hHeld=>?_);clear hK K;refine AC 16 rfl (fun K hK=>?_);simp only[lays];rw[Ab (by rfl)];go_wp2_with fail;refine hK.out _ _ ((aa.block b HL.o).trans hb) (fun hHeld=>?_);clear hK K;refine BQ kR ?_ _;go_wp2_with fail;go_ret;exact B8.yes (HD.o.on aa.block) (Fr.of aa HL.o) rfl rfl
theorem VR (h:BW w b o m)(ho:o<w.heap.size)(hV:Lv B w)(hB:B<=b)(S:ByteArray)(n:Nat)(hS:S.size=n)(hn:n<=4096)(HW:Hd (∀ (W:World) (v:Value),Al W v m->Cl 60 #[v] W fun r w'=>r=.returned (.tuple #[.string S,iI 0])/\Bw W w'))(HR:Hd (∀W,Cl 61 #[.string S] W (O5 W m))):Cl 23 #[pZ b,.string ⟨#[115,97,118,101]⟩] w (B8 w b o m (0,m,Lib.decDigits n)):=by
 obtain⟨ra,rc,sa,sc,fa,fc,na,nc,hb,hI⟩:=h;have hlt:=(AA hb);have HI:=Ah (hI w fun _ _ _ _=>rfl);have HP:=Ah (fun W (hW:Below b w W)=>LZ n oM W (hV.on (hW.mono hB)).at);have HL:=Ah hlt;have ae:=Ah ho;clear hI hV hB hlt ho hn;have c0:=five hb
 go_enter func23,ntmps23
 go_wp2_with fail;refine(HW.o w _ HI.o).mono ?_;rintro e w1 ⟨rfl,b1⟩;dsimp only;have aa:=b1.size;clear c0;go_wp2_with fail;refine(Un _ _).mono ?_;rintro e w2 ⟨rfl,hw⟩;rw[hw];clear hw;dsimp only;go_wp2_with fail;refine(HR.o w1).mono ?_;rintro e w2 ⟨qa,qc,pa,pc,ka,kc,ja,jc,rfl,hY,b2⟩;dsimp only;have ad:=(b2.block b (AO HL.o aa)).trans ((b1.block b HL.o).trans hb);have HY:=Ah hY;clear hY;go_wp2_with fail;refine(Mg _ _ _ _ _ _ _ _ _ _ _ _ _ _).mono ?_;rintro e w3 ⟨rfl,b3⟩;dsimp only;have l2:b<w2.heap.size:=(AA ad);have ac:=(b3.block b l2).trans ad;have c0:=five ac;have y0:=Aq ac;go_upto_region 12 with fail;obtain⟨W4,ab⟩:=nM (((((w3.setCell (aZ b) (iI m.g)).setCell (aD b 1) (.slice qa m.r.length qc)).setCell (aD b 2) (.slice pa m.s.length pc)).setCell (aD b 3) (.slice ka m.f.length kc)).setCell (aD b 4) (.slice ja m.p.length jc));rw[ab];have HW:=Ah (BW.set ac (AO HL.o aa) (AO ae.o aa) (fun Y hY=>HY.o Y fun q hq hl=>(hY q hq (Ea hl (b3.block q hl))).trans (b3.block q hl)) ab);have HF:=Ah (((Fr.of b1 HL.o).trans (Fr.of b2 (AO HL.o aa))).trans (Fr.of b3 l2));clear ab c0 y0;have HB:Hd (Below b w W4):=(HF.o.trans HW.o.2).1;go_wp2_with fail;refine(HP.o W4 HB.o).mono ?_;rintro e w5 ⟨rfl,b5⟩;dsimp only;go_wp2_with fail;go_ret;have l4:b<W4.heap.size:=by obtain⟨_,_,_,_,_,_,_,_,hb,_⟩:=HW.o.1;exact(AA hb)
 exact B8.yes (HW.o.1.on b5.block) ((HF.o.trans HW.o.2).trans (Fr.of b5 l4)) rfl rfl
theorem CH {x:ByteArray}(h:x.data.toList≠l):(x.toList == l)=false:=by rw[IX];exact FA.2 h
theorem VP (h:BW w b o m)(x:ByteArray)(n0:x.data.toList≠[112,97,99,107])(n1:x.data.toList≠[109,97,112])(n2:x.data.toList≠[117,115,101,100])(n3:x.data.toList≠[115,97,118,101]):Cl 23 #[pZ b,.string x] w (B8 w b o m (1,AZ,[])):=by
 have HD:=Ah h;have HL:Hd (b<w.heap.size):=by obtain⟨_,_,_,_,_,_,_,_,hb,_⟩:=h;exact(AA hb)
 have q0:=CH n0;have q1:=CH n1;have q2:=CH n2;have q3:=CH n3;clear h n0 n1 n2 n3
 go_enter func23,ntmps23
 go_wp2_with fail;exact⟨rfl,B8.no HD.o HL.o Eu rfl dE⟩
theorem jo (h:BW w b o m)(x r:ByteArray)(n0:x.data.toList≠[114,101,97,100])(n1:x.data.toList≠[115,105,122,101])(n2:x.data.toList≠[119,105,112,101])(n3:x.data.toList≠[112,117,110,99,104])(n4:x.data.toList≠[119,114,105,116,101])(n5:x.data.toList≠[115,110,97,112])(n6:x.data.toList≠[98,97,99,107])(n7:x.data.toList≠[100,114,111,112]):Cl 22 #[pZ b,.string x,.string r] w (B8 w b o m (1,AZ,[])):=by
 have HD:=Ah h;have HL:Hd (b<w.heap.size):=by obtain⟨_,_,_,_,_,_,_,_,hb,_⟩:=h;exact(AA hb)
 have q0:=CH n0;have q1:=CH n1;have q2:=CH n2;have q3:=CH n3;have q4:=CH n4;have q5:=CH n5;have q6:=CH n6;have q7:=CH n7;clear h n0 n1 n2 n3 n4 n5 n6 n7
 go_enter func22,ntmps22
 go_wp2_with fail;exact⟨rfl,B8.no HD.o HL.o Eu rfl dE⟩

abbrev Dx (a b:ByteArray):Bool:=Op.bytesLess a.toList b.toList
theorem NL:∀ {x y z:List UInt8},Op.bytesLess x y=true->Op.bytesLess y z=true->Op.bytesLess x z=true
 | _,_,[],_,h=>by simp[Op.bytesLess]at h
 | _,[],_::_,h,_=>by simp[Op.bytesLess]at h
 | [],_::_,_::_,_,_=>rfl
 | a::x,b::y,c::z,h,k=>by
  simp only[Op.bytesLess,Kd,B5,C4,DH]at h k ⊢;rcases h with h|⟨rfl,h⟩
  ·rcases k with k|⟨rfl,_⟩
   ·exact .inl (by rw[JH]at h k ⊢;omega)
   ·exact .inl h
  ·rcases k with k|⟨rfl,k⟩
   ·exact .inl k
   ·exact .inr ⟨rfl,NL h k⟩
theorem ZB {x y:List UInt8}(h:Op.bytesLess x y=false)(hne:x≠y):Op.bytesLess y x=true:=by
 have:=LK x y;rw[h,EF]at this;have e:(x == y)=false:=by simpa using hne
 rw[e]at this
 simpa using this.symm
theorem ZA (x:List UInt8):Op.bytesLess x x=false:=by
 have:=LK x x;simp at this
 cases e:Op.bytesLess x x with
 | false=>rfl
 | true=>rw[e]at this;simp at this
def Iw (S:List AE):Prop:=(∀s∈S,BG s.1=true)/\S.Pairwise (fun a b=>Dx a.1 b.1=true)
theorem GF (S:List AE):Cr S=true↔Iw S:=by
 unfold Cr Iw;rw[Ax]
 constructor
 ·intro h;have hk:∀k,k<S.length->CJ S k=true:=fun k hk=>h k (by simpa using hk)
  refine⟨fun s hs=>?_,?_⟩
  ·obtain⟨j,hj,rfl⟩:=Ee hs;have:=hk j hj;unfold CJ at this;simp only[B5]at this;have h1:=this.1
   rwa [show S.getD j default=S[j] by simp[List.getD,hj]]at h1
  ·rw[MQ];have aa:∀i,(hi:i+1<S.length)->Dx S[i].1 S[i+1].1=true:=fun i hi=>by
    have:=hk (i+1) hi;rw[NQ hi oM]at this;simp only[B5]at this;exact this.2
   have ab:∀d i,(hd:i+d+1<S.length)->Dx (S[i]'oM).1 (S[i+d+1]).1=true:=by
    intro d
    induction d with
    | zero=>intro i hd;exact aa i hd
    | succ d ih=>intro i hd;exact NL (ih i oM) (aa (i+d+1) oM)
   intro i j hi hj ac;obtain⟨d,rfl⟩:∃d,j=i+d+1:=⟨j-i-1,oM⟩;exact ab d i hj
 ·rintro⟨h1,h2⟩ k hk;have hk:k<S.length:=by simpa using hk
  rw[MQ]at h2;rcases Eg k with e|e
  ·subst e;rw[Qf hk];exact h1 _ (BS hk)
  ·rw[NQ hk e,h1 _ (BS hk),Ff];exact h2 (k-1) k oM hk oM
def IF (S:List AE) (s:AE):List AE:=S.takeWhile (fun x=>Dx x.1 s.1)++s::S.dropWhile (fun x=>Dx x.1 s.1)
theorem Y5 (S:List AE)(s:AE):(IF S s).length=S.length+1:=by
 unfold IF;have:=congrArg List.length (OQ (p:=fun x:AE=>Dx x.1 s.1) (l:=S));rw[Bl]at this;rw[Bl,BF];omega
theorem Qe {x:AE}:x∈IF S s↔x=s\/x∈S:=by
 unfold IF;have e:=OQ (p:=fun x:AE=>Dx x.1 s.1) (l:=S)
 constructor
 ·intro h;rcases GR.1 h with h|h
  ·exact .inr (e ▸ JC _ h)
  ·rcases Ir.1 h with h|h
   ·exact .inl h
   ·exact .inr (e ▸ Lz _ h)
 ·rintro(rfl|h)
  ·exact Lz _ CD
  ·rw[<-e]at h;rcases GR.1 h with h|h
   ·exact JC _ h
   ·exact Lz _ (CA _ h)
theorem To {p:AE->Bool}:∀ {l:List AE} {x:AE},x∈l.takeWhile p->p x=true
 | [],x,h=>by cases h
 | a::l,x,h=>by
  rw[Ki]at h
  split at h
  ·rename_i hp
   rcases Ir.1 h with rfl|h
   ·exact hp
   ·exact To h
  ·cases h
theorem Y6 (h:Iw S)(hs:BG s.1=true)(hne:∀x∈S,x.1.toList≠s.1.toList):Iw (IF S s):=by
 refine⟨fun x hx=>?_,?_⟩
 ·rcases Qe.1 hx with rfl|hm
  ·exact hs
  ·exact h.1 x hm
 ·have e:=OQ (p:=fun x:AE=>Dx x.1 s.1) (l:=S);have hp:=h.2;rw[<-e,List.pairwise_append]at hp;have aa:∀y∈S.dropWhile (fun x=>Dx x.1 s.1),Dx s.1 y.1=true:=by
   cases hd:S.dropWhile (fun x=>Dx x.1 s.1) with
   | nil=>intro y hy;cases hy
   | cons x r=>
    have hx:Dx x.1 s.1=false:=by
     have:=List.head?_dropWhile_not (fun x:AE=>Dx x.1 s.1) S;rw[hd]at this
     simpa using this
    have ac:x∈S:=e ▸ Lz _ (by rw[hd];exact CD);have ab:Dx s.1 x.1=true:=ZB hx (hne x ac);rw[hd]at hp;intro y hy;rcases Ir.1 hy with rfl|hy
    ·exact ab
    ·exact NL ab (List.rel_of_pairwise_cons hp.2.1 hy)
  unfold IF;rw[List.pairwise_append,List.pairwise_cons];refine⟨hp.1,⟨aa,hp.2.1⟩,fun a ha b hb=>?_⟩;rcases Ir.1 hb with rfl|hb
  ·exact To (p:=fun x:AE=>Dx x.1 b.1) ha
  ·exact hp.2.2 a ha b hb
theorem Ul (h:As m=0)(h3:S.length<=3)(hn:Cr S=true)(hf:∀s∈S,BK s.2.1=true/\Bk m.s s.2.1 s.2.2=true):As {m with p:=S} = 0:=by
 obtain⟨z1,z2,z3,z4,z5,z6,z7⟩:=Au h;have aa:(BN {m with p:=S}).all (fun s=>BK s.2.1)=true:=by
  show (((⟨#[]⟩,m.g,m.r):AE)::S).all _=true
  rw[GP,Ax.2 (fun s hs=>(hf s hs).1),OA];exact PV h
 have hall:(BN {m with p:=S}).all (fun s=>Bk m.s s.2.1 s.2.2)=true:=by
  show (((⟨#[]⟩,m.g,m.r):AE)::S).all _=true
  rw[GP,Ax.2 (fun s hs=>(hf s hs).2),OA];exact QG h
 unfold As;rw[Aa (by show ¬3<S.length;omega),Aa (by show ¬AD m.s≠0;simpa using z2),Aa,Aa (by rw[aa];decide),Aa (by show ¬Cm m.s=false;rw[z6];decide),Aa (by show ¬((BN {m with p:=S}).all fun s=>Bk m.s s.2.1 s.2.2)=false;rw[hall];decide)];rintro(e|e)
 ·exact e z3
 ·have:Cr S=false:=e;rw[hn]at this;cases this
theorem Oc (h:As m=0)(hs:s∈m.p):BK s.2.1=true/\Bk m.s s.2.1 s.2.2=true:=
 ⟨Ax.1 (Au h).2.2.2.2.1 s (CA _ hs),Ax.1 (Au h).2.2.2.2.2.2 s (CA _ hs)⟩
def Je (m:Ac) (nm:ByteArray):Ac:={m with p:=IF m.p (nm,m.g,m.r)}
def Ih (m:Ac) (k:Nat):Ac:={m with g:=(m.p.getD k default).2.1,r:=(m.p.getD k default).2.2}
def Dk (m:Ac) (k:Nat):Ac:={m with p:=m.p.eraseIdx k}
theorem QU (h:BU S nm=none):∀x∈S,x.1.toList≠nm.toList:=fun x hx e=>by
 unfold BU at h;rw[List.findIdx?_eq_none_iff]at h;have:=h x hx;simp[e]at this
theorem WX (h:As m=0)(hn:BG nm=true)(hx:BU m.p nm=none)(h3:m.p.length<3):As (Je m nm)=0:=by
 refine Ul h (by rw[Y5];omega) ((GF _).2 (Y6 ((GF _).1 (Au h).2.2.2.1) hn (QU hx))) (fun s hs=>?_);rcases Qe.1 hs with rfl|hs
 ·exact⟨PV h,QG h⟩
 ·exact Oc h hs
theorem fp (h:As m=0)(hk:k<m.p.length):As (Ih m k)=0:=by
 have hm:m.p.getD k default∈m.p:=by rw[show m.p.getD k default=m.p[k] by simp[List.getD,hk]];exact BS hk
 exact QB h (Oc h hm).1 (Oc h hm).2
theorem Xo (h:As m=0)(k:Nat):As (Dk m k)=0:=by
 have aa:=List.eraseIdx_sublist m.p k;obtain⟨n1,n2⟩:=(GF _).1 (Au h).2.2.2.1;refine Ul h (Bg aa.length_le (Au h).1) ((GF _).2 ⟨fun s hs=>n1 s (aa.subset hs),n2.sublist aa⟩) (fun s hs=>Oc h (aa.subset hs))
theorem jn (h:As m=0)(hM:As M=0)(hs:M.s=m.s)(hsub:∀x∈AV m,x∈AV M)(hj:j<m.s.length)(hc:(AL m).getD j 0≠0):(AL M).getD j 0≠0:=by
 obtain⟨j1,aa⟩:=Pl h hj hc;rcases aa with⟨hk,hm⟩|⟨hk,k,k1,hkm,hk2,hjm⟩
 ·exact(Il hM (hsub _ hm) j1).2.2
 ·exact(Q8 hM (hsub _ hkm) k1 (by rw[hs];exact hjm) j1).2.2
theorem iF (hC:Ao m=0)(hM:As M=0)(hs:M.s=m.s)(hsub:∀x∈AV m,x∈AV M):(At M).s=m.s:=by
 have h:=A0 hC;have e0:=congrArg Ac.s (Ni hC);have e0:EP m.s (AL m)=m.s:=e0
 show EP M.s (AL M)=m.s
 rw[hs]
 apply EX
 ·exact KH _ _
 ·intro j h1 h2;rw[D6 h1,D6 h2,JX h2]
  split
  ·rename_i hz
   have hz0:(AL m).getD j 0=0:=EW fun x=>jn h hM hs hsub h2 x hz
   have:=PP (L:=m.s) h2 hz0;rw[e0]at this;exact this.symm
  ·rfl
theorem Vm (L:List An)(c:List Int):Cc (EP L c)<=Cc L:=by
 unfold Cc;have hl:L=(List.range L.length).map (fun j=>L.getD j default):=by
  apply EX
  ·simp
  ·intro j h1 h2;simp[List.getD,h1]
 rw[hl];unfold EP;rw[BH,Ly,List.countP_map,List.countP_map];refine List.countP_mono_left fun j hj=>?_
 have hj:=CR.1 hj;intro hx;simp only[Function.comp_apply]at hx ⊢
 split at hx
 ·simp[C9]at hx
 ·simp[List.getD,hj]at hx ⊢;exact hx
theorem Yh (m:Ac)(nm:ByteArray):∀x∈AV m,x∈AV (Je m nm):=fun x hx=>by
 unfold AV at hx ⊢;rw[I3]at hx ⊢;obtain⟨s,hs,hm⟩:=hx;rcases Ir.1 hs with rfl|hs
 ·exact⟨_,CD,hm⟩
 ·exact⟨s,CA _ (Qe.2 (.inr hs)),hm⟩

theorem Nl {L1 L2:List Value}(h1:L1.length=n*3)(h2:L2.length=n*3)(h:∀q,q<n->L1[q*3]?=L2[q*3]?/\L1[q*3+1]?=L2[q*3+1]?/\L1[q*3+2]?=L2[q*3+2]?):L1=L2:=by
 apply JB
 intro p
 by_cases hp:p<n*3
 ·obtain⟨a,b,c⟩:=h (p/3) oM;have:p=p/3*3\/p=p/3*3+1\/p=p/3*3+2:=oM;rcases this with e|e|e<;>rw[e]<;>assumption
 ·rw[Ed oM,Ed oM]
def skip (k j:Nat):Nat:=if j<k then j else j+1
theorem LU (S:List AE)(k j:Nat):(S.eraseIdx k).getD j default=S.getD (skip k j) default:=by
 unfold skip;simp only[Es,List.getElem?_eraseIdx]
 split<;>rfl
theorem Ss (hk:k<S.length)(qv:Nat->Value):A8 (S.eraseIdx k) (fun j=>qv (skip k j))=(A8 S qv).take (k*3)++(A8 S qv).drop ((k+1)*3):=by
 have hl:=GX S qv;have he:(S.eraseIdx k).length=S.length-1:=by rw[MO,Ab hk]
 have ht:((A8 S qv).take (k*3)).length=k*3:=by rw[BI,hl];omega
 refine Nl (n:=S.length-1) (by rw[GX,he]) (by rw[Bl,CZ,ht,hl];omega) fun q hq=>?_
 obtain⟨a,b,c⟩:=Ew (S:=S.eraseIdx k) (qv:=fun j=>qv (skip k j)) (j:=q) oM;obtain⟨a',b',c'⟩:=Ew (S:=S) (qv:=qv) (j:=skip k q) (by unfold skip;split<;>omega);rw[a,b,c,LU,<-a',<-b',<-c'];unfold skip;simp only[DY,Fg,Gq,ht]
 by_cases h:q<k
 ·rw[Ab h,Ab oM,Ab oM,Ab oM,Ab oM,Ab oM,Ab oM];exact⟨rfl,rfl,rfl⟩
 ·rw[Aa h,Aa oM,Aa oM,Aa oM];exact⟨by congr 1;omega,by congr 1;omega,by congr 1;omega⟩
def GW (val:Nm->Value) (v:Value) (k:Nat):Nm->Value:=fun a=>if a.kind=5 then val (.sr (skip k a.ix)) else if a.kind=3 then v else val a
def Ci (k:Nat) (a:Nm):Nm:=if a.kind=5 then .sr (skip k a.ix) else a
theorem Hq (h:a.kind≠3):GW val v k a=val (Ci k a):=by
 unfold GW Ci
 by_cases e:a.kind=5
 ·rw[Ab e,Ab e]
 ·rw[Aa e,Aa e,Aa h]
theorem Gs (k:Nat)(a:Nm):(Ci k a).kind=a.kind:=by
 unfold Ci
 split
 ·rename_i e;rw[e]
 ·rfl
theorem JR (hk:k<m.p.length)(h:Af (Dk m k) a):Af m (Ci k a):=by
 have he:(m.p.eraseIdx k).length=m.p.length-1:=by rw[MO,Ab hk]
 rcases h with⟨h1,h2⟩|⟨h1,h2⟩|⟨h1,h2⟩
 ·have:a.kind≠5:=oM;unfold Ci;rw[Aa this];exact .inl ⟨h1,h2⟩
 ·have:a.kind≠5:=oM;unfold Ci;rw[Aa this];exact .inr (.inl ⟨h1,h2⟩)
 ·unfold Ci;rw[Ab h1];have h2:a.ix<(m.p.eraseIdx k).length:=h2;exact Af.sr (by unfold skip;split<;>omega)
theorem Se {b:Nm}(h:a≠b):Ci k a≠Ci k b:=fun e=>by
 have hk:=congrArg Nm.kind e;rw[Gs,Gs]at hk
 apply h
 unfold Ci at e
 by_cases h5:a.kind=5
 ·rw[Ab h5,Ab (hk ▸ h5)]at e;have e:=congrArg Nm.ix e;have e:skip k a.ix=skip k b.ix:=e;have:a.ix=b.ix:=by unfold skip at e;split at e<;>split at e<;>omega
  cases a;cases b;simp_all
 ·rw[Aa h5,Aa (hk ▸ h5)]at e;exact e
theorem GD (h:Af m a)(e:a.kind=3):a=.p:=by
 rcases h with⟨h1,h2⟩|⟨h1,h2⟩|⟨h1,h2⟩
 ·cases a;simp_all
 ·omega
 ·omega
theorem OI.del (h:OI W B val m)(hk:k<m.p.length)(hv:W'.ownsRow B 87 3 v (m.p.length-1) ((A8 m.p (fun j=>val (.sr j))).take (k*3)++(A8 m.p (fun j=>val (.sr j))).drop ((k+1)*3)))(hg:W.grownBy W' (val .p).ownBlock)(hb:v.ownBlock=(val .p).ownBlock):OI W' B (GW val v k) (Dk m k):=by
 refine⟨fun a ha=>?_,fun a b ha hb2 hab g hga=>?_⟩
 ·by_cases e:a.kind=3
  ·have ea:=GD ha e;subst ea;rw[<-Ss hk]at hv;have hl:(Dk m k).p.length=m.p.length-1:=by show (m.p.eraseIdx k).length=_;rw[MO,Ab hk]
   show W'.ownsRow B 87 3 v (Dk m k).p.length (A8 (m.p.eraseIdx k) (fun j=>val (.sr (skip k j))))
   rw[hl];exact hv
  ·have hr:=h.row (Ci k a) (JR hk ha);have hne:(val (Ci k a)).ownBlock=none\/(val (Ci k a)).ownBlock≠(val .p).ownBlock:=by
    cases eq:(val (Ci k a)).ownBlock with
    | none=>exact .inl rfl
    | some g=>exact .inr (fun x=>h.apart (Ci k a) .p (JR hk ha) (Af.p m) (fun y=>e (by rw[<-Gs k a,y])) g eq x.symm)
   have hr:=hr.kept hg hne;rw[Hq e];have e1:En (Ci k a)=En a:=by unfold En;rw[Gs]
   have e2:Em (Ci k a)=Em a:=by unfold Em;rw[Gs]
   rw[e1,e2]at hr;rcases ha.cases with rfl|rfl|rfl|rfl|⟨j,rfl,hj⟩|⟨j,rfl,hj⟩
   ·exact hr
   ·exact hr
   ·exact hr
   ·exact absurd rfl e
   ·exact hr
   ·have e3:AP (Dk m k) (.sr j)=AP m (Ci k (.sr j)):=by
     show ((m.p.eraseIdx k).getD j default).2.2.length=(m.p.getD (skip k j) default).2.2.length
     rw[LU]
    have e4:Bn (Dk m k) (GW val v k) (.sr j)=Bn m val (Ci k (.sr j)):=by
     show Ae ((m.p.eraseIdx k).getD j default).2.2=Ae (m.p.getD (skip k j) default).2.2
     rw[LU]
    rw[e3,e4];exact hr
 ·by_cases ea:a.kind=3
  ·have aa:=GD ha ea;have eb:b.kind≠3:=fun x=>hab (aa.trans (GD hb2 x).symm)
   subst aa;rw[Hq eb];exact h.apart .p (Ci k b) (Af.p m) (JR hk hb2) (fun y=>eb (by rw[<-Gs k b,<-y])) g (hb.symm.trans hga)
  ·rw[Hq ea]at hga
   by_cases eb:b.kind=3
   ·have ab:=GD hb2 eb;subst ab;intro x;exact h.apart (Ci k a) .p (JR hk ha) (Af.p m) (fun y=>ea (by rw[<-Gs k a,y])) g hga (hb.symm.trans x)
   ·rw[Hq eb];exact h.apart _ _ (JR hk ha) (JR hk hb2) (Se hab) g hga
theorem Ay.del (h:DK W B D val m)(hB:B<=W.heap.size)(hk:k<m.p.length)(hv:W'.ownsRow B 87 3 v (m.p.length-1) ((A8 m.p (fun j=>val (.sr j))).take (k*3)++(A8 m.p (fun j=>val (.sr j))).drop ((k+1)*3)))(hg:W.grownBy W' (val .p).ownBlock)(hb:v.ownBlock=(val .p).ownBlock):Ay W (W'.setCell (aD D 4) v) B D m val AF (Dk m k) (GW val v k):=by
 have aa:∀q,(∀b,Af m b->(val b).ownBlock≠some q)->∀a,Af (Dk m k) a->(GW val v k a).ownBlock≠some q:=fun q hq a ha=>by
  by_cases e:a.kind=3
  ·have ea:=GD ha e;subst ea
   show v.ownBlock≠some q
   rw[hb];exact hq .p (Af.p m)
  ·rw[Hq e];exact hq _ (JR hk ha)
 have hf:=aa D h.far;have ab:Below B W W':=IV Eu hg hB (fun q e=>((h.own.row .p (Af.p m)).lt q e).1);refine⟨⟨(h.own.del hk hv hg hb).far hf,?_,h.ge,hf⟩,ab.setCell h.ge _,fun q hq hD _ hm=>(AN W' (aD D 4) v q hD).trans (hg.block q hq (fun e=>hm .p (Af.p m) e.symm)),fun q _ _ hm=>aa q hm⟩;have ac:=(hg.block D h.lt (fun e=>h.far .p (Af.p m) e.symm)).trans h.box;exact Bf ac 4 v

theorem JU (a nm:ByteArray)(g:Int)(ra:Option Addr)(rn rc:Nat)(w:World):Cl 164 #[.agg #[.string a,iI g,.slice ra rn rc],.string nm] w fun r w'=>r=.returned (iI (Lib.compareBytes a.data.toList nm.data.toList))/\Bw w w':=by
 have b0:Bw w (w.alloc (oN a g ra rn rc)):=Av
 go_enter func164,ntmps164
 go_wp2_with(go_at_call 165;refine(strings_Compare _ _ _).mono ?_;rintro e w' ⟨rfl,hw⟩;rw[hw];clear hw);go_ret;exact⟨rfl,b0⟩
theorem V7 (b off cap n k:Nat)(nm:ByteArray)(c:Nat->Int)(w:World)(h3:n<=3)(hlt:b<w.heap.size)(HC:Hd (∀j,j<n->∃ (a:ByteArray) (g:Int) (ra:Option Addr) (rn rc:Nat),w.cell? (aD b (off+j*3))=some (.string a)/\w.cell? (aD b (off+j*3+1))=some (iI g)/\w.cell? (aD b (off+j*3+1+1))=some (.slice ra rn rc)/\Lib.compareBytes a.data.toList nm.data.toList=c j))(hk:k<=n)(HL:Hd (∀j,j<n->(c j<0↔j<k))):Cl 163 #[lD b off n cap,.string nm,.func (.func 164) #[] #[]] w fun r w'=>r=.returned (.tuple #[iI (k:Int),.bool (decide (k<n) && c k == 0)])/\Bw w w':=by
 go_enter func163,ntmps163
 go_wp2_with fail
 go_loopw [9,10,11] (fun s9 s10 _ wr=>∃i j:Nat,s9=iI i/\s10=iI j/\i<=k/\k<=j/\j<=n/\Bw w wr) (fun s9 s10 _ _=>(intOf s10).toNat-(intOf s9).toNat)
 case atStart=>exact⟨0,n,rfl,rfl,A7 _,hk,Bc _,AG _ _⟩
 case round=>
  obtain⟨i,j,rfl,rfl,hi,hj,ad,ab⟩:=hrel
  by_cases hlt2:i<j
  ·have ae:(i=0/\j=1)\/(i=0/\j=2)\/(i=0/\j=3)\/(i=1/\j=2)\/(i=1/\j=3)\/(i=2/\j=3):=oM;rcases ae with⟨rfl,rfl⟩|⟨rfl,rfl⟩|⟨rfl,rfl⟩|⟨rfl,rfl⟩|⟨rfl,rfl⟩|⟨rfl,rfl⟩
   ·obtain⟨a,g,ra,rn,rc,k0,k1,k2,hcc⟩:=HC.o 0 oM;have k0:=(ab.cell (p:=(aD b (off+0*3))) hlt).trans k0;have k1:=(ab.cell (p:=(aD b (off+0*3+1))) hlt).trans k1;have k2:=(ab.cell (p:=(aD b (off+0*3+1+1))) hlt).trans k2;simp only[Nat.reduceMul,Kj,Nat.reduceAdd,Fi]at k0 k1 k2;have al:((0:Nat):Int)<(n:Int):=oM;have af:(0:Int)<(n:Int):=oM;have hL:=HL.o 0 oM;have aa:=fun W=>JU a nm g ra rn rc W
    rw[hcc]at aa;clear hcc
    generalize c 0=ch at aa hL
    by_cases hs:ch<0
    ·have ac:decide (ch<0)=true:=by simpa using hs
     have hk2:=hL.1 hs;clear hL;go_wp2_with(go_at_call 164;refine(aa _).mono ?_;rintro e w1 ⟨rfl,b1⟩);go_roundw
     case rel=>exact⟨1,1,by go_num,by go_num,hk2,hj,ad,Below.on ab b1⟩
     case measure=>simp[intOf]
    ·have ac:decide (ch<0)=false:=by simpa using hs
     have hk2:k<=0:=by have:=fun x=>hs (hL.2 x);omega
     clear hL;go_wp2_with(go_at_call 164;refine(aa _).mono ?_;rintro e w1 ⟨rfl,b1⟩);go_roundw
     case rel=>exact⟨0,0,by go_num,by go_num,hi,hk2,oM,Below.on ab b1⟩
     case measure=>simp[intOf]
   ·obtain⟨a,g,ra,rn,rc,k0,k1,k2,hcc⟩:=HC.o 1 oM;have k0:=(ab.cell (p:=(aD b (off+1*3))) hlt).trans k0;have k1:=(ab.cell (p:=(aD b (off+1*3+1))) hlt).trans k1;have k2:=(ab.cell (p:=(aD b (off+1*3+1+1))) hlt).trans k2;simp only[Nat.reduceMul,Kj,Nat.reduceAdd,Fi]at k0 k1 k2;have ai:((1:Nat):Int)<(n:Int):=oM;have af:(1:Int)<(n:Int):=oM;have hL:=HL.o 1 oM;have aa:=fun W=>JU a nm g ra rn rc W
    rw[hcc]at aa;clear hcc
    generalize c 1=ch at aa hL
    by_cases hs:ch<0
    ·have ac:decide (ch<0)=true:=by simpa using hs
     have hk2:=hL.1 hs;clear hL;go_wp2_with(go_at_call 164;refine(aa _).mono ?_;rintro e w1 ⟨rfl,b1⟩);go_roundw
     case rel=>exact⟨2,2,by go_num,by go_num,hk2,hj,ad,Below.on ab b1⟩
     case measure=>simp[intOf]
    ·have ac:decide (ch<0)=false:=by simpa using hs
     have hk2:k<=1:=by have:=fun x=>hs (hL.2 x);omega
     clear hL;go_wp2_with(go_at_call 164;refine(aa _).mono ?_;rintro e w1 ⟨rfl,b1⟩);go_roundw
     case rel=>exact⟨0,1,by go_num,by go_num,hi,hk2,oM,Below.on ab b1⟩
     case measure=>simp[intOf]
   ·obtain⟨a,g,ra,rn,rc,k0,k1,k2,hcc⟩:=HC.o 1 oM;have k0:=(ab.cell (p:=(aD b (off+1*3))) hlt).trans k0;have k1:=(ab.cell (p:=(aD b (off+1*3+1))) hlt).trans k1;have k2:=(ab.cell (p:=(aD b (off+1*3+1+1))) hlt).trans k2;simp only[Nat.reduceMul,Kj,Nat.reduceAdd,Fi]at k0 k1 k2;have ai:((1:Nat):Int)<(n:Int):=oM;have af:(1:Int)<(n:Int):=oM;have hL:=HL.o 1 oM;have aa:=fun W=>JU a nm g ra rn rc W
    rw[hcc]at aa;clear hcc
    generalize c 1=ch at aa hL
    by_cases hs:ch<0
    ·have ac:decide (ch<0)=true:=by simpa using hs
     have hk2:=hL.1 hs;clear hL;go_wp2_with(go_at_call 164;refine(aa _).mono ?_;rintro e w1 ⟨rfl,b1⟩);go_roundw
     case rel=>exact⟨2,3,by go_num,by go_num,hk2,hj,ad,Below.on ab b1⟩
     case measure=>simp[intOf]
    ·have ac:decide (ch<0)=false:=by simpa using hs
     have hk2:k<=1:=by have:=fun x=>hs (hL.2 x);omega
     clear hL;go_wp2_with(go_at_call 164;refine(aa _).mono ?_;rintro e w1 ⟨rfl,b1⟩);go_roundw
     case rel=>exact⟨0,1,by go_num,by go_num,hi,hk2,oM,Below.on ab b1⟩
     case measure=>simp[intOf]
   ·obtain⟨a,g,ra,rn,rc,k0,k1,k2,hcc⟩:=HC.o 1 oM;have k0:=(ab.cell (p:=(aD b (off+1*3))) hlt).trans k0;have k1:=(ab.cell (p:=(aD b (off+1*3+1))) hlt).trans k1;have k2:=(ab.cell (p:=(aD b (off+1*3+1+1))) hlt).trans k2;simp only[Nat.reduceMul,Kj,Nat.reduceAdd,Fi]at k0 k1 k2;have ai:((1:Nat):Int)<(n:Int):=oM;have af:(1:Int)<(n:Int):=oM;have hL:=HL.o 1 oM;have aa:=fun W=>JU a nm g ra rn rc W
    rw[hcc]at aa;clear hcc
    generalize c 1=ch at aa hL
    by_cases hs:ch<0
    ·have ac:decide (ch<0)=true:=by simpa using hs
     have hk2:=hL.1 hs;clear hL;go_wp2_with(go_at_call 164;refine(aa _).mono ?_;rintro e w1 ⟨rfl,b1⟩);go_roundw
     case rel=>exact⟨2,2,by go_num,by go_num,hk2,hj,ad,Below.on ab b1⟩
     case measure=>simp[intOf]
    ·have ac:decide (ch<0)=false:=by simpa using hs
     have hk2:k<=1:=by have:=fun x=>hs (hL.2 x);omega
     clear hL;go_wp2_with(go_at_call 164;refine(aa _).mono ?_;rintro e w1 ⟨rfl,b1⟩);go_roundw
     case rel=>exact⟨1,1,by go_num,by go_num,hi,hk2,oM,Below.on ab b1⟩
     case measure=>simp[intOf]
   ·obtain⟨a,g,ra,rn,rc,k0,k1,k2,hcc⟩:=HC.o 2 oM;have k0:=(ab.cell (p:=(aD b (off+2*3))) hlt).trans k0;have k1:=(ab.cell (p:=(aD b (off+2*3+1))) hlt).trans k1;have k2:=(ab.cell (p:=(aD b (off+2*3+1+1))) hlt).trans k2;simp only[Nat.reduceMul,Kj,Nat.reduceAdd,Fi]at k0 k1 k2;have aj:((2:Nat):Int)<(n:Int):=oM;have af:(2:Int)<(n:Int):=oM;have hL:=HL.o 2 oM;have aa:=fun W=>JU a nm g ra rn rc W
    rw[hcc]at aa;clear hcc
    generalize c 2=ch at aa hL
    by_cases hs:ch<0
    ·have ac:decide (ch<0)=true:=by simpa using hs
     have hk2:=hL.1 hs;clear hL;go_wp2_with(go_at_call 164;refine(aa _).mono ?_;rintro e w1 ⟨rfl,b1⟩);go_roundw
     case rel=>exact⟨3,3,by go_num,by go_num,hk2,hj,ad,Below.on ab b1⟩
     case measure=>simp[intOf]
    ·have ac:decide (ch<0)=false:=by simpa using hs
     have hk2:k<=2:=by have:=fun x=>hs (hL.2 x);omega
     clear hL;go_wp2_with(go_at_call 164;refine(aa _).mono ?_;rintro e w1 ⟨rfl,b1⟩);go_roundw
     case rel=>exact⟨1,2,by go_num,by go_num,hi,hk2,oM,Below.on ab b1⟩
     case measure=>simp[intOf]
   ·obtain⟨a,g,ra,rn,rc,k0,k1,k2,hcc⟩:=HC.o 2 oM;have k0:=(ab.cell (p:=(aD b (off+2*3))) hlt).trans k0;have k1:=(ab.cell (p:=(aD b (off+2*3+1))) hlt).trans k1;have k2:=(ab.cell (p:=(aD b (off+2*3+1+1))) hlt).trans k2;simp only[Nat.reduceMul,Kj,Nat.reduceAdd,Fi]at k0 k1 k2;have aj:((2:Nat):Int)<(n:Int):=oM;have af:(2:Int)<(n:Int):=oM;have hL:=HL.o 2 oM;have aa:=fun W=>JU a nm g ra rn rc W
    rw[hcc]at aa;clear hcc
    generalize c 2=ch at aa hL
    by_cases hs:ch<0
    ·have ac:decide (ch<0)=true:=by simpa using hs
     have hk2:=hL.1 hs;clear hL;go_wp2_with(go_at_call 164;refine(aa _).mono ?_;rintro e w1 ⟨rfl,b1⟩);go_roundw
     case rel=>exact⟨3,3,by go_num,by go_num,hk2,hj,ad,Below.on ab b1⟩
     case measure=>simp[intOf]
    ·have ac:decide (ch<0)=false:=by simpa using hs
     have hk2:k<=2:=by have:=fun x=>hs (hL.2 x);omega
     clear hL;go_wp2_with(go_at_call 164;refine(aa _).mono ?_;rintro e w1 ⟨rfl,b1⟩);go_roundw
     case rel=>exact⟨2,2,by go_num,by go_num,hi,hk2,oM,Below.on ab b1⟩
     case measure=>simp[intOf]
  ·have e1:i=k:=oM;subst e1
   by_cases hin:i<n
   ·obtain⟨a,g,ra,rn,rc,k0,k1,k2,hcc⟩:=HC.o i hin;have k0:=(ab.cell (p:=(aD b (off+i*3))) hlt).trans k0;have k1:=(ab.cell (p:=(aD b (off+i*3+1))) hlt).trans k1;have k2:=(ab.cell (p:=(aD b (off+i*3+1+1))) hlt).trans k2;have ak:(i:Int)<(n:Int):=oM;have hd:decide ((i:Int)<(n:Int))=true:=by simpa using ak
    have aa:=fun W=>JU a nm g ra rn rc W
    rw[hcc]at aa;clear hcc;have ah:decide (i<n)=true:=by simpa using hin
    have ag:Hd (decide (i<n)=true):=ah;clear ah hin;go_wp2_with(go_at_call 164;refine(aa _).mono ?_;rintro e w1 ⟨rfl,b1⟩)
    go_ret2
    exact⟨by rw[ag.o,Ff];rfl,Below.on ab b1⟩
   ·have e2:i=n:=oM;subst e2;have hd:decide ((i:Int)<(i:Int))=false:=by simp
    have ag:Hd (decide (i<i)=false):=by show decide (i<i)=false;simp
    clear hin;go_wp2_with fail
    go_ret2
    exact⟨by rw[ag.o,OC];rfl,ab⟩

theorem RX:∀x y:List UInt8,Lib.compareBytes x y<0↔Op.bytesLess x y=true
 | [],[]=>by simp[Lib.compareBytes,Op.bytesLess]
 | [],_::_=>by simp[Lib.compareBytes,Op.bytesLess]
 | _::_,[]=>by simp[Lib.compareBytes,Op.bytesLess]
 | a::x,b::y=>by
  have ih:=RX x y;unfold Lib.compareBytes;simp only[Op.bytesLess,Kd,B5,C4,DH]
  by_cases h:a<b
  ·simp[h]
  ·by_cases h2:b<a
   ·have hne:a≠b:=fun e=>by subst e;exact h h2
    simp[h,h2,hne]
   ·have e:a=b:=by
     rw[JH]at h h2;exact JI.1 oM
    simp[h,h2,e,ih]
theorem RY:∀x y:List UInt8,Lib.compareBytes x y=0↔x=y
 | [],[]=>by simp[Lib.compareBytes]
 | [],_::_=>by simp[Lib.compareBytes]
 | _::_,[]=>by simp[Lib.compareBytes]
 | a::x,b::y=>by
  have ih:=RY x y;unfold Lib.compareBytes
  by_cases h:a<b
  ·have hne:a≠b:=fun e=>by subst e;rw[JH]at h;omega
   simp[h,hne]
  ·by_cases h2:b<a
   ·have hne:a≠b:=fun e=>by subst e;exact h h2
    simp[h,h2,hne]
   ·have e:a=b:=by
     rw[JH]at h h2;exact JI.1 oM
    simp[h,h2,e,ih]
def Cy (S:List AE) (nm:ByteArray):Nat:=(S.takeWhile (fun x=>Dx x.1 nm)).length
theorem Qv (S:List AE)(nm:ByteArray):Cy S nm<=S.length:=by
 unfold Cy;have:=congrArg List.length (OQ (p:=fun x:AE=>Dx x.1 nm) (l:=S));rw[Bl]at this;omega
theorem Vk {p:AE->Bool}:∀ {L:List AE} {j:Nat} (hj:j<L.length),j<(L.takeWhile p).length->p L[j]=true
 | a::L,0,_,h=>by
  rw[Ki]at h
  split at h
  ·assumption
  ·simp at h
 | a::L,j+1,hj,h=>by
  rw[Ki]at h
  split at h
  ·exact Vk (L:=L) (by simpa using hj) (by simpa using h)
  ·simp at h
theorem Vj {p:AE->Bool}:∀ {L:List AE} (hj:(L.takeWhile p).length<L.length),p (L[(L.takeWhile p).length])=false
 | [],h=>by simp at h
 | a::L,h=>by
  by_cases hp:p a=true
  ·have e:((a::L).takeWhile p)=a::L.takeWhile p:=by rw[Ki,Ab hp]
   have h2:(L.takeWhile p).length<L.length:=by rw[e]at h;simpa using h
   have:=Vj (L:=L) h2;simp only[e,BF,List.getElem_cons_succ];exact this
  ·have e:((a::L).takeWhile p)=[]:=by rw[Ki,Aa hp]
   simp only[e,C1,List.getElem_cons_zero]
   simpa using hp
theorem NW (h:Iw S)(nm:ByteArray)(hj:j<S.length):Dx S[j].1 nm=true↔j<Cy S nm:=by
 constructor
 ·intro hl
  apply Decidable.byContradiction
  intro hn;have hp:Cy S nm<S.length:=oM;have hf:Dx (S[Cy S nm]).1 nm=false:=Vj (p:=fun x=>Dx x.1 nm) hp;rcases Dq (Cy S nm) j with h1|h1
  ·have:=(MQ.1 h.2) (Cy S nm) j hp hj h1;have:=NL this hl;exact absurd (hf.symm.trans this) dE
  ·have e:Cy S nm=j:=oM;simp only[e]at hf;rw[hl]at hf;cases hf
 ·intro h1;exact Vk (p:=fun x=>Dx x.1 nm) hj h1
theorem Qw (h:Iw S)(hk:BU S nm=some k):Cy S nm=k:=by
 have hkl:=QV hk;unfold BU at hk;have he:(S[k]).1.toList=nm.toList:=by
  have:=(OH.1 hk).2.1
  simpa using this
 have h1:¬k<Cy S nm:=fun hh=>by
  have:=(NW h nm hkl).2 hh;unfold Dx at this;rw[he,ZA]at this;cases this
 have h2:¬Cy S nm<k:=fun hh=>by
  have hp:Cy S nm<S.length:=oM;have:=(MQ.1 h.2) (Cy S nm) k hp hkl hh;unfold Dx at this;rw[he]at this;have:=(NW h nm hp).1 this;omega
 omega
theorem ef (h:Iw S)(nm:ByteArray):(BU S nm).isSome=(decide (Cy S nm<S.length) && ((S.getD (Cy S nm) default).1.toList == nm.toList)):=by
 cases hs:BU S nm with
 | some k=>
  have hp:=Qw h hs;have hkl:=QV hs;unfold BU at hs;have he:(S[k]).1.toList=nm.toList:=by
   have:=(OH.1 hs).2.1
   simpa using this
  rw[hp];simp[hkl,he]
 | none=>
  by_cases hl:Cy S nm<S.length
  ·have:=QU hs S[Cy S nm] (BS hl);simp[hl,this]
  ·simp[hl]
theorem V8 (ao:Option Addr)(cap:Nat)(nm:ByteArray)(w:World):Cl 163 #[.slice ao 0 cap,.string nm,.func (.func 164) #[] #[]] w fun r w'=>r=.returned (.tuple #[iI (0:Int),.bool false])/\Bw w w':=by
 go_enter func163,ntmps163
 go_wp2_with fail
 go_loopw [9,10,11] (fun s9 s10 _ wr=>s9=iI 0/\s10=iI 0/\wr=w) (fun _ _ _ _=>0)
 case atStart=>exact⟨rfl,rfl,rfl⟩
 case round=>
  obtain⟨rfl,rfl,hw⟩:=hrel;subst hw;go_wp2_with fail
  go_ret2
  exact⟨rfl,AG _ _⟩
theorem LQ (h:Do w v S)(hN:Iw S)(h3:S.length<=3)(nm:ByteArray)(hk:Cy S nm=k){t:Bool}(ht:(BU S nm).isSome=t):Cl 98 #[v,.string nm] w fun r w'=>r=.returned (.tuple #[iI (k:Int),.bool t])/\Bw w w':=by
 have hb:Cl 163 #[v,.string nm,.func (.func 164) #[] #[]] w fun r w'=>r=.returned (.tuple #[iI (k:Int),.bool t])/\Bw w w':=by
  obtain⟨ao,cap,rfl,hm,hc,hS⟩:=h;rw[ef hN]at ht
  by_cases e:S=[]
  ·subst e;have e1:k=0:=by rw[<-hk];rfl
   have e2:t=false:=by rw[<-ht];simp
   subst e1 e2;exact V8 ao cap nm w
  ·obtain⟨b,off,rfl,hlt,hA⟩:=hS e;have ab:=Qv S nm;have aa:∀j,(hj:j<S.length)->Lib.compareBytes (S.getD j default).1.data.toList nm.data.toList=Lib.compareBytes S[j].1.data.toList nm.data.toList:=fun j hj=>by simp[List.getD,hj]
   refine(V7 b off cap S.length k nm (fun j=>Lib.compareBytes (S.getD j default).1.data.toList nm.data.toList) w h3 hlt (fun j hj=>?_) (by rw[<-hk];exact ab) (fun j hj=>?_)).mono ?_
   ·obtain⟨rv,a0,a1,a2,a3⟩:=hA j hj;obtain⟨ra,rc,rfl⟩:=a3.form;exact⟨_,_,ra,_,rc,a0,a1,a2,(aa j hj).symm⟩
   ·rw[aa j hj,RX,<-IX,<-IX,<-hk];exact NW hN nm hj
   ·rintro r w' ⟨rfl,hbb⟩;refine⟨?_,hbb⟩;rw[<-ht,hk]
    by_cases hkl:k<S.length
    ·have:((Lib.compareBytes (S.getD k default).1.data.toList nm.data.toList) == 0)=((S.getD k default).1.toList == nm.toList):=by
      rw[IW,DH,DH,RY,IX,IX]
     rw[this]
    ·simp[hkl]
 obtain⟨ao,cap,rfl⟩:=h.form
 generalize S.length=n at hb
 clear h hN h3 hk ht
 go_enter func98,ntmps98
 go_wp2_with(go_at_call 163;refine hb.mono ?_;rintro e w1 ⟨rfl,b1⟩)
 go_ret2
 exact⟨rfl,b1⟩
end Go.Proofs.YtfciijncfbepjaaGreatDoor
