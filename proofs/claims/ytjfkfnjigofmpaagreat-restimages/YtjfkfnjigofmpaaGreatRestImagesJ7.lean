/- Texts joined: WrR, WrA, TakI, TakJ, TakL, TakK, First, With, WrI, WrJ, WrK, WrL, WrS. -/
import Derived.Test.YtjfkfnjigofmpaaGreatRestImagesJ6
import Derived.Test.YtjfkfnjigofmpaaGreatRestImagesJ1
import Derived.Test.YtjfkfnjigofmpaaGreatRestImagesJ4
import Derived.Test.YtjfkfnjigofmpaaGreatRestImagesJ5
import Derived.Deep.RegionHeld3
import Derived.Deep.RegionLaw
import Derived.Deep.CutRange
import Derived.Laws.CopyOwn
import Derived.Deep.RegionHeld
set_option linter.unusedVariables false
set_option linter.unusedSimpArgs false
set_option maxHeartbeats 200000000
set_option maxRecDepth 20000
namespace Go.Proofs.YtjfkfnjigofmpaaGreat
open Go.RowKit Go.Shelf
def QbJ (M:ImgD) (g:Nat):ImgD:={ M with guest:=(g:Int),root:=(M.root ++ List.replicate ((g+3) / 4 - M.root.length) 0).take ((g+3) / 4) }
def cutD (m:ImgD) (g:Nat):Option ImgD:=
 if g % 4≠0∧g / 4<m.root.length∧cutR (Qak m (g / 4)) (g % 4)≠Qak m (g / 4) then Qcq m (g / 4) (cutR (Qak m (g / 4)) (g % 4)) else some m
def QgV (m:ImgD) (g:Nat):Option ImgD:=(cutD m g).map (fun M=>Qai (QbJ M g))
theorem QjZ (M:ImgD)(g j:Nat)(hj:j<(g+3) / 4):(QbJ M g).root.getD j 0=M.root.getD j 0:=by
 show ((M.root ++ List.replicate ((g+3) / 4 - M.root.length) 0).take ((g+3) / 4)).getD j 0=_
 simp only [List.getD,List.getElem?_take,hj,if_true];rw [List.getElem?_append]
 split
 ·rfl
 ·rename_i h
  rw [List.getElem?_eq_none (l:=M.root) (by omega),List.getElem?_replicate]
  split <;> rfl
theorem QdX (M:ImgD)(g:Nat):(QbJ M g).root.length=(g+3) / 4:=by
 show ((M.root ++ List.replicate ((g+3) / 4 - M.root.length) 0).take ((g+3) / 4)).length=_
 simp;omega
theorem Qka {M:ImgD}{g:Nat}{x:Int}(h:x ∈ (QbJ M g).root):x=0∨x ∈ M.root:=by
 have h:x ∈ M.root ++ List.replicate ((g+3) / 4 - M.root.length) 0:=List.mem_of_mem_take h;rcases List.mem_append.1 h with h | h
 ·exact .inr h
 ·exact .inl (List.mem_replicate.1 h).2
theorem Qgi {es:List Int}(h4:es.length=4){n:Nat}(hn:n≤4)(i:Nat):(cutR es n).getD i 0=if i<n then es.getD i 0 else 0:=by
 unfold cutR;simp only [List.getD];rw [List.getElem?_append,List.length_take]
 by_cases h:i<n
 ·rw [if_pos (by omega),if_pos h,List.getElem?_take,if_pos h]
 ·rw [if_neg (by omega),if_neg h,List.getElem?_replicate]
  split <;> rfl
theorem Qjc {es:List Int}{n:Nat}{x:Int}(h:x ∈ cutR es n):x ∈ es∨x=0:=by
 unfold cutR at h;rcases List.mem_append.1 h with h | h
 ·exact .inl (List.mem_of_mem_take h)
 ·exact .inr (List.mem_replicate.1 h).2
theorem QnO {es:List Int}(h:ckE es=0){n:Nat}(hn:n≤4):ckE (cutR es n)=0:=by
 refine Qe7 (by unfold cutR;simp;have:=Qa7 h;omega) ?_;rw [List.all_eq_true];intro x hx;rcases Qjc hx with hm | hm
 ·exact List.all_eq_true.1 (Qix h) x hm
 ·rw [hm];rfl
theorem Qhh {es:List Int}{i:Nat}(h:∀j,i≤j→j<es.length→es.getD j 0=0):(es.drop i).all (fun e=>e == 0)=true:=by
 rw [List.all_eq_true];intro x hx;obtain⟨j,hj,rfl⟩:=List.getElem_of_mem hx;rw [List.getElem_drop];simp at hj
 have:=h (i+j) (by omega) (by omega);rw [Qby (by omega)] at this
 simpa using this
theorem Qhi {es:List Int}{i:Nat}(h:(es.drop i).all (fun e=>e == 0)=true){j:Nat}(h1:i≤j):es.getD j 0=0:=by
 rcases Nat.lt_or_ge j es.length with hj | hj
 ·have hm:es[j] ∈ es.drop i:=by
   rw [List.mem_iff_getElem];refine⟨j - i,by simp;omega,?_⟩;rw [List.getElem_drop];congr 1;omega
  have:=List.all_eq_true.1 h _ hm;rw [Qby hj];simpa using this
 ·simp [List.getD,Nat.not_lt.2 hj]
theorem Qne {m:ImgD}{k:Nat}{es:List Int}(h:QhM m k es)(h4:es.length=4){n:Nat}(hn:n≤4):QhM m k (cutR es n):=by
 intro h1 h2;have:=h h1 h2;refine Qhh fun j hj hl=>?_
 rw [Qgi h4 hn]
 split
 ·exact Qhi this hj
 ·rfl
theorem Qnk {m:ImgD}(hC:Qaq m=0){g:Nat}{M:ImgD}(hM:cutD m g=some M):(∃es,Laid m M (g / 4) es∧(g / 4<m.root.length→∀i,es.getD i 0=if g % 4=0∨i<g % 4 then (Qak m (g / 4)).getD i 0 else 0))∧M.slots.length≤m.slots.length+1:=by
 have h:=Qal hC;unfold cutD at hM
 split at hM
 ·rename_i hc
  obtain⟨h1,h2,h3⟩:=hc;obtain⟨ock,oent⟩:=Qa0 h h2;have h4:=Qa7 ock;obtain⟨hL,hlen⟩:=QdA hC h2 (QnO ock (by omega)) (fun e he=>(Qjc he).elim (fun hm=>oent e hm) (fun hm=>by rw [hm];rfl)) (Qne (QcR h _) h4 (by omega)) hM;refine⟨⟨_,hL,fun _ i=>?_⟩,hlen⟩;rw [Qgi h4 (by omega)]
  by_cases hi:i<g % 4
  ·rw [if_pos hi,if_pos (.inr hi)]
  ·rw [if_neg hi,if_neg (fun x=>x.elim h1 hi)]
 ·rename_i hc
  simp at hM
  subst hM;refine⟨⟨Qak m (g / 4),⟨h,rfl,rfl,rfl,fun q hq=>?_,fun _ _ _ _=>rfl,fun _ _=>rfl⟩,fun hk i=>?_⟩,Nat.le_succ _⟩
  ·by_cases e:q / 4=g / 4
   ·rw [if_pos e,← e,← Qc6]
   ·rw [if_neg e]
  ·by_cases hg:g % 4=0
   ·rw [if_pos (.inl hg)]
   ·have hce:cutR (Qak m (g / 4)) (g % 4)=Qak m (g / 4):=Classical.byContradiction fun x=>hc ⟨hg,hk,x⟩
    have h4:=Qa7 (Qa0 h hk).1;have e:=Qgi h4 (n:=g % 4) (by omega) i;rw [hce] at e
    by_cases hi:i<g % 4
    ·rw [if_pos (.inr hi)]
    ·rw [if_neg (fun x=>x.elim hg hi),e,if_neg hi]
theorem Qnd {M:ImgD}{k i:Nat}(hz:M.root.getD k 0≠0)(hi:i<4):(Qaz M.slots (M.root.getD k 0)).getD i 0=QaT M M.root (4*k+i):=by
 unfold QaT;have e1:(4*k+i) / 4=k:=by omega
 have e2:(4*k+i) % 4=i:=by omega
 rw [e1,e2,if_neg hz]
theorem Qc1 {m:ImgD}(hC:Qaq m=0){g:Nat}(hg:g≤16){M:ImgD}(hM:cutD m g=some M):Qao (QbJ M g)=0:=by
 have h:=Qal hC;obtain⟨⟨es,hL,hes⟩,_⟩:=Qnk hC hM;have hrM:=Qa3 hL.shape;refine Qep hL.shape (by unfold Qay;exact decide_eq_true (by omega)) ?_
 show Qas M.slots (g:Int) (QbJ M g).root=true
 unfold Qas;simp only [Bool.and_eq_true,decide_eq_true_eq];refine⟨by rw [QdX];omega,?_,?_⟩
 ·rw [List.all_eq_true];intro x hx;rcases Qka hx with e | e
  ·rw [e];rfl
  ·exact List.all_eq_true.1 hrM.2 x e
 ·unfold QbY
  by_cases hg4:g % 4=0
  ·have:((g:Int) % 4 == 0)=true:=by simp;omega
   rw [this];rfl
  ·have hw:(g+3) / 4 - 1=g / 4:=by omega
   rw [QdX,hw,QjZ M g _ (by omega)];have hgm:((g:Int) % 4).toNat=g % 4:=by omega
   rw [hgm]
   by_cases hz:M.root.getD (g / 4) 0=0
   ·rw [hz];simp
   ·have hk:g / 4<M.root.length:=by
     rcases Nat.lt_or_ge (g / 4) M.root.length with h' | h'
     ·exact h'
     ·exact absurd (by simp [List.getD,Nat.not_lt.2 h']) hz
    have hkm:g / 4<m.root.length:=by rw [←hL.rlen];exact hk
    have hE:=Qcj hrM.2 hk;rw [QbL hz] at hE;have h4:=Qgv (Qad hL.shape).2.1 hE;have:((Qaz M.slots (M.root.getD (g / 4) 0)).drop (g % 4)).all (fun e=>e == 0)=true:=by
     refine Qhh fun j hj hl=>?_
     rw [h4] at hl;rw [Qnd hz hl,hL.look _ (by omega),if_pos (by omega),show (4*(g / 4)+j) % 4=j by omega,hes hkm,if_neg (by omega)]
    rw [this];simp


theorem DTo.pre {w w1 w2:World}{B D:Nat}{m m1:ImgD}{val val1:Nm→Value}{ev:Value}(h:DTo w1 w2 B D m val ev m1 val1)(hb:Below w.heap.size w w1)(hB:B≤w.heap.size):DTo w w2 B D m val ev m1 val1:=
 ⟨h.dk,(hb.mono hB).trans h.bel,fun q hq hD hev hm=>(h.keep q (Nat.lt_of_lt_of_le hq hb.size) hD hev hm).trans (hb.block q hq),fun q hq hev hm=>h.src q (Nat.lt_of_lt_of_le hq hb.size) hev hm⟩
def layR (l:List Int) (n:Nat) (x:Int):List Int:=if n=l.length then l ++ [x] else l.set n x
theorem Qh8 {l:List Int}{n:Nat}{x:Int} : (layR l n x).length=if n=l.length then l.length+1 else l.length:=by
 unfold layR;split <;> simp
def Qa1 (m:ImgD) (s:Qag):ImgD:={ m with slots:=layS m.slots (QaK m.slots) s,refs:=layR m.refs (QaK m.slots) 1 }
theorem QiZ {w:World}{v:Value}{L:List Qag}(h:QaQ w v L)(hE:Qap L=0){g:Nat}(hg:QaK L=g) :
  Calls Tryz.prog 66 #[v] w fun r w'=>r=.returned (.tuple #[.int .i64 (if g=40 then 0 else (g:Int)),.int .i64 (if g=40 then 7 else 0)])∧Below w.heap.size w w':=by
 have h1:=(Qah hE).1;refine (Qn9 v L w h hE).mono ?_;rintro e w' ⟨h | ⟨q,hq,hG,rfl⟩,hb⟩
 ·have e40:g=40:=by rw [←hg];exact (QgT h1).unique h.1
  rw [if_pos e40,if_pos e40];exact⟨h.2,hb⟩
 ·have eg:q=g:=by rw [←hg];exact hG.unique (QgT h1)
  subst eg;rw [if_neg (by omega),if_neg (by omega)];exact⟨rfl,hb⟩
theorem QmK (m:ImgD)(sa:Option Addr)(sn sc:Nat)(k:Int)(d:ByteArray)(ea:Option Addr)(en ec:Nat)(B D:Nat)(val:Nm→Value)(w:World)(hK:DK w B D val m)(e1:val .slots=.slice sa sn sc)(hs:Qap m.slots=0)(hg:QaK m.slots=40) :
  Calls Tryz.prog 28 #[.pointer (some ⟨D,0,none⟩),.agg #[.int .i64 k,.string d,.slice ea en ec]] w fun r w'=>r=.panicked Qbm∧Below w.heap.size w w':=by
 have hK1:DK (w.alloc (.cells #[.int .i64 k,.string d,.slice ea en ec] 37)) B D val m:=hK.alloc _;obtain⟨d0,d1,d2,d3,d4⟩:=hK1.five;rw [e1] at d2;have hcall:=QiZ hK1.own.img.four.2.1 hs hg;rw [e1] at hcall;have b0:Below w.heap.size w (w.alloc (.cells #[.int .i64 k,.string d,.slice ea en ec] 37)):=bA;clear hg hs
 go_enter Tryz.func28,Tryz.ntmps28
 go_wp2_with (go_at_call 66;refine hcall.mono ?_;rintro e w1 ⟨rfl,b1⟩);exact⟨rfl,rfl,Below.on b0 b1⟩
theorem QmW (m:ImgD)(sg sc:Nat)(fg fc:Nat)(k:Int)(d:ByteArray)(ea:Option Addr)(en ec:Nat)(es:List Int)(g:Nat)(B D:Nat)(val:Nm→Value)(w:World)(hK:DK w B D val m)(hB:B≤w.heap.size)(e1:val .slots=.slice (some ⟨sg,0,none⟩) m.slots.length sc)(e2:val .refs=.slice (some ⟨fg,0,none⟩) m.slots.length fc)(hs:Qap m.slots=0)(hg:QaK m.slots=g)(hgl:g<m.slots.length)(hrl:m.refs.length=m.slots.length)
  (he:w.ownsRow B 3 1 (.slice ea en ec) es.length (ints es)) (hfar:Far m val (.tab g) (.slice ea en ec)) (hD:(Value.slice ea en ec).ownBlock≠some D) :
  Calls Tryz.prog 28 #[.pointer (some ⟨D,0,none⟩),.agg #[.int .i64 k,.string d,.slice ea en ec]] w fun r w'=>r=.returned (.int .i64 (g:Int))∧∃val',DTo w w' B D m val (.slice ea en ec) { m with slots:=m.slots.set g (k,d,es),refs:=m.refs.set g 1 } val'∧val' .root=val .root:=by
 have hK1:DK (w.alloc (.cells #[.int .i64 k,.string d,.slice ea en ec] 37)) B D val m:=hK.alloc _;have h40:=(Qah hs).2;obtain⟨d0,d1,d2,d3,d4⟩:=hK1.five;rw [e1] at d2;rw [e2] at d3;have hcall:=QiZ hK1.own.img.four.2.1 hs hg;rw [e1] at hcall;have g40:¬g=40:=by omega
 rw [if_neg g40,if_neg g40] at hcall;have b0:Below w.heap.size w (w.alloc (.cells #[.int .i64 k,.string d,.slice ea en ec] 37)):=bA;have mS:(w.alloc (.cells #[.int .i64 k,.string d,.slice ea en ec] 37)).heap[w.heap.size]? = some (.cells #[.int .i64 k,.string d,.slice ea en ec] 37):=zHn _ _;have hgi:(g:Int)<(m.slots.length:Int):=by omega
 have hgn:((g:Int) == (m.slots.length:Int))=false:=by simp;omega
 have hgn':¬(g:Int)=(m.slots.length:Int):=by omega
 clear hg hs
 go_enter Tryz.func28,Tryz.ntmps28
 go_wp2_with (go_at_call 66;refine hcall.mono ?_;rintro e w1 ⟨rfl,b1⟩;have hK2:=hK1.below b1;obtain⟨i0,i1,i2,i3,i4⟩:=hK2.five;rw [e1] at i2;rw [e2] at i3;have mS1:=Qab mS b1 (by simp);obtain⟨s0,s1,s2⟩:=Qb6 mS1);have hgS:sg<w.heap.size∧B≤sg:=by
  have:=(hK.own.row .slots (Live.slots m)).lt sg (by rw [e1];rfl);exact⟨this.2,this.1⟩
 have hgF:fg<w.heap.size∧B≤fg:=by
  have:=(hK.own.row .refs (Live.refs m)).lt fg (by rw [e2];rfl);exact⟨this.2,this.1⟩
 have hDl:=hK.lt;have nDS:¬D=sg:=fun e=>hK.far .slots (Live.slots m) (by rw [e1,e];rfl)
 have nDF:¬D=fg:=fun e=>hK.far .refs (Live.refs m) (by rw [e2,e];rfl)
 have nSD:¬sg=D:=fun e=>nDS e.symm
 have nFD:¬fg=D:=fun e=>nDF e.symm
 have nSF:¬sg=fg:=fun e=>hK.own.apart .slots .refs (Live.slots m) (Live.refs m) (by intro x;cases x) sg (by rw [e1];rfl) (by rw [e2,e];rfl)
 have nFS:¬fg=sg:=fun e=>nSF e.symm
 have nWS:¬w.heap.size=sg:=by omega
 have nSW:¬sg=w.heap.size:=by omega
 have nWF:¬w.heap.size=fg:=by omega
 have nFW:¬fg=w.heap.size:=by omega
 have hT1:=(DTo.refl hK1 (.slice ea en ec)).below (by simp;omega) b1;have hr1:=hT1.dk.own.row .slots (Live.slots m);rw [e1] at hr1;have hr1:w1.ownsRow B 37 3 (.slice (some ⟨sg,0,none⟩) m.slots.length sc) m.slots.length (QaE m.slots (fun j=>val (.tab j))):=hr1;obtain⟨t0,t1,t2⟩:=QaO (L:=m.slots) (tv:=fun j=>val (.tab j)) hgl;have t0:=(hr1.cellAt (g*3) (by omega)).trans t0;have t1:=(hr1.cellAt (g*3+1) (by omega)).trans t1;have t2:=(hr1.cellAt (g*3+2) (by omega)).trans t2;have u0:=hr1.frozenAt (g*3);have u1:=hr1.frozenAt (g*3+1);have u2:=hr1.frozenAt (g*3+2);have hr2:=hT1.dk.own.row .refs (Live.refs m);rw [e2] at hr2;have hr2:w1.ownsRow B 3 1 (.slice (some ⟨fg,0,none⟩) m.slots.length fc) m.slots.length (ints m.refs):=by rw [←hrl];rw [←hrl] at hr2;exact hr2
 have t3:w1.cell? ⟨fg,g,none⟩=some (.int .i64 (m.refs.getD g 0)):=by
  refine (hr2.cellAt g (by omega)).trans ?_;unfold ints;rw [List.getElem?_map,List.getElem?_eq_getElem (by rw [hrl];exact hgl)];simp [List.getD,hrl,hgl]
 have u3:=hr2.frozenAt g;clear hr1 hr2 hcall hK1 hK2 mS mS1 d0 d1 d2 d3 d4 i0 i1 i4
 go_region_held3 (fun W=>W.cell? ⟨D,0+1+1,none⟩=some (.slice (some ⟨sg,0,none⟩) m.slots.length sc)∧W.cell? ⟨D,0+1+1+1,none⟩=some (.slice (some ⟨fg,0,none⟩) m.slots.length fc)∧W.cell? ⟨w.heap.size,0,none⟩=some (.int .i64 k)∧W.cell? ⟨w.heap.size,0+1,none⟩=some (.string d)∧W.cell? ⟨w.heap.size,0+1+1,none⟩=some (.slice ea en ec)) (first | exact⟨i2,i3,s0,s1,s2⟩ | go_keep) (fail)
 have hev:=Qco (he.alloc (.cells #[.int .i64 k,.string d,.slice ea en ec] 37)) b1;have hF:=(hT1.setSlot hgl e1 k d es hev hfar hD (fun q e=>.inl e)).setRefs (g:=fg) (n:=m.slots.length) (cap:=fc) ((Qae _ _ (by intro x;cases x)).trans e2) g 1;have HF:Hid (DTo w ((((w1.setCell ⟨sg,g*3,none⟩ (.int .i64 k)).setCell ⟨sg,g*3+1,none⟩ (.string d)).setCell ⟨sg,g*3+2,none⟩ (.slice ea en ec)).setCell ⟨fg,g,none⟩ (.int .i64 1)).drew B D m val (.slice ea en ec) { m with slots:=m.slots.set g (k,d,es),refs:=m.refs.set g 1 } (upd val (.tab g) (.slice ea en ec))):=(hF.drew).pre b0 hB;clear hF hev hT1;go_wp2_with fail;go_ret;exact⟨rfl,_,HF.out,Qae _ _ (by intro x;cases x)⟩

abbrev z3:List Value:=[.int .i64 0,.string ⟨#[]⟩,nl]
abbrev z1:List Value:=[.int .i64 0]
structure TkI (w1:World) (B:Nat) (sv0 fv0:Value) (n:Nat) (xs ys:List Value) (sv fv:Value) (cS cR:Bool) (W:World):Prop where
 bel:Below B w1 W
 bB:B≤w1.heap.size
 s:W.ownsRow B 37 3 sv (if cS then n+1 else n) (if cS then xs ++ z3 else xs)
 r:W.ownsRow B 3 1 fv (if cR then n+1 else n) (if cR then ys ++ z1 else ys)
 keep:∀q,q<w1.heap.size→sv0.ownBlock≠some q→fv0.ownBlock≠some q→W.heap[q]? = w1.heap[q]?
 sb:sv.ownBlock=sv0.ownBlock∨∀g,sv.ownBlock=some g→w1.heap.size≤g
 fb:fv.ownBlock=fv0.ownBlock∨∀g,fv.ownBlock=some g→w1.heap.size≤g
 ap:∀g,sv.ownBlock=some g→fv.ownBlock≠some g
theorem TkI.alloc {w1:World}{B:Nat}{sv0 fv0:Value}{n:Nat}{xs ys:List Value}{sv fv:Value}{cS cR:Bool}{W:World}(h:TkI w1 B sv0 fv0 n xs ys sv fv cS cR W)(o:Obj):TkI w1 B sv0 fv0 n xs ys sv fv cS cR (W.alloc o):=
 ⟨h.bel.alloc (Nat.le_trans h.bB h.bel.size) o,h.bB,h.s.alloc o,h.r.alloc o,fun q hq h1 h2=>(Below.heap_alloc W o q (Nat.lt_of_lt_of_le hq h.bel.size)).trans (h.keep q hq h1 h2),h.sb,h.fb,h.ap⟩
theorem TkI.drew {w1:World}{B:Nat}{sv0 fv0:Value}{n:Nat}{xs ys:List Value}{sv fv:Value}{cS cR:Bool}{W:World}(h:TkI w1 B sv0 fv0 n xs ys sv fv cS cR W):TkI w1 B sv0 fv0 n xs ys sv fv cS cR W.drew:=
 ⟨h.bel.drew,h.bB,h.s.drew,h.r.drew,h.keep,h.sb,h.fb,h.ap⟩
theorem Qnq {W:World}{B n size:Nat}{e:TypeId}{v:Value}{xs:List Value}(h:W.ownsRow B e size v n xs){q:Nat}{A:Array Value}{t:TypeId}(hq:W.heap[q]? = some (.cells A t))(ht:t≠e):some q≠v.ownBlock:=fun x=>by
 rcases h.2 with ⟨rfl,_⟩ | ⟨g,cap,cur,rfl,_,hg,_⟩
 ·cases x
 ·have x:q=g:=Option.some.inj x;subst x;rw [hg] at hq;simp only [Option.some.injEq,Obj.cells.injEq] at hq;exact ht hq.2.1.symm
def Kp (W W':World) (e:TypeId):Prop:=∀ (q:Nat) (A:Array Value) (t:TypeId),W.heap[q]? = some (.cells A t)→t≠e→W'.heap[q]? = some (.cells A t)
theorem Qjd {W W':World}{B n size:Nat}{e:TypeId}{v:Value}{xs:List Value}(h:W.ownsRow B e size v n xs)(hg:W.grownBy W' v.ownBlock):Kp W W' e:=fun q _ _ hq ht=>
 (hg.block q (szH hq) (Qnq h hq ht)).trans hq
theorem TkI.appS {w1:World}{B:Nat}{sv0 fv0:Value}{n:Nat}{xs ys:List Value}{sv fv v':Value}{cR:Bool}{W W':World}(h:TkI w1 B sv0 fv0 n xs ys sv fv false cR W)(hg:W.grownBy W' sv.ownBlock)(hr:W'.ownsRow B 37 3 v' (n+1) (xs ++ z3))(hb:v'.ownBlock=sv.ownBlock∨v'.ownBlock=some W.heap.size):TkI w1 B sv0 fv0 n xs ys v' fv true cR W':=by
 have hne:fv.ownBlock=none∨fv.ownBlock≠sv.ownBlock:=by
  cases e:fv.ownBlock with
  | none=>exact .inl rfl
  | some g=>exact .inr (fun x=>h.ap g x.symm e)
 have hlt:∀g,fv.ownBlock=some g→g<W.heap.size:=fun g e=>(h.r.lt g e).2
 refine⟨h.bel.grown hg (Nat.le_trans h.bB h.bel.size) (fun k e=>(h.s.lt k e).1),h.bB,hr,h.r.kept hg hne,fun q hq h1 h2=>?_,?_,h.fb,?_⟩
 ·refine (hg.block q (Nat.lt_of_lt_of_le hq h.bel.size) (fun e=>?_)).trans (h.keep q hq h1 h2);rcases h.sb with x | x
  ·exact h1 (x.symm.trans e.symm)
  ·have:=x q e.symm;omega
 ·rcases hb with x | x
  ·rw [x];exact h.sb
  ·refine .inr (fun g e=>?_);rw [x] at e
   cases e
   exact h.bel.size
 ·intro g e;rcases hb with x | x
  ·exact h.ap g (x.symm.trans e)
  ·rw [x] at e
   cases e
   intro y;have:=hlt _ y;omega
theorem TkI.appR {w1:World}{B:Nat}{sv0 fv0:Value}{n:Nat}{xs ys:List Value}{sv fv v':Value}{cS:Bool}{W W':World}(h:TkI w1 B sv0 fv0 n xs ys sv fv cS false W)(hg:W.grownBy W' fv.ownBlock)(hr:W'.ownsRow B 3 1 v' (n+1) (ys ++ z1))(hb:v'.ownBlock=fv.ownBlock∨v'.ownBlock=some W.heap.size):TkI w1 B sv0 fv0 n xs ys sv v' cS true W':=by
 have hne:sv.ownBlock=none∨sv.ownBlock≠fv.ownBlock:=by
  cases e:sv.ownBlock with
  | none=>exact .inl rfl
  | some g=>exact .inr (fun x=>h.ap g e x.symm)
 have hlt:∀g,sv.ownBlock=some g→g<W.heap.size:=fun g e=>(h.s.lt g e).2
 refine⟨h.bel.grown hg (Nat.le_trans h.bB h.bel.size) (fun k e=>(h.r.lt k e).1),h.bB,h.s.kept hg hne,hr,fun q hq h1 h2=>?_,h.sb,?_,?_⟩
 ·refine (hg.block q (Nat.lt_of_lt_of_le hq h.bel.size) (fun e=>?_)).trans (h.keep q hq h1 h2);rcases h.fb with x | x
  ·exact h2 (x.symm.trans e.symm)
  ·have:=x q e.symm;omega
 ·rcases hb with x | x
  ·rw [x];exact h.fb
  ·refine .inr (fun g e=>?_);rw [x] at e
   cases e
   exact h.bel.size
 ·intro g e y;rcases hb with x | x
  ·exact h.ap g e (x.symm.trans y)
  ·rw [x] at y
   cases y
   have:=hlt _ e;omega
theorem TkI.sForm {w1:World}{B:Nat}{sv0 fv0:Value}{n:Nat}{xs ys:List Value}{sv fv:Value}{cR:Bool}{W:World}(h:TkI w1 B sv0 fv0 n xs ys sv fv true cR W):∃ao cap,sv=.slice ao (n+1) cap:=QaH h.s
theorem TkI.rForm {w1:World}{B:Nat}{sv0 fv0:Value}{n:Nat}{xs ys:List Value}{sv fv:Value}{cS:Bool}{W:World}(h:TkI w1 B sv0 fv0 n xs ys sv fv cS true W):∃ao cap,fv=.slice ao (n+1) cap:=QaH h.r
theorem QjG {W:World}{N:Nat}{l:List Value}{t:TypeId}(h:W.heap[N]? = some (.cells l.toArray t)):∀ (j:Nat) (u:Value),l[j]? = some u→W.cell? ((⟨N,0,none⟩:Addr).add j)=some u:=fun j u hu=>by
 rw [Qa2,Nat.zero_add];simp [World.cell?,h,hu]
theorem QeS {w1:World}{B:Nat}{sv0 fv0:Value}{n:Nat}{xs ys:List Value}{sv fv:Value}{cR:Bool}{W:World}{ops:Array Oper}{o:Oper}{a:Act}{K:Act→World→Prop}{Q:Exit→Act→World→Prop}{E:Prop}(hgd:o.guard=none)(s x:Operand)(ho:o.op=.call { callee:=.builtin .append,args:=#[s,x],argTypes:=#[23,23] })
  (TK:TkI w1 B sv0 fv0 n xs ys sv fv false cR W) (hn:n≤40) {N:Nat} (hs:a.eval s=sv) (hx:a.eval x=.slice (some ⟨N,0,none⟩) 1 1) (hN:W.heap[N]? = some (.cells #[.int .i64 0,.string ⟨#[]⟩,nl] 37))
  (h:∀v' w',Hid (TkI w1 B sv0 fv0 n xs ys v' fv true cR w')→Hid (Kp W w' 37)→K (a.put o.dst v') w'):if Region.wanted o (yielded ops a.tmps)=true then Oper.wp Tryz.prog o a W K Q else E:=by
 have hw:Region.wanted o (yielded ops a.tmps)=true:=by simp [Region.wanted,hgd]
 rw [if_pos hw];obtain⟨i0,hi,hz0,hz1,hz2⟩:=info_parts Qdn;obtain⟨v',w',hr,g2,g3,_,g5⟩:=run_append_own_at (P:=Tryz.prog) W B 23 o.type 37 i0 _ 3 48 Tryz.underlying23 hi hz0 hz1 hz2 rfl (by decide) sv n xs TK.s ⟨N,0,none⟩ 1 1 z3 rfl (QjG (l:=z3) hN) (by intro u hu;simp at hu;rcases hu with rfl | rfl | rfl <;> rfl) (by unfold maxLen;omega) (by omega) (Nat.le_trans TK.bB TK.bel.size);unfold Oper.wp execOp;simp only [ho,resolve,invoke,builtin,Sem.run_bind,Sem.run_pure,Result.andThen_ok,List.map_toArray,List.map_cons,List.map_nil,hs,hx,hr];exact h v' w' (TK.appS g3 g2 g5) (Qjd TK.s g3)
theorem QeE {w1:World}{B:Nat}{sv0 fv0:Value}{n:Nat}{xs ys:List Value}{sv fv:Value}{cS:Bool}{W:World}{ops:Array Oper}{o:Oper}{a:Act}{K:Act→World→Prop}{Q:Exit→Act→World→Prop}{E:Prop}(hgd:o.guard=none)(s x:Operand)(ho:o.op=.call { callee:=.builtin .append,args:=#[s,x],argTypes:=#[22,22] })
  (TK:TkI w1 B sv0 fv0 n xs ys sv fv cS false W) (hn:n≤40) {N:Nat} (hs:a.eval s=fv) (hx:a.eval x=.slice (some ⟨N,0,none⟩) 1 1) (hN:W.heap[N]? = some (.cells #[.int .i64 0] 3))
  (h:∀v' w',Hid (TkI w1 B sv0 fv0 n xs ys sv v' cS true w')→Hid (Kp W w' 3)→K (a.put o.dst v') w'):if Region.wanted o (yielded ops a.tmps)=true then Oper.wp Tryz.prog o a W K Q else E:=by
 have hw:Region.wanted o (yielded ops a.tmps)=true:=by simp [Region.wanted,hgd]
 rw [if_pos hw];obtain⟨i0,hi,hz0,hz1,hz2⟩:=info_parts Qlz;obtain⟨v',w',hr,g2,g3,_,g5⟩:=run_append_own_at (P:=Tryz.prog) W B 22 o.type 3 i0 _ 1 8 Tryz.underlying22 hi hz0 hz1 hz2 rfl (by decide) fv n ys TK.r ⟨N,0,none⟩ 1 1 z1 rfl (QjG (l:=z1) hN) (by intro u hu;simp at hu;subst hu;rfl) (by unfold maxLen;omega) (by omega) (Nat.le_trans TK.bB TK.bel.size);unfold Oper.wp execOp;simp only [ho,resolve,invoke,builtin,Sem.run_bind,Sem.run_pure,Result.andThen_ok,List.map_toArray,List.map_cons,List.map_nil,hs,hx,hr];exact h v' w' (TK.appR g3 g2 g5) (Qjd TK.r g3)

theorem QeX {W W':World}{B n size:Nat}{e:TypeId}{v:Value}{xs:List Value}(h:W.ownsRow B e size v n xs)(hb:∀g,v.ownBlock=some g→W'.heap[g]? = W.heap[g]?):W'.ownsRow B e size v n xs:=by
 refine⟨h.1,?_⟩;rcases h.2 with hn | ⟨g,cap,cur,hv,hb',hg,rest⟩
 ·exact .inl hn
 ·exact .inr ⟨g,cap,cur,hv,hb',(hb g (by rw [hv];rfl)).trans hg,rest⟩
theorem Qms (l:List Int)(x:Int):ints (l ++ [x])=ints l ++ [.int .i64 x]:=by simp [ints]
theorem DTo.both {w w1 W:World}{B D:Nat}{m:ImgD}{val:Nm→Value}{ev sv fv:Value}(h:DTo w w1 B D m val ev m val)(hr:m.refs.length=m.slots.length)(TK:TkI w1 B (val .slots) (val .refs) m.slots.length (QaE m.slots (fun j=>val (.tab j))) (ints m.refs) sv fv true true W) :
  DTo w ((W.setCell ⟨D,2,none⟩ sv).setCell ⟨D,3,none⟩ fv) B D m val ev { m with slots:=m.slots ++ [(0,⟨#[]⟩,[])],refs:=m.refs ++ [0] } (upd (upd (upd val (.tab m.slots.length) nilV) .slots sv) .refs fv):=by
 have hDw:=h.dk.lt;have hv:∀b,b≠.slots→b≠.refs→b≠.tab m.slots.length→upd (upd (upd val (.tab m.slots.length) nilV) .slots sv) .refs fv b=val b:=fun b h1 h2 h3=>by rw [Qae _ _ h2,Qae _ _ h1,Qae _ _ h3]
 have hvs:upd (upd (upd val (.tab m.slots.length) nilV) .slots sv) .refs fv .slots=sv:=by rw [Qae _ _ (by intro x;cases x),Qar]
 have hvf:upd (upd (upd val (.tab m.slots.length) nilV) .slots sv) .refs fv .refs=fv:=Qar _ _ _;have hvt:upd (upd (upd val (.tab m.slots.length) nilV) .slots sv) .refs fv (.tab m.slots.length)=nilV:=by rw [Qae _ _ (by intro x;cases x),Qae _ _ (by intro x;cases x),Qar]
 have hcase:∀b,Live { m with slots:=m.slots ++ [(0,⟨#[]⟩,[])],refs:=m.refs ++ [0] } b→b=.slots∨b=.refs∨b=.tab m.slots.length∨(Live m b∧b≠.slots∧b≠.refs∧b≠.tab m.slots.length):=fun b hb=>by
  rcases hb.cases with rfl | rfl | rfl | rfl | ⟨j,rfl,hj⟩ | ⟨j,rfl,hj⟩
  ·exact .inr (.inr (.inr ⟨Live.root m,(by intro x;cases x),(by intro x;cases x),(by intro x;cases x)⟩))
  ·exact .inl rfl
  ·exact .inr (.inl rfl)
  ·exact .inr (.inr (.inr ⟨Live.snaps m,(by intro x;cases x),(by intro x;cases x),(by intro x;cases x)⟩))
  ·by_cases e:j=m.slots.length
   ·subst e;exact .inr (.inr (.inl rfl))
   ·have hj:j<(m.slots ++ [((0:Int),(⟨#[]⟩:ByteArray),([]:List Int))]).length:=hj;rw [List.length_append,List.length_singleton] at hj;exact .inr (.inr (.inr ⟨Live.tab (by omega),(by intro x;cases x),(by intro x;cases x),(by intro x;injection x with _ x;exact e x)⟩))
  ·exact .inr (.inr (.inr ⟨Live.sr hj,(by intro x;cases x),(by intro x;cases x),(by intro x;cases x)⟩))
 have hold:∀b,Live m b→b≠.slots→b≠.refs→∀g,(val b).ownBlock=some g→g<w1.heap.size∧(val .slots).ownBlock≠some g∧(val .refs).ownBlock≠some g:=fun b hb h1 h2 g e=>
  ⟨((h.dk.own.row b hb).lt g e).2,h.dk.own.apart b .slots hb (Live.slots m) h1 g e,h.dk.own.apart b .refs hb (Live.refs m) h2 g e⟩
 have hnotS:∀q,q<w1.heap.size→(val .slots).ownBlock≠some q→sv.ownBlock≠some q:=fun q hq hn e=>by
  rcases TK.sb with x | x
  ·exact hn (x.symm.trans e)
  ·have:=x q e;omega
 have hnotF:∀q,q<w1.heap.size→(val .refs).ownBlock≠some q→fv.ownBlock≠some q:=fun q hq hn e=>by
  rcases TK.fb with x | x
  ·exact hn (x.symm.trans e)
  ·have:=x q e;omega
 have hDs:=h.dk.far .slots (Live.slots m);have hDf:=h.dk.far .refs (Live.refs m);have hfarD:∀b,Live { m with slots:=m.slots ++ [(0,⟨#[]⟩,[])],refs:=m.refs ++ [0] } b→(upd (upd (upd val (.tab m.slots.length) nilV) .slots sv) .refs fv b).ownBlock≠some D:=fun b hb=>by
  rcases hcase b hb with rfl | rfl | rfl | ⟨hl,h1,h2,h3⟩
  ·rw [hvs];exact hnotS D hDw hDs
  ·rw [hvf];exact hnotF D hDw hDf
  ·rw [hvt];exact QbE _
  ·rw [hv b h1 h2 h3];exact h.dk.far b hl
 have hOW:OI W B (upd (upd (upd val (.tab m.slots.length) nilV) .slots sv) .refs fv) { m with slots:=m.slots ++ [(0,⟨#[]⟩,[])],refs:=m.refs ++ [0] }:=by
  refine⟨fun b hb=>?_,fun b c hb hc hne q hq=>?_⟩
  ·rcases hcase b hb with rfl | rfl | rfl | ⟨hl,h1,h2,h3⟩
   ·rw [hvs];have e1:=QfZ m.slots (fun j=>val (.tab j)) (fun j=>upd (upd (upd val (.tab m.slots.length) nilV) .slots sv) .refs fv (.tab j)) (0,⟨#[]⟩,[]) (fun j hj=>hv _ (by intro x;cases x) (by intro x;cases x) (by intro x;injection x with _ x;omega));rw [hvt] at e1;have e2:rowN { m with slots:=m.slots ++ [(0,⟨#[]⟩,[])],refs:=m.refs ++ [0] } .slots=m.slots.length+1:=by show (m.slots ++ [_]).length=_;simp
    have e1:rowV { m with slots:=m.slots ++ [(0,⟨#[]⟩,[])],refs:=m.refs ++ [0] } (upd (upd (upd val (.tab m.slots.length) nilV) .slots sv) .refs fv) .slots=QaE m.slots (fun j=>val (.tab j)) ++ z3:=e1;rw [e1,e2];exact TK.s
   ·rw [hvf];have e1:rowV { m with slots:=m.slots ++ [(0,⟨#[]⟩,[])],refs:=m.refs ++ [0] } (upd (upd (upd val (.tab m.slots.length) nilV) .slots sv) .refs fv) .refs=ints m.refs ++ z1:=Qms _ _;have e2:rowN { m with slots:=m.slots ++ [(0,⟨#[]⟩,[])],refs:=m.refs ++ [0] } .refs=m.slots.length+1:=by show (m.refs ++ [_]).length=_;simp [hr]
    rw [e1,e2];exact TK.r
   ·rw [hvt];have e0:(m.slots ++ [((0:Int),(⟨#[]⟩:ByteArray),([]:List Int))]).getD m.slots.length default=(0,⟨#[]⟩,[]):=by simp [List.getD]
    have e1:rowV { m with slots:=m.slots ++ [(0,⟨#[]⟩,[])],refs:=m.refs ++ [0] } (upd (upd (upd val (.tab m.slots.length) nilV) .slots sv) .refs fv) (.tab m.slots.length)=[]:=by
     show ints ((m.slots ++ [((0:Int),(⟨#[]⟩:ByteArray),([]:List Int))]).getD m.slots.length default).2.2=_
     rw [e0];rfl
    have e2:rowN { m with slots:=m.slots ++ [(0,⟨#[]⟩,[])],refs:=m.refs ++ [0] } (.tab m.slots.length)=0:=by
     show ((m.slots ++ [((0:Int),(⟨#[]⟩:ByteArray),([]:List Int))]).getD m.slots.length default).2.2.length=_
     rw [e0];rfl
    rw [e1,e2];exact World.ownsRow_nil _ _ _ _
   ·rw [hv b h1 h2 h3];have e1:rowV { m with slots:=m.slots ++ [(0,⟨#[]⟩,[])],refs:=m.refs ++ [0] } (upd (upd (upd val (.tab m.slots.length) nilV) .slots sv) .refs fv) b=rowV m val b∧rowN { m with slots:=m.slots ++ [(0,⟨#[]⟩,[])],refs:=m.refs ++ [0] } b=rowN m b:=by
     rcases hl.cases with rfl | rfl | rfl | rfl | ⟨j,rfl,hj⟩ | ⟨j,rfl,hj⟩
     ·exact⟨rfl,rfl⟩
     ·exact absurd rfl h1
     ·exact absurd rfl h2
     ·refine⟨?_,rfl⟩;exact QlC (fun j _=>hv (.sr j) (by intro x;cases x) (by intro x;cases x) (by intro x;cases x))
     ·have e:(m.slots ++ [((0:Int),(⟨#[]⟩:ByteArray),([]:List Int))]).getD j default=m.slots.getD j default:=by simp [List.getD,List.getElem?_append,hj]
      constructor
      ·show ints ((m.slots ++ [((0:Int),(⟨#[]⟩:ByteArray),([]:List Int))]).getD j default).2.2=_
       rw [e];rfl
      ·show ((m.slots ++ [((0:Int),(⟨#[]⟩:ByteArray),([]:List Int))]).getD j default).2.2.length=_
       rw [e];rfl
     ·exact⟨rfl,rfl⟩
    rw [e1.1,e1.2];exact QeX (h.dk.own.row b hl) (fun g e=>by obtain⟨x1,x2,x3⟩:=hold b hl h1 h2 g e;exact TK.keep g x1 x2 x3)
  ·rcases hcase b hb with rfl | rfl | rfl | ⟨hl,h1,h2,h3⟩
   ·rw [hvs] at hq;rcases hcase c hc with rfl | rfl | rfl | ⟨kl,k1,k2,k3⟩
    ·exact absurd rfl hne
    ·rw [hvf];exact TK.ap q hq
    ·rw [hvt];exact QbE _
    ·rw [hv c k1 k2 k3];intro y;obtain⟨x1,x2,_⟩:=hold c kl k1 k2 q y;exact hnotS q x1 x2 hq
   ·rw [hvf] at hq;rcases hcase c hc with rfl | rfl | rfl | ⟨kl,k1,k2,k3⟩
    ·rw [hvs];exact fun y=>TK.ap q y hq
    ·exact absurd rfl hne
    ·rw [hvt];exact QbE _
    ·rw [hv c k1 k2 k3];intro y;obtain⟨x1,_,x3⟩:=hold c kl k1 k2 q y;exact hnotF q x1 x3 hq
   ·rw [hvt] at hq;cases hq
   ·rw [hv b h1 h2 h3] at hq;obtain⟨x1,x2,x3⟩:=hold b hl h1 h2 q hq;rcases hcase c hc with rfl | rfl | rfl | ⟨kl,k1,k2,k3⟩
    ·rw [hvs];exact hnotS q x1 x2
    ·rw [hvf];exact hnotF q x1 x3
    ·rw [hvt];exact QbE _
    ·rw [hv c k1 k2 k3];exact h.dk.own.apart b c hl kl hne q hq
 have hbox:W.heap[D]? = some (.cells #[.int .i64 m.guest,val .root,val .slots,val .refs,val .snaps] 52):=(TK.keep D hDw hDs hDf).trans h.dk.box;refine⟨⟨(hOW.far hfarD).far hfarD,?_,h.dk.ge,hfarD⟩,((h.bel.trans TK.bel).setCell h.dk.ge _).setCell h.dk.ge _,fun q hq hqD hev hm=>?_,fun q hq hev hm b hb=>?_⟩
 ·rw [hvs,hvf,hv .root (by intro x;cases x) (by intro x;cases x) (by intro x;cases x),hv .snaps (by intro x;cases x) (by intro x;cases x) (by intro x;cases x)];exact Qau (Qau hbox 2 _) 3 _
 ·have hq1:q<w1.heap.size:=Nat.lt_of_lt_of_le hq h.bel.size;have hs:=h.src q hq hev hm;exact (Qan (Qan rfl hqD _ _) hqD _ _).trans ((TK.keep q hq1 (hs .slots (Live.slots m)) (hs .refs (Live.refs m))).trans (h.keep q hq hqD hev hm))
 ·have hq1:q<w1.heap.size:=Nat.lt_of_lt_of_le hq h.bel.size;have hs:=h.src q hq hev hm;rcases hcase b hb with rfl | rfl | rfl | ⟨hl,h1,h2,h3⟩
  ·rw [hvs];exact hnotS q hq1 (hs .slots (Live.slots m))
  ·rw [hvf];exact hnotF q hq1 (hs .refs (Live.refs m))
  ·rw [hvt];exact QbE _
  ·rw [hv b h1 h2 h3];exact hs b hl
theorem Qm6 {w1 W:World}{B:Nat}{m:ImgD}{val:Nm→Value}{ev sv fv:Value}{n:Nat}{xs ys:List Value}{cS cR:Bool}(TK:TkI w1 B (val .slots) (val .refs) n xs ys sv fv cS cR W)(hfar:Far m val (.tab m.slots.length) ev)(hlt:∀g,ev.ownBlock=some g→g<w1.heap.size) :
  Far { m with slots:=m.slots ++ [(0,⟨#[]⟩,[])],refs:=m.refs ++ [0] } (upd (upd (upd val (.tab m.slots.length) nilV) .slots sv) .refs fv) (.tab m.slots.length) ev:=fun b hb hne g hg=>by
 have hg1:=hlt g hg
 by_cases h2:b=.refs
 ·subst h2;rw [Qar];intro e;rcases TK.fb with x | x
  ·exact hfar .refs (Live.refs m) (by intro y;cases y) g hg (x.symm.trans e)
  ·have:=x g e;omega
 rw [Qae _ _ h2]
 by_cases h1:b=.slots
 ·subst h1;rw [Qar];intro e;rcases TK.sb with x | x
  ·exact hfar .slots (Live.slots m) (by intro y;cases y) g hg (x.symm.trans e)
  ·have:=x g e;omega
 rw [Qae _ _ h1,Qae _ _ hne];refine hfar b ?_ hne g hg;rcases hb.cases with rfl | rfl | rfl | rfl | ⟨j,rfl,hj⟩ | ⟨j,rfl,hj⟩
 ·exact Live.root m
 ·exact absurd rfl h1
 ·exact absurd rfl h2
 ·exact Live.snaps m
 ·have hj:j<(m.slots ++ [((0:Int),(⟨#[]⟩:ByteArray),([]:List Int))]).length:=hj;rw [List.length_append,List.length_singleton] at hj;refine Live.tab ?_;rcases Nat.lt_or_ge j m.slots.length with h | h
  ·exact h
  ·exact absurd (by rw [show j=m.slots.length by omega]) hne
 ·exact Live.sr hj

theorem QpC {p:Prop}(h:p):Hid p:=h
theorem Qj4 {W:World}{B g cap:Nat}{l:List Int}(h:W.ownsRow B 3 1 (.slice (some ⟨g,0,none⟩) l.length cap) l.length (ints l)){k:Nat}(hk:k<l.length):W.cell? ⟨g,k,none⟩=some (.int .i64 (l.getD k 0)):=by
 refine (h.cellAt k (by omega)).trans ?_;unfold ints;rw [List.getElem?_map,List.getElem?_eq_getElem hk];simp [List.getD,hk]
theorem hn_a (W:World)(A:Array Value)(t:TypeId):(W.alloc (.cells A t)).heap[W.heap.size]? = some (.cells A t):=zHn _ _
theorem hn_b (W:World)(A:Array Value)(t:TypeId)(o:Obj):((W.alloc (.cells A t)).alloc o).heap[W.heap.size]? = some (.cells A t):=Qac (zHn _ _) _
theorem hn_c (W:World)(A:Array Value)(t:TypeId)(o:Obj):((W.alloc o).alloc (.cells A t)).heap[W.heap.size+1]? = some (.cells A t):=by have:=World.alloc_heap_new (W.alloc o) (.cells A t);simpa using this
def TkR (w1:World) (B D:Nat) (sv0 fv0:Value) (m:ImgD) (val:Nm→Value) (wx:World):Prop:=∃ (pa:Option Addr) (pc:Nat) (qa:Option Addr) (qc:Nat) (W:World),TkI w1 B sv0 fv0 m.slots.length (QaE m.slots (fun j=>val (.tab j))) (ints m.refs) (.slice pa (m.slots.length+1) pc) (.slice qa (m.slots.length+1) qc) true true W∧wx=(W.setCell ⟨D,2,none⟩ (.slice pa (m.slots.length+1) pc)).setCell ⟨D,3,none⟩ (.slice qa (m.slots.length+1) qc)
theorem QnG (m:ImgD)(sg sc:Nat)(fg fc:Nat)(k:Int)(d:ByteArray)(ea:Option Addr)(en ec:Nat)(es:List Int)(B D:Nat)(val:Nm→Value)(w:World)(hK:DK w B D val m)(hB:B≤w.heap.size)(e1:val .slots=.slice (some ⟨sg,0,none⟩) m.slots.length sc)(e2:val .refs=.slice (some ⟨fg,0,none⟩) m.slots.length fc)(hs:Qap m.slots=0)(hg:QaK m.slots=m.slots.length)(h40:m.slots.length<40)(hrl:m.refs.length=m.slots.length)
  (he:w.ownsRow B 3 1 (.slice ea en ec) es.length (ints es)) (hfar:Far m val (.tab m.slots.length) (.slice ea en ec)) (hD:(Value.slice ea en ec).ownBlock≠some D) :
  Calls Tryz.prog 28 #[.pointer (some ⟨D,0,none⟩),.agg #[.int .i64 k,.string d,.slice ea en ec]] w fun r w'=>r=.returned (.int .i64 (m.slots.length:Int))∧∃val',DTo w w' B D m val (.slice ea en ec) { m with slots:=m.slots ++ [(k,d,es)],refs:=m.refs ++ [1] } val'∧val' .root=val .root:=by
 have hK1:DK (w.alloc (.cells #[.int .i64 k,.string d,.slice ea en ec] 37)) B D val m:=hK.alloc _;obtain⟨d0,d1,d2,d3,d4⟩:=hK1.five;rw [e1] at d2;rw [e2] at d3;have hcall:=QiZ hK1.own.img.four.2.1 hs hg;rw [e1] at hcall;have g40:¬m.slots.length=40:=by omega
 rw [if_neg g40,if_neg g40] at hcall;have b0:Below w.heap.size w (w.alloc (.cells #[.int .i64 k,.string d,.slice ea en ec] 37)):=bA;have mS:(w.alloc (.cells #[.int .i64 k,.string d,.slice ea en ec] 37)).heap[w.heap.size]? = some (.cells #[.int .i64 k,.string d,.slice ea en ec] 37):=zHn _ _;have hDl:=hK.lt;clear hg hs g40
 go_enter Tryz.func28,Tryz.ntmps28
 go_upto_region 5 with (go_at_call 66;refine hcall.mono ?_;rintro e w1 ⟨rfl,b1⟩;have hK2:=hK1.below b1;obtain⟨i0,i1,i2,i3,i4⟩:=hK2.five;rw [e1] at i2;rw [e2] at i3;have mS1:=Qab mS b1 (by simp);obtain⟨s0,s1,s2⟩:=Qb6 mS1);have hz1:B≤w1.heap.size:=Nat.le_trans hB (Nat.le_trans b0.size b1.size);have hrr:=hK2.own.row .refs (Live.refs m);have hrs:=hK2.own.row .slots (Live.slots m);have TK:Hid (TkI w1 B (.slice (some ⟨sg,0,none⟩) m.slots.length sc) (.slice (some ⟨fg,0,none⟩) m.slots.length fc) m.slots.length (QaE m.slots (fun j=>val (.tab j))) (ints m.refs) (.slice (some ⟨sg,0,none⟩) m.slots.length sc) (.slice (some ⟨fg,0,none⟩) m.slots.length fc) false false w1):=by
  refine⟨Below.refl _ _,hz1,?_,?_,fun _ _ _ _=>rfl,.inl rfl,.inl rfl,?_⟩
  ·rw [e1] at hrs;exact hrs
  ·rw [e2] at hrr;have hrr:w1.ownsRow B 3 1 (.slice (some ⟨fg,0,none⟩) m.slots.length fc) m.refs.length (ints m.refs):=hrr;rw [hrl] at hrr;exact hrr
  ·intro g e;have:=hK2.own.apart .slots .refs (Live.slots m) (Live.refs m) (by intro x;cases x) g (by rw [e1];exact e);rw [e2] at this;exact this
 have hn40:m.slots.length≤40:=by omega
 have hDw:D<w1.heap.size:=hK2.lt;have nDS:(Value.slice (some ⟨sg,0,none⟩) m.slots.length sc).ownBlock≠some D:=by have:=hK.far .slots (Live.slots m);rw [e1] at this;exact this
 have nDF:(Value.slice (some ⟨fg,0,none⟩) m.slots.length fc).ownBlock≠some D:=by have:=hK.far .refs (Live.refs m);rw [e2] at this;exact this
 have hbD:=hK2.box;rw [e1,e2] at hbD;have hDc:∀sv fv cS cR W,Hid (TkI w1 B (.slice (some ⟨sg,0,none⟩) m.slots.length sc) (.slice (some ⟨fg,0,none⟩) m.slots.length fc) m.slots.length (QaE m.slots (fun j=>val (.tab j))) (ints m.refs) sv fv cS cR W)→W.cell? ⟨D,2,none⟩=some (.slice (some ⟨sg,0,none⟩) m.slots.length sc)∧W.cell? ⟨D,3,none⟩=some (.slice (some ⟨fg,0,none⟩) m.slots.length fc)∧W.frozen? ⟨D,2,none⟩=false∧W.frozen? ⟨D,3,none⟩=false∧(W.alloc (.cells #[.int .i64 0] 3)).cell? ⟨D,2,none⟩=some (.slice (some ⟨sg,0,none⟩) m.slots.length sc)∧(W.alloc (.cells #[.int .i64 0] 3)).cell? ⟨D,3,none⟩=some (.slice (some ⟨fg,0,none⟩) m.slots.length fc)∧(W.alloc (.cells #[.int .i64 0,.string ⟨#[]⟩,nl] 37)).cell? ⟨D,2,none⟩=some (.slice (some ⟨sg,0,none⟩) m.slots.length sc)∧(W.alloc (.cells #[.int .i64 0,.string ⟨#[]⟩,nl] 37)).cell? ⟨D,3,none⟩=some (.slice (some ⟨fg,0,none⟩) m.slots.length fc):=fun sv fv cS cR W h=>by
  have hb:=(h.out.keep D hDw nDS nDF).trans hbD;exact⟨(five hb).2.2.1,(five hb).2.2.2.1,Qaa hb 2,Qaa hb 3,(five (Qac hb _)).2.2.1,(five (Qac hb _)).2.2.2.1,(five (Qac hb _)).2.2.1,(five (Qac hb _)).2.2.2.1⟩
 have v02:(w1.alloc (.cells #[.int .i64 0,.string ⟨#[]⟩,nl] 37)).cell? ⟨D,2,none⟩=some (.slice (some ⟨sg,0,none⟩) m.slots.length sc):=(five (Qac hbD _)).2.2.1;have v03:(w1.alloc (.cells #[.int .i64 0,.string ⟨#[]⟩,nl] 37)).cell? ⟨D,3,none⟩=some (.slice (some ⟨fg,0,none⟩) m.slots.length fc):=(five (Qac hbD _)).2.2.2.1;have v12:(w1.alloc (.cells #[.int .i64 0] 3)).cell? ⟨D,2,none⟩=some (.slice (some ⟨sg,0,none⟩) m.slots.length sc):=(five (Qac hbD _)).2.2.1;have v13:(w1.alloc (.cells #[.int .i64 0] 3)).cell? ⟨D,3,none⟩=some (.slice (some ⟨fg,0,none⟩) m.slots.length fc):=(five (Qac hbD _)).2.2.2.1;have v22:((w1.alloc (.cells #[.int .i64 0,.string ⟨#[]⟩,nl] 37)).alloc (.cells #[.int .i64 0] 3)).cell? ⟨D,2,none⟩=some (.slice (some ⟨sg,0,none⟩) m.slots.length sc):=(five (Qac (Qac hbD _) _)).2.2.1;have v23:((w1.alloc (.cells #[.int .i64 0,.string ⟨#[]⟩,nl] 37)).alloc (.cells #[.int .i64 0] 3)).cell? ⟨D,3,none⟩=some (.slice (some ⟨fg,0,none⟩) m.slots.length fc):=(five (Qac (Qac hbD _) _)).2.2.2.1;have v32:((w1.alloc (.cells #[.int .i64 0] 3)).alloc (.cells #[.int .i64 0,.string ⟨#[]⟩,nl] 37)).cell? ⟨D,2,none⟩=some (.slice (some ⟨sg,0,none⟩) m.slots.length sc):=(five (Qac (Qac hbD _) _)).2.2.1;have v33:((w1.alloc (.cells #[.int .i64 0] 3)).alloc (.cells #[.int .i64 0,.string ⟨#[]⟩,nl] 37)).cell? ⟨D,3,none⟩=some (.slice (some ⟨fg,0,none⟩) m.slots.length fc):=(five (Qac (Qac hbD _) _)).2.2.2.1
 go_cut [] from 7 (fun wx=>TkR w1 B D (.slice (some ⟨sg,0,none⟩) m.slots.length sc) (.slice (some ⟨fg,0,none⟩) m.slots.length fc) m val wx)
 case first=>
  go_region_law (first
   | (refine QeS (by rfl) _ _ (by rfl) TKr.out hn40 (by rfl) (by rfl) ?hN ?_;(case hN=>(first | exact KPr.out _ _ _ (hn_b _ _ _ _) (by decide) | exact KPr.out _ _ _ (hn_c _ _ _ _) (by decide) | exact KPr.out _ _ _ (hn_a _ _ _) (by decide)));intro sv2 w3 TKs KPs;obtain⟨pa,pc,rfl⟩:=TKs.out.sForm;obtain⟨x2,x3,x4,x5,x6,x7,x8,x9⟩:=hDc _ _ _ _ _ TKs)
   | (refine QeS (by rfl) _ _ (by rfl) (TKr.out.alloc _) hn40 (by rfl) (by rfl) ?hN ?_;(case hN=>(exact hn_a _ _ _));intro sv2 w3 TKs KPs;obtain⟨pa,pc,rfl⟩:=TKs.out.sForm;obtain⟨x2,x3,x4,x5,x6,x7,x8,x9⟩:=hDc _ _ _ _ _ TKs)
   | (refine QeE (by rfl) _ _ (by rfl) TKs.out hn40 (by rfl) (by rfl) ?hN ?_;(case hN=>(first | exact KPs.out _ _ _ (hn_b _ _ _ _) (by decide) | exact KPs.out _ _ _ (hn_c _ _ _ _) (by decide) | exact KPs.out _ _ _ (hn_a _ _ _) (by decide)));intro fv2 w3 TKr KPr;obtain⟨qa,qc,rfl⟩:=TKr.out.rForm;obtain⟨x2,x3,x4,x5,x6,x7,x8,x9⟩:=hDc _ _ _ _ _ TKr)
   | (refine QeE (by rfl) _ _ (by rfl) (TKs.out.alloc _) hn40 (by rfl) (by rfl) ?hN ?_;(case hN=>(exact hn_a _ _ _));intro fv2 w3 TKr KPr;obtain⟨qa,qc,rfl⟩:=TKr.out.rForm;obtain⟨x2,x3,x4,x5,x6,x7,x8,x9⟩:=hDc _ _ _ _ _ TKr)
   | (refine QeS (by rfl) _ _ (by rfl) ((TK.out.alloc _).drew) hn40 (by rfl) (by rfl) ?hN ?_;(case hN=>(first | exact hn_a _ _ _));intro sv1 w2 TKs KPs;obtain⟨pa,pc,rfl⟩:=TKs.out.sForm;obtain⟨y2,y3,y4,y5,y6,y7,y8,y9⟩:=hDc _ _ _ _ _ TKs)
   | (refine QeS (by rfl) _ _ (by rfl) (((TK.out.alloc _).alloc _).drew) hn40 (by rfl) (by rfl) ?hN ?_;(case hN=>(first | exact hn_b _ _ _ _ | exact hn_c _ _ _ _));intro sv1 w2 TKs KPs;obtain⟨pa,pc,rfl⟩:=TKs.out.sForm;obtain⟨y2,y3,y4,y5,y6,y7,y8,y9⟩:=hDc _ _ _ _ _ TKs)
   | (refine QeE (by rfl) _ _ (by rfl) ((TK.out.alloc _).drew) hn40 (by rfl) (by rfl) ?hN ?_;(case hN=>(first | exact hn_a _ _ _));intro fv1 w2 TKr KPr;obtain⟨qa,qc,rfl⟩:=TKr.out.rForm;obtain⟨y2,y3,y4,y5,y6,y7,y8,y9⟩:=hDc _ _ _ _ _ TKr)
   | (refine QeE (by rfl) _ _ (by rfl) (((TK.out.alloc _).alloc _).drew) hn40 (by rfl) (by rfl) ?hN ?_;(case hN=>(first | exact hn_b _ _ _ _ | exact hn_c _ _ _ _));intro fv1 w2 TKr KPr;obtain⟨qa,qc,rfl⟩:=TKr.out.rForm;obtain⟨y2,y3,y4,y5,y6,y7,y8,y9⟩:=hDc _ _ _ _ _ TKr))
  all_goals
   go_wp2_with fail;go_meet;exact⟨_,_,_,_,w3,(by first | exact TKr.out | exact TKs.out),rfl⟩
 case rest=>
 obtain⟨pa,pc,qa,qc,W,hTK,hwc⟩:=hcut;have hT1:=((DTo.refl hK1 (.slice ea en ec)).below (by simp;omega) b1);have hTB:=hT1.both hrl (by rw [e1,e2];exact hTK);rw [←hwc] at hTB;obtain⟨vn,hvn⟩:∃vn,upd (upd (upd val (.tab m.slots.length) nilV) .slots (.slice pa (m.slots.length+1) pc)) .refs (.slice qa (m.slots.length+1) qc)=vn:=⟨_,rfl⟩;rw [hvn] at hTB;have n1:vn .slots=.slice pa (m.slots.length+1) pc:=by rw [←hvn,Qae _ _ (by intro x;cases x),Qar]
 have n2:vn .refs=.slice qa (m.slots.length+1) qc:=by rw [←hvn,Qar]
 have HR:Hid (vn .root=val .root):=by show _=_;rw [←hvn,Qae _ _ (by intro x;cases x),Qae _ _ (by intro x;cases x),Qae _ _ (by intro x;cases x)]
 have hsl:(m.slots ++ [((0:Int),(⟨#[]⟩:ByteArray),([]:List Int))]).length=m.slots.length+1:=by simp
 have hrs:=hTB.dk.own.row .slots (Live.slots _);rw [n1] at hrs;have hrs:wc.ownsRow B 37 3 (.slice pa (m.slots.length+1) pc) (m.slots.length+1) (QaE (m.slots ++ [(0,⟨#[]⟩,[])]) (fun j=>vn (.tab j))):=by rw [←hsl];rw [←hsl] at hrs;exact hrs
 have hrr:=hTB.dk.own.row .refs (Live.refs _);rw [n2] at hrr;have hrfl:(m.refs ++ [(0:Int)]).length=m.slots.length+1:=by simp [hrl]
 have hrr:wc.ownsRow B 3 1 (.slice qa (m.slots.length+1) qc) (m.slots.length+1) (ints (m.refs ++ [0])):=by rw [←hrfl];rw [←hrfl] at hrr;exact hrr
 obtain⟨pg,pc',ep⟩:=Qba hrs;simp only [Value.slice.injEq] at ep;obtain⟨rfl,_,rfl⟩:=ep;obtain⟨qg,qc',eq⟩:=Qba hrr;simp only [Value.slice.injEq] at eq;obtain⟨rfl,_,rfl⟩:=eq;have mS2:wc.heap[w.heap.size]? = some (.cells #[.int .i64 k,.string d,.slice ea en ec] 37):=hTB.cells (zHn _ _) (by omega) (fun e=>by have:=(he.lt _ e).2;omega) (hK.own.lt (Nat.le_refl _));obtain⟨s0,s1,s2⟩:=Qb6 mS2;obtain⟨j0,j1,j2,j3,j4⟩:=hTB.dk.five;rw [n1] at j2;rw [n2] at j3;obtain⟨t0,t1,t2⟩:=QaO (L:=m.slots ++ [((0:Int),(⟨#[]⟩:ByteArray),([]:List Int))]) (tv:=fun j=>vn (.tab j)) (j:=m.slots.length) (by simp);have t0:=(hrs.cellAt (m.slots.length*3) (by omega)).trans t0;have t1:=(hrs.cellAt (m.slots.length*3+1) (by omega)).trans t1;have t2:=(hrs.cellAt (m.slots.length*3+2) (by omega)).trans t2;have u0:=hrs.frozenAt (m.slots.length*3);have u1:=hrs.frozenAt (m.slots.length*3+1);have u2:=hrs.frozenAt (m.slots.length*3+2);have t3:wc.cell? ⟨qg,m.slots.length,none⟩=some (.int .i64 ((m.refs ++ [0]).getD m.slots.length 0)):=Qj4 (by rw [hrfl];exact hrr) (by rw [hrfl];omega);have u3:=hrr.frozenAt m.slots.length;have hli:(m.slots.length:Int)<(m.slots.length:Int)+1:=by omega
 have nDS:¬D=pg:=fun e=>hTB.dk.far .slots (Live.slots _) (by rw [n1,e];rfl)
 have nDF:¬D=qg:=fun e=>hTB.dk.far .refs (Live.refs _) (by rw [n2,e];rfl)
 have nSD:¬pg=D:=fun e=>nDS e.symm
 have nFD:¬qg=D:=fun e=>nDF e.symm
 have nSF:¬pg=qg:=fun e=>hTB.dk.own.apart .slots .refs (Live.slots _) (Live.refs _) (by intro x;cases x) pg (by rw [n1];rfl) (by rw [n2,e];rfl)
 have nFS:¬qg=pg:=fun e=>nSF e.symm
 have nWS:¬w.heap.size=pg:=fun e=>hTB.src w.heap.size (by simp) (fun e=>by have:=(he.lt _ e).2;omega) (hK.own.lt (Nat.le_refl _)) .slots (Live.slots _) (by rw [n1,e];rfl)
 have nWF:¬w.heap.size=qg:=fun e=>hTB.src w.heap.size (by simp) (fun e=>by have:=(he.lt _ e).2;omega) (hK.own.lt (Nat.le_refl _)) .refs (Live.refs _) (by rw [n2,e];rfl)
 have nSW:¬pg=w.heap.size:=fun e=>nWS e.symm
 have nFW:¬qg=w.heap.size:=fun e=>nWF e.symm
 have hlt1:∀g,(Value.slice ea en ec).ownBlock=some g→g<w.heap.size:=fun g e=>(he.lt g e).2
 have hw01:w.heap.size≤w1.heap.size:=Nat.le_trans b0.size b1.size;have hevc:wc.ownsRow B 3 1 (.slice ea en ec) es.length (ints es):=by
  rw [hwc];refine ownsRow_setCell_other (ownsRow_setCell_other (QeX (Qco (he.alloc (.cells #[.int .i64 k,.string d,.slice ea en ec] 37)) b1) (fun g e=>?_)) hD _) hD _;have x1:=hfar .slots (Live.slots m) (by intro y;cases y) g e;have x2:=hfar .refs (Live.refs m) (by intro y;cases y) g e;rw [e1] at x1;rw [e2] at x2;exact hTK.keep g (by have:=hlt1 g e;omega) x1 x2
 have hfarc:Far { m with slots:=m.slots ++ [(0,⟨#[]⟩,[])],refs:=m.refs ++ [0] } vn (.tab m.slots.length) (.slice ea en ec):=by
  rw [←hvn];have hTK':=hTK;rw [←e1,← e2] at hTK';exact Qm6 hTK' hfar (fun g e=>by have:=hlt1 g e;omega)
 have hF:=(hTB.setSlot (t:=m.slots.length) (by show _<(m.slots ++ [_]).length;simp) n1 k d es hevc hfarc hD (fun q e=>.inl e)).setRefs (g:=qg) (n:=m.slots.length+1) (cap:=qc) ((Qae _ _ (by intro x;cases x)).trans n2) m.slots.length 1;have em:({ m with slots:=(m.slots ++ [((0:Int),(⟨#[]⟩:ByteArray),([]:List Int))]).set m.slots.length (k,d,es),refs:=(m.refs ++ [0]).set m.slots.length 1 } : ImgD) = { m with slots:=m.slots ++ [(k,d,es)],refs:=m.refs ++ [1] }:=by
  have x1:(m.slots ++ [((0:Int),(⟨#[]⟩:ByteArray),([]:List Int))]).set m.slots.length (k,d,es)=m.slots ++ [(k,d,es)]:=by simp
  have x2:(m.refs ++ [(0:Int)]).set m.slots.length 1=m.refs ++ [1]:=by rw [←hrl];simp
  rw [x1,x2]
 have hF:=hF.drew;rw [em] at hF;have HF:=QpC (hF.pre b0 hB);clear hF hevc hfarc hT1 hTB hTK hwc hvn hrs hrr TK hK1 hK2 hcall mS mS1 mS2 d0 d1 d2 d3 d4 i0 i1 i2 i3 i4 j0 j1 j4 n1 n2 em hsl hrfl hbD hDc;go_wp2_with fail
 go_region_held3 (fun W=>W.cell? ⟨D,0+1+1,none⟩=some (.slice (some ⟨pg,0,none⟩) (m.slots.length+1) pc)∧W.cell? ⟨D,0+1+1+1,none⟩=some (.slice (some ⟨qg,0,none⟩) (m.slots.length+1) qc)∧W.cell? ⟨w.heap.size,0,none⟩=some (.int .i64 k)∧W.cell? ⟨w.heap.size,0+1,none⟩=some (.string d)∧W.cell? ⟨w.heap.size,0+1+1,none⟩=some (.slice ea en ec)) (first | exact⟨j2,j3,s0,s1,s2⟩ | go_keep) (fail)
 go_wp2_with fail;go_ret;exact⟨rfl,_,HF.out,(Qae _ _ (by intro x;cases x)).trans HR.out⟩
theorem Tryz.size3:(Tryz.prog.info? 3).map (·.size)=some 1:=by kernel_rfl
theorem Qk0 (xs:List Int)(n:Nat)(h4:xs.length=4)(hn:n≤4) :
  splice [Value.int .i64 0,Value.int .i64 0,Value.int .i64 0,Value.int .i64 0] 0 ((xs.take n).map (Value.int .i64))=(cutR xs n).map (Value.int .i64):=by
 match xs,h4 with
 | [a,b,c,d],_=>
  match n,hn with
  | 0,_=>rfl
  | 1,_=>rfl
  | 2,_=>rfl
  | 3,_=>rfl
  | 4,_=>rfl
theorem Qor (xs:List Int)(n k:Nat)(h4:xs.length=4)(hn:n≤k)(hk:k<4) :
  ((cutR xs n).map (Value.int .i64)).toArray.setIfInBounds k (Value.int .i64 0)=((cutR xs n).map (Value.int .i64)).toArray:=by
 match xs,h4 with
 | [a,b,c,d],_=>
  match k,hk with
  | 0,_=>match n,hn with
   | 0,_=>rfl
  | 1,_=>match n,hn with
   | 0,_=>rfl
   | 1,_=>rfl
  | 2,_=>match n,hn with
   | 0,_=>rfl
   | 1,_=>rfl
   | 2,_=>rfl
  | 3,_=>match n,hn with
   | 0,_=>rfl
   | 1,_=>rfl
   | 2,_=>rfl
   | 3,_=>rfl
theorem Qii (xs:List Int)(n:Nat)(h4:xs.length=4)(hn:n≤4):(cutR xs n).length=4:=by
 unfold cutR;simp;omega
theorem Qli (b off cap n:Nat)(xs:List Int)(w:World)(h4:xs.length=4)(hn:n≤4)(hb:b<w.heap.size)(hc:∀j,j<4→w.cell? ⟨b,off+j,none⟩=some (.int .i64 (xs.getD j 0))) :
  ∃W2,(Builtin.copy_ #[22,22] 3 #[.slice (some ⟨w.heap.size,0,none⟩) 4 4,.slice (some ⟨b,off,none⟩) n cap]).run Tryz.prog (w.alloc (.cells #[.int .i64 0,.int .i64 0,.int .i64 0,.int .i64 0] 3))=.ok (.int .i64 n) W2∧
   W2.heap[w.heap.size]? = some (.cells ((cutR xs n).map (Value.int .i64)).toArray 3 (0,0))∧Below w.heap.size w W2:=by
 obtain⟨X,hX⟩:∃X,X=(xs.take n).map (Value.int .i64):=⟨_,rfl⟩;have hXl:X.length=n:=by rw [hX];simp;rw [h4];omega
 have hsrc:∀j v,X[j]? = some v→(w.alloc (.cells #[.int .i64 0,.int .i64 0,.int .i64 0,.int .i64 0] 3)).cell? ((⟨b,off,none⟩:Addr).add j)=some v:=by
  intro j v hj;have hjn:j<n:=by have:=(List.getElem?_eq_some_iff.1 hj).1;rw [hXl] at this;exact this
  rw [hX] at hj;have:v=.int .i64 (xs.getD j 0):=by
   rw [List.getElem?_map,List.getElem?_take,if_pos hjn] at hj;simp [List.getD,show j<xs.length by omega] at hj ⊢
   exact hj.symm
  rw [this];rw [Qa2];exact (World.cell?_alloc_past _ _ _ hb).trans (hc j (by omega))
 have hg:=heap_alloc_new w (.cells #[.int .i64 0,.int .i64 0,.int .i64 0,.int .i64 0] 3);have hrun:=run_copy_row (P:=Tryz.prog) _ 22 22 3 3 w.heap.size 0 4 4 ⟨b,off,none⟩ n cap _ 3 X Tryz.underlying22 Tryz.size3 hg (by rw [hXl];exact (Nat.min_eq_left hn).symm) hsrc (by rw [hXl];simp;omega) (by rw [hX];exact ints_oneCell _ _);refine⟨_,hrun.trans (by rw [hXl];rfl),?_,below_setRow (bA) (Nat.le_refl _) _⟩;rw [setRow_heap _ _ _ _ _ _ hg,hX];have:=Qk0 xs n h4 hn;unfold splice at this;rw [←this];simp [h4]
theorem QnI (b off cap n:Nat)(xs:List Int)(w:World)(h4:xs.length=4)(hn:n≤4)(hcap:4≤cap)(hb:b<w.heap.size)(hc:∀j,j<4→w.cell? ⟨b,off+j,none⟩=some (.int .i64 (xs.getD j 0))) :
  Calls Tryz.prog 91 #[.slice (some ⟨b,off,none⟩) 4 cap,.int .i64 n] w fun r w'=>∃g cap',r=.returned (.slice (some ⟨g,0,none⟩) 4 cap')∧w'.ownsRow w.heap.size 3 1 (.slice (some ⟨g,0,none⟩) 4 cap') 4 ((cutR xs n).map (.int .i64))∧Below w.heap.size w w':=by
 obtain⟨W2,hcp,hg2,hB2⟩:=Qli b off cap n xs w h4 hn hb hc;clear hc;have HL:Hid ((cutR xs n).length=4):=Qii xs n h4 hn;have HS:Hid (∀k,n≤k→k<4→((cutR xs n).map (Value.int .i64)).toArray.setIfInBounds k (Value.int .i64 0)=((cutR xs n).map (Value.int .i64)).toArray):=fun k h1 h2=>Qor xs n k h4 h1 h2
 obtain⟨R,hR⟩:∃R,R=(cutR xs n).map (Value.int .i64):=⟨_,rfl⟩;rw [←hR] at hg2 HS ⊢;have HR:Hid (R=(cutR xs n).map (Value.int .i64)):=hR;have HG2:Hid (W2.heap[w.heap.size]? = some (.cells R.toArray 3 (0,0))):=hg2;clear hR hg2 h4;have hmk:∀w,(Instr.makeSlice 22 (.int .i64 4) (.int .i64 4)).run Tryz.prog w=.ok (.slice (some ⟨w.heap.size,0,none⟩) 4 4) (w.alloc (.cells #[.int .i64 0,.int .i64 0,.int .i64 0,.int .i64 0] 3)):=fun _=>by kernel_rfl
 have hn':(n:Int)≤4:=by omega
 go_enter Tryz.func91,Tryz.ntmps91
 go_wp2
 clear hcp
 go_loopw [6] (fun i wr=>∃k:Nat,n≤k∧k≤4∧i=.int .i64 k∧wr.heap[w.heap.size]? = some (.cells R.toArray 3 (0,0))∧Below w.heap.size w wr) (fun i _=>4 - (intOf i).toNat)
 case atStart=>exact⟨n,Nat.le_refl _,hn,rfl,HG2.out,hB2⟩
 case round=>
  obtain⟨k,hk1,hk,rfl,hg,hbel⟩:=hrel;have HG:Hid (wr.heap[w.heap.size]? = some (.cells R.toArray 3 (0,0))):=hg;clear hg
  by_cases hlt:k<4
  ·have hfr:wr.frozen? ⟨w.heap.size,k,none⟩=false:=frozen_of_row _ _ _ _ _ HG.out;obtain⟨u,hcl⟩:∃u,wr.cell? ⟨w.heap.size,k,none⟩=some u:=by
    rw [cell_of_row _ _ _ _ _ _ HG.out];have:k<R.length:=by rw [HR.out];simp;rw [HL.out];exact hlt
    exact⟨R[k],by simp [this]⟩
   go_wp2
   go_roundw
   case rel=>exact⟨k+1,by omega,by omega,by go_num,by rw [heap_setCell_same _ _ _ _ _ _ HG.out,HS.out k hk1 hlt],hbel.setCell (Nat.le_refl _) _⟩
   case measure=>simp [intOf];omega
  ·have e4:k=4:=by omega
   subst e4
   go_wp2
   go_ret;exact⟨w.heap.size,4,rfl,⟨by rw [HR.out];simp;exact HL.out,.inr ⟨w.heap.size,4,R.toArray,rfl,Nat.le_refl _,HG.out,Nat.le_refl _,by decide,by simp;rw [HR.out];simp;exact HL.out,by rw [List.take_of_length_le];rw [HR.out];simp;rw [HL.out];exact Nat.le_refl _⟩⟩,hbel⟩
theorem QhY (v:Value)(xs:List Int)(n:Int)(w:World)(h:Sl w v xs)(h4:xs.length=4)(h0:0≤n)(hn:n≤4) :
  Calls Tryz.prog 91 #[v,.int .i64 n] w fun r w'=>∃g cap',r=.returned (.slice (some ⟨g,0,none⟩) 4 cap')∧w'.ownsRow w.heap.size 3 1 (.slice (some ⟨g,0,none⟩) 4 cap') 4 ((cutR xs n.toNat).map (.int .i64))∧Below w.heap.size w w':=by
 obtain⟨b,off,cap,rfl,hcp,hlt,hcell⟩:=h.four h4;obtain⟨n,rfl⟩:=Int.eq_ofNat_of_zero_le h0;rw [Int.toNat_natCast];exact QnI b off cap n xs w h4 (by omega) hcp hlt hcell
theorem Qnu {xs:List Int}(h4:xs.length=4):cutR xs 4=xs:=by unfold cutR;rw [List.take_of_length_le (by omega)];simp
theorem Qam {p:Prop}(h:p):Hid p:=h
theorem Qdo {W:World}{B g cap:Nat}{l:List Int}(h:W.ownsRow B 3 1 (.slice (some ⟨g,0,none⟩) l.length cap) l.length (ints l)){k:Nat}(hk:k<l.length):W.cell? ⟨g,k,none⟩=some (.int .i64 (l.getD k 0)):=by
 refine (h.cellAt k (by omega)).trans ?_;unfold ints;rw [List.getElem?_map,List.getElem?_eq_getElem hk];simp [List.getD,hk]
theorem DK.rootAt {W:World}{B D:Nat}{val:Nm→Value}{m:ImgD}(h:DK W B D val m){r:Nat}(hr:r<m.root.length):∃g cap,val .root=.slice (some ⟨g,0,none⟩) m.root.length cap∧W.cell? ⟨g,r,none⟩=some (.int .i64 (m.root.getD r 0))∧W.frozen? ⟨g,r,none⟩=false∧B≤g∧g<W.heap.size∧g≠D:=by
 have hrow:=h.own.row .root (Live.root m);rcases QaL hrow with ⟨_,hn⟩ | ⟨g,cap,e,hb,hg,_⟩
 ·have hn:m.root.length=0:=hn;omega
 ·have e:val .root=.slice (some ⟨g,0,none⟩) m.root.length cap:=e;rw [e] at hrow;exact⟨g,cap,e,Qdo hrow hr,hrow.frozenAt r,hb,hg,fun x=>h.far .root (Live.root m) (by rw [e,x];rfl)⟩
theorem DK.refsAt {W:World}{B D:Nat}{val:Nm→Value}{m:ImgD}(h:DK W B D val m){r:Nat}(hr:r<m.refs.length):∃g cap,val .refs=.slice (some ⟨g,0,none⟩) m.refs.length cap∧W.cell? ⟨g,r,none⟩=some (.int .i64 (m.refs.getD r 0))∧W.frozen? ⟨g,r,none⟩=false∧B≤g∧g<W.heap.size∧g≠D:=by
 have hrow:=h.own.row .refs (Live.refs m);rcases QaL hrow with ⟨_,hn⟩ | ⟨g,cap,e,hb,hg,_⟩
 ·have hn:m.refs.length=0:=hn;omega
 ·have e:val .refs=.slice (some ⟨g,0,none⟩) m.refs.length cap:=e;rw [e] at hrow;exact⟨g,cap,e,Qdo hrow hr,hrow.frozenAt r,hb,hg,fun x=>h.far .refs (Live.refs m) (by rw [e,x];rfl)⟩
theorem DK.slotAt {W:World}{B D:Nat}{val:Nm→Value}{m:ImgD}(h:DK W B D val m){t:Nat}(ht:t<m.slots.length):∃g cap,val .slots=.slice (some ⟨g,0,none⟩) m.slots.length cap∧W.cell? ⟨g,t*3,none⟩=some (.int .i64 (m.slots.getD t default).1)∧W.cell? ⟨g,t*3+1,none⟩=some (.string (m.slots.getD t default).2.1)∧W.cell? ⟨g,t*3+2,none⟩=some (val (.tab t))∧(∀i,W.frozen? ⟨g,i,none⟩=false)∧B≤g∧g<W.heap.size∧g≠D∧Sl W (val (.tab t)) (m.slots.getD t default).2.2:=by
 have hrow:=h.own.row .slots (Live.slots m);rcases QaL hrow with ⟨_,hn⟩ | ⟨g,cap,e,hb,hg,_⟩
 ·have hn:m.slots.length=0:=hn;omega
 ·have e:val .slots=.slice (some ⟨g,0,none⟩) m.slots.length cap:=e;rw [e] at hrow;have hrow:W.ownsRow B 37 3 (.slice (some ⟨g,0,none⟩) m.slots.length cap) m.slots.length (QaE m.slots (fun j=>val (.tab j))):=hrow;obtain⟨s0,s1,s2⟩:=QaO (L:=m.slots) (tv:=fun j=>val (.tab j)) ht;exact⟨g,cap,e,(hrow.cellAt (t*3) (by omega)).trans s0,(hrow.cellAt (t*3+1) (by omega)).trans s1,(hrow.cellAt (t*3+2) (by omega)).trans s2,fun i=>hrow.frozenAt i,hb,hg,fun x=>h.far .slots (Live.slots m) (by rw [e,x];rfl),QbT (h.own.row (.tab t) (Live.tab ht))⟩
theorem DK.root5 {W:World}{B D:Nat}{val:Nm→Value}{m:ImgD}(h:DK W B D val m){v:Value}(e:val .root=v):W.cell? ⟨D,1,none⟩=some v:=by rw [←e];exact h.five.2.1
theorem DK.slots5 {W:World}{B D:Nat}{val:Nm→Value}{m:ImgD}(h:DK W B D val m){v:Value}(e:val .slots=v):W.cell? ⟨D,2,none⟩=some v:=by rw [←e];exact h.five.2.2.1
theorem DK.refs5 {W:World}{B D:Nat}{val:Nm→Value}{m:ImgD}(h:DK W B D val m){v:Value}(e:val .refs=v):W.cell? ⟨D,3,none⟩=some v:=by rw [←e];exact h.five.2.2.2.1
theorem QhX {m:ImgD}{B D:Nat}{val:Nm→Value}{w:World}(hK:DK w B D val m){r:Nat}(hr:r<m.root.length)(h0:m.root.getD r 0=0) :
  Calls Tryz.prog 64 #[.pointer (some ⟨D,0,none⟩),.int .i64 (r:Int)] w fun e w'=>∃v,e=.returned v∧Sl w' v [0,0,0,0]∧Below w.heap.size w w':=by
 obtain⟨g,cap,e,c,_⟩:=hK.rootAt hr;rw [h0] at c;have d1:=hK.root5 e;have hri:(r:Int)<(m.root.length:Int):=by omega
 have hmk:∀w,(Instr.makeSlice 22 (.int .i64 4) (.int .i64 4)).run Tryz.prog w=.ok (.slice (some ⟨w.heap.size,0,none⟩) 4 4) (w.alloc (.cells #[.int .i64 0,.int .i64 0,.int .i64 0,.int .i64 0] 3)):=fun _=>by kernel_rfl
 clear h0 e
 go_enter Tryz.func64,Tryz.ntmps64
 go_wp2_with fail;go_ret;exact⟨_,rfl,QoO w _ rfl 0 0 0 0,bA⟩
theorem Qg9 {m:ImgD}{B D:Nat}{val:Nm→Value}{w:World}(hK:DK w B D val m){r t:Nat}(hr:r<m.root.length)(ht:m.root.getD r 0=(t:Int))(h1:1≤t)(htl:t<m.slots.length) :
  Calls Tryz.prog 64 #[.pointer (some ⟨D,0,none⟩),.int .i64 (r:Int)] w fun e w'=>∃v,e=.returned v∧Sl w' v (m.slots.getD t default).2.2∧Below w.heap.size w w':=by
 obtain⟨g,cap,e,c,_⟩:=hK.rootAt hr;rw [ht] at c;have d1:=hK.root5 e;obtain⟨sg,sc,e2,s0,s1,s2,_,_,_,_,hSl⟩:=hK.slotAt htl;have d2:=hK.slots5 e2;obtain⟨xs,hxs⟩:∃xs,(m.slots.getD t default).2.2=xs:=⟨_,rfl⟩;rw [hxs] at hSl ⊢;obtain⟨ta,tc,hv⟩:=hSl.form;rw [hv] at s2 hSl;have hri:(r:Int)<(m.root.length:Int):=by omega
 have hti:(t:Int)<(m.slots.length:Int):=by omega
 have htb:((t:Int) != 0)=true:=by simp;omega
 have htb':¬(t:Int)=0:=by omega
 have HS:Hid (Sl w (.slice ta xs.length tc) xs):=hSl;clear ht e e2 hv s0 s1 hSl hxs
 go_enter Tryz.func64,Tryz.ntmps64
 go_wp2_with fail;go_ret;exact⟨_,rfl,HS.out,Below.refl _ _⟩
theorem QfP {m:ImgD}{B D:Nat}{val:Nm→Value}{w:World}(hK:DK w B D val m){r t:Nat}(hr:r<m.root.length)(ht:m.root.getD r 0=(t:Int))(htl:t<m.slots.length) :
  Calls Tryz.prog 64 #[.pointer (some ⟨D,0,none⟩),.int .i64 (r:Int)] w fun e w'=>∃v,e=.returned v∧Sl w' v (Qak m r)∧Below w.heap.size w w':=by
 unfold Qak;rw [ht]
 by_cases h0:t=0
 ·subst h0;rw [if_pos (show ((0:Nat):Int)=0 from rfl)];exact QhX hK hr ht
 ·rw [if_neg (by omega)];have e:Qaz m.slots (t:Int)=(m.slots.getD t default).2.2:=by unfold Qaz;rw [Int.toNat_natCast]
  rw [e];exact Qg9 hK hr ht (by omega) htl
theorem QnN (v:Value)(xs:List Int)(k:Nat)(e:Int)(w:World)(h:Sl w v xs)(h0:ckE xs=0)(hk4':k<4)(hE:isE e=true):Calls Tryz.prog 63 #[v,.int .i64 k,.int .i64 e] w fun r w'=>∃v',r=.returned (.tuple #[v',.int .i64 0])∧w'.ownsRow w.heap.size 3 1 v' (xs.set k e).length (ints (xs.set k e))∧Below w.heap.size w w':=by
 have H4:Hid (xs.length=4):=Qa7 h0;have hk4:(k:Int)<4:=by omega
 have hk0:¬(k:Int)<0:=by omega
 go_enter Tryz.func63,Tryz.ntmps63
 go_wp2_with (first | (go_at_call 89;refine (Qea _ xs _ h).mono ?_;rintro e w' ⟨rfl,rfl⟩) | (go_at_call 90;refine (Qdu _ _).mono ?_;rintro e w' ⟨rfl,rfl⟩) | (go_at_call 91;refine (QhY _ xs _ _ h H4.out (by omega) (by omega)).mono ?_;rintro e w1 ⟨g,cap',rfl,hown,hbel⟩;obtain⟨u,hcl⟩:=Qnc hown k (by omega);have hfr:=hown.frozenAt k;have HO:Hid (w1.ownsRow _ 3 1 (.slice (some ⟨g,0,none⟩) 4 cap') 4 ((cutR xs (Int.toNat 4)).map (.int .i64))):=hown;clear hown))
 go_ret2
 have hx:=Qnu H4.out;have hO:=QoT HO.out k e;rw [show cutR xs (Int.toNat 4)=xs from hx] at hO;have hl:(xs.set k e).length=4:=by rw [List.length_set];exact H4.out
 rw [hl];exact⟨_,rfl,hO,hbel.setCell (QpB HO.out) _⟩

def layP (m:ImgD) (r:Nat) (es:List Int):Option ImgD:=
 if Qbz es=true then some { m with root:=m.root.set r 0 } else if inPl m r=true then some { m with slots:=m.slots.set (m.root.getD r 0).toNat (2,⟨#[]⟩,es) }
 else if QaK m.slots=40 then none else some { Qa1 m (2,⟨#[]⟩,es) with root:=m.root.set r (QaK m.slots:Int) }
def QbU (w:World) (B D:Nat) (m:ImgD) (val:Nm→Value) (ev:Value) (o:Option ImgD) (r:Ending) (w':World):Prop:=
 match o with
 | some m'=>r=.returned (.tuple #[])∧∃val',DTo w w' B D m val ev m' val'
 | none=>r=.panicked Qbm∧Below B w w'
theorem Qdj {es:List Int}(h:ckE es=0):Qdc es=Qbz es:=by unfold Qdc;rw [if_pos h]
theorem QlG (m:ImgD)(ea:Option Addr)(ec:Nat)(es:List Int)(r B D:Nat)(val:Nm→Value)(w:World)(hK:DK w B D val m)(hr:r<m.root.length)(he:Sl w (.slice ea es.length ec) es)(hck:ckE es=0)(hb:Qbz es=true) :
  Calls Tryz.prog 65 #[.pointer (some ⟨D,0,none⟩),.int .i64 (r:Int),.slice ea es.length ec] w fun e w'=>e=.returned (.tuple #[])∧∃val',DTo w w' B D m val (.slice ea es.length ec) { m with root:=m.root.set r 0 } val':=by
 obtain⟨g,cap,e,c,f,_⟩:=hK.rootAt hr;have d1:=hK.root5 e;have hri:(r:Int)<(m.root.length:Int):=by omega
 have hcall:=Qef he ((Qdj hck).trans hb) hck;have HF:Hid (DTo w (w.setCell ⟨g,r,none⟩ (.int .i64 0)) B D m val (.slice ea es.length ec) { m with root:=m.root.set r 0 } val):=(DTo.refl hK _).setRoot e r 0;clear he hck hb e hK
 go_enter Tryz.func65,Tryz.ntmps65
 go_wp2_with (go_at_call 86;refine hcall.mono ?_;rintro e w' ⟨rfl,hw⟩;rw [hw];clear hw);refine bodyPost_ret (results_none rfl _ _ _) rfl ?_;exact⟨rfl,val,HF.out⟩
theorem Qkx (m:ImgD)(ea:Option Addr)(ec:Nat)(es:List Int)(r t B D:Nat)(val:Nm→Value)(w:World)(hK:DK w B D val m)(hB:B≤w.heap.size)(hr:r<m.root.length)(ht:m.root.getD r 0=(t:Int))(h1:1≤t)(htl:t<m.slots.length)(hrl:m.refs.length=m.slots.length)(hrf:m.refs.getD t 0=1)(he:w.ownsRow B 3 1 (.slice ea es.length ec) es.length (ints es))(hfar:∀a,Live m a→∀q,(Value.slice ea es.length ec).ownBlock=some q→(val a).ownBlock≠some q)(hD:(Value.slice ea es.length ec).ownBlock≠some D)(hck:ckE es=0)(hb:Qbz es=false) :
  Calls Tryz.prog 65 #[.pointer (some ⟨D,0,none⟩),.int .i64 (r:Int),.slice ea es.length ec] w fun e w'=>e=.returned (.tuple #[])∧∃val',DTo w w' B D m val (.slice ea es.length ec) { m with slots:=m.slots.set t (2,⟨#[]⟩,es) } val':=by
 have hK1:DK (w.alloc (.cells #[.int .i64 2,.string ⟨#[]⟩,.slice ea es.length ec] 37)) B D val m:=hK.alloc _;obtain⟨g,cap,e,c,f,_⟩:=hK1.rootAt hr;rw [ht] at c;have d1:=hK1.root5 e;obtain⟨fg,fc,e2,c2,_⟩:=hK1.refsAt (r:=t) (by omega);rw [hrf] at c2;rw [hrl] at e2;have d3:=hK1.refs5 e2;obtain⟨sg,sc,e3,s0,s1,s2,sf,hsB,hsl,hsD,_⟩:=hK1.slotAt htl;have d2:=hK1.slots5 e3;have f0:=sf (t*3);have f1:=sf (t*3+1);have f2:=sf (t*3+2);have hsw:sg<w.heap.size:=by
  have:=(hK.own.row .slots (Live.slots m)).lt sg (by rw [e3];rfl);exact this.2
 have hri:(r:Int)<(m.root.length:Int):=by omega
 have hti:(t:Int)<(m.slots.length:Int):=by omega
 have htb:((t:Int) != 0)=true:=by simp;omega
 have htb':¬(t:Int)=0:=by omega
 have mS:(w.alloc (.cells #[.int .i64 2,.string ⟨#[]⟩,.slice ea es.length ec] 37)).heap[w.heap.size]? = some (.cells #[.int .i64 2,.string ⟨#[]⟩,.slice ea es.length ec] 37):=zHn _ _;obtain⟨y0,y1,y2⟩:=Qb6 mS;have hcall:=Qef (QbT he) ((Qdj hck).trans hb) hck;have nWS:¬w.heap.size=sg:=by omega
 have nSW:¬sg=w.heap.size:=by omega
 have nDS:¬D=sg:=fun x=>hsD x.symm
 have nSD:¬sg=D:=hsD;have HF:=Qam ((((DTo.refl hK (.slice ea es.length ec)).setSlot htl e3 2 ⟨#[]⟩ es he (fun b hb _ q hq=>hfar b hb q hq) hD (fun q x=>.inl x)).alloc hB (.cells #[.int .i64 2,.string ⟨#[]⟩,.slice ea es.length ec] 37)).drew);obtain⟨sg',sc',e3',s0',s1',s2',sf',_⟩:=hK.slotAt htl;rw [e3] at e3';simp only [Value.slice.injEq,Option.some.injEq,Addr.mk.injEq,and_true,true_and] at e3';obtain⟨rfl,rfl⟩:=e3';have hz3:(((w.setCell ⟨sg,t*3,none⟩ (.int .i64 2)).setCell ⟨sg,t*3+1,none⟩ (.string ⟨#[]⟩)).setCell ⟨sg,t*3+2,none⟩ (.slice ea es.length ec)).heap.size=w.heap.size:=by simp [World.setCell]
 have hbD:=Qac (Qan (Qan (Qan hK.box nDS (t*3) (.int .i64 2)) nDS (t*3+1) (.string ⟨#[]⟩)) nDS (t*3+2) (.slice ea es.length ec)) (.cells #[.int .i64 2,.string ⟨#[]⟩,.slice ea es.length ec] 37);have k2:=(five hbD).2.2.1;rw [e3] at k2;have hbS:=World.alloc_heap_new (((w.setCell ⟨sg,t*3,none⟩ (.int .i64 2)).setCell ⟨sg,t*3+1,none⟩ (.string ⟨#[]⟩)).setCell ⟨sg,t*3+2,none⟩ (.slice ea es.length ec)) (.cells #[.int .i64 2,.string ⟨#[]⟩,.slice ea es.length ec] 37);rw [hz3] at hbS;obtain⟨k3,k4,k5⟩:=Qb6 hbS;have KK:=Qam (And.intro k2 (And.intro k3 (And.intro k4 k5)));clear k2 k3 k4 k5 hbD hbS hz3;have f0':=sf' (t*3);have f1':=sf' (t*3+1);have f2':=sf' (t*3+2);clear he hck hb e e2 e3 hK hK1 ht hrf hfar mS sf sf' hsB hsl hsD
 go_enter Tryz.func65,Tryz.ntmps65
 go_wp2_with (go_at_call 86;refine hcall.mono ?_;rintro e w' ⟨rfl,hw⟩;rw [hw];clear hw)
 go_region_held3 (fun W=>W.cell? ⟨D,0+1+1,none⟩=some (.slice (some ⟨sg,0,none⟩) m.slots.length sc)∧W.cell? ⟨w.heap.size,0,none⟩=some (.int .i64 2)∧W.cell? ⟨w.heap.size,0+1,none⟩=some (.string ⟨#[]⟩)∧W.cell? ⟨w.heap.size,0+1+1,none⟩=some (.slice ea es.length ec)) (first | exact⟨d2,y0,y1,y2⟩ | exact KK.out) (fail)
 go_wp2_with fail;refine bodyPost_ret (results_none rfl _ _ _) rfl ?_;exact⟨rfl,_,HF.out⟩

theorem QiR {m:ImgD}{k:Int}{d:ByteArray}{ev:Value}{es:List Int}{g B D:Nat}{val:Nm→Value}{w:World}(hK:DK w B D val m)(hB:B≤w.heap.size)(hs:Qap m.slots=0)(hrl:m.refs.length=m.slots.length)(hg:QaK m.slots=g)(hg40:g≠40)(he:w.ownsRow B 3 1 ev es.length (ints es))(hfar:∀a,Live m a→∀q,ev.ownBlock=some q→(val a).ownBlock≠some q)(hD:ev.ownBlock≠some D) :
  Calls Tryz.prog 28 #[.pointer (some ⟨D,0,none⟩),.agg #[.int .i64 k,.string d,ev]] w fun r w'=>r=.returned (.int .i64 (g:Int))∧∃val',DTo w w' B D m val ev (Qa1 m (k,d,es)) val'∧val' .root=val .root:=by
 have hp:=Qah hs;obtain⟨ea,ec,hev⟩:=QaH he;subst hev;obtain⟨sg,sc,e1,_⟩:=hK.slotAt (t:=0) (by omega);obtain⟨fg,fc,e2,_⟩:=hK.refsAt (r:=0) (by omega);rw [hrl] at e2;have hgs:=Qbg hp.1;have hg4:=QfN hs;rw [hg] at hgs hg4;have hfar':Far m val (.tab g) (.slice ea es.length ec):=fun b hb _ q hq=>hfar b hb q hq
 unfold Qa1 layS layR;rw [hg,hrl]
 by_cases e:g=m.slots.length
 ·rw [if_pos e,if_pos e];subst e;exact QnG m sg sc fg fc k d ea _ ec es B D val w hK hB e1 e2 hs hg (by omega) hrl he hfar' hD
 ·rw [if_neg e,if_neg e];exact QmW m sg sc fg fc k d ea _ ec es g B D val w hK hB e1 e2 hs hg (by omega) hrl he hfar' hD
theorem Qfv {m:ImgD}{k:Int}{d:ByteArray}{ev:Value}{es:List Int}{B D:Nat}{val:Nm→Value}{w:World}(hK:DK w B D val m)(hs:Qap m.slots=0)(hg:QaK m.slots=40)(he:w.ownsRow B 3 1 ev es.length (ints es)) :
  Calls Tryz.prog 28 #[.pointer (some ⟨D,0,none⟩),.agg #[.int .i64 k,.string d,ev]] w fun r w'=>r=.panicked Qbm∧Below w.heap.size w w':=by
 have hp:=Qah hs;obtain⟨ea,ec,hev⟩:=QaH he;subst hev;obtain⟨sg,sc,e1,_⟩:=hK.slotAt (t:=0) (by omega);exact QmK m _ _ sc k d ea _ ec B D val w hK e1 hs hg
theorem QjQ (m:ImgD)(ea:Option Addr)(ec:Nat)(es:List Int)(r q B D:Nat)(val:Nm→Value)(w:World)(hK:DK w B D val m)(hB:B≤w.heap.size)(hr:r<m.root.length)(ht:m.root.getD r 0=0)(hs:Qap m.slots=0)(hrl:m.refs.length=m.slots.length)(hg:QaK m.slots=q)(hg40:q≠40)(he:w.ownsRow B 3 1 (.slice ea es.length ec) es.length (ints es))(hfar:∀a,Live m a→∀q,(Value.slice ea es.length ec).ownBlock=some q→(val a).ownBlock≠some q)(hD:(Value.slice ea es.length ec).ownBlock≠some D)(hck:ckE es=0)(hb:Qbz es=false) :
  Calls Tryz.prog 65 #[.pointer (some ⟨D,0,none⟩),.int .i64 (r:Int),.slice ea es.length ec] w fun e w'=>e=.returned (.tuple #[])∧∃val',DTo w w' B D m val (.slice ea es.length ec) { Qa1 m (2,⟨#[]⟩,es) with root:=m.root.set r (q:Int) } val':=by
 have hK1:DK (w.alloc (.cells #[.int .i64 2,.string ⟨#[]⟩,.slice ea es.length ec] 37)) B D val m:=hK.alloc _;have hKd:DK (w.alloc (.cells #[.int .i64 2,.string ⟨#[]⟩,.slice ea es.length ec] 37)).drew B D val m:=hK1.drew;obtain⟨g,cap,e,c,f,hgB,_,hgD⟩:=hK1.rootAt hr;rw [ht] at c;have d1:=hK1.root5 e;have hgw:g<w.heap.size:=((hK.own.row .root (Live.root m)).lt g (by rw [e];rfl)).2;have hri:(r:Int)<(m.root.length:Int):=by omega
 have mS:(w.alloc (.cells #[.int .i64 2,.string ⟨#[]⟩,.slice ea es.length ec] 37)).heap[w.heap.size]? = some (.cells #[.int .i64 2,.string ⟨#[]⟩,.slice ea es.length ec] 37):=zHn _ _;obtain⟨y0,y1,y2⟩:=Qb6 mS;have hcall:=Qef (QbT he) ((Qdj hck).trans hb) hck;have b0:Below w.heap.size w (w.alloc (.cells #[.int .i64 2,.string ⟨#[]⟩,.slice ea es.length ec] 37)):=bA;have hBa:B≤(w.alloc (.cells #[.int .i64 2,.string ⟨#[]⟩,.slice ea es.length ec] 37)).drew.heap.size:=Nat.le_trans hB b0.size;have htk:=QiR (k:=2) (d:=⟨#[]⟩) (es:=es) hKd hBa hs hrl hg hg40 (he.alloc _).drew hfar hD;have hevw:(Value.slice ea es.length ec).ownBlock≠some w.heap.size:=fun x=>by have:=(he.lt _ x).2;omega
 have nWg:¬w.heap.size=g:=by omega
 have ngW:¬g=w.heap.size:=by omega
 have nDg:¬D=g:=fun x=>hgD x.symm
 have HK:Hid (DK w B D val m∧val .root=.slice (some ⟨g,0,none⟩) m.root.length cap∧(w.alloc (.cells #[.int .i64 2,.string ⟨#[]⟩,.slice ea es.length ec] 37)).heap[w.heap.size]? = some (.cells #[.int .i64 2,.string ⟨#[]⟩,.slice ea es.length ec] 37)∧(Value.slice ea es.length ec).ownBlock≠some w.heap.size):=⟨hK,e,mS,hevw⟩;clear he hck hb e hK hK1 ht hfar mS hs hg hevw hKd
 go_enter Tryz.func65,Tryz.ntmps65
 go_wp2_with (go_at_call 86;refine hcall.mono ?_;rintro e w' ⟨rfl,hw⟩;rw [hw];clear hw)
 go_region_held3 (fun W=>W.cell? ⟨D,0+1,none⟩=some (.slice (some ⟨g,0,none⟩) m.root.length cap)∧W.cell? ⟨w.heap.size,0,none⟩=some (.int .i64 2)∧W.cell? ⟨w.heap.size,0+1,none⟩=some (.string ⟨#[]⟩)∧W.cell? ⟨w.heap.size,0+1+1,none⟩=some (.slice ea es.length ec)) (first | exact KK2.out | exact KK1.out | exact⟨d1,y0,y1,y2⟩)
  (first | (go_at_call 28;refine htk.mono ?_;rintro e w2 ⟨rfl,val2,hT,hv2⟩;have hv2:=hv2.trans HK.out.2.1;have k1:=hT.dk.root5 hv2;have hbx:w2.heap[w.heap.size]? = some (.cells #[.int .i64 2,.string ⟨#[]⟩,.slice ea es.length ec] 37):=hT.cells HK.out.2.2.1 (by have:=HK.out.1.lt;omega) HK.out.2.2.2 (HK.out.1.own.lt (Nat.le_refl _));obtain⟨k2,k3,k4⟩:=Qb6 hbx;have KK1:=Qam (And.intro k1 (And.intro k2 (And.intro k3 k4)));have hrw:=hT.dk.own.row .root (Live.root _);rw [hv2] at hrw;have rc:w2.cell? ⟨g,r,none⟩=some (.int .i64 (m.root.getD r 0)):=Qdo hrw hr;have rf:=hrw.frozenAt r;have k1':=(Qan hT.dk.box nDg r (.int .i64 (q:Int)));rw [hv2] at k1';have k5:=(five k1').2.1;obtain⟨k6,k7,k8⟩:=Qb6 (Qan hbx nWg r (.int .i64 (q:Int)));have KK2:=Qam (And.intro k5 (And.intro k6 (And.intro k7 k8)));have HF:=Qam ((hT.setRoot hv2 r (q:Int)).pre (Qax b0) hB);clear hrw k1' k5 k6 k7 k8 hbx hT))
 go_wp2_with fail
 go_end0
 exact⟨rfl,_,HF.out⟩
theorem Qk1 (m:ImgD)(ea:Option Addr)(ec:Nat)(es:List Int)(r q B D:Nat)(val:Nm→Value)(w:World)(hK:DK w B D val m)(hB:B≤w.heap.size)(hr:r<m.root.length)(t:Nat)(ht:m.root.getD r 0=(t:Int))(h1:1≤t)(htl:t<m.slots.length)(x:Int)(hrf:m.refs.getD t 0=x)(hx1:(x == 1)=false)(hs:Qap m.slots=0)(hrl:m.refs.length=m.slots.length)(hg:QaK m.slots=q)(hg40:q≠40)(he:w.ownsRow B 3 1 (.slice ea es.length ec) es.length (ints es))(hfar:∀a,Live m a→∀q,(Value.slice ea es.length ec).ownBlock=some q→(val a).ownBlock≠some q)(hD:(Value.slice ea es.length ec).ownBlock≠some D)(hck:ckE es=0)(hb:Qbz es=false) :
  Calls Tryz.prog 65 #[.pointer (some ⟨D,0,none⟩),.int .i64 (r:Int),.slice ea es.length ec] w fun e w'=>e=.returned (.tuple #[])∧∃val',DTo w w' B D m val (.slice ea es.length ec) { Qa1 m (2,⟨#[]⟩,es) with root:=m.root.set r (q:Int) } val':=by
 have hK1:DK (w.alloc (.cells #[.int .i64 2,.string ⟨#[]⟩,.slice ea es.length ec] 37)) B D val m:=hK.alloc _;have hKd:DK (w.alloc (.cells #[.int .i64 2,.string ⟨#[]⟩,.slice ea es.length ec] 37)).drew B D val m:=hK1.drew;obtain⟨g,cap,e,c,f,hgB,_,hgD⟩:=hK1.rootAt hr;rw [ht] at c;have d1:=hK1.root5 e;have hgw:g<w.heap.size:=((hK.own.row .root (Live.root m)).lt g (by rw [e];rfl)).2;have hri:(r:Int)<(m.root.length:Int):=by omega
 obtain⟨fg,fc,e2,c2,_⟩:=hK1.refsAt (r:=t) (by omega);rw [hrf] at c2;rw [hrl] at e2;have d3:=hK1.refs5 e2;have hti:(t:Int)<(m.slots.length:Int):=by omega
 have htb:((t:Int) != 0)=true:=by simp;omega
 have htb':¬(t:Int)=0:=by omega
 have mS:(w.alloc (.cells #[.int .i64 2,.string ⟨#[]⟩,.slice ea es.length ec] 37)).heap[w.heap.size]? = some (.cells #[.int .i64 2,.string ⟨#[]⟩,.slice ea es.length ec] 37):=zHn _ _;obtain⟨y0,y1,y2⟩:=Qb6 mS;have hcall:=Qef (QbT he) ((Qdj hck).trans hb) hck;have b0:Below w.heap.size w (w.alloc (.cells #[.int .i64 2,.string ⟨#[]⟩,.slice ea es.length ec] 37)):=bA;have hBa:B≤(w.alloc (.cells #[.int .i64 2,.string ⟨#[]⟩,.slice ea es.length ec] 37)).drew.heap.size:=Nat.le_trans hB b0.size;have htk:=QiR (k:=2) (d:=⟨#[]⟩) (es:=es) hKd hBa hs hrl hg hg40 (he.alloc _).drew hfar hD;have hevw:(Value.slice ea es.length ec).ownBlock≠some w.heap.size:=fun x=>by have:=(he.lt _ x).2;omega
 have nWg:¬w.heap.size=g:=by omega
 have ngW:¬g=w.heap.size:=by omega
 have nDg:¬D=g:=fun x=>hgD x.symm
 have HK:Hid (DK w B D val m∧val .root=.slice (some ⟨g,0,none⟩) m.root.length cap∧(w.alloc (.cells #[.int .i64 2,.string ⟨#[]⟩,.slice ea es.length ec] 37)).heap[w.heap.size]? = some (.cells #[.int .i64 2,.string ⟨#[]⟩,.slice ea es.length ec] 37)∧(Value.slice ea es.length ec).ownBlock≠some w.heap.size):=⟨hK,e,mS,hevw⟩;clear he hck hb e hK hK1 ht hfar mS hs hg hevw hKd e2 hrf
 go_enter Tryz.func65,Tryz.ntmps65
 go_wp2_with (go_at_call 86;refine hcall.mono ?_;rintro e w' ⟨rfl,hw⟩;rw [hw];clear hw)
 go_region_held3 (fun W=>W.cell? ⟨D,0+1,none⟩=some (.slice (some ⟨g,0,none⟩) m.root.length cap)∧W.cell? ⟨w.heap.size,0,none⟩=some (.int .i64 2)∧W.cell? ⟨w.heap.size,0+1,none⟩=some (.string ⟨#[]⟩)∧W.cell? ⟨w.heap.size,0+1+1,none⟩=some (.slice ea es.length ec)) (first | exact KK2.out | exact KK1.out | exact⟨d1,y0,y1,y2⟩)
  (first | (go_at_call 28;refine htk.mono ?_;rintro e w2 ⟨rfl,val2,hT,hv2⟩;have hv2:=hv2.trans HK.out.2.1;have k1:=hT.dk.root5 hv2;have hbx:w2.heap[w.heap.size]? = some (.cells #[.int .i64 2,.string ⟨#[]⟩,.slice ea es.length ec] 37):=hT.cells HK.out.2.2.1 (by have:=HK.out.1.lt;omega) HK.out.2.2.2 (HK.out.1.own.lt (Nat.le_refl _));obtain⟨k2,k3,k4⟩:=Qb6 hbx;have KK1:=Qam (And.intro k1 (And.intro k2 (And.intro k3 k4)));have hrw:=hT.dk.own.row .root (Live.root _);rw [hv2] at hrw;have rc:w2.cell? ⟨g,r,none⟩=some (.int .i64 (m.root.getD r 0)):=Qdo hrw hr;have rf:=hrw.frozenAt r;have k1':=(Qan hT.dk.box nDg r (.int .i64 (q:Int)));rw [hv2] at k1';have k5:=(five k1').2.1;obtain⟨k6,k7,k8⟩:=Qb6 (Qan hbx nWg r (.int .i64 (q:Int)));have KK2:=Qam (And.intro k5 (And.intro k6 (And.intro k7 k8)));have HF:=Qam ((hT.setRoot hv2 r (q:Int)).pre (Qax b0) hB);clear hrw k1' k5 k6 k7 k8 hbx hT))
 go_wp2_with fail
 go_end0
 exact⟨rfl,_,HF.out⟩

theorem QkO (m:ImgD)(ea:Option Addr)(ec:Nat)(es:List Int)(r B D:Nat)(val:Nm→Value)(w:World)(hK:DK w B D val m)(hB:B≤w.heap.size)(hr:r<m.root.length)(ht:m.root.getD r 0=0)(hs:Qap m.slots=0)(hrl:m.refs.length=m.slots.length)(hg:QaK m.slots=40)(he:w.ownsRow B 3 1 (.slice ea es.length ec) es.length (ints es))(hfar:∀a,Live m a→∀q,(Value.slice ea es.length ec).ownBlock=some q→(val a).ownBlock≠some q)(hD:(Value.slice ea es.length ec).ownBlock≠some D)(hck:ckE es=0)(hb:Qbz es=false) :
  Calls Tryz.prog 65 #[.pointer (some ⟨D,0,none⟩),.int .i64 (r:Int),.slice ea es.length ec] w fun e w'=>e=.panicked Qbm∧Below B w w':=by
 have hK1:DK (w.alloc (.cells #[.int .i64 2,.string ⟨#[]⟩,.slice ea es.length ec] 37)) B D val m:=hK.alloc _;have hKd:DK (w.alloc (.cells #[.int .i64 2,.string ⟨#[]⟩,.slice ea es.length ec] 37)).drew B D val m:=hK1.drew;obtain⟨g,cap,e,c,f,hgB,_,hgD⟩:=hK1.rootAt hr;rw [ht] at c;have d1:=hK1.root5 e;have hgw:g<w.heap.size:=((hK.own.row .root (Live.root m)).lt g (by rw [e];rfl)).2;have hri:(r:Int)<(m.root.length:Int):=by omega
 have mS:(w.alloc (.cells #[.int .i64 2,.string ⟨#[]⟩,.slice ea es.length ec] 37)).heap[w.heap.size]? = some (.cells #[.int .i64 2,.string ⟨#[]⟩,.slice ea es.length ec] 37):=zHn _ _;obtain⟨y0,y1,y2⟩:=Qb6 mS;have hcall:=Qef (QbT he) ((Qdj hck).trans hb) hck;have b0:Below w.heap.size w (w.alloc (.cells #[.int .i64 2,.string ⟨#[]⟩,.slice ea es.length ec] 37)):=bA;have hBa:B≤(w.alloc (.cells #[.int .i64 2,.string ⟨#[]⟩,.slice ea es.length ec] 37)).drew.heap.size:=Nat.le_trans hB b0.size;have htk:=Qfv (k:=2) (d:=⟨#[]⟩) (es:=es) hKd hs hg (he.alloc _).drew;clear he hck hb e hK ht hfar mS hs hg
 go_enter Tryz.func65,Tryz.ntmps65
 go_wp2_with (go_at_call 86;refine hcall.mono ?_;rintro e w' ⟨rfl,hw⟩;rw [hw];clear hw);go_wp2_with fail;refine wp_region_held_drew (S:=fun W=>W.cell? ⟨D,0+1,none⟩=some (.slice (some ⟨g,0,none⟩) m.root.length cap)∧W.cell? ⟨w.heap.size,0,none⟩=some (.int .i64 2)∧W.cell? ⟨w.heap.size,0+1,none⟩=some (.string ⟨#[]⟩)∧W.cell? ⟨w.heap.size,0+1+1,none⟩=some (.slice ea es.length ec)) (by kernel_rfl) ⟨d1,y0,y1,y2⟩ (fun hHeld=>?_);refine tkH 0 (.pointer (some ⟨D,0,none⟩)) rfl (Or.inl ⟨by rfl,fun w' hSw=>by obtain⟨q1,q2,q3,q4⟩:=hSw;go_simp⟩) hHeld ?_;simp only [Act.put,List.setIfInBounds_toArray,List.set_cons_zero,List.set_cons_succ];refine tkH 1 (.pointer (some ⟨D,0,none⟩)) rfl (Or.inl ⟨by rfl,fun w' hSw=>by obtain⟨q1,q2,q3,q4⟩:=hSw;go_simp⟩) hHeld ?_;simp only [Act.put,List.setIfInBounds_toArray,List.set_cons_zero,List.set_cons_succ];refine tkH 2 (.pointer (some ⟨D,0,none⟩)) rfl (Or.inl ⟨by rfl,fun w' hSw=>by obtain⟨q1,q2,q3,q4⟩:=hSw;go_simp⟩) hHeld ?_;simp only [Act.put,List.setIfInBounds_toArray,List.set_cons_zero,List.set_cons_succ];refine tkH 3 (.pointer (some ⟨D,0+1,none⟩)) rfl (Or.inl ⟨by rfl,fun w' hSw=>by obtain⟨q1,q2,q3,q4⟩:=hSw;go_simp⟩) hHeld ?_;simp only [Act.put,List.setIfInBounds_toArray,List.set_cons_zero,List.set_cons_succ];refine tkH 4 (.slice (some ⟨g,0,none⟩) m.root.length cap) rfl (Or.inl ⟨by rfl,fun w' hSw=>by obtain⟨q1,q2,q3,q4⟩:=hSw;go_simp⟩) hHeld ?_;simp only [Act.put,List.setIfInBounds_toArray,List.set_cons_zero,List.set_cons_succ];refine tkH 5 (.int .i64 (r:Int)) rfl (Or.inl ⟨by rfl,fun w' hSw=>by obtain⟨q1,q2,q3,q4⟩:=hSw;go_simp⟩) hHeld ?_;simp only [Act.put,List.setIfInBounds_toArray,List.set_cons_zero,List.set_cons_succ];refine tkH 6 (.pointer (some ⟨D,0,none⟩)) rfl (Or.inl ⟨by rfl,fun w' hSw=>by obtain⟨q1,q2,q3,q4⟩:=hSw;go_simp⟩) hHeld ?_;simp only [Act.put,List.setIfInBounds_toArray,List.set_cons_zero,List.set_cons_succ];refine tkH 7 (.agg #[.int .i64 2,.string ⟨#[]⟩,.slice ea es.length ec]) rfl (Or.inl ⟨by rfl,fun w' hSw=>by obtain⟨q1,q2,q3,q4⟩:=hSw;go_simp⟩) hHeld ?_;simp only [Act.put,List.setIfInBounds_toArray,List.set_cons_zero,List.set_cons_succ];refine rdH 8 rfl (fun K hK=>?_);clear hK hHeld hcall;simp only [lays];rw [if_pos (by rfl)];go_wp2_with (go_at_call 28;refine htk.mono ?_;rintro e w2 ⟨rfl,b2⟩;first | exact⟨rfl,rfl,(b0.mono hB).trans ((Qat b2).mono hBa)⟩ | exact⟨rfl,(b0.mono hB).trans ((Qat b2).mono hBa)⟩ | exact⟨(b0.mono hB).trans ((Qat b2).mono hBa)⟩ | trace_state)
theorem Qj3 (m:ImgD)(ea:Option Addr)(ec:Nat)(es:List Int)(r B D:Nat)(val:Nm→Value)(w:World)(hK:DK w B D val m)(hB:B≤w.heap.size)(hr:r<m.root.length)(t:Nat)(ht:m.root.getD r 0=(t:Int))(h1:1≤t)(htl:t<m.slots.length)(x:Int)(hrf:m.refs.getD t 0=x)(hx1:(x == 1)=false)(hs:Qap m.slots=0)(hrl:m.refs.length=m.slots.length)(hg:QaK m.slots=40)(he:w.ownsRow B 3 1 (.slice ea es.length ec) es.length (ints es))(hfar:∀a,Live m a→∀q,(Value.slice ea es.length ec).ownBlock=some q→(val a).ownBlock≠some q)(hD:(Value.slice ea es.length ec).ownBlock≠some D)(hck:ckE es=0)(hb:Qbz es=false) :
  Calls Tryz.prog 65 #[.pointer (some ⟨D,0,none⟩),.int .i64 (r:Int),.slice ea es.length ec] w fun e w'=>e=.panicked Qbm∧Below B w w':=by
 have hK1:DK (w.alloc (.cells #[.int .i64 2,.string ⟨#[]⟩,.slice ea es.length ec] 37)) B D val m:=hK.alloc _;have hKd:DK (w.alloc (.cells #[.int .i64 2,.string ⟨#[]⟩,.slice ea es.length ec] 37)).drew B D val m:=hK1.drew;obtain⟨g,cap,e,c,f,hgB,_,hgD⟩:=hK1.rootAt hr;rw [ht] at c;have d1:=hK1.root5 e;have hgw:g<w.heap.size:=((hK.own.row .root (Live.root m)).lt g (by rw [e];rfl)).2;have hri:(r:Int)<(m.root.length:Int):=by omega
 obtain⟨fg,fc,e2,c2,_⟩:=hK1.refsAt (r:=t) (by omega);rw [hrf] at c2;rw [hrl] at e2;have d3:=hK1.refs5 e2;have hti:(t:Int)<(m.slots.length:Int):=by omega
 have htb:((t:Int) != 0)=true:=by simp;omega
 have htb':¬(t:Int)=0:=by omega
 have mS:(w.alloc (.cells #[.int .i64 2,.string ⟨#[]⟩,.slice ea es.length ec] 37)).heap[w.heap.size]? = some (.cells #[.int .i64 2,.string ⟨#[]⟩,.slice ea es.length ec] 37):=zHn _ _;obtain⟨y0,y1,y2⟩:=Qb6 mS;have hcall:=Qef (QbT he) ((Qdj hck).trans hb) hck;have b0:Below w.heap.size w (w.alloc (.cells #[.int .i64 2,.string ⟨#[]⟩,.slice ea es.length ec] 37)):=bA;have hBa:B≤(w.alloc (.cells #[.int .i64 2,.string ⟨#[]⟩,.slice ea es.length ec] 37)).drew.heap.size:=Nat.le_trans hB b0.size;have htk:=Qfv (k:=2) (d:=⟨#[]⟩) (es:=es) hKd hs hg (he.alloc _).drew;clear he hck hb e hK ht hfar mS hs hg e2 hrf
 go_enter Tryz.func65,Tryz.ntmps65
 go_wp2_with (go_at_call 86;refine hcall.mono ?_;rintro e w' ⟨rfl,hw⟩;rw [hw];clear hw);go_wp2_with fail;refine wp_region_held_drew (S:=fun W=>W.cell? ⟨D,0+1,none⟩=some (.slice (some ⟨g,0,none⟩) m.root.length cap)∧W.cell? ⟨w.heap.size,0,none⟩=some (.int .i64 2)∧W.cell? ⟨w.heap.size,0+1,none⟩=some (.string ⟨#[]⟩)∧W.cell? ⟨w.heap.size,0+1+1,none⟩=some (.slice ea es.length ec)) (by kernel_rfl) ⟨d1,y0,y1,y2⟩ (fun hHeld=>?_);refine tkH 0 (.pointer (some ⟨D,0,none⟩)) rfl (Or.inl ⟨by rfl,fun w' hSw=>by obtain⟨q1,q2,q3,q4⟩:=hSw;go_simp⟩) hHeld ?_;simp only [Act.put,List.setIfInBounds_toArray,List.set_cons_zero,List.set_cons_succ];refine tkH 1 (.pointer (some ⟨D,0,none⟩)) rfl (Or.inl ⟨by rfl,fun w' hSw=>by obtain⟨q1,q2,q3,q4⟩:=hSw;go_simp⟩) hHeld ?_;simp only [Act.put,List.setIfInBounds_toArray,List.set_cons_zero,List.set_cons_succ];refine tkH 2 (.pointer (some ⟨D,0,none⟩)) rfl (Or.inl ⟨by rfl,fun w' hSw=>by obtain⟨q1,q2,q3,q4⟩:=hSw;go_simp⟩) hHeld ?_;simp only [Act.put,List.setIfInBounds_toArray,List.set_cons_zero,List.set_cons_succ];refine tkH 3 (.pointer (some ⟨D,0+1,none⟩)) rfl (Or.inl ⟨by rfl,fun w' hSw=>by obtain⟨q1,q2,q3,q4⟩:=hSw;go_simp⟩) hHeld ?_;simp only [Act.put,List.setIfInBounds_toArray,List.set_cons_zero,List.set_cons_succ];refine tkH 4 (.slice (some ⟨g,0,none⟩) m.root.length cap) rfl (Or.inl ⟨by rfl,fun w' hSw=>by obtain⟨q1,q2,q3,q4⟩:=hSw;go_simp⟩) hHeld ?_;simp only [Act.put,List.setIfInBounds_toArray,List.set_cons_zero,List.set_cons_succ];refine tkH 5 (.int .i64 (r:Int)) rfl (Or.inl ⟨by rfl,fun w' hSw=>by obtain⟨q1,q2,q3,q4⟩:=hSw;go_simp⟩) hHeld ?_;simp only [Act.put,List.setIfInBounds_toArray,List.set_cons_zero,List.set_cons_succ];refine tkH 6 (.pointer (some ⟨D,0,none⟩)) rfl (Or.inl ⟨by rfl,fun w' hSw=>by obtain⟨q1,q2,q3,q4⟩:=hSw;go_simp⟩) hHeld ?_;simp only [Act.put,List.setIfInBounds_toArray,List.set_cons_zero,List.set_cons_succ];refine tkH 7 (.agg #[.int .i64 2,.string ⟨#[]⟩,.slice ea es.length ec]) rfl (Or.inl ⟨by rfl,fun w' hSw=>by obtain⟨q1,q2,q3,q4⟩:=hSw;go_simp⟩) hHeld ?_;simp only [Act.put,List.setIfInBounds_toArray,List.set_cons_zero,List.set_cons_succ];refine rdH 8 rfl (fun K hK=>?_);clear hK hHeld hcall;simp only [lays];rw [if_pos (by rfl)];go_wp2_with (go_at_call 28;refine htk.mono ?_;rintro e w2 ⟨rfl,b2⟩;first | exact⟨rfl,rfl,(b0.mono hB).trans ((Qat b2).mono hBa)⟩ | exact⟨rfl,(b0.mono hB).trans ((Qat b2).mono hBa)⟩ | exact⟨(b0.mono hB).trans ((Qat b2).mono hBa)⟩ | trace_state)

structure Kin (a b:ImgD):Prop where
 guest:a.guest=b.guest
 root:a.root=b.root
 slots:a.slots=b.slots
 snaps:a.snaps=b.snaps
 refs:a.refs.length=b.refs.length
theorem Kin.roots {a b:ImgD}(h:Kin a b):Qaw a=Qaw b:=by unfold Qaw;rw [h.guest,h.root,h.snaps]
theorem Kin.cnt {a b:ImgD}(h:Kin a b):cntL a=cntL b:=by unfold cntL;rw [h.roots,h.slots]
theorem Kin.counted {a b:ImgD}(h:Kin a b):Qai a=Qai b:=by
 have hc:=h.cnt;unfold Qai;rw [hc,h.slots];obtain⟨h1,h2,_,h4,_⟩:=h
 cases a
 cases b
 simp only at h1 h2 h4;subst h1 h2 h4
 rfl
theorem Kin.shape {a b:ImgD}(h:Kin a b):Qao a=Qao b:=by
 unfold Qao;rw [h.roots,h.slots,h.snaps,h.refs]
structure QiO (o p:Option ImgD):Prop where
 none:o=none→p=none
 some:∀M,o=some M→Qao M=0∧p=some (Qai M)
theorem QiO.m {o p:Option ImgD}(h:QiO o p):ofM o=p.getD imgZ:=by
 cases ho:o with
 | none=>rw [h.none ho];rfl
 | some M=>
  obtain⟨h1,h2⟩:=h.some M ho;rw [h2];unfold ofM;dsimp only;rw [if_pos h1]
  rfl
def errO (p:Option ImgD):Int:=if p.isSome=true then 0 else 7
theorem QiO.e {o p:Option ImgD}(h:QiO o p):ofE o=errO p:=by
 cases ho:o with
 | none=>rw [h.none ho];rfl
 | some M=>
  obtain⟨h1,h2⟩:=h.some M ho;rw [h2];exact h1
theorem QeV {m:ImgD}(hC:Qaq m=0){r:Nat}(hr:r<m.root.length)(hp:inPl m r=true):∃t:Nat,m.root.getD r 0=(t:Int)∧1≤t∧t<m.slots.length∧m.refs.getD t 0=1:=by
 have hs:=Qal hC;have hro:=Qa3 hs;unfold inPl at hp;simp only [Bool.and_eq_true,bne_iff_ne,ne_eq,beq_iff_eq] at hp;have hm:m.root.getD r 0 ∈ m.root:=by simp [List.getD,hr]
 have hE:=List.all_eq_true.1 hro.2 _ hm;unfold Qbf at hE;have hk:isKd m.slots (m.root.getD r 0) 2=true:=by
  cases hx:isKd m.slots (m.root.getD r 0) 2 with
  | true=>rfl
  | false=>rw [hx] at hE;simp at hE;exact absurd hE hp.1
 obtain⟨j,hj,hjl,_⟩:=Qbu hk;refine⟨j,hj,by omega,hjl,?_⟩;rw [hj,Int.toNat_natCast] at hp;exact hp.2
theorem Qb3 {m:ImgD}(hs:Qao m=0){r:Nat}(hr:r<m.root.length):∃t:Nat,m.root.getD r 0=(t:Int)∧t<m.slots.length:=by
 have hro:=Qa3 hs;have hm:m.root.getD r 0 ∈ m.root:=by simp [List.getD,hr]
 have hE:=List.all_eq_true.1 hro.2 _ hm;have hp:=Qah (Qad hs).2.1
 by_cases h0:m.root.getD r 0=0
 ·exact⟨0,h0,by omega⟩
 ·unfold Qbf at hE;have hk:isKd m.slots (m.root.getD r 0) 2=true:=by
   cases hx:isKd m.slots (m.root.getD r 0) 2 with
   | true=>rfl
   | false=>rw [hx] at hE;simp at hE;exact absurd hE h0
  obtain⟨j,hj,hjl,_⟩:=Qbu hk;exact⟨j,hj,hjl⟩
theorem QdC {m:ImgD}(hC:Qaq m=0){r:Nat}(hr:r<m.root.length)(es:List Int):(layP m r es=none↔Qcq m r es=none)∧∀M,layP m r es=some M→∃M',Qcq m r es=some M'∧(M.refs.length=M.slots.length→M'.refs.length=M'.slots.length→Kin M M'):=by
 have hs:=Qal hC;have hp:=Qah (Qad hs).2.1;unfold layP Qcq
 by_cases hb:Qbz es=true
 ·rw [if_pos hb,if_pos hb];exact⟨by simp,fun M hM=>⟨_,rfl,fun h1 h2=>by cases hM;exact⟨rfl,rfl,rfl,rfl,rfl⟩⟩⟩
 ·rw [if_neg hb,if_neg hb]
  by_cases hi:inPl m r=true
  ·rw [if_pos hi];obtain⟨t,ht,h1,htl,_⟩:=QeV hC hr hi;have htn:tabN m r=t:=by unfold tabN;rw [if_pos hi,ht];rfl
   rw [htn,if_neg (by omega)];refine⟨by simp,fun M hM=>⟨_,rfl,fun h1 h2=>?_⟩⟩
   cases hM
   have hset:m.root.set r (t:Int)=m.root:=by
    apply List.ext_getElem
    ·simp
    ·intro j h1 h2
     by_cases e:r=j
     ·subst e;simp only [List.getElem_set_self];rw [←ht];simp [List.getD,hr]
     ·simp [e]
   have hsl:tabL m r es=m.slots.set t (2,⟨#[]⟩,es):=by unfold tabL layS;rw [htn,if_neg (by omega)]
   refine⟨rfl,?_,?_,rfl,?_⟩
   ·show m.root=m.root.set r (t:Int)
    exact hset.symm
   ·show m.slots.set (m.root.getD r 0).toNat _=tabL m r es
    rw [hsl,ht];rfl
   ·rw [h1,h2]
    show (m.slots.set (m.root.getD r 0).toNat _).length=(tabL m r es).length
    rw [hsl,List.length_set,List.length_set]
  ·rw [if_neg hi];have htn:tabN m r=QaK m.slots:=by unfold tabN;rw [if_neg hi]
   rw [htn]
   by_cases hg:QaK m.slots=40
   ·rw [if_pos hg,if_pos hg];exact⟨by simp,fun M hM=>(by cases hM)⟩
   ·rw [if_neg hg,if_neg hg];refine⟨by simp,fun M hM=>⟨_,rfl,fun h1 h2=>?_⟩⟩
    cases hM
    have hsl:tabL m r es=layS m.slots (QaK m.slots) (2,⟨#[]⟩,es):=by unfold tabL;rw [htn]
    refine⟨rfl,rfl,?_,rfl,?_⟩
    ·show layS m.slots (QaK m.slots) _=tabL m r es
     rw [hsl]
    ·rw [h1,h2]
     show (layS m.slots (QaK m.slots) _).length=(tabL m r es).length
     rw [hsl]
theorem Qg0 {m:ImgD}(hrl:m.refs.length=m.slots.length)(n:Nat)(s:Qag)(x:Int):(layR m.refs n x).length=(layS m.slots n s).length:=by
 rw [Qh8,QaD,hrl]
theorem QeM {m:ImgD}(hrl:m.refs.length=m.slots.length){r:Nat}{es:List Int}{M:ImgD}(h:layP m r es=some M):M.refs.length=M.slots.length:=by
 unfold layP at h
 split at h
 ·cases h;exact hrl
 ·split at h
  ·cases h
   show m.refs.length=(m.slots.set _ _).length
   rw [List.length_set];exact hrl
  ·split at h
   ·cases h
   ·cases h
    exact Qg0 hrl _ _ _
theorem Qeh {m:ImgD}(hrl:m.refs.length=m.slots.length){r:Nat}{es:List Int}{M:ImgD}(h:Qcq m r es=some M):M.refs.length=M.slots.length:=by
 unfold Qcq at h
 split at h
 ·cases h;exact hrl
 ·split at h
  ·cases h
  ·cases h
   show (rfZ _).length=_
   simp [rfZ,QcT]
def vacP (m:ImgD) (n:Nat) (e:Int):Option ImgD:=if QaT m m.root n=e then some m else layP m (n / 4) ((Qak m (n / 4)).set (n % 4) e)
theorem Qkw {m:ImgD}(hC:Qaq m=0){n:Nat}(hn:(n:Int)<m.guest){e:Int}(he:e=0∨e = -1):QiO (vacP m n e) (putD m n e):=by
 have hs:=Qal hC;have hg:=Qa5 hs;have hro:=Qa3 hs;have hrl:=(Qad hs).2.2.1;have hk:n / 4<m.root.length:=by omega
 unfold vacP putD;rw [Qc6]
 by_cases h0:(Qak m (n / 4)).getD (n % 4) 0=e
 ·rw [if_pos h0,if_pos h0];exact⟨fun h=>(by cases h),fun M hM=>(by cases hM;exact⟨hs,by rw [Qcm hC]⟩)⟩
 ·rw [if_neg h0,if_neg h0];obtain⟨hiff,hsome⟩:=QdC hC hk ((Qak m (n / 4)).set (n % 4) e);obtain⟨t1,t2⟩:=Qa0 hs hk;have hisE:isE e=true:=by rcases he with rfl | rfl <;> decide
  have htE:tabE m.slots e=true:=by rcases he with rfl | rfl <;> simp [tabE]
  refine⟨fun h=>by rw [hiff.1 h];rfl,fun M hM=>?_⟩;obtain⟨M',hM',hkin⟩:=hsome M hM;have hK:=hkin (QeM hrl hM) (Qeh hrl hM');have hL:=(QdA hC hk (QfS t1 hisE) (fun x hx=>by rcases Qga hx with h | h;exact t2 x h;rw [h];exact htE) (QgZ (QcR hs _) hn rfl hro.1 e) hM').1;exact⟨hK.shape.trans hL.shape,by rw [hM',hK.counted];rfl⟩
end Go.Proofs.YtjfkfnjigofmpaaGreat
