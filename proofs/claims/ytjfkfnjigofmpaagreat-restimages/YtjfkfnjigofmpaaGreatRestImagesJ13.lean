/- Texts joined: PkQ2, RepI, SnP, SnT, SnI, SnD, SnU, ShelfC, SnF, SnG. -/
import Derived.Test.YtjfkfnjigofmpaaGreatRestImagesJ11
import Derived.Test.YtjfkfnjigofmpaaGreatRestImagesJ1
import Derived.Test.YtjfkfnjigofmpaaGreatRestImagesJ6
import Derived.Test.YtjfkfnjigofmpaaGreatRestImagesJ12
import Derived.Test.YtjfkfnjigofmpaaGreatRestImagesJ10
import Derived.Test.YtjfkfnjigofmpaaGreatRestImagesJ5
import Derived.Lib.AppendZerosOnto
import Derived.Lib.Overlaps
import Derived.Shelf.Spec.SlicesInsert
import Derived.Test.YtjfkfnjigofmpaaGreatRestImagesJ3
import Derived.Shelf.Small.Strs
import Derived.Test.YtjfkfnjigofmpaaGreatProg
set_option linter.unusedVariables false
set_option linter.unusedSimpArgs false
set_option maxHeartbeats 200000000
set_option maxRecDepth 20000
namespace Go.Proofs.YtjfkfnjigofmpaaGreat
open Go.RowKit Go.Shelf
theorem OwR.belowP {V X X':World}{D:Nat}{p:ImgD}(h:OwR V X D p)(hb:Below X.heap.size X X'):OwR V X' D p:=by
 obtain⟨val,hX,hbox,hfar⟩:=h.ex;exact⟨⟨val,hX.below hb,(hb.block D (szH hbox)).trans hbox,hfar⟩,h.ge,h.bel.trans (hb.mono h.bel.size)⟩
theorem Qn6 {w1 wr w6:World}{D:Nat}{val:Nm→Value}{p:ImgD}{o6:Obj}{v:Value}{ys:List Int}(hX:OX wr w1.heap.size val p)(bl:Below w1.heap.size w1 wr)(hbox:wr.heap[D]? = some (.cells #[.int .i64 p.guest,val .root,val .slots,val .refs,val .snaps] 26))(b6:Below (wr.alloc o6).heap.size (wr.alloc o6) w6)(r1:w6.ownsRow ((wr.alloc o6).heap.size+1) 3 1 v ys.length (ints ys)) :
  OX w6 w1.heap.size val p∧Below w1.heap.size w1 w6∧w6.heap[D]? = some (.cells #[.int .i64 p.guest,val .root,val .slots,val .refs,val .snaps] 26)∧(∀a,Qaj p a→(val a).ownBlock≠some wr.heap.size)∧v.ownBlock≠some wr.heap.size∧(∀g,v.ownBlock=some g→wr.heap.size≤g)∧v.ownBlock≠some D∧wr.heap.size+1≤w6.heap.size:=by
 have hz:(wr.alloc o6).heap.size=wr.heap.size+1:=by simp
 have hDl:=(szH hbox);have hbl:=bl.size;have h6:=b6.size;have hk:∀q,q<wr.heap.size→w6.heap[q]? = wr.heap[q]?:=fun q hq=>(b6.block q (by omega)).trans (Below.heap_alloc _ _ q hq)
 have hge:∀g,v.ownBlock=some g→wr.heap.size+2≤g:=fun g e=>by have:=(r1.lt g e).1;omega
 refine⟨hX.keep (fun g _ hg=>hk g hg),?_,(hk D hDl).trans hbox,hX.lt (Nat.le_refl _),fun e=>by have:=hge _ e;omega,fun g e=>by have:=hge _ e;omega,fun e=>by have:=hge _ e;omega,by omega⟩;exact (bl.alloc hbl _).trans (b6.mono (by omega))
theorem Qmd (ra:Option Addr)(rc:Nat)(sa:Option Addr)(sc:Nat)(fa:Option Addr)(fc:Nat)(na:Option Addr)(nc:Nat)(m:ImgD)(w:World)(h:Img w (.agg (aI m ra rc sa sc fa fc na nc)) m)(hC:Qaq m=0)(R:List Int)(hR:m.root.map (ren m.slots)=R) :
  Calls Tryz.prog 14 #[.agg (aI m ra rc sa sc fa fc na nc)] w fun r w'=>∃val,r=.returned (imgV m.guest val)∧OX w' w.heap.size val (QbP m)∧Below w.heap.size w w':=by
 have b0:Below w.heap.size w ((w.alloc (.cells (aI m ra rc sa sc fa fc na nc) 26)).alloc zI):=(bA).alloc (by simp) _;have m0:((w.alloc (.cells (aI m ra rc sa sc fa fc na nc) 26)).alloc zI).heap[w.heap.size]? = some (.cells (aI m ra rc sa sc fa fc na nc) 26):=Qac (zHn _ _) _;have m1:((w.alloc (.cells (aI m ra rc sa sc fa fc na nc) 26)).alloc zI).heap[w.heap.size+1]? = some zI:=by have:=World.alloc_heap_new (w.alloc (.cells (aI m ra rc sa sc fa fc na nc) 26)) zI;simpa using this
 have I1:=h.below b0;have hsz:w.heap.size+1<((w.alloc (.cells (aI m ra rc sa sc fa fc na nc) 26)).alloc zI).heap.size:=by simp
 have hs:=Qal hC;have h40:=(Qah (Qad hs).2.1).2;have h1s:=(Qah (Qad hs).2.1).1;have hgt:=Qa5 hs;have hrt:=Qa3 hs;have hr40:m.root.length≤40:=by omega
 have hrf:m.refs.length=m.slots.length:=(Qad hs).2.2.1;have hn3:=(Qad hs).1;have HP:Hid (Qaq m=0∧Qao m=0∧m.root.map (ren m.slots)=R):=⟨hC,hs,hR⟩;have HRt:Hid (∀e ∈ m.root,EntP m.slots e):=fun e he=>Qen (List.all_eq_true.1 hrt.2 e he)
 have HRf:Hid (m.refs.length=m.slots.length):=hrf;clear h hC hs hR hgt hrt hrf
 go_enter Tryz.func14,Tryz.ntmps14
 go_upto_region 1 with fail;obtain⟨w1,hw1⟩:∃X,((w.alloc (.cells (aI m ra rc sa sc fa fc na nc) 26)).alloc zI)=X:=⟨_,rfl⟩;rw [hw1] at b0 m0 m1 I1 hsz ⊢;clear hw1;have HAr:Hid (∀W,Below w1.heap.size w1 W→Calls Tryz.prog 49 #[.agg (aI m ra rc sa sc fa fc na nc),.slice ra m.root.length rc] W fun r w'=>∃va,r=.returned va∧w'.ownsRow (W.heap.size+1) 3 1 va R.length (ints R)∧Below W.heap.size W w'):=fun W hW=>Qfw (I1.below hW) (I1.four.1.below hW) h40 hr40 HRt.out HP.out.2.2
 have MZ:PkM w1 w1 R none none none none:=PkM.zero _ _;have hm1:∀w,(Instr.makeSlice 23 (.int .i64 1) (.int .i64 1)).run Tryz.prog w=.ok (.slice (some ⟨w.heap.size,0,none⟩) 1 1) (w.alloc (.cells #[.int .i64 0,.string ⟨#[]⟩,nl] 37)):=fun _=>by kernel_rfl
 have hm2:∀w,(Instr.makeSlice 22 (.int .i64 1) (.int .i64 1)).run Tryz.prog w=.ok (.slice (some ⟨w.heap.size,0,none⟩) 1 1) (w.alloc (.cells #[.int .i64 0] 3)):=fun _=>by kernel_rfl
 go_cut [3] from 8 (fun s wx=>∃D:Nat,s=.pointer (some ⟨D,0,none⟩)∧Hid (OwR w1 wx D ⟨m.guest,R,[(0,⟨#[]⟩,[])],[0],[]⟩))
 case first=>
  refine wp_region_held_drew (S:=(fun X:World=>X.heap[w.heap.size]? = some (.cells (aI m ra rc sa sc fa fc na nc) 26))) (by kernel_rfl) m0 (fun hHeld=>?_);refine tkH 0 (.pointer (some ⟨w.heap.size,0,none⟩)) rfl (Or.inl ⟨by rfl,fun w' hSw=>by obtain⟨j0,j1,j2,j3,j4⟩:=five hSw;go_simp⟩) hHeld ?_;simp only [lays];refine tkH 1 (.int .i64 m.guest) rfl (Or.inl ⟨by rfl,fun w' hSw=>by obtain⟨j0,j1,j2,j3,j4⟩:=five hSw;go_simp⟩) hHeld ?_;simp only [lays];refine tkH 2 (.agg (aI m ra rc sa sc fa fc na nc)) rfl (Or.inl ⟨by rfl,fun w' hSw=>by obtain⟨j0,j1,j2,j3,j4⟩:=five hSw;go_simp⟩) hHeld ?_;simp only [lays];refine tkH 3 (.pointer (some ⟨w.heap.size,1,none⟩)) rfl (Or.inl ⟨by rfl,fun w' hSw=>by obtain⟨j0,j1,j2,j3,j4⟩:=five hSw;go_simp⟩) hHeld ?_;simp only [lays];refine tkH 4 (.slice ra m.root.length rc) rfl (Or.inl ⟨by rfl,fun w' hSw=>by obtain⟨j0,j1,j2,j3,j4⟩:=five hSw;go_simp⟩) hHeld ?_;simp only [lays];have M:=MZ.drew;obtain⟨X,hX⟩:∃Z,w1.drew=Z:=⟨_,rfl⟩;rw [hX] at M ⊢;have hHeld:=Qab m0 M.bel (by omega);clear hX
  repeat' (refine rdS [5,6,7,9,8,10] (.c rfl ?_ (.c rfl ?_ (.c rfl ?_ (.c rfl ?_ (.c rfl ?_ (.c rfl ?_ .n)))))) <;> (intro t hc K hK;first | exact absurd hc (by decide +kernel) | (clear hc hHeld;simp only [lays];rw [if_pos (by rfl)];first
   | (have _:Tg 5:=t;clear t;go_wp2_with (go_at_call 49;refine (HAr.out _ M.bel).mono ?_;rintro e9 X ⟨va,rfl,hr,hb⟩;obtain⟨ca,cc,rfl⟩:=QaH hr);replace M:=M.addC hb hr;clear hb hr;refine hK.out _ _ (Qab m0 M.bel (by omega)) (fun hHeld=>?_);clear hK K;try simp only [lays])
   | (have _:Tg 6:=t;clear t;go_simp;obtain⟨X,hX⟩:∃Z,X.alloc (.cells #[.int .i64 0,.string ⟨#[]⟩,nl] 37)=Z:=⟨_,rfl⟩;replace M:=M.addS;rw [hX] at M ⊢;clear hX;refine hK.out _ _ (Qab m0 M.bel (by omega)) (fun hHeld=>?_);clear hK K;try simp only [lays])
   | (have _:Tg 7:=t;clear t;go_simp;obtain⟨X,hX⟩:∃Z,X.alloc (.cells #[.int .i64 0] 3)=Z:=⟨_,rfl⟩;replace M:=M.addF;rw [hX] at M ⊢;clear hX;refine hK.out _ _ (Qab m0 M.bel (by omega)) (fun hHeld=>?_);clear hK K;try simp only [lays])
   | (have _:Tg 9:=t;clear t;go_simp;obtain⟨X,hX⟩:∃Z,X.alloc zI=Z:=⟨_,rfl⟩;replace M:=M.addD;rw [hX] at M ⊢;clear hX;refine hK.out _ _ (Qab m0 M.bel (by omega)) (fun hHeld=>?_);clear hK K;try simp only [lays])
   | (have _:Tg 8:=t;clear t;go_simp;refine hK.out _ _ (Qab m0 M.bel (by omega)) (fun hHeld=>?_);clear hK K;try simp only [lays])
   | (have _:Tg 10:=t;clear t;have zd:=(M.d _ rfl).2;obtain⟨z0,z1,z2,z3,z4⟩:=five zd;have y0:=Qaa zd 0;have y1:=Qaa zd 1;have y2:=Qaa zd 2;have y3:=Qaa zd 3;have y4:=Qaa zd 4;go_simp;have hN:=QmY m.guest M;refine hK.out _ _ ((QlH _ _ _ _ _ (by have:=(M.d _ rfl).1;omega)).trans (Qab m0 M.bel (by omega))) (fun hHeld=>?_);clear hK K hHeld z0 z1 z2 z3 z4 y0 y1 y2 y3 y4;refine wpAnyH_done (by kernel_rfl) ?_ _;go_wp2_with fail;go_meet;exact⟨_,rfl,hN⟩))))
 case rest=>
  obtain⟨D,rfl,HD0⟩:=hcut;have HD:Hid (OwR w1 wc D (pkA m 1)):=by rw [QpO HP.out.1,HP.out.2.2];exact HD0.out
  clear HD0 HAr MZ hm1 hm2;have HI:Hid (Img w1 (.agg (aI m ra rc sa sc fa fc na nc)) m):=I1;have HM:Hid (w1.heap[w.heap.size]? = some (.cells (aI m ra rc sa sc fa fc na nc) 26)∧w1.heap[w.heap.size+1]? = some zI∧Below w.heap.size w w1):=⟨m0,m1,b0⟩;clear I1 m0 m1 b0;go_wp2_with fail
  go_loopw [4] (fun i wr=>∃k:Nat,1≤k∧k≤m.slots.length∧i=.int .i64 k∧Hid (OwR w1 wr D (pkA m k))) (fun i _=>m.slots.length - (intOf i).toNat)
  case atStart=>exact⟨1,by omega,h1s,rfl,HD⟩
  case round=>
   obtain⟨k,hk1,hk,rfl,HC⟩:=hrel;have bl:=HC.out.bel;have n0:=Qab HM.out.1 bl (by omega);obtain⟨c0,c1,c2,c3,c4⟩:=five n0
   by_cases hlk:k<m.slots.length
   ·have hki:(k:Int)<(m.slots.length:Int):=by omega
    obtain⟨val,hX,hbox,hfar⟩:=HC.out.ex;have hge:=HC.out.ge;have hDl:D<wr.heap.size:=(szH hbox);obtain⟨kn,hkn⟩:∃x,(pkA m k).slots.length=x:=⟨_,rfl⟩;have hkn4:kn≤40:=by rw [←hkn];show ((pkI m.slots k).map _).length≤40;rw [List.length_map];unfold pkI;have:=List.length_filter_le (kept m.slots) (List.range k);rw [List.length_range] at this;omega
    obtain⟨pa,pc,hp,_⟩:=hX.forms .slots (Qaj.slots _);have hp:val .slots=.slice pa kn pc:=by rw [hp];show Value.slice pa (pkA m k).slots.length pc=_;rw [hkn]
    have hrow:=hX.row .slots (Qaj.slots _);have hrow:wr.ownsRow w1.heap.size 37 3 (val .slots) (pkA m k).slots.length (QaE (pkA m k).slots (fun j=>val (.tab j))):=hrow;rw [hkn] at hrow;obtain⟨sb,so,sc',e,_,hbl,hps⟩:=(HI.out.four.2.1.below bl).open (by omega);simp only [Value.slice.injEq] at e;obtain⟨hsa,_,hsc⟩:=e;rw [hsa] at c2;clear hsa hsc;obtain⟨tv,q0,q1,q2,qs⟩:=hps k hlk;obtain⟨⟨kk,dd,es⟩,hsk⟩:∃s,m.slots[k]=s:=⟨_,rfl⟩;have HS:Hid (m.slots[k]=(kk,dd,es)):=hsk;rw [hsk] at q0 q1 qs;have q0:wr.cell? ⟨sb,so+k*3,none⟩=some (.int .i64 kk):=q0;have q1:wr.cell? ⟨sb,so+k*3+1,none⟩=some (.string dd):=q1;have qs:Sl wr tv es:=qs;obtain⟨ta,tc,rfl⟩:=qs.form;obtain⟨ys,hys⟩:∃x,es.map (ren m.slots)=x:=⟨_,rfl⟩;have HY:Hid (es.map (ren m.slots)=ys):=hys;have hE40:es.length≤40∧∀e ∈ es,EntP m.slots e:=by
     have hmem:(kk,dd,es) ∈ m.slots:=by rw [←hsk];exact List.getElem_mem _
     refine⟨?_,fun e he=>Qfd (QeP HP.out.2.1 hmem e he)⟩;have z2:=(Qad HP.out.2.1).2.1;have hok:okD (kk,dd,es)=true:=by
      unfold Qap at z2;rw [if_pos (Qah (Qad HP.out.2.1).2.1)] at z2
      split at z2
      ·rename_i hx;exact List.all_eq_true.1 hx.1 _ hmem
      ·simp at z2
     have:=Qiu hok;have:es.length≤4:=this;omega
    have HAe:Hid (∀W,Below wr.heap.size wr W→Calls Tryz.prog 49 #[.agg (aI m ra rc sa sc fa fc na nc),.slice ta es.length tc] W fun r w'=>∃va,r=.returned va∧w'.ownsRow (W.heap.size+1) 3 1 va ys.length (ints ys)∧Below W.heap.size W w'):=fun W hW=>Qfw ((HI.out.below bl).below hW) (qs.below hW) h40 hE40.1 hE40.2 hys
    have n0':=Qac n0 (.cells #[.int .i64 kk,.string dd,.slice ta es.length tc] 37);obtain⟨n00,n01,n02,n03,n04⟩:=five n0';clear hps hsk n0 n0' hys hE40 qs;have HX:Hid (OX wr w1.heap.size val (pkA m k)∧(∀a,Qaj (pkA m k) a→(val a).ownBlock≠some D)∧Below w1.heap.size w1 wr∧val .slots=.slice pa kn pc∧(pkA m k).slots.length=kn∧wr.heap[D]? = some (.cells #[.int .i64 (pkA m k).guest,val .root,val .slots,val .refs,val .snaps] 26)):=⟨hX,hfar,bl,hp,hkn,hbox⟩;rw [hp] at hbox hrow;obtain⟨d0,d1,d2,d3,d4⟩:=five hbox;have f2:=Qaa hbox 2;have hfD:(Value.slice pa kn pc).ownBlock≠some D:=by rw [←hp];exact hfar .slots (Qaj.slots _)
    have nD1:¬D=wr.heap.size:=by omega
    have nD2:¬wr.heap.size=D:=by omega
    clear hX hfar hp hkn;have hkd:kd m.slots k=kk:=by unfold kd;rw [show m.slots.getD k default=m.slots[k] by simp [List.getD,hlk],HS.out]
    have hkp:kept m.slots k=(kk != 0):=by unfold kept;rw [hkd,show (k == 0)=false by simp;omega];rfl
    rcases Bool.eq_false_or_eq_true (kk == 0) with hk0 | hk0
    ·have HN:Hid (OwR w1 (wr.alloc (.cells #[.int .i64 kk,.string dd,.slice ta es.length tc] 37)) D (pkA m (k+1))):=by
      rw [QpE m (by rw [hkp];simp only [bne,hk0];rfl)];exact HC.out.belowP (bA)
     clear hkd hkp;go_wp2_with fail;go_roundw
     case rel=>exact⟨k+1,by omega,by omega,by go_num,HN⟩
     case measure=>simp [intOf];omega
    ·have hkt:kept m.slots k=true:=by rw [hkp];simp only [bne,hk0];rfl
     obtain⟨rk,hrk⟩:∃x,m.refs.getD k 0=x:=⟨_,rfl⟩;have hyes:=Qpd m hkt;rw [show m.slots.getD k default=m.slots[k] by simp [List.getD,hlk],HS.out,hrk] at hyes;have HYes:Hid (pkA m (k+1) = { pkA m k with slots:=(pkA m k).slots ++ [(kk,dd,ys)],refs:=(pkA m k).refs ++ [rk] }):=by
      rw [hyes]
      show _=_
      unfold Qel;dsimp only;rw [HY.out]
     have HRk:Hid (m.refs.getD k 0=rk∧kept m.slots k=true):=⟨hrk,hkt⟩;clear hkd hkp hkt hyes hrk;go_upto_region 9 with (first | (go_at_call 49;refine (HAe.out _ (bA)).mono ?_;rintro e9 w6 ⟨v6,rfl,r1,b6⟩;obtain⟨xa,xc,rfl⟩:=QaH r1;have s6:=b6.size;have HW:Hid (OX w6 w1.heap.size val (pkA m k)∧Below w1.heap.size w1 w6∧w6.heap[D]? = some (.cells #[.int .i64 (pkA m k).guest,val .root,val .slots,val .refs,val .snaps] 26)∧(∀a,Qaj (pkA m k) a→(val a).ownBlock≠some wr.heap.size)∧(Value.slice xa ys.length xc).ownBlock≠some wr.heap.size∧(∀g,(Value.slice xa ys.length xc).ownBlock=some g→wr.heap.size≤g)∧(Value.slice xa ys.length xc).ownBlock≠some D∧wr.heap.size+1≤w6.heap.size):=Qn6 HX.out.1 HX.out.2.2.1 HX.out.2.2.2.2.2 b6 r1;have u5:=Qab (World.alloc_heap_new wr (.cells #[.int .i64 kk,.string dd,.slice ta es.length tc] 37)) b6 (by simp);obtain⟨t0,t1,t2⟩:=Qb6 u5;have tf:=Qaa u5 2;have z6:=Qab (Qac hbox (.cells #[.int .i64 kk,.string dd,.slice ta es.length tc] 37)) b6 (by simp;omega);obtain⟨x0,x1,x2,x3,x4⟩:=five z6;have y2:=Qaa z6 2;have hrow6:=QeJ (hrow.alloc (.cells #[.int .i64 kk,.string dd,.slice ta es.length tc] 37)) (W':=w6) (fun q hq=>b6.block q ((hrow.alloc (.cells #[.int .i64 kk,.string dd,.slice ta es.length tc] 37)).lt q hq).2);have r6:=QaP r1 (B':=w1.heap.size) (by have:=bl.size;simp;omega)) | (at_builtin;refine Qb0 (by rfl) _ _ 23 37 _ Tryz.underlying23 Qdn (by rfl) (by rfl) (B:=w1.heap.size) (v:=.slice pa kn pc) (c0:=.int .i64 kk) (c1:=.string dd) (c2:=.slice xa ys.length xc) (by rfl) (by rfl) (by rfl) (by rfl) (by rfl) (by simp) (ownsRow_setCell_other hrow6 (fun e=>Nat.lt_irrefl _ (hrow.lt _ e).2) _) (by omega) (by have:=bl.size;have:=HW.out.2.1.size;simp;omega) ?_;intro v1 w8 h1 h2 h3;obtain⟨g1,cap1,hv1⟩:=Qba h1.out;subst hv1;have z2:=(h2.block D (by simp;have:=HW.out.2.2.2.2.2.2.2;omega) (fun e=>hfD e.symm)).trans (Qac (Qan (by have:=HW.out.2.2.1;exact this) nD1 _ _) _);obtain⟨s0,s1,s2,s3,s4⟩:=five z2;have s22:=Qaa z2 2));have HN1:Hid (OwR w1 (w8.setCell ⟨D,2,none⟩ (.slice (some ⟨g1,0,none⟩) (kn+1) cap1)) D { pkA m k with slots:=(pkA m k).slots ++ [(kk,dd,ys)] }):=by
      obtain⟨hX,hfar,bl,hp,hkn,hbox⟩:=HX.out;refine Qik (es:=ys) ((HW.out.1.far HW.out.2.2.2.1).alloc _) ((HW.out.2.1.setCell bl.size _).alloc (by have:=bl.size;have:=HW.out.2.2.2.2.2.2;simp;omega) _) (Qac (Qan HW.out.2.2.1 nD1 _ _) _) hge hfar (fun _=>(ownsRow_setCell_other r6 HW.out.2.2.2.2.1 _).alloc _) (Qf8 r6) (fun _=>Qdh hX _ HW.out.2.2.2.2.2.1) (fun _=>HW.out.2.2.2.2.2.2.1) (by rw [hp];exact h2) (by rw [hkn];exact h1.out) ?_;rw [hp];rcases h3.out with x | x
      ·exact .inl x
      ·refine .inr (fun g e=>?_);rw [x] at e
       cases e
       simp
     obtain⟨wa,hwa⟩:∃X,w8.setCell ⟨D,2,none⟩ (.slice (some ⟨g1,0,none⟩) (kn+1) cap1)=X:=⟨_,rfl⟩;rw [hwa] at HN1 ⊢;clear hwa h1 h2 h3 HW u5 t0 t1 t2 tf z6 x0 x1 x2 x3 x4 y2 hrow6 r6 z2 s0 s1 s2 s3 s4 s22 r1 b6 HX hbox hrow d0 d1 d2 d3 d4 f2 hfD c0 c1 c2 c3 c4 q0 q1 q2 s6 n00 n01 n02 n03 n04;obtain⟨PK,hPK⟩:∃X,{ pkA m k with slots:=(pkA m k).slots ++ [(kk,dd,ys)] } = X:=⟨_,rfl⟩;have HPK:Hid (pkA m (k+1) = { PK with refs:=PK.refs ++ [rk] }):=by show _=_;rw [HYes.out,← hPK]
     have hfl:PK.refs.length≤40:=by
      rw [←hPK]
      show ((pkI m.slots k).map _).length≤40;rw [List.length_map];unfold pkI;have:=List.length_filter_le (kept m.slots) (List.range k);rw [List.length_range] at this;omega
     rw [hPK] at HN1;clear hPK HYes;have hOw:=HN1.out;obtain⟨val2,hX2,hbx2,hfar2⟩:=hOw.ex;obtain⟨fn,hfn⟩:∃x,PK.refs.length=x:=⟨_,rfl⟩;obtain⟨fa2,fc2,hp2,_⟩:=hX2.forms .refs (Qaj.refs _);have hp2:val2 .refs=.slice fa2 fn fc2:=by rw [hp2];show Value.slice fa2 PK.refs.length fc2=_;rw [hfn]
     have hrf2:=hX2.row .refs (Qaj.refs _);have hrf2:wa.ownsRow w1.heap.size 3 1 (val2 .refs) PK.refs.length (ints PK.refs):=hrf2;rw [hfn,hp2] at hrf2;rw [hfn] at hfl;have HO2:Hid (OX wa w1.heap.size val2 PK∧wa.heap[D]? = some (.cells #[.int .i64 PK.guest,val2 .root,val2 .slots,val2 .refs,val2 .snaps] 26)∧(∀a,Qaj PK a→(val2 a).ownBlock≠some D)∧val2 .refs=.slice fa2 fn fc2∧PK.refs.length=fn):=⟨hX2,hbx2,hfar2,hp2,hfn⟩;have hfD2:(Value.slice fa2 fn fc2).ownBlock≠some D:=by rw [←hp2];exact hfar2 .refs (Qaj.refs _)
     rw [hp2] at hbx2;have hrf:=hrf2;have hDa:D<wa.heap.size:=(szH hbx2);have ma:=Qab HM.out.1 hOw.bel (by omega);have hkf:k<m.refs.length:=by rw [HRf.out];exact hlk
     obtain⟨fb,fo,fc',e0,_,hfbl,hfc⟩:=HI.out.four.2.2.1.open (by omega);simp only [Value.slice.injEq] at e0;obtain⟨hfa,_,hfc'⟩:=e0;have HFa:Hid (fa=some ⟨fb,fo,none⟩):=hfa;clear hfa hfc';have ca:wa.cell? ⟨fb,fo+k,none⟩=some (.int .i64 rk):=by
      have:=(hOw.bel.cell (p:=⟨fb,fo+k,none⟩) hfbl).trans (hfc k hkf);rw [HRk.out.1] at this;exact this
     have hkfi:(k:Int)<(m.refs.length:Int):=by omega
     clear hX2 hfar2 hp2 hfn hrf2 hfc;refine wp_region_held_drew (S:=(fun X:World=>X.heap[w.heap.size]? = some (.cells (aI m ra rc sa sc fa fc na nc) 26)∧X.cell? ⟨fb,fo+k,none⟩=some (.int .i64 rk))) (by kernel_rfl) ⟨ma,ca⟩ (fun hHeld=>?_);refine tkH 0 (.pointer (some ⟨D,3,none⟩)) rfl (Or.inl ⟨by rfl,fun w' hSw=>by obtain⟨qa,qb⟩:=hSw;obtain⟨j0,j1,j2,j3,j4⟩:=five qa;go_simp⟩) hHeld ?_;simp only [lays];refine tkH 2 (.pointer (some ⟨w.heap.size,3,none⟩)) rfl (Or.inl ⟨by rfl,fun w' hSw=>by obtain⟨qa,qb⟩:=hSw;obtain⟨j0,j1,j2,j3,j4⟩:=five qa;go_simp⟩) hHeld ?_;simp only [lays];refine tkH 3 (.slice fa m.refs.length fc) rfl (Or.inl ⟨by rfl,fun w' hSw=>by obtain⟨qa,qb⟩:=hSw;obtain⟨j0,j1,j2,j3,j4⟩:=five qa;go_simp⟩) hHeld ?_;simp only [lays];refine tkH 4 (.int .i64 (k:Int)) rfl (Or.inl ⟨by rfl,fun w' hSw=>by obtain⟨qa,qb⟩:=hSw;obtain⟨j0,j1,j2,j3,j4⟩:=five qa;go_simp⟩) hHeld ?_;simp only [lays];refine tkH 5 (.pointer (some ⟨fb,fo+k,none⟩)) rfl (Or.inl ⟨by rfl,fun w' hSw=>by simp only [HFa.out];go_simp⟩) hHeld ?_;simp only [lays];refine tkH 6 (.int .i64 rk) rfl (Or.inl ⟨by rfl,fun w' hSw=>by obtain⟨qa,qb⟩:=hSw;obtain⟨j0,j1,j2,j3,j4⟩:=five qa;go_simp⟩) hHeld ?_;simp only [lays];have hOw:OwR w1 wa.drew D PK:=hOw.drew;have HO2:Hid (OX wa.drew w1.heap.size val2 PK∧wa.drew.heap[D]? = some (.cells #[.int .i64 PK.guest,val2 .root,val2 .slots,val2 .refs,val2 .snaps] 26)∧(∀a,Qaj PK a→(val2 a).ownBlock≠some D)∧val2 .refs=.slice fa2 fn fc2∧PK.refs.length=fn):=⟨HO2.out.1.drew,HO2.out.2⟩;have hbx2:wa.drew.heap[D]? = some (.cells #[.int .i64 PK.guest,val2 .root,val2 .slots,.slice fa2 fn fc2,val2 .snaps] 26):=hbx2;have hrf:wa.drew.ownsRow w1.heap.size 3 1 (.slice fa2 fn fc2) fn (ints PK.refs):=hrf.drew;have hDa:D<wa.drew.heap.size:=hDa;have ma:wa.drew.heap[w.heap.size]? = some (.cells (aI m ra rc sa sc fa fc na nc) 26):=ma;have ca:wa.drew.cell? ⟨fb,fo+k,none⟩=some (.int .i64 rk):=ca;obtain⟨wd,hwd⟩:∃X,wa.drew=X:=⟨_,rfl⟩;rw [hwd] at hOw HO2 hbx2 hrf hDa ma ca
     first | rw [hwd] | skip
     refine rdH2 1 7 rfl rfl (fun K hK=>?_) (fun K hK=>?_)
     ·clear hHeld;simp only [lays];rw [if_pos (by rfl)];have bxx:=hbx2;obtain⟨v0,v1,v2,v3,v4⟩:=five bxx;go_simp;refine hK.out _ _ ⟨ma,ca⟩ (fun hHeld=>?_);clear hK K v0 v1 v2 v3 v4 bxx;try simp only [lays]
      refine rdH 7 rfl (fun K hK=>?_);clear hHeld;simp only [lays];rw [if_pos (by rfl)];go_simp;refine hK.out _ _ ⟨Qac ma _,(World.cell?_alloc_past _ _ _ (by show fb<_;have:=hOw.bel.size;first | omega | (simp <;> omega))).trans ca⟩ (fun hHeld=>?_);clear hK K;try simp only [lays]
      refine rdH 8 rfl (fun K hK=>?_);clear hHeld;simp only [lays];rw [if_pos (by rfl)];refine Qh7 (W:=wd) (B:=w1.heap.size) (n:=fn) (v:=.slice fa2 fn fc2) (xs:=PK.refs) (e:=rk) _ _ (by rfl) (by rfl) (N:=wd.heap.size) (by rfl) rfl hrf (by omega) (by have:=hOw.bel.size;omega) ?_;intro v9 w9 g1 g2 g3;obtain⟨ga,gc,hv9⟩:=Qba g1.out;subst hv9;have hzz:(wd.alloc (.cells #[.int .i64 rk] 3)).heap.size=wd.heap.size+1:=by simp
      have hblk9:∀q,q<wd.heap.size→(Value.slice fa2 fn fc2).ownBlock≠some q→w9.heap[q]? = wd.heap[q]?:=fun q hq hn=>(g2.out.block q (by rw [hzz];omega) (fun e=>hn e.symm)).trans (Below.heap_alloc _ _ q hq)
      have hfm:(Value.slice fa2 fn fc2).ownBlock≠some w.heap.size:=fun e=>by have:=(hrf.lt _ e).1;omega
      have hfr:(Value.slice fa2 fn fc2).ownBlock≠some fb:=fun e=>by have:=(hrf.lt _ e).1;omega
      have m9:=(hblk9 w.heap.size (by have:=hOw.bel.size;omega) hfm).trans ma;have c9:w9.cell? ⟨fb,fo+k,none⟩=some (.int .i64 rk):=by
       have e9:=hblk9 fb (by have:=hOw.bel.size;omega) hfr;have:w9.cell? ⟨fb,fo+k,none⟩=wd.cell? ⟨fb,fo+k,none⟩:=by simp only [World.cell?,e9]
       rw [this];exact ca
      have D9:=(hblk9 D hDa hfD2).trans hbx2;have HN2:Hid (OwR w1 (w9.setCell ⟨D,3,none⟩ (.slice (some ⟨ga,0,none⟩) (fn+1) gc)) D (pkA m (k+1))):=by
       have key:=Qf5 (W:=w9) (v:=.slice (some ⟨ga,0,none⟩) (fn+1) gc) (r:=PK.refs ++ [rk]) HO2.out.1 HO2.out.2.1 hOw.ge HO2.out.2.2.1 (by have:=g1.out;rw [show (PK.refs ++ [rk]).length=fn+1 by simp [HO2.out.2.2.2.2]];exact this) (by rw [HO2.out.2.2.2.1];exact hblk9) ((hOw.bel.alloc hOw.bel.size _).grown g2.out (by rw [hzz];have:=hOw.bel.size;omega) (fun q e=>(hrf.lt q e).1)) (by
        rw [HO2.out.2.2.2.1];rcases g3.out with x | x
        ·exact .inl x
        ·exact .inr (fun q e=>by rw [x] at e;cases e;first | omega | (simp <;> omega)))
       rw [HPK.out];exact key
      refine hK.out _ _ ⟨m9,c9⟩ (fun hHeld=>?_);clear hK K;try simp only [lays]
      refine tkH 9 (.pointer (some ⟨D,3,none⟩)) rfl (Or.inl ⟨by rfl,fun w' hSw=>by obtain⟨qa,qb⟩:=hSw;obtain⟨j0,j1,j2,j3,j4⟩:=five qa;go_simp⟩) hHeld ?_;simp only [lays];refine rdH 10 rfl (fun K hK=>?_);clear hHeld;simp only [lays];rw [if_pos (by rfl)];obtain⟨v0,v1,v2,v3,v4⟩:=five D9;have u3:=Qaa D9 3;go_simp;have nDm:¬w.heap.size=D:=by have:=hOw.ge;omega
      have nDf:¬fb=D:=by have:=hOw.ge;omega
      refine hK.out _ _ ⟨(Below.heap_setCell _ ⟨D,3,none⟩ _ _ nDm).trans m9,by first | (simp [nDf,c9];done) | (have e9:=Below.heap_setCell w9 ⟨D,3,none⟩ (.slice (some ⟨ga,0,none⟩) (fn+1) gc) fb nDf;have:(w9.setCell ⟨D,3,none⟩ (.slice (some ⟨ga,0,none⟩) (fn+1) gc)).cell? ⟨fb,fo+k,none⟩=w9.cell? ⟨fb,fo+k,none⟩:=(by simp only [World.cell?,e9]);rw [this];exact c9)⟩ (fun hHeld=>?_);clear hK K hHeld v0 v1 v2 v3 v4 u3;refine wpAnyH_done (by kernel_rfl) ?_ _;clear g1 g2 g3 m9 c9 D9 hblk9;go_wp2_with fail;go_roundw
      case rel=>exact⟨k+1,by omega,by omega,by go_num,HN2⟩
      case measure=>simp [intOf];omega
     ·clear hHeld;simp only [lays];rw [if_pos (by rfl)];go_simp;refine hK.out _ _ ⟨Qac ma _,(World.cell?_alloc_past _ _ _ (by show fb<_;have:=hOw.bel.size;first | omega | (simp <;> omega))).trans ca⟩ (fun hHeld=>?_);clear hK K;try simp only [lays]
      refine rdH 1 rfl (fun K hK=>?_);clear hHeld;simp only [lays];rw [if_pos (by rfl)];have bxx:=(Qac hbx2 (.cells #[.int .i64 rk] 3));obtain⟨v0,v1,v2,v3,v4⟩:=five bxx;go_simp;refine hK.out _ _ ⟨Qac ma _,(World.cell?_alloc_past _ _ _ (by show fb<_;have:=hOw.bel.size;first | omega | (simp <;> omega))).trans ca⟩ (fun hHeld=>?_);clear hK K v0 v1 v2 v3 v4 bxx;try simp only [lays]
      refine rdH 8 rfl (fun K hK=>?_);clear hHeld;simp only [lays];rw [if_pos (by rfl)];refine Qh7 (W:=wd) (B:=w1.heap.size) (n:=fn) (v:=.slice fa2 fn fc2) (xs:=PK.refs) (e:=rk) _ _ (by rfl) (by rfl) (N:=wd.heap.size) (by rfl) rfl hrf (by omega) (by have:=hOw.bel.size;omega) ?_;intro v9 w9 g1 g2 g3;obtain⟨ga,gc,hv9⟩:=Qba g1.out;subst hv9;have hzz:(wd.alloc (.cells #[.int .i64 rk] 3)).heap.size=wd.heap.size+1:=by simp
      have hblk9:∀q,q<wd.heap.size→(Value.slice fa2 fn fc2).ownBlock≠some q→w9.heap[q]? = wd.heap[q]?:=fun q hq hn=>(g2.out.block q (by rw [hzz];omega) (fun e=>hn e.symm)).trans (Below.heap_alloc _ _ q hq)
      have hfm:(Value.slice fa2 fn fc2).ownBlock≠some w.heap.size:=fun e=>by have:=(hrf.lt _ e).1;omega
      have hfr:(Value.slice fa2 fn fc2).ownBlock≠some fb:=fun e=>by have:=(hrf.lt _ e).1;omega
      have m9:=(hblk9 w.heap.size (by have:=hOw.bel.size;omega) hfm).trans ma;have c9:w9.cell? ⟨fb,fo+k,none⟩=some (.int .i64 rk):=by
       have e9:=hblk9 fb (by have:=hOw.bel.size;omega) hfr;have:w9.cell? ⟨fb,fo+k,none⟩=wd.cell? ⟨fb,fo+k,none⟩:=by simp only [World.cell?,e9]
       rw [this];exact ca
      have D9:=(hblk9 D hDa hfD2).trans hbx2;have HN2:Hid (OwR w1 (w9.setCell ⟨D,3,none⟩ (.slice (some ⟨ga,0,none⟩) (fn+1) gc)) D (pkA m (k+1))):=by
       have key:=Qf5 (W:=w9) (v:=.slice (some ⟨ga,0,none⟩) (fn+1) gc) (r:=PK.refs ++ [rk]) HO2.out.1 HO2.out.2.1 hOw.ge HO2.out.2.2.1 (by have:=g1.out;rw [show (PK.refs ++ [rk]).length=fn+1 by simp [HO2.out.2.2.2.2]];exact this) (by rw [HO2.out.2.2.2.1];exact hblk9) ((hOw.bel.alloc hOw.bel.size _).grown g2.out (by rw [hzz];have:=hOw.bel.size;omega) (fun q e=>(hrf.lt q e).1)) (by
        rw [HO2.out.2.2.2.1];rcases g3.out with x | x
        ·exact .inl x
        ·exact .inr (fun q e=>by rw [x] at e;cases e;first | omega | (simp <;> omega)))
       rw [HPK.out];exact key
      refine hK.out _ _ ⟨m9,c9⟩ (fun hHeld=>?_);clear hK K;try simp only [lays]
      refine tkH 9 (.pointer (some ⟨D,3,none⟩)) rfl (Or.inl ⟨by rfl,fun w' hSw=>by obtain⟨qa,qb⟩:=hSw;obtain⟨j0,j1,j2,j3,j4⟩:=five qa;go_simp⟩) hHeld ?_;simp only [lays];refine rdH 10 rfl (fun K hK=>?_);clear hHeld;simp only [lays];rw [if_pos (by rfl)];obtain⟨v0,v1,v2,v3,v4⟩:=five D9;have u3:=Qaa D9 3;go_simp;have nDm:¬w.heap.size=D:=by have:=hOw.ge;omega
      have nDf:¬fb=D:=by have:=hOw.ge;omega
      refine hK.out _ _ ⟨(Below.heap_setCell _ ⟨D,3,none⟩ _ _ nDm).trans m9,by first | (simp [nDf,c9];done) | (have e9:=Below.heap_setCell w9 ⟨D,3,none⟩ (.slice (some ⟨ga,0,none⟩) (fn+1) gc) fb nDf;have:(w9.setCell ⟨D,3,none⟩ (.slice (some ⟨ga,0,none⟩) (fn+1) gc)).cell? ⟨fb,fo+k,none⟩=w9.cell? ⟨fb,fo+k,none⟩:=(by simp only [World.cell?,e9]);rw [this];exact c9)⟩ (fun hHeld=>?_);clear hK K hHeld v0 v1 v2 v3 v4 u3;refine wpAnyH_done (by kernel_rfl) ?_ _;clear g1 g2 g3 m9 c9 D9 hblk9;go_wp2_with fail;go_roundw
      case rel=>exact⟨k+1,by omega,by omega,by go_num,HN2⟩
      case measure=>simp [intOf];omega
   ·have ek:k=m.slots.length:=by omega
    have HD2:Hid (OwR w1 wr D (pkB m 0)):=by rw [←Qo5,← ek];exact HC.out
    clear HC HD ek;have hki:¬(k:Int)<(m.slots.length:Int):=by omega
    obtain⟨wx,hrn⟩:∃X,X=wr:=⟨_,rfl⟩;subst hrn;go_wp2_with fail
    go_loopw [6] (fun i wr=>∃k:Nat,k≤m.snaps.length∧i=.int .i64 k∧Hid (OwR w1 wr D (pkB m k))) (fun i _=>m.snaps.length - (intOf i).toNat)
    case atStart=>exact⟨0,Nat.zero_le _,rfl,HD2⟩
    case round=>
     clear c0 c1 c2 c3 c4 hk hk1 hlk hki;obtain⟨k,hk,rfl,HC⟩:=hrel;have bl:=HC.out.bel;have n0:=Qab HM.out.1 bl (by omega);obtain⟨c0,c1,c2,c3,c4⟩:=five n0
     by_cases hlk:k<m.snaps.length
     ·have hki:(k:Int)<(m.snaps.length:Int):=by omega
      obtain⟨val,hX,hbox,hfar⟩:=HC.out.ex;have hge:=HC.out.ge;have hDl:D<wr.heap.size:=(szH hbox);obtain⟨kn,hkn⟩:∃x,(pkB m k).snaps.length=x:=⟨_,rfl⟩;have hkn4:kn≤40:=by rw [←hkn];show ((m.snaps.take k).map _).length≤40;rw [List.length_map,List.length_take];omega
      obtain⟨pa,pc,hp,_⟩:=hX.forms .snaps (Qaj.snaps _);have hp:val .snaps=.slice pa kn pc:=by rw [hp];show Value.slice pa (pkB m k).snaps.length pc=_;rw [hkn]
      have hrow:=hX.row .snaps (Qaj.snaps _);have hrow:wr.ownsRow w1.heap.size 39 3 (val .snaps) (pkB m k).snaps.length (QaY (pkB m k).snaps (fun j=>val (.sr j))):=hrow;rw [hkn] at hrow;obtain⟨sb,so,sc',e,_,hbl,hps⟩:=(HI.out.four.2.2.2.below bl).open (by omega);simp only [Value.slice.injEq] at e;obtain⟨hsa,_,hsc⟩:=e;rw [hsa] at c4;clear hsa hsc;obtain⟨tv,q0,q1,q2,qs⟩:=hps k hlk;obtain⟨⟨dd,kk,es⟩,hsk⟩:∃s,m.snaps[k]=s:=⟨_,rfl⟩;have HS:Hid (m.snaps[k]=(dd,kk,es)):=hsk;rw [hsk] at q0 q1 qs;have q0:wr.cell? ⟨sb,so+k*3,none⟩=some (.string dd):=q0;have q1:wr.cell? ⟨sb,so+k*3+1,none⟩=some (.int .i64 kk):=q1;have qs:Sl wr tv es:=qs;obtain⟨ta,tc,rfl⟩:=qs.form;obtain⟨ys,hys⟩:∃x,es.map (ren m.slots)=x:=⟨_,rfl⟩;have HY:Hid (es.map (ren m.slots)=ys):=hys;have hE40:es.length≤40∧∀e ∈ es,EntP m.slots e:=by
       have hmem:(dd,kk,es) ∈ Qaw m:=by rw [←hsk];exact List.mem_cons_of_mem _ (List.getElem_mem _)
       obtain⟨f1,f2,f3,f4⟩:=Qcl HP.out.2.1 hmem;have f2:kk≤16:=f2;have f3:(es.length:Int)=(kk+3) / 4:=f3;exact⟨by omega,fun e he=>Qen (Qh1 HP.out.2.1 hmem e he)⟩
      have HAe:Hid (∀W,Below wr.heap.size wr W→Calls Tryz.prog 49 #[.agg (aI m ra rc sa sc fa fc na nc),.slice ta es.length tc] W fun r w'=>∃va,r=.returned va∧w'.ownsRow (W.heap.size+1) 3 1 va ys.length (ints ys)∧Below W.heap.size W w'):=fun W hW=>Qfw ((HI.out.below bl).below hW) (qs.below hW) h40 hE40.1 hE40.2 hys
      have n0':=Qac n0 (.cells #[.string dd,.int .i64 kk,.slice ta es.length tc] 39);obtain⟨n00,n01,n02,n03,n04⟩:=five n0';clear hps hsk n0 n0' hys hE40 qs;have HX:Hid (OX wr w1.heap.size val (pkB m k)∧(∀a,Qaj (pkB m k) a→(val a).ownBlock≠some D)∧Below w1.heap.size w1 wr∧val .snaps=.slice pa kn pc∧(pkB m k).snaps.length=kn∧wr.heap[D]? = some (.cells #[.int .i64 (pkB m k).guest,val .root,val .slots,val .refs,val .snaps] 26)):=⟨hX,hfar,bl,hp,hkn,hbox⟩;rw [hp] at hbox hrow;obtain⟨d0,d1,d2,d3,d4⟩:=five hbox;have f2:=Qaa hbox 4;have hfD:(Value.slice pa kn pc).ownBlock≠some D:=by rw [←hp];exact hfar .snaps (Qaj.snaps _)
      have nD1:¬D=wr.heap.size:=by omega
      have nD2:¬wr.heap.size=D:=by omega
      clear hX hfar hp hkn;go_wp2_with (first | (go_at_call 49;refine (HAe.out _ (bA)).mono ?_;rintro e9 w6 ⟨v6,rfl,r1,b6⟩;obtain⟨xa,xc,rfl⟩:=QaH r1;have s6:=b6.size;have HW:Hid (OX w6 w1.heap.size val (pkB m k)∧Below w1.heap.size w1 w6∧w6.heap[D]? = some (.cells #[.int .i64 (pkB m k).guest,val .root,val .slots,val .refs,val .snaps] 26)∧(∀a,Qaj (pkB m k) a→(val a).ownBlock≠some wr.heap.size)∧(Value.slice xa ys.length xc).ownBlock≠some wr.heap.size∧(∀g,(Value.slice xa ys.length xc).ownBlock=some g→wr.heap.size≤g)∧(Value.slice xa ys.length xc).ownBlock≠some D∧wr.heap.size+1≤w6.heap.size):=Qn6 HX.out.1 HX.out.2.2.1 HX.out.2.2.2.2.2 b6 r1;have u5:=Qab (World.alloc_heap_new wr (.cells #[.string dd,.int .i64 kk,.slice ta es.length tc] 39)) b6 (by simp);obtain⟨t0,t1,t2⟩:=Qb6 u5;have tf:=Qaa u5 2;have z6:=Qab (Qac hbox (.cells #[.string dd,.int .i64 kk,.slice ta es.length tc] 39)) b6 (by simp;omega);obtain⟨x0,x1,x2,x3,x4⟩:=five z6;have y2:=Qaa z6 4;have hrow6:=QeJ (hrow.alloc (.cells #[.string dd,.int .i64 kk,.slice ta es.length tc] 39)) (W':=w6) (fun q hq=>b6.block q ((hrow.alloc (.cells #[.string dd,.int .i64 kk,.slice ta es.length tc] 39)).lt q hq).2);have r6:=QaP r1 (B':=w1.heap.size) (by have:=bl.size;simp;omega)) | (at_builtin;refine Qb0 (by rfl) _ _ 24 39 _ Tryz.underlying24 Qdq (by rfl) (by rfl) (B:=w1.heap.size) (v:=.slice pa kn pc) (c0:=.string dd) (c1:=.int .i64 kk) (c2:=.slice xa ys.length xc) (by rfl) (by rfl) (by rfl) (by rfl) (by rfl) (by simp) (ownsRow_setCell_other hrow6 (fun e=>Nat.lt_irrefl _ (hrow.lt _ e).2) _) (by omega) (by have:=bl.size;have:=HW.out.2.1.size;simp;omega) ?_;intro v1 w8 h1 h2 h3;obtain⟨g1,cap1,hv1⟩:=Qba h1.out;subst hv1;have z2:=(h2.block D (by simp;have:=HW.out.2.2.2.2.2.2.2;omega) (fun e=>hfD e.symm)).trans (Qac (Qan (by have:=HW.out.2.2.1;exact this) nD1 _ _) _);obtain⟨s0,s1,s2,s3,s4⟩:=five z2;have s22:=Qaa z2 4));have HN:Hid (OwR w1 (w8.setCell ⟨D,4,none⟩ (.slice (some ⟨g1,0,none⟩) (kn+1) cap1)) D (pkB m (k+1))):=by
       rw [Qnr m hlk,HS.out];unfold Qek;dsimp only;rw [HY.out];obtain⟨hX,hfar,bl,hp,hkn,hbox⟩:=HX.out;refine QiC (es:=ys) ((HW.out.1.far HW.out.2.2.2.1).alloc _) ((HW.out.2.1.setCell bl.size _).alloc (by have:=bl.size;have:=HW.out.2.2.2.2.2.2;simp;omega) _) (Qac (Qan HW.out.2.2.1 nD1 _ _) _) hge hfar ((ownsRow_setCell_other r6 HW.out.2.2.2.2.1 _).alloc _) (Qdh hX _ HW.out.2.2.2.2.2.1) (HW.out.2.2.2.2.2.2.1) (by rw [hp];exact h2) (by rw [hkn];exact h1.out) ?_;rw [hp];rcases h3.out with x | x
       ·exact .inl x
       ·refine .inr (fun g e=>?_);rw [x] at e
        cases e
        simp
      go_roundw
      case rel=>exact⟨k+1,by omega,by go_num,HN⟩
      case measure=>simp [intOf];omega
     ·have ek:k=m.snaps.length:=by omega
      subst ek;obtain⟨val,hX,hbox,hfar⟩:=HC.out.ex;obtain⟨MP,hMP⟩:∃X,QbP m=X:=⟨_,rfl⟩;rw [Qow,hMP] at hX hbox hfar;have hgM:MP.guest=m.guest:=by rw [←hMP];rfl
      obtain⟨pa0,pc0,hp0,_⟩:=hX.forms .root (Qaj.root _);obtain⟨pa1,pc1,hp1,_⟩:=hX.forms .slots (Qaj.slots _);obtain⟨pa2,pc2,hp2,_⟩:=hX.forms .refs (Qaj.refs _);obtain⟨pa3,pc3,hp3,_⟩:=hX.forms .snaps (Qaj.snaps _);have HX:Hid (OX wr w1.heap.size val MP∧val .root=.slice pa0 MP.root.length pc0∧val .slots=.slice pa1 MP.slots.length pc1∧val .refs=.slice pa2 MP.refs.length pc2∧val .snaps=.slice pa3 MP.snaps.length pc3):=⟨hX,hp0,hp1,hp2,hp3⟩;rw [HX.out.2.1,HX.out.2.2.1,HX.out.2.2.2.1,HX.out.2.2.2.2,hgM] at hbox;obtain⟨d0,d1,d2,d3,d4⟩:=five hbox;have n1:=Qab HM.out.2.1 bl (by omega);obtain⟨z0,z1,z2,z3,z4⟩:=five n1;have y0:=Qaa n1 0;have y1:=Qaa n1 1;have y2:=Qaa n1 2;have y3:=Qaa n1 3;have y4:=Qaa n1 4;have hge:=HC.out.ge;have g1:¬D=w.heap.size+1:=by omega
      have g2:¬w.heap.size+1=D:=by omega
      have hfr:∀a,Qaj MP a→(val a).ownBlock≠some (w.heap.size+1):=fun a ha e=>by
       have:=((hX.row a ha).lt _ e).1;omega
      have HB:Hid (Below w.heap.size w wr):=HM.out.2.2.trans (bl.mono (by omega));have HMP:Hid (QbP m=MP):=hMP;clear hX hp0 hp1 hp2 hp3 hfar hMP hgM hbox n1 n0;go_wp2_with fail;have i1:w.heap.size≤w.heap.size+1:=Nat.le_succ _;refine bodyPost_ret (v:=.agg (bI m.guest pa0 MP.root.length pc0 pa1 MP.slots.length pc1 pa2 MP.refs.length pc2 pa3 MP.snaps.length pc3)) (by simp [results,Tryz.results14,go_sem,z0,z1,z2,z3,z4]) rfl ⟨val,by unfold imgV;rw [HX.out.2.1,HX.out.2.2.1,HX.out.2.2.2.1,HX.out.2.2.2.2],by rw [HMP.out];exact OX.mono (((((HX.out.1.far hfr).far hfr).far hfr).far hfr).far hfr) (by omega),((((HB.out.setCell i1 _).setCell i1 _).setCell i1 _).setCell i1 _).setCell i1 _⟩
theorem QlP {w:World}{v:Value}{m:ImgD}(h:Img w v m)(hC:Qaq m=0){M:ImgD}(hM:pkM m=M) :
  Calls Tryz.prog 14 #[v] w fun r w'=>∃val,r=.returned (imgV M.guest val)∧OX w' w.heap.size val M∧Below w.heap.size w w':=by
 have h':=h;obtain⟨ra,rc,sa,sc,fa,fc,na,nc,rfl,_⟩:=h.parts;have e:pkM m=QbP m:=by unfold pkM;rw [if_pos hC]
 rw [e] at hM;subst hM;exact Qmd ra rc sa sc fa fc na nc m w h' hC _ rfl

theorem Ql0 {m:ImgD}(h:Qao m=0):Qao { m with refs:=rfZ m.slots } = 0:=by
 obtain⟨z1,z2,z3,z4,z5,z6,z7⟩:=Qad h;unfold Qao;rw [if_neg (by show ¬3<m.snaps.length;omega),if_neg (by show ¬Qap m.slots≠0;simpa using z2),if_neg,if_neg (by show ¬(Qaw m).all _=false;rw [z5];decide),if_neg (by show ¬QaV m.slots=false;rw [z6];decide),if_neg (by show ¬(Qaw m).all _=false;rw [z7];decide)];rintro (x | x)
 ·apply x;show (rfZ m.slots).length=m.slots.length;simp [rfZ]
 ·have:QaJ m.snaps=false:=x;rw [z4] at this;cases this
def AnsV (w:World) (M:ImgD) (r:Ending) (w':World):Prop:=∃val a0 c0 a1 c1 a2 c2 a3 c3,r=.returned (.agg (aI M a0 c0 a1 c1 a2 c2 a3 c3))∧(val .root=.slice a0 M.root.length c0∧val .slots=.slice a1 M.slots.length c1∧val .refs=.slice a2 M.refs.length c2∧val .snaps=.slice a3 M.snaps.length c3)∧OX w' w.heap.size val M∧Below w.heap.size w w'
theorem OX.four {W:World}{B:Nat}{val:Nm→Value}{m:ImgD}(h:OX W B val m):∃a0 c0 a1 c1 a2 c2 a3 c3,val .root=.slice a0 m.root.length c0∧val .slots=.slice a1 m.slots.length c1∧val .refs=.slice a2 m.refs.length c2∧val .snaps=.slice a3 m.snaps.length c3:=by
 obtain⟨a0,c0,h0,_⟩:=h.forms .root (Qaj.root _);obtain⟨a1,c1,h1,_⟩:=h.forms .slots (Qaj.slots _);obtain⟨a2,c2,h2,_⟩:=h.forms .refs (Qaj.refs _);obtain⟨a3,c3,h3,_⟩:=h.forms .snaps (Qaj.snaps _);exact⟨a0,c0,a1,c1,a2,c2,a3,c3,h0,h1,h2,h3⟩
theorem Qiz (ra:Option Addr)(rc:Nat)(sa:Option Addr)(sc:Nat)(fa:Option Addr)(fc:Nat)(na:Option Addr)(nc:Nat)(m:ImgD)(w:World)(h:Img w (.agg (aI m ra rc sa sc fa fc na nc)) m)(hE:Qao m=0)(M:ImgD)(hM:Qai m=M) :
  Calls Tryz.prog 15 #[.agg (aI m ra rc sa sc fa fc na nc)] w (AnsV w M):=by
 have b0:Below w.heap.size w ((w.alloc (.cells (aI m ra rc sa sc fa fc na nc) 26)).alloc zI):=(bA).alloc (by simp) _;have m0:((w.alloc (.cells (aI m ra rc sa sc fa fc na nc) 26)).alloc zI).heap[w.heap.size]? = some (.cells (aI m ra rc sa sc fa fc na nc) 26):=Qac (zHn _ _) _;have m1:((w.alloc (.cells (aI m ra rc sa sc fa fc na nc) 26)).alloc zI).heap[w.heap.size+1]? = some zI:=by have:=World.alloc_heap_new (w.alloc (.cells (aI m ra rc sa sc fa fc na nc) 26)) zI;simpa using this
 have hsz:w.heap.size+1<((w.alloc (.cells (aI m ra rc sa sc fa fc na nc) 26)).alloc zI).heap.size:=by simp
 have hcall:=Qbn (h.below b0) hE;have hgM:M.guest=m.guest:=by rw [←hM];rfl
 have HE:Hid (Qao { m with refs:=rfZ m.slots } = 0∧Qai m=M):=⟨Ql0 hE,hM⟩;obtain⟨c0,c1,c2,c3,c4⟩:=five m0;clear h hE hM
 go_enter Tryz.func15,Tryz.ntmps15
 go_wp2_with (first
  | (go_at_call 46;refine HK.out.mono ?_;rintro e w2 ⟨val2,rfl,hO2,b2,k2,s2⟩;obtain⟨p0,q0,p1,q1,p2,q2,p3,q3,x0,x1,x2,x3⟩:=hO2.four;have n1:=(k2 (w.heap.size+1) (by have:=HB1.out.2;omega) (fun a ha e=>by have:=((HB1.out.1.row a ha).lt _ e).1;omega)).trans HB1r.out;obtain⟨z0,z1,z2,z3,z4⟩:=five n1;have y0:=Qaa n1 0;have y1:=Qaa n1 1;have y2:=Qaa n1 2;have y3:=Qaa n1 3;have y4:=Qaa n1 4;unfold imgV;rw [x0,x1,x2,x3])
  | (go_at_call 6;refine hcall.mono ?_;rintro e w1 ⟨val,rfl,hO,b1⟩;have HB1:Hid (OX w1 ((w.alloc (.cells (aI m ra rc sa sc fa fc na nc) 26)).alloc zI).heap.size val m∧((w.alloc (.cells (aI m ra rc sa sc fa fc na nc) 26)).alloc zI).heap.size≤w1.heap.size):=⟨hO,b1.size⟩;have HB1r:Hid (w1.heap[w.heap.size+1]? = some zI):=Qab m1 b1 hsz;have HK:Hid (Calls Tryz.prog 46 #[imgV m.guest val] w1 fun r w'=>∃val',r=.returned (imgV m.guest val')∧OX w' ((w.alloc (.cells (aI m ra rc sa sc fa fc na nc) 26)).alloc zI).heap.size val' (Qai m)∧Below ((w.alloc (.cells (aI m ra rc sa sc fa fc na nc) 26)).alloc zI).heap.size w1 w'∧Qbl w1 w' m val∧SrcX w1 m val (nl) (Qai m) val'):=QcI hO b1.size HE.out.1;have hbb:=b1;clear hO))
 have hfr:∀a,Qaj (Qai m) a→(val2 a).ownBlock≠some (w.heap.size+1):=fun a ha e=>by
  have:=((hO2.row a ha).lt _ e).1;omega
 have hO3:=((((hO2.far (i:=0) (u:=.int .i64 m.guest) hfr).far (i:=1) (u:=.slice p0 (Qai m).root.length q0) hfr).far (i:=2) (u:=.slice p1 (Qai m).slots.length q1) hfr).far (i:=3) (u:=.slice p2 (Qai m).refs.length q2) hfr).far (i:=4) (u:=.slice p3 (Qai m).snaps.length q3) hfr;have hI:=hO3.mono (B':=w.heap.size) (by omega);have i1:w.heap.size≤w.heap.size+1:=Nat.le_succ _;have hbel:Below w.heap.size w w2:=(Below.on b0 hbb).trans (b2.mono (by omega))
 subst_vars
 have hM:=HE.out.2;subst hM;refine bodyPost_ret (v:=.agg #[.int .i64 (Qai m).guest,.slice p0 (Qai m).root.length q0,.slice p1 (Qai m).slots.length q1,.slice p2 (Qai m).refs.length q2,.slice p3 (Qai m).snaps.length q3]) (by simp [results,Tryz.results15,go_sem,z0,z1,z2,z3,z4,show (Qai m).guest=m.guest from rfl]) rfl ⟨val2,p0,q0,p1,q1,p2,q2,p3,q3,rfl,⟨x0,x1,x2,x3⟩,hI,((((hbel.setCell i1 _).setCell i1 _).setCell i1 _).setCell i1 _).setCell i1 _⟩
theorem Qif {w:World}{v:Value}{m M:ImgD}(h:Img w v m)(hE:Qao m=0)(hM:Qai m=M):Calls Tryz.prog 15 #[v] w (AnsV w M):=by
 have h':=h;obtain⟨ra,rc,sa,sc,fa,fc,na,nc,rfl,_⟩:=h.parts;exact Qiz ra rc sa sc fa fc na nc m w h' hE M hM

abbrev Qb8 (a b:ByteArray):Bool:=Op.bytesLess a.toList b.toList
theorem Qdp:∀ {x y z:List UInt8},Op.bytesLess x y=true→Op.bytesLess y z=true→Op.bytesLess x z=true
 | _,_,[],_,h=>by simp [Op.bytesLess] at h
 | _,[],_ :: _,h,_=>by simp [Op.bytesLess] at h
 | [],_ :: _,_ :: _,_,_=>rfl
 | a :: x,b :: y,c :: z,h,k=>by
  simp only [Op.bytesLess,Bool.or_eq_true,Bool.and_eq_true,decide_eq_true_eq,beq_iff_eq] at h k ⊢;rcases h with h | ⟨rfl,h⟩
  ·rcases k with k | ⟨rfl,_⟩
   ·exact .inl (by rw [UInt8.lt_iff_toNat_lt] at h k ⊢;omega)
   ·exact .inl h
  ·rcases k with k | ⟨rfl,k⟩
   ·exact .inl k
   ·exact .inr ⟨rfl,Qdp h k⟩
theorem QjP {x y:List UInt8}(h:Op.bytesLess x y=false)(hne:x≠y):Op.bytesLess y x=true:=by
 have:=Qd2 x y;rw [h,Bool.false_or] at this;have e:(x == y)=false:=by simpa using hne
 rw [e] at this
 simpa using this.symm
theorem QnE (x:List UInt8):Op.bytesLess x x=false:=by
 have:=Qd2 x x;simp at this
 cases e:Op.bytesLess x x with
 | false=>rfl
 | true=>rw [e] at this;simp at this
def QdU (S:List Qav):Prop:=(∀s ∈ S,isNm s.1=true)∧S.Pairwise (fun a b=>Qb8 a.1 b.1=true)
theorem QbX (S:List Qav):QaJ S=true↔QdU S:=by
 unfold QaJ QdU;rw [List.all_eq_true]
 constructor
 ·intro h;have hk:∀k,k<S.length→nmAt S k=true:=fun k hk=>h k (by simpa using hk)
  refine⟨fun s hs=>?_,?_⟩
  ·obtain⟨j,hj,rfl⟩:=List.getElem_of_mem hs;have:=hk j hj;unfold nmAt at this;simp only [Bool.and_eq_true] at this;have h1:=this.1
   rwa [show S.getD j default=S[j] by simp [List.getD,hj]] at h1
  ·rw [List.pairwise_iff_getElem];have adj:∀i,(hi:i+1<S.length)→Qb8 S[i].1 S[i+1].1=true:=fun i hi=>by
    have:=hk (i+1) hi;rw [Qgs hi (by omega)] at this;simp only [Bool.and_eq_true] at this;exact this.2
   have far:∀d i,(hd:i+d+1<S.length)→Qb8 (S[i]'(by omega)).1 (S[i+d+1]).1=true:=by
    intro d
    induction d with
    | zero=>intro i hd;exact adj i hd
    | succ d ih=>intro i hd;exact Qdp (ih i (by omega)) (adj (i+d+1) (by omega))
   intro i j hi hj hij;obtain⟨d,rfl⟩:∃d,j=i+d+1:=⟨j - i - 1,by omega⟩;exact far d i hj
 ·rintro ⟨h1,h2⟩ k hk;have hk:k<S.length:=by simpa using hk
  rw [List.pairwise_iff_getElem] at h2;rcases Nat.eq_zero_or_pos k with e | e
  ·subst e;rw [QmO hk];exact h1 _ (List.getElem_mem hk)
  ·rw [Qgs hk e,h1 _ (List.getElem_mem hk),Bool.true_and];exact h2 (k - 1) k (by omega) hk (by omega)
def insS (S:List Qav) (s:Qav):List Qav:=S.takeWhile (fun x=>Qb8 x.1 s.1) ++ s :: S.dropWhile (fun x=>Qb8 x.1 s.1)
theorem Qh2 (S:List Qav)(s:Qav):(insS S s).length=S.length+1:=by
 unfold insS;have:=congrArg List.length (List.takeWhile_append_dropWhile (p:=fun x:Qav=>Qb8 x.1 s.1) (l:=S));rw [List.length_append] at this;rw [List.length_append,List.length_cons];omega
theorem QgI {S:List Qav}{s x:Qav} : x ∈ insS S s↔x=s∨x ∈ S:=by
 unfold insS;have e:=List.takeWhile_append_dropWhile (p:=fun x:Qav=>Qb8 x.1 s.1) (l:=S)
 constructor
 ·intro h;rcases List.mem_append.1 h with h | h
  ·exact .inr (e ▸ List.mem_append_left _ h)
  ·rcases List.mem_cons.1 h with h | h
   ·exact .inl h
   ·exact .inr (e ▸ List.mem_append_right _ h)
 ·rintro (rfl | h)
  ·exact List.mem_append_right _ List.mem_cons_self
  ·rw [←e] at h;rcases List.mem_append.1 h with h | h
   ·exact List.mem_append_left _ h
   ·exact List.mem_append_right _ (List.mem_cons_of_mem _ h)
theorem Qn3 {p:Qav→Bool} : ∀ {l:List Qav} {x:Qav},x ∈ l.takeWhile p→p x=true
 | [],x,h=>by cases h
 | a :: l,x,h=>by
  rw [List.takeWhile_cons] at h
  split at h
  ·rename_i hp
   rcases List.mem_cons.1 h with rfl | h
   ·exact hp
   ·exact Qn3 h
  ·cases h
theorem QkA {S:List Qav}{s:Qav}(h:QdU S)(hs:isNm s.1=true)(hne:∀x ∈ S,x.1.toList≠s.1.toList):QdU (insS S s):=by
 refine⟨fun x hx=>?_,?_⟩
 ·rcases QgI.1 hx with rfl | hm
  ·exact hs
  ·exact h.1 x hm
 ·have e:=List.takeWhile_append_dropWhile (p:=fun x:Qav=>Qb8 x.1 s.1) (l:=S);have hp:=h.2;rw [←e,List.pairwise_append] at hp;have hright:∀y ∈ S.dropWhile (fun x=>Qb8 x.1 s.1),Qb8 s.1 y.1=true:=by
   cases hd:S.dropWhile (fun x=>Qb8 x.1 s.1) with
   | nil=>intro y hy;cases hy
   | cons x r=>
    have hx:Qb8 x.1 s.1=false:=by
     have:=List.head?_dropWhile_not (fun x:Qav=>Qb8 x.1 s.1) S;rw [hd] at this
     simpa using this
    have hxm:x ∈ S:=e ▸ List.mem_append_right _ (by rw [hd];exact List.mem_cons_self);have hsx:Qb8 s.1 x.1=true:=QjP hx (hne x hxm);rw [hd] at hp;intro y hy;rcases List.mem_cons.1 hy with rfl | hy
    ·exact hsx
    ·exact Qdp hsx (List.rel_of_pairwise_cons hp.2.1 hy)
  unfold insS;rw [List.pairwise_append,List.pairwise_cons];refine⟨hp.1,⟨hright,hp.2.1⟩,fun a ha b hb=>?_⟩;rcases List.mem_cons.1 hb with rfl | hb
  ·exact Qn3 (p:=fun x:Qav=>Qb8 x.1 b.1) ha
  ·exact hp.2.2 a ha b hb
theorem QhV {m:ImgD}(h:Qao m=0){S:List Qav}(h3:S.length≤3)(hn:QaJ S=true)(hf:∀s ∈ S,Qay s.2.1=true∧Qas m.slots s.2.1 s.2.2=true):Qao { m with snaps:=S } = 0:=by
 obtain⟨z1,z2,z3,z4,z5,z6,z7⟩:=Qad h;have hgall:(Qaw { m with snaps:=S }).all (fun s=>Qay s.2.1)=true:=by
  show (((⟨#[]⟩,m.guest,m.root):Qav) :: S).all _=true
  rw [List.all_cons,List.all_eq_true.2 (fun s hs=>(hf s hs).1),Bool.and_true];exact QcK h
 have hall:(Qaw { m with snaps:=S }).all (fun s=>Qas m.slots s.2.1 s.2.2)=true:=by
  show (((⟨#[]⟩,m.guest,m.root):Qav) :: S).all _=true
  rw [List.all_cons,List.all_eq_true.2 (fun s hs=>(hf s hs).2),Bool.and_true];exact Qc8 h
 unfold Qao;rw [if_neg (by show ¬3<S.length;omega),if_neg (by show ¬Qap m.slots≠0;simpa using z2),if_neg,if_neg (by rw [hgall];decide),if_neg (by show ¬QaV m.slots=false;rw [z6];decide),if_neg (by show ¬((Qaw { m with snaps:=S }).all fun s=>Qas m.slots s.2.1 s.2.2)=false;rw [hall];decide)];rintro (e | e)
 ·exact e z3
 ·have:QaJ S=false:=e;rw [hn] at this;cases this
theorem Qoi {m:ImgD}(h:Qao m=0){s:Qav}(hs:s ∈ m.snaps):Qay s.2.1=true∧Qas m.slots s.2.1 s.2.2=true:=
 ⟨List.all_eq_true.1 (Qad h).2.2.2.2.1 s (List.mem_cons_of_mem _ hs),List.all_eq_true.1 (Qad h).2.2.2.2.2.2 s (List.mem_cons_of_mem _ hs)⟩
def Qc4 (m:ImgD) (nm:ByteArray):ImgD:={ m with snaps:=insS m.snaps (nm,m.guest,m.root) }
theorem Qdv {S:List Qav}{nm:ByteArray}(h:Qbh S nm=none):∀x ∈ S,x.1.toList≠nm.toList:=fun x hx e=>by
 unfold Qbh at h;rw [List.findIdx?_eq_none_iff] at h;have:=h x hx;simp [e] at this
theorem QhJ {m:ImgD}(h:Qao m=0){nm:ByteArray}(hn:isNm nm=true)(hx:Qbh m.snaps nm=none)(h3:m.snaps.length<3):Qao (Qc4 m nm)=0:=by
 refine QhV h (by rw [Qh2];omega) ((QbX _).2 (QkA ((QbX _).1 (Qad h).2.2.2.1) hn (Qdv hx))) (fun s hs=>?_);rcases QgI.1 hs with rfl | hs
 ·exact⟨QcK h,Qc8 h⟩
 ·exact Qoi h hs
theorem QmC {m M:ImgD}(h:Qao m=0)(hM:Qao M=0)(hs:M.slots=m.slots)(hsub:∀x ∈ QaC m,x ∈ QaC M){j:Nat}(hj:j<m.slots.length)(hc:(cntL m).getD j 0≠0):(cntL M).getD j 0≠0:=by
 obtain⟨j1,hcase⟩:=QgE h hj hc;rcases hcase with ⟨hk,hm⟩ | ⟨hk,k,k1,hkm,hk2,hjm⟩
 ·exact (QbD hM (hsub _ hm) j1).2.2
 ·exact (QgX hM (hsub _ hkm) k1 (by rw [hs];exact hjm) j1).2.2
theorem Qkl {m M:ImgD}(hC:Qaq m=0)(hM:Qao M=0)(hs:M.slots=m.slots)(hsub:∀x ∈ QaC m,x ∈ QaC M):(Qai M).slots=m.slots:=by
 have h:=Qal hC;have e0:=congrArg ImgD.slots (Qcm hC);have e0:Qcg m.slots (cntL m)=m.slots:=e0
 show Qcg M.slots (cntL M)=m.slots
 rw [hs]
 apply List.ext_getElem
 ·exact Qbw _ _
 ·intro j h1 h2;rw [QaB h1,QaB h2,QbZ h2]
  split
  ·rename_i hz
   have hz0:(cntL m).getD j 0=0:=Classical.byContradiction fun x=>QmC h hM hs hsub h2 x hz
   have:=Qdx (L:=m.slots) h2 hz0;rw [e0] at this;exact this.symm
  ·rfl
theorem Qid (m:ImgD)(nm:ByteArray):∀x ∈ QaC m,x ∈ QaC (Qc4 m nm):=fun x hx=>by
 unfold QaC at hx ⊢;rw [List.mem_flatMap] at hx ⊢;obtain⟨s,hs,hm⟩:=hx;rcases List.mem_cons.1 hs with rfl | hs
 ·exact⟨_,List.mem_cons_self,hm⟩
 ·exact⟨s,List.mem_cons_of_mem _ (QgI.2 (.inr hs)),hm⟩

theorem ext3 {L1 L2:List Value}{n:Nat}(h1:L1.length=n*3)(h2:L2.length=n*3)(h:∀q,q<n→L1[q*3]? = L2[q*3]?∧L1[q*3+1]? = L2[q*3+1]?∧L1[q*3+2]? = L2[q*3+2]?):L1=L2:=by
 apply List.ext_getElem?
 intro p
 by_cases hp:p<n*3
 ·obtain⟨a,b,c⟩:=h (p / 3) (by omega);have:p=p / 3*3∨p=p / 3*3+1∨p=p / 3*3+2:=by omega
  rcases this with e | e | e <;> rw [e] <;> assumption
 ·rw [List.getElem?_eq_none (by omega),List.getElem?_eq_none (by omega)]
theorem QiD {m:ImgD}{a:Nm}(h:Live m a)(e:a.kind=3):a=.snaps:=by
 rcases h with ⟨h1,h2⟩ | ⟨h1,h2⟩ | ⟨h1,h2⟩
 ·cases a;simp_all
 ·omega
 ·omega
end Go.Proofs.YtjfkfnjigofmpaaGreat

namespace Go.Proofs.YtjfkfnjigofmpaaGreat
open Go.RowKit Go.Shelf Go.Lib
theorem QdZ (w:World)(dT sT ty elem:TypeId)(g o dLen dCap:Nat)(a:Addr)(sLen sCap:Nat)(cur:Array Value)(t:TypeId)(cs:List Value)
  (hu:Tryz.prog.underlying dT=some (.slice elem)) (hs:(Tryz.prog.info? elem).map (·.size)=some 3)
  (hg:w.heap[g]? = some (.cells cur t (0,0))) (hn:cs.length=Nat.min sLen dLen*3)
  (hsrc:∀j v,cs[j]? = some v→w.cell? (a.add j)=some v) (hfit:o+cs.length≤cur.size) (h1:∀v ∈ cs,v.oneCell'=true) :
  (Builtin.copy_ #[dT,sT] ty #[.slice (some ⟨g,o,none⟩) dLen dCap,.slice (some a) sLen sCap]).run Tryz.prog w =
   .ok (goInt (Nat.min sLen dLen)) (w.setRow g (cur.toList.take o ++ cs ++ cur.toList.drop (o+cs.length)).toArray):=by
 have hl:=run_loadCells_list (P:=Tryz.prog) w a cs hsrc;have hst:=run_storeCells_at Tryz.prog g o t cs 0 cur w hg (by simpa using hfit) h1
 cases hq:Tryz.prog.info? elem with
 | none=>simp [hq] at hs
 | some i=>
  have hi:i.size=3:=by simpa [hq] using hs
  simp [Builtin.copy_,run_underlying hu,Builtin.lenOf,Builtin.firstCells,sizeOf,typeInfo,hq,hi,← hn,hl,hst]
theorem Qd3:(Tryz.prog.info? 39).map (·.size)=some 3:=by kernel_rfl
def shL (cur:List Value) (n i:Nat):List Value:=cur.take ((i+1)*3) ++ (cur.take (n*3)).drop (i*3) ++ cur.drop ((i+1)*3+((cur.take (n*3)).drop (i*3)).length)
def inL (L:List Value) (i:Nat) (x:List Value):List Value:=L.take (i*3) ++ x ++ L.drop (i*3+x.length)
theorem QfM {cur:List Value}{n i c:Nat}(hi:i<n)(hc:n+1≤c)(h:cur.length=c*3):(shL cur n i).length=c*3:=by
 unfold shL;simp only [List.length_append,List.length_take,List.length_drop,h];omega
theorem Qem {L x:List Value}{i c:Nat}(hi:i<c)(h:L.length=c*3)(hx:x.length=3):(inL L i x).length=c*3:=by
 unfold inL;simp only [List.length_append,List.length_take,List.length_drop,h,hx];omega
theorem Qp5 {cur x:List Value}{n i c:Nat}(hi:i<n)(hc:n+1≤c)(h:cur.length=c*3)(hx:x.length=3):(inL (shL cur n i) i x).take ((n+1)*3)=(cur.take (n*3)).take (i*3) ++ x ++ (cur.take (n*3)).drop (i*3):=by
 have hl:((cur.take (n*3)).drop (i*3)).length=(n - i)*3:=by simp only [List.length_take,List.length_drop,h];omega
 apply List.ext_getElem?
 intro j;unfold inL shL;rw [hl];simp only [List.getElem?_take,List.getElem?_append,List.getElem?_drop,List.length_append,List.length_take,List.length_drop,h,hx]
 repeat' split
 all_goals first | rfl | omega | (congr 1;omega) | (exfalso;omega) | (rw [List.getElem?_eq_none (by omega)])
theorem Qlq (g n c i N:Nat)(cur:Array Value)(x0 x1 x2:Value)(w:World)(hi:i<n)(hroom:n+1≤c)(hc:c≤9223372036854775807)(hNg:N≠g)
  (hg:w.heap[g]? = some (.cells cur 39)) (hsz:cur.size=c*3) (hN:w.heap[N]? = some (.cells #[x0,x1,x2] 39)) (h1:∀u ∈ cur.toList.take (n*3),u.oneCell'=true) (h1x:∀u ∈ [x0,x1,x2],u.oneCell'=true) :
  Calls Tryz.prog 34 #[.slice (some ⟨g,0,none⟩) n c,.int .i64 i,.slice (some ⟨N,0,none⟩) 1 1] w fun r w'=>r=.returned (.slice (some ⟨g,0,none⟩) (n+1) c)∧w'.heap[g]? = some (.cells (inL (shL cur.toList n i) i [x0,x1,x2]).toArray 39)∧w.grownBy w' (some g):=by
 have hz2:¬((i:Int)=(n:Int)):=by omega
 have hw1:IntKind.i64.wrap ((i:Int)+1)=(i:Int)+1:=by rw [IntKind.wrap_i64];omega
 have hb1:(0:Int)≤(i:Int)+1:=by omega
 have hin:i≤n:=by omega
 have htn:((i:Int)+1).toNat=i+1:=by omega
 have hb2:¬(c=i+1):=by omega
 have hb3:(i:Int)≤(n:Int)+1:=by omega
 have hb4:¬(c=i):=by omega
 have hz3:¬((c:Int)<(n:Int)+1):=by omega
 have hov:∀lb cb,(callFunc 74 #[.slice (some ⟨N,0,none⟩) 1 1,.slice (some ⟨g,(i+1)*3,none⟩) lb cb]).run Tryz.prog w=.ok (.value (.bool false)) w:=fun lb cb=>by
  rw [run_callFunc_extern Tryz.func74 (by kernel_rfl) (by kernel_rfl) (by kernel_rfl) (e:=Extern.SlicesOverlaps.overlaps #[24,24] #[4]) (by kernel_rfl),
   Lib.run_overlaps_apart w 24 4 39 (by kernel_rfl) 3 (fun w=>by kernel_rfl) ⟨N,0,none⟩ ⟨g,(i+1)*3,none⟩ 1 1 lb cb hNg 39 39 3 (c*3) (by simp [World.shape?,hN]) (by simp [World.shape?,hg,hsz]) (by omega) (by simp [World.frozen?,hN]) (by simp [World.frozen?,hN])]
  rfl
 have hcp1:∀ty dc sc,(Builtin.copy_ #[24,24] ty #[.slice (some ⟨g,(i+1)*3,none⟩) (n - i) dc,.slice (some ⟨g,i*3,none⟩) (n+1 - i) sc]).run Tryz.prog w.drew=.ok (goInt (Nat.min (n+1 - i) (n - i))) (w.drew.setRow g (shL cur.toList n i).toArray):=fun ty dc sc=>
  QdZ w.drew 24 24 ty 39 g ((i+1)*3) (n - i) dc ⟨g,i*3,none⟩ (n+1 - i) sc cur 39 ((cur.toList.take (n*3)).drop (i*3)) (by kernel_rfl) Qd3 hg (by simp only [List.length_take,List.length_drop,Array.length_toList,hsz];simp only [Nat.min_def];split <;> split <;> omega)
   (fun j v hj=>by
    rw [Addr.add_lit];rw [List.getElem?_drop,List.getElem?_take] at hj
    split at hj
    ·simp only [World.cell?,World.drew];rw [hg]
     simpa using hj
    ·cases hj)
   (by simp only [List.length_take,List.length_drop,Array.length_toList,hsz];omega) (fun u hu=>h1 u (List.mem_of_mem_drop hu))
 have hW1:(w.drew.setRow g (shL cur.toList n i).toArray).heap[g]? = some (.cells (shL cur.toList n i).toArray 39):=setRow_heap w.drew g cur _ 39 (0,0) hg;have hN1:(w.drew.setRow g (shL cur.toList n i).toArray).heap[N]? = some (.cells #[x0,x1,x2] 39):=(setRow_other w.drew g N _ hNg).trans hN;obtain⟨W1,eW1⟩:∃W1,w.drew.setRow g (shL cur.toList n i).toArray=W1:=⟨_,rfl⟩;rw [eW1] at hcp1 hW1 hN1;have hcp2:∀ty dc,(Builtin.copy_ #[24,24] ty #[.slice (some ⟨g,i*3,none⟩) (n+1 - i) dc,.slice (some ⟨N,0,none⟩) 1 1]).run Tryz.prog W1=.ok (goInt (Nat.min 1 (n+1 - i))) (W1.setRow g (inL (shL cur.toList n i) i [x0,x1,x2]).toArray):=fun ty dc=>by
  have:=QdZ W1 24 24 ty 39 g (i*3) (n+1 - i) dc ⟨N,0,none⟩ 1 1 (shL cur.toList n i).toArray 39 [x0,x1,x2] (by kernel_rfl) Qd3 hW1 (by simp only [List.length_cons,List.length_nil,Nat.min_def];split <;> omega)
   (fun j v hj=>by
    rw [Addr.add_lit];simp only [World.cell?];rw [hN1]
    simpa using hj)
   (by simp only [List.size_toArray,QfM hi hroom (show cur.toList.length=c*3 by rw [Array.length_toList];exact hsz),List.length_cons,List.length_nil];omega) h1x
  simpa [inL] using this
 have HH:Hid (w.heap[g]? = some (.cells cur 39)∧w.heap[N]? = some (.cells #[x0,x1,x2] 39)):=⟨hg,hN⟩;clear hg hN;have mixed:Tryz.prog.follows Departure.mixedOrders=true:=by kernel_rfl
 go_enter Tryz.func34,Tryz.ntmps34
 go_wp2_with (simp only [hov])
 go_region_law_o (refine step_copy_runI rfl _ _ 24 24 rfl _ _ (by simp [Act.eval,Act.put]) (by simp [Act.eval,Act.put]) (hcp1 _ _ _) ?_)
 go_wp2_with (at_builtin;refine wpList_copy_runI _ rfl _ _ 24 24 rfl _ _ rfl rfl (hcp2 _ _) ?_);go_ret;refine⟨rfl,?_,?_⟩
 ·exact setRow_heap W1 g _ _ 39 (0,0) hW1
 ·subst eW1;exact⟨rfl,rfl,rfl,by simp,fun k _ hk=>(setRow_other _ g k _ (fun e=>hk (by rw [e]))).trans (setRow_other _ g k _ (fun e=>hk (by rw [e])))⟩
def QhS:Value:=.agg #[.string ByteArray.empty,.int .i64 0,nl]
def grL (L xs:List Value) (i:Nat):List Value:=L.take ((i+1)*3) ++ xs.drop (i*3) ++ L.drop ((i+1)*3+(xs.drop (i*3)).length)
theorem Qkg {L xs:List Value}{n i c:Nat}(hi:i<n)(hc:n+1≤c)(h:L.length=c*3)(hx:xs.length=n*3):(grL L xs i).length=c*3:=by
 unfold grL;simp only [List.length_append,List.length_take,List.length_drop,h,hx];omega
theorem Qp6 {xs x Z:List Value}{n i c:Nat}(hi:i<n)(hc:n+1≤c)(h:xs.length=n*3)(hZ:i*3+Z.length=c*3)(hx:x.length=3):(grL (inL (xs.take (i*3) ++ Z) i x) xs i).take ((n+1)*3)=xs.take (i*3) ++ x ++ xs.drop (i*3):=by
 have hl:(xs.drop (i*3)).length=(n - i)*3:=by simp only [List.length_drop,h];omega
 apply List.ext_getElem?
 intro j;unfold grL inL;rw [hl];simp only [List.getElem?_take,List.getElem?_append,List.getElem?_drop,List.length_append,List.length_take,List.length_drop,h,hx]
 repeat' split
 all_goals first | rfl | omega | (congr 1;omega) | (exfalso;omega) | (rw [List.getElem?_eq_none (by omega)])
theorem Qng (g n i N:Nat)(cur:Array Value)(x0 x1 x2:Value)(w:World)(hi:i<n)(hn2:n≤1000)
  (hg:w.heap[g]? = some (.cells cur 39)) (hsz:cur.size=n*3) (hN:w.heap[N]? = some (.cells #[x0,x1,x2] 39)) (h1:∀u ∈ cur.toList,u.oneCell'=true) (h1x:∀u ∈ [x0,x1,x2],u.oneCell'=true) :
  Calls Tryz.prog 34 #[.slice (some ⟨g,0,none⟩) n n,.int .i64 i,.slice (some ⟨N,0,none⟩) 1 1] w fun r w'=>∃G Z,n+1≤G∧G≤maxLen∧i*3+Z.length=G*3∧r=.returned (.slice (some ⟨w.heap.size,0,none⟩) (n+1) G)∧w'.heap[w.heap.size]? = some (.cells (grL (inL (cur.toList.take (i*3) ++ Z) i [x0,x1,x2]) cur.toList i).toArray 39)∧w.grownBy w' none:=by
 have hz2:¬((i:Int)=(n:Int)):=by omega
 have hw1:IntKind.i64.wrap ((i:Int)+1)=(i:Int)+1:=by rw [IntKind.wrap_i64];omega
 have hb1:(0:Int)≤(i:Int)+1:=by omega
 have hin:i≤n:=by omega
 have htn:((i:Int)+1).toNat=i+1:=by omega
 have hb3:(i:Int)≤(n:Int):=by omega
 have hb5:(i:Int)≤(n:Int)+1:=by omega
 have hb4:¬(n=i):=by omega
 have hz3:(n:Int)<(n:Int)+1:=by omega
 have hgw:g<w.heap.size:=(szH hg);have hNw:N<w.heap.size:=(szH hN);obtain⟨i0,hi0,hz0,hzs,hzb⟩:=info_parts Qdq;have hkk:(n:Int)+1 - (i:Int)=((n+1 - i:Nat):Int):=by omega
 have hik:i+(n+1 - i)=n+1:=by omega
 have hold:(Builtin.firstCells i0.size i (.slice (some ⟨g,0,none⟩) i n)).run Tryz.prog w.drew=.ok (cur.toList.take (i*3)).toArray w.drew:=by
  rw [hzs];exact run_firstCells_some w.drew 3 i ⟨g,0,none⟩ i n (cur.toList.take (i*3)) (by rw [List.length_take,Array.length_toList];omega) (fun j v hj=>by
   rw [Addr.add_lit];rw [List.getElem?_take] at hj
   split at hj
   ·simp only [World.cell?,World.drew];rw [hg]
    simpa using hj
   ·cases hj)
 have hrz:∀ty,(Builtin.append_ #[24,3] ty #[.slice (some ⟨g,0,none⟩) i n,.int .i64 ((n:Int)+1 - (i:Int))]).run Tryz.prog w =
   .ok (.slice (some ⟨w.heap.size,0,none⟩) (n+1) (grownCap w (n+1) n 39)) (w.drew.alloc (.cells ((cur.toList.take (i*3)).toArray ++ Builtin.zeroCells QhS.cells (n+1 - i) ++ Builtin.zeroCells QhS.cells (grownCap w (n+1) n 39 - (n+1))) 39)):=fun ty=>by
  have h:=Lib.run_append_grow_zeros w 24 3 ty 39 i0 QhS .i64 .i64 (by kernel_rfl) (by kernel_rfl) hi0 hz0 (some ⟨g,0,none⟩) i n (cur.toList.take (i*3)) hold (n+1 - i) (by omega) (by omega) (by omega) (by omega) (by rw [hzb];omega) (by rw [hzb,hik];exact growslice_fits (by omega) (by omega));rw [hik] at h;rw [hkk];exact h
 have hGn:n+1≤grownCap w (n+1) n 39:=grownCap_ge w _ _ _;have hGm:grownCap w (n+1) n 39≤maxLen:=grownCap_le_maxLen w _ _ _ (by unfold maxLen;omega);obtain⟨G,hG⟩:∃G,grownCap w (n+1) n 39=G:=⟨_,rfl⟩;rw [hG] at hrz hGn hGm;have hG63:G≤9223372036854775807:=by unfold maxLen at hGm;omega
 obtain⟨Z,hZ⟩:∃Z:List Value,(Builtin.zeroCells QhS.cells (n+1 - i) ++ Builtin.zeroCells QhS.cells (G - (n+1))).toList=Z:=⟨_,rfl⟩;have hZl:i*3+Z.length=G*3:=by
  rw [←hZ,Array.length_toList,Array.size_append,size_zeroCells,size_zeroCells,show QhS.cells.size=3 by rfl];omega
 have hR:(cur.toList.take (i*3)).toArray ++ Builtin.zeroCells QhS.cells (n+1 - i) ++ Builtin.zeroCells QhS.cells (G - (n+1))=(cur.toList.take (i*3) ++ Z).toArray:=by
  rw [←hZ];apply Array.toList_inj.1;simp
 rw [hR] at hrz;have hLl:(cur.toList.take (i*3) ++ Z).length=G*3:=by rw [List.length_append,List.length_take,Array.length_toList];omega
 obtain⟨L0,hL0⟩:∃L0,cur.toList.take (i*3) ++ Z=L0:=⟨_,rfl⟩;rw [hL0] at hrz hLl;obtain⟨W1,eW1⟩:∃W1,w.drew.alloc (.cells L0.toArray 39)=W1:=⟨_,rfl⟩;have hW1:W1.heap[w.heap.size]? = some (.cells L0.toArray 39):=by rw [←eW1];exact World.alloc_heap_new w.drew _
 have hold1:∀k,k<w.heap.size→W1.heap[k]? = w.heap[k]?:=fun k hk=>by
  rw [←eW1];exact ((Below.refl w.drew.heap.size w.drew).alloc (Nat.le_refl _) (.cells L0.toArray 39)).block k hk
 rw [eW1] at hrz;have hN1:=(hold1 N hNw).trans hN;have hcp2:∀ty dc,(Builtin.copy_ #[24,24] ty #[.slice (some ⟨w.heap.size,i*3,none⟩) (n+1 - i) dc,.slice (some ⟨N,0,none⟩) 1 1]).run Tryz.prog W1=.ok (goInt (Nat.min 1 (n+1 - i))) (W1.setRow w.heap.size (inL L0 i [x0,x1,x2]).toArray):=fun ty dc=>by
  have:=QdZ W1 24 24 ty 39 w.heap.size (i*3) (n+1 - i) dc ⟨N,0,none⟩ 1 1 L0.toArray 39 [x0,x1,x2] (by kernel_rfl) Qd3 hW1 (by simp only [List.length_cons,List.length_nil,Nat.min_def];split <;> omega)
   (fun j v hj=>by
    rw [Addr.add_lit];simp only [World.cell?];rw [hN1]
    simpa using hj)
   (by simp only [List.size_toArray,hLl,List.length_cons,List.length_nil];omega) h1x
  simpa [inL] using this
 obtain⟨W2,eW2⟩:∃W2,W1.setRow w.heap.size (inL L0 i [x0,x1,x2]).toArray=W2:=⟨_,rfl⟩;have hW2:W2.heap[w.heap.size]? = some (.cells (inL L0 i [x0,x1,x2]).toArray 39):=by rw [←eW2];exact setRow_heap W1 _ _ _ 39 (0,0) hW1
 have hold2:∀k,k<w.heap.size→W2.heap[k]? = w.heap[k]?:=fun k hk=>by
  rw [←eW2];exact (setRow_other W1 _ k _ (by omega)).trans (hold1 k hk)
 rw [eW2] at hcp2;have hg2:=(hold2 g hgw).trans hg;have hil:(inL L0 i [x0,x1,x2]).length=G*3:=Qem (by omega) hLl rfl;have hcp1:∀ty dc sc,(Builtin.copy_ #[24,24] ty #[.slice (some ⟨w.heap.size,(i+1)*3,none⟩) (n - i) dc,.slice (some ⟨g,i*3,none⟩) (n - i) sc]).run Tryz.prog W2.drew=.ok (goInt (Nat.min (n - i) (n - i))) (W2.drew.setRow w.heap.size (grL (inL L0 i [x0,x1,x2]) cur.toList i).toArray):=fun ty dc sc=>
  QdZ W2.drew 24 24 ty 39 w.heap.size ((i+1)*3) (n - i) dc ⟨g,i*3,none⟩ (n - i) sc (inL L0 i [x0,x1,x2]).toArray 39 (cur.toList.drop (i*3)) (by kernel_rfl) Qd3 hW2 (by simp only [List.length_drop,Array.length_toList,hsz];simp only [Nat.min_def];split <;> omega)
   (fun j v hj=>by
    rw [Addr.add_lit];rw [List.getElem?_drop] at hj;simp only [World.cell?,World.drew];rw [hg2]
    simpa using hj)
   (by simp only [List.length_drop,Array.length_toList,hsz,List.size_toArray,hil];omega) (fun u hu=>h1 u (List.mem_of_mem_drop hu))
 have hend:W2.drew.heap[w.heap.size]? = some (.cells (inL L0 i [x0,x1,x2]).toArray 39):=hW2;have hGi:¬(G=i):=by omega
 have hGim:¬(G=i+1):=by omega
 have HE:Hid (i*3+Z.length=G*3∧cur.toList.take (i*3) ++ Z=L0∧n+1≤G∧G≤maxLen):=⟨hZl,hL0,hGn,hGm⟩;have HG:Hid (w.grownBy W2 none):=by
  refine⟨?_,?_,?_,?_,fun k hk _=>hold2 k hk⟩ <;> rw [←eW2,← eW1]
  ·rfl
  ·rfl
  ·rfl
  ·simp
 clear hg hN hkk hik hold hG hR hZ hZl hL0 hGm hW1 hold1 hN1 hW2 hold2 hg2 hil hLl h1 h1x hsz hi0 hz0 hzs hzb eW1 eW2;have mixed:Tryz.prog.follows Departure.mixedOrders=true:=by kernel_rfl
 go_enter Tryz.func34,Tryz.ntmps34
 go_wp2_with (first
  | (at_builtin;refine Lib.wpList_append_run _ rfl _ _ _ _ rfl _ _ rfl rfl _ _ (hrz _) ?_)
  | (at_builtin;refine wpList_copy_runI _ rfl _ _ 24 24 rfl _ _ rfl rfl (hcp2 _ _) ?_))
 go_region_law_o (refine step_copy_runI rfl _ _ 24 24 rfl _ _ (by simp [Act.eval,Act.put]) (by simp [Act.eval,Act.put]) (hcp1 _ _ _) ?_)
 go_wp2
 go_ret;refine⟨G,Z,HE.out.2.2.1,HE.out.2.2.2,HE.out.1,rfl,?_,?_⟩
 ·rw [HE.out.2.1];exact setRow_heap W2.drew _ _ _ 39 (0,0) hend
 ·exact⟨HG.out.os,HG.out.tape,HG.out.output,by simpa using HG.out.size,fun k hk _=>(setRow_other W2.drew _ k _ (by omega)).trans (HG.out.block k hk (by simp))⟩
theorem Qoy (B n N:Nat)(v:Value)(xs:List Value)(x0 x1 x2:Value)(w:World)(hB:B≤w.heap.size)(hn2:n≤1000)
  (h:w.ownsRow B 39 3 v n xs) (hN:w.heap[N]? = some (.cells #[x0,x1,x2] 39)) (hNv:v.ownBlock≠some N) (h1x:∀u ∈ [x0,x1,x2],u.oneCell'=true) :
  Calls Tryz.prog 34 #[v,.int .i64 n,.slice (some ⟨N,0,none⟩) 1 1] w fun r w'=>∃v',r=.returned v'∧w'.ownsRow B 39 3 v' (n+1) (xs ++ [x0,x1,x2])∧w.grownBy w' v.ownBlock∧(v'.ownBlock=v.ownBlock∨v'.ownBlock=some w.heap.size):=by
 obtain⟨i0,hi0,hz0,hzs,hzb⟩:=info_parts Qdq;have hrun:∀ty,∃v' w',(Builtin.append_ #[24,24] ty #[v,.slice (some ⟨N,0,none⟩) 1 1]).run Tryz.prog w=.ok v' w'∧w'.ownsRow B 39 3 v' (n+1) (xs ++ [x0,x1,x2])∧w.grownBy w' v.ownBlock∧(v'.ownBlock=v.ownBlock∨v'.ownBlock=some w.heap.size):=fun ty=>by
  obtain⟨v',w',hr,g2,g3,_,g5⟩:=run_append_own_at (P:=Tryz.prog) w B 24 ty 39 i0 _ 3 48 (by kernel_rfl) hi0 hz0 hzs hzb (by rfl) (by decide) v n xs h ⟨N,0,none⟩ 1 1 [x0,x1,x2] rfl (fun j u hj=>by
   rw [Addr.add_lit];simp only [World.cell?];rw [hN]
   simpa using hj) h1x (by unfold maxLen;omega) (by omega) hB
  exact⟨v',w',hr,g2,g3,g5⟩
 obtain⟨v',w',hr,k1,k2,k3⟩:=hrun 24;have HK:Hid (w'.ownsRow B 39 3 v' (n+1) (xs ++ [x0,x1,x2])∧w.grownBy w' v.ownBlock∧(v'.ownBlock=v.ownBlock∨v'.ownBlock=some w.heap.size)):=⟨k1,k2,k3⟩;rcases QaL h with ⟨e1,e2⟩ | ⟨g,c,e1,hgB,e2⟩
 ·subst e1 e2;clear h hN h1x hrun k1 k2 k3
  go_enter Tryz.func34,Tryz.ntmps34
  go_wp2_with (at_builtin;refine Lib.wpList_append_run _ rfl _ _ _ _ rfl _ _ rfl rfl _ _ hr ?_);go_ret;exact⟨v',rfl,HK.out⟩
 ·have hnc:n≤c:=by
   rcases h.2 with ⟨rfl,_⟩ | ⟨g',c',cur,e,_,_,hh,_⟩
   ·cases e1
   ·rw [e1] at e;cases e;exact hh
  subst e1;clear h hN h1x hrun k1 k2 k3
  go_enter Tryz.func34,Tryz.ntmps34
  go_wp2_with (at_builtin;refine Lib.wpList_append_run _ rfl _ _ _ _ rfl _ _ rfl rfl _ _ hr ?_)
  all_goals (go_ret;exact⟨v',rfl,HK.out⟩)
theorem QlX (B n i N:Nat)(v:Value)(xs:List Value)(x0 x1 x2:Value)(w:World)(hB:B≤w.heap.size)(hn2:n≤1000)(hi:i≤n)
  (h:w.ownsRow B 39 3 v n xs) (h1:∀u ∈ xs,u.oneCell'=true) (hN:w.heap[N]? = some (.cells #[x0,x1,x2] 39)) (hNv:v.ownBlock≠some N) (h1x:∀u ∈ [x0,x1,x2],u.oneCell'=true) :
  Calls Tryz.prog 34 #[v,.int .i64 i,.slice (some ⟨N,0,none⟩) 1 1] w fun r w'=>∃v',r=.returned v'∧w'.ownsRow B 39 3 v' (n+1) (xs.take (i*3) ++ [x0,x1,x2] ++ xs.drop (i*3))∧w.grownBy w' v.ownBlock∧(v'.ownBlock=v.ownBlock∨v'.ownBlock=some w.heap.size):=by
 have hl:=h.1;rcases Nat.lt_or_ge i n with hin | hin
 ·rcases h.2 with ⟨_,e⟩ | ⟨g,c,cur,rfl,hgB,hg,hnc,hcm,hsz,htk⟩
  ·omega
  ·have hNg:N≠g:=fun e=>hNv (by rw [e];rfl)
   have hcl:cur.toList.length=c*3:=by rw [Array.length_toList];exact hsz
   rcases Nat.lt_or_ge c (n+1) with hc | hc
   ·have e:c=n:=by omega
    subst e;have hxs:cur.toList=xs:=by rw [←htk,List.take_of_length_le (by omega)]
    refine (Qng g c i N cur x0 x1 x2 w hin hn2 hg hsz hN (by rw [hxs];exact h1) h1x).mono ?_;rintro r w' ⟨G,Z,g1,g2,g3,rfl,g4,g5⟩;rw [hxs] at g4;refine⟨_,rfl,⟨?_,.inr ⟨w.heap.size,G,_,rfl,hB,g4,g1,g2,?_,?_⟩⟩,⟨g5.os,g5.tape,g5.output,g5.size,fun k hk _=>g5.block k hk (by simp)⟩,.inr rfl⟩
    ·simp only [List.length_append,List.length_take,List.length_drop,List.length_cons,List.length_nil,hl];omega
    ·rw [List.size_toArray];exact Qkg hin g1 (Qem (by omega) (by rw [List.length_append,List.length_take,hl];omega) rfl) hl
    ·rw [List.toList_toArray];exact Qp6 hin g1 hl g3 rfl
   ·refine (Qlq g n c i N cur x0 x1 x2 w hin hc (by unfold maxLen at hcm;omega) hNg hg hsz hN (by rw [htk];exact h1) h1x).mono ?_;rintro r w' ⟨rfl,g4,g5⟩;refine⟨_,rfl,⟨?_,.inr ⟨g,c,_,rfl,hgB,g4,hc,hcm,?_,?_⟩⟩,g5,.inl rfl⟩
    ·simp only [List.length_append,List.length_take,List.length_drop,List.length_cons,List.length_nil,hl];omega
    ·rw [List.size_toArray];exact Qem (by omega) (QfM hin hc hcl) rfl
    ·rw [List.toList_toArray,← htk];exact Qp5 hin hc hcl rfl
 ·have e:i=n:=by omega
  subst e;rw [List.take_of_length_le (by omega),List.drop_of_length_le (by omega),List.append_nil];exact Qoy B i N v xs x0 x1 x2 w hB hn2 h hN hNv h1x
end Go.Proofs.YtjfkfnjigofmpaaGreat

namespace Go.Proofs.YtjfkfnjigofmpaaGreat
open Go.RowKit Go.Shelf Go.Lib
end Go.Proofs.YtjfkfnjigofmpaaGreat

namespace Go.Proofs.YtjfkfnjigofmpaaGreat
open Go.RowKit Go.Shelf Go.Lib
theorem QlT {W:World}{B:Nat}{val:Nm→Value}{m:ImgD}(h:OI W B val m):∀u ∈ QaY m.snaps (fun j=>val (.sr j)),u.oneCell'=true:=
 QhR fun j hj=>Ql7 (h.row (.sr j) (Live.sr hj))
end Go.Proofs.YtjfkfnjigofmpaaGreat

namespace Go.Proofs
open Go.Shelf
def Tryz.lays106_ren:Go.Shelf.Ren:=⟨fun | 106=>73 | 213=>97 | 265=>107 | n=>n,fun | 9=>9 | 3=>3 | n=>n,fun | n=>n⟩
theorem Tryz.lays106:Go.Proofs.Lays.n106 Tryz.prog Tryz.lays106_ren:={
 mixed:=by kernel_rfl
 f106:=Tryz.func73.trans (congrArg some (by kernel_rfl))
 f213:=Tryz.func97.trans (congrArg some (by kernel_rfl))
 f265:=Tryz.func107.trans (congrArg some (by kernel_rfl))
 t3:=Tryz.underlying3
 a3:=Tryz.isAgg3
 z3:=Tryz.sizeOf3
 v3:=Tryz.zeroValue3
 t9:=Tryz.underlying9
 a9:=Tryz.isAgg9
 z9:=Tryz.sizeOf9
 v9:=Tryz.zeroValue9 }
open Go.RowKit in
theorem Tryz.strings_Compare (a b:ByteArray)(w:World) :
  Calls Tryz.prog 73 #[.string a,.string b] w fun e w'=>e=.returned (.int .i64 (Lib.compareBytes a.data.toList b.data.toList))∧w'=w:=Any.strings_Compare Tryz.lays106 a b w
end Go.Proofs

namespace Go.Proofs.YtjfkfnjigofmpaaGreat
open Go.RowKit Go.Shelf
theorem Qb1 (a nm:ByteArray)(g:Int)(ra:Option Addr)(rn rc:Nat)(w:World) :
  Calls Tryz.prog 72 #[.agg #[.string a,.int .i64 g,.slice ra rn rc],.string nm] w fun r w'=>r=.returned (.int .i64 (Lib.compareBytes a.data.toList nm.data.toList))∧Below w.heap.size w w':=by
 have b0:Below w.heap.size w (w.alloc (.cells #[.string a,.int .i64 g,.slice ra rn rc] 39)):=bA
 go_enter Tryz.func72,Tryz.ntmps72
 go_wp2_with (go_at_call 73;refine (Tryz.strings_Compare _ _ _).mono ?_;rintro e w' ⟨rfl,hw⟩;rw [hw];clear hw);go_ret;exact⟨rfl,b0⟩
theorem QkW (b off cap n k:Nat)(nm:ByteArray)(c:Nat→Int)(w:World)(h3:n≤3)(hlt:b<w.heap.size)(HC:Hid (∀j,j<n→∃ (a:ByteArray) (g:Int) (ra:Option Addr) (rn rc:Nat),w.cell? ⟨b,off+j*3,none⟩=some (.string a)∧w.cell? ⟨b,off+j*3+1,none⟩=some (.int .i64 g)∧w.cell? ⟨b,off+j*3+1+1,none⟩=some (.slice ra rn rc)∧Lib.compareBytes a.data.toList nm.data.toList=c j))
  (hk:k≤n) (HL:Hid (∀j,j<n→(c j<0↔j<k))) :
  Calls Tryz.prog 71 #[.slice (some ⟨b,off,none⟩) n cap,.string nm,.func (.func 72) #[] #[]] w fun r w'=>r=.returned (.tuple #[.int .i64 (k:Int),.bool (decide (k<n) && c k == 0)])∧Below w.heap.size w w':=by
 go_enter Tryz.func71,Tryz.ntmps71
 go_wp2_with fail
 go_loopw [9,10,11] (fun s9 s10 _ wr=>∃i j:Nat,s9=.int .i64 i∧s10=.int .i64 j∧i≤k∧k≤j∧j≤n∧Below w.heap.size w wr) (fun s9 s10 _ _=>(intOf s10).toNat - (intOf s9).toNat)
 case atStart=>exact⟨0,n,rfl,rfl,Nat.zero_le _,hk,Nat.le_refl _,Below.refl _ _⟩
 case round=>
  obtain⟨i,j,rfl,rfl,hi,hj,hjn,hbel⟩:=hrel
  by_cases hlt2:i<j
  ·have hcase:(i=0∧j=1)∨(i=0∧j=2)∨(i=0∧j=3)∨(i=1∧j=2)∨(i=1∧j=3)∨(i=2∧j=3):=by omega
   rcases hcase with ⟨rfl,rfl⟩ | ⟨rfl,rfl⟩ | ⟨rfl,rfl⟩ | ⟨rfl,rfl⟩ | ⟨rfl,rfl⟩ | ⟨rfl,rfl⟩
   ·obtain⟨a,g,ra,rn,rc,k0,k1,k2,hcc⟩:=HC.out 0 (by omega);have k0:=(hbel.cell (p:=⟨b,off+0*3,none⟩) hlt).trans k0;have k1:=(hbel.cell (p:=⟨b,off+0*3+1,none⟩) hlt).trans k1;have k2:=(hbel.cell (p:=⟨b,off+0*3+1+1,none⟩) hlt).trans k2;simp only [Nat.reduceMul,Nat.add_assoc,Nat.reduceAdd,Nat.add_zero] at k0 k1 k2;have hn0:((0:Nat):Int)<(n:Int):=by omega
    have hnn:(0:Int)<(n:Int):=by omega
    have hL:=HL.out 0 (by omega);have hcall:=fun W=>Qb1 a nm g ra rn rc W
    rw [hcc] at hcall;clear hcc
    generalize c 0=ch at hcall hL
    by_cases hs:ch<0
    ·have hs1:decide (ch<0)=true:=by simpa using hs
     have hk2:=hL.1 hs;clear hL;go_wp2_with (go_at_call 72;refine (hcall _).mono ?_;rintro e w1 ⟨rfl,b1⟩);go_roundw
     case rel=>exact⟨1,1,by go_num,by go_num,hk2,hj,hjn,Below.on hbel b1⟩
     case measure=>simp [intOf]
    ·have hs1:decide (ch<0)=false:=by simpa using hs
     have hk2:k≤0:=by have:=fun x=>hs (hL.2 x);omega
     clear hL;go_wp2_with (go_at_call 72;refine (hcall _).mono ?_;rintro e w1 ⟨rfl,b1⟩);go_roundw
     case rel=>exact⟨0,0,by go_num,by go_num,hi,hk2,by omega,Below.on hbel b1⟩
     case measure=>simp [intOf]
   ·obtain⟨a,g,ra,rn,rc,k0,k1,k2,hcc⟩:=HC.out 1 (by omega);have k0:=(hbel.cell (p:=⟨b,off+1*3,none⟩) hlt).trans k0;have k1:=(hbel.cell (p:=⟨b,off+1*3+1,none⟩) hlt).trans k1;have k2:=(hbel.cell (p:=⟨b,off+1*3+1+1,none⟩) hlt).trans k2;simp only [Nat.reduceMul,Nat.add_assoc,Nat.reduceAdd,Nat.add_zero] at k0 k1 k2;have hn1:((1:Nat):Int)<(n:Int):=by omega
    have hnn:(1:Int)<(n:Int):=by omega
    have hL:=HL.out 1 (by omega);have hcall:=fun W=>Qb1 a nm g ra rn rc W
    rw [hcc] at hcall;clear hcc
    generalize c 1=ch at hcall hL
    by_cases hs:ch<0
    ·have hs1:decide (ch<0)=true:=by simpa using hs
     have hk2:=hL.1 hs;clear hL;go_wp2_with (go_at_call 72;refine (hcall _).mono ?_;rintro e w1 ⟨rfl,b1⟩);go_roundw
     case rel=>exact⟨2,2,by go_num,by go_num,hk2,hj,hjn,Below.on hbel b1⟩
     case measure=>simp [intOf]
    ·have hs1:decide (ch<0)=false:=by simpa using hs
     have hk2:k≤1:=by have:=fun x=>hs (hL.2 x);omega
     clear hL;go_wp2_with (go_at_call 72;refine (hcall _).mono ?_;rintro e w1 ⟨rfl,b1⟩);go_roundw
     case rel=>exact⟨0,1,by go_num,by go_num,hi,hk2,by omega,Below.on hbel b1⟩
     case measure=>simp [intOf]
   ·obtain⟨a,g,ra,rn,rc,k0,k1,k2,hcc⟩:=HC.out 1 (by omega);have k0:=(hbel.cell (p:=⟨b,off+1*3,none⟩) hlt).trans k0;have k1:=(hbel.cell (p:=⟨b,off+1*3+1,none⟩) hlt).trans k1;have k2:=(hbel.cell (p:=⟨b,off+1*3+1+1,none⟩) hlt).trans k2;simp only [Nat.reduceMul,Nat.add_assoc,Nat.reduceAdd,Nat.add_zero] at k0 k1 k2;have hn1:((1:Nat):Int)<(n:Int):=by omega
    have hnn:(1:Int)<(n:Int):=by omega
    have hL:=HL.out 1 (by omega);have hcall:=fun W=>Qb1 a nm g ra rn rc W
    rw [hcc] at hcall;clear hcc
    generalize c 1=ch at hcall hL
    by_cases hs:ch<0
    ·have hs1:decide (ch<0)=true:=by simpa using hs
     have hk2:=hL.1 hs;clear hL;go_wp2_with (go_at_call 72;refine (hcall _).mono ?_;rintro e w1 ⟨rfl,b1⟩);go_roundw
     case rel=>exact⟨2,3,by go_num,by go_num,hk2,hj,hjn,Below.on hbel b1⟩
     case measure=>simp [intOf]
    ·have hs1:decide (ch<0)=false:=by simpa using hs
     have hk2:k≤1:=by have:=fun x=>hs (hL.2 x);omega
     clear hL;go_wp2_with (go_at_call 72;refine (hcall _).mono ?_;rintro e w1 ⟨rfl,b1⟩);go_roundw
     case rel=>exact⟨0,1,by go_num,by go_num,hi,hk2,by omega,Below.on hbel b1⟩
     case measure=>simp [intOf]
   ·obtain⟨a,g,ra,rn,rc,k0,k1,k2,hcc⟩:=HC.out 1 (by omega);have k0:=(hbel.cell (p:=⟨b,off+1*3,none⟩) hlt).trans k0;have k1:=(hbel.cell (p:=⟨b,off+1*3+1,none⟩) hlt).trans k1;have k2:=(hbel.cell (p:=⟨b,off+1*3+1+1,none⟩) hlt).trans k2;simp only [Nat.reduceMul,Nat.add_assoc,Nat.reduceAdd,Nat.add_zero] at k0 k1 k2;have hn1:((1:Nat):Int)<(n:Int):=by omega
    have hnn:(1:Int)<(n:Int):=by omega
    have hL:=HL.out 1 (by omega);have hcall:=fun W=>Qb1 a nm g ra rn rc W
    rw [hcc] at hcall;clear hcc
    generalize c 1=ch at hcall hL
    by_cases hs:ch<0
    ·have hs1:decide (ch<0)=true:=by simpa using hs
     have hk2:=hL.1 hs;clear hL;go_wp2_with (go_at_call 72;refine (hcall _).mono ?_;rintro e w1 ⟨rfl,b1⟩);go_roundw
     case rel=>exact⟨2,2,by go_num,by go_num,hk2,hj,hjn,Below.on hbel b1⟩
     case measure=>simp [intOf]
    ·have hs1:decide (ch<0)=false:=by simpa using hs
     have hk2:k≤1:=by have:=fun x=>hs (hL.2 x);omega
     clear hL;go_wp2_with (go_at_call 72;refine (hcall _).mono ?_;rintro e w1 ⟨rfl,b1⟩);go_roundw
     case rel=>exact⟨1,1,by go_num,by go_num,hi,hk2,by omega,Below.on hbel b1⟩
     case measure=>simp [intOf]
   ·obtain⟨a,g,ra,rn,rc,k0,k1,k2,hcc⟩:=HC.out 2 (by omega);have k0:=(hbel.cell (p:=⟨b,off+2*3,none⟩) hlt).trans k0;have k1:=(hbel.cell (p:=⟨b,off+2*3+1,none⟩) hlt).trans k1;have k2:=(hbel.cell (p:=⟨b,off+2*3+1+1,none⟩) hlt).trans k2;simp only [Nat.reduceMul,Nat.add_assoc,Nat.reduceAdd,Nat.add_zero] at k0 k1 k2;have hn2:((2:Nat):Int)<(n:Int):=by omega
    have hnn:(2:Int)<(n:Int):=by omega
    have hL:=HL.out 2 (by omega);have hcall:=fun W=>Qb1 a nm g ra rn rc W
    rw [hcc] at hcall;clear hcc
    generalize c 2=ch at hcall hL
    by_cases hs:ch<0
    ·have hs1:decide (ch<0)=true:=by simpa using hs
     have hk2:=hL.1 hs;clear hL;go_wp2_with (go_at_call 72;refine (hcall _).mono ?_;rintro e w1 ⟨rfl,b1⟩);go_roundw
     case rel=>exact⟨3,3,by go_num,by go_num,hk2,hj,hjn,Below.on hbel b1⟩
     case measure=>simp [intOf]
    ·have hs1:decide (ch<0)=false:=by simpa using hs
     have hk2:k≤2:=by have:=fun x=>hs (hL.2 x);omega
     clear hL;go_wp2_with (go_at_call 72;refine (hcall _).mono ?_;rintro e w1 ⟨rfl,b1⟩);go_roundw
     case rel=>exact⟨1,2,by go_num,by go_num,hi,hk2,by omega,Below.on hbel b1⟩
     case measure=>simp [intOf]
   ·obtain⟨a,g,ra,rn,rc,k0,k1,k2,hcc⟩:=HC.out 2 (by omega);have k0:=(hbel.cell (p:=⟨b,off+2*3,none⟩) hlt).trans k0;have k1:=(hbel.cell (p:=⟨b,off+2*3+1,none⟩) hlt).trans k1;have k2:=(hbel.cell (p:=⟨b,off+2*3+1+1,none⟩) hlt).trans k2;simp only [Nat.reduceMul,Nat.add_assoc,Nat.reduceAdd,Nat.add_zero] at k0 k1 k2;have hn2:((2:Nat):Int)<(n:Int):=by omega
    have hnn:(2:Int)<(n:Int):=by omega
    have hL:=HL.out 2 (by omega);have hcall:=fun W=>Qb1 a nm g ra rn rc W
    rw [hcc] at hcall;clear hcc
    generalize c 2=ch at hcall hL
    by_cases hs:ch<0
    ·have hs1:decide (ch<0)=true:=by simpa using hs
     have hk2:=hL.1 hs;clear hL;go_wp2_with (go_at_call 72;refine (hcall _).mono ?_;rintro e w1 ⟨rfl,b1⟩);go_roundw
     case rel=>exact⟨3,3,by go_num,by go_num,hk2,hj,hjn,Below.on hbel b1⟩
     case measure=>simp [intOf]
    ·have hs1:decide (ch<0)=false:=by simpa using hs
     have hk2:k≤2:=by have:=fun x=>hs (hL.2 x);omega
     clear hL;go_wp2_with (go_at_call 72;refine (hcall _).mono ?_;rintro e w1 ⟨rfl,b1⟩);go_roundw
     case rel=>exact⟨2,2,by go_num,by go_num,hi,hk2,by omega,Below.on hbel b1⟩
     case measure=>simp [intOf]
  ·have e1:i=k:=by omega
   subst e1
   by_cases hin:i<n
   ·obtain⟨a,g,ra,rn,rc,k0,k1,k2,hcc⟩:=HC.out i hin;have k0:=(hbel.cell (p:=⟨b,off+i*3,none⟩) hlt).trans k0;have k1:=(hbel.cell (p:=⟨b,off+i*3+1,none⟩) hlt).trans k1;have k2:=(hbel.cell (p:=⟨b,off+i*3+1+1,none⟩) hlt).trans k2;have hni:(i:Int)<(n:Int):=by omega
    have hd:decide ((i:Int)<(n:Int))=true:=by simpa using hni
    have hcall:=fun W=>Qb1 a nm g ra rn rc W
    rw [hcc] at hcall;clear hcc;have hdn:decide (i<n)=true:=by simpa using hin
    have HDn:Hid (decide (i<n)=true):=hdn;clear hdn hin;go_wp2_with (go_at_call 72;refine (hcall _).mono ?_;rintro e w1 ⟨rfl,b1⟩)
    go_ret2
    exact⟨by rw [HDn.out,Bool.true_and];rfl,Below.on hbel b1⟩
   ·have e2:i=n:=by omega
    subst e2;have hd:decide ((i:Int)<(i:Int))=false:=by simp
    have HDn:Hid (decide (i<i)=false):=by show decide (i<i)=false;simp
    clear hin;go_wp2_with fail
    go_ret2
    exact⟨by rw [HDn.out,Bool.false_and];rfl,hbel⟩

theorem Qjq:∀x y:List UInt8,Lib.compareBytes x y<0↔Op.bytesLess x y=true
 | [],[]=>by simp [Lib.compareBytes,Op.bytesLess]
 | [],_ :: _=>by simp [Lib.compareBytes,Op.bytesLess]
 | _ :: _,[]=>by simp [Lib.compareBytes,Op.bytesLess]
 | a :: x,b :: y=>by
  have ih:=Qjq x y;unfold Lib.compareBytes;simp only [Op.bytesLess,Bool.or_eq_true,Bool.and_eq_true,decide_eq_true_eq,beq_iff_eq]
  by_cases h:a<b
  ·simp [h]
  ·by_cases h2:b<a
   ·have hne:a≠b:=fun e=>by subst e;exact h h2
    simp [h,h2,hne]
   ·have e:a=b:=by
     rw [UInt8.lt_iff_toNat_lt] at h h2;exact UInt8.toNat_inj.1 (by omega)
    simp [h,h2,e,ih]
theorem QjC:∀x y:List UInt8,Lib.compareBytes x y=0↔x=y
 | [],[]=>by simp [Lib.compareBytes]
 | [],_ :: _=>by simp [Lib.compareBytes]
 | _ :: _,[]=>by simp [Lib.compareBytes]
 | a :: x,b :: y=>by
  have ih:=QjC x y;unfold Lib.compareBytes
  by_cases h:a<b
  ·have hne:a≠b:=fun e=>by subst e;rw [UInt8.lt_iff_toNat_lt] at h;omega
   simp [h,hne]
  ·by_cases h2:b<a
   ·have hne:a≠b:=fun e=>by subst e;exact h h2
    simp [h,h2,hne]
   ·have e:a=b:=by
     rw [UInt8.lt_iff_toNat_lt] at h h2;exact UInt8.toNat_inj.1 (by omega)
    simp [h,h2,e,ih]
def posS (S:List Qav) (nm:ByteArray):Nat:=(S.takeWhile (fun x=>Qb8 x.1 nm)).length
theorem QiV (S:List Qav)(nm:ByteArray):posS S nm≤S.length:=by
 unfold posS;have:=congrArg List.length (List.takeWhile_append_dropWhile (p:=fun x:Qav=>Qb8 x.1 nm) (l:=S));rw [List.length_append] at this;omega
theorem Qps {p:Qav→Bool} : ∀ {L:List Qav} {j:Nat} (hj:j<L.length),j<(L.takeWhile p).length→p L[j]=true
 | a :: L,0,_,h=>by
  rw [List.takeWhile_cons] at h
  split at h
  ·assumption
  ·simp at h
 | a :: L,j+1,hj,h=>by
  rw [List.takeWhile_cons] at h
  split at h
  ·exact Qps (L:=L) (by simpa using hj) (by simpa using h)
  ·simp at h
theorem Qpq {p:Qav→Bool} : ∀ {L:List Qav} (hj:(L.takeWhile p).length<L.length),p (L[(L.takeWhile p).length])=false
 | [],h=>by simp at h
 | a :: L,h=>by
  by_cases hp:p a=true
  ·have e:((a :: L).takeWhile p)=a :: L.takeWhile p:=by rw [List.takeWhile_cons,if_pos hp]
   have h2:(L.takeWhile p).length<L.length:=by rw [e] at h;simpa using h
   have:=Qpq (L:=L) h2;simp only [e,List.length_cons,List.getElem_cons_succ];exact this
  ·have e:((a :: L).takeWhile p)=[]:=by rw [List.takeWhile_cons,if_neg hp]
   simp only [e,List.length_nil,List.getElem_cons_zero]
   simpa using hp
theorem Qgf {S:List Qav}(h:QdU S)(nm:ByteArray){j:Nat}(hj:j<S.length):Qb8 S[j].1 nm=true↔j<posS S nm:=by
 constructor
 ·intro hl
  apply Decidable.byContradiction
  intro hn;have hp:posS S nm<S.length:=by omega
  have hf:Qb8 (S[posS S nm]).1 nm=false:=Qpq (p:=fun x=>Qb8 x.1 nm) hp;rcases Nat.lt_or_ge (posS S nm) j with h1 | h1
  ·have:=(List.pairwise_iff_getElem.1 h.2) (posS S nm) j hp hj h1;have:=Qdp this hl;exact absurd (hf.symm.trans this) (by decide)
  ·have e:posS S nm=j:=by omega
   simp only [e] at hf;rw [hl] at hf;cases hf
 ·intro h1;exact Qps (p:=fun x=>Qb8 x.1 nm) hj h1
theorem Qno {S:List Qav}(h:QdU S){nm:ByteArray}{k:Nat}(hk:Qbh S nm=some k):posS S nm=k:=by
 have hkl:=QfA hk;unfold Qbh at hk;have he:(S[k]).1.toList=nm.toList:=by
  have:=(List.findIdx?_eq_some_iff_getElem.1 hk).2.1
  simpa using this
 have h1:¬k<posS S nm:=fun hh=>by
  have:=(Qgf h nm hkl).2 hh;unfold Qb8 at this;rw [he,QnE] at this;cases this
 have h2:¬posS S nm<k:=fun hh=>by
  have hp:posS S nm<S.length:=by omega
  have:=(List.pairwise_iff_getElem.1 h.2) (posS S nm) k hp hkl hh;unfold Qb8 at this;rw [he] at this;have:=(Qgf h nm hp).1 this;omega
 omega
theorem QlM {S:List Qav}(h:QdU S)(nm:ByteArray):(Qbh S nm).isSome=(decide (posS S nm<S.length) && ((S.getD (posS S nm) default).1.toList == nm.toList)):=by
 cases hs:Qbh S nm with
 | some k=>
  have hp:=Qno h hs;have hkl:=QfA hs;unfold Qbh at hs;have he:(S[k]).1.toList=nm.toList:=by
   have:=(List.findIdx?_eq_some_iff_getElem.1 hs).2.1
   simpa using this
  rw [hp];simp [hkl,he]
 | none=>
  by_cases hl:posS S nm<S.length
  ·have:=Qdv hs S[posS S nm] (List.getElem_mem hl);simp [hl,this]
  ·simp [hl]
theorem Qhk (ao:Option Addr)(cap:Nat)(nm:ByteArray)(w:World) :
  Calls Tryz.prog 71 #[.slice ao 0 cap,.string nm,.func (.func 72) #[] #[]] w fun r w'=>r=.returned (.tuple #[.int .i64 (0:Int),.bool false])∧Below w.heap.size w w':=by
 go_enter Tryz.func71,Tryz.ntmps71
 go_wp2_with fail
 go_loopw [9,10,11] (fun s9 s10 _ wr=>s9=.int .i64 0∧s10=.int .i64 0∧wr=w) (fun _ _ _ _=>0)
 case atStart=>exact⟨rfl,rfl,rfl⟩
 case round=>
  obtain⟨rfl,rfl,hw⟩:=hrel;subst hw;go_wp2_with fail
  go_ret2
  exact⟨rfl,Below.refl _ _⟩
theorem QiA {w:World}{v:Value}{S:List Qav}(h:QbG w v S)(hN:QdU S)(h3:S.length≤3)(nm:ByteArray){k:Nat}(hk:posS S nm=k){t:Bool}(ht:(Qbh S nm).isSome=t) :
  Calls Tryz.prog 31 #[v,.string nm] w fun r w'=>r=.returned (.tuple #[.int .i64 (k:Int),.bool t])∧Below w.heap.size w w':=by
 have hb:Calls Tryz.prog 71 #[v,.string nm,.func (.func 72) #[] #[]] w fun r w'=>r=.returned (.tuple #[.int .i64 (k:Int),.bool t])∧Below w.heap.size w w':=by
  obtain⟨ao,cap,rfl,hm,hc,hS⟩:=h;rw [QlM hN] at ht
  by_cases e:S=[]
  ·subst e;have e1:k=0:=by rw [←hk];rfl
   have e2:t=false:=by rw [←ht];simp
   subst e1 e2;exact Qhk ao cap nm w
  ·obtain⟨b,off,rfl,hlt,hA⟩:=hS e;have hle:=QiV S nm;have hcz:∀j,(hj:j<S.length)→Lib.compareBytes (S.getD j default).1.data.toList nm.data.toList=Lib.compareBytes S[j].1.data.toList nm.data.toList:=fun j hj=>by simp [List.getD,hj]
   refine (QkW b off cap S.length k nm (fun j=>Lib.compareBytes (S.getD j default).1.data.toList nm.data.toList) w h3 hlt (fun j hj=>?_) (by rw [←hk];exact hle) (fun j hj=>?_)).mono ?_
   ·obtain⟨rv,a0,a1,a2,a3⟩:=hA j hj;obtain⟨ra,rc,rfl⟩:=a3.form;exact⟨_,_,ra,_,rc,a0,a1,a2,(hcz j hj).symm⟩
   ·rw [hcz j hj,Qjq,← ByteArray.toList_eq,← ByteArray.toList_eq,← hk];exact Qgf hN nm hj
   ·rintro r w' ⟨rfl,hbb⟩;refine⟨?_,hbb⟩;rw [←ht,hk]
    by_cases hkl:k<S.length
    ·have:((Lib.compareBytes (S.getD k default).1.data.toList nm.data.toList) == 0)=((S.getD k default).1.toList == nm.toList):=by
      rw [Bool.eq_iff_iff,beq_iff_eq,beq_iff_eq,QjC,ByteArray.toList_eq,ByteArray.toList_eq]
     rw [this]
    ·simp [hkl]
 obtain⟨ao,cap,rfl⟩:=h.form
 generalize S.length=n at hb
 clear h hN h3 hk ht
 go_enter Tryz.func31,Tryz.ntmps31
 go_wp2_with (go_at_call 71;refine hb.mono ?_;rintro e w1 ⟨rfl,b1⟩)
 go_ret2
 exact⟨rfl,b1⟩
end Go.Proofs.YtjfkfnjigofmpaaGreat
