/- Texts joined: NoC, SameI. -/
import Derived.Test.YtehleeibgkpjmagGreatRestImagesJ16
import Derived.Test.YtehleeibgkpjmagGreatRestImagesJ1
import Derived.Test.YtehleeibgkpjmagGreatRestImagesJ11
import Derived.Test.YtehleeibgkpjmagGreatRestImagesJ9
import Derived.Test.YtehleeibgkpjmagGreatRestImagesJ14
import Derived.Test.YtehleeibgkpjmagGreatRestImagesJ6
import Derived.Test.YtehleeibgkpjmagGreatRestImagesJ4
import Derived.Test.YtehleeibgkpjmagGreatRestImagesJ13
import Derived.Test.YtehleeibgkpjmagGreatRestImagesJ10
import Derived.Test.YtehleeibgkpjmagGreatRestImagesJ3
import Derived.Deep.RegionHeld3
set_option linter.unusedVariables false
set_option linter.unusedSimpArgs false
set_option maxHeartbeats 200000000
set_option maxRecDepth 20000
namespace Go.Proofs.YtehleeibgkpjmagGreat
open Go.RowKit Go.Shelf
theorem Qok (ra:Option Addr)(rc:Nat)(sa:Option Addr)(sc:Nat)(fa:Option Addr)(fc:Nat)(na:Option Addr)(nc:Nat)(m:ImgD)(nm:ByteArray)(w:World)(h:Img w (.agg (aI m ra rc sa sc fa fc na nc)) m)(E:Int)(hE:Qaq m=E)(hne:(E != 0)=true) :
  Calls Tryz.prog 12 #[.agg (aI m ra rc sa sc fa fc na nc),.string nm] w (AnsJ w imgZ E):=by
 have b0:Below w.heap.size w ((w.alloc (.cells (aI m ra rc sa sc fa fc na nc) 26)).alloc zI):=(bA).alloc (by simp) _;have m0:((w.alloc (.cells (aI m ra rc sa sc fa fc na nc) 26)).alloc zI).heap[w.heap.size]? = some (.cells (aI m ra rc sa sc fa fc na nc) 26):=Qac (zHn _ _) _;have m1:((w.alloc (.cells (aI m ra rc sa sc fa fc na nc) 26)).alloc zI).heap[w.heap.size+1]? = some zI:=by have:=World.alloc_heap_new (w.alloc (.cells (aI m ra rc sa sc fa fc na nc) 26)) zI;simpa using this
 have hsz:w.heap.size+1<((w.alloc (.cells (aI m ra rc sa sc fa fc na nc) 26)).alloc zI).heap.size:=by simp
 have I0:=h.below b0;obtain⟨c0,c1,c2,c3,c4⟩:=five m0;have hck:=Qba I0 hE;clear h hE I0
 go_enter Tryz.func12,Tryz.ntmps12
 go_wp2_with (go_at_call 4;refine hck.mono ?_;rintro e1 wA ⟨rfl,bA⟩;have n0:=Qab m0 bA (by omega);have n1:=Qab m1 bA hsz;obtain⟨d0,d1,d2,d3,d4⟩:=five n0;obtain⟨z0,z1,z2,z3,z4⟩:=five n1;have y0:=Qaa n1 0;have y1:=Qaa n1 1;have y2:=Qaa n1 2;have y3:=Qaa n1 3;have y4:=Qaa n1 4);refine bodyPost_ret (v:=.tuple #[.agg #[.int .i64 0,nl,nl,nl,nl],.int .i64 E]) (by simp [results,Tryz.results12,go_sem,z0,z1,z2,z3,z4]) rfl ⟨none,0,none,0,none,0,none,0,rfl,fun W' _=>QcR W',QaM (Below.on b0 bA) (Nat.le_succ _) _ _ _ _ _⟩
theorem QnN (ra:Option Addr)(rc:Nat)(sa:Option Addr)(sc:Nat)(fa:Option Addr)(fc:Nat)(na:Option Addr)(nc:Nat)(m:ImgD)(nm:ByteArray)(w:World)(h:Img w (.agg (aI m ra rc sa sc fa fc na nc)) m)(hE:Qaq m=0)(hNm:isNm nm=false) :
  Calls Tryz.prog 12 #[.agg (aI m ra rc sa sc fa fc na nc),.string nm] w (AnsJ w imgZ 4):=by
 have b0:Below w.heap.size w ((w.alloc (.cells (aI m ra rc sa sc fa fc na nc) 26)).alloc zI):=(bA).alloc (by simp) _;have m0:((w.alloc (.cells (aI m ra rc sa sc fa fc na nc) 26)).alloc zI).heap[w.heap.size]? = some (.cells (aI m ra rc sa sc fa fc na nc) 26):=Qac (zHn _ _) _;have m1:((w.alloc (.cells (aI m ra rc sa sc fa fc na nc) 26)).alloc zI).heap[w.heap.size+1]? = some zI:=by have:=World.alloc_heap_new (w.alloc (.cells (aI m ra rc sa sc fa fc na nc) 26)) zI;simpa using this
 have hsz:w.heap.size+1<((w.alloc (.cells (aI m ra rc sa sc fa fc na nc) 26)).alloc zI).heap.size:=by simp
 have I0:=h.below b0;obtain⟨c0,c1,c2,c3,c4⟩:=five m0;have hck:=Qba I0 hE;clear h hE I0
 go_enter Tryz.func12,Tryz.ntmps12
 go_wp2_with (first | (go_at_call 47;refine (Qa6 _ hNm).mono ?_;rintro e2 w' ⟨rfl,hw⟩;rw [hw];clear hw) | (go_at_call 4;refine hck.mono ?_;rintro e1 wA ⟨rfl,bA⟩;have n0:=Qab m0 bA (by omega);have n1:=Qab m1 bA hsz;obtain⟨d0,d1,d2,d3,d4⟩:=five n0;obtain⟨z0,z1,z2,z3,z4⟩:=five n1;have y0:=Qaa n1 0;have y1:=Qaa n1 1;have y2:=Qaa n1 2;have y3:=Qaa n1 3;have y4:=Qaa n1 4));refine bodyPost_ret (v:=.tuple #[.agg #[.int .i64 0,nl,nl,nl,nl],.int .i64 4]) (by simp [results,Tryz.results12,go_sem,z0,z1,z2,z3,z4]) rfl ⟨none,0,none,0,none,0,none,0,rfl,fun W' _=>QcR W',QaM (Below.on b0 bA) (Nat.le_succ _) _ _ _ _ _⟩
theorem Qlz (ra:Option Addr)(rc:Nat)(sa:Option Addr)(sc:Nat)(fa:Option Addr)(fc:Nat)(na:Option Addr)(nc:Nat)(m:ImgD)(nm:ByteArray)(w:World)(h:Img w (.agg (aI m ra rc sa sc fa fc na nc)) m)(hE:Qaq m=0)(hNm:isNm nm=true)(k:Nat)(hi:ixOf (Qbj m.snaps nm)=(k:Int)) :
  Calls Tryz.prog 12 #[.agg (aI m ra rc sa sc fa fc na nc),.string nm] w (AnsJ w imgZ 6):=by
 have b0:Below w.heap.size w ((w.alloc (.cells (aI m ra rc sa sc fa fc na nc) 26)).alloc zI):=(bA).alloc (by simp) _;have m0:((w.alloc (.cells (aI m ra rc sa sc fa fc na nc) 26)).alloc zI).heap[w.heap.size]? = some (.cells (aI m ra rc sa sc fa fc na nc) 26):=Qac (zHn _ _) _;have m1:((w.alloc (.cells (aI m ra rc sa sc fa fc na nc) 26)).alloc zI).heap[w.heap.size+1]? = some zI:=by have:=World.alloc_heap_new (w.alloc (.cells (aI m ra rc sa sc fa fc na nc) 26)) zI;simpa using this
 have hsz:w.heap.size+1<((w.alloc (.cells (aI m ra rc sa sc fa fc na nc) 26)).alloc zI).heap.size:=by simp
 have I0:=h.below b0;obtain⟨c0,c1,c2,c3,c4⟩:=five m0;have hck:=Qba I0 hE;have HSA:Hid (∀W,Below ((w.alloc (.cells (aI m ra rc sa sc fa fc na nc) 26)).alloc zI).heap.size ((w.alloc (.cells (aI m ra rc sa sc fa fc na nc) 26)).alloc zI) W→Calls Tryz.prog 48 #[.agg (aI m ra rc sa sc fa fc na nc),.string nm] W fun r w'=>r=.returned (.int .i64 (k:Int))∧Below W.heap.size W w'):=fun W hW=>QeU (I0.below hW) nm (by have:=(Qad (Qal hE)).1;omega) hi
 have hk0:decide ((0:Int)≤(k:Int))=true:=by simp
 clear h hE I0
 go_enter Tryz.func12,Tryz.ntmps12
 go_wp2_with (first | (go_at_call 48;refine (HSA.out _ bA).mono ?_;rintro e2 wB ⟨rfl,bB⟩;have bC:=Below.on bA bB;have k0:=Qab m0 bC (by omega);have k1:=Qab m1 bC hsz;obtain⟨g0,g1,g2,g3,g4⟩:=five k0;obtain⟨z0,z1,z2,z3,z4⟩:=five k1;have y0:=Qaa k1 0;have y1:=Qaa k1 1;have y2:=Qaa k1 2;have y3:=Qaa k1 3;have y4:=Qaa k1 4) | (go_at_call 47;refine (Qa6 _ hNm).mono ?_;rintro e2 w' ⟨rfl,hw⟩;rw [hw];clear hw) | (go_at_call 4;refine hck.mono ?_;rintro e1 wA ⟨rfl,bA⟩;have n0:=Qab m0 bA (by omega);obtain⟨d0,d1,d2,d3,d4⟩:=five n0));refine bodyPost_ret (v:=.tuple #[.agg #[.int .i64 0,nl,nl,nl,nl],.int .i64 6]) (by simp [results,Tryz.results12,go_sem,z0,z1,z2,z3,z4]) rfl ⟨none,0,none,0,none,0,none,0,rfl,fun W' _=>QcR W',QaM (Below.on b0 bC) (Nat.le_succ _) _ _ _ _ _⟩
theorem QmV (ra:Option Addr)(rc:Nat)(sa:Option Addr)(sc:Nat)(fa:Option Addr)(fc:Nat)(na:Option Addr)(nc:Nat)(m:ImgD)(nm:ByteArray)(w:World)(h:Img w (.agg (aI m ra rc sa sc fa fc na nc)) m)(hE:Qaq m=0)(hNm:isNm nm=true)(hi:ixOf (Qbj m.snaps nm) = -1)(h3:decide (3≤m.snaps.length)=true) :
  Calls Tryz.prog 12 #[.agg (aI m ra rc sa sc fa fc na nc),.string nm] w (AnsJ w imgZ 2):=by
 have b0:Below w.heap.size w ((w.alloc (.cells (aI m ra rc sa sc fa fc na nc) 26)).alloc zI):=(bA).alloc (by simp) _;have m0:((w.alloc (.cells (aI m ra rc sa sc fa fc na nc) 26)).alloc zI).heap[w.heap.size]? = some (.cells (aI m ra rc sa sc fa fc na nc) 26):=Qac (zHn _ _) _;have m1:((w.alloc (.cells (aI m ra rc sa sc fa fc na nc) 26)).alloc zI).heap[w.heap.size+1]? = some zI:=by have:=World.alloc_heap_new (w.alloc (.cells (aI m ra rc sa sc fa fc na nc) 26)) zI;simpa using this
 have hsz:w.heap.size+1<((w.alloc (.cells (aI m ra rc sa sc fa fc na nc) 26)).alloc zI).heap.size:=by simp
 have I0:=h.below b0;obtain⟨c0,c1,c2,c3,c4⟩:=five m0;have hck:=Qba I0 hE;have HSA:Hid (∀W,Below ((w.alloc (.cells (aI m ra rc sa sc fa fc na nc) 26)).alloc zI).heap.size ((w.alloc (.cells (aI m ra rc sa sc fa fc na nc) 26)).alloc zI) W→Calls Tryz.prog 48 #[.agg (aI m ra rc sa sc fa fc na nc),.string nm] W fun r w'=>r=.returned (.int .i64 (-1))∧Below W.heap.size W w'):=fun W hW=>QeU (I0.below hW) nm (by have:=(Qad (Qal hE)).1;omega) hi
 have h3i:decide ((3:Int)≤(m.snaps.length:Int))=true:=by simp at h3 ⊢;omega
 clear h hE I0
 go_enter Tryz.func12,Tryz.ntmps12
 go_wp2_with (first | (go_at_call 48;refine (HSA.out _ bA).mono ?_;rintro e2 wB ⟨rfl,bB⟩;have bC:=Below.on bA bB;have k0:=Qab m0 bC (by omega);have k1:=Qab m1 bC hsz;obtain⟨g0,g1,g2,g3,g4⟩:=five k0;obtain⟨z0,z1,z2,z3,z4⟩:=five k1;have y0:=Qaa k1 0;have y1:=Qaa k1 1;have y2:=Qaa k1 2;have y3:=Qaa k1 3;have y4:=Qaa k1 4) | (go_at_call 47;refine (Qa6 _ hNm).mono ?_;rintro e2 w' ⟨rfl,hw⟩;rw [hw];clear hw) | (go_at_call 4;refine hck.mono ?_;rintro e1 wA ⟨rfl,bA⟩;have n0:=Qab m0 bA (by omega);obtain⟨d0,d1,d2,d3,d4⟩:=five n0));refine bodyPost_ret (v:=.tuple #[.agg #[.int .i64 0,nl,nl,nl,nl],.int .i64 2]) (by simp [results,Tryz.results12,go_sem,z0,z1,z2,z3,z4]) rfl ⟨none,0,none,0,none,0,none,0,rfl,fun W' _=>QcR W',QaM (Below.on b0 bC) (Nat.le_succ _) _ _ _ _ _⟩
theorem QfV {W:World}{B:Nat}{a b c:Value}{t:TypeId}(h:W.heap[B]? = some (.cells #[a,b,c] t)):W.cell? ⟨B,0,none⟩=some a∧W.cell? ⟨B,1,none⟩=some b∧W.cell? ⟨B,2,none⟩=some c:=by
 refine⟨?_,?_,?_⟩ <;> simp [World.cell?,h]
theorem QcK {W:World}{D:Nat}{x0 x1 x2:Value}{T:TypeId}(h:W.heap[D]? = some (.cells #[x0,x1,x2] T))(a0 a1 a2:Value):(((W.setCell ⟨D,0,none⟩ a0).setCell ⟨D,1,none⟩ a1).setCell ⟨D,2,none⟩ a2).heap[D]? = some (.cells #[a0,a1,a2] T):=by
 have h1:=Qau h 0 a0;have h2:=Qau h1 1 a1;have h3:=Qau h2 2 a2;exact h3
theorem Qcl {W:World}{D q:Nat}(a0 a1 a2:Value)(hq:q≠D):(((W.setCell ⟨D,0,none⟩ a0).setCell ⟨D,1,none⟩ a1).setCell ⟨D,2,none⟩ a2).heap[q]? = W.heap[q]?:=
 (Below.heap_setCell _ ⟨D,2,none⟩ a2 q hq).trans ((Below.heap_setCell _ ⟨D,1,none⟩ a1 q hq).trans (Below.heap_setCell _ ⟨D,0,none⟩ a0 q hq))
theorem OwR.drewN {V X:World}{D:Nat}{p:ImgD}(h:OwR V X D p)(n:Nat):OwR V (X.drewN n) D p:=by
 obtain⟨⟨val,hX,hbox,hfar⟩,hge,hbel⟩:=h;exact⟨⟨val,hX.keep (fun _ _ _=>rfl),hbox,hfar⟩,hge,⟨hbel.os,hbel.tape,hbel.output,hbel.size,hbel.block⟩⟩
theorem Qka (m:ImgD)(s:Qav) : { m with snaps:=m.snaps ++ [s] } = insM m m.snaps.length s:=by
 unfold insM insN;rw [List.take_length,List.drop_length]
theorem QpJ (ra:Option Addr)(rc:Nat)(sa:Option Addr)(sc:Nat)(fa:Option Addr)(fc:Nat)(na:Option Addr)(nc:Nat)(m:ImgD)(nm:ByteArray)(w:World)(h:Img w (.agg (aI m ra rc sa sc fa fc na nc)) m)(hC:Qaq m=0)(hNm:isNm nm=true)(hi:ixOf (Qbj m.snaps nm) = -1)(h3:decide (3≤m.snaps.length)=false)(MR:ImgD)(HMR:Hid (insM m (posS m.snaps nm) (nm,m.guest,m.root)=MR))(HSh:Hid (Qao { MR with refs:=rfZ MR.slots } = 0)) :
    Calls Tryz.prog 12 #[.agg (aI m ra rc sa sc fa fc na nc),.string nm] w (AnsJ w (Qai MR) 0):=by
  have b0:Below w.heap.size w ((w.alloc (.cells (aI m ra rc sa sc fa fc na nc) 26)).alloc zI):=(bA).alloc (by simp) _;have m0:((w.alloc (.cells (aI m ra rc sa sc fa fc na nc) 26)).alloc zI).heap[w.heap.size]? = some (.cells (aI m ra rc sa sc fa fc na nc) 26):=Qac (zHn _ _) _;have m1:((w.alloc (.cells (aI m ra rc sa sc fa fc na nc) 26)).alloc zI).heap[w.heap.size+1]? = some zI:=by have:=World.alloc_heap_new (w.alloc (.cells (aI m ra rc sa sc fa fc na nc) 26)) zI;simpa using this
  have hsz:w.heap.size+1<((w.alloc (.cells (aI m ra rc sa sc fa fc na nc) 26)).alloc zI).heap.size:=by simp
  have I0:=h.below b0;have hs:=Qal hC;have hck:=Qba I0 hC;have HSA:Hid (∀W,Below ((w.alloc (.cells (aI m ra rc sa sc fa fc na nc) 26)).alloc zI).heap.size ((w.alloc (.cells (aI m ra rc sa sc fa fc na nc) 26)).alloc zI) W→Calls Tryz.prog 48 #[.agg (aI m ra rc sa sc fa fc na nc),.string nm] W fun r w'=>r=.returned (.int .i64 (-1))∧Below W.heap.size W w'):=fun W hW=>QeU (I0.below hW) nm (by have:=(Qad (Qal hC)).1;omega) hi
  have h3i:decide ((3:Int)≤(m.snaps.length:Int))=false:=by simp at h3 ⊢;omega
  have hn3:m.snaps.length<3:=by simpa using h3
  obtain⟨f1,f2,f3,_⟩:=Qcp hs (s:=(⟨#[]⟩,m.guest,m.root)) List.mem_cons_self;dsimp only at f1 f2 f3;have hr4:m.root.length≤1000:=by omega
  have HN:Hid (QdV m.snaps∧Qbj m.snaps nm=none):=⟨(Qb1 _).1 (Qad hs).2.2.2.1,by cases e:Qbj m.snaps nm with | none=>rfl | some x=>rw [e] at hi;simp [ixOf] at hi⟩;obtain⟨c0,c1,c2,c3,c4⟩:=five m0;clear h hC hi f1 f2 f3
  go_enter Tryz.func12,Tryz.ntmps12
  go_upto_region 10 with (first | (go_at_call 48;refine (HSA.out _ bA).mono ?_;rintro e2 wB ⟨rfl,bB⟩;have bC:=Below.on bA bB;have k0:=Qab m0 bC (by omega);have k1:=Qab m1 bC hsz;obtain⟨g0,g1,g2,g3,g4⟩:=five k0;skip) | (go_at_call 47;refine (Qa6 _ hNm).mono ?_;rintro e2 w' ⟨rfl,hw⟩;rw [hw];clear hw) | (go_at_call 4;refine hck.mono ?_;rintro e1 wA ⟨rfl,bA⟩;have n0:=Qab m0 bA (by omega);obtain⟨d0,d1,d2,d3,d4⟩:=five n0));clear c0 c1 c2 c3 c4 d0 d1 d2 d3 d4 g0 g1 g2 g3 g4 k0 k1 n0;obtain⟨w1,hw1⟩:∃X,X=wB:=⟨_,rfl⟩;have b1:Below ((w.alloc (.cells (aI m ra rc sa sc fa fc na nc) 26)).alloc zI).heap.size ((w.alloc (.cells (aI m ra rc sa sc fa fc na nc) 26)).alloc zI) w1:=by rw [hw1];exact bC
  rw [←hw1];clear hw1;have hz1:w.heap.size+1<w1.heap.size:=Nat.lt_of_lt_of_le hsz b1.size;have n0:=Qab m0 b1 (by omega);have n1:=Qab m1 b1 hsz;have bw:Below w.heap.size w w1:=Below.on b0 b1;have I1:=I0.below b1;obtain⟨f0,f1,f2,f3,f4⟩:=five n0;have HOw:=Qbn I1 hs
  go_cut [7] from 11 (fun s wx=>∃D,s=.pointer (some ⟨D,0,none⟩)∧Hid (OwR w1 wx D m))
  case first=>
    go_wp2_with (go_at_call 6;refine HOw.mono ?_;rintro e3 w3 ⟨val,rfl,hO,b3⟩;obtain⟨p0,q0,p1,q1,p2,q2,p3,q3,x0,x1,x2,x3⟩:=hO.four';unfold imgV;rw [x0,x1,x2,x3]);go_meet;have s3:=b3.size;exact⟨_,rfl,⟨⟨val,hO.alloc _,by rw [x0,x1,x2,x3];exact zHn _ _,hO.lt (Nat.le_refl _)⟩,s3,b3.alloc s3 _⟩⟩
  case rest=>
  obtain⟨D,rfl,HD1⟩:=hcut;obtain⟨wa,hwa⟩:∃X,X=wc:=⟨_,rfl⟩;subst hwa;clear HOw f0 f1 f2 f3 f4;clear HSA;go_upto_region 11 with fail
  go_cut [] from 11 (fun wx=>Hid (OwR w1 wx D { m with snaps:=m.snaps ++ [(nm,m.guest,m.root)] }))
  case first=>
    obtain⟨val,hX,hbox,hfar⟩:=HD1.out.ex;have hbel:=HD1.out.bel;have hDge:=HD1.out.ge;obtain⟨p0,q0,p1,q1,p2,q2,p3,q3,x0,x1,x2,x3⟩:=hX.four';have hbx:=hbox;rw [x0,x1,x2,x3] at hbx;have hDl:=(szH hbx);have hs1:=hbel.size;obtain⟨d0,d1,d2,d3,d4⟩:=five hbx;have HX:Hid (OX wa w1.heap.size val m∧Below w1.heap.size w1 wa∧(∀a,Qaj m a→(val a).ownBlock≠some D)∧wa.heap[D]? = some (.cells (aI m p0 q0 p1 q1 p2 q2 p3 q3) 26)∧val .snaps=.slice p3 m.snaps.length q3):=⟨hX,hbel,hfar,hbx,x3⟩;have HBx:Hid (wa.heap[D]? = some (.cells #[.int .i64 m.guest,val .root,val .slots,val .refs,val .snaps] 26)):=hbox;have HL:Hid (wa.cell? ⟨D,4,none⟩=some (.slice p3 m.snaps.length q3)):=d4;have HS0:Hid ((fun X:World=>X.heap[w.heap.size]? = some (.cells (aI m ra rc sa sc fa fc na nc) 26)) wa):=Qab n0 hbel (by omega);have HR:Hid (Sl wa (.slice ra m.root.length rc) m.root):=(I1.four.1).below hbel;have HRw:Hid (wa.ownsRow w1.heap.size 39 3 (.slice p3 m.snaps.length q3) m.snaps.length (QaY m.snaps (fun j=>val (.sr j)))):=by have:=hX.row .snaps (Qaj.snaps m);rw [x3] at this;exact this
    clear hX hbox hfar hbel hbx x0 x1 x2 x3 d0 d1 d2 d3 d4;refine wp_region_held_drew (S:=(fun X:World=>X.heap[w.heap.size]? = some (.cells (aI m ra rc sa sc fa fc na nc) 26))) (by kernel_rfl) HS0.out (fun hHeld=>?_);refine tkH 0 (.pointer (some ⟨D,4,none⟩)) rfl (Or.inl ⟨by rfl,fun w' hSw=>by go_simp⟩) hHeld ?_;simp only [lays];refine tkH 2 (.string nm) rfl (Or.inl ⟨by rfl,fun w' hSw=>by go_simp⟩) hHeld ?_;simp only [lays];refine tkH 3 (.pointer (some ⟨w.heap.size,0,none⟩)) rfl (Or.inl ⟨by rfl,fun w' hSw=>by go_simp⟩) hHeld ?_;simp only [lays];refine tkH 4 (.int .i64 m.guest) rfl (Or.inl ⟨by rfl,fun w' hSw=>by obtain⟨j0,j1,j2,j3,j4⟩:=five hSw;go_simp⟩) hHeld ?_;simp only [lays];refine tkH 6 (.pointer (some ⟨w.heap.size,1,none⟩)) rfl (Or.inl ⟨by rfl,fun w' hSw=>by go_simp⟩) hHeld ?_;simp only [lays];refine tkH 7 (.slice ra m.root.length rc) rfl (Or.inl ⟨by rfl,fun w' hSw=>by obtain⟨j0,j1,j2,j3,j4⟩:=five hSw;go_simp⟩) hHeld ?_;simp only [lays];have HSc:=HS0;have HLc:=HL
    repeat' (refine rdS [1,5,8,9,10,11,12,13] (.c rfl ?_ (.c rfl ?_ (.c rfl ?_ (.c rfl ?_ (.c rfl ?_ (.c rfl ?_ (.c rfl ?_ (.c rfl ?_ .n)))))))) <;> (intro t hc K hK;first | exact absurd hc (by decide +kernel) | (clear hc hHeld;simp only [lays];rw [if_pos (by rfl)];first
      | (have _:Tg 1:=t;clear t
         have l4:=HLc.out;go_simp;clear l4;refine hK.out _ _ HSc.out (fun hHeld=>?_);clear hK K;try simp only [lays])
      | (have _:Tg 5:=t;clear t
         go_simp;obtain⟨X1,hX1⟩:∃X,X=(wa.alloc (.cells #[] 3)).drew:=⟨_,rfl⟩;have b5:Below wa.heap.size wa X1:=by rw [hX1];exact ((Below.refl _ _).alloc (Nat.le_refl _) _).drew
         have hz5:X1.heap.size=wa.heap.size+1:=by rw [hX1];show (wa.alloc (.cells #[] 3)).heap.size=_;simp
         have k5:X1.heap[wa.heap.size]? = some (.cells #[] 3):=by rw [hX1];exact zHn _ _
         have HSc:Hid ((fun X:World=>X.heap[w.heap.size]? = some (.cells (aI m ra rc sa sc fa fc na nc) 26)) X1):=Qab HS0.out b5 (by omega);rw [←hX1];clear hX1;have HLc:Hid (X1.cell? ⟨D,4,none⟩=some (.slice p3 m.snaps.length q3)):=(b5.cell (p:=⟨D,4,none⟩) hDl).trans HL.out;refine hK.out _ _ HSc.out (fun hHeld=>?_);clear hK K;try simp only [lays])
      | (have _:Tg 8:=t;clear t
         refine Qgl _ _ (by rfl) (g:=wa.heap.size) (B:=w1.heap.size) (by rfl) k5 hs1 (src:=.slice ra m.root.length rc) (by rfl) (HR.out.below b5) hr4 ?_;intro v1 w8 h1 h2 h3;obtain⟨va,vc,hy⟩:=QaH h1.out;subst hy;have h28:∀q,q<wa.heap.size→w8.heap[q]? = wa.heap[q]?:=fun q hq=>(h2.block q (by omega) (by intro e;injection e with e;omega)).trans (b5.block q hq)
         have hs8:wa.heap.size+1≤w8.heap.size:=by have:=h2.size;omega
         have b8:Below wa.heap.size wa w8:=Below.grown b5 h2 (by omega) (fun q e=>by injection e with e;omega);have HSc:Hid ((fun X:World=>X.heap[w.heap.size]? = some (.cells (aI m ra rc sa sc fa fc na nc) 26)) w8):=(h28 _ (by omega)).trans HS0.out;have HLc:Hid (w8.cell? ⟨D,4,none⟩=some (.slice p3 m.snaps.length q3)):=(b8.cell (p:=⟨D,4,none⟩) hDl).trans HL.out;have H8:Hid (w8.ownsRow w1.heap.size 3 1 (.slice va m.root.length vc) m.root.length (ints m.root)∧((Value.slice va m.root.length vc).ownBlock=some wa.heap.size∨(Value.slice va m.root.length vc).ownBlock=some X1.heap.size)):=⟨h1.out,h3.out⟩;clear h1 h2 h3;refine hK.out _ _ HSc.out (fun hHeld=>?_);clear hK K;try simp only [lays])
      | (have _:Tg 9:=t;clear t
         go_simp;refine hK.out _ _ HSc.out (fun hHeld=>?_);clear hK K;try simp only [lays])
      | (have _:Tg 10:=t;clear t
         go_simp;have HSc:Hid ((fun X:World=>X.heap[w.heap.size]? = some (.cells (aI m ra rc sa sc fa fc na nc) 26)) (w8.alloc (.cells #[.string nm,.int .i64 m.guest,.slice va m.root.length vc] 39))):=Qac HSc.out _;have HLc:Hid ((w8.alloc (.cells #[.string nm,.int .i64 m.guest,.slice va m.root.length vc] 39)).cell? ⟨D,4,none⟩=some (.slice p3 m.snaps.length q3)):=((b8.alloc (by omega) _).cell (p:=⟨D,4,none⟩) hDl).trans HL.out;refine hK.out _ _ HSc.out (fun hHeld=>?_);clear hK K;try simp only [lays])
      | (have _:Tg 11:=t;clear t
         refine Qk5 _ _ 24 39 _ Tryz.underlying24 Qdh (by rfl) (by rfl) (B:=w1.heap.size) (n:=m.snaps.length) (v:=.slice p3 m.snaps.length q3) (xs:=QaY m.snaps (fun j=>val (.sr j))) (c0:=.string nm) (c1:=.int .i64 m.guest) (c2:=.slice va m.root.length vc) (by rfl) (by rfl) (by rfl) (by rfl) (N:=w8.heap.size) (by rfl) rfl (QgM HRw.out (fun q e=>h28 q ((HRw.out.lt q e).2))) (by omega) (by omega) ?_;intro v9 w9 g1 g2 g3;obtain⟨ya,yc,hy⟩:=QaH g1.out;subst hy;have hD9:w9.heap[D]? = some (.cells (aI m p0 q0 p1 q1 p2 q2 p3 q3) 26):=(g2.block D (by simp;omega) (fun e=>HX.out.2.2.1 .snaps (Qaj.snaps m) (by rw [HX.out.2.2.2.2];exact e.symm))).trans (Qac ((h28 D hDl).trans HX.out.2.2.2.1) _);have HSc:Hid ((fun X:World=>X.heap[w.heap.size]? = some (.cells (aI m ra rc sa sc fa fc na nc) 26)) w9):=(g2.block w.heap.size (by simp;omega) (fun e=>by have:=(HRw.out.lt _ e.symm).1;omega)).trans HSc.out;have HF:Hid (OwR w1 (w9.setCell ⟨D,4,none⟩ (.slice ya (m.snaps.length+1) yc)) D { m with snaps:=m.snaps ++ [(nm,m.guest,m.root)] }):=by
           have hb8:Below w1.heap.size w1 (w8.alloc (.cells #[.string nm,.int .i64 m.guest,.slice va m.root.length vc] 39)):=(HX.out.2.1.trans (b8.mono hs1)).alloc (by omega) _;have hXa:OX (w8.alloc (.cells #[.string nm,.int .i64 m.guest,.slice va m.root.length vc] 39)) w1.heap.size val m:=(HX.out.1.keep (fun q _ hq=>h28 q hq)).alloc _;have hnew:∀q,(Value.slice va m.root.length vc).ownBlock=some q→wa.heap.size≤q:=fun q e=>by rcases H8.out.2 with x | x <;> (rw [x] at e;injection e with e;omega)
           refine QiT (es:=m.root) hXa hb8 (Qac ((h28 D hDl).trans HBx.out) _) hDge HX.out.2.2.1 (QgM H8.out.1 (fun q e=>Below.heap_alloc w8 _ q (H8.out.1.lt q e).2)) (fun b hb _ q e x=>by have:=hnew q e;have:=((HX.out.1.row b hb).lt q x).2;omega) (fun e=>by have:=hnew D e;omega) (by rw [HX.out.2.2.2.2];exact g2) g1.out ?_;rcases g3.out with x | x
           · exact .inl (by rw [x,HX.out.2.2.2.2])
           · exact .inr (fun q e=>by rw [x] at e;injection e with e;simp;omega)
         clear g1 g2 g3;refine hK.out _ _ HSc.out (fun hHeld=>?_);clear hK K;try simp only [lays])
      | (have _:Tg 12:=t;clear t
         go_simp;refine hK.out _ _ HSc.out (fun hHeld=>?_);clear hK K;try simp only [lays])
      | (have _:Tg 13:=t;clear t
         obtain⟨r0,r1,r2,r3,r4⟩:=five hD9;have rr0:=Qaa hD9 0;have rr1:=Qaa hD9 1;have rr2:=Qaa hD9 2;have rr3:=Qaa hD9 3;have rr4:=Qaa hD9 4;have HSf:Hid ((fun X:World=>X.heap[w.heap.size]? = some (.cells (aI m ra rc sa sc fa fc na nc) 26)) (w9.setCell ⟨D,4,none⟩ (.slice ya (m.snaps.length+1) yc))):=Qan HSc.out (by omega) _ _;clear hD9;go_simp;refine hK.out _ _ HSf.out (fun hHeld=>?_);clear hK K hHeld;try simp only [lays]
         refine wpAnyH_done (by kernel_rfl) ?_ _;go_wp2_with fail;go_meet;exact HF))))
  case rest=>
  have HD2:Hid (OwR w1 wc D (insM m m.snaps.length (nm,m.guest,m.root))):=by have:=hcut.out;rw [Qka] at this;exact this
  obtain⟨wb,hwb⟩:∃X,X=wc:=⟨_,rfl⟩;subst hwb;clear hcut HD1;have HP:Hid (posS m.snaps nm≤m.snaps.length∧m.snaps.length≤3):=⟨QiL _ _,by omega⟩;obtain⟨val0,hX0,hbox0,hfar0⟩:=HD2.out.ex;have hbx0:=hbox0;obtain⟨p0,q0,p1,q1,p2,q2,p3,q3,x0,x1,x2,x3⟩:=hX0.four';rw [x0,x1,x2,x3] at hbx0;have eL0:(insM m m.snaps.length (nm,m.guest,m.root)).snaps.length=m.snaps.length+1:=Qbd _ (Nat.le_refl _);rw [eL0] at hbx0;obtain⟨d0,d1,d2,d3,d4⟩:=five hbx0;clear hX0 hbox0 hfar0 hbx0 x0 x1 x2 x3 eL0;have hlen:IntKind.i64.wrap (((m.snaps.length+1:Nat):Int) - 1)=(m.snaps.length:Int):=by rw [IntKind.wrap_i64];omega
  have hlen2:IntKind.i64.wrap ((m.snaps.length:Int)+1 - 1)=(m.snaps.length:Int):=by rw [IntKind.wrap_i64];omega
  go_wp2_with fail;clear d0 d1 d2 d3 d4
  go_loopw [8] (fun i wr=>∃k:Nat,posS m.snaps nm≤k∧k≤m.snaps.length∧i=.int .i64 k∧Hid (OwR w1 wr D (insM m k (nm,m.guest,m.root)))) (fun i _=>(intOf i).toNat)
  case atStart=>exact⟨m.snaps.length,HP.out.1,Nat.le_refl _,rfl,HD2⟩
  case round=>
    obtain⟨k,hpk,hkn,rfl,HC⟩:=hrel;obtain⟨wq,hwq⟩:∃X,X=wr:=⟨_,rfl⟩;subst hwq;have hnn:m.snaps.length≤3:=HP.out.2;have eL:(insM m k (nm,m.guest,m.root)).snaps.length=m.snaps.length+1:=Qbd _ hkn;obtain⟨bb,hbb⟩:∃b,b=decide (posS m.snaps nm<k):=⟨_,rfl⟩;have HBB:Hid (bb=decide (posS m.snaps nm<k)):=hbb;clear hbb;go_upto_region 13 with fail
    go_cut [70] from 53 to 94 (fun s wx=>s=.bool bb∧Hid (OwR w1 wx D (insM m k (nm,m.guest,m.root))))
    case first=>
      rcases Nat.eq_zero_or_pos k with e0 | e0
      · subst e0
        have e1:bb=false:=by rw [HBB.out];simp
        subst e1;clear eL
        go_quiet (fail)
        go_wp2_with fail;go_meet;exact⟨rfl,HC.out.drewN _⟩
      · obtain⟨j,rfl⟩:∃j,k=j+1:=⟨k - 1,by omega⟩
        have hj:j<m.snaps.length:=by omega
        obtain⟨val,hX,hbox,hfar⟩:=HC.out.ex;have hbel:=HC.out.bel;have hDge:=HC.out.ge;obtain⟨p0,q0,p1,q1,p2,q2,p3,q3,x0,x1,x2,x3⟩:=hX.four';have hbx:=hbox;rw [x0,x1,x2,x3,eL] at hbx;have hrow:wq.ownsRow w1.heap.size 39 3 (val .snaps) (insM m (j+1) (nm,m.guest,m.root)).snaps.length (QaY (insM m (j+1) (nm,m.guest,m.root)).snaps (fun i=>val (.sr i))):=hX.row .snaps (Qaj.snaps _);rw [x3,eL] at hrow;obtain⟨_,_,e3,hp3⟩:=hX.forms .snaps (Qaj.snaps _);rw [x3] at e3;simp only [Value.slice.injEq] at e3;obtain⟨rfl,hmid,rfl⟩:=e3;clear hmid;obtain⟨g,rfl⟩:=hp3 (by show 0<(insM m (j+1) (nm,m.guest,m.root)).snaps.length;rw [eL];omega);obtain⟨⟨xn,xg,xr⟩,hxx⟩:∃s,m.snaps[j]=s:=⟨_,rfl⟩;have HXn:Hid (m.snaps[j]=(xn,xg,xr)):=hxx;have hg1:(insM m (j+1) (nm,m.guest,m.root)).snaps.getD j default=(xn,xg,xr):=by show (insN (j+1) m.snaps _).getD j default=_;rw [Qbv _ (by omega),if_neg (by omega)];unfold Qdr;rw [if_pos (by omega),← hxx];simp [List.getD,hj]
        have hg2:(insM m (j+1) (nm,m.guest,m.root)).snaps.getD (j+1) default=(nm,m.guest,m.root):=by show (insN (j+1) m.snaps _).getD (j+1) default=_;rw [Qbv _ (by omega),if_pos rfl]
        obtain⟨a0,a1,a2⟩:=Qa8 (S:=(insM m (j+1) (nm,m.guest,m.root)).snaps) (qv:=fun i=>val (.sr i)) (j:=j) (by rw [eL];omega);obtain⟨b0',b1',b2'⟩:=Qa8 (S:=(insM m (j+1) (nm,m.guest,m.root)).snaps) (qv:=fun i=>val (.sr i)) (j:=j+1) (by rw [eL];omega);rw [hg1] at a0 a1;rw [hg2] at b0' b1';have v0:wq.cell? ⟨g,j*3,none⟩=some (.string xn):=(hrow.cellAt (j*3+0) (by omega)).trans a0;have v1:wq.cell? ⟨g,j*3+1,none⟩=some (.int .i64 xg):=(hrow.cellAt (j*3+1) (by omega)).trans a1;have v2:wq.cell? ⟨g,j*3+1+1,none⟩=some (val (.sr j)):=(hrow.cellAt (j*3+2) (by omega)).trans a2;have u0:wq.cell? ⟨g,(j+1)*3,none⟩=some (.string nm):=(hrow.cellAt ((j+1)*3+0) (by omega)).trans b0';have u1:wq.cell? ⟨g,(j+1)*3+1,none⟩=some (.int .i64 m.guest):=(hrow.cellAt ((j+1)*3+1) (by omega)).trans b1';have u2:wq.cell? ⟨g,(j+1)*3+1+1,none⟩=some (val (.sr (j+1))):=(hrow.cellAt ((j+1)*3+2) (by omega)).trans b2';obtain⟨o0,o1,o2,o3,o4⟩:=five hbx;clear a0 a1 a2 b0' b1' b2' hg1 hg2 hxx eL;have hjw:IntKind.i64.wrap (((j+1:Nat):Int) - 1)=(j:Int):=by rw [IntKind.wrap_i64];omega
        have hjw2:IntKind.i64.wrap ((j:Int)+1 - 1)=(j:Int):=by rw [IntKind.wrap_i64];omega
        have i1:(j:Int)<((m.snaps.length+1:Nat):Int):=by omega
        have i2:((j+1:Nat):Int)<((m.snaps.length+1:Nat):Int):=by omega
        have i3:(j:Int)<(m.snaps.length:Int)+1:=by omega
        have i4:(j:Int)+1<(m.snaps.length:Int)+1:=by omega
        have i5:j<m.snaps.length+1:=by omega
        have hne:(xn.toList == nm.toList)=false:=by have:=QdJ HN.out.2 (m.snaps[j]) (List.getElem_mem hj);rw [HXn.out] at this;simpa using this
        have hiff:=QgA HN.out.1 nm hj;rw [HXn.out] at hiff;rcases Bool.eq_false_or_eq_true (Op.bytesLess xn.toList nm.toList) with hl | hl
        · have e1:bb=false:=by rw [HBB.out];have:=hiff.1 hl;simp;omega
          subst e1;clear hiff
          go_quiet (fail)
          go_wp2_with fail;go_meet;exact⟨rfl,HC.out.drewN _⟩
        · have e1:bb=true:=by
            rw [HBB.out];have:¬j<posS m.snaps nm:=fun x=>by have:=hiff.2 x;rw [show Qb9 xn nm=Op.bytesLess xn.toList nm.toList from rfl,hl] at this;cases this
            simp;omega
          subst e1;clear hiff
          go_quiet (fail)
          go_wp2_with fail;go_meet;exact⟨rfl,HC.out.drewN _⟩
    case rest=>
    obtain⟨rfl,HC2⟩:=hcut;obtain⟨wr,hwr⟩:∃X,X=wc:=⟨_,rfl⟩;subst hwr;clear HC
    cases bb with
    | true=>
      obtain⟨j,rfl⟩:∃j,k=j+1:=⟨k - 1,by have:=HBB.out;simp at this;omega⟩;have hj:j<m.snaps.length:=by omega
      have hpj:posS m.snaps nm≤j:=by have:=HBB.out;simp at this;omega
      clear HBB;have eL2:(insM m (j+1) (nm,m.guest,m.root)).snaps.length=m.snaps.length+1:=eL;clear eL;obtain⟨val,hX,hbox,hfar⟩:=HC2.out.ex;have hbel:=HC2.out.bel;have hDge:=HC2.out.ge;obtain⟨p0,q0,p1,q1,p2,q2,p3,q3,x0,x1,x2,x3⟩:=hX.four';have hbx:=hbox;rw [x0,x1,x2,x3,eL2] at hbx;have hrow:wr.ownsRow w1.heap.size 39 3 (val .snaps) (insM m (j+1) (nm,m.guest,m.root)).snaps.length (QaY (insM m (j+1) (nm,m.guest,m.root)).snaps (fun i=>val (.sr i))):=hX.row .snaps (Qaj.snaps _);rw [x3,eL2] at hrow;obtain⟨_,_,e3,hp3⟩:=hX.forms .snaps (Qaj.snaps _);rw [x3] at e3;simp only [Value.slice.injEq] at e3;obtain⟨rfl,hmid,rfl⟩:=e3;clear hmid;obtain⟨g,rfl⟩:=hp3 (by show 0<(insM m (j+1) (nm,m.guest,m.root)).snaps.length;rw [eL2];omega);obtain⟨⟨xn,xg,xr⟩,hxx⟩:∃s,m.snaps[j]=s:=⟨_,rfl⟩;have HXn:Hid (m.snaps[j]=(xn,xg,xr)):=hxx;have hg1:(insM m (j+1) (nm,m.guest,m.root)).snaps.getD j default=(xn,xg,xr):=by show (insN (j+1) m.snaps _).getD j default=_;rw [Qbv _ (by omega),if_neg (by omega)];unfold Qdr;rw [if_pos (by omega),← hxx];simp [List.getD,hj]
      have hg2:(insM m (j+1) (nm,m.guest,m.root)).snaps.getD (j+1) default=(nm,m.guest,m.root):=by show (insN (j+1) m.snaps _).getD (j+1) default=_;rw [Qbv _ (by omega),if_pos rfl]
      obtain⟨a0,a1,a2⟩:=Qa8 (S:=(insM m (j+1) (nm,m.guest,m.root)).snaps) (qv:=fun i=>val (.sr i)) (j:=j) (by rw [eL2];omega);obtain⟨b0',b1',b2'⟩:=Qa8 (S:=(insM m (j+1) (nm,m.guest,m.root)).snaps) (qv:=fun i=>val (.sr i)) (j:=j+1) (by rw [eL2];omega);rw [hg1] at a0 a1;rw [hg2] at b0' b1';have v0:wr.cell? ⟨g,j*3,none⟩=some (.string xn):=(hrow.cellAt (j*3+0) (by omega)).trans a0;have v1:wr.cell? ⟨g,j*3+1,none⟩=some (.int .i64 xg):=(hrow.cellAt (j*3+1) (by omega)).trans a1;have v2:wr.cell? ⟨g,j*3+1+1,none⟩=some (val (.sr j)):=(hrow.cellAt (j*3+2) (by omega)).trans a2;have u0:wr.cell? ⟨g,(j+1)*3,none⟩=some (.string nm):=(hrow.cellAt ((j+1)*3+0) (by omega)).trans b0';have u1:wr.cell? ⟨g,(j+1)*3+1,none⟩=some (.int .i64 m.guest):=(hrow.cellAt ((j+1)*3+1) (by omega)).trans b1';have u2:wr.cell? ⟨g,(j+1)*3+1+1,none⟩=some (val (.sr (j+1))):=(hrow.cellAt ((j+1)*3+2) (by omega)).trans b2';obtain⟨o0,o1,o2,o3,o4⟩:=five hbx;clear a0 a1 a2 b0' b1' b2' hg1 hg2 hxx;obtain⟨xa,xc,ex,_⟩:=hX.forms (.sr j) (Qaj.sr (by rw [eL2];omega));obtain⟨ya,yc,ey,_⟩:=hX.forms (.sr (j+1)) (Qaj.sr (by rw [eL2];omega));obtain⟨xl,hxl⟩:∃n,rowN (insM m (j+1) (nm,m.guest,m.root)) (.sr j)=n:=⟨_,rfl⟩;obtain⟨yl,hyl⟩:∃n,rowN (insM m (j+1) (nm,m.guest,m.root)) (.sr (j+1))=n:=⟨_,rfl⟩;rw [hxl] at ex;rw [hyl] at ey;rw [ex] at v2;rw [ey] at u2;clear hxl hyl;have hjw:IntKind.i64.wrap (((j+1:Nat):Int) - 1)=(j:Int):=by rw [IntKind.wrap_i64];omega
      have hjw2:IntKind.i64.wrap ((j:Int)+1 - 1)=(j:Int):=by rw [IntKind.wrap_i64];omega
      have hjw3:IntKind.i64.wrap (j:Int)=(j:Int):=by rw [IntKind.wrap_i64];omega
      have hjn:¬(j:Int)+1<0:=by omega
      have hjp:0≤(j:Int)+1:=by omega
      have hjt:((j:Int)+1).toNat=j+1:=by omega
      have i1:(j:Int)<((m.snaps.length+1:Nat):Int):=by omega
      have i2:((j+1:Nat):Int)<((m.snaps.length+1:Nat):Int):=by omega
      have i3:(j:Int)<(m.snaps.length:Int)+1:=by omega
      have i4:(j:Int)+1<(m.snaps.length:Int)+1:=by omega
      have i5:j<m.snaps.length+1:=by omega
      have hgl:g<wr.heap.size:=(Qc0 hrow).2.1;have hDl:D<wr.heap.size:=(szH hbx);have hgD:¬D=g:=fun e=>hfar .snaps (Qaj.snaps _) (by rw [x3,e];rfl)
      have hgD2:¬g=D:=fun e=>hgD e.symm
      have HSk:Hid (∀X,Below wr.heap.size wr X→(fun X:World=>X.heap[D]? = some (.cells #[.int .i64 m.guest,.slice p0 m.root.length q0,.slice p1 m.slots.length q1,.slice p2 m.refs.length q2,.slice (some ⟨g,0,none⟩) (m.snaps.length+1) q3] 26)∧(X.cell? ⟨g,j*3,none⟩=some (.string xn)∧X.cell? ⟨g,j*3+1,none⟩=some (.int .i64 xg)∧X.cell? ⟨g,j*3+1+1,none⟩=some (.slice xa xl xc))∧X.cell? ⟨g,(j+1)*3,none⟩=some (.string nm)∧X.cell? ⟨g,(j+1)*3+1,none⟩=some (.int .i64 m.guest)∧X.cell? ⟨g,(j+1)*3+1+1,none⟩=some (.slice ya yl yc)) X):=fun X bX=>⟨Qab hbx bX hDl,⟨(bX.cell (p:=⟨g,j*3,none⟩) hgl).trans v0,(bX.cell (p:=⟨g,j*3+1,none⟩) hgl).trans v1,(bX.cell (p:=⟨g,j*3+1+1,none⟩) hgl).trans v2⟩,(bX.cell (p:=⟨g,(j+1)*3,none⟩) hgl).trans u0,(bX.cell (p:=⟨g,(j+1)*3+1,none⟩) hgl).trans u1,(bX.cell (p:=⟨g,(j+1)*3+1+1,none⟩) hgl).trans u2⟩
      have HXX:Hid (OX wr w1.heap.size val (insM m (j+1) (nm,m.guest,m.root))∧Below w1.heap.size w1 wr∧wr.heap[D]? = some (.cells #[.int .i64 m.guest,val .root,val .slots,val .refs,val .snaps] 26)∧(∀a,Qaj (insM m (j+1) (nm,m.guest,m.root)) a→(val a).ownBlock≠some D)∧val .snaps=.slice (some ⟨g,0,none⟩) (m.snaps.length+1) q3∧val (.sr j)=.slice xa xl xc∧val (.sr (j+1))=.slice ya yl yc):=⟨hX,hbel,hbox,hfar,by rw [x3,eL2],ex,ey⟩;have hgz:∀X,Below wr.heap.size wr X→X.heap[g]? = wr.heap[g]?:=fun X bX=>bX.block g hgl
      obtain⟨cur,hcur⟩:∃cur,wr.heap[g]? = some (.cells cur 39):=by
        rcases hrow.2 with ⟨e,_⟩ | ⟨g',c',cur,e,_,hg,_⟩
        · cases e
        · simp only [Value.slice.injEq,Option.some.injEq,Addr.mk.injEq,and_true,true_and] at e
          obtain⟨rfl,rfl⟩:=e;exact⟨cur,hg⟩
      have HCu:Hid (wr.heap[g]? = some (.cells cur 39)):=hcur;clear hX hbel hbox hfar x0 x1 x2 x3 ex ey hrow hbx v0 v1 v2 u0 u1 u2 o0 o1 o2 o3 o4 hcur hgz eL2;go_upto_region 15 with fail
      go_cut [9,10] from 53 to 94 (fun a b wx=>∃bx by',a=.pointer (some ⟨bx,0,none⟩)∧b=.pointer (some ⟨by',0,none⟩)∧Hid (wx.heap[bx]? = some (.cells #[.string xn,.int .i64 xg,.slice xa xl xc] 39)∧wx.heap[by']? = some (.cells #[.string nm,.int .i64 m.guest,.slice ya yl yc] 39)∧Below wr.heap.size wr wx∧wr.heap.size≤bx∧wr.heap.size≤by'))
      case first=>
        refine wp_region_held_drew (S:=(fun X:World=>X.heap[D]? = some (.cells #[.int .i64 m.guest,.slice p0 m.root.length q0,.slice p1 m.slots.length q1,.slice p2 m.refs.length q2,.slice (some ⟨g,0,none⟩) (m.snaps.length+1) q3] 26)∧(X.cell? ⟨g,j*3,none⟩=some (.string xn)∧X.cell? ⟨g,j*3+1,none⟩=some (.int .i64 xg)∧X.cell? ⟨g,j*3+1+1,none⟩=some (.slice xa xl xc))∧X.cell? ⟨g,(j+1)*3,none⟩=some (.string nm)∧X.cell? ⟨g,(j+1)*3+1,none⟩=some (.int .i64 m.guest)∧X.cell? ⟨g,(j+1)*3+1+1,none⟩=some (.slice ya yl yc))) (by kernel_rfl) (HSk.out _ (Below.refl _ _).drew) (fun hHeld=>?_);refine tkH 0 (.pointer (some ⟨D,4,none⟩)) rfl (Or.inl ⟨by rfl,fun w' hSw=>by go_simp⟩) hHeld ?_;simp only [lays];refine tkH 1 (.slice (some ⟨g,0,none⟩) (m.snaps.length+1) q3) rfl (Or.inl ⟨by rfl,fun w' hSw=>by obtain⟨qa,⟨qb,qc,qd⟩,qe,qf,qg⟩:=hSw;obtain⟨j0,j1,j2,j3,j4⟩:=five qa;go_simp⟩) hHeld ?_;simp only [lays];refine tkH 2 (.int .i64 ((j+1:Nat):Int)) rfl (Or.inl ⟨by rfl,fun w' hSw=>by go_simp⟩) hHeld ?_;simp only [lays];refine tkH 3 (.int .i64 (j:Int)) rfl (Or.inl ⟨by rfl,fun w' hSw=>by go_simp⟩) hHeld ?_;simp only [lays];refine tkH 4 (.pointer (some ⟨g,j*3,none⟩)) rfl (Or.inl ⟨by rfl,fun w' hSw=>by go_simp⟩) hHeld ?_;simp only [lays];refine tkH 5 (.agg #[.string xn,.int .i64 xg,.slice xa xl xc]) rfl (Or.inl ⟨by rfl,fun w' hSw=>by obtain⟨qa,⟨qb,qc,qd⟩,qe,qf,qg⟩:=hSw;obtain⟨j0,j1,j2,j3,j4⟩:=five qa;go_simp⟩) hHeld ?_;simp only [lays];refine tkH 6 (.pointer (some ⟨D,4,none⟩)) rfl (Or.inl ⟨by rfl,fun w' hSw=>by go_simp⟩) hHeld ?_;simp only [lays];refine tkH 7 (.slice (some ⟨g,0,none⟩) (m.snaps.length+1) q3) rfl (Or.inl ⟨by rfl,fun w' hSw=>by obtain⟨qa,⟨qb,qc,qd⟩,qe,qf,qg⟩:=hSw;obtain⟨j0,j1,j2,j3,j4⟩:=five qa;go_simp⟩) hHeld ?_;simp only [lays];refine tkH 8 (.int .i64 ((j+1:Nat):Int)) rfl (Or.inl ⟨by rfl,fun w' hSw=>by go_simp⟩) hHeld ?_;simp only [lays];refine tkH 9 (.pointer (some ⟨g,(j+1)*3,none⟩)) rfl (Or.inl ⟨by rfl,fun w' hSw=>by go_simp⟩) hHeld ?_;simp only [lays];refine tkH 10 (.agg #[.string nm,.int .i64 m.guest,.slice ya yl yc]) rfl (Or.inl ⟨by rfl,fun w' hSw=>by obtain⟨qa,⟨qb,qc,qd⟩,qe,qf,qg⟩:=hSw;obtain⟨j0,j1,j2,j3,j4⟩:=five qa;go_simp⟩) hHeld ?_;simp only [lays];refine rdH2 11 12 rfl rfl (fun K hK=>?_) (fun K hK=>?_)
        · clear hHeld
          simp only [lays];rw [if_pos (by rfl)];go_simp;obtain⟨X1,hX1⟩:∃X,X=(wr.alloc (.cells #[.string ⟨#[]⟩,.int .i64 0,nl] 39)).drew:=⟨_,rfl⟩;have b1':Below wr.heap.size wr X1:=by rw [hX1];exact ((Below.refl _ _).alloc (Nat.le_refl _) _).drew
          have hz1':wr.heap.size+1≤X1.heap.size:=by rw [hX1];show _≤(wr.alloc (.cells #[.string ⟨#[]⟩,.int .i64 0,nl] 39)).heap.size;simp
          have k1':X1.heap[wr.heap.size]? = some (.cells #[.string ⟨#[]⟩,.int .i64 0,nl] 39):=by rw [hX1];exact zHn _ _
          rw [←hX1];clear hX1;refine hK.out _ _ (HSk.out X1 b1') (fun hHeld=>?_);clear hK K;try simp only [lays]
          refine rdH 12 rfl (fun K hK=>?_);clear hHeld;simp only [lays];rw [if_pos (by rfl)];go_simp;obtain⟨X2,hX2⟩:∃X,X=(X1.alloc (.cells #[.string ⟨#[]⟩,.int .i64 0,nl] 39)):=⟨_,rfl⟩;have b2':Below wr.heap.size wr X2:=by rw [hX2];exact b1'.alloc (by omega) _
          have k2':X2.heap[wr.heap.size]? = some (.cells #[.string ⟨#[]⟩,.int .i64 0,nl] 39):=by rw [hX2];exact Qac k1' _
          have k3':X2.heap[X1.heap.size]? = some (.cells #[.string ⟨#[]⟩,.int .i64 0,nl] 39):=by rw [hX2];exact zHn _ _
          have gx:wr.heap.size≤wr.heap.size:=by omega
          have gy:wr.heap.size≤X1.heap.size:=by omega
          have hxy:¬wr.heap.size=X1.heap.size:=by omega
          have hyx:¬X1.heap.size=wr.heap.size:=by omega
          rw [←hX2];clear hX2;refine hK.out _ _ (HSk.out X2 b2') (fun hHeld=>?_);clear hK K;try simp only [lays]
          refine rdH 13 rfl (fun K hK=>?_);clear hHeld;simp only [lays];rw [if_pos (by rfl)];obtain⟨t0,t1,t2⟩:=QfV k2';have y0:=Qaa k2' 0;have y1:=Qaa k2' 1;have y2:=Qaa k2' 2;go_simp;obtain⟨X3,hX3⟩:∃X,X=(((X2.setCell ⟨wr.heap.size,0,none⟩ (.string xn)).setCell ⟨wr.heap.size,1,none⟩ (.int .i64 xg)).setCell ⟨wr.heap.size,2,none⟩ (.slice xa xl xc)):=⟨_,rfl⟩;have b3':Below wr.heap.size wr X3:=by rw [hX3];exact ((b2'.setCell (p:=⟨wr.heap.size,0,none⟩) gx _).setCell (p:=⟨wr.heap.size,1,none⟩) gx _).setCell (p:=⟨wr.heap.size,2,none⟩) gx _
          have kx3:X3.heap[wr.heap.size]? = some (.cells #[.string xn,.int .i64 xg,.slice xa xl xc] 39):=by rw [hX3];exact QcK k2' _ _ _
          have ky3:X3.heap[X1.heap.size]? = some (.cells #[.string ⟨#[]⟩,.int .i64 0,nl] 39):=by rw [hX3];exact (Qcl _ _ _ hyx).trans k3'
          rw [←hX3];clear hX3 t0 t1 t2 y0 y1 y2 k1' k2' k3';refine hK.out _ _ (HSk.out X3 b3') (fun hHeld=>?_);clear hK K;try simp only [lays]
          refine rdH 14 rfl (fun K hK=>?_);clear hHeld;simp only [lays];rw [if_pos (by rfl)];obtain⟨t0,t1,t2⟩:=QfV ky3;have y0:=Qaa ky3 0;have y1:=Qaa ky3 1;have y2:=Qaa ky3 2;go_simp;obtain⟨X4,hX4⟩:∃X,X=(((X3.setCell ⟨X1.heap.size,0,none⟩ (.string nm)).setCell ⟨X1.heap.size,1,none⟩ (.int .i64 m.guest)).setCell ⟨X1.heap.size,2,none⟩ (.slice ya yl yc)):=⟨_,rfl⟩;have b4':Below wr.heap.size wr X4:=by rw [hX4];exact ((b3'.setCell (p:=⟨X1.heap.size,0,none⟩) gy _).setCell (p:=⟨X1.heap.size,1,none⟩) gy _).setCell (p:=⟨X1.heap.size,2,none⟩) gy _
          have kx4:X4.heap[wr.heap.size]? = some (.cells #[.string xn,.int .i64 xg,.slice xa xl xc] 39):=by rw [hX4];exact (Qcl _ _ _ hxy).trans kx3
          have ky4:X4.heap[X1.heap.size]? = some (.cells #[.string nm,.int .i64 m.guest,.slice ya yl yc] 39):=by rw [hX4];exact QcK ky3 _ _ _
          rw [←hX4];clear hX4 t0 t1 t2 y0 y1 y2;refine hK.out _ _ (HSk.out X4 b4') (fun hHeld=>?_);clear hK K hHeld;try simp only [lays]
          refine wpAnyH_done (by kernel_rfl) ?_ _;go_wp2_with fail;go_meet;exact⟨_,_,rfl,rfl,⟨kx4,ky4,b4',gx,gy⟩⟩
        · clear hHeld
          simp only [lays];rw [if_pos (by rfl)];go_simp;obtain⟨X1,hX1⟩:∃X,X=(wr.alloc (.cells #[.string ⟨#[]⟩,.int .i64 0,nl] 39)).drew:=⟨_,rfl⟩;have b1':Below wr.heap.size wr X1:=by rw [hX1];exact ((Below.refl _ _).alloc (Nat.le_refl _) _).drew
          have hz1':wr.heap.size+1≤X1.heap.size:=by rw [hX1];show _≤(wr.alloc (.cells #[.string ⟨#[]⟩,.int .i64 0,nl] 39)).heap.size;simp
          have k1':X1.heap[wr.heap.size]? = some (.cells #[.string ⟨#[]⟩,.int .i64 0,nl] 39):=by rw [hX1];exact zHn _ _
          rw [←hX1];clear hX1;refine hK.out _ _ (HSk.out X1 b1') (fun hHeld=>?_);clear hK K;try simp only [lays]
          refine rdH 11 rfl (fun K hK=>?_);clear hHeld;simp only [lays];rw [if_pos (by rfl)];go_simp;obtain⟨X2,hX2⟩:∃X,X=(X1.alloc (.cells #[.string ⟨#[]⟩,.int .i64 0,nl] 39)):=⟨_,rfl⟩;have b2':Below wr.heap.size wr X2:=by rw [hX2];exact b1'.alloc (by omega) _
          have k2':X2.heap[wr.heap.size]? = some (.cells #[.string ⟨#[]⟩,.int .i64 0,nl] 39):=by rw [hX2];exact Qac k1' _
          have k3':X2.heap[X1.heap.size]? = some (.cells #[.string ⟨#[]⟩,.int .i64 0,nl] 39):=by rw [hX2];exact zHn _ _
          have gx:wr.heap.size≤X1.heap.size:=by omega
          have gy:wr.heap.size≤wr.heap.size:=by omega
          have hxy:¬X1.heap.size=wr.heap.size:=by omega
          have hyx:¬wr.heap.size=X1.heap.size:=by omega
          rw [←hX2];clear hX2;refine hK.out _ _ (HSk.out X2 b2') (fun hHeld=>?_);clear hK K;try simp only [lays]
          refine rdH 13 rfl (fun K hK=>?_);clear hHeld;simp only [lays];rw [if_pos (by rfl)];obtain⟨t0,t1,t2⟩:=QfV k3';have y0:=Qaa k3' 0;have y1:=Qaa k3' 1;have y2:=Qaa k3' 2;go_simp;obtain⟨X3,hX3⟩:∃X,X=(((X2.setCell ⟨X1.heap.size,0,none⟩ (.string xn)).setCell ⟨X1.heap.size,1,none⟩ (.int .i64 xg)).setCell ⟨X1.heap.size,2,none⟩ (.slice xa xl xc)):=⟨_,rfl⟩;have b3':Below wr.heap.size wr X3:=by rw [hX3];exact ((b2'.setCell (p:=⟨X1.heap.size,0,none⟩) gx _).setCell (p:=⟨X1.heap.size,1,none⟩) gx _).setCell (p:=⟨X1.heap.size,2,none⟩) gx _
          have kx3:X3.heap[X1.heap.size]? = some (.cells #[.string xn,.int .i64 xg,.slice xa xl xc] 39):=by rw [hX3];exact QcK k3' _ _ _
          have ky3:X3.heap[wr.heap.size]? = some (.cells #[.string ⟨#[]⟩,.int .i64 0,nl] 39):=by rw [hX3];exact (Qcl _ _ _ hyx).trans k2'
          rw [←hX3];clear hX3 t0 t1 t2 y0 y1 y2 k1' k2' k3';refine hK.out _ _ (HSk.out X3 b3') (fun hHeld=>?_);clear hK K;try simp only [lays]
          refine rdH 14 rfl (fun K hK=>?_);clear hHeld;simp only [lays];rw [if_pos (by rfl)];obtain⟨t0,t1,t2⟩:=QfV ky3;have y0:=Qaa ky3 0;have y1:=Qaa ky3 1;have y2:=Qaa ky3 2;go_simp;obtain⟨X4,hX4⟩:∃X,X=(((X3.setCell ⟨wr.heap.size,0,none⟩ (.string nm)).setCell ⟨wr.heap.size,1,none⟩ (.int .i64 m.guest)).setCell ⟨wr.heap.size,2,none⟩ (.slice ya yl yc)):=⟨_,rfl⟩;have b4':Below wr.heap.size wr X4:=by rw [hX4];exact ((b3'.setCell (p:=⟨wr.heap.size,0,none⟩) gy _).setCell (p:=⟨wr.heap.size,1,none⟩) gy _).setCell (p:=⟨wr.heap.size,2,none⟩) gy _
          have kx4:X4.heap[X1.heap.size]? = some (.cells #[.string xn,.int .i64 xg,.slice xa xl xc] 39):=by rw [hX4];exact (Qcl _ _ _ hxy).trans kx3
          have ky4:X4.heap[wr.heap.size]? = some (.cells #[.string nm,.int .i64 m.guest,.slice ya yl yc] 39):=by rw [hX4];exact QcK ky3 _ _ _
          rw [←hX4];clear hX4 t0 t1 t2 y0 y1 y2;refine hK.out _ _ (HSk.out X4 b4') (fun hHeld=>?_);clear hK K hHeld;try simp only [lays]
          refine wpAnyH_done (by kernel_rfl) ?_ _;go_wp2_with fail;go_meet;exact⟨_,_,rfl,rfl,⟨kx4,ky4,b4',gx,gy⟩⟩
      case rest=>
      obtain⟨bx,by',rfl,rfl,HB5⟩:=hcut;obtain⟨ws,hws⟩:∃X,X=wc:=⟨_,rfl⟩;subst hws;obtain⟨kx,ky,bs,gx,gy⟩:=HB5.out;obtain⟨qa,⟨qb,qc,qd⟩,qe,qf,qg⟩:=HSk.out _ bs;obtain⟨o0,o1,o2,o3,o4⟩:=five qa;obtain⟨t0,t1,t2⟩:=QfV kx;obtain⟨s0,s1,s2⟩:=QfV ky;have hcs:=(bs.block g hgl).trans HCu.out;have z0:=Qaa hcs (j*3);have z1:=Qaa hcs (j*3+1);have z2:=Qaa hcs (j*3+1+1);have z3:=Qaa hcs ((j+1)*3);have z4:=Qaa hcs ((j+1)*3+1);have z5:=Qaa hcs ((j+1)*3+1+1);have nbg:¬bx=g:=by omega
      have nbg2:¬g=bx:=by omega
      have nyg:¬by'=g:=by omega
      have nyg2:¬g=by':=by omega
      have HBs:Hid (Below wr.heap.size wr ws):=bs;clear kx ky bs qa HB5 hcs;go_wp2_with fail;go_roundw
      case rel=>
        obtain⟨hX,hbel,hbox,hfar,hvs,hvx,hvy⟩:=HXX.out;have bs:=HBs.out;have key:=Qo6 (k:=j) (m:=m) (s:=(nm,m.guest,m.root)) hj (hX.below bs) (Below.on hbel bs) (Qab hbox bs hDl) hDge hfar hvs;have hgd:m.snaps.getD j default=(xn,xg,xr):=by rw [←HXn.out];simp [List.getD,hj]
        rw [hgd,hvx,hvy] at key;exact⟨j,hpj,by omega,by first | rfl | go_num,key⟩
      case measure=>simp [intOf]
    | false=>
      have hkp:k=posS m.snaps nm:=by have:=HBB.out;simp at this;omega
      have HD3:Hid (OwR w1 wr D MR):=by have:=HC2.out;rw [hkp,HMR.out] at this;exact this
      clear HC2 HBB eL hkp hpk hkn;obtain⟨val,hX,hbox,hfar⟩:=HD3.out.ex;have hbel:=HD3.out.bel;have hDge:=HD3.out.ge;obtain⟨p0,q0,p1,q1,p2,q2,p3,q3,x0,x1,x2,x3⟩:=hX.four';have hbx:=hbox;rw [x0,x1,x2,x3] at hbx;obtain⟨d0,d1,d2,d3,d4⟩:=five hbx;have z9:=Qab n1 hbel hz1;obtain⟨z0,z1,z2,z3,z4⟩:=five z9;have y0:=Qaa z9 0;have y1:=Qaa z9 1;have y2:=Qaa z9 2;have y3:=Qaa z9 3;have y4:=Qaa z9 4;have nD1:¬D=w.heap.size+1:=by omega
      have nD2:¬w.heap.size+1=D:=by omega
      have hc:=QcH hX hbel.size HSh.out;unfold imgV at hc;rw [x0,x1,x2,x3] at hc;have HCt:Hid (Calls Tryz.prog 46 #[.agg (aI MR p0 q0 p1 q1 p2 q2 p3 q3)] wr fun r w'=>∃val',r=.returned (imgV MR.guest val')∧OX w' w1.heap.size val' (Qai MR)∧Below w1.heap.size wr w'∧Qbl wr w' MR val∧SrcX wr MR val (nl) (Qai MR) val'):=hc;have hzl:w.heap.size+1<wr.heap.size:=Nat.lt_of_lt_of_le hz1 hbel.size;have hfz:∀a,Qaj MR a→(val a).ownBlock≠some (w.heap.size+1):=fun a ha x=>by have:=((hX.row a ha).lt _ x).1;omega
      clear hc;go_wp2_with (go_at_call 46;refine HCt.out.mono ?_;rintro e7 w7 ⟨val2,rfl,hO7,b7,k7,s7⟩;obtain⟨u0,v0,u1,v1,u2,v2,u3,v3,j0,j1,j2,j3⟩:=hO7.four';have k17:=(k7 (w.heap.size+1) hzl hfz).trans z9;obtain⟨o0,o1,o2,o3,o4⟩:=five k17;have oo0:=Qaa k17 0;have oo1:=Qaa k17 1;have oo2:=Qaa k17 2;have oo3:=Qaa k17 3;have oo4:=Qaa k17 4;unfold imgV;rw [j0,j1,j2,j3]);have hfr:∀a,Qaj (Qai MR) a→(val2 a).ownBlock≠some (w.heap.size+1):=fun a ha x=>by
        have:=((hO7.row a ha).lt _ x).1;omega
      have hI:=fun x0 x1 x2 x3 x4=>hO7.five hfr x0 x1 x2 x3 x4
      have eI:imgV (Qai MR).guest val2=.agg #[.int .i64 MR.guest,.slice u0 (Qai MR).root.length v0,.slice u1 (Qai MR).slots.length v1,.slice u2 (Qai MR).refs.length v2,.slice u3 (Qai MR).snaps.length v3]:=by unfold imgV;rw [j0,j1,j2,j3];rfl
      have hB8:Below w.heap.size w w7:=(Below.on bw hbel).trans (b7.mono (by omega));refine bodyPost_ret (v:=.tuple #[.agg #[.int .i64 MR.guest,.slice u0 (Qai MR).root.length v0,.slice u1 (Qai MR).slots.length v1,.slice u2 (Qai MR).refs.length v2,.slice u3 (Qai MR).snaps.length v3],.int .i64 0]) (by simp [results,Tryz.results12,go_sem,o0,o1,o2,o3,o4]) rfl ⟨u0,v0,u1,v1,u2,v2,u3,v3,rfl,fun W' hW=>(by have:=((hI _ _ _ _ _).keep (fun q hq _=>hW q (by omega))).img;rw [eI] at this;exact this),QaM hB8 (Nat.le_succ _) _ _ _ _ _⟩
theorem QpB {w:World}{v:Value}{m:ImgD}(h:Img w v m)(nm:ByteArray){M:ImgD}{E:Int}(hM:crM m nm=M)(hE:crE m nm=E) :
  Calls Tryz.prog 12 #[v,.string nm] w (AnsJ w M E):=by
 have h':=h;obtain⟨ra,rc,sa,sc,fa,fc,na,nc,rfl,_⟩:=h.parts;subst hM hE
 by_cases h0:crE m nm=0
 ·obtain⟨hC,hn,hx,h3,e,hs,_⟩:=Qpo h0;rw [h0,e];rw [Qex] at hs ⊢;exact QpJ ra rc sa sc fa fc na nc m nm w h' hC hn (by rw [hx];rfl) (by simp;omega) _ rfl (QmO hs)
 ·rw [QnX h0];unfold crE
  by_cases hC:Qaq m=0
  ·rw [if_neg (fun x=>x hC)]
   by_cases hn:isNm nm=false
   ·rw [if_pos hn];exact QnN ra rc sa sc fa fc na nc m nm w h' hC hn
   ·rw [if_neg hn];have hn':isNm nm=true:=by simpa using hn
    cases hx:Qbj m.snaps nm with
    | some k=>rw [if_pos (show (some k).isSome=true from rfl)];exact Qlz ra rc sa sc fa fc na nc m nm w h' hC hn' k (by rw [hx];rfl)
    | none=>
     rw [if_neg (by simp)]
     by_cases h3:m.snaps.length=3
     ·rw [if_pos h3];exact QmV ra rc sa sc fa fc na nc m nm w h' hC hn' (by rw [hx];rfl) (by simp;omega)
     ·exact absurd (by unfold crE;rw [if_neg (fun x=>x hC),if_neg hn,hx,if_neg (by simp),if_neg h3]) h0
  ·rw [if_pos hC];exact Qok ra rc sa sc fa fc na nc m nm w h' _ rfl (by simp [hC])

theorem Qnl (m:ImgD)(ra:Option Addr)(rc:Nat)(sa:Option Addr)(sc:Nat)(fa:Option Addr)(fc:Nat)(na:Option Addr)(nc:Nat)(rb:Option Addr)(rd:Nat)(sb:Option Addr)(sd:Nat)(fb:Option Addr)(fd:Nat)(nb:Option Addr)(nd:Nat)(w:World)
  (h1:Sl w (.slice ra m.root.length rc) m.root) (h2:QaQ w (.slice sa m.slots.length sc) m.slots) (h3:Sl w (.slice fa m.refs.length fc) m.refs) (h4:QbL w (.slice na m.snaps.length nc) m.snaps)
  (k1:Sl w (.slice rb m.root.length rd) m.root) (k2:QaQ w (.slice sb m.slots.length sd) m.slots) (k3:Sl w (.slice fb m.refs.length fd) m.refs) (k4:QbL w (.slice nb m.snaps.length nd) m.snaps) :
  Calls Tryz.prog 13 #[.agg (aI m ra rc sa sc fa fc na nc),.agg (aI m rb rd sb sd fb fd nb nd)] w fun r w'=>r=.returned (.bool true)∧Below w.heap.size w w':=by
 have b0:Below w.heap.size w ((w.alloc (.cells (aI m ra rc sa sc fa fc na nc) 26)).alloc (.cells (aI m rb rd sb sd fb fd nb nd) 26)):=(bA).alloc (by simp) _;have m0:((w.alloc (.cells (aI m ra rc sa sc fa fc na nc) 26)).alloc (.cells (aI m rb rd sb sd fb fd nb nd) 26)).heap[w.heap.size]? = some (.cells (aI m ra rc sa sc fa fc na nc) 26):=Qac (zHn _ _) _;have m1:((w.alloc (.cells (aI m ra rc sa sc fa fc na nc) 26)).alloc (.cells (aI m rb rd sb sd fb fd nb nd) 26)).heap[w.heap.size+1]? = some (.cells (aI m rb rd sb sd fb fd nb nd) 26):=by have:=World.alloc_heap_new (w.alloc (.cells (aI m ra rc sa sc fa fc na nc) 26)) (.cells (aI m rb rd sb sd fb fd nb nd) 26);simpa using this
 obtain⟨c0,c1,c2,c3,c4⟩:=five m0;obtain⟨d0,d1,d2,d3,d4⟩:=five m1;have HR:=QbS (h1.below b0) (k1.below b0);have HF:=fun W (hW:Below w.heap.size w W)=>QbS (h3.below hW) (k3.below hW)
 have HS:Hid (QaQ w (.slice sa m.slots.length sc) m.slots∧QaQ w (.slice sb m.slots.length sd) m.slots∧QbL w (.slice na m.snaps.length nc) m.snaps∧QbL w (.slice nb m.snaps.length nd) m.snaps):=⟨h2,k2,h4,k4⟩;have HL:Hid (m.slots.length≤9223372036854775807∧m.snaps.length≤9223372036854775807):=⟨h2.small,h4.small⟩;clear h1 h2 h3 h4 k1 k2 k3 k4
 go_enter Tryz.func13,Tryz.ntmps13
 go_wp2_with (first
  | (go_at_call 22;refine (HF _ bw1).mono ?_;rintro e w2 ⟨rfl,b2⟩;have m4:=Qab m2 b2 (szH m2);have m5:=Qab m3 b2 (szH m3);obtain⟨g0,g1,g2,g3,g4⟩:=five m4;obtain⟨i0,i1,i2,i3,i4⟩:=five m5;have bw2:=Below.on bw1 b2)
  | (go_at_call 22;refine HR.mono ?_;rintro e w1 ⟨rfl,b1⟩;have m2:=Qab m0 b1 (by simp <;> omega);have m3:=Qab m1 b1 (by simp <;> omega);obtain⟨e0,e1,e2,e3,e4⟩:=five m2;obtain⟨f0,f1,f2,f3,f4⟩:=five m3;have bw1:=Below.on b0 b1))
 have HB:Hid (w2.heap[w.heap.size]? = some (.cells (aI m ra rc sa sc fa fc na nc) 26)∧w2.heap[w.heap.size+1]? = some (.cells (aI m rb rd sb sd fb fd nb nd) 26)∧Below w.heap.size w w2):=⟨m4,m5,bw2⟩;clear c0 c1 c2 c3 c4 d0 d1 d2 d3 d4 e0 e1 e2 e3 e4 f0 f1 f2 f3 f4 g0 g1 g2 g3 g4 i0 i1 i2 i3 i4 m0 m1 m2 m3 m4 m5 b0 b1 b2 bw1 bw2 HR HF
 go_loopw [5] (fun i wr=>∃k:Nat,k≤m.slots.length∧i=.int .i64 k∧Hid (wr.heap[w.heap.size]? = some (.cells (aI m ra rc sa sc fa fc na nc) 26)∧wr.heap[w.heap.size+1]? = some (.cells (aI m rb rd sb sd fb fd nb nd) 26)∧Below w.heap.size w wr)) (fun i _=>m.slots.length - (intOf i).toNat)
 case atStart=>exact⟨0,Nat.zero_le _,rfl,HB⟩
 case round=>
  obtain⟨k,hk,rfl,HC⟩:=hrel;obtain⟨mA,mB,hb⟩:=HC.out;obtain⟨c0,c1,c2,c3,c4⟩:=five mA;obtain⟨d0,d1,d2,d3,d4⟩:=five mB;have hL:=HL.out.1
  by_cases hlk:k<m.slots.length
  ·have hki:(k:Int)<(m.slots.length:Int):=by omega
   have hL1:(k:Int)+1≤9223372036854775807:=by omega
   obtain⟨pb,po,pc,e,_,hpl,hps⟩:=HS.out.1.open (by omega);simp at e
   obtain⟨rfl,rfl⟩:=e;obtain⟨qb,qo,qc,e,_,hql,hqs⟩:=HS.out.2.1.open (by omega);simp at e
   obtain⟨rfl,rfl⟩:=e;obtain⟨s,hs⟩:∃s,m.slots[k]=s:=⟨_,rfl⟩;obtain⟨kk,dd,tt⟩:=s;obtain⟨tv,p0,p1,p2,ps⟩:=hps k hlk;obtain⟨uv,q0,q1,q2,qs⟩:=hqs k hlk;rw [hs] at p0 p1 ps q0 q1 qs;obtain⟨ta,tc,rfl⟩:=ps.form;obtain⟨ua,uc,rfl⟩:=qs.form;have p0:wr.cell? ⟨pb,po+k*3,none⟩=some (.int .i64 kk):=(hb.cell (p:=⟨pb,po+k*3,none⟩) hpl).trans p0;have p1:wr.cell? ⟨pb,po+k*3+1,none⟩=some (.string dd):=(hb.cell (p:=⟨pb,po+k*3+1,none⟩) hpl).trans p1;have p2:wr.cell? ⟨pb,po+k*3+1+1,none⟩=some (.slice ta tt.length tc):=(hb.cell (p:=⟨pb,po+k*3+1+1,none⟩) hpl).trans p2;have q0:wr.cell? ⟨qb,qo+k*3,none⟩=some (.int .i64 kk):=(hb.cell (p:=⟨qb,qo+k*3,none⟩) hql).trans q0;have q1:wr.cell? ⟨qb,qo+k*3+1,none⟩=some (.string dd):=(hb.cell (p:=⟨qb,qo+k*3+1,none⟩) hql).trans q1;have q2:wr.cell? ⟨qb,qo+k*3+1+1,none⟩=some (.slice ua tt.length uc):=(hb.cell (p:=⟨qb,qo+k*3+1+1,none⟩) hql).trans q2;have hcall:=QbS (w:=wr.drew) (ps.below (Qaw hb)) (qs.below (Qaw hb));have hpw:pb<wr.heap.size:=Nat.lt_of_lt_of_le hpl hb.size;have hqw:qb<wr.heap.size:=Nat.lt_of_lt_of_le hql hb.size;have HN:Hid (∀W,Below wr.heap.size wr W→W.heap[w.heap.size]? = some (.cells #[.int .i64 m.guest,.slice ra m.root.length rc,.slice (some ⟨pb,po,none⟩) m.slots.length sc,.slice fa m.refs.length fc,.slice na m.snaps.length nc] 26)∧W.heap[w.heap.size+1]? = some (.cells #[.int .i64 m.guest,.slice rb m.root.length rd,.slice (some ⟨qb,qo,none⟩) m.slots.length sd,.slice fb m.refs.length fd,.slice nb m.snaps.length nd] 26)∧Below w.heap.size w W):=fun W hW=>⟨Qab mA hW (szH mA),Qab mB hW (szH mB),Below.on hb hW⟩
   have HK:Hid (∀W,Below wr.heap.size wr W→W.cell? ⟨w.heap.size,0+1+1,none⟩=some (.slice (some ⟨pb,po,none⟩) m.slots.length sc)∧W.cell? ⟨w.heap.size+1,0+1+1,none⟩=some (.slice (some ⟨qb,qo,none⟩) m.slots.length sd)∧W.cell? ⟨pb,po+k*3,none⟩=some (.int .i64 kk)∧W.cell? ⟨pb,po+k*3+1,none⟩=some (.string dd)∧W.cell? ⟨pb,po+k*3+1+1,none⟩=some (.slice ta tt.length tc)∧W.cell? ⟨qb,qo+k*3,none⟩=some (.int .i64 kk)∧W.cell? ⟨qb,qo+k*3+1,none⟩=some (.string dd)∧W.cell? ⟨qb,qo+k*3+1+1,none⟩=some (.slice ua tt.length uc)):=fun W hW=>⟨(hW.cell (p:=⟨w.heap.size,0+1+1,none⟩) (szH mA)).trans c2,(hW.cell (p:=⟨w.heap.size+1,0+1+1,none⟩) (szH mB)).trans d2,(hW.cell (p:=⟨pb,po+k*3,none⟩) hpw).trans p0,(hW.cell (p:=⟨pb,po+k*3+1,none⟩) hpw).trans p1,(hW.cell (p:=⟨pb,po+k*3+1+1,none⟩) hpw).trans p2,(hW.cell (p:=⟨qb,qo+k*3,none⟩) hqw).trans q0,(hW.cell (p:=⟨qb,qo+k*3+1,none⟩) hqw).trans q1,(hW.cell (p:=⟨qb,qo+k*3+1+1,none⟩) hqw).trans q2⟩
   clear hs mA mB ps qs hps hqs;go_wp2_with fail
   go_region_held3 (fun W=>W.cell? ⟨w.heap.size,0+1+1,none⟩=some (.slice (some ⟨pb,po,none⟩) m.slots.length sc)∧W.cell? ⟨w.heap.size+1,0+1+1,none⟩=some (.slice (some ⟨qb,qo,none⟩) m.slots.length sd)∧W.cell? ⟨pb,po+k*3,none⟩=some (.int .i64 kk)∧W.cell? ⟨pb,po+k*3+1,none⟩=some (.string dd)∧W.cell? ⟨pb,po+k*3+1+1,none⟩=some (.slice ta tt.length tc)∧W.cell? ⟨qb,qo+k*3,none⟩=some (.int .i64 kk)∧W.cell? ⟨qb,qo+k*3+1,none⟩=some (.string dd)∧W.cell? ⟨qb,qo+k*3+1+1,none⟩=some (.slice ua tt.length uc)) (first | exact HK.out _ b3 | exact HK.out _ (Qaw (Below.refl _ _)))
    (first | (go_at_call 22;refine hcall.mono ?_;rintro e w3 ⟨rfl,b3⟩;have b3:=Qat b3))
   go_wp2_with fail;go_roundw
   case rel=>exact⟨k+1,by omega,by go_num,HN.out _ b3⟩
   case measure=>simp [intOf];omega
  ·have ek:k=m.slots.length:=by omega
   subst ek;obtain⟨x,hrn⟩:∃X,X=wr:=⟨_,rfl⟩;subst hrn;go_wp2_with fail;clear c0 c1 c2 c3 c4 d0 d1 d2 d3 d4 mA mB hb hL
   go_loopw [6] (fun i wr=>∃l:Nat,l≤m.snaps.length∧i=.int .i64 l∧Hid (wr.heap[w.heap.size]? = some (.cells (aI m ra rc sa sc fa fc na nc) 26)∧wr.heap[w.heap.size+1]? = some (.cells (aI m rb rd sb sd fb fd nb nd) 26)∧Below w.heap.size w wr)) (fun i _=>m.snaps.length - (intOf i).toNat)
   case atStart=>exact⟨0,Nat.zero_le _,rfl,HC⟩
   case round=>
    obtain⟨l,hl,rfl,HD⟩:=hrel;obtain⟨mA,mB,hb⟩:=HD.out;obtain⟨c0,c1,c2,c3,c4⟩:=five mA;obtain⟨d0,d1,d2,d3,d4⟩:=five mB;have hL:=HL.out.2
    by_cases hll:l<m.snaps.length
    ·have hki:(l:Int)<(m.snaps.length:Int):=by omega
     have hL1:(l:Int)+1≤9223372036854775807:=by omega
     obtain⟨pb,po,pc,e,_,hpl,hps⟩:=HS.out.2.2.1.open (by omega);simp at e
     obtain⟨rfl,rfl⟩:=e;obtain⟨qb,qo,qc,e,_,hql,hqs⟩:=HS.out.2.2.2.open (by omega);simp at e
     obtain⟨rfl,rfl⟩:=e;obtain⟨s,hs⟩:∃s,m.snaps[l]=s:=⟨_,rfl⟩;obtain⟨nm,sg,tt⟩:=s;obtain⟨tv,p0,p1,p2,ps⟩:=hps l hll;obtain⟨uv,q0,q1,q2,qs⟩:=hqs l hll;rw [hs] at p0 p1 ps q0 q1 qs;obtain⟨ta,tc,rfl⟩:=ps.form;obtain⟨ua,uc,rfl⟩:=qs.form;have p0:wr.cell? ⟨pb,po+l*3,none⟩=some (.string nm):=(hb.cell (p:=⟨pb,po+l*3,none⟩) hpl).trans p0;have p1:wr.cell? ⟨pb,po+l*3+1,none⟩=some (.int .i64 sg):=(hb.cell (p:=⟨pb,po+l*3+1,none⟩) hpl).trans p1;have p2:wr.cell? ⟨pb,po+l*3+1+1,none⟩=some (.slice ta tt.length tc):=(hb.cell (p:=⟨pb,po+l*3+1+1,none⟩) hpl).trans p2;have q0:wr.cell? ⟨qb,qo+l*3,none⟩=some (.string nm):=(hb.cell (p:=⟨qb,qo+l*3,none⟩) hql).trans q0;have q1:wr.cell? ⟨qb,qo+l*3+1,none⟩=some (.int .i64 sg):=(hb.cell (p:=⟨qb,qo+l*3+1,none⟩) hql).trans q1;have q2:wr.cell? ⟨qb,qo+l*3+1+1,none⟩=some (.slice ua tt.length uc):=(hb.cell (p:=⟨qb,qo+l*3+1+1,none⟩) hql).trans q2;have hcall:=QbS (w:=wr.drew) (ps.below (Qaw hb)) (qs.below (Qaw hb));have hpw:pb<wr.heap.size:=Nat.lt_of_lt_of_le hpl hb.size;have hqw:qb<wr.heap.size:=Nat.lt_of_lt_of_le hql hb.size;have HN:Hid (∀W,Below wr.heap.size wr W→W.heap[w.heap.size]? = some (.cells #[.int .i64 m.guest,.slice ra m.root.length rc,.slice sa m.slots.length sc,.slice fa m.refs.length fc,.slice (some ⟨pb,po,none⟩) m.snaps.length nc] 26)∧W.heap[w.heap.size+1]? = some (.cells #[.int .i64 m.guest,.slice rb m.root.length rd,.slice sb m.slots.length sd,.slice fb m.refs.length fd,.slice (some ⟨qb,qo,none⟩) m.snaps.length nd] 26)∧Below w.heap.size w W):=fun W hW=>⟨Qab mA hW (szH mA),Qab mB hW (szH mB),Below.on hb hW⟩
     have HK:Hid (∀W,Below wr.heap.size wr W→W.cell? ⟨w.heap.size,0+1+1+1+1,none⟩=some (.slice (some ⟨pb,po,none⟩) m.snaps.length nc)∧W.cell? ⟨w.heap.size+1,0+1+1+1+1,none⟩=some (.slice (some ⟨qb,qo,none⟩) m.snaps.length nd)∧W.cell? ⟨pb,po+l*3,none⟩=some (.string nm)∧W.cell? ⟨pb,po+l*3+1,none⟩=some (.int .i64 sg)∧W.cell? ⟨pb,po+l*3+1+1,none⟩=some (.slice ta tt.length tc)∧W.cell? ⟨qb,qo+l*3,none⟩=some (.string nm)∧W.cell? ⟨qb,qo+l*3+1,none⟩=some (.int .i64 sg)∧W.cell? ⟨qb,qo+l*3+1+1,none⟩=some (.slice ua tt.length uc)):=fun W hW=>⟨(hW.cell (p:=⟨w.heap.size,0+1+1+1+1,none⟩) (szH mA)).trans c4,(hW.cell (p:=⟨w.heap.size+1,0+1+1+1+1,none⟩) (szH mB)).trans d4,(hW.cell (p:=⟨pb,po+l*3,none⟩) hpw).trans p0,(hW.cell (p:=⟨pb,po+l*3+1,none⟩) hpw).trans p1,(hW.cell (p:=⟨pb,po+l*3+1+1,none⟩) hpw).trans p2,(hW.cell (p:=⟨qb,qo+l*3,none⟩) hqw).trans q0,(hW.cell (p:=⟨qb,qo+l*3+1,none⟩) hqw).trans q1,(hW.cell (p:=⟨qb,qo+l*3+1+1,none⟩) hqw).trans q2⟩
     clear hs mA mB ps qs hps hqs;go_wp2_with fail
     go_region_held3 (fun W=>W.cell? ⟨w.heap.size,0+1+1+1+1,none⟩=some (.slice (some ⟨pb,po,none⟩) m.snaps.length nc)∧W.cell? ⟨w.heap.size+1,0+1+1+1+1,none⟩=some (.slice (some ⟨qb,qo,none⟩) m.snaps.length nd)∧W.cell? ⟨pb,po+l*3,none⟩=some (.string nm)∧W.cell? ⟨pb,po+l*3+1,none⟩=some (.int .i64 sg)∧W.cell? ⟨pb,po+l*3+1+1,none⟩=some (.slice ta tt.length tc)∧W.cell? ⟨qb,qo+l*3,none⟩=some (.string nm)∧W.cell? ⟨qb,qo+l*3+1,none⟩=some (.int .i64 sg)∧W.cell? ⟨qb,qo+l*3+1+1,none⟩=some (.slice ua tt.length uc)) (first | exact HK.out _ b3 | exact HK.out _ (Qaw (Below.refl _ _)))
      (first | (go_at_call 22;refine hcall.mono ?_;rintro e w3 ⟨rfl,b3⟩;have b3:=Qat b3))
     go_wp2_with fail;go_roundw
     case rel=>exact⟨l+1,by omega,by go_num,HN.out _ b3⟩
     case measure=>simp [intOf];omega
    ·have el:l=m.snaps.length:=by omega
     subst el;go_wp2_with fail;go_ret;exact⟨rfl,hb⟩
theorem QdZ {w:World}{v u:Value}{m:ImgD}(h:Img w v m)(k:Img w u m):Calls Tryz.prog 13 #[v,u] w fun r w'=>r=.returned (.bool true)∧Below w.heap.size w w':=by
 obtain⟨ra,rc,sa,sc,fa,fc,na,nc,rfl,h1,h2,h3,h4⟩:=h.parts;obtain⟨rb,rd,sb,sd,fb,fd,nb,nd,rfl,k1,k2,k3,k4⟩:=k.parts;exact Qnl m ra rc sa sc fa fc na nc rb rd sb sd fb fd nb nd w h1 h2 h3 h4 k1 k2 k3 k4
end Go.Proofs.YtehleeibgkpjmagGreat
