/- Texts joined: WoF, WoG, NoT, RoB. -/
import Derived.Test.YtehleeibgkpjmagGreatRestImagesJ11
import Derived.Test.YtehleeibgkpjmagGreatRestImagesJ1
import Derived.Test.YtehleeibgkpjmagGreatRestImagesJ15
import Derived.Test.YtehleeibgkpjmagGreatRestImagesJ13
import Derived.Test.YtehleeibgkpjmagGreatRestImagesJ14
import Derived.Test.YtehleeibgkpjmagGreatRestImagesJ10
set_option linter.unusedVariables false
set_option linter.unusedSimpArgs false
set_option maxHeartbeats 200000000
set_option maxRecDepth 20000
namespace Go.Proofs.YtehleeibgkpjmagGreat
open Go.RowKit Go.Shelf
theorem QpM (rb ro rc:Nat)(sa:Option Addr)(sc:Nat)(fb fo fc:Nat)(na:Option Addr)(nc:Nat)(m:ImgD)(n:Nat)(page:ByteArray)(w:World)(h:Img w (.agg #[.int .i64 m.guest,.slice (some ⟨rb,ro,none⟩) m.root.length rc,.slice sa m.slots.length sc,.slice (some ⟨fb,fo,none⟩) m.refs.length fc,.slice na m.snaps.length nc]) m)(hrc:∀j,j<m.root.length→w.cell? ⟨rb,ro+j,none⟩=some (.int .i64 (m.root.getD j 0)))(hrl:rb<w.heap.size)(hfc:∀j,j<m.refs.length→w.cell? ⟨fb,fo+j,none⟩=some (.int .i64 (m.refs.getD j 0)))(hfl:fb<w.heap.size)(hC:Qaq m=0)(hn:(n:Int)<m.guest)(hp:page.size=4)(t:Nat)(ht:m.root.getD (n / 4) 0=(t:Int))(e:Int)(he:QaT m m.root n=e)(tn dn:Nat)(htn:tabN m (n / 4)=tn)(M1:ImgD)(hM1:wo1 m n=M1)(ht1:1≤t)(hrt1:m.refs.getD t 0=1)(hnot:0<e→e.toNat<m.slots.length∧m.refs.getD e.toNat 0≠1)(hLo:inPl m (n / 4)=true)(htt:t=tn)(HT:Hid (1≤M1.slots.length∧M1.slots.length≤40∧(if QaK M1.slots=40 then (0:Int) else QaK M1.slots)=0)) :
  Calls Tryz.prog 11 #[.agg #[.int .i64 m.guest,.slice (some ⟨rb,ro,none⟩) m.root.length rc,.slice sa m.slots.length sc,.slice (some ⟨fb,fo,none⟩) m.refs.length fc,.slice na m.snaps.length nc],.int .i64 (n:Int),.string page] w (AnsJ w imgZ 7):=by
 have b0:Below w.heap.size w ((w.alloc (.cells #[.int .i64 m.guest,.slice (some ⟨rb,ro,none⟩) m.root.length rc,.slice sa m.slots.length sc,.slice (some ⟨fb,fo,none⟩) m.refs.length fc,.slice na m.snaps.length nc] 26)).alloc zI):=(bA).alloc (by simp) _;have m0:((w.alloc (.cells #[.int .i64 m.guest,.slice (some ⟨rb,ro,none⟩) m.root.length rc,.slice sa m.slots.length sc,.slice (some ⟨fb,fo,none⟩) m.refs.length fc,.slice na m.snaps.length nc] 26)).alloc zI).heap[w.heap.size]? = some (.cells #[.int .i64 m.guest,.slice (some ⟨rb,ro,none⟩) m.root.length rc,.slice sa m.slots.length sc,.slice (some ⟨fb,fo,none⟩) m.refs.length fc,.slice na m.snaps.length nc] 26):=Qac (zHn _ _) _;have m1:((w.alloc (.cells #[.int .i64 m.guest,.slice (some ⟨rb,ro,none⟩) m.root.length rc,.slice sa m.slots.length sc,.slice (some ⟨fb,fo,none⟩) m.refs.length fc,.slice na m.snaps.length nc] 26)).alloc zI).heap[w.heap.size+1]? = some zI:=by have:=World.alloc_heap_new (w.alloc (.cells #[.int .i64 m.guest,.slice (some ⟨rb,ro,none⟩) m.root.length rc,.slice sa m.slots.length sc,.slice (some ⟨fb,fo,none⟩) m.refs.length fc,.slice na m.snaps.length nc] 26)) zI;simpa using this
 have hsz:w.heap.size+1<((w.alloc (.cells #[.int .i64 m.guest,.slice (some ⟨rb,ro,none⟩) m.root.length rc,.slice sa m.slots.length sc,.slice (some ⟨fb,fo,none⟩) m.refs.length fc,.slice na m.snaps.length nc] 26)).alloc zI).heap.size:=by simp
 have hs:=Qal hC;have hgt:=Qa4 hs;have hrt:=Qa3 hs;have hr:n / 4<m.root.length:=by omega
 have htl:t<m.slots.length:=by obtain⟨t',ht',h'⟩:=Qb3 hs hr;omega
 have hrf:m.refs.length=m.slots.length:=(Qad hs).2.2.1;have hlen:(Qak m (n / 4)).length=4:=Qa7 (Qa0 hs hr).1;have I0:=h.below b0;have hlk:=QbO I0 (n:Int) (QbF hC hn);have e4:((n / 4:Nat):Int)=(n:Int) / 4:=by omega
 have hq1:((n:Int) / 4).toNat=n / 4:=by omega
 have hq2:((n:Int) % 4).toNat=n % 4:=by omega
 have hri:(n:Int) / 4<(m.root.length:Int):=by omega
 have h4:n % 4<4:=by omega
 have h4i:(n:Int) % 4<4:=by omega
 have h16:n<16:=by omega
 have h0q:¬(n:Int) / 4<0:=by omega
 have h0r:¬(n:Int) % 4<0:=by omega
 have h0a:0≤(n:Int) / 4:=by omega
 have h0b:0≤(n:Int) % 4:=by omega
 have hpz:((page.size:Int) != 4)=false:=by rw [hp];rfl
 have HR0:Hid (((w.alloc (.cells #[.int .i64 m.guest,.slice (some ⟨rb,ro,none⟩) m.root.length rc,.slice sa m.slots.length sc,.slice (some ⟨fb,fo,none⟩) m.refs.length fc,.slice na m.snaps.length nc] 26)).alloc zI).cell? ⟨rb,ro+n / 4,none⟩=some (.int .i64 (t:Int))∧rb<((w.alloc (.cells #[.int .i64 m.guest,.slice (some ⟨rb,ro,none⟩) m.root.length rc,.slice sa m.slots.length sc,.slice (some ⟨fb,fo,none⟩) m.refs.length fc,.slice na m.snaps.length nc] 26)).alloc zI).heap.size):=⟨by rw [←ht];exact (b0.cell (p:=⟨rb,ro+n / 4,none⟩) hrl).trans (hrc (n / 4) hr),Nat.lt_of_lt_of_le hrl b0.size⟩;have HF0:Hid (∀j,j<m.refs.length→((w.alloc (.cells #[.int .i64 m.guest,.slice (some ⟨rb,ro,none⟩) m.root.length rc,.slice sa m.slots.length sc,.slice (some ⟨fb,fo,none⟩) m.refs.length fc,.slice na m.snaps.length nc] 26)).alloc zI).cell? ⟨fb,fo+j,none⟩=some (.int .i64 (m.refs.getD j 0))∧fb<((w.alloc (.cells #[.int .i64 m.guest,.slice (some ⟨rb,ro,none⟩) m.root.length rc,.slice sa m.slots.length sc,.slice (some ⟨fb,fo,none⟩) m.refs.length fc,.slice na m.snaps.length nc] 26)).alloc zI).heap.size):=fun j hj=>⟨(b0.cell (p:=⟨fb,fo+j,none⟩) hfl).trans (hfc j hj),Nat.lt_of_lt_of_le hfl b0.size⟩
 have HP:Hid (Qaq m=0∧Qao m=0∧m.root.getD (n / 4) 0=(t:Int)∧QaT m m.root n=e∧(n:Int)<m.guest∧(Qak m (n / 4)).length=4∧m.refs.length=m.slots.length∧page.size=4):=⟨hC,hs,ht,he,hn,hlen,hrf,hp⟩;clear h hrc hrl hfc hfl hC hs hgt hrt hn ht he hlen hrf hp;have HM1:Hid (wo1 m n=M1∧tabN m (n / 4)=tn):=⟨hM1,htn⟩;clear hM1 htn;have HLo:Hid (inPl m (n / 4)=true):=hLo;have HTT:Hid (t=tn):=htt;clear hLo htt
 go_enter Tryz.func11,Tryz.ntmps11
 obtain⟨c0,c1,c2,c3,c4⟩:=five m0;go_wp2_with (go_at_call 41;refine hlk.mono ?_;rintro e1 w1 ⟨rfl,b1⟩);clear c0 c1 c2 c3 c4;have hz1:w.heap.size+1<w1.heap.size:=Nat.lt_of_lt_of_le hsz b1.size;have n0:=Qab m0 b1 (by omega);have n1:=Qab m1 b1 hsz;have I1:=I0.below b1;have bw:Below w.heap.size w w1:=Below.on b0 b1;have cR:w1.cell? ⟨rb,ro+n / 4,none⟩=some (.int .i64 (t:Int)):=(b1.cell (p:=⟨rb,ro+n / 4,none⟩) HR0.out.2).trans HR0.out.1;have rl1:rb<w1.heap.size:=Nat.lt_of_lt_of_le HR0.out.2 b1.size;have HF:Hid (∀j,j<m.refs.length→w1.cell? ⟨fb,fo+j,none⟩=some (.int .i64 (m.refs.getD j 0))∧fb<w1.heap.size):=fun j hj=>⟨(b1.cell (p:=⟨fb,fo+j,none⟩) (HF0.out j hj).2).trans (HF0.out j hj).1,Nat.lt_of_lt_of_le (HF0.out j hj).2 b1.size⟩
 have HLk:Hid (∀W,Below w1.heap.size w1 W→Calls Tryz.prog 42 #[.agg #[.int .i64 m.guest,.slice (some ⟨rb,ro,none⟩) m.root.length rc,.slice sa m.slots.length sc,.slice (some ⟨fb,fo,none⟩) m.refs.length fc,.slice na m.snaps.length nc],.int .i64 (n:Int)] W fun r w'=>r=.returned (.int .i64 e)∧Below W.heap.size W w'):=fun W hW=>QcB (I1.below hW) (n:Int) (QbF HP.out.1 HP.out.2.2.2.2.1) (by rw [Int.toNat_natCast];exact HP.out.2.2.2.1)
 have HOw:Hid (∀W,Below w1.heap.size w1 W→Calls Tryz.prog 6 #[.agg #[.int .i64 m.guest,.slice (some ⟨rb,ro,none⟩) m.root.length rc,.slice sa m.slots.length sc,.slice (some ⟨fb,fo,none⟩) m.refs.length fc,.slice na m.snaps.length nc]] W fun r w'=>∃val,r=.returned (imgV m.guest val)∧OX w' W.heap.size val m∧Below W.heap.size W w'):=fun W hW=>Qbn (I1.below hW) HP.out.2.1
 have HTb:Hid (∀W,Below w1.heap.size w1 W→Calls Tryz.prog 45 #[.agg #[.int .i64 m.guest,.slice (some ⟨rb,ro,none⟩) m.root.length rc,.slice sa m.slots.length sc,.slice (some ⟨fb,fo,none⟩) m.refs.length fc,.slice na m.snaps.length nc],.int .i64 (t:Int)] W fun r w'=>∃g cap,r=.returned (.slice (some ⟨g,0,none⟩) 4 cap)∧w'.ownsRow W.heap.size 3 1 (.slice (some ⟨g,0,none⟩) 4 cap) 4 (ints (Qak m (n / 4)))∧W.heap.size≤g∧Below W.heap.size W w'):=fun W hW=>by
  have e:=Qee HP.out.2.2.1;refine (Qcc (I1.below hW) htl (by rw [e,HP.out.2.2.2.2.2.1];decide)).mono ?_;rintro r w' ⟨v,rfl,h1,h2,h3⟩;rw [e,HP.out.2.2.2.2.2.1] at h1;obtain⟨g,cap,rfl⟩:=Qa9 h1;exact⟨g,cap,rfl,h1,h2 g rfl,h3⟩
 clear b0 b1 m0 m1 I0 I1 HR0 HF0 hlk hsz;refine wp_region_held_drew (S:=(fun X:World=>X.heap[w.heap.size]? = some (.cells #[.int .i64 m.guest,.slice (some ⟨rb,ro,none⟩) m.root.length rc,.slice sa m.slots.length sc,.slice (some ⟨fb,fo,none⟩) m.refs.length fc,.slice na m.snaps.length nc] 26)∧X.cell? ⟨rb,ro+n / 4,none⟩=some (.int .i64 (t:Int)))) (by kernel_rfl) ⟨n0,cR⟩ (fun hHeld=>?_);refine tkH 0 (.pointer (some ⟨w.heap.size,1,none⟩)) rfl (Or.inl ⟨by rfl,fun w' hSw=>by obtain⟨qa,qb⟩:=hSw;obtain⟨j0,j1,j2,j3,j4⟩:=five qa;go_simp⟩) hHeld ?_;simp only [lays];refine tkH 1 (.slice (some ⟨rb,ro,none⟩) m.root.length rc) rfl (Or.inl ⟨by rfl,fun w' hSw=>by obtain⟨qa,qb⟩:=hSw;obtain⟨j0,j1,j2,j3,j4⟩:=five qa;go_simp⟩) hHeld ?_;simp only [lays];refine tkH 2 (.int .i64 ((n:Int) / 4)) rfl (Or.inl ⟨by rfl,fun w' hSw=>by obtain⟨qa,qb⟩:=hSw;obtain⟨j0,j1,j2,j3,j4⟩:=five qa;go_simp⟩) hHeld ?_;simp only [lays];refine tkH 3 (.pointer (some ⟨rb,ro+n / 4,none⟩)) rfl (Or.inl ⟨by rfl,fun w' hSw=>by obtain⟨qa,qb⟩:=hSw;obtain⟨j0,j1,j2,j3,j4⟩:=five qa;go_simp⟩) hHeld ?_;simp only [lays];refine tkH 4 (.int .i64 (t:Int)) rfl (Or.inl ⟨by rfl,fun w' hSw=>by obtain⟨qa,qb⟩:=hSw;obtain⟨j0,j1,j2,j3,j4⟩:=five qa;go_simp⟩) hHeld ?_;simp only [lays];refine tkH 5 (.agg #[.int .i64 m.guest,.slice (some ⟨rb,ro,none⟩) m.root.length rc,.slice sa m.slots.length sc,.slice (some ⟨fb,fo,none⟩) m.refs.length fc,.slice na m.snaps.length nc]) rfl (Or.inl ⟨by rfl,fun w' hSw=>by obtain⟨qa,qb⟩:=hSw;obtain⟨j0,j1,j2,j3,j4⟩:=five qa;go_simp⟩) hHeld ?_;simp only [lays];refine tkH 6 (.int .i64 (n:Int)) rfl (Or.inl ⟨by rfl,fun w' hSw=>by obtain⟨qa,qb⟩:=hSw;obtain⟨j0,j1,j2,j3,j4⟩:=five qa;go_simp⟩) hHeld ?_;simp only [lays];refine rdH 7 rfl (fun K hK=>?_);clear hHeld;simp only [lays];rw [if_pos (by rfl)];go_wp2_with (go_at_call 42;refine (HLk.out _ (Qaw (Below.refl _ _))).mono ?_;rintro e2 w2 ⟨rfl,b2⟩);have b2:Below w1.heap.size w1 w2:=Qat b2;have k0:=Qab n0 b2 (by omega);have cR2:=(b2.cell (p:=⟨rb,ro+n / 4,none⟩) rl1).trans cR;refine hK.out _ _ ⟨k0,cR2⟩ (fun hHeld=>?_);clear hK K;try simp only [lays]
 refine tkH 8 (.int .i64 (t:Int)) rfl (Or.inl ⟨by rfl,fun w' hSw=>by go_simp⟩) hHeld ?_;simp only [lays];refine tkH 9 (.int .i64 e) rfl (Or.inl ⟨by rfl,fun w' hSw=>by go_simp⟩) hHeld ?_;simp only [lays];clear hHeld;refine wpAnyH_done (by kernel_rfl) ?_ _;obtain⟨c0,c1,c2,c3,c4⟩:=five k0;go_upto_region 9 with (go_at_call 6;refine (HOw.out w2 b2).mono ?_;rintro e3 w3 ⟨val,rfl,hO,b3⟩;obtain⟨p0,q0,p1,q1,p2,q2,p3,q3,x0,x1,x2,x3⟩:=hO.four';unfold imgV;rw [x0,x1,x2,x3]);have s2:=b2.size;have s3:=b3.size;have HD0:Hid (OwR w1 (w3.alloc (.cells (aI m p0 q0 p1 q1 p2 q2 p3 q3) 26)) w3.heap.size m):=⟨⟨val,(hO.mono s2).alloc _,by rw [x0,x1,x2,x3];exact zHn _ _,hO.lt (Nat.le_refl _)⟩,by omega,(b2.trans (b3.mono s2)).alloc (by omega) _⟩;clear hO x0 x1 x2 x3 c0 c1 c2 c3 c4 k0 cR2 HLk HOw;have M0:=Qab n0 HD0.out.bel (by omega);obtain⟨c0,c1,c2,c3,c4⟩:=five M0;have HF3:Hid (∀j,j<m.refs.length→(w3.alloc (.cells (aI m p0 q0 p1 q1 p2 q2 p3 q3) 26)).cell? ⟨fb,fo+j,none⟩=some (.int .i64 (m.refs.getD j 0))):=fun j hj=>(HD0.out.bel.cell (p:=⟨fb,fo+j,none⟩) (HF.out j hj).2).trans (HF.out j hj).1
 clear b2 b3 M0;have hDw:w1.heap.size≤w3.heap.size:=HD0.out.ge
 go_cut [54] from 14 (fun s wx=>s=.bool false∧Hid (OwR w1 wx w3.heap.size m))
 case first=>
  by_cases hpos:0<e
  ·obtain⟨en,rfl⟩:=Int.eq_ofNat_of_zero_le (Int.le_of_lt hpos);have g1:decide (0<(en:Int))=true:=by simpa using hpos
   have ct:=HF3.out t (by have:=HP.out.2.2.2.2.2.2.1;omega);have l1:(t:Int)<(m.refs.length:Int):=by have:=HP.out.2.2.2.2.2.2.1;omega
   rw [hrt1] at ct;obtain⟨hel,hre⟩:=hnot hpos;rw [Int.toNat_natCast] at hel hre;have ce:=HF3.out en (by have:=HP.out.2.2.2.2.2.2.1;omega);obtain⟨xe,hxe⟩:∃x,m.refs.getD en 0=x:=⟨_,rfl⟩;rw [hxe] at ce hre;have l2:(en:Int)<(m.refs.length:Int):=by have:=HP.out.2.2.2.2.2.2.1;omega
   have g3:(xe == 1)=false:=by simpa using hre
   clear hre hxe hnot;go_wp2_with fail;go_meet;exact⟨rfl,HD0⟩
  ·have g1:decide (0<e)=false:=by simpa using hpos
   go_wp2_with fail;go_meet;exact⟨rfl,HD0⟩
 case rest=>
 obtain⟨rfl,HD1⟩:=hcut;clear HD0 HF3 c0 c1 c2 c3 c4;obtain⟨wa,hwa⟩:∃X,X=wc:=⟨_,rfl⟩;subst hwa;go_upto_region 12 with fail;have M0:=Qab n0 HD1.out.bel (by omega);obtain⟨c0,c1,c2,c3,c4⟩:=five M0;have HF1:Hid (∀j,j<m.refs.length→wa.cell? ⟨fb,fo+j,none⟩=some (.int .i64 (m.refs.getD j 0))):=fun j hj=>(HD1.out.bel.cell (p:=⟨fb,fo+j,none⟩) (HF.out j hj).2).trans (HF.out j hj).1
 go_cut [71] from 14 (fun s wx=>s=.bool false∧Hid (OwR w1 wx w3.heap.size m))
 case first=>
  have g1:((t:Int) == 0)=false:=by simp;omega
  have ct:=HF1.out t (by have:=HP.out.2.2.2.2.2.2.1;omega);rw [hrt1] at ct;have l1:(t:Int)<(m.refs.length:Int):=by have:=HP.out.2.2.2.2.2.2.1;omega
  go_wp2_with fail;go_meet;exact⟨rfl,HD1⟩
 case rest=>
 obtain⟨rfl,HD2⟩:=hcut;clear HD1 HF1 M0 c0 c1 c2 c3 c4;obtain⟨wb,hwb⟩:∃X,X=wc:=⟨_,rfl⟩;subst hwb;rw [HTT.out];have HD4:Hid (OwR w1 wb w3.heap.size M1):=by
  show OwR w1 wb w3.heap.size M1
  rw [←HM1.out.1,Qjw HP.out.1 hr HLo.out];exact HD2.out
 clear HD2;obtain⟨we,hwe⟩:∃X,X=wb:=⟨_,rfl⟩;subst hwe;obtain⟨val,hX,hbox,hfar⟩:=HD4.out.ex;have hbel:=HD4.out.bel;obtain⟨p0,q0,p1,q1,p2,q2,p3,q3,x0,x1,x2,x3⟩:=hX.four';have hbx:=hbox;rw [x0,x1,x2,x3] at hbx;obtain⟨d0,d1,d2,d3,d4⟩:=five hbx;have hS:QaQ we (val .slots) M1.slots:=Img.four (show Img we (.agg #[_,_,_,_,_]) M1 from hX.img) |>.2.1
 have hG:=QbJ hS HT.out.1 HT.out.2.1 HT.out.2.2;rw [x1] at hG;have z9:=Qab n1 hbel hz1;obtain⟨z0,z1,z2,z3,z4⟩:=five z9;have y0:=Qaa z9 0;have y1:=Qaa z9 1;have y2:=Qaa z9 2;have y3:=Qaa z9 3;have y4:=Qaa z9 4;have nD1:¬w3.heap.size=w.heap.size+1:=by omega
 have nD2:¬w.heap.size+1=w3.heap.size:=by omega
 clear hX hbox hfar hbx HTb cR rl1 HF;go_wp2_with (go_at_call 43;refine hG.mono ?_;rintro e4 w4 ⟨rfl,hw⟩;rw [hw];clear hw);have hBz:Below w.heap.size w we:=Below.on bw HD4.out.bel;refine bodyPost_ret (v:=.tuple #[.agg #[.int .i64 0,nl,nl,nl,nl],.int .i64 7]) (by simp [results,Tryz.results11,go_sem,z0,z1,z2,z3,z4]) rfl ⟨none,0,none,0,none,0,none,0,rfl,fun W' _=>QcR W',QaM hBz (Nat.le_succ _) _ _ _ _ _⟩
theorem Qp7 (rb ro rc:Nat)(sa:Option Addr)(sc:Nat)(fb fo fc:Nat)(na:Option Addr)(nc:Nat)(m:ImgD)(n:Nat)(page:ByteArray)(w:World)(h:Img w (.agg #[.int .i64 m.guest,.slice (some ⟨rb,ro,none⟩) m.root.length rc,.slice sa m.slots.length sc,.slice (some ⟨fb,fo,none⟩) m.refs.length fc,.slice na m.snaps.length nc]) m)(hrc:∀j,j<m.root.length→w.cell? ⟨rb,ro+j,none⟩=some (.int .i64 (m.root.getD j 0)))(hrl:rb<w.heap.size)(hfc:∀j,j<m.refs.length→w.cell? ⟨fb,fo+j,none⟩=some (.int .i64 (m.refs.getD j 0)))(hfl:fb<w.heap.size)(hC:Qaq m=0)(hn:(n:Int)<m.guest)(hp:page.size=4)(t:Nat)(ht:m.root.getD (n / 4) 0=(t:Int))(e:Int)(he:QaT m m.root n=e)(tn dn:Nat)(htn:tabN m (n / 4)=tn)(M1:ImgD)(hM1:wo1 m n=M1)(ht1:1≤t)(hrt1:m.refs.getD t 0=1)(hnot:0<e→e.toNat<m.slots.length∧m.refs.getD e.toNat 0≠1)(hLo:inPl m (n / 4)=true)(htt:t=tn)(HT:Hid (1≤M1.slots.length∧M1.slots.length≤40∧(if QaK M1.slots=40 then (0:Int) else QaK M1.slots)=(dn:Int)))(HE:Hid (dn≤M1.slots.length∧1≤dn∧tn<(layS M1.slots dn (1,page,[])).length∧(layS M1.slots dn (1,page,[])).getD tn default=(2,⟨#[]⟩,Qak m (n / 4))∧(layS M1.slots dn (1,page,[])).set tn (2,⟨#[]⟩,(Qak m (n / 4)).set (n % 4) (dn:Int))=wL m n page))(M3:ImgD)(HM3:Hid ({ M1 with slots:=wL m n page } = M3∧Qao { M3 with refs:=rfZ M3.slots } = 0)) :
  Calls Tryz.prog 11 #[.agg #[.int .i64 m.guest,.slice (some ⟨rb,ro,none⟩) m.root.length rc,.slice sa m.slots.length sc,.slice (some ⟨fb,fo,none⟩) m.refs.length fc,.slice na m.snaps.length nc],.int .i64 (n:Int),.string page] w (AnsJ w (Qai M3) 0):=by
 have b0:Below w.heap.size w ((w.alloc (.cells #[.int .i64 m.guest,.slice (some ⟨rb,ro,none⟩) m.root.length rc,.slice sa m.slots.length sc,.slice (some ⟨fb,fo,none⟩) m.refs.length fc,.slice na m.snaps.length nc] 26)).alloc zI):=(bA).alloc (by simp) _;have m0:((w.alloc (.cells #[.int .i64 m.guest,.slice (some ⟨rb,ro,none⟩) m.root.length rc,.slice sa m.slots.length sc,.slice (some ⟨fb,fo,none⟩) m.refs.length fc,.slice na m.snaps.length nc] 26)).alloc zI).heap[w.heap.size]? = some (.cells #[.int .i64 m.guest,.slice (some ⟨rb,ro,none⟩) m.root.length rc,.slice sa m.slots.length sc,.slice (some ⟨fb,fo,none⟩) m.refs.length fc,.slice na m.snaps.length nc] 26):=Qac (zHn _ _) _;have m1:((w.alloc (.cells #[.int .i64 m.guest,.slice (some ⟨rb,ro,none⟩) m.root.length rc,.slice sa m.slots.length sc,.slice (some ⟨fb,fo,none⟩) m.refs.length fc,.slice na m.snaps.length nc] 26)).alloc zI).heap[w.heap.size+1]? = some zI:=by have:=World.alloc_heap_new (w.alloc (.cells #[.int .i64 m.guest,.slice (some ⟨rb,ro,none⟩) m.root.length rc,.slice sa m.slots.length sc,.slice (some ⟨fb,fo,none⟩) m.refs.length fc,.slice na m.snaps.length nc] 26)) zI;simpa using this
 have hsz:w.heap.size+1<((w.alloc (.cells #[.int .i64 m.guest,.slice (some ⟨rb,ro,none⟩) m.root.length rc,.slice sa m.slots.length sc,.slice (some ⟨fb,fo,none⟩) m.refs.length fc,.slice na m.snaps.length nc] 26)).alloc zI).heap.size:=by simp
 have hs:=Qal hC;have hgt:=Qa4 hs;have hrt:=Qa3 hs;have hr:n / 4<m.root.length:=by omega
 have htl:t<m.slots.length:=by obtain⟨t',ht',h'⟩:=Qb3 hs hr;omega
 have hrf:m.refs.length=m.slots.length:=(Qad hs).2.2.1;have hlen:(Qak m (n / 4)).length=4:=Qa7 (Qa0 hs hr).1;have I0:=h.below b0;have hlk:=QbO I0 (n:Int) (QbF hC hn);have e4:((n / 4:Nat):Int)=(n:Int) / 4:=by omega
 have hq1:((n:Int) / 4).toNat=n / 4:=by omega
 have hq2:((n:Int) % 4).toNat=n % 4:=by omega
 have hri:(n:Int) / 4<(m.root.length:Int):=by omega
 have h4:n % 4<4:=by omega
 have h4i:(n:Int) % 4<4:=by omega
 have h16:n<16:=by omega
 have h0q:¬(n:Int) / 4<0:=by omega
 have h0r:¬(n:Int) % 4<0:=by omega
 have h0a:0≤(n:Int) / 4:=by omega
 have h0b:0≤(n:Int) % 4:=by omega
 have hpz:((page.size:Int) != 4)=false:=by rw [hp];rfl
 have HR0:Hid (((w.alloc (.cells #[.int .i64 m.guest,.slice (some ⟨rb,ro,none⟩) m.root.length rc,.slice sa m.slots.length sc,.slice (some ⟨fb,fo,none⟩) m.refs.length fc,.slice na m.snaps.length nc] 26)).alloc zI).cell? ⟨rb,ro+n / 4,none⟩=some (.int .i64 (t:Int))∧rb<((w.alloc (.cells #[.int .i64 m.guest,.slice (some ⟨rb,ro,none⟩) m.root.length rc,.slice sa m.slots.length sc,.slice (some ⟨fb,fo,none⟩) m.refs.length fc,.slice na m.snaps.length nc] 26)).alloc zI).heap.size):=⟨by rw [←ht];exact (b0.cell (p:=⟨rb,ro+n / 4,none⟩) hrl).trans (hrc (n / 4) hr),Nat.lt_of_lt_of_le hrl b0.size⟩;have HF0:Hid (∀j,j<m.refs.length→((w.alloc (.cells #[.int .i64 m.guest,.slice (some ⟨rb,ro,none⟩) m.root.length rc,.slice sa m.slots.length sc,.slice (some ⟨fb,fo,none⟩) m.refs.length fc,.slice na m.snaps.length nc] 26)).alloc zI).cell? ⟨fb,fo+j,none⟩=some (.int .i64 (m.refs.getD j 0))∧fb<((w.alloc (.cells #[.int .i64 m.guest,.slice (some ⟨rb,ro,none⟩) m.root.length rc,.slice sa m.slots.length sc,.slice (some ⟨fb,fo,none⟩) m.refs.length fc,.slice na m.snaps.length nc] 26)).alloc zI).heap.size):=fun j hj=>⟨(b0.cell (p:=⟨fb,fo+j,none⟩) hfl).trans (hfc j hj),Nat.lt_of_lt_of_le hfl b0.size⟩
 have HP:Hid (Qaq m=0∧Qao m=0∧m.root.getD (n / 4) 0=(t:Int)∧QaT m m.root n=e∧(n:Int)<m.guest∧(Qak m (n / 4)).length=4∧m.refs.length=m.slots.length∧page.size=4):=⟨hC,hs,ht,he,hn,hlen,hrf,hp⟩;clear h hrc hrl hfc hfl hC hs hgt hrt hn ht he hlen hrf hp;have HM1:Hid (wo1 m n=M1∧tabN m (n / 4)=tn):=⟨hM1,htn⟩;clear hM1 htn;have HLo:Hid (inPl m (n / 4)=true):=hLo;have HTT:Hid (t=tn):=htt;clear hLo htt
 go_enter Tryz.func11,Tryz.ntmps11
 obtain⟨c0,c1,c2,c3,c4⟩:=five m0;go_wp2_with (go_at_call 41;refine hlk.mono ?_;rintro e1 w1 ⟨rfl,b1⟩);clear c0 c1 c2 c3 c4;have hz1:w.heap.size+1<w1.heap.size:=Nat.lt_of_lt_of_le hsz b1.size;have n0:=Qab m0 b1 (by omega);have n1:=Qab m1 b1 hsz;have I1:=I0.below b1;have bw:Below w.heap.size w w1:=Below.on b0 b1;have cR:w1.cell? ⟨rb,ro+n / 4,none⟩=some (.int .i64 (t:Int)):=(b1.cell (p:=⟨rb,ro+n / 4,none⟩) HR0.out.2).trans HR0.out.1;have rl1:rb<w1.heap.size:=Nat.lt_of_lt_of_le HR0.out.2 b1.size;have HF:Hid (∀j,j<m.refs.length→w1.cell? ⟨fb,fo+j,none⟩=some (.int .i64 (m.refs.getD j 0))∧fb<w1.heap.size):=fun j hj=>⟨(b1.cell (p:=⟨fb,fo+j,none⟩) (HF0.out j hj).2).trans (HF0.out j hj).1,Nat.lt_of_lt_of_le (HF0.out j hj).2 b1.size⟩
 have HLk:Hid (∀W,Below w1.heap.size w1 W→Calls Tryz.prog 42 #[.agg #[.int .i64 m.guest,.slice (some ⟨rb,ro,none⟩) m.root.length rc,.slice sa m.slots.length sc,.slice (some ⟨fb,fo,none⟩) m.refs.length fc,.slice na m.snaps.length nc],.int .i64 (n:Int)] W fun r w'=>r=.returned (.int .i64 e)∧Below W.heap.size W w'):=fun W hW=>QcB (I1.below hW) (n:Int) (QbF HP.out.1 HP.out.2.2.2.2.1) (by rw [Int.toNat_natCast];exact HP.out.2.2.2.1)
 have HOw:Hid (∀W,Below w1.heap.size w1 W→Calls Tryz.prog 6 #[.agg #[.int .i64 m.guest,.slice (some ⟨rb,ro,none⟩) m.root.length rc,.slice sa m.slots.length sc,.slice (some ⟨fb,fo,none⟩) m.refs.length fc,.slice na m.snaps.length nc]] W fun r w'=>∃val,r=.returned (imgV m.guest val)∧OX w' W.heap.size val m∧Below W.heap.size W w'):=fun W hW=>Qbn (I1.below hW) HP.out.2.1
 have HTb:Hid (∀W,Below w1.heap.size w1 W→Calls Tryz.prog 45 #[.agg #[.int .i64 m.guest,.slice (some ⟨rb,ro,none⟩) m.root.length rc,.slice sa m.slots.length sc,.slice (some ⟨fb,fo,none⟩) m.refs.length fc,.slice na m.snaps.length nc],.int .i64 (t:Int)] W fun r w'=>∃g cap,r=.returned (.slice (some ⟨g,0,none⟩) 4 cap)∧w'.ownsRow W.heap.size 3 1 (.slice (some ⟨g,0,none⟩) 4 cap) 4 (ints (Qak m (n / 4)))∧W.heap.size≤g∧Below W.heap.size W w'):=fun W hW=>by
  have e:=Qee HP.out.2.2.1;refine (Qcc (I1.below hW) htl (by rw [e,HP.out.2.2.2.2.2.1];decide)).mono ?_;rintro r w' ⟨v,rfl,h1,h2,h3⟩;rw [e,HP.out.2.2.2.2.2.1] at h1;obtain⟨g,cap,rfl⟩:=Qa9 h1;exact⟨g,cap,rfl,h1,h2 g rfl,h3⟩
 clear b0 b1 m0 m1 I0 I1 HR0 HF0 hlk hsz;refine wp_region_held_drew (S:=(fun X:World=>X.heap[w.heap.size]? = some (.cells #[.int .i64 m.guest,.slice (some ⟨rb,ro,none⟩) m.root.length rc,.slice sa m.slots.length sc,.slice (some ⟨fb,fo,none⟩) m.refs.length fc,.slice na m.snaps.length nc] 26)∧X.cell? ⟨rb,ro+n / 4,none⟩=some (.int .i64 (t:Int)))) (by kernel_rfl) ⟨n0,cR⟩ (fun hHeld=>?_);refine tkH 0 (.pointer (some ⟨w.heap.size,1,none⟩)) rfl (Or.inl ⟨by rfl,fun w' hSw=>by obtain⟨qa,qb⟩:=hSw;obtain⟨j0,j1,j2,j3,j4⟩:=five qa;go_simp⟩) hHeld ?_;simp only [lays];refine tkH 1 (.slice (some ⟨rb,ro,none⟩) m.root.length rc) rfl (Or.inl ⟨by rfl,fun w' hSw=>by obtain⟨qa,qb⟩:=hSw;obtain⟨j0,j1,j2,j3,j4⟩:=five qa;go_simp⟩) hHeld ?_;simp only [lays];refine tkH 2 (.int .i64 ((n:Int) / 4)) rfl (Or.inl ⟨by rfl,fun w' hSw=>by obtain⟨qa,qb⟩:=hSw;obtain⟨j0,j1,j2,j3,j4⟩:=five qa;go_simp⟩) hHeld ?_;simp only [lays];refine tkH 3 (.pointer (some ⟨rb,ro+n / 4,none⟩)) rfl (Or.inl ⟨by rfl,fun w' hSw=>by obtain⟨qa,qb⟩:=hSw;obtain⟨j0,j1,j2,j3,j4⟩:=five qa;go_simp⟩) hHeld ?_;simp only [lays];refine tkH 4 (.int .i64 (t:Int)) rfl (Or.inl ⟨by rfl,fun w' hSw=>by obtain⟨qa,qb⟩:=hSw;obtain⟨j0,j1,j2,j3,j4⟩:=five qa;go_simp⟩) hHeld ?_;simp only [lays];refine tkH 5 (.agg #[.int .i64 m.guest,.slice (some ⟨rb,ro,none⟩) m.root.length rc,.slice sa m.slots.length sc,.slice (some ⟨fb,fo,none⟩) m.refs.length fc,.slice na m.snaps.length nc]) rfl (Or.inl ⟨by rfl,fun w' hSw=>by obtain⟨qa,qb⟩:=hSw;obtain⟨j0,j1,j2,j3,j4⟩:=five qa;go_simp⟩) hHeld ?_;simp only [lays];refine tkH 6 (.int .i64 (n:Int)) rfl (Or.inl ⟨by rfl,fun w' hSw=>by obtain⟨qa,qb⟩:=hSw;obtain⟨j0,j1,j2,j3,j4⟩:=five qa;go_simp⟩) hHeld ?_;simp only [lays];refine rdH 7 rfl (fun K hK=>?_);clear hHeld;simp only [lays];rw [if_pos (by rfl)];go_wp2_with (go_at_call 42;refine (HLk.out _ (Qaw (Below.refl _ _))).mono ?_;rintro e2 w2 ⟨rfl,b2⟩);have b2:Below w1.heap.size w1 w2:=Qat b2;have k0:=Qab n0 b2 (by omega);have cR2:=(b2.cell (p:=⟨rb,ro+n / 4,none⟩) rl1).trans cR;refine hK.out _ _ ⟨k0,cR2⟩ (fun hHeld=>?_);clear hK K;try simp only [lays]
 refine tkH 8 (.int .i64 (t:Int)) rfl (Or.inl ⟨by rfl,fun w' hSw=>by go_simp⟩) hHeld ?_;simp only [lays];refine tkH 9 (.int .i64 e) rfl (Or.inl ⟨by rfl,fun w' hSw=>by go_simp⟩) hHeld ?_;simp only [lays];clear hHeld;refine wpAnyH_done (by kernel_rfl) ?_ _;obtain⟨c0,c1,c2,c3,c4⟩:=five k0;go_upto_region 9 with (go_at_call 6;refine (HOw.out w2 b2).mono ?_;rintro e3 w3 ⟨val,rfl,hO,b3⟩;obtain⟨p0,q0,p1,q1,p2,q2,p3,q3,x0,x1,x2,x3⟩:=hO.four';unfold imgV;rw [x0,x1,x2,x3]);have s2:=b2.size;have s3:=b3.size;have HD0:Hid (OwR w1 (w3.alloc (.cells (aI m p0 q0 p1 q1 p2 q2 p3 q3) 26)) w3.heap.size m):=⟨⟨val,(hO.mono s2).alloc _,by rw [x0,x1,x2,x3];exact zHn _ _,hO.lt (Nat.le_refl _)⟩,by omega,(b2.trans (b3.mono s2)).alloc (by omega) _⟩;clear hO x0 x1 x2 x3 c0 c1 c2 c3 c4 k0 cR2 HLk HOw;have M0:=Qab n0 HD0.out.bel (by omega);obtain⟨c0,c1,c2,c3,c4⟩:=five M0;have HF3:Hid (∀j,j<m.refs.length→(w3.alloc (.cells (aI m p0 q0 p1 q1 p2 q2 p3 q3) 26)).cell? ⟨fb,fo+j,none⟩=some (.int .i64 (m.refs.getD j 0))):=fun j hj=>(HD0.out.bel.cell (p:=⟨fb,fo+j,none⟩) (HF.out j hj).2).trans (HF.out j hj).1
 clear b2 b3 M0;have hDw:w1.heap.size≤w3.heap.size:=HD0.out.ge
 go_cut [54] from 14 (fun s wx=>s=.bool false∧Hid (OwR w1 wx w3.heap.size m))
 case first=>
  by_cases hpos:0<e
  ·obtain⟨en,rfl⟩:=Int.eq_ofNat_of_zero_le (Int.le_of_lt hpos);have g1:decide (0<(en:Int))=true:=by simpa using hpos
   have ct:=HF3.out t (by have:=HP.out.2.2.2.2.2.2.1;omega);have l1:(t:Int)<(m.refs.length:Int):=by have:=HP.out.2.2.2.2.2.2.1;omega
   rw [hrt1] at ct;obtain⟨hel,hre⟩:=hnot hpos;rw [Int.toNat_natCast] at hel hre;have ce:=HF3.out en (by have:=HP.out.2.2.2.2.2.2.1;omega);obtain⟨xe,hxe⟩:∃x,m.refs.getD en 0=x:=⟨_,rfl⟩;rw [hxe] at ce hre;have l2:(en:Int)<(m.refs.length:Int):=by have:=HP.out.2.2.2.2.2.2.1;omega
   have g3:(xe == 1)=false:=by simpa using hre
   clear hre hxe hnot;go_wp2_with fail;go_meet;exact⟨rfl,HD0⟩
  ·have g1:decide (0<e)=false:=by simpa using hpos
   go_wp2_with fail;go_meet;exact⟨rfl,HD0⟩
 case rest=>
 obtain⟨rfl,HD1⟩:=hcut;clear HD0 HF3 c0 c1 c2 c3 c4;obtain⟨wa,hwa⟩:∃X,X=wc:=⟨_,rfl⟩;subst hwa;go_upto_region 12 with fail;have M0:=Qab n0 HD1.out.bel (by omega);obtain⟨c0,c1,c2,c3,c4⟩:=five M0;have HF1:Hid (∀j,j<m.refs.length→wa.cell? ⟨fb,fo+j,none⟩=some (.int .i64 (m.refs.getD j 0))):=fun j hj=>(HD1.out.bel.cell (p:=⟨fb,fo+j,none⟩) (HF.out j hj).2).trans (HF.out j hj).1
 go_cut [71] from 14 (fun s wx=>s=.bool false∧Hid (OwR w1 wx w3.heap.size m))
 case first=>
  have g1:((t:Int) == 0)=false:=by simp;omega
  have ct:=HF1.out t (by have:=HP.out.2.2.2.2.2.2.1;omega);rw [hrt1] at ct;have l1:(t:Int)<(m.refs.length:Int):=by have:=HP.out.2.2.2.2.2.2.1;omega
  go_wp2_with fail;go_meet;exact⟨rfl,HD1⟩
 case rest=>
 obtain⟨rfl,HD2⟩:=hcut;clear HD1 HF1 M0 c0 c1 c2 c3 c4;obtain⟨wb,hwb⟩:∃X,X=wc:=⟨_,rfl⟩;subst hwb;rw [HTT.out];have HD4:Hid (OwR w1 wb w3.heap.size M1):=by
  show OwR w1 wb w3.heap.size M1
  rw [←HM1.out.1,Qjw HP.out.1 hr HLo.out];exact HD2.out
 clear HD2;obtain⟨we,hwe⟩:∃X,X=wb:=⟨_,rfl⟩;subst hwe;obtain⟨val,hX,hbox,hfar⟩:=HD4.out.ex;have hbel:=HD4.out.bel;obtain⟨p0,q0,p1,q1,p2,q2,p3,q3,x0,x1,x2,x3⟩:=hX.four';have hbx:=hbox;rw [x0,x1,x2,x3] at hbx;obtain⟨d0,d1,d2,d3,d4⟩:=five hbx;have hS:QaQ we (val .slots) M1.slots:=Img.four (show Img we (.agg #[_,_,_,_,_]) M1 from hX.img) |>.2.1
 have hG:=QbJ hS HT.out.1 HT.out.2.1 HT.out.2.2;rw [x1] at hG;have hdn0:((dn:Int) == 0)=false:=by have:=HE.out.2.1;simp;omega
 go_upto_region 21 with (go_at_call 43;refine hG.mono ?_;rintro e4 w4 ⟨rfl,hw⟩;rw [hw];clear hw);clear hG hS hdn0;obtain⟨M2,hM2⟩:∃X:ImgD,{ M1 with slots:=layS M1.slots dn (1,page,[]) } = X:=⟨_,rfl⟩;have hL:=Qei M1.guest (k:=1) (d:=page) (ev:=nl) (es:=[]) hX hbel.size HE.out.1 (by have:=HT.out.2.1;omega) (World.ownsRow_nil _ _ _ _) (QeN _ _ _ _ _);unfold imgV at hL;rw [x0,x1,x2,x3,hM2] at hL;have HL:Hid (Calls Tryz.prog 44 #[.agg (aI M1 p0 q0 p1 q1 p2 q2 p3 q3),.int .i64 (dn:Int),.agg #[.int .i64 1,.string page,nl]] we fun r w'=>∃val',r=.returned (imgV M1.guest val')∧OX w' w1.heap.size val' M2∧Below w1.heap.size we w'∧Qbl we w' M1 val∧SrcX we M1 val (nl) M2 val'):=hL.mono fun r w' ⟨v,a1,a2,a3,a4,a5,_⟩=>⟨v,a1,a2,a3,a4,a5⟩
 clear hL;have HM2:Hid ({ M1 with slots:=layS M1.slots dn (1,page,[]) } = M2∧M2.guest=M1.guest):=⟨hM2,by rw [←hM2]⟩;clear hM2;have hDl:w3.heap.size<we.heap.size:=(szH hbx)
 go_cut [] from 14 (fun wx=>Hid (OwR w1 wx w3.heap.size M2))
 case first=>
  go_wp2_with (go_at_call 44;refine HL.out.mono ?_;rintro e6 w5 ⟨val',rfl,hX5,b5,k5,s5⟩;obtain⟨g0,h0,g1,h1,g2,h2,g3,h3,y0,y1,y2,y3⟩:=hX5.four';have D5:=(k5 w3.heap.size hDl hfar).trans hbx;obtain⟨v0,v1,v2,v3,v4⟩:=five D5;have u0:=Qaa D5 0;have u1:=Qaa D5 1;have u2:=Qaa D5 2;have u3:=Qaa D5 3;have u4:=Qaa D5 4;unfold imgV;rw [y0,y1,y2,y3]);go_meet;have hO:=Qej hbel hbox HD4.out.ge hfar hX5 b5 k5 s5 (fun x=>by cases x);rw [y0,y1,y2,y3,HM2.out.2] at hO;exact hO
 case rest=>
 have HD5:Hid (OwR w1 wc w3.heap.size M2):=hcut;clear hcut HD4 HL hX hbox hfar hbel hbx x0 x1 x2 x3 d0 d1 d2 d3 d4;obtain⟨wf,hwf⟩:∃X,X=wc:=⟨_,rfl⟩;subst hwf;go_upto_region 22 with fail
 go_cut [] from 14 (fun wx=>Hid (OwR w1 wx w3.heap.size M3))
 case first=>
  obtain⟨val,hX,hbox,hfar⟩:=HD5.out.ex;have hbel:=HD5.out.bel;obtain⟨p0,q0,p1,q1,p2,q2,p3,q3,x0,x1,x2,x3⟩:=hX.four';have hbx:=hbox;rw [x0,x1,x2,x3] at hbx;obtain⟨d0,d1,d2,d3,d4⟩:=five hbx;have hsl:M2.slots=layS M1.slots dn (1,page,[]):=by rw [←HM2.out.1]
  have htl2:tn<M2.slots.length:=by rw [hsl];exact HE.out.2.2.1
  have htb:M2.slots.getD tn default=(2,⟨#[]⟩,Qak m (n / 4)):=by rw [hsl];exact HE.out.2.2.2.1
  have htbl:tbl M2 tn=Qak m (n / 4):=by show (M2.slots.getD tn default).2.2=_;rw [htb]
  have hnt:tbl M2 tn≠[]:=fun x=>by have:=HP.out.2.2.2.2.2.1;rw [←htbl,x] at this;cases this
  obtain⟨ao,cap,xs,hg⟩:=hX.forms .slots (Qaj.slots _);obtain⟨sg,rfl⟩:=hg (by show 0<M2.slots.length;omega);rw [x1] at xs;simp only [Value.slice.injEq] at xs;obtain⟨rfl,_,_⟩:=xs;have hrow:=hX.row .slots (Qaj.slots _);rw [x1] at hrow;have hrow:wf.ownsRow w1.heap.size 37 3 (.slice (some ⟨sg,0,none⟩) M2.slots.length q1) M2.slots.length (QaE M2.slots (fun j=>val (.tab j))):=hrow;have hrt:=hX.row (.tab tn) (Qaj.tab ⟨htl2,hnt⟩);have hrt:wf.ownsRow w1.heap.size 3 1 (val (.tab tn)) (tbl M2 tn).length (ints (tbl M2 tn)):=hrt;rw [htbl,HP.out.2.2.2.2.2.1] at hrt;obtain⟨tg,tc,xt⟩:=Qa9 hrt;rw [xt] at hrt;have hcs:=(hrow.cellAt (tn*3+2) (by omega)).trans (QaO htl2).2.2;have hcs:wf.cell? ⟨sg,tn*3+2,none⟩=some (.slice (some ⟨tg,0,none⟩) 4 tc):=hcs.trans (congrArg some xt);obtain⟨xo,hxo⟩:∃x,(Qak m (n / 4)).getD (n % 4) 0=x:=⟨_,rfl⟩;have hct:wf.cell? ⟨tg,n % 4,none⟩=some (.int .i64 xo):=by
   refine (hrt.cellAt (n % 4) (by omega)).trans ?_;unfold ints;rw [List.getElem?_map,List.getElem?_eq_getElem (by rw [HP.out.2.2.2.2.2.1];exact h4),← hxo];simp [List.getD,HP.out.2.2.2.2.2.1,h4]
  have hfz:=hrt.frozenAt (n % 4);have htl2i:(tn:Int)<(M2.slots.length:Int):=by omega
  have HTB:Hid (M2.slots.getD tn default=(2,⟨#[]⟩,Qak m (n / 4))):=htb;clear hxo hsl htb htbl;go_wp2_with fail;go_meet;have htb:=HTB.out;have hO:=Qn6 hX hbel hbox HD5.out.ge hfar htl2 hnt xt (n % 4) (dn:Int);rw [htb] at hO;have e3 : { M2 with slots:=M2.slots.set tn (2,⟨#[]⟩,(Qak m (n / 4)).set (n % 4) (dn:Int)) } = M3:=by
   rw [←HM2.out.1]
   show { M1 with slots:=(layS M1.slots dn (1,page,[])).set tn (2,⟨#[]⟩,(Qak m (n / 4)).set (n % 4) (dn:Int)) } = M3
   rw [HE.out.2.2.2.2];exact HM3.out.1
  rw [←e3];exact hO
 case rest=>
 have HD6:Hid (OwR w1 wc w3.heap.size M3):=hcut;clear hcut HD5;obtain⟨wg,hwg⟩:∃X,X=wc:=⟨_,rfl⟩;subst hwg;obtain⟨val,hX,hbox,hfar⟩:=HD6.out.ex;have hbel:=HD6.out.bel;obtain⟨p0,q0,p1,q1,p2,q2,p3,q3,x0,x1,x2,x3⟩:=hX.four';have hbx:=hbox;rw [x0,x1,x2,x3] at hbx;obtain⟨d0,d1,d2,d3,d4⟩:=five hbx;have z9:=Qab n1 hbel hz1;obtain⟨z0,z1,z2,z3,z4⟩:=five z9;have y0:=Qaa z9 0;have y1:=Qaa z9 1;have y2:=Qaa z9 2;have y3:=Qaa z9 3;have y4:=Qaa z9 4;have nD1:¬w3.heap.size=w.heap.size+1:=by omega
 have nD2:¬w.heap.size+1=w3.heap.size:=by omega
 have hc:=QcH hX hbel.size HM3.out.2;unfold imgV at hc;rw [x0,x1,x2,x3] at hc;have HCt:Hid (Calls Tryz.prog 46 #[.agg (aI M3 p0 q0 p1 q1 p2 q2 p3 q3)] wg fun r w'=>∃val',r=.returned (imgV M3.guest val')∧OX w' w1.heap.size val' (Qai M3)∧Below w1.heap.size wg w'∧Qbl wg w' M3 val∧SrcX wg M3 val (nl) (Qai M3) val'):=hc;have hzl:w.heap.size+1<wg.heap.size:=Nat.lt_of_lt_of_le hz1 hbel.size;have hfz:∀a,Qaj M3 a→(val a).ownBlock≠some (w.heap.size+1):=fun a ha x=>by have:=((hX.row a ha).lt _ x).1;omega
 clear hc;go_wp2_with (go_at_call 46;refine HCt.out.mono ?_;rintro e7 w7 ⟨val2,rfl,hO7,b7,k7,s7⟩;obtain⟨u0,v0,u1,v1,u2,v2,u3,v3,j0,j1,j2,j3⟩:=hO7.four';have k17:=(k7 (w.heap.size+1) hzl hfz).trans z9;obtain⟨o0,o1,o2,o3,o4⟩:=five k17;have oo0:=Qaa k17 0;have oo1:=Qaa k17 1;have oo2:=Qaa k17 2;have oo3:=Qaa k17 3;have oo4:=Qaa k17 4;unfold imgV;rw [j0,j1,j2,j3]);have hfr:∀a,Qaj (Qai M3) a→(val2 a).ownBlock≠some (w.heap.size+1):=fun a ha x=>by
  have:=((hO7.row a ha).lt _ x).1;omega
 have hI:=fun x0 x1 x2 x3 x4=>hO7.five hfr x0 x1 x2 x3 x4
 have eI:imgV (Qai M3).guest val2=.agg #[.int .i64 M3.guest,.slice u0 (Qai M3).root.length v0,.slice u1 (Qai M3).slots.length v1,.slice u2 (Qai M3).refs.length v2,.slice u3 (Qai M3).snaps.length v3]:=by unfold imgV;rw [j0,j1,j2,j3];rfl
 have hB8:Below w.heap.size w w7:=(Below.on bw hbel).trans (b7.mono (by omega));refine bodyPost_ret (v:=.tuple #[.agg #[.int .i64 M3.guest,.slice u0 (Qai M3).root.length v0,.slice u1 (Qai M3).slots.length v1,.slice u2 (Qai M3).refs.length v2,.slice u3 (Qai M3).snaps.length v3],.int .i64 0]) (by simp [results,Tryz.results11,go_sem,o0,o1,o2,o3,o4]) rfl ⟨u0,v0,u1,v1,u2,v2,u3,v3,rfl,fun W' hW=>(by have:=((hI _ _ _ _ _).keep (fun q hq _=>hW q (by omega))).img;rw [eI] at this;exact this),QaM hB8 (Nat.le_succ _) _ _ _ _ _⟩

theorem Qpn (ra:Option Addr)(rc:Nat)(sa:Option Addr)(sc:Nat)(fa:Option Addr)(fc:Nat)(na:Option Addr)(nc:Nat)(m:ImgD)(n:Int)(page:ByteArray)(w:World)(h:Img w (.agg (aI m ra rc sa sc fa fc na nc)) m)(E:Int)(hE:Qbk m n=E)(hne:(E != 0)=true) :
  Calls Tryz.prog 11 #[.agg (aI m ra rc sa sc fa fc na nc),.int .i64 n,.string page] w (AnsJ w imgZ E):=by
 have b0:Below w.heap.size w ((w.alloc (.cells (aI m ra rc sa sc fa fc na nc) 26)).alloc zI):=(bA).alloc (by simp) _;have m0:((w.alloc (.cells (aI m ra rc sa sc fa fc na nc) 26)).alloc zI).heap[w.heap.size]? = some (.cells (aI m ra rc sa sc fa fc na nc) 26):=Qac (zHn _ _) _;have m1:((w.alloc (.cells (aI m ra rc sa sc fa fc na nc) 26)).alloc zI).heap[w.heap.size+1]? = some zI:=by have:=World.alloc_heap_new (w.alloc (.cells (aI m ra rc sa sc fa fc na nc) 26)) zI;simpa using this
 have hsz:w.heap.size+1<((w.alloc (.cells (aI m ra rc sa sc fa fc na nc) 26)).alloc zI).heap.size:=by simp
 obtain⟨c0,c1,c2,c3,c4⟩:=five m0;have hlk:=QbO (h.below b0) n hE;clear h hE
 go_enter Tryz.func11,Tryz.ntmps11
 go_wp2_with (go_at_call 41;refine hlk.mono ?_;rintro e1 w1 ⟨rfl,b1⟩;have n0:=Qab m0 b1 (by omega);have n1:=Qab m1 b1 hsz;obtain⟨d0,d1,d2,d3,d4⟩:=five n0;obtain⟨z0,z1,z2,z3,z4⟩:=five n1;have y0:=Qaa n1 0;have y1:=Qaa n1 1;have y2:=Qaa n1 2;have y3:=Qaa n1 3;have y4:=Qaa n1 4);refine bodyPost_ret (v:=.tuple #[.agg #[.int .i64 0,nl,nl,nl,nl],.int .i64 E]) (by simp [results,Tryz.results11,go_sem,z0,z1,z2,z3,z4]) rfl ⟨none,0,none,0,none,0,none,0,rfl,fun W' _=>QcR W',QaM (Below.on b0 b1) (Nat.le_succ _) _ _ _ _ _⟩
theorem QpG (ra:Option Addr)(rc:Nat)(sa:Option Addr)(sc:Nat)(fa:Option Addr)(fc:Nat)(na:Option Addr)(nc:Nat)(m:ImgD)(n:Int)(page:ByteArray)(w:World)(h:Img w (.agg (aI m ra rc sa sc fa fc na nc)) m)(hE:Qbk m n=0)(hne:((page.size:Int) != 4)=true) :
  Calls Tryz.prog 11 #[.agg (aI m ra rc sa sc fa fc na nc),.int .i64 n,.string page] w (AnsJ w imgZ 1):=by
 have b0:Below w.heap.size w ((w.alloc (.cells (aI m ra rc sa sc fa fc na nc) 26)).alloc zI):=(bA).alloc (by simp) _;have m0:((w.alloc (.cells (aI m ra rc sa sc fa fc na nc) 26)).alloc zI).heap[w.heap.size]? = some (.cells (aI m ra rc sa sc fa fc na nc) 26):=Qac (zHn _ _) _;have m1:((w.alloc (.cells (aI m ra rc sa sc fa fc na nc) 26)).alloc zI).heap[w.heap.size+1]? = some zI:=by have:=World.alloc_heap_new (w.alloc (.cells (aI m ra rc sa sc fa fc na nc) 26)) zI;simpa using this
 have hsz:w.heap.size+1<((w.alloc (.cells (aI m ra rc sa sc fa fc na nc) 26)).alloc zI).heap.size:=by simp
 obtain⟨c0,c1,c2,c3,c4⟩:=five m0;have hlk:=QbO (h.below b0) n hE;clear h hE
 go_enter Tryz.func11,Tryz.ntmps11
 go_wp2_with (go_at_call 41;refine hlk.mono ?_;rintro e1 w1 ⟨rfl,b1⟩;have n0:=Qab m0 b1 (by omega);have n1:=Qab m1 b1 hsz;obtain⟨d0,d1,d2,d3,d4⟩:=five n0;obtain⟨z0,z1,z2,z3,z4⟩:=five n1;have y0:=Qaa n1 0;have y1:=Qaa n1 1;have y2:=Qaa n1 2;have y3:=Qaa n1 3;have y4:=Qaa n1 4);refine bodyPost_ret (v:=.tuple #[.agg #[.int .i64 0,nl,nl,nl,nl],.int .i64 1]) (by simp [results,Tryz.results11,go_sem,z0,z1,z2,z3,z4]) rfl ⟨none,0,none,0,none,0,none,0,rfl,fun W' _=>QcR W',QaM (Below.on b0 b1) (Nat.le_succ _) _ _ _ _ _⟩
theorem Qp5 {w:World}{v:Value}{m:ImgD}(h:Img w v m)(hC:Qaq m=0){n:Nat}(hn:(n:Int)<m.guest){page:ByteArray}(hp:page.size=4) :
  Calls Tryz.prog 11 #[v,.int .i64 (n:Int),.string page] w (AnsJ w ((QbV m n page).getD imgZ) (errO (QbV m n page))):=by
 have h':=h;obtain⟨ra,rc,sa,sc,fa,fc,na,nc,rfl,_⟩:=h.parts;have hs:=Qal hC;have hgt:=Qa4 hs;have hrt:=Qa3 hs;have hr:n / 4<m.root.length:=by omega
 have hsp:=Qah (Qad hs).2.1;have hrf:m.refs.length=m.slots.length:=(Qad hs).2.2.1;obtain⟨ao,cap,ev,_,_,hcell⟩:=h'.four.1;obtain⟨rb,ro,rfl,hrl,hrc⟩:=hcell (by intro x;rw [x] at hr;simp at hr);simp only [Value.slice.injEq] at ev;obtain⟨rfl,_,rfl⟩:=ev;obtain⟨ao,cap,ev,_,_,hcell⟩:=h'.four.2.2.1;obtain⟨fb,fo,rfl,hfl,hfc⟩:=hcell (by intro x;rw [x] at hrf;simp at hrf;omega);simp only [Value.slice.injEq] at ev;obtain⟨rfl,_,rfl⟩:=ev;obtain⟨t,ht,hT⟩:=Qf3 hC hr;have hlo:=Qlw hC hr;have hwi:=Qnk hC hr;obtain⟨e,he⟩:∃e,QaT m m.root n=e:=⟨_,rfl⟩;have hlk:=QfS hC hr;rw [he] at hlk;have hpos:0<e→1≤t:=fun x=>by
  rcases Nat.eq_zero_or_pos t with h0 | h0
  ·exfalso
   unfold QaT at he;rw [ht,h0,if_pos (show ((0:Nat):Int)=0 from rfl)] at he;omega
  ·exact h0
 by_cases hi:Qez m n=true
 ·have e1:QbV m n page=some { m with slots:=m.slots.set e.toNat (1,page,[]) }:=by unfold QbV;rw [if_pos hi,he]
  rw [e1];have hi2:=hi;unfold Qez at hi2;rw [he] at hi2;simp only [Bool.and_eq_true,decide_eq_true_eq,beq_iff_eq] at hi2;obtain⟨p0,pin,pre⟩:=hi2;rcases hlk with x | ⟨en,hen,en1,hke,_⟩
  ·omega
  ·have pin2:=pin;unfold inPl at pin2;rw [ht,Int.toNat_natCast] at pin2;simp only [Bool.and_eq_true,bne_iff_ne,beq_iff_eq] at pin2;have hek:e.toNat=en:=by omega
   exact Qp2 rb ro _ sa sc fb fo _ na nc m n page w h' hrc hrl hfc hfl hC hn hp t ht e he ⟨en,en1,hen⟩ (by rw [hek];exact QeB (by rw [hke];decide)) pin2.2 pre (by rw [hek];exact hke) (by rw [hek];exact Qjc (Qad hs).2.1 hke) _ rfl
 ·by_cases hin:inPl m (n / 4)=true
  · -- the table is told once
   have pin2:=hin;unfold inPl at pin2;rw [ht,Int.toNat_natCast] at pin2;simp only [Bool.and_eq_true,bne_iff_ne,beq_iff_eq] at pin2;have t1:1≤t:=by omega
   have htn:tabN m (n / 4)=t:=by unfold tabN;rw [if_pos hin,ht];simp
   have htl:t<m.slots.length:=by obtain⟨t',ht',h'⟩:=Qb3 hs hr;omega
   have h40:tabN m (n / 4)≠40:=by rw [htn];omega
   obtain⟨f1,f2,f3,f4,f5⟩:=Qgz hC hn h40;have hnot:0<e→e.toNat<m.slots.length∧m.refs.getD e.toNat 0≠1:=fun x=>by
    rcases hlk with y | ⟨en,hen,en1,hke,_⟩
    ·omega
    ·have hek:e.toNat=en:=by omega
     refine⟨by rw [hek];exact QeB (by rw [hke];decide),fun y=>hi ?_⟩;unfold Qez;rw [he,hin,y];simp;omega
   by_cases hd:wD m n=40
   ·have e1:QbV m n page=none:=by unfold QbV;rw [if_neg hi,if_neg h40,if_pos hd]
    rw [e1];exact QpM rb ro _ sa sc fb fo _ na nc m n page w h' hrc hrl hfc hfl hC hn hp t ht e he _ 0 htn _ rfl t1 pin2.2 hnot hin rfl ⟨f1,f2,if_pos hd⟩
   ·have e1:QbV m n page=some (Qai { wo1 m n with slots:=wL m n page }):=by unfold QbV;rw [if_neg hi,if_neg h40,if_neg hd];rfl
    rw [e1];have hE:=QnY hC hn h40 hd hp;rw [htn] at hE;exact Qp7 rb ro _ sa sc fb fo _ na nc m n page w h' hrc hrl hfc hfl hC hn hp t ht e he _ _ htn _ rfl t1 pin2.2 hnot hin rfl ⟨f1,f2,if_neg hd⟩ hE _ ⟨rfl,Qf7 hC hn h40 hd hp⟩
  ·have htn:tabN m (n / 4)=QaK m.slots:=by unfold tabN;rw [if_neg hin]
   have hmany:1≤t→1<m.refs.getD t 0:=fun t1=>by
    rcases hT with x | ⟨_,_,hc,hrr⟩
    ·omega
    ·have:¬m.refs.getD t 0=1:=fun x=>hin (by
      unfold inPl;rw [ht,Int.toNat_natCast,x];simp;omega)
     omega
   by_cases h40:tabN m (n / 4)=40
   ·have e1:QbV m n page=none:=by unfold QbV;rw [if_neg hi,if_pos h40]
    rw [e1];exact QpQ rb ro _ sa sc fb fo _ na nc m n page w h' hrc hrl hfc hfl hC hn hp t ht e he hpos hmany (by rw [←htn];exact h40)
   ·obtain⟨f1,f2,f3,f4,f5⟩:=Qgz hC hn h40;obtain⟨_,tl,t40,_,_⟩:=Qb4 hC hr h40
    by_cases hd:wD m n=40
    ·have e1:QbV m n page=none:=by unfold QbV;rw [if_neg hi,if_neg h40,if_pos hd]
     rw [e1];exact QpP rb ro _ sa sc fb fo _ na nc m n page w h' hrc hrl hfc hfl hC hn hp t ht e he _ 0 rfl _ rfl hpos hmany ⟨htn.symm,hsp.1,hsp.2,t40,f4,tl⟩ ⟨f1,f2,if_pos hd⟩
    ·have e1:QbV m n page=some (Qai { wo1 m n with slots:=wL m n page }):=by unfold QbV;rw [if_neg hi,if_neg h40,if_neg hd];rfl
     rw [e1];exact QpV rb ro _ sa sc fb fo _ na nc m n page w h' hrc hrl hfc hfl hC hn hp t ht e he _ _ rfl _ rfl hpos hmany ⟨htn.symm,hsp.1,hsp.2,t40,f4,tl⟩ ⟨f1,f2,if_neg hd⟩ (QnY hC hn h40 hd hp) _ ⟨rfl,Qf7 hC hn h40 hd hp⟩
theorem Qkg {w:World}{v:Value}{m:ImgD}(h:Img w v m)(n:Int)(page:ByteArray){M:ImgD}{E:Int}(hM:wrM m n page=M)(hE:wrE m n page=E):Calls Tryz.prog 11 #[v,.int .i64 n,.string page] w (AnsJ w M E):=by
 have h':=h;obtain⟨ra,rc,sa,sc,fa,fc,na,nc,rfl,_⟩:=h.parts;subst hM hE;unfold wrM wrE
 by_cases hl:Qbk m n=0
 ·have hne:¬Qbk m n≠0:=by simpa using hl
  rw [if_neg hne,if_neg hne]
  by_cases hp:page.size=4
  ·rw [if_pos hp,if_pos hp];obtain⟨hC,n0,hn⟩:=QcY hl;obtain⟨k,rfl⟩:=Int.eq_ofNat_of_zero_le n0;exact Qp5 h' hC hn hp
  ·rw [if_neg hp,if_neg hp];exact QpG ra rc sa sc fa fc na nc m n page w h' hl (by simp;omega)
 ·rw [if_pos hl,if_pos hl];exact Qpn ra rc sa sc fa fc na nc m n page w h' _ rfl (by simpa using hl)

theorem Qpq {m:ImgD}{a:Nm}(h:Qaj m a)(e:a.kind=3):a=.snaps:=QiE h.live e
theorem QgM {W W':World}{B n size:Nat}{e:TypeId}{v:Value}{xs:List Value}(h:W.ownsRow B e size v n xs)(hb:∀g,v.ownBlock=some g→W'.heap[g]? = W.heap[g]?):W'.ownsRow B e size v n xs:=by
 refine⟨h.1,?_⟩;rcases h.2 with hn | ⟨g,cap,cur,hv,hb',hg,rest⟩
 ·exact .inl hn
 ·exact .inr ⟨g,cap,cur,hv,hb',(hb g (by rw [hv];rfl)).trans hg,rest⟩
def swN (k:Nat) (a:Nm):Nm:=if a.kind=5∧a.ix=k then .sr (k+1) else if a.kind=5∧a.ix=k+1 then .sr k else a
theorem QgH (k:Nat)(a:Nm):(swN k a).kind=a.kind:=by
 unfold swN
 split
 ·rename_i e;rw [e.1]
 ·split
  ·rename_i e;rw [e.1]
  ·rfl
theorem Qfv {k:Nat}{a:Nm}(h:a.kind≠5):swN k a=a:=by unfold swN;rw [if_neg (fun e=>h e.1),if_neg (fun e=>h e.1)]
theorem Qmq (k:Nat)(a:Nm):swN k (swN k a)=a:=by
 obtain⟨x,i⟩:=a;unfold swN
 by_cases h1:x=5
 ·subst h1
  by_cases h2:i=k
  ·subst h2;simp
  ·by_cases h3:i=k+1
   ·subst h3;simp
   ·simp [h2,h3]
 ·simp [h1]
def swI (k j:Nat):Nat:=if j=k then k+1 else if j=k+1 then k else j
theorem Qjr (k j:Nat):swN k (.sr j)=.sr (swI k j):=by
 unfold swN swI
 by_cases h1:j=k
 ·rw [if_pos ⟨rfl,h1⟩,if_pos h1]
 ·rw [if_neg (fun e=>h1 e.2),if_neg h1]
  by_cases h2:j=k+1
  ·rw [if_pos ⟨rfl,h2⟩,if_pos h2]
  ·rw [if_neg (fun e=>h2 e.2),if_neg h2]
def swV (val:Nm→Value) (k:Nat):Nm→Value:=fun a=>val (swN k a)
theorem Qix {S:List Qav}{k:Nat}{s:Qav}(hk:k<S.length)(j:Nat):(insN k S s).getD j default=(insN (k+1) S s).getD (swI k j) default:=by
 rw [Qbv s (by omega),Qbv s (by omega)];unfold swI Qdr
 by_cases h1:j=k
 ·rw [if_pos h1,if_pos h1,if_pos rfl]
 ·rw [if_neg h1,if_neg h1]
  by_cases h2:j=k+1
  ·rw [if_pos h2,if_neg (by omega),if_neg (by omega),if_pos (by omega)];congr 1;omega
  ·rw [if_neg h2,if_neg h2]
   by_cases h3:j<k
   ·rw [if_pos h3,if_pos (by omega)]
   ·rw [if_neg h3,if_neg (by omega)]
theorem Qpk {k j n:Nat}(hk:k+1<n)(hj:j<n):swI k j<n:=by unfold swI;split <;> (try split) <;> omega
theorem QeS {m:ImgD}{k:Nat}{s:Qav}(hk:k<m.snaps.length){a:Nm}(h:Qaj (insM m k s) a):Qaj (insM m (k+1) s) (swN k a):=by
 have e1:(insM m k s).snaps.length=m.snaps.length+1:=Qbd s (by omega);have e2:(insM m (k+1) s).snaps.length=m.snaps.length+1:=Qbd s (by omega);rcases h with ⟨h1,h2⟩ | ⟨h1,h2⟩ | ⟨h1,h2⟩
 ·rw [Qfv (by omega)];exact .inl ⟨h1,h2⟩
 ·rw [Qfv (by omega)];exact .inr (.inl ⟨h1,h2⟩)
 ·obtain⟨x,i⟩:=a;dsimp only at h1 h2;subst h1;rw [show (⟨5,i⟩:Nm)=.sr i from rfl,Qjr];exact Qaj.sr (by rw [e2];exact Qpk (by omega) (by omega))
theorem Qm6 {S:List Qav}{k:Nat}{s:Qav}(hk:k<S.length)(qv:Nat→Value):QaY (insN k S s) (fun j=>qv (swI k j))=((((((QaY (insN (k+1) S s) qv).set (k*3) (.string s.1)).set (k*3+1) (.int .i64 s.2.1)).set (k*3+2) (qv (k+1))).set ((k+1)*3) (.string (S.getD k default).1)).set ((k+1)*3+1) (.int .i64 (S.getD k default).2.1)).set ((k+1)*3+2) (qv k):=by
 have l1:=Qbd (S:=S) (k:=k) s (by omega);have l2:=Qbd (S:=S) (k:=k+1) s (by omega);have hL:=Qbi (insN (k+1) S s) qv;refine ext3 (n:=S.length+1) (by rw [Qbi,l1]) (by simp only [List.length_set];rw [hL,l2]) fun q hq=>?_
 obtain⟨a,b,c⟩:=Qa8 (S:=insN k S s) (qv:=fun j=>qv (swI k j)) (j:=q) (by omega);rw [a,b,c,Qix hk];simp only [List.getElem?_set,List.length_set,hL,l2]
 by_cases h1:q=k
 ·subst h1;have e:(insN (q+1) S s).getD (q+1) default=s:=by rw [Qbv s (by omega),if_pos rfl]
  have es:swI q q=q+1:=by unfold swI;rw [if_pos rfl]
  rw [es,e];refine⟨?_,?_,?_⟩
  ·rw [if_neg (by omega),if_neg (by omega),if_neg (by omega),if_neg (by omega),if_neg (by omega),if_pos rfl,if_pos (by omega)]
  ·rw [if_neg (by omega),if_neg (by omega),if_neg (by omega),if_neg (by omega),if_pos rfl,if_pos (by omega)]
  ·rw [if_neg (by omega),if_neg (by omega),if_neg (by omega),if_pos rfl,if_pos (by omega)]
 ·by_cases h2:q=k+1
  ·subst h2;have e:(insN (k+1) S s).getD k default=S.getD k default:=by rw [Qbv s (by omega),if_neg (by omega)];unfold Qdr;rw [if_pos (by omega)]
   have es:swI k (k+1)=k:=by unfold swI;rw [if_neg (by omega),if_pos rfl]
   rw [es,e];refine⟨?_,?_,?_⟩
   ·rw [if_neg (by omega),if_neg (by omega),if_pos rfl,if_pos (by omega)]
   ·rw [if_neg (by omega),if_pos rfl,if_pos (by omega)]
   ·rw [if_pos rfl,if_pos (by omega)]
  ·have es:swI k q=q:=by unfold swI;rw [if_neg h1,if_neg h2]
   obtain⟨a',b',c'⟩:=Qa8 (S:=insN (k+1) S s) (qv:=qv) (j:=q) (by omega);rw [es];refine⟨?_,?_,?_⟩
   ·rw [if_neg (by omega),if_neg (by omega),if_neg (by omega),if_neg (by omega),if_neg (by omega),if_neg (by omega),a']
   ·rw [if_neg (by omega),if_neg (by omega),if_neg (by omega),if_neg (by omega),if_neg (by omega),if_neg (by omega),b']
   ·rw [if_neg (by omega),if_neg (by omega),if_neg (by omega),if_neg (by omega),if_neg (by omega),if_neg (by omega),c']
theorem Qo6 {V X:World}{D k g cap:Nat}{val:Nm→Value}{m:ImgD}{s:Qav}(hk:k<m.snaps.length)(hX:OX X V.heap.size val (insM m (k+1) s))(hbel:Below V.heap.size V X)(hbox:X.heap[D]? = some (.cells #[.int .i64 m.guest,val .root,val .slots,val .refs,val .snaps] 26))(hge:V.heap.size≤D)(hfar:∀a,Qaj (insM m (k+1) s) a→(val a).ownBlock≠some D)
  (hv:val .snaps=.slice (some ⟨g,0,none⟩) (m.snaps.length+1) cap) :
  OwR V ((((((X.setCell ⟨g,k*3,none⟩ (.string s.1)).setCell ⟨g,k*3+1,none⟩ (.int .i64 s.2.1)).setCell ⟨g,k*3+2,none⟩ (val (.sr (k+1)))).setCell ⟨g,(k+1)*3,none⟩ (.string (m.snaps.getD k default).1)).setCell ⟨g,(k+1)*3+1,none⟩ (.int .i64 (m.snaps.getD k default).2.1)).setCell ⟨g,(k+1)*3+2,none⟩ (val (.sr k))) D (insM m k s):=by
 have hrow:X.ownsRow V.heap.size 39 3 (val .snaps) (insM m (k+1) s).snaps.length (QaY (insM m (k+1) s).snaps (fun j=>val (.sr j))):=hX.row .snaps (Qaj.snaps _);have l1:(insM m k s).snaps.length=m.snaps.length+1:=Qbd s (by omega);have l2:(insM m (k+1) s).snaps.length=m.snaps.length+1:=Qbd s (by omega);rw [l2,hv] at hrow;have hgV:V.heap.size≤g:=(Qc0 hrow).1;have hgD:D≠g:=fun e=>hfar .snaps (Qaj.snaps _) (by rw [hv,e];rfl)
 have hoth:∀ (W:World) (i:Nat) (u:Value) (q:Nat),q≠g→(W.setCell ⟨g,i,none⟩ u).heap[q]? = W.heap[q]?:=fun W i u q hq=>Below.heap_setCell W ⟨g,i,none⟩ u q hq
 have h6:=(((((((hrow.stored (k*3) (.string s.1)).1).stored (k*3+1) (.int .i64 s.2.1)).1).stored (k*3+2) (val (.sr (k+1)))).1).stored ((k+1)*3) (.string (m.snaps.getD k default).1)).1;have h6:=(h6.stored ((k+1)*3+1) (.int .i64 (m.snaps.getD k default).2.1)).1;have h6:=(h6.stored ((k+1)*3+2) (val (.sr k))).1;have hap:∀a,Qaj (insM m (k+1) s) a→a.kind≠3→∀q,(val a).ownBlock=some q→q≠g:=fun a ha e q hq x=>hX.apart a .snaps ha (Qaj.snaps _) (fun y=>e (by rw [y])) q hq (by rw [hv,x];rfl)
 have hsame:∀q,q≠g→((((((X.setCell ⟨g,k*3,none⟩ (.string s.1)).setCell ⟨g,k*3+1,none⟩ (.int .i64 s.2.1)).setCell ⟨g,k*3+2,none⟩ (val (.sr (k+1)))).setCell ⟨g,(k+1)*3,none⟩ (.string (m.snaps.getD k default).1)).setCell ⟨g,(k+1)*3+1,none⟩ (.int .i64 (m.snaps.getD k default).2.1)).setCell ⟨g,(k+1)*3+2,none⟩ (val (.sr k))).heap[q]? = X.heap[q]?:=fun q hq=>by
  rw [hoth _ _ _ q hq,hoth _ _ _ q hq,hoth _ _ _ q hq,hoth _ _ _ q hq,hoth _ _ _ q hq,hoth _ _ _ q hq]
 have hk3:∀a:Nm,a.kind≠5→swV val k a=val a:=fun a ha=>by unfold swV;rw [Qfv ha]
 have hfl:(fun j=>swV val k (.sr j))=fun j=>(fun i=>val (.sr i)) (swI k j):=by funext j;show val (swN k (.sr j))=_;rw [Qjr]
 have hO:OX ((((((X.setCell ⟨g,k*3,none⟩ (.string s.1)).setCell ⟨g,k*3+1,none⟩ (.int .i64 s.2.1)).setCell ⟨g,k*3+2,none⟩ (val (.sr (k+1)))).setCell ⟨g,(k+1)*3,none⟩ (.string (m.snaps.getD k default).1)).setCell ⟨g,(k+1)*3+1,none⟩ (.int .i64 (m.snaps.getD k default).2.1)).setCell ⟨g,(k+1)*3+2,none⟩ (val (.sr k))) V.heap.size (swV val k) (insM m k s):=by
  refine⟨fun a ha=>?_,fun a b ha hb hab q hq=>?_,fun j hj he=>hX.loose j hj he⟩
  ·by_cases e:a.kind=3
   ·have ea:=Qpq ha e;subst ea
    show World.ownsRow _ V.heap.size 39 3 (swV val k .snaps) (insM m k s).snaps.length (QaY (insN k m.snaps s) (fun j=>swV val k (.sr j)))
    rw [hfl,Qm6 hk (fun i=>val (.sr i)),l1,hk3 .snaps (by decide),hv];exact h6
   ·have hl:=QeS hk ha;have hr:=hX.row _ hl;have hr:=QgM hr (fun q hq=>hsame q (hap _ hl (by rw [QgH];exact e) q hq));have e1:rowT (swN k a)=rowT a:=by unfold rowT;rw [QgH]
    have e2:rowS (swN k a)=rowS a:=by unfold rowS;rw [QgH]
    rw [e1,e2] at hr;rcases ha.cases with rfl | rfl | rfl | rfl | ⟨j,rfl,hj,_⟩ | ⟨j,rfl,hj⟩
    ·exact hr
    ·exact hr
    ·exact hr
    ·exact absurd rfl e
    ·exact hr
    ·have e3:rowN (insM m k s) (.sr j)=rowN (insM m (k+1) s) (swN k (.sr j)):=by
      rw [Qjr]
      show ((insN k m.snaps s).getD j default).2.2.length=((insN (k+1) m.snaps s).getD (swI k j) default).2.2.length
      rw [Qix hk]
     have e4:rowV (insM m k s) (swV val k) (.sr j)=rowV (insM m (k+1) s) val (swN k (.sr j)):=by
      rw [Qjr]
      show ints ((insN k m.snaps s).getD j default).2.2=ints ((insN (k+1) m.snaps s).getD (swI k j) default).2.2
      rw [Qix hk]
     rw [e3,e4];exact hr
  ·exact hX.apart _ _ (QeS hk ha) (QeS hk hb) (fun e=>hab (by rw [←Qmq k a,e,Qmq])) q hq
 have hf:∀a,Qaj (insM m k s) a→(swV val k a).ownBlock≠some D:=fun a ha=>hfar _ (QeS hk ha)
 refine⟨⟨swV val k,hO,?_,hf⟩,hge,(((((hbel.setCell (p:=⟨g,k*3,none⟩) hgV _).setCell (p:=⟨g,k*3+1,none⟩) hgV _).setCell (p:=⟨g,k*3+2,none⟩) hgV _).setCell (p:=⟨g,(k+1)*3,none⟩) hgV _).setCell (p:=⟨g,(k+1)*3+1,none⟩) hgV _).setCell (p:=⟨g,(k+1)*3+2,none⟩) hgV _⟩;rw [hk3 .root (by decide),hk3 .slots (by decide),hk3 .refs (by decide),hk3 .snaps (by decide)];exact (hsame D hgD).trans hbox
end Go.Proofs.YtehleeibgkpjmagGreat
