/- Texts joined: CpyI, OfI, FitP, MendI, WrQ, PkP, PkQ, PkR, Strs, FlPlain, PChk, PgPlain, Shelf, PgZero, FlFirst, PgSplit, FlOps, RefF, RdA, SkI, ClnS. -/
import Derived.Test.YtjfkfnjigofmpaaGreatRestImagesJ5
import Derived.Test.YtjfkfnjigofmpaaGreatRestImagesJ1
import Derived.Test.YtjfkfnjigofmpaaGreatRestImagesJ3
import Derived.Deep.CutRange
import Derived.Defers
import Derived.Recover
import Derived.Test.YtjfkfnjigofmpaaGreatRestImagesJ4
import Derived.Test.YtjfkfnjigofmpaaGreatRows
import Derived.WalkLawsBesides
import Derived.Deep.QuietTactic
import Derived.BigQuiet
import Derived.Lib.Strings
import Derived.Lib.Join
import Derived.Lib.Repeat
import Derived.Test.YtjfkfnjigofmpaaGreatChecked
import Derived.Laws.CopyOwn
import Derived.Deep.OwnRows
set_option linter.unusedVariables false
set_option linter.unusedSimpArgs false
set_option maxHeartbeats 200000000
set_option maxRecDepth 20000
namespace Go.Proofs.YtjfkfnjigofmpaaGreat
open Go.RowKit Go.Shelf
def Cp1 (w:World) (m:ImgD) (sa:Option Addr) (sn sc:Nat) (na:Option Addr) (nn nc:Nat) (wx:World):Prop:=∃qa qc ka kc,wx.heap[w.heap.size]? = some (.cells (bI m.guest qa m.root.length qc sa sn sc ka m.refs.length kc na nn nc) 26)∧wx.heap[w.heap.size+1]? = some zI∧Below w.heap.size w wx∧wx.ownsRow (w.heap.size+2) 3 1 (.slice qa m.root.length qc) m.root.length (ints m.root)∧wx.ownsRow (w.heap.size+2) 3 1 (.slice ka m.refs.length kc) m.refs.length (ints m.refs)∧∀q,(Value.slice ka m.refs.length kc).ownBlock=some q→(Value.slice qa m.root.length qc).ownBlock≠some q
def Cp2 (w:World) (m:ImgD) (tv qv:Nat→Value) (wx:World):Prop:=∃qa qc pa pc ka kc ja jc,wx.heap[w.heap.size]? = some (.cells (aI m qa qc pa pc ka kc ja jc) 26)∧wx.heap[w.heap.size+1]? = some zI∧Below w.heap.size w wx∧HC wx (w.heap.size+2) (val4 (.slice qa m.root.length qc) (.slice pa m.slots.length pc) (.slice ka m.refs.length kc) (.slice ja m.snaps.length jc)) m tv qv 0 0
theorem Qcx {W W':World}{B B' n n' size size':Nat}{e e':TypeId}{v v':Value}{xs xs':List Value}(h:W.ownsRow B e size v n xs)(h':W'.ownsRow B' e' size' v' n' xs')(hB:W.heap.size≤B'):∀q,v'.ownBlock=some q→v.ownBlock≠some q:=fun q e x=>by
 have h1:=(h.lt q x).2;have h2:=(h'.lt q e).1;omega
theorem Qco {W W':World}{B n size:Nat}{e:TypeId}{v:Value}{xs:List Value}(h:W.ownsRow B e size v n xs)(hb:Below W.heap.size W W'):W'.ownsRow B e size v n xs:=by
 refine⟨h.1,?_⟩;rcases h.2 with hn | ⟨g,cap,cur,hv,hb',hg,rest⟩
 ·exact .inl hn
 ·exact .inr ⟨g,cap,cur,hv,hb',(hb.block g (szH hg)).trans hg,rest⟩
theorem QaP {W:World}{B B' n size:Nat}{e:TypeId}{v:Value}{xs:List Value}(h:W.ownsRow B e size v n xs)(hB:B'≤B):W.ownsRow B' e size v n xs:=by
 refine⟨h.1,?_⟩;rcases h.2 with hn | ⟨g,cap,cur,hv,hb',rest⟩
 ·exact .inl hn
 ·exact .inr ⟨g,cap,cur,hv,Nat.le_trans hB hb',rest⟩
theorem OI.mono {W:World}{B B':Nat}{val:Nm→Value}{m:ImgD}(h:OI W B val m)(hB:B'≤B):OI W B' val m:=⟨fun a ha=>QaP (h.row a ha) hB,h.apart⟩
structure CpR (w wr:World) (m:ImgD) (tv qv:Nat→Value) (va vb vc vd:Value) (k l:Nat):Prop where
 own:∃val,HC wr (w.heap.size+2) val m tv qv k l∧val .root=va∧val .slots=vb∧val .refs=vc∧val .snaps=vd
 box:wr.heap[w.heap.size]? = some (.cells #[.int .i64 m.guest,va,vb,vc,vd] 26)
 res:wr.heap[w.heap.size+1]? = some zI
 bel:Below w.heap.size w wr
theorem CpR.below {w wr wr':World}{m:ImgD}{tv qv:Nat→Value}{va vb vc vd:Value}{k l:Nat}(h:CpR w wr m tv qv va vb vc vd k l)(hb:Below wr.heap.size wr wr'):CpR w wr' m tv qv va vb vc vd k l:=by
 obtain⟨⟨val,hH,e⟩,h1,h2,h3⟩:=h;exact⟨⟨val,hH.below hb,e⟩,Qab h1 hb (szH h1),Qab h2 hb (szH h2),Below.on h3 hb⟩
theorem CpR.tab {w wr wr':World}{m:ImgD}{tv qv:Nat→Value}{va vc vd v:Value}{k l g n cap:Nat}(h:CpR w wr m tv qv va (.slice (some ⟨g,0,none⟩) n cap) vc vd k l)(hb:Below wr.heap.size wr wr')(hr:wr'.ownsRow wr.heap.size 3 1 v (m.slots.getD k default).2.2.length (ints (m.slots.getD k default).2.2)):CpR w (wr'.setCell ⟨g,k*3+2,none⟩ v) m tv qv va (.slice (some ⟨g,0,none⟩) n cap) vc vd (k+1) l:=by
 have hk:=h.below hb;obtain⟨⟨val,hH,e0,e1,e2,e3⟩,h1,h2,h3⟩:=h;obtain⟨_,k1,k2,k3⟩:=hk;have hg:=(hH.row .slots (.inl ⟨by decide,rfl⟩)).lt g (by rw [e1];rfl);have hsz:w.heap.size+2≤wr.heap.size:=(szH h2);refine⟨⟨upd val (.tab k) v,(hH.below hb).tab e1 (QaP hr hsz) (fun a ha q hq x=>?_),(Qae _ _ (by intro x;cases x)).trans e0,(Qae _ _ (by intro x;cases x)).trans e1,(Qae _ _ (by intro x;cases x)).trans e2,(Qae _ _ (by intro x;cases x)).trans e3⟩,Qan k1 (by omega) _ _,Qan k2 (by omega) _ _,k3.setCell (by show _≤g;omega) _⟩;have x1:=((hH.row a ha).lt q x).2;have x2:=(hr.lt q hq).1;omega
theorem CpR.sr {w wr wr':World}{m:ImgD}{tv qv:Nat→Value}{va vb vc v:Value}{k l g n cap:Nat}(h:CpR w wr m tv qv va vb vc (.slice (some ⟨g,0,none⟩) n cap) k l)(hb:Below wr.heap.size wr wr')(hr:wr'.ownsRow wr.heap.size 3 1 v (m.snaps.getD l default).2.2.length (ints (m.snaps.getD l default).2.2)):CpR w (wr'.setCell ⟨g,l*3+2,none⟩ v) m tv qv va vb vc (.slice (some ⟨g,0,none⟩) n cap) k (l+1):=by
 have hk:=h.below hb;obtain⟨⟨val,hH,e0,e1,e2,e3⟩,h1,h2,h3⟩:=h;obtain⟨_,k1,k2,k3⟩:=hk;have hg:=(hH.row .snaps (.inl ⟨by decide,rfl⟩)).lt g (by rw [e3];rfl);have hsz:w.heap.size+2≤wr.heap.size:=(szH h2);refine⟨⟨upd val (.sr l) v,(hH.below hb).sr e3 (QaP hr hsz) (fun a ha q hq x=>?_),(Qae _ _ (by intro x;cases x)).trans e0,(Qae _ _ (by intro x;cases x)).trans e1,(Qae _ _ (by intro x;cases x)).trans e2,(Qae _ _ (by intro x;cases x)).trans e3⟩,Qan k1 (by omega) _ _,Qan k2 (by omega) _ _,k3.setCell (by show _≤g;omega) _⟩;have x1:=((hH.row a ha).lt q x).2;have x2:=(hr.lt q hq).1;omega
theorem QmH (m:ImgD)(ra:Option Addr)(rn rc:Nat)(sa:Option Addr)(sn sc:Nat)(fa:Option Addr)(fn fc:Nat)(na:Option Addr)(nn nc:Nat)(w:World)(h0:Sl w (.slice ra rn rc) m.root)(h1:QaQ w (.slice sa sn sc) m.slots)(h2:Sl w (.slice fa fn fc) m.refs)(h3:QbG w (.slice na nn nc) m.snaps)(hF:Fits m) :
  Calls Tryz.prog 61 #[.agg (bI m.guest ra rn rc sa sn sc fa fn fc na nn nc)] w fun r w'=>∃val,r=.returned (imgV m.guest val)∧OI w' w.heap.size val m∧Below w.heap.size w w':=by
 have m0:((w.alloc (.cells (bI m.guest ra rn rc sa sn sc fa fn fc na nn nc) 26)).alloc zI).heap[w.heap.size]? = some (.cells (bI m.guest ra rn rc sa sn sc fa fn fc na nn nc) 26):=Qac (zHn _ _) _;have mz:((w.alloc (.cells (bI m.guest ra rn rc sa sn sc fa fn fc na nn nc) 26)).alloc zI).heap[w.heap.size+1]? = some zI:=by have:=World.alloc_heap_new (w.alloc (.cells (bI m.guest ra rn rc sa sn sc fa fn fc na nn nc) 26)) zI;simpa using this
 obtain⟨c0,c1,c2,c3,c4⟩:=five m0;have b0:Below w.heap.size w ((w.alloc (.cells (bI m.guest ra rn rc sa sn sc fa fn fc na nn nc) 26)).alloc zI):=(bA).alloc (by simp) _;obtain⟨W0,hW0⟩:∃W0,((w.alloc (.cells (bI m.guest ra rn rc sa sn sc fa fn fc na nn nc) 26)).alloc zI)=W0:=⟨_,rfl⟩
 go_enter Tryz.func61,Tryz.ntmps61
 go_upto_region 1 with fail;rw [hW0] at m0 mz c0 c1 c2 c3 c4 b0;have hz0:w.heap.size+2≤W0.heap.size:=by rw [←hW0];simp
 clear hW0
 go_cut [] from 7 (fun wx=>Cp1 w m sa sn sc na nn nc wx)
 case first=>
  go_region_with
   (first
    | (go_at_call 33;refine (QcF (h0.below (Qax b0)) hF.root).mono ?_;rintro e w1 ⟨vr,rfl,hr0,bb1⟩;have bb1:=Qat bb1;have m1:=Qab m0 bb1 (by omega);have mz1:=Qab mz bb1 (by omega);obtain⟨d0,d1,d2,d3,d4⟩:=five m1;obtain⟨qa,qc,rfl⟩:=QaH hr0)
    | (go_at_call 33;refine (QcF ((h2.below b0).below bb1) hF.refs).mono ?_;rintro e w2 ⟨vf,rfl,hr2,bb2⟩;have m2:=Qab m1 bb2 (szH m1);have mz2:=Qab mz1 bb2 (szH mz1);obtain⟨g0,g1,g2,g3,g4⟩:=five m2;have f1:=Qaa m2 1;have f3:=Qaa m2 3;obtain⟨ka,kc,rfl⟩:=QaH hr2))
  all_goals
   go_wp2_with fail;go_meet;have hz1:w.heap.size+2≤w1.heap.size:=Nat.le_trans hz0 bb1.size;have hr0':W0.heap.size=W0.drew.heap.size:=rfl;have hr0a:=hr0;have hr0:=QaP (Qco hr0 bb2) (B':=w.heap.size+2) (by rw [←hr0'];exact hz0);have hr2':=QaP hr2 (B':=w.heap.size+2) hz1;refine⟨qa,qc,ka,kc,?_,Qan (Qan mz2 (by omega) _ _) (by omega) _ _,((Below.on b0 (Below.on bb1 bb2)).setCell (Nat.le_refl _) _).setCell (Nat.le_refl _) _,ownsRow_setCell_below (ownsRow_setCell_below hr0 (show w.heap.size<w.heap.size+2 by omega) _) (show w.heap.size<w.heap.size+2 by omega) _,ownsRow_setCell_below (ownsRow_setCell_below hr2' (show w.heap.size<w.heap.size+2 by omega) _) (show w.heap.size<w.heap.size+2 by omega) _,?_⟩
   ·exact Qau (Qau m2 1 _) 3 _
   ·exact Qcx hr0a hr2 (Nat.le_refl _)
 case rest=>
 obtain⟨qa,qc,ka,kc,m1,mz1,b1,hr0,hr2,ap⟩:=hcut;obtain⟨d0,d1,d2,d3,d4⟩:=five m1;have hN1:w.heap.size+2≤wc.heap.size:=(szH mz1);obtain⟨tv,htv,hcs⟩:=Qia h1 hF.slots;obtain⟨qv,hqv,hcn⟩:=Qh0 h3 hF.snaps;clear h0 h2 m0 mz c0 c1 c2 c3 c4 b0 hz0;go_upto_region 2 with fail
 go_cut [] from 15 (fun wx=>Cp2 w m tv qv wx)
 case first=>
  go_region_with
   (first
    | (go_at_call 87;refine (hcs _ (Qax b1)).mono ?_;rintro e w1 ⟨vr,rfl,hr1,bb1⟩;have bb1:=Qat bb1;have m2:=Qab m1 bb1 (by omega);have mz2:=Qab mz1 bb1 (by omega);obtain⟨g0,g1,g2,g3,g4⟩:=five m2;obtain⟨pa,pc,rfl⟩:=QaH hr1)
    | (go_at_call 88;refine (hcn _ (Below.on b1 bb1)).mono ?_;rintro e w2 ⟨vf,rfl,hr3,bb2⟩;have m3:=Qab m2 bb2 (szH m2);have mz3:=Qab mz2 bb2 (szH mz2);obtain⟨i0,i1,i2,i3,i4⟩:=five m3;have f2:=Qaa m3 2;have f4:=Qaa m3 4;obtain⟨ja,jc,rfl⟩:=QaH hr3))
  all_goals
   go_wp2_with fail;go_meet;have hz1:w.heap.size+2≤w1.heap.size:=Nat.le_trans hN1 bb1.size;have hdz:wc.heap.size=wc.drew.heap.size:=rfl;have bb12:=Below.on bb1 bb2;have r1':=QaP (Qco hr1 bb2) (B':=w.heap.size+2) (by rw [←hdz];exact hN1);have r3':=QaP hr3 (B':=w.heap.size+2) hz1;have r0':=Qco hr0 bb12;have r2':=Qco hr2 bb12;have hset:∀ {B n size:Nat} {e:TypeId} {v:Value} {xs:List Value} {u u':Value},w2.ownsRow B e size v n xs→w.heap.size<B→((w2.setCell ⟨w.heap.size,2,none⟩ u).setCell ⟨w.heap.size,4,none⟩ u').ownsRow B e size v n xs:=fun h hB=>ownsRow_setCell_below (ownsRow_setCell_below h hB _) hB _
   have hbz:Below w.heap.size w ((w2.setCell ⟨w.heap.size,2,none⟩ (.slice pa m.slots.length pc)).setCell ⟨w.heap.size,4,none⟩ (.slice ja m.snaps.length jc)):=((Below.on b1 bb12).setCell (Nat.le_refl _) _).setCell (Nat.le_refl _) _;have hlt:w.heap.size<w.heap.size+2:=by omega
   have r0a:=Qco hr0 bb1;have r2a:=Qco hr2 bb1;refine⟨qa,qc,pa,pc,ka,kc,ja,jc,?_,Qan (Qan mz3 (by omega) _ _) (by omega) _ _,hbz,HC.start (hset r0' hlt) (hset r1' hlt) (hset r2' hlt) (hset r3' hlt) (Qcx hr0 hr1 (Nat.le_refl _)) ap (Qcx r0a hr3 (Nat.le_refl _)) (Qcx hr2 hr1 (Nat.le_refl _)) (Qcx hr1 hr3 (Nat.le_refl _)) (Qcx r2a hr3 (Nat.le_refl _))⟩;exact Qau (Qau m3 2 _) 4 _
 case rest=>
 obtain⟨qa,qc,pa,pc,ka,kc,ja,jc,m2,mz2,b2,hH⟩:=hcut;have HS:Hid (CpR w wc m tv qv (.slice qa m.root.length qc) (.slice pa m.slots.length pc) (.slice ka m.refs.length kc) (.slice ja m.snaps.length jc) 0 0):=⟨⟨_,hH,rfl,rfl,rfl,rfl⟩,m2,mz2,b2⟩;have HT:Hid (∀j,j<m.slots.length→Sl w (tv j) (m.slots.getD j default).2.2):=htv;have HQ:Hid (∀j,j<m.snaps.length→Sl w (qv j) (m.snaps.getD j default).2.2):=hqv;have HL:Hid (m.slots.length≤9223372036854775807∧m.snaps.length≤9223372036854775807):=⟨h1.small,h3.small⟩;obtain⟨e0,e1,e2,e3,e4⟩:=five m2;clear hH m2 mz2 b2 htv hqv hcs hcn h1 h3 d0 d1 d2 d3 d4 m1 mz1 b1 hr0 hr2 ap hN1;go_wp2_with fail;clear e0 e1 e2 e3 e4
 go_loopw [26] (fun i wr=>∃k:Nat,k≤m.slots.length∧i=.int .i64 k∧Hid (CpR w wr m tv qv (.slice qa m.root.length qc) (.slice pa m.slots.length pc) (.slice ka m.refs.length kc) (.slice ja m.snaps.length jc) k 0)) (fun i _=>m.slots.length - (intOf i).toNat)
 case atStart=>exact⟨0,Nat.zero_le _,rfl,HS⟩
 case round=>
  obtain⟨k,hk,rfl,HC⟩:=hrel
  by_cases hlk:k<m.slots.length
  ·obtain⟨g,rfl⟩:∃g,pa=some ⟨g,0,none⟩:=by
    obtain⟨⟨val,hH,_,e1,_⟩,_⟩:=HC.out;have hr:=hH.row .slots (.inl ⟨by decide,rfl⟩);rw [e1] at hr;rcases QaL hr with ⟨e,hn⟩ | ⟨g,cap,e,_⟩
    ·have hn:m.slots.length=0:=hn;omega
    ·simp at e;exact⟨g,e.1⟩
   obtain⟨s,hs⟩:∃s,s=m.slots.getD k default:=⟨_,rfl⟩;obtain⟨kk,dd,tt⟩:=s;have hSl:=HT.out k hlk;obtain⟨ta,tc,htv⟩:=hSl.form;have HSl:Hid (Sl w (.slice ta tt.length tc) tt∧tv k=.slice ta tt.length tc):=by rw [←hs] at hSl htv;exact⟨htv ▸ hSl,htv⟩
   have HK:Hid ((kk,dd,tt)=m.slots.getD k default):=hs;clear hs hSl htv;have hki:(k:Int)<(m.slots.length:Int):=by omega
   have hL:=HL.out.1;have hL1:(k:Int)+1≤9223372036854775807:=by omega
   obtain⟨⟨val,hH,_,e1,_⟩,hbox,hres,hbel⟩:=HC.out;have hr:=hH.row .slots (.inl ⟨by decide,rfl⟩);rw [e1] at hr;have hr:wr.ownsRow (w.heap.size+2) 37 3 (.slice (some ⟨g,0,none⟩) m.slots.length pc) m.slots.length (QaE m.slots (fun j=>if j<k then val (.tab j) else tv j)):=hr;have hgl:=hr.lt g rfl;obtain⟨s0,s1,s2⟩:=QaO (L:=m.slots) (tv:=fun j=>if j<k then val (.tab j) else tv j) (j:=k) hlk;rw [←HK.out] at s0 s1;rw [if_neg (Nat.lt_irrefl k),HSl.out.2] at s2;have t0:wr.cell? ⟨g,k*3,none⟩=some (.int .i64 kk):=(hr.cellAt (k*3) (by omega)).trans s0;have t1:wr.cell? ⟨g,k*3+1,none⟩=some (.string dd):=(hr.cellAt (k*3+1) (by omega)).trans s1;have t2:wr.cell? ⟨g,k*3+2,none⟩=some (.slice ta tt.length tc):=(hr.cellAt (k*3+2) (by omega)).trans s2;have hA:=Below.heap_alloc wr (.cells #[.int .i64 kk,.string dd,.slice ta tt.length tc] 37);have ba:Below wr.heap.size wr (wr.alloc (.cells #[.int .i64 kk,.string dd,.slice ta tt.length tc] 37)):=bA;have hNr:w.heap.size+2≤wr.heap.size:=(szH hres);obtain⟨x0,x1,x2,x3,x4⟩:=five (Qab hbox ba (by omega));have ms:(wr.alloc (.cells #[.int .i64 kk,.string dd,.slice ta tt.length tc] 37)).heap[wr.heap.size]? = some (.cells #[.int .i64 kk,.string dd,.slice ta tt.length tc] 37):=zHn _ _;obtain⟨y0,y1,y2⟩:=Qb6 ms;have hcl:=QcF (w:=(wr.alloc (.cells #[.int .i64 kk,.string dd,.slice ta tt.length tc] 37)).drew) ((HSl.out.1.below hbel).below (Qax ba)) (by have:=hF.tab k hlk;rw [←HK.out] at this;exact this);clear hA hH e1 hbox hres hbel hr s0 s1 s2;go_wp2_with fail
   go_region_with (first | (go_at_call 33;refine hcl.mono ?_;rintro e w1 ⟨vt,rfl,hrt,bt⟩;have bt:=Qat bt;have bw:=Below.on ba bt;have hN:=HC.out.below bw;obtain⟨z0,z1,z2,z3,z4⟩:=five hN.box;have HRT:Hid (w1.ownsRow wr.heap.size 3 1 vt tt.length (ints tt)):=QaP hrt (by show _≤(wr.alloc _).heap.size;simp);obtain⟨oa,oc,rfl⟩:=QaH hrt;have q2:=(bw.cell (p:=⟨g,k*3+2,none⟩) hgl.2).trans t2;have qf:w1.frozen? ⟨g,k*3+2,none⟩=false:=by (obtain⟨⟨val,hH,_,e1,_⟩,_⟩:=hN;have hr:=hH.row .slots (.inl ⟨by decide,rfl⟩);rw [e1] at hr;exact hr.frozenAt _)))
   all_goals
    have HN:Hid (CpR w (w1.setCell ⟨g,k*3+2,none⟩ (.slice oa tt.length oc)) m tv qv (.slice qa m.root.length qc) (.slice (some ⟨g,0,none⟩) m.slots.length pc) (.slice ka m.refs.length kc) (.slice ja m.snaps.length jc) (k+1) 0):=HC.out.tab bw (by rw [←HK.out];exact HRT.out);go_wp2_with fail;go_roundw
    case rel=>exact⟨k+1,by omega,by go_num,HN⟩
    case measure=>simp [intOf];omega
  ·have ek:k=m.slots.length:=by omega
   subst ek;obtain⟨x,hrn⟩:∃X,X=wr:=⟨_,rfl⟩;subst hrn;obtain⟨y0,y1,y2,y3,y4⟩:=five HC.out.box;go_wp2_with fail;clear y0 y1 y2 y3 y4
   go_loopw [43] (fun i wr=>∃l:Nat,l≤m.snaps.length∧i=.int .i64 l∧Hid (CpR w wr m tv qv (.slice qa m.root.length qc) (.slice pa m.slots.length pc) (.slice ka m.refs.length kc) (.slice ja m.snaps.length jc) m.slots.length l)) (fun i _=>m.snaps.length - (intOf i).toNat)
   case atStart=>exact⟨0,Nat.zero_le _,rfl,HC⟩
   case round=>
    obtain⟨l,hl,rfl,HD⟩:=hrel
    by_cases hll:l<m.snaps.length
    ·obtain⟨g,rfl⟩:∃g,ja=some ⟨g,0,none⟩:=by
      obtain⟨⟨val,hH,_,_,_,e3⟩,_⟩:=HD.out;have hr:=hH.row .snaps (.inl ⟨by decide,rfl⟩);rw [e3] at hr;rcases QaL hr with ⟨e,hn⟩ | ⟨g,cap,e,_⟩
      ·have hn:m.snaps.length=0:=hn;omega
      ·simp at e;exact⟨g,e.1⟩
     obtain⟨s,hs⟩:∃s,s=m.snaps.getD l default:=⟨_,rfl⟩;obtain⟨nm,sg,tt⟩:=s;have hSl:=HQ.out l hll;obtain⟨ta,tc,htv⟩:=hSl.form;have HSl:Hid (Sl w (.slice ta tt.length tc) tt∧qv l=.slice ta tt.length tc):=by rw [←hs] at hSl htv;exact⟨htv ▸ hSl,htv⟩
     have HK:Hid ((nm,sg,tt)=m.snaps.getD l default):=hs;clear hs hSl htv;have hki:(l:Int)<(m.snaps.length:Int):=by omega
     have hL:=HL.out.2;have hL1:(l:Int)+1≤9223372036854775807:=by omega
     obtain⟨⟨val,hH,_,_,_,e3⟩,hbox,hres,hbel⟩:=HD.out;have hr:=hH.row .snaps (.inl ⟨by decide,rfl⟩);rw [e3] at hr;have hr:wr.ownsRow (w.heap.size+2) 39 3 (.slice (some ⟨g,0,none⟩) m.snaps.length jc) m.snaps.length (QaY m.snaps (fun j=>if j<l then val (.sr j) else qv j)):=hr;have hgl:=hr.lt g rfl;obtain⟨s0,s1,s2⟩:=Qa8 (S:=m.snaps) (qv:=fun j=>if j<l then val (.sr j) else qv j) (j:=l) hll;rw [←HK.out] at s0 s1;rw [if_neg (Nat.lt_irrefl l),HSl.out.2] at s2;have t0:wr.cell? ⟨g,l*3,none⟩=some (.string nm):=(hr.cellAt (l*3) (by omega)).trans s0;have t1:wr.cell? ⟨g,l*3+1,none⟩=some (.int .i64 sg):=(hr.cellAt (l*3+1) (by omega)).trans s1;have t2:wr.cell? ⟨g,l*3+2,none⟩=some (.slice ta tt.length tc):=(hr.cellAt (l*3+2) (by omega)).trans s2;have ba:Below wr.heap.size wr (wr.alloc (.cells #[.string nm,.int .i64 sg,.slice ta tt.length tc] 39)):=bA;have hNr:w.heap.size+2≤wr.heap.size:=(szH hres);obtain⟨x0,x1,x2,x3,x4⟩:=five (Qab hbox ba (by omega));have ms:(wr.alloc (.cells #[.string nm,.int .i64 sg,.slice ta tt.length tc] 39)).heap[wr.heap.size]? = some (.cells #[.string nm,.int .i64 sg,.slice ta tt.length tc] 39):=zHn _ _;obtain⟨y0,y1,y2⟩:=Qb6 ms;have hcl:=QcF (w:=(wr.alloc (.cells #[.string nm,.int .i64 sg,.slice ta tt.length tc] 39)).drew) ((HSl.out.1.below hbel).below (Qax ba)) (by have:=hF.sr l hll;rw [←HK.out] at this;exact this);clear hH e3 hbox hres hbel hr s0 s1 s2;go_wp2_with fail
     go_region_with (first | (go_at_call 33;refine hcl.mono ?_;rintro e w1 ⟨vt,rfl,hrt,bt⟩;have bt:=Qat bt;have bw:=Below.on ba bt;have hN:=HD.out.below bw;obtain⟨z0,z1,z2,z3,z4⟩:=five hN.box;have HRT:Hid (w1.ownsRow wr.heap.size 3 1 vt tt.length (ints tt)):=QaP hrt (by show _≤(wr.alloc _).heap.size;simp);obtain⟨oa,oc,rfl⟩:=QaH hrt;have q2:=(bw.cell (p:=⟨g,l*3+2,none⟩) hgl.2).trans t2;have qf:w1.frozen? ⟨g,l*3+2,none⟩=false:=by (obtain⟨⟨val,hH,_,_,_,e3⟩,_⟩:=hN;have hr:=hH.row .snaps (.inl ⟨by decide,rfl⟩);rw [e3] at hr;exact hr.frozenAt _)))
     all_goals
      have HN:Hid (CpR w (w1.setCell ⟨g,l*3+2,none⟩ (.slice oa tt.length oc)) m tv qv (.slice qa m.root.length qc) (.slice pa m.slots.length pc) (.slice ka m.refs.length kc) (.slice (some ⟨g,0,none⟩) m.snaps.length jc) m.slots.length (l+1)):=HD.out.sr bw (by rw [←HK.out];exact HRT.out);go_wp2_with fail;go_roundw
      case rel=>exact⟨l+1,by omega,by go_num,HN⟩
      case measure=>simp [intOf];omega
    ·have el:l=m.snaps.length:=by omega
     subst el;obtain⟨⟨val,hH,e0,e1,e2,e3⟩,hbox,hres,hbel⟩:=HD.out;obtain⟨x0,x1,x2,x3,x4⟩:=five hbox;obtain⟨z0,z1,z2,z3,z4⟩:=five hres;have y0:=Qaa hres 0;have y1:=Qaa hres 1;have y2:=Qaa hres 2;have y3:=Qaa hres 3;have y4:=Qaa hres 4;have HF:Hid (OI wr (w.heap.size+2) val m):=hH.done;clear hH;go_wp2_with fail;have hf:∀a,Live m a→(val a).ownBlock≠some (w.heap.size+1):=fun a ha e=>by have:=((HF.out.row a ha).lt _ e).1;omega
     have hB1:w.heap.size≤w.heap.size+1:=Nat.le_succ _;refine bodyPost_ret (v:=.agg (aI m qa qc pa pc ka kc ja jc)) (by simp [results,Tryz.results61,go_sem,z0,z1,z2,z3,z4]) rfl ⟨val,?_,OI.mono (((((HF.out.far hf).far hf).far hf).far hf).far hf) (by omega),((((hbel.setCell hB1 _).setCell hB1 _).setCell hB1 _).setCell hB1 _).setCell hB1 _⟩;unfold imgV;rw [e0,e1,e2,e3]
theorem Qe2 {w:World}{v:Value}{m:ImgD}(h:Img w v m)(hF:Fits m) :
  Calls Tryz.prog 61 #[v] w fun r w'=>∃val,r=.returned (imgV m.guest val)∧OI w' w.heap.size val m∧Below w.heap.size w w':=by
 obtain⟨ra,rc,sa,sc,fa,fc,na,nc,rfl,h1,h2,h3,h4⟩:=h.parts;exact QmH m ra _ rc sa _ sc fa _ fc na _ nc w h1 h2 h3 h4 hF

theorem Qf7 (p:Addr)(w:World) :
  CallsD Tryz.prog 60 #[.pointer (some p)] .returning w fun e u' w'=>e=.returned (.tuple #[])∧u'=.returning∧w'=w:=by
 refine callsD_of_wpS Tryz.func60 rfl fun c₀ cs hu=>?_
 apply wpS_seq
 apply wpS_region
 simp [wpOpsS,go_sem,recoverD,hu,Tryz.ntmps60,Exit.thenS]
 refine wpS_of_wp ?_;simp only [Array.replicate_succ,Array.replicate_zero,List.push_toArray,List.append_toArray,List.nil_append,List.cons_append,List.setIfInBounds_toArray,List.set_cons_zero,List.set_cons_succ]
 go_wp2
 cases c₀
 simp_all [bodyPostS,results,Tryz.results60]
theorem QjM (b:Nat)(x:Int)(older:List PanicEntry)(w:World)(hc:w.cell? ⟨b,0,none⟩=some (.int .i64 x))(hz:w.frozen? ⟨b,0,none⟩=false)(hb:b<w.heap.size) :
  CallsD Tryz.prog 60 #[.pointer (some ⟨b,0,none⟩)] (.panicking ({ v:=.iface 83 (.agg #[]),recovered:=false } :: older)) w fun e u' w'=>
   e=.returned (.tuple #[])∧u'=.panicking ({ v:=.iface 83 (.agg #[]),recovered:=true } :: older)∧w'=(w.setCell ⟨b,0,none⟩ (.int .i64 7)).alloc (.cells #[] 83):=by
 have hta:∀w,(Instr.typeAssert (.iface 83 (.agg #[])) 20 83 true).run Tryz.prog w=.ok (.tuple #[.agg #[],.bool true]) w:=fun w=>by kernel_rfl
 have hcA:(w.alloc (.cells #[] 83)).cell? ⟨b,0,none⟩=some (.int .i64 x):=(World.cell?_alloc_past _ _ _ hb).trans hc;have hbn:¬b=w.heap.size:=by omega
 refine callsD_of_wpS Tryz.func60 rfl fun c₀ cs hu=>?_
 apply wpS_seq
 apply wpS_region
 simp [wpOpsS,go_sem,recoverD,hu,Tryz.ntmps60,Exit.thenS]
 refine wpS_of_wp ?_;simp only [Array.replicate_succ,Array.replicate_zero,List.push_toArray,List.append_toArray,List.nil_append,List.cons_append,List.setIfInBounds_toArray,List.set_cons_zero,List.set_cons_succ]
 go_wp2
 cases c₀
 simp_all [bodyPostS,results,Tryz.results60]
abbrev Qbm:List PanicEntry:=[{ v:=.iface 83 (.agg #[]),recovered:=false }]
def QfJ (w:World) (N:Nat) (caps:Array Value) (m:ImgD) (o:Option ImgD):Prop:=
 ∀ (W:World) (D B:Nat) (val:Nm→Value),Below w.heap.size w W→w.heap.size≤B→B≤W.heap.size→DK W B D val m→
  Calls Tryz.prog N (#[.pointer (some ⟨D,0,none⟩)] ++ caps) W fun r W'=>match o with
   | some m'=>∃val',r=.returned (.tuple #[])∧DTo W W' B D m val nilV m' val'
   | none=>r=.panicked Qbm∧Below B W W'
theorem Qgb {w:World}{B:Nat}{val:Nm→Value}{m:ImgD}(h:OI w B val m)(hB:B≤w.heap.size):DK (w.alloc (.cells #[.int .i64 m.guest,val .root,val .slots,val .refs,val .snaps] 52)) B w.heap.size val m:=
 ⟨h.alloc _,zHn _ _,hB,h.lt (Nat.le_refl _)⟩
theorem Qoe (m:ImgD)(ra:Option Addr)(rn rc:Nat)(sa:Option Addr)(sn sc:Nat)(fa:Option Addr)(fn fc:Nat)(na:Option Addr)(nn nc:Nat)(N:Nat)(caps:Array Value)(w:World)(h:Img w (.agg (bI m.guest ra rn rc sa sn sc fa fn fc na nn nc)) m)(hF:Fits m)(hN:∀ (args:Array Value) (w:World),(callFunc N args).run Tryz.prog w=.ok (.enter N args) w)(ht:QfJ w N caps m none) :
  Calls Tryz.prog 25 #[.agg (bI m.guest ra rn rc sa sn sc fa fn fc na nn nc),.func (.func N) #[] caps] w (AnsI w w.heap.size imgZ 7):=by
 have hmf:∀ (fn:Fn) (first cap:Array Value) (w:World),(Instr.makeFunc fn first cap).run Tryz.prog w=.ok (.func fn first cap) w:=fun _ _ _ _=>rfl
 have b0:Below w.heap.size w (((w.alloc (.cells (bI m.guest ra rn rc sa sn sc fa fn fc na nn nc) 26)).alloc zI).alloc (.cells #[.int .i64 0] 27)):=((bA).alloc (by simp) _).alloc (by simp <;> omega) _;have m0:(((w.alloc (.cells (bI m.guest ra rn rc sa sn sc fa fn fc na nn nc) 26)).alloc zI).alloc (.cells #[.int .i64 0] 27)).heap[w.heap.size]? = some (.cells (bI m.guest ra rn rc sa sn sc fa fn fc na nn nc) 26):=Qac (Qac (zHn _ _) _) _;have m1:(((w.alloc (.cells (bI m.guest ra rn rc sa sn sc fa fn fc na nn nc) 26)).alloc zI).alloc (.cells #[.int .i64 0] 27)).heap[w.heap.size+1]? = some zI:=Qac (by have:=World.alloc_heap_new (w.alloc (.cells (bI m.guest ra rn rc sa sn sc fa fn fc na nn nc) 26)) zI;simpa using this) _;have m2:(((w.alloc (.cells (bI m.guest ra rn rc sa sn sc fa fn fc na nn nc) 26)).alloc zI).alloc (.cells #[.int .i64 0] 27)).heap[w.heap.size+1+1]? = some (.cells #[.int .i64 0] 27):=by have:=World.alloc_heap_new ((w.alloc (.cells (bI m.guest ra rn rc sa sn sc fa fn fc na nn nc) 26)).alloc zI) (.cells #[.int .i64 0] 27);simpa using this
 have hz3:(((w.alloc (.cells (bI m.guest ra rn rc sa sn sc fa fn fc na nn nc) 26)).alloc zI).alloc (.cells #[.int .i64 0] 27)).heap.size=w.heap.size+1+1+1:=by simp
 obtain⟨c0,c1,c2,c3,c4⟩:=five m0;have hcp:=Qe2 (h.below b0) hF;have HX:Hid (True):=trivial;clear h
 go_enter_defers Tryz.func25,Tryz.ntmps25
 go_wp2_with (go_at_call 61;refine hcp.mono ?_;rintro e w1 ⟨val,rfl,hO,b1⟩;obtain⟨qa,qc,q0,_⟩:=hO.forms .root (Live.root m);obtain⟨pa,pc,q1,_⟩:=hO.forms .slots (Live.slots m);obtain⟨ka,kc,q2,_⟩:=hO.forms .refs (Live.refs m);obtain⟨ja,jc,q3,_⟩:=hO.forms .snaps (Live.snaps m);unfold imgV;rw [q0,q1,q2,q3]);have hD:=Qgb hO b1.size;rw [q0,q1,q2,q3] at hD;have b1':Below (((w.alloc (.cells (bI m.guest ra rn rc sa sn sc fa fn fc na nn nc) 26)).alloc zI).alloc (.cells #[.int .i64 0] 27)).heap.size (((w.alloc (.cells (bI m.guest ra rn rc sa sn sc fa fn fc na nn nc) 26)).alloc zI).alloc (.cells #[.int .i64 0] 27)) (w1.alloc (.cells #[.int .i64 m.guest,.slice qa (rowN m .root) qc,.slice pa (rowN m .slots) pc,.slice ka (rowN m .refs) kc,.slice ja (rowN m .snaps) jc] 52)):=b1.alloc b1.size _;have hbw:=Below.on b0 b1';refine (ht _ _ _ _ hbw b0.size b1'.size hD).mono ?_;rintro e w2 ⟨rfl,b2⟩;dsimp only;have b3:=b1'.trans b2;have k1:=Qab m1 b3 (by rw [hz3];omega);have k2:=Qab m2 b3 (by rw [hz3];omega);have b4:Below w.heap.size w w2:=b0.trans (b3.mono (by rw [hz3];omega));obtain⟨z0,z1,z2,z3,z4⟩:=five k1;have ce:w2.cell? ⟨w.heap.size+1+1,0,none⟩=some (.int .i64 0):=by simp [World.cell?,k2]
 have ne:¬w.heap.size+1=w.heap.size+1+1:=by omega
 have hlt:w.heap.size+1+1<w2.heap.size:=(szH k2);have hlt1:w.heap.size+1<w2.heap.size:=by omega
 refine leaves_cons (f:=60) (args:=#[.pointer (some ⟨w.heap.size+1+1,0,none⟩)]) (by simp) (by simp [go_sem]) ?_;refine (QjM (w.heap.size+1+1) 0 [] w2 ce (Qaa k2 0) hlt).mono ?_;rintro e u' w'' ⟨rfl,rfl,rfl⟩;have k3:((w2.setCell ⟨w.heap.size+1+1,0,none⟩ (.int .i64 7)).alloc (.cells #[] 83)).heap[w.heap.size+1]? = some zI:=Qac (Qan k1 ne _ _) _;have k4:((w2.setCell ⟨w.heap.size+1+1,0,none⟩ (.int .i64 7)).alloc (.cells #[] 83)).heap[w.heap.size+1+1]? = some (.cells #[.int .i64 7] 27):=Qac (Qau k2 0 _) _;obtain⟨z0,z1,z2,z3,z4⟩:=five k3;have ce:((w2.setCell ⟨w.heap.size+1+1,0,none⟩ (.int .i64 7)).alloc (.cells #[] 83)).cell? ⟨w.heap.size+1+1,0,none⟩=some (.int .i64 7):=by simp only [World.cell?,k4];rfl
 refine⟨_,?_,AnsI.bad 7 ((b4.setCell (by show _≤w.heap.size+1+1;omega) _).alloc (by simp [World.setCell];have:=b4.size;omega) _)⟩;clear k3 k4
 generalize (w2.setCell ⟨w.heap.size+1+1,0,none⟩ (.int .i64 7)).alloc (.cells #[] 83)=Wf at z0 z1 z2 z3 z4 ce ⊢
 simp [results,Tryz.results25,go_sem,z0,z1,z2,z3,z4,ce]
theorem Qpy (m M:ImgD)(ra:Option Addr)(rn rc:Nat)(sa:Option Addr)(sn sc:Nat)(fa:Option Addr)(fn fc:Nat)(na:Option Addr)(nn nc:Nat)(N:Nat)(caps:Array Value)(w:World)(h:Img w (.agg (bI m.guest ra rn rc sa sn sc fa fn fc na nn nc)) m)(hF:Fits m)(hN:∀ (args:Array Value) (w:World),(callFunc N args).run Tryz.prog w=.ok (.enter N args) w)(ht:QfJ w N caps m (some M))(E:Int)(hE:Qao M=E)(hne:E≠0) :
  Calls Tryz.prog 25 #[.agg (bI m.guest ra rn rc sa sn sc fa fn fc na nn nc),.func (.func N) #[] caps] w (AnsI w w.heap.size imgZ E):=by
 have hmf:∀ (fn:Fn) (first cap:Array Value) (w:World),(Instr.makeFunc fn first cap).run Tryz.prog w=.ok (.func fn first cap) w:=fun _ _ _ _=>rfl
 have b0:Below w.heap.size w (((w.alloc (.cells (bI m.guest ra rn rc sa sn sc fa fn fc na nn nc) 26)).alloc zI).alloc (.cells #[.int .i64 0] 27)):=((bA).alloc (by simp) _).alloc (by simp <;> omega) _;have m0:(((w.alloc (.cells (bI m.guest ra rn rc sa sn sc fa fn fc na nn nc) 26)).alloc zI).alloc (.cells #[.int .i64 0] 27)).heap[w.heap.size]? = some (.cells (bI m.guest ra rn rc sa sn sc fa fn fc na nn nc) 26):=Qac (Qac (zHn _ _) _) _;have m1:(((w.alloc (.cells (bI m.guest ra rn rc sa sn sc fa fn fc na nn nc) 26)).alloc zI).alloc (.cells #[.int .i64 0] 27)).heap[w.heap.size+1]? = some zI:=Qac (by have:=World.alloc_heap_new (w.alloc (.cells (bI m.guest ra rn rc sa sn sc fa fn fc na nn nc) 26)) zI;simpa using this) _;have m2:(((w.alloc (.cells (bI m.guest ra rn rc sa sn sc fa fn fc na nn nc) 26)).alloc zI).alloc (.cells #[.int .i64 0] 27)).heap[w.heap.size+1+1]? = some (.cells #[.int .i64 0] 27):=by have:=World.alloc_heap_new ((w.alloc (.cells (bI m.guest ra rn rc sa sn sc fa fn fc na nn nc) 26)).alloc zI) (.cells #[.int .i64 0] 27);simpa using this
 have hz3:(((w.alloc (.cells (bI m.guest ra rn rc sa sn sc fa fn fc na nn nc) 26)).alloc zI).alloc (.cells #[.int .i64 0] 27)).heap.size=w.heap.size+1+1+1:=by simp
 obtain⟨c0,c1,c2,c3,c4⟩:=five m0;have hcp:=Qe2 (h.below b0) hF;have HX:Hid (Qao M=E∧E≠0):=⟨hE,hne⟩;clear h hE hne
 go_enter_defers Tryz.func25,Tryz.ntmps25
 go_wp2_with (go_at_call 61;refine hcp.mono ?_;rintro e w1 ⟨val,rfl,hO,b1⟩;obtain⟨qa,qc,q0,_⟩:=hO.forms .root (Live.root m);obtain⟨pa,pc,q1,_⟩:=hO.forms .slots (Live.slots m);obtain⟨ka,kc,q2,_⟩:=hO.forms .refs (Live.refs m);obtain⟨ja,jc,q3,_⟩:=hO.forms .snaps (Live.snaps m);unfold imgV;rw [q0,q1,q2,q3]);have hD:=Qgb hO b1.size;rw [q0,q1,q2,q3] at hD;have b1':Below (((w.alloc (.cells (bI m.guest ra rn rc sa sn sc fa fn fc na nn nc) 26)).alloc zI).alloc (.cells #[.int .i64 0] 27)).heap.size (((w.alloc (.cells (bI m.guest ra rn rc sa sn sc fa fn fc na nn nc) 26)).alloc zI).alloc (.cells #[.int .i64 0] 27)) (w1.alloc (.cells #[.int .i64 m.guest,.slice qa (rowN m .root) qc,.slice pa (rowN m .slots) pc,.slice ka (rowN m .refs) kc,.slice ja (rowN m .snaps) jc] 52)):=b1.alloc b1.size _;have hbw:=Below.on b0 b1';refine (ht _ _ _ _ hbw b0.size b1'.size hD).mono ?_;rintro e w2 ⟨val2,rfl,hT⟩;dsimp only;have b3:=b1'.trans hT.bel;have k1:=Qab m1 b3 (by rw [hz3];omega);have k2:=Qab m2 b3 (by rw [hz3];omega);have b4:Below w.heap.size w w2:=b0.trans (b3.mono (by rw [hz3];omega));have hcall:=QiL hT.dk HX.out.1 HX.out.2;clear hT hD;go_wp2_with (go_at_call 62;refine hcall.mono ?_;rintro e w3 ⟨rfl,b5⟩;have r1:=Qab k1 b5 (szH k1);have r2:=Qab k2 b5 (szH k2);obtain⟨z0,z1,z2,z3,z4⟩:=five r1;have y0:=Qaa r1 0;have y1:=Qaa r1 1;have y2:=Qaa r1 2;have y3:=Qaa r1 3;have y4:=Qaa r1 4;have x0:=Qaa r2 0;have ce:w3.cell? ⟨w.heap.size+1+1,0,none⟩=some (.int .i64 0):=by simp [World.cell?,r2]);refine leaves_cons (f:=60) (args:=#[.pointer (some ⟨w.heap.size+1+1,0,none⟩)]) (by simp) (by simp [go_sem]) ?_;refine (Qf7 ⟨w.heap.size+1+1,0,none⟩ _).mono ?_;rintro e u' w'' ⟨rfl,rfl,rfl⟩;have b6:=Below.on b4 b5;have i1:w.heap.size≤w.heap.size+1:=Nat.le_succ _;have i2:w.heap.size≤w.heap.size+1+1:=by omega
 refine⟨_,?_,AnsI.bad E ((((((b6.setCell i1 _).setCell i1 _).setCell i1 _).setCell i1 _).setCell i1 _).setCell i2 _)⟩;simp [results,Tryz.results25,go_sem,z0,z1,z2,z3,z4,ce]
theorem Qp8 (m M:ImgD)(ra:Option Addr)(rn rc:Nat)(sa:Option Addr)(sn sc:Nat)(fa:Option Addr)(fn fc:Nat)(na:Option Addr)(nn nc:Nat)(N:Nat)(caps:Array Value)(w:World)(h:Img w (.agg (bI m.guest ra rn rc sa sn sc fa fn fc na nn nc)) m)(hF:Fits m)(hN:∀ (args:Array Value) (w:World),(callFunc N args).run Tryz.prog w=.ok (.enter N args) w)(ht:QfJ w N caps m (some M))(hE:Qao M=0) :
  Calls Tryz.prog 25 #[.agg (bI m.guest ra rn rc sa sn sc fa fn fc na nn nc),.func (.func N) #[] caps] w (AnsI w w.heap.size (Qai M) 0):=by
 have hmf:∀ (fn:Fn) (first cap:Array Value) (w:World),(Instr.makeFunc fn first cap).run Tryz.prog w=.ok (.func fn first cap) w:=fun _ _ _ _=>rfl
 have b0:Below w.heap.size w (((w.alloc (.cells (bI m.guest ra rn rc sa sn sc fa fn fc na nn nc) 26)).alloc zI).alloc (.cells #[.int .i64 0] 27)):=((bA).alloc (by simp) _).alloc (by simp <;> omega) _;have m0:(((w.alloc (.cells (bI m.guest ra rn rc sa sn sc fa fn fc na nn nc) 26)).alloc zI).alloc (.cells #[.int .i64 0] 27)).heap[w.heap.size]? = some (.cells (bI m.guest ra rn rc sa sn sc fa fn fc na nn nc) 26):=Qac (Qac (zHn _ _) _) _;have m1:(((w.alloc (.cells (bI m.guest ra rn rc sa sn sc fa fn fc na nn nc) 26)).alloc zI).alloc (.cells #[.int .i64 0] 27)).heap[w.heap.size+1]? = some zI:=Qac (by have:=World.alloc_heap_new (w.alloc (.cells (bI m.guest ra rn rc sa sn sc fa fn fc na nn nc) 26)) zI;simpa using this) _;have m2:(((w.alloc (.cells (bI m.guest ra rn rc sa sn sc fa fn fc na nn nc) 26)).alloc zI).alloc (.cells #[.int .i64 0] 27)).heap[w.heap.size+1+1]? = some (.cells #[.int .i64 0] 27):=by have:=World.alloc_heap_new ((w.alloc (.cells (bI m.guest ra rn rc sa sn sc fa fn fc na nn nc) 26)).alloc zI) (.cells #[.int .i64 0] 27);simpa using this
 have hz3:(((w.alloc (.cells (bI m.guest ra rn rc sa sn sc fa fn fc na nn nc) 26)).alloc zI).alloc (.cells #[.int .i64 0] 27)).heap.size=w.heap.size+1+1+1:=by simp
 obtain⟨c0,c1,c2,c3,c4⟩:=five m0;have hcp:=Qe2 (h.below b0) hF;have HX:Hid (Qao M=0):=hE;clear h hE
 go_enter_defers Tryz.func25,Tryz.ntmps25
 go_wp2_with (go_at_call 61;refine hcp.mono ?_;rintro e w1 ⟨val,rfl,hO,b1⟩;obtain⟨qa,qc,q0,_⟩:=hO.forms .root (Live.root m);obtain⟨pa,pc,q1,_⟩:=hO.forms .slots (Live.slots m);obtain⟨ka,kc,q2,_⟩:=hO.forms .refs (Live.refs m);obtain⟨ja,jc,q3,_⟩:=hO.forms .snaps (Live.snaps m);unfold imgV;rw [q0,q1,q2,q3]);have hD:=Qgb hO b1.size;rw [q0,q1,q2,q3] at hD;have b1':Below (((w.alloc (.cells (bI m.guest ra rn rc sa sn sc fa fn fc na nn nc) 26)).alloc zI).alloc (.cells #[.int .i64 0] 27)).heap.size (((w.alloc (.cells (bI m.guest ra rn rc sa sn sc fa fn fc na nn nc) 26)).alloc zI).alloc (.cells #[.int .i64 0] 27)) (w1.alloc (.cells #[.int .i64 m.guest,.slice qa (rowN m .root) qc,.slice pa (rowN m .slots) pc,.slice ka (rowN m .refs) kc,.slice ja (rowN m .snaps) jc] 52)):=b1.alloc b1.size _;have hbw:=Below.on b0 b1';refine (ht _ _ _ _ hbw b0.size b1'.size hD).mono ?_;rintro e w2 ⟨val2,rfl,hT⟩;dsimp only;have b3:=b1'.trans hT.bel;have k1:=Qab m1 b3 (by rw [hz3];omega);have k2:=Qab m2 b3 (by rw [hz3];omega);have b4:Below w.heap.size w w2:=b0.trans (b3.mono (by rw [hz3];omega));have hcall:=Qkp hT.dk (Nat.le_trans b1'.size hT.bel.size) HX.out;go_wp2_with fail;refine hcall.mono ?_;rintro e w3 ⟨val3,rfl,hT3⟩;dsimp only;have hO3:=hT3.dk.own;have b5:=hT3.bel;rw [hz3] at b5;have r1:=Qab k1 b5 (by omega);have r2:=Qab k2 b5 (by omega);obtain⟨z0,z1,z2,z3,z4⟩:=five r1;have y0:=Qaa r1 0;have y1:=Qaa r1 1;have y2:=Qaa r1 2;have y3:=Qaa r1 3;have y4:=Qaa r1 4;have x0:=Qaa r2 0;have ce:w3.cell? ⟨w.heap.size+1+1,0,none⟩=some (.int .i64 0):=by simp [World.cell?,r2]
 obtain⟨ga,gc,g0,_⟩:=hO3.forms .root (Live.root _);obtain⟨la,lc,g1,_⟩:=hO3.forms .slots (Live.slots _);obtain⟨oa,oc,g2,_⟩:=hO3.forms .refs (Live.refs _);obtain⟨ta,tc,g3,_⟩:=hO3.forms .snaps (Live.snaps _);unfold imgV;rw [g0,g1,g2,g3];have HO:Hid (OI w3 (w.heap.size+3) val3 (Qai M)∧val3 .root=_∧val3 .slots=_∧val3 .refs=_∧val3 .snaps=_):=⟨by rw [hz3] at hO3;exact hO3,g0,g1,g2,g3⟩;have HB:Hid (Below w.heap.size w w3):=b4.trans (b5.mono (by omega));clear hO3 hT hT3 hD hcall g0 g1 g2 g3 b5 b4 b3 b1 b1' hbw hO q0 q1 q2 q3;go_wp2_with fail;refine leaves_cons (f:=60) (args:=#[.pointer (some ⟨w.heap.size+1+1,0,none⟩)]) (by simp) (by simp [go_sem]) ?_;refine (Qf7 ⟨w.heap.size+1+1,0,none⟩ _).mono ?_;rintro e u' w'' ⟨rfl,rfl,rfl⟩;obtain⟨hO,g0,g1,g2,g3⟩:=HO.out;have b6:=HB.out;have i1:w.heap.size≤w.heap.size+1:=Nat.le_succ _;have i2:w.heap.size≤w.heap.size+1+1:=by omega
 have hf1:∀a,Live (Qai M) a→(val3 a).ownBlock≠some (w.heap.size+1):=fun a ha e=>by have:=((hO.row a ha).lt _ e).1;omega
 have hf2:∀a,Live (Qai M) a→(val3 a).ownBlock≠some (w.heap.size+1+1):=fun a ha e=>by have:=((hO.row a ha).lt _ e).1;omega
 refine⟨.tuple #[.agg #[.int .i64 M.guest,.slice ga (rowN (Qai M) .root) gc,.slice la (rowN (Qai M) .slots) lc,.slice oa (rowN (Qai M) .refs) oc,.slice ta (rowN (Qai M) .snaps) tc],.int .i64 0],?_,val3,?_,OI.mono ((((((hO.far hf1).far hf1).far hf1).far hf1).far hf1).far hf2) (by omega),((((((b6.setCell i1 _).setCell i1 _).setCell i1 _).setCell i1 _).setCell i1 _).setCell i2 _)⟩
 ·simp [results,Tryz.results25,go_sem,z0,z1,z2,z3,z4,ce]
 ·unfold imgV;rw [g0,g1,g2,g3]
  rfl
def ofM (o:Option ImgD):ImgD:=match o with | none=>imgZ | some M=>if Qao M=0 then Qai M else imgZ
def ofE (o:Option ImgD):Int:=match o with | none=>7 | some M=>Qao M
theorem Qj9 {w:World}{v:Value}{m:ImgD}{o:Option ImgD}{N:Nat}{caps:Array Value}(h:Img w v m)(hF:Fits m)(hN:∀ (args:Array Value) (w:World),(callFunc N args).run Tryz.prog w=.ok (.enter N args) w)(ht:QfJ w N caps m o) :
  Calls Tryz.prog 25 #[v,.func (.func N) #[] caps] w (AnsI w w.heap.size (ofM o) (ofE o)):=by
 have h':=h;obtain⟨ra,rc,sa,sc,fa,fc,na,nc,rfl,_⟩:=h.parts
 cases o with
 | none=>exact Qoe m ra _ rc sa _ sc fa _ fc na _ nc N caps w h' hF hN ht
 | some M=>
  unfold ofM ofE;dsimp only
  by_cases hE:Qao M=0
  ·rw [if_pos hE,hE];exact Qp8 m M ra _ rc sa _ sc fa _ fc na _ nc N caps w h' hF hN ht hE
  ·rw [if_neg hE];exact Qpy m M ra _ rc sa _ sc fa _ fc na _ nc N caps w h' hF hN ht _ rfl hE
theorem Qiu {s:Qag}(h:okD s=true):s.2.2.length≤4:=by
 unfold okD QaZ at h
 split at h
 ·simp at h;rw [h.2];exact Nat.zero_le _
 ·split at h
  ·simp at h;rw [h.2];exact Nat.zero_le _
  ·split at h
   ·simp at h;rw [Qa7 h.1];exact Nat.le_refl _
   ·cases h
theorem Qbx {m:ImgD}(h:Qao m=0):Fits m:=by
 obtain⟨h1,h2,h3,h4,h5,h6,h7⟩:=Qad h;have hs:=Qah h2;have hR:∀s ∈ Qaw m,s.2.2.length≤5:=fun s hs=>by
  have hg:=List.all_eq_true.1 h5 s hs;have hf:=List.all_eq_true.1 h7 s hs;unfold Qay at hg;unfold Qas at hf;simp only [Bool.and_eq_true,decide_eq_true_eq] at hg hf;omega
 have hroot:=hR (⟨#[]⟩,m.guest,m.root) List.mem_cons_self;have hroot:m.root.length≤5:=hroot;have hr:room=140737488355328:=Qin;refine⟨by omega,by omega,by omega,by omega,fun j hj=>?_,fun j hj=>?_⟩
 ·have ok:=QaF h2 hj;have e:m.slots.getD j default=m.slots[j]:=by simp [List.getD,hj]
  rw [e];have:m.slots[j].2.2.length≤4:=Qiu ok;omega
 ·have e:m.snaps.getD j default=m.snaps[j]:=by simp [List.getD,hj]
  rw [e];have:=hR m.snaps[j] (List.mem_cons_of_mem _ (List.getElem_mem hj));omega
theorem Qh3 (w:World)(m:ImgD):QfJ w 40 #[] m (some m):=by
 intro W D B val hb h1 h2 hK
 go_enter Tryz.func40,Tryz.ntmps40
 go_wp2
 go_end0
 exact⟨val,rfl,DTo.refl hK nilV⟩
theorem AnsI.open {w w':World}{B:Nat}{m:ImgD}{err:Int}{r:Ending}(h:AnsI w B m err r w'):∃val ra rc sa sc fa fc na nc,r=.returned (.tuple #[.agg (aI m ra rc sa sc fa fc na nc),.int .i64 err])∧OI w' B val m∧Below B w w'∧imgV m.guest val=.agg (aI m ra rc sa sc fa fc na nc):=by
 obtain⟨val,rfl,hO,hb⟩:=h;obtain⟨ra,rc,e0,_⟩:=hO.forms .root (Live.root m);obtain⟨sa,sc,e1,_⟩:=hO.forms .slots (Live.slots m);obtain⟨fa,fc,e2,_⟩:=hO.forms .refs (Live.refs m);obtain⟨na,nc,e3,_⟩:=hO.forms .snaps (Live.snaps m);have e:imgV m.guest val=.agg (aI m ra rc sa sc fa fc na nc):=by
  unfold imgV;rw [e0,e1,e2,e3]
  rfl
 exact⟨val,ra,rc,sa,sc,fa,fc,na,nc,by rw [e],hO,hb,e⟩
theorem Qmi (m:ImgD)(ra:Option Addr)(rn rc:Nat)(sa:Option Addr)(sn sc:Nat)(fa:Option Addr)(fn fc:Nat)(na:Option Addr)(nn nc:Nat)(w:World)(h:Img w (.agg (bI m.guest ra rn rc sa sn sc fa fn fc na nn nc)) m)(hF:Fits m) :
  Calls Tryz.prog 10 #[.agg (bI m.guest ra rn rc sa sn sc fa fn fc na nn nc)] w (AnsI w w.heap.size (ofM (some m)) (ofE (some m))):=by
 have b0:Below w.heap.size w ((w.alloc (.cells (bI m.guest ra rn rc sa sn sc fa fn fc na nn nc) 26)).alloc zI):=(bA).alloc (by simp) _;have m0:((w.alloc (.cells (bI m.guest ra rn rc sa sn sc fa fn fc na nn nc) 26)).alloc zI).heap[w.heap.size]? = some (.cells (bI m.guest ra rn rc sa sn sc fa fn fc na nn nc) 26):=Qac (zHn _ _) _;have m1:((w.alloc (.cells (bI m.guest ra rn rc sa sn sc fa fn fc na nn nc) 26)).alloc zI).heap[w.heap.size+1]? = some zI:=by have:=World.alloc_heap_new (w.alloc (.cells (bI m.guest ra rn rc sa sn sc fa fn fc na nn nc) 26)) zI;simpa using this
 have hz2:((w.alloc (.cells (bI m.guest ra rn rc sa sn sc fa fn fc na nn nc) 26)).alloc zI).heap.size=w.heap.size+1+1:=by simp
 obtain⟨c0,c1,c2,c3,c4⟩:=five m0;have hof:=Qj9 (h.below b0) hF (enters_of Tryz.func40 (by kernel_rfl) rfl) (Qh3 ((w.alloc (.cells (bI m.guest ra rn rc sa sn sc fa fn fc na nn nc) 26)).alloc zI) m)
 go_enter Tryz.func10,Tryz.ntmps10
 go_wp2_with fail;refine hof.mono ?_;intro e w1 hA;obtain⟨val,ga,gc,la,lc,oa,oc,ta,tc,rfl,hO,b1,hI⟩:=hA.open;dsimp only;have k1:=Qab m1 b1 (by rw [hz2];omega);obtain⟨z0,z1,z2,z3,z4⟩:=five k1;have y0:=Qaa k1 0;have y1:=Qaa k1 1;have y2:=Qaa k1 2;have y3:=Qaa k1 3;have y4:=Qaa k1 4;have HO:Hid (OI w1 (w.heap.size+1+1) val (ofM (some m))):=by rw [hz2] at hO;exact hO
 have HB:Hid (Below w.heap.size w w1):=Below.on b0 b1;have HI:Hid (imgV (ofM (some m)).guest val=.agg #[.int .i64 (ofM (some m)).guest,.slice ga (ofM (some m)).root.length gc,.slice la (ofM (some m)).slots.length lc,.slice oa (ofM (some m)).refs.length oc,.slice ta (ofM (some m)).snaps.length tc]):=hI;clear hO b1 hI hof hA;go_wp2_with fail;have i1:w.heap.size≤w.heap.size+1:=Nat.le_succ _;have hf1:∀a,Live (ofM (some m)) a→(val a).ownBlock≠some (w.heap.size+1):=fun a ha e=>by have:=((HO.out.row a ha).lt _ e).1;omega
 refine bodyPost_ret (v:=.tuple #[.agg #[.int .i64 (ofM (some m)).guest,.slice ga (ofM (some m)).root.length gc,.slice la (ofM (some m)).slots.length lc,.slice oa (ofM (some m)).refs.length oc,.slice ta (ofM (some m)).snaps.length tc],.int .i64 (ofE (some m))]) (by simp [results,Tryz.results10,go_sem,z0,z1,z2,z3,z4]) rfl ⟨val,by rw [HI.out],OI.mono (((((HO.out.far hf1).far hf1).far hf1).far hf1).far hf1) (by omega),((((HB.out.setCell i1 _).setCell i1 _).setCell i1 _).setCell i1 _).setCell i1 _⟩
theorem QlQ {w:World}{v:Value}{m:ImgD}(h:Img w v m)(hF:Fits m):Calls Tryz.prog 10 #[v] w (AnsI w w.heap.size (ofM (some m)) (ofE (some m))):=by
 have h':=h;obtain⟨ra,rc,sa,sc,fa,fc,na,nc,rfl,_⟩:=h.parts;exact Qmi m ra _ rc sa _ sc fa _ fc na _ nc w h' hF
theorem Qg3 {w:World}{v:Value}{m M:ImgD}(h:Img w v m)(hF:Fits m)(hE:Qao m=0)(hM:Qai m=M):Calls Tryz.prog 10 #[v] w (AnsI w w.heap.size M 0):=by
 have:=QlQ h hF;unfold ofM ofE at this;dsimp only at this;rw [if_pos hE,hE,hM] at this;exact this

def QpR (L:List Qag) (e:Int):Prop:=e=0∨e = -1∨∃j:Nat,e=j∧1≤j∧j<L.length∧kd L j=1
structure Laid (m M:ImgD) (k:Nat) (es:List Int):Prop where
 shape:Qao M=0
 guest:M.guest=m.guest
 snaps:M.snaps=m.snaps
 rlen:M.root.length=m.root.length
 look:∀q,q / 4<m.root.length→QaT M M.root q=if q / 4=k then es.getD (q % 4) 0 else QaT m m.root q
 past:∀s ∈ m.snaps,∀q,q / 4<s.2.2.length→QaT M s.2.2 q=QaT m s.2.2 q
 page:∀e,QpR m.slots e→QiK M.slots e=QiK m.slots e
theorem Qi4 {m:ImgD}{k t:Nat}{L':List Qag}{es rf:List Int}(h:Qao m=0)(hk:k<m.root.length)(hx:Ext m.slots L' t es)(hl:Lone m k t)(hrf:rf.length=L'.length)(hz:QhM m k es):Laid m (QcT m k t L' rf) k es:=by
 have hs:=(Qad h).2.1;have hr:=Qa3 h;refine⟨QhN h hk hx hl hrf hz,rfl,rfl,by show (m.root.set k _).length=_;rw [List.length_set],fun q hq=>Qh9 hx hs hl hr.2 q hq,fun s hsm q hq=>?_,fun e he=>Qm9 hx he⟩;have hf:=List.all_eq_true.1 (Qad h).2.2.2.2.2.2 s (List.mem_cons_of_mem _ hsm);unfold Qas at hf;simp only [Bool.and_eq_true] at hf;exact Qmn hx hs hf.2.1 (hl.snap s hsm) q hq
theorem Qep {m:ImgD}(h:Qao m=0){g:Int}{r:List Int}(hg:Qay g=true)(hf:Qas m.slots g r=true):Qao { m with guest:=g,root:=r } = 0:=by
 obtain⟨z1,z2,z3,z4,z5,z6,z7⟩:=Qad h;unfold Qaw at z5 z7;rw [List.all_cons] at z5 z7;simp only [Bool.and_eq_true] at z5 z7;have hgall:(Qaw { m with guest:=g,root:=r }).all (fun s=>Qay s.2.1)=true:=by
  show (((⟨#[]⟩,g,r):Qav) :: m.snaps).all _=true
  rw [List.all_cons,z5.2,Bool.and_true];exact hg
 have hall:(Qaw { m with guest:=g,root:=r }).all (fun s=>Qas m.slots s.2.1 s.2.2)=true:=by
  show (((⟨#[]⟩,g,r):Qav) :: m.snaps).all _=true
  rw [List.all_cons,z7.2,Bool.and_true];exact hf
 unfold Qao;rw [if_neg (by show ¬3<m.snaps.length;omega),if_neg (by show ¬Qap m.slots≠0;simpa using z2),if_neg,if_neg (by rw [hgall];decide),if_neg (by show ¬QaV m.slots=false;rw [z6];decide),if_neg (by show ¬((Qaw { m with guest:=g,root:=r }).all fun s=>Qas m.slots s.2.1 s.2.2)=false;rw [hall];decide)];rintro (e | e)
 ·exact e z3
 ·have:QaJ m.snaps=false:=e;rw [z4] at this;cases this
theorem Qc8 {m:ImgD}(h:Qao m=0):Qas m.slots m.guest m.root=true:=List.all_eq_true.1 (Qad h).2.2.2.2.2.2 (⟨#[]⟩,m.guest,m.root) List.mem_cons_self
theorem QcK {m:ImgD}(h:Qao m=0):Qay m.guest=true:=List.all_eq_true.1 (Qad h).2.2.2.2.1 (⟨#[]⟩,m.guest,m.root) List.mem_cons_self
theorem Qhl {L:List Qag}{g:Int}{r:List Int}(h:Qas L g r=true)(k:Nat):Qas L g (r.set k 0)=true:=by
 unfold Qas at h ⊢;simp only [Bool.and_eq_true,decide_eq_true_eq] at h ⊢;refine⟨by rw [List.length_set];exact h.1,?_,?_⟩
 ·rw [List.all_eq_true];intro x hx;rcases Qga hx with hm | hm
  ·exact List.all_eq_true.1 h.2.1 x hm
  ·rw [hm];rfl
 ·have hl:=h.2.2;unfold QbY at hl ⊢;rw [List.length_set,QbC]
  by_cases e:k=r.length - 1∧r.length - 1<r.length
  ·rw [if_pos e];simp
  ·rw [if_neg e];exact hl
theorem QlV {m:ImgD}{k:Nat}{es:List Int}(h:Qao m=0)(hb:Qbz es=true):Laid m { m with root:=m.root.set k 0 } k es:=by
 refine⟨Qep h (QcK h) (Qhl (Qc8 h) k),rfl,rfl,List.length_set,fun q hq=>?_,fun _ _ _ _=>rfl,fun _ _=>rfl⟩;have hg:=QbC m.root k (q / 4) 0
 by_cases e:q / 4=k
 ·rw [if_pos (⟨e.symm,hq⟩:k=q / 4∧q / 4<m.root.length)] at hg;rw [if_pos e];unfold QaT
  show (if (m.root.set k 0).getD (q / 4) 0=0 then 0 else _)=_
  rw [hg,if_pos rfl];unfold Qbz at hb
  by_cases hi:q % 4<es.length
  ·have:=List.all_eq_true.1 hb _ (List.getElem_mem hi);have e0:es[q % 4]=0:=by simpa using this
   rw [Qby hi,e0]
  ·simp [List.getD,hi]
 ·rw [if_neg (fun x=>e x.1.symm)] at hg;rw [if_neg e];unfold QaT
  show (if (m.root.set k 0).getD (q / 4) 0=0 then 0 else (Qaz m.slots ((m.root.set k 0).getD (q / 4) 0)).getD (q % 4) 0)=_
  rw [hg]
theorem QdA {m:ImgD}(hC:Qaq m=0){k:Nat}(hk:k<m.root.length){es:List Int}(hes:ckE es=0)(hents:∀e ∈ es,tabE m.slots e=true)(hz:QhM m k es){M:ImgD}(hM:Qcq m k es=some M):Laid m M k es∧M.slots.length≤m.slots.length+1:=by
 obtain⟨h,_,_⟩:=Qbs hC;unfold Qcq at hM
 split at hM
 ·rename_i hb
  simp at hM
  subst hM;exact⟨QlV h hb,Nat.le_succ _⟩
 ·rename_i hb
  have hb:Qbz es=false:=by simpa using hb
  split at hM
  ·cases hM
  ·rename_i h40
   simp at hM
   subst hM;obtain⟨t1,tl,t40,tk,hl⟩:=Qb5 hC hk h40;refine⟨Qi4 h hk (Qoa (Qad h).2.1 tl t1 t40 tk hes hb hents) hl (by simp [rfZ,tabL]) hz,?_⟩
   show (layS _ _ _).length≤_
   rw [QaD];split <;> omega
theorem Qcl {m:ImgD}(h:Qao m=0){s:Qav}(hs:s ∈ Qaw m):0≤s.2.1∧s.2.1≤16∧(s.2.2.length:Int)=(s.2.1+3) / 4∧s.2.2.all (Qbf m.slots)=true:=by
 have hf:=List.all_eq_true.1 (Qad h).2.2.2.2.2.2 s hs;have hg:=List.all_eq_true.1 (Qad h).2.2.2.2.1 s hs;unfold Qas at hf;unfold Qay at hg;simp only [Bool.and_eq_true,decide_eq_true_eq] at hf hg;exact⟨hg.1,hg.2,hf.1,hf.2.1⟩
theorem QfV {m:ImgD}(hC:Qaq m=0){n:Nat}(hn:(n:Int)<m.guest)(h40:tabN m (n / 4)≠40)(hd40:wD m n≠40){page:ByteArray}(hp:page.size=4) :
  Laid m (QcT m (n / 4) (tabN m (n / 4)) (wL m n page) (rfZ (wL m n page))) (n / 4) (wEs m n)∧QiK (wL m n page) (wD m n)=page∧(wL m n page).length≤m.slots.length+2:=by
 obtain⟨hx,hl,hz,hk,d1,d40,hkd,hdt⟩:=QhQ hC hn h40 hd40 hp;refine⟨Qi4 (Qal hC) hk hx hl (by simp [rfZ]) hz,?_,?_⟩
 ·unfold QiK;rw [if_neg (by omega),Int.toNat_natCast];have hdl:wD m n≤(tabL m (n / 4) (wEs m n)).length:=by
   obtain⟨t1,tl,t40,tk,_⟩:=Qb5 hC hk h40;have hle:=Qed (s:=((2,⟨#[]⟩,Qak m (n / 4)):Qag)) tl (Qah (Qad (Qal hC)).2.1).2 t40;have:=(Qbg (L:=tabL m (n / 4) (Qak m (n / 4))) (by unfold tabL;omega)).2.1;unfold tabL at this ⊢;rw [QaD] at this ⊢;exact this
  unfold wL;rw [Qbe hdl,if_pos rfl]
 ·unfold wL tabL;rw [QaD,QaD]
  split <;> split <;> omega
theorem QoV {L:List Qag}{e:Nat}{page:ByteArray}(hk:kd L e=1)(j:Nat):kd (L.set e (1,page,[])) j=kd L j:=by
 by_cases h:e=j
 ·subst h;have:=QeA (L:=L) (j:=e) (by rw [hk];decide);rw [hk];unfold kd;simp [List.getD,this]
 ·unfold kd;simp [List.getD,h]
theorem Qje {L:List Qag}(hs:Qap L=0){e:Nat}(hk:kd L e=1):(L.getD e default).2.2=[]:=by
 have he:=QeA (L:=L) (j:=e) (by rw [hk];decide);have ok:=QaF hs he;rw [QaB he] at ok;unfold kd at hk;unfold okD at ok;rw [hk,QgK] at ok
 simpa using (of_decide_eq_true ok).2
theorem Qm3 {L:List Qag}(hs:Qap L=0){e:Nat}{page:ByteArray}(hk:kd L e=1)(x:Int):Qaz (L.set e (1,page,[])) x=Qaz L x:=by
 unfold Qaz
 by_cases h:e=x.toNat
 ·have:=QeA (L:=L) (j:=e) (by rw [hk];decide);rw [←h,Qje hs hk];simp [List.getD,this]
 ·simp [List.getD,h]
theorem QmD {m:ImgD}{e:Nat}{page:ByteArray}(hC:Qaq m=0)(hk:kd m.slots e=1)(hp:page.size=4):Qaq { m with slots:=m.slots.set e (1,page,[]) } = 0∧∀r q,QaT { m with slots:=m.slots.set e (1,page,[]) } r q=QaT m r q:=by
 obtain⟨h,hcnt,hfree⟩:=Qbs hC;obtain⟨z1,z2,z3,z4,z5,z6,z7⟩:=Qad h;have he:=QeA (L:=m.slots) (j:=e) (by rw [hk];decide);have hkd:=fun j=>QoV (page:=page) hk j
 have htab:=fun x=>Qm3 (page:=page) z2 hk x
 have hisKd:∀x kind,isKd (m.slots.set e (1,page,[])) x kind=isKd m.slots x kind:=fun x kind=>by
  have:=hkd x.toNat;unfold kd at this;unfold isKd;rw [List.length_set,this]
 have htE:∀x,tabE (m.slots.set e (1,page,[])) x=tabE m.slots x:=fun x=>by unfold tabE;rw [hisKd]
 have hrE:∀x,Qbf (m.slots.set e (1,page,[])) x=Qbf m.slots x:=fun x=>by unfold Qbf;rw [hisKd]
 have hs:Qap (m.slots.set e (1,page,[]))=0:=by
  refine Qdb (by rw [List.length_set];exact (Qah z2).1) (by rw [List.length_set];exact (Qah z2).2) (fun j hj=>?_) ?_
  ·rw [List.length_set] at hj;rw [List.getElem_set]
   split
   ·exact Qmz hp
   ·exact QaF z2 hj
  ·rw [Qdm (by rw [List.length_set];exact (Qah z2).1),hkd];exact Qcs z2
 have hfit:QaV (m.slots.set e (1,page,[]))=true:=by
  unfold QaV;rw [List.all_eq_true];intro s hsm;obtain⟨j,hj,rfl⟩:=List.getElem_of_mem hsm;rw [List.length_set] at hj;rw [List.all_eq_true];intro x hx;rw [htE];have e1:=htab (j:Int);unfold Qaz at e1;rw [Int.toNat_natCast] at e1;rw [QaB (by rw [List.length_set];exact hj),e1] at hx;exact List.all_eq_true.1 (QgH z6 (j:Int)) x (by unfold Qaz;rw [Int.toNat_natCast];exact hx)
 have hrf:∀g r,Qas (m.slots.set e (1,page,[])) g r=Qas m.slots g r:=fun g r=>by
  unfold Qas QbY;rw [show Qbf (m.slots.set e (1,page,[]))=Qbf m.slots from funext hrE];simp only [htab]
 have hsh:Qao { m with slots:=m.slots.set e (1,page,[]) } = 0:=by
  unfold Qao;rw [if_neg (by show ¬3<m.snaps.length;omega),if_neg (by show ¬Qap _≠0;simpa using hs),if_neg,if_neg (by show ¬(Qaw m).all _=false;rw [z5];decide),if_neg (by show ¬QaV _=false;rw [hfit];decide),if_neg]
  ·show ¬((Qaw m).all fun s=>Qas (m.slots.set e (1,page,[])) s.2.1 s.2.2)=false
   simp only [hrf];rw [z7];decide
  ·rintro (x | x)
   ·apply x;show m.refs.length=(m.slots.set e _).length;rw [List.length_set];exact z3
   ·have:QaJ m.snaps=false:=x;rw [z4] at this;cases this
 have hcl:cntL { m with slots:=m.slots.set e (1,page,[]) } = cntL m:=by
  rw [Qki (QaU _),Qki (QaU m)]
  show rl (m.slots.set e _).length _=_
  rw [List.length_set];refine Qca fun j hj=>?_
  rw [Qbr hsh j (by show j<(m.slots.set e _).length;rw [List.length_set];exact hj),Qbr h j hj]
  show cntI (m.slots.set e (1,page,[])) (QaC m) j=cntI m.slots (QaC m) j
  unfold cntI;have:sumT (m.slots.set e (1,page,[])) (QaC m) j=sumT m.slots (QaC m) j:=by
   unfold sumT;rw [List.length_set];refine Qd5 _ fun q _=>?_
   unfold QbI;rw [hkd,htab]
  rw [this]
 refine⟨?_,fun r q=>?_⟩
 ·unfold Qaq;rw [if_neg (by simpa using hsh),hcl]
  show (if cntL m≠m.refs then (9:Int) else _)=0
  rw [if_neg (by rw [hcnt];simp),if_pos];rw [List.all_eq_true];intro j hj;have hj:j<m.slots.length:=by
   have:j<(m.slots.set e (1,page,[])).length:=by simpa using hj
   rwa [List.length_set] at this
  have:=hfree j hj;unfold Qb4 at this ⊢;rw [hcl];have e1:=hkd j;unfold kd at e1
  show (((m.slots.set e (1,page,[])).getD j default).1 == 0) == _
  rw [e1];exact this
 ·unfold QaT
  show (if r.getD (q / 4) 0=0 then (0:Int) else (Qaz (m.slots.set e (1,page,[])) (r.getD (q / 4) 0)).getD (q % 4) 0)=_
  rw [htab]

def kept (L:List Qag) (k:Nat):Bool:=k == 0 || kd L k != 0
def QaG (L:List Qag):List Nat:=(List.range L.length).filter (kept L)
def rnk (L:List Qag) (k:Nat):Nat:=((List.range k).filter (kept L)).length
def ren (L:List Qag) (e:Int):Int:=if 0≤e∧e.toNat<L.length∧kept L e.toNat=true then (rnk L e.toNat:Int) else e
def Qel (L:List Qag) (s:Qag):Qag:=(s.1,s.2.1,s.2.2.map (ren L))
def QbB (L:List Qag):List Qag:=(QaG L).map (fun k=>Qel L (L.getD k default))
def Qek (L:List Qag) (s:Qav):Qav:=(s.1,s.2.1,s.2.2.map (ren L))
def QbP (m:ImgD):ImgD:=⟨m.guest,m.root.map (ren m.slots),QbB m.slots,(QaG m.slots).map (fun k=>m.refs.getD k 0),m.snaps.map (Qek m.slots)⟩
theorem Qie {n k:Nat}(h:k<n):List.range n=List.range k ++ k :: (List.range n).drop (k+1):=by
 have e1:(List.range n).take k=List.range k:=by rw [List.take_range];congr 1;omega
 have e2:(List.range n)[k]'(by simpa using h)=k:=by simp
 have:=List.take_append_drop k (List.range n);rw [e1,List.drop_eq_getElem_cons (by simpa using h),e2] at this;exact this.symm
theorem Qdg {L:List Qag}{k:Nat}(hk:k<L.length)(h:kept L k=true):(QaG L)[rnk L k]? = some k:=by
 unfold QaG rnk;rw [Qie hk,List.filter_append,List.filter_cons,if_pos h,List.getElem?_append_right (Nat.le_refl _),Nat.sub_self]
 rfl
theorem Qd7 {L:List Qag}{k:Nat} : k ∈ QaG L↔k<L.length∧kept L k=true:=by
 unfold QaG;rw [List.mem_filter,List.mem_range]
theorem Qfe (L:List Qag):(QaG L).Nodup:=List.Pairwise.filter _ List.nodup_range
theorem QdQ {L:List Qag}{k:Nat}(hk:k<L.length)(h:kept L k=true):rnk L k<(QaG L).length:=(List.getElem?_eq_some_iff.1 (Qdg hk h)).1
theorem Qho {l:List Nat}(h:l.Nodup){i j:Nat}(hi:i<l.length)(hj:j<l.length)(e:l[i]=l[j]):i=j:=by
 have hp:=List.pairwise_iff_getElem.1 h;rcases Nat.lt_trichotomy i j with x | x | x
 ·exact absurd e (hp i j hi hj x)
 ·exact x
 ·exact absurd e.symm (hp j i hj hi x)
theorem Qd4 {L:List Qag}{i:Nat}(hi:i<(QaG L).length):(QaG L)[i]<L.length∧kept L (QaG L)[i]=true∧rnk L (QaG L)[i]=i:=by
 obtain⟨h1,h2⟩:=Qd7.1 (List.getElem_mem hi);refine⟨h1,h2,?_⟩;have e:=Qdg h1 h2;have hl:=QdQ h1 h2;rw [List.getElem?_eq_getElem hl] at e;exact Qho (Qfe L) hl hi (Option.some.inj e)
theorem Qo1 {L:List Qag}{k j:Nat}(hk:k<L.length)(h:kept L k=true)(hj:j<L.length)(h':kept L j=true)(e:rnk L k=rnk L j):k=j:=by
 have a:=Qdg hk h;rw [e,Qdg hj h'] at a;exact (Option.some.inj a).symm
theorem QpF (L:List Qag):kept L 0=true:=rfl
theorem QjU (L:List Qag):rnk L 0=0:=rfl
theorem QdD {L:List Qag}{k:Nat}(h:1≤k):1≤rnk L k:=by
 unfold rnk;obtain⟨d,rfl⟩:∃d,k=d+1:=⟨k - 1,by omega⟩;rw [List.range_succ_eq_map,List.filter_cons,if_pos (QpF L)];simp
theorem Qc2 {L:List Qag}{k:Nat}(h:kd L k≠0):kept L k=true:=by unfold kept;simp [h]
theorem QoX {L:List Qag}{k:Nat}(h1:1≤k)(h:kept L k=true):kd L k≠0:=by
 unfold kept at h;have:(k == 0)=false:=by simp;omega
 rw [this] at h
 simpa using h
theorem QeC {L:List Qag} : ren L 0=0:=by
 unfold ren
 split
 ·rw [show (0:Int).toNat=0 from rfl,QjU];rfl
 ·rfl
theorem QcZ {L:List Qag} : ren L (-1) = -1:=by unfold ren;rw [if_neg (by omega)]
theorem Qcf {L:List Qag}{k:Nat}(hk:k<L.length)(h:kept L k=true):ren L (k:Int)=(rnk L k:Int):=by
 unfold ren;rw [if_pos ⟨Int.natCast_nonneg _,by rw [Int.toNat_natCast];exact hk,by rw [Int.toNat_natCast];exact h⟩,Int.toNat_natCast]
theorem QaW (L:List Qag):(QbB L).length=(QaG L).length:=by unfold QbB;rw [List.length_map]
theorem QeG (L:List Qag):(QaG L).length≤L.length:=by
 unfold QaG;have:=List.length_filter_le (kept L) (List.range L.length);rwa [List.length_range] at this
theorem QeT {L:List Qag}{k:Nat}(hk:k<L.length)(h:kept L k=true):(QbB L).getD (rnk L k) default=Qel L (L.getD k default):=by
 unfold QbB;rw [List.getD_eq_getElem?_getD,List.getElem?_map,Qdg hk h]
 rfl
theorem QdO {L:List Qag}{k:Nat}(hk:k<L.length)(h:kept L k=true):kd (QbB L) (rnk L k)=kd L k:=by
 show ((QbB L).getD (rnk L k) default).1=_;rw [QeT hk h];rfl
theorem Qhu {L:List Qag}{k:Nat}(hk:k<L.length)(h:kept L k=true):Qaz (QbB L) (rnk L k:Int)=(Qaz L (k:Int)).map (ren L):=by
 unfold Qaz;rw [Int.toNat_natCast,Int.toNat_natCast,QeT hk h];rfl
def EntP (L:List Qag) (e:Int):Prop:=e=0∨e = -1∨∃j:Nat,e=j∧1≤j∧j<L.length∧kept L j=true
theorem Qoh {L:List Qag}{e:Int}(h:EntP L e):EntP (QbB L) (ren L e):=by
 rcases h with rfl | rfl | ⟨j,rfl,j1,jl,hk⟩
 ·exact .inl QeC
 ·exact .inr (.inl QcZ)
 ·refine .inr (.inr ⟨rnk L j,Qcf jl hk,QdD j1,by rw [QaW];exact QdQ jl hk,Qc2 ?_⟩);rw [QdO jl hk];exact QoX j1 hk
theorem Qox {L:List Qag}(h1:1≤L.length){a b:Int}(ha:EntP L a)(hb:EntP L b)(e:ren L a=ren L b):a=b:=by
 rcases ha with rfl | rfl | ⟨j,rfl,j1,jl,hj⟩ <;> rcases hb with rfl | rfl | ⟨k,rfl,k1,kl,hk⟩
 ·rfl
 ·rw [QeC,QcZ] at e;omega
 ·rw [QeC,Qcf kl hk] at e;have:=QdD (L:=L) k1;omega
 ·rw [QeC,QcZ] at e;omega
 ·rfl
 ·rw [QcZ,Qcf kl hk] at e;omega
 ·rw [QeC,Qcf jl hj] at e;have:=QdD (L:=L) j1;omega
 ·rw [QcZ,Qcf jl hj] at e;omega
 ·rw [Qcf jl hj,Qcf kl hk] at e;rw [Qo1 jl hj kl hk (by omega)]
theorem Qjx {L:List Qag}{e:Int}(h:tabE L e=true):e=0∨e = -1∨∃j:Nat,e=j∧1≤j∧j<L.length∧kd L j=1:=by
 unfold tabE isKd at h
 by_cases h0:e=0
 ·exact .inl h0
 ·by_cases h1:e = -1
  ·exact .inr (.inl h1)
  ·simp [h0,h1] at h
   obtain⟨⟨a,b⟩,c⟩:=h;obtain⟨j,rfl⟩:=Int.eq_ofNat_of_zero_le a;rw [Int.toNat_natCast] at c;exact .inr (.inr ⟨j,rfl,by omega,by omega,c⟩)
theorem Qib {L:List Qag}{e:Int}(h:e=0∨e = -1∨∃j:Nat,e=j∧1≤j∧j<L.length∧kd L j=1):tabE L e=true:=by
 unfold tabE isKd;rcases h with rfl | rfl | ⟨j,rfl,j1,jl,hk⟩
 ·rfl
 ·rfl
 ·have e1:(L.getD (Int.toNat (j:Int)) default).1=1:=by rw [Int.toNat_natCast];exact hk
  have e2:decide (0≤(j:Int)∧(j:Int)<(L.length:Int))=true:=by rw [decide_eq_true_eq];omega
  rw [e1,e2];simp
theorem Qfr {L:List Qag}{e:Int}(h:Qbf L e=true):e=0∨∃j:Nat,e=j∧1≤j∧j<L.length∧kd L j=2:=by
 unfold Qbf isKd at h
 by_cases h0:e=0
 ·exact .inl h0
 ·simp [h0] at h
  obtain⟨⟨a,b⟩,c⟩:=h;obtain⟨j,rfl⟩:=Int.eq_ofNat_of_zero_le a;rw [Int.toNat_natCast] at c;exact .inr ⟨j,rfl,by omega,by omega,c⟩
theorem Qjy {L:List Qag}{e:Int}(h:e=0∨∃j:Nat,e=j∧1≤j∧j<L.length∧kd L j=2):Qbf L e=true:=by
 unfold Qbf isKd;rcases h with rfl | ⟨j,rfl,j1,jl,hk⟩
 ·rfl
 ·have e1:(L.getD (Int.toNat (j:Int)) default).1=2:=by rw [Int.toNat_natCast];exact hk
  have e2:decide (0≤(j:Int)∧(j:Int)<(L.length:Int))=true:=by rw [decide_eq_true_eq];omega
  rw [e1,e2];simp
theorem Qk7 {L:List Qag}{e:Int}(h:Qbf L e=true):Qbf (QbB L) (ren L e)=true:=by
 rcases Qfr h with rfl | ⟨j,rfl,j1,jl,hk⟩
 ·rw [QeC];exact Qjy (.inl rfl)
 ·have hp:kept L j=true:=Qc2 (by rw [hk];decide);exact Qjy (.inr ⟨rnk L j,Qcf jl hp,QdD j1,by rw [QaW];exact QdQ jl hp,by rw [QdO jl hp];exact hk⟩)
theorem Qm4 {L:List Qag}{e:Int}(h:tabE L e=true):tabE (QbB L) (ren L e)=true:=by
 rcases Qjx h with rfl | rfl | ⟨j,rfl,j1,jl,hk⟩
 ·rw [QeC];exact Qib (.inl rfl)
 ·rw [QcZ];exact Qib (.inr (.inl rfl))
 ·have hp:kept L j=true:=Qc2 (by rw [hk];decide);exact Qib (.inr (.inr ⟨rnk L j,Qcf jl hp,QdD j1,by rw [QaW];exact QdQ jl hp,by rw [QdO jl hp];exact hk⟩))
theorem Qen {L:List Qag}{e:Int}(h:Qbf L e=true):EntP L e:=by
 rcases Qfr h with rfl | ⟨j,rfl,j1,jl,hk⟩
 ·exact .inl rfl
 ·exact .inr (.inr ⟨j,rfl,j1,jl,Qc2 (by rw [hk];decide)⟩)
theorem Qfd {L:List Qag}{e:Int}(h:tabE L e=true):EntP L e:=by
 rcases Qjx h with rfl | rfl | ⟨j,rfl,j1,jl,hk⟩
 ·exact .inl rfl
 ·exact .inr (.inl rfl)
 ·exact .inr (.inr ⟨j,rfl,j1,jl,Qc2 (by rw [hk];decide)⟩)

theorem Qol {L:List Qag}(h40:L.length≤40){e:Int}(h:EntP L e):isE (ren L e)=true:=by
 rcases Qoh h with x | x | ⟨j,x,j1,jl,_⟩
 ·rw [x];rfl
 ·rw [x];rfl
 ·rw [x];have:=QeG L;rw [QaW] at jl;unfold isE;have e1:decide ((1:Int)≤(j:Int))=true:=by rw [decide_eq_true_eq];omega
  have e2:decide ((j:Int)<40)=true:=by rw [decide_eq_true_eq];omega
  rw [e1,e2];simp
theorem Qnf {L:List Qag}(h40:L.length≤40){s:Qag}(h:okD s=true)(he:∀e ∈ s.2.2,EntP L e):okD (Qel L s)=true:=by
 obtain⟨k,d,t⟩:=s;unfold okD QaZ Qel at *;dsimp only at *
 by_cases h0:k=0
 ·rw [if_pos h0] at h ⊢;simpa using h
 ·rw [if_neg h0] at h ⊢
  by_cases h1:k=1
  ·rw [if_pos h1] at h ⊢;simpa using h
  ·rw [if_neg h1] at h ⊢
   by_cases h2:k=2
   ·rw [if_pos h2] at h ⊢;rw [decide_eq_true_eq] at h ⊢;obtain⟨a,b,c⟩:=h;have hl:t.length=4:=by unfold ckE at a;split at a;rename_i x;exact x.1;cases a
    have ha:ckE (t.map (ren L))=0:=by
     unfold ckE;refine if_pos ⟨by rw [List.length_map];exact hl,?_⟩;rw [List.all_eq_true];intro x hx;obtain⟨e,hem,rfl⟩:=List.mem_map.1 hx;exact Qol h40 (he e hem)
    refine⟨ha,?_,c⟩;unfold Qdc at b ⊢;rw [if_pos a] at b;rw [if_pos ha]
    -- one of them is not 0
    cases hb:Qbz (t.map (ren L)) with
    | false=>rfl
    | true=>
     exfalso
     have:Qbz t=true:=by
      unfold Qbz at hb ⊢;rw [List.all_eq_true] at hb ⊢;intro e hem;have hz:=hb _ (List.mem_map.2 ⟨e,hem,rfl⟩);have hz:ren L e=0:=by simpa using hz
      rcases he e hem with x | x | ⟨j,x,j1,jl,hj⟩
      ·rw [x];rfl
      ·rw [x,QcZ] at hz;omega
      ·rw [x,Qcf jl hj] at hz;have:=QdD (L:=L) j1;omega
     rw [this] at b;cases b
   ·rw [if_neg h2] at h;cases h
theorem QeP {m:ImgD}(h:Qao m=0){s:Qag}(hs:s ∈ m.slots):∀e ∈ s.2.2,tabE m.slots e=true:=fun e he=>by
 have:=(Qad h).2.2.2.2.2.1;unfold QaV at this;rw [List.all_eq_true] at this;exact List.all_eq_true.1 (this s hs) e he
theorem Qde {L:List Qag}{k:Nat}(hk:k<L.length):L.getD k default ∈ L:=by rw [←QaB hk];exact List.getElem_mem hk
theorem Qot {L:List Qag}(h:1≤L.length):1≤(QaG L).length:=by have:=QdQ (L:=L) (k:=0) (by omega) rfl;omega
theorem QiE {m:ImgD}(h:Qao m=0):Qap (QbB m.slots)=0:=by
 obtain⟨l1,l40⟩:=Qah (Qad h).2.1;have hs:=(Qad h).2.1;have hk1:=Qot l1;have hk40:=QeG m.slots;have hall:m.slots.all okD=true∧(m.slots.headD default).1=0:=by
  unfold Qap at hs;rw [if_pos ⟨l1,l40⟩] at hs
  split at hs
  ·assumption
  ·cases hs
 unfold Qap;rw [if_pos ⟨by rw [QaW];exact hk1,by rw [QaW];omega⟩];refine if_pos ⟨?_,?_⟩
 ·rw [List.all_eq_true];intro s hsm;unfold QbB at hsm;obtain⟨k,hk,rfl⟩:=List.mem_map.1 hsm;have hkl:=(Qd7.1 hk).1;exact Qnf l40 (List.all_eq_true.1 hall.1 _ (Qde hkl)) (fun e he=>Qfd (QeP h (Qde hkl) e he))
 ·have e0:=QeT (L:=m.slots) (k:=0) (by omega) rfl;rw [QjU] at e0;have:(QbB m.slots).headD default=(QbB m.slots).getD 0 default:=by cases QbB m.slots <;> rfl
  rw [this,e0]
  show (m.slots.getD 0 default).1=0
  have:m.slots.headD default=m.slots.getD 0 default:=by cases m.slots <;> rfl
  rw [←this];exact hall.2
theorem QiG {S:List Qav}{f:Qav→Qav}(hf:∀s,(f s).1=s.1):QaJ (S.map f)=QaJ S:=by
 have hg:∀k,((S.map f).getD k default).1=(S.getD k default).1∨S.length≤k:=fun k=>by
  by_cases hk:k<S.length
  ·left
   rw [List.getD_eq_getElem?_getD,List.getElem?_map,List.getElem?_eq_getElem hk,List.getD_eq_getElem?_getD,List.getElem?_eq_getElem hk];exact hf _
  ·right;omega
 have e:∀k,k<S.length→nmAt (S.map f) k=nmAt S k:=fun k hk=>by
  unfold nmAt;rcases hg k with a | a
  ·rcases hg (k - 1) with b | b
   ·rw [a,b]
   ·omega
  ·omega
 unfold QaJ;rw [List.length_map,Bool.eq_iff_iff,List.all_eq_true,List.all_eq_true]
 constructor
 ·intro h k hk;rw [←e k (List.mem_range.1 hk)];exact h k hk
 ·intro h k hk;rw [e k (List.mem_range.1 hk)];exact h k hk
theorem Qeu {L:List Qag}(r:List Int)(i:Nat):(r.map (ren L)).getD i 0=ren L (r.getD i 0):=by
 rw [List.getD_eq_getElem?_getD,List.getElem?_map,List.getD_eq_getElem?_getD]
 cases r[i]? with
 | none=>exact QeC.symm
 | some x=>rfl
theorem Qou {L:List Qag}{x:Int}(h:Qbf L x=true)(hx:x≠0):Qaz (QbB L) (ren L x)=(Qaz L x).map (ren L):=by
 rcases Qfr h with e | ⟨j,rfl,j1,jl,hk⟩
 ·exact absurd e hx
 ·have hp:kept L j=true:=Qc2 (by rw [hk];decide);rw [Qcf jl hp,Qhu jl hp]
theorem Qew {L:List Qag}{g:Int}{r:List Int}(h:Qas L g r=true):Qas (QbB L) g (r.map (ren L))=true:=by
 unfold Qas at h ⊢;rw [Bool.and_eq_true,Bool.and_eq_true] at h ⊢;obtain⟨a,b,c⟩:=h;rw [List.all_eq_true] at b;refine⟨by rw [List.length_map];exact a,by rw [List.all_eq_true];intro x hx;obtain⟨e,he,rfl⟩:=List.mem_map.1 hx;exact Qk7 (b e he),?_⟩;unfold QbY at c ⊢;rw [Bool.or_eq_true,Bool.or_eq_true] at c ⊢;rcases c with c | c | c
 ·exact .inl c
 ·refine .inr (.inl ?_);rw [List.length_map,Qeu];have:r.getD (r.length - 1) 0=0:=by simpa using c
  rw [this,QeC];rfl
 ·refine .inr ?_;rw [List.length_map,Qeu]
  by_cases hz:r.getD (r.length - 1) 0=0
  ·left;rw [hz,QeC];rfl
  ·right
   have hl:r.length - 1<r.length:=Classical.byContradiction fun x=>hz (by rw [List.getD_eq_getElem?_getD,List.getElem?_eq_none (by omega)];rfl)
   have hm:r.getD (r.length - 1) 0 ∈ r:=by rw [List.getD_eq_getElem?_getD,List.getElem?_eq_getElem hl];exact List.getElem_mem hl
   rw [Qou (b _ hm) hz,← List.map_drop,List.all_map];rw [List.all_eq_true] at c ⊢;intro e he;have:=c e he;have:e=0:=by simpa using this
   show (ren L e == 0)=true
   rw [this,QeC];rfl
theorem Qej {m:ImgD}(h:Qao m=0):Qao (QbP m)=0:=by
 obtain⟨z1,z2,z3,z4,z5,z6,z7⟩:=Qad h;have r1:(Qaw (QbP m)).all (fun s=>Qay s.2.1)=true:=by
  show (((⟨#[]⟩,m.guest,m.root.map (ren m.slots)):Qav) :: m.snaps.map (Qek m.slots)).all _=true
  rw [List.all_cons,List.all_map];have:(Qaw m).all (fun s=>Qay s.2.1)=true:=z5;exact this
 have r2:(Qaw (QbP m)).all (fun s=>Qas (QbB m.slots) s.2.1 s.2.2)=true:=by
  show (((⟨#[]⟩,m.guest,m.root.map (ren m.slots)):Qav) :: m.snaps.map (Qek m.slots)).all _=true
  have z7:(((⟨#[]⟩,m.guest,m.root):Qav) :: m.snaps).all (fun s=>Qas m.slots s.2.1 s.2.2)=true:=z7;rw [List.all_cons,Bool.and_eq_true] at z7 ⊢;refine⟨Qew z7.1,?_⟩;rw [List.all_map,List.all_eq_true];intro s hs;exact Qew (List.all_eq_true.1 z7.2 s hs)
 have r3:QaV (QbB m.slots)=true:=by
  unfold QaV;rw [List.all_eq_true];intro s hs;unfold QbB at hs;obtain⟨k,hk,rfl⟩:=List.mem_map.1 hs;have hkl:=(Qd7.1 hk).1;rw [List.all_eq_true];intro x hx;obtain⟨e,he,rfl⟩:=List.mem_map.1 hx;exact Qm4 (QeP h (Qde hkl) e he)
 unfold Qao;rw [if_neg (by show ¬3<(m.snaps.map (Qek m.slots)).length;rw [List.length_map];omega),if_neg (by show ¬Qap (QbB m.slots)≠0;rw [QiE h];simp),if_neg,if_neg (by rw [r1];decide),if_neg (by show ¬QaV (QbB m.slots)=false;rw [r3];decide),if_neg (by show ¬((Qaw (QbP m)).all fun s=>Qas (QbB m.slots) s.2.1 s.2.2)=false;rw [r2];decide)];rintro (e | e)
 ·exact e (by show ((QaG m.slots).map _).length=(QbB m.slots).length;rw [List.length_map,QaW])
 ·have e:QaJ (m.snaps.map (Qek m.slots))=false:=e;rw [QiG (f:=Qek m.slots) (fun _=>rfl),z4] at e;cases e

theorem QlB {m:ImgD}(h:Qao m=0):kd m.slots 0=0:=by
 have hs:=(Qad h).2.1;have hp:=Qah hs;unfold Qap at hs;rw [if_pos hp] at hs
 split at hs
 ·rename_i x
  have:m.slots.headD default=m.slots.getD 0 default:=by cases m.slots <;> rfl
  unfold kd;rw [←this];exact x.2
 ·cases hs
theorem QcL {L:List Qag}(h1:1≤L.length){P:List Int}(hP:∀e ∈ P,EntP L e){k:Int}(hk:EntP L k):(P.map (ren L)).count (ren L k)=P.count k:=by
 induction P with
 | nil=>rfl
 | cons a P ih=>
  rw [List.map_cons,List.count_cons,List.count_cons,ih (fun e he=>hP e (List.mem_cons_of_mem _ he))]
  congr 1
  by_cases e:a=k
  ·rw [e];simp
  ·have:ren L a≠ren L k:=fun x=>e (Qox h1 (hP a List.mem_cons_self) hk x)
   have e1:(ren L a == ren L k)=false:=by simpa using this
   have e2:(a == k)=false:=by simpa using e
   rw [e1,e2]
theorem Qim {L:List Qag}(h1:1≤L.length){P:List Int}(hP:∀e ∈ P,EntP L e){k:Int}(hk:EntP L k):ren L k ∈ P.map (ren L)↔k ∈ P:=by
 rw [←List.count_pos_iff,← List.count_pos_iff,QcL h1 hP hk]
theorem Qf2 {p:Nat→Bool}{f:Nat→Nat} : ∀ (l:List Nat),(∀k ∈ l,p k=false→f k=0)→((l.filter p).map f).sum=(l.map f).sum
 | [],_=>rfl
 | a :: l,h=>by
  have ih:=Qf2 (p:=p) (f:=f) l (fun k hk=>h k (List.mem_cons_of_mem _ hk))
  cases e:p a with
  | true=>rw [List.filter_cons,if_pos e,List.map_cons,List.map_cons,List.sum_cons,List.sum_cons,ih]
  | false=>rw [List.filter_cons,if_neg (by rw [e];decide),ih,List.map_cons,List.sum_cons,h a List.mem_cons_self e,Nat.zero_add]
theorem Qmv (L:List Qag):(QaG L).map (rnk L)=List.range (QaG L).length:=by
 apply List.ext_getElem
 ·simp
 ·intro i h1 h2;rw [List.getElem_map,List.getElem_range];exact (Qd4 (by simpa using h1)).2.2
theorem QkR (m:ImgD):QaC (QbP m)=(QaC m).map (ren m.slots):=by
 rw [Qch,Qch,List.map_append,List.map_flatMap]
 show m.root.map (ren m.slots) ++ (m.snaps.map (Qek m.slots)).flatMap (fun s=>s.2.2)=_
 rw [List.flatMap_map]
 rfl
theorem QjV {m:ImgD}(h:Qao m=0):∀e ∈ QaC m,Qbf m.slots e=true:=fun e he=>by
 obtain⟨s,hs,hm⟩:=List.mem_flatMap.1 he;exact List.all_eq_true.1 (Qcl h hs).2.2.2 e hm
theorem Qk4 {m:ImgD}(h:Qao m=0)(k:Nat):∀e ∈ Qaz m.slots (k:Int),tabE m.slots e=true:=fun e he=>by
 unfold Qaz at he;rw [Int.toNat_natCast] at he
 by_cases hk:k<m.slots.length
 ·exact QeP h (Qde hk) e he
 ·rw [List.getD_eq_getElem?_getD,List.getElem?_eq_none (by omega)] at he
  cases he
theorem QmA {m:ImgD}(h:Qao m=0){k:Nat}(hk:k<m.slots.length)(hp:kept m.slots k=true):cntI (QbB m.slots) (QaC (QbP m)) (rnk m.slots k)=cntI m.slots (QaC m) k:=by
 obtain⟨l1,_⟩:=Qah (Qad h).2.1
 by_cases k0:k=0
 ·subst k0;rw [QjU];rfl
 ·have k1:1≤k:=by omega
  have r1:=QdD (L:=m.slots) k1;have hP:∀e ∈ QaC m,EntP m.slots e:=fun e he=>Qen (QjV h e he)
  have hE:EntP m.slots (k:Int):=.inr (.inr ⟨k,rfl,k1,hk,hp⟩);have er:=Qcf hk hp;unfold cntI;rw [if_neg (by omega),if_neg k0,QkR,← er,QcL l1 hP hE]
  congr 2
  unfold sumT;rw [QaW,← Qmv,List.map_map];have e1:∀j ∈ QaG m.slots,(QbI (QbB m.slots) ((QaC m).map (ren m.slots)) (ren m.slots (k:Int)) ∘ rnk m.slots) j=QbI m.slots (QaC m) (k:Int) j:=fun j hj=>by
   obtain⟨jl,hj⟩:=Qd7.1 hj
   show QbI (QbB m.slots) ((QaC m).map (ren m.slots)) (ren m.slots (k:Int)) (rnk m.slots j)=_
   unfold QbI;rw [QdO jl hj]
   by_cases hkd:kd m.slots j=2
   ·have j1:1≤j:=by
     rcases Nat.eq_zero_or_pos j with e | e
     ·subst e;have:=QlB h;rw [this] at hkd;cases hkd
     ·exact e
    have hEj:EntP m.slots (j:Int):=.inr (.inr ⟨j,rfl,j1,jl,hj⟩);have ej:=Qcf jl hj;have hiff:((rnk m.slots j:Nat):Int) ∈ (QaC m).map (ren m.slots)↔(j:Int) ∈ QaC m:=by rw [←ej];exact Qim l1 hP hEj
    by_cases hm:(j:Int) ∈ QaC m
    ·rw [if_pos ⟨hkd,hiff.2 hm⟩,if_pos ⟨hkd,hm⟩,Qhu jl hj];exact QcL l1 (fun e he=>Qfd (Qk4 h j e he)) hE
    ·rw [if_neg (fun x=>hm (hiff.1 x.2)),if_neg (fun x=>hm x.2)]
   ·rw [if_neg (fun x=>hkd x.1),if_neg (fun x=>hkd x.1)]
  rw [List.map_congr_left e1];unfold QaG;refine Qf2 _ (fun j hj hf=>?_);unfold QbI;rw [if_neg];intro x;rw [Qc2 (by rw [x.1];decide)] at hf
  cases hf
theorem Qi7 {m:ImgD}(h:Qao m=0){k:Nat}(hk:k<m.slots.length)(hp:kept m.slots k=true):(cntL (QbP m)).getD (rnk m.slots k) 0=(cntL m).getD k 0:=by
 rw [Qbr (Qej h) _ (by show rnk m.slots k<(QbB m.slots).length;rw [QaW];exact QdQ hk hp),Qbr h k hk];exact QmA h hk hp
theorem QjS {m:ImgD}(hC:Qaq m=0):Qaq (QbP m)=0:=by
 obtain⟨h,hr,hf⟩:=Qbs hC;have hs:=Qej h;have hl:(cntL (QbP m)).length=(QbB m.slots).length:=QaU (QbP m);unfold Qaq;rw [if_neg (by rw [hs];simp),if_neg,if_pos]
 ·rw [List.all_eq_true];intro i hi;have hi:i<(QbB m.slots).length:=List.mem_range.1 hi;rw [QaW] at hi;obtain⟨kl,hp,er⟩:=Qd4 hi;unfold Qb4;have e1:((QbP m).slots.getD i default).1=(m.slots.getD (QaG m.slots)[i] default).1:=by
   have:=QdO kl hp;rw [er] at this;exact this
  have e2:=Qi7 h kl hp;rw [er] at e2;rw [e1,e2];exact hf _ kl
 ·intro hne
  apply hne
  apply List.ext_getElem
  ·rw [hl,QaW];show _=((QaG m.slots).map _).length;rw [List.length_map]
  ·intro i h1 h2;have hi:i<(QaG m.slots).length:=by rw [hl,QaW] at h1;exact h1
   obtain⟨kl,hp,er⟩:=Qd4 hi;have e2:=Qi7 h kl hp;rw [er] at e2;have e3:(cntL (QbP m))[i]=(cntL (QbP m)).getD i 0:=by simp [List.getD,h1]
   rw [e3,e2,hr];exact (List.getElem_map (fun k=>m.refs.getD k 0) (h:=h2)).symm
theorem Qh1 {m:ImgD}(h:Qao m=0){s:Qav}(hs:s ∈ Qaw m):∀e ∈ s.2.2,Qbf m.slots e=true:=fun e he=>List.all_eq_true.1 (Qcl h hs).2.2.2 e he
theorem QfC (gm:Int)(ra:Option Addr)(rn rc:Nat)(sa:Option Addr)(sn sc:Nat)(fa:Option Addr)(fn fc:Nat)(na:Option Addr)(nn nc:Nat)(m:ImgD)(E:Int)(w:World)(h:Img w (.agg (bI gm ra rn rc sa sn sc fa fn fc na nn nc)) m)(hE:Qao m=E)(hne:(E != 0)=true) :
  Calls Tryz.prog 4 #[.agg (bI gm ra rn rc sa sn sc fa fn fc na nn nc)] w fun r w'=>r=.returned (.int .i64 E)∧Below w.heap.size w w':=by
 have b0:Below w.heap.size w (w.alloc (.cells (bI gm ra rn rc sa sn sc fa fn fc na nn nc) 26)):=bA;have hcall:=QfL (h.below b0) hE;clear h hE
 go_enter Tryz.func4,Tryz.ntmps4
 go_wp2_with (go_at_call 16;refine hcall.mono ?_;rintro e w1 ⟨rfl,b1⟩);go_ret;exact⟨rfl,Below.on b0 b1⟩
set_option linter.unusedSimpArgs false in
theorem QgU (gm:Int)(ra:Option Addr)(rn rc:Nat)(sb so:Nat)(sn sc:Nat)(fa:Option Addr)(fn fc:Nat)(na:Option Addr)(nn nc:Nat)(m:ImgD)(E:Int)(w:World)(h:Img w (.agg #[.int .i64 gm,.slice ra rn rc,.slice (some ⟨sb,so,none⟩) sn sc,.slice fa fn fc,.slice na nn nc]) m)(hsn:m.slots.length=sn)(hsb:sb<w.heap.size)(hcl:∀j,(h:j<m.slots.length)→SlAt w sb (so+j*3) m.slots[j])(hf:Sl w (.slice fa fn fc) m.refs)(hfn:fn=sn)
  (h0:Qao m=0) (hE:Qaq m=E) :
  Calls Tryz.prog 4 #[.agg #[.int .i64 gm,.slice ra rn rc,.slice (some ⟨sb,so,none⟩) sn sc,.slice fa fn fc,.slice na nn nc]] w fun r w'=>r=.returned (.int .i64 E)∧Below w.heap.size w w':=by
 have b0:Below w.heap.size w (w.alloc (.cells #[.int .i64 gm,.slice ra rn rc,.slice (some ⟨sb,so,none⟩) sn sc,.slice fa fn fc,.slice na nn nc] 26)):=bA;have m0:(w.alloc (.cells #[.int .i64 gm,.slice ra rn rc,.slice (some ⟨sb,so,none⟩) sn sc,.slice fa fn fc,.slice na nn nc] 26)).heap[w.heap.size]? = some (.cells #[.int .i64 gm,.slice ra rn rc,.slice (some ⟨sb,so,none⟩) sn sc,.slice fa fn fc,.slice na nn nc] 26):=zHn _ _;have h40:sn≤40:=by rw [←hsn];exact (Qah (Qad h0).2.1).2
 have hrl:m.refs.length=sn:=by rw [(Qad h0).2.2.1,hsn]
 have HE:Hid (E=if cntL m≠m.refs then 9 else if (List.range m.slots.length).all (Qb4 m)=true then 0 else 9):=by
  show _=_
  rw [←hE];unfold Qaq;rw [if_neg (by simpa using h0)]
 have FB:Hid (∀n,n<sn→(m.refs.getD n 0≠(cntL m).getD n 0∨Qb4 m n=false)→E=9):=fun n hn hor=>by
  rw [HE.out]
  by_cases hq:cntL m≠m.refs
  ·rw [if_pos hq]
  ·rw [if_neg hq,if_neg];intro e;rcases hor with hh | hh
   ·exact hh (by rw [Classical.not_not.1 hq])
   ·have:=List.all_eq_true.1 e n (by rw [hsn];simpa using hn);rw [hh] at this;cases this
 have FG:Hid ((∀n,n<sn→m.refs.getD n 0=(cntL m).getD n 0∧Qb4 m n=true)→E=0):=fun hall=>by
  rw [HE.out,if_neg,if_pos]
  ·rw [List.all_eq_true];intro j hj;exact (hall j (by rw [←hsn];simpa using hj)).2
  ·rw [Classical.not_not]
   apply List.ext_getElem
   ·rw [QaU,hrl,hsn]
   ·intro j h1 h2;have:=(hall j (by rw [←hrl];exact h2)).1
    simpa [List.getD,h1,h2] using this.symm
 have hcall:=QfL (h.below b0) h0;have hcnt:=fun W (hW:Below w.heap.size w W)=>Qfi (h.below hW) h0
 rw [hsn] at hcnt;have H1:Hid (m.slots.length=sn):=hsn;have H2:Hid (∀j,(h:j<m.slots.length)→SlAt w sb (so+j*3) m.slots[j]):=hcl;have H3:Hid (Sl w (.slice fa fn fc) m.refs):=hf;subst hfn;have H4:Hid (m.refs.length=fn):=hrl;clear HE hsn hcl hf hrl h h0 hE
 go_enter Tryz.func4,Tryz.ntmps4
 go_wp2_with fail;refine hcall.mono ?_;rintro e w1 ⟨rfl,b1⟩;have m1:=Qab m0 b1 (by simp);obtain⟨c0,c1,c2,c3,c4⟩:=five m1;have hb1:=Below.on b0 b1;have hcnt:=hcnt w1 hb1;clear hcall;go_wp2_with fail;refine hcnt.mono ?_;rintro e w2 ⟨⟨rfl,hL⟩,b2⟩;have m2:=Qab m1 b2 (szH m1);clear c0 c1 c2 c3 c4 hcnt;obtain⟨c0,c1,c2,c3,c4⟩:=five m2;have hbw:=Below.on hb1 b2;obtain⟨g,hg⟩:∃g,w1.heap.size+1=g:=⟨_,rfl⟩;rw [hg] at hL ⊢;clear hg;go_wp2_with fail
 go_loopw [5] (fun i wq=>∃k:Nat,k≤fn∧i=.int .i64 k∧Hid (∀j,j<k→m.refs.getD j 0=(cntL m).getD j 0∧Qb4 m j=true)∧(Hid (∀a,wq.cell? a=w2.cell? a)∧Below w.heap.size w wq)) (fun i _=>fn - (intOf i).toNat)
 case atStart=>exact⟨0,Nat.zero_le _,rfl,fun j hj=>absurd hj (by omega),fun _=>rfl,hbw⟩
 case round=>
  obtain⟨k,hk,rfl,HA,hsame,hbr⟩:=hrel;have c0:=(hsame.out _).trans c0;have c1:=(hsame.out _).trans c1;have c2:=(hsame.out _).trans c2;have c3:=(hsame.out _).trans c3;have c4:=(hsame.out _).trans c4
  by_cases hlk:k<fn
  ·have hki:(k:Int)<(fn:Int):=by omega
   have hkm:k<m.slots.length:=by rw [H1.out];exact hlk
   obtain⟨tv,s1,_⟩:=H2.out k hkm;have ekd:m.slots[k].1=kd m.slots k:=by unfold kd;simp [List.getD,hkm]
   rw [ekd] at s1;have s1:=(hbr.cell (p:=⟨sb,so+k*3,none⟩) hsb).trans s1;obtain⟨b,off,rfl,hlt,hcf⟩:=H3.out.cells.2.2.2 k hlk;have hcf:=(hbr.cell (p:=⟨b,off+k,none⟩) hlt).trans hcf;have hcc:=(hsame.out _).trans (hL.cell (by rw [QaU,H1.out];exact hlk));obtain⟨x,hx⟩:∃x,m.refs.getD k 0=x:=⟨_,rfl⟩;obtain⟨y,hy⟩:∃y,(cntL m).getD k 0=y:=⟨_,rfl⟩;obtain⟨z,hz⟩:∃z,kd m.slots k=z:=⟨_,rfl⟩;have HF:Hid (Qb4 m k=((z == 0) == (y == 0))):=by
    show _=_
    unfold Qb4;rw [hy,← hz];rfl
   rw [hx] at hcf;rw [hy] at hcc;rw [hz] at s1;have HXY:Hid (m.refs.getD k 0=x∧(cntL m).getD k 0=y):=⟨hx,hy⟩;clear hx hy hz ekd
   by_cases hxy:x=y
   ·have hxyb:(x != y)=false:=by simp [hxy]
    have HE2:Hid (x=y):=hxy;clear hxy
    cases hy0:y == 0 with
    | true=>
     cases hz0:z == 0 with
     | true=>
      go_wp2_with fail
      go_quiet (fail)
      go_wp2_with fail;go_roundw
      case rel=>exact⟨k+1,by omega,by go_num,fun j hj=>by
       by_cases e:j=k
       ·subst e;exact⟨by rw [HXY.out.1,HXY.out.2,HE2.out],by rw [HF.out,hz0,hy0];rfl⟩
       ·exact HA.out j (by omega),fun a=>hsame.out a,⟨hbr.os,hbr.tape,hbr.output,hbr.size,hbr.block⟩⟩
      case measure=>simp [intOf];omega
     | false=>
      have HB:Hid (E=9):=FB.out k hlk (.inr (by rw [HF.out,hz0,hy0];rfl));go_wp2_with fail
      go_quiet (fail)
      go_wp2_with fail;go_ret;exact⟨QaI HB.out.symm,⟨hbr.os,hbr.tape,hbr.output,hbr.size,hbr.block⟩⟩
    | false=>
     cases hz0:z == 0 with
     | true=>
      have HB:Hid (E=9):=FB.out k hlk (.inr (by rw [HF.out,hz0,hy0];rfl));go_wp2_with fail
      go_quiet (fail)
      go_wp2_with fail;go_ret;exact⟨QaI HB.out.symm,⟨hbr.os,hbr.tape,hbr.output,hbr.size,hbr.block⟩⟩
     | false=>
      go_wp2_with fail
      go_quiet (fail)
      go_wp2_with fail;go_roundw
      case rel=>exact⟨k+1,by omega,by go_num,fun j hj=>by
       by_cases e:j=k
       ·subst e;exact⟨by rw [HXY.out.1,HXY.out.2,HE2.out],by rw [HF.out,hz0,hy0];rfl⟩
       ·exact HA.out j (by omega),fun a=>hsame.out a,⟨hbr.os,hbr.tape,hbr.output,hbr.size,hbr.block⟩⟩
      case measure=>simp [intOf];omega
   ·have hxyb:(x != y)=true:=by simp [hxy]
    have HB:Hid (E=9):=FB.out k hlk (.inl (by rw [HXY.out.1,HXY.out.2];exact hxy));clear hxy;go_wp2_with fail
    go_quiet (fail)
    go_wp2_with fail;go_ret;exact⟨QaI HB.out.symm,⟨hbr.os,hbr.tape,hbr.output,hbr.size,hbr.block⟩⟩
  ·have HB:Hid (E=0):=FG.out (fun n hn=>HA.out n (by omega));have e5:k=fn:=by omega
   subst e5;go_wp2_with fail;go_ret;exact⟨QaI HB.out.symm,hbr⟩
theorem Qa9 {w:World}{v:Value}{m:ImgD}(h:Img w v m){E:Int}(hE:Qaq m=E) :
  Calls Tryz.prog 4 #[v] w fun r w'=>r=.returned (.int .i64 E)∧Below w.heap.size w w':=by
 have h':=h;obtain⟨ra,rc,sa,sc,fa,fc,na,nc,rfl,h1,h2,h3,h4⟩:=h.parts
 by_cases h0:Qao m=0
 ·obtain⟨z1,z2,z3,_⟩:=Qad h0;obtain⟨sb,so,sc',e,hcp,hlt,hcell⟩:=h2.open (Qah z2).1;simp at e
  obtain⟨rfl,rfl⟩:=e;exact QgU m.guest ra _ rc sb so _ sc fa _ fc na _ nc m E w h' rfl hlt hcell h3 z3 h0 hE
 ·have e:Qao m=E:=by rw [←hE];unfold Qaq;rw [if_pos h0]
  exact QfC m.guest ra _ rc sa _ sc fa _ fc na _ nc m E w h' e (by rw [←e];simpa using h0)
theorem Qku (gm:Int)(ra:Option Addr)(rn rc:Nat)(sa:Option Addr)(sn sc:Nat)(fa:Option Addr)(fn fc:Nat)(na:Option Addr)(nn nc:Nat)(qb qo qn qc n:Nat)(w:World)(hn:n<16)(hqn:n / 4<qn)(hqb:qb<w.heap.size)(hc:w.cell? ⟨qb,qo+n / 4,none⟩=some (.int .i64 0)) :
  Calls Tryz.prog 77 #[.agg (bI gm ra rn rc sa sn sc fa fn fc na nn nc),.slice (some ⟨qb,qo,none⟩) qn qc,.int .i64 n] w fun r w'=>r=.returned (.int .i64 0)∧Below w.heap.size w w':=by
 have b0:Below w.heap.size w (w.alloc (.cells (bI gm ra rn rc sa sn sc fa fn fc na nn nc) 26)):=bA;have cr:=(b0.cell (p:=⟨qb,qo+n / 4,none⟩) hqb).trans hc;have hq:((n:Int) / 4).toNat=n / 4:=by omega
 go_enter Tryz.func77,Tryz.ntmps77
 go_wp2_with fail;go_ret;exact⟨rfl,b0⟩
theorem Qle (gm:Int)(ra:Option Addr)(rn rc:Nat)(sb so:Nat)(sn sc:Nat)(fa:Option Addr)(fn fc:Nat)(na:Option Addr)(nn nc:Nat)(qb qo qn qc n:Nat)(t:Nat)(x:Int)(w:World)(hn:n<16)(hqn:n / 4<qn)(hqb:qb<w.heap.size)(hc:w.cell? ⟨qb,qo+n / 4,none⟩=some (.int .i64 t))(ht:0<t)(hts:t<sn)(hsb:sb<w.heap.size)
  (tb tw tc:Nat) (hct:w.cell? ⟨sb,so+t*3+2,none⟩=some (.slice (some ⟨tb,tw,none⟩) 4 tc)) (htb:tb<w.heap.size) (hx:w.cell? ⟨tb,tw+n % 4,none⟩=some (.int .i64 x)) :
  Calls Tryz.prog 77 #[.agg #[.int .i64 gm,.slice ra rn rc,.slice (some ⟨sb,so,none⟩) sn sc,.slice fa fn fc,.slice na nn nc],.slice (some ⟨qb,qo,none⟩) qn qc,.int .i64 n] w fun r w'=>r=.returned (.int .i64 x)∧Below w.heap.size w w':=by
 have b0:Below w.heap.size w (w.alloc (.cells #[.int .i64 gm,.slice ra rn rc,.slice (some ⟨sb,so,none⟩) sn sc,.slice fa fn fc,.slice na nn nc] 26)):=bA;have cr:=(b0.cell (p:=⟨qb,qo+n / 4,none⟩) hqb).trans hc;have ct:=(b0.cell (p:=⟨sb,so+t*3+2,none⟩) hsb).trans hct;have cx:=(b0.cell (p:=⟨tb,tw+n % 4,none⟩) htb).trans hx;have hq:((n:Int) / 4).toNat=n / 4:=by omega
 have hq2:((n:Int) % 4).toNat=n % 4:=by omega
 have hne:((t:Int) == 0)=false:=by simp;omega
 have h4:n % 4<4:=by omega
 go_enter Tryz.func77,Tryz.ntmps77
 go_wp2_with fail;go_ret;exact⟨rfl,b0⟩
theorem Qm0 {w:World}{v rv:Value}{m:ImgD}{root:List Int}(h:Img w v m)(hr:Sl w rv root)(hs:Qap m.slots=0)(hall:root.all (Qbf m.slots)=true)(n:Nat)(hn:n<16)(hl:n / 4<root.length){c:Int}(hc:QaT m root n=c) :
  Calls Tryz.prog 77 #[v,rv,.int .i64 n] w fun r w'=>r=.returned (.int .i64 c)∧Below w.heap.size w w':=by
 obtain⟨ra,rc,sa,sc,fa,fc,na,nc,rfl,h1,h2,h3,h4⟩:=h.parts;have hE2:=Qcj hall hl;obtain⟨rb,ro,qc,rfl,_,hrb,hcell⟩:=hr.open (by omega);have hcr:=hcell (n / 4) hl;unfold QaT at hc
 by_cases hz:root.getD (n / 4) 0=0
 ·rw [if_pos hz] at hc;subst hc;rw [hz] at hcr;exact Qku m.guest ra _ rc sa _ sc fa _ fc na _ nc rb ro _ qc n w hn hl hrb hcr
 ·rw [if_neg hz] at hc;rw [QbL hz] at hE2;obtain⟨t,ht,htl,hkd⟩:=Qbu hE2;have hok:=QdE (QaF hs htl) hkd;obtain⟨sb,so,sc',e,_,hsb,hcl⟩:=h2.open (by omega);simp at e
  obtain⟨rfl,rfl⟩:=e;obtain⟨tv,_,_,c3,hsl⟩:=hcl t htl;obtain⟨tb,tw,tc,rfl,_,htb,htc⟩:=hsl.four hok.1;rw [ht] at hcr hc hz;have e4:Qaz m.slots (t:Int)=m.slots[t].2.2:=by unfold Qaz;simp [List.getD,htl]
  rw [e4] at hc;have hx:=htc (n % 4) (by omega);rw [hc] at hx;exact Qle m.guest ra _ rc sb so _ sc fa _ fc na _ nc rb ro _ qc n t c w hn hl hrb hcr (by omega) htl hsb tb tw tc c3 htb hx
theorem QiS (gm:Int)(ra:Option Addr)(rn rc:Nat)(sa:Option Addr)(sn sc:Nat)(fa:Option Addr)(fn fc:Nat)(na:Option Addr)(nn nc:Nat)(m:ImgD)(E n:Int)(w:World)(h:Img w (.agg (bI gm ra rn rc sa sn sc fa fn fc na nn nc)) m)(hE:Qaq m=E)(hne:(E != 0)=true) :
  Calls Tryz.prog 41 #[.agg (bI gm ra rn rc sa sn sc fa fn fc na nn nc),.int .i64 n] w fun r w'=>r=.returned (.int .i64 E)∧Below w.heap.size w w':=by
 have b0:Below w.heap.size w (w.alloc (.cells (bI gm ra rn rc sa sn sc fa fn fc na nn nc) 26)):=bA;have hcall:=Qa9 (h.below b0) hE;clear h hE
 go_enter Tryz.func41,Tryz.ntmps41
 go_wp2_with (go_at_call 4;refine hcall.mono ?_;rintro e w1 ⟨rfl,b1⟩);go_ret;exact⟨rfl,Below.on b0 b1⟩
theorem QkG (gm:Nat)(ra:Option Addr)(rn rc:Nat)(sa:Option Addr)(sn sc:Nat)(fa:Option Addr)(fn fc:Nat)(na:Option Addr)(nn nc:Nat)(m:ImgD)(n:Int)(w:World)(h:Img w (.agg (bI gm ra rn rc sa sn sc fa fn fc na nn nc)) m)(hE:Qaq m=0)(hg:gm≤16){E:Int}(hr:(if 0≤n∧n<gm then 0 else 3)=E) :
  Calls Tryz.prog 41 #[.agg (bI gm ra rn rc sa sn sc fa fn fc na nn nc),.int .i64 n] w fun r w'=>r=.returned (.int .i64 E)∧Below w.heap.size w w':=by
 have b0:Below w.heap.size w (w.alloc (.cells (bI gm ra rn rc sa sn sc fa fn fc na nn nc) 26)):=bA;have m0:(w.alloc (.cells (bI gm ra rn rc sa sn sc fa fn fc na nn nc) 26)).heap[w.heap.size]? = some (.cells (bI gm ra rn rc sa sn sc fa fn fc na nn nc) 26):=zHn _ _;have hcall:=Qa9 (h.below b0) hE;obtain⟨B,hB⟩:∃B,decide ((0:Int)≤n∧n≤(gm:Int) - 1)=B:=⟨_,rfl⟩;have HB:Hid (decide ((0:Int)≤n∧n≤(gm:Int) - 1)=B):=hB;have HR:Hid (E=if B=true then 0 else 3):=by
  show _=_
  rw [←hr,← hB]
  by_cases hc:0≤n∧n<gm
  ·rw [if_pos hc,if_pos (decide_eq_true (by omega))]
  ·rw [if_neg hc,if_neg (by rw [decide_eq_false (by omega)];decide)]
 clear h hE hB hr
 cases B with
 | true=>
  go_enter Tryz.func41,Tryz.ntmps41
  go_wp2_with (first | (go_at_call 4;refine hcall.mono ?_;rintro e w1 ⟨rfl,b1⟩;have m1:=Qab m0 b1 (by simp);obtain⟨c0,c1,c2,c3,c4⟩:=five m1) | (go_at_call 50;refine (QaN _ _ _ _).mono ?_;rintro e w' ⟨rfl,hw⟩;subst hw;rw [HB.out]));go_ret;exact⟨by rw [HR.out];rfl,Below.on b0 b1⟩
 | false=>
  go_enter Tryz.func41,Tryz.ntmps41
  go_wp2_with (first | (go_at_call 4;refine hcall.mono ?_;rintro e w1 ⟨rfl,b1⟩;have m1:=Qab m0 b1 (by simp);obtain⟨c0,c1,c2,c3,c4⟩:=five m1) | (go_at_call 50;refine (QaN _ _ _ _).mono ?_;rintro e w' ⟨rfl,hw⟩;subst hw;rw [HB.out]));go_ret;exact⟨by rw [HR.out];rfl,Below.on b0 b1⟩
theorem QbO {w:World}{v:Value}{m:ImgD}(h:Img w v m)(n:Int){E:Int}(hE:Qbk m n=E) :
  Calls Tryz.prog 41 #[v,.int .i64 n] w fun r w'=>r=.returned (.int .i64 E)∧Below w.heap.size w w':=by
 have h':=h;obtain⟨ra,rc,sa,sc,fa,fc,na,nc,rfl,h1,h2,h3,h4⟩:=h.parts;unfold Qbk at hE
 by_cases h0:Qaq m=0
 ·rw [if_neg (by simpa using h0)] at hE;have hg:=Qa5 (Qal h0);obtain⟨k,hk⟩:∃k:Nat,m.guest=k:=⟨m.guest.toNat,by omega⟩;rw [hk] at h' hE ⊢;exact QkG k ra _ rc sa _ sc fa _ fc na _ nc m n w h' h0 (by omega) hE
 ·rw [if_pos h0] at hE;exact QiS m.guest ra _ rc sa _ sc fa _ fc na _ nc m E n w h' hE (by rw [←hE];simpa using h0)
theorem Ql4 (gm:Int)(ra:Option Addr)(rn rc:Nat)(sa:Option Addr)(sn sc:Nat)(fa:Option Addr)(fn fc:Nat)(na:Option Addr)(nn nc:Nat)(m:ImgD)(n:Nat)(c:Int)(w:World)(h:Img w (.agg (bI gm ra rn rc sa sn sc fa fn fc na nn nc)) m)(hr:Sl w (.slice ra rn rc) m.root)(hs:Qap m.slots=0)(hall:m.root.all (Qbf m.slots)=true)(hn:n<16)(hl:n / 4<m.root.length)(hc:QaT m m.root n=c) :
  Calls Tryz.prog 42 #[.agg (bI gm ra rn rc sa sn sc fa fn fc na nn nc),.int .i64 n] w fun r w'=>r=.returned (.int .i64 c)∧Below w.heap.size w w':=by
 have b0:Below w.heap.size w (w.alloc (.cells (bI gm ra rn rc sa sn sc fa fn fc na nn nc) 26)):=bA;have hcall:=Qm0 (h.below b0) (hr.below b0) hs hall n hn hl hc;clear h hr hs hall hc hl
 go_enter Tryz.func42,Tryz.ntmps42
 go_wp2_with (go_at_call 77;refine hcall.mono ?_;rintro e w1 ⟨rfl,b1⟩);go_ret;exact⟨rfl,Below.on b0 b1⟩
theorem Qcz {w:World}{v:Value}{m:ImgD}(h:Img w v m)(n:Int)(hE:Qbk m n=0){c:Int}(hc:QaT m m.root n.toNat=c) :
  Calls Tryz.prog 42 #[v,.int .i64 n] w fun r w'=>r=.returned (.int .i64 c)∧Below w.heap.size w w':=by
 have h':=h;obtain⟨ra,rc,sa,sc,fa,fc,na,nc,rfl,h1,h2,h3,h4⟩:=h.parts;unfold Qbk at hE
 split at hE
 ·rename_i h0;exact absurd hE h0
 rename_i h0
 have h0:Qaq m=0:=Classical.not_not.1 h0
 split at hE
 ·rename_i hn
  have hsh:=Qal h0;have hg:=Qa5 hsh;have hro:=Qa3 hsh;obtain⟨k,rfl⟩:∃k:Nat,n=k:=⟨n.toNat,by omega⟩;rw [Int.toNat_natCast] at hc;exact Ql4 m.guest ra _ rc sa _ sc fa _ fc na _ nc m k c w h' h1 (Qad hsh).2.1 hro.2 (by omega) (by omega) hc
 ·simp at hE
end Go.Proofs.YtjfkfnjigofmpaaGreat
