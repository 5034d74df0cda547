/- Texts joined: PkG, PkH, PkV, PkW. -/
import Derived.Test.YtjfkfnjigofmpaaGreatRestImagesJ11
import Derived.Test.YtjfkfnjigofmpaaGreatRestImagesJ1
import Derived.Test.YtjfkfnjigofmpaaGreatRestImagesJ6
import Derived.Test.YtjfkfnjigofmpaaGreatRestImagesJ3
set_option linter.unusedVariables false
set_option linter.unusedSimpArgs false
set_option maxHeartbeats 200000000
set_option maxRecDepth 20000
namespace Go.Proofs.YtjfkfnjigofmpaaGreat
open Go.RowKit Go.Shelf
theorem QpN {L1 L2:List Value}{n:Nat}(h1:L1.length=n*3)(h2:L2.length=n*3)(h:∀q,q<n→L1[q*3]? = L2[q*3]?∧L1[q*3+1]? = L2[q*3+1]?∧L1[q*3+2]? = L2[q*3+2]?):L1=L2:=by
 apply List.ext_getElem?
 intro p
 by_cases hp:p<n*3
 ·obtain⟨a,b,c⟩:=h (p / 3) (by omega);have:p=p / 3*3∨p=p / 3*3+1∨p=p / 3*3+2:=by omega
  rcases this with e | e | e <;> rw [e] <;> assumption
 ·rw [List.getElem?_eq_none (by omega),List.getElem?_eq_none (by omega)]
theorem Qir {K:List Qag}{tv tv':Nat→Value}(h:∀j,j<K.length→tv j=tv' j):QaE K tv=QaE K tv':=by
 unfold QaE;refine congrArg List.flatten (List.map_congr_left fun j hj=>?_);rw [h j (List.mem_range.1 hj)]
def gS (L:List Qag) (k:Nat):List Qag:=((List.range k).filter (kept L)).map (fun j=>L.getD j default) ++ List.replicate ((QaG L).length - rnk L k) Qb2
def gR (L:List Qag) (R:List Int) (k:Nat):List Int:=((List.range k).filter (kept L)).map (fun j=>R.getD j 0) ++ List.replicate ((QaG L).length - rnk L k) 0
theorem Qpp {L:List Qag}{k:Nat}(hk:k≤L.length):rnk L k≤(QaG L).length:=by
 unfold rnk QaG;obtain⟨d,hd⟩:∃d,L.length=k+d:=⟨L.length - k,by omega⟩;have:(List.range k).Sublist (List.range L.length):=by
  rw [hd];exact List.range_sublist.2 (by omega)
 exact (this.filter _).length_le
theorem Qgk (L:List Qag):rnk L L.length=(QaG L).length:=rfl
theorem Qmp {L:List Qag}{R:List Int}{k:Nat}(hk:k≤L.length):(gR L R k).length=(QaG L).length:=by
 have:=Qpp hk;unfold gR;rw [List.length_append,List.length_map,List.length_replicate]
 show rnk L k+_=_;omega
theorem QjF {α:Type}(A:List α)(z x:α)(n:Nat):(A ++ List.replicate (n+1) z).set A.length x=A ++ [x] ++ List.replicate n z:=by
 rw [List.set_append,if_neg (Nat.lt_irrefl _),Nat.sub_self,List.replicate_succ,List.set_cons_zero,List.append_assoc];rfl
theorem QoL {L:List Qag}{k:Nat}(hk:k<L.length)(h:kept L k=true):gS L (k+1)=(gS L k).set (rnk L k) (L.getD k default):=by
 have hlt:=QdQ hk h;have e:(((List.range k).filter (kept L)).map (fun j=>L.getD j default)).length=rnk L k:=by rw [List.length_map];rfl
 unfold gS;rw [QdY h,show (QaG L).length - rnk L k=((QaG L).length - (rnk L k+1))+1 by omega,← e,QjF,List.range_succ,List.filter_append,List.map_append];simp [h]
theorem Qpj {L:List Qag}{R:List Int}{k:Nat}(hk:k<L.length)(h:kept L k=true):gR L R (k+1)=(gR L R k).set (rnk L k) (R.getD k 0):=by
 have hlt:=QdQ hk h;have e:(((List.range k).filter (kept L)).map (fun j=>R.getD j 0)).length=rnk L k:=by rw [List.length_map];rfl
 unfold gR;rw [QdY h,show (QaG L).length - rnk L k=((QaG L).length - (rnk L k+1))+1 by omega,← e,QjF,List.range_succ,List.filter_append,List.map_append];simp [h]
theorem QoB {L:List Qag}{k:Nat}(h:kept L k=false):gS L (k+1)=gS L k:=by
 unfold gS;rw [QeK h,List.range_succ,List.filter_append];simp [h]
theorem Qos {L:List Qag}{R:List Int}{k:Nat}(h:kept L k=false):gR L R (k+1)=gR L R k:=by
 unfold gR;rw [QeK h,List.range_succ,List.filter_append];simp [h]
theorem Qpm (L:List Qag):gS L L.length=(QaG L).map (fun j=>L.getD j default):=by
 unfold gS;rw [Qgk,Nat.sub_self];simp [QaG]
theorem Qpx (L:List Qag)(R:List Int):gR L R L.length=(QaG L).map (fun j=>R.getD j 0):=by
 unfold gR;rw [Qgk,Nat.sub_self];simp [QaG]
def gT (L:List Qag) (val:Nm→Value) (k:Nat):Nat→Value:=fun i=>if i<rnk L k then val (.tab ((QaG L).getD i 0)) else nilV
theorem Qk2 {L:List Qag}{k:Nat}(hk:k<L.length)(h:kept L k=true):(QaG L).getD (rnk L k) 0=k:=by
 rw [List.getD_eq_getElem?_getD,Qdg hk h];rfl
theorem Qpc {L:List Qag}{val:Nm→Value}{k:Nat}(hk:k<L.length)(h:kept L k=true):(∀j,j≠rnk L k→gT L val (k+1) j=gT L val k j)∧gT L val (k+1) (rnk L k)=val (.tab k):=by
 unfold gT;rw [QdY h];refine⟨fun j hj=>?_,?_⟩
 ·by_cases e:j<rnk L k
  ·rw [if_pos (by omega),if_pos e]
  ·rw [if_neg (by omega),if_neg e]
 ·rw [if_pos (by omega),Qk2 hk h]
theorem QoS {L:List Qag}{val:Nm→Value}{k:Nat}(h:kept L k=false):gT L val (k+1)=gT L val k:=by unfold gT;rw [QeK h]
def Qbp (m:ImgD):ImgD:={ m with slots:=(QaG m.slots).map (fun j=>m.slots.getD j default),refs:=(QaG m.slots).map (fun j=>m.refs.getD j 0) }
def gthN (L:List Qag) (a:Nm):Nm:=if a.kind=4 then .tab ((QaG L).getD a.ix 0) else a
def gthV (L:List Qag) (val:Nm→Value) (lv rv:Value):Nm→Value:=fun a=>if a.kind=1 then lv else if a.kind=2 then rv else val (gthN L a)
theorem Qhz (L:List Qag)(a:Nm):(gthN L a).kind=a.kind:=by
 unfold gthN
 split
 ·rename_i e;rw [e]
 ·rfl
theorem Qgd {L:List Qag}{val:Nm→Value}{lv rv:Value}{a:Nm}(h1:a.kind≠1)(h2:a.kind≠2):gthV L val lv rv a=val (gthN L a):=by unfold gthV;rw [if_neg h1,if_neg h2]
theorem QgJ {m:ImgD}{i:Nat}(hi:i<(QaG m.slots).length):(QaG m.slots).getD i 0<m.slots.length∧(Qbp m).slots.getD i default=m.slots.getD ((QaG m.slots).getD i 0) default:=by
 have e:(QaG m.slots).getD i 0=(QaG m.slots)[i]:=by simp [List.getD,hi]
 refine⟨by rw [e];exact (Qd4 hi).1,?_⟩
 show ((QaG m.slots).map (fun j=>m.slots.getD j default)).getD i default=_
 rw [List.getD_eq_getElem?_getD,List.getElem?_map,List.getElem?_eq_getElem hi,e];rfl
theorem Qd9 {m:ImgD}{a:Nm}(h:Live (Qbp m) a):Live m (gthN m.slots a):=by
 rcases h with ⟨h1,h2⟩ | ⟨h1,h2⟩ | ⟨h1,h2⟩
 ·have:a.kind≠4:=by omega
  unfold gthN;rw [if_neg this];exact .inl ⟨h1,h2⟩
 ·unfold gthN;rw [if_pos h1];have h2:a.ix<((QaG m.slots).map (fun j=>m.slots.getD j default)).length:=h2;rw [List.length_map] at h2;exact Live.tab (QgJ h2).1
 ·have:a.kind≠4:=by omega
  unfold gthN;rw [if_neg this];exact .inr (.inr ⟨h1,h2⟩)
theorem QmT {m:ImgD}{a b:Nm}(ha:Live (Qbp m) a)(hb:Live (Qbp m) b)(h:a≠b):gthN m.slots a≠gthN m.slots b:=fun e=>by
 have hk:=congrArg Nm.kind e;rw [Qhz,Qhz] at hk
 by_cases h4:a.kind=4
 ·unfold gthN at e;rw [if_pos h4,if_pos (hk ▸ h4)] at e;have e:=congrArg Nm.ix e;have e:(QaG m.slots).getD a.ix 0=(QaG m.slots).getD b.ix 0:=e;have hlen:(Qbp m).slots.length=(QaG m.slots).length:=by show ((QaG m.slots).map _).length=_;rw [List.length_map]
  have la:a.ix<(QaG m.slots).length:=by rcases ha with x | x | x;omega;rw [←hlen];exact x.2;omega
  have lb:b.ix<(QaG m.slots).length:=by rcases hb with x | x | x;omega;rw [←hlen];exact x.2;omega
  have e:(QaG m.slots)[a.ix]=(QaG m.slots)[b.ix]:=by simpa [List.getD,la,lb] using e
  have:=Qho (Qfe _) la lb e
  apply h
  obtain⟨ak,ai⟩:=a;obtain⟨bk,bi⟩:=b
  simp_all
 ·unfold gthN at e;rw [if_neg h4,if_neg (hk ▸ h4)] at e;exact h e
theorem Qja {m:ImgD}{a b:Nm}(ha:Live m a)(hb:Live m b)(h:a.kind=b.kind)(h4:a.kind<4):a=b:=by
 obtain⟨ak,ai⟩:=a;obtain⟨bk,bi⟩:=b;dsimp only at h h4;subst h;have e1:ai=0:=by rcases ha with x | x | x;exact x.2;(have:=x.1;dsimp only at this;omega);(have:=x.1;dsimp only at this;omega)
 have e2:bi=0:=by rcases hb with x | x | x;exact x.2;(have:=x.1;dsimp only at this;omega);(have:=x.1;dsimp only at this;omega)
 rw [e1,e2]
theorem OI.gath {W:World}{B N:Nat}{val:Nm→Value}{m:ImgD}{lv rv:Value}(h:OI W B val m)(hB:B≤N)(hold:∀a,Live m a→∀g,(val a).ownBlock=some g→g<N)
  (hl:W.ownsRow N 37 3 lv (QaG m.slots).length (QaE (Qbp m).slots (gT m.slots val m.slots.length))) (hr:W.ownsRow N 3 1 rv (QaG m.slots).length (ints (Qbp m).refs)) (hne:∀g,lv.ownBlock=some g→rv.ownBlock≠some g):OI W B (gthV m.slots val lv rv) (Qbp m):=by
 have hlen:(Qbp m).slots.length=(QaG m.slots).length:=by show ((QaG m.slots).map _).length=_;rw [List.length_map]
 have hlenr:(Qbp m).refs.length=(QaG m.slots).length:=by show ((QaG m.slots).map _).length=_;rw [List.length_map]
 have mono:∀ {e:TypeId} {size n:Nat} {v:Value} {xs:List Value},W.ownsRow N e size v n xs→W.ownsRow B e size v n xs:=fun hx=>QaP hx hB
 have ho:∀a,Live (Qbp m) a→a.kind≠1→a.kind≠2→∀g,(gthV m.slots val lv rv a).ownBlock=some g→g<N:=fun a ha h1 h2 g hg=>by rw [Qgd h1 h2] at hg;exact hold _ (Qd9 ha) g hg
 have hnl:∀g,lv.ownBlock=some g→N≤g:=fun g hg=>(hl.lt g hg).1
 have hnr:∀g,rv.ownBlock=some g→N≤g:=fun g hg=>(hr.lt g hg).1
 refine⟨fun a ha=>?_,fun a b ha hb hab g hga=>?_⟩
 ·rcases ha.cases with rfl | rfl | rfl | rfl | ⟨j,rfl,hj⟩ | ⟨j,rfl,hj⟩
  ·exact h.row .root (Live.root m)
  ·show W.ownsRow B 37 3 lv (Qbp m).slots.length (QaE (Qbp m).slots (fun j=>gthV m.slots val lv rv (.tab j)))
   rw [hlen];rw [Qir (tv':=fun j=>gthV m.slots val lv rv (.tab j)) (fun j hj=>?_)] at hl
   ·exact mono hl
   ·rw [hlen] at hj
    show (if j<rnk m.slots m.slots.length then _ else _)=_
    rw [Qgk,if_pos hj];rfl
  ·show W.ownsRow B 3 1 rv (Qbp m).refs.length (ints (Qbp m).refs)
   rw [hlenr];exact mono hr
  ·exact h.row .snaps (Live.snaps m)
  ·have hj':j<(QaG m.slots).length:=by rw [←hlen];exact hj
   obtain⟨t1,t2⟩:=QgJ (m:=m) hj';have:=h.row (.tab ((QaG m.slots).getD j 0)) (Live.tab t1);have e1:rowN (Qbp m) (.tab j)=rowN m (.tab ((QaG m.slots).getD j 0)):=by
    show ((Qbp m).slots.getD j default).2.2.length=_
    rw [t2];rfl
   have e2:rowV (Qbp m) (gthV m.slots val lv rv) (.tab j)=rowV m val (.tab ((QaG m.slots).getD j 0)):=by
    show ints ((Qbp m).slots.getD j default).2.2=_
    rw [t2];rfl
   rw [e1,e2];exact this
  ·exact h.row (.sr j) (Live.sr hj)
 ·by_cases a1:a.kind=1
  ·have hga:lv.ownBlock=some g:=by unfold gthV at hga;rw [if_pos a1] at hga;exact hga
   by_cases b1:b.kind=1
   ·exact absurd (Qja ha hb (by rw [a1,b1]) (by omega)) hab
   ·by_cases b2:b.kind=2
    ·unfold gthV;rw [if_neg b1,if_pos b2];exact hne g hga
    ·intro x;have:=ho b hb b1 b2 g x;have:=hnl g hga;omega
  ·by_cases a2:a.kind=2
   ·have hga:rv.ownBlock=some g:=by unfold gthV at hga;rw [if_neg a1,if_pos a2] at hga;exact hga
    by_cases b1:b.kind=1
    ·unfold gthV;rw [if_pos b1];exact fun x=>hne g x hga
    ·by_cases b2:b.kind=2
     ·exact absurd (Qja ha hb (by rw [a2,b2]) (by omega)) hab
     ·intro x;have:=ho b hb b1 b2 g x;have:=hnr g hga;omega
   ·have hgN:=ho a ha a1 a2 g hga
    by_cases b1:b.kind=1
    ·unfold gthV;rw [if_pos b1];intro x;have:=hnl g x;omega
    ·by_cases b2:b.kind=2
     ·unfold gthV;rw [if_neg b1,if_pos b2];intro x;have:=hnr g x;omega
     ·rw [Qgd a1 a2] at hga;rw [Qgd b1 b2];exact h.apart _ _ (Qd9 ha) (Qd9 hb) (QmT ha hb hab) g hga
theorem DTo.gath {W wr:World}{B D:Nat}{val:Nm→Value}{m:ImgD}{lv rv:Value}(h:DK W B D val m)(hB:B≤W.heap.size)(hb:Below W.heap.size W wr)
  (hl:wr.ownsRow W.heap.size 37 3 lv (QaG m.slots).length (QaE (Qbp m).slots (gT m.slots val m.slots.length))) (hr:wr.ownsRow W.heap.size 3 1 rv (QaG m.slots).length (ints (Qbp m).refs)) (hne:∀g,lv.ownBlock=some g→rv.ownBlock≠some g) :
  DTo W ((wr.setCell ⟨D,2,none⟩ lv).setCell ⟨D,3,none⟩ rv) B D m val nilV (Qbp m) (gthV m.slots val lv rv):=by
 have hO:=(h.own.below hb).gath hB (fun a ha g hg=>((h.own.row a ha).lt g hg).2) hl hr hne;have hnl:∀g,lv.ownBlock=some g→W.heap.size≤g:=fun g hg=>(hl.lt g hg).1
 have hnr:∀g,rv.ownBlock=some g→W.heap.size≤g:=fun g hg=>(hr.lt g hg).1
 have hsrc:∀q,q<W.heap.size→(∀b,Live m b→(val b).ownBlock≠some q)→∀a,Live (Qbp m) a→(gthV m.slots val lv rv a).ownBlock≠some q:=fun q hq hm a ha=>by
  by_cases a1:a.kind=1
  ·unfold gthV;rw [if_pos a1];intro x;have:=hnl q x;omega
  ·by_cases a2:a.kind=2
   ·unfold gthV;rw [if_neg a1,if_pos a2];intro x;have:=hnr q x;omega
   ·rw [Qgd a1 a2];exact hm _ (Qd9 ha)
 have hf:=hsrc D h.lt h.far;have hbx:=(hb.block D h.lt).trans h.box;have hx2:=Qau hbx 2 lv;have hx3:=Qau hx2 3 rv;refine⟨⟨(hO.far hf).far hf,hx3,h.ge,hf⟩,((hb.mono hB).setCell h.ge _).setCell h.ge _,fun q hq hD _ hm=>?_,fun q hq _ hm=>hsrc q hq hm⟩;exact (Below.heap_setCell _ ⟨D,3,none⟩ rv q hD).trans ((Below.heap_setCell _ ⟨D,2,none⟩ lv q hD).trans (hb.block q hq))

theorem QpG:(Tryz.prog.info? 37).map (fun i=>(i.zero,i.size,i.bytes))=some (some (.agg #[.int .i64 0,.string ⟨#[]⟩,nl]),3,48):=by kernel_rfl
theorem QmX (n1:Nat)(hn:n1≤40)(W:World):(Instr.makeSlice 23 (.int .i64 (n1:Int)) (.int .i64 (n1:Int))).run Tryz.prog W=.ok (.slice (some ⟨W.heap.size,0,none⟩) n1 n1) (W.alloc (.cells (QaE (List.replicate n1 Qb2) (fun _=>nilV)).toArray 37)):=by
 have hi:=QpG
 cases h:Tryz.prog.info? 37 with
 | none=>rw [h] at hi;cases hi
 | some i=>
  rw [h] at hi;simp at hi
  have:=run_make (P:=Tryz.prog) W 23 37 i (.agg #[.int .i64 0,.string ⟨#[]⟩,nl]) Tryz.underlying23 h hi.1 .i64 .i64 n1 n1 (by omega) (by omega) (by rw [hi.2.2];omega) (by omega);rw [this,hi.2.1];have e:madeCells (Value.agg #[.int .i64 0,.string ⟨#[]⟩,nl]).cells (((n1:Int)).toNat*3)=(QaE (List.replicate n1 Qb2) (fun _=>nilV)).toArray:=by
   apply Array.toList_inj.1
   rw [Int.toNat_natCast];refine QpN (n:=n1) (by simp [madeCells]) (by rw [List.toList_toArray,QaX,List.length_replicate]) fun q hq=>?_
   obtain⟨a,b,c⟩:=QaO (L:=List.replicate n1 Qb2) (tv:=fun _=>nilV) (j:=q) (by rw [List.length_replicate];exact hq);have hz:(List.replicate n1 Qb2).getD q default=Qb2:=by rw [List.getD_eq_getElem?_getD,List.getElem?_replicate,if_pos hq];rfl
   rw [hz] at a b;rw [List.toList_toArray,a,b,c];have m0:q*3 % 3=0:=by omega
   have m1:(q*3+1) % 3=1:=by omega
   have m2:(q*3+2) % 3=2:=by omega
   refine⟨?_,?_,?_⟩
   ·simp [madeCells,Value.cells,m0,Qb2,show q*3<n1*3 by omega]
   ·simp [madeCells,Value.cells,m1,Qb2,show q*3+1<n1*3 by omega]
   ·simp [madeCells,Value.cells,m2,Qb2,show q*3+2<n1*3 by omega]
  rw [e];simp
theorem QeL {W W':World}{B n size:Nat}{e:TypeId}{v:Value}{xs:List Value}(h:W.ownsRow B e size v n xs)(hb:∀g,v.ownBlock=some g→W'.heap[g]? = W.heap[g]?):W'.ownsRow B e size v n xs:=by
 refine⟨h.1,?_⟩;rcases h.2 with hn | ⟨g,cap,cur,hv,hb',hg,rest⟩
 ·exact .inl hn
 ·exact .inr ⟨g,cap,cur,hv,hb',(hb g (by rw [hv];rfl)).trans hg,rest⟩
theorem Qml {W:World}{B:Nat}{a b c:Value}{t:TypeId}(h:W.heap[B]? = some (.cells #[a,b,c] t)):W.cell? ⟨B,0,none⟩=some a∧W.cell? ⟨B,1,none⟩=some b∧W.cell? ⟨B,2,none⟩=some c:=by
 refine⟨?_,?_,?_⟩ <;> simp [World.cell?,h]
theorem QcP {W:World}{D q o1 o2 o3:Nat}(a0 a1 a2:Value)(hq:q≠D):(((W.setCell ⟨D,o1,none⟩ a0).setCell ⟨D,o2,none⟩ a1).setCell ⟨D,o3,none⟩ a2).heap[q]? = W.heap[q]?:=
 (Below.heap_setCell _ ⟨D,o3,none⟩ a2 q hq).trans ((Below.heap_setCell _ ⟨D,o2,none⟩ a1 q hq).trans (Below.heap_setCell _ ⟨D,o1,none⟩ a0 q hq))
structure GaR (W wr:World) (lb rb n1:Nat) (m:ImgD) (val:Nm→Value) (k:Nat):Prop where
 bel:Below W.heap.size W wr
 l:wr.ownsRow W.heap.size 37 3 (.slice (some ⟨lb,0,none⟩) n1 n1) n1 (QaE (gS m.slots k) (gT m.slots val k))
 r:wr.ownsRow W.heap.size 3 1 (.slice (some ⟨rb,0,none⟩) n1 n1) n1 (ints (gR m.slots m.refs k))
 ne:lb≠rb
theorem GaR.below {W wr wx:World}{lb rb n1 k:Nat}{m:ImgD}{val:Nm→Value}(h:GaR W wr lb rb n1 m val k)(hb:Below wr.heap.size wr wx):GaR W wx lb rb n1 m val k:=
 ⟨Below.on h.bel hb,QeL h.l (fun q e=>hb.block q (h.l.lt q e).2),QeL h.r (fun q e=>hb.block q (h.r.lt q e).2),h.ne⟩
theorem GaR.drew {W wr:World}{lb rb n1 k:Nat}{m:ImgD}{val:Nm→Value}(h:GaR W wr lb rb n1 m val k):GaR W wr.drew lb rb n1 m val k:=⟨h.bel.drew,h.l.drew,h.r.drew,h.ne⟩
theorem GaR.begin {W wx:World}{lb rb n1:Nat}{m:ImgD}{val:Nm→Value}(hn:(QaG m.slots).length=n1∧n1≤40)(hb:Below W.heap.size W wx)(h1:W.heap.size≤lb)(h2:W.heap.size≤rb)(hne:lb≠rb)(hl:wx.heap[lb]? = some (.cells (QaE (List.replicate n1 Qb2) (fun _=>nilV)).toArray 37))(hr:wx.heap[rb]? = some (.cells (Array.replicate n1 (.int .i64 0)) 3)):GaR W wx lb rb n1 m val 0:=by
 have hx:(40:Nat)≤maxLen:=by decide
 have e1:gS m.slots 0=List.replicate n1 Qb2:=by unfold gS;rw [QjU,Nat.sub_zero,hn.1];rfl
 have e2:gR m.slots m.refs 0=List.replicate n1 0:=by unfold gR;rw [QjU,Nat.sub_zero,hn.1];rfl
 have e3:gT m.slots val 0=fun _=>nilV:=by funext i;unfold gT;rw [QjU,if_neg (Nat.not_lt_zero _)]
 refine⟨hb,?_,?_,hne⟩
 ·rw [e1,e3];exact⟨by rw [QaX,List.length_replicate],.inr ⟨lb,n1,_,rfl,h1,hl,Nat.le_refl _,Nat.le_trans hn.2 hx,by rw [List.size_toArray,QaX,List.length_replicate],by rw [List.toList_toArray,List.take_of_length_le (by rw [QaX,List.length_replicate];omega)]⟩⟩
 ·rw [e2];exact⟨by simp [ints],.inr ⟨rb,n1,_,rfl,h2,hr,Nat.le_refl _,Nat.le_trans hn.2 hx,by simp,by simp [ints,List.take_of_length_le]⟩⟩
theorem Qfj {W:World}{B n1 lb i:Nat}{e:TypeId}{size:Nat}{xs:List Value}(h:W.ownsRow B e size (.slice (some ⟨lb,0,none⟩) n1 n1) n1 xs)(hi:i<n1*size):∃u,W.cell? ⟨lb,i,none⟩=some u:=by
 have:=h.cellAt i hi;rw [this];exact⟨_,List.getElem?_eq_getElem (by rw [h.1];exact hi)⟩
theorem GaR.cells3 {W wr:World}{lb rb n1 k rk:Nat}{m:ImgD}{val:Nm→Value}(h:GaR W wr lb rb n1 m val k)(hr:rk<n1):(∃u,wr.cell? ⟨lb,rk*3,none⟩=some u)∧(∃u,wr.cell? ⟨lb,rk*3+1,none⟩=some u)∧(∃u,wr.cell? ⟨lb,rk*3+1+1,none⟩=some u)∧wr.frozen? ⟨lb,rk*3,none⟩=false∧wr.frozen? ⟨lb,rk*3+1,none⟩=false∧wr.frozen? ⟨lb,rk*3+1+1,none⟩=false:=
 ⟨Qfj h.l (by omega),Qfj h.l (by omega),Qfj h.l (by omega),h.l.frozenAt _,h.l.frozenAt _,h.l.frozenAt _⟩
theorem GaR.put {W wr:World}{lb rb n1 k rk tn tc:Nat}{ta:Option Addr}{m:ImgD}{val:Nm→Value}{kk:Int}{dd:ByteArray}(h:GaR W wr lb rb n1 m val k)(hk:k<m.slots.length)(hp:kept m.slots k=true)(hr:rnk m.slots k=rk)(hs:∃es,m.slots.getD k default=(kk,dd,es))(hv:val (.tab k)=.slice ta tn tc) :
  (((wr.setCell ⟨lb,rk*3,none⟩ (.int .i64 kk)).setCell ⟨lb,rk*3+1,none⟩ (.string dd)).setCell ⟨lb,rk*3+2,none⟩ (.slice ta tn tc)).ownsRow W.heap.size 37 3 (.slice (some ⟨lb,0,none⟩) n1 n1) n1 (QaE (gS m.slots (k+1)) (gT m.slots val (k+1)))∧Below W.heap.size W (((wr.setCell ⟨lb,rk*3,none⟩ (.int .i64 kk)).setCell ⟨lb,rk*3+1,none⟩ (.string dd)).setCell ⟨lb,rk*3+2,none⟩ (.slice ta tn tc)):=by
 obtain⟨es,hs⟩:=hs;have hlb:=(Qdd h.l).1;refine⟨?_,((h.bel.setCell (p:=⟨lb,rk*3,none⟩) hlb _).setCell (p:=⟨lb,rk*3+1,none⟩) hlb _).setCell (p:=⟨lb,rk*3+2,none⟩) hlb _⟩;have h6:=(((h.l.stored (rk*3) (.int .i64 kk)).1.stored (rk*3+1) (.string dd)).1.stored (rk*3+2) (.slice ta tn tc)).1;obtain⟨g1,g2⟩:=Qpc (val:=val) hk hp;rw [hr] at g1 g2;rw [QoL hk hp,hs,hr,Qd6 (tv:=gT m.slots val k) kk dd es g1,g2,hv];exact h6
theorem GaR.last {W Y:World}{lb rb n1 k rk:Nat}{m:ImgD}{val:Nm→Value}{fk:Int}(hl:Y.ownsRow W.heap.size 37 3 (.slice (some ⟨lb,0,none⟩) n1 n1) n1 (QaE (gS m.slots (k+1)) (gT m.slots val (k+1))))(hb:Below W.heap.size W Y)(hr:Y.ownsRow W.heap.size 3 1 (.slice (some ⟨rb,0,none⟩) n1 n1) n1 (ints (gR m.slots m.refs k)))(hne:lb≠rb)(hk:k<m.slots.length)(hp:kept m.slots k=true)(hrk:rnk m.slots k=rk)(hf:m.refs.getD k 0=fk) :
  GaR W (Y.setCell ⟨rb,rk,none⟩ (.int .i64 fk)) lb rb n1 m val (k+1):=by
 have hrb:=(Qdd hr).1;refine⟨hb.setCell (p:=⟨rb,rk,none⟩) hrb _,QeL hl (fun q e=>Below.heap_setCell Y ⟨rb,rk,none⟩ _ q (fun x=>hne (by have e':some lb=some q:=e;have:=Option.some.inj e';have x:q=rb:=x;omega))),?_,hne⟩;rw [Qpj hk hp,hrk,hf,Qdl];exact (hr.stored rk _).1
theorem Qmu {W:World}{B D r:Nat}{val:Nm→Value}{m:ImgD}(hK:DK W B D val m)(hB:B≤W.heap.size)(hM:W.heap[r]? = some (.map ((entK m.slots ((List.range m.slots.length).filter (kept m.slots))).toArray) (rnk m.slots m.slots.length)))(hs:Qao m=0) :
  Calls Tryz.prog 37 #[.pointer (some ⟨D,0,none⟩),.map (some r)] W fun q W'=>q=.returned (.tuple #[])∧∃val',DTo W W' B D m val nilV (Qbp m) val':=by
 obtain⟨l1,l40⟩:=Qah (Qad hs).2.1;have hrl:=(Qad hs).2.2.1;obtain⟨ra,rc,e0,_⟩:=hK.own.forms .root (Live.root m);obtain⟨sa,sc,e1,hsa⟩:=hK.own.forms .slots (Live.slots m);obtain⟨fa,fc,e2,hfa⟩:=hK.own.forms .refs (Live.refs m);obtain⟨na,nc,e3,_⟩:=hK.own.forms .snaps (Live.snaps m);obtain⟨sb,rfl⟩:=hsa (by show 0<m.slots.length;omega);obtain⟨fb,rfl⟩:=hfa (by show 0<m.refs.length;omega);have e0:val .root=.slice ra m.root.length rc:=e0;have e1:val .slots=.slice (some ⟨sb,0,none⟩) m.slots.length sc:=e1;have e2:val .refs=.slice (some ⟨fb,0,none⟩) m.refs.length fc:=e2;have e3:val .snaps=.slice na m.snaps.length nc:=e3;have hbox:=hK.box;rw [e0,e1,e2,e3] at hbox;obtain⟨n1,hn1⟩:∃n,(QaG m.slots).length=n:=⟨_,rfl⟩;have hn40:n1≤40:=by have:=QeG m.slots;omega
 have HN1:Hid ((QaG m.slots).length=n1∧n1≤40):=⟨hn1,hn40⟩;have HMp:Hid (W.heap[r]? = some (.map ((entK m.slots ((List.range m.slots.length).filter (kept m.slots))).toArray) (rnk m.slots m.slots.length))):=hM;have HLen:Hid (∀ty (X:World),X.heap[r]? = some (.map ((entK m.slots ((List.range m.slots.length).filter (kept m.slots))).toArray) (rnk m.slots m.slots.length))→(Builtin.len_ #[61] ty #[.map (some r)]).run Tryz.prog X=.ok (.int .i64 (n1:Int)) X):=fun ty X hX=>by
  have:=run_len_map (P:=Tryz.prog) (w:=X) 61 ty r ((entK m.slots ((List.range m.slots.length).filter (kept m.slots))).toArray) (rnk m.slots m.slots.length) (by kernel_rfl) hX;rw [this];unfold goInt;rw [Qfo,Qgk,hn1]
 have hmS:∀X:World,(Instr.makeSlice 23 (.int .i64 (n1:Int)) (.int .i64 (n1:Int))).run Tryz.prog X=.ok (.slice (some ⟨X.heap.size,0,none⟩) n1 n1) (X.alloc (.cells (QaE (List.replicate n1 Qb2) (fun _=>nilV)).toArray 37)):=fun X=>QmX n1 hn40 X
 have hmR:∀X:World,(Instr.makeSlice 22 (.int .i64 (n1:Int)) (.int .i64 (n1:Int))).run Tryz.prog X=.ok (.slice (some ⟨X.heap.size,0,none⟩) n1 n1) (X.alloc (.cells (Array.replicate n1 (.int .i64 0)) 3)):=fun X=>by have:=Qfm n1 hn40 X;simpa using this
 have HK:Hid (DK W B D val m∧B≤W.heap.size∧val .slots=.slice (some ⟨sb,0,none⟩) m.slots.length sc∧val .refs=.slice (some ⟨fb,0,none⟩) m.refs.length fc):=⟨hK,hB,e1,e2⟩;have hDl:=hK.lt;have hsrow:W.ownsRow B 37 3 (val .slots) m.slots.length (QaE m.slots (fun j=>val (.tab j))):=hK.own.row .slots (Live.slots m);have hfrow:W.ownsRow B 3 1 (val .refs) m.refs.length (ints m.refs):=hK.own.row .refs (Live.refs m);rw [e1] at hsrow;rw [e2] at hfrow;have hsbl:=(Qdd hsrow).2.1;have hfbl:=(Qdd hfrow).2.1;have HRw:Hid (W.ownsRow B 37 3 (.slice (some ⟨sb,0,none⟩) m.slots.length sc) m.slots.length (QaE m.slots (fun j=>val (.tab j)))∧W.ownsRow B 3 1 (.slice (some ⟨fb,0,none⟩) m.refs.length fc) m.refs.length (ints m.refs)):=⟨hsrow,hfrow⟩;have HRl:Hid (m.refs.length=m.slots.length):=hrl;clear hK hB hM hs e0 e1 e2 e3 hn1 hsrow hfrow hrl hsa hfa
 go_enter Tryz.func37,Tryz.ntmps37
 go_upto_region 0 with fail
 go_cut [4,5] from 10 (fun a b wx=>∃lb rb,a=.slice (some ⟨lb,0,none⟩) n1 n1∧b=.slice (some ⟨rb,0,none⟩) n1 n1∧Hid (GaR W wx lb rb n1 m val 0))
 case first=>
  refine wp_region_held_drew (S:=(fun X:World=>X.heap[r]? = some (.map ((entK m.slots ((List.range m.slots.length).filter (kept m.slots))).toArray) (rnk m.slots m.slots.length)))) (by kernel_rfl) HMp.out (fun hHeld=>?_);refine tkH 0 (.map (some r)) rfl (Or.inl ⟨by rfl,fun w' hSw=>by go_simp⟩) hHeld ?_;simp only [lays];refine tkH 1 (.int .i64 (n1:Int)) rfl (Or.inl ⟨by rfl,fun w' hSw=>by have hq:=fun ty=>HLen.out ty _ hSw;go_simp⟩) hHeld ?_;simp only [lays];refine tkH 3 (.map (some r)) rfl (Or.inl ⟨by rfl,fun w' hSw=>by go_simp⟩) hHeld ?_;simp only [lays];refine tkH 4 (.int .i64 (n1:Int)) rfl (Or.inl ⟨by rfl,fun w' hSw=>by have hq:=fun ty=>HLen.out ty _ hSw;go_simp⟩) hHeld ?_;simp only [lays];refine rdH2 2 5 rfl rfl (fun K hK=>?_) (fun K hK=>?_)
  ·clear hHeld;simp only [lays];rw [if_pos (by rfl)];go_simp;obtain⟨X1,hX1⟩:∃X,X=(W.alloc (.cells (QaE (List.replicate n1 Qb2) (fun _=>nilV)).toArray 37)).drew:=⟨_,rfl⟩;have b1:Below W.heap.size W X1:=by rw [hX1];exact (bA).drew
   have hz1:W.heap.size+1≤X1.heap.size:=by rw [hX1];show _≤(W.alloc (.cells (QaE (List.replicate n1 Qb2) (fun _=>nilV)).toArray 37)).heap.size;simp
   have k1:X1.heap[W.heap.size]? = some (.cells (QaE (List.replicate n1 Qb2) (fun _=>nilV)).toArray 37):=by rw [hX1];exact zHn _ _
   have hS1:X1.heap[r]? = some (.map ((entK m.slots ((List.range m.slots.length).filter (kept m.slots))).toArray) (rnk m.slots m.slots.length)):=(b1.block r (Array.getElem?_eq_some_iff.1 HMp.out).1).trans HMp.out;rw [←hX1];clear hX1;refine hK.out _ _ hS1 (fun hHeld=>?_);clear hK K;try simp only [lays]
   refine tkH 6 (.slice (some ⟨W.heap.size,0,none⟩) n1 n1) rfl (Or.inl ⟨by rfl,fun w' hSw=>by go_simp⟩) hHeld ?_;simp only [lays];refine rdH 5 rfl (fun K hK=>?_);clear hHeld;simp only [lays];rw [if_pos (by rfl)];go_simp;obtain⟨X2,hX2⟩:∃X,X=(X1.alloc (.cells (Array.replicate n1 (.int .i64 0)) 3)):=⟨_,rfl⟩;have b2:Below W.heap.size W X2:=by rw [hX2];exact b1.alloc (by omega) _
   have k1:X2.heap[W.heap.size]? = some (.cells (QaE (List.replicate n1 Qb2) (fun _=>nilV)).toArray 37):=by rw [hX2];exact (Below.heap_alloc X1 _ _ (by omega)).trans k1
   have k2:X2.heap[X1.heap.size]? = some (.cells (Array.replicate n1 (.int .i64 0)) 3):=by rw [hX2];exact zHn _ _
   have hS2:X2.heap[r]? = some (.map ((entK m.slots ((List.range m.slots.length).filter (kept m.slots))).toArray) (rnk m.slots m.slots.length)):=(b2.block r (Array.getElem?_eq_some_iff.1 HMp.out).1).trans HMp.out;rw [←hX2];clear hX2;refine hK.out _ _ hS2 (fun hHeld=>?_);clear hK K;try simp only [lays]
   refine tkH 7 (.slice (some ⟨X1.heap.size,0,none⟩) n1 n1) rfl (Or.inl ⟨by rfl,fun w' hSw=>by go_simp⟩) hHeld ?_;simp only [lays];clear hHeld;refine wpAnyH_done (by kernel_rfl) ?_ _;go_wp2_with fail;go_meet;exact⟨W.heap.size,X1.heap.size,rfl,rfl,GaR.begin (lb:=W.heap.size) (rb:=X1.heap.size) HN1.out b2 (by omega) (by omega) (by omega) k1 k2⟩
  ·clear hHeld;simp only [lays];rw [if_pos (by rfl)];go_simp;obtain⟨X1,hX1⟩:∃X,X=(W.alloc (.cells (Array.replicate n1 (.int .i64 0)) 3)).drew:=⟨_,rfl⟩;have b1:Below W.heap.size W X1:=by rw [hX1];exact (bA).drew
   have hz1:W.heap.size+1≤X1.heap.size:=by rw [hX1];show _≤(W.alloc (.cells (Array.replicate n1 (.int .i64 0)) 3)).heap.size;simp
   have k1:X1.heap[W.heap.size]? = some (.cells (Array.replicate n1 (.int .i64 0)) 3):=by rw [hX1];exact zHn _ _
   have hS1:X1.heap[r]? = some (.map ((entK m.slots ((List.range m.slots.length).filter (kept m.slots))).toArray) (rnk m.slots m.slots.length)):=(b1.block r (Array.getElem?_eq_some_iff.1 HMp.out).1).trans HMp.out;rw [←hX1];clear hX1;refine hK.out _ _ hS1 (fun hHeld=>?_);clear hK K;try simp only [lays]
   refine rdH 2 rfl (fun K hK=>?_);clear hHeld;simp only [lays];rw [if_pos (by rfl)];go_simp;obtain⟨X2,hX2⟩:∃X,X=(X1.alloc (.cells (QaE (List.replicate n1 Qb2) (fun _=>nilV)).toArray 37)):=⟨_,rfl⟩;have b2:Below W.heap.size W X2:=by rw [hX2];exact b1.alloc (by omega) _
   have k1:X2.heap[W.heap.size]? = some (.cells (Array.replicate n1 (.int .i64 0)) 3):=by rw [hX2];exact (Below.heap_alloc X1 _ _ (by omega)).trans k1
   have k2:X2.heap[X1.heap.size]? = some (.cells (QaE (List.replicate n1 Qb2) (fun _=>nilV)).toArray 37):=by rw [hX2];exact zHn _ _
   have hS2:X2.heap[r]? = some (.map ((entK m.slots ((List.range m.slots.length).filter (kept m.slots))).toArray) (rnk m.slots m.slots.length)):=(b2.block r (Array.getElem?_eq_some_iff.1 HMp.out).1).trans HMp.out;rw [←hX2];clear hX2;refine hK.out _ _ hS2 (fun hHeld=>?_);clear hK K;try simp only [lays]
   refine tkH 6 (.slice (some ⟨X1.heap.size,0,none⟩) n1 n1) rfl (Or.inl ⟨by rfl,fun w' hSw=>by go_simp⟩) hHeld ?_;simp only [lays];refine tkH 7 (.slice (some ⟨W.heap.size,0,none⟩) n1 n1) rfl (Or.inl ⟨by rfl,fun w' hSw=>by go_simp⟩) hHeld ?_;simp only [lays];clear hHeld;refine wpAnyH_done (by kernel_rfl) ?_ _;go_wp2_with fail;go_meet;exact⟨X1.heap.size,W.heap.size,rfl,rfl,GaR.begin (lb:=X1.heap.size) (rb:=W.heap.size) HN1.out b2 (by omega) (by omega) (by omega) k2 k1⟩
 case rest=>
 obtain⟨lb,rb,rfl,rfl,HC0⟩:=hcut;obtain⟨w1,hw1⟩:∃X,X=wc:=⟨_,rfl⟩;subst hw1;have hb1:=Qab hbox HC0.out.bel hDl;obtain⟨d0,d1,d2,d3,d4⟩:=five hb1;clear hmS hmR;go_wp2_with fail;clear d0 d1 d2 d3 d4 hb1
 go_loopw [22] (fun i wr=>∃k:Nat,k≤m.slots.length∧i=.int .i64 k∧Hid (GaR W wr lb rb n1 m val k)) (fun i _=>m.slots.length - (intOf i).toNat)
 case atStart=>exact⟨0,Nat.zero_le _,rfl,HC0⟩
 case round=>
  obtain⟨k,hk,rfl,HC⟩:=hrel;have hbl:=HC.out.bel;have hDr:=Qab hbox hbl hDl;have hDw:D<wr.heap.size:=Nat.lt_of_lt_of_le hDl hbl.size
  by_cases hkl:k<m.slots.length
  ·have hki:(k:Int)<(m.slots.length:Int):=by omega
   obtain⟨g0,g1,g2⟩:=QaO (tv:=fun j=>val (.tab j)) hkl;obtain⟨⟨kk,dd,es⟩,hss⟩:∃s,m.slots.getD k default=s:=⟨_,rfl⟩;rw [hss] at g0 g1;obtain⟨ta,tc,eq,_⟩:=HK.out.1.own.forms (.tab k) (Live.tab hkl);obtain⟨tn,htn⟩:∃n,rowN m (.tab k)=n:=⟨_,rfl⟩;rw [htn] at eq;have v0:wr.cell? ⟨sb,k*3,none⟩=some (.int .i64 kk):=(hbl.cell (p:=⟨sb,k*3,none⟩) hsbl).trans ((HRw.out.1.cellAt (k*3+0) (by omega)).trans g0);have v1:wr.cell? ⟨sb,k*3+1,none⟩=some (.string dd):=(hbl.cell (p:=⟨sb,k*3+1,none⟩) hsbl).trans ((HRw.out.1.cellAt (k*3+1) (by omega)).trans g1);have v2:wr.cell? ⟨sb,k*3+1+1,none⟩=some (.slice ta tn tc):=(hbl.cell (p:=⟨sb,k*3+1+1,none⟩) hsbl).trans ((HRw.out.1.cellAt (k*3+2) (by omega)).trans (g2.trans (by rw [←eq])));have hmr:=(hbl.block r (Array.getElem?_eq_some_iff.1 HMp.out).1).trans HMp.out;have hma:(wr.alloc (.cells #[.int .i64 kk,.string dd,.slice ta tn tc] 37)).heap[r]? = some (.map ((entK m.slots ((List.range m.slots.length).filter (kept m.slots))).toArray) (rnk m.slots m.slots.length)):=Qci hmr _
   by_cases hp:kept m.slots k=true
   ·obtain⟨p,hfp⟩:=Qh6 (L:=m.slots) (l:=(List.range m.slots.length).filter (kept m.slots)) (k:=k) (List.mem_filter.2 ⟨List.mem_range.2 hkl,hp⟩) 0;obtain⟨rk,hrkE⟩:∃n,rnk m.slots k=n:=⟨_,rfl⟩;have hlk:=QdP (P:=Tryz.prog) (w:=wr.alloc (.cells #[.int .i64 kk,.string dd,.slice ta tn tc] 37)) 61 3 3 r (rnk m.slots m.slots.length) ((entK m.slots ((List.range m.slots.length).filter (kept m.slots))).toArray) (k:Int) (.int .i64 (rnk m.slots k:Int)) p Tryz.underlying61 Tryz.underlying3 hma (by simpa using hfp);rw [hrkE] at hlk;have hrk:rk<n1:=by rw [←hrkE,← HN1.out.1];exact QdQ hkl hp
    have hrki:(rk:Int)<(n1:Int):=by omega
    have HKp:Hid (k<m.slots.length∧kept m.slots k=true∧rnk m.slots k=rk∧(∃es,m.slots.getD k default=(kk,dd,es))∧val (.tab k)=.slice ta tn tc):=⟨hkl,hp,hrkE,⟨es,hss⟩,eq⟩;obtain⟨fk,hfk⟩:∃x,m.refs.getD k 0=x:=⟨_,rfl⟩;have HFk:Hid (m.refs.getD k 0=fk):=hfk;have hkr:k<m.refs.length:=by rw [HRl.out];exact hkl
    have hkri:(k:Int)<(m.refs.length:Int):=by omega
    have cf:wr.cell? ⟨fb,k,none⟩=some (.int .i64 fk):=by
     refine (hbl.cell (p:=⟨fb,k,none⟩) hfbl).trans ((HRw.out.2.cellAt k (by omega)).trans ?_)
     show (List.map (Value.int .i64) m.refs)[k]? = _
     rw [List.getElem?_map,List.getElem?_eq_getElem hkr,← hfk];simp [List.getD,hkr]
    have hfw:fb<wr.heap.size:=Nat.lt_of_lt_of_le hfbl hbl.size;have hlbw:=Qdd HC.out.l;have hrbw:=Qdd HC.out.r;have HFr:Hid (lb≠wr.heap.size∧lb≠D∧lb≠fb∧rb≠wr.heap.size∧rb≠D∧rb≠fb):=⟨by omega,by omega,by omega,by omega,by omega,by omega⟩;have HGr:Hid (∃u,(ints (gR m.slots m.refs k))[rk]? = some u):=⟨_,List.getElem?_eq_getElem (by rw [Qbb,Qmp (by omega),HN1.out.1];exact hrk)⟩;clear hfp hrkE hp hfk g0 g1 g2 hss eq htn hma hmr hlbw hrbw;go_upto_region 6 with fail;obtain⟨X9,hX9⟩:∃X,X=wr.alloc (.cells #[.int .i64 kk,.string dd,.slice ta tn tc] 37):=⟨_,rfl⟩;have b9:Below wr.heap.size wr X9:=by rw [hX9];exact bA
    have k9:X9.heap[wr.heap.size]? = some (.cells #[.int .i64 kk,.string dd,.slice ta tn tc] 37):=by rw [hX9];exact zHn _ _
    rw [←hX9];clear hX9;have hD9:X9.heap[D]? = some (.cells #[.int .i64 m.guest,.slice ra m.root.length rc,.slice (some ⟨sb,0,none⟩) m.slots.length sc,.slice (some ⟨fb,0,none⟩) m.refs.length fc,.slice na m.snaps.length nc] 52):=(b9.block D hDw).trans hDr;have hf9:X9.cell? ⟨fb,k,none⟩=some (.int .i64 fk):=(b9.cell (p:=⟨fb,k,none⟩) hfw).trans cf;have HG9:Hid (GaR W X9 lb rb n1 m val (k)):=HC.out.below b9;refine wp_region_held_drew (S:=(fun X:World=>X.heap[wr.heap.size]? = some (.cells #[.int .i64 kk,.string dd,.slice ta tn tc] 37)∧X.heap[D]? = some (.cells #[.int .i64 m.guest,.slice ra m.root.length rc,.slice (some ⟨sb,0,none⟩) m.slots.length sc,.slice (some ⟨fb,0,none⟩) m.refs.length fc,.slice na m.snaps.length nc] 52)∧X.cell? ⟨fb,k,none⟩=some (.int .i64 fk))) (by kernel_rfl) ⟨k9,hD9,hf9⟩ (fun hHeld=>?_);obtain⟨Y0,hY0⟩:∃Y,Y=X9.drew:=⟨_,rfl⟩;have HGY:Hid (GaR W Y0 lb rb n1 m val (k)):=by rw [hY0];exact HG9.out.drew
    have kY:Y0.heap[wr.heap.size]? = some (.cells #[.int .i64 kk,.string dd,.slice ta tn tc] 37)∧Y0.heap[D]? = some (.cells #[.int .i64 m.guest,.slice ra m.root.length rc,.slice (some ⟨sb,0,none⟩) m.slots.length sc,.slice (some ⟨fb,0,none⟩) m.refs.length fc,.slice na m.snaps.length nc] 52)∧Y0.cell? ⟨fb,k,none⟩=some (.int .i64 fk):=by rw [hY0];exact⟨k9,hD9,hf9⟩
    have hsY:wr.heap.size<Y0.heap.size:=(Array.getElem?_eq_some_iff.1 kY.1).1;rw [←hY0] at hHeld ⊢;clear hY0 k9 hD9 hf9 b9 HG9;refine tkH 0 (.slice (some ⟨lb,0,none⟩) n1 n1) rfl (Or.inl ⟨by rfl,fun w' hSw=>by go_simp⟩) hHeld ?_;simp only [lays];refine tkH 1 (.int .i64 (rk:Int)) rfl (Or.inl ⟨by rfl,fun w' hSw=>by go_simp⟩) hHeld ?_;simp only [lays];refine tkH 2 (.slice (some ⟨rb,0,none⟩) n1 n1) rfl (Or.inl ⟨by rfl,fun w' hSw=>by go_simp⟩) hHeld ?_;simp only [lays];refine tkH 3 (.int .i64 (rk:Int)) rfl (Or.inl ⟨by rfl,fun w' hSw=>by go_simp⟩) hHeld ?_;simp only [lays];refine tkH 4 (.agg #[.int .i64 kk,.string dd,.slice ta tn tc]) rfl (Or.inl ⟨by rfl,fun w' hSw=>by obtain⟨qa,qb,qc⟩:=hSw;obtain⟨t0,t1,t2⟩:=Qml qa;obtain⟨j0,j1,j2,j3,j4⟩:=five qb;go_simp⟩) hHeld ?_;simp only [lays];refine tkH 5 (.pointer (some ⟨D,0,none⟩)) rfl (Or.inl ⟨by rfl,fun w' hSw=>by go_simp⟩) hHeld ?_;simp only [lays];refine tkH 6 (.pointer (some ⟨D,0,none⟩)) rfl (Or.inl ⟨by rfl,fun w' hSw=>by go_simp⟩) hHeld ?_;simp only [lays];refine tkH 7 (.pointer (some ⟨D,0,none⟩)) rfl (Or.inl ⟨by rfl,fun w' hSw=>by go_simp⟩) hHeld ?_;simp only [lays];refine tkH 8 (.pointer (some ⟨D,3,none⟩)) rfl (Or.inl ⟨by rfl,fun w' hSw=>by go_simp⟩) hHeld ?_;simp only [lays];refine tkH 9 (.slice (some ⟨fb,0,none⟩) m.refs.length fc) rfl (Or.inl ⟨by rfl,fun w' hSw=>by obtain⟨qa,qb,qc⟩:=hSw;obtain⟨t0,t1,t2⟩:=Qml qa;obtain⟨j0,j1,j2,j3,j4⟩:=five qb;go_simp⟩) hHeld ?_;simp only [lays];refine tkH 10 (.int .i64 (k:Int)) rfl (Or.inl ⟨by rfl,fun w' hSw=>by go_simp⟩) hHeld ?_;simp only [lays];refine tkH 11 (.pointer (some ⟨fb,k,none⟩)) rfl (Or.inl ⟨by rfl,fun w' hSw=>by go_simp⟩) hHeld ?_;simp only [lays];refine tkH 12 (.int .i64 fk) rfl (Or.inl ⟨by rfl,fun w' hSw=>by obtain⟨qa,qb,qc⟩:=hSw;obtain⟨t0,t1,t2⟩:=Qml qa;obtain⟨j0,j1,j2,j3,j4⟩:=five qb;go_simp⟩) hHeld ?_;simp only [lays];refine tkH 13 (.pointer (some ⟨lb,rk*3,none⟩)) rfl (Or.inl ⟨by rfl,fun w' hSw=>by go_simp⟩) hHeld ?_;simp only [lays];obtain⟨⟨u0,z0⟩,⟨u1,z1⟩,⟨u2,z2⟩,z3,z4,z5⟩:=HGY.out.cells3 hrk;have HG1:Hid ((((Y0.setCell ⟨lb,rk*3,none⟩ (.int .i64 kk)).setCell ⟨lb,rk*3+1,none⟩ (.string dd)).setCell ⟨lb,rk*3+2,none⟩ (.slice ta tn tc)).ownsRow W.heap.size 37 3 (.slice (some ⟨lb,0,none⟩) n1 n1) n1 (QaE (gS m.slots (k+1)) (gT m.slots val (k+1)))∧Below W.heap.size W (((Y0.setCell ⟨lb,rk*3,none⟩ (.int .i64 kk)).setCell ⟨lb,rk*3+1,none⟩ (.string dd)).setCell ⟨lb,rk*3+2,none⟩ (.slice ta tn tc))):=HGY.out.put HKp.out.1 HKp.out.2.1 HKp.out.2.2.1 HKp.out.2.2.2.1 HKp.out.2.2.2.2;have kY1:(((Y0.setCell ⟨lb,rk*3,none⟩ (.int .i64 kk)).setCell ⟨lb,rk*3+1,none⟩ (.string dd)).setCell ⟨lb,rk*3+2,none⟩ (.slice ta tn tc)).heap[wr.heap.size]? = some (.cells #[.int .i64 kk,.string dd,.slice ta tn tc] 37)∧(((Y0.setCell ⟨lb,rk*3,none⟩ (.int .i64 kk)).setCell ⟨lb,rk*3+1,none⟩ (.string dd)).setCell ⟨lb,rk*3+2,none⟩ (.slice ta tn tc)).heap[D]? = some (.cells #[.int .i64 m.guest,.slice ra m.root.length rc,.slice (some ⟨sb,0,none⟩) m.slots.length sc,.slice (some ⟨fb,0,none⟩) m.refs.length fc,.slice na m.snaps.length nc] 52)∧(((Y0.setCell ⟨lb,rk*3,none⟩ (.int .i64 kk)).setCell ⟨lb,rk*3+1,none⟩ (.string dd)).setCell ⟨lb,rk*3+2,none⟩ (.slice ta tn tc)).cell? ⟨fb,k,none⟩=some (.int .i64 fk):=⟨(QcP _ _ _ (fun e=>HFr.out.1 e.symm)).trans kY.1,(QcP _ _ _ (fun e=>HFr.out.2.1 e.symm)).trans kY.2.1,(World.cell?_of_block (QcP _ _ _ (fun e=>HFr.out.2.2.1 e.symm))).trans kY.2.2⟩;have HR1:Hid ((((Y0.setCell ⟨lb,rk*3,none⟩ (.int .i64 kk)).setCell ⟨lb,rk*3+1,none⟩ (.string dd)).setCell ⟨lb,rk*3+2,none⟩ (.slice ta tn tc)).ownsRow W.heap.size 3 1 (.slice (some ⟨rb,0,none⟩) n1 n1) n1 (ints (gR m.slots m.refs k))):=QeL HGY.out.r (fun q e=>QcP _ _ _ (fun x=>HGY.out.ne (by have e':some rb=some q:=e;have:=Option.some.inj e';have x:q=lb:=x;omega)));refine rdH 14 rfl (fun K hK=>?_);clear hHeld;simp only [lays];rw [if_pos (by rfl)];go_simp;obtain⟨Y1,hY1⟩:∃Y,Y=(((Y0.setCell ⟨lb,rk*3,none⟩ (.int .i64 kk)).setCell ⟨lb,rk*3+1,none⟩ (.string dd)).setCell ⟨lb,rk*3+2,none⟩ (.slice ta tn tc)):=⟨_,rfl⟩;rw [←hY1] at HG1 kY1 HR1
    first | rw [←hY1] | skip
    clear hY1 z0 z1 z2 z3 z4 z5;refine hK.out _ _ kY1 (fun hHeld=>?_);clear hK K;try simp only [lays]
    have c5:Y1.cell? ⟨rb,rk,none⟩=(ints (gR m.slots m.refs k))[rk]?:=HR1.out.cellAt rk (by omega);obtain⟨uu,huu⟩:∃u,(ints (gR m.slots m.refs k))[rk]? = some u:=HGr.out;rw [huu] at c5;have f5:Y1.frozen? ⟨rb,rk,none⟩=false:=HR1.out.frozenAt rk;have HG2:Hid (GaR W (Y1.setCell ⟨rb,rk,none⟩ (.int .i64 fk)) lb rb n1 m val (k+1)):=GaR.last HG1.out.1 HG1.out.2 HR1.out HGY.out.ne HKp.out.1 HKp.out.2.1 HKp.out.2.2.1 HFk.out;have kY2:(Y1.setCell ⟨rb,rk,none⟩ (.int .i64 fk)).heap[wr.heap.size]? = some (.cells #[.int .i64 kk,.string dd,.slice ta tn tc] 37)∧(Y1.setCell ⟨rb,rk,none⟩ (.int .i64 fk)).heap[D]? = some (.cells #[.int .i64 m.guest,.slice ra m.root.length rc,.slice (some ⟨sb,0,none⟩) m.slots.length sc,.slice (some ⟨fb,0,none⟩) m.refs.length fc,.slice na m.snaps.length nc] 52)∧(Y1.setCell ⟨rb,rk,none⟩ (.int .i64 fk)).cell? ⟨fb,k,none⟩=some (.int .i64 fk):=⟨Qan kY1.1 (fun e=>HFr.out.2.2.2.1 e.symm) _ _,Qan kY1.2.1 (fun e=>HFr.out.2.2.2.2.1 e.symm) _ _,(World.cell?_of_block (Below.heap_setCell Y1 ⟨rb,rk,none⟩ _ fb (fun e=>HFr.out.2.2.2.2.2 e.symm))).trans kY1.2.2⟩;clear huu;refine tkH 15 (.pointer (some ⟨rb,rk,none⟩)) rfl (Or.inl ⟨by rfl,fun w' hSw=>by go_simp⟩) hHeld ?_;simp only [lays];refine rdH 16 rfl (fun K hK=>?_);clear hHeld;simp only [lays];rw [if_pos (by rfl)];go_simp;refine hK.out _ _ kY2 (fun hHeld=>?_);clear hK K hHeld;try simp only [lays]
    refine wpAnyH_done (by kernel_rfl) ?_ _;go_wp2_with fail;go_roundw
    case rel=>exact⟨k+1,by omega,by go_num,HG2⟩
    case measure=>first | (simp [intOf];done) | (simp [intOf];omega)
   ·have hp:kept m.slots k=false:=by simpa using hp
    have hlk:=Qe1 (P:=Tryz.prog) (w:=wr.alloc (.cells #[.int .i64 kk,.string dd,.slice ta tn tc] 37)) 61 3 3 r (rnk m.slots m.slots.length) ((entK m.slots ((List.range m.slots.length).filter (kept m.slots))).toArray) (k:Int) (.int .i64 0) Tryz.underlying61 Tryz.underlying3 hma (by simpa using Qft (L:=m.slots) (l:=(List.range m.slots.length).filter (kept m.slots)) (k:=(k:Int)) (fun j hj x=>by have:=(List.mem_filter.1 hj).2;have e:j=k:=(by omega);rw [e,hp] at this;cases this) 0) (by kernel_rfl);have HG2:Hid (GaR W (wr.alloc (.cells #[.int .i64 kk,.string dd,.slice ta tn tc] 37)) lb rb n1 m val (k+1)):=by
     have:=HC.out.below ((Below.refl _ _).alloc (Nat.le_refl _) (.cells #[.int .i64 kk,.string dd,.slice ta tn tc] 37));exact⟨this.bel,by rw [QoB hp,QoS hp];exact this.l,by rw [Qos hp];exact this.r,this.ne⟩
    clear hp g0 g1 g2 hss eq htn hma hmr;go_wp2_with fail;go_roundw
    case rel=>exact⟨k+1,by omega,by go_num,HG2⟩
    case measure=>first | (simp [intOf];done) | (simp [intOf];omega)
  ·have e:k=m.slots.length:=by omega
   subst e;obtain⟨d0,d1,d2,d3,d4⟩:=five hDr;have ff0:=Qaa hDr 0;have ff1:=Qaa hDr 1;have ff2:=Qaa hDr 2;have ff3:=Qaa hDr 3;have ff4:=Qaa hDr 4;clear hDr;go_wp2_with fail
   go_end0
   have hl:=HC.out.l;have hr:=HC.out.r;rw [Qpm] at hl;rw [Qpx] at hr;refine⟨rfl,_,DTo.gath HK.out.1 HK.out.2.1 HC.out.bel (lv:=.slice (some ⟨lb,0,none⟩) n1 n1) (rv:=.slice (some ⟨rb,0,none⟩) n1 n1) (by rw [HN1.out.1];exact hl) (by rw [HN1.out.1];exact hr) (fun g e x=>HC.out.ne (by have e':some lb=some g:=e;have x':some rb=some g:=x;have:=Option.some.inj e';have:=Option.some.inj x';omega))⟩

theorem Qiq {W wr:World}{B D bm r k i:Nat}{L:List Qag}{g:ImgD}{val:Nm→Value}(h:RnR W wr B D bm r L g (rnI L k i g) val)(hB:B≤W.heap.size)(hk:k<g.snaps.length)(hl:(g.snaps.getD k default).2.2.length≤1000)(hfar:∀a,Live g a→(val a).ownBlock≠some bm∧(val a).ownBlock≠some r) :
  Calls Tryz.prog 76 #[val (.sr k),.func (.func 39) #[] #[.pointer (some ⟨bm,0,none⟩)]] wr fun q W'=>q=.returned (.tuple #[])∧RnR W W' B D bm r L g (rnI L (k+1) i g) val:=by
 have ha:Live (rnI L k i g) (.sr k):=(Qbt _ _ _ _ _).2 (Live.sr hk);have hr:=h.dto.dk.own.row _ ha;have e1:rowN (rnI L k i g) (.sr k)=(g.snaps.getD k default).2.2.length:=by
  show ((rnS L k g.snaps).getD k default).2.2.length=_
  rw [QdB hk,if_neg (by omega)]
 have e2:rowV (rnI L k i g) val (.sr k)=ints (g.snaps.getD k default).2.2:=by
  show ints ((rnS L k g.snaps).getD k default).2.2=_
  rw [QdB hk,if_neg (by omega)]
 rw [e1,e2] at hr;have hr:wr.ownsRow B 3 1 (val (.sr k)) (g.snaps.getD k default).2.2.length (ints (g.snaps.getD k default).2.2):=hr;obtain⟨f1,f2⟩:=hfar (.sr k) (Live.sr hk);refine (Qei (g':=none) hl hr h.num f1 f2).mono ?_;rintro q W' ⟨rfl,k1,k2⟩;have e3:rowN (rnI L (k+1) i g) (.sr k)=(g.snaps.getD k default).2.2.length:=by
  show ((rnS L (k+1) g.snaps).getD k default).2.2.length=_
  rw [QdB hk,if_pos (by omega)]
  show ((g.snaps.getD k default).2.2.map (ren L)).length=_
  rw [List.length_map]
 have e4:rowV (rnI L (k+1) i g) val (.sr k)=ints ((g.snaps.getD k default).2.2.map (ren L)):=by
  show ints ((rnS L (k+1) g.snaps).getD k default).2.2=_
  rw [QdB hk,if_pos (by omega)];rfl
 refine⟨rfl,h.dto.turn hB (Qbt _ _ _ _) ha (by rw [e3,e4];exact k1) k2 (fun b=>(Qbt _ _ _ _ b).trans (Qbt _ _ _ _ b).symm) rfl (fun b hb hne=>QoE b ((Qbt _ _ _ _ b).1 hb) hne),h.num.grown k2 f1 f2⟩
theorem Qic {W wr:World}{B D bm r j k:Nat}{L:List Qag}{g:ImgD}{val:Nm→Value}(h:RnR W wr B D bm r L g (rnI L j k g) val)(hB:B≤W.heap.size)(hk:k<g.slots.length)(hl:(g.slots.getD k default).2.2.length≤1000)(hfar:∀a,Live g a→(val a).ownBlock≠some bm∧(val a).ownBlock≠some r) :
  Calls Tryz.prog 76 #[val (.tab k),.func (.func 39) #[] #[.pointer (some ⟨bm,0,none⟩)]] wr fun q W'=>q=.returned (.tuple #[])∧RnR W W' B D bm r L g (rnI L j (k+1) g) val:=by
 have ha:Live (rnI L j k g) (.tab k):=(Qbt _ _ _ _ _).2 (Live.tab hk);have hr:=h.dto.dk.own.row _ ha;have e1:rowN (rnI L j k g) (.tab k)=(g.slots.getD k default).2.2.length:=by
  show ((rnL L k g.slots).getD k default).2.2.length=_
  rw [QdI hk,if_neg (by omega)]
 have e2:rowV (rnI L j k g) val (.tab k)=ints (g.slots.getD k default).2.2:=by
  show ints ((rnL L k g.slots).getD k default).2.2=_
  rw [QdI hk,if_neg (by omega)]
 rw [e1,e2] at hr;have hr:wr.ownsRow B 3 1 (val (.tab k)) (g.slots.getD k default).2.2.length (ints (g.slots.getD k default).2.2):=hr;obtain⟨f1,f2⟩:=hfar (.tab k) (Live.tab hk);refine (Qei (g':=none) hl hr h.num f1 f2).mono ?_;rintro q W' ⟨rfl,k1,k2⟩;have e3:rowN (rnI L j (k+1) g) (.tab k)=(g.slots.getD k default).2.2.length:=by
  show ((rnL L (k+1) g.slots).getD k default).2.2.length=_
  rw [QdI hk,if_pos (by omega)]
  show ((g.slots.getD k default).2.2.map (ren L)).length=_
  rw [List.length_map]
 have e4:rowV (rnI L j (k+1) g) val (.tab k)=ints ((g.slots.getD k default).2.2.map (ren L)):=by
  show ints ((rnL L (k+1) g.slots).getD k default).2.2=_
  rw [QdI hk,if_pos (by omega)];rfl
 refine⟨rfl,h.dto.turn hB (Qbt _ _ _ _) ha (by rw [e3,e4];exact k1) k2 (fun b=>(Qbt _ _ _ _ b).trans (Qbt _ _ _ _ b).symm) rfl (fun b hb hne=>Qo7 b ((Qbt _ _ _ _ b).1 hb) hne),h.num.grown k2 f1 f2⟩
theorem QiW {W:World}{B D bm r:Nat}{L:List Qag}{g:ImgD}{val:Nm→Value}(hK:DK W B D val g)(hB:B≤W.heap.size)(hN:NumB W bm r L)(hfar:∀a,Live g a→(val a).ownBlock≠some bm∧(val a).ownBlock≠some r)(hl0:g.root.length≤1000)(hn1:g.snaps.length≤1000)(hn2:g.slots.length≤1000)(hl1:∀k,k<g.snaps.length→(g.snaps.getD k default).2.2.length≤1000)(hl2:∀k,k<g.slots.length→(g.slots.getD k default).2.2.length≤1000) :
  Calls Tryz.prog 38 #[.pointer (some ⟨D,0,none⟩),.func (.func 39) #[] #[.pointer (some ⟨bm,0,none⟩)]] W fun q W'=>q=.returned (.tuple #[])∧DTo W W' B D g val nilV (rnI L g.snaps.length g.slots.length g) val:=by
 obtain⟨ra,rc,e0,_⟩:=hK.own.forms .root (Live.root g);obtain⟨sa,sc,e1,_⟩:=hK.own.forms .slots (Live.slots g);obtain⟨na,nc,e3,_⟩:=hK.own.forms .snaps (Live.snaps g);have e0:val .root=.slice ra g.root.length rc:=e0;have e1:val .slots=.slice sa g.slots.length sc:=e1;have e3:val .snaps=.slice na g.snaps.length nc:=e3;have HV:Hid (val .root=.slice ra g.root.length rc∧val .slots=.slice sa g.slots.length sc∧val .snaps=.slice na g.snaps.length nc):=⟨e0,e1,e3⟩;have HL:Hid (g.root.length≤1000∧(∀k,k<g.snaps.length→(g.snaps.getD k default).2.2.length≤1000)∧∀k,k<g.slots.length→(g.slots.getD k default).2.2.length≤1000):=⟨hl0,hl1,hl2⟩;have HB:Hid (B≤W.heap.size):=hB;have HF:Hid (∀a,Live g a→(val a).ownBlock≠some bm∧(val a).ownBlock≠some r):=hfar;have hr:W.ownsRow B 3 1 (val .root) g.root.length (ints g.root):=hK.own.row .root (Live.root g);obtain⟨f1,f2⟩:=hfar .root (Live.root g);have hcall:Calls Tryz.prog 76 #[.slice ra g.root.length rc,.func (.func 39) #[] #[.pointer (some ⟨bm,0,none⟩)]] W fun q W'=>q=.returned (.tuple #[])∧RnR W W' B D bm r L g (rnI L 0 0 g) val:=by
  have hc:=Qei (g':=none) hl0 hr hN f1 f2;rw [e0] at hc;refine hc.mono ?_;rintro q W' ⟨rfl,k1,k2⟩;rw [←e0] at k1 k2;refine⟨rfl,(DTo.refl hK nilV).turn hB (fun _=>Iff.rfl) (Live.root g) (a:=.root) (m':=rnI L 0 0 g) ?_ k2 (Qbt _ _ _ _) rfl (fun b hb hne=>?_),hN.grown k2 f1 f2⟩
  ·show W'.ownsRow B 3 1 (val .root) (g.root.map (ren L)).length (ints (g.root.map (ren L)))
   rw [List.length_map];exact k1
  ·rcases hb.cases with rfl | rfl | rfl | rfl | ⟨k,rfl,hk⟩ | ⟨k,rfl,hk⟩
   ·exact absurd rfl hne
   ·exact⟨rfl,rfl⟩
   ·exact⟨rfl,rfl⟩
   ·exact⟨rfl,rfl⟩
   ·exact⟨rfl,rfl⟩
   ·exact⟨rfl,rfl⟩
 obtain⟨_,c1,_,_,_⟩:=hK.five;rw [e0] at c1;clear hK hB hN hfar hl0 hl1 hl2 hr f1 f2 e0 e1 e3
 go_enter Tryz.func38,Tryz.ntmps38
 go_wp2_with fail;refine hcall.mono ?_;rintro e' w1 ⟨rfl,hR⟩;dsimp only;have d4:w1.cell? ⟨D,4,none⟩=some (.slice na g.snaps.length nc):=by have:=hR.dto.dk.five.2.2.2.2;rw [HV.out.2.2] at this;exact this
 have HR1:Hid (RnR W w1 B D bm r L g (rnI L 0 0 g) val):=hR;clear hR c1 hcall;go_wp2_with fail;clear d4
 go_loopw [21] (fun i wr=>∃k:Nat,k≤g.snaps.length∧i=.int .i64 k∧Hid (RnR W wr B D bm r L g (rnI L k 0 g) val)) (fun i _=>g.snaps.length - (intOf i).toNat)
 case atStart=>exact⟨0,Nat.zero_le _,rfl,HR1⟩
 case round=>
  obtain⟨k,hk,rfl,HC⟩:=hrel
  by_cases hkl:k<g.snaps.length
  ·have hki:(k:Int)<(g.snaps.length:Int):=by omega
   have hrow:wr.ownsRow B 39 3 (val .snaps) g.snaps.length (QaY g.snaps (fun j=>val (.sr j))):=by
    have:=HC.out.dto.dk.own.row .snaps (Live.snaps _);have e1:rowN (rnI L k 0 g) .snaps=g.snaps.length:=by exact Qcv _ _ _
    have e2:rowV (rnI L k 0 g) val .snaps=QaY g.snaps (fun j=>val (.sr j)):=Qg1;rw [e1,e2] at this;exact this
   rw [HV.out.2.2] at hrow;obtain⟨cb,hcb⟩:∃b,na=some ⟨b,0,none⟩:=by
    rcases QaL hrow with ⟨e,hn⟩ | ⟨b,c,e,_⟩
    ·omega
    ·simp only [Value.slice.injEq] at e;exact⟨b,e.1⟩
   subst hcb;obtain⟨g0,g1,g2⟩:=Qa8 (qv:=fun j=>val (.sr j)) hkl;obtain⟨x0,hx0⟩:∃x,x=(g.snaps.getD k default).1:=⟨_,rfl⟩;obtain⟨x1,hx1⟩:∃x,x=(g.snaps.getD k default).2.1:=⟨_,rfl⟩;rw [←hx0] at g0;rw [←hx1] at g1;obtain⟨qa,qc,eq,_⟩:=HC.out.dto.dk.own.forms (.sr k) ((Qbt _ _ _ _ _).2 (Live.sr hkl));obtain⟨qn,hqn⟩:∃n,rowN (rnI L k 0 g) (.sr k)=n:=⟨_,rfl⟩;rw [hqn] at eq;have v0:wr.cell? ⟨cb,k*3,none⟩=some (.string x0):=(hrow.cellAt (k*3+0) (by omega)).trans g0;have v1:wr.cell? ⟨cb,k*3+1,none⟩=some (.int .i64 x1):=(hrow.cellAt (k*3+1) (by omega)).trans g1;have v2:wr.cell? ⟨cb,k*3+1+1,none⟩=some (.slice qa qn qc):=(hrow.cellAt (k*3+2) (by omega)).trans (g2.trans (by rw [←eq]));have hcall:=Qiq (HC.out.alloc HB.out (.cells #[.string x0,.int .i64 x1,.slice qa qn qc] 39)) HB.out hkl (HL.out.2.1 k hkl) HF.out;rw [eq] at hcall;clear g0 g1 g2 hx0 hx1 eq hqn hrow;go_wp2_with fail;refine hcall.mono ?_;rintro e' w1 ⟨rfl,hR⟩;have HR:Hid (RnR W w1 B D bm r L g (rnI L (k+1) 0 g) val):=hR;clear hR;dsimp only;go_wp2_with fail;go_roundw
   case rel=>exact⟨k+1,by omega,by go_num,HR⟩
   case measure=>first | (simp [intOf];done) | (simp [intOf];omega)
  ·have e:k=g.snaps.length:=by omega
   subst e;have d2:wr.cell? ⟨D,2,none⟩=some (.slice sa g.slots.length sc):=by have:=HC.out.dto.dk.five.2.2.1;rw [HV.out.2.1] at this;exact this
   obtain⟨w5,hw5⟩:∃X,X=wr:=⟨_,rfl⟩;subst hw5;go_wp2_with fail;clear d2
   go_loopw [36] (fun i wr=>∃k:Nat,k≤g.slots.length∧i=.int .i64 k∧Hid (RnR W wr B D bm r L g (rnI L g.snaps.length k g) val)) (fun i _=>g.slots.length - (intOf i).toNat)
   case atStart=>exact⟨0,Nat.zero_le _,rfl,HC⟩
   case round=>
    clear HC;obtain⟨k,hk,rfl,HC⟩:=hrel
    by_cases hkl:k<g.slots.length
    ·have hki:(k:Int)<(g.slots.length:Int):=by omega
     have hrow:wr.ownsRow B 37 3 (val .slots) g.slots.length (QaE g.slots (fun j=>val (.tab j))):=by
      have:=HC.out.dto.dk.own.row .slots (Live.slots _);have e1:rowN (rnI L g.snaps.length k g) .slots=g.slots.length:=by exact Qcu _ _ _
      have e2:rowV (rnI L g.snaps.length k g) val .slots=QaE g.slots (fun j=>val (.tab j)):=QgD;rw [e1,e2] at this;exact this
     rw [HV.out.2.1] at hrow;obtain⟨cb,hcb⟩:∃b,sa=some ⟨b,0,none⟩:=by
      rcases QaL hrow with ⟨e,hn⟩ | ⟨b,c,e,_⟩
      ·omega
      ·simp only [Value.slice.injEq] at e;exact⟨b,e.1⟩
     subst hcb;obtain⟨g0,g1,g2⟩:=QaO (tv:=fun j=>val (.tab j)) hkl;obtain⟨x0,hx0⟩:∃x,x=(g.slots.getD k default).1:=⟨_,rfl⟩;obtain⟨x1,hx1⟩:∃x,x=(g.slots.getD k default).2.1:=⟨_,rfl⟩;rw [←hx0] at g0;rw [←hx1] at g1;obtain⟨qa,qc,eq,_⟩:=HC.out.dto.dk.own.forms (.tab k) ((Qbt _ _ _ _ _).2 (Live.tab hkl));obtain⟨qn,hqn⟩:∃n,rowN (rnI L g.snaps.length k g) (.tab k)=n:=⟨_,rfl⟩;rw [hqn] at eq;have v0:wr.cell? ⟨cb,k*3,none⟩=some (.int .i64 x0):=(hrow.cellAt (k*3+0) (by omega)).trans g0;have v1:wr.cell? ⟨cb,k*3+1,none⟩=some (.string x1):=(hrow.cellAt (k*3+1) (by omega)).trans g1;have v2:wr.cell? ⟨cb,k*3+1+1,none⟩=some (.slice qa qn qc):=(hrow.cellAt (k*3+2) (by omega)).trans (g2.trans (by rw [←eq]));have hcall:=Qic (HC.out.alloc HB.out (.cells #[.int .i64 x0,.string x1,.slice qa qn qc] 37)) HB.out hkl (HL.out.2.2 k hkl) HF.out;rw [eq] at hcall;clear g0 g1 g2 hx0 hx1 eq hqn hrow;go_wp2_with fail;refine hcall.mono ?_;rintro e' w1 ⟨rfl,hR⟩;have HR:Hid (RnR W w1 B D bm r L g (rnI L g.snaps.length (k+1) g) val):=hR;clear hR;dsimp only;go_wp2_with fail;go_roundw
     case rel=>exact⟨k+1,by omega,by go_num,HR⟩
     case measure=>first | (simp [intOf];done) | (simp [intOf];omega)
    ·have e:k=g.slots.length:=by omega
     subst e;go_wp2_with fail
     go_end0
     exact⟨rfl,HC.out.dto⟩

theorem Qog (m:ImgD):rnI m.slots (Qbp m).snaps.length (Qbp m).slots.length (Qbp m)=QbP m:=by
 unfold rnI rnS rnL QbP;rw [List.take_length,List.drop_length,List.take_length,List.drop_length,List.append_nil,List.append_nil];have:(Qbp m).slots.map (Qel m.slots)=QbB m.slots:=by
  show ((QaG m.slots).map (fun j=>m.slots.getD j default)).map (Qel m.slots)=_
  rw [List.map_map];rfl
 rw [this]
 rfl
theorem Qkj {m:ImgD}(h:Qao m=0):(Qbp m).root.length≤1000∧(Qbp m).snaps.length≤1000∧(Qbp m).slots.length≤1000∧(∀k,k<(Qbp m).snaps.length→((Qbp m).snaps.getD k default).2.2.length≤1000)∧∀k,k<(Qbp m).slots.length→((Qbp m).slots.getD k default).2.2.length≤1000:=by
 obtain⟨l1,l40⟩:=Qah (Qad h).2.1;obtain⟨f1,f2,f3,_⟩:=Qcl h (s:=(⟨#[]⟩,m.guest,m.root)) List.mem_cons_self;dsimp only at f1 f2 f3;have hk:=QeG m.slots;have hlen:(Qbp m).slots.length=(QaG m.slots).length:=by show ((QaG m.slots).map _).length=_;rw [List.length_map]
 refine⟨by show m.root.length≤1000;omega,by have:=(Qad h).1;show m.snaps.length≤1000;omega,by omega,fun k hk=>?_,fun k hk=>?_⟩
 ·have hk:k<m.snaps.length:=hk;have hm:m.snaps.getD k default ∈ m.snaps:=by rw [show m.snaps.getD k default=m.snaps[k] by simp [List.getD,hk]];exact List.getElem_mem hk
  obtain⟨g1,g2,g3,_⟩:=Qcl h (List.mem_cons_of_mem _ hm)
  show (m.snaps.getD k default).2.2.length≤1000
  omega
 ·rw [hlen] at hk;obtain⟨t1,t2⟩:=QgJ (m:=m) hk;rw [t2];have hs:=(Qad h).2.1;have hall:m.slots.all okD=true:=by
   unfold Qap at hs;rw [if_pos ⟨l1,l40⟩] at hs
   split at hs
   ·rename_i x;exact x.1
   ·cases hs
  have:=Qiu (List.all_eq_true.1 hall _ (Qde t1));omega
theorem Qlj {w:World}{m:ImgD}(hs:Qao m=0):QfJ w 35 #[] m (some (QbP m)):=by
 intro W D B val hb h1 h2 hK
 show Calls Tryz.prog 35 #[.pointer (some ⟨D,0,none⟩)] W (fun r W'=>∃val',r=.returned (.tuple #[])∧DTo W W' B D m val nilV (QbP m) val')
 have hSl:QaQ W (val .slots) m.slots:=hK.own.img.four.2.1;have hnum:=Qkc hSl (Qad hs).2.1;obtain⟨sa,sc,e1,_⟩:=hK.own.forms .slots (Live.slots m);have e1:val .slots=.slice sa m.slots.length sc:=e1;have d2:=hK.five.2.2.1;rw [e1] at hnum d2;have hDl:=hK.lt;have HK:Hid (DK W B D val m∧B≤W.heap.size∧Qao m=0):=⟨hK,h2,hs⟩;clear hK hSl h1 h2 hs hb e1
 go_enter Tryz.func35,Tryz.ntmps35
 go_wp2_with (go_at_call 36;refine hnum.mono ?_;rintro e' w1 ⟨rfl,hmap,b1⟩;have HM:Hid (w1.heap[W.heap.size]? = some (.map ((entK m.slots ((List.range m.slots.length).filter (kept m.slots))).toArray) (rnk m.slots m.slots.length))∧Below W.heap.size W w1):=⟨hmap,b1⟩;clear hmap b1);have b2:Below W.heap.size W (w1.alloc (.cells #[.map (some W.heap.size)] 61)):=HM.out.2.alloc HM.out.2.size _;have hs2:W.heap.size+1≤w1.heap.size:=(Array.getElem?_eq_some_iff.1 HM.out.1).1;have hmap2:=Qci HM.out.1 (.cells #[.map (some W.heap.size)] 61);have hK2:=HK.out.1.below b2;have hg:=Qmu hK2 (Nat.le_trans HK.out.2.1 b2.size) hmap2 HK.out.2.2;refine hg.mono ?_;rintro e' w3 ⟨rfl,val3,hT⟩;dsimp only;have hz2:(w1.alloc (.cells #[.map (some W.heap.size)] 61)).heap.size=w1.heap.size+1:=by simp
 have hold:∀q,W.heap.size≤q→∀a,Live m a→(val a).ownBlock≠some q:=fun q hq a ha e=>by have:=((HK.out.1.own.row a ha).lt q e).2;omega
 have hN:NumB w3 w1.heap.size W.heap.size m.slots:=⟨(hT.keep w1.heap.size (by omega) (by omega) (QbE _) (hold _ (by omega))).trans (zHn _ _),(hT.keep W.heap.size (by omega) (by omega) (QbE _) (hold _ (Nat.le_refl _))).trans hmap2⟩;have hfar:∀a,Live (Qbp m) a→(val3 a).ownBlock≠some w1.heap.size∧(val3 a).ownBlock≠some W.heap.size:=fun a ha=>⟨hT.src _ (by omega) (QbE _) (hold _ (by omega)) a ha,hT.src _ (by omega) (QbE _) (hold _ (Nat.le_refl _)) a ha⟩
 have hsh:=HK.out.2.2;have hfit:=Qkj hsh;have hren:=QiW hT.dk (Nat.le_trans (Nat.le_trans HK.out.2.1 b2.size) hT.bel.size) hN hfar hfit.1 hfit.2.1 hfit.2.2.1 hfit.2.2.2.1 hfit.2.2.2.2;rw [Qog] at hren;have cb:w3.cell? ⟨w1.heap.size,0,none⟩=some (.map (some W.heap.size)):=by simp [World.cell?,hN.1]
 have HT:Hid (∀w4,DTo w3 w4 B D (Qbp m) val3 nilV (QbP m) val3→DTo W w4 B D m val nilV (QbP m) val3):=fun w4 h4=>DTo.first b2 HK.out.2.1 (hT.andThen h4) (fun q e=>by cases e)
 clear hT hN hfar hfit hg hK2 hmap2 hold;have hmf:∀ (fn:Fn) (first cap:Array Value) (w:World),(Instr.makeFunc fn first cap).run Tryz.prog w=.ok (.func fn first cap) w:=fun _ _ _ _=>rfl
 go_wp2_with fail;refine hren.mono ?_;rintro e' w4 ⟨rfl,h4⟩;dsimp only;have HF:=HT.out w4 h4;have HF':Hid (DTo W w4 B D m val nilV (QbP m) val3):=HF;clear h4 HF;go_wp2_with fail
 go_end0
 first | exact⟨_,rfl,HF'.out⟩ | exact⟨rfl,_,HF'.out⟩
def pkM (m:ImgD):ImgD:=if Qaq m=0 then QbP m else imgZ
theorem Qio (m:ImgD)(ra:Option Addr)(rc:Nat)(sa:Option Addr)(sc:Nat)(fa:Option Addr)(fc:Nat)(na:Option Addr)(nc:Nat)(E:Int)(w:World)(h:Img w (.agg (aI m ra rc sa sc fa fc na nc)) m)(hE:Qaq m=E)(hne:(E != 0)=true) :
  Calls Tryz.prog 9 #[.agg (aI m ra rc sa sc fa fc na nc)] w (AnsI w w.heap.size imgZ E):=by
 have b0:Below w.heap.size w ((w.alloc (.cells (aI m ra rc sa sc fa fc na nc) 26)).alloc zI):=((Below.refl _ _).alloc (by simp;try omega) _).alloc (by simp;try omega) _;have q0:(w.alloc (.cells (aI m ra rc sa sc fa fc na nc) 26)).heap[w.heap.size]? = some (.cells (aI m ra rc sa sc fa fc na nc) 26):=by have:=World.alloc_heap_new w (.cells (aI m ra rc sa sc fa fc na nc) 26);simpa using this
 have m0:((w.alloc (.cells (aI m ra rc sa sc fa fc na nc) 26)).alloc zI).heap[w.heap.size]? = some (.cells (aI m ra rc sa sc fa fc na nc) 26):=(Qac q0 _);have q1:((w.alloc (.cells (aI m ra rc sa sc fa fc na nc) 26)).alloc zI).heap[w.heap.size+1]? = some zI:=by have:=World.alloc_heap_new (w.alloc (.cells (aI m ra rc sa sc fa fc na nc) 26)) zI;simpa using this
 have m1:((w.alloc (.cells (aI m ra rc sa sc fa fc na nc) 26)).alloc zI).heap[w.heap.size+1]? = some zI:=q1;have hz:((w.alloc (.cells (aI m ra rc sa sc fa fc na nc) 26)).alloc zI).heap.size=w.heap.size+1+1:=by simp
 clear q0 q1;have hchk:=Qbc (h.below b0) hE;obtain⟨c0,c1,c2,c3,c4⟩:=five m0;have HM:Hid ((Below w.heap.size w ((w.alloc (.cells (aI m ra rc sa sc fa fc na nc) 26)).alloc zI)∧((w.alloc (.cells (aI m ra rc sa sc fa fc na nc) 26)).alloc zI).heap.size=w.heap.size+1+1)∧((w.alloc (.cells (aI m ra rc sa sc fa fc na nc) 26)).alloc zI).heap[w.heap.size]? = some (.cells (aI m ra rc sa sc fa fc na nc) 26)∧((w.alloc (.cells (aI m ra rc sa sc fa fc na nc) 26)).alloc zI).heap[w.heap.size+1]? = some zI):=⟨⟨b0,hz⟩,m0,m1⟩;clear h m0 m1 hz b0 hE
 go_enter Tryz.func9,Tryz.ntmps9
 go_wp2_with (go_at_call 29;refine hchk.mono ?_;rintro e w1 ⟨rfl,b1⟩;have k3:=Qab HM.out.2.2 b1 (by rw [HM.out.1.2];omega);obtain⟨z0,z1,z2,z3,z4⟩:=five k3;have y0:=Qaa k3 0;have y1:=Qaa k3 1;have y2:=Qaa k3 2;have y3:=Qaa k3 3;have y4:=Qaa k3 4;have HB:Hid (Below w.heap.size w w1):=Below.on HM.out.1.1 b1;clear b1 k3);have i1:w.heap.size≤w.heap.size+1:=by omega
 refine bodyPost_ret (v:=.tuple #[.agg #[.int .i64 0,nl,nl,nl,nl],.int .i64 E]) (by simp [results,Tryz.results9,go_sem,z0,z1,z2,z3,z4]) rfl (AnsI.bad E (((((HB.out.setCell i1 _).setCell i1 _).setCell i1 _).setCell i1 _).setCell i1 _))
theorem Qkh (m:ImgD)(ra:Option Addr)(rc:Nat)(sa:Option Addr)(sc:Nat)(fa:Option Addr)(fc:Nat)(na:Option Addr)(nc:Nat)(w:World)(h:Img w (.agg (aI m ra rc sa sc fa fc na nc)) m)(hE:Qaq m=0)(M:ImgD)(hM:QbP m=M) :
  Calls Tryz.prog 9 #[.agg (aI m ra rc sa sc fa fc na nc)] w (AnsI w w.heap.size M 0):=by
 have b0:Below w.heap.size w ((w.alloc (.cells (aI m ra rc sa sc fa fc na nc) 26)).alloc zI):=((Below.refl _ _).alloc (by simp;try omega) _).alloc (by simp;try omega) _;have q0:(w.alloc (.cells (aI m ra rc sa sc fa fc na nc) 26)).heap[w.heap.size]? = some (.cells (aI m ra rc sa sc fa fc na nc) 26):=by have:=World.alloc_heap_new w (.cells (aI m ra rc sa sc fa fc na nc) 26);simpa using this
 have m0:((w.alloc (.cells (aI m ra rc sa sc fa fc na nc) 26)).alloc zI).heap[w.heap.size]? = some (.cells (aI m ra rc sa sc fa fc na nc) 26):=(Qac q0 _);have q1:((w.alloc (.cells (aI m ra rc sa sc fa fc na nc) 26)).alloc zI).heap[w.heap.size+1]? = some zI:=by have:=World.alloc_heap_new (w.alloc (.cells (aI m ra rc sa sc fa fc na nc) 26)) zI;simpa using this
 have m1:((w.alloc (.cells (aI m ra rc sa sc fa fc na nc) 26)).alloc zI).heap[w.heap.size+1]? = some zI:=q1;have hz:((w.alloc (.cells (aI m ra rc sa sc fa fc na nc) 26)).alloc zI).heap.size=w.heap.size+1+1:=by simp
 clear q0 q1;have hchk:=Qbc (h.below b0) hE;obtain⟨c0,c1,c2,c3,c4⟩:=five m0;have HO:Hid (∀w1,Below ((w.alloc (.cells (aI m ra rc sa sc fa fc na nc) 26)).alloc zI).heap.size ((w.alloc (.cells (aI m ra rc sa sc fa fc na nc) 26)).alloc zI) w1→Calls Tryz.prog 25 #[.agg (aI m ra rc sa sc fa fc na nc),.func (.func 35) #[] #[]] w1 (AnsI w1 w1.heap.size M 0)):=fun w1 b1=>by
  have ho:=Qj9 (h.below (Below.on b0 b1)) (Qbx (Qal hE)) (enters_of Tryz.func35 (by kernel_rfl) rfl) (Qlj (w:=w1) (Qal hE));have hsh:=Qej (Qal hE);have e1:ofM (some (QbP m))=M:=by unfold ofM;dsimp only;rw [if_pos hsh,Qcm (QjS hE)];exact hM
  have e2:ofE (some (QbP m))=0:=hsh;rw [e1,e2] at ho;exact ho
 have HM:Hid ((Below w.heap.size w ((w.alloc (.cells (aI m ra rc sa sc fa fc na nc) 26)).alloc zI)∧((w.alloc (.cells (aI m ra rc sa sc fa fc na nc) 26)).alloc zI).heap.size=w.heap.size+1+1)∧((w.alloc (.cells (aI m ra rc sa sc fa fc na nc) 26)).alloc zI).heap[w.heap.size]? = some (.cells (aI m ra rc sa sc fa fc na nc) 26)∧((w.alloc (.cells (aI m ra rc sa sc fa fc na nc) 26)).alloc zI).heap[w.heap.size+1]? = some zI):=⟨⟨b0,hz⟩,m0,m1⟩;clear h m0 m1 hz b0 hE hM
 go_enter Tryz.func9,Tryz.ntmps9
 go_wp2_with (go_at_call 29;refine hchk.mono ?_;rintro e w1 ⟨rfl,b1⟩;have d0:=Qab HM.out.2.1 b1 (by rw [HM.out.1.2];omega);obtain⟨x1,x2,x3,x4,x5⟩:=five d0;have hof:=HO.out w1 b1;have HV:Hid (Below w.heap.size w w1∧w1.heap[w.heap.size+1]? = some zI∧w.heap.size+1<w1.heap.size):=(⟨Below.on HM.out.1.1 b1,Qab HM.out.2.2 b1 (by rw [HM.out.1.2];omega),by have:=b1.size;rw [HM.out.1.2] at this;omega⟩);clear b1 d0);refine hof.mono ?_;intro e w3 hA;obtain⟨val,ga,gc,la,lc,oa,oc,ta,tc,rfl,hO,b1,hI⟩:=hA.open;dsimp only;have k3:=Qab HV.out.2.1 b1 HV.out.2.2;obtain⟨z0,z1,z2,z3,z4⟩:=five k3;have y0:=Qaa k3 0;have y1:=Qaa k3 1;have y2:=Qaa k3 2;have y3:=Qaa k3 3;have y4:=Qaa k3 4;have HP:Hid (OI w3 w1.heap.size val M):=hO;have HB:Hid (Below w.heap.size w w3):=Below.on HV.out.1 b1;have HI:Hid (imgV M.guest val=.agg (aI M ga gc la lc oa oc ta tc)):=hI;clear hO b1 hI hof hA;go_wp2_with fail;have i1:w.heap.size≤w.heap.size+1:=by omega
 have hf1:∀a,Live M a→(val a).ownBlock≠some (w.heap.size+1):=fun a ha e=>by have:=((HP.out.row a ha).lt _ e).1;have:=HV.out.2.2;omega
 refine bodyPost_ret (v:=.tuple #[.agg (aI M ga gc la lc oa oc ta tc),.int .i64 0]) (by simp [results,Tryz.results9,go_sem,z0,z1,z2,z3,z4]) rfl ⟨val,by rw [HI.out],OI.mono (((((HP.out.far hf1).far hf1).far hf1).far hf1).far hf1) (by have:=HV.out.2.2;omega),((((HB.out.setCell i1 _).setCell i1 _).setCell i1 _).setCell i1 _).setCell i1 _⟩
theorem Qlh {w:World}{v:Value}{m:ImgD}(h:Img w v m){M:ImgD}{E:Int}(hM:pkM m=M)(hE:Qaq m=E) :
  Calls Tryz.prog 9 #[v] w (AnsI w w.heap.size M E):=by
 have h':=h;obtain⟨ra,rc,sa,sc,fa,fc,na,nc,rfl,_⟩:=h.parts
 by_cases hC:Qaq m=0
 ·have e:E=0:=hE.symm.trans hC;subst e;exact Qkh m ra rc sa sc fa fc na nc w h' hC M (by unfold pkM at hM;rw [if_pos hC] at hM;exact hM)
 ·have:M=imgZ:=by unfold pkM at hM;rw [if_neg hC] at hM;exact hM.symm
  subst this;exact Qio m ra rc sa sc fa fc na nc E w h' hE (by rw [←hE];simpa using hC)
end Go.Proofs.YtjfkfnjigofmpaaGreat
