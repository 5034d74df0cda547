/- Texts joined: OxI, LayR, OwC, OxL. -/
import Derived.Test.YtehleeibgkpjmagGreatRestImagesJ1
import Derived.Test.YtehleeibgkpjmagGreatRestImagesJ5
import Derived.Deep.RegionHeld
import Derived.Test.YtehleeibgkpjmagGreatRestImagesJ9
import Derived.Test.YtehleeibgkpjmagGreatRestImagesJ6
set_option linter.unusedVariables false
set_option linter.unusedSimpArgs false
set_option maxHeartbeats 200000000
set_option maxRecDepth 20000
namespace Go.Proofs.YtehleeibgkpjmagGreat
open Go.RowKit Go.Shelf
abbrev tbl (m:ImgD) (j:Nat):List Int:=(m.slots.getD j default).2.2
def Qaj (m:ImgD) (a:Nm):Prop:=(a.kind<4∧a.ix=0)∨(a.kind=4∧a.ix<m.slots.length∧tbl m a.ix≠[])∨(a.kind=5∧a.ix<m.snaps.length)
theorem Qaj.cases {m:ImgD}{a:Nm}(h:Qaj m a):a=.root∨a=.slots∨a=.refs∨a=.snaps∨(∃j,a=.tab j∧j<m.slots.length∧tbl m j≠[])∨∃j,a=.sr j∧j<m.snaps.length:=by
 obtain⟨k,j⟩:=a;rcases h with ⟨h1,h2⟩ | ⟨h1,h2⟩ | ⟨h1,h2⟩
 ·dsimp only at h1 h2;subst h2
  match k,h1 with
  | 0,_=>exact .inl rfl
  | 1,_=>exact .inr (.inl rfl)
  | 2,_=>exact .inr (.inr (.inl rfl))
  | 3,_=>exact .inr (.inr (.inr (.inl rfl)))
 ·dsimp only at h1 h2;subst h1;exact .inr (.inr (.inr (.inr (.inl ⟨j,rfl,h2⟩))))
 ·dsimp only at h1 h2;subst h1;exact .inr (.inr (.inr (.inr (.inr ⟨j,rfl,h2⟩))))
theorem Qaj.root (m:ImgD):Qaj m .root:=.inl ⟨by decide,rfl⟩
theorem Qaj.slots (m:ImgD):Qaj m .slots:=.inl ⟨by decide,rfl⟩
theorem Qaj.refs (m:ImgD):Qaj m .refs:=.inl ⟨by decide,rfl⟩
theorem Qaj.snaps (m:ImgD):Qaj m .snaps:=.inl ⟨by decide,rfl⟩
theorem Qaj.tab {m:ImgD}{j:Nat}(h:j<m.slots.length∧tbl m j≠[]):Qaj m (.tab j):=.inr (.inl ⟨rfl,h⟩)
theorem Qaj.sr {m:ImgD}{j:Nat}(h:j<m.snaps.length):Qaj m (.sr j):=.inr (.inr ⟨rfl,h⟩)
theorem QbR {m m':ImgD}(h1:m'.slots.length=m.slots.length)(h2:m'.snaps.length=m.snaps.length)(h3:∀j,tbl m' j=[]↔tbl m j=[])(b:Nm):Qaj m' b↔Qaj m b:=by
 unfold Qaj;rw [h1,h2,ne_eq,ne_eq,h3]
theorem Qaj.live {m:ImgD}{a:Nm}(h:Qaj m a):Live m a:=by
 rcases h with h | h | h
 ·exact .inl h
 ·exact .inr (.inl ⟨h.1,h.2.1⟩)
 ·exact .inr (.inr h)
structure OX (W:World) (B:Nat) (val:Nm→Value) (m:ImgD):Prop where
 row:∀a,Qaj m a→W.ownsRow B (rowT a) (rowS a) (val a) (rowN m a) (rowV m val a)
 apart:∀a b,Qaj m a→Qaj m b→a≠b→∀g,(val a).ownBlock=some g→(val b).ownBlock≠some g
 loose:∀j,j<m.slots.length→tbl m j=[]→∃ao cap,val (.tab j)=.slice ao 0 cap
theorem OX.keep {W W':World}{B:Nat}{val:Nm→Value}{m:ImgD}(h:OX W B val m)(hk:∀g,B≤g→g<W.heap.size→W'.heap[g]? = W.heap[g]?):OX W' B val m:=by
 refine⟨fun a ha=>?_,h.apart,h.loose⟩;have hr:=h.row a ha;refine⟨hr.1,?_⟩;rcases hr.2 with hn | ⟨g,cap,cur,hv,hb,hg,rest⟩
 ·exact .inl hn
 ·exact .inr ⟨g,cap,cur,hv,hb,(hk g hb (szH hg)).trans hg,rest⟩
theorem OX.below {W W':World}{B:Nat}{val:Nm→Value}{m:ImgD}(h:OX W B val m)(hb:Below W.heap.size W W'):OX W' B val m:=h.keep fun g _ hg=>hb.block g hg
theorem OX.alloc {W:World}{B:Nat}{val:Nm→Value}{m:ImgD}(h:OX W B val m)(o:Obj):OX (W.alloc o) B val m:=h.below ((Below.refl _ _).alloc (Nat.le_refl _) o)
theorem OX.drew {W:World}{B:Nat}{val:Nm→Value}{m:ImgD}(h:OX W B val m):OX W.drew B val m:=⟨fun a ha=>(h.row a ha).drew,h.apart,h.loose⟩
theorem OX.mono {W:World}{B B':Nat}{val:Nm→Value}{m:ImgD}(h:OX W B val m)(hb:B'≤B):OX W B' val m:=by
 refine⟨fun a ha=>?_,h.apart,h.loose⟩;have hr:=h.row a ha;refine⟨hr.1,?_⟩;rcases hr.2 with hn | ⟨g,cap,cur,hv,hg,rest⟩
 ·exact .inl hn
 ·exact .inr ⟨g,cap,cur,hv,Nat.le_trans hb hg,rest⟩
theorem OX.tabSl {W:World}{B:Nat}{val:Nm→Value}{m:ImgD}(h:OX W B val m){j:Nat}(hj:j<m.slots.length):Sl W (val (.tab j)) (tbl m j):=by
 by_cases e:tbl m j=[]
 ·obtain⟨ao,cap,ev⟩:=h.loose j hj e;rw [ev,e];exact⟨ao,cap,rfl,Nat.zero_le _,Nat.zero_le _,fun x=>absurd rfl x⟩
 ·exact QbT (h.row (.tab j) (Qaj.tab ⟨hj,e⟩))
theorem OX.img {W:World}{B:Nat}{val:Nm→Value}{m:ImgD}(h:OX W B val m):Img W (imgV m.guest val) m:=
 ⟨_,_,_,_,rfl,QbT (h.row .root (Qaj.root m)),Qhp (h.row .slots (Qaj.slots m)) (fun j hj=>h.tabSl hj),QbT (h.row .refs (Qaj.refs m)),QhD (h.row .snaps (Qaj.snaps m)) (fun j hj=>QbT (h.row (.sr j) (Qaj.sr hj)))⟩
theorem OX.store {W:World}{B:Nat}{val:Nm→Value}{m m':ImgD}(h:OX W B val m){a:Nm}(ha:Qaj m a){g n cap:Nat}(hv:val a=.slice (some ⟨g,0,none⟩) n cap)(i:Nat)(u:Value)
  (hlive:∀b,Qaj m' b↔Qaj m b) (hn:∀b,Qaj m b→rowN m' b=rowN m b) (hsame:∀b,Qaj m b→b≠a→rowV m' val b=rowV m val b) (hset:rowV m' val a=(rowV m val a).set i u) (hloose:∀j,j<m'.slots.length→tbl m' j=[]→j<m.slots.length∧tbl m j=[]):OX (W.setCell ⟨g,i,none⟩ u) B val m':=by
 refine⟨fun b hb=>?_,fun b c hb hc=>h.apart b c ((hlive b).1 hb) ((hlive c).1 hc),fun j hj e=>h.loose j (hloose j hj e).1 (hloose j hj e).2⟩;have hb:=(hlive b).1 hb;rw [hn b hb]
 by_cases e:b=a
 ·subst e;have hr:=h.row b hb;rw [hset];have hnn:n=rowN m b:=by
   rcases QaL hr with ⟨e,_⟩ | ⟨g',cap',e,_⟩
   ·rw [hv] at e;simp at e
   ·rw [hv] at e;simp at e;exact e.2.1
  subst hnn;rw [hv] at hr ⊢;exact (hr.stored i u).1
 ·rw [hsame b hb e];exact ownsRow_setCell_other (h.row b hb) (h.apart a b ha hb (fun x=>e x.symm) g (by rw [hv];rfl)) u
theorem OX.setRoot {W:World}{B:Nat}{val:Nm→Value}{m:ImgD}(h:OX W B val m){g n cap:Nat}(hv:val .root=.slice (some ⟨g,0,none⟩) n cap)(i:Nat)(x:Int):OX (W.setCell ⟨g,i,none⟩ (.int .i64 x)) B val { m with root:=m.root.set i x }:=by
 refine h.store (a:=.root) (Qaj.root m) hv i _ (QbR rfl rfl fun _=>Iff.rfl) (fun b hb=>?_) (fun b hb hne=>?_) (Qdg _ _ _) (fun _ hj e=>⟨hj,e⟩)
 ·rcases hb.cases with rfl | rfl | rfl | rfl | ⟨j,rfl,hj⟩ | ⟨j,rfl,hj⟩ <;> first | rfl | exact List.length_set
 ·rcases hb.cases with rfl | rfl | rfl | rfl | ⟨j,rfl,hj⟩ | ⟨j,rfl,hj⟩ <;> first | rfl | exact absurd rfl hne
theorem OX.setTab {W:World}{B:Nat}{val:Nm→Value}{m:ImgD}(h:OX W B val m){t:Nat}(ht:t<m.slots.length)(hnt:tbl m t≠[]){g n cap:Nat}(hv:val (.tab t)=.slice (some ⟨g,0,none⟩) n cap)(i:Nat)(x:Int) :
  OX (W.setCell ⟨g,i,none⟩ (.int .i64 x)) B val { m with slots:=m.slots.set t ((m.slots.getD t default).1,(m.slots.getD t default).2.1,(m.slots.getD t default).2.2.set i x) }:=by
 have hg:=fun j=>QbA m.slots t j ((m.slots.getD t default).1,(m.slots.getD t default).2.1,(m.slots.getD t default).2.2.set i x)
 have hnil:∀j,tbl { m with slots:=m.slots.set t ((m.slots.getD t default).1,(m.slots.getD t default).2.1,(m.slots.getD t default).2.2.set i x) } j=[]↔tbl m j=[]:=fun j=>by
  show ((m.slots.set t _).getD j default).2.2=[]↔_
  rw [hg]
  split
  ·rename_i e
   rw [←e.1]
   constructor
   ·intro z;have:=congrArg List.length z;rw [List.length_set] at this;exact List.eq_nil_of_length_eq_zero this
   ·intro z;exact absurd z hnt
  ·rfl
 refine h.store (a:=.tab t) (Qaj.tab ⟨ht,hnt⟩) hv i _ (QbR List.length_set rfl hnil) (fun b hb=>?_) (fun b hb hne=>?_) ?_ (fun j hj e=>⟨by rwa [show (m.slots.set t _).length=m.slots.length from List.length_set] at hj,(hnil j).1 e⟩)
 ·rcases hb.cases with rfl | rfl | rfl | rfl | ⟨j,rfl,hj⟩ | ⟨j,rfl,hj⟩ <;> first | rfl | exact List.length_set | skip
  show ((m.slots.set t _).getD j default).2.2.length=(m.slots.getD j default).2.2.length
  rw [hg]
  split
  ·rename_i e;rw [←e.1];exact List.length_set
  ·rfl
 ·rcases hb.cases with rfl | rfl | rfl | rfl | ⟨j,rfl,hj⟩ | ⟨j,rfl,hj⟩ <;> first | rfl | skip
  ·show QaE (m.slots.set t _) _=QaE m.slots _
   unfold QaE;rw [List.length_set];refine congrArg List.flatten (List.map_congr_left fun j _=>?_);rw [hg]
   split
   ·rename_i e;rw [←e.1]
   ·rfl
  ·show ints ((m.slots.set t _).getD j default).2.2=ints (m.slots.getD j default).2.2
   rw [hg,if_neg (fun e=>hne (by rw [e.1]))]
 ·show ints ((m.slots.set t _).getD t default).2.2=(ints (m.slots.getD t default).2.2).set i _
  rw [hg,if_pos ⟨rfl,ht⟩];exact Qdg _ _ _
def FarX (m:ImgD) (val:Nm→Value) (a:Nm) (v:Value):Prop:=∀b,Qaj m b→b≠a→∀g,v.ownBlock=some g→(val b).ownBlock≠some g
theorem Qdo {W:World}{B:Nat}{val:Nm→Value}{m:ImgD}(h:OX W B val m)(a:Nm){v:Value}(hv:∀g,v.ownBlock=some g→W.heap.size≤g):FarX m val a v:=fun b hb _ g hg e=>by
 have:=((h.row b hb).lt g e).2;have:=hv g hg;omega
theorem QeN (m:ImgD)(val:Nm→Value)(a:Nm)(n cap:Nat):FarX m val a (.slice none n cap):=fun _ _ _ g hg=>by cases hg
theorem OX.swap {W:World}{B:Nat}{val:Nm→Value}{m m':ImgD}(h:OX W B val m){a:Nm}(ha:Qaj m a){v:Value}(hv:W.ownsRow B (rowT a) (rowS a) v (rowN m' a) (rowV m' (upd val a v) a))(hfar:FarX m val a v)
  (hlive:∀b,Qaj m' b↔Qaj m b) (hsame:∀b,Qaj m b→b≠a→rowN m' b=rowN m b∧rowV m' (upd val a v) b=rowV m val b) (hloose:∀j,j<m'.slots.length→tbl m' j=[]→a≠.tab j∧j<m.slots.length∧tbl m j=[]):OX W B (upd val a v) m':=by
 refine⟨fun b hb=>?_,fun b c hb hc hne g hg=>?_,fun j hj e=>by obtain⟨h1,h2,h3⟩:=hloose j hj e;rw [Qae val v (fun x=>h1 x.symm)];exact h.loose j h2 h3⟩
 ·have hb:=(hlive b).1 hb
  by_cases e:b=a
  ·subst e;rw [Qar];exact hv
  ·rw [Qae val v e,(hsame b hb e).1,(hsame b hb e).2];exact h.row b hb
 ·have hb:=(hlive b).1 hb;have hc:=(hlive c).1 hc
  by_cases e:b=a
  ·subst e;rw [Qar] at hg;rw [Qae val v (fun x=>hne x.symm)];exact hfar c hc (fun x=>hne x.symm) g hg
  ·rw [Qae val v e] at hg
   by_cases e2:c=a
   ·subst e2;rw [Qar];exact fun x=>hfar b hb e g x hg
   ·rw [Qae val v e2];exact h.apart b c hb hc hne g hg
theorem OX.swapRoot {W:World}{B:Nat}{val:Nm→Value}{m:ImgD}(h:OX W B val m){v:Value}{r:List Int}(hv:W.ownsRow B 3 1 v r.length (ints r))(hfar:FarX m val .root v)(g:Int):OX W B (upd val .root v) { m with guest:=g,root:=r }:=by
 refine h.swap (a:=.root) (Qaj.root m) hv hfar (QbR rfl rfl fun _=>Iff.rfl) (fun b hb hne=>?_) (fun j hj e=>⟨(by intro x;cases x),hj,e⟩);rcases hb.cases with rfl | rfl | rfl | rfl | ⟨j,rfl,hj⟩ | ⟨j,rfl,hj⟩ <;> first | exact⟨rfl,rfl⟩ | exact absurd rfl hne
theorem OX.swapRefs {W:World}{B:Nat}{val:Nm→Value}{m:ImgD}(h:OX W B val m){v:Value}{r:List Int}(hv:W.ownsRow B 3 1 v r.length (ints r))(hfar:FarX m val .refs v):OX W B (upd val .refs v) { m with refs:=r }:=by
 refine h.swap (a:=.refs) (Qaj.refs m) hv hfar (QbR rfl rfl fun _=>Iff.rfl) (fun b hb hne=>?_) (fun j hj e=>⟨(by intro x;cases x),hj,e⟩);rcases hb.cases with rfl | rfl | rfl | rfl | ⟨j,rfl,hj⟩ | ⟨j,rfl,hj⟩ <;> first | exact⟨rfl,rfl⟩ | exact absurd rfl hne
theorem OX.setSlot {W:World}{B:Nat}{val:Nm→Value}{m:ImgD}(h:OX W B val m){t:Nat}(ht:t<m.slots.length){g n cap:Nat}(hv:val .slots=.slice (some ⟨g,0,none⟩) n cap)(k:Int)(d:ByteArray)(es:List Int){ev:Value}
  (hev:W.ownsRow B 3 1 ev es.length (ints es)) (hfar:FarX m val (.tab t) ev) :
  OX (((W.setCell ⟨g,t*3,none⟩ (.int .i64 k)).setCell ⟨g,t*3+1,none⟩ (.string d)).setCell ⟨g,t*3+2,none⟩ ev) B (upd val (.tab t) ev) { m with slots:=m.slots.set t (k,d,es) }:=by
 have hgd:=fun j=>QbA m.slots t j (k,d,es)
 have hnn:n=m.slots.length:=by
  rcases QaL (h.row .slots (Qaj.slots m)) with ⟨e,_⟩ | ⟨g',cap',e,_⟩
  ·rw [hv] at e;simp at e
  ·rw [hv] at e;simp at e;exact e.2.1
 have hoth:∀ {e:TypeId} {size:Nat} {v:Value} {q:Nat} {xs:List Value},W.ownsRow B e size v q xs→v.ownBlock≠some g→
   (((W.setCell ⟨g,t*3,none⟩ (.int .i64 k)).setCell ⟨g,t*3+1,none⟩ (.string d)).setCell ⟨g,t*3+2,none⟩ ev).ownsRow B e size v q xs:=fun hr hne=>
  ownsRow_setCell_other (ownsRow_setCell_other (ownsRow_setCell_other hr hne _) hne _) hne _
 have hlive:∀b,Qaj { m with slots:=m.slots.set t (k,d,es) } b→b≠.tab t→Qaj m b:=fun b hb hne=>by
  rcases hb.cases with rfl | rfl | rfl | rfl | ⟨j,rfl,hj⟩ | ⟨j,rfl,hj⟩
  ·exact Qaj.root m
  ·exact Qaj.slots m
  ·exact Qaj.refs m
  ·exact Qaj.snaps m
  ·refine Qaj.tab ⟨?_,?_⟩
   ·have:=hj.1
    rwa [show (m.slots.set t (k,d,es)).length=m.slots.length from List.length_set] at this
   ·have:=hj.2;have e:tbl { m with slots:=m.slots.set t (k,d,es) } j=tbl m j:=by
     show ((m.slots.set t (k,d,es)).getD j default).2.2=_
     rw [hgd,if_neg (fun x=>hne (by rw [x.1]))]
    rwa [e] at this
  ·exact Qaj.sr hj
 refine⟨fun b hb=>?_,fun b c hb hc hne q hq=>?_,fun j hj e=>?_⟩
 ·by_cases es0:b=.slots
  ·subst es0;rw [Qae val ev (by intro x;cases x)];have hr:=h.row .slots (Qaj.slots m);have e1:rowV { m with slots:=m.slots.set t (k,d,es) } (upd val (.tab t) ev) .slots=(((rowV m val .slots).set (t*3) (.int .i64 k)).set (t*3+1) (.string d)).set (t*3+2) ev:=by
    have:=Qd8 (L:=m.slots) (tv:=fun j=>val (.tab j)) (tv':=fun j=>upd val (.tab t) ev (.tab j)) (t:=t) k d es (fun j hj=>Qae val ev (by intro x;apply hj;injection x));rw [Qar] at this;exact this
   have e2:rowN { m with slots:=m.slots.set t (k,d,es) } .slots=rowN m .slots:=List.length_set;rw [e1,e2];have hN:rowN m .slots=n:=hnn.symm;rw [hN] at hr ⊢;rw [hv] at hr ⊢;exact ((((hr.stored (t*3) (.int .i64 k)).1).stored (t*3+1) (.string d)).1.stored (t*3+2) ev).1
  ·by_cases et:b=.tab t
   ·subst et;rw [Qar];have e1:rowV { m with slots:=m.slots.set t (k,d,es) } (upd val (.tab t) ev) (.tab t)=ints es:=by
     show ints ((m.slots.set t (k,d,es)).getD t default).2.2=_
     rw [hgd,if_pos ⟨rfl,ht⟩]
    have e2:rowN { m with slots:=m.slots.set t (k,d,es) } (.tab t)=es.length:=by
     show ((m.slots.set t (k,d,es)).getD t default).2.2.length=_
     rw [hgd,if_pos ⟨rfl,ht⟩]
    rw [e1,e2];exact hoth hev (fun x=>hfar .slots (Qaj.slots m) (by intro y;cases y) g x (by rw [hv];rfl))
   ·have hb':=hlive b hb et;have hbg:(val b).ownBlock≠some g:=h.apart .slots b (Qaj.slots m) hb' (fun x=>es0 x.symm) g (by rw [hv];rfl);rw [Qae val ev et];have e1:rowV { m with slots:=m.slots.set t (k,d,es) } (upd val (.tab t) ev) b=rowV m val b∧rowN { m with slots:=m.slots.set t (k,d,es) } b=rowN m b:=by
     rcases hb'.cases with rfl | rfl | rfl | rfl | ⟨j,rfl,hj⟩ | ⟨j,rfl,hj⟩
     ·exact⟨rfl,rfl⟩
     ·exact absurd rfl es0
     ·exact⟨rfl,rfl⟩
     ·exact⟨rfl,rfl⟩
     ·have hjt:t≠j:=fun x=>et (by rw [x])
      constructor
      ·show ints ((m.slots.set t (k,d,es)).getD j default).2.2=ints (m.slots.getD j default).2.2
       rw [hgd,if_neg (fun x=>hjt x.1)]
      ·show ((m.slots.set t (k,d,es)).getD j default).2.2.length=(m.slots.getD j default).2.2.length
       rw [hgd,if_neg (fun x=>hjt x.1)]
     ·exact⟨rfl,rfl⟩
    rw [e1.1,e1.2];exact hoth (h.row b hb') hbg
 ·by_cases e:b=.tab t
  ·subst e;rw [Qar] at hq;rw [Qae val ev (fun x=>hne x.symm)];exact hfar c (hlive c hc (fun x=>hne x.symm)) (fun x=>hne x.symm) q hq
  ·rw [Qae val ev e] at hq;have hb':=hlive b hb e
   by_cases e2:c=.tab t
   ·subst e2;rw [Qar];exact fun x=>hfar b hb' e q x hq
   ·rw [Qae val ev e2];exact h.apart b c hb' (hlive c hc e2) hne q hq
 ·rw [show ({ m with slots:=m.slots.set t (k,d,es) } : ImgD).slots.length=m.slots.length from List.length_set] at hj;have e:((m.slots.set t (k,d,es)).getD j default).2.2=[]:=e;rw [hgd] at e
  by_cases ej:t=j
  ·subst ej;rw [if_pos ⟨rfl,hj⟩] at e;have e:es=[]:=e;rw [Qar];rw [e] at hev;rcases QaL hev with ⟨x,_⟩ | ⟨g',cap',x,_⟩
   ·exact⟨_,_,x⟩
   ·exact⟨_,_,x⟩
  ·rw [if_neg (fun x=>ej x.1)] at e;rw [Qae val ev (by intro x;apply ej;injection x with _ x;exact x.symm)];exact h.loose j hj e
theorem OX.addSlot {W W':World}{B:Nat}{val:Nm→Value}{m:ImgD}(h:OX W B val m){k:Int}{d:ByteArray}{es:List Int}{ev sv:Value}(hev:es≠[]→W.ownsRow B 3 1 ev es.length (ints es))(hev0:es=[]→∃ao cap,ev=.slice ao 0 cap)(hfar:es≠[]→FarX m val (.tab m.slots.length) ev)
  (hgrow:W.grownBy W' (val .slots).ownBlock) (hrow:W'.ownsRow B 37 3 sv (m.slots.length+1) (QaE m.slots (fun j=>val (.tab j)) ++ [.int .i64 k,.string d,ev])) (hblk:sv.ownBlock=(val .slots).ownBlock∨∀g,sv.ownBlock=some g→W.heap.size≤g) :
  OX W' B (upd (upd val (.tab m.slots.length) ev) .slots sv) { m with slots:=m.slots ++ [(k,d,es)] }:=by
 have hval:∀b,b≠.slots→b≠.tab m.slots.length→upd (upd val (.tab m.slots.length) ev) .slots sv b=val b:=fun b h1 h2=>by rw [Qae _ sv h1,Qae _ ev h2]
 have hvs:upd (upd val (.tab m.slots.length) ev) .slots sv .slots=sv:=Qar _ _ _;have hvt:upd (upd val (.tab m.slots.length) ev) .slots sv (.tab m.slots.length)=ev:=by rw [Qae _ sv (by intro x;cases x),Qar]
 have hcase:∀b,Qaj { m with slots:=m.slots ++ [(k,d,es)] } b→b=.slots∨(b=.tab m.slots.length∧es≠[])∨(Qaj m b∧b≠.slots∧b≠.tab m.slots.length):=fun b hb=>by
  rcases hb.cases with rfl | rfl | rfl | rfl | ⟨j,rfl,hj⟩ | ⟨j,rfl,hj⟩
  ·exact .inr (.inr ⟨Qaj.root m,(by intro x;cases x),(by intro x;cases x)⟩)
  ·exact .inl rfl
  ·exact .inr (.inr ⟨Qaj.refs m,(by intro x;cases x),(by intro x;cases x)⟩)
  ·exact .inr (.inr ⟨Qaj.snaps m,(by intro x;cases x),(by intro x;cases x)⟩)
  ·obtain⟨hj,hjn⟩:=hj
   by_cases e:j=m.slots.length
   ·subst e;refine .inr (.inl ⟨rfl,?_⟩);have hjn:((m.slots ++ [(k,d,es)]).getD m.slots.length default).2.2≠[]:=hjn
    simpa [List.getD] using hjn
   ·have hjl:j<m.slots.length:=by simp at hj;omega
    refine .inr (.inr ⟨Qaj.tab ⟨hjl,?_⟩,(by intro x;cases x),?_⟩)
    ·have hjn:((m.slots ++ [(k,d,es)]).getD j default).2.2≠[]:=hjn;have e:(m.slots ++ [(k,d,es)]).getD j default=m.slots.getD j default:=by simp [List.getD,List.getElem?_append,hjl]
     rwa [e] at hjn
    ·intro x;apply e;injection x
  ·exact .inr (.inr ⟨Qaj.sr hj,(by intro x;cases x),(by intro x;cases x)⟩)
 have hnot:∀b,Qaj m b→b≠.slots→(val b).ownBlock=none∨(val b).ownBlock≠(val .slots).ownBlock:=fun b hb hne=>by
  cases hg:(val b).ownBlock with
  | none=>exact .inl rfl
  | some g=>exact .inr (fun x=>h.apart b .slots hb (Qaj.slots m) hne g hg x.symm)
 have hevn:es≠[]→ev.ownBlock=none∨ev.ownBlock≠(val .slots).ownBlock:=fun hne=>by
  cases hg:ev.ownBlock with
  | none=>exact .inl rfl
  | some g=>exact .inr (fun x=>hfar hne .slots (Qaj.slots m) (by intro y;cases y) g hg x.symm)
 have hsvfar:∀b,Qaj m b→b≠.slots→∀g,sv.ownBlock=some g→(val b).ownBlock≠some g:=fun b hb hne g hg hx=>by
  rcases hblk with e | e
  ·rw [e] at hg;exact h.apart b .slots hb (Qaj.slots m) hne g hx hg
  ·have:=((h.row b hb).lt g hx).2;have:=e g hg;omega
 have hsvev:es≠[]→∀g,sv.ownBlock=some g→ev.ownBlock≠some g:=fun hne g hg hx=>by
  rcases hblk with e | e
  ·rw [e] at hg;exact hfar hne .slots (Qaj.slots m) (by intro y;cases y) g hx hg
  ·have:=((hev hne).lt g hx).2;have:=e g hg;omega
 refine⟨fun b hb=>?_,fun b c hb hc hne q hq=>?_,fun j hj e=>?_⟩
 ·rcases hcase b hb with rfl | ⟨rfl,hes⟩ | ⟨hb',h1,h2⟩
  ·rw [hvs];have e1:rowV { m with slots:=m.slots ++ [(k,d,es)] } (upd (upd val (.tab m.slots.length) ev) .slots sv) .slots=QaE m.slots (fun j=>val (.tab j)) ++ [.int .i64 k,.string d,ev]:=by
    have:=Qf4 m.slots (fun j=>val (.tab j)) (fun j=>upd (upd val (.tab m.slots.length) ev) .slots sv (.tab j)) (k,d,es) (fun j hj=>hval _ (by intro x;cases x) (by intro x;injection x with _ x;omega));rw [hvt] at this;exact this
   have e2:rowN { m with slots:=m.slots ++ [(k,d,es)] } .slots=m.slots.length+1:=by show (m.slots ++ [(k,d,es)]).length=_;simp
   rw [e1,e2];exact hrow
  ·rw [hvt];have e0:(m.slots ++ [(k,d,es)]).getD m.slots.length default=(k,d,es):=by simp [List.getD]
   have e1:rowV { m with slots:=m.slots ++ [(k,d,es)] } (upd (upd val (.tab m.slots.length) ev) .slots sv) (.tab m.slots.length)=ints es:=by
    show ints ((m.slots ++ [(k,d,es)]).getD m.slots.length default).2.2=_
    rw [e0]
   have e2:rowN { m with slots:=m.slots ++ [(k,d,es)] } (.tab m.slots.length)=es.length:=by
    show ((m.slots ++ [(k,d,es)]).getD m.slots.length default).2.2.length=_
    rw [e0]
   rw [e1,e2];exact (hev hes).kept hgrow (hevn hes)
  ·rw [hval b h1 h2];have e1:rowV { m with slots:=m.slots ++ [(k,d,es)] } (upd (upd val (.tab m.slots.length) ev) .slots sv) b=rowV m val b∧rowN { m with slots:=m.slots ++ [(k,d,es)] } b=rowN m b:=by
    rcases hb'.cases with rfl | rfl | rfl | rfl | ⟨j,rfl,hj⟩ | ⟨j,rfl,hj⟩
    ·exact⟨rfl,rfl⟩
    ·exact absurd rfl h1
    ·exact⟨rfl,rfl⟩
    ·refine⟨?_,rfl⟩
     show QaY m.snaps _=QaY m.snaps _
     unfold QaY;refine congrArg List.flatten (List.map_congr_left fun j _=>?_);dsimp only;rw [hval (.sr j) (by intro x;cases x) (by intro x;cases x)]
    ·have e:(m.slots ++ [(k,d,es)]).getD j default=m.slots.getD j default:=by simp [List.getD,List.getElem?_append,hj.1]
     constructor
     ·show ints ((m.slots ++ [(k,d,es)]).getD j default).2.2=_
      rw [e];rfl
     ·show ((m.slots ++ [(k,d,es)]).getD j default).2.2.length=_
      rw [e];rfl
    ·exact⟨rfl,rfl⟩
   rw [e1.1,e1.2];exact (h.row b hb').kept hgrow (hnot b hb' h1)
 ·rcases hcase b hb with rfl | ⟨rfl,hes⟩ | ⟨hb',h1,h2⟩
  ·rw [hvs] at hq;rcases hcase c hc with rfl | ⟨rfl,hes2⟩ | ⟨hc',g1,g2⟩
   ·exact absurd rfl hne
   ·rw [hvt];exact hsvev hes2 q hq
   ·rw [hval c g1 g2];exact hsvfar c hc' g1 q hq
  ·rw [hvt] at hq;rcases hcase c hc with rfl | ⟨rfl,hes2⟩ | ⟨hc',g1,g2⟩
   ·rw [hvs];exact fun x=>hsvev hes q x hq
   ·exact absurd rfl hne
   ·rw [hval c g1 g2];exact hfar hes c hc' g2 q hq
  ·rw [hval b h1 h2] at hq;rcases hcase c hc with rfl | ⟨rfl,hes2⟩ | ⟨hc',g1,g2⟩
   ·rw [hvs];exact fun x=>hsvfar b hb' h1 q x hq
   ·rw [hvt];exact fun x=>hfar hes2 b hb' h2 q x hq
   ·rw [hval c g1 g2];exact h.apart b c hb' hc' hne q hq
 ·have hj:j<(m.slots ++ [(k,d,es)]).length:=hj;have e:((m.slots ++ [(k,d,es)]).getD j default).2.2=[]:=e
  by_cases ej:j=m.slots.length
  ·subst ej;rw [hvt];exact hev0 (by simpa [List.getD] using e)
  ·have hjl:j<m.slots.length:=by simp at hj;omega
   have e2:(m.slots ++ [(k,d,es)]).getD j default=m.slots.getD j default:=by simp [List.getD,List.getElem?_append,hjl]
   rw [hval _ (by intro x;cases x) (by intro x;injection x with _ x;exact ej x)];exact h.loose j hjl (by rw [e2] at e;exact e)
theorem Qkb (L:List Qav)(tv tv':Nat→Value)(s:Qav)(htv:∀j,j<L.length→tv' j=tv j):QaY (L ++ [s]) tv'=QaY L tv ++ [.string s.1,.int .i64 s.2.1,tv' L.length]:=by
 unfold QaY;rw [List.length_append,List.length_singleton,List.range_succ,List.flatMap_append];have e1:(List.range L.length).flatMap (fun j=>[Value.string ((L ++ [s]).getD j default).1,.int .i64 ((L ++ [s]).getD j default).2.1,tv' j])=(List.range L.length).flatMap (fun j=>[Value.string (L.getD j default).1,.int .i64 (L.getD j default).2.1,tv j]):=by
  refine congrArg List.flatten (List.map_congr_left fun j hj=>?_);have hj:=List.mem_range.1 hj;have e:(L ++ [s]).getD j default=L.getD j default:=by simp [List.getD,List.getElem?_append,hj]
  rw [e,htv j hj]
 rw [e1];simp
theorem OX.addSnap {W W':World}{B:Nat}{val:Nm→Value}{m:ImgD}(h:OX W B val m){k:Int}{d:ByteArray}{es:List Int}{ev sv:Value}(hev:W.ownsRow B 3 1 ev es.length (ints es))(hfar:FarX m val (.sr m.snaps.length) ev)
  (hgrow:W.grownBy W' (val .snaps).ownBlock) (hrow:W'.ownsRow B 39 3 sv (m.snaps.length+1) (QaY m.snaps (fun j=>val (.sr j)) ++ [.string d,.int .i64 k,ev])) (hblk:sv.ownBlock=(val .snaps).ownBlock∨∀g,sv.ownBlock=some g→W.heap.size≤g) :
  OX W' B (upd (upd val (.sr m.snaps.length) ev) .snaps sv) { m with snaps:=m.snaps ++ [(d,k,es)] }:=by
 have hval:∀b,b≠.snaps→b≠.sr m.snaps.length→upd (upd val (.sr m.snaps.length) ev) .snaps sv b=val b:=fun b h1 h2=>by rw [Qae _ sv h1,Qae _ ev h2]
 have hvs:upd (upd val (.sr m.snaps.length) ev) .snaps sv .snaps=sv:=Qar _ _ _;have hvt:upd (upd val (.sr m.snaps.length) ev) .snaps sv (.sr m.snaps.length)=ev:=by rw [Qae _ sv (by intro x;cases x),Qar]
 have hcase:∀b,Qaj { m with snaps:=m.snaps ++ [(d,k,es)] } b→b=.snaps∨b=.sr m.snaps.length∨(Qaj m b∧b≠.snaps∧b≠.sr m.snaps.length):=fun b hb=>by
  rcases hb.cases with rfl | rfl | rfl | rfl | ⟨j,rfl,hj⟩ | ⟨j,rfl,hj⟩
  ·exact .inr (.inr ⟨Qaj.root m,(by intro x;cases x),(by intro x;cases x)⟩)
  ·exact .inr (.inr ⟨Qaj.slots m,(by intro x;cases x),(by intro x;cases x)⟩)
  ·exact .inr (.inr ⟨Qaj.refs m,(by intro x;cases x),(by intro x;cases x)⟩)
  ·exact .inl rfl
  ·exact .inr (.inr ⟨Qaj.tab hj,(by intro x;cases x),(by intro x;cases x)⟩)
  ·by_cases e:j=m.snaps.length
   ·subst e;exact .inr (.inl rfl)
   ·refine .inr (.inr ⟨Qaj.sr (by simp at hj;omega),(by intro x;cases x),?_⟩);intro x;apply e;injection x
 have hnot:∀b,Qaj m b→b≠.snaps→(val b).ownBlock=none∨(val b).ownBlock≠(val .snaps).ownBlock:=fun b hb hne=>by
  cases hg:(val b).ownBlock with
  | none=>exact .inl rfl
  | some g=>exact .inr (fun x=>h.apart b .snaps hb (Qaj.snaps m) hne g hg x.symm)
 have hevn:ev.ownBlock=none∨ev.ownBlock≠(val .snaps).ownBlock:=by
  cases hg:ev.ownBlock with
  | none=>exact .inl rfl
  | some g=>exact .inr (fun x=>hfar .snaps (Qaj.snaps m) (by intro y;cases y) g hg x.symm)
 have hsvfar:∀b,Qaj m b→b≠.snaps→∀g,sv.ownBlock=some g→(val b).ownBlock≠some g:=fun b hb hne g hg hx=>by
  rcases hblk with e | e
  ·rw [e] at hg;exact h.apart b .snaps hb (Qaj.snaps m) hne g hx hg
  ·have:=((h.row b hb).lt g hx).2;have:=e g hg;omega
 have hsvev:∀g,sv.ownBlock=some g→ev.ownBlock≠some g:=fun g hg hx=>by
  rcases hblk with e | e
  ·rw [e] at hg;exact hfar .snaps (Qaj.snaps m) (by intro y;cases y) g hx hg
  ·have:=(hev.lt g hx).2;have:=e g hg;omega
 refine⟨fun b hb=>?_,fun b c hb hc hne q hq=>?_,fun j hj e=>by rw [hval _ (by intro x;cases x) (by intro x;cases x)];exact h.loose j hj e⟩
 ·rcases hcase b hb with rfl | rfl | ⟨hb',h1,h2⟩
  ·rw [hvs];have e1:rowV { m with snaps:=m.snaps ++ [(d,k,es)] } (upd (upd val (.sr m.snaps.length) ev) .snaps sv) .snaps=QaY m.snaps (fun j=>val (.sr j)) ++ [.string d,.int .i64 k,ev]:=by
    have:=Qkb m.snaps (fun j=>val (.sr j)) (fun j=>upd (upd val (.sr m.snaps.length) ev) .snaps sv (.sr j)) (d,k,es) (fun j hj=>hval _ (by intro x;cases x) (by intro x;injection x with _ x;omega));rw [hvt] at this;exact this
   have e2:rowN { m with snaps:=m.snaps ++ [(d,k,es)] } .snaps=m.snaps.length+1:=by show (m.snaps ++ [(d,k,es)]).length=_;simp
   rw [e1,e2];exact hrow
  ·rw [hvt];have e0:(m.snaps ++ [(d,k,es)]).getD m.snaps.length default=(d,k,es):=by simp [List.getD]
   have e1:rowV { m with snaps:=m.snaps ++ [(d,k,es)] } (upd (upd val (.sr m.snaps.length) ev) .snaps sv) (.sr m.snaps.length)=ints es:=by
    show ints ((m.snaps ++ [(d,k,es)]).getD m.snaps.length default).2.2=_
    rw [e0]
   have e2:rowN { m with snaps:=m.snaps ++ [(d,k,es)] } (.sr m.snaps.length)=es.length:=by
    show ((m.snaps ++ [(d,k,es)]).getD m.snaps.length default).2.2.length=_
    rw [e0]
   rw [e1,e2];exact hev.kept hgrow hevn
  ·rw [hval b h1 h2];have e1:rowV { m with snaps:=m.snaps ++ [(d,k,es)] } (upd (upd val (.sr m.snaps.length) ev) .snaps sv) b=rowV m val b∧rowN { m with snaps:=m.snaps ++ [(d,k,es)] } b=rowN m b:=by
    rcases hb'.cases with rfl | rfl | rfl | rfl | ⟨j,rfl,hj⟩ | ⟨j,rfl,hj⟩
    ·exact⟨rfl,rfl⟩
    ·refine⟨?_,rfl⟩
     show QaE m.slots _=QaE m.slots _
     unfold QaE;refine congrArg List.flatten (List.map_congr_left fun j _=>?_);dsimp only;rw [hval (.tab j) (by intro x;cases x) (by intro x;cases x)]
    ·exact⟨rfl,rfl⟩
    ·exact absurd rfl h1
    ·exact⟨rfl,rfl⟩
    ·have e:(m.snaps ++ [(d,k,es)]).getD j default=m.snaps.getD j default:=by simp [List.getD,List.getElem?_append,hj]
     constructor
     ·show ints ((m.snaps ++ [(d,k,es)]).getD j default).2.2=_
      rw [e];rfl
     ·show ((m.snaps ++ [(d,k,es)]).getD j default).2.2.length=_
      rw [e];rfl
   rw [e1.1,e1.2];exact (h.row b hb').kept hgrow (hnot b hb' h1)
 ·rcases hcase b hb with rfl | rfl | ⟨hb',h1,h2⟩
  ·rw [hvs] at hq;rcases hcase c hc with rfl | rfl | ⟨hc',g1,g2⟩
   ·exact absurd rfl hne
   ·rw [hvt];exact hsvev q hq
   ·rw [hval c g1 g2];exact hsvfar c hc' g1 q hq
  ·rw [hvt] at hq;rcases hcase c hc with rfl | rfl | ⟨hc',g1,g2⟩
   ·rw [hvs];exact fun x=>hsvev q x hq
   ·exact absurd rfl hne
   ·rw [hval c g1 g2];exact hfar c hc' g2 q hq
  ·rw [hval b h1 h2] at hq;rcases hcase c hc with rfl | rfl | ⟨hc',g1,g2⟩
   ·rw [hvs];exact fun x=>hsvfar b hb' h1 q x hq
   ·rw [hvt];exact fun x=>hfar b hb' h2 q x hq
   ·rw [hval c g1 g2];exact h.apart b c hb' hc' hne q hq
theorem OX.far {W:World}{B:Nat}{val:Nm→Value}{m:ImgD}(h:OX W B val m){g i:Nat}{u:Value}(hg:∀a,Qaj m a→(val a).ownBlock≠some g):OX (W.setCell ⟨g,i,none⟩ u) B val m:=
 ⟨fun a ha=>ownsRow_setCell_other (h.row a ha) (hg a ha) u,h.apart,h.loose⟩
theorem OX.lt {W:World}{B:Nat}{val:Nm→Value}{m:ImgD}(h:OX W B val m){g:Nat}(hg:W.heap.size≤g):∀a,Qaj m a→(val a).ownBlock≠some g:=fun a ha e=>by
 have:=((h.row a ha).lt g e).2;omega
theorem QeF {m:ImgD}{val:Nm→Value}{ev sv:Value}{s:Qag}{g:Nat}(h1:∀a,Qaj m a→(val a).ownBlock≠some g)(h2:s.2.2≠[]→ev.ownBlock≠some g)(h3:sv.ownBlock≠some g) :
  ∀a,Qaj { m with slots:=m.slots ++ [s] } a→(upd (upd val (.tab m.slots.length) ev) .slots sv a).ownBlock≠some g:=fun a ha=>by
 by_cases e1:a=.slots
 ·subst e1;rw [Qar];exact h3
 rw [Qae _ _ e1]
 by_cases e2:a=.tab m.slots.length
 ·subst e2;rw [Qar];refine h2 ?_;rcases ha.cases with x | x | x | x | ⟨j,x,hj⟩ | ⟨j,x,hj⟩ <;> try (cases x)
  have hj:((m.slots ++ [s]).getD m.slots.length default).2.2≠[]:=hj.2
  simpa [List.getD] using hj
 rw [Qae _ _ e2]
 apply h1
 rcases ha.cases with rfl | rfl | rfl | rfl | ⟨j,rfl,hj⟩ | ⟨j,rfl,hj⟩
 ·exact Qaj.root m
 ·exact Qaj.slots m
 ·exact Qaj.refs m
 ·exact Qaj.snaps m
 ·obtain⟨hj,hjn⟩:=hj;have hj:j<(m.slots ++ [s]).length:=hj;rw [List.length_append,List.length_singleton] at hj;rcases Nat.lt_or_ge j m.slots.length with h | h
  ·refine Qaj.tab ⟨h,?_⟩;have hjn:((m.slots ++ [s]).getD j default).2.2≠[]:=hjn;have e:(m.slots ++ [s]).getD j default=m.slots.getD j default:=by simp [List.getD,List.getElem?_append,h]
   rwa [e] at hjn
  ·exact absurd (by rw [show j=m.slots.length by omega]) e2
 ·exact Qaj.sr hj
theorem Qjg {m:ImgD}{val:Nm→Value}{ev:Value}{s:Qag}{g i:Nat}(h1:∀a,Qaj m a→(val a).ownBlock≠some g)(h2:ev.ownBlock≠some g) :
  ∀a,Qaj { m with slots:=m.slots.set i s } a→(upd val (.tab i) ev a).ownBlock≠some g:=fun a ha=>by
 by_cases e2:a=.tab i
 ·subst e2;rw [Qar];exact h2
 rw [Qae _ _ e2]
 apply h1
 rcases ha.cases with rfl | rfl | rfl | rfl | ⟨j,rfl,hj⟩ | ⟨j,rfl,hj⟩
 ·exact Qaj.root m
 ·exact Qaj.slots m
 ·exact Qaj.refs m
 ·exact Qaj.snaps m
 ·refine Qaj.tab ⟨?_,?_⟩
  ·have:=hj.1
   rwa [show (m.slots.set i s).length=m.slots.length from List.length_set] at this
  ·have:=hj.2;have e:tbl { m with slots:=m.slots.set i s } j=tbl m j:=by
    show ((m.slots.set i s).getD j default).2.2=_
    rw [QbA,if_neg (fun x=>e2 (by rw [x.1]))]
   rwa [e] at this
 ·exact Qaj.sr hj
theorem Qjv {W:World}{B:Nat}{val:Nm→Value}{m:ImgD}(h:OX W B val m){a:Nm}(ha:Qaj m a){v:Value}(hv:val a=v){g:Nat}(hg:W.heap.size≤g):some g≠v.ownBlock:=by
 subst hv;exact fun e=>h.lt hg a ha e.symm
def SrcX (w:World) (m:ImgD) (val:Nm→Value) (ev:Value) (m':ImgD) (val':Nm→Value):Prop:=∀g,g<w.heap.size→ev.ownBlock≠some g→(∀b,Qaj m b→(val b).ownBlock≠some g)→∀a,Qaj m' a→(val' a).ownBlock≠some g
def Qbl (w w':World) (m:ImgD) (val:Nm→Value):Prop:=∀q,q<w.heap.size→(∀a,Qaj m a→(val a).ownBlock≠some q)→w'.heap[q]? = w.heap[q]?
theorem Qbl.refl (w:World)(m:ImgD)(val:Nm→Value):Qbl w w m val:=fun _ _ _=>rfl
theorem Qbl.alloc {w W:World}{m:ImgD}{val:Nm→Value}(h:Qbl w W m val)(hs:w.heap.size≤W.heap.size)(o:Obj):Qbl w (W.alloc o) m val:=fun q hq hn=>(Below.heap_alloc W o q (by omega)).trans (h q hq hn)
theorem Qbl.own {w W:World}{m:ImgD}{val:Nm→Value}(h:Qbl w W m val){a:Nm}(ha:Qaj m a){g n c:Nat}(hg:val a=.slice (some ⟨g,0,none⟩) n c){i:Nat}{v:Value} : Qbl w (W.setCell ⟨g,i,none⟩ v) m val:=fun q hq hn=>
 (Below.heap_setCell W ⟨g,i,none⟩ v q (fun e=>hn a ha (by rw [hg];exact congrArg some e.symm))).trans (h q hq hn)
theorem Qbl.new {w W:World}{m:ImgD}{val:Nm→Value}(h:Qbl w W m val){g i:Nat}(hg:w.heap.size≤g){v:Value} : Qbl w (W.setCell ⟨g,i,none⟩ v) m val:=fun q hq hn=>
 (Below.heap_setCell W ⟨g,i,none⟩ v q (fun e=>by have e:q=g:=e;omega)).trans (h q hq hn)
theorem Qbl.grown {w W W':World}{m:ImgD}{val:Nm→Value}(h:Qbl w W m val)(hs:w.heap.size≤W.heap.size){a:Nm}(ha:Qaj m a){v:Value}(hv:val a=v)(hg:W.grownBy W' v.ownBlock):Qbl w W' m val:=fun q hq hn=>
 (hg.block q (by omega) (fun e=>hn a ha (by rw [hv];exact e.symm))).trans (h q hq hn)
theorem Qbl.below {w W W':World}{m:ImgD}{val:Nm→Value}(h:Qbl w W m val){n:Nat}(hs:w.heap.size≤n)(hg:Below n W W'):Qbl w W' m val:=fun q hq hn=>(hg.block q (by omega)).trans (h q hq hn)
theorem OX.forms {W:World}{B:Nat}{val:Nm→Value}{m:ImgD}(h:OX W B val m)(a:Nm)(ha:Qaj m a):∃ao cap,val a=.slice ao (rowN m a) cap∧(0<rowN m a→∃g,ao=some ⟨g,0,none⟩):=by
 rcases QaL (h.row a ha) with ⟨e,hn⟩ | ⟨g,cap,e,_⟩
 ·exact⟨none,0,by rw [e,hn],fun hp=>absurd hp (by omega)⟩
 ·exact⟨_,cap,e,fun _=>⟨g,rfl⟩⟩
structure Tg (n:Nat):Prop where
 ok:True
def Qj6 (P:Program) (md:Region.Mode) (ops:Array Oper) (Q:Exit→Act→World→Prop) (S:World→Prop) (fuel:Nat) (listed:Array Bool) (a:Act) (w:World) (js:List Nat):Prop:=
 ∀i ∈ js,(Region.ready md ops listed).contains i=true→wpOp P ops Q i (fun a' w'=>S w'∧wpAnyH P md ops Q S fuel (listed.setIfInBounds i true) a' w') a w
theorem Qj6.n {P:Program}{md:Region.Mode}{ops:Array Oper}{Q:Exit→Act→World→Prop}{S:World→Prop}{fuel:Nat}{listed:Array Bool}{a:Act}{w:World} : Qj6 P md ops Q S fuel listed a w []:=fun _ h=>by cases h
theorem Qj6.c {P:Program}{md:Region.Mode}{ops:Array Oper}{Q:Exit→Act→World→Prop}{S:World→Prop}{fuel:Nat}{listed:Array Bool}{a:Act}{w:World}{i:Nat}{o:Oper}{js:List Nat}(ho:ops[i]? = some o)
  (h:Tg i→(Region.ready md ops listed).contains i=true→∀K':Act→World→Prop,Shut (∀a w,S w→(S w→wpAnyH P md ops Q S fuel (listed.setIfInBounds i true) a w)→K' a w)→if Region.wanted o (yielded ops a.tmps)=true then Oper.wp P o a w K' Q else K' (a.put o.dst undef) w)
  (hs:Qj6 P md ops Q S fuel listed a w js):Qj6 P md ops Q S fuel listed a w (i :: js):=fun j hj hc=>by
 rcases List.mem_cons.1 hj with rfl | hj
 ·exact wpOp_step ho (fun K' hK=>h ⟨trivial⟩ hc K' (fun a w hS hW=>hK a w ⟨hS,hW hS⟩))
 ·exact hs j hj hc
theorem rdS {P:Program}{md:Region.Mode}{ops:Array Oper}{Q:Exit→Act→World→Prop}{S:World→Prop}{fuel:Nat}{listed:Array Bool}{a:Act}{w:World}(js:List Nat)
  (h:Qj6 P md ops Q S fuel listed a w js) (hr:((Region.ready md ops listed).all (fun i=>js.contains i) && !(Region.ready md ops listed).isEmpty)=true:=by decide +kernel):wpAnyH P md ops Q S (fuel+1) listed a w:=by
 rw [Bool.and_eq_true] at hr;refine⟨fun e=>?_,fun i hi=>?_⟩
 ·rw [e] at hr;exact absurd hr.2 (by decide)
 ·have:=List.all_eq_true.1 hr.1 i hi;exact h i (by simpa using this) (by simpa using hi)
structure OwR (w1 wr:World) (D:Nat) (p:ImgD):Prop where
 ex:∃val,OX wr w1.heap.size val p∧wr.heap[D]? = some (.cells #[.int .i64 p.guest,val .root,val .slots,val .refs,val .snaps] 26)∧∀a,Qaj p a→(val a).ownBlock≠some D
 ge:w1.heap.size≤D
 bel:Below w1.heap.size w1 wr
theorem QlR {m:ImgD}{val:Nm→Value}{ev sv:Value}{s:Qav}{g:Nat}(h1:∀a,Qaj m a→(val a).ownBlock≠some g)(h2:ev.ownBlock≠some g)(h3:sv.ownBlock≠some g) :
  ∀a,Qaj { m with snaps:=m.snaps ++ [s] } a→(upd (upd val (.sr m.snaps.length) ev) .snaps sv a).ownBlock≠some g:=fun a ha=>by
 by_cases e1:a=.snaps
 ·subst e1;rw [Qar];exact h3
 rw [Qae _ _ e1]
 by_cases e2:a=.sr m.snaps.length
 ·subst e2;rw [Qar];exact h2
 rw [Qae _ _ e2]
 apply h1
 rcases ha.cases with rfl | rfl | rfl | rfl | ⟨j,rfl,hj⟩ | ⟨j,rfl,hj⟩
 ·exact Qaj.root m
 ·exact Qaj.slots m
 ·exact Qaj.refs m
 ·exact Qaj.snaps m
 ·exact Qaj.tab hj
 ·refine Qaj.sr ?_;have hj:j<(m.snaps ++ [s]).length:=hj;rw [List.length_append,List.length_singleton] at hj;rcases Nat.lt_or_ge j m.snaps.length with h | h
  ·exact h
  ·exact absurd (by rw [show j=m.snaps.length by omega]) e2
theorem QiK {w1 Wa w':World}{D:Nat}{val:Nm→Value}{p:ImgD}{kk:Int}{dd:ByteArray}{es:List Int}{ev sv:Value}(hX:OX Wa w1.heap.size val p)(hbel:Below w1.heap.size w1 Wa)(hbox:Wa.heap[D]? = some (.cells #[.int .i64 p.guest,val .root,val .slots,val .refs,val .snaps] 26))(hge:w1.heap.size≤D)(hfar:∀a,Qaj p a→(val a).ownBlock≠some D)
  (hev:es≠[]→Wa.ownsRow w1.heap.size 3 1 ev es.length (ints es)) (hev0:es=[]→∃ao cap,ev=.slice ao 0 cap) (hfe:es≠[]→FarX p val (.tab p.slots.length) ev) (hDe:es≠[]→ev.ownBlock≠some D) (h2:Wa.grownBy w' (val .slots).ownBlock) (h1:w'.ownsRow w1.heap.size 37 3 sv (p.slots.length+1) (QaE p.slots (fun j=>val (.tab j)) ++ [.int .i64 kk,.string dd,ev])) (hblk:sv.ownBlock=(val .slots).ownBlock∨∀g,sv.ownBlock=some g→Wa.heap.size≤g) :
  OwR w1 (w'.setCell ⟨D,2,none⟩ sv) D { p with slots:=p.slots ++ [(kk,dd,es)] }:=by
 have hDl:=(szH hbox);have hsD:sv.ownBlock≠some D:=fun e=>by
  rcases hblk with x | x
  ·rw [x] at e;exact hfar .slots (Qaj.slots p) e
  ·have:=x D e;omega
 have hN:=hX.addSlot hev hev0 hfe h2 h1 hblk;have hF:=QeF (s:=(kk,dd,es)) hfar hDe hsD;have hb2:=(h2.block D hDl (fun e=>hfar .slots (Qaj.slots p) e.symm)).trans hbox;have hb3:=Qau hb2 2 sv;refine⟨⟨_,hN.far hF,?_,hF⟩,hge,(hbel.grown h2 hbel.size (fun k e=>((hX.row .slots (Qaj.slots p)).lt k e).1)).setCell hge _⟩;rw [hb3,Qar,Qae _ sv (a:=.slots) (b:=.root) (by intro x;cases x),Qae _ ev (b:=.root) (by intro x;cases x),Qae _ sv (a:=.slots) (b:=.refs) (by intro x;cases x),Qae _ ev (b:=.refs) (by intro x;cases x),Qae _ sv (a:=.slots) (b:=.snaps) (by intro x;cases x),Qae _ ev (b:=.snaps) (by intro x;cases x)]
 rfl
theorem QiT {w1 Wa w':World}{D:Nat}{val:Nm→Value}{p:ImgD}{kk:Int}{dd:ByteArray}{es:List Int}{ev sv:Value}(hX:OX Wa w1.heap.size val p)(hbel:Below w1.heap.size w1 Wa)(hbox:Wa.heap[D]? = some (.cells #[.int .i64 p.guest,val .root,val .slots,val .refs,val .snaps] 26))(hge:w1.heap.size≤D)(hfar:∀a,Qaj p a→(val a).ownBlock≠some D)
  (hev:Wa.ownsRow w1.heap.size 3 1 ev es.length (ints es)) (hfe:FarX p val (.sr p.snaps.length) ev) (hDe:ev.ownBlock≠some D) (h2:Wa.grownBy w' (val .snaps).ownBlock) (h1:w'.ownsRow w1.heap.size 39 3 sv (p.snaps.length+1) (QaY p.snaps (fun j=>val (.sr j)) ++ [.string dd,.int .i64 kk,ev])) (hblk:sv.ownBlock=(val .snaps).ownBlock∨∀g,sv.ownBlock=some g→Wa.heap.size≤g) :
  OwR w1 (w'.setCell ⟨D,4,none⟩ sv) D { p with snaps:=p.snaps ++ [(dd,kk,es)] }:=by
 have hDl:=(szH hbox);have hsD:sv.ownBlock≠some D:=fun e=>by
  rcases hblk with x | x
  ·rw [x] at e;exact hfar .snaps (Qaj.snaps p) e
  ·have:=x D e;omega
 have hN:=hX.addSnap hev hfe h2 h1 hblk;have hF:=QlR (s:=(dd,kk,es)) hfar hDe hsD;have hb2:=(h2.block D hDl (fun e=>hfar .snaps (Qaj.snaps p) e.symm)).trans hbox;have hb3:=Qau hb2 4 sv;refine⟨⟨_,hN.far hF,?_,hF⟩,hge,(hbel.grown h2 hbel.size (fun k e=>((hX.row .snaps (Qaj.snaps p)).lt k e).1)).setCell hge _⟩;rw [hb3,Qar,Qae _ sv (a:=.snaps) (b:=.root) (by intro x;cases x),Qae _ ev (b:=.root) (by intro x;cases x),Qae _ sv (a:=.snaps) (b:=.slots) (by intro x;cases x),Qae _ ev (b:=.slots) (by intro x;cases x),Qae _ sv (a:=.snaps) (b:=.refs) (by intro x;cases x),Qae _ ev (b:=.refs) (by intro x;cases x)]
 rfl
theorem QfN {W:World}{B:Nat}{v:Value}{es:List Int}(h:W.ownsRow B 3 1 v es.length (ints es))(e:es=[]):∃ao cap,v=.slice ao 0 cap:=by
 subst e;rcases QaL h with ⟨x,_⟩ | ⟨g',cap',x,_⟩
 ·exact⟨_,_,x⟩
 ·exact⟨_,_,x⟩
theorem Qn8 {w1 wr w6:World}{D:Nat}{val:Nm→Value}{p:ImgD}{o6:Obj}{v:Value}(hX:OX wr w1.heap.size val p)(bl:Below w1.heap.size w1 wr)(hbox:wr.heap[D]? = some (.cells #[.int .i64 p.guest,val .root,val .slots,val .refs,val .snaps] 26))(r2:((wr.alloc o6).alloc e3).grownBy w6 (some (wr.heap.size+1)))(r3:v.ownBlock=some (wr.heap.size+1)∨v.ownBlock=some ((wr.alloc o6).alloc e3).heap.size) :
  OX w6 w1.heap.size val p∧Below w1.heap.size w1 w6∧w6.heap[D]? = some (.cells #[.int .i64 p.guest,val .root,val .slots,val .refs,val .snaps] 26)∧(∀a,Qaj p a→(val a).ownBlock≠some wr.heap.size)∧v.ownBlock≠some wr.heap.size∧(∀g,v.ownBlock=some g→wr.heap.size≤g)∧v.ownBlock≠some D∧wr.heap.size+2≤w6.heap.size:=by
 have hz:((wr.alloc o6).alloc e3).heap.size=wr.heap.size+2:=by simp
 have hDl:=(szH hbox);have hbl:=bl.size;have hk:∀q,q<wr.heap.size→w6.heap[q]? = wr.heap[q]?:=fun q hq=>(r2.block q (by omega) (fun e=>by have:=Option.some.inj e;omega)).trans ((Below.heap_alloc _ _ q (by simp;omega)).trans (Below.heap_alloc _ _ q hq))
 have hge:∀g,v.ownBlock=some g→wr.heap.size+1≤g:=fun g e=>by
  rcases r3 with x | x <;> rw [x] at e <;> have e:=Option.some.inj e <;> omega
 refine⟨hX.keep (fun g _ hg=>hk g hg),?_,(hk D hDl).trans hbox,hX.lt (Nat.le_refl _),fun e=>by have:=hge _ e;omega,fun g e=>by have:=hge _ e;omega,fun e=>by have:=hge _ e;omega,?_⟩
 ·exact ((bl.alloc hbl _).alloc (by simp;omega) _).grown r2 (by rw [hz];omega) (fun k e=>by have:=Option.some.inj e;omega)
 ·have:=(Below.refl 0 ((wr.alloc o6).alloc e3)).grown r2 (Nat.zero_le _) (fun k _=>Nat.zero_le _);have:=this.size;omega
def pmA (m:ImgD) (k:Nat):ImgD:={ m with slots:=m.slots.take k,snaps:=[] }
def pmB (m:ImgD) (k:Nat):ImgD:={ m with snaps:=m.snaps.take k }
theorem QoF (m:ImgD):pmA m m.slots.length=pmB m 0:=by unfold pmA pmB;simp
theorem QoZ (m:ImgD):pmB m m.snaps.length=m:=by unfold pmB;simp
theorem Qe3 {α:Type}(l:List α){k:Nat}(h:k<l.length):l.take (k+1)=l.take k ++ [l[k]]:=(List.take_append_getElem h).symm
theorem Qju (m:ImgD){k:Nat}(h:k<m.slots.length):pmA m (k+1) = { pmA m k with slots:=(pmA m k).slots ++ [m.slots[k]] }:=by unfold pmA;rw [Qe3 _ h]
theorem QnP (m:ImgD){k:Nat}(h:k<m.snaps.length):pmB m (k+1) = { pmB m k with snaps:=(pmB m k).snaps ++ [m.snaps[k]] }:=by unfold pmB;rw [Qe3 _ h]
theorem OX.zero (W:World)(B:Nat):OX W B valZ imgZ:=by
 have h:=OI.zero W B;exact⟨fun a ha=>h.row a ha.live,fun a b ha hb=>h.apart a b ha.live hb.live,fun j hj=>absurd hj (Nat.not_lt_zero _)⟩
theorem QdB {p:Prop}(h:p):Hid p:=h
def StL (w1:World) (xs:List Int) (W:World):Option (Nat ⊕ Value)→Prop
 | none=>True
 | some (.inl g)=>w1.heap.size≤g∧W.heap[g]? = some e3
 | some (.inr v)=>W.ownsRow w1.heap.size 3 1 v xs.length (ints xs)
def stB:Option (Nat ⊕ Value)→Option Nat
 | none=>none
 | some (.inl g)=>some g
 | some (.inr v)=>v.ownBlock
def StC (w1 W:World):Option Nat→Prop
 | none=>True
 | some D=>w1.heap.size≤D∧W.heap[D]? = some zI
structure CpS (w1:World) (xs ys:List Int) (a b:Option (Nat ⊕ Value)) (c:Option Nat) (W:World):Prop where
 bel:Below w1.heap.size w1 W
 ha:StL w1 xs W a
 hb:StL w1 ys W b
 hc:StC w1 W c
 ab:∀g,stB a=some g→stB b≠some g
 ac:∀g,stB a=some g→c≠some g
 bc:∀g,stB b=some g→c≠some g
theorem StL.keep {w1 W W':World}{xs:List Int}{a:Option (Nat ⊕ Value)}(h:StL w1 xs W a)(hk:∀g,stB a=some g→W'.heap[g]? = W.heap[g]?):StL w1 xs W' a:=by
 match a,h with
 | none,_=>trivial
 | some (.inl g),h=>exact⟨h.1,(hk g rfl).trans h.2⟩
 | some (.inr v),h=>
  refine⟨h.1,?_⟩;rcases h.2 with hn | ⟨g,cap,cur,hv,hb,hg,rest⟩
  ·exact .inl hn
  ·exact .inr ⟨g,cap,cur,hv,hb,(hk g (by show v.ownBlock=some g;rw [hv];rfl)).trans hg,rest⟩
theorem StL.lt {w1 W:World}{xs:List Int}{a:Option (Nat ⊕ Value)}(h:StL w1 xs W a){g:Nat}(e:stB a=some g):w1.heap.size≤g∧g<W.heap.size:=by
 match a,h,e with
 | some (.inl g'),h,e=>have e:g'=g:=Option.some.inj e;subst e;exact⟨h.1,(Array.getElem?_eq_some_iff.1 h.2).1⟩
 | some (.inr v),h,e=>exact World.ownsRow.lt h g e
theorem StC.keep {w1 W W':World}{c:Option Nat}(h:StC w1 W c)(hk:∀g,c=some g→W'.heap[g]? = W.heap[g]?):StC w1 W' c:=by
 match c,h with
 | none,_=>trivial
 | some D,h=>exact⟨h.1,(hk D rfl).trans h.2⟩
theorem StC.lt {w1 W:World}{c:Option Nat}(h:StC w1 W c){g:Nat}(e:c=some g):w1.heap.size≤g∧g<W.heap.size:=by
 subst e;exact⟨h.1,(Array.getElem?_eq_some_iff.1 h.2).1⟩
theorem CpS.zero (w1:World)(xs ys:List Int):CpS w1 xs ys none none none w1:=⟨Below.refl _ _,trivial,trivial,trivial,fun g h=>by (cases h),fun g h=>by (cases h),fun g h=>by (cases h)⟩
theorem CpS.drew {w1 W:World}{xs ys:List Int}{a b:Option (Nat ⊕ Value)}{c:Option Nat}(h:CpS w1 xs ys a b c W):CpS w1 xs ys a b c W.drew:=
 ⟨h.bel.drew,h.ha.keep (fun _ _=>rfl),h.hb.keep (fun _ _=>rfl),h.hc.keep (fun _ _=>rfl),h.ab,h.ac,h.bc⟩
theorem CpS.a1 {w1 W:World}{xs ys:List Int}{b:Option (Nat ⊕ Value)}{c:Option Nat}(h:CpS w1 xs ys none b c W):CpS w1 xs ys (some (.inl W.heap.size)) b c (W.alloc e3):=by
 refine⟨h.bel.alloc h.bel.size _,⟨h.bel.size,zHn _ _⟩,h.hb.keep (fun g e=>Below.heap_alloc W _ g (h.hb.lt e).2),h.hc.keep (fun g e=>Below.heap_alloc W _ g (h.hc.lt e).2),fun g e e2=>?_,fun g e e2=>?_,h.bc⟩
 ·have e:=Option.some.inj e;have:=(h.hb.lt e2).2;omega
 ·have e:=Option.some.inj e;have:=(h.hc.lt e2).2;omega
theorem CpS.b1 {w1 W:World}{xs ys:List Int}{a:Option (Nat ⊕ Value)}{c:Option Nat}(h:CpS w1 xs ys a none c W):CpS w1 xs ys a (some (.inl W.heap.size)) c (W.alloc e3):=by
 refine⟨h.bel.alloc h.bel.size _,h.ha.keep (fun g e=>Below.heap_alloc W _ g (h.ha.lt e).2),⟨h.bel.size,zHn _ _⟩,h.hc.keep (fun g e=>Below.heap_alloc W _ g (h.hc.lt e).2),fun g e e2=>?_,h.ac,fun g e e2=>?_⟩
 ·have e2:=Option.some.inj e2;have:=(h.ha.lt e).2;omega
 ·have e:=Option.some.inj e;have:=(h.hc.lt e2).2;omega
theorem CpS.c1 {w1 W:World}{xs ys:List Int}{a b:Option (Nat ⊕ Value)}(h:CpS w1 xs ys a b none W):CpS w1 xs ys a b (some W.heap.size) (W.alloc zI):=by
 refine⟨h.bel.alloc h.bel.size _,h.ha.keep (fun g e=>Below.heap_alloc W _ g (h.ha.lt e).2),h.hb.keep (fun g e=>Below.heap_alloc W _ g (h.hb.lt e).2),⟨h.bel.size,zHn _ _⟩,h.ab,fun g e e2=>?_,fun g e e2=>?_⟩
 ·have e2:=Option.some.inj e2;have:=(h.ha.lt e).2;omega
 ·have e2:=Option.some.inj e2;have:=(h.hb.lt e).2;omega
theorem CpS.a2 {w1 W w':World}{xs ys:List Int}{b:Option (Nat ⊕ Value)}{c:Option Nat}{g:Nat}{v:Value}(h:CpS w1 xs ys (some (.inl g)) b c W)(r1:w'.ownsRow w1.heap.size 3 1 v xs.length (ints xs))(r2:W.grownBy w' (some g))(r3:v.ownBlock=some g∨v.ownBlock=some W.heap.size):CpS w1 xs ys (some (.inr v)) b c w':=by
 have hk:∀q,q<W.heap.size→q≠g→w'.heap[q]? = W.heap[q]?:=fun q hq hne=>r2.block q hq (fun e=>hne (Option.some.inj e))
 refine⟨h.bel.grown r2 h.bel.size (fun k e=>by cases e;exact h.ha.1),r1,h.hb.keep (fun q e=>hk q (h.hb.lt e).2 (fun x=>h.ab g rfl (x ▸ e))),h.hc.keep (fun q e=>hk q (h.hc.lt e).2 (fun x=>h.ac g rfl (x ▸ e))),fun q e e2=>?_,fun q e e2=>?_,h.bc⟩
 ·have e:v.ownBlock=some q:=e;rcases r3 with x | x <;> rw [x] at e <;> have e:=Option.some.inj e
  ·subst e;exact h.ab g rfl e2
  ·have:=(h.hb.lt e2).2;omega
 ·have e:v.ownBlock=some q:=e;rcases r3 with x | x <;> rw [x] at e <;> have e:=Option.some.inj e
  ·subst e;exact h.ac g rfl e2
  ·have:=(h.hc.lt e2).2;omega
theorem CpS.b2 {w1 W w':World}{xs ys:List Int}{a:Option (Nat ⊕ Value)}{c:Option Nat}{g:Nat}{v:Value}(h:CpS w1 xs ys a (some (.inl g)) c W)(r1:w'.ownsRow w1.heap.size 3 1 v ys.length (ints ys))(r2:W.grownBy w' (some g))(r3:v.ownBlock=some g∨v.ownBlock=some W.heap.size):CpS w1 xs ys a (some (.inr v)) c w':=by
 have hk:∀q,q<W.heap.size→q≠g→w'.heap[q]? = W.heap[q]?:=fun q hq hne=>r2.block q hq (fun e=>hne (Option.some.inj e))
 refine⟨h.bel.grown r2 h.bel.size (fun k e=>by cases e;exact h.hb.1),h.ha.keep (fun q e=>hk q (h.ha.lt e).2 (fun x=>h.ab q e (by rw [x];rfl))),r1,h.hc.keep (fun q e=>hk q (h.hc.lt e).2 (fun x=>h.bc g rfl (x ▸ e))),fun q e e2=>?_,h.ac,fun q e e2=>?_⟩
 ·have e2:v.ownBlock=some q:=e2;rcases r3 with x | x <;> rw [x] at e2 <;> have e2:=Option.some.inj e2
  ·subst e2;exact h.ab g e rfl
  ·have:=(h.ha.lt e).2;omega
 ·have e:v.ownBlock=some q:=e;rcases r3 with x | x <;> rw [x] at e <;> have e:=Option.some.inj e
  ·subst e;exact h.bc g rfl e2
  ·have:=(h.hc.lt e2).2;omega
theorem CpS.last {w1 W:World}{m:ImgD}{va vb:Value}{D:Nat}(h:CpS w1 m.root m.refs (some (.inr va)) (some (.inr vb)) (some D) W) :
  OwR w1 (((((W.setCell ⟨D,0,none⟩ (.int .i64 m.guest)).setCell ⟨D,1,none⟩ va).setCell ⟨D,2,none⟩ (nl)).setCell ⟨D,3,none⟩ vb).setCell ⟨D,4,none⟩ (nl)) D (pmA m 0):=by
 have hD:=h.hc;have hbox:=Qau (Qau (Qau (Qau (Qau hD.2 0 (.int .i64 m.guest)) 1 va) 2 (nl)) 3 vb) 4 (nl);have hbel:Below w1.heap.size w1 (((((W.setCell ⟨D,0,none⟩ (.int .i64 m.guest)).setCell ⟨D,1,none⟩ va).setCell ⟨D,2,none⟩ (nl)).setCell ⟨D,3,none⟩ vb).setCell ⟨D,4,none⟩ (nl)):=((((h.bel.setCell (p:=⟨D,0,none⟩) hD.1 _).setCell (p:=⟨D,1,none⟩) hD.1 _).setCell (p:=⟨D,2,none⟩) hD.1 _).setCell (p:=⟨D,3,none⟩) hD.1 _).setCell (p:=⟨D,4,none⟩) hD.1 _;have hk:∀q,q≠D→(((((W.setCell ⟨D,0,none⟩ (.int .i64 m.guest)).setCell ⟨D,1,none⟩ va).setCell ⟨D,2,none⟩ (nl)).setCell ⟨D,3,none⟩ vb).setCell ⟨D,4,none⟩ (nl)).heap[q]? = W.heap[q]?:=fun q hq=>by
  rw [Below.heap_setCell _ _ _ q hq,Below.heap_setCell _ _ _ q hq,Below.heap_setCell _ _ _ q hq,Below.heap_setCell _ _ _ q hq,Below.heap_setCell _ _ _ q hq]
 have ha:StL w1 m.root (((((W.setCell ⟨D,0,none⟩ (.int .i64 m.guest)).setCell ⟨D,1,none⟩ va).setCell ⟨D,2,none⟩ (nl)).setCell ⟨D,3,none⟩ vb).setCell ⟨D,4,none⟩ (nl)) (some (.inr va)):=h.ha.keep (fun g e=>hk g (fun x=>h.ac g e (by rw [x])));have hb:StL w1 m.refs (((((W.setCell ⟨D,0,none⟩ (.int .i64 m.guest)).setCell ⟨D,1,none⟩ va).setCell ⟨D,2,none⟩ (nl)).setCell ⟨D,3,none⟩ vb).setCell ⟨D,4,none⟩ (nl)) (some (.inr vb)):=h.hb.keep (fun g e=>hk g (fun x=>h.bc g e (by rw [x])));have h0:=OX.zero (((((W.setCell ⟨D,0,none⟩ (.int .i64 m.guest)).setCell ⟨D,1,none⟩ va).setCell ⟨D,2,none⟩ (nl)).setCell ⟨D,3,none⟩ vb).setCell ⟨D,4,none⟩ (nl)) w1.heap.size;have hz:∀a,(valZ a).ownBlock=none:=fun a=>rfl
 have h1:=h0.swapRoot ha (fun b _ _ g _ e=>by rw [hz] at e;cases e) m.guest;have h2:=h1.swapRefs hb (fun b hb' hne g hg e=>by
  by_cases e1:b=.root
  ·subst e1;rw [Qar] at e;exact h.ab g e hg
  ·rw [Qae _ _ e1,hz] at e;cases e)
 refine⟨⟨_,h2,?_,fun a ha' e=>?_⟩,hD.1,hbel⟩
 ·rw [hbox,Qar,Qae _ vb (a:=.refs) (b:=.root) (by intro x;cases x),Qar,Qae _ vb (a:=.refs) (b:=.slots) (by intro x;cases x),Qae _ va (b:=.slots) (by intro x;cases x),Qae _ vb (a:=.refs) (b:=.snaps) (by intro x;cases x),Qae _ va (b:=.snaps) (by intro x;cases x)]
  rfl
 ·by_cases e1:a=.refs
  ·subst e1;rw [Qar] at e;exact h.bc D e rfl
  ·rw [Qae _ _ e1] at e
   by_cases e2:a=.root
   ·subst e2;rw [Qar] at e;exact h.ac D e rfl
   ·rw [Qae _ _ e2,hz] at e;cases e
theorem Qh1 (ra:Option Addr)(rc:Nat)(sa:Option Addr)(sc:Nat)(fa:Option Addr)(fc:Nat)(na:Option Addr)(nc:Nat)(m:ImgD)(w:World)(h:Img w (.agg (aI m ra rc sa sc fa fc na nc)) m)(hr:m.root.length≤1000)(hf:m.refs.length≤1000)(hs:m.slots.length≤1000)(hn:m.snaps.length≤1000)(ht:∀j (hj:j<m.slots.length),m.slots[j].2.2.length≤1000)(hq:∀j (hj:j<m.snaps.length),m.snaps[j].2.2.length≤1000) :
  Calls Tryz.prog 6 #[.agg (aI m ra rc sa sc fa fc na nc)] w fun r w'=>∃val,r=.returned (imgV m.guest val)∧OX w' w.heap.size val m∧Below w.heap.size w w':=by
 have b0:Below w.heap.size w ((w.alloc (.cells (aI m ra rc sa sc fa fc na nc) 26)).alloc zI):=(bA).alloc (by simp) _;have m0:((w.alloc (.cells (aI m ra rc sa sc fa fc na nc) 26)).alloc zI).heap[w.heap.size]? = some (.cells (aI m ra rc sa sc fa fc na nc) 26):=Qac (zHn _ _) _;have m1:((w.alloc (.cells (aI m ra rc sa sc fa fc na nc) 26)).alloc zI).heap[w.heap.size+1]? = some zI:=by have:=World.alloc_heap_new (w.alloc (.cells (aI m ra rc sa sc fa fc na nc) 26)) zI;simpa using this
 have I1:=h.below b0;have hsz:w.heap.size+1<((w.alloc (.cells (aI m ra rc sa sc fa fc na nc) 26)).alloc zI).heap.size:=by simp
 clear h
 go_enter Tryz.func6,Tryz.ntmps6
 go_upto_region 1 with fail;obtain⟨w1,hw1⟩:∃X,((w.alloc (.cells (aI m ra rc sa sc fa fc na nc) 26)).alloc zI)=X:=⟨_,rfl⟩;rw [hw1] at b0 m0 m1 I1 hsz ⊢;clear hw1;have H1:=I1.four.1;have H3:=I1.four.2.2.1;have CP0:Hid (CpS w1 m.root m.refs none none none w1):=CpS.zero _ _ _;have HS:Hid (∀X,Below w1.heap.size w1 X→(fun X:World=>X.cell? ⟨w.heap.size,0,none⟩=some (.int .i64 m.guest)∧X.cell? ⟨w.heap.size,1,none⟩=some (.slice ra m.root.length rc)∧X.cell? ⟨w.heap.size,3,none⟩=some (.slice fa m.refs.length fc)) X):=fun X hX=>by
  have hb:=(hX.block w.heap.size (by omega)).trans m0;exact⟨(five hb).1,(five hb).2.1,(five hb).2.2.2.1⟩
 go_cut [3] from 8 (fun s wx=>∃D:Nat,s=.pointer (some ⟨D,0,none⟩)∧Hid (OwR w1 wx D (pmA m 0)))
 case first=>
  refine wp_region_held_drew (S:=(fun X:World=>X.cell? ⟨w.heap.size,0,none⟩=some (.int .i64 m.guest)∧X.cell? ⟨w.heap.size,1,none⟩=some (.slice ra m.root.length rc)∧X.cell? ⟨w.heap.size,3,none⟩=some (.slice fa m.refs.length fc))) (by kernel_rfl) (HS.out _ (Qaw (Below.refl _ _))) (fun hHeld=>?_);refine tkH 0 (.pointer (some ⟨w.heap.size,0,none⟩)) rfl (Or.inl ⟨by rfl,fun w' hSw=>by obtain⟨q1,q2,q3⟩:=hSw;go_simp⟩) hHeld ?_;simp only [lays];refine tkH 1 (.int .i64 m.guest) rfl (Or.inl ⟨by rfl,fun w' hSw=>by obtain⟨q1,q2,q3⟩:=hSw;go_simp⟩) hHeld ?_;simp only [lays];refine tkH 3 (.pointer (some ⟨w.heap.size,1,none⟩)) rfl (Or.inl ⟨by rfl,fun w' hSw=>by obtain⟨q1,q2,q3⟩:=hSw;go_simp⟩) hHeld ?_;simp only [lays];refine tkH 4 (.slice ra m.root.length rc) rfl (Or.inl ⟨by rfl,fun w' hSw=>by obtain⟨q1,q2,q3⟩:=hSw;go_simp⟩) hHeld ?_;simp only [lays];refine tkH 7 (.pointer (some ⟨w.heap.size,3,none⟩)) rfl (Or.inl ⟨by rfl,fun w' hSw=>by obtain⟨q1,q2,q3⟩:=hSw;go_simp⟩) hHeld ?_;simp only [lays];refine tkH 8 (.slice fa m.refs.length fc) rfl (Or.inl ⟨by rfl,fun w' hSw=>by obtain⟨q1,q2,q3⟩:=hSw;go_simp⟩) hHeld ?_;simp only [lays];have N:=QdB CP0.out.drew;obtain⟨X,hX⟩:∃Z,w1.drew=Z:=⟨_,rfl⟩;rw [hX] at N ⊢;clear hX;have hHeld:=HS.out _ N.out.bel
  repeat' (refine rdS [2,5,6,9,11,10,12] (.c rfl ?_ (.c rfl ?_ (.c rfl ?_ (.c rfl ?_ (.c rfl ?_ (.c rfl ?_ (.c rfl ?_ .n))))))) <;> (intro t hc K hK;first | exact absurd hc (by decide +kernel) | (clear hc hHeld;simp only [lays];rw [if_pos (by rfl)];first
   | (have _:Tg 2:=t;clear t;go_simp;obtain⟨X,hX⟩:∃Z,X.alloc (.cells #[] 3)=Z:=⟨_,rfl⟩;replace N:=QdB N.out.a1;rw [hX] at N ⊢;clear hX;refine hK.out _ _ (HS.out _ N.out.bel) (fun hHeld=>?_);clear hK K;try simp only [lays])
   | (have _:Tg 5:=t;clear t;refine Qgl _ _ (by rfl) (B:=w1.heap.size) (by rfl) N.out.ha.2 N.out.ha.1 (src:=.slice ra m.root.length rc) (by rfl) (H1.below N.out.bel) hr ?_;intro v X r1 r2 r3;replace N:=QdB (N.out.a2 r1.out r2 r3.out);obtain⟨pa,ca,rfl⟩:=QaH r1.out;clear r1 r2 r3;refine hK.out _ _ (HS.out _ N.out.bel) (fun hHeld=>?_);clear hK K;try simp only [lays])
   | (have _:Tg 6:=t;clear t;go_simp;obtain⟨X,hX⟩:∃Z,X.alloc (.cells #[] 3)=Z:=⟨_,rfl⟩;replace N:=QdB N.out.b1;rw [hX] at N ⊢;clear hX;refine hK.out _ _ (HS.out _ N.out.bel) (fun hHeld=>?_);clear hK K;try simp only [lays])
   | (have _:Tg 9:=t;clear t;refine Qgl _ _ (by rfl) (B:=w1.heap.size) (by rfl) N.out.hb.2 N.out.hb.1 (src:=.slice fa m.refs.length fc) (by rfl) (H3.below N.out.bel) hf ?_;intro v X r1 r2 r3;replace N:=QdB (N.out.b2 r1.out r2 r3.out);obtain⟨pb,cb,rfl⟩:=QaH r1.out;clear r1 r2 r3;refine hK.out _ _ (HS.out _ N.out.bel) (fun hHeld=>?_);clear hK K;try simp only [lays])
   | (have _:Tg 11:=t;clear t;go_simp;obtain⟨X,hX⟩:∃Z,X.alloc zI=Z:=⟨_,rfl⟩;replace N:=QdB N.out.c1;rw [hX] at N ⊢;clear hX;refine hK.out _ _ (HS.out _ N.out.bel) (fun hHeld=>?_);clear hK K;try simp only [lays])
   | (have _:Tg 10:=t;clear t;go_simp;refine hK.out _ _ (HS.out _ N.out.bel) (fun hHeld=>?_);clear hK K;try simp only [lays])
   | (have _:Tg 12:=t;clear t;have zz:=N.out.hc.2;obtain⟨z0,z1,z2,z3,z4⟩:=five zz;have y0:=Qaa zz 0;have y1:=Qaa zz 1;have y2:=Qaa zz 2;have y3:=Qaa zz 3;have y4:=Qaa zz 4;go_simp;replace N:=QdB N.out.last;refine hK.out _ _ (HS.out _ N.out.bel) (fun hHeld=>?_);clear hK K hHeld;refine wpAnyH_done (by kernel_rfl) ?_ _;go_wp2_with fail;go_meet;exact⟨_,rfl,N⟩))))
 case rest=>
  obtain⟨D,rfl,HD⟩:=hcut;clear HS CP0 H1 H3;have HI:Hid (Img w1 (.agg (aI m ra rc sa sc fa fc na nc)) m):=I1;have HM:Hid (w1.heap[w.heap.size]? = some (.cells (aI m ra rc sa sc fa fc na nc) 26)∧w1.heap[w.heap.size+1]? = some zI∧Below w.heap.size w w1):=⟨m0,m1,b0⟩;clear I1 m0 m1 b0;go_wp2_with fail
  go_loopw [4] (fun i wr=>∃k:Nat,k≤m.slots.length∧i=.int .i64 k∧Hid (OwR w1 wr D (pmA m k))) (fun i _=>m.slots.length - (intOf i).toNat)
  case atStart=>exact⟨0,Nat.zero_le _,rfl,HD⟩
  case round=>
   obtain⟨k,hk,rfl,HC⟩:=hrel;have bl:=HC.out.bel;have n0:=Qab HM.out.1 bl (by omega);obtain⟨c0,c1,c2,c3,c4⟩:=five n0
   by_cases hlk:k<m.slots.length
   ·have hki:(k:Int)<(m.slots.length:Int):=by omega
    obtain⟨val,hX,hbox,hfar⟩:=HC.out.ex;have hge:=HC.out.ge;have hDl:D<wr.heap.size:=(szH hbox);have hlt:(pmA m k).slots.length=k:=by show (m.slots.take k).length=k;rw [List.length_take];omega
    obtain⟨pa,pc,hp,_⟩:=hX.forms .slots (Qaj.slots _);have hp:val .slots=.slice pa k pc:=by rw [hp];show Value.slice pa (pmA m k).slots.length pc=_;rw [hlt]
    have hrow:=hX.row .slots (Qaj.slots _);have hrow:wr.ownsRow w1.heap.size 37 3 (val .slots) (pmA m k).slots.length (QaE (pmA m k).slots (fun j=>val (.tab j))):=hrow;rw [hlt] at hrow;obtain⟨sb,so,sc',e,_,hbl,hps⟩:=(HI.out.four.2.1.below bl).open (by omega);simp only [Value.slice.injEq] at e;obtain⟨rfl,_,rfl⟩:=e;obtain⟨tv,q0,q1,q2,qs⟩:=hps k hlk;obtain⟨⟨kk,dd,es⟩,hsk⟩:∃s,m.slots[k]=s:=⟨_,rfl⟩;have hel:es.length≤1000:=by have:=ht k hlk;rw [hsk] at this;exact this
    have HS:Hid (m.slots[k]=(kk,dd,es)):=hsk;rw [hsk] at q0 q1 qs;have q0:wr.cell? ⟨sb,so+k*3,none⟩=some (.int .i64 kk):=q0;have q1:wr.cell? ⟨sb,so+k*3+1,none⟩=some (.string dd):=q1;have qs:Sl wr tv es:=qs;obtain⟨ta,tc,rfl⟩:=qs.form;clear hps hsk n0;have HX:Hid (OX wr w1.heap.size val (pmA m k)∧(∀a,Qaj (pmA m k) a→(val a).ownBlock≠some D)∧Below w1.heap.size w1 wr∧val .slots=.slice pa k pc∧(pmA m k).slots.length=k∧wr.heap[D]? = some (.cells #[.int .i64 (pmA m k).guest,val .root,val .slots,val .refs,val .snaps] 26)):=⟨hX,hfar,bl,hp,hlt,hbox⟩;rw [hp] at hbox hrow;obtain⟨d0,d1,d2,d3,d4⟩:=five hbox;have f2:=Qaa hbox 2;have hfD:(Value.slice pa k pc).ownBlock≠some D:=by rw [←hp];exact hfar .slots (Qaj.slots _)
    have nD1:¬D=wr.heap.size:=by omega
    have nD2:¬wr.heap.size=D:=by omega
    clear hX hfar hp hlt
    by_cases hes:es=[]
    ·subst hes;have hev0:Sl wr (.slice ta 0 tc) []:=qs;clear qs;go_wp2_with (at_builtin;refine Qb0 (by rfl) _ _ 23 37 _ Tryz.underlying23 Qdn (by rfl) (by rfl) (B:=w1.heap.size) (v:=.slice pa k pc) (c0:=.int .i64 kk) (c1:=.string dd) (c2:=.slice ta 0 tc) (by rfl) (by rfl) (by rfl) (by rfl) (by rfl) (by simp) (hrow.alloc _) (by omega) (by have:=bl.size;simp;omega) ?_;intro v1 w8 h1 h2 h3;obtain⟨g1,cap1,hv1⟩:=Qa9 h1.out;subst hv1;have z2:=(h2.block D (by simp;omega) (fun e=>hfD e.symm)).trans (Qac (Qac hbox _) _);obtain⟨x0,x1,x2,x3,x4⟩:=five z2;have y2:=Qaa z2 2);have HN:Hid (OwR w1 (w8.setCell ⟨D,2,none⟩ (.slice (some ⟨g1,0,none⟩) (k+1) cap1)) D (pmA m (k+1))):=by
      obtain⟨hX,hfar,bl,hp,hlt,hbox⟩:=HX.out;rw [Qju m hlk,HS.out];refine QiK ((hX.alloc _).alloc _) ((bl.alloc bl.size _).alloc (by simp;have:=bl.size;omega) _) (Qac (Qac hbox _) _) hge hfar (fun x=>absurd rfl x) (fun _=>⟨_,_,rfl⟩) (fun x=>absurd rfl x) (fun x=>absurd rfl x) (by rw [hp];exact h2) (by rw [hlt];exact h1.out) ?_;rw [hp];rcases h3.out with x | x
      ·exact .inl x
      ·refine .inr (fun g e=>?_);rw [x] at e
       cases e
       simp
     go_roundw
     case rel=>exact⟨k+1,by omega,by go_num,HN⟩
     case measure=>simp [intOf];omega
    ·have hpos:0<es.length:=List.length_pos_iff.2 hes;have HE:Hid (es≠[]):=hes;have hposi:decide (0<es.length)=true:=by simp [hpos]
     clear hes;go_wp2_with (first
      | (at_builtin;refine Qdw (by rfl) _ _ (by rfl) (g:=wr.heap.size+1) (B:=w1.heap.size) (by rfl) (by have:=World.alloc_heap_new (wr.alloc (.cells #[.int .i64 kk,.string dd,.slice ta es.length tc] 37)) (.cells #[] 3);simpa using this) (by have:=bl.size;omega) (src:=.slice ta es.length tc) (xs:=es) (by rfl) (qs.below ((bA).alloc (by simp) _)) hel ?_;intro v6 w6 r1 r2 r3;obtain⟨xa,xc,rfl⟩:=QaH r1.out;have u5:=(r2.block wr.heap.size (by simp <;> omega) (fun e=>by have:=Option.some.inj e;omega)).trans (Qac (World.alloc_heap_new wr _) _);obtain⟨t0,t1,t2⟩:=Qb6 u5;have tf:=Qaa u5 2;have z6:=(r2.block D (by simp <;> omega) (fun e=>by have:=Option.some.inj e;omega)).trans (Qac (Qac hbox _) _);obtain⟨x0,x1,x2,x3,x4⟩:=five z6;have y2:=Qaa z6 2;have hrow6:=(((hrow.alloc _).alloc _).kept r2 (.inr (fun e=>by have:=(hrow.lt _ e).2;omega)));have HW:Hid (OX w6 w1.heap.size val (pmA m k)∧Below w1.heap.size w1 w6∧w6.heap[D]? = some (.cells #[.int .i64 (pmA m k).guest,val .root,val .slots,val .refs,val .snaps] 26)∧(∀a,Qaj (pmA m k) a→(val a).ownBlock≠some wr.heap.size)∧(Value.slice xa es.length xc).ownBlock≠some wr.heap.size∧(∀g,(Value.slice xa es.length xc).ownBlock=some g→wr.heap.size≤g)∧(Value.slice xa es.length xc).ownBlock≠some D∧wr.heap.size+2≤w6.heap.size):=Qn8 HX.out.1 HX.out.2.2.1 HX.out.2.2.2.2.2 r2 r3.out)
      | (at_builtin;refine Qb0 (by rfl) _ _ 23 37 _ Tryz.underlying23 Qdn (by rfl) (by rfl) (B:=w1.heap.size) (v:=.slice pa k pc) (c0:=.int .i64 kk) (c1:=.string dd) (c2:=.slice xa es.length xc) (by rfl) (by rfl) (by rfl) (by rfl) (by rfl) (by simp) (ownsRow_setCell_other hrow6 (fun e=>Nat.lt_irrefl _ (hrow.lt _ e).2) _) (by omega) (by have:=bl.size;have:=HW.out.2.1.size;simp;omega) ?_;intro v1 w8 h1 h2 h3;obtain⟨g1,cap1,hv1⟩:=Qa9 h1.out;subst hv1;have z2:=(h2.block D (by simp;have:=HW.out.2.2.2.2.2.2.2;omega) (fun e=>hfD e.symm)).trans (Qac (Qan (by have:=HW.out.2.2.1;exact this) nD1 _ _) _);obtain⟨s0,s1,s2,s3,s4⟩:=five z2;have s22:=Qaa z2 2))
     have HN:Hid (OwR w1 (w8.setCell ⟨D,2,none⟩ (.slice (some ⟨g1,0,none⟩) (k+1) cap1)) D (pmA m (k+1))):=by
      obtain⟨hX,hfar,bl,hp,hlt,hbox⟩:=HX.out;rw [Qju m hlk,HS.out];refine QiK ((HW.out.1.far HW.out.2.2.2.1).alloc _) ((HW.out.2.1.setCell bl.size _).alloc (by have:=bl.size;have:=HW.out.2.2.2.2.2.2;simp;omega) _) (Qac (Qan HW.out.2.2.1 nD1 _ _) _) hge hfar (fun _=>(ownsRow_setCell_other r1.out HW.out.2.2.2.2.1 _).alloc _) (QfN r1.out) (fun _=>Qdo hX _ HW.out.2.2.2.2.2.1) (fun _=>HW.out.2.2.2.2.2.2.1) (by rw [hp];exact h2) (by rw [hlt];exact h1.out) ?_;rw [hp];rcases h3.out with x | x
      ·exact .inl x
      ·refine .inr (fun g e=>?_);rw [x] at e
       cases e
       simp
     go_roundw
     case rel=>exact⟨k+1,by omega,by go_num,HN⟩
     case measure=>simp [intOf];omega
   ·have ek:k=m.slots.length:=by omega
    subst ek;have HD2:Hid (OwR w1 wr D (pmB m 0)):=by rw [←QoF];exact HC.out
    clear HC HD;obtain⟨wx,hrn⟩:∃X,X=wr:=⟨_,rfl⟩;subst hrn;go_wp2_with fail
    go_loopw [6] (fun i wr=>∃k:Nat,k≤m.snaps.length∧i=.int .i64 k∧Hid (OwR w1 wr D (pmB m k))) (fun i _=>m.snaps.length - (intOf i).toNat)
    case atStart=>exact⟨0,Nat.zero_le _,rfl,HD2⟩
    case round=>
     clear c0 c1 c2 c3 c4;obtain⟨k,hk,rfl,HC⟩:=hrel;have bl:=HC.out.bel;have n0:=Qab HM.out.1 bl (by omega);obtain⟨c0,c1,c2,c3,c4⟩:=five n0
     by_cases hlk:k<m.snaps.length
     ·have hki:(k:Int)<(m.snaps.length:Int):=by omega
      obtain⟨val,hX,hbox,hfar⟩:=HC.out.ex;have hge:=HC.out.ge;have hDl:D<wr.heap.size:=(szH hbox);have hlt:(pmB m k).snaps.length=k:=by show (m.snaps.take k).length=k;rw [List.length_take];omega
      obtain⟨pa,pc,hp,_⟩:=hX.forms .snaps (Qaj.snaps _);have hp:val .snaps=.slice pa k pc:=by rw [hp];show Value.slice pa (pmB m k).snaps.length pc=_;rw [hlt]
      have hrow:=hX.row .snaps (Qaj.snaps _);have hrow:wr.ownsRow w1.heap.size 39 3 (val .snaps) (pmB m k).snaps.length (QaY (pmB m k).snaps (fun j=>val (.sr j))):=hrow;rw [hlt] at hrow;obtain⟨sb,so,sc',e,_,hbl,hps⟩:=(HI.out.four.2.2.2.below bl).open (by omega);simp only [Value.slice.injEq] at e;obtain⟨rfl,_,rfl⟩:=e;obtain⟨tv,q0,q1,q2,qs⟩:=hps k hlk;obtain⟨⟨dd,kk,es⟩,hsk⟩:∃s,m.snaps[k]=s:=⟨_,rfl⟩;have hel:es.length≤1000:=by have:=hq k hlk;rw [hsk] at this;exact this
      have HS:Hid (m.snaps[k]=(dd,kk,es)):=hsk;rw [hsk] at q0 q1 qs;have q0:wr.cell? ⟨sb,so+k*3,none⟩=some (.string dd):=q0;have q1:wr.cell? ⟨sb,so+k*3+1,none⟩=some (.int .i64 kk):=q1;have qs:Sl wr tv es:=qs;obtain⟨ta,tc,rfl⟩:=qs.form;clear hps hsk n0;have HX:Hid (OX wr w1.heap.size val (pmB m k)∧(∀a,Qaj (pmB m k) a→(val a).ownBlock≠some D)∧Below w1.heap.size w1 wr∧val .snaps=.slice pa k pc∧(pmB m k).snaps.length=k∧wr.heap[D]? = some (.cells #[.int .i64 (pmB m k).guest,val .root,val .slots,val .refs,val .snaps] 26)):=⟨hX,hfar,bl,hp,hlt,hbox⟩;rw [hp] at hbox hrow;obtain⟨d0,d1,d2,d3,d4⟩:=five hbox;have f4:=Qaa hbox 4;have hfD:(Value.slice pa k pc).ownBlock≠some D:=by rw [←hp];exact hfar .snaps (Qaj.snaps _)
      have nD1:¬D=wr.heap.size:=by omega
      have nD2:¬wr.heap.size=D:=by omega
      clear hX hfar hp hlt;go_wp2_with (first
       | (at_builtin;refine Qdw (by rfl) _ _ (by rfl) (g:=wr.heap.size+1) (B:=w1.heap.size) (by rfl) (by have:=World.alloc_heap_new (wr.alloc (.cells #[.string dd,.int .i64 kk,.slice ta es.length tc] 39)) (.cells #[] 3);simpa using this) (by have:=bl.size;omega) (src:=.slice ta es.length tc) (xs:=es) (by rfl) (qs.below ((bA).alloc (by simp) _)) hel ?_;intro v6 w6 r1 r2 r3;obtain⟨xa,xc,rfl⟩:=QaH r1.out;have u5:=(r2.block wr.heap.size (by simp <;> omega) (fun e=>by have:=Option.some.inj e;omega)).trans (Qac (World.alloc_heap_new wr _) _);obtain⟨t0,t1,t2⟩:=Qb6 u5;have tf:=Qaa u5 2;have z6:=(r2.block D (by simp <;> omega) (fun e=>by have:=Option.some.inj e;omega)).trans (Qac (Qac hbox _) _);obtain⟨x0,x1,x2,x3,x4⟩:=five z6;have y2:=Qaa z6 4;have hrow6:=(((hrow.alloc _).alloc _).kept r2 (.inr (fun e=>by have:=(hrow.lt _ e).2;omega)));have HW:Hid (OX w6 w1.heap.size val (pmB m k)∧Below w1.heap.size w1 w6∧w6.heap[D]? = some (.cells #[.int .i64 (pmB m k).guest,val .root,val .slots,val .refs,val .snaps] 26)∧(∀a,Qaj (pmB m k) a→(val a).ownBlock≠some wr.heap.size)∧(Value.slice xa es.length xc).ownBlock≠some wr.heap.size∧(∀g,(Value.slice xa es.length xc).ownBlock=some g→wr.heap.size≤g)∧(Value.slice xa es.length xc).ownBlock≠some D∧wr.heap.size+2≤w6.heap.size):=Qn8 HX.out.1 HX.out.2.2.1 HX.out.2.2.2.2.2 r2 r3.out)
       | (at_builtin;refine Qb0 (by rfl) _ _ 24 39 _ Tryz.underlying24 Qdh (by rfl) (by rfl) (B:=w1.heap.size) (v:=.slice pa k pc) (c0:=.string dd) (c1:=.int .i64 kk) (c2:=.slice xa es.length xc) (by rfl) (by rfl) (by rfl) (by rfl) (by rfl) (by simp) (ownsRow_setCell_other hrow6 (fun e=>Nat.lt_irrefl _ (hrow.lt _ e).2) _) (by omega) (by have:=bl.size;have:=HW.out.2.1.size;simp;omega) ?_;intro v1 w8 h1 h2 h3;obtain⟨g1,cap1,hv1⟩:=Qa9 h1.out;subst hv1;have z2:=(h2.block D (by simp;have:=HW.out.2.2.2.2.2.2.2;omega) (fun e=>hfD e.symm)).trans (Qac (Qan (by have:=HW.out.2.2.1;exact this) nD1 _ _) _);obtain⟨s0,s1,s2,s3,s4⟩:=five z2;have s44:=Qaa z2 4))
      have HN:Hid (OwR w1 (w8.setCell ⟨D,4,none⟩ (.slice (some ⟨g1,0,none⟩) (k+1) cap1)) D (pmB m (k+1))):=by
       obtain⟨hX,hfar,bl,hp,hlt,hbox⟩:=HX.out;rw [QnP m hlk,HS.out];refine QiT ((HW.out.1.far HW.out.2.2.2.1).alloc _) ((HW.out.2.1.setCell bl.size _).alloc (by have:=bl.size;have:=HW.out.2.2.2.2.2.2;simp;omega) _) (Qac (Qan HW.out.2.2.1 nD1 _ _) _) hge hfar ((ownsRow_setCell_other r1.out HW.out.2.2.2.2.1 _).alloc _) (Qdo hX _ HW.out.2.2.2.2.2.1) (HW.out.2.2.2.2.2.2.1) (by rw [hp];exact h2) (by rw [hlt];exact h1.out) ?_;rw [hp];rcases h3.out with x | x
       ·exact .inl x
       ·refine .inr (fun g e=>?_);rw [x] at e
        cases e
        simp
      go_roundw
      case rel=>exact⟨k+1,by omega,by go_num,HN⟩
      case measure=>simp [intOf];omega
     ·have ek:k=m.snaps.length:=by omega
      subst ek;obtain⟨val,hX,hbox,hfar⟩:=HC.out.ex;rw [QoZ] at hX hbox hfar;obtain⟨pa0,pc0,hp0,_⟩:=hX.forms .root (Qaj.root _);obtain⟨pa1,pc1,hp1,_⟩:=hX.forms .slots (Qaj.slots _);obtain⟨pa2,pc2,hp2,_⟩:=hX.forms .refs (Qaj.refs _);obtain⟨pa3,pc3,hp3,_⟩:=hX.forms .snaps (Qaj.snaps _);have HX:Hid (OX wr w1.heap.size val m∧val .root=.slice pa0 m.root.length pc0∧val .slots=.slice pa1 m.slots.length pc1∧val .refs=.slice pa2 m.refs.length pc2∧val .snaps=.slice pa3 m.snaps.length pc3):=⟨hX,hp0,hp1,hp2,hp3⟩;rw [HX.out.2.1,HX.out.2.2.1,HX.out.2.2.2.1,HX.out.2.2.2.2] at hbox;obtain⟨d0,d1,d2,d3,d4⟩:=five hbox;have n1:=Qab HM.out.2.1 bl (by omega);obtain⟨z0,z1,z2,z3,z4⟩:=five n1;have y0:=Qaa n1 0;have y1:=Qaa n1 1;have y2:=Qaa n1 2;have y3:=Qaa n1 3;have y4:=Qaa n1 4;have hge:=HC.out.ge;have g1:¬D=w.heap.size+1:=by omega
      have g2:¬w.heap.size+1=D:=by omega
      have hfr:∀a,Qaj m a→(val a).ownBlock≠some (w.heap.size+1):=fun a ha e=>by
       have:=((hX.row a ha).lt _ e).1;omega
      have HB:Hid (Below w.heap.size w wr):=HM.out.2.2.trans (bl.mono (by omega));clear hX hp0 hp1 hp2 hp3 hfar;go_wp2_with fail;have i1:w.heap.size≤w.heap.size+1:=Nat.le_succ _;refine bodyPost_ret (v:=.agg (aI m pa0 pc0 pa1 pc1 pa2 pc2 pa3 pc3)) (by simp [results,Tryz.results6,go_sem,z0,z1,z2,z3,z4]) rfl ⟨val,by unfold imgV;rw [HX.out.2.1,HX.out.2.2.1,HX.out.2.2.2.1,HX.out.2.2.2.2],OX.mono (((((HX.out.1.far hfr).far hfr).far hfr).far hfr).far hfr) (by omega),((((HB.out.setCell i1 _).setCell i1 _).setCell i1 _).setCell i1 _).setCell i1 _⟩
theorem QlX {L:List Qag}(h:Qap L=0)(j:Nat)(hj:j<L.length):L[j].2.2.length≤1000:=by
 have ok:=QaG h hj
 generalize L[j]=s at ok ⊢
 obtain⟨k,d,es⟩:=s;unfold okD QaZ at ok;dsimp only at ok ⊢
 split at ok
 ·simp at ok;rw [ok.2];decide
 ·split at ok
  ·simp at ok;rw [ok.2];decide
  ·split at ok
   ·simp at ok;have:=Qa7 ok.1;omega
   ·cases ok
theorem Qbn {w:World}{v:Value}{m:ImgD}(h:Img w v m)(hE:Qao m=0):Calls Tryz.prog 6 #[v] w fun r w'=>∃val,r=.returned (imgV m.guest val)∧OX w' w.heap.size val m∧Below w.heap.size w w':=by
 have h':=h;obtain⟨ra,rc,sa,sc,fa,fc,na,nc,rfl,_⟩:=h.parts;obtain⟨z1,z2,z3,z4,z5,z6,z7⟩:=Qad hE;have hg:=Qa4 hE;have hro:=Qa3 hE;have h40:=(Qah z2).2;refine Qh1 ra rc sa sc fa fc na nc m w h' (by omega) (by omega) (by omega) (by omega) (QlX z2) (fun j hj=>?_);have:=Qcp hE (s:=m.snaps[j]) (List.mem_cons_of_mem _ (List.getElem_mem hj));omega

theorem Qlp {W:World}{B:Nat}{v:Value}{es:List Int}(h:W.ownsRow B 3 1 v es.length (ints es))(e:es=[]):∃ao cap,v=.slice ao 0 cap:=by
 subst e;rcases QaL h with ⟨x,_⟩ | ⟨g',cap',x,_⟩
 ·exact⟨_,_,x⟩
 ·exact⟨_,_,x⟩
theorem Qm2 (m:ImgD)(gm:Int)(ra:Option Addr)(rn rc:Nat)(sa:Option Addr)(sc:Nat)(fa:Option Addr)(fn fc:Nat)(na:Option Addr)(nn nc:Nat)(k:Int)(d:ByteArray)(ea:Option Addr)(en ec:Nat)(es:List Int)(B:Nat)(val:Nm→Value)(w:World)(hO:OX w B val m)(e0:val .root=.slice ra rn rc)(e1:val .slots=.slice sa m.slots.length sc)(e2:val .refs=.slice fa fn fc)(e3:val .snaps=.slice na nn nc)(hB:B≤w.heap.size)
  (he:w.ownsRow B 3 1 (.slice ea en ec) es.length (ints es)) (hfar:FarX m val (.tab m.slots.length) (.slice ea en ec)) (hle:m.slots.length≤1000) :
  Calls Tryz.prog 44 #[.agg (bI gm ra rn rc sa m.slots.length sc fa fn fc na nn nc),.int .i64 (m.slots.length:Int),.agg #[.int .i64 k,.string d,.slice ea en ec]] w fun r w'=>∃val',r=.returned (imgV gm val')∧OX w' B val' { m with slots:=m.slots ++ [(k,d,es)] }∧Below B w w'∧Qbl w w' m val∧SrcX w m val (.slice ea en ec) { m with slots:=m.slots ++ [(k,d,es)] } val'∧(∀a,a≠.slots→a≠.tab m.slots.length→val' a=val a):=by
 have m0:(((w.alloc (.cells (bI gm ra rn rc sa m.slots.length sc fa fn fc na nn nc) 26)).alloc (.cells #[.int .i64 k,.string d,.slice ea en ec] 37)).alloc zI).heap[w.heap.size]? = some (.cells (bI gm ra rn rc sa m.slots.length sc fa fn fc na nn nc) 26):=Qac (Qac (zHn _ _) _) _;have m1:(((w.alloc (.cells (bI gm ra rn rc sa m.slots.length sc fa fn fc na nn nc) 26)).alloc (.cells #[.int .i64 k,.string d,.slice ea en ec] 37)).alloc zI).heap[w.heap.size+1]? = some (.cells #[.int .i64 k,.string d,.slice ea en ec] 37):=Qac (by have:=World.alloc_heap_new (w.alloc (.cells (bI gm ra rn rc sa m.slots.length sc fa fn fc na nn nc) 26)) (.cells #[.int .i64 k,.string d,.slice ea en ec] 37);simpa using this) _;have m2:(((w.alloc (.cells (bI gm ra rn rc sa m.slots.length sc fa fn fc na nn nc) 26)).alloc (.cells #[.int .i64 k,.string d,.slice ea en ec] 37)).alloc zI).heap[w.heap.size+1+1]? = some zI:=by have:=World.alloc_heap_new ((w.alloc (.cells (bI gm ra rn rc sa m.slots.length sc fa fn fc na nn nc) 26)).alloc (.cells #[.int .i64 k,.string d,.slice ea en ec] 37)) zI;simpa using this
 obtain⟨c0,c1,c2,c3,c4⟩:=five m0
 go_enter Tryz.func44,Tryz.ntmps44
 have hown:(((w.alloc (.cells (bI gm ra rn rc sa m.slots.length sc fa fn fc na nn nc) 26)).alloc (.cells #[.int .i64 k,.string d,.slice ea en ec] 37)).alloc zI).ownsRow B 37 3 (.slice sa m.slots.length sc) m.slots.length (QaE m.slots (fun j=>val (.tab j))):=by
  have:=hO.row .slots (Qaj.slots m);rw [e1] at this;exact ((this.alloc _).alloc _).alloc _
 go_wp2_with (at_builtin;refine Qb0 (by rfl) _ _ 23 37 _ Tryz.underlying23 Qdn (by rfl) (by rfl) (B:=B) (v:=.slice sa m.slots.length sc) (c0:=.int .i64 k) (c1:=.string d) (c2:=.slice ea en ec) (by rfl) (by rfl) (by rfl) (by rfl) (by rfl) (by simp) hown hle (by simp <;> omega) ?_;intro v1 w1 h1 h2 h3;obtain⟨g1,cap1,hv1⟩:=Qa9 h1.out;subst hv1;have q0:=(h2.block w.heap.size (by simp <;> omega) (Qjv hO (Qaj.slots m) e1 (Nat.le_refl _))).trans (Qac m0 _);obtain⟨d0,d1,d2,d3,d4⟩:=five q0;have f2:=Qaa q0 2;have q2:=(h2.block (w.heap.size+1+1) (by simp <;> omega) (Qjv hO (Qaj.slots m) e1 (by omega))).trans (Qac m2 _);obtain⟨z0,z1,z2,z3,z4⟩:=five q2;have y0:=Qaa q2 0;have y1:=Qaa q2 1;have y2:=Qaa q2 2;have y3:=Qaa q2 3;have y4:=Qaa q2 4);have hA:OX ((((w.alloc (.cells (bI gm ra rn rc sa m.slots.length sc fa fn fc na nn nc) 26)).alloc (.cells #[.int .i64 k,.string d,.slice ea en ec] 37)).alloc zI).alloc (.cells #[.int .i64 k,.string d,.slice ea en ec] 37)) B val m:=(((hO.alloc _).alloc _).alloc _).alloc _;have hz:((((w.alloc (.cells (bI gm ra rn rc sa m.slots.length sc fa fn fc na nn nc) 26)).alloc (.cells #[.int .i64 k,.string d,.slice ea en ec] 37)).alloc zI).alloc (.cells #[.int .i64 k,.string d,.slice ea en ec] 37)).heap.size=w.heap.size+4:=by simp
 have hz0:(((w.alloc (.cells (bI gm ra rn rc sa m.slots.length sc fa fn fc na nn nc) 26)).alloc (.cells #[.int .i64 k,.string d,.slice ea en ec] 37)).alloc zI).heap.size=w.heap.size+3:=by simp
 have h3':(Value.slice (some ⟨g1,0,none⟩) (m.slots.length+1) cap1).ownBlock=(val .slots).ownBlock∨(Value.slice (some ⟨g1,0,none⟩) (m.slots.length+1) cap1).ownBlock=some (w.heap.size+4):=by
  rcases h3.out with e | e
  ·exact .inl (e.trans (by rw [e1]))
  ·refine .inr (e.trans ?_);rw [hz0]
 have hN:=hA.addSlot (k:=k) (d:=d) (fun _=>(((he.alloc _).alloc _).alloc _).alloc _) (Qlp he) (fun _=>hfar) (by rw [e1];exact h2) h1.out (h3'.imp id (fun e g hg=>by rw [e] at hg;cases hg;omega));have hev:∀g,w.heap.size≤g→(Value.slice ea en ec).ownBlock≠some g:=fun g hg e=>by have:=(he.lt g e).2;omega
 have hsv:∀g,w.heap.size≤g→g<w.heap.size+4→(Value.slice (some ⟨g1,0,none⟩) (m.slots.length+1) cap1).ownBlock≠some g:=fun g hg hg4 e=>by
  rcases h3' with x | x
  ·rw [x] at e;exact hO.lt hg .slots (Qaj.slots m) e
  ·rw [x] at e;cases e;omega
 have hf1:=QeF (s:=(k,d,es)) (hO.lt (Nat.le_refl _)) (fun _=>hev _ (Nat.le_refl _)) (hsv w.heap.size (Nat.le_refl _) (by omega));have hf2:=QeF (s:=(k,d,es)) (hO.lt (g:=w.heap.size+1+1) (by omega)) (fun _=>hev _ (by omega)) (hsv (w.heap.size+1+1) (by omega) (by omega));have kB:Qbl w w1 m val:=Qbl.grown (((((Qbl.refl w m val).alloc (Nat.le_refl _) _).alloc (by simp) _).alloc (by simp <;> omega) _).alloc (by simp <;> omega) _) (by simp <;> omega) (Qaj.slots m) e1 h2;have bB:Below B w w1:=by
  refine Below.grown (row:=(Value.slice sa m.slots.length sc).ownBlock) (((((Below.refl B w).alloc hB _).alloc (by simp <;> omega) _).alloc (by simp <;> omega) _).alloc (by simp <;> omega) _) h2 (by simp <;> omega) (fun q e=>?_);exact ((hO.row .slots (Qaj.slots m)).lt q (by rw [e1];exact e)).1
 refine bodyPost_ret (v:=.agg #[.int .i64 gm,.slice ra rn rc,.slice (some ⟨g1,0,none⟩) (m.slots.length+1) cap1,.slice fa fn fc,.slice na nn nc]) (by simp [results,Tryz.results44,go_sem,z0,z1,z2,z3,z4]) rfl ⟨_,?_,(((((hN.far hf1).far hf2).far hf2).far hf2).far hf2).far hf2,(((((bB.setCell hB _).setCell (by show _≤w.heap.size+1+1;omega) _).setCell (by show _≤w.heap.size+1+1;omega) _).setCell (by show _≤w.heap.size+1+1;omega) _).setCell (by show _≤w.heap.size+1+1;omega) _).setCell (by show _≤w.heap.size+1+1;omega) _,((((((kB.new (Nat.le_refl _)).new (by omega)).new (by omega)).new (by omega)).new (by omega)).new (by omega)),fun g hg hev' hm=>QeF hm (fun _=>hev') (fun e=>by rcases h3' with x | x;(rw [x] at e;exact hm .slots (Qaj.slots m) e);(rw [x] at e;have e:w.heap.size+4=g:=Option.some.inj e;omega)),fun a h1 h2=>?_⟩
 ·unfold imgV;rw [Qar,Qae _ _ (by intro x;cases x),Qae _ _ (by intro x;cases x),Qae _ _ (by intro x;cases x),Qae _ _ (by intro x;cases x),Qae _ _ (by intro x;cases x),Qae _ _ (by intro x;cases x),e0,e2,e3]
 ·rw [Qae _ _ h1,Qae _ _ h2]
theorem Qnw (m:ImgD)(gm:Int)(ra:Option Addr)(rn rc:Nat)(sc:Nat)(fa:Option Addr)(fn fc:Nat)(na:Option Addr)(nn nc:Nat)(k:Int)(d:ByteArray)(ea:Option Addr)(en ec:Nat)(es:List Int)(i:Nat)(g:Nat)(B:Nat)(val:Nm→Value)(w:World)(hO:OX w B val m)(e0:val .root=.slice ra rn rc)(e1:val .slots=.slice (some ⟨g,0,none⟩) m.slots.length sc)(e2:val .refs=.slice fa fn fc)(e3:val .snaps=.slice na nn nc)(hB:B≤w.heap.size)
  (he:w.ownsRow B 3 1 (.slice ea en ec) es.length (ints es)) (hfar:FarX m val (.tab i) (.slice ea en ec)) (hi:i<m.slots.length) :
  Calls Tryz.prog 44 #[.agg #[.int .i64 gm,.slice ra rn rc,.slice (some ⟨g,0,none⟩) m.slots.length sc,.slice fa fn fc,.slice na nn nc],.int .i64 (i:Int),.agg #[.int .i64 k,.string d,.slice ea en ec]] w fun r w'=>∃val',r=.returned (imgV gm val')∧OX w' B val' { m with slots:=m.slots.set i (k,d,es) }∧Below B w w'∧Qbl w w' m val∧SrcX w m val (.slice ea en ec) { m with slots:=m.slots.set i (k,d,es) } val'∧(∀a,a≠.slots→a≠.tab i→val' a=val a):=by
 have m0:(((w.alloc (.cells #[.int .i64 gm,.slice ra rn rc,.slice (some ⟨g,0,none⟩) m.slots.length sc,.slice fa fn fc,.slice na nn nc] 26)).alloc (.cells #[.int .i64 k,.string d,.slice ea en ec] 37)).alloc zI).heap[w.heap.size]? = some (.cells #[.int .i64 gm,.slice ra rn rc,.slice (some ⟨g,0,none⟩) m.slots.length sc,.slice fa fn fc,.slice na nn nc] 26):=Qac (Qac (zHn _ _) _) _;have m1:(((w.alloc (.cells #[.int .i64 gm,.slice ra rn rc,.slice (some ⟨g,0,none⟩) m.slots.length sc,.slice fa fn fc,.slice na nn nc] 26)).alloc (.cells #[.int .i64 k,.string d,.slice ea en ec] 37)).alloc zI).heap[w.heap.size+1]? = some (.cells #[.int .i64 k,.string d,.slice ea en ec] 37):=Qac (by have:=World.alloc_heap_new (w.alloc (.cells #[.int .i64 gm,.slice ra rn rc,.slice (some ⟨g,0,none⟩) m.slots.length sc,.slice fa fn fc,.slice na nn nc] 26)) (.cells #[.int .i64 k,.string d,.slice ea en ec] 37);simpa using this) _;have m2:(((w.alloc (.cells #[.int .i64 gm,.slice ra rn rc,.slice (some ⟨g,0,none⟩) m.slots.length sc,.slice fa fn fc,.slice na nn nc] 26)).alloc (.cells #[.int .i64 k,.string d,.slice ea en ec] 37)).alloc zI).heap[w.heap.size+1+1]? = some zI:=by have:=World.alloc_heap_new ((w.alloc (.cells #[.int .i64 gm,.slice ra rn rc,.slice (some ⟨g,0,none⟩) m.slots.length sc,.slice fa fn fc,.slice na nn nc] 26)).alloc (.cells #[.int .i64 k,.string d,.slice ea en ec] 37)) zI;simpa using this
 obtain⟨c0,c1,c2,c3,c4⟩:=five m0;obtain⟨z0,z1,z2,z3,z4⟩:=five m2;have y0:=Qaa m2 0;have y1:=Qaa m2 1;have y2:=Qaa m2 2;have y3:=Qaa m2 3;have y4:=Qaa m2 4;have hA:OX (((w.alloc (.cells #[.int .i64 gm,.slice ra rn rc,.slice (some ⟨g,0,none⟩) m.slots.length sc,.slice fa fn fc,.slice na nn nc] 26)).alloc (.cells #[.int .i64 k,.string d,.slice ea en ec] 37)).alloc zI) B val m:=((hO.alloc _).alloc _).alloc _;have hr:=hA.row .slots (Qaj.slots m);rw [e1] at hr;obtain⟨s0,s1,s2⟩:=QaO (tv:=fun j=>val (.tab j)) hi;have t0:(((w.alloc (.cells #[.int .i64 gm,.slice ra rn rc,.slice (some ⟨g,0,none⟩) m.slots.length sc,.slice fa fn fc,.slice na nn nc] 26)).alloc (.cells #[.int .i64 k,.string d,.slice ea en ec] 37)).alloc zI).cell? ⟨g,i*3,none⟩=some _:=(hr.cellAt (i*3) (by show _<_*3;omega)).trans s0;have t1:(((w.alloc (.cells #[.int .i64 gm,.slice ra rn rc,.slice (some ⟨g,0,none⟩) m.slots.length sc,.slice fa fn fc,.slice na nn nc] 26)).alloc (.cells #[.int .i64 k,.string d,.slice ea en ec] 37)).alloc zI).cell? ⟨g,i*3+1,none⟩=some _:=(hr.cellAt (i*3+1) (by show _<_*3;omega)).trans s1;have t2:(((w.alloc (.cells #[.int .i64 gm,.slice ra rn rc,.slice (some ⟨g,0,none⟩) m.slots.length sc,.slice fa fn fc,.slice na nn nc] 26)).alloc (.cells #[.int .i64 k,.string d,.slice ea en ec] 37)).alloc zI).cell? ⟨g,i*3+2,none⟩=some _:=(hr.cellAt (i*3+2) (by show _<_*3;omega)).trans s2;have u0:=hr.frozenAt (i*3);have u1:=hr.frozenAt (i*3+1);have u2:=hr.frozenAt (i*3+2);have hne:((i:Int) == (m.slots.length:Int))=false:=by simp;omega
 have hne':¬(i:Int)=(m.slots.length:Int):=by omega
 have hil:(i:Int)<(m.slots.length:Int):=by omega
 have hgl:g<w.heap.size:=by
  have:=hO.row .slots (Qaj.slots m);rw [e1] at this;exact (this.lt g rfl).2
 have hgB:B≤g:=by
  have:=hO.row .slots (Qaj.slots m);rw [e1] at this;exact (this.lt g rfl).1
 have g1:¬g=w.heap.size:=by omega
 have g2:¬w.heap.size=g:=by omega
 have g3:¬g=w.heap.size+1+1:=by omega
 have g4:¬w.heap.size+1+1=g:=by omega
 go_enter Tryz.func44,Tryz.ntmps44
 go_wp2_with fail;have hN:=hA.setSlot hi e1 k d es (((he.alloc _).alloc _).alloc _) hfar;have hev:∀g,w.heap.size≤g→(Value.slice ea en ec).ownBlock≠some g:=fun g hg e=>by have:=(he.lt g e).2;omega
 have hf2:=Qjg (s:=(k,d,es)) (hO.lt (g:=w.heap.size+1+1) (by omega)) (hev (w.heap.size+1+1) (by omega)) (i:=i);have kB:Qbl w (((w.alloc (.cells #[.int .i64 gm,.slice ra rn rc,.slice (some ⟨g,0,none⟩) m.slots.length sc,.slice fa fn fc,.slice na nn nc] 26)).alloc (.cells #[.int .i64 k,.string d,.slice ea en ec] 37)).alloc zI) m val:=(((Qbl.refl w m val).alloc (Nat.le_refl _) _).alloc (by simp) _).alloc (by simp <;> omega) _;have bB:Below B w (((w.alloc (.cells #[.int .i64 gm,.slice ra rn rc,.slice (some ⟨g,0,none⟩) m.slots.length sc,.slice fa fn fc,.slice na nn nc] 26)).alloc (.cells #[.int .i64 k,.string d,.slice ea en ec] 37)).alloc zI):=(((Below.refl B w).alloc hB _).alloc (by simp <;> omega) _).alloc (by simp <;> omega) _;refine bodyPost_ret (v:=.agg #[.int .i64 gm,.slice ra rn rc,.slice (some ⟨g,0,none⟩) m.slots.length sc,.slice fa fn fc,.slice na nn nc]) (by simp [results,Tryz.results44,go_sem,z0,z1,z2,z3,z4]) rfl ⟨_,?_,((((hN.far hf2).far hf2).far hf2).far hf2).far hf2,(((((((bB.setCell hgB _).setCell hgB _).setCell hgB _).setCell (by show _≤w.heap.size+1+1;omega) _).setCell (by show _≤w.heap.size+1+1;omega) _).setCell (by show _≤w.heap.size+1+1;omega) _).setCell (by show _≤w.heap.size+1+1;omega) _).setCell (by show _≤w.heap.size+1+1;omega) _,((((((((kB.own (Qaj.slots m) e1).own (Qaj.slots m) e1).own (Qaj.slots m) e1).new (by omega)).new (by omega)).new (by omega)).new (by omega)).new (by omega)),fun _ _ hev' hm=>Qjg hm hev',fun a _ h2=>Qae _ _ h2⟩;unfold imgV;rw [Qae _ _ (by intro x;cases x),Qae _ _ (by intro x;cases x),Qae _ _ (by intro x;cases x),Qae _ _ (by intro x;cases x),e0,e1,e2,e3]
theorem Qei {m:ImgD}(gm:Int){k:Int}{d:ByteArray}{ev:Value}{es:List Int}{B:Nat}{val:Nm→Value}{w:World}(hO:OX w B val m)(hB:B≤w.heap.size){i:Nat}(hi:i≤m.slots.length)(hle:m.slots.length≤1000)
  (he:w.ownsRow B 3 1 ev es.length (ints es)) (hfar:FarX m val (.tab i) ev) :
  Calls Tryz.prog 44 #[imgV gm val,.int .i64 (i:Int),.agg #[.int .i64 k,.string d,ev]] w fun r w'=>∃val',r=.returned (imgV gm val')∧OX w' B val' { m with slots:=layS m.slots i (k,d,es) }∧Below B w w'∧Qbl w w' m val∧SrcX w m val ev { m with slots:=layS m.slots i (k,d,es) } val'∧(∀a,a≠.slots→a≠.tab i→val' a=val a):=by
 obtain⟨ra,rc,e0,_⟩:=hO.forms .root (Qaj.root m);obtain⟨sa,sc,e1,hs⟩:=hO.forms .slots (Qaj.slots m);obtain⟨fa,fc,e2,_⟩:=hO.forms .refs (Qaj.refs m);obtain⟨na,nc,e3,_⟩:=hO.forms .snaps (Qaj.snaps m);have hev:∃ea en ec,ev=.slice ea en ec:=by
  rcases QaL he with ⟨e,_⟩ | ⟨g,cap,e,_⟩
  ·exact⟨_,_,_,e⟩
  ·exact⟨_,_,_,e⟩
 obtain⟨ea,en,ec,rfl⟩:=hev;have e1:val .slots=.slice sa m.slots.length sc:=e1;unfold imgV;rw [e0,e1,e2,e3];unfold layS
 by_cases e:i=m.slots.length
 ·subst e;rw [if_pos rfl];exact Qm2 m gm ra _ rc sa sc fa _ fc na _ nc k d ea en ec es B val w hO e0 e1 e2 e3 hB he hfar hle
 ·rw [if_neg e];obtain⟨g,rfl⟩:=hs (by show 0<m.slots.length;omega);exact Qnw m gm ra _ rc sc fa _ fc na _ nc k d ea en ec es i g B val w hO e0 e1 e2 e3 hB he hfar (by omega)
end Go.Proofs.YtehleeibgkpjmagGreat
