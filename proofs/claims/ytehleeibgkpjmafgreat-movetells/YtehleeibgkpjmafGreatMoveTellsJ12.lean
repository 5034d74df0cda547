/- Texts joined: OxI. -/
import Derived.Test.YtehleeibgkpjmafGreatMoveTellsJ5
import Derived.Test.YtehleeibgkpjmafGreatMoveTellsJ1
set_option linter.unusedVariables false
set_option linter.unusedSimpArgs false
namespace Go.Proofs.YtehleeibgkpjmafGreat
open Go.RowKit Go.Shelf
set_option maxRecDepth 20000
set_option linter.unusedVariables false
abbrev tbl (m:ImgD) (j:Nat):List Int:=(m.slots.getD j default).2.2
def LiveX (m:ImgD) (a:Nm):Prop:=(a.kind<4∧a.ix=0)∨(a.kind=4∧a.ix<m.slots.length∧tbl m a.ix≠[])∨(a.kind=5∧a.ix<m.snaps.length)
theorem LiveX.cases {m:ImgD}{a:Nm}(h:LiveX m a):a=.root∨a=.slots∨a=.refs∨a=.snaps∨(∃j,a=.tab j∧j<m.slots.length∧tbl m j≠[])∨∃j,a=.sr j∧j<m.snaps.length:=by
 obtain⟨k,j⟩:=a
 rcases h with ⟨h1,h2⟩ | ⟨h1,h2⟩ | ⟨h1,h2⟩
 ·dsimp only at h1 h2
  subst h2
  match k,h1 with
  | 0,_=>exact .inl rfl
  | 1,_=>exact .inr (.inl rfl)
  | 2,_=>exact .inr (.inr (.inl rfl))
  | 3,_=>exact .inr (.inr (.inr (.inl rfl)))
 ·dsimp only at h1 h2;subst h1;exact .inr (.inr (.inr (.inr (.inl ⟨j,rfl,h2⟩))))
 ·dsimp only at h1 h2;subst h1;exact .inr (.inr (.inr (.inr (.inr ⟨j,rfl,h2⟩))))
theorem LiveX.root (m:ImgD):LiveX m .root:=.inl ⟨by decide,rfl⟩
theorem LiveX.slots (m:ImgD):LiveX m .slots:=.inl ⟨by decide,rfl⟩
theorem LiveX.refs (m:ImgD):LiveX m .refs:=.inl ⟨by decide,rfl⟩
theorem LiveX.snaps (m:ImgD):LiveX m .snaps:=.inl ⟨by decide,rfl⟩
theorem LiveX.tab {m:ImgD}{j:Nat}(h:j<m.slots.length∧tbl m j≠[]):LiveX m (.tab j):=.inr (.inl ⟨rfl,h⟩)
theorem LiveX.sr {m:ImgD}{j:Nat}(h:j<m.snaps.length):LiveX m (.sr j):=.inr (.inr ⟨rfl,h⟩)
theorem liveX_iff {m m':ImgD}(h1:m'.slots.length=m.slots.length)(h2:m'.snaps.length=m.snaps.length)(h3:∀j,tbl m' j=[]↔tbl m j=[])(b:Nm):LiveX m' b↔LiveX m b:=by
 unfold LiveX
 rw [h1,h2,ne_eq,ne_eq,h3]
theorem LiveX.live {m:ImgD}{a:Nm}(h:LiveX m a):Live m a:=by
 rcases h with h | h | h
 ·exact .inl h
 ·exact .inr (.inl ⟨h.1,h.2.1⟩)
 ·exact .inr (.inr h)
structure OX (W:World) (B:Nat) (val:Nm→Value) (m:ImgD):Prop where
 row:∀a,LiveX m a→W.ownsRow B (rowT a) (rowS a) (val a) (rowN m a) (rowV m val a)
 apart:∀a b,LiveX m a→LiveX m b→a≠b→∀g,(val a).ownBlock=some g→(val b).ownBlock≠some g
 loose:∀j,j<m.slots.length→tbl m j=[]→∃ao cap,val (.tab j)=.slice ao 0 cap
theorem OX.keep {W W':World}{B:Nat}{val:Nm→Value}{m:ImgD}(h:OX W B val m)(hk:∀g,B≤g→g<W.heap.size→W'.heap[g]? = W.heap[g]?):OX W' B val m:=by
 refine⟨fun a ha=>?_,h.apart,h.loose⟩
 have hr:=h.row a ha
 refine⟨hr.1,?_⟩
 rcases hr.2 with hn | ⟨g,cap,cur,hv,hb,hg,rest⟩
 ·exact .inl hn
 ·exact .inr ⟨g,cap,cur,hv,hb,(hk g hb (szH hg)).trans hg,rest⟩
theorem OX.below {W W':World}{B:Nat}{val:Nm→Value}{m:ImgD}(h:OX W B val m)(hb:Below W.heap.size W W'):OX W' B val m:=h.keep fun g _ hg=>hb.block g hg
theorem OX.alloc {W:World}{B:Nat}{val:Nm→Value}{m:ImgD}(h:OX W B val m)(o:Obj):OX (W.alloc o) B val m:=h.below ((Below.refl _ _).alloc (Nat.le_refl _) o)
theorem OX.drew {W:World}{B:Nat}{val:Nm→Value}{m:ImgD}(h:OX W B val m):OX W.drew B val m:=⟨fun a ha=>(h.row a ha).drew,h.apart,h.loose⟩
theorem OX.mono {W:World}{B B':Nat}{val:Nm→Value}{m:ImgD}(h:OX W B val m)(hb:B'≤B):OX W B' val m:=by
 refine⟨fun a ha=>?_,h.apart,h.loose⟩
 have hr:=h.row a ha
 refine⟨hr.1,?_⟩
 rcases hr.2 with hn | ⟨g,cap,cur,hv,hg,rest⟩
 ·exact .inl hn
 ·exact .inr ⟨g,cap,cur,hv,Nat.le_trans hb hg,rest⟩
theorem OX.tabSl {W:World}{B:Nat}{val:Nm→Value}{m:ImgD}(h:OX W B val m){j:Nat}(hj:j<m.slots.length):Sl W (val (.tab j)) (tbl m j):=by
 by_cases e:tbl m j=[]
 ·obtain⟨ao,cap,ev⟩:=h.loose j hj e
  rw [ev,e]
  exact⟨ao,cap,rfl,Nat.zero_le _,Nat.zero_le _,fun x=>absurd rfl x⟩
 ·exact row_sl (h.row (.tab j) (LiveX.tab ⟨hj,e⟩))
theorem OX.img {W:World}{B:Nat}{val:Nm→Value}{m:ImgD}(h:OX W B val m):Img W (imgV m.guest val) m:=
 ⟨_,_,_,_,rfl,row_sl (h.row .root (LiveX.root m)),row_slots (h.row .slots (LiveX.slots m)) (fun j hj=>h.tabSl hj),row_sl (h.row .refs (LiveX.refs m)),row_snaps (h.row .snaps (LiveX.snaps m)) (fun j hj=>row_sl (h.row (.sr j) (LiveX.sr hj)))⟩
theorem OX.store {W:World}{B:Nat}{val:Nm→Value}{m m':ImgD}(h:OX W B val m){a:Nm}(ha:LiveX m a){g n cap:Nat}(hv:val a=.slice (some ⟨g,0,none⟩) n cap)(i:Nat)(u:Value)
  (hlive:∀b,LiveX m' b↔LiveX m b) (hn:∀b,LiveX m b→rowN m' b=rowN m b) (hsame:∀b,LiveX m b→b≠a→rowV m' val b=rowV m val b) (hset:rowV m' val a=(rowV m val a).set i u) (hloose:∀j,j<m'.slots.length→tbl m' j=[]→j<m.slots.length∧tbl m j=[]):OX (W.setCell ⟨g,i,none⟩ u) B val m':=by
 refine⟨fun b hb=>?_,fun b c hb hc=>h.apart b c ((hlive b).1 hb) ((hlive c).1 hc),fun j hj e=>h.loose j (hloose j hj e).1 (hloose j hj e).2⟩
 have hb:=(hlive b).1 hb
 rw [hn b hb]
 by_cases e:b=a
 ·subst e
  have hr:=h.row b hb
  rw [hset]
  have hnn:n=rowN m b:=by
   rcases row_form hr with ⟨e,_⟩ | ⟨g',cap',e,_⟩
   ·rw [hv] at e;simp at e
   ·rw [hv] at e;simp at e;exact e.2.1
  subst hnn
  rw [hv] at hr ⊢
  exact (hr.stored i u).1
 ·rw [hsame b hb e]
  exact ownsRow_setCell_other (h.row b hb) (h.apart a b ha hb (fun x=>e x.symm) g (by rw [hv];rfl)) u
theorem OX.setRoot {W:World}{B:Nat}{val:Nm→Value}{m:ImgD}(h:OX W B val m){g n cap:Nat}(hv:val .root=.slice (some ⟨g,0,none⟩) n cap)(i:Nat)(x:Int):OX (W.setCell ⟨g,i,none⟩ (.int .i64 x)) B val { m with root:=m.root.set i x }:=by
 refine h.store (a:=.root) (LiveX.root m) hv i _ (liveX_iff rfl rfl fun _=>Iff.rfl) (fun b hb=>?_) (fun b hb hne=>?_) (ints_set _ _ _) (fun _ hj e=>⟨hj,e⟩)
 ·rcases hb.cases with rfl | rfl | rfl | rfl | ⟨j,rfl,hj⟩ | ⟨j,rfl,hj⟩ <;> first | rfl | exact List.length_set
 ·rcases hb.cases with rfl | rfl | rfl | rfl | ⟨j,rfl,hj⟩ | ⟨j,rfl,hj⟩ <;> first | rfl | exact absurd rfl hne
theorem OX.setRefs {W:World}{B:Nat}{val:Nm→Value}{m:ImgD}(h:OX W B val m){g n cap:Nat}(hv:val .refs=.slice (some ⟨g,0,none⟩) n cap)(i:Nat)(x:Int):OX (W.setCell ⟨g,i,none⟩ (.int .i64 x)) B val { m with refs:=m.refs.set i x }:=by
 refine h.store (a:=.refs) (LiveX.refs m) hv i _ (liveX_iff rfl rfl fun _=>Iff.rfl) (fun b hb=>?_) (fun b hb hne=>?_) (ints_set _ _ _) (fun _ hj e=>⟨hj,e⟩)
 ·rcases hb.cases with rfl | rfl | rfl | rfl | ⟨j,rfl,hj⟩ | ⟨j,rfl,hj⟩ <;> first | rfl | exact List.length_set
 ·rcases hb.cases with rfl | rfl | rfl | rfl | ⟨j,rfl,hj⟩ | ⟨j,rfl,hj⟩ <;> first | rfl | exact absurd rfl hne
theorem OX.setTab {W:World}{B:Nat}{val:Nm→Value}{m:ImgD}(h:OX W B val m){t:Nat}(ht:t<m.slots.length)(hnt:tbl m t≠[]){g n cap:Nat}(hv:val (.tab t)=.slice (some ⟨g,0,none⟩) n cap)(i:Nat)(x:Int) :
  OX (W.setCell ⟨g,i,none⟩ (.int .i64 x)) B val { m with slots:=m.slots.set t ((m.slots.getD t default).1,(m.slots.getD t default).2.1,(m.slots.getD t default).2.2.set i x) }:=by
 have hg:=fun j=>getD_setR m.slots t j ((m.slots.getD t default).1,(m.slots.getD t default).2.1,(m.slots.getD t default).2.2.set i x)
 have hnil:∀j,tbl { m with slots:=m.slots.set t ((m.slots.getD t default).1,(m.slots.getD t default).2.1,(m.slots.getD t default).2.2.set i x) } j=[]↔tbl m j=[]:=fun j=>by
  show ((m.slots.set t _).getD j default).2.2=[]↔_
  rw [hg]
  split
  ·rename_i e
   rw [←e.1]
   constructor
   ·intro z
    have:=congrArg List.length z
    rw [List.length_set] at this
    exact List.eq_nil_of_length_eq_zero this
   ·intro z
    exact absurd z hnt
  ·rfl
 refine h.store (a:=.tab t) (LiveX.tab ⟨ht,hnt⟩) hv i _ (liveX_iff List.length_set rfl hnil) (fun b hb=>?_) (fun b hb hne=>?_) ?_ (fun j hj e=>⟨by rwa [show (m.slots.set t _).length=m.slots.length from List.length_set] at hj,(hnil j).1 e⟩)
 ·rcases hb.cases with rfl | rfl | rfl | rfl | ⟨j,rfl,hj⟩ | ⟨j,rfl,hj⟩ <;> first | rfl | exact List.length_set | skip
  show ((m.slots.set t _).getD j default).2.2.length=(m.slots.getD j default).2.2.length
  rw [hg]
  split
  ·rename_i e;rw [←e.1];exact List.length_set
  ·rfl
 ·rcases hb.cases with rfl | rfl | rfl | rfl | ⟨j,rfl,hj⟩ | ⟨j,rfl,hj⟩ <;> first | rfl | skip
  ·show flatS (m.slots.set t _) _=flatS m.slots _
   unfold flatS
   rw [List.length_set]
   refine congrArg List.flatten (List.map_congr_left fun j _=>?_)
   rw [hg]
   split
   ·rename_i e;rw [←e.1]
   ·rfl
  ·show ints ((m.slots.set t _).getD j default).2.2=ints (m.slots.getD j default).2.2
   rw [hg,if_neg (fun e=>hne (by rw [e.1]))]
 ·show ints ((m.slots.set t _).getD t default).2.2=(ints (m.slots.getD t default).2.2).set i _
  rw [hg,if_pos ⟨rfl,ht⟩];exact ints_set _ _ _
def FarX (m:ImgD) (val:Nm→Value) (a:Nm) (v:Value):Prop:=∀b,LiveX m b→b≠a→∀g,v.ownBlock=some g→(val b).ownBlock≠some g
theorem farX_new {W:World}{B:Nat}{val:Nm→Value}{m:ImgD}(h:OX W B val m)(a:Nm){v:Value}(hv:∀g,v.ownBlock=some g→W.heap.size≤g):FarX m val a v:=fun b hb _ g hg e=>by
 have:=((h.row b hb).lt g e).2
 have:=hv g hg
 omega
theorem farX_nil (m:ImgD)(val:Nm→Value)(a:Nm)(n cap:Nat):FarX m val a (.slice none n cap):=fun _ _ _ g hg=>by cases hg
theorem OX.swap {W:World}{B:Nat}{val:Nm→Value}{m m':ImgD}(h:OX W B val m){a:Nm}(ha:LiveX m a){v:Value}(hv:W.ownsRow B (rowT a) (rowS a) v (rowN m' a) (rowV m' (upd val a v) a))(hfar:FarX m val a v)
  (hlive:∀b,LiveX m' b↔LiveX m b) (hsame:∀b,LiveX m b→b≠a→rowN m' b=rowN m b∧rowV m' (upd val a v) b=rowV m val b) (hloose:∀j,j<m'.slots.length→tbl m' j=[]→a≠.tab j∧j<m.slots.length∧tbl m j=[]):OX W B (upd val a v) m':=by
 refine⟨fun b hb=>?_,fun b c hb hc hne g hg=>?_,fun j hj e=>by obtain⟨h1,h2,h3⟩:=hloose j hj e;rw [upd_other val v (fun x=>h1 x.symm)];exact h.loose j h2 h3⟩
 ·have hb:=(hlive b).1 hb
  by_cases e:b=a
  ·subst e;rw [upd_same];exact hv
  ·rw [upd_other val v e,(hsame b hb e).1,(hsame b hb e).2];exact h.row b hb
 ·have hb:=(hlive b).1 hb
  have hc:=(hlive c).1 hc
  by_cases e:b=a
  ·subst e
   rw [upd_same] at hg
   rw [upd_other val v (fun x=>hne x.symm)]
   exact hfar c hc (fun x=>hne x.symm) g hg
  ·rw [upd_other val v e] at hg
   by_cases e2:c=a
   ·subst e2
    rw [upd_same]
    exact fun x=>hfar b hb e g x hg
   ·rw [upd_other val v e2];exact h.apart b c hb hc hne g hg
theorem OX.swapRoot {W:World}{B:Nat}{val:Nm→Value}{m:ImgD}(h:OX W B val m){v:Value}{r:List Int}(hv:W.ownsRow B 3 1 v r.length (ints r))(hfar:FarX m val .root v)(g:Int):OX W B (upd val .root v) { m with guest:=g,root:=r }:=by
 refine h.swap (a:=.root) (LiveX.root m) hv hfar (liveX_iff rfl rfl fun _=>Iff.rfl) (fun b hb hne=>?_) (fun j hj e=>⟨(by intro x;cases x),hj,e⟩)
 rcases hb.cases with rfl | rfl | rfl | rfl | ⟨j,rfl,hj⟩ | ⟨j,rfl,hj⟩ <;> first | exact⟨rfl,rfl⟩ | exact absurd rfl hne
theorem OX.swapRefs {W:World}{B:Nat}{val:Nm→Value}{m:ImgD}(h:OX W B val m){v:Value}{r:List Int}(hv:W.ownsRow B 3 1 v r.length (ints r))(hfar:FarX m val .refs v):OX W B (upd val .refs v) { m with refs:=r }:=by
 refine h.swap (a:=.refs) (LiveX.refs m) hv hfar (liveX_iff rfl rfl fun _=>Iff.rfl) (fun b hb hne=>?_) (fun j hj e=>⟨(by intro x;cases x),hj,e⟩)
 rcases hb.cases with rfl | rfl | rfl | rfl | ⟨j,rfl,hj⟩ | ⟨j,rfl,hj⟩ <;> first | exact⟨rfl,rfl⟩ | exact absurd rfl hne
theorem OX.setSlot {W:World}{B:Nat}{val:Nm→Value}{m:ImgD}(h:OX W B val m){t:Nat}(ht:t<m.slots.length){g n cap:Nat}(hv:val .slots=.slice (some ⟨g,0,none⟩) n cap)(k:Int)(d:ByteArray)(es:List Int){ev:Value}
  (hev:W.ownsRow B 3 1 ev es.length (ints es)) (hfar:FarX m val (.tab t) ev) :
  OX (((W.setCell ⟨g,t*3,none⟩ (.int .i64 k)).setCell ⟨g,t*3+1,none⟩ (.string d)).setCell ⟨g,t*3+2,none⟩ ev) B (upd val (.tab t) ev) { m with slots:=m.slots.set t (k,d,es) }:=by
 have hgd:=fun j=>getD_setR m.slots t j (k,d,es)
 have hnn:n=m.slots.length:=by
  rcases row_form (h.row .slots (LiveX.slots m)) with ⟨e,_⟩ | ⟨g',cap',e,_⟩
  ·rw [hv] at e;simp at e
  ·rw [hv] at e;simp at e;exact e.2.1
 have hoth:∀ {e:TypeId} {size:Nat} {v:Value} {q:Nat} {xs:List Value},W.ownsRow B e size v q xs→v.ownBlock≠some g→
   (((W.setCell ⟨g,t*3,none⟩ (.int .i64 k)).setCell ⟨g,t*3+1,none⟩ (.string d)).setCell ⟨g,t*3+2,none⟩ ev).ownsRow B e size v q xs:=fun hr hne=>
  ownsRow_setCell_other (ownsRow_setCell_other (ownsRow_setCell_other hr hne _) hne _) hne _
 have hlive:∀b,LiveX { m with slots:=m.slots.set t (k,d,es) } b→b≠.tab t→LiveX m b:=fun b hb hne=>by
  rcases hb.cases with rfl | rfl | rfl | rfl | ⟨j,rfl,hj⟩ | ⟨j,rfl,hj⟩
  ·exact LiveX.root m
  ·exact LiveX.slots m
  ·exact LiveX.refs m
  ·exact LiveX.snaps m
  ·refine LiveX.tab ⟨?_,?_⟩
   ·have:=hj.1
    rwa [show (m.slots.set t (k,d,es)).length=m.slots.length from List.length_set] at this
   ·have:=hj.2
    have e:tbl { m with slots:=m.slots.set t (k,d,es) } j=tbl m j:=by
     show ((m.slots.set t (k,d,es)).getD j default).2.2=_
     rw [hgd,if_neg (fun x=>hne (by rw [x.1]))]
    rwa [e] at this
  ·exact LiveX.sr hj
 refine⟨fun b hb=>?_,fun b c hb hc hne q hq=>?_,fun j hj e=>?_⟩
 ·by_cases es0:b=.slots
  ·subst es0
   rw [upd_other val ev (by intro x;cases x)]
   have hr:=h.row .slots (LiveX.slots m)
   have e1:rowV { m with slots:=m.slots.set t (k,d,es) } (upd val (.tab t) ev) .slots=(((rowV m val .slots).set (t*3) (.int .i64 k)).set (t*3+1) (.string d)).set (t*3+2) ev:=by
    have:=flatS_set (L:=m.slots) (tv:=fun j=>val (.tab j)) (tv':=fun j=>upd val (.tab t) ev (.tab j)) (t:=t) k d es (fun j hj=>upd_other val ev (by intro x;apply hj;injection x))
    rw [upd_same] at this
    exact this
   have e2:rowN { m with slots:=m.slots.set t (k,d,es) } .slots=rowN m .slots:=List.length_set
   rw [e1,e2]
   have hN:rowN m .slots=n:=hnn.symm
   rw [hN] at hr ⊢
   rw [hv] at hr ⊢
   exact ((((hr.stored (t*3) (.int .i64 k)).1).stored (t*3+1) (.string d)).1.stored (t*3+2) ev).1
  ·by_cases et:b=.tab t
   ·subst et
    rw [upd_same]
    have e1:rowV { m with slots:=m.slots.set t (k,d,es) } (upd val (.tab t) ev) (.tab t)=ints es:=by
     show ints ((m.slots.set t (k,d,es)).getD t default).2.2=_
     rw [hgd,if_pos ⟨rfl,ht⟩]
    have e2:rowN { m with slots:=m.slots.set t (k,d,es) } (.tab t)=es.length:=by
     show ((m.slots.set t (k,d,es)).getD t default).2.2.length=_
     rw [hgd,if_pos ⟨rfl,ht⟩]
    rw [e1,e2]
    exact hoth hev (fun x=>hfar .slots (LiveX.slots m) (by intro y;cases y) g x (by rw [hv];rfl))
   ·have hb':=hlive b hb et
    have hbg:(val b).ownBlock≠some g:=h.apart .slots b (LiveX.slots m) hb' (fun x=>es0 x.symm) g (by rw [hv];rfl)
    rw [upd_other val ev et]
    have e1:rowV { m with slots:=m.slots.set t (k,d,es) } (upd val (.tab t) ev) b=rowV m val b∧rowN { m with slots:=m.slots.set t (k,d,es) } b=rowN m b:=by
     rcases hb'.cases with rfl | rfl | rfl | rfl | ⟨j,rfl,hj⟩ | ⟨j,rfl,hj⟩
     ·exact⟨rfl,rfl⟩
     ·exact absurd rfl es0
     ·exact⟨rfl,rfl⟩
     ·exact⟨rfl,rfl⟩
     ·have hjt:t≠j:=fun x=>et (by rw [x])
      constructor
      ·show ints ((m.slots.set t (k,d,es)).getD j default).2.2=ints (m.slots.getD j default).2.2
       rw [hgd,if_neg (fun x=>hjt x.1)]
      ·show ((m.slots.set t (k,d,es)).getD j default).2.2.length=(m.slots.getD j default).2.2.length
       rw [hgd,if_neg (fun x=>hjt x.1)]
     ·exact⟨rfl,rfl⟩
    rw [e1.1,e1.2]
    exact hoth (h.row b hb') hbg
 ·by_cases e:b=.tab t
  ·subst e
   rw [upd_same] at hq
   rw [upd_other val ev (fun x=>hne x.symm)]
   exact hfar c (hlive c hc (fun x=>hne x.symm)) (fun x=>hne x.symm) q hq
  ·rw [upd_other val ev e] at hq
   have hb':=hlive b hb e
   by_cases e2:c=.tab t
   ·subst e2;rw [upd_same];exact fun x=>hfar b hb' e q x hq
   ·rw [upd_other val ev e2];exact h.apart b c hb' (hlive c hc e2) hne q hq
 ·rw [show ({ m with slots:=m.slots.set t (k,d,es) } : ImgD).slots.length=m.slots.length from List.length_set] at hj
  have e:((m.slots.set t (k,d,es)).getD j default).2.2=[]:=e
  rw [hgd] at e
  by_cases ej:t=j
  ·subst ej
   rw [if_pos ⟨rfl,hj⟩] at e
   have e:es=[]:=e
   rw [upd_same]
   rw [e] at hev
   rcases row_form hev with ⟨x,_⟩ | ⟨g',cap',x,_⟩
   ·exact⟨_,_,x⟩
   ·exact⟨_,_,x⟩
  ·rw [if_neg (fun x=>ej x.1)] at e
   rw [upd_other val ev (by intro x;apply ej;injection x with _ x;exact x.symm)]
   exact h.loose j hj e
theorem OX.addSlot {W W':World}{B:Nat}{val:Nm→Value}{m:ImgD}(h:OX W B val m){k:Int}{d:ByteArray}{es:List Int}{ev sv:Value}(hev:es≠[]→W.ownsRow B 3 1 ev es.length (ints es))(hev0:es=[]→∃ao cap,ev=.slice ao 0 cap)(hfar:es≠[]→FarX m val (.tab m.slots.length) ev)
  (hgrow:W.grownBy W' (val .slots).ownBlock) (hrow:W'.ownsRow B 61 3 sv (m.slots.length+1) (flatS m.slots (fun j=>val (.tab j)) ++ [.int .i64 k,.string d,ev])) (hblk:sv.ownBlock=(val .slots).ownBlock∨∀g,sv.ownBlock=some g→W.heap.size≤g) :
  OX W' B (upd (upd val (.tab m.slots.length) ev) .slots sv) { m with slots:=m.slots ++ [(k,d,es)] }:=by
 have hval:∀b,b≠.slots→b≠.tab m.slots.length→upd (upd val (.tab m.slots.length) ev) .slots sv b=val b:=fun b h1 h2=>by rw [upd_other _ sv h1,upd_other _ ev h2]
 have hvs:upd (upd val (.tab m.slots.length) ev) .slots sv .slots=sv:=upd_same _ _ _
 have hvt:upd (upd val (.tab m.slots.length) ev) .slots sv (.tab m.slots.length)=ev:=by rw [upd_other _ sv (by intro x;cases x),upd_same]
 have hcase:∀b,LiveX { m with slots:=m.slots ++ [(k,d,es)] } b→b=.slots∨(b=.tab m.slots.length∧es≠[])∨(LiveX m b∧b≠.slots∧b≠.tab m.slots.length):=fun b hb=>by
  rcases hb.cases with rfl | rfl | rfl | rfl | ⟨j,rfl,hj⟩ | ⟨j,rfl,hj⟩
  ·exact .inr (.inr ⟨LiveX.root m,(by intro x;cases x),(by intro x;cases x)⟩)
  ·exact .inl rfl
  ·exact .inr (.inr ⟨LiveX.refs m,(by intro x;cases x),(by intro x;cases x)⟩)
  ·exact .inr (.inr ⟨LiveX.snaps m,(by intro x;cases x),(by intro x;cases x)⟩)
  ·obtain⟨hj,hjn⟩:=hj
   by_cases e:j=m.slots.length
   ·subst e
    refine .inr (.inl ⟨rfl,?_⟩)
    have hjn:((m.slots ++ [(k,d,es)]).getD m.slots.length default).2.2≠[]:=hjn
    simpa [List.getD] using hjn
   ·have hjl:j<m.slots.length:=by simp at hj;omega
    refine .inr (.inr ⟨LiveX.tab ⟨hjl,?_⟩,(by intro x;cases x),?_⟩)
    ·have hjn:((m.slots ++ [(k,d,es)]).getD j default).2.2≠[]:=hjn
     have e:(m.slots ++ [(k,d,es)]).getD j default=m.slots.getD j default:=by simp [List.getD,List.getElem?_append,hjl]
     rwa [e] at hjn
    ·intro x;apply e;injection x
  ·exact .inr (.inr ⟨LiveX.sr hj,(by intro x;cases x),(by intro x;cases x)⟩)
 have hnot:∀b,LiveX m b→b≠.slots→(val b).ownBlock=none∨(val b).ownBlock≠(val .slots).ownBlock:=fun b hb hne=>by
  cases hg:(val b).ownBlock with
  | none=>exact .inl rfl
  | some g=>exact .inr (fun x=>h.apart b .slots hb (LiveX.slots m) hne g hg x.symm)
 have hevn:es≠[]→ev.ownBlock=none∨ev.ownBlock≠(val .slots).ownBlock:=fun hne=>by
  cases hg:ev.ownBlock with
  | none=>exact .inl rfl
  | some g=>exact .inr (fun x=>hfar hne .slots (LiveX.slots m) (by intro y;cases y) g hg x.symm)
 have hsvfar:∀b,LiveX m b→b≠.slots→∀g,sv.ownBlock=some g→(val b).ownBlock≠some g:=fun b hb hne g hg hx=>by
  rcases hblk with e | e
  ·rw [e] at hg;exact h.apart b .slots hb (LiveX.slots m) hne g hx hg
  ·have:=((h.row b hb).lt g hx).2
   have:=e g hg
   omega
 have hsvev:es≠[]→∀g,sv.ownBlock=some g→ev.ownBlock≠some g:=fun hne g hg hx=>by
  rcases hblk with e | e
  ·rw [e] at hg;exact hfar hne .slots (LiveX.slots m) (by intro y;cases y) g hx hg
  ·have:=((hev hne).lt g hx).2
   have:=e g hg
   omega
 refine⟨fun b hb=>?_,fun b c hb hc hne q hq=>?_,fun j hj e=>?_⟩
 ·rcases hcase b hb with rfl | ⟨rfl,hes⟩ | ⟨hb',h1,h2⟩
  ·rw [hvs]
   have e1:rowV { m with slots:=m.slots ++ [(k,d,es)] } (upd (upd val (.tab m.slots.length) ev) .slots sv) .slots=flatS m.slots (fun j=>val (.tab j)) ++ [.int .i64 k,.string d,ev]:=by
    have:=flatS_snoc m.slots (fun j=>val (.tab j)) (fun j=>upd (upd val (.tab m.slots.length) ev) .slots sv (.tab j)) (k,d,es) (fun j hj=>hval _ (by intro x;cases x) (by intro x;injection x with _ x;omega))
    rw [hvt] at this
    exact this
   have e2:rowN { m with slots:=m.slots ++ [(k,d,es)] } .slots=m.slots.length+1:=by show (m.slots ++ [(k,d,es)]).length=_;simp
   rw [e1,e2];exact hrow
  ·rw [hvt]
   have e0:(m.slots ++ [(k,d,es)]).getD m.slots.length default=(k,d,es):=by simp [List.getD]
   have e1:rowV { m with slots:=m.slots ++ [(k,d,es)] } (upd (upd val (.tab m.slots.length) ev) .slots sv) (.tab m.slots.length)=ints es:=by
    show ints ((m.slots ++ [(k,d,es)]).getD m.slots.length default).2.2=_
    rw [e0]
   have e2:rowN { m with slots:=m.slots ++ [(k,d,es)] } (.tab m.slots.length)=es.length:=by
    show ((m.slots ++ [(k,d,es)]).getD m.slots.length default).2.2.length=_
    rw [e0]
   rw [e1,e2]
   exact (hev hes).kept hgrow (hevn hes)
  ·rw [hval b h1 h2]
   have e1:rowV { m with slots:=m.slots ++ [(k,d,es)] } (upd (upd val (.tab m.slots.length) ev) .slots sv) b=rowV m val b∧rowN { m with slots:=m.slots ++ [(k,d,es)] } b=rowN m b:=by
    rcases hb'.cases with rfl | rfl | rfl | rfl | ⟨j,rfl,hj⟩ | ⟨j,rfl,hj⟩
    ·exact⟨rfl,rfl⟩
    ·exact absurd rfl h1
    ·exact⟨rfl,rfl⟩
    ·refine⟨?_,rfl⟩
     show flatN m.snaps _=flatN m.snaps _
     unfold flatN
     refine congrArg List.flatten (List.map_congr_left fun j _=>?_)
     dsimp only
     rw [hval (.sr j) (by intro x;cases x) (by intro x;cases x)]
    ·have e:(m.slots ++ [(k,d,es)]).getD j default=m.slots.getD j default:=by simp [List.getD,List.getElem?_append,hj.1]
     constructor
     ·show ints ((m.slots ++ [(k,d,es)]).getD j default).2.2=_
      rw [e];rfl
     ·show ((m.slots ++ [(k,d,es)]).getD j default).2.2.length=_
      rw [e];rfl
    ·exact⟨rfl,rfl⟩
   rw [e1.1,e1.2]
   exact (h.row b hb').kept hgrow (hnot b hb' h1)
 ·rcases hcase b hb with rfl | ⟨rfl,hes⟩ | ⟨hb',h1,h2⟩
  ·rw [hvs] at hq
   rcases hcase c hc with rfl | ⟨rfl,hes2⟩ | ⟨hc',g1,g2⟩
   ·exact absurd rfl hne
   ·rw [hvt];exact hsvev hes2 q hq
   ·rw [hval c g1 g2];exact hsvfar c hc' g1 q hq
  ·rw [hvt] at hq
   rcases hcase c hc with rfl | ⟨rfl,hes2⟩ | ⟨hc',g1,g2⟩
   ·rw [hvs];exact fun x=>hsvev hes q x hq
   ·exact absurd rfl hne
   ·rw [hval c g1 g2];exact hfar hes c hc' g2 q hq
  ·rw [hval b h1 h2] at hq
   rcases hcase c hc with rfl | ⟨rfl,hes2⟩ | ⟨hc',g1,g2⟩
   ·rw [hvs];exact fun x=>hsvfar b hb' h1 q x hq
   ·rw [hvt];exact fun x=>hfar hes2 b hb' h2 q x hq
   ·rw [hval c g1 g2];exact h.apart b c hb' hc' hne q hq
 ·have hj:j<(m.slots ++ [(k,d,es)]).length:=hj
  have e:((m.slots ++ [(k,d,es)]).getD j default).2.2=[]:=e
  by_cases ej:j=m.slots.length
  ·subst ej
   rw [hvt]
   exact hev0 (by simpa [List.getD] using e)
  ·have hjl:j<m.slots.length:=by simp at hj;omega
   have e2:(m.slots ++ [(k,d,es)]).getD j default=m.slots.getD j default:=by simp [List.getD,List.getElem?_append,hjl]
   rw [hval _ (by intro x;cases x) (by intro x;injection x with _ x;exact ej x)]
   exact h.loose j hjl (by rw [e2] at e;exact e)
theorem flatN_snoc (L:List SnapD)(tv tv':Nat→Value)(s:SnapD)(htv:∀j,j<L.length→tv' j=tv j):flatN (L ++ [s]) tv'=flatN L tv ++ [.string s.1,.int .i64 s.2.1,tv' L.length]:=by
 unfold flatN
 rw [List.length_append,List.length_singleton,List.range_succ,List.flatMap_append]
 have e1:(List.range L.length).flatMap (fun j=>[Value.string ((L ++ [s]).getD j default).1,.int .i64 ((L ++ [s]).getD j default).2.1,tv' j])=(List.range L.length).flatMap (fun j=>[Value.string (L.getD j default).1,.int .i64 (L.getD j default).2.1,tv j]):=by
  refine congrArg List.flatten (List.map_congr_left fun j hj=>?_)
  have hj:=List.mem_range.1 hj
  have e:(L ++ [s]).getD j default=L.getD j default:=by simp [List.getD,List.getElem?_append,hj]
  rw [e,htv j hj]
 rw [e1]
 simp
theorem OX.addSnap {W W':World}{B:Nat}{val:Nm→Value}{m:ImgD}(h:OX W B val m){k:Int}{d:ByteArray}{es:List Int}{ev sv:Value}(hev:W.ownsRow B 3 1 ev es.length (ints es))(hfar:FarX m val (.sr m.snaps.length) ev)
  (hgrow:W.grownBy W' (val .snaps).ownBlock) (hrow:W'.ownsRow B 64 3 sv (m.snaps.length+1) (flatN m.snaps (fun j=>val (.sr j)) ++ [.string d,.int .i64 k,ev])) (hblk:sv.ownBlock=(val .snaps).ownBlock∨∀g,sv.ownBlock=some g→W.heap.size≤g) :
  OX W' B (upd (upd val (.sr m.snaps.length) ev) .snaps sv) { m with snaps:=m.snaps ++ [(d,k,es)] }:=by
 have hval:∀b,b≠.snaps→b≠.sr m.snaps.length→upd (upd val (.sr m.snaps.length) ev) .snaps sv b=val b:=fun b h1 h2=>by rw [upd_other _ sv h1,upd_other _ ev h2]
 have hvs:upd (upd val (.sr m.snaps.length) ev) .snaps sv .snaps=sv:=upd_same _ _ _
 have hvt:upd (upd val (.sr m.snaps.length) ev) .snaps sv (.sr m.snaps.length)=ev:=by rw [upd_other _ sv (by intro x;cases x),upd_same]
 have hcase:∀b,LiveX { m with snaps:=m.snaps ++ [(d,k,es)] } b→b=.snaps∨b=.sr m.snaps.length∨(LiveX m b∧b≠.snaps∧b≠.sr m.snaps.length):=fun b hb=>by
  rcases hb.cases with rfl | rfl | rfl | rfl | ⟨j,rfl,hj⟩ | ⟨j,rfl,hj⟩
  ·exact .inr (.inr ⟨LiveX.root m,(by intro x;cases x),(by intro x;cases x)⟩)
  ·exact .inr (.inr ⟨LiveX.slots m,(by intro x;cases x),(by intro x;cases x)⟩)
  ·exact .inr (.inr ⟨LiveX.refs m,(by intro x;cases x),(by intro x;cases x)⟩)
  ·exact .inl rfl
  ·exact .inr (.inr ⟨LiveX.tab hj,(by intro x;cases x),(by intro x;cases x)⟩)
  ·by_cases e:j=m.snaps.length
   ·subst e;exact .inr (.inl rfl)
   ·refine .inr (.inr ⟨LiveX.sr (by simp at hj;omega),(by intro x;cases x),?_⟩)
    intro x;apply e;injection x
 have hnot:∀b,LiveX m b→b≠.snaps→(val b).ownBlock=none∨(val b).ownBlock≠(val .snaps).ownBlock:=fun b hb hne=>by
  cases hg:(val b).ownBlock with
  | none=>exact .inl rfl
  | some g=>exact .inr (fun x=>h.apart b .snaps hb (LiveX.snaps m) hne g hg x.symm)
 have hevn:ev.ownBlock=none∨ev.ownBlock≠(val .snaps).ownBlock:=by
  cases hg:ev.ownBlock with
  | none=>exact .inl rfl
  | some g=>exact .inr (fun x=>hfar .snaps (LiveX.snaps m) (by intro y;cases y) g hg x.symm)
 have hsvfar:∀b,LiveX m b→b≠.snaps→∀g,sv.ownBlock=some g→(val b).ownBlock≠some g:=fun b hb hne g hg hx=>by
  rcases hblk with e | e
  ·rw [e] at hg;exact h.apart b .snaps hb (LiveX.snaps m) hne g hx hg
  ·have:=((h.row b hb).lt g hx).2
   have:=e g hg
   omega
 have hsvev:∀g,sv.ownBlock=some g→ev.ownBlock≠some g:=fun g hg hx=>by
  rcases hblk with e | e
  ·rw [e] at hg;exact hfar .snaps (LiveX.snaps m) (by intro y;cases y) g hx hg
  ·have:=(hev.lt g hx).2
   have:=e g hg
   omega
 refine⟨fun b hb=>?_,fun b c hb hc hne q hq=>?_,fun j hj e=>by rw [hval _ (by intro x;cases x) (by intro x;cases x)];exact h.loose j hj e⟩
 ·rcases hcase b hb with rfl | rfl | ⟨hb',h1,h2⟩
  ·rw [hvs]
   have e1:rowV { m with snaps:=m.snaps ++ [(d,k,es)] } (upd (upd val (.sr m.snaps.length) ev) .snaps sv) .snaps=flatN m.snaps (fun j=>val (.sr j)) ++ [.string d,.int .i64 k,ev]:=by
    have:=flatN_snoc m.snaps (fun j=>val (.sr j)) (fun j=>upd (upd val (.sr m.snaps.length) ev) .snaps sv (.sr j)) (d,k,es) (fun j hj=>hval _ (by intro x;cases x) (by intro x;injection x with _ x;omega))
    rw [hvt] at this
    exact this
   have e2:rowN { m with snaps:=m.snaps ++ [(d,k,es)] } .snaps=m.snaps.length+1:=by show (m.snaps ++ [(d,k,es)]).length=_;simp
   rw [e1,e2];exact hrow
  ·rw [hvt]
   have e0:(m.snaps ++ [(d,k,es)]).getD m.snaps.length default=(d,k,es):=by simp [List.getD]
   have e1:rowV { m with snaps:=m.snaps ++ [(d,k,es)] } (upd (upd val (.sr m.snaps.length) ev) .snaps sv) (.sr m.snaps.length)=ints es:=by
    show ints ((m.snaps ++ [(d,k,es)]).getD m.snaps.length default).2.2=_
    rw [e0]
   have e2:rowN { m with snaps:=m.snaps ++ [(d,k,es)] } (.sr m.snaps.length)=es.length:=by
    show ((m.snaps ++ [(d,k,es)]).getD m.snaps.length default).2.2.length=_
    rw [e0]
   rw [e1,e2]
   exact hev.kept hgrow hevn
  ·rw [hval b h1 h2]
   have e1:rowV { m with snaps:=m.snaps ++ [(d,k,es)] } (upd (upd val (.sr m.snaps.length) ev) .snaps sv) b=rowV m val b∧rowN { m with snaps:=m.snaps ++ [(d,k,es)] } b=rowN m b:=by
    rcases hb'.cases with rfl | rfl | rfl | rfl | ⟨j,rfl,hj⟩ | ⟨j,rfl,hj⟩
    ·exact⟨rfl,rfl⟩
    ·refine⟨?_,rfl⟩
     show flatS m.slots _=flatS m.slots _
     unfold flatS
     refine congrArg List.flatten (List.map_congr_left fun j _=>?_)
     dsimp only
     rw [hval (.tab j) (by intro x;cases x) (by intro x;cases x)]
    ·exact⟨rfl,rfl⟩
    ·exact absurd rfl h1
    ·exact⟨rfl,rfl⟩
    ·have e:(m.snaps ++ [(d,k,es)]).getD j default=m.snaps.getD j default:=by simp [List.getD,List.getElem?_append,hj]
     constructor
     ·show ints ((m.snaps ++ [(d,k,es)]).getD j default).2.2=_
      rw [e];rfl
     ·show ((m.snaps ++ [(d,k,es)]).getD j default).2.2.length=_
      rw [e];rfl
   rw [e1.1,e1.2]
   exact (h.row b hb').kept hgrow (hnot b hb' h1)
 ·rcases hcase b hb with rfl | rfl | ⟨hb',h1,h2⟩
  ·rw [hvs] at hq
   rcases hcase c hc with rfl | rfl | ⟨hc',g1,g2⟩
   ·exact absurd rfl hne
   ·rw [hvt];exact hsvev q hq
   ·rw [hval c g1 g2];exact hsvfar c hc' g1 q hq
  ·rw [hvt] at hq
   rcases hcase c hc with rfl | rfl | ⟨hc',g1,g2⟩
   ·rw [hvs];exact fun x=>hsvev q x hq
   ·exact absurd rfl hne
   ·rw [hval c g1 g2];exact hfar c hc' g2 q hq
  ·rw [hval b h1 h2] at hq
   rcases hcase c hc with rfl | rfl | ⟨hc',g1,g2⟩
   ·rw [hvs];exact fun x=>hsvfar b hb' h1 q x hq
   ·rw [hvt];exact fun x=>hfar b hb' h2 q x hq
   ·rw [hval c g1 g2];exact h.apart b c hb' hc' hne q hq
theorem OX.far {W:World}{B:Nat}{val:Nm→Value}{m:ImgD}(h:OX W B val m){g i:Nat}{u:Value}(hg:∀a,LiveX m a→(val a).ownBlock≠some g):OX (W.setCell ⟨g,i,none⟩ u) B val m:=
 ⟨fun a ha=>ownsRow_setCell_other (h.row a ha) (hg a ha) u,h.apart,h.loose⟩
theorem OX.lt {W:World}{B:Nat}{val:Nm→Value}{m:ImgD}(h:OX W B val m){g:Nat}(hg:W.heap.size≤g):∀a,LiveX m a→(val a).ownBlock≠some g:=fun a ha e=>by
 have:=((h.row a ha).lt g e).2
 omega
theorem addX_far {m:ImgD}{val:Nm→Value}{ev sv:Value}{s:SlotD}{g:Nat}(h1:∀a,LiveX m a→(val a).ownBlock≠some g)(h2:s.2.2≠[]→ev.ownBlock≠some g)(h3:sv.ownBlock≠some g) :
  ∀a,LiveX { m with slots:=m.slots ++ [s] } a→(upd (upd val (.tab m.slots.length) ev) .slots sv a).ownBlock≠some g:=fun a ha=>by
 by_cases e1:a=.slots
 ·subst e1;rw [upd_same];exact h3
 rw [upd_other _ _ e1]
 by_cases e2:a=.tab m.slots.length
 ·subst e2
  rw [upd_same]
  refine h2 ?_
  rcases ha.cases with x | x | x | x | ⟨j,x,hj⟩ | ⟨j,x,hj⟩ <;> try (cases x)
  have hj:((m.slots ++ [s]).getD m.slots.length default).2.2≠[]:=hj.2
  simpa [List.getD] using hj
 rw [upd_other _ _ e2]
 apply h1
 rcases ha.cases with rfl | rfl | rfl | rfl | ⟨j,rfl,hj⟩ | ⟨j,rfl,hj⟩
 ·exact LiveX.root m
 ·exact LiveX.slots m
 ·exact LiveX.refs m
 ·exact LiveX.snaps m
 ·obtain⟨hj,hjn⟩:=hj
  have hj:j<(m.slots ++ [s]).length:=hj
  rw [List.length_append,List.length_singleton] at hj
  rcases Nat.lt_or_ge j m.slots.length with h | h
  ·refine LiveX.tab ⟨h,?_⟩
   have hjn:((m.slots ++ [s]).getD j default).2.2≠[]:=hjn
   have e:(m.slots ++ [s]).getD j default=m.slots.getD j default:=by simp [List.getD,List.getElem?_append,h]
   rwa [e] at hjn
  ·exact absurd (by rw [show j=m.slots.length by omega]) e2
 ·exact LiveX.sr hj
theorem setX_far {m:ImgD}{val:Nm→Value}{ev:Value}{s:SlotD}{g i:Nat}(h1:∀a,LiveX m a→(val a).ownBlock≠some g)(h2:ev.ownBlock≠some g) :
  ∀a,LiveX { m with slots:=m.slots.set i s } a→(upd val (.tab i) ev a).ownBlock≠some g:=fun a ha=>by
 by_cases e2:a=.tab i
 ·subst e2;rw [upd_same];exact h2
 rw [upd_other _ _ e2]
 apply h1
 rcases ha.cases with rfl | rfl | rfl | rfl | ⟨j,rfl,hj⟩ | ⟨j,rfl,hj⟩
 ·exact LiveX.root m
 ·exact LiveX.slots m
 ·exact LiveX.refs m
 ·exact LiveX.snaps m
 ·refine LiveX.tab ⟨?_,?_⟩
  ·have:=hj.1
   rwa [show (m.slots.set i s).length=m.slots.length from List.length_set] at this
  ·have:=hj.2
   have e:tbl { m with slots:=m.slots.set i s } j=tbl m j:=by
    show ((m.slots.set i s).getD j default).2.2=_
    rw [getD_setR,if_neg (fun x=>e2 (by rw [x.1]))]
   rwa [e] at this
 ·exact LiveX.sr hj
theorem ownX_old {W:World}{B:Nat}{val:Nm→Value}{m:ImgD}(h:OX W B val m){a:Nm}(ha:LiveX m a){v:Value}(hv:val a=v){g:Nat}(hg:W.heap.size≤g):some g≠v.ownBlock:=by
 subst hv;exact fun e=>h.lt hg a ha e.symm
def SrcX (w:World) (m:ImgD) (val:Nm→Value) (ev:Value) (m':ImgD) (val':Nm→Value):Prop:=∀g,g<w.heap.size→ev.ownBlock≠some g→(∀b,LiveX m b→(val b).ownBlock≠some g)→∀a,LiveX m' a→(val' a).ownBlock≠some g
def KeepX (w w':World) (m:ImgD) (val:Nm→Value):Prop:=∀q,q<w.heap.size→(∀a,LiveX m a→(val a).ownBlock≠some q)→w'.heap[q]? = w.heap[q]?
theorem KeepX.refl (w:World)(m:ImgD)(val:Nm→Value):KeepX w w m val:=fun _ _ _=>rfl
theorem KeepX.alloc {w W:World}{m:ImgD}{val:Nm→Value}(h:KeepX w W m val)(hs:w.heap.size≤W.heap.size)(o:Obj):KeepX w (W.alloc o) m val:=fun q hq hn=>(Below.heap_alloc W o q (by omega)).trans (h q hq hn)
theorem KeepX.own {w W:World}{m:ImgD}{val:Nm→Value}(h:KeepX w W m val){a:Nm}(ha:LiveX m a){g n c:Nat}(hg:val a=.slice (some ⟨g,0,none⟩) n c){i:Nat}{v:Value} : KeepX w (W.setCell ⟨g,i,none⟩ v) m val:=fun q hq hn=>
 (Below.heap_setCell W ⟨g,i,none⟩ v q (fun e=>hn a ha (by rw [hg];exact congrArg some e.symm))).trans (h q hq hn)
theorem KeepX.new {w W:World}{m:ImgD}{val:Nm→Value}(h:KeepX w W m val){g i:Nat}(hg:w.heap.size≤g){v:Value} : KeepX w (W.setCell ⟨g,i,none⟩ v) m val:=fun q hq hn=>
 (Below.heap_setCell W ⟨g,i,none⟩ v q (fun e=>by have e:q=g:=e;omega)).trans (h q hq hn)
theorem KeepX.grown {w W W':World}{m:ImgD}{val:Nm→Value}(h:KeepX w W m val)(hs:w.heap.size≤W.heap.size){a:Nm}(ha:LiveX m a){v:Value}(hv:val a=v)(hg:W.grownBy W' v.ownBlock):KeepX w W' m val:=fun q hq hn=>
 (hg.block q (by omega) (fun e=>hn a ha (by rw [hv];exact e.symm))).trans (h q hq hn)
theorem KeepX.below {w W W':World}{m:ImgD}{val:Nm→Value}(h:KeepX w W m val){n:Nat}(hs:w.heap.size≤n)(hg:Below n W W'):KeepX w W' m val:=fun q hq hn=>(hg.block q (by omega)).trans (h q hq hn)
theorem OX.forms {W:World}{B:Nat}{val:Nm→Value}{m:ImgD}(h:OX W B val m)(a:Nm)(ha:LiveX m a):∃ao cap,val a=.slice ao (rowN m a) cap∧(0<rowN m a→∃g,ao=some ⟨g,0,none⟩):=by
 rcases row_form (h.row a ha) with ⟨e,hn⟩ | ⟨g,cap,e,_⟩
 ·exact⟨none,0,by rw [e,hn],fun hp=>absurd hp (by omega)⟩
 ·exact⟨_,cap,e,fun _=>⟨g,rfl⟩⟩
end Go.Proofs.YtehleeibgkpjmafGreat
