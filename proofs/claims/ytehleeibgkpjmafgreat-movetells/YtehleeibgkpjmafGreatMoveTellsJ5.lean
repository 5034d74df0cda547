/- Texts joined: OwnI, PkT, PkQ, OwnJ, CopyI, LayI, TabI, CtdI, DeskI, SetI. -/
import Derived.Test.YtehleeibgkpjmafGreatMoveTellsJ1
import Derived.OneCell
import Derived.Laws.OwnMore
import Derived.Test.YtehleeibgkpjmafGreatMoveTellsJ4
import Derived.Test.YtehleeibgkpjmafGreatMoveTellsJ2
import Derived.Maps.AppendAt
import Derived.Deep.AppendLies
import Derived.Test.YtehleeibgkpjmafGreatMoveTellsJ3
set_option linter.unusedVariables false
set_option linter.unusedSimpArgs false
namespace Go.Proofs.YtehleeibgkpjmafGreat
open Go.RowKit
set_option maxRecDepth 20000
structure Nm where
 kind:Nat
 ix:Nat
abbrev Nm.root:Nm:=⟨0,0⟩
abbrev Nm.slots:Nm:=⟨1,0⟩
abbrev Nm.refs:Nm:=⟨2,0⟩
abbrev Nm.snaps:Nm:=⟨3,0⟩
abbrev Nm.tab (j:Nat):Nm:=⟨4,j⟩
abbrev Nm.sr (j:Nat):Nm:=⟨5,j⟩
def Live (m:ImgD) (a:Nm):Prop:=(a.kind<4∧a.ix=0)∨(a.kind=4∧a.ix<m.slots.length)∨(a.kind=5∧a.ix<m.snaps.length)
theorem Live.cases {m:ImgD}{a:Nm}(h:Live m a):a=.root∨a=.slots∨a=.refs∨a=.snaps∨(∃j,a=.tab j∧j<m.slots.length)∨∃j,a=.sr j∧j<m.snaps.length:=by
 obtain⟨k,j⟩:=a
 rcases h with ⟨h1,h2⟩ | ⟨h1,h2⟩ | ⟨h1,h2⟩
 ·dsimp only at h1 h2
  subst h2
  match k,h1 with
  | 0,_=>exact .inl rfl
  | 1,_=>exact .inr (.inl rfl)
  | 2,_=>exact .inr (.inr (.inl rfl))
  | 3,_=>exact .inr (.inr (.inr (.inl rfl)))
 ·dsimp only at h1 h2;subst h1;exact .inr (.inr (.inr (.inr (.inl ⟨j,rfl,h2⟩))))
 ·dsimp only at h1 h2;subst h1;exact .inr (.inr (.inr (.inr (.inr ⟨j,rfl,h2⟩))))
theorem Live.root (m:ImgD):Live m .root:=.inl ⟨by decide,rfl⟩
theorem Live.slots (m:ImgD):Live m .slots:=.inl ⟨by decide,rfl⟩
theorem Live.refs (m:ImgD):Live m .refs:=.inl ⟨by decide,rfl⟩
theorem Live.snaps (m:ImgD):Live m .snaps:=.inl ⟨by decide,rfl⟩
theorem Live.tab {m:ImgD}{j:Nat}(h:j<m.slots.length):Live m (.tab j):=.inr (.inl ⟨rfl,h⟩)
theorem Live.sr {m:ImgD}{j:Nat}(h:j<m.snaps.length):Live m (.sr j):=.inr (.inr ⟨rfl,h⟩)
theorem live_iff {m m':ImgD}(h1:m'.slots.length=m.slots.length)(h2:m'.snaps.length=m.snaps.length)(b:Nm):Live m' b↔Live m b:=by unfold Live;rw [h1,h2]
def flatS (L:List SlotD) (tv:Nat→Value):List Value:=(List.range L.length).flatMap (fun j=>[.int .i64 (L.getD j default).1,.string (L.getD j default).2.1,tv j])
def flatN (S:List SnapD) (qv:Nat→Value):List Value:=(List.range S.length).flatMap (fun j=>[.string (S.getD j default).1,.int .i64 (S.getD j default).2.1,qv j])
def ints (l:List Int):List Value:=l.map (Value.int .i64)
def rowT (a:Nm):TypeId:=match a.kind with | 1=>61 | 3=>64 | _=>3
def rowS (a:Nm):Nat:=match a.kind with | 1=>3 | 3=>3 | _=>1
def rowN (m:ImgD) (a:Nm):Nat:=match a.kind with
 | 0=>m.root.length
 | 1=>m.slots.length
 | 2=>m.refs.length
 | 3=>m.snaps.length
 | 4=>(m.slots.getD a.ix default).2.2.length
 | _=>(m.snaps.getD a.ix default).2.2.length
def rowV (m:ImgD) (val:Nm→Value) (a:Nm):List Value:=match a.kind with
 | 0=>ints m.root
 | 1=>flatS m.slots (fun j=>val (.tab j))
 | 2=>ints m.refs
 | 3=>flatN m.snaps (fun j=>val (.sr j))
 | 4=>ints (m.slots.getD a.ix default).2.2
 | _=>ints (m.snaps.getD a.ix default).2.2
def imgV (g:Int) (val:Nm→Value):Value:=.agg #[.int .i64 g,val .root,val .slots,val .refs,val .snaps]
structure OI (W:World) (B:Nat) (val:Nm→Value) (m:ImgD):Prop where
 row:∀a,Live m a→W.ownsRow B (rowT a) (rowS a) (val a) (rowN m a) (rowV m val a)
 apart:∀a b,Live m a→Live m b→a≠b→∀g,(val a).ownBlock=some g→(val b).ownBlock≠some g
theorem OI.keep {W W':World}{B:Nat}{val:Nm→Value}{m:ImgD}(h:OI W B val m)(hk:∀g,B≤g→g<W.heap.size→W'.heap[g]? = W.heap[g]?):OI W' B val m:=by
 refine⟨fun a ha=>?_,h.apart⟩
 have hr:=h.row a ha
 refine⟨hr.1,?_⟩
 rcases hr.2 with hn | ⟨g,cap,cur,hv,hb,hg,rest⟩
 ·exact .inl hn
 ·exact .inr ⟨g,cap,cur,hv,hb,(hk g hb (szH hg)).trans hg,rest⟩
theorem OI.below {W W':World}{B:Nat}{val:Nm→Value}{m:ImgD}(h:OI W B val m)(hb:Below W.heap.size W W'):OI W' B val m:=h.keep fun g _ hg=>hb.block g hg
theorem OI.alloc {W:World}{B:Nat}{val:Nm→Value}{m:ImgD}(h:OI W B val m)(o:Obj):OI (W.alloc o) B val m:=h.below ((Below.refl _ _).alloc (Nat.le_refl _) o)
theorem OI.drew {W:World}{B:Nat}{val:Nm→Value}{m:ImgD}(h:OI W B val m):OI W.drew B val m:=⟨fun a ha=>(h.row a ha).drew,h.apart⟩
theorem ints_length (l:List Int):(ints l).length=l.length:=by simp [ints]
theorem row_sl {W:World}{B:Nat}{v:Value}{l:List Int}(h:W.ownsRow B 3 1 v l.length (ints l)):Sl W v l:=by
 rcases h.2 with ⟨rfl,hn⟩ | ⟨g,cap,cur,rfl,_⟩
 ·have:l=[]:=List.eq_nil_of_length_eq_zero hn
  subst this;exact Sl.nil W
 ·exact Sl_of_own h
theorem flat3_get (f:Nat→Value × Value × Value):∀ (n j i:Nat),j<n→i<3→((List.range n).flatMap (fun j=>[(f j).1,(f j).2.1,(f j).2.2]))[j*3+i]? = some (if i=0 then (f j).1 else if i=1 then (f j).2.1 else (f j).2.2)
 | 0,j,i,hj,_=>absurd hj (by omega)
 | n+1,j,i,hj,hi=>by
  have hl:∀n,((List.range n).flatMap (fun j=>[(f j).1,(f j).2.1,(f j).2.2])).length=n*3:=fun n=>by
   induction n with
   | zero=>rfl
   | succ n ih=>rw [List.range_succ,List.flatMap_append,List.length_append,ih];simp;omega
  rw [List.range_succ,List.flatMap_append]
  by_cases e:j<n
  ·rw [List.getElem?_append_left (by rw [hl];omega)]
   exact flat3_get f n j i e hi
  ·have:j=n:=by omega
   subst this
   rw [List.getElem?_append_right (by rw [hl];omega),hl]
   match i,hi with
   | 0,_=>simp
   | 1,_=>simp
   | 2,_=>simp
theorem flatS_get {L:List SlotD}{tv:Nat→Value}{j:Nat}(hj:j<L.length):(flatS L tv)[j*3]? = some (.int .i64 (L.getD j default).1)∧(flatS L tv)[j*3+1]? = some (.string (L.getD j default).2.1)∧(flatS L tv)[j*3+2]? = some (tv j):=by
 have h:=fun i hi=>flat3_get (fun j=>(.int .i64 (L.getD j default).1,.string (L.getD j default).2.1,tv j)) L.length j i hj hi
 exact⟨h 0 (by omega),h 1 (by omega),h 2 (by omega)⟩
theorem flatN_get {S:List SnapD}{qv:Nat→Value}{j:Nat}(hj:j<S.length):(flatN S qv)[j*3]? = some (.string (S.getD j default).1)∧(flatN S qv)[j*3+1]? = some (.int .i64 (S.getD j default).2.1)∧(flatN S qv)[j*3+2]? = some (qv j):=by
 have h:=fun i hi=>flat3_get (fun j=>(.string (S.getD j default).1,.int .i64 (S.getD j default).2.1,qv j)) S.length j i hj hi
 exact⟨h 0 (by omega),h 1 (by omega),h 2 (by omega)⟩
theorem row_lt {W:World}{B:Nat}{e:TypeId}{size g n cap:Nat}{xs:List Value}(h:W.ownsRow B e size (.slice (some ⟨g,0,none⟩) n cap) n xs):B≤g∧g<W.heap.size∧n≤cap∧cap≤maxLen:=by
 rcases h.2 with ⟨h',_⟩ | ⟨g',cap',cur,h',hb,hg,hnc,hcm,_⟩
 ·simp at h'
 ·simp only [Value.slice.injEq,Option.some.injEq,Addr.mk.injEq,and_true,true_and] at h'
  obtain⟨rfl,rfl⟩:=h'
  exact⟨hb,(szH hg),hnc,hcm⟩
theorem row_form {W:World}{B:Nat}{e:TypeId}{size n:Nat}{v:Value}{xs:List Value}(h:W.ownsRow B e size v n xs):(v=.slice none 0 0∧n=0)∨∃g cap,v=.slice (some ⟨g,0,none⟩) n cap∧B≤g∧g<W.heap.size∧n≤cap∧cap≤maxLen:=by
 have h':=h
 rcases h.2 with hn | ⟨g,cap,cur,rfl,_⟩
 ·exact .inl hn
 ·exact .inr ⟨g,cap,rfl,row_lt h'⟩
theorem row_slots {W:World}{B:Nat}{v:Value}{L:List SlotD}{tv:Nat→Value}(h:W.ownsRow B 61 3 v L.length (flatS L tv))(ht:∀j,j<L.length→Sl W (tv j) (L.getD j default).2.2):Slots W v L:=by
 have h':=h
 rcases row_form h with ⟨rfl,hn⟩ | ⟨g,cap,rfl,hb,hg,hnc,hcm⟩
 ·have:L=[]:=List.eq_nil_of_length_eq_zero hn
  subst this;exact⟨none,0,rfl,Nat.zero_le _,Nat.zero_le _,fun h=>absurd rfl h⟩
 ·refine⟨_,cap,rfl,Nat.le_trans hnc hcm,hnc,fun _=>⟨g,0,rfl,hg,fun j hj=>?_⟩⟩
  have hc:=fun i (hi:i<3)=>h'.cellAt (j*3+i) (by omega)
  obtain⟨g0,g1,g2⟩:=flatS_get (tv:=tv) hj
  have e:L[j]=L.getD j default:=by simp [List.getD,hj]
  rw [e,Nat.zero_add]
  exact⟨tv j,(hc 0 (by omega)).trans g0,(hc 1 (by omega)).trans g1,(hc 2 (by omega)).trans g2,ht j hj⟩
theorem row_snaps {W:World}{B:Nat}{v:Value}{S:List SnapD}{qv:Nat→Value}(h:W.ownsRow B 64 3 v S.length (flatN S qv))(ht:∀j,j<S.length→Sl W (qv j) (S.getD j default).2.2):Snaps W v S:=by
 have h':=h
 rcases row_form h with ⟨rfl,hn⟩ | ⟨g,cap,rfl,hb,hg,hnc,hcm⟩
 ·have:S=[]:=List.eq_nil_of_length_eq_zero hn
  subst this;exact⟨none,0,rfl,Nat.zero_le _,Nat.zero_le _,fun h=>absurd rfl h⟩
 ·refine⟨_,cap,rfl,Nat.le_trans hnc hcm,hnc,fun _=>⟨g,0,rfl,hg,fun j hj=>?_⟩⟩
  have hc:=fun i (hi:i<3)=>h'.cellAt (j*3+i) (by omega)
  obtain⟨g0,g1,g2⟩:=flatN_get (qv:=qv) hj
  have e:S[j]=S.getD j default:=by simp [List.getD,hj]
  rw [e,Nat.zero_add]
  exact⟨qv j,(hc 0 (by omega)).trans g0,(hc 1 (by omega)).trans g1,(hc 2 (by omega)).trans g2,ht j hj⟩
theorem OI.img {W:World}{B:Nat}{val:Nm→Value}{m:ImgD}(h:OI W B val m):Img W (imgV m.guest val) m:=
 ⟨_,_,_,_,rfl,row_sl (h.row .root (Live.root m)),row_slots (h.row .slots (Live.slots m)) (fun j hj=>row_sl (h.row (.tab j) (Live.tab hj))),row_sl (h.row .refs (Live.refs m)),row_snaps (h.row .snaps (Live.snaps m)) (fun j hj=>row_sl (h.row (.sr j) (Live.sr hj)))⟩
theorem OI.store {W:World}{B:Nat}{val:Nm→Value}{m m':ImgD}(h:OI W B val m){a:Nm}(ha:Live m a){g n cap:Nat}(hv:val a=.slice (some ⟨g,0,none⟩) n cap)(i:Nat)(u:Value)
  (hlive:∀b,Live m' b↔Live m b) (hn:∀b,Live m b→rowN m' b=rowN m b) (hsame:∀b,Live m b→b≠a→rowV m' val b=rowV m val b) (hset:rowV m' val a=(rowV m val a).set i u):OI (W.setCell ⟨g,i,none⟩ u) B val m':=by
 refine⟨fun b hb=>?_,fun b c hb hc=>h.apart b c ((hlive b).1 hb) ((hlive c).1 hc)⟩
 have hb:=(hlive b).1 hb
 rw [hn b hb]
 by_cases e:b=a
 ·subst e
  have hr:=h.row b hb
  rw [hset]
  have hnn:n=rowN m b:=by
   rcases row_form hr with ⟨e,_⟩ | ⟨g',cap',e,_⟩
   ·rw [hv] at e;simp at e
   ·rw [hv] at e;simp at e;exact e.2.1
  subst hnn
  rw [hv] at hr ⊢
  exact (hr.stored i u).1
 ·rw [hsame b hb e]
  exact ownsRow_setCell_other (h.row b hb) (h.apart a b ha hb (fun x=>e x.symm) g (by rw [hv];rfl)) u
theorem getD_setR (l:List SlotD)(i j:Nat)(s:SlotD):(l.set i s).getD j default=if i=j∧j<l.length then s else l.getD j default:=by
 by_cases hj:j<l.length
 ·by_cases e:i=j
  ·subst e;simp [List.getD,hj]
  ·simp [List.getD,e]
 ·simp [List.getD,hj]
theorem ints_set (l:List Int)(i:Nat)(x:Int):ints (l.set i x)=(ints l).set i (.int .i64 x):=by unfold ints;rw [List.map_set]
theorem OI.setRoot {W:World}{B:Nat}{val:Nm→Value}{m:ImgD}(h:OI W B val m){g n cap:Nat}(hv:val .root=.slice (some ⟨g,0,none⟩) n cap)(i:Nat)(x:Int):OI (W.setCell ⟨g,i,none⟩ (.int .i64 x)) B val { m with root:=m.root.set i x }:=by
 refine h.store (a:=.root) (Live.root m) hv i _ (live_iff rfl rfl) (fun b hb=>?_) (fun b hb hne=>?_) (ints_set _ _ _)
 ·rcases hb.cases with rfl | rfl | rfl | rfl | ⟨j,rfl,hj⟩ | ⟨j,rfl,hj⟩ <;> first | rfl | exact List.length_set
 ·rcases hb.cases with rfl | rfl | rfl | rfl | ⟨j,rfl,hj⟩ | ⟨j,rfl,hj⟩ <;> first | rfl | exact absurd rfl hne
theorem OI.setRefs {W:World}{B:Nat}{val:Nm→Value}{m:ImgD}(h:OI W B val m){g n cap:Nat}(hv:val .refs=.slice (some ⟨g,0,none⟩) n cap)(i:Nat)(x:Int):OI (W.setCell ⟨g,i,none⟩ (.int .i64 x)) B val { m with refs:=m.refs.set i x }:=by
 refine h.store (a:=.refs) (Live.refs m) hv i _ (live_iff rfl rfl) (fun b hb=>?_) (fun b hb hne=>?_) (ints_set _ _ _)
 ·rcases hb.cases with rfl | rfl | rfl | rfl | ⟨j,rfl,hj⟩ | ⟨j,rfl,hj⟩ <;> first | rfl | exact List.length_set
 ·rcases hb.cases with rfl | rfl | rfl | rfl | ⟨j,rfl,hj⟩ | ⟨j,rfl,hj⟩ <;> first | rfl | exact absurd rfl hne
theorem OI.setTab {W:World}{B:Nat}{val:Nm→Value}{m:ImgD}(h:OI W B val m){t:Nat}(ht:t<m.slots.length){g n cap:Nat}(hv:val (.tab t)=.slice (some ⟨g,0,none⟩) n cap)(i:Nat)(x:Int) :
  OI (W.setCell ⟨g,i,none⟩ (.int .i64 x)) B val { m with slots:=m.slots.set t ((m.slots.getD t default).1,(m.slots.getD t default).2.1,(m.slots.getD t default).2.2.set i x) }:=by
 have hg:=fun j=>getD_setR m.slots t j ((m.slots.getD t default).1,(m.slots.getD t default).2.1,(m.slots.getD t default).2.2.set i x)
 refine h.store (a:=.tab t) (Live.tab ht) hv i _ (live_iff List.length_set rfl) (fun b hb=>?_) (fun b hb hne=>?_) ?_
 ·rcases hb.cases with rfl | rfl | rfl | rfl | ⟨j,rfl,hj⟩ | ⟨j,rfl,hj⟩ <;> first | rfl | exact List.length_set | skip
  show ((m.slots.set t _).getD j default).2.2.length=(m.slots.getD j default).2.2.length
  rw [hg]
  split
  ·rename_i e;rw [←e.1];exact List.length_set
  ·rfl
 ·rcases hb.cases with rfl | rfl | rfl | rfl | ⟨j,rfl,hj⟩ | ⟨j,rfl,hj⟩ <;> first | rfl | skip
  ·show flatS (m.slots.set t _) _=flatS m.slots _
   unfold flatS
   rw [List.length_set]
   refine congrArg List.flatten (List.map_congr_left fun j _=>?_)
   rw [hg]
   split
   ·rename_i e;rw [←e.1]
   ·rfl
  ·show ints ((m.slots.set t _).getD j default).2.2=ints (m.slots.getD j default).2.2
   rw [hg,if_neg (fun e=>hne (by rw [e.1]))]
 ·show ints ((m.slots.set t _).getD t default).2.2=(ints (m.slots.getD t default).2.2).set i _
  rw [hg,if_pos ⟨rfl,ht⟩];exact ints_set _ _ _
end Go.Proofs.YtehleeibgkpjmafGreat
namespace Go.Proofs.YtehleeibgkpjmafGreat
open Go.RowKit Go.Shelf
set_option maxRecDepth 20000
set_option linter.unusedVariables false
set_option linter.unusedSimpArgs false
theorem grown_trans {a b c:World}{row:Option Nat}(h:a.grownBy b row)(k:b.grownBy c row):a.grownBy c row:=
 ⟨k.os.trans h.os,k.tape.trans h.tape,k.output.trans h.output,Nat.le_trans h.size k.size,fun q hq hr=>(k.block q (Nat.lt_of_lt_of_le hq h.size) hr).trans (h.block q hq hr)⟩
def NumB (W:World) (bm r:Nat) (L:List SlotD):Prop:=W.heap[bm]? = some (.cells #[.map (some r)] 67)∧W.heap[r]? = some (.map ((entK L ((List.range L.length).filter (kept L))).toArray) (rnk L L.length))
set_option maxHeartbeats 1000000 in
theorem turn_is {W:World}{bm r:Nat}{L:List SlotD}(h:NumB W bm r L)(e:Int){x:Int}(hx:ren L e=x) :
  Calls Tryz.prog 44 #[.int .i64 e,.pointer (some ⟨bm,0,none⟩)] W fun q W'=>q=.returned (.int .i64 x)∧W'=W:=by
 have c0:W.cell? ⟨bm,0,none⟩=some (.map (some r)):=by simp [World.cell?,h.1]
 subst hx
 by_cases hk:0≤e∧e.toNat<L.length∧kept L e.toNat=true
 ·obtain⟨k,rfl⟩:=Int.eq_ofNat_of_zero_le hk.1
  rw [Int.toNat_natCast] at hk
  obtain⟨p,hp⟩:=find_at (L:=L) (l:=(List.range L.length).filter (kept L)) (k:=k) (List.mem_filter.2 ⟨List.mem_range.2 hk.2.1,hk.2.2⟩) 0
  have hl:=look_run (P:=Tryz.prog) (w:=W) 67 3 3 r (rnk L L.length) ((entK L ((List.range L.length).filter (kept L))).toArray) (k:Int) (.int .i64 (rnk L k:Int)) p Tryz.underlying67 Tryz.underlying3 h.2 (by simpa using hp)
  rw [ren_at hk.2.1 hk.2.2]
  clear h hk hp
  go_enter Tryz.func44,Tryz.ntmps44
  go_wp2_with fail
  go_ret
  exact⟨rfl,rfl⟩
 ·have hn:∀j ∈ (List.range L.length).filter (kept L),(j:Int)≠e:=fun j hj x=>by
   obtain⟨h1,h2⟩:=List.mem_filter.1 hj
   have h1:=List.mem_range.1 h1
   subst x
   exact hk ⟨Int.natCast_nonneg _,by rw [Int.toNat_natCast];exact h1,by rw [Int.toNat_natCast];exact h2⟩
  have hl:=look_none (P:=Tryz.prog) (w:=W) 67 3 3 r (rnk L L.length) ((entK L ((List.range L.length).filter (kept L))).toArray) e (.int .i64 0) Tryz.underlying67 Tryz.underlying3 h.2 (by simpa using find_no (L:=L) hn 0) (by kernel_rfl)
  have e1:ren L e=e:=by unfold ren;rw [if_neg hk]
  rw [e1]
  clear h hk hn e1
  go_enter Tryz.func44,Tryz.ntmps44
  go_wp2_with fail
  go_ret
  exact⟨rfl,rfl⟩
def mapTo (f:Int→Int) (k:Nat) (xs:List Int):List Int:=(xs.take k).map f ++ xs.drop k
theorem mapTo_get {f:Int→Int}{k:Nat}{xs:List Int}(hk:k<xs.length):(mapTo f k xs)[k]? = some xs[k]:=by
 have ht:((xs.take k).map f).length=k:=by rw [List.length_map,List.length_take];omega
 unfold mapTo
 rw [List.getElem?_append_right (by omega),ht,Nat.sub_self,List.getElem?_drop,Nat.add_zero,List.getElem?_eq_getElem hk]
theorem mapTo_succ {f:Int→Int}{k:Nat}{xs:List Int}(hk:k<xs.length):mapTo f (k+1) xs=(mapTo f k xs).set k (f xs[k]):=by
 have ht:((xs.take k).map f).length=k:=by rw [List.length_map,List.length_take];omega
 unfold mapTo
 rw [List.set_append,ht,if_neg (Nat.lt_irrefl k),Nat.sub_self,List.drop_eq_getElem_cons hk,List.set_cons_zero,← List.take_append_getElem hk,List.map_append,List.append_assoc]
 rfl
theorem mapTo_end (f:Int→Int)(xs:List Int):mapTo f xs.length xs=xs.map f:=by unfold mapTo;rw [List.take_length,List.drop_length,List.append_nil]
set_option maxHeartbeats 2000000 in
theorem turnAll_at (g cap bm r B:Nat)(L:List SlotD)(xs:List Int)(W:World)(hm:xs.length≤1000)(HR:Hid (W.ownsRow B 3 1 (.slice (some ⟨g,0,none⟩) xs.length cap) xs.length (ints xs)))(HN:Hid (NumB W bm r L∧bm≠g∧r≠g)) :
  Calls Tryz.prog 74 #[.slice (some ⟨g,0,none⟩) xs.length cap,.func (.func 44) #[] #[.pointer (some ⟨bm,0,none⟩)]] W fun q W'=>q=.returned (.tuple #[])∧W'.ownsRow B 3 1 (.slice (some ⟨g,0,none⟩) xs.length cap) xs.length (ints (xs.map (ren L)))∧W.grownBy W' (some g):=by
 have hN:∀ (args:Array Value) (w:World),(callFunc 44 args).run Tryz.prog w=.ok (.enter 44 args) w:=enters_of Tryz.func44 (by kernel_rfl) rfl
 have HG0:Hid (W.grownBy W (some g)):=⟨rfl,rfl,rfl,Nat.le_refl _,fun _ _ _=>rfl⟩
 go_enter Tryz.func74,Tryz.ntmps74
 go_wp2_with fail
 go_loopw [8] (fun i wr=>∃k:Nat,k≤xs.length∧i=.int .i64 k∧Hid (wr.ownsRow B 3 1 (.slice (some ⟨g,0,none⟩) xs.length cap) xs.length (ints (mapTo (ren L) k xs))∧W.grownBy wr (some g))) (fun i _=>xs.length - (intOf i).toNat)
 case atStart=>exact⟨0,Nat.zero_le _,rfl,HR,HG0⟩
 case round=>
  obtain⟨k,hk,rfl,HC⟩:=hrel
  by_cases hkl:k<xs.length
  ·have hki:(k:Int)<(xs.length:Int):=by omega
   obtain⟨x,hx⟩:∃x,xs[k]=x:=⟨_,rfl⟩
   have c0:wr.cell? ⟨g,k,none⟩=some (.int .i64 x):=by
    have:=HC.out.1.cellAt k (by omega)
    rw [this]
    show (List.map (Value.int .i64) (mapTo (ren L) k xs))[k]? = _
    rw [List.getElem?_map,mapTo_get hkl,hx];rfl
   have hf:wr.frozen? ⟨g,k,none⟩=false:=HC.out.1.frozenAt k
   have hlt:=(row_lt HC.out.1).2.1
   have hgW:=(row_lt HR.out).2.1
   have hNB:NumB wr bm r L:=⟨(HC.out.2.block bm (Array.getElem?_eq_some_iff.1 HN.out.1.1).1 (by intro e;injection e with e;exact HN.out.2.1 e)).trans HN.out.1.1,(HC.out.2.block r (Array.getElem?_eq_some_iff.1 HN.out.1.2).1 (by intro e;injection e with e;exact HN.out.2.2 e)).trans HN.out.1.2⟩
   have hcall:=turn_is hNB x rfl
   obtain⟨y,hy⟩:∃y,y=ren L x:=⟨_,rfl⟩
   have hst:=HC.out.1.stored k (.int .i64 y)
   have HNx:Hid ((wr.setCell ⟨g,k,none⟩ (.int .i64 y)).ownsRow B 3 1 (.slice (some ⟨g,0,none⟩) xs.length cap) xs.length (ints (mapTo (ren L) (k+1) xs))∧W.grownBy (wr.setCell ⟨g,k,none⟩ (.int .i64 y)) (some g)):=⟨by rw [mapTo_succ hkl,ints_set,hx,← hy];exact hst.1,grown_trans HC.out.2 hst.2⟩
   rw [←hy] at hcall
   clear hx hy hst hNB hgW hlt
   go_wp2_with fail
   refine hcall.mono ?_
   rintro e' w' ⟨rfl,hw⟩
   rw [hw]
   clear hw
   dsimp only
   go_wp2_with fail
   go_roundw
   case rel=>exact⟨k+1,by omega,by go_num,HNx⟩
   case measure=>first | (simp [intOf];done) | (simp [intOf];omega)
  ·have e:k=xs.length:=by omega
   subst e
   go_wp2_with fail
   go_end0
   have:=HC.out
   rw [mapTo_end] at this
   exact⟨rfl,this.1,this.2⟩
theorem turnAll_is {g':Option Nat}{bm r B:Nat}{L:List SlotD}{xs:List Int}{v:Value}{W:World}(hm:xs.length≤1000)(hR:W.ownsRow B 3 1 v xs.length (ints xs))(hN:NumB W bm r L)(h1:v.ownBlock≠some bm)(h2:v.ownBlock≠some r) :
  Calls Tryz.prog 74 #[v,.func (.func 44) #[] #[.pointer (some ⟨bm,0,none⟩)]] W fun q W'=>q=.returned (.tuple #[])∧W'.ownsRow B 3 1 v xs.length (ints (xs.map (ren L)))∧W.grownBy W' v.ownBlock:=by
 rcases row_form hR with ⟨rfl,hn⟩ | ⟨g,cap,rfl,_⟩
 ·have hx:xs=[]:=List.eq_nil_of_length_eq_zero hn
  subst hx
  have HR:Hid (W.ownsRow B 3 1 (.slice none 0 0) 0 (ints [])):=hR
  clear hR hN h1 h2
  go_enter Tryz.func74,Tryz.ntmps74
  go_wp2_with fail
  go_loopw [8] (fun i wr=>i=.int .i64 0∧wr=W) (fun _ _=>0)
  case atStart=>exact⟨rfl,rfl⟩
  case round=>
   obtain⟨rfl,rfl⟩:=hrel
   go_wp2_with fail
   go_end0
   exact⟨rfl,HR.out,⟨rfl,rfl,rfl,Nat.le_refl _,fun _ _ _=>rfl⟩⟩
 ·exact turnAll_at g cap bm r B L xs W hm hR ⟨hN,fun e=>h1 (by rw [e];rfl),fun e=>h2 (by rw [e];rfl)⟩
theorem isE_ren {L:List SlotD}(h40:L.length≤40){e:Int}(h:EntP L e):isE (ren L e)=true:=by
 rcases ren_ent h with x | x | ⟨j,x,j1,jl,_⟩
 ·rw [x];rfl
 ·rw [x];rfl
 ·rw [x]
  have:=keptI_le L
  rw [packL_length] at jl
  unfold isE
  have e1:decide ((1:Int)≤(j:Int))=true:=by rw [decide_eq_true_eq];omega
  have e2:decide ((j:Int)<40)=true:=by rw [decide_eq_true_eq];omega
  rw [e1,e2];simp
theorem okD_pack {L:List SlotD}(h40:L.length≤40){s:SlotD}(h:okD s=true)(he:∀e ∈ s.2.2,EntP L e):okD (packS L s)=true:=by
 obtain⟨k,d,t⟩:=s
 unfold okD slotOK packS at *
 dsimp only at *
 by_cases h0:k=0
 ·rw [if_pos h0] at h ⊢;simpa using h
 ·rw [if_neg h0] at h ⊢
  by_cases h1:k=1
  ·rw [if_pos h1] at h ⊢;simpa using h
  ·rw [if_neg h1] at h ⊢
   by_cases h2:k=2
   ·rw [if_pos h2] at h ⊢
    rw [decide_eq_true_eq] at h ⊢
    obtain⟨a,b,c⟩:=h
    have hl:t.length=4:=by unfold ckE at a;split at a;rename_i x;exact x.1;cases a
    have ha:ckE (t.map (ren L))=0:=by
     unfold ckE
     refine if_pos ⟨by rw [List.length_map];exact hl,?_⟩
     rw [List.all_eq_true]
     intro x hx
     obtain⟨e,hem,rfl⟩:=List.mem_map.1 hx
     exact isE_ren h40 (he e hem)
    refine⟨ha,?_,c⟩
    unfold bareE at b ⊢
    rw [if_pos a] at b
    rw [if_pos ha]
    -- one of them is not 0
    cases hb:bareL (t.map (ren L)) with
    | false=>rfl
    | true=>
     exfalso
     have:bareL t=true:=by
      unfold bareL at hb ⊢
      rw [List.all_eq_true] at hb ⊢
      intro e hem
      have hz:=hb _ (List.mem_map.2 ⟨e,hem,rfl⟩)
      have hz:ren L e=0:=by simpa using hz
      rcases he e hem with x | x | ⟨j,x,j1,jl,hj⟩
      ·rw [x];rfl
      ·rw [x,ren_neg] at hz;omega
      ·rw [x,ren_at jl hj] at hz;have:=rnk_pos (L:=L) j1;omega
     rw [this] at b;cases b
   ·rw [if_neg h2] at h;cases h
theorem tab_ents {m:ImgD}(h:shapeE m=0){s:SlotD}(hs:s ∈ m.slots):∀e ∈ s.2.2,tabE m.slots e=true:=fun e he=>by
 have:=(shapeE_zero h).2.2.2.2.2.1
 unfold tabFit at this
 rw [List.all_eq_true] at this
 exact List.all_eq_true.1 (this s hs) e he
theorem getD_mem {L:List SlotD}{k:Nat}(hk:k<L.length):L.getD k default ∈ L:=by rw [←getElem_getD hk];exact List.getElem_mem hk
theorem keptI_1 {L:List SlotD}(h:1≤L.length):1≤(keptI L).length:=by have:=rnk_lt (L:=L) (k:=0) (by omega) rfl;omega
theorem pack_slotsE {m:ImgD}(h:shapeE m=0):slotsE (packL m.slots)=0:=by
 obtain⟨l1,l40⟩:=slotsE_parts (shapeE_zero h).2.1
 have hs:=(shapeE_zero h).2.1
 have hk1:=keptI_1 l1
 have hk40:=keptI_le m.slots
 have hall:m.slots.all okD=true∧(m.slots.headD default).1=0:=by
  unfold slotsE at hs
  rw [if_pos ⟨l1,l40⟩] at hs
  split at hs
  ·assumption
  ·cases hs
 unfold slotsE
 rw [if_pos ⟨by rw [packL_length];exact hk1,by rw [packL_length];omega⟩]
 refine if_pos ⟨?_,?_⟩
 ·rw [List.all_eq_true]
  intro s hsm
  unfold packL at hsm
  obtain⟨k,hk,rfl⟩:=List.mem_map.1 hsm
  have hkl:=(keptI_mem.1 hk).1
  exact okD_pack l40 (List.all_eq_true.1 hall.1 _ (getD_mem hkl)) (fun e he=>tabE_EntP (tab_ents h (getD_mem hkl) e he))
 ·have e0:=packL_get (L:=m.slots) (k:=0) (by omega) rfl
  rw [rnk_0] at e0
  have:(packL m.slots).headD default=(packL m.slots).getD 0 default:=by cases packL m.slots <;> rfl
  rw [this,e0]
  show (m.slots.getD 0 default).1=0
  have:m.slots.headD default=m.slots.getD 0 default:=by cases m.slots <;> rfl
  rw [←this];exact hall.2
theorem namesOK_map {S:List SnapD}{f:SnapD→SnapD}(hf:∀s,(f s).1=s.1):namesOK (S.map f)=namesOK S:=by
 have hg:∀k,((S.map f).getD k default).1=(S.getD k default).1∨S.length≤k:=fun k=>by
  by_cases hk:k<S.length
  ·left
   rw [List.getD_eq_getElem?_getD,List.getElem?_map,List.getElem?_eq_getElem hk,List.getD_eq_getElem?_getD,List.getElem?_eq_getElem hk]
   exact hf _
  ·right;omega
 have e:∀k,k<S.length→nmAt (S.map f) k=nmAt S k:=fun k hk=>by
  unfold nmAt
  rcases hg k with a | a
  ·rcases hg (k - 1) with b | b
   ·rw [a,b]
   ·omega
  ·omega
 unfold namesOK
 rw [List.length_map,Bool.eq_iff_iff,List.all_eq_true,List.all_eq_true]
 constructor
 ·intro h k hk;rw [←e k (List.mem_range.1 hk)];exact h k hk
 ·intro h k hk;rw [e k (List.mem_range.1 hk)];exact h k hk
theorem map_getD_ren {L:List SlotD}(r:List Int)(i:Nat):(r.map (ren L)).getD i 0=ren L (r.getD i 0):=by
 rw [List.getD_eq_getElem?_getD,List.getElem?_map,List.getD_eq_getElem?_getD]
 cases r[i]? with
 | none=>exact ren_0.symm
 | some x=>rfl
theorem tab_ren {L:List SlotD}{x:Int}(h:rootE L x=true)(hx:x≠0):tabOf (packL L) (ren L x)=(tabOf L x).map (ren L):=by
 rcases rootE_ent h with e | ⟨j,rfl,j1,jl,hk⟩
 ·exact absurd e hx
 ·have hp:kept L j=true:=kept_of (by rw [hk];decide)
  rw [ren_at jl hp,packL_tab jl hp]
theorem rootFit_pack {L:List SlotD}{g:Int}{r:List Int}(h:rootFit L g r=true):rootFit (packL L) g (r.map (ren L))=true:=by
 unfold rootFit at h ⊢
 rw [Bool.and_eq_true,Bool.and_eq_true] at h ⊢
 obtain⟨a,b,c⟩:=h
 rw [List.all_eq_true] at b
 refine⟨by rw [List.length_map];exact a,by rw [List.all_eq_true];intro x hx;obtain⟨e,he,rfl⟩:=List.mem_map.1 hx;exact rootE_ren (b e he),?_⟩
 unfold lastFit at c ⊢
 rw [Bool.or_eq_true,Bool.or_eq_true] at c ⊢
 rcases c with c | c | c
 ·exact .inl c
 ·refine .inr (.inl ?_)
  rw [List.length_map,map_getD_ren]
  have:r.getD (r.length - 1) 0=0:=by simpa using c
  rw [this,ren_0];rfl
 ·refine .inr ?_
  rw [List.length_map,map_getD_ren]
  by_cases hz:r.getD (r.length - 1) 0=0
  ·left;rw [hz,ren_0];rfl
  ·right
   have hl:r.length - 1<r.length:=Classical.byContradiction fun x=>hz (by rw [List.getD_eq_getElem?_getD,List.getElem?_eq_none (by omega)];rfl)
   have hm:r.getD (r.length - 1) 0 ∈ r:=by rw [List.getD_eq_getElem?_getD,List.getElem?_eq_getElem hl];exact List.getElem_mem hl
   rw [tab_ren (b _ hm) hz,← List.map_drop,List.all_map]
   rw [List.all_eq_true] at c ⊢
   intro e he
   have:=c e he
   have:e=0:=by simpa using this
   show (ren L e == 0)=true
   rw [this,ren_0];rfl
theorem pack_shape {m:ImgD}(h:shapeE m=0):shapeE (packD m)=0:=by
 obtain⟨z1,z2,z3,z4,z5,z6,z7⟩:=shapeE_zero h
 have r1:(rootsOf (packD m)).all (fun s=>guestOK s.2.1)=true:=by
  show (((⟨#[]⟩,m.guest,m.root.map (ren m.slots)):SnapD) :: m.snaps.map (packN m.slots)).all _=true
  rw [List.all_cons,List.all_map]
  have:(rootsOf m).all (fun s=>guestOK s.2.1)=true:=z5
  exact this
 have r2:(rootsOf (packD m)).all (fun s=>rootFit (packL m.slots) s.2.1 s.2.2)=true:=by
  show (((⟨#[]⟩,m.guest,m.root.map (ren m.slots)):SnapD) :: m.snaps.map (packN m.slots)).all _=true
  have z7:(((⟨#[]⟩,m.guest,m.root):SnapD) :: m.snaps).all (fun s=>rootFit m.slots s.2.1 s.2.2)=true:=z7
  rw [List.all_cons,Bool.and_eq_true] at z7 ⊢
  refine⟨rootFit_pack z7.1,?_⟩
  rw [List.all_map,List.all_eq_true]
  intro s hs
  exact rootFit_pack (List.all_eq_true.1 z7.2 s hs)
 have r3:tabFit (packL m.slots)=true:=by
  unfold tabFit
  rw [List.all_eq_true]
  intro s hs
  unfold packL at hs
  obtain⟨k,hk,rfl⟩:=List.mem_map.1 hs
  have hkl:=(keptI_mem.1 hk).1
  rw [List.all_eq_true]
  intro x hx
  obtain⟨e,he,rfl⟩:=List.mem_map.1 hx
  exact tabE_ren (tab_ents h (getD_mem hkl) e he)
 unfold shapeE
 rw [if_neg (by show ¬3<(m.snaps.map (packN m.slots)).length;rw [List.length_map];omega),if_neg (by show ¬slotsE (packL m.slots)≠0;rw [pack_slotsE h];simp),if_neg,if_neg (by rw [r1];decide),if_neg (by show ¬tabFit (packL m.slots)=false;rw [r3];decide),if_neg (by show ¬((rootsOf (packD m)).all fun s=>rootFit (packL m.slots) s.2.1 s.2.2)=false;rw [r2];decide)]
 rintro (e | e)
 ·exact e (by show ((keptI m.slots).map _).length=(packL m.slots).length;rw [List.length_map,packL_length])
 ·have e:namesOK (m.snaps.map (packN m.slots))=false:=e
  rw [namesOK_map (f:=packN m.slots) (fun _=>rfl),z4] at e;cases e
end Go.Proofs.YtehleeibgkpjmafGreat
namespace Go.Proofs.YtehleeibgkpjmafGreat
open Go.RowKit
set_option maxRecDepth 20000
def upd (val:Nm→Value) (a:Nm) (v:Value):Nm→Value:=fun b=>if b.kind=a.kind∧b.ix=a.ix then v else val b
theorem upd_same (val:Nm→Value)(a:Nm)(v:Value):upd val a v a=v:=by unfold upd;rw [if_pos ⟨rfl,rfl⟩]
theorem upd_other (val:Nm→Value){a b:Nm}(v:Value)(h:b≠a):upd val a v b=val b:=by
 unfold upd
 rw [if_neg]
 intro e
 apply h
 obtain⟨k,i⟩:=a
 obtain⟨k',i'⟩:=b
 obtain⟨e1,e2⟩:=e
 dsimp only at e1 e2
 rw [e1,e2]
def Far (m:ImgD) (val:Nm→Value) (a:Nm) (v:Value):Prop:=∀b,Live m b→b≠a→∀g,v.ownBlock=some g→(val b).ownBlock≠some g
theorem far_new {W:World}{B:Nat}{val:Nm→Value}{m:ImgD}(h:OI W B val m)(a:Nm){v:Value}(hv:∀g,v.ownBlock=some g→W.heap.size≤g):Far m val a v:=fun b hb _ g hg e=>by
 have:=((h.row b hb).lt g e).2
 have:=hv g hg
 omega
theorem far_nil (m:ImgD)(val:Nm→Value)(a:Nm)(n cap:Nat):Far m val a (.slice none n cap):=fun _ _ _ g hg=>by cases hg
theorem OI.swap {W:World}{B:Nat}{val:Nm→Value}{m m':ImgD}(h:OI W B val m){a:Nm}(ha:Live m a){v:Value}(hv:W.ownsRow B (rowT a) (rowS a) v (rowN m' a) (rowV m' (upd val a v) a))(hfar:Far m val a v)
  (hlive:∀b,Live m' b↔Live m b) (hsame:∀b,Live m b→b≠a→rowN m' b=rowN m b∧rowV m' (upd val a v) b=rowV m val b):OI W B (upd val a v) m':=by
 refine⟨fun b hb=>?_,fun b c hb hc hne g hg=>?_⟩
 ·have hb:=(hlive b).1 hb
  by_cases e:b=a
  ·subst e;rw [upd_same];exact hv
  ·rw [upd_other val v e,(hsame b hb e).1,(hsame b hb e).2];exact h.row b hb
 ·have hb:=(hlive b).1 hb
  have hc:=(hlive c).1 hc
  by_cases e:b=a
  ·subst e
   rw [upd_same] at hg
   rw [upd_other val v (fun x=>hne x.symm)]
   exact hfar c hc (fun x=>hne x.symm) g hg
  ·rw [upd_other val v e] at hg
   by_cases e2:c=a
   ·subst e2
    rw [upd_same]
    exact fun x=>hfar b hb e g x hg
   ·rw [upd_other val v e2];exact h.apart b c hb hc hne g hg
theorem OI.swapRoot {W:World}{B:Nat}{val:Nm→Value}{m:ImgD}(h:OI W B val m){v:Value}{r:List Int}(hv:W.ownsRow B 3 1 v r.length (ints r))(hfar:Far m val .root v)(g:Int):OI W B (upd val .root v) { m with guest:=g,root:=r }:=by
 refine h.swap (a:=.root) (Live.root m) hv hfar (live_iff rfl rfl) (fun b hb hne=>?_)
 rcases hb.cases with rfl | rfl | rfl | rfl | ⟨j,rfl,hj⟩ | ⟨j,rfl,hj⟩ <;> first | exact⟨rfl,rfl⟩ | exact absurd rfl hne
theorem OI.swapRefs {W:World}{B:Nat}{val:Nm→Value}{m:ImgD}(h:OI W B val m){v:Value}{r:List Int}(hv:W.ownsRow B 3 1 v r.length (ints r))(hfar:Far m val .refs v):OI W B (upd val .refs v) { m with refs:=r }:=by
 refine h.swap (a:=.refs) (Live.refs m) hv hfar (live_iff rfl rfl) (fun b hb hne=>?_)
 rcases hb.cases with rfl | rfl | rfl | rfl | ⟨j,rfl,hj⟩ | ⟨j,rfl,hj⟩ <;> first | exact⟨rfl,rfl⟩ | exact absurd rfl hne
theorem flat3_length (f:Nat→Value × Value × Value)(n:Nat):((List.range n).flatMap (fun j=>[(f j).1,(f j).2.1,(f j).2.2])).length=n*3:=by
 induction n with
 | zero=>rfl
 | succ n ih=>rw [List.range_succ,List.flatMap_append,List.length_append,ih];simp;omega
theorem flatS_length (L:List SlotD)(tv:Nat→Value):(flatS L tv).length=L.length*3:=flat3_length (fun j=>(.int .i64 (L.getD j default).1,.string (L.getD j default).2.1,tv j)) L.length
theorem flatN_length (S:List SnapD)(qv:Nat→Value):(flatN S qv).length=S.length*3:=flat3_length (fun j=>(.string (S.getD j default).1,.int .i64 (S.getD j default).2.1,qv j)) S.length
theorem flatS_set {L:List SlotD}{tv tv':Nat→Value}{t:Nat}(k:Int)(d:ByteArray)(es:List Int)(htv:∀j,j≠t→tv' j=tv j) :
  flatS (L.set t (k,d,es)) tv'=(((flatS L tv).set (t*3) (.int .i64 k)).set (t*3+1) (.string d)).set (t*3+2) (tv' t):=by
 apply List.ext_getElem?
 intro i
 rcases Nat.lt_or_ge i (L.length*3) with hi | hi
 ·obtain⟨j,r,hj,hr,rfl⟩:∃j r,j<L.length∧r<3∧i=j*3+r:=⟨i / 3,i % 3,by omega,Nat.mod_lt _ (by decide),by omega⟩
  obtain⟨a0,a1,a2⟩:=flatS_get (L:=L.set t (k,d,es)) (tv:=tv') (j:=j) (by rw [List.length_set];exact hj)
  obtain⟨b0,b1,b2⟩:=flatS_get (L:=L) (tv:=tv) hj
  rw [getD_setR] at a0 a1
  have hlen:=flatS_length L tv
  by_cases e:t=j
  ·subst e
   rw [if_pos ⟨rfl,hj⟩] at a0 a1
   match r,hr with
   | 0,_=>rw [Nat.add_zero,a0,List.getElem?_set_ne (by omega),List.getElem?_set_ne (by omega),List.getElem?_set_self (by rw [hlen];omega)]
   | 1,_=>rw [a1,List.getElem?_set_ne (by omega),List.getElem?_set_self (by rw [List.length_set,hlen];omega)]
   | 2,_=>rw [a2,List.getElem?_set_self (by rw [List.length_set,List.length_set,hlen];omega)]
  ·rw [if_neg (fun x=>e x.1)] at a0 a1
   rw [htv j (fun x=>e x.symm)] at a2
   rw [List.getElem?_set_ne (by omega),List.getElem?_set_ne (by omega),List.getElem?_set_ne (by omega)]
   match r,hr with
   | 0,_=>rw [Nat.add_zero,a0,b0]
   | 1,_=>rw [a1,b1]
   | 2,_=>rw [a2,b2]
 ·rw [List.getElem?_eq_none (by rw [flatS_length,List.length_set];exact hi),List.getElem?_eq_none (by rw [List.length_set,List.length_set,List.length_set,flatS_length];exact hi)]
theorem OI.setSlot {W:World}{B:Nat}{val:Nm→Value}{m:ImgD}(h:OI W B val m){t:Nat}(ht:t<m.slots.length){g n cap:Nat}(hv:val .slots=.slice (some ⟨g,0,none⟩) n cap)(k:Int)(d:ByteArray)(es:List Int){ev:Value}
  (hev:W.ownsRow B 3 1 ev es.length (ints es)) (hfar:Far m val (.tab t) ev) :
  OI (((W.setCell ⟨g,t*3,none⟩ (.int .i64 k)).setCell ⟨g,t*3+1,none⟩ (.string d)).setCell ⟨g,t*3+2,none⟩ ev) B (upd val (.tab t) ev) { m with slots:=m.slots.set t (k,d,es) }:=by
 have hgd:=fun j=>getD_setR m.slots t j (k,d,es)
 have hnn:n=m.slots.length:=by
  rcases row_form (h.row .slots (Live.slots m)) with ⟨e,_⟩ | ⟨g',cap',e,_⟩
  ·rw [hv] at e;simp at e
  ·rw [hv] at e;simp at e;exact e.2.1
 have hoth:∀ {e:TypeId} {size:Nat} {v:Value} {q:Nat} {xs:List Value},W.ownsRow B e size v q xs→v.ownBlock≠some g→
   (((W.setCell ⟨g,t*3,none⟩ (.int .i64 k)).setCell ⟨g,t*3+1,none⟩ (.string d)).setCell ⟨g,t*3+2,none⟩ ev).ownsRow B e size v q xs:=fun hr hne=>
  ownsRow_setCell_other (ownsRow_setCell_other (ownsRow_setCell_other hr hne _) hne _) hne _
 refine⟨fun b hb=>?_,fun b c hb hc hne q hq=>?_⟩
 ·have hb':Live m b:=(live_iff (m:=m) (m':={ m with slots:=m.slots.set t (k,d,es) }) List.length_set rfl b).1 hb
  by_cases es0:b=.slots
  ·subst es0
   rw [upd_other val ev (by intro x;cases x)]
   have hr:=h.row .slots hb'
   have e1:rowV { m with slots:=m.slots.set t (k,d,es) } (upd val (.tab t) ev) .slots=(((rowV m val .slots).set (t*3) (.int .i64 k)).set (t*3+1) (.string d)).set (t*3+2) ev:=by
    have:=flatS_set (L:=m.slots) (tv:=fun j=>val (.tab j)) (tv':=fun j=>upd val (.tab t) ev (.tab j)) (t:=t) k d es (fun j hj=>upd_other val ev (by intro x;apply hj;injection x))
    rw [upd_same] at this
    exact this
   have e2:rowN { m with slots:=m.slots.set t (k,d,es) } .slots=rowN m .slots:=List.length_set
   rw [e1,e2]
   have hN:rowN m .slots=n:=hnn.symm
   rw [hN] at hr ⊢
   rw [hv] at hr ⊢
   exact ((((hr.stored (t*3) (.int .i64 k)).1).stored (t*3+1) (.string d)).1.stored (t*3+2) ev).1
  ·have hbg:(val b).ownBlock≠some g:=h.apart .slots b (Live.slots m) hb' (fun x=>es0 x.symm) g (by rw [hv];rfl)
   by_cases et:b=.tab t
   ·subst et
    rw [upd_same]
    have e1:rowV { m with slots:=m.slots.set t (k,d,es) } (upd val (.tab t) ev) (.tab t)=ints es:=by
     show ints ((m.slots.set t (k,d,es)).getD t default).2.2=_
     rw [hgd,if_pos ⟨rfl,ht⟩]
    have e2:rowN { m with slots:=m.slots.set t (k,d,es) } (.tab t)=es.length:=by
     show ((m.slots.set t (k,d,es)).getD t default).2.2.length=_
     rw [hgd,if_pos ⟨rfl,ht⟩]
    rw [e1,e2]
    exact hoth hev (fun x=>hfar .slots (Live.slots m) (by intro y;cases y) g x (by rw [hv];rfl))
   ·rw [upd_other val ev et]
    have e1:rowV { m with slots:=m.slots.set t (k,d,es) } (upd val (.tab t) ev) b=rowV m val b∧rowN { m with slots:=m.slots.set t (k,d,es) } b=rowN m b:=by
     rcases hb'.cases with rfl | rfl | rfl | rfl | ⟨j,rfl,hj⟩ | ⟨j,rfl,hj⟩
     ·exact⟨rfl,rfl⟩
     ·exact absurd rfl es0
     ·exact⟨rfl,rfl⟩
     ·exact⟨rfl,rfl⟩
     ·have hjt:t≠j:=fun x=>et (by rw [x])
      constructor
      ·show ints ((m.slots.set t (k,d,es)).getD j default).2.2=ints (m.slots.getD j default).2.2
       rw [hgd,if_neg (fun x=>hjt x.1)]
      ·show ((m.slots.set t (k,d,es)).getD j default).2.2.length=(m.slots.getD j default).2.2.length
       rw [hgd,if_neg (fun x=>hjt x.1)]
     ·exact⟨rfl,rfl⟩
    rw [e1.1,e1.2]
    exact hoth (h.row b hb') hbg
 ·have hb':Live m b:=(live_iff (m:=m) (m':={ m with slots:=m.slots.set t (k,d,es) }) List.length_set rfl b).1 hb
  have hc':Live m c:=(live_iff (m:=m) (m':={ m with slots:=m.slots.set t (k,d,es) }) List.length_set rfl c).1 hc
  by_cases e:b=.tab t
  ·subst e
   rw [upd_same] at hq
   rw [upd_other val ev (fun x=>hne x.symm)]
   exact hfar c hc' (fun x=>hne x.symm) q hq
  ·rw [upd_other val ev e] at hq
   by_cases e2:c=.tab t
   ·subst e2;rw [upd_same];exact fun x=>hfar b hb' e q x hq
   ·rw [upd_other val ev e2];exact h.apart b c hb' hc' hne q hq
theorem flatS_snoc (L:List SlotD)(tv tv':Nat→Value)(s:SlotD)(htv:∀j,j<L.length→tv' j=tv j):flatS (L ++ [s]) tv'=flatS L tv ++ [.int .i64 s.1,.string s.2.1,tv' L.length]:=by
 unfold flatS
 rw [List.length_append,List.length_singleton,List.range_succ,List.flatMap_append]
 have e1:(List.range L.length).flatMap (fun j=>[Value.int .i64 ((L ++ [s]).getD j default).1,.string ((L ++ [s]).getD j default).2.1,tv' j])=(List.range L.length).flatMap (fun j=>[Value.int .i64 (L.getD j default).1,.string (L.getD j default).2.1,tv j]):=by
  refine congrArg List.flatten (List.map_congr_left fun j hj=>?_)
  have hj:=List.mem_range.1 hj
  have e:(L ++ [s]).getD j default=L.getD j default:=by simp [List.getD,List.getElem?_append,hj]
  rw [e,htv j hj]
 rw [e1]
 simp
theorem OI.addSlot {W W':World}{B:Nat}{val:Nm→Value}{m:ImgD}(h:OI W B val m){k:Int}{d:ByteArray}{es:List Int}{ev sv:Value}(hev:W.ownsRow B 3 1 ev es.length (ints es))(hfar:Far m val (.tab m.slots.length) ev)
  (hgrow:W.grownBy W' (val .slots).ownBlock) (hrow:W'.ownsRow B 61 3 sv (m.slots.length+1) (flatS m.slots (fun j=>val (.tab j)) ++ [.int .i64 k,.string d,ev])) (hblk:sv.ownBlock=(val .slots).ownBlock∨∀g,sv.ownBlock=some g→W.heap.size≤g) :
  OI W' B (upd (upd val (.tab m.slots.length) ev) .slots sv) { m with slots:=m.slots ++ [(k,d,es)] }:=by
 have hval:∀b,b≠.slots→b≠.tab m.slots.length→upd (upd val (.tab m.slots.length) ev) .slots sv b=val b:=fun b h1 h2=>by rw [upd_other _ sv h1,upd_other _ ev h2]
 have hvs:upd (upd val (.tab m.slots.length) ev) .slots sv .slots=sv:=upd_same _ _ _
 have hvt:upd (upd val (.tab m.slots.length) ev) .slots sv (.tab m.slots.length)=ev:=by rw [upd_other _ sv (by intro x;cases x),upd_same]
 have hcase:∀b,Live { m with slots:=m.slots ++ [(k,d,es)] } b→b=.slots∨b=.tab m.slots.length∨(Live m b∧b≠.slots∧b≠.tab m.slots.length):=fun b hb=>by
  rcases hb.cases with rfl | rfl | rfl | rfl | ⟨j,rfl,hj⟩ | ⟨j,rfl,hj⟩
  ·exact .inr (.inr ⟨Live.root m,(by intro x;cases x),(by intro x;cases x)⟩)
  ·exact .inl rfl
  ·exact .inr (.inr ⟨Live.refs m,(by intro x;cases x),(by intro x;cases x)⟩)
  ·exact .inr (.inr ⟨Live.snaps m,(by intro x;cases x),(by intro x;cases x)⟩)
  ·by_cases e:j=m.slots.length
   ·subst e;exact .inr (.inl rfl)
   ·refine .inr (.inr ⟨Live.tab (by simp at hj;omega),(by intro x;cases x),?_⟩)
    intro x;apply e;injection x
  ·exact .inr (.inr ⟨Live.sr hj,(by intro x;cases x),(by intro x;cases x)⟩)
 have hnot:∀b,Live m b→b≠.slots→(val b).ownBlock=none∨(val b).ownBlock≠(val .slots).ownBlock:=fun b hb hne=>by
  cases hg:(val b).ownBlock with
  | none=>exact .inl rfl
  | some g=>exact .inr (fun x=>h.apart b .slots hb (Live.slots m) hne g hg x.symm)
 have hevn:ev.ownBlock=none∨ev.ownBlock≠(val .slots).ownBlock:=by
  cases hg:ev.ownBlock with
  | none=>exact .inl rfl
  | some g=>exact .inr (fun x=>hfar .slots (Live.slots m) (by intro y;cases y) g hg x.symm)
 have hsvfar:∀b,Live m b→b≠.slots→∀g,sv.ownBlock=some g→(val b).ownBlock≠some g:=fun b hb hne g hg hx=>by
  rcases hblk with e | e
  ·rw [e] at hg;exact h.apart b .slots hb (Live.slots m) hne g hx hg
  ·have:=((h.row b hb).lt g hx).2
   have:=e g hg
   omega
 have hsvev:∀g,sv.ownBlock=some g→ev.ownBlock≠some g:=fun g hg hx=>by
  rcases hblk with e | e
  ·rw [e] at hg;exact hfar .slots (Live.slots m) (by intro y;cases y) g hx hg
  ·have:=(hev.lt g hx).2
   have:=e g hg
   omega
 refine⟨fun b hb=>?_,fun b c hb hc hne q hq=>?_⟩
 ·rcases hcase b hb with rfl | rfl | ⟨hb',h1,h2⟩
  ·rw [hvs]
   have e1:rowV { m with slots:=m.slots ++ [(k,d,es)] } (upd (upd val (.tab m.slots.length) ev) .slots sv) .slots=flatS m.slots (fun j=>val (.tab j)) ++ [.int .i64 k,.string d,ev]:=by
    have:=flatS_snoc m.slots (fun j=>val (.tab j)) (fun j=>upd (upd val (.tab m.slots.length) ev) .slots sv (.tab j)) (k,d,es) (fun j hj=>hval _ (by intro x;cases x) (by intro x;injection x with _ x;omega))
    rw [hvt] at this
    exact this
   have e2:rowN { m with slots:=m.slots ++ [(k,d,es)] } .slots=m.slots.length+1:=by show (m.slots ++ [(k,d,es)]).length=_;simp
   rw [e1,e2];exact hrow
  ·rw [hvt]
   have e0:(m.slots ++ [(k,d,es)]).getD m.slots.length default=(k,d,es):=by simp [List.getD]
   have e1:rowV { m with slots:=m.slots ++ [(k,d,es)] } (upd (upd val (.tab m.slots.length) ev) .slots sv) (.tab m.slots.length)=ints es:=by
    show ints ((m.slots ++ [(k,d,es)]).getD m.slots.length default).2.2=_
    rw [e0]
   have e2:rowN { m with slots:=m.slots ++ [(k,d,es)] } (.tab m.slots.length)=es.length:=by
    show ((m.slots ++ [(k,d,es)]).getD m.slots.length default).2.2.length=_
    rw [e0]
   rw [e1,e2]
   exact hev.kept hgrow hevn
  ·rw [hval b h1 h2]
   have e1:rowV { m with slots:=m.slots ++ [(k,d,es)] } (upd (upd val (.tab m.slots.length) ev) .slots sv) b=rowV m val b∧rowN { m with slots:=m.slots ++ [(k,d,es)] } b=rowN m b:=by
    rcases hb'.cases with rfl | rfl | rfl | rfl | ⟨j,rfl,hj⟩ | ⟨j,rfl,hj⟩
    ·exact⟨rfl,rfl⟩
    ·exact absurd rfl h1
    ·exact⟨rfl,rfl⟩
    ·refine⟨?_,rfl⟩
     show flatN m.snaps _=flatN m.snaps _
     unfold flatN
     refine congrArg List.flatten (List.map_congr_left fun j _=>?_)
     dsimp only
     rw [hval (.sr j) (by intro x;cases x) (by intro x;cases x)]
    ·have e:(m.slots ++ [(k,d,es)]).getD j default=m.slots.getD j default:=by simp [List.getD,List.getElem?_append,hj]
     constructor
     ·show ints ((m.slots ++ [(k,d,es)]).getD j default).2.2=_
      rw [e];rfl
     ·show ((m.slots ++ [(k,d,es)]).getD j default).2.2.length=_
      rw [e];rfl
    ·exact⟨rfl,rfl⟩
   rw [e1.1,e1.2]
   exact (h.row b hb').kept hgrow (hnot b hb' h1)
 ·rcases hcase b hb with rfl | rfl | ⟨hb',h1,h2⟩
  ·rw [hvs] at hq
   rcases hcase c hc with rfl | rfl | ⟨hc',g1,g2⟩
   ·exact absurd rfl hne
   ·rw [hvt];exact hsvev q hq
   ·rw [hval c g1 g2];exact hsvfar c hc' g1 q hq
  ·rw [hvt] at hq
   rcases hcase c hc with rfl | rfl | ⟨hc',g1,g2⟩
   ·rw [hvs];exact fun x=>hsvev q x hq
   ·exact absurd rfl hne
   ·rw [hval c g1 g2];exact hfar c hc' g2 q hq
  ·rw [hval b h1 h2] at hq
   rcases hcase c hc with rfl | rfl | ⟨hc',g1,g2⟩
   ·rw [hvs];exact fun x=>hsvfar b hb' h1 q x hq
   ·rw [hvt];exact fun x=>hfar b hb' h2 q x hq
   ·rw [hval c g1 g2];exact h.apart b c hb' hc' hne q hq
end Go.Proofs.YtehleeibgkpjmafGreat
namespace Go.Proofs.YtehleeibgkpjmafGreat
open Go.RowKit
set_option maxRecDepth 20000
theorem empty_row {W:World}{g B:Nat}{T:TypeId}{size:Nat}(hg:W.heap[g]? = some (.cells #[] T))(hB:B≤g):W.ownsRow B T size (.slice (some ⟨g,0,none⟩) 0 0) 0 []:=
 ⟨by simp,.inr ⟨g,0,#[],rfl,hB,hg,Nat.le_refl _,Nat.zero_le _,by simp,by simp⟩⟩
theorem run_append_nil (W:World)(ty:TypeId)(g n c:Nat)(hn:n≤c)(c':Nat):(Builtin.append_ #[23,23] ty #[.slice (some ⟨g,0,none⟩) n c,.slice none 0 c']).run Tryz.prog W=.ok (.slice (some ⟨g,0,none⟩) n c) W:=by
 simp [Builtin.append_,go_sem,hn]
theorem run_copy {W:World}(ty:TypeId){g B:Nat}(hg:W.heap[g]? = some (.cells #[] 3))(hB:B≤g){src:Value}{xs:List Int}(hsl:Sl W src xs)(hlen:xs.length≤1000) :
  ∃v' w',(Builtin.append_ #[23,23] ty #[.slice (some ⟨g,0,none⟩) 0 0,src]).run Tryz.prog W=.ok v' w'∧w'.ownsRow B 3 1 v' xs.length (ints xs)∧W.grownBy w' (some g)∧(v'.ownBlock=some g∨v'.ownBlock=some W.heap.size):=by
 have hgl:=(szH hg)
 obtain⟨ao,cap,rfl,hm,hcp,hc⟩:=hsl
 cases ao with
 | none=>
  have hx:xs=[]:=Classical.byContradiction fun hne=>by obtain⟨_,_,e,_⟩:=hc hne;cases e
  subst hx
  refine⟨_,W,run_append_nil W ty g 0 0 (Nat.le_refl _) cap,empty_row hg hB,⟨rfl,rfl,rfl,Nat.le_refl _,fun _ _ _=>rfl⟩,.inl rfl⟩
 | some a=>
  obtain⟨i0,hi,hz0,hz1,hz2⟩:=info_parts info3
  have hnews:∀j u,(ints xs)[j]? = some u→W.cell? (a.add j)=some u:=fun j u hu=>by
   have hj:j<xs.length:=by
    rcases Nat.lt_or_ge j xs.length with h | h
    ·exact h
    ·rw [List.getElem?_eq_none (by rw [ints_length];exact h)] at hu;cases hu
   obtain⟨b,off,e,_,hcell⟩:=hc (by intro e;rw [e] at hj;simp at hj)
   simp only [Option.some.injEq] at e
   subst e
   rw [addr_add,hcell j hj]
   unfold ints at hu
   rw [List.getElem?_map,List.getElem?_eq_getElem hj] at hu
   simp at hu
   simp [List.getD,hj,hu]
  obtain⟨v',w',h1,h2,h3,_,h5⟩:=run_append_own_at (P:=Tryz.prog) W B 23 ty 3 i0 (.int .i64 0) 1 8 Tryz.underlying23 hi hz0 hz1 hz2 rfl (by decide) (.slice (some ⟨g,0,none⟩) 0 0) 0 [] (empty_row hg hB) a xs.length cap (ints xs) (by rw [ints_length];omega) hnews (ints_oneCell .i64 xs) (by omega) (by omega) (by omega)
  exact⟨v',w',h1,by simpa using h2,h3,h5⟩
theorem wp_copy {W:World}{o:Oper}{a:Act}{K:Act→World→Prop}{Q:Exit→Act→World→Prop}(s x:Operand)(ho:o.op=.call { callee:=.builtin .append,args:=#[s,x],argTypes:=#[23,23] })
  {g B:Nat} (hs:a.eval s=.slice (some ⟨g,0,none⟩) 0 0) (hg:W.heap[g]? = some (.cells #[] 3)) (hB:B≤g) {src:Value} {xs:List Int} (hx:a.eval x=src) (hsl:Sl W src xs) (hlen:xs.length≤1000)
  (h:∀v' w',Hid (w'.ownsRow B 3 1 v' xs.length (ints xs))→W.grownBy w' (some g)→Hid (v'.ownBlock=some g∨v'.ownBlock=some W.heap.size)→K (a.put o.dst v') w'):o.wp Tryz.prog a W K Q:=by
 obtain⟨v',w',hr,h2,h3,h4⟩:=run_copy o.type hg hB hsl hlen
 unfold Oper.wp execOp
 simp only [ho,resolve,invoke,builtin,Sem.run_bind,Sem.run_pure,Result.andThen_ok,List.map_toArray,List.map_cons,List.map_nil,hs,hx,hr]
 exact h v' w' h2 h3 h4
theorem wpList_copy {W:World}{ops:Array Oper}{rest:List Oper}{o:Oper}{a:Act}{Q:Exit→Act→World→Prop}(hgd:o.guard=none)(s x:Operand)(ho:o.op=.call { callee:=.builtin .append,args:=#[s,x],argTypes:=#[23,23] })
  {g B:Nat} (hs:a.eval s=.slice (some ⟨g,0,none⟩) 0 0) (hg:W.heap[g]? = some (.cells #[] 3)) (hB:B≤g) {src:Value} {xs:List Int} (hx:a.eval x=src) (hsl:Sl W src xs) (hlen:xs.length≤1000)
  (h:∀v' w',Hid (w'.ownsRow B 3 1 v' xs.length (ints xs))→W.grownBy w' (some g)→Hid (v'.ownBlock=some g∨v'.ownBlock=some W.heap.size)→wpList Tryz.prog ops Q rest (a.put o.dst v') w'):wpList Tryz.prog ops Q (o :: rest) a W:=
 wpList_plain hgd fun _ hK=>wp_copy s x ho hs hg hB hx hsl hlen fun v' w' h2 h3 h4=>hK _ _ (h v' w' h2 h3 h4)
theorem infoSlot:(Tryz.prog.info? 61).map (fun i=>(i.zero,i.size,i.bytes))=some (some (.agg #[.int .i64 0,.string ByteArray.empty,.slice none 0 0]),3,48):=by kernel_rfl
theorem infoSnap:(Tryz.prog.info? 64).map (fun i=>(i.zero,i.size,i.bytes))=some (some (.agg #[.string ByteArray.empty,.int .i64 0,.slice none 0 0]),3,48):=by kernel_rfl
theorem three_new (W:World)(T:TypeId)(x y z:Value):∀ (j:Nat) (u:Value),[x,y,z][j]? = some u→(W.alloc (.cells #[x,y,z] T)).cell? ((⟨W.heap.size,0,none⟩:Addr).add j)=some u:=by
 intro j u hj
 rw [addr_add,World.cell?_alloc_at _ _ _ _ rfl]
 match j,hj with
 | 0,hj=>simpa using hj
 | 1,hj=>simpa using hj
 | 2,hj=>simpa using hj
theorem wp_app3 {W:World}{o:Oper}{a:Act}{K:Act→World→Prop}{Q:Exit→Act→World→Prop}(s x:Operand)(t e:TypeId)(z0:Value)(ht:Tryz.prog.underlying t=some (.slice e))(hinfo:(Tryz.prog.info? e).map (fun i=>(i.zero,i.size,i.bytes))=some (some z0,3,48))(hz3:z0.cells.size=3)
  (ho:o.op=.call { callee:=.builtin .append,args:=#[s,x],argTypes:=#[t,t] }) {B n:Nat} {v:Value} {xs:List Value} {c0 c1 c2:Value} (h1:c0.oneCell'=true) (h2:c1.oneCell'=true) (h3:c2.oneCell'=true)
  (hs:a.eval s=v) {N:Nat} (hx:a.eval x=.slice (some ⟨N,0,none⟩) 1 1) (hN:N=W.heap.size) (hown:W.ownsRow B e 3 v n xs) (hn:n≤1000) (hB:B≤W.heap.size)
  (h:∀v' w',Hid (w'.ownsRow B e 3 v' (n+1) (xs ++ [c0,c1,c2]))→(W.alloc (.cells #[c0,c1,c2] e)).grownBy w' v.ownBlock→Hid (v'.ownBlock=v.ownBlock∨v'.ownBlock=some (W.heap.size+1))→K (a.put o.dst v') w'):o.wp Tryz.prog a (W.alloc (.cells #[c0,c1,c2] e)) K Q:=by
 subst hN
 obtain⟨i0,hi,hz0,hz1,hz2⟩:=info_parts hinfo
 obtain⟨v',w',hr,g2,g3,_,g5⟩:=run_append_own_at (P:=Tryz.prog) (W.alloc (.cells #[c0,c1,c2] e)) B t o.type e i0 z0 3 48 ht hi hz0 hz1 hz2 hz3 (by decide) v n xs (hown.alloc _) ⟨W.heap.size,0,none⟩ 1 1 [c0,c1,c2] rfl (three_new W e c0 c1 c2) (by intro u hu;simp at hu;rcases hu with rfl | rfl | rfl <;> assumption) (by unfold maxLen;omega) (by omega) (by simp;omega)
 unfold Oper.wp execOp
 simp only [ho,resolve,invoke,builtin,Sem.run_bind,Sem.run_pure,Result.andThen_ok,List.map_toArray,List.map_cons,List.map_nil,hs,hx,hr]
 have g6:v'.ownBlock=v.ownBlock∨v'.ownBlock=some (W.heap.size+1):=by simpa using g5
 exact h v' w' g2 g3 g6
theorem wpList_app3 {W:World}{ops:Array Oper}{rest:List Oper}{o:Oper}{a:Act}{Q:Exit→Act→World→Prop}(hgd:o.guard=none)(s x:Operand)(t e:TypeId)(z0:Value)(ht:Tryz.prog.underlying t=some (.slice e))(hinfo:(Tryz.prog.info? e).map (fun i=>(i.zero,i.size,i.bytes))=some (some z0,3,48))(hz3:z0.cells.size=3)
  (ho:o.op=.call { callee:=.builtin .append,args:=#[s,x],argTypes:=#[t,t] }) {B n:Nat} {v:Value} {xs:List Value} {c0 c1 c2:Value} (h1:c0.oneCell'=true) (h2:c1.oneCell'=true) (h3:c2.oneCell'=true)
  (hs:a.eval s=v) {N:Nat} (hx:a.eval x=.slice (some ⟨N,0,none⟩) 1 1) (hN:N=W.heap.size) (hown:W.ownsRow B e 3 v n xs) (hn:n≤1000) (hB:B≤W.heap.size)
  (h:∀v' w',Hid (w'.ownsRow B e 3 v' (n+1) (xs ++ [c0,c1,c2]))→(W.alloc (.cells #[c0,c1,c2] e)).grownBy w' v.ownBlock→Hid (v'.ownBlock=v.ownBlock∨v'.ownBlock=some (W.heap.size+1))→wpList Tryz.prog ops Q rest (a.put o.dst v') w'):wpList Tryz.prog ops Q (o :: rest) a (W.alloc (.cells #[c0,c1,c2] e)):=
 wpList_plain hgd fun _ hK=>wp_app3 s x t e z0 ht hinfo hz3 ho h1 h2 h3 hs hx hN hown hn hB fun v' w' g2 g3 g4=>hK _ _ (h v' w' g2 g3 g4)
end Go.Proofs.YtehleeibgkpjmafGreat
namespace Go.Proofs.YtehleeibgkpjmafGreat
open Go.RowKit Go.Shelf
set_option maxRecDepth 20000
theorem OI.far {W:World}{B:Nat}{val:Nm→Value}{m:ImgD}(h:OI W B val m){g i:Nat}{u:Value}(hg:∀a,Live m a→(val a).ownBlock≠some g):OI (W.setCell ⟨g,i,none⟩ u) B val m:=
 ⟨fun a ha=>ownsRow_setCell_other (h.row a ha) (hg a ha) u,h.apart⟩
theorem OI.lt {W:World}{B:Nat}{val:Nm→Value}{m:ImgD}(h:OI W B val m){g:Nat}(hg:W.heap.size≤g):∀a,Live m a→(val a).ownBlock≠some g:=fun a ha e=>by
 have:=((h.row a ha).lt g e).2
 omega
theorem row_some {W:World}{B:Nat}{e:TypeId}{size n:Nat}{v:Value}{xs:List Value}(h:W.ownsRow B e size v (n+1) xs):∃g cap,v=.slice (some ⟨g,0,none⟩) (n+1) cap:=by
 rcases row_form h with ⟨_,e⟩ | ⟨g,cap,e,_⟩
 ·cases e
 ·exact⟨g,cap,e⟩
theorem cells_frozen {W:World}{b:Nat}{A:Array Value}{t:TypeId}(h:W.heap[b]? = some (.cells A t))(i:Nat):W.frozen? ⟨b,i,none⟩=false:=by simp [World.frozen?,h]
def OKeep (w w':World) (m:ImgD) (val:Nm→Value):Prop:=∀q,q<w.heap.size→(∀a,Live m a→(val a).ownBlock≠some q)→w'.heap[q]? = w.heap[q]?
theorem OKeep.refl (w:World)(m:ImgD)(val:Nm→Value):OKeep w w m val:=fun _ _ _=>rfl
theorem OKeep.alloc {w W:World}{m:ImgD}{val:Nm→Value}(h:OKeep w W m val)(hs:w.heap.size≤W.heap.size)(o:Obj):OKeep w (W.alloc o) m val:=fun q hq hn=>(Below.heap_alloc W o q (by omega)).trans (h q hq hn)
theorem OKeep.own {w W:World}{m:ImgD}{val:Nm→Value}(h:OKeep w W m val){a:Nm}(ha:Live m a){g n c:Nat}(hg:val a=.slice (some ⟨g,0,none⟩) n c){i:Nat}{v:Value} : OKeep w (W.setCell ⟨g,i,none⟩ v) m val:=fun q hq hn=>
 (Below.heap_setCell W ⟨g,i,none⟩ v q (fun e=>hn a ha (by rw [hg];exact congrArg some e.symm))).trans (h q hq hn)
theorem OKeep.new {w W:World}{m:ImgD}{val:Nm→Value}(h:OKeep w W m val){g i:Nat}(hg:w.heap.size≤g){v:Value} : OKeep w (W.setCell ⟨g,i,none⟩ v) m val:=fun q hq hn=>
 (Below.heap_setCell W ⟨g,i,none⟩ v q (fun e=>by have e:q=g:=e;omega)).trans (h q hq hn)
theorem OKeep.grown {w W W':World}{m:ImgD}{val:Nm→Value}(h:OKeep w W m val)(hs:w.heap.size≤W.heap.size){a:Nm}(ha:Live m a){v:Value}(hv:val a=v)(hg:W.grownBy W' v.ownBlock):OKeep w W' m val:=fun q hq hn=>
 (hg.block q (by omega) (fun e=>hn a ha (by rw [hv];exact e.symm))).trans (h q hq hn)
theorem OKeep.below {w W W':World}{m:ImgD}{val:Nm→Value}(h:OKeep w W m val){n:Nat}(hs:w.heap.size≤n)(hg:Below n W W'):OKeep w W' m val:=fun q hq hn=>(hg.block q (by omega)).trans (h q hq hn)
theorem OI.forms {W:World}{B:Nat}{val:Nm→Value}{m:ImgD}(h:OI W B val m)(a:Nm)(ha:Live m a):∃ao cap,val a=.slice ao (rowN m a) cap∧(0<rowN m a→∃g,ao=some ⟨g,0,none⟩):=by
 rcases row_form (h.row a ha) with ⟨e,hn⟩ | ⟨g,cap,e,_⟩
 ·exact⟨none,0,by rw [e,hn],fun hp=>absurd hp (by omega)⟩
 ·exact⟨_,cap,e,fun _=>⟨g,rfl⟩⟩
theorem new_row (W:World)(l:List Int)(hl:l.length≤1000){B:Nat}(hB:B≤W.heap.size):(W.alloc (.cells (ints l).toArray 3)).ownsRow B 3 1 (.slice (some ⟨W.heap.size,0,none⟩) l.length l.length) l.length (ints l):=
 ⟨by simp [ints_length],.inr ⟨W.heap.size,l.length,(ints l).toArray,rfl,hB,World.alloc_heap_new _ _,Nat.le_refl _,by unfold maxLen;omega,by simp [ints_length],by rw [Nat.mul_one];exact List.take_of_length_le (by simp [ints_length])⟩⟩
def Fresh (w:World) (v:Value):Prop:=∀g,v.ownBlock=some g→w.heap.size≤g
set_option maxHeartbeats 4000000 in
theorem tableOf_none (gm:Int)(ra:Option Addr)(rn rc:Nat)(sa:Option Addr)(sn sc:Nat)(fa:Option Addr)(fn fc:Nat)(na:Option Addr)(nn nc:Nat)(w:World) :
  Calls Tryz.prog 67 #[.agg #[.int .i64 gm,.slice ra rn rc,.slice sa sn sc,.slice fa fn fc,.slice na nn nc],.int .i64 0] w fun r w'=>∃v,r=.returned v∧w'.ownsRow w.heap.size 3 1 v 4 (ints [0,0,0,0])∧Fresh w v∧Below w.heap.size w w':=by
 go_enter Tryz.func67,Tryz.ntmps67
 have hmk:∀w,(Instr.makeSlice 23 (.int .i64 4) (.int .i64 4)).run Tryz.prog w=.ok (.slice (some ⟨w.heap.size,0,none⟩) 4 4) (w.alloc (.cells #[.int .i64 0,.int .i64 0,.int .i64 0,.int .i64 0] 3)):=fun _=>by kernel_rfl
 go_wp2_with fail
 go_ret
 have hr:=new_row (w.alloc (.cells #[.int .i64 gm,.slice ra rn rc,.slice sa sn sc,.slice fa fn fc,.slice na nn nc] 27)) [0,0,0,0] (by decide) (B:=w.heap.size) (by simp)
 rw [show (w.alloc (.cells #[.int .i64 gm,.slice ra rn rc,.slice sa sn sc,.slice fa fn fc,.slice na nn nc] 27)).heap.size=w.heap.size+1 by simp] at hr
 refine⟨.slice (some ⟨w.heap.size+1,0,none⟩) 4 4,rfl,hr,fun g e=>by cases e;show w.heap.size≤w.heap.size+1;omega,((Below.refl _ _).alloc (Nat.le_refl _) _).alloc (by simp) _⟩
set_option maxHeartbeats 4000000 in
theorem tableOf_some (gm:Int)(ra:Option Addr)(rn rc:Nat)(sa:Option Addr)(sn sc:Nat)(fa:Option Addr)(fn fc:Nat)(na:Option Addr)(nn nc:Nat)(L:List SlotD)(t b off:Nat)(w:World)(ht:1≤t)(htl:t<L.length)(hsa:sa=some ⟨b,off,none⟩)(hsn:L.length≤sn)(hb:b<w.heap.size)(tv:Value)(hc:w.cell? ⟨b,off+t*3+2,none⟩=some tv)(es:List Int)(hes:Sl w tv es)(hel:es.length≤1000) :
  Calls Tryz.prog 67 #[.agg #[.int .i64 gm,.slice ra rn rc,.slice sa sn sc,.slice fa fn fc,.slice na nn nc],.int .i64 (t:Int)] w fun r w'=>∃v,r=.returned v∧w'.ownsRow w.heap.size 3 1 v es.length (ints es)∧Fresh w v∧Below w.heap.size w w':=by
 subst hsa
 have t0:¬(t:Int)=0:=by omega
 have tb:((t:Int) == 0)=false:=by simp;omega
 have t1:(t:Int)<(sn:Int):=by omega
 have m0:(w.alloc (.cells #[.int .i64 gm,.slice ra rn rc,.slice (some ⟨b,off,none⟩) sn sc,.slice fa fn fc,.slice na nn nc] 27)).heap[w.heap.size]? = some (.cells #[.int .i64 gm,.slice ra rn rc,.slice (some ⟨b,off,none⟩) sn sc,.slice fa fn fc,.slice na nn nc] 27):=World.alloc_heap_new _ _
 obtain⟨c0,c1,c2,c3,c4⟩:=five m0
 have b0:Below w.heap.size w (w.alloc (.cells #[.int .i64 gm,.slice ra rn rc,.slice (some ⟨b,off,none⟩) sn sc,.slice fa fn fc,.slice na nn nc] 27)):=(Below.refl _ _).alloc (Nat.le_refl _) _
 have hcA:((w.alloc (.cells #[.int .i64 gm,.slice ra rn rc,.slice (some ⟨b,off,none⟩) sn sc,.slice fa fn fc,.slice na nn nc] 27)).alloc (.cells #[] 3)).cell? ⟨b,off+t*3+2,none⟩=some tv:=((b0.alloc (by simp) _).cell (p:=⟨b,off+t*3+2,none⟩) hb).trans hc
 go_enter Tryz.func67,Tryz.ntmps67
 go_wp2_with (at_builtin;refine wpList_copy (by rfl) _ _ (by rfl) (g:=w.heap.size+1) (B:=w.heap.size) (by rfl) (by have:=World.alloc_heap_new (w.alloc (.cells #[.int .i64 gm,.slice ra rn rc,.slice (some ⟨b,off,none⟩) sn sc,.slice fa fn fc,.slice na nn nc] 27)) (.cells #[] 3);simpa using this) (by omega) (src:=tv) (xs:=es) (by rfl) (hes.below (b0.alloc (by simp) _)) hel ?_;intro v1 w1 h1 h2 h3)
 go_ret
 refine⟨v1,rfl,h1.out,fun g e=>?_,Below.grown (b0.alloc (by simp) _) h2 (by simp <;> omega) (fun q e=>by cases e;omega)⟩
 rcases h3.out with x | x
 ·rw [x] at e;cases e;omega
 ·rw [x] at e;simp at e;omega
def tabAt (L:List SlotD) (t:Nat):List Int:=if t=0 then [0,0,0,0] else (L.getD t default).2.2
theorem tableOf_is {v:Value}{m:ImgD}{w:World}(h:Img w v m){t:Nat}(ht:t<m.slots.length)(hl:(tabAt m.slots t).length≤1000) :
  Calls Tryz.prog 67 #[v,.int .i64 (t:Int)] w fun r w'=>∃v,r=.returned v∧w'.ownsRow w.heap.size 3 1 v (tabAt m.slots t).length (ints (tabAt m.slots t))∧Fresh w v∧Below w.heap.size w w':=by
 obtain⟨rv,sv,fv,nv,rfl,⟨ra,rc,rfl,_⟩,⟨sa,sc,rfl,_,_,hs⟩,⟨fa,fc,rfl,_⟩,⟨na,nc,rfl,_⟩⟩:=h
 unfold tabAt at hl ⊢
 by_cases e:t=0
 ·subst e
  rw [if_pos rfl] at hl ⊢
  exact tableOf_none _ _ _ _ _ _ _ _ _ _ _ _ _ w
 ·rw [if_neg e] at hl ⊢
  obtain⟨b,off,ha,hb,hc⟩:=hs (by intro x;rw [x] at ht;simp at ht)
  obtain⟨tv,_,_,h3,h4⟩:=hc t ht
  have eg:m.slots[t]=m.slots.getD t default:=by simp [List.getD,ht]
  rw [eg] at h4
  exact tableOf_some _ _ _ _ _ _ _ _ _ _ _ _ _ m.slots t b off w (by omega) ht ha (Nat.le_refl _) hb tv h3 _ h4 hl
def frT (m:ImgD) (k:Nat):ImgD:={ m with refs:=cntL m,slots:=(List.range m.slots.length).map (fun j=>if j<k∧(cntL m).getD j 0=0 then slotZ else m.slots.getD j default) }
theorem frT_length (m:ImgD)(k:Nat):(frT m k).slots.length=m.slots.length:=by simp [frT]
theorem frT_get (m:ImgD)(k:Nat){j:Nat}(hj:j<m.slots.length):(frT m k).slots.getD j default=if j<k∧(cntL m).getD j 0=0 then slotZ else m.slots.getD j default:=by
 unfold frT
 simp only [List.getD,List.getElem?_map,List.getElem?_range hj,Option.map_some,Option.getD_some]
theorem slots_ext {L M:List SlotD}(hl:L.length=M.length)(h:∀j,j<L.length→L.getD j default=M.getD j default):L=M:=by
 apply List.ext_getElem hl
 intro j h1 h2
 have:=h j h1
 simpa [List.getD,h1,h2] using this
theorem frT_zero (m:ImgD):frT m 0 = { m with refs:=cntL m }:=by
 have e:(frT m 0).slots=m.slots:=slots_ext (frT_length m 0) (fun j hj=>by
  rw [frT_length] at hj
  rw [frT_get m 0 hj,if_neg (by omega)])
 show ImgD.mk _ _ (frT m 0).slots _ _=_
 rw [e]
theorem frT_end (m:ImgD):frT m m.slots.length=countedD m:=by
 have e:(frT m m.slots.length).slots=freeUn m.slots (cntL m):=slots_ext (by rw [frT_length,freeUn_length]) (fun j hj=>by
  rw [frT_length] at hj
  rw [frT_get m _ hj,freeUn_get hj]
  by_cases c:(cntL m).getD j 0=0
  ·rw [if_pos ⟨hj,c⟩,if_pos c]
  ·rw [if_neg (fun x=>c x.2),if_neg c])
 show ImgD.mk _ _ (frT m m.slots.length).slots _ _=_
 rw [e];rfl
theorem frT_gone (m:ImgD){k:Nat}(hc:(cntL m).getD k 0=0):frT m (k+1) = { frT m k with slots:=(frT m k).slots.set k slotZ }:=by
 have e:(frT m (k+1)).slots=(frT m k).slots.set k slotZ:=slots_ext (by rw [List.length_set,frT_length,frT_length]) (fun j hj=>by
  rw [frT_length] at hj
  rw [getD_setR,frT_get m _ hj,frT_length]
  by_cases e:k=j
  ·subst e;rw [if_pos ⟨by omega,hc⟩,if_pos ⟨rfl,hj⟩]
  ·rw [show (if k=j∧j<m.slots.length then slotZ else (frT m k).slots.getD j default)=(frT m k).slots.getD j default from if_neg (fun x=>e x.1),frT_get m k hj]
   by_cases c:(cntL m).getD j 0=0
   ·by_cases l:j<k
    ·rw [if_pos ⟨by omega,c⟩,if_pos ⟨l,c⟩]
    ·rw [if_neg (by omega),if_neg (fun x=>l x.1)]
   ·rw [if_neg (fun x=>c x.2),if_neg (fun x=>c x.2)])
 show ImgD.mk _ _ (frT m (k+1)).slots _ _=_
 rw [e];rfl
theorem frT_kept (m:ImgD){k:Nat}(hc:(cntL m).getD k 0≠0):frT m (k+1)=frT m k:=by
 have e:(frT m (k+1)).slots=(frT m k).slots:=slots_ext (by rw [frT_length,frT_length]) (fun j hj=>by
  rw [frT_length] at hj
  rw [frT_get m _ hj,frT_get m _ hj]
  by_cases c:(cntL m).getD j 0=0
  ·have:j≠k:=fun x=>hc (by rw [←x];exact c)
   by_cases l:j<k
   ·rw [if_pos ⟨by omega,c⟩,if_pos ⟨l,c⟩]
   ·rw [if_neg (by omega),if_neg (fun x=>l x.1)]
  ·rw [if_neg (fun x=>c x.2),if_neg (fun x=>c x.2)])
 show ImgD.mk _ _ (frT m (k+1)).slots _ _=_
 rw [e];rfl
theorem cells_set {W:World}{b:Nat}{A:Array Value}{t:TypeId}(h:W.heap[b]? = some (.cells A t))(i:Nat)(v:Value):(W.setCell ⟨b,i,none⟩ v).heap[b]? = some (.cells (A.setIfInBounds i v) t):=by
 obtain⟨hlt,hk⟩:=Array.getElem?_eq_some_iff.1 h
 show (W.heap.modify b _)[b]? = _
 rw [Array.getElem?_eq_getElem (by rw [Array.size_modify];exact hlt),Array.getElem_modify_self,hk]
 simp
theorem cells_other {W:World}{b:Nat}{o:Option Obj}(h:W.heap[b]? = o){g:Nat}(hg:b≠g)(i:Nat)(v:Value):(W.setCell ⟨g,i,none⟩ v).heap[b]? = o:=(Below.heap_setCell W ⟨g,i,none⟩ v b hg).trans h
theorem row_LAt {W:World}{g:Nat}{l:List Int}(h:LAt W g l){B:Nat}(hB:B≤g)(hl:l.length≤1000):W.ownsRow B 3 1 (.slice (some ⟨g,0,none⟩) l.length l.length) l.length (ints l):=
 ⟨by simp [ints_length],.inr ⟨g,l.length,(ints l).toArray,rfl,hB,h,Nat.le_refl _,by unfold maxLen;omega,by simp [ints_length],by rw [Nat.mul_one];exact List.take_of_length_le (by simp [ints_length])⟩⟩
theorem Img.four {w:World}{m:ImgD}{a b c d e:Value}(h:Img w (.agg #[a,b,c,d,e]) m):Sl w b m.root∧Slots w c m.slots∧Sl w d m.refs∧Snaps w e m.snaps:=by
 obtain⟨_,_,_,_,e,h1,h2,h3,h4⟩:=h
 simp only [Value.agg.injEq,Array.mk.injEq,List.cons.injEq,and_true] at e
 obtain⟨_,rfl,rfl,rfl,rfl⟩:=e
 exact⟨h1,h2,h3,h4⟩
structure DK (W:World) (B D:Nat) (val:Nm→Value) (m:ImgD):Prop where
 own:OI W B val m
 box:W.heap[D]? = some (.cells #[.int .i64 m.guest,val .root,val .slots,val .refs,val .snaps] 70)
 ge:B≤D
 far:∀a,Live m a→(val a).ownBlock≠some D
theorem DK.lt {W:World}{B D:Nat}{val:Nm→Value}{m:ImgD}(h:DK W B D val m):D<W.heap.size:=(Array.getElem?_eq_some_iff.1 h.box).1
theorem DK.below {W W':World}{B D:Nat}{val:Nm→Value}{m:ImgD}(h:DK W B D val m)(hb:Below W.heap.size W W'):DK W' B D val m:=⟨h.own.below hb,(hb.block D h.lt).trans h.box,h.ge,h.far⟩
theorem DK.drew {W:World}{B D:Nat}{val:Nm→Value}{m:ImgD}(h:DK W B D val m):DK W.drew B D val m:=⟨h.own.drew,h.box,h.ge,h.far⟩
theorem DK.alloc {W:World}{B D:Nat}{val:Nm→Value}{m:ImgD}(h:DK W B D val m)(o:Obj):DK (W.alloc o) B D val m:=h.below ((Below.refl _ _).alloc (Nat.le_refl _) o)
structure DTo (w w':World) (B D:Nat) (m:ImgD) (val:Nm→Value) (ev:Value) (m':ImgD) (val':Nm→Value):Prop where
 dk:DK w' B D val' m'
 bel:Below B w w'
 keep:∀q,q<w.heap.size→q≠D→ev.ownBlock≠some q→(∀a,Live m a→(val a).ownBlock≠some q)→w'.heap[q]? = w.heap[q]?
 src:∀q,q<w.heap.size→ev.ownBlock≠some q→(∀b,Live m b→(val b).ownBlock≠some q)→∀a,Live m' a→(val' a).ownBlock≠some q
abbrev nilV:Value:=.slice none 0 0
theorem nilV_own (q:Nat):nilV.ownBlock≠some q:=by intro e;cases e
theorem DTo.refl {w:World}{B D:Nat}{m:ImgD}{val:Nm→Value}(h:DK w B D val m)(ev:Value):DTo w w B D m val ev m val:=⟨h,Below.refl _ _,fun _ _ _ _ _=>rfl,fun _ _ _ hm=>hm⟩
theorem DTo.trans {w w1 w2:World}{B D:Nat}{m m1 m2:ImgD}{val val1 val2:Nm→Value}{ev ev':Value}(h:DTo w w1 B D m val ev m1 val1)(k:DTo w1 w2 B D m1 val1 ev' m2 val2)(he:∀q,ev'.ownBlock=some q→ev.ownBlock=some q∨w.heap.size≤q∨∃a,Live m a∧(val a).ownBlock=some q):DTo w w2 B D m val ev m2 val2:=by
 have hx:∀q,q<w.heap.size→ev.ownBlock≠some q→(∀b,Live m b→(val b).ownBlock≠some q)→ev'.ownBlock≠some q:=fun q hq hev hm e=>by
  rcases he q e with x | x | ⟨a,ha,x⟩
  ·exact hev x
  ·omega
  ·exact hm a ha x
 refine⟨k.dk,h.bel.trans k.bel,fun q hq hD hev hm=>?_,fun q hq hev hm=>?_⟩
 ·exact (k.keep q (Nat.lt_of_lt_of_le hq h.bel.size) hD (hx q hq hev hm) (h.src q hq hev hm)).trans (h.keep q hq hD hev hm)
 ·exact k.src q (Nat.lt_of_lt_of_le hq h.bel.size) (hx q hq hev hm) (h.src q hq hev hm)
theorem DTo.andThen {w w1 w2:World}{B D:Nat}{m m1 m2:ImgD}{val val1 val2:Nm→Value}(h:DTo w w1 B D m val nilV m1 val1)(k:DTo w1 w2 B D m1 val1 nilV m2 val2):DTo w w2 B D m val nilV m2 val2:=
 h.trans k (fun q e=>by cases e)
theorem DTo.first {w w1 w2:World}{B D:Nat}{m m1:ImgD}{val val1:Nm→Value}{ev:Value}(hb:Below w.heap.size w w1)(hB:B≤w.heap.size)(h:DTo w1 w2 B D m val ev m1 val1)(he:∀q,ev.ownBlock=some q→w.heap.size≤q):DTo w w2 B D m val nilV m1 val1:=
 ⟨h.dk,(hb.mono hB).trans h.bel,fun q hq hD _ hm=>(h.keep q (Nat.lt_of_lt_of_le hq hb.size) hD (fun e=>by have:=he q e;omega) hm).trans (hb.block q hq),fun q hq _ hm=>h.src q (Nat.lt_of_lt_of_le hq hb.size) (fun e=>by have:=he q e;omega) hm⟩
theorem DTo.below {w w1 w2:World}{B D:Nat}{m m1:ImgD}{val val1:Nm→Value}{ev:Value}(h:DTo w w1 B D m val ev m1 val1)(hB:B≤w.heap.size)(hb:Below w1.heap.size w1 w2):DTo w w2 B D m val ev m1 val1:=
 ⟨h.dk.below hb,h.bel.trans (hb.mono (Nat.le_trans hB h.bel.size)),fun q hq hD hev hm=>(hb.block q (Nat.lt_of_lt_of_le hq h.bel.size)).trans (h.keep q hq hD hev hm),h.src⟩
theorem DTo.drew {w w1:World}{B D:Nat}{m m1:ImgD}{val val1:Nm→Value}{ev:Value}(h:DTo w w1 B D m val ev m1 val1):DTo w w1.drew B D m val ev m1 val1:=⟨h.dk.drew,h.bel.drew,h.keep,h.src⟩
theorem DTo.alloc {w w1:World}{B D:Nat}{m m1:ImgD}{val val1:Nm→Value}{ev:Value}(h:DTo w w1 B D m val ev m1 val1)(hB:B≤w.heap.size)(o:Obj):DTo w (w1.alloc o) B D m val ev m1 val1:=h.below hB ((Below.refl _ _).alloc (Nat.le_refl _) o)
theorem DK.setFar {W:World}{B D:Nat}{val:Nm→Value}{m:ImgD}(h:DK W B D val m){g i:Nat}{u:Value}(hD:D≠g)(hg:∀a,Live m a→(val a).ownBlock≠some g):DK (W.setCell ⟨g,i,none⟩ u) B D val m:=⟨h.own.far hg,cells_other h.box hD _ _,h.ge,h.far⟩
theorem DTo.setNew {w w1:World}{B D:Nat}{m m1:ImgD}{val val1:Nm→Value}{ev:Value}(h:DTo w w1 B D m val ev m1 val1)(hB:B≤w.heap.size){g i:Nat}{u:Value}(hg:w.heap.size≤g)(hD:D≠g)(hf:∀a,Live m1 a→(val1 a).ownBlock≠some g):DTo w (w1.setCell ⟨g,i,none⟩ u) B D m val ev m1 val1:=
 ⟨h.dk.setFar hD hf,h.bel.setCell (Nat.le_trans hB hg) _,fun q hq hqD hev hm=>(Below.heap_setCell w1 ⟨g,i,none⟩ u q (fun e=>by have e:q=g:=e;omega)).trans (h.keep q hq hqD hev hm),h.src⟩
theorem DTo.cells {w w1:World}{B D:Nat}{m m1:ImgD}{val val1:Nm→Value}{ev:Value}(h:DTo w w1 B D m val ev m1 val1){q:Nat}{A:Array Value}{t:TypeId}(hq:w.heap[q]? = some (.cells A t))(hD:q≠D)(hev:ev.ownBlock≠some q)(hm:∀a,Live m a→(val a).ownBlock≠some q):w1.heap[q]? = some (.cells A t):=
 (h.keep q (szH hq) hD hev hm).trans hq
theorem DK.five {W:World}{B D:Nat}{val:Nm→Value}{m:ImgD}(h:DK W B D val m):W.cell? ⟨D,0,none⟩=some (.int .i64 m.guest)∧W.cell? ⟨D,1,none⟩=some (val .root)∧W.cell? ⟨D,2,none⟩=some (val .slots)∧W.cell? ⟨D,3,none⟩=some (val .refs)∧W.cell? ⟨D,4,none⟩=some (val .snaps):=Go.Proofs.YtehleeibgkpjmafGreat.five h.box
theorem DK.frozen {W:World}{B D:Nat}{val:Nm→Value}{m:ImgD}(h:DK W B D val m)(i:Nat):W.frozen? ⟨D,i,none⟩=false:=cells_frozen h.box i
theorem DK.swapRefs {W:World}{B D:Nat}{val:Nm→Value}{m:ImgD}(h:DK W B D val m){v:Value}{r:List Int}(hv:W.ownsRow B 3 1 v r.length (ints r))(hfar:Far m val .refs v)(hD:v.ownBlock≠some D):DK (W.setCell ⟨D,3,none⟩ v) B D (upd val .refs v) { m with refs:=r }:=by
 have hf:∀a,Live m a→(upd val .refs v a).ownBlock≠some D:=fun a ha=>by
  by_cases e:a=.refs
  ·subst e;rw [upd_same];exact hD
  ·rw [upd_other _ _ e];exact h.far a ha
 refine⟨(h.own.swapRefs hv hfar).far hf,?_,h.ge,hf⟩
 have:=cells_set h.box 3 v
 rw [upd_same,upd_other _ _ (by intro x;cases x),upd_other _ _ (by intro x;cases x),upd_other _ _ (by intro x;cases x)]
 exact this
theorem DK.swapRoot {W:World}{B D:Nat}{val:Nm→Value}{m:ImgD}(h:DK W B D val m){v:Value}{r:List Int}(hv:W.ownsRow B 3 1 v r.length (ints r))(hfar:Far m val .root v)(hD:v.ownBlock≠some D):DK (W.setCell ⟨D,1,none⟩ v) B D (upd val .root v) { m with root:=r }:=by
 have hf:∀a,Live m a→(upd val .root v a).ownBlock≠some D:=fun a ha=>by
  by_cases e:a=.root
  ·subst e;rw [upd_same];exact hD
  ·rw [upd_other _ _ e];exact h.far a ha
 refine⟨(h.own.swapRoot hv hfar m.guest).far hf,?_,h.ge,hf⟩
 have:=cells_set h.box 1 v
 rw [upd_same,upd_other _ _ (by intro x;cases x),upd_other _ _ (by intro x;cases x),upd_other _ _ (by intro x;cases x)]
 exact this
theorem OI.reguest {W:World}{B:Nat}{val:Nm→Value}{m:ImgD}(h:OI W B val m)(g:Int):OI W B val { m with guest:=g }:=⟨fun a ha=>h.row a ha,fun a b ha hb=>h.apart a b ha hb⟩
theorem DK.setGuest {W:World}{B D:Nat}{val:Nm→Value}{m:ImgD}(h:DK W B D val m)(g:Int):DK (W.setCell ⟨D,0,none⟩ (.int .i64 g)) B D val { m with guest:=g }:=
 ⟨(h.own.reguest g).far h.far,cells_set h.box 0 _,h.ge,h.far⟩
theorem DTo.setOwn {w w1:World}{B D:Nat}{m m1 m2:ImgD}{val val1 val2:Nm→Value}{ev:Value}(h:DTo w w1 B D m val ev m1 val1){a:Nm}(ha:Live m1 a){g n cap:Nat}(hv:val1 a=.slice (some ⟨g,0,none⟩) n cap){i:Nat}{u:Value}(hdk:DK (w1.setCell ⟨g,i,none⟩ u) B D val2 m2)(hs:∀q,ev.ownBlock≠some q→(∀b,Live m1 b→(val1 b).ownBlock≠some q)→q<w.heap.size→∀b,Live m2 b→(val2 b).ownBlock≠some q):DTo w (w1.setCell ⟨g,i,none⟩ u) B D m val ev m2 val2:=by
 have hg:=((h.dk.own.row a ha).lt g (by rw [hv];rfl)).1
 refine⟨hdk,h.bel.setCell hg _,fun q hq hD hev hm=>?_,fun q hq hev hm=>hs q hev (h.src q hq hev hm) hq⟩
 exact (Below.heap_setCell w1 ⟨g,i,none⟩ u q (fun e=>h.src q hq hev hm a ha (by rw [hv];exact congrArg some e.symm))).trans (h.keep q hq hD hev hm)
theorem DTo.setDesk {w w1:World}{B D:Nat}{m m1 m2:ImgD}{val val1 val2:Nm→Value}{ev:Value}(h:DTo w w1 B D m val ev m1 val1){i:Nat}{u:Value}(hdk:DK (w1.setCell ⟨D,i,none⟩ u) B D val2 m2)(hs:∀q,ev.ownBlock≠some q→(∀b,Live m1 b→(val1 b).ownBlock≠some q)→q<w.heap.size→∀b,Live m2 b→(val2 b).ownBlock≠some q):DTo w (w1.setCell ⟨D,i,none⟩ u) B D m val ev m2 val2:=
 ⟨hdk,h.bel.setCell h.dk.ge _,fun q hq hD hev hm=>(Below.heap_setCell w1 ⟨D,i,none⟩ u q hD).trans (h.keep q hq hD hev hm),fun q hq hev hm=>hs q hev (h.src q hq hev hm) hq⟩
theorem DK.setRoot {W:World}{B D:Nat}{val:Nm→Value}{m:ImgD}(h:DK W B D val m){g n cap:Nat}(hv:val .root=.slice (some ⟨g,0,none⟩) n cap)(i:Nat)(x:Int):DK (W.setCell ⟨g,i,none⟩ (.int .i64 x)) B D val { m with root:=m.root.set i x }:=
 ⟨h.own.setRoot hv i x,cells_other h.box (fun e=>h.far .root (Live.root m) (by rw [hv,e];rfl)) _ _,h.ge,h.far⟩
theorem DK.setRefs {W:World}{B D:Nat}{val:Nm→Value}{m:ImgD}(h:DK W B D val m){g n cap:Nat}(hv:val .refs=.slice (some ⟨g,0,none⟩) n cap)(i:Nat)(x:Int):DK (W.setCell ⟨g,i,none⟩ (.int .i64 x)) B D val { m with refs:=m.refs.set i x }:=
 ⟨h.own.setRefs hv i x,cells_other h.box (fun e=>h.far .refs (Live.refs m) (by rw [hv,e];rfl)) _ _,h.ge,h.far⟩
theorem DTo.setRoot {w w1:World}{B D:Nat}{m m1:ImgD}{val val1:Nm→Value}{ev:Value}(h:DTo w w1 B D m val ev m1 val1){g n cap:Nat}(hv:val1 .root=.slice (some ⟨g,0,none⟩) n cap)(i:Nat)(x:Int):DTo w (w1.setCell ⟨g,i,none⟩ (.int .i64 x)) B D m val ev { m1 with root:=m1.root.set i x } val1:=
 h.setOwn (Live.root m1) hv (h.dk.setRoot hv i x) (fun _ _ hm _=>hm)
theorem DTo.setRefs {w w1:World}{B D:Nat}{m m1:ImgD}{val val1:Nm→Value}{ev:Value}(h:DTo w w1 B D m val ev m1 val1){g n cap:Nat}(hv:val1 .refs=.slice (some ⟨g,0,none⟩) n cap)(i:Nat)(x:Int):DTo w (w1.setCell ⟨g,i,none⟩ (.int .i64 x)) B D m val ev { m1 with refs:=m1.refs.set i x } val1:=
 h.setOwn (Live.refs m1) hv (h.dk.setRefs hv i x) (fun _ _ hm _=>hm)
theorem DTo.setGuest {w w1:World}{B D:Nat}{m m1:ImgD}{val val1:Nm→Value}{ev:Value}(h:DTo w w1 B D m val ev m1 val1)(x:Int):DTo w (w1.setCell ⟨D,0,none⟩ (.int .i64 x)) B D m val ev { m1 with guest:=x } val1:=
 h.setDesk (h.dk.setGuest x) (fun _ _ hm _=>hm)
theorem upd_src {m1 m2:ImgD}{val1:Nm→Value}{ev v:Value}{a:Nm}{n:Nat}(hl:∀b,Live m2 b→b≠a→Live m1 b)(hv:∀q,v.ownBlock=some q→ev.ownBlock=some q∨n≤q):∀q,ev.ownBlock≠some q→(∀b,Live m1 b→(val1 b).ownBlock≠some q)→q<n→∀b,Live m2 b→(upd val1 a v b).ownBlock≠some q:=fun q hev hm hq b hb=>by
 by_cases e:b=a
 ·subst e
  rw [upd_same]
  intro x
  rcases hv q x with y | y
  ·exact hev y
  ·omega
 ·rw [upd_other _ _ e];exact hm b (hl b hb e)
theorem DTo.swapRoot {w w1:World}{B D:Nat}{m m1:ImgD}{val val1:Nm→Value}{ev:Value}(h:DTo w w1 B D m val ev m1 val1){v:Value}{r:List Int}(hv:w1.ownsRow B 3 1 v r.length (ints r))(hfar:Far m1 val1 .root v)(hD:v.ownBlock≠some D)(hs:∀q,v.ownBlock=some q→ev.ownBlock=some q∨w.heap.size≤q):DTo w (w1.setCell ⟨D,1,none⟩ v) B D m val ev { m1 with root:=r } (upd val1 .root v):=
 h.setDesk (h.dk.swapRoot hv hfar hD) (upd_src (fun _ hb _=>hb) hs)
theorem DTo.swapRefs {w w1:World}{B D:Nat}{m m1:ImgD}{val val1:Nm→Value}{ev:Value}(h:DTo w w1 B D m val ev m1 val1){v:Value}{r:List Int}(hv:w1.ownsRow B 3 1 v r.length (ints r))(hfar:Far m1 val1 .refs v)(hD:v.ownBlock≠some D)(hs:∀q,v.ownBlock=some q→ev.ownBlock=some q∨w.heap.size≤q):DTo w (w1.setCell ⟨D,3,none⟩ v) B D m val ev { m1 with refs:=r } (upd val1 .refs v):=
 h.setDesk (h.dk.swapRefs hv hfar hD) (upd_src (fun _ hb _=>hb) hs)
theorem DTo.setSlot {w w1:World}{B D:Nat}{m m1:ImgD}{val val1:Nm→Value}{ev:Value}(h:DTo w w1 B D m val ev m1 val1){t:Nat}(ht:t<m1.slots.length){g n cap:Nat}(hv:val1 .slots=.slice (some ⟨g,0,none⟩) n cap)(k:Int)(d:ByteArray)(es:List Int){e2:Value}
  (hev:w1.ownsRow B 3 1 e2 es.length (ints es)) (hfar:Far m1 val1 (.tab t) e2) (hD:e2.ownBlock≠some D) (hs:∀q,e2.ownBlock=some q→ev.ownBlock=some q∨w.heap.size≤q) :
  DTo w (((w1.setCell ⟨g,t*3,none⟩ (.int .i64 k)).setCell ⟨g,t*3+1,none⟩ (.string d)).setCell ⟨g,t*3+2,none⟩ e2) B D m val ev { m1 with slots:=m1.slots.set t (k,d,es) } (upd val1 (.tab t) e2):=by
 have hDg:D≠g:=fun e=>h.dk.far .slots (Live.slots m1) (by rw [hv,e];rfl)
 have hg:=((h.dk.own.row .slots (Live.slots m1)).lt g (by rw [hv];rfl)).1
 have hl:∀b,Live { m1 with slots:=m1.slots.set t (k,d,es) } b→Live m1 b:=fun b hb=>(live_iff (m:=m1) (m':={ m1 with slots:=m1.slots.set t (k,d,es) }) List.length_set rfl b).1 hb
 have hu:∀q,ev.ownBlock≠some q→(∀b,Live m1 b→(val1 b).ownBlock≠some q)→q<w.heap.size→∀b,Live { m1 with slots:=m1.slots.set t (k,d,es) } b→(upd val1 (.tab t) e2 b).ownBlock≠some q:=upd_src (fun b hb _=>hl b hb) hs
 refine⟨⟨h.dk.own.setSlot ht hv k d es hev hfar,?_,h.dk.ge,fun a ha=>?_⟩,((h.bel.setCell hg _).setCell hg _).setCell hg _,fun q hq hqD hev' hm=>?_,fun q hq hev' hm=>hu q hev' (h.src q hq hev' hm) hq⟩
 ·rw [upd_other _ _ (by intro x;cases x),upd_other _ _ (by intro x;cases x),upd_other _ _ (by intro x;cases x),upd_other _ _ (by intro x;cases x)]
  exact cells_other (cells_other (cells_other h.dk.box hDg _ _) hDg _ _) hDg _ _
 ·by_cases e:a=.tab t
  ·subst e;rw [upd_same];exact hD
  ·rw [upd_other _ _ e];exact h.dk.far a (hl a ha)
 ·have hqg:q≠g:=fun e=>h.src q hq hev' hm .slots (Live.slots m1) (by rw [hv];exact congrArg some e.symm)
  exact (cells_other (cells_other (cells_other rfl hqg _ _) hqg _ _) hqg _ _).trans (h.keep q hq hqD hev' hm)
def AnsI (w:World) (B:Nat) (m:ImgD) (err:Int) (r:Ending) (w':World):Prop:=∃val,r=.returned (.tuple #[imgV m.guest val,.int .i64 err])∧OI w' B val m∧Below B w w'
def imgZ:ImgD:=⟨0,[],[],[],[]⟩
def valZ:Nm→Value:=fun _=>nilV
theorem OI.zero (W:World)(B:Nat):OI W B valZ imgZ:=⟨fun a ha=>by
 rcases ha.cases with rfl | rfl | rfl | rfl | ⟨j,rfl,hj⟩ | ⟨j,rfl,hj⟩
 ·exact World.ownsRow_nil _ _ _ _
 ·exact World.ownsRow_nil _ _ _ _
 ·exact World.ownsRow_nil _ _ _ _
 ·exact World.ownsRow_nil _ _ _ _
 ·exact absurd hj (Nat.not_lt_zero _)
 ·exact absurd hj (Nat.not_lt_zero _),fun _ _ _ _ _ g hg=>by cases hg⟩
theorem AnsI.bad {w w':World}{B:Nat}(err:Int)(hb:Below B w w'):AnsI w B imgZ err (.returned (.tuple #[.agg #[.int .i64 0,nilV,nilV,nilV,nilV],.int .i64 err])) w':=⟨valZ,rfl,OI.zero _ _,hb⟩
def SetR (v wr:World) (B D:Nat) (m:ImgD) (val:Nm→Value) (q k:Nat):Prop:=
 ∃vk,DTo v wr B D m val nilV (frT m k) vk∧vk .root=val .root∧vk .slots=val .slots∧vk .refs=.slice (some ⟨q,0,none⟩) m.slots.length m.slots.length∧vk .snaps=val .snaps
set_option maxHeartbeats 4000000 in
theorem settled_at (m:ImgD)(ra:Option Addr)(rn rc:Nat)(g sc:Nat)(fa:Option Addr)(fn fc:Nat)(na:Option Addr)(nn nc:Nat)(B D:Nat)(val:Nm→Value)(w:World)(hK:DK w B D val m)(e0:val .root=.slice ra rn rc)(e1:val .slots=.slice (some ⟨g,0,none⟩) m.slots.length sc)(e2:val .refs=.slice fa fn fc)(e3:val .snaps=.slice na nn nc)(hB:B≤w.heap.size)(hE:shapeE m=0) :
  Calls Tryz.prog 73 #[.pointer (some ⟨D,0,none⟩)] w fun r w'=>∃val',r=.returned (.tuple #[imgV m.guest val',.int .i64 0])∧DTo w w' B D m val nilV (countedD m) val':=by
 have h40:m.slots.length≤40:=(slotsE_parts (shapeE_zero hE).2.1).2
 have h1s:1≤m.slots.length:=(slotsE_parts (shapeE_zero hE).2.1).1
 have hlc:(cntL m).length=m.slots.length:=cntL_length m
 have hDlt:=hK.lt
 have hgr:=hK.own.row .slots (Live.slots m)
 rw [e1] at hgr
 have hgl:=hgr.lt g rfl
 have hDg:g≠D:=fun e=>hK.far .slots (Live.slots m) (by rw [e1,e];rfl)
 clear hgr
 have hK1:DK (w.alloc (.cells #[.int .i64 0,.slice none 0 0,.slice none 0 0,.slice none 0 0,.slice none 0 0] 27)) B D val m:=hK.alloc _
 obtain⟨d0,d1,d2,d3,d4⟩:=hK1.five
 have f3:=hK1.frozen 3
 rw [e0] at d1
 rw [e1] at d2
 rw [e2] at d3
 rw [e3] at d4
 have hcall:=counts_own hK1.own.img hE
 unfold imgV at hcall
 rw [e0,e1,e2,e3] at hcall
 have hz1:(w.alloc (.cells #[.int .i64 0,.slice none 0 0,.slice none 0 0,.slice none 0 0,.slice none 0 0] 27)).heap.size=w.heap.size+1:=by simp
 have mR:(w.alloc (.cells #[.int .i64 0,.slice none 0 0,.slice none 0 0,.slice none 0 0,.slice none 0 0] 27)).heap[w.heap.size]? = some (.cells #[.int .i64 0,.slice none 0 0,.slice none 0 0,.slice none 0 0,.slice none 0 0] 27):=World.alloc_heap_new _ _
 have D1:¬D=w.heap.size:=by omega
 have D2:¬w.heap.size=D:=by omega
 go_enter Tryz.func73,Tryz.ntmps73
 go_wp2_with (go_at_call 69;refine hcall.mono ?_;rintro e w2 ⟨⟨q,hq,rfl,hL⟩,hb2⟩;have hK2:=hK1.below hb2;obtain⟨c0,c1,c2,c3,c4⟩:=hK2.five;have f2:=hK2.frozen 3;rw [e0] at c1;rw [e1] at c2;rw [e2] at c3;rw [e3] at c4)
 have hb2':Below (w.alloc (.cells #[.int .i64 0,.slice none 0 0,.slice none 0 0,.slice none 0 0,.slice none 0 0] 27)).heap.size (w.alloc (.cells #[.int .i64 0,.slice none 0 0,.slice none 0 0,.slice none 0 0,.slice none 0 0] 27)) w2:=hb2
 have hq0:=hq
 have hq:w.heap.size+1≤q:=by rw [hz1] at hq;exact hq
 have hrow:w2.ownsRow B 3 1 (.slice (some ⟨q,0,none⟩) m.slots.length m.slots.length) (cntL m).length (ints (cntL m)):=by
  have:=row_LAt hL (B:=B) (by omega) (by rw [hlc];omega)
  rw [hlc] at this ⊢
  exact this
 have hS:=(DTo.refl hK1 nilV).below (by rw [hz1];omega) hb2'
 have hS:=hS.swapRefs hrow (far_new hK1.own .refs (fun p e=>by cases e;rw [hz1];exact hq)) (fun e=>by have e:q=D:=Option.some.inj e;omega) (fun p e=>by cases e;rw [hz1];exact .inr hq)
 have HS:Hid (SetR (w.alloc (.cells #[.int .i64 0,.slice none 0 0,.slice none 0 0,.slice none 0 0,.slice none 0 0] 27)) (w2.setCell ⟨D,3,none⟩ (.slice (some ⟨q,0,none⟩) m.slots.length m.slots.length)) B D m val q 0):=by
  refine⟨upd val .refs (.slice (some ⟨q,0,none⟩) m.slots.length m.slots.length),?_,upd_other _ _ (by intro x;cases x),upd_other _ _ (by intro x;cases x),upd_same _ _ _,upd_other _ _ (by intro x;cases x)⟩
  rw [frT_zero]
  exact hS
 have HV:Hid (val .root=.slice ra rn rc∧val .slots=.slice (some ⟨g,0,none⟩) m.slots.length sc∧val .snaps=.slice na nn nc):=⟨e0,e1,e3⟩
 have HK:Hid (DK w B D val m):=hK
 clear hb2' hb2 hrow hS hL hq0 hK1 hK2 c0 c1 c2 c3 c4 d0 d1 d2 d3 d4 f2 f3 hcall hE e0 e1 e2 e3 hK mR hz1
 go_loopw [27] (fun i wr=>∃k:Nat,k≤m.slots.length∧i=.int .i64 k∧Hid (SetR (w.alloc (.cells #[.int .i64 0,.slice none 0 0,.slice none 0 0,.slice none 0 0,.slice none 0 0] 27)) wr B D m val q k)) (fun i _=>m.slots.length - (intOf i).toNat)
 case atStart=>exact⟨0,Nat.zero_le _,rfl,HS⟩
 case round=>
  obtain⟨k,hk,rfl,HC⟩:=hrel
  obtain⟨vk,hT,v0,v1,v2,v3⟩:=HC.out
  obtain⟨e0,e1,e3⟩:=HV.out
  rw [e0] at v0
  rw [e1] at v1
  rw [e3] at v3
  obtain⟨d0,d1,d2,d3,d4⟩:=hT.dk.five
  have d0:wr.cell? ⟨D,0,none⟩=some (.int .i64 m.guest):=d0
  rw [v0] at d1
  rw [v1] at d2
  rw [v2] at d3
  rw [v3] at d4
  have hls:=frT_length m k
  by_cases hlk:k<m.slots.length
  ·have hki:(k:Int)<(m.slots.length:Int):=by omega
   obtain⟨x,hx⟩:∃x,x=(cntL m).getD k 0:=⟨_,rfl⟩
   have cx:wr.cell? ⟨q,k,none⟩=some (.int .i64 x):=by
    have hr:=hT.dk.own.row .refs (Live.refs _)
    rw [v2] at hr
    have hr:wr.ownsRow B 3 1 (.slice (some ⟨q,0,none⟩) m.slots.length m.slots.length) (cntL m).length (ints (cntL m)):=hr
    rw [hlc] at hr
    rw [hx]
    refine (hr.cellAt k (by omega)).trans ?_
    unfold ints
    rw [List.getElem?_map,List.getElem?_eq_getElem (by rw [hlc];exact hlk)]
    simp [List.getD,hlc,hlk]
   have HX:Hid (x=(cntL m).getD k 0):=hx
   clear hx
   by_cases h0:x=0
   ·have h0':(x == 0)=true:=by simp [h0]
    have H0:Hid ((cntL m).getD k 0=0):=HX.out.symm.trans h0
    clear h0
    have hr:=hT.dk.own.row .slots (Live.slots _)
    rw [v1] at hr
    obtain⟨s0,s1,s2⟩:=flatS_get (L:=(frT m k).slots) (tv:=fun j=>vk (.tab j)) (j:=k) (by rw [hls];exact hlk)
    have hr:wr.ownsRow B 61 3 (.slice (some ⟨g,0,none⟩) m.slots.length sc) m.slots.length (flatS (frT m k).slots (fun j=>vk (.tab j))):=by rw [←hls];rw [←hls] at hr;exact hr
    have t0:wr.cell? ⟨g,k*3,none⟩=some _:=(hr.cellAt (k*3) (by omega)).trans s0
    have t1:wr.cell? ⟨g,k*3+1,none⟩=some _:=(hr.cellAt (k*3+1) (by omega)).trans s1
    have t2:wr.cell? ⟨g,k*3+2,none⟩=some _:=(hr.cellAt (k*3+2) (by omega)).trans s2
    have u0:=hr.frozenAt (k*3)
    have u1:=hr.frozenAt (k*3+1)
    have u2:=hr.frozenAt (k*3+2)
    have HN:Hid (SetR (w.alloc (.cells #[.int .i64 0,.slice none 0 0,.slice none 0 0,.slice none 0 0,.slice none 0 0] 27)) (((wr.setCell ⟨g,k*3,none⟩ (.int .i64 0)).setCell ⟨g,k*3+1,none⟩ (.string ⟨#[]⟩)).setCell ⟨g,k*3+2,none⟩ (.slice none 0 0)) B D m val q (k+1)):=by
     have hN:=hT.setSlot (t:=k) (by rw [hls];exact hlk) v1 0 ⟨#[]⟩ [] (e2:=.slice none 0 0) (World.ownsRow_nil _ _ _ _) (far_nil _ _ _ _ _) (nilV_own _) (fun p e=>by cases e)
     refine⟨upd vk (.tab k) (.slice none 0 0),?_,(upd_other _ _ (by intro x;cases x)).trans (v0.trans e0.symm),(upd_other _ _ (by intro x;cases x)).trans (v1.trans e1.symm),(upd_other _ _ (by intro x;cases x)).trans v2,(upd_other _ _ (by intro x;cases x)).trans (v3.trans e3.symm)⟩
     rw [frT_gone m H0.out];exact hN
    clear hT hr s0 s1 s2 e0 e1 e3 v0 v1 v2 v3 HC HX H0 hls
    go_wp2_with fail
    go_roundw
    case rel=>exact⟨k+1,by omega,by go_num,HN⟩
    case measure=>simp [intOf];omega
   ·have h0':(x == 0)=false:=by simp [h0]
    have HN:Hid (SetR (w.alloc (.cells #[.int .i64 0,.slice none 0 0,.slice none 0 0,.slice none 0 0,.slice none 0 0] 27)) wr B D m val q (k+1)):=by
     refine⟨vk,?_,v0.trans e0.symm,v1.trans e1.symm,v2,v3.trans e3.symm⟩
     rw [frT_kept m (fun e=>h0 (HX.out.trans e))]
     exact hT
    clear hT e0 e1 e3 v0 v1 v2 v3 HC HX hls
    go_wp2_with fail
    go_roundw
    case rel=>exact⟨k+1,by omega,by go_num,HN⟩
    case measure=>simp [intOf];omega
  ·have ek:k=m.slots.length:=by omega
   subst ek
   have hR:wr.heap[w.heap.size]? = some (.cells #[.int .i64 0,.slice none 0 0,.slice none 0 0,.slice none 0 0,.slice none 0 0] 27):=hT.cells (World.alloc_heap_new _ _) (by omega) (nilV_own _) (HK.out.own.lt (Nat.le_refl _))
   obtain⟨z0,z1,z2,z3,z4⟩:=five hR
   have y0:=cells_frozen hR 0
   have y1:=cells_frozen hR 1
   have y2:=cells_frozen hR 2
   have y3:=cells_frozen hR 3
   have y4:=cells_frozen hR 4
   rw [frT_end] at hT
   have hfr:∀a,Live (countedD m) a→(vk a).ownBlock≠some w.heap.size:=hT.src w.heap.size (by simp) (nilV_own _) (HK.out.own.lt (Nat.le_refl _))
   have HF:Hid (DTo w wr B D m val nilV (countedD m) vk):=DTo.first ((Below.refl _ _).alloc (Nat.le_refl _) _) hB hT (fun p e=>by cases e)
   clear hT HC hls
   go_wp2_with fail
   have hn:w.heap.size≤w.heap.size:=Nat.le_refl _
   refine bodyPost_ret (v:=.tuple #[.agg #[.int .i64 m.guest,.slice ra rn rc,.slice (some ⟨g,0,none⟩) m.slots.length sc,.slice (some ⟨q,0,none⟩) m.slots.length m.slots.length,.slice na nn nc],.int .i64 0]) (by simp [results,Tryz.results73,go_sem,z0,z1,z2,z3,z4]) rfl ⟨vk,?_,((((HF.out.setNew hB hn D1 hfr).setNew hB hn D1 hfr).setNew hB hn D1 hfr).setNew hB hn D1 hfr).setNew hB hn D1 hfr⟩
   unfold imgV
   rw [v0,v1,v2,v3]
set_option maxHeartbeats 4000000 in
theorem settled_err (m:ImgD)(E:Int)(ra:Option Addr)(rn rc:Nat)(sa:Option Addr)(sn sc:Nat)(fa:Option Addr)(fn fc:Nat)(na:Option Addr)(nn nc:Nat)(B D:Nat)(val:Nm→Value)(w:World)(hK:DK w B D val m)(e0:val .root=.slice ra rn rc)(e1:val .slots=.slice sa sn sc)(e2:val .refs=.slice fa fn fc)(e3:val .snaps=.slice na nn nc)(hE:shapeE m=E)(hne:(E != 0)=true) :
  Calls Tryz.prog 73 #[.pointer (some ⟨D,0,none⟩)] w fun r w'=>r=.returned (.tuple #[.agg #[.int .i64 0,nilV,nilV,nilV,nilV],.int .i64 E])∧Below w.heap.size w w':=by
 have hDlt:=hK.lt
 have hK1:DK (w.alloc (.cells #[.int .i64 0,.slice none 0 0,.slice none 0 0,.slice none 0 0,.slice none 0 0] 27)) B D val m:=hK.alloc _
 obtain⟨d0,d1,d2,d3,d4⟩:=hK1.five
 rw [e0] at d1
 rw [e1] at d2
 rw [e2] at d3
 rw [e3] at d4
 have hcall:=counts_err hK1.own.img hE hne
 unfold imgV at hcall
 rw [e0,e1,e2,e3] at hcall
 have mR:(w.alloc (.cells #[.int .i64 0,.slice none 0 0,.slice none 0 0,.slice none 0 0,.slice none 0 0] 27)).heap[w.heap.size]? = some (.cells #[.int .i64 0,.slice none 0 0,.slice none 0 0,.slice none 0 0,.slice none 0 0] 27):=World.alloc_heap_new _ _
 have b0:Below w.heap.size w (w.alloc (.cells #[.int .i64 0,.slice none 0 0,.slice none 0 0,.slice none 0 0,.slice none 0 0] 27)):=(Below.refl _ _).alloc (Nat.le_refl _) _
 clear hE
 go_enter Tryz.func73,Tryz.ntmps73
 go_wp2_with (go_at_call 69;refine hcall.mono ?_;rintro e w2 ⟨rfl,hb2⟩;have hR:=cells_below mR hb2 (by simp);obtain⟨z0,z1,z2,z3,z4⟩:=five hR;have y0:=cells_frozen hR 0;have y1:=cells_frozen hR 1;have y2:=cells_frozen hR 2;have y3:=cells_frozen hR 3;have y4:=cells_frozen hR 4)
 have hb:=Below.on b0 hb2
 have hn:w.heap.size≤w.heap.size:=Nat.le_refl _
 refine bodyPost_ret (v:=.tuple #[.agg #[.int .i64 0,nilV,nilV,nilV,nilV],.int .i64 E]) (by simp [results,Tryz.results73,go_sem,z0,z1,z2,z3,z4]) rfl ⟨rfl,((((hb.setCell hn _).setCell hn _).setCell hn _).setCell hn _).setCell hn _⟩
theorem settled_bad {m:ImgD}{E:Int}{B D:Nat}{val:Nm→Value}{w:World}(hK:DK w B D val m)(hE:shapeE m=E)(hne:E≠0) :
  Calls Tryz.prog 73 #[.pointer (some ⟨D,0,none⟩)] w fun r w'=>r=.returned (.tuple #[.agg #[.int .i64 0,nilV,nilV,nilV,nilV],.int .i64 E])∧Below w.heap.size w w':=by
 obtain⟨ra,rc,e0,_⟩:=hK.own.forms .root (Live.root m)
 obtain⟨sa,sc,e1,_⟩:=hK.own.forms .slots (Live.slots m)
 obtain⟨fa,fc,e2,_⟩:=hK.own.forms .refs (Live.refs m)
 obtain⟨na,nc,e3,_⟩:=hK.own.forms .snaps (Live.snaps m)
 exact settled_err m E ra _ rc sa _ sc fa _ fc na _ nc B D val w hK e0 e1 e2 e3 hE (by simpa using hne)
theorem settled_ok {m:ImgD}{B D:Nat}{val:Nm→Value}{w:World}(hK:DK w B D val m)(hB:B≤w.heap.size)(hE:shapeE m=0) :
  Calls Tryz.prog 73 #[.pointer (some ⟨D,0,none⟩)] w fun r w'=>∃val',r=.returned (.tuple #[imgV m.guest val',.int .i64 0])∧DTo w w' B D m val nilV (countedD m) val':=by
 have h1s:1≤m.slots.length:=(slotsE_parts (shapeE_zero hE).2.1).1
 obtain⟨ra,rc,e0,_⟩:=hK.own.forms .root (Live.root m)
 obtain⟨sa,sc,e1,hs⟩:=hK.own.forms .slots (Live.slots m)
 obtain⟨fa,fc,e2,_⟩:=hK.own.forms .refs (Live.refs m)
 obtain⟨na,nc,e3,_⟩:=hK.own.forms .snaps (Live.snaps m)
 obtain⟨g,rfl⟩:=hs (by show 0<m.slots.length;omega)
 exact settled_at m ra _ rc g sc fa _ fc na _ nc B D val w hK e0 e1 e2 e3 hB hE
end Go.Proofs.YtehleeibgkpjmafGreat
