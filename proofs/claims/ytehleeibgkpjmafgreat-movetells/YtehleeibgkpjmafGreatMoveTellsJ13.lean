/- Texts joined: OwC, OxL. -/
import Derived.Test.YtehleeibgkpjmafGreatMoveTellsJ11
import Derived.Test.YtehleeibgkpjmafGreatMoveTellsJ1
import Derived.Test.YtehleeibgkpjmafGreatMoveTellsJ12
import Derived.Test.YtehleeibgkpjmafGreatMoveTellsJ6
import Derived.Deep.RegionHeld
import Derived.Test.YtehleeibgkpjmafGreatMoveTellsJ4
set_option linter.unusedVariables false
set_option linter.unusedSimpArgs false
namespace Go.Proofs.YtehleeibgkpjmafGreat
open Go.RowKit Go.Shelf
set_option maxRecDepth 20000
set_option linter.unusedVariables false
structure OwR (w1 wr:World) (D:Nat) (p:ImgD):Prop where
 ex:∃val,OX wr w1.heap.size val p∧wr.heap[D]? = some (.cells #[.int .i64 p.guest,val .root,val .slots,val .refs,val .snaps] 27)∧∀a,LiveX p a→(val a).ownBlock≠some D
 ge:w1.heap.size≤D
 bel:Below w1.heap.size w1 wr
theorem addX_farN {m:ImgD}{val:Nm→Value}{ev sv:Value}{s:SnapD}{g:Nat}(h1:∀a,LiveX m a→(val a).ownBlock≠some g)(h2:ev.ownBlock≠some g)(h3:sv.ownBlock≠some g) :
  ∀a,LiveX { m with snaps:=m.snaps ++ [s] } a→(upd (upd val (.sr m.snaps.length) ev) .snaps sv a).ownBlock≠some g:=fun a ha=>by
 by_cases e1:a=.snaps
 ·subst e1;rw [upd_same];exact h3
 rw [upd_other _ _ e1]
 by_cases e2:a=.sr m.snaps.length
 ·subst e2;rw [upd_same];exact h2
 rw [upd_other _ _ e2]
 apply h1
 rcases ha.cases with rfl | rfl | rfl | rfl | ⟨j,rfl,hj⟩ | ⟨j,rfl,hj⟩
 ·exact LiveX.root m
 ·exact LiveX.slots m
 ·exact LiveX.refs m
 ·exact LiveX.snaps m
 ·exact LiveX.tab hj
 ·refine LiveX.sr ?_
  have hj:j<(m.snaps ++ [s]).length:=hj
  rw [List.length_append,List.length_singleton] at hj
  rcases Nat.lt_or_ge j m.snaps.length with h | h
  ·exact h
  ·exact absurd (by rw [show j=m.snaps.length by omega]) e2
theorem ow_slot {w1 Wa w':World}{D:Nat}{val:Nm→Value}{p:ImgD}{kk:Int}{dd:ByteArray}{es:List Int}{ev sv:Value}(hX:OX Wa w1.heap.size val p)(hbel:Below w1.heap.size w1 Wa)(hbox:Wa.heap[D]? = some (.cells #[.int .i64 p.guest,val .root,val .slots,val .refs,val .snaps] 27))(hge:w1.heap.size≤D)(hfar:∀a,LiveX p a→(val a).ownBlock≠some D)
  (hev:es≠[]→Wa.ownsRow w1.heap.size 3 1 ev es.length (ints es)) (hev0:es=[]→∃ao cap,ev=.slice ao 0 cap) (hfe:es≠[]→FarX p val (.tab p.slots.length) ev) (hDe:es≠[]→ev.ownBlock≠some D) (h2:Wa.grownBy w' (val .slots).ownBlock) (h1:w'.ownsRow w1.heap.size 61 3 sv (p.slots.length+1) (flatS p.slots (fun j=>val (.tab j)) ++ [.int .i64 kk,.string dd,ev])) (hblk:sv.ownBlock=(val .slots).ownBlock∨∀g,sv.ownBlock=some g→Wa.heap.size≤g) :
  OwR w1 (w'.setCell ⟨D,2,none⟩ sv) D { p with slots:=p.slots ++ [(kk,dd,es)] }:=by
 have hDl:=(szH hbox)
 have hsD:sv.ownBlock≠some D:=fun e=>by
  rcases hblk with x | x
  ·rw [x] at e;exact hfar .slots (LiveX.slots p) e
  ·have:=x D e;omega
 have hN:=hX.addSlot hev hev0 hfe h2 h1 hblk
 have hF:=addX_far (s:=(kk,dd,es)) hfar hDe hsD
 have hb2:=(h2.block D hDl (fun e=>hfar .slots (LiveX.slots p) e.symm)).trans hbox
 have hb3:=cells_set hb2 2 sv
 refine⟨⟨_,hN.far hF,?_,hF⟩,hge,(hbel.grown h2 hbel.size (fun k e=>((hX.row .slots (LiveX.slots p)).lt k e).1)).setCell hge _⟩
 rw [hb3,upd_same,upd_other _ sv (a:=.slots) (b:=.root) (by intro x;cases x),upd_other _ ev (b:=.root) (by intro x;cases x),upd_other _ sv (a:=.slots) (b:=.refs) (by intro x;cases x),upd_other _ ev (b:=.refs) (by intro x;cases x),upd_other _ sv (a:=.slots) (b:=.snaps) (by intro x;cases x),upd_other _ ev (b:=.snaps) (by intro x;cases x)]
 rfl
theorem ow_snap {w1 Wa w':World}{D:Nat}{val:Nm→Value}{p:ImgD}{kk:Int}{dd:ByteArray}{es:List Int}{ev sv:Value}(hX:OX Wa w1.heap.size val p)(hbel:Below w1.heap.size w1 Wa)(hbox:Wa.heap[D]? = some (.cells #[.int .i64 p.guest,val .root,val .slots,val .refs,val .snaps] 27))(hge:w1.heap.size≤D)(hfar:∀a,LiveX p a→(val a).ownBlock≠some D)
  (hev:Wa.ownsRow w1.heap.size 3 1 ev es.length (ints es)) (hfe:FarX p val (.sr p.snaps.length) ev) (hDe:ev.ownBlock≠some D) (h2:Wa.grownBy w' (val .snaps).ownBlock) (h1:w'.ownsRow w1.heap.size 64 3 sv (p.snaps.length+1) (flatN p.snaps (fun j=>val (.sr j)) ++ [.string dd,.int .i64 kk,ev])) (hblk:sv.ownBlock=(val .snaps).ownBlock∨∀g,sv.ownBlock=some g→Wa.heap.size≤g) :
  OwR w1 (w'.setCell ⟨D,4,none⟩ sv) D { p with snaps:=p.snaps ++ [(dd,kk,es)] }:=by
 have hDl:=(szH hbox)
 have hsD:sv.ownBlock≠some D:=fun e=>by
  rcases hblk with x | x
  ·rw [x] at e;exact hfar .snaps (LiveX.snaps p) e
  ·have:=x D e;omega
 have hN:=hX.addSnap hev hfe h2 h1 hblk
 have hF:=addX_farN (s:=(dd,kk,es)) hfar hDe hsD
 have hb2:=(h2.block D hDl (fun e=>hfar .snaps (LiveX.snaps p) e.symm)).trans hbox
 have hb3:=cells_set hb2 4 sv
 refine⟨⟨_,hN.far hF,?_,hF⟩,hge,(hbel.grown h2 hbel.size (fun k e=>((hX.row .snaps (LiveX.snaps p)).lt k e).1)).setCell hge _⟩
 rw [hb3,upd_same,upd_other _ sv (a:=.snaps) (b:=.root) (by intro x;cases x),upd_other _ ev (b:=.root) (by intro x;cases x),upd_other _ sv (a:=.snaps) (b:=.slots) (by intro x;cases x),upd_other _ ev (b:=.slots) (by intro x;cases x),upd_other _ sv (a:=.snaps) (b:=.refs) (by intro x;cases x),upd_other _ ev (b:=.refs) (by intro x;cases x)]
 rfl
theorem row_loose0 {W:World}{B:Nat}{v:Value}{es:List Int}(h:W.ownsRow B 3 1 v es.length (ints es))(e:es=[]):∃ao cap,v=.slice ao 0 cap:=by
 subst e
 rcases row_form h with ⟨x,_⟩ | ⟨g',cap',x,_⟩
 ·exact⟨_,_,x⟩
 ·exact⟨_,_,x⟩
theorem hw6_of {w1 wr w6:World}{D:Nat}{val:Nm→Value}{p:ImgD}{o6:Obj}{v:Value}(hX:OX wr w1.heap.size val p)(bl:Below w1.heap.size w1 wr)(hbox:wr.heap[D]? = some (.cells #[.int .i64 p.guest,val .root,val .slots,val .refs,val .snaps] 27))(r2:((wr.alloc o6).alloc e3).grownBy w6 (some (wr.heap.size+1)))(r3:v.ownBlock=some (wr.heap.size+1)∨v.ownBlock=some ((wr.alloc o6).alloc e3).heap.size) :
  OX w6 w1.heap.size val p∧Below w1.heap.size w1 w6∧w6.heap[D]? = some (.cells #[.int .i64 p.guest,val .root,val .slots,val .refs,val .snaps] 27)∧(∀a,LiveX p a→(val a).ownBlock≠some wr.heap.size)∧v.ownBlock≠some wr.heap.size∧(∀g,v.ownBlock=some g→wr.heap.size≤g)∧v.ownBlock≠some D∧wr.heap.size+2≤w6.heap.size:=by
 have hz:((wr.alloc o6).alloc e3).heap.size=wr.heap.size+2:=by simp
 have hDl:=(szH hbox)
 have hbl:=bl.size
 have hk:∀q,q<wr.heap.size→w6.heap[q]? = wr.heap[q]?:=fun q hq=>(r2.block q (by omega) (fun e=>by have:=Option.some.inj e;omega)).trans ((Below.heap_alloc _ _ q (by simp;omega)).trans (Below.heap_alloc _ _ q hq))
 have hge:∀g,v.ownBlock=some g→wr.heap.size+1≤g:=fun g e=>by
  rcases r3 with x | x <;> rw [x] at e <;> have e:=Option.some.inj e <;> omega
 refine⟨hX.keep (fun g _ hg=>hk g hg),?_,(hk D hDl).trans hbox,hX.lt (Nat.le_refl _),fun e=>by have:=hge _ e;omega,fun g e=>by have:=hge _ e;omega,fun e=>by have:=hge _ e;omega,?_⟩
 ·exact ((bl.alloc hbl _).alloc (by simp;omega) _).grown r2 (by rw [hz];omega) (fun k e=>by have:=Option.some.inj e;omega)
 ·have:=(Below.refl 0 ((wr.alloc o6).alloc e3)).grown r2 (Nat.zero_le _) (fun k _=>Nat.zero_le _)
  have:=this.size
  omega
def pmA (m:ImgD) (k:Nat):ImgD:={ m with slots:=m.slots.take k,snaps:=[] }
def pmB (m:ImgD) (k:Nat):ImgD:={ m with snaps:=m.snaps.take k }
theorem pmA_end (m:ImgD):pmA m m.slots.length=pmB m 0:=by unfold pmA pmB;simp
theorem pmB_end (m:ImgD):pmB m m.snaps.length=m:=by unfold pmB;simp
theorem take_next {α:Type}(l:List α){k:Nat}(h:k<l.length):l.take (k+1)=l.take k ++ [l[k]]:=(List.take_append_getElem h).symm
theorem pmA_succ (m:ImgD){k:Nat}(h:k<m.slots.length):pmA m (k+1) = { pmA m k with slots:=(pmA m k).slots ++ [m.slots[k]] }:=by unfold pmA;rw [take_next _ h]
theorem pmB_succ (m:ImgD){k:Nat}(h:k<m.snaps.length):pmB m (k+1) = { pmB m k with snaps:=(pmB m k).snaps ++ [m.snaps[k]] }:=by unfold pmB;rw [take_next _ h]
theorem OX.zero (W:World)(B:Nat):OX W B valZ imgZ:=by
 have h:=OI.zero W B
 exact⟨fun a ha=>h.row a ha.live,fun a b ha hb=>h.apart a b ha.live hb.live,fun j hj=>absurd hj (Nat.not_lt_zero _)⟩
set_option linter.unusedSimpArgs false
theorem Hid_mk2 {p:Prop}(h:p):Hid p:=h
def StL (w1:World) (xs:List Int) (W:World):Option (Nat ⊕ Value)→Prop
 | none=>True
 | some (.inl g)=>w1.heap.size≤g∧W.heap[g]? = some e3
 | some (.inr v)=>W.ownsRow w1.heap.size 3 1 v xs.length (ints xs)
def stB:Option (Nat ⊕ Value)→Option Nat
 | none=>none
 | some (.inl g)=>some g
 | some (.inr v)=>v.ownBlock
def StC (w1 W:World):Option Nat→Prop
 | none=>True
 | some D=>w1.heap.size≤D∧W.heap[D]? = some (.cells #[.int .i64 0,.slice none 0 0,.slice none 0 0,.slice none 0 0,.slice none 0 0] 27)
structure CpS (w1:World) (xs ys:List Int) (a b:Option (Nat ⊕ Value)) (c:Option Nat) (W:World):Prop where
 bel:Below w1.heap.size w1 W
 ha:StL w1 xs W a
 hb:StL w1 ys W b
 hc:StC w1 W c
 ab:∀g,stB a=some g→stB b≠some g
 ac:∀g,stB a=some g→c≠some g
 bc:∀g,stB b=some g→c≠some g
theorem StL.keep {w1 W W':World}{xs:List Int}{a:Option (Nat ⊕ Value)}(h:StL w1 xs W a)(hk:∀g,stB a=some g→W'.heap[g]? = W.heap[g]?):StL w1 xs W' a:=by
 match a,h with
 | none,_=>trivial
 | some (.inl g),h=>exact⟨h.1,(hk g rfl).trans h.2⟩
 | some (.inr v),h=>
  refine⟨h.1,?_⟩
  rcases h.2 with hn | ⟨g,cap,cur,hv,hb,hg,rest⟩
  ·exact .inl hn
  ·exact .inr ⟨g,cap,cur,hv,hb,(hk g (by show v.ownBlock=some g;rw [hv];rfl)).trans hg,rest⟩
theorem StL.lt {w1 W:World}{xs:List Int}{a:Option (Nat ⊕ Value)}(h:StL w1 xs W a){g:Nat}(e:stB a=some g):w1.heap.size≤g∧g<W.heap.size:=by
 match a,h,e with
 | some (.inl g'),h,e=>have e:g'=g:=Option.some.inj e;subst e;exact⟨h.1,(Array.getElem?_eq_some_iff.1 h.2).1⟩
 | some (.inr v),h,e=>exact World.ownsRow.lt h g e
theorem StC.keep {w1 W W':World}{c:Option Nat}(h:StC w1 W c)(hk:∀g,c=some g→W'.heap[g]? = W.heap[g]?):StC w1 W' c:=by
 match c,h with
 | none,_=>trivial
 | some D,h=>exact⟨h.1,(hk D rfl).trans h.2⟩
theorem StC.lt {w1 W:World}{c:Option Nat}(h:StC w1 W c){g:Nat}(e:c=some g):w1.heap.size≤g∧g<W.heap.size:=by
 subst e;exact⟨h.1,(Array.getElem?_eq_some_iff.1 h.2).1⟩
theorem CpS.zero (w1:World)(xs ys:List Int):CpS w1 xs ys none none none w1:=⟨Below.refl _ _,trivial,trivial,trivial,fun g h=>by (cases h),fun g h=>by (cases h),fun g h=>by (cases h)⟩
theorem CpS.drew {w1 W:World}{xs ys:List Int}{a b:Option (Nat ⊕ Value)}{c:Option Nat}(h:CpS w1 xs ys a b c W):CpS w1 xs ys a b c W.drew:=
 ⟨h.bel.drew,h.ha.keep (fun _ _=>rfl),h.hb.keep (fun _ _=>rfl),h.hc.keep (fun _ _=>rfl),h.ab,h.ac,h.bc⟩
theorem CpS.a1 {w1 W:World}{xs ys:List Int}{b:Option (Nat ⊕ Value)}{c:Option Nat}(h:CpS w1 xs ys none b c W):CpS w1 xs ys (some (.inl W.heap.size)) b c (W.alloc e3):=by
 refine⟨h.bel.alloc h.bel.size _,⟨h.bel.size,World.alloc_heap_new _ _⟩,h.hb.keep (fun g e=>Below.heap_alloc W _ g (h.hb.lt e).2),h.hc.keep (fun g e=>Below.heap_alloc W _ g (h.hc.lt e).2),fun g e e2=>?_,fun g e e2=>?_,h.bc⟩
 ·have e:=Option.some.inj e;have:=(h.hb.lt e2).2;omega
 ·have e:=Option.some.inj e;have:=(h.hc.lt e2).2;omega
theorem CpS.b1 {w1 W:World}{xs ys:List Int}{a:Option (Nat ⊕ Value)}{c:Option Nat}(h:CpS w1 xs ys a none c W):CpS w1 xs ys a (some (.inl W.heap.size)) c (W.alloc e3):=by
 refine⟨h.bel.alloc h.bel.size _,h.ha.keep (fun g e=>Below.heap_alloc W _ g (h.ha.lt e).2),⟨h.bel.size,World.alloc_heap_new _ _⟩,h.hc.keep (fun g e=>Below.heap_alloc W _ g (h.hc.lt e).2),fun g e e2=>?_,h.ac,fun g e e2=>?_⟩
 ·have e2:=Option.some.inj e2;have:=(h.ha.lt e).2;omega
 ·have e:=Option.some.inj e;have:=(h.hc.lt e2).2;omega
theorem CpS.c1 {w1 W:World}{xs ys:List Int}{a b:Option (Nat ⊕ Value)}(h:CpS w1 xs ys a b none W):CpS w1 xs ys a b (some W.heap.size) (W.alloc (.cells #[.int .i64 0,.slice none 0 0,.slice none 0 0,.slice none 0 0,.slice none 0 0] 27)):=by
 refine⟨h.bel.alloc h.bel.size _,h.ha.keep (fun g e=>Below.heap_alloc W _ g (h.ha.lt e).2),h.hb.keep (fun g e=>Below.heap_alloc W _ g (h.hb.lt e).2),⟨h.bel.size,World.alloc_heap_new _ _⟩,h.ab,fun g e e2=>?_,fun g e e2=>?_⟩
 ·have e2:=Option.some.inj e2;have:=(h.ha.lt e).2;omega
 ·have e2:=Option.some.inj e2;have:=(h.hb.lt e).2;omega
theorem CpS.a2 {w1 W w':World}{xs ys:List Int}{b:Option (Nat ⊕ Value)}{c:Option Nat}{g:Nat}{v:Value}(h:CpS w1 xs ys (some (.inl g)) b c W)(r1:w'.ownsRow w1.heap.size 3 1 v xs.length (ints xs))(r2:W.grownBy w' (some g))(r3:v.ownBlock=some g∨v.ownBlock=some W.heap.size):CpS w1 xs ys (some (.inr v)) b c w':=by
 have hk:∀q,q<W.heap.size→q≠g→w'.heap[q]? = W.heap[q]?:=fun q hq hne=>r2.block q hq (fun e=>hne (Option.some.inj e))
 refine⟨h.bel.grown r2 h.bel.size (fun k e=>by cases e;exact h.ha.1),r1,h.hb.keep (fun q e=>hk q (h.hb.lt e).2 (fun x=>h.ab g rfl (x ▸ e))),h.hc.keep (fun q e=>hk q (h.hc.lt e).2 (fun x=>h.ac g rfl (x ▸ e))),fun q e e2=>?_,fun q e e2=>?_,h.bc⟩
 ·have e:v.ownBlock=some q:=e
  rcases r3 with x | x <;> rw [x] at e <;> have e:=Option.some.inj e
  ·subst e;exact h.ab g rfl e2
  ·have:=(h.hb.lt e2).2;omega
 ·have e:v.ownBlock=some q:=e
  rcases r3 with x | x <;> rw [x] at e <;> have e:=Option.some.inj e
  ·subst e;exact h.ac g rfl e2
  ·have:=(h.hc.lt e2).2;omega
theorem CpS.b2 {w1 W w':World}{xs ys:List Int}{a:Option (Nat ⊕ Value)}{c:Option Nat}{g:Nat}{v:Value}(h:CpS w1 xs ys a (some (.inl g)) c W)(r1:w'.ownsRow w1.heap.size 3 1 v ys.length (ints ys))(r2:W.grownBy w' (some g))(r3:v.ownBlock=some g∨v.ownBlock=some W.heap.size):CpS w1 xs ys a (some (.inr v)) c w':=by
 have hk:∀q,q<W.heap.size→q≠g→w'.heap[q]? = W.heap[q]?:=fun q hq hne=>r2.block q hq (fun e=>hne (Option.some.inj e))
 refine⟨h.bel.grown r2 h.bel.size (fun k e=>by cases e;exact h.hb.1),h.ha.keep (fun q e=>hk q (h.ha.lt e).2 (fun x=>h.ab q e (by rw [x];rfl))),r1,h.hc.keep (fun q e=>hk q (h.hc.lt e).2 (fun x=>h.bc g rfl (x ▸ e))),fun q e e2=>?_,h.ac,fun q e e2=>?_⟩
 ·have e2:v.ownBlock=some q:=e2
  rcases r3 with x | x <;> rw [x] at e2 <;> have e2:=Option.some.inj e2
  ·subst e2;exact h.ab g e rfl
  ·have:=(h.ha.lt e).2;omega
 ·have e:v.ownBlock=some q:=e
  rcases r3 with x | x <;> rw [x] at e <;> have e:=Option.some.inj e
  ·subst e;exact h.bc g rfl e2
  ·have:=(h.hc.lt e2).2;omega
theorem CpS.last {w1 W:World}{m:ImgD}{va vb:Value}{D:Nat}(h:CpS w1 m.root m.refs (some (.inr va)) (some (.inr vb)) (some D) W) :
  OwR w1 (((((W.setCell ⟨D,0,none⟩ (.int .i64 m.guest)).setCell ⟨D,1,none⟩ va).setCell ⟨D,2,none⟩ (.slice none 0 0)).setCell ⟨D,3,none⟩ vb).setCell ⟨D,4,none⟩ (.slice none 0 0)) D (pmA m 0):=by
 have hD:=h.hc
 have hbox:=cells_set (cells_set (cells_set (cells_set (cells_set hD.2 0 (.int .i64 m.guest)) 1 va) 2 (.slice none 0 0)) 3 vb) 4 (.slice none 0 0)
 have hbel:Below w1.heap.size w1 (((((W.setCell ⟨D,0,none⟩ (.int .i64 m.guest)).setCell ⟨D,1,none⟩ va).setCell ⟨D,2,none⟩ (.slice none 0 0)).setCell ⟨D,3,none⟩ vb).setCell ⟨D,4,none⟩ (.slice none 0 0)):=((((h.bel.setCell (p:=⟨D,0,none⟩) hD.1 _).setCell (p:=⟨D,1,none⟩) hD.1 _).setCell (p:=⟨D,2,none⟩) hD.1 _).setCell (p:=⟨D,3,none⟩) hD.1 _).setCell (p:=⟨D,4,none⟩) hD.1 _
 have hk:∀q,q≠D→(((((W.setCell ⟨D,0,none⟩ (.int .i64 m.guest)).setCell ⟨D,1,none⟩ va).setCell ⟨D,2,none⟩ (.slice none 0 0)).setCell ⟨D,3,none⟩ vb).setCell ⟨D,4,none⟩ (.slice none 0 0)).heap[q]? = W.heap[q]?:=fun q hq=>by
  rw [Below.heap_setCell _ _ _ q hq,Below.heap_setCell _ _ _ q hq,Below.heap_setCell _ _ _ q hq,Below.heap_setCell _ _ _ q hq,Below.heap_setCell _ _ _ q hq]
 have ha:StL w1 m.root (((((W.setCell ⟨D,0,none⟩ (.int .i64 m.guest)).setCell ⟨D,1,none⟩ va).setCell ⟨D,2,none⟩ (.slice none 0 0)).setCell ⟨D,3,none⟩ vb).setCell ⟨D,4,none⟩ (.slice none 0 0)) (some (.inr va)):=h.ha.keep (fun g e=>hk g (fun x=>h.ac g e (by rw [x])))
 have hb:StL w1 m.refs (((((W.setCell ⟨D,0,none⟩ (.int .i64 m.guest)).setCell ⟨D,1,none⟩ va).setCell ⟨D,2,none⟩ (.slice none 0 0)).setCell ⟨D,3,none⟩ vb).setCell ⟨D,4,none⟩ (.slice none 0 0)) (some (.inr vb)):=h.hb.keep (fun g e=>hk g (fun x=>h.bc g e (by rw [x])))
 have h0:=OX.zero (((((W.setCell ⟨D,0,none⟩ (.int .i64 m.guest)).setCell ⟨D,1,none⟩ va).setCell ⟨D,2,none⟩ (.slice none 0 0)).setCell ⟨D,3,none⟩ vb).setCell ⟨D,4,none⟩ (.slice none 0 0)) w1.heap.size
 have hz:∀a,(valZ a).ownBlock=none:=fun a=>rfl
 have h1:=h0.swapRoot ha (fun b _ _ g _ e=>by rw [hz] at e;cases e) m.guest
 have h2:=h1.swapRefs hb (fun b hb' hne g hg e=>by
  by_cases e1:b=.root
  ·subst e1;rw [upd_same] at e;exact h.ab g e hg
  ·rw [upd_other _ _ e1,hz] at e;cases e)
 refine⟨⟨_,h2,?_,fun a ha' e=>?_⟩,hD.1,hbel⟩
 ·rw [hbox,upd_same,upd_other _ vb (a:=.refs) (b:=.root) (by intro x;cases x),upd_same,upd_other _ vb (a:=.refs) (b:=.slots) (by intro x;cases x),upd_other _ va (b:=.slots) (by intro x;cases x),upd_other _ vb (a:=.refs) (b:=.snaps) (by intro x;cases x),upd_other _ va (b:=.snaps) (by intro x;cases x)]
  rfl
 ·by_cases e1:a=.refs
  ·subst e1;rw [upd_same] at e;exact h.bc D e rfl
  ·rw [upd_other _ _ e1] at e
   by_cases e2:a=.root
   ·subst e2;rw [upd_same] at e;exact h.ac D e rfl
   ·rw [upd_other _ _ e2,hz] at e;cases e
set_option maxHeartbeats 200000000 in
theorem ownImage_at (ra:Option Addr)(rc:Nat)(sa:Option Addr)(sc:Nat)(fa:Option Addr)(fc:Nat)(na:Option Addr)(nc:Nat)(m:ImgD)(w:World)(h:Img w (.agg #[.int .i64 m.guest,.slice ra m.root.length rc,.slice sa m.slots.length sc,.slice fa m.refs.length fc,.slice na m.snaps.length nc]) m)(hr:m.root.length≤1000)(hf:m.refs.length≤1000)(hs:m.slots.length≤1000)(hn:m.snaps.length≤1000)(ht:∀j (hj:j<m.slots.length),m.slots[j].2.2.length≤1000)(hq:∀j (hj:j<m.snaps.length),m.snaps[j].2.2.length≤1000) :
  Calls Tryz.prog 64 #[.agg #[.int .i64 m.guest,.slice ra m.root.length rc,.slice sa m.slots.length sc,.slice fa m.refs.length fc,.slice na m.snaps.length nc]] w fun r w'=>∃val,r=.returned (imgV m.guest val)∧OX w' w.heap.size val m∧Below w.heap.size w w':=by
 have b0:Below w.heap.size w ((w.alloc (.cells #[.int .i64 m.guest,.slice ra m.root.length rc,.slice sa m.slots.length sc,.slice fa m.refs.length fc,.slice na m.snaps.length nc] 27)).alloc (.cells #[.int .i64 0,.slice none 0 0,.slice none 0 0,.slice none 0 0,.slice none 0 0] 27)):=((Below.refl _ _).alloc (Nat.le_refl _) _).alloc (by simp) _
 have m0:((w.alloc (.cells #[.int .i64 m.guest,.slice ra m.root.length rc,.slice sa m.slots.length sc,.slice fa m.refs.length fc,.slice na m.snaps.length nc] 27)).alloc (.cells #[.int .i64 0,.slice none 0 0,.slice none 0 0,.slice none 0 0,.slice none 0 0] 27)).heap[w.heap.size]? = some (.cells #[.int .i64 m.guest,.slice ra m.root.length rc,.slice sa m.slots.length sc,.slice fa m.refs.length fc,.slice na m.snaps.length nc] 27):=cells_alloc (World.alloc_heap_new _ _) _
 have m1:((w.alloc (.cells #[.int .i64 m.guest,.slice ra m.root.length rc,.slice sa m.slots.length sc,.slice fa m.refs.length fc,.slice na m.snaps.length nc] 27)).alloc (.cells #[.int .i64 0,.slice none 0 0,.slice none 0 0,.slice none 0 0,.slice none 0 0] 27)).heap[w.heap.size+1]? = some (.cells #[.int .i64 0,.slice none 0 0,.slice none 0 0,.slice none 0 0,.slice none 0 0] 27):=by have:=World.alloc_heap_new (w.alloc (.cells #[.int .i64 m.guest,.slice ra m.root.length rc,.slice sa m.slots.length sc,.slice fa m.refs.length fc,.slice na m.snaps.length nc] 27)) (.cells #[.int .i64 0,.slice none 0 0,.slice none 0 0,.slice none 0 0,.slice none 0 0] 27);simpa using this
 have I1:=h.below b0
 have hsz:w.heap.size+1<((w.alloc (.cells #[.int .i64 m.guest,.slice ra m.root.length rc,.slice sa m.slots.length sc,.slice fa m.refs.length fc,.slice na m.snaps.length nc] 27)).alloc (.cells #[.int .i64 0,.slice none 0 0,.slice none 0 0,.slice none 0 0,.slice none 0 0] 27)).heap.size:=by simp
 clear h
 go_enter Tryz.func64,Tryz.ntmps64
 go_upto_region 1 with fail
 obtain⟨w1,hw1⟩:∃X,((w.alloc (.cells #[.int .i64 m.guest,.slice ra m.root.length rc,.slice sa m.slots.length sc,.slice fa m.refs.length fc,.slice na m.snaps.length nc] 27)).alloc (.cells #[.int .i64 0,.slice none 0 0,.slice none 0 0,.slice none 0 0,.slice none 0 0] 27))=X:=⟨_,rfl⟩
 rw [hw1] at b0 m0 m1 I1 hsz ⊢
 clear hw1
 have H1:=I1.four.1
 have H3:=I1.four.2.2.1
 have CP0:Hid (CpS w1 m.root m.refs none none none w1):=CpS.zero _ _ _
 have HS:Hid (∀X,Below w1.heap.size w1 X→(fun X:World=>X.cell? ⟨w.heap.size,0,none⟩=some (.int .i64 m.guest)∧X.cell? ⟨w.heap.size,1,none⟩=some (.slice ra m.root.length rc)∧X.cell? ⟨w.heap.size,3,none⟩=some (.slice fa m.refs.length fc)) X):=fun X hX=>by
  have hb:=(hX.block w.heap.size (by omega)).trans m0
  exact⟨(five hb).1,(five hb).2.1,(five hb).2.2.2.1⟩
 go_cut [3] from 8 (fun s wx=>∃D:Nat,s=.pointer (some ⟨D,0,none⟩)∧Hid (OwR w1 wx D (pmA m 0)))
 case first=>
  refine wp_region_held_drew (S:=(fun X:World=>X.cell? ⟨w.heap.size,0,none⟩=some (.int .i64 m.guest)∧X.cell? ⟨w.heap.size,1,none⟩=some (.slice ra m.root.length rc)∧X.cell? ⟨w.heap.size,3,none⟩=some (.slice fa m.refs.length fc))) (by kernel_rfl) (HS.out _ (to_drew (Below.refl _ _))) (fun hHeld=>?_)
  refine tkH 0 (.pointer (some ⟨w.heap.size,0,none⟩)) rfl (Or.inl ⟨by rfl,fun w' hSw=>by obtain⟨q1,q2,q3⟩:=hSw;go_simp⟩) hHeld ?_
  simp only [lays]
  refine tkH 1 (.int .i64 m.guest) rfl (Or.inl ⟨by rfl,fun w' hSw=>by obtain⟨q1,q2,q3⟩:=hSw;go_simp⟩) hHeld ?_
  simp only [lays]
  refine tkH 3 (.pointer (some ⟨w.heap.size,1,none⟩)) rfl (Or.inl ⟨by rfl,fun w' hSw=>by obtain⟨q1,q2,q3⟩:=hSw;go_simp⟩) hHeld ?_
  simp only [lays]
  refine tkH 4 (.slice ra m.root.length rc) rfl (Or.inl ⟨by rfl,fun w' hSw=>by obtain⟨q1,q2,q3⟩:=hSw;go_simp⟩) hHeld ?_
  simp only [lays]
  refine tkH 7 (.pointer (some ⟨w.heap.size,3,none⟩)) rfl (Or.inl ⟨by rfl,fun w' hSw=>by obtain⟨q1,q2,q3⟩:=hSw;go_simp⟩) hHeld ?_
  simp only [lays]
  refine tkH 8 (.slice fa m.refs.length fc) rfl (Or.inl ⟨by rfl,fun w' hSw=>by obtain⟨q1,q2,q3⟩:=hSw;go_simp⟩) hHeld ?_
  simp only [lays]
  refine wpAnyH_ready (rs:=[2,6,11]) (by kernel_rfl) (by simp) ?_
  refine AllReadyH.cons rfl (fun K hK=>?_) (AllReadyH.cons rfl (fun K hK=>?_) (AllReadyH.cons rfl (fun K hK=>?_) AllReadyH.nil))
  ·clear hHeld
   simp only [lays]
   rw [if_pos (by rfl)]
   go_simp
   have N1:=Hid_mk2 CP0.out.a1.drew
   obtain⟨X1,hX⟩:∃Z,(w1.alloc (.cells #[] 3)).drew=Z:=⟨_,rfl⟩
   rw [hX] at N1 ⊢
   clear hX
   refine hK.out _ _ (HS.out _ N1.out.bel) (fun hHeld=>?_)
   clear hK K
   try simp only [lays]
   refine wpAnyH_ready (rs:=[5,6,11]) (by kernel_rfl) (by simp) ?_
   refine AllReadyH.cons rfl (fun K hK=>?_) (AllReadyH.cons rfl (fun K hK=>?_) (AllReadyH.cons rfl (fun K hK=>?_) AllReadyH.nil))
   ·clear hHeld
    simp only [lays]
    rw [if_pos (by rfl)]
    refine wp_copy _ _ (by rfl) (g:=w1.heap.size) (B:=w1.heap.size) (by rfl) N1.out.ha.2 N1.out.ha.1 (src:=.slice ra m.root.length rc) (by rfl) (H1.below N1.out.bel) hr ?_
    intro v X2 r1 r2 r3
    have N2:=Hid_mk2 (N1.out.a2 r1.out r2 r3.out)
    obtain⟨pa,ca,rfl⟩:=row_slice r1.out
    clear r1 r2 r3
    refine hK.out _ _ (HS.out _ N2.out.bel) (fun hHeld=>?_)
    clear hK K
    try simp only [lays]
    refine wpAnyH_ready (rs:=[6,11]) (by kernel_rfl) (by simp) ?_
    refine AllReadyH.cons rfl (fun K hK=>?_) (AllReadyH.cons rfl (fun K hK=>?_) AllReadyH.nil)
    ·clear hHeld
     simp only [lays]
     rw [if_pos (by rfl)]
     go_simp
     have N3:=Hid_mk2 N2.out.b1
     obtain⟨X3,hX⟩:∃Z,(X2.alloc (.cells #[] 3))=Z:=⟨_,rfl⟩
     rw [hX] at N3 ⊢
     clear hX
     refine hK.out _ _ (HS.out _ N3.out.bel) (fun hHeld=>?_)
     clear hK K
     try simp only [lays]
     refine wpAnyH_ready (rs:=[9,11]) (by kernel_rfl) (by simp) ?_
     refine AllReadyH.cons rfl (fun K hK=>?_) (AllReadyH.cons rfl (fun K hK=>?_) AllReadyH.nil)
     ·clear hHeld
      simp only [lays]
      rw [if_pos (by rfl)]
      refine wp_copy _ _ (by rfl) (g:=X2.heap.size) (B:=w1.heap.size) (by rfl) N3.out.hb.2 N3.out.hb.1 (src:=.slice fa m.refs.length fc) (by rfl) (H3.below N3.out.bel) hf ?_
      intro v X4 r1 r2 r3
      have N4:=Hid_mk2 (N3.out.b2 r1.out r2 r3.out)
      obtain⟨pb,cb,rfl⟩:=row_slice r1.out
      clear r1 r2 r3
      refine hK.out _ _ (HS.out _ N4.out.bel) (fun hHeld=>?_)
      clear hK K
      try simp only [lays]
      refine tkH 10 (.agg #[.int .i64 m.guest,.slice pa m.root.length ca,.slice none 0 0,.slice pb m.refs.length cb,.slice none 0 0]) rfl (Or.inl ⟨by rfl,fun w' hSw=>by obtain⟨q1,q2,q3⟩:=hSw;go_simp⟩) hHeld ?_
      simp only [lays]
      refine wpAnyH_ready (rs:=[11]) (by kernel_rfl) (by simp) ?_
      refine AllReadyH.cons rfl (fun K hK=>?_) AllReadyH.nil
      ·clear hHeld
       simp only [lays]
       rw [if_pos (by rfl)]
       go_simp
       have N5:=Hid_mk2 N4.out.c1
       obtain⟨X5,hX⟩:∃Z,(X4.alloc (.cells #[.int .i64 0,.slice none 0 0,.slice none 0 0,.slice none 0 0,.slice none 0 0] 27))=Z:=⟨_,rfl⟩
       rw [hX] at N5 ⊢
       clear hX
       refine hK.out _ _ (HS.out _ N5.out.bel) (fun hHeld=>?_)
       clear hK K
       try simp only [lays]
       refine wpAnyH_ready (rs:=[12]) (by kernel_rfl) (by simp) ?_
       refine AllReadyH.cons rfl (fun K hK=>?_) AllReadyH.nil
       ·clear hHeld
        simp only [lays]
        rw [if_pos (by rfl)]
        have zz:=N5.out.hc.2
        obtain⟨z0,z1,z2,z3,z4⟩:=five zz
        have y0:=cells_frozen zz 0
        have y1:=cells_frozen zz 1
        have y2:=cells_frozen zz 2
        have y3:=cells_frozen zz 3
        have y4:=cells_frozen zz 4
        go_simp
        have N6:=Hid_mk2 N5.out.last
        refine hK.out _ _ (HS.out _ N6.out.bel) (fun hHeld=>?_)
        clear hK K hHeld
        refine wpAnyH_done (by kernel_rfl) ?_ _
        go_wp2_with fail
        go_meet
        exact⟨_,rfl,N6⟩
     ·clear hHeld
      simp only [lays]
      rw [if_pos (by rfl)]
      go_simp
      have N7:=Hid_mk2 N3.out.c1
      obtain⟨X7,hX⟩:∃Z,(X3.alloc (.cells #[.int .i64 0,.slice none 0 0,.slice none 0 0,.slice none 0 0,.slice none 0 0] 27))=Z:=⟨_,rfl⟩
      rw [hX] at N7 ⊢
      clear hX
      refine hK.out _ _ (HS.out _ N7.out.bel) (fun hHeld=>?_)
      clear hK K
      try simp only [lays]
      refine wpAnyH_ready (rs:=[9]) (by kernel_rfl) (by simp) ?_
      refine AllReadyH.cons rfl (fun K hK=>?_) AllReadyH.nil
      ·clear hHeld
       simp only [lays]
       rw [if_pos (by rfl)]
       refine wp_copy _ _ (by rfl) (g:=X2.heap.size) (B:=w1.heap.size) (by rfl) N7.out.hb.2 N7.out.hb.1 (src:=.slice fa m.refs.length fc) (by rfl) (H3.below N7.out.bel) hf ?_
       intro v X8 r1 r2 r3
       have N8:=Hid_mk2 (N7.out.b2 r1.out r2 r3.out)
       obtain⟨pb,cb,rfl⟩:=row_slice r1.out
       clear r1 r2 r3
       refine hK.out _ _ (HS.out _ N8.out.bel) (fun hHeld=>?_)
       clear hK K
       try simp only [lays]
       refine tkH 10 (.agg #[.int .i64 m.guest,.slice pa m.root.length ca,.slice none 0 0,.slice pb m.refs.length cb,.slice none 0 0]) rfl (Or.inl ⟨by rfl,fun w' hSw=>by obtain⟨q1,q2,q3⟩:=hSw;go_simp⟩) hHeld ?_
       simp only [lays]
       refine wpAnyH_ready (rs:=[12]) (by kernel_rfl) (by simp) ?_
       refine AllReadyH.cons rfl (fun K hK=>?_) AllReadyH.nil
       ·clear hHeld
        simp only [lays]
        rw [if_pos (by rfl)]
        have zz:=N8.out.hc.2
        obtain⟨z0,z1,z2,z3,z4⟩:=five zz
        have y0:=cells_frozen zz 0
        have y1:=cells_frozen zz 1
        have y2:=cells_frozen zz 2
        have y3:=cells_frozen zz 3
        have y4:=cells_frozen zz 4
        go_simp
        have N9:=Hid_mk2 N8.out.last
        refine hK.out _ _ (HS.out _ N9.out.bel) (fun hHeld=>?_)
        clear hK K hHeld
        refine wpAnyH_done (by kernel_rfl) ?_ _
        go_wp2_with fail
        go_meet
        exact⟨_,rfl,N9⟩
    ·clear hHeld
     simp only [lays]
     rw [if_pos (by rfl)]
     go_simp
     have N10:=Hid_mk2 N2.out.c1
     obtain⟨X10,hX⟩:∃Z,(X2.alloc (.cells #[.int .i64 0,.slice none 0 0,.slice none 0 0,.slice none 0 0,.slice none 0 0] 27))=Z:=⟨_,rfl⟩
     rw [hX] at N10 ⊢
     clear hX
     refine hK.out _ _ (HS.out _ N10.out.bel) (fun hHeld=>?_)
     clear hK K
     try simp only [lays]
     refine wpAnyH_ready (rs:=[6]) (by kernel_rfl) (by simp) ?_
     refine AllReadyH.cons rfl (fun K hK=>?_) AllReadyH.nil
     ·clear hHeld
      simp only [lays]
      rw [if_pos (by rfl)]
      go_simp
      have N11:=Hid_mk2 N10.out.b1
      obtain⟨X11,hX⟩:∃Z,(X10.alloc (.cells #[] 3))=Z:=⟨_,rfl⟩
      rw [hX] at N11 ⊢
      clear hX
      refine hK.out _ _ (HS.out _ N11.out.bel) (fun hHeld=>?_)
      clear hK K
      try simp only [lays]
      refine wpAnyH_ready (rs:=[9]) (by kernel_rfl) (by simp) ?_
      refine AllReadyH.cons rfl (fun K hK=>?_) AllReadyH.nil
      ·clear hHeld
       simp only [lays]
       rw [if_pos (by rfl)]
       refine wp_copy _ _ (by rfl) (g:=X10.heap.size) (B:=w1.heap.size) (by rfl) N11.out.hb.2 N11.out.hb.1 (src:=.slice fa m.refs.length fc) (by rfl) (H3.below N11.out.bel) hf ?_
       intro v X12 r1 r2 r3
       have N12:=Hid_mk2 (N11.out.b2 r1.out r2 r3.out)
       obtain⟨pb,cb,rfl⟩:=row_slice r1.out
       clear r1 r2 r3
       refine hK.out _ _ (HS.out _ N12.out.bel) (fun hHeld=>?_)
       clear hK K
       try simp only [lays]
       refine tkH 10 (.agg #[.int .i64 m.guest,.slice pa m.root.length ca,.slice none 0 0,.slice pb m.refs.length cb,.slice none 0 0]) rfl (Or.inl ⟨by rfl,fun w' hSw=>by obtain⟨q1,q2,q3⟩:=hSw;go_simp⟩) hHeld ?_
       simp only [lays]
       refine wpAnyH_ready (rs:=[12]) (by kernel_rfl) (by simp) ?_
       refine AllReadyH.cons rfl (fun K hK=>?_) AllReadyH.nil
       ·clear hHeld
        simp only [lays]
        rw [if_pos (by rfl)]
        have zz:=N12.out.hc.2
        obtain⟨z0,z1,z2,z3,z4⟩:=five zz
        have y0:=cells_frozen zz 0
        have y1:=cells_frozen zz 1
        have y2:=cells_frozen zz 2
        have y3:=cells_frozen zz 3
        have y4:=cells_frozen zz 4
        go_simp
        have N13:=Hid_mk2 N12.out.last
        refine hK.out _ _ (HS.out _ N13.out.bel) (fun hHeld=>?_)
        clear hK K hHeld
        refine wpAnyH_done (by kernel_rfl) ?_ _
        go_wp2_with fail
        go_meet
        exact⟨_,rfl,N13⟩
   ·clear hHeld
    simp only [lays]
    rw [if_pos (by rfl)]
    go_simp
    have N14:=Hid_mk2 N1.out.b1
    obtain⟨X14,hX⟩:∃Z,(X1.alloc (.cells #[] 3))=Z:=⟨_,rfl⟩
    rw [hX] at N14 ⊢
    clear hX
    refine hK.out _ _ (HS.out _ N14.out.bel) (fun hHeld=>?_)
    clear hK K
    try simp only [lays]
    refine wpAnyH_ready (rs:=[5,11]) (by kernel_rfl) (by simp) ?_
    refine AllReadyH.cons rfl (fun K hK=>?_) (AllReadyH.cons rfl (fun K hK=>?_) AllReadyH.nil)
    ·clear hHeld
     simp only [lays]
     rw [if_pos (by rfl)]
     refine wp_copy _ _ (by rfl) (g:=w1.heap.size) (B:=w1.heap.size) (by rfl) N14.out.ha.2 N14.out.ha.1 (src:=.slice ra m.root.length rc) (by rfl) (H1.below N14.out.bel) hr ?_
     intro v X15 r1 r2 r3
     have N15:=Hid_mk2 (N14.out.a2 r1.out r2 r3.out)
     obtain⟨pa,ca,rfl⟩:=row_slice r1.out
     clear r1 r2 r3
     refine hK.out _ _ (HS.out _ N15.out.bel) (fun hHeld=>?_)
     clear hK K
     try simp only [lays]
     refine wpAnyH_ready (rs:=[9,11]) (by kernel_rfl) (by simp) ?_
     refine AllReadyH.cons rfl (fun K hK=>?_) (AllReadyH.cons rfl (fun K hK=>?_) AllReadyH.nil)
     ·clear hHeld
      simp only [lays]
      rw [if_pos (by rfl)]
      refine wp_copy _ _ (by rfl) (g:=X1.heap.size) (B:=w1.heap.size) (by rfl) N15.out.hb.2 N15.out.hb.1 (src:=.slice fa m.refs.length fc) (by rfl) (H3.below N15.out.bel) hf ?_
      intro v X16 r1 r2 r3
      have N16:=Hid_mk2 (N15.out.b2 r1.out r2 r3.out)
      obtain⟨pb,cb,rfl⟩:=row_slice r1.out
      clear r1 r2 r3
      refine hK.out _ _ (HS.out _ N16.out.bel) (fun hHeld=>?_)
      clear hK K
      try simp only [lays]
      refine tkH 10 (.agg #[.int .i64 m.guest,.slice pa m.root.length ca,.slice none 0 0,.slice pb m.refs.length cb,.slice none 0 0]) rfl (Or.inl ⟨by rfl,fun w' hSw=>by obtain⟨q1,q2,q3⟩:=hSw;go_simp⟩) hHeld ?_
      simp only [lays]
      refine wpAnyH_ready (rs:=[11]) (by kernel_rfl) (by simp) ?_
      refine AllReadyH.cons rfl (fun K hK=>?_) AllReadyH.nil
      ·clear hHeld
       simp only [lays]
       rw [if_pos (by rfl)]
       go_simp
       have N17:=Hid_mk2 N16.out.c1
       obtain⟨X17,hX⟩:∃Z,(X16.alloc (.cells #[.int .i64 0,.slice none 0 0,.slice none 0 0,.slice none 0 0,.slice none 0 0] 27))=Z:=⟨_,rfl⟩
       rw [hX] at N17 ⊢
       clear hX
       refine hK.out _ _ (HS.out _ N17.out.bel) (fun hHeld=>?_)
       clear hK K
       try simp only [lays]
       refine wpAnyH_ready (rs:=[12]) (by kernel_rfl) (by simp) ?_
       refine AllReadyH.cons rfl (fun K hK=>?_) AllReadyH.nil
       ·clear hHeld
        simp only [lays]
        rw [if_pos (by rfl)]
        have zz:=N17.out.hc.2
        obtain⟨z0,z1,z2,z3,z4⟩:=five zz
        have y0:=cells_frozen zz 0
        have y1:=cells_frozen zz 1
        have y2:=cells_frozen zz 2
        have y3:=cells_frozen zz 3
        have y4:=cells_frozen zz 4
        go_simp
        have N18:=Hid_mk2 N17.out.last
        refine hK.out _ _ (HS.out _ N18.out.bel) (fun hHeld=>?_)
        clear hK K hHeld
        refine wpAnyH_done (by kernel_rfl) ?_ _
        go_wp2_with fail
        go_meet
        exact⟨_,rfl,N18⟩
     ·clear hHeld
      simp only [lays]
      rw [if_pos (by rfl)]
      go_simp
      have N19:=Hid_mk2 N15.out.c1
      obtain⟨X19,hX⟩:∃Z,(X15.alloc (.cells #[.int .i64 0,.slice none 0 0,.slice none 0 0,.slice none 0 0,.slice none 0 0] 27))=Z:=⟨_,rfl⟩
      rw [hX] at N19 ⊢
      clear hX
      refine hK.out _ _ (HS.out _ N19.out.bel) (fun hHeld=>?_)
      clear hK K
      try simp only [lays]
      refine wpAnyH_ready (rs:=[9]) (by kernel_rfl) (by simp) ?_
      refine AllReadyH.cons rfl (fun K hK=>?_) AllReadyH.nil
      ·clear hHeld
       simp only [lays]
       rw [if_pos (by rfl)]
       refine wp_copy _ _ (by rfl) (g:=X1.heap.size) (B:=w1.heap.size) (by rfl) N19.out.hb.2 N19.out.hb.1 (src:=.slice fa m.refs.length fc) (by rfl) (H3.below N19.out.bel) hf ?_
       intro v X20 r1 r2 r3
       have N20:=Hid_mk2 (N19.out.b2 r1.out r2 r3.out)
       obtain⟨pb,cb,rfl⟩:=row_slice r1.out
       clear r1 r2 r3
       refine hK.out _ _ (HS.out _ N20.out.bel) (fun hHeld=>?_)
       clear hK K
       try simp only [lays]
       refine tkH 10 (.agg #[.int .i64 m.guest,.slice pa m.root.length ca,.slice none 0 0,.slice pb m.refs.length cb,.slice none 0 0]) rfl (Or.inl ⟨by rfl,fun w' hSw=>by obtain⟨q1,q2,q3⟩:=hSw;go_simp⟩) hHeld ?_
       simp only [lays]
       refine wpAnyH_ready (rs:=[12]) (by kernel_rfl) (by simp) ?_
       refine AllReadyH.cons rfl (fun K hK=>?_) AllReadyH.nil
       ·clear hHeld
        simp only [lays]
        rw [if_pos (by rfl)]
        have zz:=N20.out.hc.2
        obtain⟨z0,z1,z2,z3,z4⟩:=five zz
        have y0:=cells_frozen zz 0
        have y1:=cells_frozen zz 1
        have y2:=cells_frozen zz 2
        have y3:=cells_frozen zz 3
        have y4:=cells_frozen zz 4
        go_simp
        have N21:=Hid_mk2 N20.out.last
        refine hK.out _ _ (HS.out _ N21.out.bel) (fun hHeld=>?_)
        clear hK K hHeld
        refine wpAnyH_done (by kernel_rfl) ?_ _
        go_wp2_with fail
        go_meet
        exact⟨_,rfl,N21⟩
    ·clear hHeld
     simp only [lays]
     rw [if_pos (by rfl)]
     go_simp
     have N22:=Hid_mk2 N14.out.c1
     obtain⟨X22,hX⟩:∃Z,(X14.alloc (.cells #[.int .i64 0,.slice none 0 0,.slice none 0 0,.slice none 0 0,.slice none 0 0] 27))=Z:=⟨_,rfl⟩
     rw [hX] at N22 ⊢
     clear hX
     refine hK.out _ _ (HS.out _ N22.out.bel) (fun hHeld=>?_)
     clear hK K
     try simp only [lays]
     refine wpAnyH_ready (rs:=[5]) (by kernel_rfl) (by simp) ?_
     refine AllReadyH.cons rfl (fun K hK=>?_) AllReadyH.nil
     ·clear hHeld
      simp only [lays]
      rw [if_pos (by rfl)]
      refine wp_copy _ _ (by rfl) (g:=w1.heap.size) (B:=w1.heap.size) (by rfl) N22.out.ha.2 N22.out.ha.1 (src:=.slice ra m.root.length rc) (by rfl) (H1.below N22.out.bel) hr ?_
      intro v X23 r1 r2 r3
      have N23:=Hid_mk2 (N22.out.a2 r1.out r2 r3.out)
      obtain⟨pa,ca,rfl⟩:=row_slice r1.out
      clear r1 r2 r3
      refine hK.out _ _ (HS.out _ N23.out.bel) (fun hHeld=>?_)
      clear hK K
      try simp only [lays]
      refine wpAnyH_ready (rs:=[9]) (by kernel_rfl) (by simp) ?_
      refine AllReadyH.cons rfl (fun K hK=>?_) AllReadyH.nil
      ·clear hHeld
       simp only [lays]
       rw [if_pos (by rfl)]
       refine wp_copy _ _ (by rfl) (g:=X1.heap.size) (B:=w1.heap.size) (by rfl) N23.out.hb.2 N23.out.hb.1 (src:=.slice fa m.refs.length fc) (by rfl) (H3.below N23.out.bel) hf ?_
       intro v X24 r1 r2 r3
       have N24:=Hid_mk2 (N23.out.b2 r1.out r2 r3.out)
       obtain⟨pb,cb,rfl⟩:=row_slice r1.out
       clear r1 r2 r3
       refine hK.out _ _ (HS.out _ N24.out.bel) (fun hHeld=>?_)
       clear hK K
       try simp only [lays]
       refine tkH 10 (.agg #[.int .i64 m.guest,.slice pa m.root.length ca,.slice none 0 0,.slice pb m.refs.length cb,.slice none 0 0]) rfl (Or.inl ⟨by rfl,fun w' hSw=>by obtain⟨q1,q2,q3⟩:=hSw;go_simp⟩) hHeld ?_
       simp only [lays]
       refine wpAnyH_ready (rs:=[12]) (by kernel_rfl) (by simp) ?_
       refine AllReadyH.cons rfl (fun K hK=>?_) AllReadyH.nil
       ·clear hHeld
        simp only [lays]
        rw [if_pos (by rfl)]
        have zz:=N24.out.hc.2
        obtain⟨z0,z1,z2,z3,z4⟩:=five zz
        have y0:=cells_frozen zz 0
        have y1:=cells_frozen zz 1
        have y2:=cells_frozen zz 2
        have y3:=cells_frozen zz 3
        have y4:=cells_frozen zz 4
        go_simp
        have N25:=Hid_mk2 N24.out.last
        refine hK.out _ _ (HS.out _ N25.out.bel) (fun hHeld=>?_)
        clear hK K hHeld
        refine wpAnyH_done (by kernel_rfl) ?_ _
        go_wp2_with fail
        go_meet
        exact⟨_,rfl,N25⟩
   ·clear hHeld
    simp only [lays]
    rw [if_pos (by rfl)]
    go_simp
    have N26:=Hid_mk2 N1.out.c1
    obtain⟨X26,hX⟩:∃Z,(X1.alloc (.cells #[.int .i64 0,.slice none 0 0,.slice none 0 0,.slice none 0 0,.slice none 0 0] 27))=Z:=⟨_,rfl⟩
    rw [hX] at N26 ⊢
    clear hX
    refine hK.out _ _ (HS.out _ N26.out.bel) (fun hHeld=>?_)
    clear hK K
    try simp only [lays]
    refine wpAnyH_ready (rs:=[5,6]) (by kernel_rfl) (by simp) ?_
    refine AllReadyH.cons rfl (fun K hK=>?_) (AllReadyH.cons rfl (fun K hK=>?_) AllReadyH.nil)
    ·clear hHeld
     simp only [lays]
     rw [if_pos (by rfl)]
     refine wp_copy _ _ (by rfl) (g:=w1.heap.size) (B:=w1.heap.size) (by rfl) N26.out.ha.2 N26.out.ha.1 (src:=.slice ra m.root.length rc) (by rfl) (H1.below N26.out.bel) hr ?_
     intro v X27 r1 r2 r3
     have N27:=Hid_mk2 (N26.out.a2 r1.out r2 r3.out)
     obtain⟨pa,ca,rfl⟩:=row_slice r1.out
     clear r1 r2 r3
     refine hK.out _ _ (HS.out _ N27.out.bel) (fun hHeld=>?_)
     clear hK K
     try simp only [lays]
     refine wpAnyH_ready (rs:=[6]) (by kernel_rfl) (by simp) ?_
     refine AllReadyH.cons rfl (fun K hK=>?_) AllReadyH.nil
     ·clear hHeld
      simp only [lays]
      rw [if_pos (by rfl)]
      go_simp
      have N28:=Hid_mk2 N27.out.b1
      obtain⟨X28,hX⟩:∃Z,(X27.alloc (.cells #[] 3))=Z:=⟨_,rfl⟩
      rw [hX] at N28 ⊢
      clear hX
      refine hK.out _ _ (HS.out _ N28.out.bel) (fun hHeld=>?_)
      clear hK K
      try simp only [lays]
      refine wpAnyH_ready (rs:=[9]) (by kernel_rfl) (by simp) ?_
      refine AllReadyH.cons rfl (fun K hK=>?_) AllReadyH.nil
      ·clear hHeld
       simp only [lays]
       rw [if_pos (by rfl)]
       refine wp_copy _ _ (by rfl) (g:=X27.heap.size) (B:=w1.heap.size) (by rfl) N28.out.hb.2 N28.out.hb.1 (src:=.slice fa m.refs.length fc) (by rfl) (H3.below N28.out.bel) hf ?_
       intro v X29 r1 r2 r3
       have N29:=Hid_mk2 (N28.out.b2 r1.out r2 r3.out)
       obtain⟨pb,cb,rfl⟩:=row_slice r1.out
       clear r1 r2 r3
       refine hK.out _ _ (HS.out _ N29.out.bel) (fun hHeld=>?_)
       clear hK K
       try simp only [lays]
       refine tkH 10 (.agg #[.int .i64 m.guest,.slice pa m.root.length ca,.slice none 0 0,.slice pb m.refs.length cb,.slice none 0 0]) rfl (Or.inl ⟨by rfl,fun w' hSw=>by obtain⟨q1,q2,q3⟩:=hSw;go_simp⟩) hHeld ?_
       simp only [lays]
       refine wpAnyH_ready (rs:=[12]) (by kernel_rfl) (by simp) ?_
       refine AllReadyH.cons rfl (fun K hK=>?_) AllReadyH.nil
       ·clear hHeld
        simp only [lays]
        rw [if_pos (by rfl)]
        have zz:=N29.out.hc.2
        obtain⟨z0,z1,z2,z3,z4⟩:=five zz
        have y0:=cells_frozen zz 0
        have y1:=cells_frozen zz 1
        have y2:=cells_frozen zz 2
        have y3:=cells_frozen zz 3
        have y4:=cells_frozen zz 4
        go_simp
        have N30:=Hid_mk2 N29.out.last
        refine hK.out _ _ (HS.out _ N30.out.bel) (fun hHeld=>?_)
        clear hK K hHeld
        refine wpAnyH_done (by kernel_rfl) ?_ _
        go_wp2_with fail
        go_meet
        exact⟨_,rfl,N30⟩
    ·clear hHeld
     simp only [lays]
     rw [if_pos (by rfl)]
     go_simp
     have N31:=Hid_mk2 N26.out.b1
     obtain⟨X31,hX⟩:∃Z,(X26.alloc (.cells #[] 3))=Z:=⟨_,rfl⟩
     rw [hX] at N31 ⊢
     clear hX
     refine hK.out _ _ (HS.out _ N31.out.bel) (fun hHeld=>?_)
     clear hK K
     try simp only [lays]
     refine wpAnyH_ready (rs:=[5]) (by kernel_rfl) (by simp) ?_
     refine AllReadyH.cons rfl (fun K hK=>?_) AllReadyH.nil
     ·clear hHeld
      simp only [lays]
      rw [if_pos (by rfl)]
      refine wp_copy _ _ (by rfl) (g:=w1.heap.size) (B:=w1.heap.size) (by rfl) N31.out.ha.2 N31.out.ha.1 (src:=.slice ra m.root.length rc) (by rfl) (H1.below N31.out.bel) hr ?_
      intro v X32 r1 r2 r3
      have N32:=Hid_mk2 (N31.out.a2 r1.out r2 r3.out)
      obtain⟨pa,ca,rfl⟩:=row_slice r1.out
      clear r1 r2 r3
      refine hK.out _ _ (HS.out _ N32.out.bel) (fun hHeld=>?_)
      clear hK K
      try simp only [lays]
      refine wpAnyH_ready (rs:=[9]) (by kernel_rfl) (by simp) ?_
      refine AllReadyH.cons rfl (fun K hK=>?_) AllReadyH.nil
      ·clear hHeld
       simp only [lays]
       rw [if_pos (by rfl)]
       refine wp_copy _ _ (by rfl) (g:=X26.heap.size) (B:=w1.heap.size) (by rfl) N32.out.hb.2 N32.out.hb.1 (src:=.slice fa m.refs.length fc) (by rfl) (H3.below N32.out.bel) hf ?_
       intro v X33 r1 r2 r3
       have N33:=Hid_mk2 (N32.out.b2 r1.out r2 r3.out)
       obtain⟨pb,cb,rfl⟩:=row_slice r1.out
       clear r1 r2 r3
       refine hK.out _ _ (HS.out _ N33.out.bel) (fun hHeld=>?_)
       clear hK K
       try simp only [lays]
       refine tkH 10 (.agg #[.int .i64 m.guest,.slice pa m.root.length ca,.slice none 0 0,.slice pb m.refs.length cb,.slice none 0 0]) rfl (Or.inl ⟨by rfl,fun w' hSw=>by obtain⟨q1,q2,q3⟩:=hSw;go_simp⟩) hHeld ?_
       simp only [lays]
       refine wpAnyH_ready (rs:=[12]) (by kernel_rfl) (by simp) ?_
       refine AllReadyH.cons rfl (fun K hK=>?_) AllReadyH.nil
       ·clear hHeld
        simp only [lays]
        rw [if_pos (by rfl)]
        have zz:=N33.out.hc.2
        obtain⟨z0,z1,z2,z3,z4⟩:=five zz
        have y0:=cells_frozen zz 0
        have y1:=cells_frozen zz 1
        have y2:=cells_frozen zz 2
        have y3:=cells_frozen zz 3
        have y4:=cells_frozen zz 4
        go_simp
        have N34:=Hid_mk2 N33.out.last
        refine hK.out _ _ (HS.out _ N34.out.bel) (fun hHeld=>?_)
        clear hK K hHeld
        refine wpAnyH_done (by kernel_rfl) ?_ _
        go_wp2_with fail
        go_meet
        exact⟨_,rfl,N34⟩
  ·clear hHeld
   simp only [lays]
   rw [if_pos (by rfl)]
   go_simp
   have N35:=Hid_mk2 CP0.out.b1.drew
   obtain⟨X35,hX⟩:∃Z,(w1.alloc (.cells #[] 3)).drew=Z:=⟨_,rfl⟩
   rw [hX] at N35 ⊢
   clear hX
   refine hK.out _ _ (HS.out _ N35.out.bel) (fun hHeld=>?_)
   clear hK K
   try simp only [lays]
   refine wpAnyH_ready (rs:=[2,11]) (by kernel_rfl) (by simp) ?_
   refine AllReadyH.cons rfl (fun K hK=>?_) (AllReadyH.cons rfl (fun K hK=>?_) AllReadyH.nil)
   ·clear hHeld
    simp only [lays]
    rw [if_pos (by rfl)]
    go_simp
    have N36:=Hid_mk2 N35.out.a1
    obtain⟨X36,hX⟩:∃Z,(X35.alloc (.cells #[] 3))=Z:=⟨_,rfl⟩
    rw [hX] at N36 ⊢
    clear hX
    refine hK.out _ _ (HS.out _ N36.out.bel) (fun hHeld=>?_)
    clear hK K
    try simp only [lays]
    refine wpAnyH_ready (rs:=[5,11]) (by kernel_rfl) (by simp) ?_
    refine AllReadyH.cons rfl (fun K hK=>?_) (AllReadyH.cons rfl (fun K hK=>?_) AllReadyH.nil)
    ·clear hHeld
     simp only [lays]
     rw [if_pos (by rfl)]
     refine wp_copy _ _ (by rfl) (g:=X35.heap.size) (B:=w1.heap.size) (by rfl) N36.out.ha.2 N36.out.ha.1 (src:=.slice ra m.root.length rc) (by rfl) (H1.below N36.out.bel) hr ?_
     intro v X37 r1 r2 r3
     have N37:=Hid_mk2 (N36.out.a2 r1.out r2 r3.out)
     obtain⟨pa,ca,rfl⟩:=row_slice r1.out
     clear r1 r2 r3
     refine hK.out _ _ (HS.out _ N37.out.bel) (fun hHeld=>?_)
     clear hK K
     try simp only [lays]
     refine wpAnyH_ready (rs:=[9,11]) (by kernel_rfl) (by simp) ?_
     refine AllReadyH.cons rfl (fun K hK=>?_) (AllReadyH.cons rfl (fun K hK=>?_) AllReadyH.nil)
     ·clear hHeld
      simp only [lays]
      rw [if_pos (by rfl)]
      refine wp_copy _ _ (by rfl) (g:=w1.heap.size) (B:=w1.heap.size) (by rfl) N37.out.hb.2 N37.out.hb.1 (src:=.slice fa m.refs.length fc) (by rfl) (H3.below N37.out.bel) hf ?_
      intro v X38 r1 r2 r3
      have N38:=Hid_mk2 (N37.out.b2 r1.out r2 r3.out)
      obtain⟨pb,cb,rfl⟩:=row_slice r1.out
      clear r1 r2 r3
      refine hK.out _ _ (HS.out _ N38.out.bel) (fun hHeld=>?_)
      clear hK K
      try simp only [lays]
      refine tkH 10 (.agg #[.int .i64 m.guest,.slice pa m.root.length ca,.slice none 0 0,.slice pb m.refs.length cb,.slice none 0 0]) rfl (Or.inl ⟨by rfl,fun w' hSw=>by obtain⟨q1,q2,q3⟩:=hSw;go_simp⟩) hHeld ?_
      simp only [lays]
      refine wpAnyH_ready (rs:=[11]) (by kernel_rfl) (by simp) ?_
      refine AllReadyH.cons rfl (fun K hK=>?_) AllReadyH.nil
      ·clear hHeld
       simp only [lays]
       rw [if_pos (by rfl)]
       go_simp
       have N39:=Hid_mk2 N38.out.c1
       obtain⟨X39,hX⟩:∃Z,(X38.alloc (.cells #[.int .i64 0,.slice none 0 0,.slice none 0 0,.slice none 0 0,.slice none 0 0] 27))=Z:=⟨_,rfl⟩
       rw [hX] at N39 ⊢
       clear hX
       refine hK.out _ _ (HS.out _ N39.out.bel) (fun hHeld=>?_)
       clear hK K
       try simp only [lays]
       refine wpAnyH_ready (rs:=[12]) (by kernel_rfl) (by simp) ?_
       refine AllReadyH.cons rfl (fun K hK=>?_) AllReadyH.nil
       ·clear hHeld
        simp only [lays]
        rw [if_pos (by rfl)]
        have zz:=N39.out.hc.2
        obtain⟨z0,z1,z2,z3,z4⟩:=five zz
        have y0:=cells_frozen zz 0
        have y1:=cells_frozen zz 1
        have y2:=cells_frozen zz 2
        have y3:=cells_frozen zz 3
        have y4:=cells_frozen zz 4
        go_simp
        have N40:=Hid_mk2 N39.out.last
        refine hK.out _ _ (HS.out _ N40.out.bel) (fun hHeld=>?_)
        clear hK K hHeld
        refine wpAnyH_done (by kernel_rfl) ?_ _
        go_wp2_with fail
        go_meet
        exact⟨_,rfl,N40⟩
     ·clear hHeld
      simp only [lays]
      rw [if_pos (by rfl)]
      go_simp
      have N41:=Hid_mk2 N37.out.c1
      obtain⟨X41,hX⟩:∃Z,(X37.alloc (.cells #[.int .i64 0,.slice none 0 0,.slice none 0 0,.slice none 0 0,.slice none 0 0] 27))=Z:=⟨_,rfl⟩
      rw [hX] at N41 ⊢
      clear hX
      refine hK.out _ _ (HS.out _ N41.out.bel) (fun hHeld=>?_)
      clear hK K
      try simp only [lays]
      refine wpAnyH_ready (rs:=[9]) (by kernel_rfl) (by simp) ?_
      refine AllReadyH.cons rfl (fun K hK=>?_) AllReadyH.nil
      ·clear hHeld
       simp only [lays]
       rw [if_pos (by rfl)]
       refine wp_copy _ _ (by rfl) (g:=w1.heap.size) (B:=w1.heap.size) (by rfl) N41.out.hb.2 N41.out.hb.1 (src:=.slice fa m.refs.length fc) (by rfl) (H3.below N41.out.bel) hf ?_
       intro v X42 r1 r2 r3
       have N42:=Hid_mk2 (N41.out.b2 r1.out r2 r3.out)
       obtain⟨pb,cb,rfl⟩:=row_slice r1.out
       clear r1 r2 r3
       refine hK.out _ _ (HS.out _ N42.out.bel) (fun hHeld=>?_)
       clear hK K
       try simp only [lays]
       refine tkH 10 (.agg #[.int .i64 m.guest,.slice pa m.root.length ca,.slice none 0 0,.slice pb m.refs.length cb,.slice none 0 0]) rfl (Or.inl ⟨by rfl,fun w' hSw=>by obtain⟨q1,q2,q3⟩:=hSw;go_simp⟩) hHeld ?_
       simp only [lays]
       refine wpAnyH_ready (rs:=[12]) (by kernel_rfl) (by simp) ?_
       refine AllReadyH.cons rfl (fun K hK=>?_) AllReadyH.nil
       ·clear hHeld
        simp only [lays]
        rw [if_pos (by rfl)]
        have zz:=N42.out.hc.2
        obtain⟨z0,z1,z2,z3,z4⟩:=five zz
        have y0:=cells_frozen zz 0
        have y1:=cells_frozen zz 1
        have y2:=cells_frozen zz 2
        have y3:=cells_frozen zz 3
        have y4:=cells_frozen zz 4
        go_simp
        have N43:=Hid_mk2 N42.out.last
        refine hK.out _ _ (HS.out _ N43.out.bel) (fun hHeld=>?_)
        clear hK K hHeld
        refine wpAnyH_done (by kernel_rfl) ?_ _
        go_wp2_with fail
        go_meet
        exact⟨_,rfl,N43⟩
    ·clear hHeld
     simp only [lays]
     rw [if_pos (by rfl)]
     go_simp
     have N44:=Hid_mk2 N36.out.c1
     obtain⟨X44,hX⟩:∃Z,(X36.alloc (.cells #[.int .i64 0,.slice none 0 0,.slice none 0 0,.slice none 0 0,.slice none 0 0] 27))=Z:=⟨_,rfl⟩
     rw [hX] at N44 ⊢
     clear hX
     refine hK.out _ _ (HS.out _ N44.out.bel) (fun hHeld=>?_)
     clear hK K
     try simp only [lays]
     refine wpAnyH_ready (rs:=[5]) (by kernel_rfl) (by simp) ?_
     refine AllReadyH.cons rfl (fun K hK=>?_) AllReadyH.nil
     ·clear hHeld
      simp only [lays]
      rw [if_pos (by rfl)]
      refine wp_copy _ _ (by rfl) (g:=X35.heap.size) (B:=w1.heap.size) (by rfl) N44.out.ha.2 N44.out.ha.1 (src:=.slice ra m.root.length rc) (by rfl) (H1.below N44.out.bel) hr ?_
      intro v X45 r1 r2 r3
      have N45:=Hid_mk2 (N44.out.a2 r1.out r2 r3.out)
      obtain⟨pa,ca,rfl⟩:=row_slice r1.out
      clear r1 r2 r3
      refine hK.out _ _ (HS.out _ N45.out.bel) (fun hHeld=>?_)
      clear hK K
      try simp only [lays]
      refine wpAnyH_ready (rs:=[9]) (by kernel_rfl) (by simp) ?_
      refine AllReadyH.cons rfl (fun K hK=>?_) AllReadyH.nil
      ·clear hHeld
       simp only [lays]
       rw [if_pos (by rfl)]
       refine wp_copy _ _ (by rfl) (g:=w1.heap.size) (B:=w1.heap.size) (by rfl) N45.out.hb.2 N45.out.hb.1 (src:=.slice fa m.refs.length fc) (by rfl) (H3.below N45.out.bel) hf ?_
       intro v X46 r1 r2 r3
       have N46:=Hid_mk2 (N45.out.b2 r1.out r2 r3.out)
       obtain⟨pb,cb,rfl⟩:=row_slice r1.out
       clear r1 r2 r3
       refine hK.out _ _ (HS.out _ N46.out.bel) (fun hHeld=>?_)
       clear hK K
       try simp only [lays]
       refine tkH 10 (.agg #[.int .i64 m.guest,.slice pa m.root.length ca,.slice none 0 0,.slice pb m.refs.length cb,.slice none 0 0]) rfl (Or.inl ⟨by rfl,fun w' hSw=>by obtain⟨q1,q2,q3⟩:=hSw;go_simp⟩) hHeld ?_
       simp only [lays]
       refine wpAnyH_ready (rs:=[12]) (by kernel_rfl) (by simp) ?_
       refine AllReadyH.cons rfl (fun K hK=>?_) AllReadyH.nil
       ·clear hHeld
        simp only [lays]
        rw [if_pos (by rfl)]
        have zz:=N46.out.hc.2
        obtain⟨z0,z1,z2,z3,z4⟩:=five zz
        have y0:=cells_frozen zz 0
        have y1:=cells_frozen zz 1
        have y2:=cells_frozen zz 2
        have y3:=cells_frozen zz 3
        have y4:=cells_frozen zz 4
        go_simp
        have N47:=Hid_mk2 N46.out.last
        refine hK.out _ _ (HS.out _ N47.out.bel) (fun hHeld=>?_)
        clear hK K hHeld
        refine wpAnyH_done (by kernel_rfl) ?_ _
        go_wp2_with fail
        go_meet
        exact⟨_,rfl,N47⟩
   ·clear hHeld
    simp only [lays]
    rw [if_pos (by rfl)]
    go_simp
    have N48:=Hid_mk2 N35.out.c1
    obtain⟨X48,hX⟩:∃Z,(X35.alloc (.cells #[.int .i64 0,.slice none 0 0,.slice none 0 0,.slice none 0 0,.slice none 0 0] 27))=Z:=⟨_,rfl⟩
    rw [hX] at N48 ⊢
    clear hX
    refine hK.out _ _ (HS.out _ N48.out.bel) (fun hHeld=>?_)
    clear hK K
    try simp only [lays]
    refine wpAnyH_ready (rs:=[2]) (by kernel_rfl) (by simp) ?_
    refine AllReadyH.cons rfl (fun K hK=>?_) AllReadyH.nil
    ·clear hHeld
     simp only [lays]
     rw [if_pos (by rfl)]
     go_simp
     have N49:=Hid_mk2 N48.out.a1
     obtain⟨X49,hX⟩:∃Z,(X48.alloc (.cells #[] 3))=Z:=⟨_,rfl⟩
     rw [hX] at N49 ⊢
     clear hX
     refine hK.out _ _ (HS.out _ N49.out.bel) (fun hHeld=>?_)
     clear hK K
     try simp only [lays]
     refine wpAnyH_ready (rs:=[5]) (by kernel_rfl) (by simp) ?_
     refine AllReadyH.cons rfl (fun K hK=>?_) AllReadyH.nil
     ·clear hHeld
      simp only [lays]
      rw [if_pos (by rfl)]
      refine wp_copy _ _ (by rfl) (g:=X48.heap.size) (B:=w1.heap.size) (by rfl) N49.out.ha.2 N49.out.ha.1 (src:=.slice ra m.root.length rc) (by rfl) (H1.below N49.out.bel) hr ?_
      intro v X50 r1 r2 r3
      have N50:=Hid_mk2 (N49.out.a2 r1.out r2 r3.out)
      obtain⟨pa,ca,rfl⟩:=row_slice r1.out
      clear r1 r2 r3
      refine hK.out _ _ (HS.out _ N50.out.bel) (fun hHeld=>?_)
      clear hK K
      try simp only [lays]
      refine wpAnyH_ready (rs:=[9]) (by kernel_rfl) (by simp) ?_
      refine AllReadyH.cons rfl (fun K hK=>?_) AllReadyH.nil
      ·clear hHeld
       simp only [lays]
       rw [if_pos (by rfl)]
       refine wp_copy _ _ (by rfl) (g:=w1.heap.size) (B:=w1.heap.size) (by rfl) N50.out.hb.2 N50.out.hb.1 (src:=.slice fa m.refs.length fc) (by rfl) (H3.below N50.out.bel) hf ?_
       intro v X51 r1 r2 r3
       have N51:=Hid_mk2 (N50.out.b2 r1.out r2 r3.out)
       obtain⟨pb,cb,rfl⟩:=row_slice r1.out
       clear r1 r2 r3
       refine hK.out _ _ (HS.out _ N51.out.bel) (fun hHeld=>?_)
       clear hK K
       try simp only [lays]
       refine tkH 10 (.agg #[.int .i64 m.guest,.slice pa m.root.length ca,.slice none 0 0,.slice pb m.refs.length cb,.slice none 0 0]) rfl (Or.inl ⟨by rfl,fun w' hSw=>by obtain⟨q1,q2,q3⟩:=hSw;go_simp⟩) hHeld ?_
       simp only [lays]
       refine wpAnyH_ready (rs:=[12]) (by kernel_rfl) (by simp) ?_
       refine AllReadyH.cons rfl (fun K hK=>?_) AllReadyH.nil
       ·clear hHeld
        simp only [lays]
        rw [if_pos (by rfl)]
        have zz:=N51.out.hc.2
        obtain⟨z0,z1,z2,z3,z4⟩:=five zz
        have y0:=cells_frozen zz 0
        have y1:=cells_frozen zz 1
        have y2:=cells_frozen zz 2
        have y3:=cells_frozen zz 3
        have y4:=cells_frozen zz 4
        go_simp
        have N52:=Hid_mk2 N51.out.last
        refine hK.out _ _ (HS.out _ N52.out.bel) (fun hHeld=>?_)
        clear hK K hHeld
        refine wpAnyH_done (by kernel_rfl) ?_ _
        go_wp2_with fail
        go_meet
        exact⟨_,rfl,N52⟩
  ·clear hHeld
   simp only [lays]
   rw [if_pos (by rfl)]
   go_simp
   have N53:=Hid_mk2 CP0.out.c1.drew
   obtain⟨X53,hX⟩:∃Z,(w1.alloc (.cells #[.int .i64 0,.slice none 0 0,.slice none 0 0,.slice none 0 0,.slice none 0 0] 27)).drew=Z:=⟨_,rfl⟩
   rw [hX] at N53 ⊢
   clear hX
   refine hK.out _ _ (HS.out _ N53.out.bel) (fun hHeld=>?_)
   clear hK K
   try simp only [lays]
   refine wpAnyH_ready (rs:=[2,6]) (by kernel_rfl) (by simp) ?_
   refine AllReadyH.cons rfl (fun K hK=>?_) (AllReadyH.cons rfl (fun K hK=>?_) AllReadyH.nil)
   ·clear hHeld
    simp only [lays]
    rw [if_pos (by rfl)]
    go_simp
    have N54:=Hid_mk2 N53.out.a1
    obtain⟨X54,hX⟩:∃Z,(X53.alloc (.cells #[] 3))=Z:=⟨_,rfl⟩
    rw [hX] at N54 ⊢
    clear hX
    refine hK.out _ _ (HS.out _ N54.out.bel) (fun hHeld=>?_)
    clear hK K
    try simp only [lays]
    refine wpAnyH_ready (rs:=[5,6]) (by kernel_rfl) (by simp) ?_
    refine AllReadyH.cons rfl (fun K hK=>?_) (AllReadyH.cons rfl (fun K hK=>?_) AllReadyH.nil)
    ·clear hHeld
     simp only [lays]
     rw [if_pos (by rfl)]
     refine wp_copy _ _ (by rfl) (g:=X53.heap.size) (B:=w1.heap.size) (by rfl) N54.out.ha.2 N54.out.ha.1 (src:=.slice ra m.root.length rc) (by rfl) (H1.below N54.out.bel) hr ?_
     intro v X55 r1 r2 r3
     have N55:=Hid_mk2 (N54.out.a2 r1.out r2 r3.out)
     obtain⟨pa,ca,rfl⟩:=row_slice r1.out
     clear r1 r2 r3
     refine hK.out _ _ (HS.out _ N55.out.bel) (fun hHeld=>?_)
     clear hK K
     try simp only [lays]
     refine wpAnyH_ready (rs:=[6]) (by kernel_rfl) (by simp) ?_
     refine AllReadyH.cons rfl (fun K hK=>?_) AllReadyH.nil
     ·clear hHeld
      simp only [lays]
      rw [if_pos (by rfl)]
      go_simp
      have N56:=Hid_mk2 N55.out.b1
      obtain⟨X56,hX⟩:∃Z,(X55.alloc (.cells #[] 3))=Z:=⟨_,rfl⟩
      rw [hX] at N56 ⊢
      clear hX
      refine hK.out _ _ (HS.out _ N56.out.bel) (fun hHeld=>?_)
      clear hK K
      try simp only [lays]
      refine wpAnyH_ready (rs:=[9]) (by kernel_rfl) (by simp) ?_
      refine AllReadyH.cons rfl (fun K hK=>?_) AllReadyH.nil
      ·clear hHeld
       simp only [lays]
       rw [if_pos (by rfl)]
       refine wp_copy _ _ (by rfl) (g:=X55.heap.size) (B:=w1.heap.size) (by rfl) N56.out.hb.2 N56.out.hb.1 (src:=.slice fa m.refs.length fc) (by rfl) (H3.below N56.out.bel) hf ?_
       intro v X57 r1 r2 r3
       have N57:=Hid_mk2 (N56.out.b2 r1.out r2 r3.out)
       obtain⟨pb,cb,rfl⟩:=row_slice r1.out
       clear r1 r2 r3
       refine hK.out _ _ (HS.out _ N57.out.bel) (fun hHeld=>?_)
       clear hK K
       try simp only [lays]
       refine tkH 10 (.agg #[.int .i64 m.guest,.slice pa m.root.length ca,.slice none 0 0,.slice pb m.refs.length cb,.slice none 0 0]) rfl (Or.inl ⟨by rfl,fun w' hSw=>by obtain⟨q1,q2,q3⟩:=hSw;go_simp⟩) hHeld ?_
       simp only [lays]
       refine wpAnyH_ready (rs:=[12]) (by kernel_rfl) (by simp) ?_
       refine AllReadyH.cons rfl (fun K hK=>?_) AllReadyH.nil
       ·clear hHeld
        simp only [lays]
        rw [if_pos (by rfl)]
        have zz:=N57.out.hc.2
        obtain⟨z0,z1,z2,z3,z4⟩:=five zz
        have y0:=cells_frozen zz 0
        have y1:=cells_frozen zz 1
        have y2:=cells_frozen zz 2
        have y3:=cells_frozen zz 3
        have y4:=cells_frozen zz 4
        go_simp
        have N58:=Hid_mk2 N57.out.last
        refine hK.out _ _ (HS.out _ N58.out.bel) (fun hHeld=>?_)
        clear hK K hHeld
        refine wpAnyH_done (by kernel_rfl) ?_ _
        go_wp2_with fail
        go_meet
        exact⟨_,rfl,N58⟩
    ·clear hHeld
     simp only [lays]
     rw [if_pos (by rfl)]
     go_simp
     have N59:=Hid_mk2 N54.out.b1
     obtain⟨X59,hX⟩:∃Z,(X54.alloc (.cells #[] 3))=Z:=⟨_,rfl⟩
     rw [hX] at N59 ⊢
     clear hX
     refine hK.out _ _ (HS.out _ N59.out.bel) (fun hHeld=>?_)
     clear hK K
     try simp only [lays]
     refine wpAnyH_ready (rs:=[5]) (by kernel_rfl) (by simp) ?_
     refine AllReadyH.cons rfl (fun K hK=>?_) AllReadyH.nil
     ·clear hHeld
      simp only [lays]
      rw [if_pos (by rfl)]
      refine wp_copy _ _ (by rfl) (g:=X53.heap.size) (B:=w1.heap.size) (by rfl) N59.out.ha.2 N59.out.ha.1 (src:=.slice ra m.root.length rc) (by rfl) (H1.below N59.out.bel) hr ?_
      intro v X60 r1 r2 r3
      have N60:=Hid_mk2 (N59.out.a2 r1.out r2 r3.out)
      obtain⟨pa,ca,rfl⟩:=row_slice r1.out
      clear r1 r2 r3
      refine hK.out _ _ (HS.out _ N60.out.bel) (fun hHeld=>?_)
      clear hK K
      try simp only [lays]
      refine wpAnyH_ready (rs:=[9]) (by kernel_rfl) (by simp) ?_
      refine AllReadyH.cons rfl (fun K hK=>?_) AllReadyH.nil
      ·clear hHeld
       simp only [lays]
       rw [if_pos (by rfl)]
       refine wp_copy _ _ (by rfl) (g:=X54.heap.size) (B:=w1.heap.size) (by rfl) N60.out.hb.2 N60.out.hb.1 (src:=.slice fa m.refs.length fc) (by rfl) (H3.below N60.out.bel) hf ?_
       intro v X61 r1 r2 r3
       have N61:=Hid_mk2 (N60.out.b2 r1.out r2 r3.out)
       obtain⟨pb,cb,rfl⟩:=row_slice r1.out
       clear r1 r2 r3
       refine hK.out _ _ (HS.out _ N61.out.bel) (fun hHeld=>?_)
       clear hK K
       try simp only [lays]
       refine tkH 10 (.agg #[.int .i64 m.guest,.slice pa m.root.length ca,.slice none 0 0,.slice pb m.refs.length cb,.slice none 0 0]) rfl (Or.inl ⟨by rfl,fun w' hSw=>by obtain⟨q1,q2,q3⟩:=hSw;go_simp⟩) hHeld ?_
       simp only [lays]
       refine wpAnyH_ready (rs:=[12]) (by kernel_rfl) (by simp) ?_
       refine AllReadyH.cons rfl (fun K hK=>?_) AllReadyH.nil
       ·clear hHeld
        simp only [lays]
        rw [if_pos (by rfl)]
        have zz:=N61.out.hc.2
        obtain⟨z0,z1,z2,z3,z4⟩:=five zz
        have y0:=cells_frozen zz 0
        have y1:=cells_frozen zz 1
        have y2:=cells_frozen zz 2
        have y3:=cells_frozen zz 3
        have y4:=cells_frozen zz 4
        go_simp
        have N62:=Hid_mk2 N61.out.last
        refine hK.out _ _ (HS.out _ N62.out.bel) (fun hHeld=>?_)
        clear hK K hHeld
        refine wpAnyH_done (by kernel_rfl) ?_ _
        go_wp2_with fail
        go_meet
        exact⟨_,rfl,N62⟩
   ·clear hHeld
    simp only [lays]
    rw [if_pos (by rfl)]
    go_simp
    have N63:=Hid_mk2 N53.out.b1
    obtain⟨X63,hX⟩:∃Z,(X53.alloc (.cells #[] 3))=Z:=⟨_,rfl⟩
    rw [hX] at N63 ⊢
    clear hX
    refine hK.out _ _ (HS.out _ N63.out.bel) (fun hHeld=>?_)
    clear hK K
    try simp only [lays]
    refine wpAnyH_ready (rs:=[2]) (by kernel_rfl) (by simp) ?_
    refine AllReadyH.cons rfl (fun K hK=>?_) AllReadyH.nil
    ·clear hHeld
     simp only [lays]
     rw [if_pos (by rfl)]
     go_simp
     have N64:=Hid_mk2 N63.out.a1
     obtain⟨X64,hX⟩:∃Z,(X63.alloc (.cells #[] 3))=Z:=⟨_,rfl⟩
     rw [hX] at N64 ⊢
     clear hX
     refine hK.out _ _ (HS.out _ N64.out.bel) (fun hHeld=>?_)
     clear hK K
     try simp only [lays]
     refine wpAnyH_ready (rs:=[5]) (by kernel_rfl) (by simp) ?_
     refine AllReadyH.cons rfl (fun K hK=>?_) AllReadyH.nil
     ·clear hHeld
      simp only [lays]
      rw [if_pos (by rfl)]
      refine wp_copy _ _ (by rfl) (g:=X63.heap.size) (B:=w1.heap.size) (by rfl) N64.out.ha.2 N64.out.ha.1 (src:=.slice ra m.root.length rc) (by rfl) (H1.below N64.out.bel) hr ?_
      intro v X65 r1 r2 r3
      have N65:=Hid_mk2 (N64.out.a2 r1.out r2 r3.out)
      obtain⟨pa,ca,rfl⟩:=row_slice r1.out
      clear r1 r2 r3
      refine hK.out _ _ (HS.out _ N65.out.bel) (fun hHeld=>?_)
      clear hK K
      try simp only [lays]
      refine wpAnyH_ready (rs:=[9]) (by kernel_rfl) (by simp) ?_
      refine AllReadyH.cons rfl (fun K hK=>?_) AllReadyH.nil
      ·clear hHeld
       simp only [lays]
       rw [if_pos (by rfl)]
       refine wp_copy _ _ (by rfl) (g:=X53.heap.size) (B:=w1.heap.size) (by rfl) N65.out.hb.2 N65.out.hb.1 (src:=.slice fa m.refs.length fc) (by rfl) (H3.below N65.out.bel) hf ?_
       intro v X66 r1 r2 r3
       have N66:=Hid_mk2 (N65.out.b2 r1.out r2 r3.out)
       obtain⟨pb,cb,rfl⟩:=row_slice r1.out
       clear r1 r2 r3
       refine hK.out _ _ (HS.out _ N66.out.bel) (fun hHeld=>?_)
       clear hK K
       try simp only [lays]
       refine tkH 10 (.agg #[.int .i64 m.guest,.slice pa m.root.length ca,.slice none 0 0,.slice pb m.refs.length cb,.slice none 0 0]) rfl (Or.inl ⟨by rfl,fun w' hSw=>by obtain⟨q1,q2,q3⟩:=hSw;go_simp⟩) hHeld ?_
       simp only [lays]
       refine wpAnyH_ready (rs:=[12]) (by kernel_rfl) (by simp) ?_
       refine AllReadyH.cons rfl (fun K hK=>?_) AllReadyH.nil
       ·clear hHeld
        simp only [lays]
        rw [if_pos (by rfl)]
        have zz:=N66.out.hc.2
        obtain⟨z0,z1,z2,z3,z4⟩:=five zz
        have y0:=cells_frozen zz 0
        have y1:=cells_frozen zz 1
        have y2:=cells_frozen zz 2
        have y3:=cells_frozen zz 3
        have y4:=cells_frozen zz 4
        go_simp
        have N67:=Hid_mk2 N66.out.last
        refine hK.out _ _ (HS.out _ N67.out.bel) (fun hHeld=>?_)
        clear hK K hHeld
        refine wpAnyH_done (by kernel_rfl) ?_ _
        go_wp2_with fail
        go_meet
        exact⟨_,rfl,N67⟩
 case rest=>
  obtain⟨D,rfl,HD⟩:=hcut
  clear HS CP0 H1 H3
  have HI:Hid (Img w1 (.agg #[.int .i64 m.guest,.slice ra m.root.length rc,.slice sa m.slots.length sc,.slice fa m.refs.length fc,.slice na m.snaps.length nc]) m):=I1
  have HM:Hid (w1.heap[w.heap.size]? = some (.cells #[.int .i64 m.guest,.slice ra m.root.length rc,.slice sa m.slots.length sc,.slice fa m.refs.length fc,.slice na m.snaps.length nc] 27)∧w1.heap[w.heap.size+1]? = some (.cells #[.int .i64 0,.slice none 0 0,.slice none 0 0,.slice none 0 0,.slice none 0 0] 27)∧Below w.heap.size w w1):=⟨m0,m1,b0⟩
  clear I1 m0 m1 b0
  go_wp2_with fail
  go_loopw [4] (fun i wr=>∃k:Nat,k≤m.slots.length∧i=.int .i64 k∧Hid (OwR w1 wr D (pmA m k))) (fun i _=>m.slots.length - (intOf i).toNat)
  case atStart=>exact⟨0,Nat.zero_le _,rfl,HD⟩
  case round=>
   obtain⟨k,hk,rfl,HC⟩:=hrel
   have bl:=HC.out.bel
   have n0:=cells_below HM.out.1 bl (by omega)
   obtain⟨c0,c1,c2,c3,c4⟩:=five n0
   by_cases hlk:k<m.slots.length
   ·have hki:(k:Int)<(m.slots.length:Int):=by omega
    obtain⟨val,hX,hbox,hfar⟩:=HC.out.ex
    have hge:=HC.out.ge
    have hDl:D<wr.heap.size:=(szH hbox)
    have hlt:(pmA m k).slots.length=k:=by show (m.slots.take k).length=k;rw [List.length_take];omega
    obtain⟨pa,pc,hp,_⟩:=hX.forms .slots (LiveX.slots _)
    have hp:val .slots=.slice pa k pc:=by rw [hp];show Value.slice pa (pmA m k).slots.length pc=_;rw [hlt]
    have hrow:=hX.row .slots (LiveX.slots _)
    have hrow:wr.ownsRow w1.heap.size 61 3 (val .slots) (pmA m k).slots.length (flatS (pmA m k).slots (fun j=>val (.tab j))):=hrow
    rw [hlt] at hrow
    obtain⟨sb,so,sc',e,_,hbl,hps⟩:=(HI.out.four.2.1.below bl).open (by omega)
    simp only [Value.slice.injEq] at e
    obtain⟨rfl,_,rfl⟩:=e
    obtain⟨tv,q0,q1,q2,qs⟩:=hps k hlk
    obtain⟨⟨kk,dd,es⟩,hsk⟩:∃s,m.slots[k]=s:=⟨_,rfl⟩
    have hel:es.length≤1000:=by have:=ht k hlk;rw [hsk] at this;exact this
    have HS:Hid (m.slots[k]=(kk,dd,es)):=hsk
    rw [hsk] at q0 q1 qs
    have q0:wr.cell? ⟨sb,so+k*3,none⟩=some (.int .i64 kk):=q0
    have q1:wr.cell? ⟨sb,so+k*3+1,none⟩=some (.string dd):=q1
    have qs:Sl wr tv es:=qs
    obtain⟨ta,tc,rfl⟩:=qs.form
    clear hps hsk n0
    have HX:Hid (OX wr w1.heap.size val (pmA m k)∧(∀a,LiveX (pmA m k) a→(val a).ownBlock≠some D)∧Below w1.heap.size w1 wr∧val .slots=.slice pa k pc∧(pmA m k).slots.length=k∧wr.heap[D]? = some (.cells #[.int .i64 (pmA m k).guest,val .root,val .slots,val .refs,val .snaps] 27)):=⟨hX,hfar,bl,hp,hlt,hbox⟩
    rw [hp] at hbox hrow
    obtain⟨d0,d1,d2,d3,d4⟩:=five hbox
    have f2:=cells_frozen hbox 2
    have hfD:(Value.slice pa k pc).ownBlock≠some D:=by rw [←hp];exact hfar .slots (LiveX.slots _)
    have nD1:¬D=wr.heap.size:=by omega
    have nD2:¬wr.heap.size=D:=by omega
    clear hX hfar hp hlt
    by_cases hes:es=[]
    ·subst hes
     have hev0:Sl wr (.slice ta 0 tc) []:=qs
     clear qs
     go_wp2_with (at_builtin;refine wpList_app3 (by rfl) _ _ 24 61 _ Tryz.underlying24 infoSlot (by rfl) (by rfl) (B:=w1.heap.size) (v:=.slice pa k pc) (c0:=.int .i64 kk) (c1:=.string dd) (c2:=.slice ta 0 tc) (by rfl) (by rfl) (by rfl) (by rfl) (by rfl) (by simp) (hrow.alloc _) (by omega) (by have:=bl.size;simp;omega) ?_;intro v1 w8 h1 h2 h3;obtain⟨g1,cap1,hv1⟩:=row_some h1.out;subst hv1;have z2:=(h2.block D (by simp;omega) (fun e=>hfD e.symm)).trans (cells_alloc (cells_alloc hbox _) _);obtain⟨x0,x1,x2,x3,x4⟩:=five z2;have y2:=cells_frozen z2 2)
     have HN:Hid (OwR w1 (w8.setCell ⟨D,2,none⟩ (.slice (some ⟨g1,0,none⟩) (k+1) cap1)) D (pmA m (k+1))):=by
      obtain⟨hX,hfar,bl,hp,hlt,hbox⟩:=HX.out
      rw [pmA_succ m hlk,HS.out]
      refine ow_slot ((hX.alloc _).alloc _) ((bl.alloc bl.size _).alloc (by simp;have:=bl.size;omega) _) (cells_alloc (cells_alloc hbox _) _) hge hfar (fun x=>absurd rfl x) (fun _=>⟨_,_,rfl⟩) (fun x=>absurd rfl x) (fun x=>absurd rfl x) (by rw [hp];exact h2) (by rw [hlt];exact h1.out) ?_
      rw [hp]
      rcases h3.out with x | x
      ·exact .inl x
      ·refine .inr (fun g e=>?_)
       rw [x] at e
       cases e
       simp
     go_roundw
     case rel=>exact⟨k+1,by omega,by go_num,HN⟩
     case measure=>simp [intOf];omega
    ·have hpos:0<es.length:=List.length_pos_iff.2 hes
     have HE:Hid (es≠[]):=hes
     have hposi:decide (0<es.length)=true:=by simp [hpos]
     clear hes
     go_wp2_with (first
      | (at_builtin;refine wpList_copy (by rfl) _ _ (by rfl) (g:=wr.heap.size+1) (B:=w1.heap.size) (by rfl) (by have:=World.alloc_heap_new (wr.alloc (.cells #[.int .i64 kk,.string dd,.slice ta es.length tc] 61)) (.cells #[] 3);simpa using this) (by have:=bl.size;omega) (src:=.slice ta es.length tc) (xs:=es) (by rfl) (qs.below (((Below.refl _ _).alloc (Nat.le_refl _) _).alloc (by simp) _)) hel ?_;intro v6 w6 r1 r2 r3;obtain⟨xa,xc,rfl⟩:=row_slice r1.out;have u5:=(r2.block wr.heap.size (by simp <;> omega) (fun e=>by have:=Option.some.inj e;omega)).trans (cells_alloc (World.alloc_heap_new wr _) _);obtain⟨t0,t1,t2⟩:=three u5;have tf:=cells_frozen u5 2;have z6:=(r2.block D (by simp <;> omega) (fun e=>by have:=Option.some.inj e;omega)).trans (cells_alloc (cells_alloc hbox _) _);obtain⟨x0,x1,x2,x3,x4⟩:=five z6;have y2:=cells_frozen z6 2;have hrow6:=(((hrow.alloc _).alloc _).kept r2 (.inr (fun e=>by have:=(hrow.lt _ e).2;omega)));have HW:Hid (OX w6 w1.heap.size val (pmA m k)∧Below w1.heap.size w1 w6∧w6.heap[D]? = some (.cells #[.int .i64 (pmA m k).guest,val .root,val .slots,val .refs,val .snaps] 27)∧(∀a,LiveX (pmA m k) a→(val a).ownBlock≠some wr.heap.size)∧(Value.slice xa es.length xc).ownBlock≠some wr.heap.size∧(∀g,(Value.slice xa es.length xc).ownBlock=some g→wr.heap.size≤g)∧(Value.slice xa es.length xc).ownBlock≠some D∧wr.heap.size+2≤w6.heap.size):=hw6_of HX.out.1 HX.out.2.2.1 HX.out.2.2.2.2.2 r2 r3.out)
      | (at_builtin;refine wpList_app3 (by rfl) _ _ 24 61 _ Tryz.underlying24 infoSlot (by rfl) (by rfl) (B:=w1.heap.size) (v:=.slice pa k pc) (c0:=.int .i64 kk) (c1:=.string dd) (c2:=.slice xa es.length xc) (by rfl) (by rfl) (by rfl) (by rfl) (by rfl) (by simp) (ownsRow_setCell_other hrow6 (fun e=>Nat.lt_irrefl _ (hrow.lt _ e).2) _) (by omega) (by have:=bl.size;have:=HW.out.2.1.size;simp;omega) ?_;intro v1 w8 h1 h2 h3;obtain⟨g1,cap1,hv1⟩:=row_some h1.out;subst hv1;have z2:=(h2.block D (by simp;have:=HW.out.2.2.2.2.2.2.2;omega) (fun e=>hfD e.symm)).trans (cells_alloc (cells_other (by have:=HW.out.2.2.1;exact this) nD1 _ _) _);obtain⟨s0,s1,s2,s3,s4⟩:=five z2;have s22:=cells_frozen z2 2))
     have HN:Hid (OwR w1 (w8.setCell ⟨D,2,none⟩ (.slice (some ⟨g1,0,none⟩) (k+1) cap1)) D (pmA m (k+1))):=by
      obtain⟨hX,hfar,bl,hp,hlt,hbox⟩:=HX.out
      rw [pmA_succ m hlk,HS.out]
      refine ow_slot ((HW.out.1.far HW.out.2.2.2.1).alloc _) ((HW.out.2.1.setCell bl.size _).alloc (by have:=bl.size;have:=HW.out.2.2.2.2.2.2;simp;omega) _) (cells_alloc (cells_other HW.out.2.2.1 nD1 _ _) _) hge hfar (fun _=>(ownsRow_setCell_other r1.out HW.out.2.2.2.2.1 _).alloc _) (row_loose0 r1.out) (fun _=>farX_new hX _ HW.out.2.2.2.2.2.1) (fun _=>HW.out.2.2.2.2.2.2.1) (by rw [hp];exact h2) (by rw [hlt];exact h1.out) ?_
      rw [hp]
      rcases h3.out with x | x
      ·exact .inl x
      ·refine .inr (fun g e=>?_)
       rw [x] at e
       cases e
       simp
     go_roundw
     case rel=>exact⟨k+1,by omega,by go_num,HN⟩
     case measure=>simp [intOf];omega
   ·have ek:k=m.slots.length:=by omega
    subst ek
    have HD2:Hid (OwR w1 wr D (pmB m 0)):=by rw [←pmA_end];exact HC.out
    clear HC HD
    obtain⟨wx,hrn⟩:∃X,X=wr:=⟨_,rfl⟩
    subst hrn
    go_wp2_with fail
    go_loopw [6] (fun i wr=>∃k:Nat,k≤m.snaps.length∧i=.int .i64 k∧Hid (OwR w1 wr D (pmB m k))) (fun i _=>m.snaps.length - (intOf i).toNat)
    case atStart=>exact⟨0,Nat.zero_le _,rfl,HD2⟩
    case round=>
     clear c0 c1 c2 c3 c4
     obtain⟨k,hk,rfl,HC⟩:=hrel
     have bl:=HC.out.bel
     have n0:=cells_below HM.out.1 bl (by omega)
     obtain⟨c0,c1,c2,c3,c4⟩:=five n0
     by_cases hlk:k<m.snaps.length
     ·have hki:(k:Int)<(m.snaps.length:Int):=by omega
      obtain⟨val,hX,hbox,hfar⟩:=HC.out.ex
      have hge:=HC.out.ge
      have hDl:D<wr.heap.size:=(szH hbox)
      have hlt:(pmB m k).snaps.length=k:=by show (m.snaps.take k).length=k;rw [List.length_take];omega
      obtain⟨pa,pc,hp,_⟩:=hX.forms .snaps (LiveX.snaps _)
      have hp:val .snaps=.slice pa k pc:=by rw [hp];show Value.slice pa (pmB m k).snaps.length pc=_;rw [hlt]
      have hrow:=hX.row .snaps (LiveX.snaps _)
      have hrow:wr.ownsRow w1.heap.size 64 3 (val .snaps) (pmB m k).snaps.length (flatN (pmB m k).snaps (fun j=>val (.sr j))):=hrow
      rw [hlt] at hrow
      obtain⟨sb,so,sc',e,_,hbl,hps⟩:=(HI.out.four.2.2.2.below bl).open (by omega)
      simp only [Value.slice.injEq] at e
      obtain⟨rfl,_,rfl⟩:=e
      obtain⟨tv,q0,q1,q2,qs⟩:=hps k hlk
      obtain⟨⟨dd,kk,es⟩,hsk⟩:∃s,m.snaps[k]=s:=⟨_,rfl⟩
      have hel:es.length≤1000:=by have:=hq k hlk;rw [hsk] at this;exact this
      have HS:Hid (m.snaps[k]=(dd,kk,es)):=hsk
      rw [hsk] at q0 q1 qs
      have q0:wr.cell? ⟨sb,so+k*3,none⟩=some (.string dd):=q0
      have q1:wr.cell? ⟨sb,so+k*3+1,none⟩=some (.int .i64 kk):=q1
      have qs:Sl wr tv es:=qs
      obtain⟨ta,tc,rfl⟩:=qs.form
      clear hps hsk n0
      have HX:Hid (OX wr w1.heap.size val (pmB m k)∧(∀a,LiveX (pmB m k) a→(val a).ownBlock≠some D)∧Below w1.heap.size w1 wr∧val .snaps=.slice pa k pc∧(pmB m k).snaps.length=k∧wr.heap[D]? = some (.cells #[.int .i64 (pmB m k).guest,val .root,val .slots,val .refs,val .snaps] 27)):=⟨hX,hfar,bl,hp,hlt,hbox⟩
      rw [hp] at hbox hrow
      obtain⟨d0,d1,d2,d3,d4⟩:=five hbox
      have f4:=cells_frozen hbox 4
      have hfD:(Value.slice pa k pc).ownBlock≠some D:=by rw [←hp];exact hfar .snaps (LiveX.snaps _)
      have nD1:¬D=wr.heap.size:=by omega
      have nD2:¬wr.heap.size=D:=by omega
      clear hX hfar hp hlt
      go_wp2_with (first
       | (at_builtin;refine wpList_copy (by rfl) _ _ (by rfl) (g:=wr.heap.size+1) (B:=w1.heap.size) (by rfl) (by have:=World.alloc_heap_new (wr.alloc (.cells #[.string dd,.int .i64 kk,.slice ta es.length tc] 64)) (.cells #[] 3);simpa using this) (by have:=bl.size;omega) (src:=.slice ta es.length tc) (xs:=es) (by rfl) (qs.below (((Below.refl _ _).alloc (Nat.le_refl _) _).alloc (by simp) _)) hel ?_;intro v6 w6 r1 r2 r3;obtain⟨xa,xc,rfl⟩:=row_slice r1.out;have u5:=(r2.block wr.heap.size (by simp <;> omega) (fun e=>by have:=Option.some.inj e;omega)).trans (cells_alloc (World.alloc_heap_new wr _) _);obtain⟨t0,t1,t2⟩:=three u5;have tf:=cells_frozen u5 2;have z6:=(r2.block D (by simp <;> omega) (fun e=>by have:=Option.some.inj e;omega)).trans (cells_alloc (cells_alloc hbox _) _);obtain⟨x0,x1,x2,x3,x4⟩:=five z6;have y2:=cells_frozen z6 4;have hrow6:=(((hrow.alloc _).alloc _).kept r2 (.inr (fun e=>by have:=(hrow.lt _ e).2;omega)));have HW:Hid (OX w6 w1.heap.size val (pmB m k)∧Below w1.heap.size w1 w6∧w6.heap[D]? = some (.cells #[.int .i64 (pmB m k).guest,val .root,val .slots,val .refs,val .snaps] 27)∧(∀a,LiveX (pmB m k) a→(val a).ownBlock≠some wr.heap.size)∧(Value.slice xa es.length xc).ownBlock≠some wr.heap.size∧(∀g,(Value.slice xa es.length xc).ownBlock=some g→wr.heap.size≤g)∧(Value.slice xa es.length xc).ownBlock≠some D∧wr.heap.size+2≤w6.heap.size):=hw6_of HX.out.1 HX.out.2.2.1 HX.out.2.2.2.2.2 r2 r3.out)
       | (at_builtin;refine wpList_app3 (by rfl) _ _ 25 64 _ Tryz.underlying25 infoSnap (by rfl) (by rfl) (B:=w1.heap.size) (v:=.slice pa k pc) (c0:=.string dd) (c1:=.int .i64 kk) (c2:=.slice xa es.length xc) (by rfl) (by rfl) (by rfl) (by rfl) (by rfl) (by simp) (ownsRow_setCell_other hrow6 (fun e=>Nat.lt_irrefl _ (hrow.lt _ e).2) _) (by omega) (by have:=bl.size;have:=HW.out.2.1.size;simp;omega) ?_;intro v1 w8 h1 h2 h3;obtain⟨g1,cap1,hv1⟩:=row_some h1.out;subst hv1;have z2:=(h2.block D (by simp;have:=HW.out.2.2.2.2.2.2.2;omega) (fun e=>hfD e.symm)).trans (cells_alloc (cells_other (by have:=HW.out.2.2.1;exact this) nD1 _ _) _);obtain⟨s0,s1,s2,s3,s4⟩:=five z2;have s44:=cells_frozen z2 4))
      have HN:Hid (OwR w1 (w8.setCell ⟨D,4,none⟩ (.slice (some ⟨g1,0,none⟩) (k+1) cap1)) D (pmB m (k+1))):=by
       obtain⟨hX,hfar,bl,hp,hlt,hbox⟩:=HX.out
       rw [pmB_succ m hlk,HS.out]
       refine ow_snap ((HW.out.1.far HW.out.2.2.2.1).alloc _) ((HW.out.2.1.setCell bl.size _).alloc (by have:=bl.size;have:=HW.out.2.2.2.2.2.2;simp;omega) _) (cells_alloc (cells_other HW.out.2.2.1 nD1 _ _) _) hge hfar ((ownsRow_setCell_other r1.out HW.out.2.2.2.2.1 _).alloc _) (farX_new hX _ HW.out.2.2.2.2.2.1) (HW.out.2.2.2.2.2.2.1) (by rw [hp];exact h2) (by rw [hlt];exact h1.out) ?_
       rw [hp]
       rcases h3.out with x | x
       ·exact .inl x
       ·refine .inr (fun g e=>?_)
        rw [x] at e
        cases e
        simp
      go_roundw
      case rel=>exact⟨k+1,by omega,by go_num,HN⟩
      case measure=>simp [intOf];omega
     ·have ek:k=m.snaps.length:=by omega
      subst ek
      obtain⟨val,hX,hbox,hfar⟩:=HC.out.ex
      rw [pmB_end] at hX hbox hfar
      obtain⟨pa0,pc0,hp0,_⟩:=hX.forms .root (LiveX.root _)
      obtain⟨pa1,pc1,hp1,_⟩:=hX.forms .slots (LiveX.slots _)
      obtain⟨pa2,pc2,hp2,_⟩:=hX.forms .refs (LiveX.refs _)
      obtain⟨pa3,pc3,hp3,_⟩:=hX.forms .snaps (LiveX.snaps _)
      have HX:Hid (OX wr w1.heap.size val m∧val .root=.slice pa0 m.root.length pc0∧val .slots=.slice pa1 m.slots.length pc1∧val .refs=.slice pa2 m.refs.length pc2∧val .snaps=.slice pa3 m.snaps.length pc3):=⟨hX,hp0,hp1,hp2,hp3⟩
      rw [HX.out.2.1,HX.out.2.2.1,HX.out.2.2.2.1,HX.out.2.2.2.2] at hbox
      obtain⟨d0,d1,d2,d3,d4⟩:=five hbox
      have n1:=cells_below HM.out.2.1 bl (by omega)
      obtain⟨z0,z1,z2,z3,z4⟩:=five n1
      have y0:=cells_frozen n1 0
      have y1:=cells_frozen n1 1
      have y2:=cells_frozen n1 2
      have y3:=cells_frozen n1 3
      have y4:=cells_frozen n1 4
      have hge:=HC.out.ge
      have g1:¬D=w.heap.size+1:=by omega
      have g2:¬w.heap.size+1=D:=by omega
      have hfr:∀a,LiveX m a→(val a).ownBlock≠some (w.heap.size+1):=fun a ha e=>by
       have:=((hX.row a ha).lt _ e).1
       omega
      have HB:Hid (Below w.heap.size w wr):=HM.out.2.2.trans (bl.mono (by omega))
      clear hX hp0 hp1 hp2 hp3 hfar
      go_wp2_with fail
      have i1:w.heap.size≤w.heap.size+1:=Nat.le_succ _
      refine bodyPost_ret (v:=.agg #[.int .i64 m.guest,.slice pa0 m.root.length pc0,.slice pa1 m.slots.length pc1,.slice pa2 m.refs.length pc2,.slice pa3 m.snaps.length pc3]) (by simp [results,Tryz.results64,go_sem,z0,z1,z2,z3,z4]) rfl ⟨val,by unfold imgV;rw [HX.out.2.1,HX.out.2.2.1,HX.out.2.2.2.1,HX.out.2.2.2.2],OX.mono (((((HX.out.1.far hfr).far hfr).far hfr).far hfr).far hfr) (by omega),((((HB.out.setCell i1 _).setCell i1 _).setCell i1 _).setCell i1 _).setCell i1 _⟩
theorem tab_small {L:List SlotD}(h:slotsE L=0)(j:Nat)(hj:j<L.length):L[j].2.2.length≤1000:=by
 have ok:=slotsE_all h hj
 generalize L[j]=s at ok ⊢
 obtain⟨k,d,es⟩:=s
 unfold okD slotOK at ok
 dsimp only at ok ⊢
 split at ok
 ·simp at ok;rw [ok.2];decide
 ·split at ok
  ·simp at ok;rw [ok.2];decide
  ·split at ok
   ·simp at ok;have:=ckE_len ok.1;omega
   ·cases ok
theorem ownImage_is {w:World}{v:Value}{m:ImgD}(h:Img w v m)(hE:shapeE m=0):Calls Tryz.prog 64 #[v] w fun r w'=>∃val,r=.returned (imgV m.guest val)∧OX w' w.heap.size val m∧Below w.heap.size w w':=by
 have h':=h
 obtain⟨ra,rc,sa,sc,fa,fc,na,nc,rfl,_⟩:=h.parts
 obtain⟨z1,z2,z3,z4,z5,z6,z7⟩:=shapeE_zero hE
 have hg:=guest_ok hE
 have hro:=root_ok hE
 have h40:=(slotsE_parts z2).2
 refine ownImage_at ra rc sa sc fa fc na nc m w h' (by omega) (by omega) (by omega) (by omega) (tab_small z2) (fun j hj=>?_)
 have:=snap_fit hE (s:=m.snaps[j]) (List.mem_cons_of_mem _ (List.getElem_mem hj))
 omega
theorem row_loose {W:World}{B:Nat}{v:Value}{es:List Int}(h:W.ownsRow B 3 1 v es.length (ints es))(e:es=[]):∃ao cap,v=.slice ao 0 cap:=by
 subst e
 rcases row_form h with ⟨x,_⟩ | ⟨g',cap',x,_⟩
 ·exact⟨_,_,x⟩
 ·exact⟨_,_,x⟩
set_option maxHeartbeats 4000000 in
theorem layX_new (m:ImgD)(gm:Int)(ra:Option Addr)(rn rc:Nat)(sa:Option Addr)(sc:Nat)(fa:Option Addr)(fn fc:Nat)(na:Option Addr)(nn nc:Nat)(k:Int)(d:ByteArray)(ea:Option Addr)(en ec:Nat)(es:List Int)(B:Nat)(val:Nm→Value)(w:World)(hO:OX w B val m)(e0:val .root=.slice ra rn rc)(e1:val .slots=.slice sa m.slots.length sc)(e2:val .refs=.slice fa fn fc)(e3:val .snaps=.slice na nn nc)(hB:B≤w.heap.size)
  (he:w.ownsRow B 3 1 (.slice ea en ec) es.length (ints es)) (hfar:FarX m val (.tab m.slots.length) (.slice ea en ec)) (hle:m.slots.length≤1000) :
  Calls Tryz.prog 66 #[.agg #[.int .i64 gm,.slice ra rn rc,.slice sa m.slots.length sc,.slice fa fn fc,.slice na nn nc],.int .i64 (m.slots.length:Int),.agg #[.int .i64 k,.string d,.slice ea en ec]] w fun r w'=>∃val',r=.returned (imgV gm val')∧OX w' B val' { m with slots:=m.slots ++ [(k,d,es)] }∧Below B w w'∧KeepX w w' m val∧SrcX w m val (.slice ea en ec) { m with slots:=m.slots ++ [(k,d,es)] } val'∧(∀a,a≠.slots→a≠.tab m.slots.length→val' a=val a):=by
 have m0:(((w.alloc (.cells #[.int .i64 gm,.slice ra rn rc,.slice sa m.slots.length sc,.slice fa fn fc,.slice na nn nc] 27)).alloc (.cells #[.int .i64 k,.string d,.slice ea en ec] 61)).alloc (.cells #[.int .i64 0,.slice none 0 0,.slice none 0 0,.slice none 0 0,.slice none 0 0] 27)).heap[w.heap.size]? = some (.cells #[.int .i64 gm,.slice ra rn rc,.slice sa m.slots.length sc,.slice fa fn fc,.slice na nn nc] 27):=cells_alloc (cells_alloc (World.alloc_heap_new _ _) _) _
 have m1:(((w.alloc (.cells #[.int .i64 gm,.slice ra rn rc,.slice sa m.slots.length sc,.slice fa fn fc,.slice na nn nc] 27)).alloc (.cells #[.int .i64 k,.string d,.slice ea en ec] 61)).alloc (.cells #[.int .i64 0,.slice none 0 0,.slice none 0 0,.slice none 0 0,.slice none 0 0] 27)).heap[w.heap.size+1]? = some (.cells #[.int .i64 k,.string d,.slice ea en ec] 61):=cells_alloc (by have:=World.alloc_heap_new (w.alloc (.cells #[.int .i64 gm,.slice ra rn rc,.slice sa m.slots.length sc,.slice fa fn fc,.slice na nn nc] 27)) (.cells #[.int .i64 k,.string d,.slice ea en ec] 61);simpa using this) _
 have m2:(((w.alloc (.cells #[.int .i64 gm,.slice ra rn rc,.slice sa m.slots.length sc,.slice fa fn fc,.slice na nn nc] 27)).alloc (.cells #[.int .i64 k,.string d,.slice ea en ec] 61)).alloc (.cells #[.int .i64 0,.slice none 0 0,.slice none 0 0,.slice none 0 0,.slice none 0 0] 27)).heap[w.heap.size+1+1]? = some (.cells #[.int .i64 0,.slice none 0 0,.slice none 0 0,.slice none 0 0,.slice none 0 0] 27):=by have:=World.alloc_heap_new ((w.alloc (.cells #[.int .i64 gm,.slice ra rn rc,.slice sa m.slots.length sc,.slice fa fn fc,.slice na nn nc] 27)).alloc (.cells #[.int .i64 k,.string d,.slice ea en ec] 61)) (.cells #[.int .i64 0,.slice none 0 0,.slice none 0 0,.slice none 0 0,.slice none 0 0] 27);simpa using this
 obtain⟨c0,c1,c2,c3,c4⟩:=five m0
 go_enter Tryz.func66,Tryz.ntmps66
 have hown:(((w.alloc (.cells #[.int .i64 gm,.slice ra rn rc,.slice sa m.slots.length sc,.slice fa fn fc,.slice na nn nc] 27)).alloc (.cells #[.int .i64 k,.string d,.slice ea en ec] 61)).alloc (.cells #[.int .i64 0,.slice none 0 0,.slice none 0 0,.slice none 0 0,.slice none 0 0] 27)).ownsRow B 61 3 (.slice sa m.slots.length sc) m.slots.length (flatS m.slots (fun j=>val (.tab j))):=by
  have:=hO.row .slots (LiveX.slots m)
  rw [e1] at this
  exact ((this.alloc _).alloc _).alloc _
 go_wp2_with (at_builtin;refine wpList_app3 (by rfl) _ _ 24 61 _ Tryz.underlying24 infoSlot (by rfl) (by rfl) (B:=B) (v:=.slice sa m.slots.length sc) (c0:=.int .i64 k) (c1:=.string d) (c2:=.slice ea en ec) (by rfl) (by rfl) (by rfl) (by rfl) (by rfl) (by simp) hown hle (by simp <;> omega) ?_;intro v1 w1 h1 h2 h3;obtain⟨g1,cap1,hv1⟩:=row_some h1.out;subst hv1;have q0:=(h2.block w.heap.size (by simp <;> omega) (ownX_old hO (LiveX.slots m) e1 (Nat.le_refl _))).trans (cells_alloc m0 _);obtain⟨d0,d1,d2,d3,d4⟩:=five q0;have f2:=cells_frozen q0 2;have q2:=(h2.block (w.heap.size+1+1) (by simp <;> omega) (ownX_old hO (LiveX.slots m) e1 (by omega))).trans (cells_alloc m2 _);obtain⟨z0,z1,z2,z3,z4⟩:=five q2;have y0:=cells_frozen q2 0;have y1:=cells_frozen q2 1;have y2:=cells_frozen q2 2;have y3:=cells_frozen q2 3;have y4:=cells_frozen q2 4)
 have hA:OX ((((w.alloc (.cells #[.int .i64 gm,.slice ra rn rc,.slice sa m.slots.length sc,.slice fa fn fc,.slice na nn nc] 27)).alloc (.cells #[.int .i64 k,.string d,.slice ea en ec] 61)).alloc (.cells #[.int .i64 0,.slice none 0 0,.slice none 0 0,.slice none 0 0,.slice none 0 0] 27)).alloc (.cells #[.int .i64 k,.string d,.slice ea en ec] 61)) B val m:=(((hO.alloc _).alloc _).alloc _).alloc _
 have hz:((((w.alloc (.cells #[.int .i64 gm,.slice ra rn rc,.slice sa m.slots.length sc,.slice fa fn fc,.slice na nn nc] 27)).alloc (.cells #[.int .i64 k,.string d,.slice ea en ec] 61)).alloc (.cells #[.int .i64 0,.slice none 0 0,.slice none 0 0,.slice none 0 0,.slice none 0 0] 27)).alloc (.cells #[.int .i64 k,.string d,.slice ea en ec] 61)).heap.size=w.heap.size+4:=by simp
 have hz0:(((w.alloc (.cells #[.int .i64 gm,.slice ra rn rc,.slice sa m.slots.length sc,.slice fa fn fc,.slice na nn nc] 27)).alloc (.cells #[.int .i64 k,.string d,.slice ea en ec] 61)).alloc (.cells #[.int .i64 0,.slice none 0 0,.slice none 0 0,.slice none 0 0,.slice none 0 0] 27)).heap.size=w.heap.size+3:=by simp
 have h3':(Value.slice (some ⟨g1,0,none⟩) (m.slots.length+1) cap1).ownBlock=(val .slots).ownBlock∨(Value.slice (some ⟨g1,0,none⟩) (m.slots.length+1) cap1).ownBlock=some (w.heap.size+4):=by
  rcases h3.out with e | e
  ·exact .inl (e.trans (by rw [e1]))
  ·refine .inr (e.trans ?_);rw [hz0]
 have hN:=hA.addSlot (k:=k) (d:=d) (fun _=>(((he.alloc _).alloc _).alloc _).alloc _) (row_loose he) (fun _=>hfar) (by rw [e1];exact h2) h1.out (h3'.imp id (fun e g hg=>by rw [e] at hg;cases hg;omega))
 have hev:∀g,w.heap.size≤g→(Value.slice ea en ec).ownBlock≠some g:=fun g hg e=>by have:=(he.lt g e).2;omega
 have hsv:∀g,w.heap.size≤g→g<w.heap.size+4→(Value.slice (some ⟨g1,0,none⟩) (m.slots.length+1) cap1).ownBlock≠some g:=fun g hg hg4 e=>by
  rcases h3' with x | x
  ·rw [x] at e;exact hO.lt hg .slots (LiveX.slots m) e
  ·rw [x] at e;cases e;omega
 have hf1:=addX_far (s:=(k,d,es)) (hO.lt (Nat.le_refl _)) (fun _=>hev _ (Nat.le_refl _)) (hsv w.heap.size (Nat.le_refl _) (by omega))
 have hf2:=addX_far (s:=(k,d,es)) (hO.lt (g:=w.heap.size+1+1) (by omega)) (fun _=>hev _ (by omega)) (hsv (w.heap.size+1+1) (by omega) (by omega))
 have kB:KeepX w w1 m val:=KeepX.grown (((((KeepX.refl w m val).alloc (Nat.le_refl _) _).alloc (by simp) _).alloc (by simp <;> omega) _).alloc (by simp <;> omega) _) (by simp <;> omega) (LiveX.slots m) e1 h2
 have bB:Below B w w1:=by
  refine Below.grown (row:=(Value.slice sa m.slots.length sc).ownBlock) (((((Below.refl B w).alloc hB _).alloc (by simp <;> omega) _).alloc (by simp <;> omega) _).alloc (by simp <;> omega) _) h2 (by simp <;> omega) (fun q e=>?_)
  exact ((hO.row .slots (LiveX.slots m)).lt q (by rw [e1];exact e)).1
 refine bodyPost_ret (v:=.agg #[.int .i64 gm,.slice ra rn rc,.slice (some ⟨g1,0,none⟩) (m.slots.length+1) cap1,.slice fa fn fc,.slice na nn nc]) (by simp [results,Tryz.results66,go_sem,z0,z1,z2,z3,z4]) rfl ⟨_,?_,(((((hN.far hf1).far hf2).far hf2).far hf2).far hf2).far hf2,(((((bB.setCell hB _).setCell (by show _≤w.heap.size+1+1;omega) _).setCell (by show _≤w.heap.size+1+1;omega) _).setCell (by show _≤w.heap.size+1+1;omega) _).setCell (by show _≤w.heap.size+1+1;omega) _).setCell (by show _≤w.heap.size+1+1;omega) _,((((((kB.new (Nat.le_refl _)).new (by omega)).new (by omega)).new (by omega)).new (by omega)).new (by omega)),fun g hg hev' hm=>addX_far hm (fun _=>hev') (fun e=>by rcases h3' with x | x;(rw [x] at e;exact hm .slots (LiveX.slots m) e);(rw [x] at e;have e:w.heap.size+4=g:=Option.some.inj e;omega)),fun a h1 h2=>?_⟩
 ·unfold imgV
  rw [upd_same,upd_other _ _ (by intro x;cases x),upd_other _ _ (by intro x;cases x),upd_other _ _ (by intro x;cases x),upd_other _ _ (by intro x;cases x),upd_other _ _ (by intro x;cases x),upd_other _ _ (by intro x;cases x),e0,e2,e3]
 ·rw [upd_other _ _ h1,upd_other _ _ h2]
set_option maxHeartbeats 4000000 in
theorem layX_old (m:ImgD)(gm:Int)(ra:Option Addr)(rn rc:Nat)(sc:Nat)(fa:Option Addr)(fn fc:Nat)(na:Option Addr)(nn nc:Nat)(k:Int)(d:ByteArray)(ea:Option Addr)(en ec:Nat)(es:List Int)(i:Nat)(g:Nat)(B:Nat)(val:Nm→Value)(w:World)(hO:OX w B val m)(e0:val .root=.slice ra rn rc)(e1:val .slots=.slice (some ⟨g,0,none⟩) m.slots.length sc)(e2:val .refs=.slice fa fn fc)(e3:val .snaps=.slice na nn nc)(hB:B≤w.heap.size)
  (he:w.ownsRow B 3 1 (.slice ea en ec) es.length (ints es)) (hfar:FarX m val (.tab i) (.slice ea en ec)) (hi:i<m.slots.length) :
  Calls Tryz.prog 66 #[.agg #[.int .i64 gm,.slice ra rn rc,.slice (some ⟨g,0,none⟩) m.slots.length sc,.slice fa fn fc,.slice na nn nc],.int .i64 (i:Int),.agg #[.int .i64 k,.string d,.slice ea en ec]] w fun r w'=>∃val',r=.returned (imgV gm val')∧OX w' B val' { m with slots:=m.slots.set i (k,d,es) }∧Below B w w'∧KeepX w w' m val∧SrcX w m val (.slice ea en ec) { m with slots:=m.slots.set i (k,d,es) } val'∧(∀a,a≠.slots→a≠.tab i→val' a=val a):=by
 have m0:(((w.alloc (.cells #[.int .i64 gm,.slice ra rn rc,.slice (some ⟨g,0,none⟩) m.slots.length sc,.slice fa fn fc,.slice na nn nc] 27)).alloc (.cells #[.int .i64 k,.string d,.slice ea en ec] 61)).alloc (.cells #[.int .i64 0,.slice none 0 0,.slice none 0 0,.slice none 0 0,.slice none 0 0] 27)).heap[w.heap.size]? = some (.cells #[.int .i64 gm,.slice ra rn rc,.slice (some ⟨g,0,none⟩) m.slots.length sc,.slice fa fn fc,.slice na nn nc] 27):=cells_alloc (cells_alloc (World.alloc_heap_new _ _) _) _
 have m1:(((w.alloc (.cells #[.int .i64 gm,.slice ra rn rc,.slice (some ⟨g,0,none⟩) m.slots.length sc,.slice fa fn fc,.slice na nn nc] 27)).alloc (.cells #[.int .i64 k,.string d,.slice ea en ec] 61)).alloc (.cells #[.int .i64 0,.slice none 0 0,.slice none 0 0,.slice none 0 0,.slice none 0 0] 27)).heap[w.heap.size+1]? = some (.cells #[.int .i64 k,.string d,.slice ea en ec] 61):=cells_alloc (by have:=World.alloc_heap_new (w.alloc (.cells #[.int .i64 gm,.slice ra rn rc,.slice (some ⟨g,0,none⟩) m.slots.length sc,.slice fa fn fc,.slice na nn nc] 27)) (.cells #[.int .i64 k,.string d,.slice ea en ec] 61);simpa using this) _
 have m2:(((w.alloc (.cells #[.int .i64 gm,.slice ra rn rc,.slice (some ⟨g,0,none⟩) m.slots.length sc,.slice fa fn fc,.slice na nn nc] 27)).alloc (.cells #[.int .i64 k,.string d,.slice ea en ec] 61)).alloc (.cells #[.int .i64 0,.slice none 0 0,.slice none 0 0,.slice none 0 0,.slice none 0 0] 27)).heap[w.heap.size+1+1]? = some (.cells #[.int .i64 0,.slice none 0 0,.slice none 0 0,.slice none 0 0,.slice none 0 0] 27):=by have:=World.alloc_heap_new ((w.alloc (.cells #[.int .i64 gm,.slice ra rn rc,.slice (some ⟨g,0,none⟩) m.slots.length sc,.slice fa fn fc,.slice na nn nc] 27)).alloc (.cells #[.int .i64 k,.string d,.slice ea en ec] 61)) (.cells #[.int .i64 0,.slice none 0 0,.slice none 0 0,.slice none 0 0,.slice none 0 0] 27);simpa using this
 obtain⟨c0,c1,c2,c3,c4⟩:=five m0
 obtain⟨z0,z1,z2,z3,z4⟩:=five m2
 have y0:=cells_frozen m2 0
 have y1:=cells_frozen m2 1
 have y2:=cells_frozen m2 2
 have y3:=cells_frozen m2 3
 have y4:=cells_frozen m2 4
 have hA:OX (((w.alloc (.cells #[.int .i64 gm,.slice ra rn rc,.slice (some ⟨g,0,none⟩) m.slots.length sc,.slice fa fn fc,.slice na nn nc] 27)).alloc (.cells #[.int .i64 k,.string d,.slice ea en ec] 61)).alloc (.cells #[.int .i64 0,.slice none 0 0,.slice none 0 0,.slice none 0 0,.slice none 0 0] 27)) B val m:=((hO.alloc _).alloc _).alloc _
 have hr:=hA.row .slots (LiveX.slots m)
 rw [e1] at hr
 obtain⟨s0,s1,s2⟩:=flatS_get (tv:=fun j=>val (.tab j)) hi
 have t0:(((w.alloc (.cells #[.int .i64 gm,.slice ra rn rc,.slice (some ⟨g,0,none⟩) m.slots.length sc,.slice fa fn fc,.slice na nn nc] 27)).alloc (.cells #[.int .i64 k,.string d,.slice ea en ec] 61)).alloc (.cells #[.int .i64 0,.slice none 0 0,.slice none 0 0,.slice none 0 0,.slice none 0 0] 27)).cell? ⟨g,i*3,none⟩=some _:=(hr.cellAt (i*3) (by show _<_*3;omega)).trans s0
 have t1:(((w.alloc (.cells #[.int .i64 gm,.slice ra rn rc,.slice (some ⟨g,0,none⟩) m.slots.length sc,.slice fa fn fc,.slice na nn nc] 27)).alloc (.cells #[.int .i64 k,.string d,.slice ea en ec] 61)).alloc (.cells #[.int .i64 0,.slice none 0 0,.slice none 0 0,.slice none 0 0,.slice none 0 0] 27)).cell? ⟨g,i*3+1,none⟩=some _:=(hr.cellAt (i*3+1) (by show _<_*3;omega)).trans s1
 have t2:(((w.alloc (.cells #[.int .i64 gm,.slice ra rn rc,.slice (some ⟨g,0,none⟩) m.slots.length sc,.slice fa fn fc,.slice na nn nc] 27)).alloc (.cells #[.int .i64 k,.string d,.slice ea en ec] 61)).alloc (.cells #[.int .i64 0,.slice none 0 0,.slice none 0 0,.slice none 0 0,.slice none 0 0] 27)).cell? ⟨g,i*3+2,none⟩=some _:=(hr.cellAt (i*3+2) (by show _<_*3;omega)).trans s2
 have u0:=hr.frozenAt (i*3)
 have u1:=hr.frozenAt (i*3+1)
 have u2:=hr.frozenAt (i*3+2)
 have hne:((i:Int) == (m.slots.length:Int))=false:=by simp;omega
 have hne':¬(i:Int)=(m.slots.length:Int):=by omega
 have hil:(i:Int)<(m.slots.length:Int):=by omega
 have hgl:g<w.heap.size:=by
  have:=hO.row .slots (LiveX.slots m)
  rw [e1] at this
  exact (this.lt g rfl).2
 have hgB:B≤g:=by
  have:=hO.row .slots (LiveX.slots m)
  rw [e1] at this
  exact (this.lt g rfl).1
 have g1:¬g=w.heap.size:=by omega
 have g2:¬w.heap.size=g:=by omega
 have g3:¬g=w.heap.size+1+1:=by omega
 have g4:¬w.heap.size+1+1=g:=by omega
 go_enter Tryz.func66,Tryz.ntmps66
 go_wp2_with fail
 have hN:=hA.setSlot hi e1 k d es (((he.alloc _).alloc _).alloc _) hfar
 have hev:∀g,w.heap.size≤g→(Value.slice ea en ec).ownBlock≠some g:=fun g hg e=>by have:=(he.lt g e).2;omega
 have hf2:=setX_far (s:=(k,d,es)) (hO.lt (g:=w.heap.size+1+1) (by omega)) (hev (w.heap.size+1+1) (by omega)) (i:=i)
 have kB:KeepX w (((w.alloc (.cells #[.int .i64 gm,.slice ra rn rc,.slice (some ⟨g,0,none⟩) m.slots.length sc,.slice fa fn fc,.slice na nn nc] 27)).alloc (.cells #[.int .i64 k,.string d,.slice ea en ec] 61)).alloc (.cells #[.int .i64 0,.slice none 0 0,.slice none 0 0,.slice none 0 0,.slice none 0 0] 27)) m val:=(((KeepX.refl w m val).alloc (Nat.le_refl _) _).alloc (by simp) _).alloc (by simp <;> omega) _
 have bB:Below B w (((w.alloc (.cells #[.int .i64 gm,.slice ra rn rc,.slice (some ⟨g,0,none⟩) m.slots.length sc,.slice fa fn fc,.slice na nn nc] 27)).alloc (.cells #[.int .i64 k,.string d,.slice ea en ec] 61)).alloc (.cells #[.int .i64 0,.slice none 0 0,.slice none 0 0,.slice none 0 0,.slice none 0 0] 27)):=(((Below.refl B w).alloc hB _).alloc (by simp <;> omega) _).alloc (by simp <;> omega) _
 refine bodyPost_ret (v:=.agg #[.int .i64 gm,.slice ra rn rc,.slice (some ⟨g,0,none⟩) m.slots.length sc,.slice fa fn fc,.slice na nn nc]) (by simp [results,Tryz.results66,go_sem,z0,z1,z2,z3,z4]) rfl ⟨_,?_,((((hN.far hf2).far hf2).far hf2).far hf2).far hf2,(((((((bB.setCell hgB _).setCell hgB _).setCell hgB _).setCell (by show _≤w.heap.size+1+1;omega) _).setCell (by show _≤w.heap.size+1+1;omega) _).setCell (by show _≤w.heap.size+1+1;omega) _).setCell (by show _≤w.heap.size+1+1;omega) _).setCell (by show _≤w.heap.size+1+1;omega) _,((((((((kB.own (LiveX.slots m) e1).own (LiveX.slots m) e1).own (LiveX.slots m) e1).new (by omega)).new (by omega)).new (by omega)).new (by omega)).new (by omega)),fun _ _ hev' hm=>setX_far hm hev',fun a _ h2=>upd_other _ _ h2⟩
 unfold imgV
 rw [upd_other _ _ (by intro x;cases x),upd_other _ _ (by intro x;cases x),upd_other _ _ (by intro x;cases x),upd_other _ _ (by intro x;cases x),e0,e1,e2,e3]
theorem layX_is {m:ImgD}(gm:Int){k:Int}{d:ByteArray}{ev:Value}{es:List Int}{B:Nat}{val:Nm→Value}{w:World}(hO:OX w B val m)(hB:B≤w.heap.size){i:Nat}(hi:i≤m.slots.length)(hle:m.slots.length≤1000)
  (he:w.ownsRow B 3 1 ev es.length (ints es)) (hfar:FarX m val (.tab i) ev) :
  Calls Tryz.prog 66 #[imgV gm val,.int .i64 (i:Int),.agg #[.int .i64 k,.string d,ev]] w fun r w'=>∃val',r=.returned (imgV gm val')∧OX w' B val' { m with slots:=layS m.slots i (k,d,es) }∧Below B w w'∧KeepX w w' m val∧SrcX w m val ev { m with slots:=layS m.slots i (k,d,es) } val'∧(∀a,a≠.slots→a≠.tab i→val' a=val a):=by
 obtain⟨ra,rc,e0,_⟩:=hO.forms .root (LiveX.root m)
 obtain⟨sa,sc,e1,hs⟩:=hO.forms .slots (LiveX.slots m)
 obtain⟨fa,fc,e2,_⟩:=hO.forms .refs (LiveX.refs m)
 obtain⟨na,nc,e3,_⟩:=hO.forms .snaps (LiveX.snaps m)
 have hev:∃ea en ec,ev=.slice ea en ec:=by
  rcases row_form he with ⟨e,_⟩ | ⟨g,cap,e,_⟩
  ·exact⟨_,_,_,e⟩
  ·exact⟨_,_,_,e⟩
 obtain⟨ea,en,ec,rfl⟩:=hev
 have e1:val .slots=.slice sa m.slots.length sc:=e1
 unfold imgV
 rw [e0,e1,e2,e3]
 unfold layS
 by_cases e:i=m.slots.length
 ·subst e
  rw [if_pos rfl]
  exact layX_new m gm ra _ rc sa sc fa _ fc na _ nc k d ea en ec es B val w hO e0 e1 e2 e3 hB he hfar hle
 ·rw [if_neg e]
  obtain⟨g,rfl⟩:=hs (by show 0<m.slots.length;omega)
  exact layX_old m gm ra _ rc sc fa _ fc na _ nc k d ea en ec es i g B val w hO e0 e1 e2 e3 hB he hfar (by omega)
end Go.Proofs.YtehleeibgkpjmafGreat
