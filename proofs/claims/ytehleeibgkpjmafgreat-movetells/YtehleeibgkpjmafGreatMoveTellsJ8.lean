/- Texts joined: TakL, TakK, First, With, WrI, WrJ, WrK, WrL, WrS, WrT, WrM, WrN. -/
import Derived.Test.YtehleeibgkpjmafGreatMoveTellsJ7
import Derived.Test.YtehleeibgkpjmafGreatMoveTellsJ1
import Derived.Laws.CopyOwn
import Derived.Test.YtehleeibgkpjmafGreatMoveTellsJ5
import Derived.Deep.RegionHeld
set_option linter.unusedVariables false
set_option linter.unusedSimpArgs false
namespace Go.Proofs.YtehleeibgkpjmafGreat
open Go.RowKit Go.Shelf
set_option maxRecDepth 20000
theorem row_blk {W W':World}{B n size:Nat}{e:TypeId}{v:Value}{xs:List Value}(h:W.ownsRow B e size v n xs)(hb:∀g,v.ownBlock=some g→W'.heap[g]? = W.heap[g]?):W'.ownsRow B e size v n xs:=by
 refine⟨h.1,?_⟩
 rcases h.2 with hn | ⟨g,cap,cur,hv,hb',hg,rest⟩
 ·exact .inl hn
 ·exact .inr ⟨g,cap,cur,hv,hb',(hb g (by rw [hv];rfl)).trans hg,rest⟩
theorem ints_snoc (l:List Int)(x:Int):ints (l ++ [x])=ints l ++ [.int .i64 x]:=by simp [ints]
theorem DTo.both {w w1 W:World}{B D:Nat}{m:ImgD}{val:Nm→Value}{ev sv fv:Value}(h:DTo w w1 B D m val ev m val)(hr:m.refs.length=m.slots.length)(TK:TkI w1 B (val .slots) (val .refs) m.slots.length (flatS m.slots (fun j=>val (.tab j))) (ints m.refs) sv fv true true W) :
  DTo w ((W.setCell ⟨D,2,none⟩ sv).setCell ⟨D,3,none⟩ fv) B D m val ev { m with slots:=m.slots ++ [(0,⟨#[]⟩,[])],refs:=m.refs ++ [0] } (upd (upd (upd val (.tab m.slots.length) nilV) .slots sv) .refs fv):=by
 have hDw:=h.dk.lt
 have hv:∀b,b≠.slots→b≠.refs→b≠.tab m.slots.length→upd (upd (upd val (.tab m.slots.length) nilV) .slots sv) .refs fv b=val b:=fun b h1 h2 h3=>by rw [upd_other _ _ h2,upd_other _ _ h1,upd_other _ _ h3]
 have hvs:upd (upd (upd val (.tab m.slots.length) nilV) .slots sv) .refs fv .slots=sv:=by rw [upd_other _ _ (by intro x;cases x),upd_same]
 have hvf:upd (upd (upd val (.tab m.slots.length) nilV) .slots sv) .refs fv .refs=fv:=upd_same _ _ _
 have hvt:upd (upd (upd val (.tab m.slots.length) nilV) .slots sv) .refs fv (.tab m.slots.length)=nilV:=by rw [upd_other _ _ (by intro x;cases x),upd_other _ _ (by intro x;cases x),upd_same]
 have hcase:∀b,Live { m with slots:=m.slots ++ [(0,⟨#[]⟩,[])],refs:=m.refs ++ [0] } b→b=.slots∨b=.refs∨b=.tab m.slots.length∨(Live m b∧b≠.slots∧b≠.refs∧b≠.tab m.slots.length):=fun b hb=>by
  rcases hb.cases with rfl | rfl | rfl | rfl | ⟨j,rfl,hj⟩ | ⟨j,rfl,hj⟩
  ·exact .inr (.inr (.inr ⟨Live.root m,(by intro x;cases x),(by intro x;cases x),(by intro x;cases x)⟩))
  ·exact .inl rfl
  ·exact .inr (.inl rfl)
  ·exact .inr (.inr (.inr ⟨Live.snaps m,(by intro x;cases x),(by intro x;cases x),(by intro x;cases x)⟩))
  ·by_cases e:j=m.slots.length
   ·subst e;exact .inr (.inr (.inl rfl))
   ·have hj:j<(m.slots ++ [((0:Int),(⟨#[]⟩:ByteArray),([]:List Int))]).length:=hj
    rw [List.length_append,List.length_singleton] at hj
    exact .inr (.inr (.inr ⟨Live.tab (by omega),(by intro x;cases x),(by intro x;cases x),(by intro x;injection x with _ x;exact e x)⟩))
  ·exact .inr (.inr (.inr ⟨Live.sr hj,(by intro x;cases x),(by intro x;cases x),(by intro x;cases x)⟩))
 have hold:∀b,Live m b→b≠.slots→b≠.refs→∀g,(val b).ownBlock=some g→g<w1.heap.size∧(val .slots).ownBlock≠some g∧(val .refs).ownBlock≠some g:=fun b hb h1 h2 g e=>
  ⟨((h.dk.own.row b hb).lt g e).2,h.dk.own.apart b .slots hb (Live.slots m) h1 g e,h.dk.own.apart b .refs hb (Live.refs m) h2 g e⟩
 have hnotS:∀q,q<w1.heap.size→(val .slots).ownBlock≠some q→sv.ownBlock≠some q:=fun q hq hn e=>by
  rcases TK.sb with x | x
  ·exact hn (x.symm.trans e)
  ·have:=x q e;omega
 have hnotF:∀q,q<w1.heap.size→(val .refs).ownBlock≠some q→fv.ownBlock≠some q:=fun q hq hn e=>by
  rcases TK.fb with x | x
  ·exact hn (x.symm.trans e)
  ·have:=x q e;omega
 have hDs:=h.dk.far .slots (Live.slots m)
 have hDf:=h.dk.far .refs (Live.refs m)
 have hfarD:∀b,Live { m with slots:=m.slots ++ [(0,⟨#[]⟩,[])],refs:=m.refs ++ [0] } b→(upd (upd (upd val (.tab m.slots.length) nilV) .slots sv) .refs fv b).ownBlock≠some D:=fun b hb=>by
  rcases hcase b hb with rfl | rfl | rfl | ⟨hl,h1,h2,h3⟩
  ·rw [hvs];exact hnotS D hDw hDs
  ·rw [hvf];exact hnotF D hDw hDf
  ·rw [hvt];exact nilV_own _
  ·rw [hv b h1 h2 h3];exact h.dk.far b hl
 have hOW:OI W B (upd (upd (upd val (.tab m.slots.length) nilV) .slots sv) .refs fv) { m with slots:=m.slots ++ [(0,⟨#[]⟩,[])],refs:=m.refs ++ [0] }:=by
  refine⟨fun b hb=>?_,fun b c hb hc hne q hq=>?_⟩
  ·rcases hcase b hb with rfl | rfl | rfl | ⟨hl,h1,h2,h3⟩
   ·rw [hvs]
    have e1:=flatS_snoc m.slots (fun j=>val (.tab j)) (fun j=>upd (upd (upd val (.tab m.slots.length) nilV) .slots sv) .refs fv (.tab j)) (0,⟨#[]⟩,[]) (fun j hj=>hv _ (by intro x;cases x) (by intro x;cases x) (by intro x;injection x with _ x;omega))
    rw [hvt] at e1
    have e2:rowN { m with slots:=m.slots ++ [(0,⟨#[]⟩,[])],refs:=m.refs ++ [0] } .slots=m.slots.length+1:=by show (m.slots ++ [_]).length=_;simp
    have e1:rowV { m with slots:=m.slots ++ [(0,⟨#[]⟩,[])],refs:=m.refs ++ [0] } (upd (upd (upd val (.tab m.slots.length) nilV) .slots sv) .refs fv) .slots=flatS m.slots (fun j=>val (.tab j)) ++ z3:=e1
    rw [e1,e2]
    exact TK.s
   ·rw [hvf]
    have e1:rowV { m with slots:=m.slots ++ [(0,⟨#[]⟩,[])],refs:=m.refs ++ [0] } (upd (upd (upd val (.tab m.slots.length) nilV) .slots sv) .refs fv) .refs=ints m.refs ++ z1:=ints_snoc _ _
    have e2:rowN { m with slots:=m.slots ++ [(0,⟨#[]⟩,[])],refs:=m.refs ++ [0] } .refs=m.slots.length+1:=by show (m.refs ++ [_]).length=_;simp [hr]
    rw [e1,e2]
    exact TK.r
   ·rw [hvt]
    have e0:(m.slots ++ [((0:Int),(⟨#[]⟩:ByteArray),([]:List Int))]).getD m.slots.length default=(0,⟨#[]⟩,[]):=by simp [List.getD]
    have e1:rowV { m with slots:=m.slots ++ [(0,⟨#[]⟩,[])],refs:=m.refs ++ [0] } (upd (upd (upd val (.tab m.slots.length) nilV) .slots sv) .refs fv) (.tab m.slots.length)=[]:=by
     show ints ((m.slots ++ [((0:Int),(⟨#[]⟩:ByteArray),([]:List Int))]).getD m.slots.length default).2.2=_
     rw [e0];rfl
    have e2:rowN { m with slots:=m.slots ++ [(0,⟨#[]⟩,[])],refs:=m.refs ++ [0] } (.tab m.slots.length)=0:=by
     show ((m.slots ++ [((0:Int),(⟨#[]⟩:ByteArray),([]:List Int))]).getD m.slots.length default).2.2.length=_
     rw [e0];rfl
    rw [e1,e2]
    exact World.ownsRow_nil _ _ _ _
   ·rw [hv b h1 h2 h3]
    have e1:rowV { m with slots:=m.slots ++ [(0,⟨#[]⟩,[])],refs:=m.refs ++ [0] } (upd (upd (upd val (.tab m.slots.length) nilV) .slots sv) .refs fv) b=rowV m val b∧rowN { m with slots:=m.slots ++ [(0,⟨#[]⟩,[])],refs:=m.refs ++ [0] } b=rowN m b:=by
     rcases hl.cases with rfl | rfl | rfl | rfl | ⟨j,rfl,hj⟩ | ⟨j,rfl,hj⟩
     ·exact⟨rfl,rfl⟩
     ·exact absurd rfl h1
     ·exact absurd rfl h2
     ·refine⟨?_,rfl⟩
      exact flatN_ext (fun j _=>hv (.sr j) (by intro x;cases x) (by intro x;cases x) (by intro x;cases x))
     ·have e:(m.slots ++ [((0:Int),(⟨#[]⟩:ByteArray),([]:List Int))]).getD j default=m.slots.getD j default:=by simp [List.getD,List.getElem?_append,hj]
      constructor
      ·show ints ((m.slots ++ [((0:Int),(⟨#[]⟩:ByteArray),([]:List Int))]).getD j default).2.2=_
       rw [e];rfl
      ·show ((m.slots ++ [((0:Int),(⟨#[]⟩:ByteArray),([]:List Int))]).getD j default).2.2.length=_
       rw [e];rfl
     ·exact⟨rfl,rfl⟩
    rw [e1.1,e1.2]
    exact row_blk (h.dk.own.row b hl) (fun g e=>by obtain⟨x1,x2,x3⟩:=hold b hl h1 h2 g e;exact TK.keep g x1 x2 x3)
  ·rcases hcase b hb with rfl | rfl | rfl | ⟨hl,h1,h2,h3⟩
   ·rw [hvs] at hq
    rcases hcase c hc with rfl | rfl | rfl | ⟨kl,k1,k2,k3⟩
    ·exact absurd rfl hne
    ·rw [hvf];exact TK.ap q hq
    ·rw [hvt];exact nilV_own _
    ·rw [hv c k1 k2 k3]
     intro y
     obtain⟨x1,x2,_⟩:=hold c kl k1 k2 q y
     exact hnotS q x1 x2 hq
   ·rw [hvf] at hq
    rcases hcase c hc with rfl | rfl | rfl | ⟨kl,k1,k2,k3⟩
    ·rw [hvs];exact fun y=>TK.ap q y hq
    ·exact absurd rfl hne
    ·rw [hvt];exact nilV_own _
    ·rw [hv c k1 k2 k3]
     intro y
     obtain⟨x1,_,x3⟩:=hold c kl k1 k2 q y
     exact hnotF q x1 x3 hq
   ·rw [hvt] at hq;cases hq
   ·rw [hv b h1 h2 h3] at hq
    obtain⟨x1,x2,x3⟩:=hold b hl h1 h2 q hq
    rcases hcase c hc with rfl | rfl | rfl | ⟨kl,k1,k2,k3⟩
    ·rw [hvs];exact hnotS q x1 x2
    ·rw [hvf];exact hnotF q x1 x3
    ·rw [hvt];exact nilV_own _
    ·rw [hv c k1 k2 k3];exact h.dk.own.apart b c hl kl hne q hq
 have hbox:W.heap[D]? = some (.cells #[.int .i64 m.guest,val .root,val .slots,val .refs,val .snaps] 70):=(TK.keep D hDw hDs hDf).trans h.dk.box
 refine⟨⟨(hOW.far hfarD).far hfarD,?_,h.dk.ge,hfarD⟩,((h.bel.trans TK.bel).setCell h.dk.ge _).setCell h.dk.ge _,fun q hq hqD hev hm=>?_,fun q hq hev hm b hb=>?_⟩
 ·rw [hvs,hvf,hv .root (by intro x;cases x) (by intro x;cases x) (by intro x;cases x),hv .snaps (by intro x;cases x) (by intro x;cases x) (by intro x;cases x)]
  exact cells_set (cells_set hbox 2 _) 3 _
 ·have hq1:q<w1.heap.size:=Nat.lt_of_lt_of_le hq h.bel.size
  have hs:=h.src q hq hev hm
  exact (cells_other (cells_other rfl hqD _ _) hqD _ _).trans ((TK.keep q hq1 (hs .slots (Live.slots m)) (hs .refs (Live.refs m))).trans (h.keep q hq hqD hev hm))
 ·have hq1:q<w1.heap.size:=Nat.lt_of_lt_of_le hq h.bel.size
  have hs:=h.src q hq hev hm
  rcases hcase b hb with rfl | rfl | rfl | ⟨hl,h1,h2,h3⟩
  ·rw [hvs];exact hnotS q hq1 (hs .slots (Live.slots m))
  ·rw [hvf];exact hnotF q hq1 (hs .refs (Live.refs m))
  ·rw [hvt];exact nilV_own _
  ·rw [hv b h1 h2 h3];exact hs b hl
theorem both_far {w1 W:World}{B:Nat}{m:ImgD}{val:Nm→Value}{ev sv fv:Value}{n:Nat}{xs ys:List Value}{cS cR:Bool}(TK:TkI w1 B (val .slots) (val .refs) n xs ys sv fv cS cR W)(hfar:Far m val (.tab m.slots.length) ev)(hlt:∀g,ev.ownBlock=some g→g<w1.heap.size) :
  Far { m with slots:=m.slots ++ [(0,⟨#[]⟩,[])],refs:=m.refs ++ [0] } (upd (upd (upd val (.tab m.slots.length) nilV) .slots sv) .refs fv) (.tab m.slots.length) ev:=fun b hb hne g hg=>by
 have hg1:=hlt g hg
 by_cases h2:b=.refs
 ·subst h2
  rw [upd_same]
  intro e
  rcases TK.fb with x | x
  ·exact hfar .refs (Live.refs m) (by intro y;cases y) g hg (x.symm.trans e)
  ·have:=x g e;omega
 rw [upd_other _ _ h2]
 by_cases h1:b=.slots
 ·subst h1
  rw [upd_same]
  intro e
  rcases TK.sb with x | x
  ·exact hfar .slots (Live.slots m) (by intro y;cases y) g hg (x.symm.trans e)
  ·have:=x g e;omega
 rw [upd_other _ _ h1,upd_other _ _ hne]
 refine hfar b ?_ hne g hg
 rcases hb.cases with rfl | rfl | rfl | rfl | ⟨j,rfl,hj⟩ | ⟨j,rfl,hj⟩
 ·exact Live.root m
 ·exact absurd rfl h1
 ·exact absurd rfl h2
 ·exact Live.snaps m
 ·have hj:j<(m.slots ++ [((0:Int),(⟨#[]⟩:ByteArray),([]:List Int))]).length:=hj
  rw [List.length_append,List.length_singleton] at hj
  refine Live.tab ?_
  rcases Nat.lt_or_ge j m.slots.length with h | h
  ·exact h
  ·exact absurd (by rw [show j=m.slots.length by omega]) hne
 ·exact Live.sr hj
theorem Hid_mk {p:Prop}(h:p):Hid p:=h
theorem root_cell' {W:World}{B g cap:Nat}{l:List Int}(h:W.ownsRow B 3 1 (.slice (some ⟨g,0,none⟩) l.length cap) l.length (ints l)){k:Nat}(hk:k<l.length):W.cell? ⟨g,k,none⟩=some (.int .i64 (l.getD k 0)):=by
 refine (h.cellAt k (by omega)).trans ?_
 unfold ints
 rw [List.getElem?_map,List.getElem?_eq_getElem hk]
 simp [List.getD,hk]
theorem hn_a (W:World)(A:Array Value)(t:TypeId):(W.alloc (.cells A t)).heap[W.heap.size]? = some (.cells A t):=World.alloc_heap_new _ _
theorem hn_b (W:World)(A:Array Value)(t:TypeId)(o:Obj):((W.alloc (.cells A t)).alloc o).heap[W.heap.size]? = some (.cells A t):=cells_alloc (World.alloc_heap_new _ _) _
theorem hn_c (W:World)(A:Array Value)(t:TypeId)(o:Obj):((W.alloc o).alloc (.cells A t)).heap[W.heap.size+1]? = some (.cells A t):=by have:=World.alloc_heap_new (W.alloc o) (.cells A t);simpa using this
def TkR (w1:World) (B D:Nat) (sv0 fv0:Value) (m:ImgD) (val:Nm→Value) (wx:World):Prop:=∃ (pa:Option Addr) (pc:Nat) (qa:Option Addr) (qc:Nat) (W:World),TkI w1 B sv0 fv0 m.slots.length (flatS m.slots (fun j=>val (.tab j))) (ints m.refs) (.slice pa (m.slots.length+1) pc) (.slice qa (m.slots.length+1) qc) true true W∧wx=(W.setCell ⟨D,2,none⟩ (.slice pa (m.slots.length+1) pc)).setCell ⟨D,3,none⟩ (.slice qa (m.slots.length+1) qc)
set_option maxHeartbeats 8000000 in
theorem take_new (m:ImgD)(sg sc:Nat)(fg fc:Nat)(k:Int)(d:ByteArray)(ea:Option Addr)(en ec:Nat)(es:List Int)(B D:Nat)(val:Nm→Value)(w:World)(hK:DK w B D val m)(hB:B≤w.heap.size)(e1:val .slots=.slice (some ⟨sg,0,none⟩) m.slots.length sc)(e2:val .refs=.slice (some ⟨fg,0,none⟩) m.slots.length fc)(hs:slotsE m.slots=0)(hg:grabN m.slots=m.slots.length)(h40:m.slots.length<40)(hrl:m.refs.length=m.slots.length)
  (he:w.ownsRow B 3 1 (.slice ea en ec) es.length (ints es)) (hfar:Far m val (.tab m.slots.length) (.slice ea en ec)) (hD:(Value.slice ea en ec).ownBlock≠some D) :
  Calls Tryz.prog 61 #[.pointer (some ⟨D,0,none⟩),.agg #[.int .i64 k,.string d,.slice ea en ec]] w fun r w'=>r=.returned (.int .i64 (m.slots.length:Int))∧∃val',DTo w w' B D m val (.slice ea en ec) { m with slots:=m.slots ++ [(k,d,es)],refs:=m.refs ++ [1] } val'∧val' .root=val .root:=by
 have hK1:DK (w.alloc (.cells #[.int .i64 k,.string d,.slice ea en ec] 61)) B D val m:=hK.alloc _
 obtain⟨d0,d1,d2,d3,d4⟩:=hK1.five
 rw [e1] at d2
 rw [e2] at d3
 have hcall:=grab_is hK1.own.img.four.2.1 hs hg
 rw [e1] at hcall
 have g40:¬m.slots.length=40:=by omega
 rw [if_neg g40,if_neg g40] at hcall
 have b0:Below w.heap.size w (w.alloc (.cells #[.int .i64 k,.string d,.slice ea en ec] 61)):=(Below.refl _ _).alloc (Nat.le_refl _) _
 have mS:(w.alloc (.cells #[.int .i64 k,.string d,.slice ea en ec] 61)).heap[w.heap.size]? = some (.cells #[.int .i64 k,.string d,.slice ea en ec] 61):=World.alloc_heap_new _ _
 have hDl:=hK.lt
 clear hg hs g40
 go_enter Tryz.func61,Tryz.ntmps61
 go_upto_region 5 with (go_at_call 94;refine hcall.mono ?_;rintro e w1 ⟨rfl,b1⟩;have hK2:=hK1.below b1;obtain⟨i0,i1,i2,i3,i4⟩:=hK2.five;rw [e1] at i2;rw [e2] at i3;have mS1:=cells_below mS b1 (by simp);obtain⟨s0,s1,s2⟩:=three mS1)
 have hz1:B≤w1.heap.size:=Nat.le_trans hB (Nat.le_trans b0.size b1.size)
 have hrr:=hK2.own.row .refs (Live.refs m)
 have hrs:=hK2.own.row .slots (Live.slots m)
 have TK:Hid (TkI w1 B (.slice (some ⟨sg,0,none⟩) m.slots.length sc) (.slice (some ⟨fg,0,none⟩) m.slots.length fc) m.slots.length (flatS m.slots (fun j=>val (.tab j))) (ints m.refs) (.slice (some ⟨sg,0,none⟩) m.slots.length sc) (.slice (some ⟨fg,0,none⟩) m.slots.length fc) false false w1):=by
  refine⟨Below.refl _ _,hz1,?_,?_,fun _ _ _ _=>rfl,.inl rfl,.inl rfl,?_⟩
  ·rw [e1] at hrs;exact hrs
  ·rw [e2] at hrr
   have hrr:w1.ownsRow B 3 1 (.slice (some ⟨fg,0,none⟩) m.slots.length fc) m.refs.length (ints m.refs):=hrr
   rw [hrl] at hrr
   exact hrr
  ·intro g e
   have:=hK2.own.apart .slots .refs (Live.slots m) (Live.refs m) (by intro x;cases x) g (by rw [e1];exact e)
   rw [e2] at this
   exact this
 have hn40:m.slots.length≤40:=by omega
 have hDw:D<w1.heap.size:=hK2.lt
 have nDS:(Value.slice (some ⟨sg,0,none⟩) m.slots.length sc).ownBlock≠some D:=by have:=hK.far .slots (Live.slots m);rw [e1] at this;exact this
 have nDF:(Value.slice (some ⟨fg,0,none⟩) m.slots.length fc).ownBlock≠some D:=by have:=hK.far .refs (Live.refs m);rw [e2] at this;exact this
 have hbD:=hK2.box
 rw [e1,e2] at hbD
 have hDc:∀sv fv cS cR W,Hid (TkI w1 B (.slice (some ⟨sg,0,none⟩) m.slots.length sc) (.slice (some ⟨fg,0,none⟩) m.slots.length fc) m.slots.length (flatS m.slots (fun j=>val (.tab j))) (ints m.refs) sv fv cS cR W)→W.cell? ⟨D,2,none⟩=some (.slice (some ⟨sg,0,none⟩) m.slots.length sc)∧W.cell? ⟨D,3,none⟩=some (.slice (some ⟨fg,0,none⟩) m.slots.length fc)∧W.frozen? ⟨D,2,none⟩=false∧W.frozen? ⟨D,3,none⟩=false∧(W.alloc (.cells #[.int .i64 0] 3)).cell? ⟨D,2,none⟩=some (.slice (some ⟨sg,0,none⟩) m.slots.length sc)∧(W.alloc (.cells #[.int .i64 0] 3)).cell? ⟨D,3,none⟩=some (.slice (some ⟨fg,0,none⟩) m.slots.length fc)∧(W.alloc (.cells #[.int .i64 0,.string ⟨#[]⟩,.slice none 0 0] 61)).cell? ⟨D,2,none⟩=some (.slice (some ⟨sg,0,none⟩) m.slots.length sc)∧(W.alloc (.cells #[.int .i64 0,.string ⟨#[]⟩,.slice none 0 0] 61)).cell? ⟨D,3,none⟩=some (.slice (some ⟨fg,0,none⟩) m.slots.length fc):=fun sv fv cS cR W h=>by
  have hb:=(h.out.keep D hDw nDS nDF).trans hbD
  exact⟨(five hb).2.2.1,(five hb).2.2.2.1,cells_frozen hb 2,cells_frozen hb 3,(five (cells_alloc hb _)).2.2.1,(five (cells_alloc hb _)).2.2.2.1,(five (cells_alloc hb _)).2.2.1,(five (cells_alloc hb _)).2.2.2.1⟩
 have v02:(w1.alloc (.cells #[.int .i64 0,.string ⟨#[]⟩,.slice none 0 0] 61)).cell? ⟨D,2,none⟩=some (.slice (some ⟨sg,0,none⟩) m.slots.length sc):=(five (cells_alloc hbD _)).2.2.1
 have v03:(w1.alloc (.cells #[.int .i64 0,.string ⟨#[]⟩,.slice none 0 0] 61)).cell? ⟨D,3,none⟩=some (.slice (some ⟨fg,0,none⟩) m.slots.length fc):=(five (cells_alloc hbD _)).2.2.2.1
 have v12:(w1.alloc (.cells #[.int .i64 0] 3)).cell? ⟨D,2,none⟩=some (.slice (some ⟨sg,0,none⟩) m.slots.length sc):=(five (cells_alloc hbD _)).2.2.1
 have v13:(w1.alloc (.cells #[.int .i64 0] 3)).cell? ⟨D,3,none⟩=some (.slice (some ⟨fg,0,none⟩) m.slots.length fc):=(five (cells_alloc hbD _)).2.2.2.1
 have v22:((w1.alloc (.cells #[.int .i64 0,.string ⟨#[]⟩,.slice none 0 0] 61)).alloc (.cells #[.int .i64 0] 3)).cell? ⟨D,2,none⟩=some (.slice (some ⟨sg,0,none⟩) m.slots.length sc):=(five (cells_alloc (cells_alloc hbD _) _)).2.2.1
 have v23:((w1.alloc (.cells #[.int .i64 0,.string ⟨#[]⟩,.slice none 0 0] 61)).alloc (.cells #[.int .i64 0] 3)).cell? ⟨D,3,none⟩=some (.slice (some ⟨fg,0,none⟩) m.slots.length fc):=(five (cells_alloc (cells_alloc hbD _) _)).2.2.2.1
 have v32:((w1.alloc (.cells #[.int .i64 0] 3)).alloc (.cells #[.int .i64 0,.string ⟨#[]⟩,.slice none 0 0] 61)).cell? ⟨D,2,none⟩=some (.slice (some ⟨sg,0,none⟩) m.slots.length sc):=(five (cells_alloc (cells_alloc hbD _) _)).2.2.1
 have v33:((w1.alloc (.cells #[.int .i64 0] 3)).alloc (.cells #[.int .i64 0,.string ⟨#[]⟩,.slice none 0 0] 61)).cell? ⟨D,3,none⟩=some (.slice (some ⟨fg,0,none⟩) m.slots.length fc):=(five (cells_alloc (cells_alloc hbD _) _)).2.2.2.1
 go_cut [] from 7 (fun wx=>TkR w1 B D (.slice (some ⟨sg,0,none⟩) m.slots.length sc) (.slice (some ⟨fg,0,none⟩) m.slots.length fc) m val wx)
 case first=>
  go_region_law (first
   | (refine step_tkS (by rfl) _ _ (by rfl) TKr.out hn40 (by rfl) (by rfl) ?hN ?_;(case hN=>(first | exact KPr.out _ _ _ (hn_b _ _ _ _) (by decide) | exact KPr.out _ _ _ (hn_c _ _ _ _) (by decide) | exact KPr.out _ _ _ (hn_a _ _ _) (by decide)));intro sv2 w3 TKs KPs;obtain⟨pa,pc,rfl⟩:=TKs.out.sForm;obtain⟨x2,x3,x4,x5,x6,x7,x8,x9⟩:=hDc _ _ _ _ _ TKs)
   | (refine step_tkS (by rfl) _ _ (by rfl) (TKr.out.alloc _) hn40 (by rfl) (by rfl) ?hN ?_;(case hN=>(exact hn_a _ _ _));intro sv2 w3 TKs KPs;obtain⟨pa,pc,rfl⟩:=TKs.out.sForm;obtain⟨x2,x3,x4,x5,x6,x7,x8,x9⟩:=hDc _ _ _ _ _ TKs)
   | (refine step_tkR (by rfl) _ _ (by rfl) TKs.out hn40 (by rfl) (by rfl) ?hN ?_;(case hN=>(first | exact KPs.out _ _ _ (hn_b _ _ _ _) (by decide) | exact KPs.out _ _ _ (hn_c _ _ _ _) (by decide) | exact KPs.out _ _ _ (hn_a _ _ _) (by decide)));intro fv2 w3 TKr KPr;obtain⟨qa,qc,rfl⟩:=TKr.out.rForm;obtain⟨x2,x3,x4,x5,x6,x7,x8,x9⟩:=hDc _ _ _ _ _ TKr)
   | (refine step_tkR (by rfl) _ _ (by rfl) (TKs.out.alloc _) hn40 (by rfl) (by rfl) ?hN ?_;(case hN=>(exact hn_a _ _ _));intro fv2 w3 TKr KPr;obtain⟨qa,qc,rfl⟩:=TKr.out.rForm;obtain⟨x2,x3,x4,x5,x6,x7,x8,x9⟩:=hDc _ _ _ _ _ TKr)
   | (refine step_tkS (by rfl) _ _ (by rfl) ((TK.out.alloc _).drew) hn40 (by rfl) (by rfl) ?hN ?_;(case hN=>(first | exact hn_a _ _ _));intro sv1 w2 TKs KPs;obtain⟨pa,pc,rfl⟩:=TKs.out.sForm;obtain⟨y2,y3,y4,y5,y6,y7,y8,y9⟩:=hDc _ _ _ _ _ TKs)
   | (refine step_tkS (by rfl) _ _ (by rfl) (((TK.out.alloc _).alloc _).drew) hn40 (by rfl) (by rfl) ?hN ?_;(case hN=>(first | exact hn_b _ _ _ _ | exact hn_c _ _ _ _));intro sv1 w2 TKs KPs;obtain⟨pa,pc,rfl⟩:=TKs.out.sForm;obtain⟨y2,y3,y4,y5,y6,y7,y8,y9⟩:=hDc _ _ _ _ _ TKs)
   | (refine step_tkR (by rfl) _ _ (by rfl) ((TK.out.alloc _).drew) hn40 (by rfl) (by rfl) ?hN ?_;(case hN=>(first | exact hn_a _ _ _));intro fv1 w2 TKr KPr;obtain⟨qa,qc,rfl⟩:=TKr.out.rForm;obtain⟨y2,y3,y4,y5,y6,y7,y8,y9⟩:=hDc _ _ _ _ _ TKr)
   | (refine step_tkR (by rfl) _ _ (by rfl) (((TK.out.alloc _).alloc _).drew) hn40 (by rfl) (by rfl) ?hN ?_;(case hN=>(first | exact hn_b _ _ _ _ | exact hn_c _ _ _ _));intro fv1 w2 TKr KPr;obtain⟨qa,qc,rfl⟩:=TKr.out.rForm;obtain⟨y2,y3,y4,y5,y6,y7,y8,y9⟩:=hDc _ _ _ _ _ TKr))
  all_goals
   go_wp2_with fail
   go_meet
   exact⟨_,_,_,_,w3,(by first | exact TKr.out | exact TKs.out),rfl⟩
 case rest=>
 obtain⟨pa,pc,qa,qc,W,hTK,hwc⟩:=hcut
 have hT1:=((DTo.refl hK1 (.slice ea en ec)).below (by simp;omega) b1)
 have hTB:=hT1.both hrl (by rw [e1,e2];exact hTK)
 rw [←hwc] at hTB
 obtain⟨vn,hvn⟩:∃vn,upd (upd (upd val (.tab m.slots.length) nilV) .slots (.slice pa (m.slots.length+1) pc)) .refs (.slice qa (m.slots.length+1) qc)=vn:=⟨_,rfl⟩
 rw [hvn] at hTB
 have n1:vn .slots=.slice pa (m.slots.length+1) pc:=by rw [←hvn,upd_other _ _ (by intro x;cases x),upd_same]
 have n2:vn .refs=.slice qa (m.slots.length+1) qc:=by rw [←hvn,upd_same]
 have HR:Hid (vn .root=val .root):=by show _=_;rw [←hvn,upd_other _ _ (by intro x;cases x),upd_other _ _ (by intro x;cases x),upd_other _ _ (by intro x;cases x)]
 have hsl:(m.slots ++ [((0:Int),(⟨#[]⟩:ByteArray),([]:List Int))]).length=m.slots.length+1:=by simp
 have hrs:=hTB.dk.own.row .slots (Live.slots _)
 rw [n1] at hrs
 have hrs:wc.ownsRow B 61 3 (.slice pa (m.slots.length+1) pc) (m.slots.length+1) (flatS (m.slots ++ [(0,⟨#[]⟩,[])]) (fun j=>vn (.tab j))):=by rw [←hsl];rw [←hsl] at hrs;exact hrs
 have hrr:=hTB.dk.own.row .refs (Live.refs _)
 rw [n2] at hrr
 have hrfl:(m.refs ++ [(0:Int)]).length=m.slots.length+1:=by simp [hrl]
 have hrr:wc.ownsRow B 3 1 (.slice qa (m.slots.length+1) qc) (m.slots.length+1) (ints (m.refs ++ [0])):=by rw [←hrfl];rw [←hrfl] at hrr;exact hrr
 obtain⟨pg,pc',ep⟩:=row_some hrs
 simp only [Value.slice.injEq] at ep
 obtain⟨rfl,_,rfl⟩:=ep
 obtain⟨qg,qc',eq⟩:=row_some hrr
 simp only [Value.slice.injEq] at eq
 obtain⟨rfl,_,rfl⟩:=eq
 have mS2:wc.heap[w.heap.size]? = some (.cells #[.int .i64 k,.string d,.slice ea en ec] 61):=hTB.cells (World.alloc_heap_new _ _) (by omega) (fun e=>by have:=(he.lt _ e).2;omega) (hK.own.lt (Nat.le_refl _))
 obtain⟨s0,s1,s2⟩:=three mS2
 obtain⟨j0,j1,j2,j3,j4⟩:=hTB.dk.five
 rw [n1] at j2
 rw [n2] at j3
 obtain⟨t0,t1,t2⟩:=flatS_get (L:=m.slots ++ [((0:Int),(⟨#[]⟩:ByteArray),([]:List Int))]) (tv:=fun j=>vn (.tab j)) (j:=m.slots.length) (by simp)
 have t0:=(hrs.cellAt (m.slots.length*3) (by omega)).trans t0
 have t1:=(hrs.cellAt (m.slots.length*3+1) (by omega)).trans t1
 have t2:=(hrs.cellAt (m.slots.length*3+2) (by omega)).trans t2
 have u0:=hrs.frozenAt (m.slots.length*3)
 have u1:=hrs.frozenAt (m.slots.length*3+1)
 have u2:=hrs.frozenAt (m.slots.length*3+2)
 have t3:wc.cell? ⟨qg,m.slots.length,none⟩=some (.int .i64 ((m.refs ++ [0]).getD m.slots.length 0)):=root_cell' (by rw [hrfl];exact hrr) (by rw [hrfl];omega)
 have u3:=hrr.frozenAt m.slots.length
 have hli:(m.slots.length:Int)<(m.slots.length:Int)+1:=by omega
 have nDS:¬D=pg:=fun e=>hTB.dk.far .slots (Live.slots _) (by rw [n1,e];rfl)
 have nDF:¬D=qg:=fun e=>hTB.dk.far .refs (Live.refs _) (by rw [n2,e];rfl)
 have nSD:¬pg=D:=fun e=>nDS e.symm
 have nFD:¬qg=D:=fun e=>nDF e.symm
 have nSF:¬pg=qg:=fun e=>hTB.dk.own.apart .slots .refs (Live.slots _) (Live.refs _) (by intro x;cases x) pg (by rw [n1];rfl) (by rw [n2,e];rfl)
 have nFS:¬qg=pg:=fun e=>nSF e.symm
 have nWS:¬w.heap.size=pg:=fun e=>hTB.src w.heap.size (by simp) (fun e=>by have:=(he.lt _ e).2;omega) (hK.own.lt (Nat.le_refl _)) .slots (Live.slots _) (by rw [n1,e];rfl)
 have nWF:¬w.heap.size=qg:=fun e=>hTB.src w.heap.size (by simp) (fun e=>by have:=(he.lt _ e).2;omega) (hK.own.lt (Nat.le_refl _)) .refs (Live.refs _) (by rw [n2,e];rfl)
 have nSW:¬pg=w.heap.size:=fun e=>nWS e.symm
 have nFW:¬qg=w.heap.size:=fun e=>nWF e.symm
 have hlt1:∀g,(Value.slice ea en ec).ownBlock=some g→g<w.heap.size:=fun g e=>(he.lt g e).2
 have hw01:w.heap.size≤w1.heap.size:=Nat.le_trans b0.size b1.size
 have hevc:wc.ownsRow B 3 1 (.slice ea en ec) es.length (ints es):=by
  rw [hwc]
  refine ownsRow_setCell_other (ownsRow_setCell_other (row_blk (row_keep (he.alloc (.cells #[.int .i64 k,.string d,.slice ea en ec] 61)) b1) (fun g e=>?_)) hD _) hD _
  have x1:=hfar .slots (Live.slots m) (by intro y;cases y) g e
  have x2:=hfar .refs (Live.refs m) (by intro y;cases y) g e
  rw [e1] at x1
  rw [e2] at x2
  exact hTK.keep g (by have:=hlt1 g e;omega) x1 x2
 have hfarc:Far { m with slots:=m.slots ++ [(0,⟨#[]⟩,[])],refs:=m.refs ++ [0] } vn (.tab m.slots.length) (.slice ea en ec):=by
  rw [←hvn]
  have hTK':=hTK
  rw [←e1,← e2] at hTK'
  exact both_far hTK' hfar (fun g e=>by have:=hlt1 g e;omega)
 have hF:=(hTB.setSlot (t:=m.slots.length) (by show _<(m.slots ++ [_]).length;simp) n1 k d es hevc hfarc hD (fun q e=>.inl e)).setRefs (g:=qg) (n:=m.slots.length+1) (cap:=qc) ((upd_other _ _ (by intro x;cases x)).trans n2) m.slots.length 1
 have em:({ m with slots:=(m.slots ++ [((0:Int),(⟨#[]⟩:ByteArray),([]:List Int))]).set m.slots.length (k,d,es),refs:=(m.refs ++ [0]).set m.slots.length 1 } : ImgD) = { m with slots:=m.slots ++ [(k,d,es)],refs:=m.refs ++ [1] }:=by
  have x1:(m.slots ++ [((0:Int),(⟨#[]⟩:ByteArray),([]:List Int))]).set m.slots.length (k,d,es)=m.slots ++ [(k,d,es)]:=by simp
  have x2:(m.refs ++ [(0:Int)]).set m.slots.length 1=m.refs ++ [1]:=by rw [←hrl];simp
  rw [x1,x2]
 have hF:=hF.drew
 rw [em] at hF
 have HF:=Hid_mk (hF.pre b0 hB)
 clear hF hevc hfarc hT1 hTB hTK hwc hvn hrs hrr TK hK1 hK2 hcall mS mS1 mS2 d0 d1 d2 d3 d4 i0 i1 i2 i3 i4 j0 j1 j4 n1 n2 em hsl hrfl hbD hDc
 go_wp2_with fail
 go_region_held3 (fun W=>W.cell? ⟨D,0+1+1,none⟩=some (.slice (some ⟨pg,0,none⟩) (m.slots.length+1) pc)∧W.cell? ⟨D,0+1+1+1,none⟩=some (.slice (some ⟨qg,0,none⟩) (m.slots.length+1) qc)∧W.cell? ⟨w.heap.size,0,none⟩=some (.int .i64 k)∧W.cell? ⟨w.heap.size,0+1,none⟩=some (.string d)∧W.cell? ⟨w.heap.size,0+1+1,none⟩=some (.slice ea en ec)) (first | exact⟨j2,j3,s0,s1,s2⟩ | go_keep) (fail)
 go_wp2_with fail
 go_ret
 exact⟨rfl,_,HF.out,(upd_other _ _ (by intro x;cases x)).trans HR.out⟩
end Go.Proofs.YtehleeibgkpjmafGreat
namespace Go.Proofs.YtehleeibgkpjmafGreat
open Go.RowKit
set_option maxRecDepth 20000
theorem Tryz.size3:(Tryz.prog.info? 3).map (·.size)=some 1:=by kernel_rfl
theorem splice_row (xs:List Int)(n:Nat)(h4:xs.length=4)(hn:n≤4) :
  splice [Value.int .i64 0,Value.int .i64 0,Value.int .i64 0,Value.int .i64 0] 0 ((xs.take n).map (Value.int .i64))=(cutR xs n).map (Value.int .i64):=by
 match xs,h4 with
 | [a,b,c,d],_=>
  match n,hn with
  | 0,_=>rfl
  | 1,_=>rfl
  | 2,_=>rfl
  | 3,_=>rfl
  | 4,_=>rfl
theorem set_row (xs:List Int)(n k:Nat)(h4:xs.length=4)(hn:n≤k)(hk:k<4) :
  ((cutR xs n).map (Value.int .i64)).toArray.setIfInBounds k (Value.int .i64 0)=((cutR xs n).map (Value.int .i64)).toArray:=by
 match xs,h4 with
 | [a,b,c,d],_=>
  match k,hk with
  | 0,_=>match n,hn with
   | 0,_=>rfl
  | 1,_=>match n,hn with
   | 0,_=>rfl
   | 1,_=>rfl
  | 2,_=>match n,hn with
   | 0,_=>rfl
   | 1,_=>rfl
   | 2,_=>rfl
  | 3,_=>match n,hn with
   | 0,_=>rfl
   | 1,_=>rfl
   | 2,_=>rfl
   | 3,_=>rfl
theorem cutR_length (xs:List Int)(n:Nat)(h4:xs.length=4)(hn:n≤4):(cutR xs n).length=4:=by
 unfold cutR;simp;omega
theorem copy_runs (b off cap n:Nat)(xs:List Int)(w:World)(h4:xs.length=4)(hn:n≤4)(hb:b<w.heap.size)(hc:∀j,j<4→w.cell? ⟨b,off+j,none⟩=some (.int .i64 (xs.getD j 0))) :
  ∃W2,(Builtin.copy_ #[23,23] 3 #[.slice (some ⟨w.heap.size,0,none⟩) 4 4,.slice (some ⟨b,off,none⟩) n cap]).run Tryz.prog (w.alloc (.cells #[.int .i64 0,.int .i64 0,.int .i64 0,.int .i64 0] 3))=.ok (.int .i64 n) W2∧
   W2.heap[w.heap.size]? = some (.cells ((cutR xs n).map (Value.int .i64)).toArray 3 (0,0))∧Below w.heap.size w W2:=by
 obtain⟨X,hX⟩:∃X,X=(xs.take n).map (Value.int .i64):=⟨_,rfl⟩
 have hXl:X.length=n:=by rw [hX];simp;rw [h4];omega
 have hsrc:∀j v,X[j]? = some v→(w.alloc (.cells #[.int .i64 0,.int .i64 0,.int .i64 0,.int .i64 0] 3)).cell? ((⟨b,off,none⟩:Addr).add j)=some v:=by
  intro j v hj
  have hjn:j<n:=by have:=(List.getElem?_eq_some_iff.1 hj).1;rw [hXl] at this;exact this
  rw [hX] at hj
  have:v=.int .i64 (xs.getD j 0):=by
   rw [List.getElem?_map,List.getElem?_take,if_pos hjn] at hj
   simp [List.getD,show j<xs.length by omega] at hj ⊢
   exact hj.symm
  rw [this]
  rw [addr_add]
  exact (World.cell?_alloc_past _ _ _ hb).trans (hc j (by omega))
 have hg:=heap_alloc_new w (.cells #[.int .i64 0,.int .i64 0,.int .i64 0,.int .i64 0] 3)
 have hrun:=run_copy_row (P:=Tryz.prog) _ 23 23 3 3 w.heap.size 0 4 4 ⟨b,off,none⟩ n cap _ 3 X Tryz.underlying23 Tryz.size3 hg (by rw [hXl];exact (Nat.min_eq_left hn).symm) hsrc (by rw [hXl];simp;omega) (by rw [hX];exact ints_oneCell _ _)
 refine⟨_,hrun.trans (by rw [hXl];rfl),?_,below_setRow ((Below.refl _ _).alloc (Nat.le_refl _) _) (Nat.le_refl _) _⟩
 rw [setRow_heap _ _ _ _ _ _ hg,hX]
 have:=splice_row xs n h4 hn
 unfold splice at this
 rw [←this]
 simp [h4]
set_option maxHeartbeats 400000 in
theorem first_at (b off cap n:Nat)(xs:List Int)(w:World)(h4:xs.length=4)(hn:n≤4)(hcap:4≤cap)(hb:b<w.heap.size)(hc:∀j,j<4→w.cell? ⟨b,off+j,none⟩=some (.int .i64 (xs.getD j 0))) :
  Calls Tryz.prog 115 #[.slice (some ⟨b,off,none⟩) 4 cap,.int .i64 n] w fun r w'=>∃g cap',r=.returned (.slice (some ⟨g,0,none⟩) 4 cap')∧w'.ownsRow w.heap.size 3 1 (.slice (some ⟨g,0,none⟩) 4 cap') 4 ((cutR xs n).map (.int .i64))∧Below w.heap.size w w':=by
 obtain⟨W2,hcp,hg2,hB2⟩:=copy_runs b off cap n xs w h4 hn hb hc
 clear hc
 have HL:Hid ((cutR xs n).length=4):=cutR_length xs n h4 hn
 have HS:Hid (∀k,n≤k→k<4→((cutR xs n).map (Value.int .i64)).toArray.setIfInBounds k (Value.int .i64 0)=((cutR xs n).map (Value.int .i64)).toArray):=fun k h1 h2=>set_row xs n k h4 h1 h2
 obtain⟨R,hR⟩:∃R,R=(cutR xs n).map (Value.int .i64):=⟨_,rfl⟩
 rw [←hR] at hg2 HS ⊢
 have HR:Hid (R=(cutR xs n).map (Value.int .i64)):=hR
 have HG2:Hid (W2.heap[w.heap.size]? = some (.cells R.toArray 3 (0,0))):=hg2
 clear hR hg2 h4
 have hmk:∀w,(Instr.makeSlice 23 (.int .i64 4) (.int .i64 4)).run Tryz.prog w=.ok (.slice (some ⟨w.heap.size,0,none⟩) 4 4) (w.alloc (.cells #[.int .i64 0,.int .i64 0,.int .i64 0,.int .i64 0] 3)):=fun _=>by kernel_rfl
 have hn':(n:Int)≤4:=by omega
 go_enter Tryz.func115,Tryz.ntmps115
 go_wp2
 clear hcp
 go_loopw [6] (fun i wr=>∃k:Nat,n≤k∧k≤4∧i=.int .i64 k∧wr.heap[w.heap.size]? = some (.cells R.toArray 3 (0,0))∧Below w.heap.size w wr) (fun i _=>4 - (intOf i).toNat)
 case atStart=>exact⟨n,Nat.le_refl _,hn,rfl,HG2.out,hB2⟩
 case round=>
  obtain⟨k,hk1,hk,rfl,hg,hbel⟩:=hrel
  have HG:Hid (wr.heap[w.heap.size]? = some (.cells R.toArray 3 (0,0))):=hg
  clear hg
  by_cases hlt:k<4
  ·have hfr:wr.frozen? ⟨w.heap.size,k,none⟩=false:=frozen_of_row _ _ _ _ _ HG.out
   obtain⟨u,hcl⟩:∃u,wr.cell? ⟨w.heap.size,k,none⟩=some u:=by
    rw [cell_of_row _ _ _ _ _ _ HG.out]
    have:k<R.length:=by rw [HR.out];simp;rw [HL.out];exact hlt
    exact⟨R[k],by simp [this]⟩
   go_wp2
   go_roundw
   case rel=>exact⟨k+1,by omega,by omega,by go_num,by rw [heap_setCell_same _ _ _ _ _ _ HG.out,HS.out k hk1 hlt],hbel.setCell (Nat.le_refl _) _⟩
   case measure=>simp [intOf];omega
  ·have e4:k=4:=by omega
   subst e4
   go_wp2
   go_ret
   exact⟨w.heap.size,4,rfl,⟨by rw [HR.out];simp;exact HL.out,.inr ⟨w.heap.size,4,R.toArray,rfl,Nat.le_refl _,HG.out,Nat.le_refl _,by decide,by simp;rw [HR.out];simp;exact HL.out,by rw [List.take_of_length_le];rw [HR.out];simp;rw [HL.out];exact Nat.le_refl _⟩⟩,hbel⟩
end Go.Proofs.YtehleeibgkpjmafGreat
namespace Go.Proofs.YtehleeibgkpjmafGreat
open Go.RowKit
set_option maxRecDepth 20000
theorem first_any (v:Value)(xs:List Int)(n:Int)(w:World)(h:Sl w v xs)(h4:xs.length=4)(h0:0≤n)(hn:n≤4) :
  Calls Tryz.prog 115 #[v,.int .i64 n] w fun r w'=>∃g cap',r=.returned (.slice (some ⟨g,0,none⟩) 4 cap')∧w'.ownsRow w.heap.size 3 1 (.slice (some ⟨g,0,none⟩) 4 cap') 4 ((cutR xs n.toNat).map (.int .i64))∧Below w.heap.size w w':=by
 obtain⟨b,off,cap,rfl,hcp,hlt,hcell⟩:=h.four h4
 obtain⟨n,rfl⟩:=Int.eq_ofNat_of_zero_le h0
 rw [Int.toNat_natCast]
 exact first_at b off cap n xs w h4 (by omega) hcp hlt hcell
theorem cutR_all {xs:List Int}(h4:xs.length=4):cutR xs 4=xs:=by unfold cutR;rw [List.take_of_length_le (by omega)];simp
end Go.Proofs.YtehleeibgkpjmafGreat
namespace Go.Proofs.YtehleeibgkpjmafGreat
open Go.RowKit Go.Shelf
set_option maxRecDepth 20000
theorem Hid_mkW {p:Prop}(h:p):Hid p:=h
theorem root_cellW {W:World}{B g cap:Nat}{l:List Int}(h:W.ownsRow B 3 1 (.slice (some ⟨g,0,none⟩) l.length cap) l.length (ints l)){k:Nat}(hk:k<l.length):W.cell? ⟨g,k,none⟩=some (.int .i64 (l.getD k 0)):=by
 refine (h.cellAt k (by omega)).trans ?_
 unfold ints
 rw [List.getElem?_map,List.getElem?_eq_getElem hk]
 simp [List.getD,hk]
theorem DK.rootAt {W:World}{B D:Nat}{val:Nm→Value}{m:ImgD}(h:DK W B D val m){r:Nat}(hr:r<m.root.length):∃g cap,val .root=.slice (some ⟨g,0,none⟩) m.root.length cap∧W.cell? ⟨g,r,none⟩=some (.int .i64 (m.root.getD r 0))∧W.frozen? ⟨g,r,none⟩=false∧B≤g∧g<W.heap.size∧g≠D:=by
 have hrow:=h.own.row .root (Live.root m)
 rcases row_form hrow with ⟨_,hn⟩ | ⟨g,cap,e,hb,hg,_⟩
 ·have hn:m.root.length=0:=hn
  omega
 ·have e:val .root=.slice (some ⟨g,0,none⟩) m.root.length cap:=e
  rw [e] at hrow
  exact⟨g,cap,e,root_cellW hrow hr,hrow.frozenAt r,hb,hg,fun x=>h.far .root (Live.root m) (by rw [e,x];rfl)⟩
theorem DK.refsAt {W:World}{B D:Nat}{val:Nm→Value}{m:ImgD}(h:DK W B D val m){r:Nat}(hr:r<m.refs.length):∃g cap,val .refs=.slice (some ⟨g,0,none⟩) m.refs.length cap∧W.cell? ⟨g,r,none⟩=some (.int .i64 (m.refs.getD r 0))∧W.frozen? ⟨g,r,none⟩=false∧B≤g∧g<W.heap.size∧g≠D:=by
 have hrow:=h.own.row .refs (Live.refs m)
 rcases row_form hrow with ⟨_,hn⟩ | ⟨g,cap,e,hb,hg,_⟩
 ·have hn:m.refs.length=0:=hn
  omega
 ·have e:val .refs=.slice (some ⟨g,0,none⟩) m.refs.length cap:=e
  rw [e] at hrow
  exact⟨g,cap,e,root_cellW hrow hr,hrow.frozenAt r,hb,hg,fun x=>h.far .refs (Live.refs m) (by rw [e,x];rfl)⟩
theorem DK.slotAt {W:World}{B D:Nat}{val:Nm→Value}{m:ImgD}(h:DK W B D val m){t:Nat}(ht:t<m.slots.length):∃g cap,val .slots=.slice (some ⟨g,0,none⟩) m.slots.length cap∧W.cell? ⟨g,t*3,none⟩=some (.int .i64 (m.slots.getD t default).1)∧W.cell? ⟨g,t*3+1,none⟩=some (.string (m.slots.getD t default).2.1)∧W.cell? ⟨g,t*3+2,none⟩=some (val (.tab t))∧(∀i,W.frozen? ⟨g,i,none⟩=false)∧B≤g∧g<W.heap.size∧g≠D∧Sl W (val (.tab t)) (m.slots.getD t default).2.2:=by
 have hrow:=h.own.row .slots (Live.slots m)
 rcases row_form hrow with ⟨_,hn⟩ | ⟨g,cap,e,hb,hg,_⟩
 ·have hn:m.slots.length=0:=hn
  omega
 ·have e:val .slots=.slice (some ⟨g,0,none⟩) m.slots.length cap:=e
  rw [e] at hrow
  have hrow:W.ownsRow B 61 3 (.slice (some ⟨g,0,none⟩) m.slots.length cap) m.slots.length (flatS m.slots (fun j=>val (.tab j))):=hrow
  obtain⟨s0,s1,s2⟩:=flatS_get (L:=m.slots) (tv:=fun j=>val (.tab j)) ht
  exact⟨g,cap,e,(hrow.cellAt (t*3) (by omega)).trans s0,(hrow.cellAt (t*3+1) (by omega)).trans s1,(hrow.cellAt (t*3+2) (by omega)).trans s2,fun i=>hrow.frozenAt i,hb,hg,fun x=>h.far .slots (Live.slots m) (by rw [e,x];rfl),row_sl (h.own.row (.tab t) (Live.tab ht))⟩
theorem DK.root5 {W:World}{B D:Nat}{val:Nm→Value}{m:ImgD}(h:DK W B D val m){v:Value}(e:val .root=v):W.cell? ⟨D,1,none⟩=some v:=by rw [←e];exact h.five.2.1
theorem DK.slots5 {W:World}{B D:Nat}{val:Nm→Value}{m:ImgD}(h:DK W B D val m){v:Value}(e:val .slots=v):W.cell? ⟨D,2,none⟩=some v:=by rw [←e];exact h.five.2.2.1
theorem DK.refs5 {W:World}{B D:Nat}{val:Nm→Value}{m:ImgD}(h:DK W B D val m){v:Value}(e:val .refs=v):W.cell? ⟨D,3,none⟩=some v:=by rw [←e];exact h.five.2.2.2.1
theorem entries_none {m:ImgD}{B D:Nat}{val:Nm→Value}{w:World}(hK:DK w B D val m){r:Nat}(hr:r<m.root.length)(h0:m.root.getD r 0=0) :
  Calls Tryz.prog 92 #[.pointer (some ⟨D,0,none⟩),.int .i64 (r:Int)] w fun e w'=>∃v,e=.returned v∧Sl w' v [0,0,0,0]∧Below w.heap.size w w':=by
 obtain⟨g,cap,e,c,_⟩:=hK.rootAt hr
 rw [h0] at c
 have d1:=hK.root5 e
 have hri:(r:Int)<(m.root.length:Int):=by omega
 have hmk:∀w,(Instr.makeSlice 23 (.int .i64 4) (.int .i64 4)).run Tryz.prog w=.ok (.slice (some ⟨w.heap.size,0,none⟩) 4 4) (w.alloc (.cells #[.int .i64 0,.int .i64 0,.int .i64 0,.int .i64 0] 3)):=fun _=>by kernel_rfl
 clear h0 e
 go_enter Tryz.func92,Tryz.ntmps92
 go_wp2_with fail
 go_ret
 exact⟨_,rfl,Sl_new4 w _ rfl 0 0 0 0,(Below.refl _ _).alloc (Nat.le_refl _) _⟩
theorem entries_some {m:ImgD}{B D:Nat}{val:Nm→Value}{w:World}(hK:DK w B D val m){r t:Nat}(hr:r<m.root.length)(ht:m.root.getD r 0=(t:Int))(h1:1≤t)(htl:t<m.slots.length) :
  Calls Tryz.prog 92 #[.pointer (some ⟨D,0,none⟩),.int .i64 (r:Int)] w fun e w'=>∃v,e=.returned v∧Sl w' v (m.slots.getD t default).2.2∧Below w.heap.size w w':=by
 obtain⟨g,cap,e,c,_⟩:=hK.rootAt hr
 rw [ht] at c
 have d1:=hK.root5 e
 obtain⟨sg,sc,e2,s0,s1,s2,_,_,_,_,hSl⟩:=hK.slotAt htl
 have d2:=hK.slots5 e2
 obtain⟨xs,hxs⟩:∃xs,(m.slots.getD t default).2.2=xs:=⟨_,rfl⟩
 rw [hxs] at hSl ⊢
 obtain⟨ta,tc,hv⟩:=hSl.form
 rw [hv] at s2 hSl
 have hri:(r:Int)<(m.root.length:Int):=by omega
 have hti:(t:Int)<(m.slots.length:Int):=by omega
 have htb:((t:Int) != 0)=true:=by simp;omega
 have htb':¬(t:Int)=0:=by omega
 have HS:Hid (Sl w (.slice ta xs.length tc) xs):=hSl
 clear ht e e2 hv s0 s1 hSl hxs
 go_enter Tryz.func92,Tryz.ntmps92
 go_wp2_with fail
 go_ret
 exact⟨_,rfl,HS.out,Below.refl _ _⟩
theorem entries_is {m:ImgD}{B D:Nat}{val:Nm→Value}{w:World}(hK:DK w B D val m){r t:Nat}(hr:r<m.root.length)(ht:m.root.getD r 0=(t:Int))(htl:t<m.slots.length) :
  Calls Tryz.prog 92 #[.pointer (some ⟨D,0,none⟩),.int .i64 (r:Int)] w fun e w'=>∃v,e=.returned v∧Sl w' v (tableO m r)∧Below w.heap.size w w':=by
 unfold tableO
 rw [ht]
 by_cases h0:t=0
 ·subst h0
  rw [if_pos (show ((0:Nat):Int)=0 from rfl)]
  exact entries_none hK hr ht
 ·rw [if_neg (by omega)]
  have e:tabOf m.slots (t:Int)=(m.slots.getD t default).2.2:=by unfold tabOf;rw [Int.toNat_natCast]
  rw [e]
  exact entries_some hK hr ht (by omega) htl
set_option maxHeartbeats 400000 in
theorem with_own (v:Value)(xs:List Int)(k:Nat)(e:Int)(w:World)(h:Sl w v xs)(h0:ckE xs=0)(hk4':k<4)(hE:isE e=true):Calls Tryz.prog 91 #[v,.int .i64 k,.int .i64 e] w fun r w'=>∃v',r=.returned (.tuple #[v',.int .i64 0])∧w'.ownsRow w.heap.size 3 1 v' (xs.set k e).length (ints (xs.set k e))∧Below w.heap.size w w':=by
 have H4:Hid (xs.length=4):=ckE_len h0
 have hk4:(k:Int)<4:=by omega
 have hk0:¬(k:Int)<0:=by omega
 go_enter Tryz.func91,Tryz.ntmps91
 go_wp2_with (first | (go_at_call 113;refine (check_any _ xs _ h).mono ?_;rintro e w' ⟨rfl,rfl⟩) | (go_at_call 114;refine (isEntry_any _ _).mono ?_;rintro e w' ⟨rfl,rfl⟩) | (go_at_call 115;refine (first_any _ xs _ _ h H4.out (by omega) (by omega)).mono ?_;rintro e w1 ⟨g,cap',rfl,hown,hbel⟩;obtain⟨u,hcl⟩:=own_cell hown k (by omega);have hfr:=hown.frozenAt k;have HO:Hid (w1.ownsRow _ 3 1 (.slice (some ⟨g,0,none⟩) 4 cap') 4 ((cutR xs (Int.toNat 4)).map (.int .i64))):=hown;clear hown))
 go_ret2
 have hx:=cutR_all H4.out
 have hO:=own_put HO.out k e
 rw [show cutR xs (Int.toNat 4)=xs from hx] at hO
 have hl:(xs.set k e).length=4:=by rw [List.length_set];exact H4.out
 rw [hl]
 exact⟨_,rfl,hO,hbel.setCell (own_ge HO.out) _⟩
def layP (m:ImgD) (r:Nat) (es:List Int):Option ImgD:=
 if bareL es=true then some { m with root:=m.root.set r 0 } else if inPl m r=true then some { m with slots:=m.slots.set (m.root.getD r 0).toNat (2,⟨#[]⟩,es) }
 else if grabN m.slots=40 then none else some { takeD m (2,⟨#[]⟩,es) with root:=m.root.set r (grabN m.slots:Int) }
def Tells (w:World) (B D:Nat) (m:ImgD) (val:Nm→Value) (ev:Value) (o:Option ImgD) (r:Ending) (w':World):Prop:=
 match o with
 | some m'=>r=.returned (.tuple #[])∧∃val',DTo w w' B D m val ev m' val'
 | none=>r=.panicked noSlotP∧Below B w w'
theorem bareE_eq {es:List Int}(h:ckE es=0):bareE es=bareL es:=by unfold bareE;rw [if_pos h]
set_option maxHeartbeats 2000000 in
theorem wlay_bare (m:ImgD)(ea:Option Addr)(ec:Nat)(es:List Int)(r B D:Nat)(val:Nm→Value)(w:World)(hK:DK w B D val m)(hr:r<m.root.length)(he:Sl w (.slice ea es.length ec) es)(hck:ckE es=0)(hb:bareL es=true) :
  Calls Tryz.prog 93 #[.pointer (some ⟨D,0,none⟩),.int .i64 (r:Int),.slice ea es.length ec] w fun e w'=>e=.returned (.tuple #[])∧∃val',DTo w w' B D m val (.slice ea es.length ec) { m with root:=m.root.set r 0 } val':=by
 obtain⟨g,cap,e,c,f,_⟩:=hK.rootAt hr
 have d1:=hK.root5 e
 have hri:(r:Int)<(m.root.length:Int):=by omega
 have hcall:=bare_is he ((bareE_eq hck).trans hb) hck
 have HF:Hid (DTo w (w.setCell ⟨g,r,none⟩ (.int .i64 0)) B D m val (.slice ea es.length ec) { m with root:=m.root.set r 0 } val):=(DTo.refl hK _).setRoot e r 0
 clear he hck hb e hK
 go_enter Tryz.func93,Tryz.ntmps93
 go_wp2_with (go_at_call 112;refine hcall.mono ?_;rintro e w' ⟨rfl,hw⟩;rw [hw];clear hw)
 refine bodyPost_ret (results_none rfl _ _ _) rfl ?_
 exact⟨rfl,val,HF.out⟩
set_option maxHeartbeats 2000000 in
theorem wlay_place (m:ImgD)(ea:Option Addr)(ec:Nat)(es:List Int)(r t B D:Nat)(val:Nm→Value)(w:World)(hK:DK w B D val m)(hB:B≤w.heap.size)(hr:r<m.root.length)(ht:m.root.getD r 0=(t:Int))(h1:1≤t)(htl:t<m.slots.length)(hrl:m.refs.length=m.slots.length)(hrf:m.refs.getD t 0=1)(he:w.ownsRow B 3 1 (.slice ea es.length ec) es.length (ints es))(hfar:∀a,Live m a→∀q,(Value.slice ea es.length ec).ownBlock=some q→(val a).ownBlock≠some q)(hD:(Value.slice ea es.length ec).ownBlock≠some D)(hck:ckE es=0)(hb:bareL es=false) :
  Calls Tryz.prog 93 #[.pointer (some ⟨D,0,none⟩),.int .i64 (r:Int),.slice ea es.length ec] w fun e w'=>e=.returned (.tuple #[])∧∃val',DTo w w' B D m val (.slice ea es.length ec) { m with slots:=m.slots.set t (2,⟨#[]⟩,es) } val':=by
 have hK1:DK (w.alloc (.cells #[.int .i64 2,.string ⟨#[]⟩,.slice ea es.length ec] 61)) B D val m:=hK.alloc _
 obtain⟨g,cap,e,c,f,_⟩:=hK1.rootAt hr
 rw [ht] at c
 have d1:=hK1.root5 e
 obtain⟨fg,fc,e2,c2,_⟩:=hK1.refsAt (r:=t) (by omega)
 rw [hrf] at c2
 rw [hrl] at e2
 have d3:=hK1.refs5 e2
 obtain⟨sg,sc,e3,s0,s1,s2,sf,hsB,hsl,hsD,_⟩:=hK1.slotAt htl
 have d2:=hK1.slots5 e3
 have f0:=sf (t*3)
 have f1:=sf (t*3+1)
 have f2:=sf (t*3+2)
 have hsw:sg<w.heap.size:=by
  have:=(hK.own.row .slots (Live.slots m)).lt sg (by rw [e3];rfl)
  exact this.2
 have hri:(r:Int)<(m.root.length:Int):=by omega
 have hti:(t:Int)<(m.slots.length:Int):=by omega
 have htb:((t:Int) != 0)=true:=by simp;omega
 have htb':¬(t:Int)=0:=by omega
 have mS:(w.alloc (.cells #[.int .i64 2,.string ⟨#[]⟩,.slice ea es.length ec] 61)).heap[w.heap.size]? = some (.cells #[.int .i64 2,.string ⟨#[]⟩,.slice ea es.length ec] 61):=World.alloc_heap_new _ _
 obtain⟨y0,y1,y2⟩:=three mS
 have hcall:=bare_is (row_sl he) ((bareE_eq hck).trans hb) hck
 have nWS:¬w.heap.size=sg:=by omega
 have nSW:¬sg=w.heap.size:=by omega
 have nDS:¬D=sg:=fun x=>hsD x.symm
 have nSD:¬sg=D:=hsD
 have HF:=Hid_mkW ((((DTo.refl hK (.slice ea es.length ec)).setSlot htl e3 2 ⟨#[]⟩ es he (fun b hb _ q hq=>hfar b hb q hq) hD (fun q x=>.inl x)).alloc hB (.cells #[.int .i64 2,.string ⟨#[]⟩,.slice ea es.length ec] 61)).drew)
 obtain⟨sg',sc',e3',s0',s1',s2',sf',_⟩:=hK.slotAt htl
 rw [e3] at e3'
 simp only [Value.slice.injEq,Option.some.injEq,Addr.mk.injEq,and_true,true_and] at e3'
 obtain⟨rfl,rfl⟩:=e3'
 have hz3:(((w.setCell ⟨sg,t*3,none⟩ (.int .i64 2)).setCell ⟨sg,t*3+1,none⟩ (.string ⟨#[]⟩)).setCell ⟨sg,t*3+2,none⟩ (.slice ea es.length ec)).heap.size=w.heap.size:=by simp [World.setCell]
 have hbD:=cells_alloc (cells_other (cells_other (cells_other hK.box nDS (t*3) (.int .i64 2)) nDS (t*3+1) (.string ⟨#[]⟩)) nDS (t*3+2) (.slice ea es.length ec)) (.cells #[.int .i64 2,.string ⟨#[]⟩,.slice ea es.length ec] 61)
 have k2:=(five hbD).2.2.1
 rw [e3] at k2
 have hbS:=World.alloc_heap_new (((w.setCell ⟨sg,t*3,none⟩ (.int .i64 2)).setCell ⟨sg,t*3+1,none⟩ (.string ⟨#[]⟩)).setCell ⟨sg,t*3+2,none⟩ (.slice ea es.length ec)) (.cells #[.int .i64 2,.string ⟨#[]⟩,.slice ea es.length ec] 61)
 rw [hz3] at hbS
 obtain⟨k3,k4,k5⟩:=three hbS
 have KK:=Hid_mkW (And.intro k2 (And.intro k3 (And.intro k4 k5)))
 clear k2 k3 k4 k5 hbD hbS hz3
 have f0':=sf' (t*3)
 have f1':=sf' (t*3+1)
 have f2':=sf' (t*3+2)
 clear he hck hb e e2 e3 hK hK1 ht hrf hfar mS sf sf' hsB hsl hsD
 go_enter Tryz.func93,Tryz.ntmps93
 go_wp2_with (go_at_call 112;refine hcall.mono ?_;rintro e w' ⟨rfl,hw⟩;rw [hw];clear hw)
 go_region_held3 (fun W=>W.cell? ⟨D,0+1+1,none⟩=some (.slice (some ⟨sg,0,none⟩) m.slots.length sc)∧W.cell? ⟨w.heap.size,0,none⟩=some (.int .i64 2)∧W.cell? ⟨w.heap.size,0+1,none⟩=some (.string ⟨#[]⟩)∧W.cell? ⟨w.heap.size,0+1+1,none⟩=some (.slice ea es.length ec)) (first | exact⟨d2,y0,y1,y2⟩ | exact KK.out) (fail)
 go_wp2_with fail
 refine bodyPost_ret (results_none rfl _ _ _) rfl ?_
 exact⟨rfl,_,HF.out⟩
theorem take_ok {m:ImgD}{k:Int}{d:ByteArray}{ev:Value}{es:List Int}{g B D:Nat}{val:Nm→Value}{w:World}(hK:DK w B D val m)(hB:B≤w.heap.size)(hs:slotsE m.slots=0)(hrl:m.refs.length=m.slots.length)(hg:grabN m.slots=g)(hg40:g≠40)(he:w.ownsRow B 3 1 ev es.length (ints es))(hfar:∀a,Live m a→∀q,ev.ownBlock=some q→(val a).ownBlock≠some q)(hD:ev.ownBlock≠some D) :
  Calls Tryz.prog 61 #[.pointer (some ⟨D,0,none⟩),.agg #[.int .i64 k,.string d,ev]] w fun r w'=>r=.returned (.int .i64 (g:Int))∧∃val',DTo w w' B D m val ev (takeD m (k,d,es)) val'∧val' .root=val .root:=by
 have hp:=slotsE_parts hs
 obtain⟨ea,ec,hev⟩:=row_slice he
 subst hev
 obtain⟨sg,sc,e1,_⟩:=hK.slotAt (t:=0) (by omega)
 obtain⟨fg,fc,e2,_⟩:=hK.refsAt (r:=0) (by omega)
 rw [hrl] at e2
 have hgs:=grabN_spec hp.1
 have hg4:=grabN_le40 hs
 rw [hg] at hgs hg4
 have hfar':Far m val (.tab g) (.slice ea es.length ec):=fun b hb _ q hq=>hfar b hb q hq
 unfold takeD layS layR
 rw [hg,hrl]
 by_cases e:g=m.slots.length
 ·rw [if_pos e,if_pos e]
  subst e
  exact take_new m sg sc fg fc k d ea _ ec es B D val w hK hB e1 e2 hs hg (by omega) hrl he hfar' hD
 ·rw [if_neg e,if_neg e]
  exact take_old m sg sc fg fc k d ea _ ec es g B D val w hK hB e1 e2 hs hg (by omega) hrl he hfar' hD
theorem take_none {m:ImgD}{k:Int}{d:ByteArray}{ev:Value}{es:List Int}{B D:Nat}{val:Nm→Value}{w:World}(hK:DK w B D val m)(hs:slotsE m.slots=0)(hg:grabN m.slots=40)(he:w.ownsRow B 3 1 ev es.length (ints es)) :
  Calls Tryz.prog 61 #[.pointer (some ⟨D,0,none⟩),.agg #[.int .i64 k,.string d,ev]] w fun r w'=>r=.panicked noSlotP∧Below w.heap.size w w':=by
 have hp:=slotsE_parts hs
 obtain⟨ea,ec,hev⟩:=row_slice he
 subst hev
 obtain⟨sg,sc,e1,_⟩:=hK.slotAt (t:=0) (by omega)
 exact take_full m _ _ sc k d ea _ ec B D val w hK e1 hs hg
set_option maxHeartbeats 2000000 in
theorem wlay_grab0 (m:ImgD)(ea:Option Addr)(ec:Nat)(es:List Int)(r q B D:Nat)(val:Nm→Value)(w:World)(hK:DK w B D val m)(hB:B≤w.heap.size)(hr:r<m.root.length)(ht:m.root.getD r 0=0)(hs:slotsE m.slots=0)(hrl:m.refs.length=m.slots.length)(hg:grabN m.slots=q)(hg40:q≠40)(he:w.ownsRow B 3 1 (.slice ea es.length ec) es.length (ints es))(hfar:∀a,Live m a→∀q,(Value.slice ea es.length ec).ownBlock=some q→(val a).ownBlock≠some q)(hD:(Value.slice ea es.length ec).ownBlock≠some D)(hck:ckE es=0)(hb:bareL es=false) :
  Calls Tryz.prog 93 #[.pointer (some ⟨D,0,none⟩),.int .i64 (r:Int),.slice ea es.length ec] w fun e w'=>e=.returned (.tuple #[])∧∃val',DTo w w' B D m val (.slice ea es.length ec) { takeD m (2,⟨#[]⟩,es) with root:=m.root.set r (q:Int) } val':=by
 have hK1:DK (w.alloc (.cells #[.int .i64 2,.string ⟨#[]⟩,.slice ea es.length ec] 61)) B D val m:=hK.alloc _
 have hKd:DK (w.alloc (.cells #[.int .i64 2,.string ⟨#[]⟩,.slice ea es.length ec] 61)).drew B D val m:=hK1.drew
 obtain⟨g,cap,e,c,f,hgB,_,hgD⟩:=hK1.rootAt hr
 rw [ht] at c
 have d1:=hK1.root5 e
 have hgw:g<w.heap.size:=((hK.own.row .root (Live.root m)).lt g (by rw [e];rfl)).2
 have hri:(r:Int)<(m.root.length:Int):=by omega
 have mS:(w.alloc (.cells #[.int .i64 2,.string ⟨#[]⟩,.slice ea es.length ec] 61)).heap[w.heap.size]? = some (.cells #[.int .i64 2,.string ⟨#[]⟩,.slice ea es.length ec] 61):=World.alloc_heap_new _ _
 obtain⟨y0,y1,y2⟩:=three mS
 have hcall:=bare_is (row_sl he) ((bareE_eq hck).trans hb) hck
 have b0:Below w.heap.size w (w.alloc (.cells #[.int .i64 2,.string ⟨#[]⟩,.slice ea es.length ec] 61)):=(Below.refl _ _).alloc (Nat.le_refl _) _
 have hBa:B≤(w.alloc (.cells #[.int .i64 2,.string ⟨#[]⟩,.slice ea es.length ec] 61)).drew.heap.size:=Nat.le_trans hB b0.size
 have htk:=take_ok (k:=2) (d:=⟨#[]⟩) (es:=es) hKd hBa hs hrl hg hg40 (he.alloc _).drew hfar hD
 have hevw:(Value.slice ea es.length ec).ownBlock≠some w.heap.size:=fun x=>by have:=(he.lt _ x).2;omega
 have nWg:¬w.heap.size=g:=by omega
 have ngW:¬g=w.heap.size:=by omega
 have nDg:¬D=g:=fun x=>hgD x.symm
 have HK:Hid (DK w B D val m∧val .root=.slice (some ⟨g,0,none⟩) m.root.length cap∧(w.alloc (.cells #[.int .i64 2,.string ⟨#[]⟩,.slice ea es.length ec] 61)).heap[w.heap.size]? = some (.cells #[.int .i64 2,.string ⟨#[]⟩,.slice ea es.length ec] 61)∧(Value.slice ea es.length ec).ownBlock≠some w.heap.size):=⟨hK,e,mS,hevw⟩
 clear he hck hb e hK hK1 ht hfar mS hs hg hevw hKd
 go_enter Tryz.func93,Tryz.ntmps93
 go_wp2_with (go_at_call 112;refine hcall.mono ?_;rintro e w' ⟨rfl,hw⟩;rw [hw];clear hw)
 go_region_held3 (fun W=>W.cell? ⟨D,0+1,none⟩=some (.slice (some ⟨g,0,none⟩) m.root.length cap)∧W.cell? ⟨w.heap.size,0,none⟩=some (.int .i64 2)∧W.cell? ⟨w.heap.size,0+1,none⟩=some (.string ⟨#[]⟩)∧W.cell? ⟨w.heap.size,0+1+1,none⟩=some (.slice ea es.length ec)) (first | exact KK2.out | exact KK1.out | exact⟨d1,y0,y1,y2⟩)
  (first | (go_at_call 61;refine htk.mono ?_;rintro e w2 ⟨rfl,val2,hT,hv2⟩;have hv2:=hv2.trans HK.out.2.1;have k1:=hT.dk.root5 hv2;have hbx:w2.heap[w.heap.size]? = some (.cells #[.int .i64 2,.string ⟨#[]⟩,.slice ea es.length ec] 61):=hT.cells HK.out.2.2.1 (by have:=HK.out.1.lt;omega) HK.out.2.2.2 (HK.out.1.own.lt (Nat.le_refl _));obtain⟨k2,k3,k4⟩:=three hbx;have KK1:=Hid_mkW (And.intro k1 (And.intro k2 (And.intro k3 k4)));have hrw:=hT.dk.own.row .root (Live.root _);rw [hv2] at hrw;have rc:w2.cell? ⟨g,r,none⟩=some (.int .i64 (m.root.getD r 0)):=root_cellW hrw hr;have rf:=hrw.frozenAt r;have k1':=(cells_other hT.dk.box nDg r (.int .i64 (q:Int)));rw [hv2] at k1';have k5:=(five k1').2.1;obtain⟨k6,k7,k8⟩:=three (cells_other hbx nWg r (.int .i64 (q:Int)));have KK2:=Hid_mkW (And.intro k5 (And.intro k6 (And.intro k7 k8)));have HF:=Hid_mkW ((hT.setRoot hv2 r (q:Int)).pre (to_drew b0) hB);clear hrw k1' k5 k6 k7 k8 hbx hT))
 go_wp2_with fail
 go_end0
 exact⟨rfl,_,HF.out⟩
set_option maxHeartbeats 2000000 in
theorem wlay_grab1 (m:ImgD)(ea:Option Addr)(ec:Nat)(es:List Int)(r q B D:Nat)(val:Nm→Value)(w:World)(hK:DK w B D val m)(hB:B≤w.heap.size)(hr:r<m.root.length)(t:Nat)(ht:m.root.getD r 0=(t:Int))(h1:1≤t)(htl:t<m.slots.length)(x:Int)(hrf:m.refs.getD t 0=x)(hx1:(x == 1)=false)(hs:slotsE m.slots=0)(hrl:m.refs.length=m.slots.length)(hg:grabN m.slots=q)(hg40:q≠40)(he:w.ownsRow B 3 1 (.slice ea es.length ec) es.length (ints es))(hfar:∀a,Live m a→∀q,(Value.slice ea es.length ec).ownBlock=some q→(val a).ownBlock≠some q)(hD:(Value.slice ea es.length ec).ownBlock≠some D)(hck:ckE es=0)(hb:bareL es=false) :
  Calls Tryz.prog 93 #[.pointer (some ⟨D,0,none⟩),.int .i64 (r:Int),.slice ea es.length ec] w fun e w'=>e=.returned (.tuple #[])∧∃val',DTo w w' B D m val (.slice ea es.length ec) { takeD m (2,⟨#[]⟩,es) with root:=m.root.set r (q:Int) } val':=by
 have hK1:DK (w.alloc (.cells #[.int .i64 2,.string ⟨#[]⟩,.slice ea es.length ec] 61)) B D val m:=hK.alloc _
 have hKd:DK (w.alloc (.cells #[.int .i64 2,.string ⟨#[]⟩,.slice ea es.length ec] 61)).drew B D val m:=hK1.drew
 obtain⟨g,cap,e,c,f,hgB,_,hgD⟩:=hK1.rootAt hr
 rw [ht] at c
 have d1:=hK1.root5 e
 have hgw:g<w.heap.size:=((hK.own.row .root (Live.root m)).lt g (by rw [e];rfl)).2
 have hri:(r:Int)<(m.root.length:Int):=by omega
 obtain⟨fg,fc,e2,c2,_⟩:=hK1.refsAt (r:=t) (by omega)
 rw [hrf] at c2
 rw [hrl] at e2
 have d3:=hK1.refs5 e2
 have hti:(t:Int)<(m.slots.length:Int):=by omega
 have htb:((t:Int) != 0)=true:=by simp;omega
 have htb':¬(t:Int)=0:=by omega
 have mS:(w.alloc (.cells #[.int .i64 2,.string ⟨#[]⟩,.slice ea es.length ec] 61)).heap[w.heap.size]? = some (.cells #[.int .i64 2,.string ⟨#[]⟩,.slice ea es.length ec] 61):=World.alloc_heap_new _ _
 obtain⟨y0,y1,y2⟩:=three mS
 have hcall:=bare_is (row_sl he) ((bareE_eq hck).trans hb) hck
 have b0:Below w.heap.size w (w.alloc (.cells #[.int .i64 2,.string ⟨#[]⟩,.slice ea es.length ec] 61)):=(Below.refl _ _).alloc (Nat.le_refl _) _
 have hBa:B≤(w.alloc (.cells #[.int .i64 2,.string ⟨#[]⟩,.slice ea es.length ec] 61)).drew.heap.size:=Nat.le_trans hB b0.size
 have htk:=take_ok (k:=2) (d:=⟨#[]⟩) (es:=es) hKd hBa hs hrl hg hg40 (he.alloc _).drew hfar hD
 have hevw:(Value.slice ea es.length ec).ownBlock≠some w.heap.size:=fun x=>by have:=(he.lt _ x).2;omega
 have nWg:¬w.heap.size=g:=by omega
 have ngW:¬g=w.heap.size:=by omega
 have nDg:¬D=g:=fun x=>hgD x.symm
 have HK:Hid (DK w B D val m∧val .root=.slice (some ⟨g,0,none⟩) m.root.length cap∧(w.alloc (.cells #[.int .i64 2,.string ⟨#[]⟩,.slice ea es.length ec] 61)).heap[w.heap.size]? = some (.cells #[.int .i64 2,.string ⟨#[]⟩,.slice ea es.length ec] 61)∧(Value.slice ea es.length ec).ownBlock≠some w.heap.size):=⟨hK,e,mS,hevw⟩
 clear he hck hb e hK hK1 ht hfar mS hs hg hevw hKd e2 hrf
 go_enter Tryz.func93,Tryz.ntmps93
 go_wp2_with (go_at_call 112;refine hcall.mono ?_;rintro e w' ⟨rfl,hw⟩;rw [hw];clear hw)
 go_region_held3 (fun W=>W.cell? ⟨D,0+1,none⟩=some (.slice (some ⟨g,0,none⟩) m.root.length cap)∧W.cell? ⟨w.heap.size,0,none⟩=some (.int .i64 2)∧W.cell? ⟨w.heap.size,0+1,none⟩=some (.string ⟨#[]⟩)∧W.cell? ⟨w.heap.size,0+1+1,none⟩=some (.slice ea es.length ec)) (first | exact KK2.out | exact KK1.out | exact⟨d1,y0,y1,y2⟩)
  (first | (go_at_call 61;refine htk.mono ?_;rintro e w2 ⟨rfl,val2,hT,hv2⟩;have hv2:=hv2.trans HK.out.2.1;have k1:=hT.dk.root5 hv2;have hbx:w2.heap[w.heap.size]? = some (.cells #[.int .i64 2,.string ⟨#[]⟩,.slice ea es.length ec] 61):=hT.cells HK.out.2.2.1 (by have:=HK.out.1.lt;omega) HK.out.2.2.2 (HK.out.1.own.lt (Nat.le_refl _));obtain⟨k2,k3,k4⟩:=three hbx;have KK1:=Hid_mkW (And.intro k1 (And.intro k2 (And.intro k3 k4)));have hrw:=hT.dk.own.row .root (Live.root _);rw [hv2] at hrw;have rc:w2.cell? ⟨g,r,none⟩=some (.int .i64 (m.root.getD r 0)):=root_cellW hrw hr;have rf:=hrw.frozenAt r;have k1':=(cells_other hT.dk.box nDg r (.int .i64 (q:Int)));rw [hv2] at k1';have k5:=(five k1').2.1;obtain⟨k6,k7,k8⟩:=three (cells_other hbx nWg r (.int .i64 (q:Int)));have KK2:=Hid_mkW (And.intro k5 (And.intro k6 (And.intro k7 k8)));have HF:=Hid_mkW ((hT.setRoot hv2 r (q:Int)).pre (to_drew b0) hB);clear hrw k1' k5 k6 k7 k8 hbx hT))
 go_wp2_with fail
 go_end0
 exact⟨rfl,_,HF.out⟩
set_option linter.unusedSimpArgs false
set_option linter.unusedVariables false
set_option maxHeartbeats 2000000 in
theorem wlay_full0 (m:ImgD)(ea:Option Addr)(ec:Nat)(es:List Int)(r B D:Nat)(val:Nm→Value)(w:World)(hK:DK w B D val m)(hB:B≤w.heap.size)(hr:r<m.root.length)(ht:m.root.getD r 0=0)(hs:slotsE m.slots=0)(hrl:m.refs.length=m.slots.length)(hg:grabN m.slots=40)(he:w.ownsRow B 3 1 (.slice ea es.length ec) es.length (ints es))(hfar:∀a,Live m a→∀q,(Value.slice ea es.length ec).ownBlock=some q→(val a).ownBlock≠some q)(hD:(Value.slice ea es.length ec).ownBlock≠some D)(hck:ckE es=0)(hb:bareL es=false) :
  Calls Tryz.prog 93 #[.pointer (some ⟨D,0,none⟩),.int .i64 (r:Int),.slice ea es.length ec] w fun e w'=>e=.panicked noSlotP∧Below B w w':=by
 have hK1:DK (w.alloc (.cells #[.int .i64 2,.string ⟨#[]⟩,.slice ea es.length ec] 61)) B D val m:=hK.alloc _
 have hKd:DK (w.alloc (.cells #[.int .i64 2,.string ⟨#[]⟩,.slice ea es.length ec] 61)).drew B D val m:=hK1.drew
 obtain⟨g,cap,e,c,f,hgB,_,hgD⟩:=hK1.rootAt hr
 rw [ht] at c
 have d1:=hK1.root5 e
 have hgw:g<w.heap.size:=((hK.own.row .root (Live.root m)).lt g (by rw [e];rfl)).2
 have hri:(r:Int)<(m.root.length:Int):=by omega
 have mS:(w.alloc (.cells #[.int .i64 2,.string ⟨#[]⟩,.slice ea es.length ec] 61)).heap[w.heap.size]? = some (.cells #[.int .i64 2,.string ⟨#[]⟩,.slice ea es.length ec] 61):=World.alloc_heap_new _ _
 obtain⟨y0,y1,y2⟩:=three mS
 have hcall:=bare_is (row_sl he) ((bareE_eq hck).trans hb) hck
 have b0:Below w.heap.size w (w.alloc (.cells #[.int .i64 2,.string ⟨#[]⟩,.slice ea es.length ec] 61)):=(Below.refl _ _).alloc (Nat.le_refl _) _
 have hBa:B≤(w.alloc (.cells #[.int .i64 2,.string ⟨#[]⟩,.slice ea es.length ec] 61)).drew.heap.size:=Nat.le_trans hB b0.size
 have htk:=take_none (k:=2) (d:=⟨#[]⟩) (es:=es) hKd hs hg (he.alloc _).drew
 clear he hck hb e hK ht hfar mS hs hg
 go_enter Tryz.func93,Tryz.ntmps93
 go_wp2_with (go_at_call 112;refine hcall.mono ?_;rintro e w' ⟨rfl,hw⟩;rw [hw];clear hw)
 go_wp2_with fail
 refine wp_region_held_drew (S:=fun W=>W.cell? ⟨D,0+1,none⟩=some (.slice (some ⟨g,0,none⟩) m.root.length cap)∧W.cell? ⟨w.heap.size,0,none⟩=some (.int .i64 2)∧W.cell? ⟨w.heap.size,0+1,none⟩=some (.string ⟨#[]⟩)∧W.cell? ⟨w.heap.size,0+1+1,none⟩=some (.slice ea es.length ec)) (by kernel_rfl) ⟨d1,y0,y1,y2⟩ (fun hHeld=>?_)
 refine tkH 0 (.pointer (some ⟨D,0,none⟩)) rfl (Or.inl ⟨by rfl,fun w' hSw=>by obtain⟨q1,q2,q3,q4⟩:=hSw;go_simp⟩) hHeld ?_
 simp only [Act.put,List.setIfInBounds_toArray,List.set_cons_zero,List.set_cons_succ]
 refine tkH 1 (.pointer (some ⟨D,0,none⟩)) rfl (Or.inl ⟨by rfl,fun w' hSw=>by obtain⟨q1,q2,q3,q4⟩:=hSw;go_simp⟩) hHeld ?_
 simp only [Act.put,List.setIfInBounds_toArray,List.set_cons_zero,List.set_cons_succ]
 refine tkH 2 (.pointer (some ⟨D,0,none⟩)) rfl (Or.inl ⟨by rfl,fun w' hSw=>by obtain⟨q1,q2,q3,q4⟩:=hSw;go_simp⟩) hHeld ?_
 simp only [Act.put,List.setIfInBounds_toArray,List.set_cons_zero,List.set_cons_succ]
 refine tkH 3 (.pointer (some ⟨D,0+1,none⟩)) rfl (Or.inl ⟨by rfl,fun w' hSw=>by obtain⟨q1,q2,q3,q4⟩:=hSw;go_simp⟩) hHeld ?_
 simp only [Act.put,List.setIfInBounds_toArray,List.set_cons_zero,List.set_cons_succ]
 refine tkH 4 (.slice (some ⟨g,0,none⟩) m.root.length cap) rfl (Or.inl ⟨by rfl,fun w' hSw=>by obtain⟨q1,q2,q3,q4⟩:=hSw;go_simp⟩) hHeld ?_
 simp only [Act.put,List.setIfInBounds_toArray,List.set_cons_zero,List.set_cons_succ]
 refine tkH 5 (.int .i64 (r:Int)) rfl (Or.inl ⟨by rfl,fun w' hSw=>by obtain⟨q1,q2,q3,q4⟩:=hSw;go_simp⟩) hHeld ?_
 simp only [Act.put,List.setIfInBounds_toArray,List.set_cons_zero,List.set_cons_succ]
 refine tkH 6 (.pointer (some ⟨D,0,none⟩)) rfl (Or.inl ⟨by rfl,fun w' hSw=>by obtain⟨q1,q2,q3,q4⟩:=hSw;go_simp⟩) hHeld ?_
 simp only [Act.put,List.setIfInBounds_toArray,List.set_cons_zero,List.set_cons_succ]
 refine tkH 7 (.agg #[.int .i64 2,.string ⟨#[]⟩,.slice ea es.length ec]) rfl (Or.inl ⟨by rfl,fun w' hSw=>by obtain⟨q1,q2,q3,q4⟩:=hSw;go_simp⟩) hHeld ?_
 simp only [Act.put,List.setIfInBounds_toArray,List.set_cons_zero,List.set_cons_succ]
 refine wpAnyH_ready (rs:=[8]) (by kernel_rfl) (by simp) ?_
 refine AllReadyH.cons rfl (fun K hK=>?_) AllReadyH.nil
 clear hK hHeld hcall
 simp only [lays]
 rw [if_pos (by rfl)]
 go_wp2_with (go_at_call 61;refine htk.mono ?_;rintro e w2 ⟨rfl,b2⟩;first | exact⟨rfl,rfl,(b0.mono hB).trans ((below_drew b2).mono hBa)⟩ | exact⟨rfl,(b0.mono hB).trans ((below_drew b2).mono hBa)⟩ | exact⟨(b0.mono hB).trans ((below_drew b2).mono hBa)⟩ | trace_state)
set_option maxHeartbeats 2000000 in
theorem wlay_full1 (m:ImgD)(ea:Option Addr)(ec:Nat)(es:List Int)(r B D:Nat)(val:Nm→Value)(w:World)(hK:DK w B D val m)(hB:B≤w.heap.size)(hr:r<m.root.length)(t:Nat)(ht:m.root.getD r 0=(t:Int))(h1:1≤t)(htl:t<m.slots.length)(x:Int)(hrf:m.refs.getD t 0=x)(hx1:(x == 1)=false)(hs:slotsE m.slots=0)(hrl:m.refs.length=m.slots.length)(hg:grabN m.slots=40)(he:w.ownsRow B 3 1 (.slice ea es.length ec) es.length (ints es))(hfar:∀a,Live m a→∀q,(Value.slice ea es.length ec).ownBlock=some q→(val a).ownBlock≠some q)(hD:(Value.slice ea es.length ec).ownBlock≠some D)(hck:ckE es=0)(hb:bareL es=false) :
  Calls Tryz.prog 93 #[.pointer (some ⟨D,0,none⟩),.int .i64 (r:Int),.slice ea es.length ec] w fun e w'=>e=.panicked noSlotP∧Below B w w':=by
 have hK1:DK (w.alloc (.cells #[.int .i64 2,.string ⟨#[]⟩,.slice ea es.length ec] 61)) B D val m:=hK.alloc _
 have hKd:DK (w.alloc (.cells #[.int .i64 2,.string ⟨#[]⟩,.slice ea es.length ec] 61)).drew B D val m:=hK1.drew
 obtain⟨g,cap,e,c,f,hgB,_,hgD⟩:=hK1.rootAt hr
 rw [ht] at c
 have d1:=hK1.root5 e
 have hgw:g<w.heap.size:=((hK.own.row .root (Live.root m)).lt g (by rw [e];rfl)).2
 have hri:(r:Int)<(m.root.length:Int):=by omega
 obtain⟨fg,fc,e2,c2,_⟩:=hK1.refsAt (r:=t) (by omega)
 rw [hrf] at c2
 rw [hrl] at e2
 have d3:=hK1.refs5 e2
 have hti:(t:Int)<(m.slots.length:Int):=by omega
 have htb:((t:Int) != 0)=true:=by simp;omega
 have htb':¬(t:Int)=0:=by omega
 have mS:(w.alloc (.cells #[.int .i64 2,.string ⟨#[]⟩,.slice ea es.length ec] 61)).heap[w.heap.size]? = some (.cells #[.int .i64 2,.string ⟨#[]⟩,.slice ea es.length ec] 61):=World.alloc_heap_new _ _
 obtain⟨y0,y1,y2⟩:=three mS
 have hcall:=bare_is (row_sl he) ((bareE_eq hck).trans hb) hck
 have b0:Below w.heap.size w (w.alloc (.cells #[.int .i64 2,.string ⟨#[]⟩,.slice ea es.length ec] 61)):=(Below.refl _ _).alloc (Nat.le_refl _) _
 have hBa:B≤(w.alloc (.cells #[.int .i64 2,.string ⟨#[]⟩,.slice ea es.length ec] 61)).drew.heap.size:=Nat.le_trans hB b0.size
 have htk:=take_none (k:=2) (d:=⟨#[]⟩) (es:=es) hKd hs hg (he.alloc _).drew
 clear he hck hb e hK ht hfar mS hs hg e2 hrf
 go_enter Tryz.func93,Tryz.ntmps93
 go_wp2_with (go_at_call 112;refine hcall.mono ?_;rintro e w' ⟨rfl,hw⟩;rw [hw];clear hw)
 go_wp2_with fail
 refine wp_region_held_drew (S:=fun W=>W.cell? ⟨D,0+1,none⟩=some (.slice (some ⟨g,0,none⟩) m.root.length cap)∧W.cell? ⟨w.heap.size,0,none⟩=some (.int .i64 2)∧W.cell? ⟨w.heap.size,0+1,none⟩=some (.string ⟨#[]⟩)∧W.cell? ⟨w.heap.size,0+1+1,none⟩=some (.slice ea es.length ec)) (by kernel_rfl) ⟨d1,y0,y1,y2⟩ (fun hHeld=>?_)
 refine tkH 0 (.pointer (some ⟨D,0,none⟩)) rfl (Or.inl ⟨by rfl,fun w' hSw=>by obtain⟨q1,q2,q3,q4⟩:=hSw;go_simp⟩) hHeld ?_
 simp only [Act.put,List.setIfInBounds_toArray,List.set_cons_zero,List.set_cons_succ]
 refine tkH 1 (.pointer (some ⟨D,0,none⟩)) rfl (Or.inl ⟨by rfl,fun w' hSw=>by obtain⟨q1,q2,q3,q4⟩:=hSw;go_simp⟩) hHeld ?_
 simp only [Act.put,List.setIfInBounds_toArray,List.set_cons_zero,List.set_cons_succ]
 refine tkH 2 (.pointer (some ⟨D,0,none⟩)) rfl (Or.inl ⟨by rfl,fun w' hSw=>by obtain⟨q1,q2,q3,q4⟩:=hSw;go_simp⟩) hHeld ?_
 simp only [Act.put,List.setIfInBounds_toArray,List.set_cons_zero,List.set_cons_succ]
 refine tkH 3 (.pointer (some ⟨D,0+1,none⟩)) rfl (Or.inl ⟨by rfl,fun w' hSw=>by obtain⟨q1,q2,q3,q4⟩:=hSw;go_simp⟩) hHeld ?_
 simp only [Act.put,List.setIfInBounds_toArray,List.set_cons_zero,List.set_cons_succ]
 refine tkH 4 (.slice (some ⟨g,0,none⟩) m.root.length cap) rfl (Or.inl ⟨by rfl,fun w' hSw=>by obtain⟨q1,q2,q3,q4⟩:=hSw;go_simp⟩) hHeld ?_
 simp only [Act.put,List.setIfInBounds_toArray,List.set_cons_zero,List.set_cons_succ]
 refine tkH 5 (.int .i64 (r:Int)) rfl (Or.inl ⟨by rfl,fun w' hSw=>by obtain⟨q1,q2,q3,q4⟩:=hSw;go_simp⟩) hHeld ?_
 simp only [Act.put,List.setIfInBounds_toArray,List.set_cons_zero,List.set_cons_succ]
 refine tkH 6 (.pointer (some ⟨D,0,none⟩)) rfl (Or.inl ⟨by rfl,fun w' hSw=>by obtain⟨q1,q2,q3,q4⟩:=hSw;go_simp⟩) hHeld ?_
 simp only [Act.put,List.setIfInBounds_toArray,List.set_cons_zero,List.set_cons_succ]
 refine tkH 7 (.agg #[.int .i64 2,.string ⟨#[]⟩,.slice ea es.length ec]) rfl (Or.inl ⟨by rfl,fun w' hSw=>by obtain⟨q1,q2,q3,q4⟩:=hSw;go_simp⟩) hHeld ?_
 simp only [Act.put,List.setIfInBounds_toArray,List.set_cons_zero,List.set_cons_succ]
 refine wpAnyH_ready (rs:=[8]) (by kernel_rfl) (by simp) ?_
 refine AllReadyH.cons rfl (fun K hK=>?_) AllReadyH.nil
 clear hK hHeld hcall
 simp only [lays]
 rw [if_pos (by rfl)]
 go_wp2_with (go_at_call 61;refine htk.mono ?_;rintro e w2 ⟨rfl,b2⟩;first | exact⟨rfl,rfl,(b0.mono hB).trans ((below_drew b2).mono hBa)⟩ | exact⟨rfl,(b0.mono hB).trans ((below_drew b2).mono hBa)⟩ | exact⟨(b0.mono hB).trans ((below_drew b2).mono hBa)⟩ | trace_state)
structure Kin (a b:ImgD):Prop where
 guest:a.guest=b.guest
 root:a.root=b.root
 slots:a.slots=b.slots
 snaps:a.snaps=b.snaps
 refs:a.refs.length=b.refs.length
theorem Kin.roots {a b:ImgD}(h:Kin a b):rootsOf a=rootsOf b:=by unfold rootsOf;rw [h.guest,h.root,h.snaps]
theorem Kin.cnt {a b:ImgD}(h:Kin a b):cntL a=cntL b:=by unfold cntL;rw [h.roots,h.slots]
theorem Kin.counted {a b:ImgD}(h:Kin a b):countedD a=countedD b:=by
 have hc:=h.cnt
 unfold countedD
 rw [hc,h.slots]
 obtain⟨h1,h2,_,h4,_⟩:=h
 cases a
 cases b
 simp only at h1 h2 h4
 subst h1 h2 h4
 rfl
theorem Kin.shape {a b:ImgD}(h:Kin a b):shapeE a=shapeE b:=by
 unfold shapeE
 rw [h.roots,h.slots,h.snaps,h.refs]
structure Meets (o p:Option ImgD):Prop where
 none:o=none→p=none
 some:∀M,o=some M→shapeE M=0∧p=some (countedD M)
theorem Meets.m {o p:Option ImgD}(h:Meets o p):ofM o=p.getD imgZ:=by
 cases ho:o with
 | none=>rw [h.none ho];rfl
 | some M=>
  obtain⟨h1,h2⟩:=h.some M ho
  rw [h2]
  unfold ofM
  dsimp only
  rw [if_pos h1]
  rfl
def errO (p:Option ImgD):Int:=if p.isSome=true then 0 else 7
theorem Meets.e {o p:Option ImgD}(h:Meets o p):ofE o=errO p:=by
 cases ho:o with
 | none=>rw [h.none ho];rfl
 | some M=>
  obtain⟨h1,h2⟩:=h.some M ho
  rw [h2]
  exact h1
theorem inPl_spec {m:ImgD}(hC:checkE m=0){r:Nat}(hr:r<m.root.length)(hp:inPl m r=true):∃t:Nat,m.root.getD r 0=(t:Int)∧1≤t∧t<m.slots.length∧m.refs.getD t 0=1:=by
 have hs:=checkE_shape hC
 have hro:=root_ok hs
 unfold inPl at hp
 simp only [Bool.and_eq_true,bne_iff_ne,ne_eq,beq_iff_eq] at hp
 have hm:m.root.getD r 0 ∈ m.root:=by simp [List.getD,hr]
 have hE:=List.all_eq_true.1 hro.2 _ hm
 unfold rootE at hE
 have hk:isKd m.slots (m.root.getD r 0) 2=true:=by
  cases hx:isKd m.slots (m.root.getD r 0) 2 with
  | true=>rfl
  | false=>rw [hx] at hE;simp at hE;exact absurd hE hp.1
 obtain⟨j,hj,hjl,_⟩:=isKd_yes hk
 refine⟨j,hj,by omega,hjl,?_⟩
 rw [hj,Int.toNat_natCast] at hp
 exact hp.2
theorem root_nat {m:ImgD}(hs:shapeE m=0){r:Nat}(hr:r<m.root.length):∃t:Nat,m.root.getD r 0=(t:Int)∧t<m.slots.length:=by
 have hro:=root_ok hs
 have hm:m.root.getD r 0 ∈ m.root:=by simp [List.getD,hr]
 have hE:=List.all_eq_true.1 hro.2 _ hm
 have hp:=slotsE_parts (shapeE_zero hs).2.1
 by_cases h0:m.root.getD r 0=0
 ·exact⟨0,h0,by omega⟩
 ·unfold rootE at hE
  have hk:isKd m.slots (m.root.getD r 0) 2=true:=by
   cases hx:isKd m.slots (m.root.getD r 0) 2 with
   | true=>rfl
   | false=>rw [hx] at hE;simp at hE;exact absurd hE h0
  obtain⟨j,hj,hjl,_⟩:=isKd_yes hk
  exact⟨j,hj,hjl⟩
theorem layP_tabled {m:ImgD}(hC:checkE m=0){r:Nat}(hr:r<m.root.length)(es:List Int):(layP m r es=none↔tabledD m r es=none)∧∀M,layP m r es=some M→∃M',tabledD m r es=some M'∧(M.refs.length=M.slots.length→M'.refs.length=M'.slots.length→Kin M M'):=by
 have hs:=checkE_shape hC
 have hp:=slotsE_parts (shapeE_zero hs).2.1
 unfold layP tabledD
 by_cases hb:bareL es=true
 ·rw [if_pos hb,if_pos hb]
  exact⟨by simp,fun M hM=>⟨_,rfl,fun h1 h2=>by cases hM;exact⟨rfl,rfl,rfl,rfl,rfl⟩⟩⟩
 ·rw [if_neg hb,if_neg hb]
  by_cases hi:inPl m r=true
  ·rw [if_pos hi]
   obtain⟨t,ht,h1,htl,_⟩:=inPl_spec hC hr hi
   have htn:tabN m r=t:=by unfold tabN;rw [if_pos hi,ht];rfl
   rw [htn,if_neg (by omega)]
   refine⟨by simp,fun M hM=>⟨_,rfl,fun h1 h2=>?_⟩⟩
   cases hM
   have hset:m.root.set r (t:Int)=m.root:=by
    apply List.ext_getElem
    ·simp
    ·intro j h1 h2
     by_cases e:r=j
     ·subst e
      simp only [List.getElem_set_self]
      rw [←ht]
      simp [List.getD,hr]
     ·simp [e]
   have hsl:tabL m r es=m.slots.set t (2,⟨#[]⟩,es):=by unfold tabL layS;rw [htn,if_neg (by omega)]
   refine⟨rfl,?_,?_,rfl,?_⟩
   ·show m.root=m.root.set r (t:Int)
    exact hset.symm
   ·show m.slots.set (m.root.getD r 0).toNat _=tabL m r es
    rw [hsl,ht];rfl
   ·rw [h1,h2]
    show (m.slots.set (m.root.getD r 0).toNat _).length=(tabL m r es).length
    rw [hsl,List.length_set,List.length_set]
  ·rw [if_neg hi]
   have htn:tabN m r=grabN m.slots:=by unfold tabN;rw [if_neg hi]
   rw [htn]
   by_cases hg:grabN m.slots=40
   ·rw [if_pos hg,if_pos hg]
    exact⟨by simp,fun M hM=>(by cases hM)⟩
   ·rw [if_neg hg,if_neg hg]
    refine⟨by simp,fun M hM=>⟨_,rfl,fun h1 h2=>?_⟩⟩
    cases hM
    have hsl:tabL m r es=layS m.slots (grabN m.slots) (2,⟨#[]⟩,es):=by unfold tabL;rw [htn]
    refine⟨rfl,rfl,?_,rfl,?_⟩
    ·show layS m.slots (grabN m.slots) _=tabL m r es
     rw [hsl]
    ·rw [h1,h2]
     show (layS m.slots (grabN m.slots) _).length=(tabL m r es).length
     rw [hsl]
theorem layR_len {m:ImgD}(hrl:m.refs.length=m.slots.length)(n:Nat)(s:SlotD)(x:Int):(layR m.refs n x).length=(layS m.slots n s).length:=by
 rw [layR_length,layS_length,hrl]
theorem layP_len {m:ImgD}(hrl:m.refs.length=m.slots.length){r:Nat}{es:List Int}{M:ImgD}(h:layP m r es=some M):M.refs.length=M.slots.length:=by
 unfold layP at h
 split at h
 ·cases h;exact hrl
 ·split at h
  ·cases h
   show m.refs.length=(m.slots.set _ _).length
   rw [List.length_set];exact hrl
  ·split at h
   ·cases h
   ·cases h
    exact layR_len hrl _ _ _
theorem tabled_len {m:ImgD}(hrl:m.refs.length=m.slots.length){r:Nat}{es:List Int}{M:ImgD}(h:tabledD m r es=some M):M.refs.length=M.slots.length:=by
 unfold tabledD at h
 split at h
 ·cases h;exact hrl
 ·split at h
  ·cases h
  ·cases h
   show (rfZ _).length=_
   simp [rfZ,tabSet]
theorem grabF_kd {L L':List SlotD}(h:∀j,kd L j=kd L' j)(hl:L.length=L'.length):grabN L=grabN L':=by
 rcases Nat.eq_zero_or_pos L.length with h0 | h0
 ·have e1:L=[]:=List.eq_nil_of_length_eq_zero h0
  have e2:L'=[]:=List.eq_nil_of_length_eq_zero (by omega)
  rw [e1,e2]
 ·have g1:=grabN_spec (L:=L) h0
  have g2:=grabN_spec (L:=L') (by omega)
  rcases Nat.lt_trichotomy (grabN L) (grabN L') with x | x | x
  ·exact absurd ((h _).symm.trans g1.2.2.2) (g2.2.2.1 _ g1.1 x)
  ·exact x
  ·exact absurd ((h _).trans g2.2.2.2) (g1.2.2.1 _ g2.1 x)
def wr1 (m:ImgD) (n:Nat):Option ImgD:=layP m (n / 4) ((tableO m (n / 4)).set (n % 4) (-1))
def wrP (m:ImgD) (n:Nat) (page:ByteArray):Option ImgD:=
 if wInPl m n=true then some { m with slots:=m.slots.set (lookV m m.root n).toNat (1,page,[]) }
 else match wr1 m n with
  | none=>none
  | some m1=>if grabN m1.slots=40 then none else layP (takeD m1 (1,page,[])) (n / 4) ((tableO (takeD m1 (1,page,[])) (n / 4)).set (n % 4) (grabN m1.slots:Int))
theorem bare_set {es:List Int}(h:es.length=4)(i:Nat)(hi:i<4){e:Int}(he:e≠0):bareL (es.set i e)=false:=bare_get (i:=i) (by rw [List.length_set];omega) (by rw [set_get (by omega)];exact he)
theorem wr1_spec {m:ImgD}(hC:checkE m=0){n:Nat}(hn:(n:Int)<m.guest) :
  (wr1 m n=none∧tabN m (n / 4)=40)∨∃m1,wr1 m n=some m1∧tabN m (n / 4)≠40∧m1.guest=m.guest∧m1.snaps=m.snaps∧m1.root=m.root.set (n / 4) (tabN m (n / 4):Int)∧m1.slots=tabL m (n / 4) ((tableO m (n / 4)).set (n % 4) (-1))∧m1.refs.length=m1.slots.length∧m1.refs.getD (tabN m (n / 4)) 0=1:=by
 have hs:=checkE_shape hC
 have hg:=guest_ok hs
 have hro:=root_ok hs
 have hrl:=(shapeE_zero hs).2.2.1
 have hk:n / 4<m.root.length:=by omega
 obtain⟨t1,_⟩:=tableO_ok hs hk
 have hb:=bare_set (ckE_len t1) (n % 4) (by omega) (e:=-1) (by decide)
 have hlen:=fun M (h:wr1 m n=some M)=>layP_len hrl h
 unfold wr1 at hlen ⊢
 unfold layP at hlen ⊢
 rw [if_neg (by rw [hb];decide)] at hlen ⊢
 by_cases hi:inPl m (n / 4)=true
 ·rw [if_pos hi] at hlen ⊢
  obtain⟨t,ht,h1,htl,hrf⟩:=inPl_spec hC hk hi
  have hp:=slotsE_parts (shapeE_zero hs).2.1
  have htn:tabN m (n / 4)=t:=by unfold tabN;rw [if_pos hi,ht];rfl
  refine .inr ⟨_,rfl,by omega,rfl,rfl,?_,?_,hlen _ rfl,?_⟩
  ·show m.root=_
   rw [htn]
   apply List.ext_getElem
   ·simp
   ·intro j h1 h2
    by_cases e:n / 4=j
    ·subst e
     simp only [List.getElem_set_self]
     rw [←ht]
     simp [List.getD,hk]
    ·simp [e]
  ·show m.slots.set _ _=_
   unfold tabL layS
   rw [htn,if_neg (by omega),ht];rfl
  ·show m.refs.getD _ 0=1
   rw [htn];exact hrf
 ·rw [if_neg hi] at hlen ⊢
  have htn:tabN m (n / 4)=grabN m.slots:=by unfold tabN;rw [if_neg hi]
  by_cases hg40:grabN m.slots=40
  ·rw [if_pos hg40]
   exact .inl ⟨rfl,htn.trans hg40⟩
  ·rw [if_neg hg40] at hlen ⊢
   refine .inr ⟨_,rfl,by omega,rfl,rfl,by rw [htn],?_,hlen _ rfl,?_⟩
   ·show layS _ _ _=_
    unfold tabL
    rw [htn]
   ·show (layR m.refs (grabN m.slots) 1).getD _ 0=1
    rw [htn]
    unfold layR
    have hgs:=grabN_spec (L:=m.slots) (slotsE_parts (shapeE_zero hs).2.1).1
    split
    ·rename_i e
     rw [e]
     simp [List.getD]
    ·rename_i e
     rw [getD_setI,if_pos ⟨rfl,by omega⟩]
theorem wrP_meets {m:ImgD}(hC:checkE m=0){n:Nat}(hn:(n:Int)<m.guest){page:ByteArray}(hp:page.size=4):Meets (wrP m n page) (writeD m n page):=by
 have hs:=checkE_shape hC
 have hg:=guest_ok hs
 have hro:=root_ok hs
 have hk:n / 4<m.root.length:=by omega
 obtain⟨t1,_⟩:=tableO_ok hs hk
 have h4:=ckE_len t1
 unfold wrP writeD
 by_cases hw:wInPl m n=true
 ·rw [if_pos hw,if_pos hw]
  have hk1:kd m.slots (lookV m m.root n).toNat=1:=by
   unfold wInPl at hw
   simp only [Bool.and_eq_true,decide_eq_true_eq] at hw
   rcases lookV_ent hs hro.2 n (by omega) with h | h | ⟨j,hj,h1,hjl,hkd⟩
   ·omega
   ·omega
   ·rw [hj,Int.toNat_natCast];exact hkd
  have h:=setP_same hC hk1 hp
  exact⟨fun x=>(by cases x),fun M hM=>(by cases hM;exact⟨checkE_shape h.1,by rw [counted_same h.1]⟩)⟩
 ·rw [if_neg hw,if_neg hw]
  rcases wr1_spec hC hn with ⟨h1,h2⟩ | ⟨m1,h1,h2,hgu,hsn,hrt,hsl,hrl,hrf⟩
  ·rw [h1,if_pos h2]
   exact⟨fun _=>rfl,fun M hM=>(by cases hM)⟩
  ·rw [h1,if_neg h2]
   dsimp only
   obtain⟨x1,x2,x3,x4,x5⟩:=tabN_spec hC hk h2
   have hkd:∀es,∀j,kd (tabL m (n / 4) es) j=if j=tabN m (n / 4) then 2 else kd m.slots j:=fun es j=>layS_kd x2 j
   have hll:∀es es',(tabL m (n / 4) es).length=(tabL m (n / 4) es').length:=fun es es'=>by unfold tabL;rw [layS_length,layS_length]
   have hd:grabN m1.slots=wD m n:=by
    rw [hsl]
    exact grabF_kd (fun j=>by rw [hkd,hkd]) (hll _ _)
   rw [hd]
   by_cases hd40:wD m n=40
   ·rw [if_pos hd40,if_pos hd40]
    exact⟨fun _=>rfl,fun M hM=>(by cases hM)⟩
   ·rw [if_neg hd40,if_neg hd40]
    have hL:=(write_laid hC hn h2 hd40 hp).1
    have hm1l:1≤m1.slots.length:=by rw [hsl];unfold tabL;rw [layS_length];have:=(slotsE_parts (shapeE_zero hs).2.1).1;split <;> omega
    have hgs:=grabN_spec hm1l
    rw [hd] at hgs
    have hdt:wD m n≠tabN m (n / 4):=fun e=>by
     have:=hgs.2.2.2
     rw [hsl,hkd,if_pos e] at this
     cases this
    have hrlt:n / 4<m1.root.length:=by rw [hrt,List.length_set];exact hk
    have hrv:(takeD m1 (1,page,[])).root.getD (n / 4) 0=(tabN m (n / 4):Int):=by
     show m1.root.getD (n / 4) 0=_
     rw [hrt,getD_setI,if_pos ⟨rfl,hk⟩]
    have hsl2:(takeD m1 (1,page,[])).slots=layS m1.slots (wD m n) (1,page,[]):=by unfold takeD;rw [hd]
    have hrf2:(takeD m1 (1,page,[])).refs=layR m1.refs (wD m n) 1:=by unfold takeD;rw [hd]
    have htl:tabN m (n / 4)<m1.slots.length:=by rw [hsl];unfold tabL;rw [layS_length];split <;> omega
    have hget:∀j,(takeD m1 (1,page,[])).slots.getD j default=if j=wD m n then (1,page,[]) else m1.slots.getD j default:=fun j=>by rw [hsl2];exact layS_get hgs.2.1 j
    have hget1:∀es,∀j,(tabL m (n / 4) es).getD j default=if j=tabN m (n / 4) then (2,⟨#[]⟩,es) else m.slots.getD j default:=fun es j=>layS_get x2 j
    have htO:tableO (takeD m1 (1,page,[])) (n / 4)=(tableO m (n / 4)).set (n % 4) (-1):=by
     unfold tableO
     rw [hrv,if_neg (by omega)]
     unfold tabOf
     rw [Int.toNat_natCast,hget,if_neg (fun e=>hdt e.symm),hsl,hget1,if_pos rfl]
     rfl
    have hes:((tableO m (n / 4)).set (n % 4) (-1)).set (n % 4) (wD m n:Int)=wEs m n:=by unfold wEs;rw [List.set_set]
    rw [htO,hes]
    have hb:bareL (wEs m n)=false:=bare_set h4 (n % 4) (by omega) (by have:=hgs.1;omega)
    have hip:inPl (takeD m1 (1,page,[])) (n / 4)=true:=by
     unfold inPl
     rw [hrv,Int.toNat_natCast]
     simp only [Bool.and_eq_true,bne_iff_ne,ne_eq,beq_iff_eq]
     refine⟨by omega,?_⟩
     rw [hrf2]
     unfold layR
     split
     ·rename_i e
      have:tabN m (n / 4)<m1.refs.length:=by rw [hrl];exact htl
      have e2:(m1.refs ++ [(1:Int)]).getD (tabN m (n / 4)) 0=m1.refs.getD (tabN m (n / 4)) 0:=by simp [List.getD,List.getElem?_append,this]
      rw [e2];exact hrf
     ·rw [getD_setI,if_neg (fun e=>hdt e.1)];exact hrf
    have hlay:layP (takeD m1 (1,page,[])) (n / 4) (wEs m n)=some { takeD m1 (1,page,[]) with slots:=(takeD m1 (1,page,[])).slots.set (tabN m (n / 4)) (2,⟨#[]⟩,wEs m n) }:=by
     unfold layP
     rw [if_neg (by rw [hb];decide),if_pos hip,hrv];rfl
    rw [hlay]
    have hlen2:(takeD m1 (1,page,[])).slots.length=(wL m n page).length:=by
     rw [hsl2,hsl]
     unfold wL
     rw [layS_length,layS_length,hll ((tableO m (n / 4)).set (n % 4) (-1)) (wEs m n)]
    have htl2:tabN m (n / 4)<(takeD m1 (1,page,[])).slots.length:=by
     have:m1.slots.length≤(takeD m1 (1,page,[])).slots.length:=by rw [hsl2,layS_length];split <;> omega
     omega
    have hwLd:wD m n≤(tabL m (n / 4) (wEs m n)).length:=by
     have:=hgs.2.1
     rw [hsl] at this
     rw [hll (wEs m n) ((tableO m (n / 4)).set (n % 4) (-1))]
     exact this
    have hK:Kin { takeD m1 (1,page,[]) with slots:=(takeD m1 (1,page,[])).slots.set (tabN m (n / 4)) (2,⟨#[]⟩,wEs m n) } (tabSet m (n / 4) (tabN m (n / 4)) (wL m n page) (rfZ (wL m n page))):=by
     refine⟨hgu,hrt,?_,hsn,?_⟩
     ·refine slots_ext (by show (List.set _ _ _).length=_;rw [List.length_set];exact hlen2) (fun j hj=>?_)
      show ((takeD m1 (1,page,[])).slots.set _ _).getD j default=(wL m n page).getD j default
      rw [getD_setR,hget]
      unfold wL
      rw [layS_get hwLd,hget1,hsl,hget1]
      by_cases e1:tabN m (n / 4)=j
      ·subst e1
       rw [if_pos ⟨rfl,htl2⟩,if_neg (fun e=>hdt e.symm),if_pos rfl]
      ·rw [if_neg (fun e=>e1 e.1)]
       by_cases e2:j=wD m n
       ·rw [if_pos e2,if_pos e2]
       ·rw [if_neg e2,if_neg e2,if_neg (fun e=>e1 e.symm),if_neg (fun e=>e1 e.symm)]
     ·show (takeD m1 (1,page,[])).refs.length=(rfZ (wL m n page)).length
      have:(rfZ (wL m n page)).length=(wL m n page).length:=by simp [rfZ]
      rw [this,← hlen2]
      exact layR_len hrl _ _ _
    exact⟨fun x=>(by cases x),fun M hM=>(by cases hM;exact⟨hK.shape.trans hL.shape,by rw [hK.counted]⟩)⟩
theorem wlay_is {m:ImgD}{ev:Value}{es:List Int}{r t B D:Nat}{val:Nm→Value}{w:World}(hK:DK w B D val m)(hB:B≤w.heap.size)(hr:r<m.root.length)(ht:m.root.getD r 0=(t:Int))(htl:t<m.slots.length)(hs:inPl m r=true∨slotsE m.slots=0)(hrl:m.refs.length=m.slots.length)(he:w.ownsRow B 3 1 ev es.length (ints es))(hfar:∀a,Live m a→∀q,ev.ownBlock=some q→(val a).ownBlock≠some q)(hD:ev.ownBlock≠some D)(hck:ckE es=0) :
  Calls Tryz.prog 93 #[.pointer (some ⟨D,0,none⟩),.int .i64 (r:Int),ev] w (Tells w B D m val ev (layP m r es)):=by
 obtain⟨ea,ec,hev⟩:=row_slice he
 subst hev
 unfold layP
 cases hb:bareL es with
 | true=>
  rw [if_pos rfl]
  exact wlay_bare m ea ec es r B D val w hK hr (row_sl he) hck hb
 | false=>
  rw [if_neg (by simp)]
  cases hi:inPl m r with
  | true=>
   rw [if_pos rfl]
   unfold inPl at hi
   rw [ht,Int.toNat_natCast] at hi
   simp only [Bool.and_eq_true,bne_iff_ne,ne_eq,beq_iff_eq] at hi
   rw [ht,Int.toNat_natCast]
   exact wlay_place m ea ec es r t B D val w hK hB hr ht (by omega) htl hrl hi.2 he hfar hD hck hb
  | false=>
   rw [if_neg (by simp)]
   have hs:=hs.resolve_left (by rw [hi];simp)
   unfold inPl at hi
   rw [ht,Int.toNat_natCast] at hi
   have h1:1≤t→(m.refs.getD t 0 == 1)=false:=fun h=>by
    cases hx:m.refs.getD t 0 == 1 with
    | false=>rfl
    | true=>
     rw [hx] at hi
     simp at hi
     omega
   by_cases hg:grabN m.slots=40
   ·rw [if_pos hg]
    by_cases h0:t=0
    ·subst h0
     exact wlay_full0 m ea ec es r B D val w hK hB hr ht hs hrl hg he hfar hD hck hb
    ·exact wlay_full1 m ea ec es r B D val w hK hB hr t ht (by omega) htl _ rfl (h1 (by omega)) hs hrl hg he hfar hD hck hb
   ·rw [if_neg hg]
    by_cases h0:t=0
    ·subst h0
     exact wlay_grab0 m ea ec es r _ B D val w hK hB hr ht hs hrl rfl hg he hfar hD hck hb
    ·exact wlay_grab1 m ea ec es r _ B D val w hK hB hr t ht (by omega) htl _ rfl (h1 (by omega)) hs hrl rfl hg he hfar hD hck hb
theorem wlay_new {m:ImgD}{ev:Value}{es:List Int}{r t B C D:Nat}{val:Nm→Value}{w W:World}(hK:DK w B D val m)(hB:B≤w.heap.size)(hr:r<m.root.length)(ht:m.root.getD r 0=(t:Int))(htl:t<m.slots.length)(hs:inPl m r=true∨slotsE m.slots=0)(hrl:m.refs.length=m.slots.length)(hb:Below w.heap.size w W)(hC:w.heap.size≤C)(he:W.ownsRow C 3 1 ev es.length (ints es))(hck:ckE es=0){o:Option ImgD}(ho:layP m r es=o) :
  Calls Tryz.prog 93 #[.pointer (some ⟨D,0,none⟩),.int .i64 (r:Int),ev] W (Tells w B D m val nilV o):=by
 subst ho
 have hlt:∀q,ev.ownBlock=some q→w.heap.size≤q:=fun q hq=>Nat.le_trans hC (he.lt q hq).1
 refine (wlay_is (hK.below hb) (Nat.le_trans hB hb.size) hr ht htl hs hrl (row_mono he (Nat.le_trans hB hC)) (fun a ha q hq x=>?_) (fun x=>?_) hck).mono ?_
 ·have h1:=hlt q hq
  have h2:=((hK.own.row a ha).lt q x).2
  omega
 ·have h1:=hlt D x
  have h2:=hK.lt
  omega
 ·intro e W' hT
  cases ho:layP m r es with
  | none=>
   rw [ho] at hT
   obtain⟨h1,h2⟩:=hT
   exact⟨h1,(hb.mono hB).trans h2⟩
  | some M=>
   rw [ho] at hT
   obtain⟨h1,val',h2⟩:=hT
   exact⟨h1,val',DTo.first hb hB h2 hlt⟩
set_option maxHeartbeats 2000000 in
theorem put_is {m:ImgD}{n t B D:Nat}{e:Int}{val:Nm→Value}{w:World}(hK:DK w B D val m)(hB:B≤w.heap.size)(h16:n<16)(hr:n / 4<m.root.length)(ht:m.root.getD (n / 4) 0=(t:Int))(htl:t<m.slots.length)(hs:inPl m (n / 4)=true∨slotsE m.slots=0)(hrl:m.refs.length=m.slots.length)(hck:ckE (tableO m (n / 4))=0)(hE:isE e=true) :
  Calls Tryz.prog 60 #[.pointer (some ⟨D,0,none⟩),.int .i64 (n:Int),.int .i64 e] w (Tells w B D m val nilV (layP m (n / 4) ((tableO m (n / 4)).set (n % 4) e))):=by
 have e4:((n / 4:Nat):Int)=(n:Int) / 4:=by omega
 have e5:((n % 4:Nat):Int)=(n:Int) % 4:=by omega
 have hent:=entries_is hK hr ht htl
 rw [e4] at hent
 have HW:Hid (∀v w1,Sl w1 v (tableO m (n / 4))→Calls Tryz.prog 91 #[v,.int .i64 ((n:Int) % 4),.int .i64 e] w1 fun r w'=>∃v',r=.returned (.tuple #[v',.int .i64 0])∧w'.ownsRow w1.heap.size 3 1 v' ((tableO m (n / 4)).set (n % 4) e).length (ints ((tableO m (n / 4)).set (n % 4) e))∧Below w1.heap.size w1 w'):=fun v w1 h1=>by
  have:=with_own v _ (n % 4) e w1 h1 hck (by omega) hE
  rw [e5] at this
  exact this
 cases ho:layP m (n / 4) ((tableO m (n / 4)).set (n % 4) e) with
 | none=>
  have HL:Hid (∀ev C W,Below w.heap.size w W→w.heap.size≤C→W.ownsRow C 3 1 ev ((tableO m (n / 4)).set (n % 4) e).length (ints ((tableO m (n / 4)).set (n % 4) e))→Calls Tryz.prog 93 #[.pointer (some ⟨D,0,none⟩),.int .i64 ((n:Int) / 4),ev] W (Tells w B D m val nilV none)):=fun ev C W h1 h2 h3=>by
   have:=wlay_new hK hB hr ht htl hs hrl h1 h2 h3 (set_ck hck hE) ho
   rw [e4] at this
   exact this
  clear hK hs hrl hck hE ht htl hr hB ho e4 e5
  go_enter Tryz.func60,Tryz.ntmps60
  go_wp2_with (first | (go_at_call 93;refine (HL.out _ _ _ (Below.on b1 b2) b1.size ho2).mono ?_;rintro e w3 ⟨rfl,b3⟩;exact⟨rfl,rfl,b3⟩) | (go_at_call 91;refine (HW.out _ _ hs1).mono ?_;rintro e w2 ⟨v2,rfl,ho2,b2⟩) | (go_at_call 92;refine hent.mono ?_;rintro e w1 ⟨v1,rfl,hs1,b1⟩))
 | some M=>
  have HL:Hid (∀ev C W,Below w.heap.size w W→w.heap.size≤C→W.ownsRow C 3 1 ev ((tableO m (n / 4)).set (n % 4) e).length (ints ((tableO m (n / 4)).set (n % 4) e))→Calls Tryz.prog 93 #[.pointer (some ⟨D,0,none⟩),.int .i64 ((n:Int) / 4),ev] W (Tells w B D m val nilV (some M))):=fun ev C W h1 h2 h3=>by
   have:=wlay_new hK hB hr ht htl hs hrl h1 h2 h3 (set_ck hck hE) ho
   rw [e4] at this
   exact this
  clear hK hs hrl hck hE ht htl hr hB ho e4 e5
  go_enter Tryz.func60,Tryz.ntmps60
  go_wp2_with (first | (go_at_call 93;refine (HL.out _ _ _ (Below.on b1 b2) b1.size ho2).mono ?_;rintro e w3 ⟨rfl,val3,hT⟩) | (go_at_call 91;refine (HW.out _ _ hs1).mono ?_;rintro e w2 ⟨v2,rfl,ho2,b2⟩) | (go_at_call 92;refine hent.mono ?_;rintro e w1 ⟨v1,rfl,hs1,b1⟩))
  go_end0
  exact⟨rfl,val3,hT⟩
theorem lay_shape {m:ImgD}(hC:checkE m=0){n:Nat}(hn:(n:Int)<m.guest){e:Int}(he:e=0∨e = -1){M:ImgD}(hM:layP m (n / 4) ((tableO m (n / 4)).set (n % 4) e)=some M):shapeE M=0:=by
 have hs:=checkE_shape hC
 have hg:=guest_ok hs
 have hro:=root_ok hs
 have hrl:=(shapeE_zero hs).2.2.1
 have hk:n / 4<m.root.length:=by omega
 obtain⟨hiff,hsome⟩:=layP_tabled hC hk ((tableO m (n / 4)).set (n % 4) e)
 obtain⟨t1,t2⟩:=tableO_ok hs hk
 have hisE:isE e=true:=by rcases he with rfl | rfl <;> decide
 have htE:tabE m.slots e=true:=by rcases he with rfl | rfl <;> simp [tabE]
 obtain⟨M',hM',hkin⟩:=hsome M hM
 have hK:=hkin (layP_len hrl hM) (tabled_len hrl hM')
 have hL:=(tabled_laid hC hk (set_ck t1 hisE) (fun x hx=>by rcases mem_set hx with h | h;exact t2 x h;rw [h];exact htE) (tail_set (tableO_tail hs _) hn rfl hro.1 e) hM').1
 exact hK.shape.trans hL.shape
theorem wr2_facts {m m1:ImgD}(hC:checkE m=0){n:Nat}(hn:(n:Int)<m.guest)(h1:wr1 m n=some m1)(hd40:grabN m1.slots≠40)(page:ByteArray) :
  ∃t:Nat,(takeD m1 (1,page,[])).root.getD (n / 4) 0=(t:Int)∧t<(takeD m1 (1,page,[])).slots.length∧inPl (takeD m1 (1,page,[])) (n / 4)=true∧(takeD m1 (1,page,[])).refs.length=(takeD m1 (1,page,[])).slots.length∧n / 4<(takeD m1 (1,page,[])).root.length∧ckE (tableO (takeD m1 (1,page,[])) (n / 4))=0∧isE (grabN m1.slots:Int)=true:=by
 have hs:=checkE_shape hC
 have hs1:=lay_shape hC hn (.inr rfl) h1
 have hg4:=grabN_le40 (shapeE_zero hs1).2.1
 have hg:=guest_ok hs
 have hro:=root_ok hs
 have hk:n / 4<m.root.length:=by omega
 obtain⟨t1,_⟩:=tableO_ok hs hk
 have h4:=ckE_len t1
 rcases wr1_spec hC hn with ⟨h,_⟩ | ⟨m1',h,h2,hgu,hsn,hrt,hsl,hrl,hrf⟩
 ·rw [h1] at h;cases h
 rw [h1] at h
 cases h
 obtain⟨x1,x2,x3,x4,x5⟩:=tabN_spec hC hk h2
 have hkd:∀es,∀j,kd (tabL m (n / 4) es) j=if j=tabN m (n / 4) then 2 else kd m.slots j:=fun es j=>layS_kd x2 j
 have hm1l:1≤m1.slots.length:=(slotsE_parts (shapeE_zero hs1).2.1).1
 have hgs:=grabN_spec hm1l
 obtain⟨d,hd⟩:∃d,grabN m1.slots=d:=⟨_,rfl⟩
 rw [hd] at hgs hd40 hg4 ⊢
 have hdt:d≠tabN m (n / 4):=fun e=>by
  have:=hgs.2.2.2
  rw [hsl,hkd,if_pos e] at this
  cases this
 have hrlt:n / 4<m1.root.length:=by rw [hrt,List.length_set];exact hk
 have hrv:(takeD m1 (1,page,[])).root.getD (n / 4) 0=(tabN m (n / 4):Int):=by
  show m1.root.getD (n / 4) 0=_
  rw [hrt,getD_setI,if_pos ⟨rfl,hk⟩]
 have hsl2:(takeD m1 (1,page,[])).slots=layS m1.slots d (1,page,[]):=by unfold takeD;rw [hd]
 have hrf2:(takeD m1 (1,page,[])).refs=layR m1.refs d 1:=by unfold takeD;rw [hd]
 have htl:tabN m (n / 4)<m1.slots.length:=by rw [hsl];unfold tabL;rw [layS_length];split <;> omega
 have hget:∀j,(takeD m1 (1,page,[])).slots.getD j default=if j=d then (1,page,[]) else m1.slots.getD j default:=fun j=>by rw [hsl2];exact layS_get hgs.2.1 j
 have hget1:∀es,∀j,(tabL m (n / 4) es).getD j default=if j=tabN m (n / 4) then (2,⟨#[]⟩,es) else m.slots.getD j default:=fun es j=>layS_get x2 j
 have htO:tableO (takeD m1 (1,page,[])) (n / 4)=(tableO m (n / 4)).set (n % 4) (-1):=by
  unfold tableO
  rw [hrv,if_neg (by omega)]
  unfold tabOf
  rw [Int.toNat_natCast,hget,if_neg (fun e=>hdt e.symm),hsl,hget1,if_pos rfl]
  rfl
 have htl2:tabN m (n / 4)<(takeD m1 (1,page,[])).slots.length:=by
  have:m1.slots.length≤(takeD m1 (1,page,[])).slots.length:=by rw [hsl2,layS_length];split <;> omega
  omega
 have hip:inPl (takeD m1 (1,page,[])) (n / 4)=true:=by
  unfold inPl
  rw [hrv,Int.toNat_natCast]
  simp only [Bool.and_eq_true,bne_iff_ne,ne_eq,beq_iff_eq]
  refine⟨by omega,?_⟩
  rw [hrf2]
  unfold layR
  split
  ·rename_i e
   have:tabN m (n / 4)<m1.refs.length:=by rw [hrl];exact htl
   have e2:(m1.refs ++ [(1:Int)]).getD (tabN m (n / 4)) 0=m1.refs.getD (tabN m (n / 4)) 0:=by simp [List.getD,List.getElem?_append,this]
   rw [e2];exact hrf
  ·rw [getD_setI,if_neg (fun e=>hdt e.1)];exact hrf
 refine⟨_,hrv,htl2,hip,layR_len hrl _ _ _,hrlt,by rw [htO];exact set_ck t1 (by decide),?_⟩
 unfold isE
 have:=hgs.1
 simp
 omega
end Go.Proofs.YtehleeibgkpjmafGreat
