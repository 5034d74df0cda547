/- Texts joined: WrT, WrM, WrN, WrO, WrX, WrV, SCheck. -/
import Derived.Test.YtehleeibgkpjmagGreatRestImagesJ7
import Derived.Test.YtehleeibgkpjmagGreatRestImagesJ1
import Derived.Deep.RegionHeld
import Derived.BigQuiet
import Derived.Test.YtehleeibgkpjmagGreatRestImagesJ6
import Derived.Test.YtehleeibgkpjmagGreatRestImagesJ4
import Derived.Deep.RegionWith
set_option linter.unusedVariables false
set_option linter.unusedSimpArgs false
set_option maxHeartbeats 200000000
set_option maxRecDepth 20000
namespace Go.Proofs.YtehleeibgkpjmagGreat
open Go.RowKit Go.Shelf
theorem Qm5 {L L':List Qag}(h:∀j,kd L j=kd L' j)(hl:L.length=L'.length):QaK L=QaK L':=by
 rcases Nat.eq_zero_or_pos L.length with h0 | h0
 ·have e1:L=[]:=List.eq_nil_of_length_eq_zero h0;have e2:L'=[]:=List.eq_nil_of_length_eq_zero (by omega);rw [e1,e2]
 ·have g1:=Qbg (L:=L) h0;have g2:=Qbg (L:=L') (by omega);rcases Nat.lt_trichotomy (QaK L) (QaK L') with x | x | x
  ·exact absurd ((h _).symm.trans g1.2.2.2) (g2.2.2.1 _ g1.1 x)
  ·exact x
  ·exact absurd ((h _).trans g2.2.2.2) (g1.2.2.1 _ g2.1 x)
def wr1 (m:ImgD) (n:Nat):Option ImgD:=layP m (n / 4) ((Qak m (n / 4)).set (n % 4) (-1))
def wrP (m:ImgD) (n:Nat) (page:ByteArray):Option ImgD:=
 if Qez m n=true then some { m with slots:=m.slots.set (QaT m m.root n).toNat (1,page,[]) }
 else match wr1 m n with
  | none=>none
  | some m1=>if QaK m1.slots=40 then none else layP (Qa1 m1 (1,page,[])) (n / 4) ((Qak (Qa1 m1 (1,page,[])) (n / 4)).set (n % 4) (QaK m1.slots:Int))
theorem QjI {es:List Int}(h:es.length=4)(i:Nat)(hi:i<4){e:Int}(he:e≠0):Qby (es.set i e)=false:=QjG (i:=i) (by rw [List.length_set];omega) (by rw [Qlb (by omega)];exact he)
theorem Qjx {m:ImgD}(hC:Qaq m=0){n:Nat}(hn:(n:Int)<m.guest) :
  (wr1 m n=none∧tabN m (n / 4)=40)∨∃m1,wr1 m n=some m1∧tabN m (n / 4)≠40∧m1.guest=m.guest∧m1.snaps=m.snaps∧m1.root=m.root.set (n / 4) (tabN m (n / 4):Int)∧m1.slots=tabL m (n / 4) ((Qak m (n / 4)).set (n % 4) (-1))∧m1.refs.length=m1.slots.length∧m1.refs.getD (tabN m (n / 4)) 0=1:=by
 have hs:=Qal hC;have hg:=Qa4 hs;have hro:=Qa3 hs;have hrl:=(Qad hs).2.2.1;have hk:n / 4<m.root.length:=by omega
 obtain⟨t1,_⟩:=Qa0 hs hk;have hb:=QjI (Qa7 t1) (n % 4) (by omega) (e:=-1) (by decide);have hlen:=fun M (h:wr1 m n=some M)=>QeL hrl h
 unfold wr1 at hlen ⊢;unfold layP at hlen ⊢;rw [if_neg (by rw [hb];decide)] at hlen ⊢
 by_cases hi:inPl m (n / 4)=true
 ·rw [if_pos hi] at hlen ⊢;obtain⟨t,ht,h1,htl,hrf⟩:=Qfn hC hk hi;have hp:=Qah (Qad hs).2.1;have htn:tabN m (n / 4)=t:=by unfold tabN;rw [if_pos hi,ht];rfl
  refine .inr ⟨_,rfl,by omega,rfl,rfl,?_,?_,hlen _ rfl,?_⟩
  ·show m.root=_
   rw [htn]
   apply List.ext_getElem
   ·simp
   ·intro j h1 h2
    by_cases e:n / 4=j
    ·subst e;simp only [List.getElem_set_self];rw [←ht];simp [List.getD,hk]
    ·simp [e]
  ·show m.slots.set _ _=_
   unfold tabL layS;rw [htn,if_neg (by omega),ht];rfl
  ·show m.refs.getD _ 0=1
   rw [htn];exact hrf
 ·rw [if_neg hi] at hlen ⊢;have htn:tabN m (n / 4)=QaK m.slots:=by unfold tabN;rw [if_neg hi]
  by_cases hg40:QaK m.slots=40
  ·rw [if_pos hg40];exact .inl ⟨rfl,htn.trans hg40⟩
  ·rw [if_neg hg40] at hlen ⊢;refine .inr ⟨_,rfl,by omega,rfl,rfl,by rw [htn],?_,hlen _ rfl,?_⟩
   ·show layS _ _ _=_
    unfold tabL;rw [htn]
   ·show (layR m.refs (QaK m.slots) 1).getD _ 0=1
    rw [htn];unfold layR;have hgs:=Qbg (L:=m.slots) (Qah (Qad hs).2.1).1
    split
    ·rename_i e
     rw [e];simp [List.getD]
    ·rename_i e
     rw [QbD,if_pos ⟨rfl,by omega⟩]
theorem Qmw {m:ImgD}(hC:Qaq m=0){n:Nat}(hn:(n:Int)<m.guest){page:ByteArray}(hp:page.size=4):Qif (wrP m n page) (QbV m n page):=by
 have hs:=Qal hC;have hg:=Qa4 hs;have hro:=Qa3 hs;have hk:n / 4<m.root.length:=by omega
 obtain⟨t1,_⟩:=Qa0 hs hk;have h4:=Qa7 t1;unfold wrP QbV
 by_cases hw:Qez m n=true
 ·rw [if_pos hw,if_pos hw];have hk1:kd m.slots (QaT m m.root n).toNat=1:=by
   unfold Qez at hw;simp only [Bool.and_eq_true,decide_eq_true_eq] at hw;rcases Qfc hs hro.2 n (by omega) with h | h | ⟨j,hj,h1,hjl,hkd⟩
   ·omega
   ·omega
   ·rw [hj,Int.toNat_natCast];exact hkd
  have h:=QlG hC hk1 hp;exact⟨fun x=>(by cases x),fun M hM=>(by cases hM;exact⟨Qal h.1,by rw [Qcn h.1]⟩)⟩
 ·rw [if_neg hw,if_neg hw];rcases Qjx hC hn with ⟨h1,h2⟩ | ⟨m1,h1,h2,hgu,hsn,hrt,hsl,hrl,hrf⟩
  ·rw [h1,if_pos h2];exact⟨fun _=>rfl,fun M hM=>(by cases hM)⟩
  ·rw [h1,if_neg h2];dsimp only;obtain⟨x1,x2,x3,x4,x5⟩:=Qb4 hC hk h2;have hkd:∀es,∀j,kd (tabL m (n / 4) es) j=if j=tabN m (n / 4) then 2 else kd m.slots j:=fun es j=>QbQ x2 j
   have hll:∀es es',(tabL m (n / 4) es).length=(tabL m (n / 4) es').length:=fun es es'=>by unfold tabL;rw [QaD,QaD]
   have hd:QaK m1.slots=wD m n:=by
    rw [hsl];exact Qm5 (fun j=>by rw [hkd,hkd]) (hll _ _)
   rw [hd]
   by_cases hd40:wD m n=40
   ·rw [if_pos hd40,if_pos hd40];exact⟨fun _=>rfl,fun M hM=>(by cases hM)⟩
   ·rw [if_neg hd40,if_neg hd40];have hL:=(QfQ hC hn h2 hd40 hp).1;have hm1l:1≤m1.slots.length:=by rw [hsl];unfold tabL;rw [QaD];have:=(Qah (Qad hs).2.1).1;split <;> omega
    have hgs:=Qbg hm1l;rw [hd] at hgs;have hdt:wD m n≠tabN m (n / 4):=fun e=>by
     have:=hgs.2.2.2;rw [hsl,hkd,if_pos e] at this
     cases this
    have hrlt:n / 4<m1.root.length:=by rw [hrt,List.length_set];exact hk
    have hrv:(Qa1 m1 (1,page,[])).root.getD (n / 4) 0=(tabN m (n / 4):Int):=by
     show m1.root.getD (n / 4) 0=_
     rw [hrt,QbD,if_pos ⟨rfl,hk⟩]
    have hsl2:(Qa1 m1 (1,page,[])).slots=layS m1.slots (wD m n) (1,page,[]):=by unfold Qa1;rw [hd]
    have hrf2:(Qa1 m1 (1,page,[])).refs=layR m1.refs (wD m n) 1:=by unfold Qa1;rw [hd]
    have htl:tabN m (n / 4)<m1.slots.length:=by rw [hsl];unfold tabL;rw [QaD];split <;> omega
    have hget:∀j,(Qa1 m1 (1,page,[])).slots.getD j default=if j=wD m n then (1,page,[]) else m1.slots.getD j default:=fun j=>by rw [hsl2];exact Qbe hgs.2.1 j
    have hget1:∀es,∀j,(tabL m (n / 4) es).getD j default=if j=tabN m (n / 4) then (2,⟨#[]⟩,es) else m.slots.getD j default:=fun es j=>Qbe x2 j
    have htO:Qak (Qa1 m1 (1,page,[])) (n / 4)=(Qak m (n / 4)).set (n % 4) (-1):=by
     unfold Qak;rw [hrv,if_neg (by omega)];unfold Qaz;rw [Int.toNat_natCast,hget,if_neg (fun e=>hdt e.symm),hsl,hget1,if_pos rfl]
     rfl
    have hes:((Qak m (n / 4)).set (n % 4) (-1)).set (n % 4) (wD m n:Int)=wEs m n:=by unfold wEs;rw [List.set_set]
    rw [htO,hes];have hb:Qby (wEs m n)=false:=QjI h4 (n % 4) (by omega) (by have:=hgs.1;omega);have hip:inPl (Qa1 m1 (1,page,[])) (n / 4)=true:=by
     unfold inPl;rw [hrv,Int.toNat_natCast];simp only [Bool.and_eq_true,bne_iff_ne,ne_eq,beq_iff_eq];refine⟨by omega,?_⟩;rw [hrf2];unfold layR
     split
     ·rename_i e
      have:tabN m (n / 4)<m1.refs.length:=by rw [hrl];exact htl
      have e2:(m1.refs ++ [(1:Int)]).getD (tabN m (n / 4)) 0=m1.refs.getD (tabN m (n / 4)) 0:=by simp [List.getD,List.getElem?_append,this]
      rw [e2];exact hrf
     ·rw [QbD,if_neg (fun e=>hdt e.1)];exact hrf
    have hlay:layP (Qa1 m1 (1,page,[])) (n / 4) (wEs m n)=some { Qa1 m1 (1,page,[]) with slots:=(Qa1 m1 (1,page,[])).slots.set (tabN m (n / 4)) (2,⟨#[]⟩,wEs m n) }:=by
     unfold layP;rw [if_neg (by rw [hb];decide),if_pos hip,hrv];rfl
    rw [hlay];have hlen2:(Qa1 m1 (1,page,[])).slots.length=(wL m n page).length:=by
     rw [hsl2,hsl];unfold wL;rw [QaD,QaD,hll ((Qak m (n / 4)).set (n % 4) (-1)) (wEs m n)]
    have htl2:tabN m (n / 4)<(Qa1 m1 (1,page,[])).slots.length:=by
     have:m1.slots.length≤(Qa1 m1 (1,page,[])).slots.length:=by rw [hsl2,QaD];split <;> omega
     omega
    have hwLd:wD m n≤(tabL m (n / 4) (wEs m n)).length:=by
     have:=hgs.2.1;rw [hsl] at this;rw [hll (wEs m n) ((Qak m (n / 4)).set (n % 4) (-1))];exact this
    have hK:Kin { Qa1 m1 (1,page,[]) with slots:=(Qa1 m1 (1,page,[])).slots.set (tabN m (n / 4)) (2,⟨#[]⟩,wEs m n) } (QcU m (n / 4) (tabN m (n / 4)) (wL m n page) (rfZ (wL m n page))):=by
     refine⟨hgu,hrt,?_,hsn,?_⟩
     ·refine Qc2 (by show (List.set _ _ _).length=_;rw [List.length_set];exact hlen2) (fun j hj=>?_)
      show ((Qa1 m1 (1,page,[])).slots.set _ _).getD j default=(wL m n page).getD j default
      rw [QbA,hget];unfold wL;rw [Qbe hwLd,hget1,hsl,hget1]
      by_cases e1:tabN m (n / 4)=j
      ·subst e1;rw [if_pos ⟨rfl,htl2⟩,if_neg (fun e=>hdt e.symm),if_pos rfl]
      ·rw [if_neg (fun e=>e1 e.1)]
       by_cases e2:j=wD m n
       ·rw [if_pos e2,if_pos e2]
       ·rw [if_neg e2,if_neg e2,if_neg (fun e=>e1 e.symm),if_neg (fun e=>e1 e.symm)]
     ·show (Qa1 m1 (1,page,[])).refs.length=(rfZ (wL m n page)).length
      have:(rfZ (wL m n page)).length=(wL m n page).length:=by simp [rfZ]
      rw [this,← hlen2];exact QgW hrl _ _ _
    exact⟨fun x=>(by cases x),fun M hM=>(by cases hM;exact⟨hK.shape.trans hL.shape,by rw [hK.counted]⟩)⟩

theorem QoP {m:ImgD}{ev:Value}{es:List Int}{r t B D:Nat}{val:Nm→Value}{w:World}(hK:DK w B D val m)(hB:B≤w.heap.size)(hr:r<m.root.length)(ht:m.root.getD r 0=(t:Int))(htl:t<m.slots.length)(hs:inPl m r=true∨Qap m.slots=0)(hrl:m.refs.length=m.slots.length)(he:w.ownsRow B 3 1 ev es.length (ints es))(hfar:∀a,Live m a→∀q,ev.ownBlock=some q→(val a).ownBlock≠some q)(hD:ev.ownBlock≠some D)(hck:ckE es=0) :
  Calls Tryz.prog 65 #[.pointer (some ⟨D,0,none⟩),.int .i64 (r:Int),ev] w (QbU w B D m val ev (layP m r es)):=by
 obtain⟨ea,ec,hev⟩:=QaH he;subst hev;unfold layP
 cases hb:Qby es with
 | true=>
  rw [if_pos rfl];exact Qmh m ea ec es r B D val w hK hr (QbT he) hck hb
 | false=>
  rw [if_neg (by simp)]
  cases hi:inPl m r with
  | true=>
   rw [if_pos rfl];unfold inPl at hi;rw [ht,Int.toNat_natCast] at hi;simp only [Bool.and_eq_true,bne_iff_ne,ne_eq,beq_iff_eq] at hi;rw [ht,Int.toNat_natCast];exact QjO m ea ec es r t B D val w hK hB hr ht (by omega) htl hrl hi.2 he hfar hD hck hb
  | false=>
   rw [if_neg (by simp)];have hs:=hs.resolve_left (by rw [hi];simp);unfold inPl at hi;rw [ht,Int.toNat_natCast] at hi;have h1:1≤t→(m.refs.getD t 0 == 1)=false:=fun h=>by
    cases hx:m.refs.getD t 0 == 1 with
    | false=>rfl
    | true=>
     rw [hx] at hi;simp at hi
     omega
   by_cases hg:QaK m.slots=40
   ·rw [if_pos hg]
    by_cases h0:t=0
    ·subst h0;exact Qkx m ea ec es r B D val w hK hB hr ht hs hrl hg he hfar hD hck hb
    ·exact QjL m ea ec es r B D val w hK hB hr t ht (by omega) htl _ rfl (h1 (by omega)) hs hrl hg he hfar hD hck hb
   ·rw [if_neg hg]
    by_cases h0:t=0
    ·subst h0;exact QjK m ea ec es r _ B D val w hK hB hr ht hs hrl rfl hg he hfar hD hck hb
    ·exact Qj4 m ea ec es r _ B D val w hK hB hr t ht (by omega) htl _ rfl (h1 (by omega)) hs hrl rfl hg he hfar hD hck hb
theorem QeK {m:ImgD}{ev:Value}{es:List Int}{r t B C D:Nat}{val:Nm→Value}{w W:World}(hK:DK w B D val m)(hB:B≤w.heap.size)(hr:r<m.root.length)(ht:m.root.getD r 0=(t:Int))(htl:t<m.slots.length)(hs:inPl m r=true∨Qap m.slots=0)(hrl:m.refs.length=m.slots.length)(hb:Below w.heap.size w W)(hC:w.heap.size≤C)(he:W.ownsRow C 3 1 ev es.length (ints es))(hck:ckE es=0){o:Option ImgD}(ho:layP m r es=o) :
  Calls Tryz.prog 65 #[.pointer (some ⟨D,0,none⟩),.int .i64 (r:Int),ev] W (QbU w B D m val nilV o):=by
 subst ho;have hlt:∀q,ev.ownBlock=some q→w.heap.size≤q:=fun q hq=>Nat.le_trans hC (he.lt q hq).1
 refine (QoP (hK.below hb) (Nat.le_trans hB hb.size) hr ht htl hs hrl (QaP he (Nat.le_trans hB hC)) (fun a ha q hq x=>?_) (fun x=>?_) hck).mono ?_
 ·have h1:=hlt q hq;have h2:=((hK.own.row a ha).lt q x).2;omega
 ·have h1:=hlt D x;have h2:=hK.lt;omega
 ·intro e W' hT
  cases ho:layP m r es with
  | none=>
   rw [ho] at hT;obtain⟨h1,h2⟩:=hT;exact⟨h1,(hb.mono hB).trans h2⟩
  | some M=>
   rw [ho] at hT;obtain⟨h1,val',h2⟩:=hT;exact⟨h1,val',DTo.first hb hB h2 hlt⟩
theorem Qlj {m:ImgD}{n t B D:Nat}{e:Int}{val:Nm→Value}{w:World}(hK:DK w B D val m)(hB:B≤w.heap.size)(h16:n<16)(hr:n / 4<m.root.length)(ht:m.root.getD (n / 4) 0=(t:Int))(htl:t<m.slots.length)(hs:inPl m (n / 4)=true∨Qap m.slots=0)(hrl:m.refs.length=m.slots.length)(hck:ckE (Qak m (n / 4))=0)(hE:isE e=true) :
  Calls Tryz.prog 27 #[.pointer (some ⟨D,0,none⟩),.int .i64 (n:Int),.int .i64 e] w (QbU w B D m val nilV (layP m (n / 4) ((Qak m (n / 4)).set (n % 4) e))):=by
 have e4:((n / 4:Nat):Int)=(n:Int) / 4:=by omega
 have e5:((n % 4:Nat):Int)=(n:Int) % 4:=by omega
 have hent:=QfT hK hr ht htl;rw [e4] at hent;have HW:Hid (∀v w1,Sl w1 v (Qak m (n / 4))→Calls Tryz.prog 63 #[v,.int .i64 ((n:Int) % 4),.int .i64 e] w1 fun r w'=>∃v',r=.returned (.tuple #[v',.int .i64 0])∧w'.ownsRow w1.heap.size 3 1 v' ((Qak m (n / 4)).set (n % 4) e).length (ints ((Qak m (n / 4)).set (n % 4) e))∧Below w1.heap.size w1 w'):=fun v w1 h1=>by
  have:=QnF v _ (n % 4) e w1 h1 hck (by omega) hE;rw [e5] at this;exact this
 cases ho:layP m (n / 4) ((Qak m (n / 4)).set (n % 4) e) with
 | none=>
  have HL:Hid (∀ev C W,Below w.heap.size w W→w.heap.size≤C→W.ownsRow C 3 1 ev ((Qak m (n / 4)).set (n % 4) e).length (ints ((Qak m (n / 4)).set (n % 4) e))→Calls Tryz.prog 65 #[.pointer (some ⟨D,0,none⟩),.int .i64 ((n:Int) / 4),ev] W (QbU w B D m val nilV none)):=fun ev C W h1 h2 h3=>by
   have:=QeK hK hB hr ht htl hs hrl h1 h2 h3 (QfL hck hE) ho;rw [e4] at this;exact this
  clear hK hs hrl hck hE ht htl hr hB ho e4 e5
  go_enter Tryz.func27,Tryz.ntmps27
  go_wp2_with (first | (go_at_call 65;refine (HL.out _ _ _ (Below.on b1 b2) b1.size ho2).mono ?_;rintro e w3 ⟨rfl,b3⟩;exact⟨rfl,rfl,b3⟩) | (go_at_call 63;refine (HW.out _ _ hs1).mono ?_;rintro e w2 ⟨v2,rfl,ho2,b2⟩) | (go_at_call 64;refine hent.mono ?_;rintro e w1 ⟨v1,rfl,hs1,b1⟩))
 | some M=>
  have HL:Hid (∀ev C W,Below w.heap.size w W→w.heap.size≤C→W.ownsRow C 3 1 ev ((Qak m (n / 4)).set (n % 4) e).length (ints ((Qak m (n / 4)).set (n % 4) e))→Calls Tryz.prog 65 #[.pointer (some ⟨D,0,none⟩),.int .i64 ((n:Int) / 4),ev] W (QbU w B D m val nilV (some M))):=fun ev C W h1 h2 h3=>by
   have:=QeK hK hB hr ht htl hs hrl h1 h2 h3 (QfL hck hE) ho;rw [e4] at this;exact this
  clear hK hs hrl hck hE ht htl hr hB ho e4 e5
  go_enter Tryz.func27,Tryz.ntmps27
  go_wp2_with (first | (go_at_call 65;refine (HL.out _ _ _ (Below.on b1 b2) b1.size ho2).mono ?_;rintro e w3 ⟨rfl,val3,hT⟩) | (go_at_call 63;refine (HW.out _ _ hs1).mono ?_;rintro e w2 ⟨v2,rfl,ho2,b2⟩) | (go_at_call 64;refine hent.mono ?_;rintro e w1 ⟨v1,rfl,hs1,b1⟩))
  go_end0
  exact⟨rfl,val3,hT⟩
theorem Qh8 {w:World}{m:ImgD}{n bk be bn:Nat}{k e:Int}(ck:w.cell? ⟨bk,0,none⟩=some (.int .i64 k))(ce:w.cell? ⟨be,0,none⟩=some (.int .i64 e))(cn:w.cell? ⟨bn,0,none⟩=some (.int .i64 (n:Int)))(lk:bk<w.heap.size)(le:be<w.heap.size)(ln:bn<w.heap.size)(hs:Qao m=0)(hn:(n:Int)<m.guest)(hk:QaT m m.root n=k)(hE:isE e=true) :
  QfJ w 81 #[.pointer (some ⟨bk,0,none⟩),.pointer (some ⟨be,0,none⟩),.pointer (some ⟨bn,0,none⟩)] m (vacP m n e):=by
 intro W D B val hb h1 h2 hK;have ck:=(hb.cell (p:=⟨bk,0,none⟩) lk).trans ck;have ce:=(hb.cell (p:=⟨be,0,none⟩) le).trans ce;have cn:=(hb.cell (p:=⟨bn,0,none⟩) ln).trans cn
 show Calls Tryz.prog 81 #[.pointer (some ⟨D,0,none⟩),.pointer (some ⟨bk,0,none⟩),.pointer (some ⟨be,0,none⟩),.pointer (some ⟨bn,0,none⟩)] W _
 have hg:=Qa4 hs;have hro:=Qa3 hs;have hrl:=(Qad hs).2.2.1;have hr:n / 4<m.root.length:=by omega
 have h16:n<16:=by omega
 obtain⟨t,ht,htl⟩:=Qb3 hs hr;have hput:=Qlj hK h2 h16 hr ht htl (.inr (Qad hs).2.1) hrl (Qa0 hs hr).1 hE;unfold vacP;rw [hk]
 by_cases hke:k=e
 ·rw [if_pos hke];subst hke;have HF:Hid (DTo W W B D m val nilV m val):=DTo.refl hK nilV;clear hput hK ht hs hg hro hrl hr hk hn hE
  go_enter Tryz.func81,Tryz.ntmps81
  go_wp2_with fail
  go_end0
  exact⟨val,rfl,HF.out⟩
 ·rw [if_neg hke];have hke':(k != e)=true:=by simp [hke]
  clear hK ht hs hg hro hrl hr hk hn hE
  cases ho:layP m (n / 4) ((Qak m (n / 4)).set (n % 4) e) with
  | none=>
   rw [ho] at hput;clear ho
   go_enter Tryz.func81,Tryz.ntmps81
   go_wp2_with (go_at_call 27;refine hput.mono ?_;rintro e w3 ⟨rfl,b3⟩;exact⟨rfl,rfl,b3⟩)
  | some M=>
   rw [ho] at hput;clear ho
   go_enter Tryz.func81,Tryz.ntmps81
   go_wp2_with (go_at_call 27;refine hput.mono ?_;rintro e w3 ⟨rfl,val3,hT⟩)
   go_end0
   exact⟨val3,rfl,hT⟩

theorem Qhg {m:ImgD}(hC:Qaq m=0){n:Nat}(hn:(n:Int)<m.guest){e:Int}(he:e=0∨e = -1){M:ImgD}(hM:layP m (n / 4) ((Qak m (n / 4)).set (n % 4) e)=some M):Qao M=0:=by
 have hs:=Qal hC;have hg:=Qa4 hs;have hro:=Qa3 hs;have hrl:=(Qad hs).2.2.1;have hk:n / 4<m.root.length:=by omega
 obtain⟨hiff,hsome⟩:=QdH hC hk ((Qak m (n / 4)).set (n % 4) e);obtain⟨t1,t2⟩:=Qa0 hs hk;have hisE:isE e=true:=by rcases he with rfl | rfl <;> decide
 have htE:tabE m.slots e=true:=by rcases he with rfl | rfl <;> simp [tabE]
 obtain⟨M',hM',hkin⟩:=hsome M hM;have hK:=hkin (QeL hrl hM) (Qed hrl hM');have hL:=(Qdy hC hk (QfL t1 hisE) (fun x hx=>by rcases Qgq hx with h | h;exact t2 x h;rw [h];exact htE) (Qgh (QcJ hs _) hn rfl hro.1 e) hM').1;exact hK.shape.trans hL.shape
theorem QlO {m m1:ImgD}(hC:Qaq m=0){n:Nat}(hn:(n:Int)<m.guest)(h1:wr1 m n=some m1)(hd40:QaK m1.slots≠40)(page:ByteArray) :
  ∃t:Nat,(Qa1 m1 (1,page,[])).root.getD (n / 4) 0=(t:Int)∧t<(Qa1 m1 (1,page,[])).slots.length∧inPl (Qa1 m1 (1,page,[])) (n / 4)=true∧(Qa1 m1 (1,page,[])).refs.length=(Qa1 m1 (1,page,[])).slots.length∧n / 4<(Qa1 m1 (1,page,[])).root.length∧ckE (Qak (Qa1 m1 (1,page,[])) (n / 4))=0∧isE (QaK m1.slots:Int)=true:=by
 have hs:=Qal hC;have hs1:=Qhg hC hn (.inr rfl) h1;have hg4:=Qf8 (Qad hs1).2.1;have hg:=Qa4 hs;have hro:=Qa3 hs;have hk:n / 4<m.root.length:=by omega
 obtain⟨t1,_⟩:=Qa0 hs hk;have h4:=Qa7 t1;rcases Qjx hC hn with ⟨h,_⟩ | ⟨m1',h,h2,hgu,hsn,hrt,hsl,hrl,hrf⟩
 ·rw [h1] at h;cases h
 rw [h1] at h
 cases h
 obtain⟨x1,x2,x3,x4,x5⟩:=Qb4 hC hk h2;have hkd:∀es,∀j,kd (tabL m (n / 4) es) j=if j=tabN m (n / 4) then 2 else kd m.slots j:=fun es j=>QbQ x2 j
 have hm1l:1≤m1.slots.length:=(Qah (Qad hs1).2.1).1;have hgs:=Qbg hm1l;obtain⟨d,hd⟩:∃d,QaK m1.slots=d:=⟨_,rfl⟩;rw [hd] at hgs hd40 hg4 ⊢;have hdt:d≠tabN m (n / 4):=fun e=>by
  have:=hgs.2.2.2;rw [hsl,hkd,if_pos e] at this
  cases this
 have hrlt:n / 4<m1.root.length:=by rw [hrt,List.length_set];exact hk
 have hrv:(Qa1 m1 (1,page,[])).root.getD (n / 4) 0=(tabN m (n / 4):Int):=by
  show m1.root.getD (n / 4) 0=_
  rw [hrt,QbD,if_pos ⟨rfl,hk⟩]
 have hsl2:(Qa1 m1 (1,page,[])).slots=layS m1.slots d (1,page,[]):=by unfold Qa1;rw [hd]
 have hrf2:(Qa1 m1 (1,page,[])).refs=layR m1.refs d 1:=by unfold Qa1;rw [hd]
 have htl:tabN m (n / 4)<m1.slots.length:=by rw [hsl];unfold tabL;rw [QaD];split <;> omega
 have hget:∀j,(Qa1 m1 (1,page,[])).slots.getD j default=if j=d then (1,page,[]) else m1.slots.getD j default:=fun j=>by rw [hsl2];exact Qbe hgs.2.1 j
 have hget1:∀es,∀j,(tabL m (n / 4) es).getD j default=if j=tabN m (n / 4) then (2,⟨#[]⟩,es) else m.slots.getD j default:=fun es j=>Qbe x2 j
 have htO:Qak (Qa1 m1 (1,page,[])) (n / 4)=(Qak m (n / 4)).set (n % 4) (-1):=by
  unfold Qak;rw [hrv,if_neg (by omega)];unfold Qaz;rw [Int.toNat_natCast,hget,if_neg (fun e=>hdt e.symm),hsl,hget1,if_pos rfl]
  rfl
 have htl2:tabN m (n / 4)<(Qa1 m1 (1,page,[])).slots.length:=by
  have:m1.slots.length≤(Qa1 m1 (1,page,[])).slots.length:=by rw [hsl2,QaD];split <;> omega
  omega
 have hip:inPl (Qa1 m1 (1,page,[])) (n / 4)=true:=by
  unfold inPl;rw [hrv,Int.toNat_natCast];simp only [Bool.and_eq_true,bne_iff_ne,ne_eq,beq_iff_eq];refine⟨by omega,?_⟩;rw [hrf2];unfold layR
  split
  ·rename_i e
   have:tabN m (n / 4)<m1.refs.length:=by rw [hrl];exact htl
   have e2:(m1.refs ++ [(1:Int)]).getD (tabN m (n / 4)) 0=m1.refs.getD (tabN m (n / 4)) 0:=by simp [List.getD,List.getElem?_append,this]
   rw [e2];exact hrf
  ·rw [QbD,if_neg (fun e=>hdt e.1)];exact hrf
 refine⟨_,hrv,htl2,hip,QgW hrl _ _ _,hrlt,by rw [htO];exact QfL t1 (by decide),?_⟩;unfold isE;have:=hgs.1;simp
 omega

theorem drewN_first {B q:Nat}{W w3:World}(h:Below B (W.drewN q) w3):Below B W w3:=⟨h.os,h.tape,h.output,h.size,h.block⟩
theorem DTo.drewN_first {B D q:Nat}{W w1:World}{m m1:ImgD}{val val1:Nm→Value}{ev:Value}(h:DTo (W.drewN q) w1 B D m val ev m1 val1):DTo W w1 B D m val ev m1 val1:=⟨h.dk,Go.Proofs.YtehleeibgkpjmagGreat.drewN_first h.bel,h.keep,h.src⟩
theorem Qkl (bk bn bs n d B D:Nat)(k:Int)(page:ByteArray)(W:World)(m m1 m2 M:ImgD)(val:Nm→Value)(g1:decide (0<k)=false)(g2:¬0<k)(hck:W.cell? ⟨bk,0,none⟩=some (.int .i64 k))(hcn:W.cell? ⟨bn,0,none⟩=some (.int .i64 (n:Int)))(HS:Hid (∀X,Below B W X→(fun X:World=>X.cell? ⟨bn,0,none⟩=some (.int .i64 (n:Int))∧X.cell? ⟨bs,0,none⟩=some (.int .i64 1)∧X.cell? ⟨bs,0+1,none⟩=some (.string page)∧X.cell? ⟨bs,0+1+1,none⟩=some (nl)) X))(HP1:Hid (∀q,Calls Tryz.prog 27 #[.pointer (some ⟨D,0,none⟩),.int .i64 (n:Int),.int .i64 (-1)] (W.drewN q) (QbU (W.drewN q) B D m val nilV none))) :
  Calls Tryz.prog 26 #[.pointer (some ⟨D,0,none⟩),.pointer (some ⟨bk,0,none⟩),.pointer (some ⟨bn,0,none⟩),.pointer (some ⟨bs,0,none⟩)] W (fun r W'=>r=.panicked Qbm∧Below B W W'):=by
 go_enter Tryz.func26,Tryz.ntmps26
 try go_wp2_with fail
 go_quiet (fail)
 go_wp2_with (go_at_call 27;refine (HP1.out _).mono ?_;rintro e w3 ⟨rfl,b3⟩;exact⟨rfl,rfl,drewN_first b3⟩)
theorem Qkd (bk bn bs n d B D:Nat)(k:Int)(page:ByteArray)(W:World)(m m1 m2 M:ImgD)(val:Nm→Value)(g1:decide (0<k)=false)(g2:¬0<k)(hck:W.cell? ⟨bk,0,none⟩=some (.int .i64 k))(hcn:W.cell? ⟨bn,0,none⟩=some (.int .i64 (n:Int)))(HS:Hid (∀X,Below B W X→(fun X:World=>X.cell? ⟨bn,0,none⟩=some (.int .i64 (n:Int))∧X.cell? ⟨bs,0,none⟩=some (.int .i64 1)∧X.cell? ⟨bs,0+1,none⟩=some (.string page)∧X.cell? ⟨bs,0+1+1,none⟩=some (nl)) X))(HP1:Hid (∀q,Calls Tryz.prog 27 #[.pointer (some ⟨D,0,none⟩),.int .i64 (n:Int),.int .i64 (-1)] (W.drewN q) (QbU (W.drewN q) B D m val nilV (some m1))))(HTK:Hid (∀ (w1:World) (val1:Nm→Value),DK w1 B D val1 m1→Below B W w1→Calls Tryz.prog 28 #[.pointer (some ⟨D,0,none⟩),.agg #[.int .i64 1,.string page,nl]] w1 (fun r w2=>r=.panicked Qbm∧Below B W w2))) :
  Calls Tryz.prog 26 #[.pointer (some ⟨D,0,none⟩),.pointer (some ⟨bk,0,none⟩),.pointer (some ⟨bn,0,none⟩),.pointer (some ⟨bs,0,none⟩)] W (fun r W'=>r=.panicked Qbm∧Below B W W'):=by
 go_enter Tryz.func26,Tryz.ntmps26
 try go_wp2_with fail
 go_quiet (fail)
 go_wp2_with (go_at_call 27;refine (HP1.out _).mono ?_;rintro e w1 ⟨rfl,val1,hT1⟩;have hT1:=DTo.drewN_first hT1;have HT1:=Qam hT1;clear hT1);clear hck hcn;refine wp_region_held_drew (S:=(fun X:World=>X.cell? ⟨bn,0,none⟩=some (.int .i64 (n:Int))∧X.cell? ⟨bs,0,none⟩=some (.int .i64 1)∧X.cell? ⟨bs,0+1,none⟩=some (.string page)∧X.cell? ⟨bs,0+1+1,none⟩=some (nl))) (by kernel_rfl) (HS.out _ (Qaw HT1.out.bel)) (fun hHeld=>?_);refine tkH 0 (.pointer (some ⟨D,0,none⟩)) rfl (Or.inl ⟨by rfl,fun w' hSw=>by obtain⟨q1,q2,q3,q4⟩:=hSw;go_simp⟩) hHeld ?_;simp only [lays];refine tkH 1 (.int .i64 (n:Int)) rfl (Or.inl ⟨by rfl,fun w' hSw=>by obtain⟨q1,q2,q3,q4⟩:=hSw;go_simp⟩) hHeld ?_;simp only [lays];refine tkH 2 (.pointer (some ⟨D,0,none⟩)) rfl (Or.inl ⟨by rfl,fun w' hSw=>by obtain⟨q1,q2,q3,q4⟩:=hSw;go_simp⟩) hHeld ?_;simp only [lays];refine tkH 3 (.agg #[.int .i64 1,.string page,nl]) rfl (Or.inl ⟨by rfl,fun w' hSw=>by obtain⟨q1,q2,q3,q4⟩:=hSw;go_simp⟩) hHeld ?_;simp only [lays];refine rdH 4 rfl (fun K hK=>?_);clear hHeld;simp only [lays];rw [if_pos (by rfl)];clear hK;go_wp2_with (go_at_call 28;refine (HTK.out _ _ HT1.out.dk.drew (Qaw HT1.out.bel)).mono ?_;rintro e w2 ⟨rfl,b2⟩;exact⟨rfl,rfl,b2⟩)
theorem QjN (bk bn bs n d B D:Nat)(k:Int)(page:ByteArray)(W:World)(m m1 m2 M:ImgD)(val:Nm→Value)(g1:decide (0<k)=false)(g2:¬0<k)(hck:W.cell? ⟨bk,0,none⟩=some (.int .i64 k))(hcn:W.cell? ⟨bn,0,none⟩=some (.int .i64 (n:Int)))(HS:Hid (∀X,Below B W X→(fun X:World=>X.cell? ⟨bn,0,none⟩=some (.int .i64 (n:Int))∧X.cell? ⟨bs,0,none⟩=some (.int .i64 1)∧X.cell? ⟨bs,0+1,none⟩=some (.string page)∧X.cell? ⟨bs,0+1+1,none⟩=some (nl)) X))(HP1:Hid (∀q,Calls Tryz.prog 27 #[.pointer (some ⟨D,0,none⟩),.int .i64 (n:Int),.int .i64 (-1)] (W.drewN q) (QbU (W.drewN q) B D m val nilV (some m1))))(HTK:Hid (∀ (w1:World) (val1:Nm→Value),DK w1 B D val1 m1→Below B W w1→Calls Tryz.prog 28 #[.pointer (some ⟨D,0,none⟩),.agg #[.int .i64 1,.string page,nl]] w1 (fun r w2=>r=.returned (.int .i64 (d:Int))∧∃val2,DTo w1 w2 B D m1 val1 nilV m2 val2)))(HP2:Hid (∀ (w2:World) (val2:Nm→Value),DK w2 B D val2 m2→Below B W w2→Calls Tryz.prog 27 #[.pointer (some ⟨D,0,none⟩),.int .i64 (n:Int),.int .i64 (d:Int)] w2 (QbU w2 B D m2 val2 nilV none))) :
  Calls Tryz.prog 26 #[.pointer (some ⟨D,0,none⟩),.pointer (some ⟨bk,0,none⟩),.pointer (some ⟨bn,0,none⟩),.pointer (some ⟨bs,0,none⟩)] W (fun r W'=>r=.panicked Qbm∧Below B W W'):=by
 go_enter Tryz.func26,Tryz.ntmps26
 try go_wp2_with fail
 go_quiet (fail)
 go_wp2_with (go_at_call 27;refine (HP1.out _).mono ?_;rintro e w1 ⟨rfl,val1,hT1⟩;have hT1:=DTo.drewN_first hT1;have HT1:=Qam hT1;clear hT1);clear hck hcn;refine wp_region_held_drew (S:=(fun X:World=>X.cell? ⟨bn,0,none⟩=some (.int .i64 (n:Int))∧X.cell? ⟨bs,0,none⟩=some (.int .i64 1)∧X.cell? ⟨bs,0+1,none⟩=some (.string page)∧X.cell? ⟨bs,0+1+1,none⟩=some (nl))) (by kernel_rfl) (HS.out _ (Qaw HT1.out.bel)) (fun hHeld=>?_);refine tkH 0 (.pointer (some ⟨D,0,none⟩)) rfl (Or.inl ⟨by rfl,fun w' hSw=>by obtain⟨q1,q2,q3,q4⟩:=hSw;go_simp⟩) hHeld ?_;simp only [lays];refine tkH 1 (.int .i64 (n:Int)) rfl (Or.inl ⟨by rfl,fun w' hSw=>by obtain⟨q1,q2,q3,q4⟩:=hSw;go_simp⟩) hHeld ?_;simp only [lays];refine tkH 2 (.pointer (some ⟨D,0,none⟩)) rfl (Or.inl ⟨by rfl,fun w' hSw=>by obtain⟨q1,q2,q3,q4⟩:=hSw;go_simp⟩) hHeld ?_;simp only [lays];refine tkH 3 (.agg #[.int .i64 1,.string page,nl]) rfl (Or.inl ⟨by rfl,fun w' hSw=>by obtain⟨q1,q2,q3,q4⟩:=hSw;go_simp⟩) hHeld ?_;simp only [lays];refine rdH 4 rfl (fun K hK=>?_);clear hHeld;simp only [lays];rw [if_pos (by rfl)];go_wp2_with (go_at_call 28;refine (HTK.out _ _ HT1.out.dk.drew (Qaw HT1.out.bel)).mono ?_;rintro e w2 ⟨rfl,val2,hT2⟩;have HT2:=Qam (HT1.out.drew.andThen hT2);clear hT2);refine hK.out _ _ (HS.out _ HT2.out.bel) (fun hHeld=>?_);clear hK hHeld K;try simp only [lays]
 refine rdH 5 rfl (fun K hK=>?_);simp only [lays];rw [if_pos (by rfl)];clear hK;go_wp2_with (go_at_call 27;refine (HP2.out _ _ HT2.out.dk HT2.out.bel).mono ?_;rintro e w3 ⟨rfl,b3⟩;exact⟨rfl,rfl,HT2.out.bel.trans b3⟩)
theorem QjM (bk bn bs n d B D:Nat)(k:Int)(page:ByteArray)(W:World)(m m1 m2 M:ImgD)(val:Nm→Value)(g1:decide (0<k)=false)(g2:¬0<k)(hck:W.cell? ⟨bk,0,none⟩=some (.int .i64 k))(hcn:W.cell? ⟨bn,0,none⟩=some (.int .i64 (n:Int)))(HS:Hid (∀X,Below B W X→(fun X:World=>X.cell? ⟨bn,0,none⟩=some (.int .i64 (n:Int))∧X.cell? ⟨bs,0,none⟩=some (.int .i64 1)∧X.cell? ⟨bs,0+1,none⟩=some (.string page)∧X.cell? ⟨bs,0+1+1,none⟩=some (nl)) X))(HP1:Hid (∀q,Calls Tryz.prog 27 #[.pointer (some ⟨D,0,none⟩),.int .i64 (n:Int),.int .i64 (-1)] (W.drewN q) (QbU (W.drewN q) B D m val nilV (some m1))))(HTK:Hid (∀ (w1:World) (val1:Nm→Value),DK w1 B D val1 m1→Below B W w1→Calls Tryz.prog 28 #[.pointer (some ⟨D,0,none⟩),.agg #[.int .i64 1,.string page,nl]] w1 (fun r w2=>r=.returned (.int .i64 (d:Int))∧∃val2,DTo w1 w2 B D m1 val1 nilV m2 val2)))(HP2:Hid (∀ (w2:World) (val2:Nm→Value),DK w2 B D val2 m2→Below B W w2→Calls Tryz.prog 27 #[.pointer (some ⟨D,0,none⟩),.int .i64 (n:Int),.int .i64 (d:Int)] w2 (QbU w2 B D m2 val2 nilV (some M)))) :
  Calls Tryz.prog 26 #[.pointer (some ⟨D,0,none⟩),.pointer (some ⟨bk,0,none⟩),.pointer (some ⟨bn,0,none⟩),.pointer (some ⟨bs,0,none⟩)] W (fun r W'=>∃val',r=.returned (.tuple #[])∧DTo W W' B D m val nilV M val'):=by
 go_enter Tryz.func26,Tryz.ntmps26
 try go_wp2_with fail
 go_quiet (fail)
 go_wp2_with (go_at_call 27;refine (HP1.out _).mono ?_;rintro e w1 ⟨rfl,val1,hT1⟩;have hT1:=DTo.drewN_first hT1;have HT1:=Qam hT1;clear hT1);clear hck hcn;refine wp_region_held_drew (S:=(fun X:World=>X.cell? ⟨bn,0,none⟩=some (.int .i64 (n:Int))∧X.cell? ⟨bs,0,none⟩=some (.int .i64 1)∧X.cell? ⟨bs,0+1,none⟩=some (.string page)∧X.cell? ⟨bs,0+1+1,none⟩=some (nl))) (by kernel_rfl) (HS.out _ (Qaw HT1.out.bel)) (fun hHeld=>?_);refine tkH 0 (.pointer (some ⟨D,0,none⟩)) rfl (Or.inl ⟨by rfl,fun w' hSw=>by obtain⟨q1,q2,q3,q4⟩:=hSw;go_simp⟩) hHeld ?_;simp only [lays];refine tkH 1 (.int .i64 (n:Int)) rfl (Or.inl ⟨by rfl,fun w' hSw=>by obtain⟨q1,q2,q3,q4⟩:=hSw;go_simp⟩) hHeld ?_;simp only [lays];refine tkH 2 (.pointer (some ⟨D,0,none⟩)) rfl (Or.inl ⟨by rfl,fun w' hSw=>by obtain⟨q1,q2,q3,q4⟩:=hSw;go_simp⟩) hHeld ?_;simp only [lays];refine tkH 3 (.agg #[.int .i64 1,.string page,nl]) rfl (Or.inl ⟨by rfl,fun w' hSw=>by obtain⟨q1,q2,q3,q4⟩:=hSw;go_simp⟩) hHeld ?_;simp only [lays];refine rdH 4 rfl (fun K hK=>?_);clear hHeld;simp only [lays];rw [if_pos (by rfl)];go_wp2_with (go_at_call 28;refine (HTK.out _ _ HT1.out.dk.drew (Qaw HT1.out.bel)).mono ?_;rintro e w2 ⟨rfl,val2,hT2⟩;have HT2:=Qam (HT1.out.drew.andThen hT2);clear hT2);refine hK.out _ _ (HS.out _ HT2.out.bel) (fun hHeld=>?_);clear hK hHeld K;try simp only [lays]
 refine rdH 5 rfl (fun K hK=>?_);simp only [lays];rw [if_pos (by rfl)];go_wp2_with (go_at_call 27;refine (HP2.out _ _ HT2.out.dk HT2.out.bel).mono ?_;rintro e w3 ⟨rfl,val3,hT3⟩;have HT3:=Qam (HT2.out.andThen hT3);clear hT3);refine hK.out _ _ (HS.out _ HT3.out.bel) (fun hHeld=>?_);clear hK hHeld K;refine wpAnyH_done (by kernel_rfl) ?_ _;go_wp2_with fail
 go_end0
 exact⟨val3,rfl,HT3.out⟩
theorem Qj3 (bk bn bs n d B D:Nat)(k:Int)(page:ByteArray)(W:World)(m m1 m2 M:ImgD)(val:Nm→Value)(j fg fc sl:Nat)(x:Int)(g1:decide (0<j)=true)(g2:0<j)(g3:(j:Int)<(sl:Int))(g4:j<sl)(d3:W.cell? ⟨D,3,none⟩=some (.slice (some ⟨fg,0,none⟩) sl fc))(c2:W.cell? ⟨fg,j,none⟩=some (.int .i64 x))(g5:(x == 1)=false)(hck:W.cell? ⟨bk,0,none⟩=some (.int .i64 (j:Int)))(hcn:W.cell? ⟨bn,0,none⟩=some (.int .i64 (n:Int)))(HS:Hid (∀X,Below B W X→(fun X:World=>X.cell? ⟨bn,0,none⟩=some (.int .i64 (n:Int))∧X.cell? ⟨bs,0,none⟩=some (.int .i64 1)∧X.cell? ⟨bs,0+1,none⟩=some (.string page)∧X.cell? ⟨bs,0+1+1,none⟩=some (nl)) X))(HP1:Hid (∀q,Calls Tryz.prog 27 #[.pointer (some ⟨D,0,none⟩),.int .i64 (n:Int),.int .i64 (-1)] (W.drewN q) (QbU (W.drewN q) B D m val nilV none))) :
  Calls Tryz.prog 26 #[.pointer (some ⟨D,0,none⟩),.pointer (some ⟨bk,0,none⟩),.pointer (some ⟨bn,0,none⟩),.pointer (some ⟨bs,0,none⟩)] W (fun r W'=>r=.panicked Qbm∧Below B W W'):=by
 go_enter Tryz.func26,Tryz.ntmps26
 try go_wp2_with fail
 go_quiet (fail)
 go_wp2_with (go_at_call 27;refine (HP1.out _).mono ?_;rintro e w3 ⟨rfl,b3⟩;exact⟨rfl,rfl,drewN_first b3⟩)
theorem QkZ (bk bn bs n d B D:Nat)(k:Int)(page:ByteArray)(W:World)(m m1 m2 M:ImgD)(val:Nm→Value)(j fg fc sl:Nat)(x:Int)(g1:decide (0<j)=true)(g2:0<j)(g3:(j:Int)<(sl:Int))(g4:j<sl)(d3:W.cell? ⟨D,3,none⟩=some (.slice (some ⟨fg,0,none⟩) sl fc))(c2:W.cell? ⟨fg,j,none⟩=some (.int .i64 x))(g5:(x == 1)=false)(hck:W.cell? ⟨bk,0,none⟩=some (.int .i64 (j:Int)))(hcn:W.cell? ⟨bn,0,none⟩=some (.int .i64 (n:Int)))(HS:Hid (∀X,Below B W X→(fun X:World=>X.cell? ⟨bn,0,none⟩=some (.int .i64 (n:Int))∧X.cell? ⟨bs,0,none⟩=some (.int .i64 1)∧X.cell? ⟨bs,0+1,none⟩=some (.string page)∧X.cell? ⟨bs,0+1+1,none⟩=some (nl)) X))(HP1:Hid (∀q,Calls Tryz.prog 27 #[.pointer (some ⟨D,0,none⟩),.int .i64 (n:Int),.int .i64 (-1)] (W.drewN q) (QbU (W.drewN q) B D m val nilV (some m1))))(HTK:Hid (∀ (w1:World) (val1:Nm→Value),DK w1 B D val1 m1→Below B W w1→Calls Tryz.prog 28 #[.pointer (some ⟨D,0,none⟩),.agg #[.int .i64 1,.string page,nl]] w1 (fun r w2=>r=.panicked Qbm∧Below B W w2))) :
  Calls Tryz.prog 26 #[.pointer (some ⟨D,0,none⟩),.pointer (some ⟨bk,0,none⟩),.pointer (some ⟨bn,0,none⟩),.pointer (some ⟨bs,0,none⟩)] W (fun r W'=>r=.panicked Qbm∧Below B W W'):=by
 go_enter Tryz.func26,Tryz.ntmps26
 try go_wp2_with fail
 go_quiet (fail)
 go_wp2_with (go_at_call 27;refine (HP1.out _).mono ?_;rintro e w1 ⟨rfl,val1,hT1⟩;have hT1:=DTo.drewN_first hT1;have HT1:=Qam hT1;clear hT1);clear hck hcn;refine wp_region_held_drew (S:=(fun X:World=>X.cell? ⟨bn,0,none⟩=some (.int .i64 (n:Int))∧X.cell? ⟨bs,0,none⟩=some (.int .i64 1)∧X.cell? ⟨bs,0+1,none⟩=some (.string page)∧X.cell? ⟨bs,0+1+1,none⟩=some (nl))) (by kernel_rfl) (HS.out _ (Qaw HT1.out.bel)) (fun hHeld=>?_);refine tkH 0 (.pointer (some ⟨D,0,none⟩)) rfl (Or.inl ⟨by rfl,fun w' hSw=>by obtain⟨q1,q2,q3,q4⟩:=hSw;go_simp⟩) hHeld ?_;simp only [lays];refine tkH 1 (.int .i64 (n:Int)) rfl (Or.inl ⟨by rfl,fun w' hSw=>by obtain⟨q1,q2,q3,q4⟩:=hSw;go_simp⟩) hHeld ?_;simp only [lays];refine tkH 2 (.pointer (some ⟨D,0,none⟩)) rfl (Or.inl ⟨by rfl,fun w' hSw=>by obtain⟨q1,q2,q3,q4⟩:=hSw;go_simp⟩) hHeld ?_;simp only [lays];refine tkH 3 (.agg #[.int .i64 1,.string page,nl]) rfl (Or.inl ⟨by rfl,fun w' hSw=>by obtain⟨q1,q2,q3,q4⟩:=hSw;go_simp⟩) hHeld ?_;simp only [lays];refine rdH 4 rfl (fun K hK=>?_);clear hHeld;simp only [lays];rw [if_pos (by rfl)];clear hK;go_wp2_with (go_at_call 28;refine (HTK.out _ _ HT1.out.dk.drew (Qaw HT1.out.bel)).mono ?_;rintro e w2 ⟨rfl,b2⟩;exact⟨rfl,rfl,b2⟩)
theorem Qk0 (bk bn bs n d B D:Nat)(k:Int)(page:ByteArray)(W:World)(m m1 m2 M:ImgD)(val:Nm→Value)(j fg fc sl:Nat)(x:Int)(g1:decide (0<j)=true)(g2:0<j)(g3:(j:Int)<(sl:Int))(g4:j<sl)(d3:W.cell? ⟨D,3,none⟩=some (.slice (some ⟨fg,0,none⟩) sl fc))(c2:W.cell? ⟨fg,j,none⟩=some (.int .i64 x))(g5:(x == 1)=false)(hck:W.cell? ⟨bk,0,none⟩=some (.int .i64 (j:Int)))(hcn:W.cell? ⟨bn,0,none⟩=some (.int .i64 (n:Int)))(HS:Hid (∀X,Below B W X→(fun X:World=>X.cell? ⟨bn,0,none⟩=some (.int .i64 (n:Int))∧X.cell? ⟨bs,0,none⟩=some (.int .i64 1)∧X.cell? ⟨bs,0+1,none⟩=some (.string page)∧X.cell? ⟨bs,0+1+1,none⟩=some (nl)) X))(HP1:Hid (∀q,Calls Tryz.prog 27 #[.pointer (some ⟨D,0,none⟩),.int .i64 (n:Int),.int .i64 (-1)] (W.drewN q) (QbU (W.drewN q) B D m val nilV (some m1))))(HTK:Hid (∀ (w1:World) (val1:Nm→Value),DK w1 B D val1 m1→Below B W w1→Calls Tryz.prog 28 #[.pointer (some ⟨D,0,none⟩),.agg #[.int .i64 1,.string page,nl]] w1 (fun r w2=>r=.returned (.int .i64 (d:Int))∧∃val2,DTo w1 w2 B D m1 val1 nilV m2 val2)))(HP2:Hid (∀ (w2:World) (val2:Nm→Value),DK w2 B D val2 m2→Below B W w2→Calls Tryz.prog 27 #[.pointer (some ⟨D,0,none⟩),.int .i64 (n:Int),.int .i64 (d:Int)] w2 (QbU w2 B D m2 val2 nilV none))) :
  Calls Tryz.prog 26 #[.pointer (some ⟨D,0,none⟩),.pointer (some ⟨bk,0,none⟩),.pointer (some ⟨bn,0,none⟩),.pointer (some ⟨bs,0,none⟩)] W (fun r W'=>r=.panicked Qbm∧Below B W W'):=by
 go_enter Tryz.func26,Tryz.ntmps26
 try go_wp2_with fail
 go_quiet (fail)
 go_wp2_with (go_at_call 27;refine (HP1.out _).mono ?_;rintro e w1 ⟨rfl,val1,hT1⟩;have hT1:=DTo.drewN_first hT1;have HT1:=Qam hT1;clear hT1);clear hck hcn;refine wp_region_held_drew (S:=(fun X:World=>X.cell? ⟨bn,0,none⟩=some (.int .i64 (n:Int))∧X.cell? ⟨bs,0,none⟩=some (.int .i64 1)∧X.cell? ⟨bs,0+1,none⟩=some (.string page)∧X.cell? ⟨bs,0+1+1,none⟩=some (nl))) (by kernel_rfl) (HS.out _ (Qaw HT1.out.bel)) (fun hHeld=>?_);refine tkH 0 (.pointer (some ⟨D,0,none⟩)) rfl (Or.inl ⟨by rfl,fun w' hSw=>by obtain⟨q1,q2,q3,q4⟩:=hSw;go_simp⟩) hHeld ?_;simp only [lays];refine tkH 1 (.int .i64 (n:Int)) rfl (Or.inl ⟨by rfl,fun w' hSw=>by obtain⟨q1,q2,q3,q4⟩:=hSw;go_simp⟩) hHeld ?_;simp only [lays];refine tkH 2 (.pointer (some ⟨D,0,none⟩)) rfl (Or.inl ⟨by rfl,fun w' hSw=>by obtain⟨q1,q2,q3,q4⟩:=hSw;go_simp⟩) hHeld ?_;simp only [lays];refine tkH 3 (.agg #[.int .i64 1,.string page,nl]) rfl (Or.inl ⟨by rfl,fun w' hSw=>by obtain⟨q1,q2,q3,q4⟩:=hSw;go_simp⟩) hHeld ?_;simp only [lays];refine rdH 4 rfl (fun K hK=>?_);clear hHeld;simp only [lays];rw [if_pos (by rfl)];go_wp2_with (go_at_call 28;refine (HTK.out _ _ HT1.out.dk.drew (Qaw HT1.out.bel)).mono ?_;rintro e w2 ⟨rfl,val2,hT2⟩;have HT2:=Qam (HT1.out.drew.andThen hT2);clear hT2);refine hK.out _ _ (HS.out _ HT2.out.bel) (fun hHeld=>?_);clear hK hHeld K;try simp only [lays]
 refine rdH 5 rfl (fun K hK=>?_);simp only [lays];rw [if_pos (by rfl)];clear hK;go_wp2_with (go_at_call 27;refine (HP2.out _ _ HT2.out.dk HT2.out.bel).mono ?_;rintro e w3 ⟨rfl,b3⟩;exact⟨rfl,rfl,HT2.out.bel.trans b3⟩)
theorem QkL (bk bn bs n d B D:Nat)(k:Int)(page:ByteArray)(W:World)(m m1 m2 M:ImgD)(val:Nm→Value)(j fg fc sl:Nat)(x:Int)(g1:decide (0<j)=true)(g2:0<j)(g3:(j:Int)<(sl:Int))(g4:j<sl)(d3:W.cell? ⟨D,3,none⟩=some (.slice (some ⟨fg,0,none⟩) sl fc))(c2:W.cell? ⟨fg,j,none⟩=some (.int .i64 x))(g5:(x == 1)=false)(hck:W.cell? ⟨bk,0,none⟩=some (.int .i64 (j:Int)))(hcn:W.cell? ⟨bn,0,none⟩=some (.int .i64 (n:Int)))(HS:Hid (∀X,Below B W X→(fun X:World=>X.cell? ⟨bn,0,none⟩=some (.int .i64 (n:Int))∧X.cell? ⟨bs,0,none⟩=some (.int .i64 1)∧X.cell? ⟨bs,0+1,none⟩=some (.string page)∧X.cell? ⟨bs,0+1+1,none⟩=some (nl)) X))(HP1:Hid (∀q,Calls Tryz.prog 27 #[.pointer (some ⟨D,0,none⟩),.int .i64 (n:Int),.int .i64 (-1)] (W.drewN q) (QbU (W.drewN q) B D m val nilV (some m1))))(HTK:Hid (∀ (w1:World) (val1:Nm→Value),DK w1 B D val1 m1→Below B W w1→Calls Tryz.prog 28 #[.pointer (some ⟨D,0,none⟩),.agg #[.int .i64 1,.string page,nl]] w1 (fun r w2=>r=.returned (.int .i64 (d:Int))∧∃val2,DTo w1 w2 B D m1 val1 nilV m2 val2)))(HP2:Hid (∀ (w2:World) (val2:Nm→Value),DK w2 B D val2 m2→Below B W w2→Calls Tryz.prog 27 #[.pointer (some ⟨D,0,none⟩),.int .i64 (n:Int),.int .i64 (d:Int)] w2 (QbU w2 B D m2 val2 nilV (some M)))) :
  Calls Tryz.prog 26 #[.pointer (some ⟨D,0,none⟩),.pointer (some ⟨bk,0,none⟩),.pointer (some ⟨bn,0,none⟩),.pointer (some ⟨bs,0,none⟩)] W (fun r W'=>∃val',r=.returned (.tuple #[])∧DTo W W' B D m val nilV M val'):=by
 go_enter Tryz.func26,Tryz.ntmps26
 try go_wp2_with fail
 go_quiet (fail)
 go_wp2_with (go_at_call 27;refine (HP1.out _).mono ?_;rintro e w1 ⟨rfl,val1,hT1⟩;have hT1:=DTo.drewN_first hT1;have HT1:=Qam hT1;clear hT1);clear hck hcn;refine wp_region_held_drew (S:=(fun X:World=>X.cell? ⟨bn,0,none⟩=some (.int .i64 (n:Int))∧X.cell? ⟨bs,0,none⟩=some (.int .i64 1)∧X.cell? ⟨bs,0+1,none⟩=some (.string page)∧X.cell? ⟨bs,0+1+1,none⟩=some (nl))) (by kernel_rfl) (HS.out _ (Qaw HT1.out.bel)) (fun hHeld=>?_);refine tkH 0 (.pointer (some ⟨D,0,none⟩)) rfl (Or.inl ⟨by rfl,fun w' hSw=>by obtain⟨q1,q2,q3,q4⟩:=hSw;go_simp⟩) hHeld ?_;simp only [lays];refine tkH 1 (.int .i64 (n:Int)) rfl (Or.inl ⟨by rfl,fun w' hSw=>by obtain⟨q1,q2,q3,q4⟩:=hSw;go_simp⟩) hHeld ?_;simp only [lays];refine tkH 2 (.pointer (some ⟨D,0,none⟩)) rfl (Or.inl ⟨by rfl,fun w' hSw=>by obtain⟨q1,q2,q3,q4⟩:=hSw;go_simp⟩) hHeld ?_;simp only [lays];refine tkH 3 (.agg #[.int .i64 1,.string page,nl]) rfl (Or.inl ⟨by rfl,fun w' hSw=>by obtain⟨q1,q2,q3,q4⟩:=hSw;go_simp⟩) hHeld ?_;simp only [lays];refine rdH 4 rfl (fun K hK=>?_);clear hHeld;simp only [lays];rw [if_pos (by rfl)];go_wp2_with (go_at_call 28;refine (HTK.out _ _ HT1.out.dk.drew (Qaw HT1.out.bel)).mono ?_;rintro e w2 ⟨rfl,val2,hT2⟩;have HT2:=Qam (HT1.out.drew.andThen hT2);clear hT2);refine hK.out _ _ (HS.out _ HT2.out.bel) (fun hHeld=>?_);clear hK hHeld K;try simp only [lays]
 refine rdH 5 rfl (fun K hK=>?_);simp only [lays];rw [if_pos (by rfl)];go_wp2_with (go_at_call 27;refine (HP2.out _ _ HT2.out.dk HT2.out.bel).mono ?_;rintro e w3 ⟨rfl,val3,hT3⟩;have HT3:=Qam (HT2.out.andThen hT3);clear hT3);refine hK.out _ _ (HS.out _ HT3.out.bel) (fun hHeld=>?_);clear hK hHeld K;refine wpAnyH_done (by kernel_rfl) ?_ _;go_wp2_with fail
 go_end0
 exact⟨val3,rfl,HT3.out⟩
theorem Qki (bk bn bs n d B D:Nat)(k:Int)(page:ByteArray)(W:World)(m m1 m2 M:ImgD)(val:Nm→Value)(j t g cap rl fg fc sl:Nat)(y:Int)(g1:decide (0<j)=true)(g2:0<j)(g3:(j:Int)<(sl:Int))(g4:j<sl)(d3:W.cell? ⟨D,3,none⟩=some (.slice (some ⟨fg,0,none⟩) sl fc))(c2:W.cell? ⟨fg,j,none⟩=some (.int .i64 1))(d1:W.cell? ⟨D,1,none⟩=some (.slice (some ⟨g,0,none⟩) rl cap))(h16:n<16)(g6:n / 4<rl)(g7:(n:Int) / 4<(rl:Int))(hq:((n:Int) / 4).toNat=n / 4)(c:W.cell? ⟨g,n / 4,none⟩=some (.int .i64 (t:Int)))(g8:(t:Int)<(sl:Int))(g9:t<sl)(c3:W.cell? ⟨fg,t,none⟩=some (.int .i64 y))(g5:(y == 1)=false)(hck:W.cell? ⟨bk,0,none⟩=some (.int .i64 (j:Int)))(hcn:W.cell? ⟨bn,0,none⟩=some (.int .i64 (n:Int)))(HS:Hid (∀X,Below B W X→(fun X:World=>X.cell? ⟨bn,0,none⟩=some (.int .i64 (n:Int))∧X.cell? ⟨bs,0,none⟩=some (.int .i64 1)∧X.cell? ⟨bs,0+1,none⟩=some (.string page)∧X.cell? ⟨bs,0+1+1,none⟩=some (nl)) X))(HP1:Hid (∀q,Calls Tryz.prog 27 #[.pointer (some ⟨D,0,none⟩),.int .i64 (n:Int),.int .i64 (-1)] (W.drewN q) (QbU (W.drewN q) B D m val nilV none))) :
  Calls Tryz.prog 26 #[.pointer (some ⟨D,0,none⟩),.pointer (some ⟨bk,0,none⟩),.pointer (some ⟨bn,0,none⟩),.pointer (some ⟨bs,0,none⟩)] W (fun r W'=>r=.panicked Qbm∧Below B W W'):=by
 go_enter Tryz.func26,Tryz.ntmps26
 try go_wp2_with fail
 go_quiet (fail)
 go_wp2_with (go_at_call 27;refine (HP1.out _).mono ?_;rintro e w3 ⟨rfl,b3⟩;exact⟨rfl,rfl,drewN_first b3⟩)
theorem Qk1 (bk bn bs n d B D:Nat)(k:Int)(page:ByteArray)(W:World)(m m1 m2 M:ImgD)(val:Nm→Value)(j t g cap rl fg fc sl:Nat)(y:Int)(g1:decide (0<j)=true)(g2:0<j)(g3:(j:Int)<(sl:Int))(g4:j<sl)(d3:W.cell? ⟨D,3,none⟩=some (.slice (some ⟨fg,0,none⟩) sl fc))(c2:W.cell? ⟨fg,j,none⟩=some (.int .i64 1))(d1:W.cell? ⟨D,1,none⟩=some (.slice (some ⟨g,0,none⟩) rl cap))(h16:n<16)(g6:n / 4<rl)(g7:(n:Int) / 4<(rl:Int))(hq:((n:Int) / 4).toNat=n / 4)(c:W.cell? ⟨g,n / 4,none⟩=some (.int .i64 (t:Int)))(g8:(t:Int)<(sl:Int))(g9:t<sl)(c3:W.cell? ⟨fg,t,none⟩=some (.int .i64 y))(g5:(y == 1)=false)(hck:W.cell? ⟨bk,0,none⟩=some (.int .i64 (j:Int)))(hcn:W.cell? ⟨bn,0,none⟩=some (.int .i64 (n:Int)))(HS:Hid (∀X,Below B W X→(fun X:World=>X.cell? ⟨bn,0,none⟩=some (.int .i64 (n:Int))∧X.cell? ⟨bs,0,none⟩=some (.int .i64 1)∧X.cell? ⟨bs,0+1,none⟩=some (.string page)∧X.cell? ⟨bs,0+1+1,none⟩=some (nl)) X))(HP1:Hid (∀q,Calls Tryz.prog 27 #[.pointer (some ⟨D,0,none⟩),.int .i64 (n:Int),.int .i64 (-1)] (W.drewN q) (QbU (W.drewN q) B D m val nilV (some m1))))(HTK:Hid (∀ (w1:World) (val1:Nm→Value),DK w1 B D val1 m1→Below B W w1→Calls Tryz.prog 28 #[.pointer (some ⟨D,0,none⟩),.agg #[.int .i64 1,.string page,nl]] w1 (fun r w2=>r=.panicked Qbm∧Below B W w2))) :
  Calls Tryz.prog 26 #[.pointer (some ⟨D,0,none⟩),.pointer (some ⟨bk,0,none⟩),.pointer (some ⟨bn,0,none⟩),.pointer (some ⟨bs,0,none⟩)] W (fun r W'=>r=.panicked Qbm∧Below B W W'):=by
 go_enter Tryz.func26,Tryz.ntmps26
 try go_wp2_with fail
 go_quiet (fail)
 go_wp2_with (go_at_call 27;refine (HP1.out _).mono ?_;rintro e w1 ⟨rfl,val1,hT1⟩;have hT1:=DTo.drewN_first hT1;have HT1:=Qam hT1;clear hT1);clear hck hcn;refine wp_region_held_drew (S:=(fun X:World=>X.cell? ⟨bn,0,none⟩=some (.int .i64 (n:Int))∧X.cell? ⟨bs,0,none⟩=some (.int .i64 1)∧X.cell? ⟨bs,0+1,none⟩=some (.string page)∧X.cell? ⟨bs,0+1+1,none⟩=some (nl))) (by kernel_rfl) (HS.out _ (Qaw HT1.out.bel)) (fun hHeld=>?_);refine tkH 0 (.pointer (some ⟨D,0,none⟩)) rfl (Or.inl ⟨by rfl,fun w' hSw=>by obtain⟨q1,q2,q3,q4⟩:=hSw;go_simp⟩) hHeld ?_;simp only [lays];refine tkH 1 (.int .i64 (n:Int)) rfl (Or.inl ⟨by rfl,fun w' hSw=>by obtain⟨q1,q2,q3,q4⟩:=hSw;go_simp⟩) hHeld ?_;simp only [lays];refine tkH 2 (.pointer (some ⟨D,0,none⟩)) rfl (Or.inl ⟨by rfl,fun w' hSw=>by obtain⟨q1,q2,q3,q4⟩:=hSw;go_simp⟩) hHeld ?_;simp only [lays];refine tkH 3 (.agg #[.int .i64 1,.string page,nl]) rfl (Or.inl ⟨by rfl,fun w' hSw=>by obtain⟨q1,q2,q3,q4⟩:=hSw;go_simp⟩) hHeld ?_;simp only [lays];refine rdH 4 rfl (fun K hK=>?_);clear hHeld;simp only [lays];rw [if_pos (by rfl)];clear hK;go_wp2_with (go_at_call 28;refine (HTK.out _ _ HT1.out.dk.drew (Qaw HT1.out.bel)).mono ?_;rintro e w2 ⟨rfl,b2⟩;exact⟨rfl,rfl,b2⟩)
theorem QkU (bk bn bs n d B D:Nat)(k:Int)(page:ByteArray)(W:World)(m m1 m2 M:ImgD)(val:Nm→Value)(j t g cap rl fg fc sl:Nat)(y:Int)(g1:decide (0<j)=true)(g2:0<j)(g3:(j:Int)<(sl:Int))(g4:j<sl)(d3:W.cell? ⟨D,3,none⟩=some (.slice (some ⟨fg,0,none⟩) sl fc))(c2:W.cell? ⟨fg,j,none⟩=some (.int .i64 1))(d1:W.cell? ⟨D,1,none⟩=some (.slice (some ⟨g,0,none⟩) rl cap))(h16:n<16)(g6:n / 4<rl)(g7:(n:Int) / 4<(rl:Int))(hq:((n:Int) / 4).toNat=n / 4)(c:W.cell? ⟨g,n / 4,none⟩=some (.int .i64 (t:Int)))(g8:(t:Int)<(sl:Int))(g9:t<sl)(c3:W.cell? ⟨fg,t,none⟩=some (.int .i64 y))(g5:(y == 1)=false)(hck:W.cell? ⟨bk,0,none⟩=some (.int .i64 (j:Int)))(hcn:W.cell? ⟨bn,0,none⟩=some (.int .i64 (n:Int)))(HS:Hid (∀X,Below B W X→(fun X:World=>X.cell? ⟨bn,0,none⟩=some (.int .i64 (n:Int))∧X.cell? ⟨bs,0,none⟩=some (.int .i64 1)∧X.cell? ⟨bs,0+1,none⟩=some (.string page)∧X.cell? ⟨bs,0+1+1,none⟩=some (nl)) X))(HP1:Hid (∀q,Calls Tryz.prog 27 #[.pointer (some ⟨D,0,none⟩),.int .i64 (n:Int),.int .i64 (-1)] (W.drewN q) (QbU (W.drewN q) B D m val nilV (some m1))))(HTK:Hid (∀ (w1:World) (val1:Nm→Value),DK w1 B D val1 m1→Below B W w1→Calls Tryz.prog 28 #[.pointer (some ⟨D,0,none⟩),.agg #[.int .i64 1,.string page,nl]] w1 (fun r w2=>r=.returned (.int .i64 (d:Int))∧∃val2,DTo w1 w2 B D m1 val1 nilV m2 val2)))(HP2:Hid (∀ (w2:World) (val2:Nm→Value),DK w2 B D val2 m2→Below B W w2→Calls Tryz.prog 27 #[.pointer (some ⟨D,0,none⟩),.int .i64 (n:Int),.int .i64 (d:Int)] w2 (QbU w2 B D m2 val2 nilV none))) :
  Calls Tryz.prog 26 #[.pointer (some ⟨D,0,none⟩),.pointer (some ⟨bk,0,none⟩),.pointer (some ⟨bn,0,none⟩),.pointer (some ⟨bs,0,none⟩)] W (fun r W'=>r=.panicked Qbm∧Below B W W'):=by
 go_enter Tryz.func26,Tryz.ntmps26
 try go_wp2_with fail
 go_quiet (fail)
 go_wp2_with (go_at_call 27;refine (HP1.out _).mono ?_;rintro e w1 ⟨rfl,val1,hT1⟩;have hT1:=DTo.drewN_first hT1;have HT1:=Qam hT1;clear hT1);clear hck hcn;refine wp_region_held_drew (S:=(fun X:World=>X.cell? ⟨bn,0,none⟩=some (.int .i64 (n:Int))∧X.cell? ⟨bs,0,none⟩=some (.int .i64 1)∧X.cell? ⟨bs,0+1,none⟩=some (.string page)∧X.cell? ⟨bs,0+1+1,none⟩=some (nl))) (by kernel_rfl) (HS.out _ (Qaw HT1.out.bel)) (fun hHeld=>?_);refine tkH 0 (.pointer (some ⟨D,0,none⟩)) rfl (Or.inl ⟨by rfl,fun w' hSw=>by obtain⟨q1,q2,q3,q4⟩:=hSw;go_simp⟩) hHeld ?_;simp only [lays];refine tkH 1 (.int .i64 (n:Int)) rfl (Or.inl ⟨by rfl,fun w' hSw=>by obtain⟨q1,q2,q3,q4⟩:=hSw;go_simp⟩) hHeld ?_;simp only [lays];refine tkH 2 (.pointer (some ⟨D,0,none⟩)) rfl (Or.inl ⟨by rfl,fun w' hSw=>by obtain⟨q1,q2,q3,q4⟩:=hSw;go_simp⟩) hHeld ?_;simp only [lays];refine tkH 3 (.agg #[.int .i64 1,.string page,nl]) rfl (Or.inl ⟨by rfl,fun w' hSw=>by obtain⟨q1,q2,q3,q4⟩:=hSw;go_simp⟩) hHeld ?_;simp only [lays];refine rdH 4 rfl (fun K hK=>?_);clear hHeld;simp only [lays];rw [if_pos (by rfl)];go_wp2_with (go_at_call 28;refine (HTK.out _ _ HT1.out.dk.drew (Qaw HT1.out.bel)).mono ?_;rintro e w2 ⟨rfl,val2,hT2⟩;have HT2:=Qam (HT1.out.drew.andThen hT2);clear hT2);refine hK.out _ _ (HS.out _ HT2.out.bel) (fun hHeld=>?_);clear hK hHeld K;try simp only [lays]
 refine rdH 5 rfl (fun K hK=>?_);simp only [lays];rw [if_pos (by rfl)];clear hK;go_wp2_with (go_at_call 27;refine (HP2.out _ _ HT2.out.dk HT2.out.bel).mono ?_;rintro e w3 ⟨rfl,b3⟩;exact⟨rfl,rfl,HT2.out.bel.trans b3⟩)
theorem QjP (bk bn bs n d B D:Nat)(k:Int)(page:ByteArray)(W:World)(m m1 m2 M:ImgD)(val:Nm→Value)(j t g cap rl fg fc sl:Nat)(y:Int)(g1:decide (0<j)=true)(g2:0<j)(g3:(j:Int)<(sl:Int))(g4:j<sl)(d3:W.cell? ⟨D,3,none⟩=some (.slice (some ⟨fg,0,none⟩) sl fc))(c2:W.cell? ⟨fg,j,none⟩=some (.int .i64 1))(d1:W.cell? ⟨D,1,none⟩=some (.slice (some ⟨g,0,none⟩) rl cap))(h16:n<16)(g6:n / 4<rl)(g7:(n:Int) / 4<(rl:Int))(hq:((n:Int) / 4).toNat=n / 4)(c:W.cell? ⟨g,n / 4,none⟩=some (.int .i64 (t:Int)))(g8:(t:Int)<(sl:Int))(g9:t<sl)(c3:W.cell? ⟨fg,t,none⟩=some (.int .i64 y))(g5:(y == 1)=false)(hck:W.cell? ⟨bk,0,none⟩=some (.int .i64 (j:Int)))(hcn:W.cell? ⟨bn,0,none⟩=some (.int .i64 (n:Int)))(HS:Hid (∀X,Below B W X→(fun X:World=>X.cell? ⟨bn,0,none⟩=some (.int .i64 (n:Int))∧X.cell? ⟨bs,0,none⟩=some (.int .i64 1)∧X.cell? ⟨bs,0+1,none⟩=some (.string page)∧X.cell? ⟨bs,0+1+1,none⟩=some (nl)) X))(HP1:Hid (∀q,Calls Tryz.prog 27 #[.pointer (some ⟨D,0,none⟩),.int .i64 (n:Int),.int .i64 (-1)] (W.drewN q) (QbU (W.drewN q) B D m val nilV (some m1))))(HTK:Hid (∀ (w1:World) (val1:Nm→Value),DK w1 B D val1 m1→Below B W w1→Calls Tryz.prog 28 #[.pointer (some ⟨D,0,none⟩),.agg #[.int .i64 1,.string page,nl]] w1 (fun r w2=>r=.returned (.int .i64 (d:Int))∧∃val2,DTo w1 w2 B D m1 val1 nilV m2 val2)))(HP2:Hid (∀ (w2:World) (val2:Nm→Value),DK w2 B D val2 m2→Below B W w2→Calls Tryz.prog 27 #[.pointer (some ⟨D,0,none⟩),.int .i64 (n:Int),.int .i64 (d:Int)] w2 (QbU w2 B D m2 val2 nilV (some M)))) :
  Calls Tryz.prog 26 #[.pointer (some ⟨D,0,none⟩),.pointer (some ⟨bk,0,none⟩),.pointer (some ⟨bn,0,none⟩),.pointer (some ⟨bs,0,none⟩)] W (fun r W'=>∃val',r=.returned (.tuple #[])∧DTo W W' B D m val nilV M val'):=by
 go_enter Tryz.func26,Tryz.ntmps26
 try go_wp2_with fail
 go_quiet (fail)
 go_wp2_with (go_at_call 27;refine (HP1.out _).mono ?_;rintro e w1 ⟨rfl,val1,hT1⟩;have hT1:=DTo.drewN_first hT1;have HT1:=Qam hT1;clear hT1);clear hck hcn;refine wp_region_held_drew (S:=(fun X:World=>X.cell? ⟨bn,0,none⟩=some (.int .i64 (n:Int))∧X.cell? ⟨bs,0,none⟩=some (.int .i64 1)∧X.cell? ⟨bs,0+1,none⟩=some (.string page)∧X.cell? ⟨bs,0+1+1,none⟩=some (nl))) (by kernel_rfl) (HS.out _ (Qaw HT1.out.bel)) (fun hHeld=>?_);refine tkH 0 (.pointer (some ⟨D,0,none⟩)) rfl (Or.inl ⟨by rfl,fun w' hSw=>by obtain⟨q1,q2,q3,q4⟩:=hSw;go_simp⟩) hHeld ?_;simp only [lays];refine tkH 1 (.int .i64 (n:Int)) rfl (Or.inl ⟨by rfl,fun w' hSw=>by obtain⟨q1,q2,q3,q4⟩:=hSw;go_simp⟩) hHeld ?_;simp only [lays];refine tkH 2 (.pointer (some ⟨D,0,none⟩)) rfl (Or.inl ⟨by rfl,fun w' hSw=>by obtain⟨q1,q2,q3,q4⟩:=hSw;go_simp⟩) hHeld ?_;simp only [lays];refine tkH 3 (.agg #[.int .i64 1,.string page,nl]) rfl (Or.inl ⟨by rfl,fun w' hSw=>by obtain⟨q1,q2,q3,q4⟩:=hSw;go_simp⟩) hHeld ?_;simp only [lays];refine rdH 4 rfl (fun K hK=>?_);clear hHeld;simp only [lays];rw [if_pos (by rfl)];go_wp2_with (go_at_call 28;refine (HTK.out _ _ HT1.out.dk.drew (Qaw HT1.out.bel)).mono ?_;rintro e w2 ⟨rfl,val2,hT2⟩;have HT2:=Qam (HT1.out.drew.andThen hT2);clear hT2);refine hK.out _ _ (HS.out _ HT2.out.bel) (fun hHeld=>?_);clear hK hHeld K;try simp only [lays]
 refine rdH 5 rfl (fun K hK=>?_);simp only [lays];rw [if_pos (by rfl)];go_wp2_with (go_at_call 27;refine (HP2.out _ _ HT2.out.dk HT2.out.bel).mono ?_;rintro e w3 ⟨rfl,val3,hT3⟩;have HT3:=Qam (HT2.out.andThen hT3);clear hT3);refine hK.out _ _ (HS.out _ HT3.out.bel) (fun hHeld=>?_);clear hK hHeld K;refine wpAnyH_done (by kernel_rfl) ?_ _;go_wp2_with fail
 go_end0
 exact⟨val3,rfl,HT3.out⟩

theorem DTo.drew_first {B D:Nat}{W w1:World}{m m1:ImgD}{val val1:Nm→Value}{ev:Value}(h:DTo W.drew w1 B D m val ev m1 val1):DTo W w1 B D m val ev m1 val1:=⟨h.dk,⟨h.bel.os,h.bel.tape,h.bel.output,h.bel.size,h.bel.block⟩,h.keep,h.src⟩
theorem DK.drewN {W:World}{B D:Nat}{val:Nm→Value}{m:ImgD}(h:DK W B D val m)(q:Nat):DK (W.drewN q) B D val m:=h.below (below_drewN (Below.refl _ _) q)
theorem Qo4 (bk bn bs n j t B D:Nat)(page:ByteArray)(W:World)(m:ImgD)(val:Nm→Value)(hK:DK W B D val m)(hck:W.cell? ⟨bk,0,none⟩=some (.int .i64 (j:Int)))(hcn:W.cell? ⟨bn,0,none⟩=some (.int .i64 (n:Int)))(s0:W.cell? ⟨bs,0,none⟩=some (.int .i64 1))(s1:W.cell? ⟨bs,1,none⟩=some (.string page))(s2:W.cell? ⟨bs,2,none⟩=some (nl))(ls:bs<B)(lk:bk<B)(h16:n<16)(hr:n / 4<m.root.length)(ht:m.root.getD (n / 4) 0=(t:Int))(htl:t<m.slots.length)(hrl:m.refs.length=m.slots.length)(hrt:m.refs.getD t 0=1)(hj1:1≤j)(hjl:j<m.slots.length)(hrj:m.refs.getD j 0=1) :
  Calls Tryz.prog 26 #[.pointer (some ⟨D,0,none⟩),.pointer (some ⟨bk,0,none⟩),.pointer (some ⟨bn,0,none⟩),.pointer (some ⟨bs,0,none⟩)] W (fun r W'=>∃val',r=.returned (.tuple #[])∧DTo W W' B D m val nilV { m with slots:=m.slots.set j (1,page,[]) } val'):=by
 obtain⟨g,cap,e,c,_⟩:=hK.rootAt hr;rw [ht] at c;have d1:=hK.root5 e;obtain⟨fg,fc,e2,c2,_⟩:=hK.refsAt (r:=j) (by omega);obtain⟨fg',fc',e2',c3,_⟩:=hK.refsAt (r:=t) (by omega);rw [e2] at e2';simp only [Value.slice.injEq,Option.some.injEq,Addr.mk.injEq,and_true,true_and] at e2';obtain⟨rfl,rfl⟩:=e2';rw [hrj] at c2;rw [hrt] at c3;rw [hrl] at e2;have d3:=hK.refs5 e2;obtain⟨sg,sc,e3,t0,t1,t2,sf,hsB,hsl,hsD,_⟩:=hK.slotAt hjl;have d2:=hK.slots5 e3;have f0:=sf (j*3);have f1:=sf (j*3+1);have f2:=sf (j*3+2);have hq:((n:Int) / 4).toNat=n / 4:=by omega
 have g1:decide (0<j)=true:=by simp;omega
 have g2:0<j:=by omega
 have g3:(j:Int)<(m.slots.length:Int):=by omega
 have g7:(n:Int) / 4<(m.root.length:Int):=by omega
 have g8:(t:Int)<(m.slots.length:Int):=by omega
 have nDS:¬D=sg:=fun x=>hsD x.symm
 have nSD:¬sg=D:=hsD;have nbS:¬bs=sg:=by omega
 have nSb:¬sg=bs:=by omega
 have nkS:¬bk=sg:=by omega
 have nSk:¬sg=bk:=by omega
 have HF:Hid (∀q,DTo W ((((W.drewN q).drew.setCell ⟨sg,j*3,none⟩ (.int .i64 1)).setCell ⟨sg,j*3+1,none⟩ (.string page)).setCell ⟨sg,j*3+2,none⟩ (nl)) B D m val nilV { m with slots:=m.slots.set j (1,page,[]) } (upd val (.tab j) nilV)):=fun q=>DTo.drewN_first (DTo.drew_first ((DTo.refl ((hK.drewN q).drew) nilV).setSlot hjl e3 1 page [] (World.ownsRow_nil _ _ _ _) (fun b hb _ q hq=>(by cases hq)) (by intro x;cases x) (fun q x=>(by cases x))))
 have k2:=(five (Qan (Qan (Qan hK.box nDS (j*3) (.int .i64 1)) nDS (j*3+1) (.string page)) nDS (j*3+2) (nl))).2.2.1;rw [e3] at k2;have hcS:∀i v,W.cell? ⟨bs,i,none⟩=some v→(((W.setCell ⟨sg,j*3,none⟩ (.int .i64 1)).setCell ⟨sg,j*3+1,none⟩ (.string page)).setCell ⟨sg,j*3+2,none⟩ (nl)).cell? ⟨bs,i,none⟩=some v:=fun i v hv=>by
  rw [World.cell?_setCell_far _ _ _ _ nSb,World.cell?_setCell_far _ _ _ _ nSb,World.cell?_setCell_far _ _ _ _ nSb];exact hv
 have hcK:∀i v,bk<B→W.cell? ⟨bk,i,none⟩=some v→(((W.setCell ⟨sg,j*3,none⟩ (.int .i64 1)).setCell ⟨sg,j*3+1,none⟩ (.string page)).setCell ⟨sg,j*3+2,none⟩ (nl)).cell? ⟨bk,i,none⟩=some v:=fun i v hb hv=>by
  have nSk:¬sg=bk:=by omega
  rw [World.cell?_setCell_far _ _ _ _ nSk,World.cell?_setCell_far _ _ _ _ nSk,World.cell?_setCell_far _ _ _ _ nSk];exact hv
 have KK:=Qam (And.intro k2 (And.intro (hcS _ _ s0) (And.intro (hcS _ _ s1) (And.intro (hcS _ _ s2) (hcK _ _ lk hck)))));clear hcS hcK k2 hK ht hrt hrj hrl e e2 e3 sf
 go_enter Tryz.func26,Tryz.ntmps26
 try go_wp2_with fail
 go_quiet (fail)
 go_wp2_with fail
 go_region_held3 (fun X=>X.cell? ⟨D,0+1+1,none⟩=some (.slice (some ⟨sg,0,none⟩) m.slots.length sc)∧X.cell? ⟨bs,0,none⟩=some (.int .i64 1)∧X.cell? ⟨bs,0+1,none⟩=some (.string page)∧X.cell? ⟨bs,0+1+1,none⟩=some (nl)∧X.cell? ⟨bk,0,none⟩=some (.int .i64 (j:Int))) (first | exact⟨d2,s0,s1,s2,hck⟩ | exact KK.out) (fail)
 go_wp2_with fail;refine bodyPost_ret (results_none rfl _ _ _) rfl ?_;exact⟨_,rfl,HF.out _⟩
theorem Qkf {w:World}{m:ImgD}{n bk bn bs:Nat}{k:Int}{page:ByteArray}(ck:w.cell? ⟨bk,0,none⟩=some (.int .i64 k))(cn:w.cell? ⟨bn,0,none⟩=some (.int .i64 (n:Int)))(s0:w.cell? ⟨bs,0,none⟩=some (.int .i64 1))(s1:w.cell? ⟨bs,1,none⟩=some (.string page))(s2:w.cell? ⟨bs,2,none⟩=some (nl))(lk:bk<w.heap.size)(ln:bn<w.heap.size)(ls:bs<w.heap.size)(hC:Qaq m=0)(hn:(n:Int)<m.guest)(hk:QaT m m.root n=k):QfJ w 26 #[.pointer (some ⟨bk,0,none⟩),.pointer (some ⟨bn,0,none⟩),.pointer (some ⟨bs,0,none⟩)] m (wrP m n page):=by
 intro W D B val hb h1' h2 hK;have ck:=(hb.cell (p:=⟨bk,0,none⟩) lk).trans ck;have cn:=(hb.cell (p:=⟨bn,0,none⟩) ln).trans cn;have s0:=(hb.cell (p:=⟨bs,0,none⟩) ls).trans s0;have s1:=(hb.cell (p:=⟨bs,1,none⟩) ls).trans s1;have s2:=(hb.cell (p:=⟨bs,2,none⟩) ls).trans s2
 show Calls Tryz.prog 26 #[.pointer (some ⟨D,0,none⟩),.pointer (some ⟨bk,0,none⟩),.pointer (some ⟨bn,0,none⟩),.pointer (some ⟨bs,0,none⟩)] W _
 have hs:=Qal hC;have hg:=Qa4 hs;have hro:=Qa3 hs;have hrl:=(Qad hs).2.2.1;have hr:n / 4<m.root.length:=by omega
 have h16:n<16:=by omega
 obtain⟨t,ht,htl⟩:=Qb3 hs hr;have hts:=Qa0 hs hr;have HS:Hid (∀X,Below B W X→(fun X:World=>X.cell? ⟨bn,0,none⟩=some (.int .i64 (n:Int))∧X.cell? ⟨bs,0,none⟩=some (.int .i64 1)∧X.cell? ⟨bs,0+1,none⟩=some (.string page)∧X.cell? ⟨bs,0+1+1,none⟩=some (nl)) X):=fun X hX=>⟨(hX.cell (p:=⟨bn,0,none⟩) (Nat.lt_of_lt_of_le ln h1')).trans cn,(hX.cell (p:=⟨bs,0,none⟩) (Nat.lt_of_lt_of_le ls h1')).trans s0,(hX.cell (p:=⟨bs,1,none⟩) (Nat.lt_of_lt_of_le ls h1')).trans s1,(hX.cell (p:=⟨bs,2,none⟩) (Nat.lt_of_lt_of_le ls h1')).trans s2⟩
 have HP1:∀q,Calls Tryz.prog 27 #[.pointer (some ⟨D,0,none⟩),.int .i64 (n:Int),.int .i64 (-1)] (W.drewN q) (QbU (W.drewN q) B D m val nilV (wr1 m n)):=fun q=>Qlj (hK.drewN q) h2 h16 hr ht htl (.inr (Qad hs).2.1) hrl hts.1 (by decide)
 unfold wrP
 by_cases hw:Qez m n=true
 ·rw [if_pos hw];unfold Qez inPl at hw;rw [hk,ht] at hw;simp only [Bool.and_eq_true,decide_eq_true_eq,bne_iff_ne,ne_eq,beq_iff_eq,Int.toNat_natCast] at hw;obtain⟨a1,⟨a2,a3⟩,a4⟩:=hw;rcases Qfc hs hro.2 n hr with h | h | ⟨j,hj,j1,jl,_⟩
  ·rw [hk] at h;omega
  ·rw [hk] at h;omega
  ·have ekj:k=(j:Int):=hk.symm.trans hj;subst ekj;rw [Int.toNat_natCast] at a4;rw [hk,Int.toNat_natCast];exact Qo4 bk bn bs n j t B D page W m val hK ck cn s0 s1 s2 (by omega) (by omega) h16 hr ht htl hrl a3 j1 jl a4
 ·rw [if_neg hw];have hgd:(¬0<k)∨(∃ (j fg fc:Nat) (x:Int),k=(j:Int)∧0<j∧j<m.slots.length∧W.cell? ⟨D,3,none⟩=some (.slice (some ⟨fg,0,none⟩) m.slots.length fc)∧W.cell? ⟨fg,j,none⟩=some (.int .i64 x)∧(x == 1)=false)∨(∃ (j g cap fg fc:Nat) (y:Int),k=(j:Int)∧0<j∧j<m.slots.length∧W.cell? ⟨D,3,none⟩=some (.slice (some ⟨fg,0,none⟩) m.slots.length fc)∧W.cell? ⟨fg,j,none⟩=some (.int .i64 1)∧W.cell? ⟨D,1,none⟩=some (.slice (some ⟨g,0,none⟩) m.root.length cap)∧W.cell? ⟨g,n / 4,none⟩=some (.int .i64 (t:Int))∧W.cell? ⟨fg,t,none⟩=some (.int .i64 y)∧(y == 1)=false):=by
   by_cases h0:0<k
   ·right
    rcases Qfc hs hro.2 n hr with h | h | ⟨j,hj,j1,jl,_⟩
    ·rw [hk] at h;omega
    ·rw [hk] at h;omega
    ·have ekj:k=(j:Int):=hk.symm.trans hj;obtain⟨fg,fc,e2,c2,_⟩:=hK.refsAt (r:=j) (by omega);have d3:=hK.refs5 e2;rw [hrl] at d3
     cases hx:m.refs.getD j 0 == 1 with
     | false=>exact .inl ⟨j,fg,fc,_,ekj,by omega,jl,d3,c2,hx⟩
     | true=>
      obtain⟨fg',fc',e2',c3,_⟩:=hK.refsAt (r:=t) (by omega);rw [e2] at e2';simp only [Value.slice.injEq,Option.some.injEq,Addr.mk.injEq,and_true,true_and] at e2';obtain⟨rfl,rfl⟩:=e2';obtain⟨g,cap,e,c,_⟩:=hK.rootAt hr;rw [ht] at c;have hx1:m.refs.getD j 0=1:=by simpa using hx
      rw [hx1] at c2;refine .inr ⟨j,g,cap,fg,fc,_,ekj,by omega,jl,d3,c2,hK.root5 e,c,c3,?_⟩
      cases hy:m.refs.getD t 0 == 1 with
      | false=>rfl
      | true=>
       refine absurd ?_ hw;have ht0:¬(t:Int)=0:=fun x=>by
        have hk':=hk;unfold QaT at hk';rw [ht,if_pos x] at hk';omega
       unfold Qez inPl;rw [hj,ht,Int.toNat_natCast,Int.toNat_natCast,hx,hy];simp
       omega
   ·exact .inl h0
  cases h1:wr1 m n with
  | none=>
   rcases hgd with g | ⟨j,fg,fc,x,rfl,j1,jl,d3,c2,g5⟩ | ⟨j,g,cap,fg,fc,y,rfl,j1,jl,d3,c2,d1,c,c3,g5⟩
   ·exact Qkl bk bn bs n 0 B D k page W m m m m val (by simp;omega) g ck cn HS (fun q=>by have:=HP1 q;rw [h1] at this;exact this)
   ·exact Qj3 bk bn bs n 0 B D 0 page W m m m m val j fg fc m.slots.length x (by simp;omega) j1 (by omega) jl d3 c2 g5 ck cn HS (fun q=>by have:=HP1 q;rw [h1] at this;exact this)
   ·exact Qki bk bn bs n 0 B D 0 page W m m m m val j t g cap m.root.length fg fc m.slots.length y (by simp;omega) j1 (by omega) jl d3 c2 d1 h16 hr (by omega) (by omega) c (by omega) htl c3 g5 ck cn HS (fun q=>by have:=HP1 q;rw [h1] at this;exact this)
  | some m1=>
   dsimp only;have hsh:=Qhg hC hn (.inr rfl) h1;have hs1:=(Qad hsh).2.1;have hrl1:=(Qad hsh).2.2.1
   by_cases hg40:QaK m1.slots=40
   ·rw [if_pos hg40];have HTN:Hid (∀ (w1:World) (val1:Nm→Value),DK w1 B D val1 m1→Below B W w1→Calls Tryz.prog 28 #[.pointer (some ⟨D,0,none⟩),.agg #[.int .i64 1,.string page,nl]] w1 (fun r w2=>r=.panicked Qbm∧Below B W w2)):=fun w1 val1 hk1 hb1=>(Qe5 (es:=[]) hk1 hs1 hg40 (World.ownsRow_nil _ _ _ _)).mono (fun e w2 h=>⟨h.1,hb1.trans (h.2.mono (Nat.le_trans h2 hb1.size))⟩)
    rcases hgd with g | ⟨j,fg,fc,x,rfl,j1,jl,d3,c2,g5⟩ | ⟨j,g,cap,fg,fc,y,rfl,j1,jl,d3,c2,d1,c,c3,g5⟩
    ·exact Qkd bk bn bs n 0 B D k page W m m1 m m val (by simp;omega) g ck cn HS (fun q=>by have:=HP1 q;rw [h1] at this;exact this) HTN
    ·exact QkZ bk bn bs n 0 B D 0 page W m m1 m m val j fg fc m.slots.length x (by simp;omega) j1 (by omega) jl d3 c2 g5 ck cn HS (fun q=>by have:=HP1 q;rw [h1] at this;exact this) HTN
    ·exact Qk1 bk bn bs n 0 B D 0 page W m m1 m m val j t g cap m.root.length fg fc m.slots.length y (by simp;omega) j1 (by omega) jl d3 c2 d1 h16 hr (by omega) (by omega) c (by omega) htl c3 g5 ck cn HS (fun q=>by have:=HP1 q;rw [h1] at this;exact this) HTN
   ·rw [if_neg hg40];obtain⟨t2,ht2,htl2,hip,hrl2,hr2,hck2,hE2⟩:=QlO hC hn h1 hg40 page;have HTK:Hid (∀ (w1:World) (val1:Nm→Value),DK w1 B D val1 m1→Below B W w1→Calls Tryz.prog 28 #[.pointer (some ⟨D,0,none⟩),.agg #[.int .i64 1,.string page,nl]] w1 (fun r w2=>r=.returned (.int .i64 (QaK m1.slots:Int))∧∃val2,DTo w1 w2 B D m1 val1 nilV (Qa1 m1 (1,page,[])) val2)):=fun w1 val1 hk1 hb1=>(QiY (es:=[]) hk1 (Nat.le_trans h2 hb1.size) hs1 hrl1 rfl hg40 (World.ownsRow_nil _ _ _ _) (fun a ha q hq=>by cases hq) (by intro x;cases x)).mono (fun e w2 h=>by obtain⟨a,val2,hT,_⟩:=h;exact⟨a,val2,hT⟩)
    have HP2:∀ (w2:World) (val2:Nm→Value),DK w2 B D val2 (Qa1 m1 (1,page,[]))→Below B W w2→Calls Tryz.prog 27 #[.pointer (some ⟨D,0,none⟩),.int .i64 (n:Int),.int .i64 (QaK m1.slots:Int)] w2 (QbU w2 B D (Qa1 m1 (1,page,[])) val2 nilV (layP (Qa1 m1 (1,page,[])) (n / 4) ((Qak (Qa1 m1 (1,page,[])) (n / 4)).set (n % 4) (QaK m1.slots:Int)))):=fun w2 val2 hk2 hb2=>Qlj hk2 (Nat.le_trans h2 hb2.size) h16 hr2 ht2 htl2 (.inl hip) hrl2 hck2 hE2
    cases ho:layP (Qa1 m1 (1,page,[])) (n / 4) ((Qak (Qa1 m1 (1,page,[])) (n / 4)).set (n % 4) (QaK m1.slots:Int)) with
    | none=>
     rcases hgd with g | ⟨j,fg,fc,x,rfl,j1,jl,d3,c2,g5⟩ | ⟨j,g,cap,fg,fc,y,rfl,j1,jl,d3,c2,d1,c,c3,g5⟩
     ·exact QjN bk bn bs n (QaK m1.slots) B D k page W m m1 (Qa1 m1 (1,page,[])) m val (by simp;omega) g ck cn HS (fun q=>by have:=HP1 q;rw [h1] at this;exact this) HTK (fun w2 val2 hk2 hb2=>by have:=HP2 w2 val2 hk2 hb2;rw [ho] at this;exact this)
     ·exact Qk0 bk bn bs n (QaK m1.slots) B D 0 page W m m1 (Qa1 m1 (1,page,[])) m val j fg fc m.slots.length x (by simp;omega) j1 (by omega) jl d3 c2 g5 ck cn HS (fun q=>by have:=HP1 q;rw [h1] at this;exact this) HTK (fun w2 val2 hk2 hb2=>by have:=HP2 w2 val2 hk2 hb2;rw [ho] at this;exact this)
     ·exact QkU bk bn bs n (QaK m1.slots) B D 0 page W m m1 (Qa1 m1 (1,page,[])) m val j t g cap m.root.length fg fc m.slots.length y (by simp;omega) j1 (by omega) jl d3 c2 d1 h16 hr (by omega) (by omega) c (by omega) htl c3 g5 ck cn HS (fun q=>by have:=HP1 q;rw [h1] at this;exact this) HTK (fun w2 val2 hk2 hb2=>by have:=HP2 w2 val2 hk2 hb2;rw [ho] at this;exact this)
    | some M=>
     rcases hgd with g | ⟨j,fg,fc,x,rfl,j1,jl,d3,c2,g5⟩ | ⟨j,g,cap,fg,fc,y,rfl,j1,jl,d3,c2,d1,c,c3,g5⟩
     ·exact QjM bk bn bs n (QaK m1.slots) B D k page W m m1 (Qa1 m1 (1,page,[])) M val (by simp;omega) g ck cn HS (fun q=>by have:=HP1 q;rw [h1] at this;exact this) HTK (fun w2 val2 hk2 hb2=>by have:=HP2 w2 val2 hk2 hb2;rw [ho] at this;exact this)
     ·exact QkL bk bn bs n (QaK m1.slots) B D 0 page W m m1 (Qa1 m1 (1,page,[])) M val j fg fc m.slots.length x (by simp;omega) j1 (by omega) jl d3 c2 g5 ck cn HS (fun q=>by have:=HP1 q;rw [h1] at this;exact this) HTK (fun w2 val2 hk2 hb2=>by have:=HP2 w2 val2 hk2 hb2;rw [ho] at this;exact this)
     ·exact QjP bk bn bs n (QaK m1.slots) B D 0 page W m m1 (Qa1 m1 (1,page,[])) M val j t g cap m.root.length fg fc m.slots.length y (by simp;omega) j1 (by omega) jl d3 c2 d1 h16 hr (by omega) (by omega) c (by omega) htl c3 g5 ck cn HS (fun q=>by have:=HP1 q;rw [h1] at this;exact this) HTK (fun w2 val2 hk2 hb2=>by have:=HP2 w2 val2 hk2 hb2;rw [ho] at this;exact this)

theorem QcY {m:ImgD}{n:Int}(h:Qbk m n=0):Qaq m=0∧0≤n∧n<m.guest:=by
 unfold Qbk at h
 by_cases h0:Qaq m=0
 ·rw [if_neg (by simp [h0])] at h
  by_cases h1:0≤n∧n<m.guest
  ·exact⟨h0,h1.1,h1.2⟩
  ·rw [if_neg h1] at h;cases h
 ·rw [if_pos h0] at h;exact absurd h h0
theorem one {W:World}{B:Nat}{a0:Value}{t:TypeId}(h:W.heap[B]? = some (.cells #[a0] t)):W.cell? ⟨B,0,none⟩=some a0:=by simp [World.cell?,h]
theorem Qg1 (m:ImgD)(ra:Option Addr)(rn rc:Nat)(sa:Option Addr)(sn sc:Nat)(fa:Option Addr)(fn fc:Nat)(na:Option Addr)(nn nc:Nat)(n e E:Int)(w:World)(h:Img w (.agg (bI m.guest ra rn rc sa sn sc fa fn fc na nn nc)) m)(hl:Qbk m n=E)(hE:(E != 0)=true) :
  Calls Tryz.prog 55 #[.agg (bI m.guest ra rn rc sa sn sc fa fn fc na nn nc),.int .i64 n,.int .i64 e] w (AnsI w w.heap.size imgZ E):=by
 have b0:Below w.heap.size w ((((w.alloc (.cells (bI m.guest ra rn rc sa sn sc fa fn fc na nn nc) 26)).alloc (.cells #[.int .i64 n] 3)).alloc (.cells #[.int .i64 e] 3)).alloc zI):=((((Below.refl _ _).alloc (by simp;try omega) _).alloc (by simp;try omega) _).alloc (by simp;try omega) _).alloc (by simp;try omega) _;have q0:(w.alloc (.cells (bI m.guest ra rn rc sa sn sc fa fn fc na nn nc) 26)).heap[w.heap.size]? = some (.cells (bI m.guest ra rn rc sa sn sc fa fn fc na nn nc) 26):=by have:=World.alloc_heap_new w (.cells (bI m.guest ra rn rc sa sn sc fa fn fc na nn nc) 26);simpa using this
 have m0:((((w.alloc (.cells (bI m.guest ra rn rc sa sn sc fa fn fc na nn nc) 26)).alloc (.cells #[.int .i64 n] 3)).alloc (.cells #[.int .i64 e] 3)).alloc zI).heap[w.heap.size]? = some (.cells (bI m.guest ra rn rc sa sn sc fa fn fc na nn nc) 26):=(Qac (Qac (Qac q0 _) _) _);have q1:((w.alloc (.cells (bI m.guest ra rn rc sa sn sc fa fn fc na nn nc) 26)).alloc (.cells #[.int .i64 n] 3)).heap[w.heap.size+1]? = some (.cells #[.int .i64 n] 3):=by have:=World.alloc_heap_new (w.alloc (.cells (bI m.guest ra rn rc sa sn sc fa fn fc na nn nc) 26)) (.cells #[.int .i64 n] 3);simpa using this
 have m1:((((w.alloc (.cells (bI m.guest ra rn rc sa sn sc fa fn fc na nn nc) 26)).alloc (.cells #[.int .i64 n] 3)).alloc (.cells #[.int .i64 e] 3)).alloc zI).heap[w.heap.size+1]? = some (.cells #[.int .i64 n] 3):=(Qac (Qac q1 _) _);have q2:(((w.alloc (.cells (bI m.guest ra rn rc sa sn sc fa fn fc na nn nc) 26)).alloc (.cells #[.int .i64 n] 3)).alloc (.cells #[.int .i64 e] 3)).heap[w.heap.size+1+1]? = some (.cells #[.int .i64 e] 3):=by have:=World.alloc_heap_new ((w.alloc (.cells (bI m.guest ra rn rc sa sn sc fa fn fc na nn nc) 26)).alloc (.cells #[.int .i64 n] 3)) (.cells #[.int .i64 e] 3);simpa using this
 have m2:((((w.alloc (.cells (bI m.guest ra rn rc sa sn sc fa fn fc na nn nc) 26)).alloc (.cells #[.int .i64 n] 3)).alloc (.cells #[.int .i64 e] 3)).alloc zI).heap[w.heap.size+1+1]? = some (.cells #[.int .i64 e] 3):=(Qac q2 _);have q3:((((w.alloc (.cells (bI m.guest ra rn rc sa sn sc fa fn fc na nn nc) 26)).alloc (.cells #[.int .i64 n] 3)).alloc (.cells #[.int .i64 e] 3)).alloc zI).heap[w.heap.size+1+1+1]? = some zI:=by have:=World.alloc_heap_new (((w.alloc (.cells (bI m.guest ra rn rc sa sn sc fa fn fc na nn nc) 26)).alloc (.cells #[.int .i64 n] 3)).alloc (.cells #[.int .i64 e] 3)) zI;simpa using this
 have m3:((((w.alloc (.cells (bI m.guest ra rn rc sa sn sc fa fn fc na nn nc) 26)).alloc (.cells #[.int .i64 n] 3)).alloc (.cells #[.int .i64 e] 3)).alloc zI).heap[w.heap.size+1+1+1]? = some zI:=q3;have hz:((((w.alloc (.cells (bI m.guest ra rn rc sa sn sc fa fn fc na nn nc) 26)).alloc (.cells #[.int .i64 n] 3)).alloc (.cells #[.int .i64 e] 3)).alloc zI).heap.size=w.heap.size+1+1+1+1:=by simp
 clear q0 q1 q2 q3;have hE0:¬E=0:=by simpa using hE
 have hlook:=Qfr (h.below b0) n hl (if_neg hE0);obtain⟨c0,c1,c2,c3,c4⟩:=five m0;have cn:=one m1;have HM:Hid ((((((w.alloc (.cells (bI m.guest ra rn rc sa sn sc fa fn fc na nn nc) 26)).alloc (.cells #[.int .i64 n] 3)).alloc (.cells #[.int .i64 e] 3)).alloc zI)).heap[w.heap.size+1+1+1]? = some zI∧Below w.heap.size w ((((w.alloc (.cells (bI m.guest ra rn rc sa sn sc fa fn fc na nn nc) 26)).alloc (.cells #[.int .i64 n] 3)).alloc (.cells #[.int .i64 e] 3)).alloc zI)∧(((((w.alloc (.cells (bI m.guest ra rn rc sa sn sc fa fn fc na nn nc) 26)).alloc (.cells #[.int .i64 n] 3)).alloc (.cells #[.int .i64 e] 3)).alloc zI)).heap.size=w.heap.size+1+1+1+1):=⟨m3,b0,hz⟩;clear h m0 m1 m2 m3 hz hl b0
 go_enter Tryz.func55,Tryz.ntmps55
 go_wp2_with (go_at_call 23;refine hlook.mono ?_;rintro e w1 ⟨rfl,b1⟩;have k3:=Qac (Qab HM.out.1 b1 (by rw [HM.out.2.2];omega)) (.cells #[.int .i64 0] 3);obtain⟨z0,z1,z2,z3,z4⟩:=five k3;have y0:=Qaa k3 0;have y1:=Qaa k3 1;have y2:=Qaa k3 2;have y3:=Qaa k3 3;have y4:=Qaa k3 4;have hsz:w.heap.size+1+1+1+1≤w1.heap.size:=(by have:=b1.size;rw [HM.out.2.2] at this;exact this);have HB:Hid (Below w.heap.size w (w1.alloc (.cells #[.int .i64 0] 3))):=(Below.on HM.out.2.1 b1).alloc (by omega) _;clear b1 k3);have i1:w.heap.size≤w.heap.size+1+1+1:=by omega
 refine bodyPost_ret (v:=.tuple #[.agg #[.int .i64 0,nl,nl,nl,nl],.int .i64 E]) (by simp [results,Tryz.results55,go_sem,z0,z1,z2,z3,z4]) rfl (AnsI.bad E (((((HB.out.setCell i1 _).setCell i1 _).setCell i1 _).setCell i1 _).setCell i1 _))
theorem Qho (m:ImgD)(ra:Option Addr)(rn rc:Nat)(sa:Option Addr)(sn sc:Nat)(fa:Option Addr)(fn fc:Nat)(na:Option Addr)(nn nc:Nat)(n:Nat)(e:Int)(w:World)(h:Img w (.agg (bI m.guest ra rn rc sa sn sc fa fn fc na nn nc)) m)(hF:Fits m)(hl:Qbk m (n:Int)=0)(hE:isE e=true)(k:Int)(hk:QaT m m.root n=k)(M:ImgD)(hM:ofM (vacP m n e)=M)(er:Int)(her:ofE (vacP m n e)=er) :
  Calls Tryz.prog 55 #[.agg (bI m.guest ra rn rc sa sn sc fa fn fc na nn nc),.int .i64 (n:Int),.int .i64 e] w (AnsI w w.heap.size M er):=by
 have b0:Below w.heap.size w ((((w.alloc (.cells (bI m.guest ra rn rc sa sn sc fa fn fc na nn nc) 26)).alloc (.cells #[.int .i64 (n:Int)] 3)).alloc (.cells #[.int .i64 e] 3)).alloc zI):=((((Below.refl _ _).alloc (by simp;try omega) _).alloc (by simp;try omega) _).alloc (by simp;try omega) _).alloc (by simp;try omega) _;have q0:(w.alloc (.cells (bI m.guest ra rn rc sa sn sc fa fn fc na nn nc) 26)).heap[w.heap.size]? = some (.cells (bI m.guest ra rn rc sa sn sc fa fn fc na nn nc) 26):=by have:=World.alloc_heap_new w (.cells (bI m.guest ra rn rc sa sn sc fa fn fc na nn nc) 26);simpa using this
 have m0:((((w.alloc (.cells (bI m.guest ra rn rc sa sn sc fa fn fc na nn nc) 26)).alloc (.cells #[.int .i64 (n:Int)] 3)).alloc (.cells #[.int .i64 e] 3)).alloc zI).heap[w.heap.size]? = some (.cells (bI m.guest ra rn rc sa sn sc fa fn fc na nn nc) 26):=(Qac (Qac (Qac q0 _) _) _);have q1:((w.alloc (.cells (bI m.guest ra rn rc sa sn sc fa fn fc na nn nc) 26)).alloc (.cells #[.int .i64 (n:Int)] 3)).heap[w.heap.size+1]? = some (.cells #[.int .i64 (n:Int)] 3):=by have:=World.alloc_heap_new (w.alloc (.cells (bI m.guest ra rn rc sa sn sc fa fn fc na nn nc) 26)) (.cells #[.int .i64 (n:Int)] 3);simpa using this
 have m1:((((w.alloc (.cells (bI m.guest ra rn rc sa sn sc fa fn fc na nn nc) 26)).alloc (.cells #[.int .i64 (n:Int)] 3)).alloc (.cells #[.int .i64 e] 3)).alloc zI).heap[w.heap.size+1]? = some (.cells #[.int .i64 (n:Int)] 3):=(Qac (Qac q1 _) _);have q2:(((w.alloc (.cells (bI m.guest ra rn rc sa sn sc fa fn fc na nn nc) 26)).alloc (.cells #[.int .i64 (n:Int)] 3)).alloc (.cells #[.int .i64 e] 3)).heap[w.heap.size+1+1]? = some (.cells #[.int .i64 e] 3):=by have:=World.alloc_heap_new ((w.alloc (.cells (bI m.guest ra rn rc sa sn sc fa fn fc na nn nc) 26)).alloc (.cells #[.int .i64 (n:Int)] 3)) (.cells #[.int .i64 e] 3);simpa using this
 have m2:((((w.alloc (.cells (bI m.guest ra rn rc sa sn sc fa fn fc na nn nc) 26)).alloc (.cells #[.int .i64 (n:Int)] 3)).alloc (.cells #[.int .i64 e] 3)).alloc zI).heap[w.heap.size+1+1]? = some (.cells #[.int .i64 e] 3):=(Qac q2 _);have q3:((((w.alloc (.cells (bI m.guest ra rn rc sa sn sc fa fn fc na nn nc) 26)).alloc (.cells #[.int .i64 (n:Int)] 3)).alloc (.cells #[.int .i64 e] 3)).alloc zI).heap[w.heap.size+1+1+1]? = some zI:=by have:=World.alloc_heap_new (((w.alloc (.cells (bI m.guest ra rn rc sa sn sc fa fn fc na nn nc) 26)).alloc (.cells #[.int .i64 (n:Int)] 3)).alloc (.cells #[.int .i64 e] 3)) zI;simpa using this
 have m3:((((w.alloc (.cells (bI m.guest ra rn rc sa sn sc fa fn fc na nn nc) 26)).alloc (.cells #[.int .i64 (n:Int)] 3)).alloc (.cells #[.int .i64 e] 3)).alloc zI).heap[w.heap.size+1+1+1]? = some zI:=q3;have hz:((((w.alloc (.cells (bI m.guest ra rn rc sa sn sc fa fn fc na nn nc) 26)).alloc (.cells #[.int .i64 (n:Int)] 3)).alloc (.cells #[.int .i64 e] 3)).alloc zI).heap.size=w.heap.size+1+1+1+1:=by simp
 clear q0 q1 q2 q3;obtain⟨hC,_,hn⟩:=QcY hl;have hs:=Qal hC;have hlook:=Qfr (c:=k) (h.below b0) (n:Int) hl (by rw [if_pos rfl,Int.toNat_natCast];exact hk);obtain⟨c0,c1,c2,c3,c4⟩:=five m0;have cn:=one m1;have HO:Hid (∀w1,Below ((((w.alloc (.cells (bI m.guest ra rn rc sa sn sc fa fn fc na nn nc) 26)).alloc (.cells #[.int .i64 (n:Int)] 3)).alloc (.cells #[.int .i64 e] 3)).alloc zI).heap.size ((((w.alloc (.cells (bI m.guest ra rn rc sa sn sc fa fn fc na nn nc) 26)).alloc (.cells #[.int .i64 (n:Int)] 3)).alloc (.cells #[.int .i64 e] 3)).alloc zI) w1→Calls Tryz.prog 25 #[.agg (bI m.guest ra rn rc sa sn sc fa fn fc na nn nc),.func (.func 81) #[] #[.pointer (some ⟨w1.heap.size,0,none⟩),.pointer (some ⟨w.heap.size+1+1,0,none⟩),.pointer (some ⟨w.heap.size+1,0,none⟩)]] (w1.alloc (.cells #[.int .i64 k] 3)) (AnsI (w1.alloc (.cells #[.int .i64 k] 3)) (w1.alloc (.cells #[.int .i64 k] 3)).heap.size M er)):=fun w1 b1=>by
  have hsz:w.heap.size+1+1+1+1≤w1.heap.size:=(by have:=b1.size;rw [hz] at this;exact this);have b2:Below ((((w.alloc (.cells (bI m.guest ra rn rc sa sn sc fa fn fc na nn nc) 26)).alloc (.cells #[.int .i64 (n:Int)] 3)).alloc (.cells #[.int .i64 e] 3)).alloc zI).heap.size ((((w.alloc (.cells (bI m.guest ra rn rc sa sn sc fa fn fc na nn nc) 26)).alloc (.cells #[.int .i64 (n:Int)] 3)).alloc (.cells #[.int .i64 e] 3)).alloc zI) (w1.alloc (.cells #[.int .i64 k] 3)):=b1.alloc (by rw [hz];exact hsz) _;have hz1:(w1.alloc (.cells #[.int .i64 k] 3)).heap.size=w1.heap.size+1:=by simp
  rw [←hM,← her];refine Qke (h.below (Below.on b0 b2)) hF (enters_of Tryz.func81 (by kernel_rfl) rfl) (Qh8 (one (zHn _ _)) (one (Qab m2 b2 (by rw [hz];omega))) (one (Qab m1 b2 (by rw [hz];omega))) (by omega) (by omega) (by omega) hs hn hk hE)
 have HM:Hid (((((w.alloc (.cells (bI m.guest ra rn rc sa sn sc fa fn fc na nn nc) 26)).alloc (.cells #[.int .i64 (n:Int)] 3)).alloc (.cells #[.int .i64 e] 3)).alloc zI).heap[w.heap.size]? = some (.cells (bI m.guest ra rn rc sa sn sc fa fn fc na nn nc) 26)∧((((w.alloc (.cells (bI m.guest ra rn rc sa sn sc fa fn fc na nn nc) 26)).alloc (.cells #[.int .i64 (n:Int)] 3)).alloc (.cells #[.int .i64 e] 3)).alloc zI).heap[w.heap.size+1+1+1]? = some zI∧Below w.heap.size w ((((w.alloc (.cells (bI m.guest ra rn rc sa sn sc fa fn fc na nn nc) 26)).alloc (.cells #[.int .i64 (n:Int)] 3)).alloc (.cells #[.int .i64 e] 3)).alloc zI)∧((((w.alloc (.cells (bI m.guest ra rn rc sa sn sc fa fn fc na nn nc) 26)).alloc (.cells #[.int .i64 (n:Int)] 3)).alloc (.cells #[.int .i64 e] 3)).alloc zI).heap.size=w.heap.size+1+1+1+1):=⟨m0,m3,b0,hz⟩;clear h m0 m1 m2 m3 hz hl b0 hC hn hs hE hk hM her hF
 go_enter Tryz.func55,Tryz.ntmps55
 go_wp2_with (go_at_call 23;refine hlook.mono ?_;rintro e w1 ⟨rfl,b1⟩;have d0:=Qac (Qab HM.out.1 b1 (by rw [HM.out.2.2.2];omega)) (.cells #[.int .i64 k] 3);obtain⟨d1,d2,d3,d4,d5⟩:=five d0;have hof:=HO.out w1 b1;have HW:Hid (Below w.heap.size w (w1.alloc (.cells #[.int .i64 k] 3))∧(w1.alloc (.cells #[.int .i64 k] 3)).heap[w.heap.size+1+1+1]? = some zI∧w.heap.size+1+1+1+1<(w1.alloc (.cells #[.int .i64 k] 3)).heap.size):=(⟨(Below.on HM.out.2.2.1 b1).alloc (by have:=b1.size;rw [HM.out.2.2.2] at this;omega) _,Qac (Qab HM.out.2.1 b1 (by rw [HM.out.2.2.2];omega)) _,(by have:=b1.size;rw [HM.out.2.2.2] at this;have hz1:(w1.alloc (.cells #[.int .i64 k] 3)).heap.size=w1.heap.size+1:=(by simp);omega)⟩);clear b1 d0);refine hof.mono ?_;intro e w2 hA;obtain⟨val,ga,gc,la,lc,oa,oc,ta,tc,rfl,hO,b1,hI⟩:=hA.open;dsimp only;have k1:=Qab HW.out.2.1 b1 (by have:=HW.out.2.2;omega);obtain⟨z0,z1,z2,z3,z4⟩:=five k1;have y0:=Qaa k1 0;have y1:=Qaa k1 1;have y2:=Qaa k1 2;have y3:=Qaa k1 3;have y4:=Qaa k1 4;have HP:Hid (OI w2 (w1.alloc (.cells #[.int .i64 k] 3)).heap.size val M):=hO;have HB:Hid (Below w.heap.size w w2):=Below.on HW.out.1 b1;have HI:Hid (imgV M.guest val=.agg (aI M ga gc la lc oa oc ta tc)):=hI;clear hO b1 hI hof hA;go_wp2_with fail;have i1:w.heap.size≤w.heap.size+1+1+1:=by omega
 have hf1:∀a,Live M a→(val a).ownBlock≠some (w.heap.size+1+1+1):=fun a ha e=>by have:=((HP.out.row a ha).lt _ e).1;have:=HW.out.2.2;omega
 refine bodyPost_ret (v:=.tuple #[.agg (aI M ga gc la lc oa oc ta tc),.int .i64 er]) (by simp [results,Tryz.results55,go_sem,z0,z1,z2,z3,z4]) rfl ⟨val,by rw [HI.out],OI.mono (((((HP.out.far hf1).far hf1).far hf1).far hf1).far hf1) (by have:=HW.out.2.2;omega),((((HB.out.setCell i1 _).setCell i1 _).setCell i1 _).setCell i1 _).setCell i1 _⟩
theorem QhQ {w:World}{v:Value}{m:ImgD}(h:Img w v m)(n e:Int)(he:e=0∨e = -1) :
  Calls Tryz.prog 55 #[v,.int .i64 n,.int .i64 e] w (AnsI w w.heap.size (if Qbk m n=0 then (putD m n.toNat e).getD imgZ else imgZ) (if Qbk m n=0 then errO (putD m n.toNat e) else Qbk m n)):=by
 have h':=h;obtain⟨ra,rc,sa,sc,fa,fc,na,nc,rfl,_⟩:=h.parts
 by_cases hl:Qbk m n=0
 ·rw [if_pos hl,if_pos hl];obtain⟨hC,h0,hn⟩:=QcY hl;obtain⟨j,rfl⟩:=Int.eq_ofNat_of_zero_le h0;have hM:=QkM hC hn he;have hE:isE e=true:=by rcases he with rfl | rfl <;> decide
  rw [Int.toNat_natCast];exact Qho m ra _ rc sa _ sc fa _ fc na _ nc j e w h' (Qbx (Qal hC)) hl hE _ rfl _ hM.m _ hM.e
 ·rw [if_neg hl,if_neg hl];exact Qg1 m ra _ rc sa _ sc fa _ fc na _ nc n e _ w h' rfl (by simp [hl])
def Qfk (k:Int) (d:ByteArray) (xs:List Int):Int:=if QaZ k d xs=true then 0 else 1
theorem Qd1 {w w1:World}{o:Obj}(h:Below (w.alloc o).drew.heap.size (w.alloc o).drew w1):Below (w.heap.size+1) (w.alloc o) w1:=
 ⟨h.os,h.tape,h.output,h.size,fun k hk=>h.block k (by simp;exact hk)⟩
theorem QhM {w w1:World}{x y z:Value}{T:TypeId}(h:Below (w.heap.size+1) (w.alloc (.cells #[x,y,z] T)) w1) :
  w1.cell? ⟨w.heap.size,0,none⟩=some x∧w1.cell? ⟨w.heap.size,1,none⟩=some y∧w1.cell? ⟨w.heap.size,2,none⟩=some z:=by
 refine⟨(h.cell (p:=⟨w.heap.size,0,none⟩) (by simp)).trans ?_,(h.cell (p:=⟨w.heap.size,1,none⟩) (by simp)).trans ?_,(h.cell (p:=⟨w.heap.size,2,none⟩) (by simp)).trans ?_⟩ <;> rw [World.cell?_alloc_at _ _ _ _ rfl] <;> rfl
theorem Qi8 (w:World)(N:Nat)(hN:w.heap.size=N):Calls Tryz.prog 59 #[] w fun r w'=>r=.returned (.map (some N))∧Hid (w'.heap[N]? = some (.map QcX 3))∧Below w.heap.size w w':=by
 subst hN;exact (QhO w).mono fun e w' h=>⟨h.1,h.2.1,h.2.2.1⟩
theorem Qma (k:Int)(d:ByteArray)(ta:Option Addr)(tn tc:Nat)(xs:List Int)(w:World)(h:Sl w (.slice ta tn tc) xs) :
  Calls Tryz.prog 24 #[.agg #[.int .i64 k,.string d,.slice ta tn tc]] w fun r w'=>r=.returned (.int .i64 (Qfk k d xs))∧Below w.heap.size w w':=by
 have hs:=h.past (.cells #[.int .i64 k,.string d,.slice ta tn tc] 37);have b0:Below w.heap.size w (w.alloc (.cells #[.int .i64 k,.string d,.slice ta tn tc] 37)):=bA
 cases hE:QaZ k d xs with
 | true=>
  have HE:Hid (Qfk k d xs=0):=by show _=_;unfold Qfk;rw [if_pos hE]
  go_enter Tryz.func24,Tryz.ntmps24
  go_wp2
  go_region_with (first | (go_at_call 59;refine (Qi8 _ (w.heap.size+1) (by simp)).mono ?_;rintro e w1 ⟨rfl,HR,b1⟩;have b1:Below (w.heap.size+1) (w.alloc (.cells #[.int .i64 k,.string d,.slice ta tn tc] 37)) w1:=(Qd1 b1);obtain⟨c1,c2,c3⟩:=QhM b1) | (go_at_call 58;refine (QcM _ 3 k d _ xs _ ?_ ?_).mono ?_;(first | exact HR.out | skip);(first | exact hs.below (by simpa using b1) | skip);rintro e w2 ⟨rfl,b2⟩))
  all_goals
   go_wp2
   go_ret;exact⟨QaI HE.out.symm,Below.on (b0.trans (b1.mono (Nat.le_succ _))) b2⟩
 | false=>
  have HE:Hid (Qfk k d xs=1):=by show _=_;unfold Qfk;rw [if_neg (by simp [hE])]
  go_enter Tryz.func24,Tryz.ntmps24
  go_wp2
  go_region_with (first | (go_at_call 59;refine (Qi8 _ (w.heap.size+1) (by simp)).mono ?_;rintro e w1 ⟨rfl,HR,b1⟩;have b1:Below (w.heap.size+1) (w.alloc (.cells #[.int .i64 k,.string d,.slice ta tn tc] 37)) w1:=(Qd1 b1);obtain⟨c1,c2,c3⟩:=QhM b1) | (go_at_call 58;refine (QcM _ 3 k d _ xs _ ?_ ?_).mono ?_;(first | exact HR.out | skip);(first | exact hs.below (by simpa using b1) | skip);rintro e w2 ⟨rfl,b2⟩))
  all_goals
   go_wp2
   go_ret;exact⟨QaI HE.out.symm,Below.on (b0.trans (b1.mono (Nat.le_succ _))) b2⟩
theorem QkV (k:Int)(d:ByteArray)(tv:Value)(xs:List Int)(w:World)(h:Sl w tv xs) :
  Calls Tryz.prog 24 #[.agg #[.int .i64 k,.string d,tv]] w fun r w'=>r=.returned (.int .i64 (Qfk k d xs))∧Below w.heap.size w w':=by
 obtain⟨ao,cap,rfl⟩:=h.form;exact Qma k d ao _ cap xs w h
theorem QhJ {k:Int}{d:ByteArray}{tv:Value}{xs:List Int}{w:World}(h:Sl w tv xs){c:Int}(hc:Qfk k d xs=c) :
  Calls Tryz.prog 24 #[.agg #[.int .i64 k,.string d,tv]] w fun r w'=>r=.returned (.int .i64 c)∧Below w.heap.size w w':=by subst hc;exact QkV k d tv xs w h
end Go.Proofs.YtehleeibgkpjmagGreat
