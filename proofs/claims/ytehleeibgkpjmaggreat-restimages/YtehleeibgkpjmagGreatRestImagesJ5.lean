/- Texts joined: WrP, LayI, TabI, CtdI, DeskI, RsA, RsB, SetI, ClnI, CpyH. -/
import Derived.Test.YtehleeibgkpjmagGreatRestImagesJ4
import Derived.Test.YtehleeibgkpjmagGreatRestImagesJ1
import Derived.Test.YtehleeibgkpjmagGreatRestImagesJ3
import Derived.Lib.SliceRun
import Derived.Deep.RegionHeld3
set_option linter.unusedVariables false
set_option linter.unusedSimpArgs false
set_option maxHeartbeats 200000000
set_option maxRecDepth 20000
namespace Go.Proofs.YtehleeibgkpjmagGreat
open Go.RowKit Go.Shelf
def QfC (L:List Qag):Nat→Nat→Nat
 | 0,j=>j
 | f+1,j=>if j<L.length∧kd L j≠0 then QfC L f (j+1) else j
def QaK (L:List Qag):Nat:=QfC L L.length 1
theorem QfW (L:List Qag):∀ (f j:Nat),L.length≤j+f→j≤L.length→j≤QfC L f j∧QfC L f j≤L.length∧(∀i,j≤i→i<QfC L f j→kd L i≠0)∧(QfC L f j<L.length→kd L (QfC L f j)=0)
 | 0,j,h,hj=>⟨Nat.le_refl _,hj,fun i h1 h2=>by simp [QfC] at h2;omega,fun h2=>by simp [QfC] at h2;omega⟩
 | f+1,j,h,hj=>by
  unfold QfC
  by_cases c:j<L.length∧kd L j≠0
  ·rw [if_pos c];obtain⟨a,b,d,e⟩:=QfW L f (j+1) (by omega) (by omega);refine⟨by omega,b,fun i h1 h2=>?_,e⟩
   by_cases ei:i=j
   ·subst ei;exact c.2
   ·exact d i (by omega) h2
  ·rw [if_neg c];refine⟨Nat.le_refl _,hj,fun i h1 h2=>by omega,fun h2=>?_⟩;exact Classical.byContradiction fun x=>c ⟨h2,x⟩
theorem Qdq {L:List Qag}{j:Nat}(h:j<L.length):L[j].1=kd L j:=by unfold kd;simp [List.getD,h]
theorem Qbg {L:List Qag}(h1:1≤L.length):1≤QaK L∧QaK L≤L.length∧(∀i,1≤i→i<QaK L→kd L i≠0)∧kd L (QaK L)=0:=by
 obtain⟨a,b,c,d⟩:=QfW L L.length 1 (by omega) h1;refine⟨a,b,c,?_⟩;rcases Nat.lt_or_ge (QaK L) L.length with h | h
 ·exact d h
 ·exact Classical.byContradiction fun x=>by have:=QeB x;omega
theorem Qgu {L:List Qag}(h1:1≤L.length):Qb7 L (QaK L):=by
 obtain⟨a,b,c,d⟩:=Qbg h1;exact⟨a,b,fun j hj h1 h2=>by rw [Qdq hj];exact c j h1 h2,fun h=>by rw [Qdq h];exact d⟩
theorem Qf8 {L:List Qag}(h:Qap L=0):QaK L≤40:=by
 have:=Qah h;have:=Qbg this.1;omega
def layS (L:List Qag) (n:Nat) (s:Qag):List Qag:=if n=L.length then L ++ [s] else L.set n s
theorem QaD {L:List Qag}{n:Nat}{s:Qag} : (layS L n s).length=if n=L.length then L.length+1 else L.length:=by
 unfold layS;split <;> simp
theorem Qbe {L:List Qag}{n:Nat}{s:Qag}(hn:n≤L.length)(j:Nat):(layS L n s).getD j default=if j=n then s else L.getD j default:=by
 unfold layS
 by_cases e:n=L.length
 ·rw [if_pos e];subst e
  by_cases ej:j=L.length
  ·subst ej;rw [if_pos rfl];simp [List.getD]
  ·rw [if_neg ej]
   by_cases hj:j<L.length
   ·simp [List.getD,List.getElem?_append,hj]
   ·have a:L.getD j default=default:=by simp [List.getD,hj]
    have b:(L ++ [s]).getD j default=default:=by
     have:¬j<(L ++ [s]).length:=by simp;omega
     unfold List.getD;rw [List.getElem?_eq_none (by omega)];rfl
    rw [a,b]
 ·rw [if_neg e]
  by_cases ej:j=n
  ·subst ej;rw [if_pos rfl];simp [List.getD,show j<L.length by omega]
  ·rw [if_neg ej];simp [List.getD,Ne.symm ej]
theorem QbQ {L:List Qag}{n:Nat}{s:Qag}(hn:n≤L.length)(j:Nat):kd (layS L n s) j=if j=n then s.1 else kd L j:=by
 unfold kd;rw [Qbe hn];split <;> rfl
theorem Qen {L:List Qag}{n:Nat}{s:Qag}(hn:n≤L.length)(h40:L.length≤40)(hn40:n<40):(layS L n s).length≤40∧L.length≤(layS L n s).length∧n<(layS L n s).length:=by
 rw [QaD];split <;> omega
theorem Qn2 {es:List Int}(hes:ckE es=0)(hb:Qby es=false):okD (2,⟨#[]⟩,es)=true:=by
 have:Qc7 es=false:=by unfold Qc7;rw [if_pos hes,hb]
 show QaZ 2 ⟨#[]⟩ es=true
 rw [Qjo];exact decide_eq_true ⟨hes,this,rfl⟩
theorem QmE {page:ByteArray}(h:page.size=4):okD (1,page,[])=true:=by
 show QaZ 1 page []=true
 unfold QaZ;rw [if_neg (by decide),if_pos rfl];exact decide_eq_true ⟨h,rfl⟩
theorem Qoe {L:List Qag}{t:Nat}{es:List Int}(h0:Qap L=0)(ht:t≤L.length)(t1:1≤t)(t40:t<40)(hk:kd L t=0∨kd L t=2)(hes:ckE es=0)(hb:Qby es=false)(hents:∀e ∈ es,tabE L e=true):Ext L (layS L t (2,⟨#[]⟩,es)) t es:=by
 have hp:=Qah h0;have hle:=Qen (s:=(2,⟨#[]⟩,es)) ht hp.2 t40;have hpg:kd L t≠1:=by rcases hk with e | e <;> rw [e] <;> decide
 refine⟨hle.1,fun j hj _=>by rw [Qbe ht,if_neg hj],by rw [Qbe ht,if_pos rfl],hpg,fun j hj=>?_,?_,fun j hj hk2=>?_,fun e he=>?_⟩
 ·rw [Qbe ht]
  by_cases ej:j=t
  ·rw [if_pos ej];exact Qn2 hes hb
  ·rw [if_neg ej];have hjl:j<L.length:=by rw [QaD] at hj;split at hj <;> omega
   rw [←QaB hjl];exact QaG h0 hjl
 ·rw [QbQ ht,if_neg (by omega)];exact Qcs h0
 ·rw [QbQ ht,if_neg hj] at hk2;exact hk2
 ·rcases Qcw (hents e he) with e0 | e1 | ⟨j,rfl,hj,hkj⟩
  ·rw [e0];rfl
  ·rw [e1];rfl
  ·have j1:1≤j:=by
    rcases Nat.eq_zero_or_pos j with e | e
    ·subst e;rw [Qcs h0] at hkj;simp at hkj
    ·exact e
   have hjt:j≠t:=fun e=>hpg (by rw [←e];exact hkj)
   rw [QdR (by omega) (by omega)];exact Qdd (by omega) (by rw [QbQ ht,if_neg hjt];exact hkj)
theorem Qly {L:List Qag}{t d:Nat}{es:List Int}{page:ByteArray}(h0:Qap L=0)(ht:t≤L.length)(t1:1≤t)(t40:t<40)(hk:kd L t=0∨kd L t=2)(hes:ckE es=0)(hb:Qby es=false)
  (hd:d≤(layS L t (2,⟨#[]⟩,es)).length) (d1:1≤d) (d40:d<40) (hdt:d≠t) (hkd:kd L d=0) (hp4:page.size=4) (hents:∀e ∈ es,tabE L e=true∨e=(d:Int)):Ext L (layS (layS L t (2,⟨#[]⟩,es)) d (1,page,[])) t es:=by
 have hp:=Qah h0;have hle:=Qen (s:=(2,⟨#[]⟩,es)) ht hp.2 t40;have hle2:=Qen (s:=((1,page,[]):Qag)) hd hle.1 d40;have hpg:kd L t≠1:=by rcases hk with e | e <;> rw [e] <;> decide
 refine⟨hle2.1,fun j hj hkj=>?_,?_,hpg,fun j hj=>?_,?_,fun j hj hk2=>?_,fun e he=>?_⟩
 ·have hjd:j≠d:=fun e=>hkj (by rw [e];exact hkd)
  rw [Qbe hd,if_neg hjd,Qbe ht,if_neg hj]
 ·rw [Qbe hd,if_neg (fun e=>hdt e.symm),Qbe ht,if_pos rfl]
 ·rw [Qbe hd]
  by_cases ed:j=d
  ·rw [if_pos ed];exact QmE hp4
  ·rw [if_neg ed,Qbe ht]
   by_cases ej:j=t
   ·rw [if_pos ej];exact Qn2 hes hb
   ·rw [if_neg ej];have hjl:j<L.length:=by
     rw [QaD] at hj;rw [QaD] at hj hd
     split at hj <;> split at hj <;> split at hd <;> omega
    rw [←QaB hjl];exact QaG h0 hjl
 ·rw [QbQ hd,if_neg (by omega),QbQ ht,if_neg (by omega)];exact Qcs h0
 ·rw [QbQ hd] at hk2
  by_cases ed:j=d
  ·rw [if_pos ed] at hk2;simp at hk2
  ·rw [if_neg ed,QbQ ht,if_neg hj] at hk2;exact hk2
 ·rcases hents e he with hE | hE
  ·rcases Qcw hE with e0 | e1 | ⟨j,rfl,hj,hkj⟩
   ·rw [e0];rfl
   ·rw [e1];rfl
   ·have j1:1≤j:=by
     rcases Nat.eq_zero_or_pos j with e | e
     ·subst e;rw [Qcs h0] at hkj;simp at hkj
     ·exact e
    have hjt:j≠t:=fun e=>hpg (by rw [←e];exact hkj)
    have hjd:j≠d:=fun e=>by rw [e,hkd] at hkj;simp at hkj
    rw [QdR (by omega) (by omega)];exact Qdd (by omega) (by rw [QbQ hd,if_neg hjd,QbQ ht,if_neg hjt];exact hkj)
  ·rw [hE,QdR (by omega) (by omega)];exact Qdd hle2.2.2 (by rw [QbQ hd,if_pos rfl])
theorem Qe7 {t:Int} : ∀ (l:List Int) (i k:Nat),i<k→k<l.length→l.getD i 0=t→l.getD k 0=t→2≤l.count t
 | [],i,k,_,hk,_,_=>absurd hk (by simp)
 | a :: l,0,k+1,_,hk,h1,h2=>by
  have h1:a=t:=by simpa using h1
  have h2:l.getD k 0=t:=by simpa using h2
  have hk:k<l.length:=by simpa using hk
  have:t ∈ l:=by rw [←h2,Qbz hk];exact List.getElem_mem hk
  have:=List.count_pos_iff.2 this;rw [List.count_cons,h1];simp;omega
 | a :: l,i+1,k+1,hik,hk,h1,h2=>by
  have:=Qe7 l i k (by omega) (by simpa using hk) (by simpa using h1) (by simpa using h2);rw [List.count_cons];omega
theorem Qcj (m:ImgD):QaC m=m.root ++ m.snaps.flatMap (fun s=>s.2.2):=rfl
theorem Qnr {m:ImgD}{k t:Nat}(hk:k<m.root.length)(ht:m.root.getD k 0=(t:Int))(hc:(QaC m).count (t:Int)=1):Lone m k t:=by
 rw [Qcj,List.count_append] at hc;have hmem:(t:Int) ∈ m.root:=by rw [←ht,Qbz hk];exact List.getElem_mem hk
 have h1:=List.count_pos_iff.2 hmem;refine⟨fun i hi hne e=>?_,fun s hs hm=>?_⟩
 ·have:2≤m.root.count (t:Int):=by
   rcases Nat.lt_or_ge i k with h | h
   ·exact Qe7 m.root i k h hk e ht
   ·exact Qe7 m.root k i (by omega) hi ht e
  omega
 ·have:(t:Int) ∈ m.snaps.flatMap (fun s=>s.2.2):=by rw [List.mem_flatMap];exact⟨s,hs,hm⟩
  have:=List.count_pos_iff.2 this;omega
theorem QlF {m:ImgD}{k t:Nat}(h:Qao m=0)(t1:1≤t)(ht:kd m.slots t=0):Lone m k t:=by
 have hno:(t:Int) ∉ QaC m:=fun hm=>by have:=(QbC h hm t1).2.1;rw [ht] at this;simp at this
 rw [Qcj] at hno;refine⟨fun i hi _ e=>hno (List.mem_append_left _ (by rw [←e,Qbz hi];exact List.getElem_mem hi)),fun s hs hm=>hno (List.mem_append_right _ (by rw [List.mem_flatMap];exact⟨s,hs,hm⟩))⟩
def Qak (m:ImgD) (k:Nat):List Int:=if m.root.getD k 0=0 then [0,0,0,0] else Qaz m.slots (m.root.getD k 0)
def inPl (m:ImgD) (k:Nat):Bool:=m.root.getD k 0 != 0 && m.refs.getD (m.root.getD k 0).toNat 0 == 1
def tabN (m:ImgD) (k:Nat):Nat:=if inPl m k=true then (m.root.getD k 0).toNat else QaK m.slots
theorem Qa0 {m:ImgD}(h:Qao m=0){k:Nat}(hk:k<m.root.length):ckE (Qak m k)=0∧∀e ∈ Qak m k,tabE m.slots e=true:=by
 have hr:=Qa3 h;unfold Qak
 by_cases hz:m.root.getD k 0=0
 ·rw [if_pos hz];refine⟨by decide,fun e he=>?_⟩;have:e=0:=by simpa using he
  rw [this];rfl
 ·rw [if_neg hz];have hE:=Qci hr.2 hk;rw [QbH hz] at hE;obtain⟨j,e,hj,hk2⟩:=Qbu hE;rw [e];refine⟨?_,fun x hx=>List.all_eq_true.1 (QgD (Qad h).2.2.2.2.2.1 _) x hx⟩;have:=Qdu (QaG (Qad h).2.1 hj) hk2;unfold Qaz
  simpa [List.getD,hj] using this.2
theorem Qb4 {m:ImgD}(hC:Qaq m=0){k:Nat}(hk:k<m.root.length)(h40:tabN m k≠40):1≤tabN m k∧tabN m k≤m.slots.length∧tabN m k<40∧(kd m.slots (tabN m k)=0∨kd m.slots (tabN m k)=2)∧Lone m k (tabN m k):=by
 obtain⟨h,hcnt,_⟩:=Qbs hC;obtain⟨z1,z2,z3,z4,z5,z6,z7⟩:=Qad h;have hp:=Qah z2;unfold tabN at h40 ⊢
 by_cases hi:inPl m k=true
 ·rw [if_pos hi] at h40 ⊢;unfold inPl at hi;simp at hi
  obtain⟨hz,hrf⟩:=hi;have hz:m.root.getD k 0≠0:=hz;have hrf:m.refs.getD (m.root.getD k 0).toNat 0=1:=hrf;have hE:=Qci (Qa3 h).2 hk;rcases QbG hE with e | ⟨j,e,hj,hkj⟩
  ·exact absurd e hz
  ·have hmem:(j:Int) ∈ QaC m:=by rw [Qcj];exact List.mem_append_left _ (by rw [←e,Qbz hk];exact List.getElem_mem hk)
   rw [e,Int.toNat_natCast] at hrf ⊢;have j1:1≤j:=by omega
   have hc1:(QaC m).count (j:Int)=1:=by
    rw [←hcnt,Qbr h j hj] at hrf;unfold cntI at hrf;rw [if_neg (by omega),QgE z6 _ j1 (by rw [hkj];decide)] at hrf;omega
   exact⟨j1,by omega,by omega,.inr hkj,Qnr hk e hc1⟩
 ·rw [if_neg hi] at h40 ⊢;obtain⟨a,b,c,d⟩:=Qbg hp.1;exact⟨a,b,by omega,.inl d,QlF h a d⟩
def Qhj (m:ImgD) (k:Nat) (es:List Int):Prop:=k=m.root.length - 1→m.guest % 4≠0→(es.drop (m.guest % 4).toNat).all (fun e=>e == 0)=true
theorem QcJ {m:ImgD}(h:Qao m=0)(k:Nat):Qhj m k (Qak m k):=by
 intro hk hg;have hf:=List.all_eq_true.1 (Qad h).2.2.2.2.2.2 (⟨#[]⟩,m.guest,m.root) List.mem_cons_self;unfold Qas QbX at hf;dsimp only at hf;simp only [Bool.and_eq_true] at hf;have hl:=hf.2.2;have hg':(m.guest % 4 == 0)=false:=by simpa using hg
 rw [hg',Bool.false_or,← hk] at hl;unfold Qak
 by_cases hz:m.root.getD k 0=0
 ·rw [if_pos hz];have:∀j,([0,0,0,0]:List Int).drop j=List.replicate (4 - j) 0:=fun j=>by
   have:([0,0,0,0]:List Int)=List.replicate 4 0:=rfl;rw [this,List.drop_replicate]
  rw [this];simp
 ·rw [if_neg hz];have hz':(m.root.getD k 0 == 0)=false:=by simpa using hz
  rw [hz',Bool.false_or] at hl;exact hl
theorem Qgh {m:ImgD}{k:Nat}{es:List Int}(h:Qhj m k es){n:Nat}(hn:(n:Int)<m.guest)(hk:n / 4=k)(hr:(m.root.length:Int)=(m.guest+3) / 4)(e:Int):Qhj m k (es.set (n % 4) e):=by
 intro h1 h2;have:=h h1 h2;rw [List.drop_set_of_lt (by omega)];exact this
theorem QfL {es:List Int}(h:ckE es=0){i:Nat}{e:Int}(he:isE e=true):ckE (es.set i e)=0:=by
 refine Qfe (by rw [List.length_set];exact Qa7 h) ?_;rw [List.all_eq_true];intro x hx;rcases List.mem_or_eq_of_mem_set hx with hm | hm
 ·exact List.all_eq_true.1 (Qii h) x hm
 ·rw [hm];exact he
theorem QjG {es:List Int}{i:Nat}(hi:i<es.length)(h:es.getD i 0≠0):Qby es=false:=by
 unfold Qby;exact QcA hi (by simpa using h)
theorem Qlb {es:List Int}{i:Nat}(hi:i<es.length)(e:Int):(es.set i e).getD i 0=e:=by rw [QbD,if_pos ⟨rfl,hi⟩]
theorem Qgq {es:List Int}{i:Nat}{e x:Int}(h:x ∈ es.set i e):x ∈ es∨x=e:=List.mem_or_eq_of_mem_set h
def rfZ (L:List Qag):List Int:=List.replicate L.length 0
def tabL (m:ImgD) (k:Nat) (es:List Int):List Qag:=layS m.slots (tabN m k) (2,⟨#[]⟩,es)
def Qcq (m:ImgD) (k:Nat) (es:List Int):Option ImgD:=
 if Qby es=true then some { m with root:=m.root.set k 0 } else if tabN m k=40 then none else some (QcU m k (tabN m k) (tabL m k es) (rfZ (tabL m k es)))
def putD (m:ImgD) (n:Nat) (e:Int):Option ImgD:=if (Qak m (n / 4)).getD (n % 4) 0=e then some m else (Qcq m (n / 4) ((Qak m (n / 4)).set (n % 4) e)).map Qai
def Qez (m:ImgD) (n:Nat):Bool:=decide (0<QaT m m.root n) && (inPl m (n / 4) && m.refs.getD (QaT m m.root n).toNat 0 == 1)
def wD (m:ImgD) (n:Nat):Nat:=QaK (tabL m (n / 4) (Qak m (n / 4)))
def wEs (m:ImgD) (n:Nat):List Int:=(Qak m (n / 4)).set (n % 4) (wD m n:Int)
def wL (m:ImgD) (n:Nat) (page:ByteArray):List Qag:=layS (tabL m (n / 4) (wEs m n)) (wD m n) (1,page,[])
def QbV (m:ImgD) (n:Nat) (page:ByteArray):Option ImgD:=
 if Qez m n=true then some { m with slots:=m.slots.set (QaT m m.root n).toNat (1,page,[]) }
 else if tabN m (n / 4)=40 then none else if wD m n=40 then none else some (Qai (QcU m (n / 4) (tabN m (n / 4)) (wL m n page) (rfZ (wL m n page))))
theorem Qc6 (m:ImgD)(n:Nat):QaT m m.root n=(Qak m (n / 4)).getD (n % 4) 0:=by
 unfold QaT Qak
 split
 ·have h4:n % 4<4:=Nat.mod_lt _ (by decide);have:∀i,i<4→([0,0,0,0]:List Int).getD i 0=0:=by decide
  rw [this _ h4]
 ·rfl
theorem Qht {m:ImgD}(hC:Qaq m=0){n:Nat}(hn:(n:Int)<m.guest)(h40:tabN m (n / 4)≠40)(hd40:wD m n≠40){page:ByteArray}(hp:page.size=4) :
  Ext m.slots (wL m n page) (tabN m (n / 4)) (wEs m n)∧Lone m (n / 4) (tabN m (n / 4))∧Qhj m (n / 4) (wEs m n)∧n / 4<m.root.length∧1≤wD m n∧wD m n<40∧kd m.slots (wD m n)=0∧wD m n≠tabN m (n / 4):=by
 obtain⟨h,_,_⟩:=Qbs hC;have hr:=Qa3 h;have hg:=Qa4 h;have hk:n / 4<m.root.length:=by omega
 obtain⟨t1,tl,t40,tk,hl⟩:=Qb4 hC hk h40;obtain⟨ock,oent⟩:=Qa0 h hk;have hs:=(Qad h).2.1;have hp40:=Qah hs;have hle:=Qen (s:=((2,⟨#[]⟩,Qak m (n / 4)):Qag)) tl hp40.2 t40;obtain⟨d1,dl,dne,dfree⟩:=Qbg (L:=tabL m (n / 4) (Qak m (n / 4))) (by unfold tabL;omega);have hdt:wD m n≠tabN m (n / 4):=fun e=>by
  have:kd (tabL m (n / 4) (Qak m (n / 4))) (wD m n)=0:=dfree;unfold tabL at this;rw [QbQ tl,if_pos e] at this;simp at this
 have hkd:kd m.slots (wD m n)=0:=by
  have:kd (tabL m (n / 4) (Qak m (n / 4))) (wD m n)=0:=dfree;unfold tabL at this;rw [QbQ tl,if_neg hdt] at this;exact this
 have hdl:wD m n≤(layS m.slots (tabN m (n / 4)) (2,⟨#[]⟩,wEs m n)).length:=by
  have:wD m n≤(tabL m (n / 4) (Qak m (n / 4))).length:=dl;unfold tabL at this;rw [QaD] at this ⊢;exact this
 have hd40':wD m n<40:=by
  have:wD m n≤(tabL m (n / 4) (Qak m (n / 4))).length:=dl;unfold tabL at this;omega
 have hd1:1≤wD m n:=d1;have h4:n % 4<(Qak m (n / 4)).length:=by rw [Qa7 ock];omega
 have hEd:isE (wD m n:Int)=true:=by rw [Qgo];omega
 refine⟨?_,hl,?_,hk,hd1,hd40',hkd,hdt⟩
 ·refine Qly hs tl t1 t40 tk (QfL ock hEd) (QjG (i:=n % 4) (by unfold wEs;rw [List.length_set];exact h4) (by unfold wEs;rw [Qlb h4];omega)) hdl hd1 hd40' hdt hkd hp (fun e he=>?_);rcases Qgq he with hm | hm
  ·exact .inl (oent e hm)
  ·exact .inr hm
 ·exact Qgh (QcJ h _) hn rfl hr.1 _

theorem OI.far {W:World}{B:Nat}{val:Nm→Value}{m:ImgD}(h:OI W B val m){g i:Nat}{u:Value}(hg:∀a,Live m a→(val a).ownBlock≠some g):OI (W.setCell ⟨g,i,none⟩ u) B val m:=
 ⟨fun a ha=>ownsRow_setCell_other (h.row a ha) (hg a ha) u,h.apart⟩
theorem OI.lt {W:World}{B:Nat}{val:Nm→Value}{m:ImgD}(h:OI W B val m){g:Nat}(hg:W.heap.size≤g):∀a,Live m a→(val a).ownBlock≠some g:=fun a ha e=>by
 have:=((h.row a ha).lt g e).2;omega
theorem Qa9 {W:World}{B:Nat}{e:TypeId}{size n:Nat}{v:Value}{xs:List Value}(h:W.ownsRow B e size v (n+1) xs):∃g cap,v=.slice (some ⟨g,0,none⟩) (n+1) cap:=by
 rcases QaL h with ⟨_,e⟩ | ⟨g,cap,e,_⟩
 ·cases e
 ·exact⟨g,cap,e⟩
theorem Qaa {W:World}{b:Nat}{A:Array Value}{t:TypeId}(h:W.heap[b]? = some (.cells A t))(i:Nat):W.frozen? ⟨b,i,none⟩=false:=by simp [World.frozen?,h]
theorem OI.forms {W:World}{B:Nat}{val:Nm→Value}{m:ImgD}(h:OI W B val m)(a:Nm)(ha:Live m a):∃ao cap,val a=.slice ao (rowN m a) cap∧(0<rowN m a→∃g,ao=some ⟨g,0,none⟩):=by
 rcases QaL (h.row a ha) with ⟨e,hn⟩ | ⟨g,cap,e,_⟩
 ·exact⟨none,0,by rw [e,hn],fun hp=>absurd hp (by omega)⟩
 ·exact⟨_,cap,e,fun _=>⟨g,rfl⟩⟩

theorem Qmy (W:World)(l:List Int)(hl:l.length≤1000){B:Nat}(hB:B≤W.heap.size):(W.alloc (.cells (ints l).toArray 3)).ownsRow B 3 1 (.slice (some ⟨W.heap.size,0,none⟩) l.length l.length) l.length (ints l):=
 ⟨by simp [Qbb],.inr ⟨W.heap.size,l.length,(ints l).toArray,rfl,hB,zHn _ _,Nat.le_refl _,by unfold maxLen;omega,by simp [Qbb],by rw [Nat.mul_one];exact List.take_of_length_le (by simp [Qbb])⟩⟩
def QoT (w:World) (v:Value):Prop:=∀g,v.ownBlock=some g→w.heap.size≤g
theorem Qhs (gm:Int)(ra:Option Addr)(rn rc:Nat)(sa:Option Addr)(sn sc:Nat)(fa:Option Addr)(fn fc:Nat)(na:Option Addr)(nn nc:Nat)(w:World) :
  Calls Tryz.prog 45 #[.agg (bI gm ra rn rc sa sn sc fa fn fc na nn nc),.int .i64 0] w fun r w'=>∃v,r=.returned v∧w'.ownsRow w.heap.size 3 1 v 4 (ints [0,0,0,0])∧QoT w v∧Below w.heap.size w w':=by
 go_enter Tryz.func45,Tryz.ntmps45
 have hmk:∀w,(Instr.makeSlice 22 (.int .i64 4) (.int .i64 4)).run Tryz.prog w=.ok (.slice (some ⟨w.heap.size,0,none⟩) 4 4) (w.alloc (.cells #[.int .i64 0,.int .i64 0,.int .i64 0,.int .i64 0] 3)):=fun _=>by kernel_rfl
 go_wp2_with fail;go_ret;have hr:=Qmy (w.alloc (.cells (bI gm ra rn rc sa sn sc fa fn fc na nn nc) 26)) [0,0,0,0] (by decide) (B:=w.heap.size) (by simp);rw [show (w.alloc (.cells (bI gm ra rn rc sa sn sc fa fn fc na nn nc) 26)).heap.size=w.heap.size+1 by simp] at hr;refine⟨.slice (some ⟨w.heap.size+1,0,none⟩) 4 4,rfl,hr,fun g e=>by cases e;show w.heap.size≤w.heap.size+1;omega,(bA).alloc (by simp) _⟩
theorem Qhl (gm:Int)(ra:Option Addr)(rn rc:Nat)(sa:Option Addr)(sn sc:Nat)(fa:Option Addr)(fn fc:Nat)(na:Option Addr)(nn nc:Nat)(L:List Qag)(t b off:Nat)(w:World)(ht:1≤t)(htl:t<L.length)(hsa:sa=some ⟨b,off,none⟩)(hsn:L.length≤sn)(hb:b<w.heap.size)(tv:Value)(hc:w.cell? ⟨b,off+t*3+2,none⟩=some tv)(es:List Int)(hes:Sl w tv es)(hel:es.length≤1000) :
  Calls Tryz.prog 45 #[.agg (bI gm ra rn rc sa sn sc fa fn fc na nn nc),.int .i64 (t:Int)] w fun r w'=>∃v,r=.returned v∧w'.ownsRow w.heap.size 3 1 v es.length (ints es)∧QoT w v∧Below w.heap.size w w':=by
 subst hsa;have t0:¬(t:Int)=0:=by omega
 have tb:((t:Int) == 0)=false:=by simp;omega
 have t1:(t:Int)<(sn:Int):=by omega
 have m0:(w.alloc (.cells #[.int .i64 gm,.slice ra rn rc,.slice (some ⟨b,off,none⟩) sn sc,.slice fa fn fc,.slice na nn nc] 26)).heap[w.heap.size]? = some (.cells #[.int .i64 gm,.slice ra rn rc,.slice (some ⟨b,off,none⟩) sn sc,.slice fa fn fc,.slice na nn nc] 26):=zHn _ _;obtain⟨c0,c1,c2,c3,c4⟩:=five m0;have b0:Below w.heap.size w (w.alloc (.cells #[.int .i64 gm,.slice ra rn rc,.slice (some ⟨b,off,none⟩) sn sc,.slice fa fn fc,.slice na nn nc] 26)):=bA;have hcA:((w.alloc (.cells #[.int .i64 gm,.slice ra rn rc,.slice (some ⟨b,off,none⟩) sn sc,.slice fa fn fc,.slice na nn nc] 26)).alloc (.cells #[] 3)).cell? ⟨b,off+t*3+2,none⟩=some tv:=((b0.alloc (by simp) _).cell (p:=⟨b,off+t*3+2,none⟩) hb).trans hc
 go_enter Tryz.func45,Tryz.ntmps45
 go_wp2_with (at_builtin;refine Qdw (by rfl) _ _ (by rfl) (g:=w.heap.size+1) (B:=w.heap.size) (by rfl) (by have:=World.alloc_heap_new (w.alloc (.cells #[.int .i64 gm,.slice ra rn rc,.slice (some ⟨b,off,none⟩) sn sc,.slice fa fn fc,.slice na nn nc] 26)) (.cells #[] 3);simpa using this) (by omega) (src:=tv) (xs:=es) (by rfl) (hes.below (b0.alloc (by simp) _)) hel ?_;intro v1 w1 h1 h2 h3);go_ret;refine⟨v1,rfl,h1.out,fun g e=>?_,Below.grown (b0.alloc (by simp) _) h2 (by simp <;> omega) (fun q e=>by cases e;omega)⟩;rcases h3.out with x | x
 ·rw [x] at e;cases e;omega
 ·rw [x] at e;simp at e;omega
def QkE (L:List Qag) (t:Nat):List Int:=if t=0 then [0,0,0,0] else (L.getD t default).2.2
theorem Qcc {v:Value}{m:ImgD}{w:World}(h:Img w v m){t:Nat}(ht:t<m.slots.length)(hl:(QkE m.slots t).length≤1000) :
  Calls Tryz.prog 45 #[v,.int .i64 (t:Int)] w fun r w'=>∃v,r=.returned v∧w'.ownsRow w.heap.size 3 1 v (QkE m.slots t).length (ints (QkE m.slots t))∧QoT w v∧Below w.heap.size w w':=by
 obtain⟨rv,sv,fv,nv,rfl,⟨ra,rc,rfl,_⟩,⟨sa,sc,rfl,_,_,hs⟩,⟨fa,fc,rfl,_⟩,⟨na,nc,rfl,_⟩⟩:=h;unfold QkE at hl ⊢
 by_cases e:t=0
 ·subst e;rw [if_pos rfl] at hl ⊢;exact Qhs _ _ _ _ _ _ _ _ _ _ _ _ _ w
 ·rw [if_neg e] at hl ⊢;obtain⟨b,off,ha,hb,hc⟩:=hs (by intro x;rw [x] at ht;simp at ht);obtain⟨tv,_,_,h3,h4⟩:=hc t ht;have eg:m.slots[t]=m.slots.getD t default:=by simp [List.getD,ht]
  rw [eg] at h4;exact Qhl _ _ _ _ _ _ _ _ _ _ _ _ _ m.slots t b off w (by omega) ht ha (Nat.le_refl _) hb tv h3 _ h4 hl

def frT (m:ImgD) (k:Nat):ImgD:={ m with refs:=cntL m,slots:=(List.range m.slots.length).map (fun j=>if j<k∧(cntL m).getD j 0=0 then QbY else m.slots.getD j default) }
theorem Qa5 (m:ImgD)(k:Nat):(frT m k).slots.length=m.slots.length:=by simp [frT]
theorem QdF (m:ImgD)(k:Nat){j:Nat}(hj:j<m.slots.length):(frT m k).slots.getD j default=if j<k∧(cntL m).getD j 0=0 then QbY else m.slots.getD j default:=by
 unfold frT;simp only [List.getD,List.getElem?_map,List.getElem?_range hj,Option.map_some,Option.getD_some]
theorem Qc2 {L M:List Qag}(hl:L.length=M.length)(h:∀j,j<L.length→L.getD j default=M.getD j default):L=M:=by
 apply List.ext_getElem hl
 intro j h1 h2;have:=h j h1
 simpa [List.getD,h1,h2] using this
theorem Qjs (m:ImgD):frT m 0 = { m with refs:=cntL m }:=by
 have e:(frT m 0).slots=m.slots:=Qc2 (Qa5 m 0) (fun j hj=>by
  rw [Qa5] at hj;rw [QdF m 0 hj,if_neg (by omega)])
 show ImgD.mk _ _ (frT m 0).slots _ _=_
 rw [e]
theorem QiU (m:ImgD):frT m m.slots.length=Qai m:=by
 have e:(frT m m.slots.length).slots=Qck m.slots (cntL m):=Qc2 (by rw [Qa5,Qbt]) (fun j hj=>by
  rw [Qa5] at hj;rw [QdF m _ hj,QbW hj]
  by_cases c:(cntL m).getD j 0=0
  ·rw [if_pos ⟨hj,c⟩,if_pos c]
  ·rw [if_neg (fun x=>c x.2),if_neg c])
 show ImgD.mk _ _ (frT m m.slots.length).slots _ _=_
 rw [e];rfl
theorem Qji (m:ImgD){k:Nat}(hc:(cntL m).getD k 0=0):frT m (k+1) = { frT m k with slots:=(frT m k).slots.set k QbY }:=by
 have e:(frT m (k+1)).slots=(frT m k).slots.set k QbY:=Qc2 (by rw [List.length_set,Qa5,Qa5]) (fun j hj=>by
  rw [Qa5] at hj;rw [QbA,QdF m _ hj,Qa5]
  by_cases e:k=j
  ·subst e;rw [if_pos ⟨by omega,hc⟩,if_pos ⟨rfl,hj⟩]
  ·rw [show (if k=j∧j<m.slots.length then QbY else (frT m k).slots.getD j default)=(frT m k).slots.getD j default from if_neg (fun x=>e x.1),QdF m k hj]
   by_cases c:(cntL m).getD j 0=0
   ·by_cases l:j<k
    ·rw [if_pos ⟨by omega,c⟩,if_pos ⟨l,c⟩]
    ·rw [if_neg (by omega),if_neg (fun x=>l x.1)]
   ·rw [if_neg (fun x=>c x.2),if_neg (fun x=>c x.2)])
 show ImgD.mk _ _ (frT m (k+1)).slots _ _=_
 rw [e];rfl
theorem Qje (m:ImgD){k:Nat}(hc:(cntL m).getD k 0≠0):frT m (k+1)=frT m k:=by
 have e:(frT m (k+1)).slots=(frT m k).slots:=Qc2 (by rw [Qa5,Qa5]) (fun j hj=>by
  rw [Qa5] at hj;rw [QdF m _ hj,QdF m _ hj]
  by_cases c:(cntL m).getD j 0=0
  ·have:j≠k:=fun x=>hc (by rw [←x];exact c)
   by_cases l:j<k
   ·rw [if_pos ⟨by omega,c⟩,if_pos ⟨l,c⟩]
   ·rw [if_neg (by omega),if_neg (fun x=>l x.1)]
  ·rw [if_neg (fun x=>c x.2),if_neg (fun x=>c x.2)])
 show ImgD.mk _ _ (frT m (k+1)).slots _ _=_
 rw [e];rfl
theorem Qau {W:World}{b:Nat}{A:Array Value}{t:TypeId}(h:W.heap[b]? = some (.cells A t))(i:Nat)(v:Value):(W.setCell ⟨b,i,none⟩ v).heap[b]? = some (.cells (A.setIfInBounds i v) t):=by
 obtain⟨hlt,hk⟩:=Array.getElem?_eq_some_iff.1 h
 show (W.heap.modify b _)[b]? = _
 rw [Array.getElem?_eq_getElem (by rw [Array.size_modify];exact hlt),Array.getElem_modify_self,hk];simp
theorem Qan {W:World}{b:Nat}{o:Option Obj}(h:W.heap[b]? = o){g:Nat}(hg:b≠g)(i:Nat)(v:Value):(W.setCell ⟨g,i,none⟩ v).heap[b]? = o:=(Below.heap_setCell W ⟨g,i,none⟩ v b hg).trans h
theorem Qlx {W:World}{g:Nat}{l:List Int}(h:LAt W g l){B:Nat}(hB:B≤g)(hl:l.length≤1000):W.ownsRow B 3 1 (.slice (some ⟨g,0,none⟩) l.length l.length) l.length (ints l):=
 ⟨by simp [Qbb],.inr ⟨g,l.length,(ints l).toArray,rfl,hB,h,Nat.le_refl _,by unfold maxLen;omega,by simp [Qbb],by rw [Nat.mul_one];exact List.take_of_length_le (by simp [Qbb])⟩⟩

theorem Img.four {w:World}{m:ImgD}{a b c d e:Value}(h:Img w (.agg #[a,b,c,d,e]) m):Sl w b m.root∧QaQ w c m.slots∧Sl w d m.refs∧QbL w e m.snaps:=by
 obtain⟨_,_,_,_,e,h1,h2,h3,h4⟩:=h;simp only [Value.agg.injEq,Array.mk.injEq,List.cons.injEq,and_true] at e;obtain⟨_,rfl,rfl,rfl,rfl⟩:=e;exact⟨h1,h2,h3,h4⟩
structure DK (W:World) (B D:Nat) (val:Nm→Value) (m:ImgD):Prop where
 own:OI W B val m
 box:W.heap[D]? = some (.cells #[.int .i64 m.guest,val .root,val .slots,val .refs,val .snaps] 52)
 ge:B≤D
 far:∀a,Live m a→(val a).ownBlock≠some D
theorem DK.lt {W:World}{B D:Nat}{val:Nm→Value}{m:ImgD}(h:DK W B D val m):D<W.heap.size:=(Array.getElem?_eq_some_iff.1 h.box).1
theorem DK.below {W W':World}{B D:Nat}{val:Nm→Value}{m:ImgD}(h:DK W B D val m)(hb:Below W.heap.size W W'):DK W' B D val m:=⟨h.own.below hb,(hb.block D h.lt).trans h.box,h.ge,h.far⟩
theorem DK.drew {W:World}{B D:Nat}{val:Nm→Value}{m:ImgD}(h:DK W B D val m):DK W.drew B D val m:=⟨h.own.drew,h.box,h.ge,h.far⟩
theorem DK.alloc {W:World}{B D:Nat}{val:Nm→Value}{m:ImgD}(h:DK W B D val m)(o:Obj):DK (W.alloc o) B D val m:=h.below ((Below.refl _ _).alloc (Nat.le_refl _) o)
structure DTo (w w':World) (B D:Nat) (m:ImgD) (val:Nm→Value) (ev:Value) (m':ImgD) (val':Nm→Value):Prop where
 dk:DK w' B D val' m'
 bel:Below B w w'
 keep:∀q,q<w.heap.size→q≠D→ev.ownBlock≠some q→(∀a,Live m a→(val a).ownBlock≠some q)→w'.heap[q]? = w.heap[q]?
 src:∀q,q<w.heap.size→ev.ownBlock≠some q→(∀b,Live m b→(val b).ownBlock≠some q)→∀a,Live m' a→(val' a).ownBlock≠some q
abbrev nilV:Value:=nl
theorem QbE (q:Nat):nilV.ownBlock≠some q:=by intro e;cases e
theorem DTo.refl {w:World}{B D:Nat}{m:ImgD}{val:Nm→Value}(h:DK w B D val m)(ev:Value):DTo w w B D m val ev m val:=⟨h,Below.refl _ _,fun _ _ _ _ _=>rfl,fun _ _ _ hm=>hm⟩
theorem DTo.trans {w w1 w2:World}{B D:Nat}{m m1 m2:ImgD}{val val1 val2:Nm→Value}{ev ev':Value}(h:DTo w w1 B D m val ev m1 val1)(k:DTo w1 w2 B D m1 val1 ev' m2 val2)(he:∀q,ev'.ownBlock=some q→ev.ownBlock=some q∨w.heap.size≤q∨∃a,Live m a∧(val a).ownBlock=some q):DTo w w2 B D m val ev m2 val2:=by
 have hx:∀q,q<w.heap.size→ev.ownBlock≠some q→(∀b,Live m b→(val b).ownBlock≠some q)→ev'.ownBlock≠some q:=fun q hq hev hm e=>by
  rcases he q e with x | x | ⟨a,ha,x⟩
  ·exact hev x
  ·omega
  ·exact hm a ha x
 refine⟨k.dk,h.bel.trans k.bel,fun q hq hD hev hm=>?_,fun q hq hev hm=>?_⟩
 ·exact (k.keep q (Nat.lt_of_lt_of_le hq h.bel.size) hD (hx q hq hev hm) (h.src q hq hev hm)).trans (h.keep q hq hD hev hm)
 ·exact k.src q (Nat.lt_of_lt_of_le hq h.bel.size) (hx q hq hev hm) (h.src q hq hev hm)
theorem DTo.andThen {w w1 w2:World}{B D:Nat}{m m1 m2:ImgD}{val val1 val2:Nm→Value}(h:DTo w w1 B D m val nilV m1 val1)(k:DTo w1 w2 B D m1 val1 nilV m2 val2):DTo w w2 B D m val nilV m2 val2:=
 h.trans k (fun q e=>by cases e)
theorem DTo.first {w w1 w2:World}{B D:Nat}{m m1:ImgD}{val val1:Nm→Value}{ev:Value}(hb:Below w.heap.size w w1)(hB:B≤w.heap.size)(h:DTo w1 w2 B D m val ev m1 val1)(he:∀q,ev.ownBlock=some q→w.heap.size≤q):DTo w w2 B D m val nilV m1 val1:=
 ⟨h.dk,(hb.mono hB).trans h.bel,fun q hq hD _ hm=>(h.keep q (Nat.lt_of_lt_of_le hq hb.size) hD (fun e=>by have:=he q e;omega) hm).trans (hb.block q hq),fun q hq _ hm=>h.src q (Nat.lt_of_lt_of_le hq hb.size) (fun e=>by have:=he q e;omega) hm⟩
theorem DTo.below {w w1 w2:World}{B D:Nat}{m m1:ImgD}{val val1:Nm→Value}{ev:Value}(h:DTo w w1 B D m val ev m1 val1)(hB:B≤w.heap.size)(hb:Below w1.heap.size w1 w2):DTo w w2 B D m val ev m1 val1:=
 ⟨h.dk.below hb,h.bel.trans (hb.mono (Nat.le_trans hB h.bel.size)),fun q hq hD hev hm=>(hb.block q (Nat.lt_of_lt_of_le hq h.bel.size)).trans (h.keep q hq hD hev hm),h.src⟩
theorem DTo.drew {w w1:World}{B D:Nat}{m m1:ImgD}{val val1:Nm→Value}{ev:Value}(h:DTo w w1 B D m val ev m1 val1):DTo w w1.drew B D m val ev m1 val1:=⟨h.dk.drew,h.bel.drew,h.keep,h.src⟩
theorem DTo.alloc {w w1:World}{B D:Nat}{m m1:ImgD}{val val1:Nm→Value}{ev:Value}(h:DTo w w1 B D m val ev m1 val1)(hB:B≤w.heap.size)(o:Obj):DTo w (w1.alloc o) B D m val ev m1 val1:=h.below hB ((Below.refl _ _).alloc (Nat.le_refl _) o)
theorem DK.setFar {W:World}{B D:Nat}{val:Nm→Value}{m:ImgD}(h:DK W B D val m){g i:Nat}{u:Value}(hD:D≠g)(hg:∀a,Live m a→(val a).ownBlock≠some g):DK (W.setCell ⟨g,i,none⟩ u) B D val m:=⟨h.own.far hg,Qan h.box hD _ _,h.ge,h.far⟩
theorem DTo.setNew {w w1:World}{B D:Nat}{m m1:ImgD}{val val1:Nm→Value}{ev:Value}(h:DTo w w1 B D m val ev m1 val1)(hB:B≤w.heap.size){g i:Nat}{u:Value}(hg:w.heap.size≤g)(hD:D≠g)(hf:∀a,Live m1 a→(val1 a).ownBlock≠some g):DTo w (w1.setCell ⟨g,i,none⟩ u) B D m val ev m1 val1:=
 ⟨h.dk.setFar hD hf,h.bel.setCell (Nat.le_trans hB hg) _,fun q hq hqD hev hm=>(Below.heap_setCell w1 ⟨g,i,none⟩ u q (fun e=>by have e:q=g:=e;omega)).trans (h.keep q hq hqD hev hm),h.src⟩
theorem DTo.cells {w w1:World}{B D:Nat}{m m1:ImgD}{val val1:Nm→Value}{ev:Value}(h:DTo w w1 B D m val ev m1 val1){q:Nat}{A:Array Value}{t:TypeId}(hq:w.heap[q]? = some (.cells A t))(hD:q≠D)(hev:ev.ownBlock≠some q)(hm:∀a,Live m a→(val a).ownBlock≠some q):w1.heap[q]? = some (.cells A t):=
 (h.keep q (szH hq) hD hev hm).trans hq
theorem DK.five {W:World}{B D:Nat}{val:Nm→Value}{m:ImgD}(h:DK W B D val m):W.cell? ⟨D,0,none⟩=some (.int .i64 m.guest)∧W.cell? ⟨D,1,none⟩=some (val .root)∧W.cell? ⟨D,2,none⟩=some (val .slots)∧W.cell? ⟨D,3,none⟩=some (val .refs)∧W.cell? ⟨D,4,none⟩=some (val .snaps):=Go.Proofs.YtehleeibgkpjmagGreat.five h.box
theorem DK.frozen {W:World}{B D:Nat}{val:Nm→Value}{m:ImgD}(h:DK W B D val m)(i:Nat):W.frozen? ⟨D,i,none⟩=false:=Qaa h.box i
theorem DK.swapRefs {W:World}{B D:Nat}{val:Nm→Value}{m:ImgD}(h:DK W B D val m){v:Value}{r:List Int}(hv:W.ownsRow B 3 1 v r.length (ints r))(hfar:Far m val .refs v)(hD:v.ownBlock≠some D):DK (W.setCell ⟨D,3,none⟩ v) B D (upd val .refs v) { m with refs:=r }:=by
 have hf:∀a,Live m a→(upd val .refs v a).ownBlock≠some D:=fun a ha=>by
  by_cases e:a=.refs
  ·subst e;rw [Qar];exact hD
  ·rw [Qae _ _ e];exact h.far a ha
 refine⟨(h.own.swapRefs hv hfar).far hf,?_,h.ge,hf⟩;have:=Qau h.box 3 v;rw [Qar,Qae _ _ (by intro x;cases x),Qae _ _ (by intro x;cases x),Qae _ _ (by intro x;cases x)];exact this
theorem DK.swapRoot {W:World}{B D:Nat}{val:Nm→Value}{m:ImgD}(h:DK W B D val m){v:Value}{r:List Int}(hv:W.ownsRow B 3 1 v r.length (ints r))(hfar:Far m val .root v)(hD:v.ownBlock≠some D):DK (W.setCell ⟨D,1,none⟩ v) B D (upd val .root v) { m with root:=r }:=by
 have hf:∀a,Live m a→(upd val .root v a).ownBlock≠some D:=fun a ha=>by
  by_cases e:a=.root
  ·subst e;rw [Qar];exact hD
  ·rw [Qae _ _ e];exact h.far a ha
 refine⟨(h.own.swapRoot hv hfar m.guest).far hf,?_,h.ge,hf⟩;have:=Qau h.box 1 v;rw [Qar,Qae _ _ (by intro x;cases x),Qae _ _ (by intro x;cases x),Qae _ _ (by intro x;cases x)];exact this
theorem OI.reguest {W:World}{B:Nat}{val:Nm→Value}{m:ImgD}(h:OI W B val m)(g:Int):OI W B val { m with guest:=g }:=⟨fun a ha=>h.row a ha,fun a b ha hb=>h.apart a b ha hb⟩
theorem DK.setGuest {W:World}{B D:Nat}{val:Nm→Value}{m:ImgD}(h:DK W B D val m)(g:Int):DK (W.setCell ⟨D,0,none⟩ (.int .i64 g)) B D val { m with guest:=g }:=
 ⟨(h.own.reguest g).far h.far,Qau h.box 0 _,h.ge,h.far⟩
theorem DTo.setOwn {w w1:World}{B D:Nat}{m m1 m2:ImgD}{val val1 val2:Nm→Value}{ev:Value}(h:DTo w w1 B D m val ev m1 val1){a:Nm}(ha:Live m1 a){g n cap:Nat}(hv:val1 a=.slice (some ⟨g,0,none⟩) n cap){i:Nat}{u:Value}(hdk:DK (w1.setCell ⟨g,i,none⟩ u) B D val2 m2)(hs:∀q,ev.ownBlock≠some q→(∀b,Live m1 b→(val1 b).ownBlock≠some q)→q<w.heap.size→∀b,Live m2 b→(val2 b).ownBlock≠some q):DTo w (w1.setCell ⟨g,i,none⟩ u) B D m val ev m2 val2:=by
 have hg:=((h.dk.own.row a ha).lt g (by rw [hv];rfl)).1;refine⟨hdk,h.bel.setCell hg _,fun q hq hD hev hm=>?_,fun q hq hev hm=>hs q hev (h.src q hq hev hm) hq⟩;exact (Below.heap_setCell w1 ⟨g,i,none⟩ u q (fun e=>h.src q hq hev hm a ha (by rw [hv];exact congrArg some e.symm))).trans (h.keep q hq hD hev hm)
theorem DTo.setDesk {w w1:World}{B D:Nat}{m m1 m2:ImgD}{val val1 val2:Nm→Value}{ev:Value}(h:DTo w w1 B D m val ev m1 val1){i:Nat}{u:Value}(hdk:DK (w1.setCell ⟨D,i,none⟩ u) B D val2 m2)(hs:∀q,ev.ownBlock≠some q→(∀b,Live m1 b→(val1 b).ownBlock≠some q)→q<w.heap.size→∀b,Live m2 b→(val2 b).ownBlock≠some q):DTo w (w1.setCell ⟨D,i,none⟩ u) B D m val ev m2 val2:=
 ⟨hdk,h.bel.setCell h.dk.ge _,fun q hq hD hev hm=>(Below.heap_setCell w1 ⟨D,i,none⟩ u q hD).trans (h.keep q hq hD hev hm),fun q hq hev hm=>hs q hev (h.src q hq hev hm) hq⟩
theorem DK.setRoot {W:World}{B D:Nat}{val:Nm→Value}{m:ImgD}(h:DK W B D val m){g n cap:Nat}(hv:val .root=.slice (some ⟨g,0,none⟩) n cap)(i:Nat)(x:Int):DK (W.setCell ⟨g,i,none⟩ (.int .i64 x)) B D val { m with root:=m.root.set i x }:=
 ⟨h.own.setRoot hv i x,Qan h.box (fun e=>h.far .root (Live.root m) (by rw [hv,e];rfl)) _ _,h.ge,h.far⟩
theorem DK.setRefs {W:World}{B D:Nat}{val:Nm→Value}{m:ImgD}(h:DK W B D val m){g n cap:Nat}(hv:val .refs=.slice (some ⟨g,0,none⟩) n cap)(i:Nat)(x:Int):DK (W.setCell ⟨g,i,none⟩ (.int .i64 x)) B D val { m with refs:=m.refs.set i x }:=
 ⟨h.own.setRefs hv i x,Qan h.box (fun e=>h.far .refs (Live.refs m) (by rw [hv,e];rfl)) _ _,h.ge,h.far⟩
theorem DTo.setRoot {w w1:World}{B D:Nat}{m m1:ImgD}{val val1:Nm→Value}{ev:Value}(h:DTo w w1 B D m val ev m1 val1){g n cap:Nat}(hv:val1 .root=.slice (some ⟨g,0,none⟩) n cap)(i:Nat)(x:Int):DTo w (w1.setCell ⟨g,i,none⟩ (.int .i64 x)) B D m val ev { m1 with root:=m1.root.set i x } val1:=
 h.setOwn (Live.root m1) hv (h.dk.setRoot hv i x) (fun _ _ hm _=>hm)
theorem DTo.setRefs {w w1:World}{B D:Nat}{m m1:ImgD}{val val1:Nm→Value}{ev:Value}(h:DTo w w1 B D m val ev m1 val1){g n cap:Nat}(hv:val1 .refs=.slice (some ⟨g,0,none⟩) n cap)(i:Nat)(x:Int):DTo w (w1.setCell ⟨g,i,none⟩ (.int .i64 x)) B D m val ev { m1 with refs:=m1.refs.set i x } val1:=
 h.setOwn (Live.refs m1) hv (h.dk.setRefs hv i x) (fun _ _ hm _=>hm)
theorem QmG {m1 m2:ImgD}{val1:Nm→Value}{ev v:Value}{a:Nm}{n:Nat}(hl:∀b,Live m2 b→b≠a→Live m1 b)(hv:∀q,v.ownBlock=some q→ev.ownBlock=some q∨n≤q):∀q,ev.ownBlock≠some q→(∀b,Live m1 b→(val1 b).ownBlock≠some q)→q<n→∀b,Live m2 b→(upd val1 a v b).ownBlock≠some q:=fun q hev hm hq b hb=>by
 by_cases e:b=a
 ·subst e;rw [Qar];intro x;rcases hv q x with y | y
  ·exact hev y
  ·omega
 ·rw [Qae _ _ e];exact hm b (hl b hb e)
theorem DTo.swapRefs {w w1:World}{B D:Nat}{m m1:ImgD}{val val1:Nm→Value}{ev:Value}(h:DTo w w1 B D m val ev m1 val1){v:Value}{r:List Int}(hv:w1.ownsRow B 3 1 v r.length (ints r))(hfar:Far m1 val1 .refs v)(hD:v.ownBlock≠some D)(hs:∀q,v.ownBlock=some q→ev.ownBlock=some q∨w.heap.size≤q):DTo w (w1.setCell ⟨D,3,none⟩ v) B D m val ev { m1 with refs:=r } (upd val1 .refs v):=
 h.setDesk (h.dk.swapRefs hv hfar hD) (QmG (fun _ hb _=>hb) hs)
theorem DTo.setSlot {w w1:World}{B D:Nat}{m m1:ImgD}{val val1:Nm→Value}{ev:Value}(h:DTo w w1 B D m val ev m1 val1){t:Nat}(ht:t<m1.slots.length){g n cap:Nat}(hv:val1 .slots=.slice (some ⟨g,0,none⟩) n cap)(k:Int)(d:ByteArray)(es:List Int){e2:Value}
  (hev:w1.ownsRow B 3 1 e2 es.length (ints es)) (hfar:Far m1 val1 (.tab t) e2) (hD:e2.ownBlock≠some D) (hs:∀q,e2.ownBlock=some q→ev.ownBlock=some q∨w.heap.size≤q) :
  DTo w (((w1.setCell ⟨g,t*3,none⟩ (.int .i64 k)).setCell ⟨g,t*3+1,none⟩ (.string d)).setCell ⟨g,t*3+2,none⟩ e2) B D m val ev { m1 with slots:=m1.slots.set t (k,d,es) } (upd val1 (.tab t) e2):=by
 have hDg:D≠g:=fun e=>h.dk.far .slots (Live.slots m1) (by rw [hv,e];rfl)
 have hg:=((h.dk.own.row .slots (Live.slots m1)).lt g (by rw [hv];rfl)).1;have hl:∀b,Live { m1 with slots:=m1.slots.set t (k,d,es) } b→Live m1 b:=fun b hb=>(Qcb (m:=m1) (m':={ m1 with slots:=m1.slots.set t (k,d,es) }) List.length_set rfl b).1 hb
 have hu:∀q,ev.ownBlock≠some q→(∀b,Live m1 b→(val1 b).ownBlock≠some q)→q<w.heap.size→∀b,Live { m1 with slots:=m1.slots.set t (k,d,es) } b→(upd val1 (.tab t) e2 b).ownBlock≠some q:=QmG (fun b hb _=>hl b hb) hs;refine⟨⟨h.dk.own.setSlot ht hv k d es hev hfar,?_,h.dk.ge,fun a ha=>?_⟩,((h.bel.setCell hg _).setCell hg _).setCell hg _,fun q hq hqD hev' hm=>?_,fun q hq hev' hm=>hu q hev' (h.src q hq hev' hm) hq⟩
 ·rw [Qae _ _ (by intro x;cases x),Qae _ _ (by intro x;cases x),Qae _ _ (by intro x;cases x),Qae _ _ (by intro x;cases x)];exact Qan (Qan (Qan h.dk.box hDg _ _) hDg _ _) hDg _ _
 ·by_cases e:a=.tab t
  ·subst e;rw [Qar];exact hD
  ·rw [Qae _ _ e];exact h.dk.far a (hl a ha)
 ·have hqg:q≠g:=fun e=>h.src q hq hev' hm .slots (Live.slots m1) (by rw [hv];exact congrArg some e.symm)
  exact (Qan (Qan (Qan rfl hqg _ _) hqg _ _) hqg _ _).trans (h.keep q hq hqD hev' hm)
def AnsI (w:World) (B:Nat) (m:ImgD) (err:Int) (r:Ending) (w':World):Prop:=∃val,r=.returned (.tuple #[imgV m.guest val,.int .i64 err])∧OI w' B val m∧Below B w w'
def imgZ:ImgD:=⟨0,[],[],[],[]⟩
def valZ:Nm→Value:=fun _=>nilV
theorem OI.zero (W:World)(B:Nat):OI W B valZ imgZ:=⟨fun a ha=>by
 rcases ha.cases with rfl | rfl | rfl | rfl | ⟨j,rfl,hj⟩ | ⟨j,rfl,hj⟩
 ·exact World.ownsRow_nil _ _ _ _
 ·exact World.ownsRow_nil _ _ _ _
 ·exact World.ownsRow_nil _ _ _ _
 ·exact World.ownsRow_nil _ _ _ _
 ·exact absurd hj (Nat.not_lt_zero _)
 ·exact absurd hj (Nat.not_lt_zero _),fun _ _ _ _ _ g hg=>by cases hg⟩
theorem AnsI.bad {w w':World}{B:Nat}(err:Int)(hb:Below B w w'):AnsI w B imgZ err (.returned (.tuple #[.agg #[.int .i64 0,nilV,nilV,nilV,nilV],.int .i64 err])) w':=⟨valZ,rfl,OI.zero _ _,hb⟩

def IRow (W:World) (lo hi:Nat) (v:Value) (n:Nat):Prop:=n≤maxLen∧∃ao cap,v=.slice ao n cap∧(0<n→∃g arr,ao=some ⟨g,0,none⟩∧lo≤g∧g<hi∧W.heap[g]? = some (.cells arr 3)∧n≤arr.size)
def SRow (W:World) (lo hi:Nat) (T:TypeId) (v:Value) (n k:Nat):Prop:=n≤maxLen∧∃ao cap,v=.slice ao n cap∧(0<n→∃g arr,ao=some ⟨g,0,none⟩∧lo≤g∧g<hi∧W.heap[g]? = some (.cells arr T)∧n*3≤arr.size∧∀j,k≤j→j<n→∃tv t,arr[j*3+2]? = some tv∧IRow W lo hi tv t)
structure OutR (lo hi:Nat) (W W':World):Prop where
 os:W'.os=W.os
 tape:W'.tape=W.tape
 output:W'.output=W.output
 size:W'.heap.size=W.heap.size
 keep:∀q,¬(lo≤q∧q<hi)→W'.heap[q]? = W.heap[q]?
theorem OutR.refl (lo hi:Nat)(W:World):OutR lo hi W W:=⟨rfl,rfl,rfl,rfl,fun _ _=>rfl⟩
theorem OutR.set {lo hi:Nat}{W X:World}(h:OutR lo hi W X){g i:Nat}(h1:lo≤g)(h2:g<hi)(v:Value):OutR lo hi W (X.setCell ⟨g,i,none⟩ v):=
 ⟨h.os,h.tape,h.output,by simpa using h.size,fun q hq=>(Below.heap_setCell _ ⟨g,i,none⟩ v q (by show q≠g;rintro rfl;exact hq ⟨h1,h2⟩)).trans (h.keep q hq)⟩
theorem OutR.trans {lo hi lo2 hi2 lo3 hi3:Nat}{W X Y:World}(h:OutR lo hi W X)(k:OutR lo2 hi2 X Y)(h1:lo3≤lo)(h2:hi≤hi3)(h3:lo3≤lo2)(h4:hi2≤hi3):OutR lo3 hi3 W Y:=
 ⟨k.os.trans h.os,k.tape.trans h.tape,k.output.trans h.output,k.size.trans h.size,fun q hq=>(k.keep q (by omega)).trans (h.keep q (by omega))⟩
theorem OutR.below {lo hi:Nat}{W X:World}(h:OutR lo hi W X):Below lo W X:=⟨h.os,h.tape,h.output,Nat.le_of_eq h.size.symm,fun q hq=>h.keep q (by omega)⟩
theorem IRow.keep {W W':World}{lo hi n:Nat}{v:Value}(h:IRow W lo hi v n)(hk:∀q,lo≤q→q<hi→W'.heap[q]? = W.heap[q]?):IRow W' lo hi v n:=by
 obtain⟨hm,ao,cap,e,h⟩:=h;refine⟨hm,ao,cap,e,fun hn=>?_⟩;obtain⟨g,arr,e1,e2,e3,e4,e5⟩:=h hn;exact⟨g,arr,e1,e2,e3,(hk g e2 e3).trans e4,e5⟩
theorem SRow.keep {W W':World}{lo hi n k:Nat}{T:TypeId}{v:Value}(h:SRow W lo hi T v n k)(hk:∀q,lo≤q→q<hi→W'.heap[q]? = W.heap[q]?):SRow W' lo hi T v n k:=by
 obtain⟨hm,ao,cap,e,h⟩:=h;refine⟨hm,ao,cap,e,fun hn=>?_⟩;obtain⟨g,arr,e1,e2,e3,e4,e5,e6⟩:=h hn;exact⟨g,arr,e1,e2,e3,(hk g e2 e3).trans e4,e5,fun j h1 h2=>by obtain⟨tv,t,q1,q2⟩:=e6 j h1 h2;exact⟨tv,t,q1,q2.keep hk⟩⟩
theorem Qhx {W:World}{g i:Nat}{v:Value}{arr:Array Value}{T:TypeId}(h:W.heap[g]? = some (.cells arr T))(q:Nat){a2:Array Value}{T2:TypeId}(h2:W.heap[q]? = some (.cells a2 T2)):∃a3,(W.setCell ⟨g,i,none⟩ v).heap[q]? = some (.cells a3 T2)∧a3.size=a2.size∧(T2≠T→a3=a2):=by
 by_cases e:q=g
 ·subst e;rw [h] at h2
  cases h2
  refine⟨_,Qau h i v,by simp,fun x=>absurd rfl x⟩
 ·exact⟨a2,(Below.heap_setCell _ ⟨g,i,none⟩ v q e).trans h2,rfl,fun _=>rfl⟩
theorem IRow.set {W:World}{lo hi n g i:Nat}{v u:Value}{arr:Array Value}{T:TypeId}(h:IRow W lo hi v n)(hg:W.heap[g]? = some (.cells arr T)):IRow (W.setCell ⟨g,i,none⟩ u) lo hi v n:=by
 obtain⟨hm,ao,cap,e,h⟩:=h;refine⟨hm,ao,cap,e,fun hn=>?_⟩;obtain⟨q,a2,e1,e2,e3,e4,e5⟩:=h hn;obtain⟨a3,h1,h2,_⟩:=Qhx (i:=i) (v:=u) hg q e4;exact⟨q,a3,e1,e2,e3,h1,by omega⟩
theorem SRow.set {W:World}{lo hi n k g i:Nat}{v u:Value}{arr:Array Value}{T T2:TypeId}(h:SRow W lo hi T2 v n k)(hg:W.heap[g]? = some (.cells arr T))(hT:T2≠T):SRow (W.setCell ⟨g,i,none⟩ u) lo hi T2 v n k:=by
 obtain⟨hm,ao,cap,e,h⟩:=h;refine⟨hm,ao,cap,e,fun hn=>?_⟩;obtain⟨q,a2,e1,e2,e3,e4,e5,e6⟩:=h hn;obtain⟨a3,h1,h2,h3⟩:=Qhx (i:=i) (v:=u) hg q e4;have h3:=h3 hT;subst h3;exact⟨q,a3,e1,e2,e3,h1,e5,fun j q1 q2=>by obtain⟨tv,t,q3,q4⟩:=e6 j q1 q2;exact⟨tv,t,q3,q4.set hg⟩⟩
theorem SRow.own {W:World}{lo hi n k g:Nat}{cap i:Nat}{u:Value}{arr:Array Value}{T:TypeId}(h:SRow W lo hi T (.slice (some ⟨g,0,none⟩) n cap) n k)(hi3:i<k*3)(hg:W.heap[g]? = some (.cells arr T)):SRow (W.setCell ⟨g,i,none⟩ u) lo hi T (.slice (some ⟨g,0,none⟩) n cap) n k:=by
 obtain⟨hm,ao,cap,e,h⟩:=h;refine⟨hm,ao,cap,e,fun hn=>?_⟩;obtain⟨q,a2,e1,e2,e3,e4,e5,e6⟩:=h hn
 cases e
 cases e1
 have hs:=Qau e4 i u;refine⟨g,_,rfl,e2,e3,hs,by simpa using e5,fun j q1 q2=>?_⟩;obtain⟨tv,t,q3,q4⟩:=e6 j q1 q2;refine⟨tv,t,?_,q4.set hg⟩;rw [Array.getElem?_setIfInBounds_ne (by omega)];exact q3
theorem SRow.less {W:World}{lo hi n k k2:Nat}{T:TypeId}{v:Value}(h:SRow W lo hi T v n k)(hk:k≤k2):SRow W lo hi T v n k2:=by
 obtain⟨hm,ao,cap,e,h⟩:=h;refine⟨hm,ao,cap,e,fun hn=>?_⟩;obtain⟨q,a2,e1,e2,e3,e4,e5,e6⟩:=h hn;exact⟨q,a2,e1,e2,e3,e4,e5,fun j q1 q2=>e6 j (by omega) q2⟩
structure ImS (W:World) (lo hi:Nat) (r s f n:Value) (rn sn fn nn k:Nat):Prop where
 root:IRow W lo hi r rn
 slots:SRow W lo hi 37 s sn k
 refs:IRow W lo hi f fn
 snaps:SRow W lo hi 39 n nn 0
theorem ImS.keep {W W':World}{lo hi rn sn fn nn k:Nat}{r s f n:Value}(h:ImS W lo hi r s f n rn sn fn nn k)(hk:∀q,lo≤q→q<hi→W'.heap[q]? = W.heap[q]?):ImS W' lo hi r s f n rn sn fn nn k:=⟨h.root.keep hk,h.slots.keep hk,h.refs.keep hk,h.snaps.keep hk⟩
theorem ImS.set {W:World}{lo hi rn sn fn nn k g i:Nat}{r s f n u:Value}{arr:Array Value}(h:ImS W lo hi r s f n rn sn fn nn k)(hg:W.heap[g]? = some (.cells arr 3)):ImS (W.setCell ⟨g,i,none⟩ u) lo hi r s f n rn sn fn nn k:=
 ⟨h.root.set hg,h.slots.set hg (by decide),h.refs.set hg,h.snaps.set hg (by decide)⟩
theorem ImS.slot {W:World}{lo hi rn sn fn nn k g i cap:Nat}{r f n u:Value}{arr:Array Value}(h:ImS W lo hi r (.slice (some ⟨g,0,none⟩) sn cap) f n rn sn fn nn k)(hi3:i<k*3)(hg:W.heap[g]? = some (.cells arr 37)):ImS (W.setCell ⟨g,i,none⟩ u) lo hi r (.slice (some ⟨g,0,none⟩) sn cap) f n rn sn fn nn k:=
 ⟨h.root.set hg,h.slots.own hi3 hg,h.refs.set hg,h.snaps.set hg (by decide)⟩
theorem IRow.of {W:World}{lo hi n:Nat}{v:Value}{xs:List Value}(h:W.ownsRow lo 3 1 v n xs)(hh:W.heap.size≤hi):IRow W lo hi v n:=by
 rcases h.2 with ⟨rfl,rfl⟩ | ⟨g,cap,cur,rfl,hb,hg,h1,h2,h3,_⟩
 ·exact⟨Nat.zero_le _,none,0,rfl,fun x=>absurd x (Nat.lt_irrefl _)⟩
 ·exact⟨by omega,_,cap,rfl,fun _=>⟨g,cur,rfl,hb,Nat.lt_of_lt_of_le (szH hg) hh,hg,by omega⟩⟩
theorem SRow.of {W:World}{lo hi n:Nat}{v:Value}{xs:List Value}{T:TypeId}(tv:Nat→Value)(t:Nat→Nat)(h:W.ownsRow lo T 3 v n xs)(hh:W.heap.size≤hi)(hx:∀j,j<n→xs[j*3+2]? = some (tv j))(ht:∀j,j<n→IRow W lo hi (tv j) (t j)):SRow W lo hi T v n 0:=by
 rcases h.2 with ⟨rfl,rfl⟩ | ⟨g,cap,cur,rfl,hb,hg,h1,h2,h3,h4⟩
 ·exact⟨Nat.zero_le _,none,0,rfl,fun x=>absurd x (Nat.lt_irrefl _)⟩
 ·refine⟨by omega,_,cap,rfl,fun _=>⟨g,cur,rfl,hb,Nat.lt_of_lt_of_le (szH hg) hh,hg,by rw [h3];exact Nat.mul_le_mul_right 3 h1,fun j _ hj=>⟨tv j,t j,?_,ht j hj⟩⟩⟩;have:=hx j hj;rw [←h4,List.getElem?_take] at this
  split at this
  ·rw [←Array.getElem?_toList];exact this
  ·cases this
theorem OI.ims {W:World}{lo hi:Nat}{val:Nm→Value}{m:ImgD}(h:OI W lo val m)(hh:W.heap.size≤hi):ImS W lo hi (val .root) (val .slots) (val .refs) (val .snaps) m.root.length m.slots.length m.refs.length m.snaps.length 0:=
  ⟨IRow.of (h.row .root (Live.root m)) hh,SRow.of (fun j=>val (.tab j)) (fun j=>(m.slots.getD j default).2.2.length) (h.row .slots (Live.slots m)) hh (fun j hj=>(QaO hj).2.2) (fun j hj=>IRow.of (h.row (.tab j) (Live.tab hj)) hh),
   IRow.of (h.row .refs (Live.refs m)) hh,SRow.of (fun j=>val (.sr j)) (fun j=>(m.snaps.getD j default).2.2.length) (h.row .snaps (Live.snaps m)) hh (fun j hj=>(Qa8 hj).2.2) (fun j hj=>IRow.of (h.row (.sr j) (Live.sr hj)) hh)⟩

theorem Qaf {p:Prop}(h:p):Hid p:=h
theorem QaA {W W':World}{a:Nat}{o:Obj}(h:W.heap[a]? = some o)(bb:Below W.heap.size W W'):W'.heap[a]? = some o:=(bb.block a (szH h)).trans h
theorem szA (W:World)(o:Obj):(W.alloc o).heap.size=W.heap.size+1:=by simp
theorem cellAt {W:World}{g i:Nat}{arr:Array Value}{T:TypeId}{v:Value}(h:W.heap[g]? = some (.cells arr T))(e:arr[i]? = some v):W.cell? ⟨g,i,none⟩=some v:=by simp [World.cell?,h,e]
theorem QmY {W:World}{lo hi rn sn fn nn k k2:Nat}{r s f n:Value}(h:ImS W lo hi r s f n rn sn fn nn k)(hk:k≤k2):ImS W lo hi r s f n rn sn fn nn k2:=⟨h.root,h.slots.less hk,h.refs,h.snaps⟩
structure ImA (W:World) (lo hi:Nat) (r s f n:Value) (rn sn fn nn:Nat):Prop where
 im:ImS W lo hi r s f n rn sn fn nn 0
 le:hi≤W.heap.size
 lh:lo≤hi
theorem ImA.below {W W':World}{lo hi rn sn fn nn:Nat}{r s f n:Value}(h:ImA W lo hi r s f n rn sn fn nn)(bb:Below W.heap.size W W'):ImA W' lo hi r s f n rn sn fn nn:=⟨h.im.keep (fun q _ hq=>bb.block q (Nat.lt_of_lt_of_le hq h.le)),Nat.le_trans h.le bb.size,h.lh⟩
theorem Qgs {W W0:World}{val:Nm→Value}{M:ImgD}{g:Int}{r s f n:Value}(h:OI W W0.heap.size val M)(e:imgV g val=.agg #[.int .i64 g,r,s,f,n])(bb:Below W0.heap.size W0 W):∃lo hi,lo=W0.heap.size∧hi=W.heap.size∧ImA W lo hi r s f n M.root.length M.slots.length M.refs.length M.snaps.length:=by
 unfold imgV at e;simp only [Value.agg.injEq,Array.mk.injEq,List.cons.injEq,and_true,true_and] at e;obtain⟨e1,e2,e3,e4⟩:=e;rw [←e1,← e2,← e3,← e4];exact⟨_,_,rfl,rfl,h.ims (Nat.le_refl _),Nat.le_refl _,bb.size⟩
def lo4 (a b c d:Nat) (i:Nat):Nat:=if i=0 then a else if i=1 then b else if i=2 then c else d
def Ord4 (B la ha lb hb lc hc ld hd gl:Nat):Prop:=B≤la∧la≤ha∧ha≤lb∧lb≤hb∧hb≤lc∧lc≤hc∧hc≤ld∧ld≤hd∧hd≤gl
def LIm (W:World) (lo hi:Nat→Nat) (arr:Array Value) (i0:Nat):Prop:=∀i,i0≤i→i<4→∃ra rc sa sc fa fc na nc rn sn fn nn,arr[i*5+1]? = some (.slice ra rn rc)∧arr[i*5+2]? = some (.slice sa sn sc)∧arr[i*5+3]? = some (.slice fa fn fc)∧arr[i*5+4]? = some (.slice na nn nc)∧ImS W (lo i) (hi i) (.slice ra rn rc) (.slice sa sn sc) (.slice fa fn fc) (.slice na nn nc) rn sn fn nn 0
theorem QmQ {W:World}{la ha lb hb lc hc ld hd:Nat}{ga gb gc gd:Value}{r0 r1 r2 r3 s0 s1 s2 s3 f0 f1 f2 f3 n0 n1 n2 n3:Option Addr}{rc0 rc1 rc2 rc3 sc0 sc1 sc2 sc3 fc0 fc1 fc2 fc3 nc0 nc1 nc2 nc3 rn0 rn1 rn2 rn3 sn0 sn1 sn2 sn3 fn0 fn1 fn2 fn3 nn0 nn1 nn2 nn3:Nat}
  (h0:ImA W la ha (.slice r0 rn0 rc0) (.slice s0 sn0 sc0) (.slice f0 fn0 fc0) (.slice n0 nn0 nc0) rn0 sn0 fn0 nn0) (h1:ImA W lb hb (.slice r1 rn1 rc1) (.slice s1 sn1 sc1) (.slice f1 fn1 fc1) (.slice n1 nn1 nc1) rn1 sn1 fn1 nn1)
  (h2:ImA W lc hc (.slice r2 rn2 rc2) (.slice s2 sn2 sc2) (.slice f2 fn2 fc2) (.slice n2 nn2 nc2) rn2 sn2 fn2 nn2) (h3:ImA W ld hd (.slice r3 rn3 rc3) (.slice s3 sn3 sc3) (.slice f3 fn3 fc3) (.slice n3 nn3 nc3) rn3 sn3 fn3 nn3) :
  LIm W (lo4 la lb lc ld) (lo4 ha hb hc hd) #[ga,.slice r0 rn0 rc0,.slice s0 sn0 sc0,.slice f0 fn0 fc0,.slice n0 nn0 nc0,gb,.slice r1 rn1 rc1,.slice s1 sn1 sc1,.slice f1 fn1 fc1,.slice n1 nn1 nc1,gc,.slice r2 rn2 rc2,.slice s2 sn2 sc2,.slice f2 fn2 fc2,.slice n2 nn2 nc2,gd,.slice r3 rn3 rc3,.slice s3 sn3 sc3,.slice f3 fn3 fc3,.slice n3 nn3 nc3] 0:=fun i _ hi=>by
 match i,hi with
 | 0,_=>exact⟨_,_,_,_,_,_,_,_,_,_,_,_,rfl,rfl,rfl,rfl,h0.im⟩
 | 1,_=>exact⟨_,_,_,_,_,_,_,_,_,_,_,_,rfl,rfl,rfl,rfl,h1.im⟩
 | 2,_=>exact⟨_,_,_,_,_,_,_,_,_,_,_,_,rfl,rfl,rfl,rfl,h2.im⟩
 | 3,_=>exact⟨_,_,_,_,_,_,_,_,_,_,_,_,rfl,rfl,rfl,rfl,h3.im⟩
theorem Qmr {B la ha lb hb lc hc ld hd gl:Nat}(h:Ord4 B la ha lb hb lc hc ld hd gl){i:Nat}(hi:i<4):B≤lo4 la lb lc ld i∧lo4 ha hb hc hd i≤gl∧∀j,i<j→j<4→lo4 ha hb hc hd i≤lo4 la lb lc ld j:=by
 unfold Ord4 at h
 match i,hi with
 | 0,_=>refine⟨by simp [lo4];omega,by simp [lo4];omega,fun j h1 h2=>?_⟩;unfold lo4;rw [if_pos rfl];(repeat' split) <;> omega
 | 1,_=>refine⟨by simp [lo4];omega,by simp [lo4];omega,fun j h1 h2=>?_⟩;unfold lo4;rw [if_neg (by decide),if_pos rfl];(repeat' split) <;> omega
 | 2,_=>refine⟨by simp [lo4];omega,by simp [lo4];omega,fun j h1 h2=>?_⟩;unfold lo4;rw [if_neg (by decide),if_neg (by decide),if_pos rfl];(repeat' split) <;> omega
 | 3,_=>refine⟨by simp [lo4];omega,by simp [lo4];omega,fun j h1 h2=>?_⟩;omega
theorem LIm.next {W W':World}{lo hi:Nat→Nat}{arr:Array Value}{i:Nat}(h:LIm W lo hi arr i)(ho:OutR (lo i) (hi i) W W')(hd:∀j,i<j→j<4→hi i≤lo j):LIm W' lo hi arr (i+1):=fun j h1 h2=>by
 obtain⟨ra,rc,sa,sc,fa,fc,na,nc,rn,sn,fn,nn,e1,e2,e3,e4,hI⟩:=h j (by omega) h2;have:=hd j (by omega) h2;exact⟨ra,rc,sa,sc,fa,fc,na,nc,rn,sn,fn,nn,e1,e2,e3,e4,hI.keep (fun q q1 q2=>ho.keep q (by omega))⟩

def SetR (v wr:World) (B D:Nat) (m:ImgD) (val:Nm→Value) (q k:Nat):Prop:=
 ∃vk,DTo v wr B D m val nilV (frT m k) vk∧vk .root=val .root∧vk .slots=val .slots∧vk .refs=.slice (some ⟨q,0,none⟩) m.slots.length m.slots.length∧vk .snaps=val .snaps
theorem Qky (m:ImgD)(ra:Option Addr)(rn rc:Nat)(g sc:Nat)(fa:Option Addr)(fn fc:Nat)(na:Option Addr)(nn nc:Nat)(B D:Nat)(val:Nm→Value)(w:World)(hK:DK w B D val m)(e0:val .root=.slice ra rn rc)(e1:val .slots=.slice (some ⟨g,0,none⟩) m.slots.length sc)(e2:val .refs=.slice fa fn fc)(e3:val .snaps=.slice na nn nc)(hB:B≤w.heap.size)(hE:Qao m=0) :
  Calls Tryz.prog 62 #[.pointer (some ⟨D,0,none⟩)] w fun r w'=>∃val',r=.returned (.tuple #[imgV m.guest val',.int .i64 0])∧DTo w w' B D m val nilV (Qai m) val':=by
 have h40:m.slots.length≤40:=(Qah (Qad hE).2.1).2;have h1s:1≤m.slots.length:=(Qah (Qad hE).2.1).1;have hlc:(cntL m).length=m.slots.length:=QaU m;have hDlt:=hK.lt;have hgr:=hK.own.row .slots (Live.slots m);rw [e1] at hgr;have hgl:=hgr.lt g rfl;have hDg:g≠D:=fun e=>hK.far .slots (Live.slots m) (by rw [e1,e];rfl)
 clear hgr;have hK1:DK (w.alloc zI) B D val m:=hK.alloc _;obtain⟨d0,d1,d2,d3,d4⟩:=hK1.five;have f3:=hK1.frozen 3;rw [e0] at d1;rw [e1] at d2;rw [e2] at d3;rw [e3] at d4;have hcall:=Qf6 hK1.own.img hE;unfold imgV at hcall;rw [e0,e1,e2,e3] at hcall;have hz1:(w.alloc zI).heap.size=w.heap.size+1:=by simp
 have mR:(w.alloc zI).heap[w.heap.size]? = some zI:=zHn _ _;have D1:¬D=w.heap.size:=by omega
 have D2:¬w.heap.size=D:=by omega
 go_enter Tryz.func62,Tryz.ntmps62
 go_wp2_with (go_at_call 67;refine hcall.mono ?_;rintro e w2 ⟨⟨q,hq,rfl,hL⟩,hb2⟩;have hK2:=hK1.below hb2;obtain⟨c0,c1,c2,c3,c4⟩:=hK2.five;have f2:=hK2.frozen 3;rw [e0] at c1;rw [e1] at c2;rw [e2] at c3;rw [e3] at c4);have hb2':Below (w.alloc zI).heap.size (w.alloc zI) w2:=hb2;have hq0:=hq;have hq:w.heap.size+1≤q:=by rw [hz1] at hq;exact hq
 have hrow:w2.ownsRow B 3 1 (.slice (some ⟨q,0,none⟩) m.slots.length m.slots.length) (cntL m).length (ints (cntL m)):=by
  have:=Qlx hL (B:=B) (by omega) (by rw [hlc];omega);rw [hlc] at this ⊢;exact this
 have hS:=(DTo.refl hK1 nilV).below (by rw [hz1];omega) hb2';have hS:=hS.swapRefs hrow (QoO hK1.own .refs (fun p e=>by cases e;rw [hz1];exact hq)) (fun e=>by have e:q=D:=Option.some.inj e;omega) (fun p e=>by cases e;rw [hz1];exact .inr hq);have HS:Hid (SetR (w.alloc zI) (w2.setCell ⟨D,3,none⟩ (.slice (some ⟨q,0,none⟩) m.slots.length m.slots.length)) B D m val q 0):=by
  refine⟨upd val .refs (.slice (some ⟨q,0,none⟩) m.slots.length m.slots.length),?_,Qae _ _ (by intro x;cases x),Qae _ _ (by intro x;cases x),Qar _ _ _,Qae _ _ (by intro x;cases x)⟩;rw [Qjs];exact hS
 have HV:Hid (val .root=.slice ra rn rc∧val .slots=.slice (some ⟨g,0,none⟩) m.slots.length sc∧val .snaps=.slice na nn nc):=⟨e0,e1,e3⟩;have HK:Hid (DK w B D val m):=hK;clear hb2' hb2 hrow hS hL hq0 hK1 hK2 c0 c1 c2 c3 c4 d0 d1 d2 d3 d4 f2 f3 hcall hE e0 e1 e2 e3 hK mR hz1
 go_loopw [27] (fun i wr=>∃k:Nat,k≤m.slots.length∧i=.int .i64 k∧Hid (SetR (w.alloc zI) wr B D m val q k)) (fun i _=>m.slots.length - (intOf i).toNat)
 case atStart=>exact⟨0,Nat.zero_le _,rfl,HS⟩
 case round=>
  obtain⟨k,hk,rfl,HC⟩:=hrel;obtain⟨vk,hT,v0,v1,v2,v3⟩:=HC.out;obtain⟨e0,e1,e3⟩:=HV.out;rw [e0] at v0;rw [e1] at v1;rw [e3] at v3;obtain⟨d0,d1,d2,d3,d4⟩:=hT.dk.five;have d0:wr.cell? ⟨D,0,none⟩=some (.int .i64 m.guest):=d0;rw [v0] at d1;rw [v1] at d2;rw [v2] at d3;rw [v3] at d4;have hls:=Qa5 m k
  by_cases hlk:k<m.slots.length
  ·have hki:(k:Int)<(m.slots.length:Int):=by omega
   obtain⟨x,hx⟩:∃x,x=(cntL m).getD k 0:=⟨_,rfl⟩;have cx:wr.cell? ⟨q,k,none⟩=some (.int .i64 x):=by
    have hr:=hT.dk.own.row .refs (Live.refs _);rw [v2] at hr;have hr:wr.ownsRow B 3 1 (.slice (some ⟨q,0,none⟩) m.slots.length m.slots.length) (cntL m).length (ints (cntL m)):=hr;rw [hlc] at hr;rw [hx];refine (hr.cellAt k (by omega)).trans ?_;unfold ints;rw [List.getElem?_map,List.getElem?_eq_getElem (by rw [hlc];exact hlk)];simp [List.getD,hlc,hlk]
   have HX:Hid (x=(cntL m).getD k 0):=hx;clear hx
   by_cases h0:x=0
   ·have h0':(x == 0)=true:=by simp [h0]
    have H0:Hid ((cntL m).getD k 0=0):=HX.out.symm.trans h0;clear h0;have hr:=hT.dk.own.row .slots (Live.slots _);rw [v1] at hr;obtain⟨s0,s1,s2⟩:=QaO (L:=(frT m k).slots) (tv:=fun j=>vk (.tab j)) (j:=k) (by rw [hls];exact hlk);have hr:wr.ownsRow B 37 3 (.slice (some ⟨g,0,none⟩) m.slots.length sc) m.slots.length (QaE (frT m k).slots (fun j=>vk (.tab j))):=by rw [←hls];rw [←hls] at hr;exact hr
    have t0:wr.cell? ⟨g,k*3,none⟩=some _:=(hr.cellAt (k*3) (by omega)).trans s0;have t1:wr.cell? ⟨g,k*3+1,none⟩=some _:=(hr.cellAt (k*3+1) (by omega)).trans s1;have t2:wr.cell? ⟨g,k*3+2,none⟩=some _:=(hr.cellAt (k*3+2) (by omega)).trans s2;have u0:=hr.frozenAt (k*3);have u1:=hr.frozenAt (k*3+1);have u2:=hr.frozenAt (k*3+2);have HN:Hid (SetR (w.alloc zI) (((wr.setCell ⟨g,k*3,none⟩ (.int .i64 0)).setCell ⟨g,k*3+1,none⟩ (.string ⟨#[]⟩)).setCell ⟨g,k*3+2,none⟩ (nl)) B D m val q (k+1)):=by
     have hN:=hT.setSlot (t:=k) (by rw [hls];exact hlk) v1 0 ⟨#[]⟩ [] (e2:=nl) (World.ownsRow_nil _ _ _ _) (Qon _ _ _ _ _) (QbE _) (fun p e=>by cases e);refine⟨upd vk (.tab k) (nl),?_,(Qae _ _ (by intro x;cases x)).trans (v0.trans e0.symm),(Qae _ _ (by intro x;cases x)).trans (v1.trans e1.symm),(Qae _ _ (by intro x;cases x)).trans v2,(Qae _ _ (by intro x;cases x)).trans (v3.trans e3.symm)⟩;rw [Qji m H0.out];exact hN
    clear hT hr s0 s1 s2 e0 e1 e3 v0 v1 v2 v3 HC HX H0 hls;go_wp2_with fail;go_roundw
    case rel=>exact⟨k+1,by omega,by go_num,HN⟩
    case measure=>simp [intOf];omega
   ·have h0':(x == 0)=false:=by simp [h0]
    have HN:Hid (SetR (w.alloc zI) wr B D m val q (k+1)):=by
     refine⟨vk,?_,v0.trans e0.symm,v1.trans e1.symm,v2,v3.trans e3.symm⟩;rw [Qje m (fun e=>h0 (HX.out.trans e))];exact hT
    clear hT e0 e1 e3 v0 v1 v2 v3 HC HX hls;go_wp2_with fail;go_roundw
    case rel=>exact⟨k+1,by omega,by go_num,HN⟩
    case measure=>simp [intOf];omega
  ·have ek:k=m.slots.length:=by omega
   subst ek;have hR:wr.heap[w.heap.size]? = some zI:=hT.cells (zHn _ _) (by omega) (QbE _) (HK.out.own.lt (Nat.le_refl _));obtain⟨z0,z1,z2,z3,z4⟩:=five hR;have y0:=Qaa hR 0;have y1:=Qaa hR 1;have y2:=Qaa hR 2;have y3:=Qaa hR 3;have y4:=Qaa hR 4;rw [QiU] at hT;have hfr:∀a,Live (Qai m) a→(vk a).ownBlock≠some w.heap.size:=hT.src w.heap.size (by simp) (QbE _) (HK.out.own.lt (Nat.le_refl _));have HF:Hid (DTo w wr B D m val nilV (Qai m) vk):=DTo.first (bA) hB hT (fun p e=>by cases e);clear hT HC hls;go_wp2_with fail;have hn:w.heap.size≤w.heap.size:=Nat.le_refl _;refine bodyPost_ret (v:=.tuple #[.agg #[.int .i64 m.guest,.slice ra rn rc,.slice (some ⟨g,0,none⟩) m.slots.length sc,.slice (some ⟨q,0,none⟩) m.slots.length m.slots.length,.slice na nn nc],.int .i64 0]) (by simp [results,Tryz.results62,go_sem,z0,z1,z2,z3,z4]) rfl ⟨vk,?_,((((HF.out.setNew hB hn D1 hfr).setNew hB hn D1 hfr).setNew hB hn D1 hfr).setNew hB hn D1 hfr).setNew hB hn D1 hfr⟩;unfold imgV;rw [v0,v1,v2,v3]
theorem Qic (m:ImgD)(E:Int)(ra:Option Addr)(rn rc:Nat)(sa:Option Addr)(sn sc:Nat)(fa:Option Addr)(fn fc:Nat)(na:Option Addr)(nn nc:Nat)(B D:Nat)(val:Nm→Value)(w:World)(hK:DK w B D val m)(e0:val .root=.slice ra rn rc)(e1:val .slots=.slice sa sn sc)(e2:val .refs=.slice fa fn fc)(e3:val .snaps=.slice na nn nc)(hE:Qao m=E)(hne:(E != 0)=true) :
  Calls Tryz.prog 62 #[.pointer (some ⟨D,0,none⟩)] w fun r w'=>r=.returned (.tuple #[.agg #[.int .i64 0,nilV,nilV,nilV,nilV],.int .i64 E])∧Below w.heap.size w w':=by
 have hDlt:=hK.lt;have hK1:DK (w.alloc zI) B D val m:=hK.alloc _;obtain⟨d0,d1,d2,d3,d4⟩:=hK1.five;rw [e0] at d1;rw [e1] at d2;rw [e2] at d3;rw [e3] at d4;have hcall:=QfX hK1.own.img hE hne;unfold imgV at hcall;rw [e0,e1,e2,e3] at hcall;have mR:(w.alloc zI).heap[w.heap.size]? = some zI:=zHn _ _;have b0:Below w.heap.size w (w.alloc zI):=bA;clear hE
 go_enter Tryz.func62,Tryz.ntmps62
 go_wp2_with (go_at_call 67;refine hcall.mono ?_;rintro e w2 ⟨rfl,hb2⟩;have hR:=Qab mR hb2 (by simp);obtain⟨z0,z1,z2,z3,z4⟩:=five hR;have y0:=Qaa hR 0;have y1:=Qaa hR 1;have y2:=Qaa hR 2;have y3:=Qaa hR 3;have y4:=Qaa hR 4);have hb:=Below.on b0 hb2;have hn:w.heap.size≤w.heap.size:=Nat.le_refl _;refine bodyPost_ret (v:=.tuple #[.agg #[.int .i64 0,nilV,nilV,nilV,nilV],.int .i64 E]) (by simp [results,Tryz.results62,go_sem,z0,z1,z2,z3,z4]) rfl ⟨rfl,((((hb.setCell hn _).setCell hn _).setCell hn _).setCell hn _).setCell hn _⟩
theorem QiZ {m:ImgD}{E:Int}{B D:Nat}{val:Nm→Value}{w:World}(hK:DK w B D val m)(hE:Qao m=E)(hne:E≠0) :
  Calls Tryz.prog 62 #[.pointer (some ⟨D,0,none⟩)] w fun r w'=>r=.returned (.tuple #[.agg #[.int .i64 0,nilV,nilV,nilV,nilV],.int .i64 E])∧Below w.heap.size w w':=by
 obtain⟨ra,rc,e0,_⟩:=hK.own.forms .root (Live.root m);obtain⟨sa,sc,e1,_⟩:=hK.own.forms .slots (Live.slots m);obtain⟨fa,fc,e2,_⟩:=hK.own.forms .refs (Live.refs m);obtain⟨na,nc,e3,_⟩:=hK.own.forms .snaps (Live.snaps m);exact Qic m E ra _ rc sa _ sc fa _ fc na _ nc B D val w hK e0 e1 e2 e3 hE (by simpa using hne)
theorem QkF {m:ImgD}{B D:Nat}{val:Nm→Value}{w:World}(hK:DK w B D val m)(hB:B≤w.heap.size)(hE:Qao m=0) :
  Calls Tryz.prog 62 #[.pointer (some ⟨D,0,none⟩)] w fun r w'=>∃val',r=.returned (.tuple #[imgV m.guest val',.int .i64 0])∧DTo w w' B D m val nilV (Qai m) val':=by
 have h1s:1≤m.slots.length:=(Qah (Qad hE).2.1).1;obtain⟨ra,rc,e0,_⟩:=hK.own.forms .root (Live.root m);obtain⟨sa,sc,e1,hs⟩:=hK.own.forms .slots (Live.slots m);obtain⟨fa,fc,e2,_⟩:=hK.own.forms .refs (Live.refs m);obtain⟨na,nc,e3,_⟩:=hK.own.forms .snaps (Live.snaps m);obtain⟨g,rfl⟩:=hs (by show 0<m.slots.length;omega);exact Qky m ra _ rc g sc fa _ fc na _ nc B D val w hK e0 e1 e2 e3 hB hE

theorem Qnf {xs:List Int} : ∀u ∈ ints xs,u.oneCell'=true:=ints_oneCell .i64 xs
theorem Qjh {W:World}{v:Value}{xs:List Int}(h:Sl W v xs):v.oneCell'=true:=by obtain⟨ao,cap,rfl,_⟩:=h;rfl
theorem QlH {L:List Qag}{tv:Nat→Value}(h:∀j,j<L.length→(tv j).oneCell'=true):∀u ∈ QaE L tv,u.oneCell'=true:=fun u hu=>by
 unfold QaE at hu;rw [List.mem_flatMap] at hu;obtain⟨j,hj,hu⟩:=hu;rw [List.mem_range] at hj;simp only [List.mem_cons,List.not_mem_nil,or_false] at hu;rcases hu with rfl | rfl | rfl
 ·rfl
 ·rfl
 ·exact h j hj
theorem Qhz {L:List Qav}{tv:Nat→Value}(h:∀j,j<L.length→(tv j).oneCell'=true):∀u ∈ QaY L tv,u.oneCell'=true:=fun u hu=>by
 unfold QaY at hu;rw [List.mem_flatMap] at hu;obtain⟨j,hj,hu⟩:=hu;rw [List.mem_range] at hj;simp only [List.mem_cons,List.not_mem_nil,or_false] at hu;rcases hu with rfl | rfl | rfl
 ·rfl
 ·rfl
 ·exact h j hj
def room:Nat:=140737488355328
theorem Qia:room=140737488355328:=rfl
theorem Qcr {n b:Nat}(hb:0<b)(h:n*b≤room):n≤maxLen:=by
 have:=Nat.le_trans (Nat.le_mul_of_pos_right n hb) h;rw [Qia] at this;unfold maxLen;omega
theorem Qnz (n c:Nat)(w:World):Calls Tryz.prog 33 #[.slice none n c] w fun r w'=>r=.returned (nl)∧w'=w:=by
 have q22:∀ (w:World) (a:Option Addr) (n c n' c':Nat),(binOp .eql 22 (.slice a n c) (.slice none n' c')).run Tryz.prog w=.ok (.bool a.isNone) w:=fun w a n c n' c'=>Lib.run_eql_slice_nil w _ _ a n c n' c' Tryz.underlying22
 go_enter Tryz.func33,Tryz.ntmps33
 go_wp2
 go_ret;exact⟨rfl,rfl⟩
theorem Qov (a:Addr)(n c:Nat)(news:List Value)(w:World)(hl:news.length=n*1)(hbig:n*8≤room)(hc:∀j u,news[j]? = some u→w.cell? (a.add j)=some u)(h1:∀u ∈ news,u.oneCell'=true) :
  Calls Tryz.prog 33 #[.slice (some a) n c] w fun r w'=>∃v',r=.returned v'∧w'.ownsRow w.heap.size 3 1 v' n news∧Below w.heap.size w w':=by
 have q22:∀ (w:World) (a:Option Addr) (n c n' c':Nat),(binOp .eql 22 (.slice a n c) (.slice none n' c')).run Tryz.prog w=.ok (.bool a.isNone) w:=fun w a n c n' c'=>Lib.run_eql_slice_nil w _ _ a n c n' c' Tryz.underlying22
 obtain⟨i0,hi,hz0,hz1,hz2⟩:=info_parts QlZ;have A:Hid ((∀j u,news[j]? = some u→w.cell? (a.add j)=some u)∧news.length=n*1∧n*8≤room∧(∀u ∈ news,u.oneCell'=true)∧Tryz.prog.info? 3=some i0∧i0.zero=some (.int .i64 0)∧i0.size=1∧i0.bytes=8):=⟨hc,hl,hbig,h1,hi,hz0,hz1,hz2⟩;clear hc hl hbig h1 hi hz0 hz1 hz2
 go_enter Tryz.func33,Tryz.ntmps33
 go_wp2_with (at_builtin;refine wpList_append_own _ rfl _ _ 22 rfl w.heap.size 3 i0 (.int .i64 0) 1 8 Tryz.underlying22 A.out.2.2.2.2.1 A.out.2.2.2.2.2.1 A.out.2.2.2.2.2.2.1 A.out.2.2.2.2.2.2.2 rfl (by decide) _ _ _ rfl (World.ownsRow_made w #[] 0 (Nat.le_refl _) (Nat.zero_le _) (by simp)) a n c news rfl A.out.2.1 ?qc2 A.out.2.2.2.1 ?qc4 ?qc5 ?qc6 ?_)
 case qc2=>
  intro j u hj;exact Lib.cell?_alloc_some _ (A.out.1 j u hj)
 case qc4=>rw [Nat.zero_add];exact Qcr (by decide) A.out.2.2.1
 case qc5=>rw [Nat.zero_add];exact A.out.2.2.1
 case qc6=>simp
 intro v' w1 hown hgrow hnil;have HO:Hid (w1.ownsRow w.heap.size 3 1 v' n news):=hown;have HG:Hid (Below w.heap.size w w1):=((Below.refl _ w).alloc (Nat.le_refl _) _).grown hgrow (by simp) (by intro k hk;simp [Value.ownBlock] at hk;omega);clear hown hgrow hnil
 go_wp2
 go_ret;exact⟨v',rfl,HO.out,HG.out⟩
theorem QcE {w:World}{v:Value}{xs:List Int}(h:Sl w v xs)(hb:xs.length*8≤room) :
  Calls Tryz.prog 33 #[v] w fun r w'=>∃v',r=.returned v'∧w'.ownsRow w.heap.size 3 1 v' xs.length (ints xs)∧Below w.heap.size w w':=by
 obtain⟨ao,cap,rfl,hm,hcp,hc⟩:=h
 cases ao with
 | none=>
  have hx:xs=[]:=Classical.byContradiction fun hne=>by obtain⟨_,_,e,_⟩:=hc hne;cases e
  subst hx;refine (Qnz _ _ w).mono ?_;rintro e w' ⟨rfl,rfl⟩;exact⟨_,rfl,World.ownsRow_nil _ _ _ _,Below.refl _ _⟩
 | some a=>
  refine Qov a xs.length cap (ints xs) w (by rw [Qbb];omega) hb (fun j u hu=>?_) Qnf;have hj:j<xs.length:=by
   rcases Nat.lt_or_ge j xs.length with h | h
   ·exact h
   ·rw [List.getElem?_eq_none (by rw [Qbb];exact h)] at hu;cases hu
  obtain⟨b,off,e,_,hcell⟩:=hc (by intro e;rw [e] at hj;simp at hj);simp only [Option.some.injEq] at e;subst e;rw [Qa2,hcell j hj];unfold ints at hu;rw [List.getElem?_map,List.getElem?_eq_getElem hj] at hu;simp at hu
  simp [List.getD,hj,hu]
abbrev nilS:Value:=nl
theorem QfU {p:Nat→Value→Prop}{n:Nat}(h:∀i,i<n→∃s,p i s):∃f:Nat→Value,∀i,i<n→p i (f i):=
 ⟨fun i=>if hi:i<n then (h i hi).choose else nl,fun i hi=>by simp only [dif_pos hi];exact (h i hi).choose_spec⟩
theorem Qm4 (n c:Nat)(w:World):Calls Tryz.prog 87 #[.slice none n c] w fun r w'=>r=.returned (nl)∧w'=w:=by
 have q22:∀ (w:World) (a:Option Addr) (n c n' c':Nat),(binOp .eql 23 (.slice a n c) (.slice none n' c')).run Tryz.prog w=.ok (.bool a.isNone) w:=fun w a n c n' c'=>Lib.run_eql_slice_nil w _ _ a n c n' c' Tryz.underlying23
 go_enter Tryz.func87,Tryz.ntmps87
 go_wp2
 go_ret;exact⟨rfl,rfl⟩
theorem Qpd (a:Addr)(n c:Nat)(news:List Value)(w:World)(hl:news.length=n*3)(hbig:n*48≤room)(hc:∀j u,news[j]? = some u→w.cell? (a.add j)=some u)(h1:∀u ∈ news,u.oneCell'=true) :
  Calls Tryz.prog 87 #[.slice (some a) n c] w fun r w'=>∃v',r=.returned v'∧w'.ownsRow w.heap.size 37 3 v' n news∧Below w.heap.size w w':=by
 have q22:∀ (w:World) (a:Option Addr) (n c n' c':Nat),(binOp .eql 23 (.slice a n c) (.slice none n' c')).run Tryz.prog w=.ok (.bool a.isNone) w:=fun w a n c n' c'=>Lib.run_eql_slice_nil w _ _ a n c n' c' Tryz.underlying23
 obtain⟨i0,hi,hz0,hz1,hz2⟩:=info_parts Qdn;have A:Hid ((∀j u,news[j]? = some u→w.cell? (a.add j)=some u)∧news.length=n*3∧n*48≤room∧(∀u ∈ news,u.oneCell'=true)∧Tryz.prog.info? 37=some i0∧i0.zero=some (.agg #[.int .i64 0,.string ByteArray.empty,nl])∧i0.size=3∧i0.bytes=48):=⟨hc,hl,hbig,h1,hi,hz0,hz1,hz2⟩;clear hc hl hbig h1 hi hz0 hz1 hz2
 go_enter Tryz.func87,Tryz.ntmps87
 go_wp2_with (at_builtin;refine wpList_append_own _ rfl _ _ 23 rfl w.heap.size 37 i0 (.agg #[.int .i64 0,.string ByteArray.empty,nl]) 3 48 Tryz.underlying23 A.out.2.2.2.2.1 A.out.2.2.2.2.2.1 A.out.2.2.2.2.2.2.1 A.out.2.2.2.2.2.2.2 rfl (by decide) _ _ _ rfl (World.ownsRow_made w #[] 0 (Nat.le_refl _) (Nat.zero_le _) (by simp)) a n c news rfl A.out.2.1 ?qc2 A.out.2.2.2.1 ?qc4 ?qc5 ?qc6 ?_)
 case qc2=>
  intro j u hj;exact Lib.cell?_alloc_some _ (A.out.1 j u hj)
 case qc4=>rw [Nat.zero_add];exact Qcr (by decide) A.out.2.2.1
 case qc5=>rw [Nat.zero_add];exact A.out.2.2.1
 case qc6=>simp
 intro v' w1 hown hgrow hnil;have HO:Hid (w1.ownsRow w.heap.size 37 3 v' n news):=hown;have HG:Hid (Below w.heap.size w w1):=((Below.refl _ w).alloc (Nat.le_refl _) _).grown hgrow (by simp) (by intro k hk;simp [Value.ownBlock] at hk;omega);clear hown hgrow hnil
 go_wp2
 go_ret;exact⟨v',rfl,HO.out,HG.out⟩
theorem Qig {w:World}{v:Value}{L:List Qag}(h:QaQ w v L)(hb:L.length*48≤room) :
  ∃tv:Nat→Value,(∀j,j<L.length→Sl w (tv j) (L.getD j default).2.2)∧∀W,Below w.heap.size w W→Calls Tryz.prog 87 #[v] W fun r w'=>∃v',r=.returned v'∧w'.ownsRow W.heap.size 37 3 v' L.length (QaE L tv)∧Below W.heap.size W w':=by
 obtain⟨ao,cap,rfl,hm,hcp,hc⟩:=h
 cases ao with
 | none=>
  have hx:L=[]:=Classical.byContradiction fun hne=>by obtain⟨_,_,e,_⟩:=hc hne;cases e
  subst hx;refine⟨fun _=>nilS,fun j hj=>absurd hj (Nat.not_lt_zero _),fun W _=>(Qm4 _ _ W).mono ?_⟩;rintro e w' ⟨rfl,rfl⟩;exact⟨_,rfl,World.ownsRow_nil _ _ _ _,Below.refl _ _⟩
 | some a=>
  have hx:∀j,j<L.length→∃tv,Sl w tv (L.getD j default).2.2∧∀W,Below w.heap.size w W→W.cell? (a.add (j*3))=some (.int .i64 (L.getD j default).1)∧W.cell? (a.add (j*3+1))=some (.string (L.getD j default).2.1)∧W.cell? (a.add (j*3+2))=some tv:=fun j hj=>by
   obtain⟨b,off,e,hlt,hcell⟩:=hc (by intro e;rw [e] at hj;simp at hj);simp only [Option.some.injEq] at e;subst e;obtain⟨tv,c1,c2,c3,hs⟩:=hcell j hj;have eg:L[j]=L.getD j default:=by simp [List.getD,hj]
   rw [eg] at c1 c2 hs;exact⟨tv,hs,fun W hW=>⟨by rw [Qa2];exact (hW.cell (p:=⟨b,off+j*3,none⟩) hlt).trans c1,by rw [Qa2];exact (hW.cell (p:=⟨b,off+j*3+1,none⟩) hlt).trans c2,by rw [Qa2];exact (hW.cell (p:=⟨b,off+j*3+1+1,none⟩) hlt).trans c3⟩⟩
  obtain⟨tv,htv⟩:=QfU hx;refine⟨tv,fun j hj=>(htv j hj).1,fun W hW=>Qpd a L.length cap (QaE L tv) W (QaV L tv) hb (fun i u hu=>?_) (QlH (fun j hj=>Qjh (htv j hj).1))⟩;have hi:i<L.length*3:=by
   rcases Nat.lt_or_ge i (L.length*3) with h | h
   ·exact h
   ·rw [List.getElem?_eq_none (by rw [QaV];exact h)] at hu;cases hu
  obtain⟨j,r,hj,hr,rfl⟩:∃j r,j<L.length∧r<3∧i=j*3+r:=⟨i / 3,i % 3,by omega,Nat.mod_lt _ (by decide),by omega⟩;obtain⟨g0,g1,g2⟩:=QaO (tv:=tv) hj;obtain⟨c0,c1,c2⟩:=(htv j hj).2 W hW
  match r,hr with
  | 0,_=>rw [Nat.add_zero] at hu ⊢;rw [g0] at hu;cases hu;exact c0
  | 1,_=>rw [g1] at hu;cases hu;exact c1
  | 2,_=>rw [g2] at hu;cases hu;exact c2
theorem QnA (n c:Nat)(w:World):Calls Tryz.prog 88 #[.slice none n c] w fun r w'=>r=.returned (nl)∧w'=w:=by
 have q22:∀ (w:World) (a:Option Addr) (n c n' c':Nat),(binOp .eql 24 (.slice a n c) (.slice none n' c')).run Tryz.prog w=.ok (.bool a.isNone) w:=fun w a n c n' c'=>Lib.run_eql_slice_nil w _ _ a n c n' c' Tryz.underlying24
 go_enter Tryz.func88,Tryz.ntmps88
 go_wp2
 go_ret;exact⟨rfl,rfl⟩
theorem Qog (a:Addr)(n c:Nat)(news:List Value)(w:World)(hl:news.length=n*3)(hbig:n*48≤room)(hc:∀j u,news[j]? = some u→w.cell? (a.add j)=some u)(h1:∀u ∈ news,u.oneCell'=true) :
  Calls Tryz.prog 88 #[.slice (some a) n c] w fun r w'=>∃v',r=.returned v'∧w'.ownsRow w.heap.size 39 3 v' n news∧Below w.heap.size w w':=by
 have q22:∀ (w:World) (a:Option Addr) (n c n' c':Nat),(binOp .eql 24 (.slice a n c) (.slice none n' c')).run Tryz.prog w=.ok (.bool a.isNone) w:=fun w a n c n' c'=>Lib.run_eql_slice_nil w _ _ a n c n' c' Tryz.underlying24
 obtain⟨i0,hi,hz0,hz1,hz2⟩:=info_parts Qdh;have A:Hid ((∀j u,news[j]? = some u→w.cell? (a.add j)=some u)∧news.length=n*3∧n*48≤room∧(∀u ∈ news,u.oneCell'=true)∧Tryz.prog.info? 39=some i0∧i0.zero=some (.agg #[.string ByteArray.empty,.int .i64 0,nl])∧i0.size=3∧i0.bytes=48):=⟨hc,hl,hbig,h1,hi,hz0,hz1,hz2⟩;clear hc hl hbig h1 hi hz0 hz1 hz2
 go_enter Tryz.func88,Tryz.ntmps88
 go_wp2_with (at_builtin;refine wpList_append_own _ rfl _ _ 24 rfl w.heap.size 39 i0 (.agg #[.string ByteArray.empty,.int .i64 0,nl]) 3 48 Tryz.underlying24 A.out.2.2.2.2.1 A.out.2.2.2.2.2.1 A.out.2.2.2.2.2.2.1 A.out.2.2.2.2.2.2.2 rfl (by decide) _ _ _ rfl (World.ownsRow_made w #[] 0 (Nat.le_refl _) (Nat.zero_le _) (by simp)) a n c news rfl A.out.2.1 ?qc2 A.out.2.2.2.1 ?qc4 ?qc5 ?qc6 ?_)
 case qc2=>
  intro j u hj;exact Lib.cell?_alloc_some _ (A.out.1 j u hj)
 case qc4=>rw [Nat.zero_add];exact Qcr (by decide) A.out.2.2.1
 case qc5=>rw [Nat.zero_add];exact A.out.2.2.1
 case qc6=>simp
 intro v' w1 hown hgrow hnil;have HO:Hid (w1.ownsRow w.heap.size 39 3 v' n news):=hown;have HG:Hid (Below w.heap.size w w1):=((Below.refl _ w).alloc (Nat.le_refl _) _).grown hgrow (by simp) (by intro k hk;simp [Value.ownBlock] at hk;omega);clear hown hgrow hnil
 go_wp2
 go_ret;exact⟨v',rfl,HO.out,HG.out⟩
theorem Qiv {w:World}{v:Value}{L:List Qav}(h:QbL w v L)(hb:L.length*48≤room) :
  ∃tv:Nat→Value,(∀j,j<L.length→Sl w (tv j) (L.getD j default).2.2)∧∀W,Below w.heap.size w W→Calls Tryz.prog 88 #[v] W fun r w'=>∃v',r=.returned v'∧w'.ownsRow W.heap.size 39 3 v' L.length (QaY L tv)∧Below W.heap.size W w':=by
 obtain⟨ao,cap,rfl,hm,hcp,hc⟩:=h
 cases ao with
 | none=>
  have hx:L=[]:=Classical.byContradiction fun hne=>by obtain⟨_,_,e,_⟩:=hc hne;cases e
  subst hx;refine⟨fun _=>nilS,fun j hj=>absurd hj (Nat.not_lt_zero _),fun W _=>(QnA _ _ W).mono ?_⟩;rintro e w' ⟨rfl,rfl⟩;exact⟨_,rfl,World.ownsRow_nil _ _ _ _,Below.refl _ _⟩
 | some a=>
  have hx:∀j,j<L.length→∃tv,Sl w tv (L.getD j default).2.2∧∀W,Below w.heap.size w W→W.cell? (a.add (j*3))=some (.string (L.getD j default).1)∧W.cell? (a.add (j*3+1))=some (.int .i64 (L.getD j default).2.1)∧W.cell? (a.add (j*3+2))=some tv:=fun j hj=>by
   obtain⟨b,off,e,hlt,hcell⟩:=hc (by intro e;rw [e] at hj;simp at hj);simp only [Option.some.injEq] at e;subst e;obtain⟨tv,c1,c2,c3,hs⟩:=hcell j hj;have eg:L[j]=L.getD j default:=by simp [List.getD,hj]
   rw [eg] at c1 c2 hs;exact⟨tv,hs,fun W hW=>⟨by rw [Qa2];exact (hW.cell (p:=⟨b,off+j*3,none⟩) hlt).trans c1,by rw [Qa2];exact (hW.cell (p:=⟨b,off+j*3+1,none⟩) hlt).trans c2,by rw [Qa2];exact (hW.cell (p:=⟨b,off+j*3+1+1,none⟩) hlt).trans c3⟩⟩
  obtain⟨tv,htv⟩:=QfU hx;refine⟨tv,fun j hj=>(htv j hj).1,fun W hW=>Qog a L.length cap (QaY L tv) W (Qbi L tv) hb (fun i u hu=>?_) (Qhz (fun j hj=>Qjh (htv j hj).1))⟩;have hi:i<L.length*3:=by
   rcases Nat.lt_or_ge i (L.length*3) with h | h
   ·exact h
   ·rw [List.getElem?_eq_none (by rw [Qbi];exact h)] at hu;cases hu
  obtain⟨j,r,hj,hr,rfl⟩:∃j r,j<L.length∧r<3∧i=j*3+r:=⟨i / 3,i % 3,by omega,Nat.mod_lt _ (by decide),by omega⟩;obtain⟨g0,g1,g2⟩:=Qa8 (qv:=tv) hj;obtain⟨c0,c1,c2⟩:=(htv j hj).2 W hW
  match r,hr with
  | 0,_=>rw [Nat.add_zero] at hu ⊢;rw [g0] at hu;cases hu;exact c0
  | 1,_=>rw [g1] at hu;cases hu;exact c1
  | 2,_=>rw [g2] at hu;cases hu;exact c2
theorem QaH {W:World}{B:Nat}{e:TypeId}{size n:Nat}{v:Value}{xs:List Value}(h:W.ownsRow B e size v n xs):∃ao cap,v=.slice ao n cap:=by
 rcases QaL h with ⟨rfl,rfl⟩ | ⟨g,cap,rfl,_⟩
 ·exact⟨none,0,rfl⟩
 ·exact⟨_,cap,rfl⟩

def Qdz (k l:Nat) (a:Nm):Prop:=(a.kind<4∧a.ix=0)∨(a.kind=4∧a.ix<k)∨(a.kind=5∧a.ix<l)
def rowH (m:ImgD) (val:Nm→Value) (tv qv:Nat→Value) (k l:Nat) (a:Nm):List Value:=match a.kind with
 | 0=>ints m.root
 | 1=>QaE m.slots (fun j=>if j<k then val (.tab j) else tv j)
 | 2=>ints m.refs
 | 3=>QaY m.snaps (fun j=>if j<l then val (.sr j) else qv j)
 | 4=>ints (m.slots.getD a.ix default).2.2
 | _=>ints (m.snaps.getD a.ix default).2.2
structure HC (W:World) (B:Nat) (val:Nm→Value) (m:ImgD) (tv qv:Nat→Value) (k l:Nat):Prop where
 row:∀a,Qdz k l a→W.ownsRow B (rowT a) (rowS a) (val a) (rowN m a) (rowH m val tv qv k l a)
 apart:∀a b,Qdz k l a→Qdz k l b→a≠b→∀g,(val a).ownBlock=some g→(val b).ownBlock≠some g
theorem Qdz.cases {k l:Nat}{a:Nm}(h:Qdz k l a):a=.root∨a=.slots∨a=.refs∨a=.snaps∨(∃j,a=.tab j∧j<k)∨∃j,a=.sr j∧j<l:=by
 obtain⟨x,j⟩:=a;rcases h with ⟨h1,h2⟩ | ⟨h1,h2⟩ | ⟨h1,h2⟩
 ·dsimp only at h1 h2;subst h2
  match x,h1 with
  | 0,_=>exact .inl rfl
  | 1,_=>exact .inr (.inl rfl)
  | 2,_=>exact .inr (.inr (.inl rfl))
  | 3,_=>exact .inr (.inr (.inr (.inl rfl)))
 ·dsimp only at h1 h2;subst h1;exact .inr (.inr (.inr (.inr (.inl ⟨j,rfl,h2⟩))))
 ·dsimp only at h1 h2;subst h1;exact .inr (.inr (.inr (.inr (.inr ⟨j,rfl,h2⟩))))
theorem Qdz.old {k l:Nat}{a:Nm}(h:Qdz (k+1) l a)(hne:a≠.tab k):Qdz k l a:=by
 rcases h.cases with rfl | rfl | rfl | rfl | ⟨j,rfl,hj⟩ | ⟨j,rfl,hj⟩
 ·exact .inl ⟨by decide,rfl⟩
 ·exact .inl ⟨by decide,rfl⟩
 ·exact .inl ⟨by decide,rfl⟩
 ·exact .inl ⟨by decide,rfl⟩
 ·refine .inr (.inl ⟨rfl,?_⟩);rcases Nat.lt_or_ge j k with h | h
  ·exact h
  ·exact absurd (by rw [show j=k by omega]) hne
 ·exact .inr (.inr ⟨rfl,hj⟩)
theorem Qdz.old' {k l:Nat}{a:Nm}(h:Qdz k (l+1) a)(hne:a≠.sr l):Qdz k l a:=by
 rcases h.cases with rfl | rfl | rfl | rfl | ⟨j,rfl,hj⟩ | ⟨j,rfl,hj⟩
 ·exact .inl ⟨by decide,rfl⟩
 ·exact .inl ⟨by decide,rfl⟩
 ·exact .inl ⟨by decide,rfl⟩
 ·exact .inl ⟨by decide,rfl⟩
 ·exact .inr (.inl ⟨rfl,hj⟩)
 ·refine .inr (.inr ⟨rfl,?_⟩);rcases Nat.lt_or_ge j l with h | h
  ·exact h
  ·exact absurd (by rw [show j=l by omega]) hne
theorem HC.below {W W':World}{B:Nat}{val:Nm→Value}{m:ImgD}{tv qv:Nat→Value}{k l:Nat}(h:HC W B val m tv qv k l)(hb:Below W.heap.size W W'):HC W' B val m tv qv k l:=by
 refine⟨fun a ha=>?_,h.apart⟩;have hr:=h.row a ha;refine⟨hr.1,?_⟩;rcases hr.2 with hn | ⟨g,cap,cur,hv,hb',hg,rest⟩
 ·exact .inl hn
 ·exact .inr ⟨g,cap,cur,hv,hb',(hb.block g (szH hg)).trans hg,rest⟩
theorem HC.done {W:World}{B:Nat}{val:Nm→Value}{m:ImgD}{tv qv:Nat→Value}(h:HC W B val m tv qv m.slots.length m.snaps.length):OI W B val m:=by
 refine⟨fun a ha=>?_,fun a b ha hb=>h.apart a b ha hb⟩;have e:rowH m val tv qv m.slots.length m.snaps.length a=rowV m val a:=by
  rcases ha.cases with rfl | rfl | rfl | rfl | ⟨j,rfl,hj⟩ | ⟨j,rfl,hj⟩ <;> first | rfl | skip
  ·show QaE _ _=QaE _ _
   unfold QaE;refine congrArg List.flatten (List.map_congr_left fun j hj=>?_);dsimp only;rw [if_pos (List.mem_range.1 hj)]
  ·show QaY _ _=QaY _ _
   unfold QaY;refine congrArg List.flatten (List.map_congr_left fun j hj=>?_);dsimp only;rw [if_pos (List.mem_range.1 hj)]
 rw [←e];exact h.row a ha
theorem Qll {L:List Qav}{tv tv':Nat→Value}(h:∀j,j<L.length→tv' j=tv j):QaY L tv'=QaY L tv:=by
 unfold QaY;refine congrArg List.flatten (List.map_congr_left fun j hj=>?_);rw [h j (List.mem_range.1 hj)]
theorem Qla {L:List Qag}{tv tv':Nat→Value}{t:Nat}(htv:∀j,j≠t→tv' j=tv j):QaE L tv'=(QaE L tv).set (t*3+2) (tv' t):=by
 apply List.ext_getElem?
 intro i;have hlen:=QaV L tv;rcases Nat.lt_or_ge i (L.length*3) with hi | hi
 ·obtain⟨j,r,hj,hr,rfl⟩:∃j r,j<L.length∧r<3∧i=j*3+r:=⟨i / 3,i % 3,by omega,Nat.mod_lt _ (by decide),by omega⟩;obtain⟨a0,a1,a2⟩:=QaO (L:=L) (tv:=tv') hj;obtain⟨b0,b1,b2⟩:=QaO (L:=L) (tv:=tv) hj
  by_cases e:t=j
  ·subst e
   match r,hr with
   | 0,_=>rw [Nat.add_zero,a0,List.getElem?_set_ne (by omega),b0]
   | 1,_=>rw [a1,List.getElem?_set_ne (by omega),b1]
   | 2,_=>rw [a2,List.getElem?_set_self (by rw [hlen];omega)]
  ·rw [htv j (fun x=>e x.symm)] at a2;rw [List.getElem?_set_ne (by omega)]
   match r,hr with
   | 0,_=>rw [Nat.add_zero,a0,b0]
   | 1,_=>rw [a1,b1]
   | 2,_=>rw [a2,b2]
 ·rw [List.getElem?_eq_none (by rw [QaV];exact hi),List.getElem?_eq_none (by rw [List.length_set,QaV];exact hi)]
theorem Qmp {L:List Qav}{tv tv':Nat→Value}{t:Nat}(htv:∀j,j≠t→tv' j=tv j):QaY L tv'=(QaY L tv).set (t*3+2) (tv' t):=by
 apply List.ext_getElem?
 intro i;have hlen:=Qbi L tv;rcases Nat.lt_or_ge i (L.length*3) with hi | hi
 ·obtain⟨j,r,hj,hr,rfl⟩:∃j r,j<L.length∧r<3∧i=j*3+r:=⟨i / 3,i % 3,by omega,Nat.mod_lt _ (by decide),by omega⟩;obtain⟨a0,a1,a2⟩:=Qa8 (S:=L) (qv:=tv') hj;obtain⟨b0,b1,b2⟩:=Qa8 (S:=L) (qv:=tv) hj
  by_cases e:t=j
  ·subst e
   match r,hr with
   | 0,_=>rw [Nat.add_zero,a0,List.getElem?_set_ne (by omega),b0]
   | 1,_=>rw [a1,List.getElem?_set_ne (by omega),b1]
   | 2,_=>rw [a2,List.getElem?_set_self (by rw [hlen];omega)]
  ·rw [htv j (fun x=>e x.symm)] at a2;rw [List.getElem?_set_ne (by omega)]
   match r,hr with
   | 0,_=>rw [Nat.add_zero,a0,b0]
   | 1,_=>rw [a1,b1]
   | 2,_=>rw [a2,b2]
 ·rw [List.getElem?_eq_none (by rw [Qbi];exact hi),List.getElem?_eq_none (by rw [List.length_set,Qbi];exact hi)]
theorem HC.tab {W:World}{B:Nat}{val:Nm→Value}{m:ImgD}{tv qv:Nat→Value}{k l:Nat}(h:HC W B val m tv qv k l){g n cap:Nat}(hv:val .slots=.slice (some ⟨g,0,none⟩) n cap){v:Value}(hr:W.ownsRow B 3 1 v (m.slots.getD k default).2.2.length (ints (m.slots.getD k default).2.2))(hf:∀a,Qdz k l a→∀q,v.ownBlock=some q→(val a).ownBlock≠some q) :
  HC (W.setCell ⟨g,k*3+2,none⟩ v) B (upd val (.tab k) v) m tv qv (k+1) l:=by
 have hsl:Qdz k l .slots:=.inl ⟨by decide,rfl⟩;have hvg:v.ownBlock≠some g:=fun e=>hf .slots hsl g e (by rw [hv];rfl)
 have hnn:n=m.slots.length:=by
  rcases QaL (h.row .slots hsl) with ⟨e,_⟩ | ⟨g',cap',e,_⟩
  ·rw [hv] at e;simp at e
  ·rw [hv] at e;simp at e;exact e.2.1
 refine⟨fun a ha=>?_,fun a b ha hb hne q hq=>?_⟩
 ·by_cases e:a=.tab k
  ·subst e;rw [Qar];exact ownsRow_setCell_other hr hvg v
  ·have ha':=ha.old e;rw [Qae _ _ e]
   by_cases es:a=.slots
   ·subst es;have hrs:=h.row .slots hsl;have e1:rowH m (upd val (.tab k) v) tv qv (k+1) l .slots=(rowH m val tv qv k l .slots).set (k*3+2) v:=by
     have:=Qla (L:=m.slots) (tv:=fun j=>if j<k then val (.tab j) else tv j) (tv':=fun j=>if j<k+1 then upd val (.tab k) v (.tab j) else tv j) (t:=k) (fun j hj=>by
      by_cases h1:j<k
      ·rw [if_pos (by omega),if_pos h1,Qae _ _ (by intro x;injection x with _ x;omega)]
      ·rw [if_neg (by omega),if_neg h1])
     rw [if_pos (by omega),Qar] at this;exact this
    rw [e1];have hN:rowN m .slots=n:=hnn.symm;rw [hN,hv] at hrs ⊢;exact (hrs.stored (k*3+2) v).1
   ·have e1:rowH m (upd val (.tab k) v) tv qv (k+1) l a=rowH m val tv qv k l a:=by
     rcases ha'.cases with rfl | rfl | rfl | rfl | ⟨j,rfl,hj⟩ | ⟨j,rfl,hj⟩ <;> first | rfl | exact absurd rfl es
    rw [e1];exact ownsRow_setCell_other (h.row a ha') (h.apart .slots a hsl ha' (fun x=>es x.symm) g (by rw [hv];rfl)) v
 ·by_cases e:a=.tab k
  ·subst e;rw [Qar] at hq;rw [Qae _ _ (fun x=>hne x.symm)];exact hf b (hb.old (fun x=>hne x.symm)) q hq
  ·rw [Qae _ _ e] at hq
   by_cases e2:b=.tab k
   ·subst e2;rw [Qar];exact fun x=>hf a (ha.old e) q x hq
   ·rw [Qae _ _ e2];exact h.apart a b (ha.old e) (hb.old e2) hne q hq
theorem HC.sr {W:World}{B:Nat}{val:Nm→Value}{m:ImgD}{tv qv:Nat→Value}{k l:Nat}(h:HC W B val m tv qv k l){g n cap:Nat}(hv:val .snaps=.slice (some ⟨g,0,none⟩) n cap){v:Value}(hr:W.ownsRow B 3 1 v (m.snaps.getD l default).2.2.length (ints (m.snaps.getD l default).2.2))(hf:∀a,Qdz k l a→∀q,v.ownBlock=some q→(val a).ownBlock≠some q) :
  HC (W.setCell ⟨g,l*3+2,none⟩ v) B (upd val (.sr l) v) m tv qv k (l+1):=by
 have hsl:Qdz k l .snaps:=.inl ⟨by decide,rfl⟩;have hvg:v.ownBlock≠some g:=fun e=>hf .snaps hsl g e (by rw [hv];rfl)
 have hnn:n=m.snaps.length:=by
  rcases QaL (h.row .snaps hsl) with ⟨e,_⟩ | ⟨g',cap',e,_⟩
  ·rw [hv] at e;simp at e
  ·rw [hv] at e;simp at e;exact e.2.1
 refine⟨fun a ha=>?_,fun a b ha hb hne q hq=>?_⟩
 ·by_cases e:a=.sr l
  ·subst e;rw [Qar];exact ownsRow_setCell_other hr hvg v
  ·have ha':=ha.old' e;rw [Qae _ _ e]
   by_cases es:a=.snaps
   ·subst es;have hrs:=h.row .snaps hsl;have e1:rowH m (upd val (.sr l) v) tv qv k (l+1) .snaps=(rowH m val tv qv k l .snaps).set (l*3+2) v:=by
     have:=Qmp (L:=m.snaps) (tv:=fun j=>if j<l then val (.sr j) else qv j) (tv':=fun j=>if j<l+1 then upd val (.sr l) v (.sr j) else qv j) (t:=l) (fun j hj=>by
      by_cases h1:j<l
      ·rw [if_pos (by omega),if_pos h1,Qae _ _ (by intro x;injection x with _ x;omega)]
      ·rw [if_neg (by omega),if_neg h1])
     rw [if_pos (by omega),Qar] at this;exact this
    rw [e1];have hN:rowN m .snaps=n:=hnn.symm;rw [hN,hv] at hrs ⊢;exact (hrs.stored (l*3+2) v).1
   ·have e1:rowH m (upd val (.sr l) v) tv qv k (l+1) a=rowH m val tv qv k l a:=by
     rcases ha'.cases with rfl | rfl | rfl | rfl | ⟨j,rfl,hj⟩ | ⟨j,rfl,hj⟩ <;> first | rfl | exact absurd rfl es
    rw [e1];exact ownsRow_setCell_other (h.row a ha') (h.apart .snaps a hsl ha' (fun x=>es x.symm) g (by rw [hv];rfl)) v
 ·by_cases e:a=.sr l
  ·subst e;rw [Qar] at hq;rw [Qae _ _ (fun x=>hne x.symm)];exact hf b (hb.old' (fun x=>hne x.symm)) q hq
  ·rw [Qae _ _ e] at hq
   by_cases e2:b=.sr l
   ·subst e2;rw [Qar];exact fun x=>hf a (ha.old' e) q x hq
   ·rw [Qae _ _ e2];exact h.apart a b (ha.old' e) (hb.old' e2) hne q hq
structure Fits (m:ImgD):Prop where
 root:m.root.length*8≤room
 slots:m.slots.length*48≤room
 refs:m.refs.length*8≤room
 snaps:m.snaps.length*48≤room
 tab:∀j,j<m.slots.length→(m.slots.getD j default).2.2.length*8≤room
 sr:∀j,j<m.snaps.length→(m.snaps.getD j default).2.2.length*8≤room
def val4 (vr vs vf vn:Value):Nm→Value:=fun a=>if a.kind=0 then vr else if a.kind=1 then vs else if a.kind=2 then vf else vn
theorem HC.start {W:World}{B:Nat}{m:ImgD}{tv qv:Nat→Value}{vr vs vf vn:Value}(h0:W.ownsRow B 3 1 vr m.root.length (ints m.root))(h1:W.ownsRow B 37 3 vs m.slots.length (QaE m.slots tv))(h2:W.ownsRow B 3 1 vf m.refs.length (ints m.refs))(h3:W.ownsRow B 39 3 vn m.snaps.length (QaY m.snaps qv))
  (a01:∀q,vs.ownBlock=some q→vr.ownBlock≠some q) (a02:∀q,vf.ownBlock=some q→vr.ownBlock≠some q) (a03:∀q,vn.ownBlock=some q→vr.ownBlock≠some q) (a12:∀q,vs.ownBlock=some q→vf.ownBlock≠some q) (a13:∀q,vn.ownBlock=some q→vs.ownBlock≠some q) (a23:∀q,vn.ownBlock=some q→vf.ownBlock≠some q):HC W B (val4 vr vs vf vn) m tv qv 0 0:=by
 refine⟨fun a ha=>?_,fun a b ha hb hne q hq=>?_⟩
 ·rcases ha.cases with rfl | rfl | rfl | rfl | ⟨j,rfl,hj⟩ | ⟨j,rfl,hj⟩
  ·exact h0
  ·exact h1
  ·exact h2
  ·exact h3
  ·exact absurd hj (Nat.not_lt_zero _)
  ·exact absurd hj (Nat.not_lt_zero _)
 ·rcases ha.cases with rfl | rfl | rfl | rfl | ⟨j,rfl,hj⟩ | ⟨j,rfl,hj⟩
  ·rcases hb.cases with rfl | rfl | rfl | rfl | ⟨j,rfl,hj⟩ | ⟨j,rfl,hj⟩
   ·exact absurd rfl hne
   ·exact fun x=>a01 q x hq
   ·exact fun x=>a02 q x hq
   ·exact fun x=>a03 q x hq
   ·exact absurd hj (Nat.not_lt_zero _)
   ·exact absurd hj (Nat.not_lt_zero _)
  ·rcases hb.cases with rfl | rfl | rfl | rfl | ⟨j,rfl,hj⟩ | ⟨j,rfl,hj⟩
   ·exact a01 q hq
   ·exact absurd rfl hne
   ·exact a12 q hq
   ·exact fun x=>a13 q x hq
   ·exact absurd hj (Nat.not_lt_zero _)
   ·exact absurd hj (Nat.not_lt_zero _)
  ·rcases hb.cases with rfl | rfl | rfl | rfl | ⟨j,rfl,hj⟩ | ⟨j,rfl,hj⟩
   ·exact a02 q hq
   ·exact fun x=>a12 q x hq
   ·exact absurd rfl hne
   ·exact fun x=>a23 q x hq
   ·exact absurd hj (Nat.not_lt_zero _)
   ·exact absurd hj (Nat.not_lt_zero _)
  ·rcases hb.cases with rfl | rfl | rfl | rfl | ⟨j,rfl,hj⟩ | ⟨j,rfl,hj⟩
   ·exact a03 q hq
   ·exact a13 q hq
   ·exact a23 q hq
   ·exact absurd rfl hne
   ·exact absurd hj (Nat.not_lt_zero _)
   ·exact absurd hj (Nat.not_lt_zero _)
  ·exact absurd hj (Nat.not_lt_zero _)
  ·exact absurd hj (Nat.not_lt_zero _)
end Go.Proofs.YtehleeibgkpjmagGreat
