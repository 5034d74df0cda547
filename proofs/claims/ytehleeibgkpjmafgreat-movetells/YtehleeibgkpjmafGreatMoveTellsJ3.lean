/- Texts joined: TCheck, CntF, RefP, RefC, BareIn, SlotErr, RefD, RefE. -/
import Derived.Test.YtehleeibgkpjmafGreatMoveTellsJ2
import Derived.Deep.QuietTactic
import Derived.BigQuiet
import Derived.Test.YtehleeibgkpjmafGreatMoveTellsJ1
import Derived.Deep.RegionHeld3
set_option linter.unusedVariables false
set_option linter.unusedSimpArgs false
namespace Go.Proofs.YtehleeibgkpjmafGreat
open Go.RowKit Go.Shelf
set_option maxRecDepth 20000
def cntL (m:ImgD):List Int:=((rootsOf m).flatMap (fun s=>s.2.2)).foldl (stepC m.slots) (List.replicate m.slots.length 0)
theorem cntL_length (m:ImgD):(cntL m).length=m.slots.length:=by unfold cntL;rw [fold_length];simp
theorem LAt.sl {W:World}{g n:Nat}{l:List Int}(h:LAt W g l)(hn:l.length=n)(hm:n≤maxLen):Sl W (.slice (some ⟨g,0,none⟩) n n) l:=by
 subst hn
 exact⟨_,_,rfl,hm,Nat.le_refl _,fun _=>⟨g,0,rfl,h.lt,fun j hj=>by rw [Nat.zero_add];exact h.cell hj⟩⟩
theorem shapeE_zero {m:ImgD}(h:shapeE m=0):m.snaps.length≤3∧slotsE m.slots=0∧m.refs.length=m.slots.length∧namesOK m.snaps=true∧(rootsOf m).all (fun s=>guestOK s.2.1)=true∧tabFit m.slots=true∧(rootsOf m).all (fun s=>rootFit m.slots s.2.1 s.2.2)=true:=by
 unfold shapeE at h
 split at h
 ·simp at h
 rename_i h1
 split at h
 ·rename_i h2;exact absurd h h2
 rename_i h2
 split at h
 ·simp at h
 rename_i h3
 split at h
 ·simp at h
 rename_i h4
 split at h
 ·simp at h
 rename_i h5
 split at h
 ·simp at h
 rename_i h6
 refine⟨by omega,by simpa using h2,?_,?_,by simpa using h4,by simpa using h5,by simpa using h6⟩
 ·exact Classical.byContradiction fun e=>h3 (.inl e)
 ·cases e:namesOK m.snaps with
  | true=>rfl
  | false=>exact absurd (.inr e) h3
theorem counts_own {w:World}{v:Value}{m:ImgD}(h:Img w v m)(hE:shapeE m=0) :
  Calls Tryz.prog 69 #[v] w fun e w'=>(∃g,w.heap.size≤g∧e=.returned (.tuple #[.slice (some ⟨g,0,none⟩) m.slots.length m.slots.length,.int .i64 0])∧LAt w' g (cntL m))∧Below w.heap.size w w':=by
 obtain⟨z1,z2,z3,z4,z5,z6,z7⟩:=shapeE_zero hE
 obtain⟨ra,rc,sa,sc,fa,fc,na,nc,rfl,h1,h2,h3,h4⟩:=h.parts
 have hp:=slotsE_parts z2
 have h2':=h2
 obtain⟨sb,so,sc',e,hcp,hlt,hcell⟩:=h2.open hp.1
 simp at e
 obtain⟨rfl,rfl⟩:=e
 refine (counts_at m.guest ra _ rc sb so _ sc fa _ fc na _ nc m.root m.slots m.snaps m.refs w h1 h2' h3 h4 rfl hp.2 hlt hcell hE z2 z1 z6 z5 z7).mono fun e w' hr=>⟨?_,hr.2⟩
 obtain⟨g,hg,e1,e2⟩:=hr.1
 exact⟨g,hg,e1,e2⟩
theorem counts_ok {w:World}{v:Value}{m:ImgD}(h:Img w v m)(hE:shapeE m=0) :
  Calls Tryz.prog 69 #[v] w fun e w'=>(∃lv,e=.returned (.tuple #[lv,.int .i64 0])∧Sl w' lv (cntL m))∧Below w.heap.size w w':=by
 have hp:=slotsE_parts (shapeE_zero hE).2.1
 refine (counts_own h hE).mono fun e w' hr=>⟨?_,hr.2⟩
 obtain⟨g,_,e1,e2⟩:=hr.1
 exact⟨_,e1,LAt.sl e2 (cntL_length m) (by unfold maxLen;omega)⟩
theorem counts_err {w:World}{v:Value}{m:ImgD}(h:Img w v m){E:Int}(hE:shapeE m=E)(hne:(E != 0)=true) :
  Calls Tryz.prog 69 #[v] w fun r w'=>r=.returned (.tuple #[.slice none 0 0,.int .i64 E])∧Below w.heap.size w w':=by
 have h':=h
 obtain⟨ra,rc,sa,sc,fa,fc,na,nc,rfl,_⟩:=h.parts
 exact counts_bad m.guest ra _ rc sa _ sc fa _ fc na _ nc m E w h' hE hne
set_option maxHeartbeats 1000000 in
theorem equal_at (ao bo:Option Addr)(n cap cap':Nat)(xs ys:List Int)(w:World)(hn:xs.length=n)(hn':ys.length=n)(hm:n≤9223372036854775807)
  (hc:∀j,j<n→∃b off,ao=some ⟨b,off,none⟩∧w.cell? ⟨b,off+j,none⟩=some (.int .i64 (xs.getD j 0))) (hd:∀j,j<n→∃b off,bo=some ⟨b,off,none⟩∧w.cell? ⟨b,off+j,none⟩=some (.int .i64 (ys.getD j 0))) :
  Calls Tryz.prog 70 #[.slice ao n cap,.slice bo n cap'] w fun r w'=>r=.returned (.bool (xs == ys))∧Below w.heap.size w w':=by
 have H:Hid (xs.length=n∧ys.length=n):=⟨hn,hn'⟩
 have HC:Hid (∀j,j<n→∃b off,ao=some ⟨b,off,none⟩∧w.cell? ⟨b,off+j,none⟩=some (.int .i64 (xs.getD j 0))):=hc
 have HD:Hid (∀j,j<n→∃b off,bo=some ⟨b,off,none⟩∧w.cell? ⟨b,off+j,none⟩=some (.int .i64 (ys.getD j 0))):=hd
 clear hn hn' hc hd
 go_enter Tryz.func70,Tryz.ntmps70
 go_wp2
 go_loopw [5,13] (fun _ i wr=>∃k:Nat,k≤n∧i=.int .i64 k∧Hid (∀j,j<k→xs.getD j 0=ys.getD j 0)∧(Below w.heap.size w wr∧∀a,wr.cell? a=w.cell? a)) (fun _ i _=>n - (intOf i).toNat)
 case atStart=>exact⟨0,Nat.zero_le _,rfl,fun j hj=>absurd hj (by omega),Below.refl _ _,fun _=>rfl⟩
 case round=>
  obtain⟨k,hk,rfl,HA,hbel,hsame⟩:=hrel
  by_cases hlk:k<n
  ·obtain⟨b,off,rfl,c1⟩:=HC.out k hlk
   obtain⟨b',off',rfl,c2⟩:=HD.out k hlk
   have hki:(k:Int)<(n:Int):=by omega
   obtain⟨x,hx⟩:∃x,xs.getD k 0=x:=⟨_,rfl⟩
   obtain⟨y,hy⟩:∃y,ys.getD k 0=y:=⟨_,rfl⟩
   rw [hx] at c1
   rw [hy] at c2
   have c1:wr.cell? ⟨b,off+k,none⟩=some (.int .i64 x):=(hsame _).trans c1
   have c2:wr.cell? ⟨b',off'+k,none⟩=some (.int .i64 y):=(hsame _).trans c2
   have HX:Hid (xs.getD k 0=x∧ys.getD k 0=y):=⟨hx,hy⟩
   clear hx hy
   by_cases hxy:x=y
   ·have hb:(x != y)=false:=by simp [hxy]
    have HXY:Hid (x=y):=hxy
    clear hxy
    go_wp2
    go_region
    go_wp2
    go_roundw
    case rel=>exact⟨k+1,by omega,by go_num,fun j hj=>by
     by_cases e:j=k
     ·subst e;rw [HX.out.1,HX.out.2,HXY.out]
     ·exact HA.out j (by omega),⟨hbel.os,hbel.tape,hbel.output,hbel.size,hbel.block⟩,fun a=>hsame a⟩
    case measure=>simp [intOf];omega
   ·have hb:(x != y)=true:=by simp [hxy]
    have HXY:Hid (x≠y):=hxy
    clear hxy
    go_wp2
    go_region
    go_wp2
    go_ret
    refine⟨ret_boolE ?_,⟨hbel.os,hbel.tape,hbel.output,hbel.size,hbel.block⟩⟩
    symm
    rw [beq_eq_false_iff_ne]
    intro e
    exact HXY.out (by rw [←HX.out.1,← HX.out.2,e])
  ·have e4:k=n:=by omega
   subst e4
   go_wp2
   go_ret
   refine⟨ret_boolE ?_,hbel⟩
   symm
   rw [beq_iff_eq]
   apply List.ext_getElem
   ·rw [H.out.1,H.out.2]
   ·intro j h1 h2
    have:=HA.out j (by rw [H.out.1] at h1;exact h1)
    simpa [List.getD,h1,h2] using this
def kd (L:List SlotD) (k:Nat):Int:=(L.getD k default).1
def toldT (L:List SlotD) (P:List Int) (i:Int) (k:Nat):Nat:=if kd L k=2∧(k:Int) ∈ P then (tabOf L k).count i else 0
def sumT (L:List SlotD) (P:List Int) (i:Int):Nat:=((List.range L.length).map (toldT L P i)).sum
def cntI (L:List SlotD) (P:List Int) (i:Nat):Int:=if i=0 then 0 else ((P.count (i:Int)+sumT L P i:Nat):Int)
theorem sum_one {f g:Nat→Nat}{k d:Nat} : ∀n,k<n→g k=f k+d→(∀j,j≠k→g j=f j)→((List.range n).map g).sum=((List.range n).map f).sum+d
 | 0,h,_,_=>absurd h (by omega)
 | n+1,h,hk,ho=>by
  rw [List.range_succ,List.map_append,List.map_append,List.sum_append,List.sum_append]
  by_cases e:k=n
  ·subst e
   have:(List.range k).map g=(List.range k).map f:=List.map_congr_left fun j hj=>ho j (by have:=List.mem_range.1 hj;omega)
   rw [this];simp [hk];omega
  ·rw [sum_one n (by omega) hk ho]
   simp [ho n (fun x=>e x.symm)];omega
theorem sum_same {f g:Nat→Nat}(n:Nat)(h:∀j,j<n→g j=f j):((List.range n).map g).sum=((List.range n).map f).sum:=by
 rw [List.map_congr_left fun j hj=>h j (List.mem_range.1 hj)]
theorem inc_get (l:List Int)(k:Int)(j:Nat)(hj:j<l.length):(inc l k).getD j 0=l.getD j 0+if k.toNat=j then 1 else 0:=by
 unfold inc
 rw [getD_set]
 by_cases e:k.toNat=j
 ·subst e;rw [if_pos ⟨rfl,hj⟩,if_pos rfl]
 ·rw [if_neg (fun h=>e h.1),if_neg e];simp
theorem pagesC_get (i:Nat)(hi:1≤i):∀ (t l:List Int),i<l.length→(∀e ∈ t,e=0∨e = -1∨1≤e)→(pagesC l t).getD i 0=l.getD i 0+(t.count (i:Int):Nat)
 | [],l,_,_=>by simp [pagesC]
 | e :: t,l,hl,ht=>by
  have:pagesC l (e :: t)=pagesC (incE l e) t:=rfl
  rw [this,pagesC_get i hi t (incE l e) (by rw [incE_length];exact hl) (fun x hx=>ht x (List.mem_cons_of_mem _ hx)),List.count_cons]
  unfold incE
  rcases ht e List.mem_cons_self with h | h | h
  ·rw [if_pos (.inl h),if_neg (by simp;omega)];omega
  ·rw [if_pos (.inr h),if_neg (by simp;omega)];omega
  ·rw [if_neg (by omega),inc_get l e i hl]
   by_cases g:e=i
   ·rw [if_pos (by omega),if_pos (by simpa using g)];omega
   ·rw [if_neg (by omega),if_neg (by simpa using g)];omega
theorem pagesC_get0:∀ (t l:List Int),(∀e ∈ t,e=0∨e = -1∨1≤e)→(pagesC l t).getD 0 0=l.getD 0 0
 | [],l,_=>by simp [pagesC]
 | e :: t,l,ht=>by
  have:pagesC l (e :: t)=pagesC (incE l e) t:=rfl
  rw [this,pagesC_get0 t (incE l e) (fun x hx=>ht x (List.mem_cons_of_mem _ hx))]
  unfold incE
  rcases ht e List.mem_cons_self with h | h | h
  ·rw [if_pos (.inl h)]
  ·rw [if_pos (.inr h)]
  ·rw [if_neg (by omega)]
   unfold inc
   rw [getD_set,if_neg (by omega)]
theorem slot0 {L:List SlotD}(h:slotsE L=0):kd L 0=0:=by
 have hp:=slotsE_parts h
 unfold slotsE at h
 rw [if_pos hp] at h
 split at h
 ·rename_i g
  have:=g.2
  cases L with
  | nil=>simp at hp
  | cons a t=>simpa [kd] using this
 ·simp at h
theorem rootE_cases {L:List SlotD}{k:Int}(h:rootE L k=true):k=0∨∃j:Nat,k=j∧j<L.length∧kd L j=2:=by
 by_cases e:k=0
 ·exact .inl e
 ·rw [rootE_x e] at h
  obtain⟨j,rfl,hj,hk⟩:=isKd_yes h
  exact .inr ⟨j,rfl,hj,by unfold kd;simp [List.getD,hj,hk]⟩
theorem tabE_cases {L:List SlotD}{k:Int}(h:tabE L k=true):k=0∨k = -1∨∃j:Nat,k=j∧j<L.length∧kd L j=1:=by
 by_cases e:k=0
 ·exact .inl e
 by_cases e1:k = -1
 ·exact .inr (.inl e1)
 ·rw [tabE_x e e1] at h
  obtain⟨j,rfl,hj,hk⟩:=isKd_yes h
  exact .inr (.inr ⟨j,rfl,hj,by unfold kd;simp [List.getD,hj,hk]⟩)
theorem tab_all {L:List SlotD}(h:tabFit L=true)(k:Int):(tabOf L k).all (tabE L)=true:=by
 unfold tabOf
 by_cases hk:k.toNat<L.length
 ·unfold tabFit at h
  rw [List.all_eq_true] at h
  have:=h _ (List.getElem_mem hk)
  simpa [List.getD,hk] using this
 ·have:L.getD k.toNat default=default:=by simp [List.getD,hk]
  rw [this];rfl
theorem tab_ent {L:List SlotD}(h:tabFit L=true)(k:Int){e:Int}(he:e ∈ tabOf L k):e=0∨e = -1∨∃j:Nat,e=j∧j<L.length∧kd L j=1:=
 tabE_cases (List.all_eq_true.1 (tab_all h k) e he)
theorem tab_ent' {L:List SlotD}(hs:slotsE L=0)(h:tabFit L=true)(k:Int):∀e ∈ tabOf L k,e=0∨e = -1∨1≤e:=fun e he=>by
 rcases tab_ent h k he with h | h | ⟨j,rfl,_,h1⟩
 ·exact .inl h
 ·exact .inr (.inl h)
 ·refine .inr (.inr ?_)
  rcases Nat.eq_zero_or_pos j with e | e
  ·subst e;rw [slot0 hs] at h1;simp at h1
  ·omega
theorem tab_no {L:List SlotD}(h:tabFit L=true)(k:Int){i:Nat}(hi:1≤i)(hk:kd L i≠1):(tabOf L k).count (i:Int)=0:=by
 rw [List.count_eq_zero]
 intro he
 rcases tab_ent h k he with h | h | ⟨j,e,_,h1⟩
 ·omega
 ·omega
 ·have:i=j:=by omega
  subst this;exact hk h1
theorem sumT_no {L:List SlotD}(h:tabFit L=true)(P:List Int){i:Nat}(hi:1≤i)(hk:kd L i≠1):sumT L P i=0:=by
 unfold sumT
 have:(List.range L.length).map (toldT L P i)=(List.range L.length).map (fun _=>0):=List.map_congr_left fun j _=>by
  unfold toldT
  split
  ·exact tab_no h j hi hk
  ·rfl
 rw [this]
 generalize L.length=n
 induction n with
 | zero=>rfl
 | succ n ih=>rw [List.range_succ,List.map_append,List.sum_append,ih];rfl
theorem root_no {L:List SlotD}{P:List Int}(h:∀k ∈ P,rootE L k=true){i:Nat}(hi:1≤i)(hk:kd L i≠2):P.count (i:Int)=0:=by
 rw [List.count_eq_zero]
 intro he
 rcases rootE_cases (h _ he) with h | ⟨j,e,_,h1⟩
 ·omega
 ·have:i=j:=by omega
  subst this;exact hk h1
theorem cnt_step {L:List SlotD}(hs:slotsE L=0)(ht:tabFit L=true){P l:List Int}{k:Int}(hk:rootE L k=true)(hl:l.length=L.length)(h:∀i,i<L.length→l.getD i 0=cntI L P i) :
  ∀i,i<L.length→(stepC L l k).getD i 0=cntI L (P ++ [k]) i:=by
 intro i hi
 unfold stepC
 rcases rootE_cases hk with rfl | ⟨j,rfl,hj,hj2⟩
 ·rw [if_pos rfl,h i hi]
  unfold cntI
  by_cases i0:i=0
  ·rw [if_pos i0,if_pos i0]
  rw [if_neg i0,if_neg i0]
  have e1:sumT L (P ++ [0]) i=sumT L P i:=sum_same _ fun q _=>by
   unfold toldT
   by_cases q0:q=0
   ·subst q0;rw [if_neg (by rw [slot0 hs];simp),if_neg (by rw [slot0 hs];simp)]
   ·have:((q:Int) ∈ P ++ [0])↔(q:Int) ∈ P:=by simp;omega
    simp only [this]
  rw [e1,List.count_append]
  have:List.count (i:Int) [0]=0:=by rw [List.count_eq_zero];simp;omega
  rw [this];simp
 ·have j0:j≠0:=fun e=>by subst e;rw [slot0 hs] at hj2;simp at hj2
  rw [if_neg (by omega)]
  have hjj:(inc l (j:Int)).getD (j:Int).toNat 0=((P.count (j:Int):Nat):Int)+1:=by
   rw [Int.toNat_natCast,inc_get l j j (by omega),h j hj,if_pos (by simp)]
   unfold cntI
   rw [if_neg j0,sumT_no ht P (by omega) (by rw [hj2];decide)]
   omega
  rw [hjj]
  by_cases hP:(j:Int) ∈ P
  ·have:0<P.count (j:Int):=List.count_pos_iff.2 hP
   rw [if_neg (by omega),inc_get l j i (by omega),h i hi]
   unfold cntI
   by_cases i0:i=0
   ·subst i0;rw [if_pos rfl,if_pos rfl,if_neg (by simp;omega)];rfl
   rw [if_neg i0,if_neg i0]
   have e1:sumT L (P ++ [(j:Int)]) i=sumT L P i:=sum_same _ fun q _=>by
    unfold toldT
    have:((q:Int) ∈ P ++ [(j:Int)])↔(q:Int) ∈ P:=by
     simp only [List.mem_append,List.mem_singleton]
     exact⟨fun x=>x.elim id (fun e=>e ▸ hP),.inl⟩
    simp only [this]
   rw [e1,List.count_append,List.count_singleton]
   by_cases e:j=i
   ·subst e;simp;omega
   ·rw [if_neg (by simp;omega),if_neg (by simp;omega)];simp
  ·have c0:P.count (j:Int)=0:=List.count_eq_zero.2 hP
   rw [if_pos (by omega)]
   unfold cntI
   by_cases i0:i=0
   ·subst i0
    rw [if_pos rfl,pagesC_get0 _ _ (tab_ent' hs ht j),inc_get l j 0 (by omega),h 0 hi,if_neg (by simp;omega)];rfl
   rw [if_neg i0,pagesC_get i (by omega) _ _ (by rw [inc_length,hl];exact hi) (tab_ent' hs ht j),inc_get l j i (by omega),h i hi]
   unfold cntI
   rw [if_neg i0]
   have e1:sumT L (P ++ [(j:Int)]) i=sumT L P i+(tabOf L j).count (i:Int):=by
    unfold sumT
    refine sum_one (k:=j) _ hj ?_ ?_
    ·unfold toldT
     rw [if_pos ⟨hj2,by simp⟩,if_neg (fun x=>hP x.2)];omega
    ·intro q hq
     unfold toldT
     have:((q:Int) ∈ P ++ [(j:Int)])↔(q:Int) ∈ P:=by
      simp only [List.mem_append,List.mem_singleton]
      exact⟨fun x=>x.elim id (fun e=>absurd (by omega) hq),.inl⟩
     simp only [this]
   rw [e1,List.count_append,List.count_singleton]
   by_cases e:j=i
   ·subst e;simp;omega
   ·rw [if_neg (by simp;omega),if_neg (by simp;omega)];omega
theorem cnt_fold {L:List SlotD}(hs:slotsE L=0)(ht:tabFit L=true):∀ (Q P l:List Int),(∀k ∈ Q,rootE L k=true)→l.length=L.length→(∀i,i<L.length→l.getD i 0=cntI L P i)→
  ∀i,i<L.length→(Q.foldl (stepC L) l).getD i 0=cntI L (P ++ Q) i
 | [],P,l,_,_,h,i,hi=>by simpa using h i hi
 | k :: Q,P,l,hQ,hl,h,i,hi=>by
  have:=cnt_fold hs ht Q (P ++ [k]) (stepC L l k) (fun x hx=>hQ x (List.mem_cons_of_mem _ hx)) (by rw [stepC_length,hl]) (cnt_step hs ht (hQ k List.mem_cons_self) hl h) i hi
  rw [List.foldl_cons,this,List.append_assoc];rfl
def flatR (m:ImgD):List Int:=(rootsOf m).flatMap (fun s=>s.2.2)
theorem flatR_root {m:ImgD}(h:shapeE m=0):∀k ∈ flatR m,rootE m.slots k=true:=by
 intro k hk
 obtain⟨z1,z2,z3,z4,z5,z6,z7⟩:=shapeE_zero h
 unfold flatR at hk
 rw [List.mem_flatMap] at hk
 obtain⟨s,hs,hks⟩:=hk
 have:=List.all_eq_true.1 z7 s hs
 unfold rootFit at this
 simp only [Bool.and_eq_true] at this
 exact List.all_eq_true.1 this.2.1 k hks
theorem cntL_get {m:ImgD}(h:shapeE m=0)(i:Nat)(hi:i<m.slots.length):(cntL m).getD i 0=cntI m.slots (flatR m) i:=by
 obtain⟨z1,z2,z3,z4,z5,z6,z7⟩:=shapeE_zero h
 have:=cnt_fold z2 z6 (flatR m) [] (List.replicate m.slots.length 0) (flatR_root h) (by simp) (fun i hi=>?_) i hi
 ·simpa [cntL,flatR] using this
 ·have e:(List.replicate m.slots.length (0:Int)).getD i 0=0:=by simp [List.getD,hi]
  rw [e]
  unfold cntI
  split
  ·rfl
  ·have:sumT m.slots [] i=0:=by
    have e:sumT m.slots [] i=((List.range m.slots.length).map (fun _=>0)).sum:=sum_same _ fun q _=>by unfold toldT;rw [if_neg (by simp)]
    rw [e]
    generalize m.slots.length=n
    induction n with
    | zero=>rfl
    | succ n ih=>rw [List.range_succ,List.map_append,List.sum_append,ih];rfl
   rw [this];rfl
theorem kindN_kd {L:List SlotD}{k kind:Int}(h:k≠0)(hk:0≤kind):(kindN L k == kind)=isKd L k kind:=by
 unfold kindN isKd
 by_cases h1:1≤k∧k<L.length
 ·rw [if_pos h1,decide_eq_true (by omega)];rfl
 ·rw [if_neg h1,decide_eq_false (by omega)]
  simp;omega
def fineAt (L:List SlotD) (g:Int) (r:List Int) (k:Nat):Bool:=
 r.getD k 0 == 0 || (kindN L (r.getD k 0) == 2 && (List.range 4).all (fun i=>decide (((k*4+i:Nat):Int)<g) || (tabOf L (r.getD k 0)).getD i 0 == 0))
def fineR (L:List SlotD) (g:Int) (r:List Int):Bool:=decide ((r.length:Int)=(g+3) / 4) && (List.range r.length).all (fineAt L g r)
theorem tab_len {L:List SlotD}(hs:slotsE L=0){k:Int}(h:isKd L k 2=true):(tabOf L k).length=4:=by
 obtain⟨j,rfl,hj,hk⟩:=isKd_yes h
 have:=okD_tab (slotsE_all hs hj) hk
 unfold tabOf
 simpa [List.getD,hj] using this.1
theorem fineR_eq {L:List SlotD}{g:Int}{r:List Int}(hs:slotsE L=0)(hg:guestOK g=true):fineR L g r=rootFit L g r:=by
 unfold guestOK at hg
 simp only [decide_eq_true_eq] at hg
 unfold fineR rootFit
 by_cases hl0:¬((r.length:Int)=(g+3) / 4)
 ·rw [decide_eq_false hl0];rfl
 have hl:(r.length:Int)=(g+3) / 4:=Classical.not_not.1 hl0
 rw [decide_eq_true hl,Bool.true_and,Bool.true_and,Bool.eq_iff_iff]
 simp only [List.all_eq_true,Bool.and_eq_true,List.mem_range]
 constructor
 ·intro h
  refine⟨fun x hx=>?_,?_⟩
  ·obtain⟨j,hj,rfl⟩:=List.getElem_of_mem hx
   have:=h j hj
   unfold fineAt at this
   have e:r.getD j 0=r[j]:=by simp [List.getD,hj]
   rw [e] at this
   by_cases e0:r[j]=0
   ·rw [e0];rfl
   ·rw [rootE_x e0]
    rw [←kindN_kd e0 (by decide)]
    simp [e0] at this
    simpa using this.1
  ·unfold lastFit
   by_cases g4:g % 4=0
   ·simp [g4]
   ·have hlt:r.length - 1<r.length:=by omega
    have:=h _ hlt
    unfold fineAt at this
    generalize r.getD (r.length - 1) 0=x at this ⊢
    by_cases e0:x=0
    ·simp [e0]
    ·have hb:(x == 0)=false:=by simpa using e0
     rw [hb,Bool.false_or] at this ⊢
     simp only [Bool.and_eq_true,List.all_eq_true,List.mem_range] at this
     have hk:isKd L x 2=true:=by rw [←kindN_kd e0 (by decide)];exact this.1
     have h4:=tab_len hs hk
     simp only [Bool.or_eq_true,List.all_eq_true]
     refine .inr fun y hy=>?_
     obtain⟨j,hj,rfl⟩:=List.getElem_of_mem hy
     rw [List.getElem_drop]
     simp at hj
     have:=this.2 ((g % 4).toNat+j) (by omega)
     rw [decide_eq_false (by omega)] at this
     simpa [List.getD,show (g % 4).toNat+j<(tabOf L x).length by omega] using this
 ·intro ⟨h1,h2⟩ k hk
  unfold fineAt
  have e:r.getD k 0=r[k]:=by simp [List.getD,hk]
  have hE:=h1 _ (List.getElem_mem hk)
  rw [←e] at hE
  unfold lastFit at h2
  by_cases hlast:k=r.length - 1
  ·rw [←hlast] at h2
   generalize r.getD k 0=x at hE h2 ⊢
   by_cases e0:x=0
   ·simp [e0]
   have hb:(x == 0)=false:=by simpa using e0
   rw [rootE_x e0] at hE
   rw [hb,Bool.false_or,kindN_kd e0 (by decide),hE,Bool.true_and,List.all_eq_true]
   rw [hb,Bool.false_or] at h2
   have h4:=tab_len hs hE
   intro i hi
   have hi:=List.mem_range.1 hi
   by_cases hlt:((k*4+i:Nat):Int)<g
   ·rw [decide_eq_true hlt];rfl
   ·rw [decide_eq_false hlt,Bool.false_or]
    have g4:g % 4≠0:=by omega
    have hg4:(g % 4 == 0)=false:=by simpa using g4
    rw [hg4,Bool.false_or,List.all_eq_true] at h2
    have hm:(tabOf L x).getD i 0 ∈ (tabOf L x).drop (g % 4).toNat:=by
     have:i<(tabOf L x).length:=by omega
     rw [List.mem_iff_getElem]
     refine⟨i - (g % 4).toNat,by simp;omega,?_⟩
     rw [List.getElem_drop]
     simp only [List.getD,List.getElem?_eq_getElem this,Option.getD_some]
     congr 1;omega
    exact h2 _ hm
  ·by_cases e0:r.getD k 0=0
   ·rw [e0];rfl
   have hb:(r.getD k 0 == 0)=false:=by simpa using e0
   rw [rootE_x e0] at hE
   rw [hb,Bool.false_or,kindN_kd e0 (by decide),hE,Bool.true_and,List.all_eq_true]
   intro i hi
   have hi:=List.mem_range.1 hi
   rw [decide_eq_true (by omega)];rfl
def entP (L:List SlotD) (e:Int):Bool:=!(decide (0<e) && kindN L e != 1)
theorem entP_eq {L:List SlotD}{e:Int}(h:isE e=true):entP L e=tabE L e:=by
 rw [isE_iff] at h
 unfold entP
 rcases h with rfl | rfl | h
 ·rfl
 ·rfl
 ·rw [tabE_x (by omega) (by omega),decide_eq_true (by omega),Bool.true_and,bne,Bool.not_not,kindN_kd (by omega) (by decide)]
theorem okD_ents {s:SlotD}(h:okD s=true):∀e ∈ s.2.2,isE e=true:=by
 unfold okD slotOK at h
 split at h
 ·simp at h;rw [h.2];intro e he;cases he
 split at h
 ·simp at h;rw [h.2];intro e he;cases he
 split at h
 ·simp at h;exact List.all_eq_true.1 (ckE_all h.1)
 ·cases h
theorem tabsP_eq {L:List SlotD}(hs:slotsE L=0):L.all (fun s=>s.2.2.all (entP L))=tabFit L:=by
 unfold tabFit
 rw [Bool.eq_iff_iff,List.all_eq_true,List.all_eq_true]
 have:∀s ∈ L,s.2.2.all (entP L)=s.2.2.all (tabE L):=fun s hm=>by
  have hE:∀e ∈ s.2.2,isE e=true:=by
   obtain⟨j,hj,rfl⟩:=List.getElem_of_mem hm
   exact okD_ents (slotsE_all hs hj)
  rw [Bool.eq_iff_iff,List.all_eq_true,List.all_eq_true]
  exact⟨fun h e he=>by rw [←entP_eq (hE e he)];exact h e he,fun h e he=>by rw [entP_eq (hE e he)];exact h e he⟩
 exact⟨fun h s hm=>by rw [←this s hm];exact h s hm,fun h s hm=>by rw [this s hm];exact h s hm⟩
theorem to_drew {n:Nat}{w W:World}(h:Below n w W):Below n w W.drew:=⟨h.os,h.tape,h.output,h.size,h.block⟩
theorem rootFine_len (gm:Int)(ra:Option Addr)(rn rc:Nat)(sa:Option Addr)(sn sc:Nat)(fa:Option Addr)(fn fc:Nat)(na:Option Addr)(nn nc:Nat)(g:Nat)(qa:Option Addr)(qn qc:Nat)(w:World)(hg:g≤16)(_hq:qn≤9223372036854775807)(hl:qn≠(g+3) / 4) :
  Calls Tryz.prog 79 #[.agg #[.int .i64 gm,.slice ra rn rc,.slice sa sn sc,.slice fa fn fc,.slice na nn nc],.int .i64 g,.slice qa qn qc] w fun r w'=>r=.returned (.bool false)∧Below w.heap.size w w':=by
 have b0:Below w.heap.size w (w.alloc (.cells #[.int .i64 gm,.slice ra rn rc,.slice sa sn sc,.slice fa fn fc,.slice na nn nc] 27)):=(Below.refl _ _).alloc (Nat.le_refl _) _
 have hb:((qn:Int) != ((g:Int)+3) / 4)=true:=by simp;omega
 clear hl
 go_enter Tryz.func79,Tryz.ntmps79
 go_wp2_with (go_at_call 49;refine (wants_any _ _ (by omega)).mono ?_;rintro e w' ⟨rfl,hw⟩;subst hw)
 go_ret
 exact⟨rfl,b0⟩
set_option maxHeartbeats 2000000 in
theorem rootFine_at (gm:Int)(ra:Option Addr)(rn rc:Nat)(sa:Option Addr)(sn sc:Nat)(fa:Option Addr)(fn fc:Nat)(na:Option Addr)(nn nc:Nat)(m:ImgD)(g:Nat)(qa:Option Addr)(qn qc:Nat)(r:List Int)(B:Bool)(w:World)
  (h:Img w (.agg #[.int .i64 gm,.slice ra rn rc,.slice sa sn sc,.slice fa fn fc,.slice na nn nc]) m) (hsn:m.slots.length=sn) (hcl:∀j,(h:j<m.slots.length)→∃sb so,sa=some ⟨sb,so,none⟩∧sb<w.heap.size∧SlAt w sb (so+j*3) m.slots[j]) (hs:slotsE m.slots=0)
  (hqn:r.length=qn) (hg:g≤16) (hq4:qn≤4) (hl:((qn:Int) != ((g:Int)+3) / 4)=false)
  (hq:∀j,j<qn→∃b off,qa=some ⟨b,off,none⟩∧b<w.heap.size∧w.cell? ⟨b,off+j,none⟩=some (.int .i64 (r.getD j 0)))
  (hB:(List.range r.length).all (fineAt m.slots g r)=B) :
  Calls Tryz.prog 79 #[.agg #[.int .i64 gm,.slice ra rn rc,.slice sa sn sc,.slice fa fn fc,.slice na nn nc],.int .i64 g,.slice qa qn qc] w fun r w'=>r=.returned (.bool B)∧Below w.heap.size w w':=by
 have b0:Below w.heap.size w (w.alloc (.cells #[.int .i64 gm,.slice ra rn rc,.slice sa sn sc,.slice fa fn fc,.slice na nn nc] 27)):=(Below.refl _ _).alloc (Nat.le_refl _) _
 have m0:(w.alloc (.cells #[.int .i64 gm,.slice ra rn rc,.slice sa sn sc,.slice fa fn fc,.slice na nn nc] 27)).heap[w.heap.size]? = some (.cells #[.int .i64 gm,.slice ra rn rc,.slice sa sn sc,.slice fa fn fc,.slice na nn nc] 27):=World.alloc_heap_new _ _
 have h40:sn≤40:=by rw [←hsn];exact (slotsE_parts hs).2
 have H1:Hid (r.length=qn∧m.slots.length=sn):=⟨hqn,hsn⟩
 have H2:Hid (∀j,j<qn→∃b off,qa=some ⟨b,off,none⟩∧b<w.heap.size∧w.cell? ⟨b,off+j,none⟩=some (.int .i64 (r.getD j 0))):=hq
 have H3:Hid (∀j,(h:j<m.slots.length)→∃sb so,sa=some ⟨sb,so,none⟩∧sb<w.heap.size∧SlAt w sb (so+j*3) m.slots[j]):=hcl
 have H4:Hid (slotsE m.slots=0):=hs
 have H5:Hid ((List.range r.length).all (fineAt m.slots g r)=B):=hB
 have H6:Hid (Img w (.agg #[.int .i64 gm,.slice ra rn rc,.slice sa sn sc,.slice fa fn fc,.slice na nn nc]) m):=h
 have H7:Hid (∀k,k<qn→fineAt m.slots g r k=false→B=false):=fun k hk hf=>by
  rw [←hB]
  cases e:(List.range r.length).all (fineAt m.slots g r) with
  | false=>rfl
  | true=>
   rw [List.all_eq_true] at e
   have:=e k (by rw [hqn];simpa using hk)
   rw [hf] at this;cases this
 clear hqn hsn hq hcl hs hB h
 go_enter Tryz.func79,Tryz.ntmps79
 go_wp2_with (go_at_call 49;refine (wants_any _ _ (by omega)).mono ?_;rintro e w' ⟨rfl,hw⟩;subst hw)
 go_loopw [7,8,9] (fun k _ _ wr=>∃q:Nat,q≤qn∧k=.int .i64 q∧Hid (∀j,j<q→fineAt m.slots g r j=true)∧Below (w.alloc (.cells #[.int .i64 gm,.slice ra rn rc,.slice sa sn sc,.slice fa fn fc,.slice na nn nc] 27)).heap.size (w.alloc (.cells #[.int .i64 gm,.slice ra rn rc,.slice sa sn sc,.slice fa fn fc,.slice na nn nc] 27)) wr) (fun k _ _ _=>qn - (intOf k).toNat)
 case atStart=>exact⟨0,Nat.zero_le _,rfl,fun j hj=>absurd hj (by omega),Below.refl _ _⟩
 case round=>
  obtain⟨q,hqq,rfl,HA,hbel⟩:=hrel
  by_cases hlk:q<qn
  ·obtain⟨b,off,rfl,hlt,hcell⟩:=H2.out q hlk
   have hki:(q:Int)<(qn:Int):=by omega
   have hbw:=Below.on b0 hbel
   obtain⟨x,hx⟩:∃x,r.getD q 0=x:=⟨_,rfl⟩
   rw [hx] at hcell
   have hc1:wr.cell? ⟨b,off+q,none⟩=some (.int .i64 x):=(hbw.cell (p:=⟨b,off+q,none⟩) hlt).trans hcell
   have HF:Hid (fineAt m.slots g r q=(x == 0 || (kindN m.slots x == 2 && (List.range 4).all (fun i=>decide (((q*4+i:Nat):Int)<g) || (tabOf m.slots x).getD i 0 == 0)))):=by
    show _=_
    unfold fineAt;rw [hx]
   clear hx hcell
   have mr:=cells_below m0 hbel (by simp)
   obtain⟨c0,c1,c2,c3,c4⟩:=five mr
   by_cases hx0:x=0
   ·have hx0b:(x == 0)=true:=by simp [hx0]
    have HX:Hid (x=0):=hx0
    clear hx0
    go_wp2_with fail
    go_roundw
    case rel=>exact⟨q+1,by omega,by go_num,fun j hj=>by
     by_cases e:j=q
     ·subst e;rw [HF.out,hx0b];rfl
     ·exact HA.out j (by omega),hbel⟩
    case measure=>simp [intOf];omega
   ·have hx0b:(x == 0)=false:=by simp [hx0]
    have HX:Hid (x≠0):=hx0
    clear hx0
    obtain⟨K,hK⟩:∃K,kindN m.slots x=K:=⟨_,rfl⟩
    have hszr:w.heap.size<wr.heap.size:=(szH mr)
    have hbwr:b<wr.heap.size:=Nat.lt_of_lt_of_le hlt hbw.size
    have hcall:=fun W (hW:Below w.heap.size w W)=>kindOf_is (H6.out.below hW) (by rw [H1.out.2];omega) x hK
    have HK:Hid (kindN m.slots x=K):=hK
    clear hK
    go_wp2_with fail
    go_region_held3 (fun w'=>w'.cell? ⟨w.heap.size,0,none⟩=some (.int .i64 gm)∧w'.cell? ⟨w.heap.size,0+1,none⟩=some (.slice ra rn rc)∧w'.cell? ⟨w.heap.size,0+1+1,none⟩=some (.slice sa sn sc)∧w'.cell? ⟨w.heap.size,0+1+1+1,none⟩=some (.slice fa fn fc)∧w'.cell? ⟨w.heap.size,0+1+1+1+1,none⟩=some (.slice na nn nc)∧w'.cell? ⟨b,off+q,none⟩=some (.int .i64 x)) (first | exact⟨c0,c1,c2,c3,c4,hc1⟩ | exact⟨d0,d1,d2,d3,d4,e1⟩)
     (first | (go_at_call 78;refine (hcall _ (to_drew hbw)).mono ?_;rintro e w1 ⟨rfl,b1⟩;have b1:=below_drew b1;have m1:=cells_below mr b1 hszr;obtain⟨d0,d1,d2,d3,d4⟩:=five m1;have e1:=(b1.cell (p:=⟨b,off+q,none⟩) hbwr).trans hc1))
    have hw1:=Below.on hbw b1
    have hbel1:=hbel.trans (b1.mono hbel.size)
    clear hcall hc1 c0 c1 c2 c3 c4 hbel hbw
    by_cases hK2:K=2
    ·have hKb:(K != 2)=false:=by simp [hK2]
     have hkd:isKd m.slots x 2=true:=by rw [←kindN_kd HX.out (by decide),HK.out,hK2];rfl
     obtain⟨t,ht,htl,hk2⟩:=isKd_yes hkd
     subst ht
     have hok:=okD_tab (slotsE_all H4.out htl) hk2
     obtain⟨sb,so,rfl,hsb,hSA⟩:=H3.out t htl
     obtain⟨tv,_,_,c3,hsl⟩:=hSA
     obtain⟨tb,tw,tc,rfl,_,htb,htc⟩:=hsl.four hok.1
     have hts:t<sn:=by rw [←H1.out.2];exact htl
     have hti:(t:Int)<(sn:Int):=by omega
     have ct:w1.cell? ⟨sb,so+t*3+2,none⟩=some (.slice (some ⟨tb,tw,none⟩) 4 tc):=(hw1.cell (p:=⟨sb,so+t*3+2,none⟩) hsb).trans c3
     have HT:Hid (∀j,j<4→w1.cell? ⟨tb,tw+j,none⟩=some (.int .i64 ((tabOf m.slots t).getD j 0))):=fun j hj=>by
      have:=(hw1.cell (p:=⟨tb,tw+j,none⟩) htb).trans (htc j hj)
      rw [this];unfold tabOf;simp [List.getD,htl]
     have HF2:Hid (fineAt m.slots g r q=(List.range 4).all (fun i=>decide (((q*4+i:Nat):Int)<g) || (tabOf m.slots t).getD i 0 == 0)):=by
      show _=_
      rw [HF.out,hx0b,HK.out,hK2];rfl
     have HF3:Hid (∀i,i<4→¬((q*4+i:Nat):Int)<g→(tabOf m.slots t).getD i 0≠0→B=false):=fun i hi h1 h2=>H7.out q hlk (by
      rw [HF2.out]
      cases e:(List.range 4).all (fun i=>decide (((q*4+i:Nat):Int)<g) || (tabOf m.slots t).getD i 0 == 0) with
      | false=>rfl
      | true=>
       rw [List.all_eq_true] at e
       have:=e i (by simpa using hi)
       rw [decide_eq_false h1,Bool.false_or] at this
       exact absurd (by simpa using this) h2)
     clear hsl htc c3 hok hk2 hkd hK2
     go_wp2_with fail
     go_region
     go_wp2_with fail
     go_loopw [9] (fun i wr=>∃u:Nat,u≤4∧i=.int .i64 u∧Hid (∀j,j<u→(decide (((q*4+j:Nat):Int)<g) || (tabOf m.slots t).getD j 0 == 0)=true)∧wr=w1.drew) (fun i _=>4 - (intOf i).toNat)
     case atStart=>exact⟨0,Nat.zero_le _,rfl,fun j hj=>absurd hj (by omega),rfl⟩
     case round=>
      obtain⟨u,hu,rfl,HI,hw⟩:=hrel
      subst hw
      by_cases hu4:u<4
      ·have hui:(u:Int)<4:=by omega
       have cx:=HT.out u hu4
       obtain⟨y,hy⟩:∃y,(tabOf m.slots t).getD u 0=y:=⟨_,rfl⟩
       rw [hy] at cx
       have HY:Hid ((tabOf m.slots t).getD u 0=y):=hy
       clear hy
       by_cases hlt:(q:Int)*4+u<g
       ·have hge:¬(g:Int)≤(q:Int)*4+u:=by omega
        go_wp2_with fail
        go_roundw
        case rel=>exact⟨u+1,by omega,by go_num,fun j hj=>by
         by_cases e:j=u
         ·subst e;rw [decide_eq_true (by omega)];rfl
         ·exact HI.out j (by omega),trivial⟩
        case measure=>simp [intOf];omega
       ·have hge:(g:Int)≤(q:Int)*4+u:=by omega
        by_cases hy0:y=0
        ·have hyb:(y != 0)=false:=by simp [hy0]
         have HY0:Hid (y=0):=hy0
         clear hy0
         go_wp2_with fail
         go_roundw
         case rel=>exact⟨u+1,by omega,by go_num,fun j hj=>by
          by_cases e:j=u
          ·subst e;rw [HY.out,HY0.out];simp
          ·exact HI.out j (by omega),trivial⟩
         case measure=>simp [intOf];omega
        ·have hyb:(y != 0)=true:=by simp [hy0]
         have HY0:Hid (B=false):=HF3.out u hu4 (by omega) (by rw [HY.out];exact hy0)
         clear hy0
         go_wp2_with fail
         go_ret
         exact⟨ret_boolE HY0.out.symm,to_drew hw1⟩
      ·have e4:u=4:=by omega
       subst e4
       go_wp2_with fail
       go_roundw
       case rel=>exact⟨q+1,by omega,by go_num,fun j hj=>by
        by_cases e:j=q
        ·subst e;rw [HF2.out,List.all_eq_true];intro i hi;exact HI.out i (by simpa using hi)
        ·exact HA.out j (by omega),⟨hbel1.os,hbel1.tape,hbel1.output,hbel1.size,hbel1.block⟩⟩
       case measure=>simp [intOf];omega
    ·have hKb:(K != 2)=true:=by simp [hK2]
     have HBf:Hid (B=false):=H7.out q hlk (by rw [HF.out,hx0b,HK.out];simp [hK2])
     clear hK2
     go_wp2_with fail
     go_ret
     exact⟨ret_boolE HBf.out.symm,hw1⟩
  ·have e4:q=qn:=by omega
   subst e4
   have HE:Hid (B=true):=by
    show _=_
    rw [←H5.out,List.all_eq_true]
    intro j hj
    exact HA.out j (by rw [←H1.out.1];simpa using hj)
   go_wp2_with fail
   go_ret
   exact⟨ret_boolE HE.out.symm,Below.on b0 hbel⟩
theorem Slots.at {w:World}{sa:Option Addr}{n sc:Nat}{L:List SlotD}(h:Slots w (.slice sa n sc) L):∀j,(h:j<L.length)→∃sb so,sa=some ⟨sb,so,none⟩∧sb<w.heap.size∧SlAt w sb (so+j*3) L[j]:=by
 intro j hj
 obtain⟨sb,so,sc',e,_,hsb,hcl⟩:=h.open (by omega)
 simp at e
 exact⟨sb,so,e.1,hsb,hcl j hj⟩
theorem rootFine_is {w:World}{v rv:Value}{m:ImgD}{g:Int}{r:List Int}(h:Img w v m)(hs:slotsE m.slots=0)(hg:guestOK g=true)(hr:Sl w rv r){B:Bool}(hB:rootFit m.slots g r=B) :
  Calls Tryz.prog 79 #[v,.int .i64 g,rv] w fun r w'=>r=.returned (.bool B)∧Below w.heap.size w w':=by
 rw [←fineR_eq hs hg] at hB
 unfold guestOK at hg
 simp only [decide_eq_true_eq] at hg
 obtain⟨k,rfl⟩:∃k:Nat,g=k:=⟨g.toNat,by omega⟩
 have h':=h
 obtain⟨ra,rc,sa,sc,fa,fc,na,nc,rfl,h1,h2,h3,h4⟩:=h.parts
 obtain⟨qa,qc,rfl⟩:=hr.form
 obtain⟨_,hm,_,hc⟩:=hr.cells
 unfold fineR at hB
 by_cases hl:(r.length:Int)=((k:Int)+3) / 4
 ·rw [decide_eq_true hl,Bool.true_and] at hB
  exact rootFine_at m.guest ra _ rc sa _ sc fa _ fc na _ nc m k qa _ qc r B w h' rfl h2.at hs rfl (by omega) (by omega) (by simp [hl]) hc hB
 ·rw [decide_eq_false hl,Bool.false_and] at hB
  subst hB
  exact rootFine_len m.guest ra _ rc sa _ sc fa _ fc na _ nc k qa _ qc w (by omega) hm (by omega)
end Go.Proofs.YtehleeibgkpjmafGreat
namespace Go.Proofs.YtehleeibgkpjmafGreat
open Go.RowKit
set_option maxRecDepth 20000
theorem bareIn_at (ao:Option Addr)(n cap:Nat)(xs:List Int)(w:World)(hn:xs.length=n)(hm:n≤9223372036854775807)(hc:∀j,j<n→∃b off,ao=some ⟨b,off,none⟩∧w.cell? ⟨b,off+j,none⟩=some (.int .i64 (xs.getD j 0))) :
  Calls Tryz.prog 123 #[.slice ao n cap] w fun r w'=>r=.returned (.bool (bareL xs))∧w'=w:=by
 have HC:Hid (∀j,j<n→∃b off,ao=some ⟨b,off,none⟩∧w.cell? ⟨b,off+j,none⟩=some (.int .i64 (xs.getD j 0))):=hc
 clear hc
 have HN:Hid (xs.length=n):=hn
 clear hn
 go_enter Tryz.func123,Tryz.ntmps123
 go_wp2
 go_loop [3] (fun i=>∃k:Nat,k≤n∧i=.int .i64 k∧∀j,j<k→((xs.getD j 0) == 0)=true) (fun i=>n - (intOf i).toNat)
 case atStart=>exact⟨0,by omega,rfl,fun j hj=>absurd hj (by omega)⟩
 case round=>
  obtain⟨k,hk,rfl,hall⟩:=hrel
  have HA:Hid (∀j,j<k→((xs.getD j 0) == 0)=true):=hall
  clear hall
  by_cases hlt:k<n
  ·obtain⟨x,hx⟩:∃x,xs.getD k 0=x:=⟨_,rfl⟩
   obtain⟨b,off,hao,hck⟩:=HC.out k hlt
   rw [hx] at hck
   have HX:Hid (xs.getD k 0=x):=hx
   clear hx
   by_cases hE:x=0
   ·have hE':(x != 0)=false:=by simp [hE]
    have HE0:Hid (x=0):=hE
    clear hE
    go_wp2
    go_round
    case rel=>exact⟨k+1,by omega,by go_num,upto_step (p:=fun x=>x == 0) HA.out HX.out (by simp [HE0.out])⟩
    case measure=>simp [intOf];omega
   ·have hE':(x != 0)=true:=by simp [hE]
    go_wp2
    go_ret
    refine⟨?_,rfl⟩
    rw [show bareL xs=false from not_all_of (j:=k) (by rw [HN.out];exact hlt) (by rw [HX.out];simp [hE])];rfl
  ·have e4:k=n:=by omega
   subst e4
   go_wp2
   go_ret
   refine⟨?_,rfl⟩
   rw [show bareL xs=true from all_of_upto (by rw [HN.out];exact HA.out)];rfl
theorem bareIn_any (v:Value)(xs:List Int)(w:World)(h:Sl w v xs) :
  Calls Tryz.prog 123 #[v] w fun r w'=>r=.returned (.bool (bareL xs))∧w'=w:=by
 obtain⟨ao,cap,rfl⟩:=h.form
 obtain⟨hn,hm,hcp,hc⟩:=h.cells
 exact bareIn_at ao _ cap xs w hn hm (fun j hj=>by obtain⟨b,off,h1,_,h2⟩:=hc j hj;exact⟨b,off,h1,h2⟩)
end Go.Proofs.YtehleeibgkpjmafGreat
namespace Go.Proofs.YtehleeibgkpjmafGreat
open Go.RowKit
set_option maxRecDepth 20000
theorem slotOK_0 (d:ByteArray)(xs:List Int):slotOK 0 d xs=decide (d.size=0∧xs.length=0):=rfl
theorem slotOK_1 (d:ByteArray)(xs:List Int):slotOK 1 d xs=decide (d.size=4∧xs.length=0):=rfl
theorem slotOK_2 (d:ByteArray)(xs:List Int):slotOK 2 d xs=decide (ckE xs=0∧bareE xs=false∧d.size=0):=rfl
theorem slotOK_2' (d:ByteArray)(xs:List Int):slotOK 2 d xs=true↔(d.size=0∧ckE xs=0∧bareL xs=false):=by
 rw [slotOK_2]
 by_cases h:ckE xs=0 <;> simp [bareE,h,and_comm]
theorem beq_lit {k:Int}{c:Int}(h:k≠c):(k == c)=false:=by simpa using h
set_option maxHeartbeats 1000000 in
theorem slotFine_at (k:Int)(d:ByteArray)(ta:Option Addr)(tn tc:Nat)(xs:List Int)(w:World)(h:Sl w (.slice ta tn tc) xs) :
  Calls Tryz.prog 101 #[.agg #[.int .i64 k,.string d,.slice ta tn tc]] w fun r w'=>r=.returned (.bool (slotOK k d xs))∧Below w.heap.size w w':=by
 have hs:=h.past (.cells #[.int .i64 k,.string d,.slice ta tn tc] 61)
 have hl:xs.length=tn:=h.cells.1
 have HL:Hid (xs.length=tn):=hl
 have b0:Below w.heap.size w (w.alloc (.cells #[.int .i64 k,.string d,.slice ta tn tc] 61)):=(Below.refl _ _).alloc (Nat.le_refl _) _
 clear hl
 by_cases h0:k=0
 ·subst h0
  by_cases hd:d.size=0
  ·have hd1:d.toList.isEmpty=true:=by rw [ba_isEmpty];simp [hd]
   have HD:Hid (d.size=0):=hd
   clear hd
   go_enter Tryz.func101,Tryz.ntmps101
   go_wp2
   go_ret
   exact⟨ret_bool (by rw [slotOK_0];simp [HD.out,← HL.out]),b0⟩
  ·have hd1:d.toList.isEmpty=false:=by rw [ba_isEmpty];simp [hd]
   go_enter Tryz.func101,Tryz.ntmps101
   go_wp2
   go_ret
   exact⟨ret_bool (by rw [slotOK_0];simp [hd]),b0⟩
 by_cases h1:k=1
 ·subst h1
  clear h0
  by_cases hd:d.size=4
  ·have hd1:((d.size:Int) == 4)=true:=by simp;omega
   have HD:Hid (d.size=4):=hd
   clear hd
   go_enter Tryz.func101,Tryz.ntmps101
   go_wp2
   go_ret
   exact⟨ret_bool (by rw [slotOK_1];simp [HD.out,← HL.out]),b0⟩
  ·have hd1:((d.size:Int) == 4)=false:=by simp;omega
   go_enter Tryz.func101,Tryz.ntmps101
   go_wp2
   go_ret
   exact⟨ret_bool (by rw [slotOK_1];simp [hd]),b0⟩
 by_cases h2:k=2
 ·subst h2
  clear h0 h1
  by_cases hd:d.size=0
  ·have hd1:d.toList.isEmpty=true:=by rw [ba_isEmpty];simp [hd]
   have HD:Hid (d.size=0):=hd
   clear hd
   rcases ckE_01 xs with hc | hc
   ·have HK:Hid (ckE xs=0):=hc
    go_enter Tryz.func101,Tryz.ntmps101
    go_wp2_with (first | (go_at_call 122;refine (checkOf_any _ xs _ hs).mono ?_;rintro e w' ⟨rfl,rfl⟩) | (go_at_call 123;refine (bareIn_any _ xs _ hs).mono ?_;rintro e w' ⟨rfl,rfl⟩))
    go_ret
    exact⟨ret_bool (by rw [slotOK_2'];simp [HD.out,HK.out]),b0⟩
   ·have HK:Hid (ckE xs=1):=hc
    go_enter Tryz.func101,Tryz.ntmps101
    go_wp2_with (first | (go_at_call 122;refine (checkOf_any _ xs _ hs).mono ?_;rintro e w' ⟨rfl,rfl⟩))
    go_ret
    exact⟨ret_bool (by rw [slotOK_2'];simp [HK.out]),b0⟩
  ·have hd1:d.toList.isEmpty=false:=by rw [ba_isEmpty];simp [hd]
   go_enter Tryz.func101,Tryz.ntmps101
   go_wp2
   go_ret
   exact⟨ret_bool (by rw [slotOK_2'];simp [hd]),b0⟩
 ·have HF:Hid (slotOK k d xs=false):=by show _=_;unfold slotOK;rw [if_neg h0,if_neg h1,if_neg h2]
  have e0:=beq_lit h0
  have e1:=beq_lit h1
  have e2:=beq_lit h2
  clear h0 h1 h2
  go_enter Tryz.func101,Tryz.ntmps101
  go_wp2
  go_ret
  exact⟨by rw [HF.out];rfl,b0⟩
theorem slotFine_any (k:Int)(d:ByteArray)(tv:Value)(xs:List Int)(w:World)(h:Sl w tv xs) :
  Calls Tryz.prog 101 #[.agg #[.int .i64 k,.string d,tv]] w fun r w'=>r=.returned (.bool (slotOK k d xs))∧Below w.heap.size w w':=by
 obtain⟨ao,cap,rfl⟩:=h.form
 exact slotFine_at k d ao _ cap xs w h
set_option maxHeartbeats 1000000 in
theorem slotsError_at (b off cap n:Nat)(L:List SlotD)(w:World)(hn:L.length=n)(h1:1≤n)(h40:n≤40)(hlt:b<w.heap.size)(hc:∀j,(h:j<L.length)→SlAt w b (off+j*3) L[j]) :
  Calls Tryz.prog 76 #[.slice (some ⟨b,off,none⟩) n cap] w fun r w'=>r=.returned (.int .i64 (slotsE L))∧Below w.heap.size w w':=by
 have HC:Hid (∀j,(h:j<L.length)→SlAt w b (off+j*3) L[j]):=hc
 have HN:Hid (L.length=n):=hn
 clear hc hn
 have g1:(1:Int)≤(n:Int):=by omega
 have g2:(n:Int)≤(40:Int):=by omega
 go_enter Tryz.func76,Tryz.ntmps76
 go_wp2_with (go_at_call 75;refine (within_any _ _ _ _).mono ?_;rintro e w' ⟨rfl,hw⟩;subst hw)
 go_loopw [3] (fun i wr=>∃k:Nat,k≤n∧i=.int .i64 k∧(∀j,(h:j<L.length)→j<k→okD L[j]=true)∧Below w'.heap.size w' wr) (fun i _=>n - (intOf i).toNat)
 case atStart=>exact⟨0,Nat.zero_le _,rfl,fun j h hj=>absurd hj (by omega),Below.refl _ _⟩
 case round=>
  obtain⟨k,hk,rfl,hall,hbel⟩:=hrel
  have HA:Hid (∀j,(h:j<L.length)→j<k→okD L[j]=true):=hall
  clear hall
  by_cases hlk:k<n
  ·obtain⟨s,hs⟩:∃s,s=L[k]'(by rw [HN.out];exact hlk):=⟨_,rfl⟩
   obtain⟨kk,dd,tt⟩:=s
   have hS:SlAt w' b (off+k*3) (kk,dd,tt):=by rw [hs];exact HC.out k _
   obtain⟨tv,c1,c2,c3,hsl⟩:=hS
   obtain⟨ta,tc,htv⟩:=hsl.form
   subst htv
   have HS:Hid ((kk,dd,tt)=L[k]'(by rw [HN.out];exact hlk)):=hs
   have c1:wr.cell? ⟨b,off+k*3,none⟩=some (.int .i64 kk):=(hbel.cell (p:=⟨b,off+k*3,none⟩) hlt).trans c1
   have c2:wr.cell? ⟨b,off+k*3+1,none⟩=some (.string dd):=(hbel.cell (p:=⟨b,off+k*3+1,none⟩) hlt).trans c2
   have c3:wr.cell? ⟨b,off+k*3+1+1,none⟩=some (.slice ta tt.length tc):=(hbel.cell (p:=⟨b,off+k*3+1+1,none⟩) hlt).trans c3
   have hslr:Sl wr (.slice ta tt.length tc) tt:=hsl.below hbel
   clear hs hsl
   cases hE:slotOK kk dd tt with
   | true=>
    go_wp2_with fail
    refine (slotFine_any kk dd _ tt _ hslr).mono ?_
    rintro e w2 ⟨rfl,b2⟩
    go_wp2_with fail
    go_roundw
    case rel=>exact⟨k+1,by omega,by go_num,fun j h hj=>by
     by_cases e:j=k
     ·subst e;rw [←HS.out];exact hE
     ·exact HA.out j h (by omega),Below.on hbel b2⟩
    case measure=>simp [intOf];omega
   | false=>
    go_wp2_with fail
    refine (slotFine_any kk dd _ tt _ hslr).mono ?_
    rintro e w2 ⟨rfl,b2⟩
    go_wp2_with fail
    go_ret
    exact⟨ret_int (slotsE_bad (by rw [HN.out];exact h1) (by rw [HN.out];exact h40) (by rw [HN.out];exact hlk) (by rw [←HS.out];exact hE)).symm,Below.on hbel b2⟩
  ·have e4:k=n:=by omega
   subst e4
   obtain⟨s,hs⟩:∃s,s=L[0]'(by rw [HN.out];exact h1):=⟨_,rfl⟩
   obtain⟨kk,dd,tt⟩:=s
   have hS:SlAt w' b (off+0*3) (kk,dd,tt):=by rw [hs];exact HC.out 0 _
   obtain⟨tv,c1,_,_,_⟩:=hS
   have c1:wr.cell? ⟨b,off,none⟩=some (.int .i64 kk):=(hbel.cell (p:=⟨b,off,none⟩) hlt).trans (by simpa using c1)
   have HS:Hid ((kk,dd,tt)=L[0]'(by rw [HN.out];exact h1)):=hs
   clear hs
   by_cases h0:kk=0
   ·have h0':(kk != 0)=false:=by simp [h0]
    have H0:Hid (kk=0):=h0
    clear h0
    go_wp2_with fail
    go_ret
    exact⟨ret_int (slotsE_ok (by rw [HN.out];exact h1) (by rw [HN.out];exact h40) (fun j h=>HA.out j h (by rw [HN.out] at h;exact h)) (by rw [←HS.out];exact H0.out)).symm,hbel⟩
   ·have h0':(kk != 0)=true:=by simp [h0]
    go_wp2_with fail
    go_ret
    exact⟨ret_int (slotsE_head (by rw [HN.out];exact h1) (by rw [HN.out];exact h40) (by rw [←HS.out];exact h0)).symm,hbel⟩
theorem slotsError_no (ao:Option Addr)(n cap:Nat)(w:World)(h:decide ((1:Int)≤(n:Int)∧(n:Int)≤40)=false) :
  Calls Tryz.prog 76 #[.slice ao n cap] w fun r w'=>r=.returned (.int .i64 2)∧Below w.heap.size w w':=by
 go_enter Tryz.func76,Tryz.ntmps76
 go_wp2_with (go_at_call 75;refine (within_any _ _ _ _).mono ?_;rintro e w' ⟨rfl,hw⟩;subst hw;rw [h])
 go_ret
 exact⟨rfl,Below.refl _ _⟩
theorem slotsError_any (v:Value)(L:List SlotD)(w:World)(h:Slots w v L) :
  Calls Tryz.prog 76 #[v] w fun r w'=>r=.returned (.int .i64 (slotsE L))∧Below w.heap.size w w':=by
 obtain⟨ao,cap,rfl,hm,hcp,hc⟩:=h
 by_cases hn:1≤L.length∧L.length≤40
 ·obtain⟨b,off,rfl,hlt,hcell⟩:=hc (by intro e;rw [e] at hn;simp at hn)
  exact slotsError_at b off cap _ L w rfl hn.1 hn.2 hlt hcell
 ·have e:slotsE L=2:=by unfold slotsE;rw [if_neg hn]
  rw [e]
  exact slotsError_no ao _ cap w (by simp;omega)
theorem slotsError_is {v:Value}{L:List SlotD}{w:World}(h:Slots w v L){E:Int}(hE:slotsE L=E) :
  Calls Tryz.prog 76 #[v] w fun r w'=>r=.returned (.int .i64 E)∧Below w.heap.size w w':=by subst hE;exact slotsError_any v L w h
end Go.Proofs.YtehleeibgkpjmafGreat
namespace Go.Proofs.YtehleeibgkpjmafGreat
open Go.RowKit Go.Shelf
set_option maxRecDepth 20000
theorem shapeOf_many (gm:Int)(ra:Option Addr)(rn rc:Nat)(sa:Option Addr)(sn sc:Nat)(fa:Option Addr)(fn fc:Nat)(na:Option Addr)(nn nc:Nat)(w:World)(hn:decide ((1:Int)≤(sn:Int)∧(sn:Int)≤40)=false∨3<nn)(_h:nn≤9223372036854775807) :
  Calls Tryz.prog 45 #[.agg #[.int .i64 gm,.slice ra rn rc,.slice sa sn sc,.slice fa fn fc,.slice na nn nc]] w fun r w'=>r=.returned (.int .i64 2)∧Below w.heap.size w w':=by
 have b0:Below w.heap.size w (w.alloc (.cells #[.int .i64 gm,.slice ra rn rc,.slice sa sn sc,.slice fa fn fc,.slice na nn nc] 27)):=(Below.refl _ _).alloc (Nat.le_refl _) _
 cases hd:decide ((1:Int)≤(sn:Int)∧(sn:Int)≤40) with
 | false=>
  have HD:Hid (decide ((1:Int)≤(sn:Int)∧(sn:Int)≤40)=false):=hd
  clear hn hd
  go_enter Tryz.func45,Tryz.ntmps45
  go_wp2_with (go_at_call 75;refine (within_any _ _ _ _).mono ?_;rintro e w' ⟨rfl,hw⟩;subst hw;rw [HD.out])
  go_ret
  exact⟨rfl,b0⟩
 | true=>
  have hn3:(3:Int)<(nn:Int):=by
   rcases hn with h | h
   ·rw [hd] at h;cases h
   ·omega
  have HD:Hid (decide ((1:Int)≤(sn:Int)∧(sn:Int)≤40)=true):=hd
  clear hn hd
  go_enter Tryz.func45,Tryz.ntmps45
  go_wp2_with (go_at_call 75;refine (within_any _ _ _ _).mono ?_;rintro e w' ⟨rfl,hw⟩;subst hw;rw [HD.out])
  go_ret
  exact⟨rfl,b0⟩
theorem shapeOf_form (gm:Int)(ra:Option Addr)(rn rc:Nat)(sa:Option Addr)(sn sc:Nat)(fa:Option Addr)(fn fc:Nat)(na:Option Addr)(nn nc:Nat)(L:List SlotD)(E:Int)(w:World)(hd:decide ((1:Int)≤(sn:Int)∧(sn:Int)≤40)=true)(hn:nn≤3)(hs:Slots w (.slice sa sn sc) L)(hE:slotsE L=E)(_hf:fn≤9223372036854775807)(hor:E≠0∨fn≠sn) :
  Calls Tryz.prog 45 #[.agg #[.int .i64 gm,.slice ra rn rc,.slice sa sn sc,.slice fa fn fc,.slice na nn nc]] w fun r w'=>r=.returned (.int .i64 1)∧Below w.heap.size w w':=by
 have b0:Below w.heap.size w (w.alloc (.cells #[.int .i64 gm,.slice ra rn rc,.slice sa sn sc,.slice fa fn fc,.slice na nn nc] 27)):=(Below.refl _ _).alloc (Nat.le_refl _) _
 have m0:(w.alloc (.cells #[.int .i64 gm,.slice ra rn rc,.slice sa sn sc,.slice fa fn fc,.slice na nn nc] 27)).heap[w.heap.size]? = some (.cells #[.int .i64 gm,.slice ra rn rc,.slice sa sn sc,.slice fa fn fc,.slice na nn nc] 27):=World.alloc_heap_new _ _
 have HD:Hid (decide ((1:Int)≤(sn:Int)∧(sn:Int)≤40)=true):=hd
 have hcall:=slotsError_is (hs.below b0) hE
 have hn3:¬(3:Int)<(nn:Int):=by omega
 clear hd hs hE
 by_cases h0:E=0
 ·have hfn:((fn:Int) != (sn:Int))=true:=by
   rcases hor with h | h
   ·exact absurd h0 h
   ·simp;omega
  subst h0
  clear hor
  go_enter Tryz.func45,Tryz.ntmps45
  go_wp2_with (first | (go_at_call 75;refine (within_any _ _ _ _).mono ?_;rintro e w' ⟨rfl,hw⟩;subst hw;rw [HD.out]) | (go_at_call 76;refine hcall.mono ?_;rintro e w1 ⟨rfl,b1⟩;have m1:=cells_below m0 b1 (by simp);obtain⟨c0,c1,c2,c3,c4⟩:=five m1))
  go_ret
  exact⟨rfl,Below.on b0 b1⟩
 ·have hb:(E != 0)=true:=by simp [h0]
  clear hor h0
  go_enter Tryz.func45,Tryz.ntmps45
  go_wp2_with (first | (go_at_call 75;refine (within_any _ _ _ _).mono ?_;rintro e w' ⟨rfl,hw⟩;subst hw;rw [HD.out]) | (go_at_call 76;refine hcall.mono ?_;rintro e w1 ⟨rfl,b1⟩;have m1:=cells_below m0 b1 (by simp);obtain⟨c0,c1,c2,c3,c4⟩:=five m1))
  go_ret
  exact⟨rfl,Below.on b0 b1⟩
theorem isNameOf_is {s:ByteArray}(w:World){B:Bool}(hB:isNm s=B):Calls Tryz.prog 77 #[.string s] w fun r w'=>r=.returned (.bool B)∧w'=w:=by subst hB;exact isNameOf_any s w
set_option linter.unusedSimpArgs false in
set_option maxRecDepth 20000 in
set_option maxHeartbeats 8000000 in
theorem shapeOf_at (gm:Int)(ra:Option Addr)(rn rc:Nat)(sb so:Nat)(sn sc:Nat)(fa:Option Addr)(fn fc:Nat)(na:Option Addr)(nn nc:Nat)(m:ImgD)(E:Int)(w:World)
  (h:Img w (.agg #[.int .i64 gm,.slice ra rn rc,.slice (some ⟨sb,so,none⟩) sn sc,.slice fa fn fc,.slice na nn nc]) m) (hsn:m.slots.length=sn) (hnn:m.snaps.length=nn) (hgm:m.guest=gm) (hn3:nn≤3) (hfs:fn=sn) (hsb:sb<w.heap.size) (hcl:∀j,(h:j<m.slots.length)→SlAt w sb (so+j*3) m.slots[j]) (hs:slotsE m.slots=0)
  (hr:Sl w (.slice ra rn rc) m.root) (hna:∀j,(h:j<m.snaps.length)→∃b off,na=some ⟨b,off,none⟩∧b<w.heap.size∧SnAt w b (off+j*3) m.snaps[j])
  (hE:shapeE m=E) (hrf:m.refs.length=m.slots.length) :
  Calls Tryz.prog 45 #[.agg #[.int .i64 gm,.slice ra rn rc,.slice (some ⟨sb,so,none⟩) sn sc,.slice fa fn fc,.slice na nn nc]] w fun r w'=>r=.returned (.int .i64 E)∧Below w.heap.size w w':=by
 have b0:Below w.heap.size w (w.alloc (.cells #[.int .i64 gm,.slice ra rn rc,.slice (some ⟨sb,so,none⟩) sn sc,.slice fa fn fc,.slice na nn nc] 27)):=(Below.refl _ _).alloc (Nat.le_refl _) _
 have m0:(w.alloc (.cells #[.int .i64 gm,.slice ra rn rc,.slice (some ⟨sb,so,none⟩) sn sc,.slice fa fn fc,.slice na nn nc] 27)).heap[w.heap.size]? = some (.cells #[.int .i64 gm,.slice ra rn rc,.slice (some ⟨sb,so,none⟩) sn sc,.slice fa fn fc,.slice na nn nc] 27):=World.alloc_heap_new _ _
 have hsl:Slots w (.slice (some ⟨sb,so,none⟩) sn sc) m.slots:=by
  obtain⟨_,_,_,_,e,_,h2,_⟩:=h
  simp at e
  obtain⟨_,_,e2,_⟩:=e
  rw [←e2] at h2;exact h2
 have h40:sn≤40:=by rw [←hsn];exact (slotsE_parts hs).2
 have h1s:1≤sn:=by rw [←hsn];exact (slotsE_parts hs).1
 have HD:Hid (decide ((1:Int)≤(sn:Int)∧(sn:Int)≤40)=true):=decide_eq_true (by omega)
 have hse:=slotsError_is (hsl.below b0) hs
 have hn3i:¬(3:Int)<(nn:Int):=by omega
 subst hfs
 have HT:Hid (E=if namesOK m.snaps=false then 1 else tailE m.slots (rootsOf m)):=by
  show _=_
  rw [←hE]
  unfold shapeE tailE
  rw [if_neg (by rw [hnn];omega),if_neg (by simpa using hs)]
  by_cases hN:namesOK m.snaps=false
  ·rw [if_pos (.inr hN),if_pos hN]
  ·rw [if_neg (fun h=>h.elim (fun h=>h hrf) hN),if_neg hN]
 have F1:Hid (∀k,k<nn→nmAt m.snaps k=false→E=1):=fun k hk hb=>by
  rw [HT.out,if_pos (namesOK_bad (by rw [hnn];exact hk) hb)]
 have F2:Hid (namesOK m.snaps=true→∀s ∈ rootsOf m,guestOK s.2.1=false→E=3):=fun hN s hm hg=>by
  rw [HT.out,if_neg (by rw [hN];decide)]
  unfold tailE
  rw [if_pos]
  rw [←Bool.not_eq_true,List.all_eq_true]
  intro hall
  have:=hall s hm
  rw [hg] at this;cases this
 have F3:Hid (namesOK m.snaps=true→(rootsOf m).all (fun s=>guestOK s.2.1)=true→∀n,(hn:n<m.slots.length)→∀i,i<m.slots[n].2.2.length→entP m.slots (m.slots[n].2.2.getD i 0)=false→E=1):=fun hN hG n hn i hi hb=>by
  rw [HT.out,if_neg (by rw [hN];decide)]
  unfold tailE
  rw [if_neg (by rw [hG];decide),if_pos]
  rw [←Bool.not_eq_true,← tabsP_eq hs,List.all_eq_true]
  intro hall
  have:=all_at (hall _ (List.getElem_mem hn)) hi
  rw [hb] at this;cases this
 have F4:Hid (namesOK m.snaps=true→(rootsOf m).all (fun s=>guestOK s.2.1)=true→tabFit m.slots=true→∀s ∈ rootsOf m,rootFit m.slots s.2.1 s.2.2=false→E=1):=fun hN hG hT s hm hb=>by
  rw [HT.out,if_neg (by rw [hN];decide)]
  unfold tailE
  rw [if_neg (by rw [hG];decide),if_neg (by rw [hT];decide),if_pos]
  rw [←Bool.not_eq_true,List.all_eq_true]
  intro hall
  have:=hall s hm
  rw [hb] at this;cases this
 have F5:Hid (namesOK m.snaps=true→(rootsOf m).all (fun s=>guestOK s.2.1)=true→tabFit m.slots=true→(rootsOf m).all (fun s=>rootFit m.slots s.2.1 s.2.2)=true→E=0):=fun hN hG hT hR=>by
  rw [HT.out,if_neg (by rw [hN];decide)]
  unfold tailE
  rw [if_neg (by rw [hG];decide),if_neg (by rw [hT];decide),if_neg (by rw [hR];decide)]
 have H1:Hid (m.slots.length=fn∧m.snaps.length=nn∧m.guest=gm):=⟨hsn,hnn,hgm⟩
 have H2:Hid (∀j,(h:j<m.slots.length)→SlAt w sb (so+j*3) m.slots[j]):=hcl
 have H3:Hid (∀j,(h:j<m.snaps.length)→∃b off,na=some ⟨b,off,none⟩∧b<w.heap.size∧SnAt w b (off+j*3) m.snaps[j]):=hna
 have H4:Hid (slotsE m.slots=0):=hs
 have H6:Hid (Img w (.agg #[.int .i64 gm,.slice ra rn rc,.slice (some ⟨sb,so,none⟩) fn sc,.slice fa fn fc,.slice na nn nc]) m):=h
 have H7:Hid (Sl w (.slice ra rn rc) m.root):=hr
 have hfn0:((fn:Int) != (fn:Int))=false:=by simp
 clear hsn hnn hgm hcl hna hs h hr HT hE hrf hsl
 go_enter Tryz.func45,Tryz.ntmps45
 go_wp2_with (first | (go_at_call 75;refine (within_any _ _ _ _).mono ?_;rintro e w' ⟨rfl,hw⟩;subst hw;rw [HD.out]) | (go_at_call 76;refine hse.mono ?_;rintro e w1 ⟨rfl,b1⟩;have m1:=cells_below m0 b1 (by simp);obtain⟨c0,c1,c2,c3,c4⟩:=five m1))
 clear hse HD
 go_loopw [3] (fun i wr=>∃k:Nat,k≤nn∧i=.int .i64 k∧Hid (∀j,j<k→nmAt m.snaps j=true)∧Below w1.heap.size w1 wr) (fun i _=>nn - (intOf i).toNat)
 case atStart=>exact⟨0,Nat.zero_le _,rfl,fun j hj=>absurd hj (by omega),Below.refl _ _⟩
 case round=>
  obtain⟨k,hk,rfl,HA,hbel⟩:=hrel
  have hszw1:w.heap.size<w1.heap.size:=(szH m1)
  have mr:=cells_below m1 hbel hszw1
  have hbw:=Below.on (Below.on b0 b1) hbel
  clear c0 c1 c2 c3 c4
  obtain⟨c0,c1,c2,c3,c4⟩:=five mr
  by_cases hlk:k<nn
  ·obtain⟨b,off,rfl,hlt,hS⟩:=H3.out k (by rw [H1.out.2.1];exact hlk)
   obtain⟨s,hs⟩:∃s,s=m.snaps[k]'(by rw [H1.out.2.1];exact hlk):=⟨_,rfl⟩
   obtain⟨nm,gg,rr⟩:=s
   rw [←hs] at hS
   obtain⟨rv,s1,s2,s3,hsl⟩:=hS
   have s1:wr.cell? ⟨b,off+k*3,none⟩=some (.string nm):=(hbw.cell (p:=⟨b,off+k*3,none⟩) hlt).trans s1
   have HE:Hid (∀hk0:k=0,nmAt m.snaps k=isNm nm):=fun hk0=>by
    have:=nmAt_0 (L:=m.snaps) (by rw [H1.out.2.1];omega)
    have e:m.snaps[0]'(by rw [H1.out.2.1];omega)=(nm,gg,rr):=by rw [hs];simp [hk0]
    rw [hk0,this,e]
   have HP:Hid (∀hk0:1≤k,∃pn,wr.cell? ⟨b,off+(k - 1)*3,none⟩=some (.string pn)∧nmAt m.snaps k=(isNm nm && Op.bytesLess pn.toList nm.toList)):=fun hk0=>by
    obtain⟨b',off',e,_,hS'⟩:=H3.out (k - 1) (by rw [H1.out.2.1];omega)
    simp at e
    obtain⟨rfl,rfl⟩:=e
    obtain⟨_,d1,_⟩:=hS'
    refine⟨_,(hbw.cell (p:=⟨b,off+(k - 1)*3,none⟩) hlt).trans d1,?_⟩
    rw [nmAt_at (L:=m.snaps) (by rw [H1.out.2.1];exact hlk) hk0,← hs]
   have HGo:Hid (nmAt m.snaps k=true→∀j,j<k+1→nmAt m.snaps j=true):=fun h j hj=>by
    by_cases e:j=k
    ·subst e;exact h
    ·exact HA.out j (by omega)
   have HBad:Hid (nmAt m.snaps k=false→E=1):=F1.out k hlk
   have h3:k=0∨k=1∨k=2:=by omega
   clear hs hsl HA s2 s3 b1 m1
   rcases h3 with rfl | h3
   ·have hki:(0:Int)<(nn:Int):=by omega
    clear hlk
    have s1:wr.cell? ⟨b,off,none⟩=some (.string nm):=s1
    simp only [Int.cast_ofNat_Int]
    have HK:Hid (nmAt m.snaps 0=isNm nm):=HE.out rfl
    clear HE HP
    cases hq:isNm nm with
    | true=>
     go_wp2_with fail
     go_quiet ((go_at_call 77;exact Calls.quiet_of_same (isNameOf_is _ hq)))
     go_wp2_with fail
     go_roundw
     case rel=>exact⟨1,by omega,by rfl,HGo.out (by rw [HK.out];exact hq),⟨hbel.os,hbel.tape,hbel.output,hbel.size,hbel.block⟩⟩
     case measure=>simp [intOf];omega
    | false=>
     have HB1:Hid (E=1):=HBad.out (by rw [HK.out];exact hq)
     go_wp2_with fail
     go_quiet ((go_at_call 77;exact Calls.quiet_of_same (isNameOf_is _ hq)))
     go_wp2_with fail
     go_ret
     exact⟨ret_int HB1.out.symm,⟨hbw.os,hbw.tape,hbw.output,hbw.size,hbw.block⟩⟩
   rcases h3 with rfl | rfl
   ·have hki:(1:Int)<(nn:Int):=by omega
    clear hlk
    have s1:wr.cell? ⟨b,off+3,none⟩=some (.string nm):=s1
    simp only [Int.cast_ofNat_Int]
    obtain⟨pn,d1,hK⟩:=HP.out (by omega)
    have d1:wr.cell? ⟨b,off,none⟩=some (.string pn):=d1
    have HK:Hid (nmAt m.snaps 1=(isNm nm && Op.bytesLess pn.toList nm.toList)):=hK
    have hnl:(0:Int)<(nn:Int):=by omega
    have hnn:0<nn:=by omega
    clear HE HP hK
    cases hq:isNm nm with
    | true=>
     cases hla:Op.bytesLess pn.toList nm.toList with
     | true=>
      go_wp2_with fail
      go_quiet ((go_at_call 77;exact Calls.quiet_of_same (isNameOf_is _ hq)))
      go_wp2_with fail
      go_roundw
      case rel=>exact⟨2,by omega,by rfl,HGo.out (by rw [HK.out,hq,hla];rfl),⟨hbel.os,hbel.tape,hbel.output,hbel.size,hbel.block⟩⟩
      case measure=>simp [intOf];omega
     | false=>
      have HB1:Hid (E=1):=HBad.out (by rw [HK.out,hq,hla];rfl)
      go_wp2_with fail
      go_quiet ((go_at_call 77;exact Calls.quiet_of_same (isNameOf_is _ hq)))
      go_wp2_with fail
      go_ret
      exact⟨ret_int HB1.out.symm,⟨hbw.os,hbw.tape,hbw.output,hbw.size,hbw.block⟩⟩
    | false=>
     have HB1:Hid (E=1):=HBad.out (by rw [HK.out,hq];rfl)
     go_wp2_with fail
     go_quiet ((go_at_call 77;exact Calls.quiet_of_same (isNameOf_is _ hq)))
     go_wp2_with fail
     go_ret
     exact⟨ret_int HB1.out.symm,⟨hbw.os,hbw.tape,hbw.output,hbw.size,hbw.block⟩⟩
   ·have hki:(2:Int)<(nn:Int):=by omega
    clear hlk
    have s1:wr.cell? ⟨b,off+6,none⟩=some (.string nm):=s1
    simp only [Int.cast_ofNat_Int]
    obtain⟨pn,d1,hK⟩:=HP.out (by omega)
    have d1:wr.cell? ⟨b,off+3,none⟩=some (.string pn):=d1
    have HK:Hid (nmAt m.snaps 2=(isNm nm && Op.bytesLess pn.toList nm.toList)):=hK
    have hnl:(1:Int)<(nn:Int):=by omega
    have hnn:1<nn:=by omega
    clear HE HP hK
    cases hq:isNm nm with
    | true=>
     cases hla:Op.bytesLess pn.toList nm.toList with
     | true=>
      go_wp2_with fail
      go_quiet ((go_at_call 77;exact Calls.quiet_of_same (isNameOf_is _ hq)))
      go_wp2_with fail
      go_roundw
      case rel=>exact⟨3,by omega,by rfl,HGo.out (by rw [HK.out,hq,hla];rfl),⟨hbel.os,hbel.tape,hbel.output,hbel.size,hbel.block⟩⟩
      case measure=>simp [intOf];omega
     | false=>
      have HB1:Hid (E=1):=HBad.out (by rw [HK.out,hq,hla];rfl)
      go_wp2_with fail
      go_quiet ((go_at_call 77;exact Calls.quiet_of_same (isNameOf_is _ hq)))
      go_wp2_with fail
      go_ret
      exact⟨ret_int HB1.out.symm,⟨hbw.os,hbw.tape,hbw.output,hbw.size,hbw.block⟩⟩
    | false=>
     have HB1:Hid (E=1):=HBad.out (by rw [HK.out,hq];rfl)
     go_wp2_with fail
     go_quiet ((go_at_call 77;exact Calls.quiet_of_same (isNameOf_is _ hq)))
     go_wp2_with fail
     go_ret
     exact⟨ret_int HB1.out.symm,⟨hbw.os,hbw.tape,hbw.output,hbw.size,hbw.block⟩⟩
  ·have e4:k=nn:=by omega
   subst e4
   have HP1:Hid (namesOK m.snaps=true):=namesOK_good (fun j hj=>HA.out j (by rw [H1.out.2.1] at hj;exact hj))
   clear HA F1
   have HG0:Hid (guestOK gm=decide ((0:Int)≤gm∧gm≤16)):=rfl
   cases hg:guestOK gm with
   | false=>
    have HW:Hid (decide ((0:Int)≤gm∧gm≤16)=false):=hg
    have HB1:Hid (E=3):=F2.out HP1.out (⟨#[]⟩,m.guest,m.root) List.mem_cons_self (by rw [H1.out.2.2];exact hg)
    clear hg
    go_wp2_with (go_at_call 75;refine (within_any _ _ _ _).mono ?_;rintro e w' ⟨rfl,hw⟩;rw [hw];clear hw;rw [HW.out])
    go_ret
    exact⟨ret_int HB1.out.symm,hbw⟩
   | true=>
    have HW:Hid (decide ((0:Int)≤gm∧gm≤16)=true):=hg
    have HGm:Hid (guestOK gm=true):=hg
    clear hg
    go_wp2_with (go_at_call 75;refine (within_any _ _ _ _).mono ?_;rintro e w' ⟨rfl,hw⟩;rw [hw];clear hw;rw [HW.out])
    go_loopw [4] (fun i wq=>∃q:Nat,q≤k∧i=.int .i64 q∧Hid (∀j,(h:j<m.snaps.length)→j<q→guestOK m.snaps[j].2.1=true)∧wq=wr) (fun i _=>k - (intOf i).toNat)
    case atStart=>exact⟨0,Nat.zero_le _,rfl,fun j _ hj=>absurd hj (by omega),rfl⟩
    case round=>
     obtain⟨q,hq,rfl,HA,hw⟩:=hrel
     subst hw
     by_cases hlk:q<k
     ·have hqm:q<m.snaps.length:=by rw [H1.out.2.1];exact hlk
      obtain⟨b,off,rfl,hlt,hS⟩:=H3.out q hqm
      obtain⟨s,hs⟩:∃s,s=m.snaps[q]:=⟨_,rfl⟩
      obtain⟨nm,gg,rr⟩:=s
      rw [←hs] at hS
      obtain⟨rv,s1,s2,s3,hsl⟩:=hS
      have s2:wr.cell? ⟨b,off+q*3+1,none⟩=some (.int .i64 gg):=(hbw.cell (p:=⟨b,off+q*3+1,none⟩) hlt).trans s2
      have hqi:(q:Int)<(k:Int):=by omega
      have HS:Hid (m.snaps[q]=(nm,gg,rr)):=hs.symm
      clear hs hsl s1 s3
      cases hg:guestOK gg with
      | false=>
       have HV:Hid (decide ((0:Int)≤gg∧gg≤16)=false):=hg
       have HB1:Hid (E=3):=F2.out HP1.out (nm,gg,rr) (List.mem_cons_of_mem _ (by rw [←HS.out];exact List.getElem_mem hqm)) hg
       clear hg
       go_wp2_with (go_at_call 75;refine (within_any _ _ _ _).mono ?_;rintro e w' ⟨rfl,hw⟩;rw [hw];clear hw;rw [HV.out])
       go_ret
       exact⟨ret_int HB1.out.symm,hbw⟩
      | true=>
       have HV:Hid (decide ((0:Int)≤gg∧gg≤16)=true):=hg
       have HG1:Hid (guestOK gg=true):=hg
       clear hg
       go_wp2_with (go_at_call 75;refine (within_any _ _ _ _).mono ?_;rintro e w' ⟨rfl,hw⟩;rw [hw];clear hw;rw [HV.out])
       go_roundw
       case rel=>exact⟨q+1,by omega,by go_num,fun j hj hj1=>by
        by_cases e:j=q
        ·subst e;rw [HS.out];exact HG1.out
        ·exact HA.out j hj (by omega),trivial⟩
       case measure=>simp [intOf];omega
     ·have HG:Hid ((rootsOf m).all (fun s=>guestOK s.2.1)=true):=by
       show _=_
       unfold rootsOf
       rw [List.all_cons,H1.out.2.2,HGm.out,Bool.true_and,List.all_eq_true]
       intro s hs
       obtain⟨j,hj,rfl⟩:=List.getElem_of_mem hs
       exact HA.out j hj (by rw [H1.out.2.1] at hj;omega)
      have e4:q=k:=by omega
      subst e4
      clear HA F2 HG0
      go_wp2_with fail
      obtain⟨wa,hrn⟩:∃X,X=wr:=⟨_,rfl⟩
      subst hrn
      go_loopw [5,6,7] (fun i _ _ wq=>∃n:Nat,n≤fn∧i=.int .i64 n∧Hid (∀j,(h:j<m.slots.length)→j<n→m.slots[j].2.2.all (entP m.slots)=true)∧Below wa.heap.size wa wq) (fun i _ _ _=>fn - (intOf i).toNat)
      case atStart=>exact⟨0,Nat.zero_le _,rfl,fun j _ hj=>absurd hj (by omega),Below.refl _ _⟩
      case round=>
       obtain⟨n,hn,rfl,HA,hbq⟩:=hrel
       obtain⟨wq,hrn⟩:∃X,X=wr:=⟨_,rfl⟩
       subst hrn
       have hszr:w.heap.size<wa.heap.size:=(szH mr)
       have mq:=cells_below mr hbq hszr
       have hbwq:=Below.on hbw hbq
       clear c0 c1 c2 c3 c4
       obtain⟨c0,c1,c2,c3,c4⟩:=five mq
       by_cases hln:n<fn
       ·have hnm:n<m.slots.length:=by rw [H1.out.1];exact hln
        have hni:(n:Int)<(fn:Int):=by omega
        obtain⟨s,hs⟩:∃s,s=m.slots[n]:=⟨_,rfl⟩
        obtain⟨kk,dd,tt⟩:=s
        have hS:=H2.out n hnm
        rw [←hs] at hS
        obtain⟨tv,s1,s2,s3,hsl⟩:=hS
        obtain⟨ta,tc,rfl⟩:=hsl.form
        have ht4:tt.length≤4:=by
         have:=tab4 H4.out n
         unfold tabOf at this
         simpa [List.getD,hnm,← hs] using this
        have s3:wq.cell? ⟨sb,so+n*3+2,none⟩=some (.slice ta tt.length tc):=(hbwq.cell (p:=⟨sb,so+n*3+2,none⟩) hsb).trans s3
        have HS:Hid (m.slots[n]=(kk,dd,tt)):=hs.symm
        have HTc:Hid (∀j,j<tt.length→∃b off,ta=some ⟨b,off,none⟩∧b<w.heap.size∧w.cell? ⟨b,off+j,none⟩=some (.int .i64 (tt.getD j 0))):=hsl.cells.2.2.2
        have F3n:Hid (∀i,i<tt.length→entP m.slots (tt.getD i 0)=false→E=1):=fun i hi he=>F3.out HP1.out HG.out n hnm i (by rw [HS.out];exact hi) (by rw [HS.out];exact he)
        obtain⟨tn,htn⟩:∃tn,tt.length=tn:=⟨_,rfl⟩
        have HTn:Hid (tt.length=tn):=htn
        rw [htn] at s3 ht4 HTc F3n
        clear hs hsl s1 s2 htn
        go_wp2_with fail
        go_loopw [7] (fun i wp=>∃u:Nat,u≤tn∧i=.int .i64 u∧Hid (∀j,j<u→entP m.slots (tt.getD j 0)=true)∧Below wq.heap.size wq wp) (fun i _=>tn - (intOf i).toNat)
        case atStart=>exact⟨0,Nat.zero_le _,rfl,fun j hj=>absurd hj (by omega),Below.refl _ _⟩
        case round=>
         obtain⟨u,hu,rfl,HI,hbp⟩:=hrel
         obtain⟨wp,hrn⟩:∃X,X=wr:=⟨_,rfl⟩
         subst hrn
         have hszq:w.heap.size<wq.heap.size:=(szH mq)
         have mp:=cells_below mq hbp hszq
         have hbwp:=Below.on hbwq hbp
         clear c0 c1 c2 c3 c4
         obtain⟨c0,c1,c2,c3,c4⟩:=five mp
         by_cases hun:u<tn
         ·obtain⟨b,off,rfl,hlt,hcx⟩:=HTc.out u hun
          have hui:(u:Int)<(tn:Int):=by omega
          obtain⟨x,hx⟩:∃x,tt.getD u 0=x:=⟨_,rfl⟩
          rw [hx] at hcx
          have HX:Hid (tt.getD u 0=x):=hx
          have cx:wp.cell? ⟨b,off+u,none⟩=some (.int .i64 x):=(hbwp.cell (p:=⟨b,off+u,none⟩) hlt).trans hcx
          have hbwr:b<wp.heap.size:=Nat.lt_of_lt_of_le hlt hbwp.size
          have hszp:w.heap.size<wp.heap.size:=(szH mp)
          clear hx hcx
          by_cases hx0:0<x
          ·obtain⟨K,hK⟩:∃K,kindN m.slots x=K:=⟨_,rfl⟩
           have hcall:=fun W (hW:Below w.heap.size w W)=>kindOf_is (H6.out.below hW) (by rw [H1.out.1];omega) x hK
           have HK:Hid (kindN m.slots x=K):=hK
           clear hK
           cases hK1:K != 1 with
           | true=>
            have HB1:Hid (E=1):=F3n.out u hun (by rw [HX.out];unfold entP;rw [HK.out,hK1,decide_eq_true hx0];rfl)
            go_wp2_with fail
            go_region_held3 (fun w'=>w'.cell? ⟨w.heap.size,0,none⟩=some (.int .i64 gm)∧w'.cell? ⟨w.heap.size,0+1,none⟩=some (.slice ra rn rc)∧w'.cell? ⟨w.heap.size,0+1+1,none⟩=some (.slice (some ⟨sb,so,none⟩) fn sc)∧w'.cell? ⟨w.heap.size,0+1+1+1,none⟩=some (.slice fa fn fc)∧w'.cell? ⟨w.heap.size,0+1+1+1+1,none⟩=some (.slice na q nc)∧w'.cell? ⟨b,off+u,none⟩=some (.int .i64 x)) (first | exact⟨c0,c1,c2,c3,c4,cx⟩ | exact⟨d0,d1,d2,d3,d4,e1⟩)
             (first | (go_at_call 78;refine (hcall _ (to_drew hbwp)).mono ?_;rintro e w2 ⟨rfl,b2⟩;have b2:=below_drew b2;have m2:=cells_below mp b2 hszp;obtain⟨d0,d1,d2,d3,d4⟩:=five m2;have e1:=(b2.cell (p:=⟨b,off+u,none⟩) hbwr).trans cx))
            go_wp2_with fail
            go_ret
            exact⟨ret_int HB1.out.symm,Below.on hbwp b2⟩
           | false=>
            have HOK:Hid (entP m.slots x=true):=by show _=_;unfold entP;rw [HK.out,hK1];simp
            go_wp2_with fail
            go_region_held3 (fun w'=>w'.cell? ⟨w.heap.size,0,none⟩=some (.int .i64 gm)∧w'.cell? ⟨w.heap.size,0+1,none⟩=some (.slice ra rn rc)∧w'.cell? ⟨w.heap.size,0+1+1,none⟩=some (.slice (some ⟨sb,so,none⟩) fn sc)∧w'.cell? ⟨w.heap.size,0+1+1+1,none⟩=some (.slice fa fn fc)∧w'.cell? ⟨w.heap.size,0+1+1+1+1,none⟩=some (.slice na q nc)∧w'.cell? ⟨b,off+u,none⟩=some (.int .i64 x)) (first | exact⟨c0,c1,c2,c3,c4,cx⟩ | exact⟨d0,d1,d2,d3,d4,e1⟩)
             (first | (go_at_call 78;refine (hcall _ (to_drew hbwp)).mono ?_;rintro e w2 ⟨rfl,b2⟩;have b2:=below_drew b2;have m2:=cells_below mp b2 hszp;obtain⟨d0,d1,d2,d3,d4⟩:=five m2;have e1:=(b2.cell (p:=⟨b,off+u,none⟩) hbwr).trans cx))
            go_wp2_with fail
            go_roundw
            case rel=>exact⟨u+1,by omega,by go_num,fun j hj=>by
             by_cases e:j=u
             ·subst e;rw [HX.out];exact HOK.out
             ·exact HI.out j (by omega),Below.on hbp b2⟩
            case measure=>simp [intOf];omega
          ·have hx1:x≤0:=by omega
           have hxd:decide (0<x)=false:=decide_eq_false hx0
           have HOK:Hid (entP m.slots x=true):=by show _=_;unfold entP;rw [decide_eq_false hx0];rfl
           go_wp2_with fail
           go_quiet (fail)
           go_wp2_with fail
           go_roundw
           case rel=>exact⟨u+1,by omega,by go_num,fun j hj=>by
            by_cases e:j=u
            ·subst e;rw [HX.out];exact HOK.out
            ·exact HI.out j (by omega),⟨hbp.os,hbp.tape,hbp.output,hbp.size,hbp.block⟩⟩
           case measure=>simp [intOf];omega
         ·have e5:u=tn:=by omega
          subst e5
          go_wp2_with fail
          go_roundw
          case rel=>exact⟨n+1,by omega,by go_num,fun j hj hj1=>by
           by_cases e:j=n
           ·subst e;rw [HS.out,List.all_eq_true]
            intro y hy
            obtain⟨i,hi,rfl⟩:=List.getElem_of_mem hy
            have:=HI.out i (by rw [←HTn.out];exact hi)
            simpa [List.getD,hi] using this
           ·exact HA.out j hj (by omega),Below.on hbq hbp⟩
          case measure=>simp [intOf];omega
       ·have HT:Hid (tabFit m.slots=true):=by
         show _=_
         rw [←tabsP_eq H4.out,List.all_eq_true]
         intro s hs
         obtain⟨j,hj,rfl⟩:=List.getElem_of_mem hs
         exact HA.out j hj (by rw [H1.out.1] at hj;omega)
        have e5:n=fn:=by omega
        clear HA F3
        have hcall:=rootFine_is (H6.out.below hbwq) H4.out HGm.out (H7.out.below hbwq) (rfl:rootFit m.slots gm m.root=_)
        cases hrt:rootFit m.slots gm m.root with
        | false=>
         rw [hrt] at hcall
         have HB1:Hid (E=1):=F4.out HP1.out HG.out HT.out (⟨#[]⟩,m.guest,m.root) List.mem_cons_self (by rw [H1.out.2.2];exact hrt)
         clear hrt
         subst e5
         go_wp2_with (go_at_call 79;refine hcall.mono ?_;rintro e w2 ⟨rfl,b2⟩)
         go_ret
         exact⟨ret_int HB1.out.symm,Below.on hbwq b2⟩
        | true=>
         rw [hrt] at hcall
         have HR0:Hid (rootFit m.slots gm m.root=true):=hrt
         clear hrt
         subst e5
         go_wp2_with (go_at_call 79;refine hcall.mono ?_;rintro e w2 ⟨rfl,b2⟩)
         have hszq:w.heap.size<wq.heap.size:=(szH mq)
         have m2:=cells_below mq b2 hszq
         have hbw2:=Below.on hbwq b2
         clear hcall
         go_loopw [8] (fun i wp=>∃u:Nat,u≤q∧i=.int .i64 u∧Hid (∀j,(h:j<m.snaps.length)→j<u→rootFit m.slots m.snaps[j].2.1 m.snaps[j].2.2=true)∧Below w2.heap.size w2 wp) (fun i _=>q - (intOf i).toNat)
         case atStart=>exact⟨0,Nat.zero_le _,rfl,fun j _ hj=>absurd hj (by omega),Below.refl _ _⟩
         case round=>
          obtain⟨u,hu,rfl,HA,hbp⟩:=hrel
          obtain⟨wp,hrn⟩:∃X,X=wr:=⟨_,rfl⟩
          subst hrn
          have hsz2:w.heap.size<w2.heap.size:=(szH m2)
          have mp:=cells_below m2 hbp hsz2
          have hbwp:=Below.on hbw2 hbp
          clear c0 c1 c2 c3 c4
          obtain⟨c0,c1,c2,c3,c4⟩:=five mp
          have hszp:w.heap.size<wp.heap.size:=(szH mp)
          by_cases hlu:u<q
          ·have hum:u<m.snaps.length:=by rw [H1.out.2.1];exact hlu
           obtain⟨b,off,rfl,hlt,hS⟩:=H3.out u hum
           obtain⟨s,hs⟩:∃s,s=m.snaps[u]:=⟨_,rfl⟩
           obtain⟨nm,gg,rr⟩:=s
           rw [←hs] at hS
           obtain⟨rv,s1,s2,s3,hsl⟩:=hS
           have hmem:(nm,gg,rr) ∈ rootsOf m:=List.mem_cons_of_mem _ (by rw [hs];exact List.getElem_mem hum)
           have hgg:guestOK gg=true:=List.all_eq_true.1 HG.out _ hmem
           have hbwr:b<wp.heap.size:=Nat.lt_of_lt_of_le hlt hbwp.size
           have s2:wp.cell? ⟨b,off+u*3+1,none⟩=some (.int .i64 gg):=(hbwp.cell (p:=⟨b,off+u*3+1,none⟩) hlt).trans s2
           have s3:wp.cell? ⟨b,off+u*3+2,none⟩=some rv:=(hbwp.cell (p:=⟨b,off+u*3+2,none⟩) hlt).trans s3
           obtain⟨va,vc,rfl⟩:=hsl.form
           have hui:(u:Int)<(q:Int):=by omega
           obtain⟨B,hB⟩:∃B,rootFit m.slots gg rr=B:=⟨_,rfl⟩
           have hcall:=fun W (hW:Below w.heap.size w W)=>rootFine_is (H6.out.below hW) H4.out hgg (hsl.below hW) hB
           have HS:Hid (m.snaps[u]=(nm,gg,rr)∧rootFit m.slots gg rr=B∧(nm,gg,rr) ∈ rootsOf m):=⟨hs.symm,hB,hmem⟩
           clear hs hsl s1 hB hgg hmem
           go_wp2_with fail
           go_region_held3 (fun w'=>w'.cell? ⟨w.heap.size,0,none⟩=some (.int .i64 gm)∧w'.cell? ⟨w.heap.size,0+1,none⟩=some (.slice ra rn rc)∧w'.cell? ⟨w.heap.size,0+1+1,none⟩=some (.slice (some ⟨sb,so,none⟩) n sc)∧w'.cell? ⟨w.heap.size,0+1+1+1,none⟩=some (.slice fa n fc)∧w'.cell? ⟨w.heap.size,0+1+1+1+1,none⟩=some (.slice (some ⟨b,off,none⟩) q nc)∧w'.cell? ⟨b,off+u*3+1,none⟩=some (.int .i64 gg)∧w'.cell? ⟨b,off+u*3+2,none⟩=some (.slice va rr.length vc)) (first | exact⟨c0,c1,c2,c3,c4,s2,s3⟩ | exact⟨d0,d1,d2,d3,d4,e1,e2⟩)
            (first | (go_at_call 79;refine (hcall _ (to_drew hbwp)).mono ?_;rintro e w3 ⟨rfl,b3⟩;have b3:=below_drew b3;have m3:=cells_below mp b3 hszp;obtain⟨d0,d1,d2,d3,d4⟩:=five m3;have e1:=(b3.cell (p:=⟨b,off+u*3+1,none⟩) hbwr).trans s2;have e2:=(b3.cell (p:=⟨b,off+u*3+2,none⟩) hbwr).trans s3))
           cases B with
           | false=>
            have HB1:Hid (E=1):=F4.out HP1.out HG.out HT.out _ HS.out.2.2 HS.out.2.1
            go_wp2_with fail
            go_ret
            exact⟨ret_int HB1.out.symm,Below.on hbwp b3⟩
           | true=>
            go_wp2_with fail
            go_roundw
            case rel=>exact⟨u+1,by omega,by go_num,fun j hj hj1=>by
             by_cases e:j=u
             ·subst e;rw [HS.out.1];exact HS.out.2.1
             ·exact HA.out j hj (by omega),Below.on hbp b3⟩
            case measure=>simp [intOf];omega
          ·have HR:Hid ((rootsOf m).all (fun s=>rootFit m.slots s.2.1 s.2.2)=true):=by
            show _=_
            unfold rootsOf
            rw [List.all_cons,H1.out.2.2,HR0.out,Bool.true_and,List.all_eq_true]
            intro s hs
            obtain⟨j,hj,rfl⟩:=List.getElem_of_mem hs
            exact HA.out j hj (by rw [H1.out.2.1] at hj;omega)
           have HB1:Hid (E=0):=F5.out HP1.out HG.out HT.out HR.out
           have e6:u=q:=by omega
           subst e6
           go_wp2_with fail
           go_ret
           exact⟨ret_int HB1.out.symm,hbwp⟩
theorem Snaps.at {w:World}{sa:Option Addr}{n sc:Nat}{L:List SnapD}(h:Snaps w (.slice sa n sc) L):∀j,(h:j<L.length)→∃sb so,sa=some ⟨sb,so,none⟩∧sb<w.heap.size∧SnAt w sb (so+j*3) L[j]:=by
 intro j hj
 obtain⟨sb,so,sc',e,_,hsb,hcl⟩:=h.open (by omega)
 simp at e
 exact⟨sb,so,e.1,hsb,hcl j hj⟩
theorem shapeOf_is {w:World}{v:Value}{m:ImgD}(h:Img w v m){E:Int}(hE:shapeE m=E) :
  Calls Tryz.prog 45 #[v] w fun r w'=>r=.returned (.int .i64 E)∧Below w.heap.size w w':=by
 have h':=h
 obtain⟨ra,rc,sa,sc,fa,fc,na,nc,rfl,h1,h2,h3,h4⟩:=h.parts
 by_cases hm:decide ((1:Int)≤(m.slots.length:Int)∧(m.slots.length:Int)≤40)=false∨3<m.snaps.length
 ·have e2:E=2:=by
   rw [←hE]
   unfold shapeE
   by_cases h3:3<m.snaps.length
   ·rw [if_pos h3]
   ·have hd:=hm.resolve_right h3
    have:slotsE m.slots=2:=by
     unfold slotsE
     rw [if_neg]
     intro hh
     rw [decide_eq_true (by omega)] at hd;cases hd
    rw [if_neg h3,this,if_pos (by decide)]
  subst e2
  exact shapeOf_many m.guest ra _ rc sa _ sc fa _ fc na _ nc w hm h4.small
 ·have hd:decide ((1:Int)≤(m.slots.length:Int)∧(m.slots.length:Int)≤40)=true:=by
   cases e:decide ((1:Int)≤(m.slots.length:Int)∧(m.slots.length:Int)≤40) with
   | true=>rfl
   | false=>exact absurd (.inl e) hm
  have h3':m.snaps.length≤3:=by
   rcases Nat.lt_or_ge 3 m.snaps.length with h | h
   ·exact absurd (.inr h) hm
   ·exact h
  by_cases hor:slotsE m.slots≠0∨m.refs.length≠m.slots.length
  ·have e1:E=1:=by
    rw [←hE]
    unfold shapeE
    rw [if_neg (by omega)]
    by_cases hs:slotsE m.slots=0
    ·rw [if_neg (by simpa using hs),if_pos (.inl (hor.resolve_left (by simpa using hs)))]
    ·rw [if_pos hs]
     rcases slotsE_012 m.slots with h | h | h
     ·exact absurd h hs
     ·exact h
     ·exfalso
      unfold slotsE at h
      simp only [decide_eq_true_eq] at hd
      rw [if_pos (by omega)] at h
      split at h <;> simp at h
   subst e1
   exact shapeOf_form m.guest ra _ rc sa _ sc fa _ fc na _ nc m.slots _ w hd h3' h2 rfl h3.small hor
  ·have hs:slotsE m.slots=0:=Classical.byContradiction fun e=>hor (.inl e)
   have hr:m.refs.length=m.slots.length:=Classical.byContradiction fun e=>hor (.inr e)
   have hp:=slotsE_parts hs
   obtain⟨sb,so,sc',e,hcp,hlt,hcell⟩:=h2.open hp.1
   simp at e
   obtain⟨rfl,rfl⟩:=e
   exact shapeOf_at m.guest ra _ rc sb so _ sc fa _ fc na _ nc m E w h' rfl rfl rfl h3' hr hlt hcell hs h1 h4.at hE hr
def rl (n:Nat) (f:Nat→Int):List Int:=(List.range n).map f
theorem rl_length (n:Nat)(f:Nat→Int):(rl n f).length=n:=by simp [rl]
theorem rl_get {n:Nat}{f:Nat→Int}{j:Nat}(h:j<n):(rl n f).getD j 0=f j:=by simp [rl,List.getD,h]
theorem rl_set {n k:Nat}{f g:Nat→Int}{x:Int}(hx:g k=x)(h:∀j,j<n→j≠k→g j=f j):(rl n f).set k x=rl n g:=by
 subst hx
 apply List.ext_getElem
 ·simp [rl]
 ·intro j h1 h2
  have hj:j<n:=by simpa [rl] using h2
  rw [List.getElem_set]
  by_cases e:k=j
  ·subst e;simp [rl]
  ·rw [if_neg e];simp [rl];exact (h j hj (fun x=>e x.symm)).symm
theorem rl_congr {n:Nat}{f g:Nat→Int}(h:∀j,j<n→f j=g j):rl n f=rl n g:=List.map_congr_left fun j hj=>h j (List.mem_range.1 hj)
theorem rl_of {l:List Int}{n:Nat}(h:l.length=n):l=rl n (fun j=>l.getD j 0):=by
 subst h
 apply List.ext_getElem
 ·simp [rl]
 ·intro j h1 h2;simp [rl,List.getD,h1]
def f1 (P:List Int) (k j:Nat):Int:=if 1≤j∧j<k then ((P.count (j:Int):Nat):Int) else 0
def g1 (P:List Int) (j:Nat):Int:=if 1≤j then ((P.count (j:Int):Nat):Int) else 0
def g2 (L:List SlotD) (P:List Int) (n j:Nat):Int:=if 1≤j∧j<n∧kd L j=1 then ((sumT L P j:Nat):Int) else 0
def f2 (L:List SlotD) (P:List Int) (n j:Nat):Int:=g1 P j+g2 L P n j
theorem g1_pos {P:List Int}{j:Nat}(h:1≤j):g1 P j=((P.count (j:Int):Nat):Int):=by unfold g1;rw [if_pos h]
theorem g2_yes {L:List SlotD}{P:List Int}{n j:Nat}(h:1≤j∧j<n∧kd L j=1):g2 L P n j=((sumT L P j:Nat):Int):=by unfold g2;rw [if_pos h]
theorem g2_no {L:List SlotD}{P:List Int}{n j:Nat}(h:¬(1≤j∧j<n∧kd L j=1)):g2 L P n j=0:=by unfold g2;rw [if_neg h]
theorem g2_next {L:List SlotD}{P:List Int}{n j:Nat}(h:j≠n∨kd L n≠1):g2 L P n j=g2 L P (n+1) j:=by
 by_cases c:1≤j∧j<n∧kd L j=1
 ·rw [g2_yes c,g2_yes ⟨c.1,by omega,c.2.2⟩]
 ·rw [g2_no c,g2_no]
  rintro ⟨d1,d2,d3⟩
  refine c ⟨d1,?_,d3⟩
  rcases Nat.lt_or_ge j n with h' | h'
  ·exact h'
  ·have:j=n:=by omega
   subst this
   rcases h with h | h
   ·exact absurd rfl h
   ·exact absurd d3 h
def sT (L:List SlotD) (P:List Int) (n k:Nat):Nat:=((List.range k).map (toldT L P n)).sum
def f3 (L:List SlotD) (P:List Int) (n k j:Nat):Int:=if j=n then ((P.count (n:Int)+sT L P n k:Nat):Int) else f2 L P n j
theorem sT_succ (L:List SlotD)(P:List Int)(n k:Nat):sT L P n (k+1)=sT L P n k+toldT L P n k:=by
 unfold sT;rw [List.range_succ,List.map_append,List.sum_append];simp
theorem sT_one {L:List SlotD}(hs:slotsE L=0)(P:List Int)(n:Nat):sT L P n 1=0:=by
 rw [sT_succ];unfold sT toldT;rw [if_neg (by rw [slot0 hs];simp)];rfl
theorem sT_le {L:List SlotD}(h:slotsE L=0)(P:List Int)(n:Nat):∀k,sT L P n k≤4*k
 | 0=>Nat.le_refl _
 | k+1=>by
  rw [sT_succ]
  have:=sT_le h P n k
  have:toldT L P n k≤4:=by
   unfold toldT
   split
   ·exact Nat.le_trans List.count_le_length (tab4 h k)
   ·omega
  omega
theorem f3_same {L:List SlotD}{P:List Int}{n q:Nat}(sn:Nat)(h:toldT L P n q=0):rl sn (f3 L P n q)=rl sn (f3 L P n (q+1)):=rl_congr fun j _=>by
 unfold f3;rw [sT_succ,h];rfl
theorem only_drew {g:Nat}{A B:World}(h:Only g A B):Only g A B.drew:=⟨h.os,h.tape,h.output,h.size,h.block⟩
theorem f12 (L:List SlotD)(P:List Int)(sn:Nat):rl sn (f1 P sn)=rl sn (f2 L P 1):=rl_congr fun j hj=>by
 unfold f1 f2
 rw [g2_no (by omega)]
 unfold g1
 by_cases h:1≤j
 ·rw [if_pos ⟨h,hj⟩,if_pos h];simp
 ·rw [if_neg (by omega),if_neg h];rfl
theorem f23 {L:List SlotD}(hs:slotsE L=0)(P:List Int)(sn n:Nat)(hn:1≤n):rl sn (f2 L P n)=rl sn (f3 L P n 1):=rl_congr fun j _=>by
 unfold f3
 by_cases e:j=n
 ·subst e;rw [if_pos rfl,sT_one hs];unfold f2;rw [g1_pos hn,g2_no (by omega)];simp
 ·rw [if_neg e]
theorem f32 {L:List SlotD}(P:List Int)(n:Nat)(hn:1≤n)(hk:kd L n=1):rl L.length (f3 L P n L.length)=rl L.length (f2 L P (n+1)):=rl_congr fun j _=>by
 unfold f3
 by_cases e:j=n
 ·subst e;rw [if_pos rfl];unfold f2;rw [g1_pos hn,g2_yes ⟨hn,by omega,hk⟩];unfold sT sumT;omega
 ·rw [if_neg e];unfold f2
  rw [g2_next (.inl e)]
theorem f22 {L:List SlotD}(P:List Int)(sn n:Nat)(hk:kd L n≠1):rl sn (f2 L P n)=rl sn (f2 L P (n+1)):=rl_congr fun j _=>by
 unfold f2
 rw [g2_next (.inr hk)]
theorem f2_end {m:ImgD}(h:shapeE m=0):rl m.slots.length (f2 m.slots (flatR m) m.slots.length)=cntL m:=by
 rw [rl_of (cntL_length m)]
 refine rl_congr fun j hj=>?_
 rw [cntL_get h j hj]
 obtain⟨z1,z2,z3,z4,z5,z6,z7⟩:=shapeE_zero h
 unfold f2 cntI
 by_cases h1:1≤j
 ·rw [g1_pos h1,if_neg (by omega)]
  by_cases hk:kd m.slots j=1
  ·rw [g2_yes ⟨h1,hj,hk⟩];omega
  ·rw [g2_no (fun d=>hk d.2.2),sumT_no z6 _ h1 hk];omega
 ·rw [g2_no (by omega),if_pos (by omega)];unfold g1;rw [if_neg h1];rfl
theorem flatR_take (m:ImgD)(q:Nat)(hq:q<m.snaps.length):(m.root ++ (m.snaps.take (q+1)).flatMap (fun s=>s.2.2))=(m.root ++ (m.snaps.take q).flatMap (fun s=>s.2.2)) ++ m.snaps[q].2.2:=by
 rw [List.take_add_one,List.getElem?_eq_getElem hq,Option.toList_some,List.flatMap_append,List.append_assoc];simp
theorem flatR_all (m:ImgD):m.root ++ (m.snaps.take m.snaps.length).flatMap (fun s=>s.2.2)=flatR m:=by
 rw [List.take_length];rfl
theorem roots4 {m:ImgD}(h:shapeE m=0):∀s ∈ rootsOf m,s.2.2.length≤4:=fun s hs=>by
 obtain⟨z1,z2,z3,z4,z5,z6,z7⟩:=shapeE_zero h
 have h1:=List.all_eq_true.1 z7 s hs
 have h2:=List.all_eq_true.1 z5 s hs
 unfold rootFit at h1
 unfold guestOK at h2
 simp only [Bool.and_eq_true,decide_eq_true_eq] at h1 h2
 omega
set_option linter.unusedSimpArgs false in
set_option maxRecDepth 20000 in
set_option maxHeartbeats 8000000 in
theorem countsOf_at (gm:Int)(ra:Option Addr)(rn rc:Nat)(sb so:Nat)(sn sc:Nat)(fa:Option Addr)(fn fc:Nat)(na:Option Addr)(nn nc:Nat)(m:ImgD)(w:World)
  (hsn:m.slots.length=sn) (hnn:m.snaps.length=nn) (hsb:sb<w.heap.size) (hcl:∀j,(h:j<m.slots.length)→SlAt w sb (so+j*3) m.slots[j])
  (hr:Sl w (.slice ra rn rc) m.root) (hna:∀j,(h:j<m.snaps.length)→∃b off,na=some ⟨b,off,none⟩∧b<w.heap.size∧SnAt w b (off+j*3) m.snaps[j])
  (hE:shapeE m=0) :
  Calls Tryz.prog 46 #[.agg #[.int .i64 gm,.slice ra rn rc,.slice (some ⟨sb,so,none⟩) sn sc,.slice fa fn fc,.slice na nn nc]] w fun r w'=>(r=.returned (.slice (some ⟨w.heap.size+1,0,none⟩) sn sn)∧LAt w' (w.heap.size+1) (cntL m))∧Below w.heap.size w w':=by
 have b0:Below w.heap.size w (w.alloc (.cells #[.int .i64 gm,.slice ra rn rc,.slice (some ⟨sb,so,none⟩) sn sc,.slice fa fn fc,.slice na nn nc] 27)):=(Below.refl _ _).alloc (Nat.le_refl _) _
 have m0:(w.alloc (.cells #[.int .i64 gm,.slice ra rn rc,.slice (some ⟨sb,so,none⟩) sn sc,.slice fa fn fc,.slice na nn nc] 27)).heap[w.heap.size]? = some (.cells #[.int .i64 gm,.slice ra rn rc,.slice (some ⟨sb,so,none⟩) sn sc,.slice fa fn fc,.slice na nn nc] 27):=World.alloc_heap_new _ _
 obtain⟨z1,z2,z3,z4,z5,z6,z7⟩:=shapeE_zero hE
 have h40:sn≤40:=by rw [←hsn];exact (slotsE_parts z2).2
 have h1s:1≤sn:=by rw [←hsn];exact (slotsE_parts z2).1
 have hn3:nn≤3:=by rw [←hnn];exact z1
 have hmk:=mk_ints sn h40
 have m1:=cells_alloc m0 (.cells (Array.replicate sn (.int .i64 0)) 3)
 have b1:Below w.heap.size w ((w.alloc (.cells #[.int .i64 gm,.slice ra rn rc,.slice (some ⟨sb,so,none⟩) sn sc,.slice fa fn fc,.slice na nn nc] 27)).alloc (.cells (Array.replicate sn (.int .i64 0)) 3)):=b0.alloc b0.size _
 have l1:LAt ((w.alloc (.cells #[.int .i64 gm,.slice ra rn rc,.slice (some ⟨sb,so,none⟩) sn sc,.slice fa fn fc,.slice na nn nc] 27)).alloc (.cells (Array.replicate sn (.int .i64 0)) 3)) (w.heap.size+1) (rl sn (f1 (flatR m) 1)):=by
  have:=World.alloc_heap_new (w.alloc (.cells #[.int .i64 gm,.slice ra rn rc,.slice (some ⟨sb,so,none⟩) sn sc,.slice fa fn fc,.slice na nn nc] 27)) (.cells (Array.replicate sn (.int .i64 0)) 3)
  show _=_
  have e:rl sn (f1 (flatR m) 1)=List.replicate sn 0:=by
   rw [rl_of (l:=List.replicate sn 0) (n:=sn) (by simp)]
   exact rl_congr fun j hj=>by unfold f1;rw [if_neg (by omega)];simp [List.getD,hj]
  rw [e]
  simpa using this
 have H1:Hid (m.slots.length=sn∧m.snaps.length=nn):=⟨hsn,hnn⟩
 have H2:Hid (∀j,(h:j<m.slots.length)→SlAt w sb (so+j*3) m.slots[j]):=hcl
 have H3:Hid (∀j,(h:j<m.snaps.length)→∃b off,na=some ⟨b,off,none⟩∧b<w.heap.size∧SnAt w b (off+j*3) m.snaps[j]):=hna
 have H4:Hid (slotsE m.slots=0∧tabFit m.slots=true):=⟨z2,z6⟩
 have H5:Hid (∀s ∈ rootsOf m,s.2.2.length≤4):=roots4 hE
 have H6:Hid (shapeE m=0):=hE
 have H7:Hid (Sl w (.slice ra rn rc) m.root):=hr
 clear z1 z2 z3 z4 z5 z6 z7 hsn hnn hcl hna hE hr
 go_enter Tryz.func46,Tryz.ntmps46
 go_wp2_with fail
 obtain⟨W1,hW1⟩:∃W1,(w.alloc (.cells #[.int .i64 gm,.slice ra rn rc,.slice (some ⟨sb,so,none⟩) sn sc,.slice fa fn fc,.slice na nn nc] 27)).alloc (.cells (Array.replicate sn (.int .i64 0)) 3)=W1:=⟨_,rfl⟩
 have hg0:(w.alloc (.cells #[.int .i64 gm,.slice ra rn rc,.slice (some ⟨sb,so,none⟩) sn sc,.slice fa fn fc,.slice na nn nc] 27)).heap.size=w.heap.size+1:=by simp
 have hzW:W1.heap.size=w.heap.size+1+1:=by rw [←hW1];simp
 have hz1:w.heap.size+1<W1.heap.size:=by omega
 rw [hW1] at m1 b1 l1 ⊢
 clear hmk hzW hW1 m0 b0 hg0
 go_loopw [4,5,6] (fun i _ _ wq=>∃k:Nat,1≤k∧k≤sn∧i=.int .i64 k∧LAt wq (w.heap.size+1) (rl sn (f1 (flatR m) k))∧Only (w.heap.size+1) W1 wq) (fun i _ _ _=>sn - (intOf i).toNat)
 case atStart=>exact⟨1,by omega,by omega,rfl,l1,Only.refl _ _⟩
 case round=>
  obtain⟨k,hk1,hk,rfl,hL,hO⟩:=hrel
  obtain⟨wa,hrn⟩:∃X,X=wr:=⟨_,rfl⟩
  subst hrn
  have mr:=hO.cellsAt (by omega) m1
  obtain⟨c0,c1,c2,c3,c4⟩:=five mr
  have hbw:Below w.heap.size w wa:=b1.trans (hO.below (by omega))
  by_cases hlk:k<sn
  ·have hki:(k:Int)<(sn:Int):=by omega
   have hrt:=H7.out.below hbw
   have hcall:=told_is hrt (by have:=H5.out (⟨#[]⟩,m.guest,m.root) List.mem_cons_self;simp at this;omega) (k:Int) (rfl:((m.root.count (k:Int):Nat):Int)=_)
   have hc4:m.root.count (k:Int)≤4:=by
    have h1:=H5.out (⟨#[]⟩,m.guest,m.root) List.mem_cons_self
    have h2:m.root.count (k:Int)≤m.root.length:=List.count_le_length
    simp at h1;omega
   obtain⟨u0,hu0⟩:∃u,m.root.count (k:Int)=u:=⟨_,rfl⟩
   have HU0:Hid (m.root.count (k:Int)=u0):=hu0
   rw [hu0] at hcall hc4
   clear hrt hu0
   go_wp2_with (go_at_call 80;refine hcall.mono ?_;rintro e w' ⟨rfl,hw⟩;rw [hw];clear hw)
   go_loopw [5,6] (fun c i wq=>∃q u:Nat,q≤nn∧u≤4+4*q∧i=.int .i64 q∧c=.int .i64 u∧Hid (u=(m.root ++ (m.snaps.take q).flatMap (fun s=>s.2.2)).count (k:Int))∧wq=wa) (fun _ i _=>nn - (intOf i).toNat)
   case atStart=>exact⟨0,u0,Nat.zero_le _,by omega,rfl,rfl,by show _=_;rw [←HU0.out];simp,rfl⟩
   case round=>
    obtain⟨q,u,hq,hu,rfl,rfl,HU,hw⟩:=hrel
    subst hw
    obtain⟨wb,hrn⟩:∃X,X=wr:=⟨_,rfl⟩
    subst hrn
    by_cases hlq:q<nn
    ·have hqm:q<m.snaps.length:=by rw [H1.out.2];exact hlq
     obtain⟨b,off,rfl,hlt,hS⟩:=H3.out q hqm
     obtain⟨s,hs⟩:∃s,s=m.snaps[q]:=⟨_,rfl⟩
     obtain⟨nm,gg,rr⟩:=s
     rw [←hs] at hS
     obtain⟨rv,s1,s2,s3,hsl⟩:=hS
     have hqi:(q:Int)<(nn:Int):=by omega
     have s3:wb.cell? ⟨b,off+q*3+2,none⟩=some rv:=(hbw.cell (p:=⟨b,off+q*3+2,none⟩) hlt).trans s3
     obtain⟨va,vc,rfl⟩:=hsl.form
     have hr4:rr.length≤4:=H5.out (nm,gg,rr) (List.mem_cons_of_mem _ (by rw [hs];exact List.getElem_mem hqm))
     have hslr:Sl w (.slice va rr.length vc) rr:=hsl
     have hcall2:=told_is (hslr.below hbw) (show rr.length≤1000000 by omega) (k:Int) (rfl:((rr.count (k:Int):Nat):Int)=_)
     have hv4:rr.count (k:Int)≤4:=Nat.le_trans List.count_le_length hr4
     have HT:Hid ((m.root ++ (m.snaps.take (q+1)).flatMap (fun s=>s.2.2)).count (k:Int)=u+rr.count (k:Int)):=by
      show _=_
      rw [flatR_take m q hqm,List.count_append,← HU.out,← hs]
     obtain⟨v,hv⟩:∃v,rr.count (k:Int)=v:=⟨_,rfl⟩
     rw [hv] at hcall2 hv4 HT
     clear hs hsl hslr s1 s2 hv hcall
     go_wp2_with (go_at_call 80;refine hcall2.mono ?_;rintro e w' ⟨rfl,hw⟩;rw [hw];clear hw)
     go_roundw
     case rel=>exact⟨q+1,u+v,by omega,by omega,by go_num,by go_num,by show _=_;rw [HT.out],trivial⟩
     case measure=>simp [intOf];omega
    ·have HE:Hid (u=(flatR m).count (k:Int)):=by
      show _=_
      rw [HU.out,← flatR_all,H1.out.2]
      have e:q=nn:=by omega
      rw [e]
     have e5:q=nn:=by omega
     subst e5
     have hcx:wb.cell? ⟨w.heap.size+1,k,none⟩=some (.int .i64 ((rl sn (f1 (flatR m) k)).getD k 0)):=hL.cell (by rw [rl_length];exact hlk)
     have hfx:=hL.frozen k
     clear hcall
     go_wp2_with fail
     go_roundw
     case rel=>exact⟨k+1,by omega,by omega,by go_num,by
      have:=hL.set k (u:Int)
      rwa [rl_set (g:=f1 (flatR m) (k+1)) (by unfold f1;rw [if_pos ⟨hk1,by omega⟩,← HE.out]) (fun j _ hj=>by
       unfold f1
       by_cases c:1≤j∧j<k
       ·rw [if_pos ⟨c.1,by omega⟩,if_pos c]
       ·rw [if_neg (fun d=>c ⟨d.1,by omega⟩),if_neg c])] at this,hO.trans (Only.set _ _ _ _)⟩
     case measure=>simp [intOf];omega
  ·have e5:k=sn:=by omega
   subst e5
   rw [f12 m.slots] at hL
   go_wp2_with fail
   go_loopw [7,8] (fun i _ wq=>∃n:Nat,1≤n∧n≤k∧i=.int .i64 n∧LAt wq (w.heap.size+1) (rl k (f2 m.slots (flatR m) n))∧Only (w.heap.size+1) W1 wq) (fun i _ _=>k - (intOf i).toNat)
   case atStart=>exact⟨1,by omega,by omega,rfl,hL,hO⟩
   case round=>
    clear hL hO mr c0 c1 c2 c3 c4 hbw
    obtain⟨n,hn1,hn,rfl,hL,hO⟩:=hrel
    obtain⟨wc,hrn⟩:∃X,X=wr:=⟨_,rfl⟩
    subst hrn
    have mr:=hO.cellsAt (by omega) m1
    obtain⟨c0,c1,c2,c3,c4⟩:=five mr
    have hbw:Below w.heap.size w wc:=b1.trans (hO.below (by omega))
    by_cases hln:n<k
    ·have hni:(n:Int)<(k:Int):=by omega
     have hnm:n<m.slots.length:=by rw [H1.out.1];exact hln
     obtain⟨tv,s1,_,_,_⟩:=H2.out n hnm
     have ekd:m.slots[n].1=kd m.slots n:=by unfold kd;simp [List.getD,hnm]
     rw [ekd] at s1
     obtain⟨K,hK⟩:∃K,kd m.slots n=K:=⟨_,rfl⟩
     rw [hK] at s1
     have s1:wc.cell? ⟨sb,so+n*3,none⟩=some (.int .i64 K):=(hbw.cell (p:=⟨sb,so+n*3,none⟩) hsb).trans s1
     have HK:Hid (kd m.slots n=K):=hK
     clear hK ekd
     by_cases hK1:K=1
     ·have hKb:(K != 1)=false:=by simp [hK1]
      have HK1:Hid (K=1):=hK1
      clear hK1
      rw [f23 H4.out.1 _ _ _ hn1] at hL
      go_wp2_with fail
      go_loopw [8] (fun i wq=>∃q:Nat,1≤q∧q≤k∧i=.int .i64 q∧LAt wq (w.heap.size+1) (rl k (f3 m.slots (flatR m) n q))∧Only (w.heap.size+1) W1 wq) (fun i _=>k - (intOf i).toNat)
      case atStart=>exact⟨1,by omega,by omega,rfl,hL,hO⟩
      case round=>
       clear hL hO mr c0 c1 c2 c3 c4 hbw
       obtain⟨q,hq1,hq,rfl,hL,hO⟩:=hrel
       obtain⟨wd,hrn⟩:∃X,X=wr:=⟨_,rfl⟩
       subst hrn
       have mr:=hO.cellsAt (by omega) m1
       obtain⟨c0,c1,c2,c3,c4⟩:=five mr
       have hbw:Below w.heap.size w wd:=b1.trans (hO.below (by omega))
       clear s1
       by_cases hlq:q<k
       ·have hqi:(q:Int)<(k:Int):=by omega
        have hqm:q<m.slots.length:=by rw [H1.out.1];exact hlq
        obtain⟨tv,t1,_,t3,hsl⟩:=H2.out q hqm
        have ekd:m.slots[q].1=kd m.slots q:=by unfold kd;simp [List.getD,hqm]
        rw [ekd] at t1
        obtain⟨Q,hQ⟩:∃Q,kd m.slots q=Q:=⟨_,rfl⟩
        rw [hQ] at t1
        have t1:wd.cell? ⟨sb,so+q*3,none⟩=some (.int .i64 Q):=(hbw.cell (p:=⟨sb,so+q*3,none⟩) hsb).trans t1
        have t3:wd.cell? ⟨sb,so+q*3+2,none⟩=some tv:=(hbw.cell (p:=⟨sb,so+q*3+2,none⟩) hsb).trans t3
        have HQ:Hid (kd m.slots q=Q):=hQ
        clear hQ ekd
        by_cases hQ2:Q=2
        ·have hQb:(Q == 2)=true:=by simp [hQ2]
         have hnq:q≠n:=fun e=>by
          subst e
          have:=HQ.out;rw [HK.out,HK1.out,hQ2] at this;cases this
         have hcq:wd.cell? ⟨w.heap.size+1,q,none⟩=some (.int .i64 (((flatR m).count (q:Int):Nat):Int)):=by
          rw [hL.cell (by rw [rl_length];exact hlq),rl_get hlq]
          unfold f3 f2
          rw [if_neg hnq,g1_pos hq1,g2_no (fun d=>by have:=d.2.2;rw [HQ.out,hQ2] at this;cases this)];simp
         obtain⟨cq,hcq'⟩:∃c,(flatR m).count (q:Int)=c:=⟨_,rfl⟩
         rw [hcq'] at hcq
         have HCQ:Hid ((flatR m).count (q:Int)=cq):=hcq'
         have HQ2:Hid (Q=2):=hQ2
         clear hcq' hQ2
         by_cases hpos:0<cq
         ·have hposi:(0:Int)<(cq:Int):=by omega
          have etab:m.slots[q].2.2=tabOf m.slots q:=by unfold tabOf;simp [List.getD,hqm]
          rw [etab] at hsl
          have ht4:=tab4 H4.out.1 (q:Int)
          obtain⟨va,vc,rfl⟩:=hsl.form
          obtain⟨tl,htl⟩:∃tl,tabOf m.slots q=tl:=⟨_,rfl⟩
          have HTL:Hid (tabOf m.slots q=tl):=htl
          rw [htl] at t3 hsl ht4
          have hcall:=fun W (hW:Below w.heap.size w W)=>told_is (hsl.below hW) (by omega) (n:Int) (rfl:((tl.count (n:Int):Nat):Int)=_)
          have hv4:tl.count (n:Int)≤4:=Nat.le_trans List.count_le_length ht4
          obtain⟨v,hv⟩:∃v,tl.count (n:Int)=v:=⟨_,rfl⟩
          rw [hv] at hcall hv4
          have HT:Hid (sT m.slots (flatR m) n (q+1)=sT m.slots (flatR m) n q+v):=by
           show _=_
           rw [sT_succ]
           unfold toldT
           rw [if_pos ⟨by rw [HQ.out,HQ2.out],by rw [←List.count_pos_iff,HCQ.out];exact hpos⟩,HTL.out,hv]
          have hcn:wd.cell? ⟨w.heap.size+1,n,none⟩=some (.int .i64 (((flatR m).count (n:Int)+sT m.slots (flatR m) n q:Nat):Int)):=by
           rw [hL.cell (by rw [rl_length];exact hln),rl_get hln]
           unfold f3
           rw [if_pos rfl]
          have hle:(flatR m).count (n:Int)+sT m.slots (flatR m) n q≤0+160:=by
           rw [root_no (flatR_root H6.out) hn1 (by rw [HK.out,HK1.out];decide)]
           have:=sT_le H4.out.1 (flatR m) n q
           omega
          obtain⟨x,hx⟩:∃x,(flatR m).count (n:Int)+sT m.slots (flatR m) n q=x:=⟨_,rfl⟩
          rw [hx] at hcn hle
          have HX:Hid ((flatR m).count (n:Int)+sT m.slots (flatR m) n q=x):=hx
          have hfx:=hL.frozen n
          clear hsl htl hv hx etab
          go_wp2_with fail
          go_region_with (go_at_call 80;refine (hcall _ (to_drew hbw)).mono ?_;rintro e w' ⟨rfl,hw⟩;rw [hw];clear hw)
          all_goals
           go_wp2_with fail
           go_roundw
           case rel=>exact⟨q+1,by omega,by omega,by go_num,by
            have hL':LAt wd.drew (w.heap.size+1) (rl k (f3 m.slots (flatR m) n q)):=hL
            have:=hL'.set n ((x:Int)+(v:Int))
            rwa [rl_set (g:=f3 m.slots (flatR m) n (q+1)) (by unfold f3;rw [if_pos rfl,HT.out,← Nat.add_assoc,HX.out];omega) (fun j _ hj=>by unfold f3;rw [if_neg hj,if_neg hj])] at this,(only_drew hO).trans (Only.set _ _ _ _)⟩
           case measure=>simp [intOf];omega
         ·have hposi:¬(0:Int)<(cq:Int):=by omega
          have HZ:Hid (toldT m.slots (flatR m) n q=0):=by
           show _=_
           unfold toldT
           rw [if_neg]
           intro d
           have:=List.count_pos_iff.2 d.2
           rw [HCQ.out] at this
           exact hpos this
          go_wp2_with fail
          go_roundw
          case rel=>exact⟨q+1,by omega,by omega,by go_num,by rw [←f3_same _ HZ.out];exact hL,hO⟩
          case measure=>simp [intOf];omega
        ·have hQb:(Q == 2)=false:=by simp [hQ2]
         have HZ:Hid (toldT m.slots (flatR m) n q=0):=by
          show _=_
          unfold toldT
          rw [if_neg]
          intro d
          exact hQ2 (by rw [←HQ.out];exact d.1)
         clear hQ2
         go_wp2_with fail
         go_roundw
         case rel=>exact⟨q+1,by omega,by omega,by go_num,by rw [←f3_same _ HZ.out];exact hL,hO⟩
         case measure=>simp [intOf];omega
       ·have e6:q=k:=by omega
        subst e6
        have hL2:LAt wd (w.heap.size+1) (rl q (f2 m.slots (flatR m) (n+1))):=by
         have:=f32 (flatR m) n hn1 (by rw [HK.out,HK1.out])
         rw [H1.out.1] at this
         rw [←this];exact hL
        go_wp2_with fail
        go_roundw
        case rel=>exact⟨n+1,by omega,by omega,by go_num,hL2,hO⟩
        case measure=>simp [intOf];omega
     ·have hKb:(K != 1)=true:=by simp [hK1]
      have HK1:Hid (kd m.slots n≠1):=by show _≠_;rw [HK.out];exact hK1
      clear hK1
      go_wp2_with fail
      go_roundw
      case rel=>exact⟨n+1,by omega,by omega,by go_num,by rw [←f22 _ _ _ HK1.out];exact hL,hO⟩
      case measure=>simp [intOf];omega
    ·have e6:n=k:=by omega
     subst e6
     have hL2:LAt wc (w.heap.size+1) (cntL m):=by
      rw [←f2_end H6.out,H1.out.1];exact hL
     go_wp2_with fail
     go_ret
     exact⟨⟨rfl,hL2⟩,hbw⟩
theorem countsOf_is {w:World}{v:Value}{m:ImgD}(h:Img w v m)(hE:shapeE m=0) :
  Calls Tryz.prog 46 #[v] w fun r w'=>(r=.returned (.slice (some ⟨w.heap.size+1,0,none⟩) m.slots.length m.slots.length)∧LAt w' (w.heap.size+1) (cntL m))∧Below w.heap.size w w':=by
 obtain⟨ra,rc,sa,sc,fa,fc,na,nc,rfl,h1,h2,_,h4⟩:=h.parts
 have hp:=slotsE_parts (shapeE_zero hE).2.1
 obtain⟨sb,so,sc',e,hcp,hlt,hcell⟩:=h2.open hp.1
 simp at e
 obtain⟨rfl,rfl⟩:=e
 exact countsOf_at m.guest ra _ rc sb so _ sc fa _ fc na _ nc m w rfl rfl hlt hcell h1 h4.at hE
end Go.Proofs.YtehleeibgkpjmafGreat
