/- Texts joined: Counts, CopyI, RefA, RefB, TCheck, CntF, RefP, RefC, BareIn, SlotErr. -/
import Derived.Test.YtjfkfnjigofmpaaGreatRestImagesJ2
import Derived.Test.YtjfkfnjigofmpaaGreatRestImagesJ1
import Derived.Maps.AppendAt
import Derived.Deep.AppendLies
import Derived.Deep.QuietTactic
import Derived.BigQuiet
import Derived.Deep.RegionHeld3
set_option linter.unusedVariables false
set_option linter.unusedSimpArgs false
set_option maxHeartbeats 200000000
set_option maxRecDepth 20000
namespace Go.Proofs.YtjfkfnjigofmpaaGreat
open Go.RowKit Go.Shelf
attribute [local go_sem] Oper.semAt_some
theorem Qlz:(Tryz.prog.info? 3).map (fun i=>(i.zero,i.size,i.bytes))=some (some (.int .i64 0),1,8):=by kernel_rfl
theorem Qfm (n:Nat)(hn:n≤40)(W:World):(Instr.makeSlice 22 (.int .i64 (n:Int)) (.int .i64 (n:Int))).run Tryz.prog W=.ok (.slice (some ⟨W.heap.size,0,none⟩) n n) (W.alloc (.cells ((List.replicate n (0:Int)).map (Value.int .i64)).toArray 3)):=by
 have hi:=Qlz
 cases h:Tryz.prog.info? 3 with
 | none=>rw [h] at hi;cases hi
 | some i=>
  rw [h] at hi;simp at hi
  have:=run_make (P:=Tryz.prog) W 22 3 i (.int .i64 0) Tryz.underlying22 h hi.1 .i64 .i64 n n (by omega) (by omega) (by rw [hi.2.2];omega) (by omega);rw [this,hi.2.1];have e:madeCells (Value.int .i64 0).cells (((n:Int)).toNat*1)=((List.replicate n (0:Int)).map (Value.int .i64)).toArray:=by
   apply Array.ext
   ·simp [madeCells]
   ·intro j h1 h2;simp [madeCells,Value.cells,Nat.mod_one]
  rw [e];simp
abbrev QeZ (w:World) (L:List Qag):Type:={ p:QfK × Qav // Rt w p.1 p.2∧Qas L p.2.2.1 p.2.2.2=true∧Qay p.2.2.1=true }
theorem Qhf {w:World}{L:List Qag} : ∀ (zs:List (QgP w)),(∀x ∈ zs,Qas L x.1.2.2.1 x.1.2.2.2=true∧Qay x.1.2.2.1=true)→∃ys:List (QeZ w L),ys.map (fun x=>x.1.1)=zs.map (fun x=>x.1.1)∧ys.map (fun x=>x.1.2)=zs.map (fun x=>x.1.2)
 | [],_=>⟨[],rfl,rfl⟩
 | x :: zs,h=>by
  obtain⟨ys,h1,h2⟩:=Qhf zs (fun y hy=>h y (List.mem_cons_of_mem _ hy));exact⟨⟨x.1,x.2,h x List.mem_cons_self⟩ :: ys,by rw [List.map_cons,List.map_cons,h1],by rw [List.map_cons,List.map_cons,h2]⟩
def Qdr {w:World} (L:List Qag) (pre:List (QeZ w L)):List Int:=(pre.flatMap (fun x=>x.1.2.2.2)).foldl (stepC L) (List.replicate L.length 0)
theorem Qko {w:World}(L:List Qag)(pre:List (QeZ w L))(x:QeZ w L):Qdr L (pre ++ [x])=x.1.2.2.2.foldl (stepC L) (Qdr L pre):=by
 unfold Qdr;rw [List.flatMap_append,List.foldl_append];simp
theorem QdG (L:List Qag)(r:List Int):∀l:List Int,(r.foldl (stepC L) l).length=l.length:=by
 induction r with
 | nil=>exact fun l=>rfl
 | cons k r ih=>exact fun l=>by rw [List.foldl_cons,ih,Qev]
theorem Qhg {w:World}(L:List Qag)(pre:List (QeZ w L)):(Qdr L pre).length=L.length:=by unfold Qdr;rw [QdG];simp
theorem tab4 {L:List Qag}(h:Qap L=0)(k:Int):(Qaz L k).length≤4:=by
 unfold Qaz
 by_cases hk:k.toNat<L.length
 ·have:=QaF h hk;have e:L.getD k.toNat default=L[k.toNat]:=by simp [List.getD,hk]
  rw [e];unfold okD QaZ at this
  split at this
  ·simp at this;rw [this.2];exact Nat.zero_le _
  ·split at this
   ·simp at this;rw [this.2];exact Nat.zero_le _
   ·split at this
    ·simp at this;have:=Qa7 this.1;omega
    ·cases this
 ·have e:L.getD k.toNat default=default:=by simp [List.getD,hk]
  rw [e];exact Nat.zero_le _
theorem Bnd.stepC {L:List Qag}(h:Qap L=0){l:List Int}{B:Nat}(hb:Bnd l B)(k:Int):Bnd (stepC L l k) (B+5):=by
 unfold Go.Proofs.YtjfkfnjigofmpaaGreat.stepC
 split
 ·exact hb.mono (by omega)
 ·split
  ·exact ((hb.inc k).pagesC).mono (by have:=tab4 h k;omega)
  ·exact (hb.inc k).mono (by omega)
theorem Bnd.fold {L:List Qag}(h:Qap L=0):∀ {r l:List Int} {B:Nat},Bnd l B→Bnd (r.foldl (Go.Proofs.YtjfkfnjigofmpaaGreat.stepC L) l) (B+5*r.length)
 | [],_,_,hb=>hb
 | k :: r,l,B,hb=>by
  have:=Bnd.fold h (r:=r) (hb.stepC h k);exact this.mono (by simp;omega)
theorem QpK {w:World}{L:List Qag}(x:QeZ w L):x.1.2.2.2.length≤4:=by
 have h:=x.2.2.1;have hg:=x.2.2.2;unfold Qas at h;unfold Qay at hg;simp only [Bool.and_eq_true,decide_eq_true_eq] at h hg;omega
theorem Qpo {w:World}{L:List Qag}(x:QeZ w L):x.1.2.2.2.all (Qbf L)=true:=by
 have h:=x.2.2.1;unfold Qas at h;simp only [Bool.and_eq_true] at h;exact h.2.1
theorem Qi6 {w:World}{L:List Qag} : ∀pre:List (QeZ w L),(pre.flatMap (fun x=>x.1.2.2.2)).length≤4*pre.length
 | []=>Nat.zero_le _
 | x :: pre=>by
  have h1:=Qi6 pre;have h2:=QpK x;rw [List.flatMap_cons,List.length_append,List.length_cons];omega
theorem Bnd.gone {w:World}{L:List Qag}(h:Qap L=0)(pre:List (QeZ w L)):Bnd (Qdr L pre) (20*pre.length):=by
 unfold Qdr;exact (Bnd.fold h (Bnd.zero L.length)).mono (by have:=Qi6 pre;omega)
theorem QlN (L:List Qag)(l r:List Int)(k:Nat)(hk:k<r.length):(r.take (k+1)).foldl (stepC L) l=stepC L ((r.take k).foldl (stepC L) l) (r.getD k 0):=by
 have e:r.getD k 0=r[k]:=by simp [List.getD,hk]
 rw [List.take_add_one,List.getElem?_eq_getElem hk,Option.toList_some,List.foldl_append,e]
 rfl
theorem Only.cellsAt {g B:Nat}{W W':World}{A:Array Value}{t:TypeId}{fr:Nat × Nat}(h:Only g W W')(hne:B≠g)(hb:W.heap[B]? = some (.cells A t fr)):W'.heap[B]? = some (.cells A t fr):=(h.block B hne).trans hb
theorem Only.keepsFrom {g n:Nat}{l:List Int}{W W':World}(h:Only g W W')(hl:LAt W g l):KeepsFrom n W W':=⟨Nat.le_of_eq h.size.symm,fun k o _ hk ho=>by
 by_cases e:k=g
 ·subst e;rw [show W.heap[k]? = _ from hl] at hk
  cases hk
  cases ho
 ·exact (h.block k e).trans hk⟩
structure CI (w:World) (sn g:Nat) (box:Obj) (l:List Int) (W:World):Prop where
 l:LAt W g l
 x:Boxed W (g+1) 22 (.slice (some ⟨g,0,none⟩) sn sn)
 m:W.heap[w.heap.size]? = some box
 k:W.heap[g+1+1]? = some box
 b:Below w.heap.size w W
 z:g+1+1+1≤W.heap.size
theorem CI.own {w:World}{sn g:Nat}{box:Obj}{l:List Int}{X Y:World}{row:Option Nat}(h:CI w sn g box l X)(hg:X.grownBy Y row)(hr:∀r,row=some r→∃o:Obj,X.heap[r]? = some o∧o.isCells=false)(hz:∀r,row=some r→g+1+1<r∧w.heap.size<r):CI w sn g box l Y:=by
 refine⟨Qct h.l hg hr,Qct h.x hg hr,(hg.block _ (Array.getElem?_eq_some_iff.1 h.m).1 (fun e=>?_)).trans h.m,(hg.block _ (Array.getElem?_eq_some_iff.1 h.k).1 (fun e=>?_)).trans h.k,h.b.grown hg h.b.size (fun k e=>Nat.le_of_lt (hz k e).2),Nat.le_trans h.z hg.size⟩
 ·have:=(hz _ e.symm).2;omega
 ·have:=(hz _ e.symm).1;omega
theorem CI.alloc {w:World}{sn g:Nat}{box:Obj}{l:List Int}{X:World}(h:CI w sn g box l X)(o:Obj):CI w sn g box l (X.alloc o):=h.own (World.grownBy_alloc X o none) (by simp) (by simp)
theorem CI.only {w:World}{sn g:Nat}{box:Obj}{l l':List Int}{X Y:World}(h:CI w sn g box l X)(ho:Only g X Y)(hl:LAt Y g l')(hg:w.heap.size<g):CI w sn g box l' Y:=
 ⟨hl,(ho.block _ (by omega)).trans h.x,(ho.block _ (by omega)).trans h.m,(ho.block _ (by omega)).trans h.k,h.b.trans (ho.below (Nat.le_of_lt hg)),by rw [ho.size];exact h.z⟩
theorem QkF (gm:Int)(ra:Option Addr)(rn rc:Nat)(sa:Option Addr)(sn sc:Nat)(fa:Option Addr)(fn fc:Nat)(na:Option Addr)(nn nc:Nat)(m:ImgD)(E:Int)(w:World)(h:Img w (Value.agg (bI gm ra rn rc sa sn sc fa fn fc na nn nc)) m)(hE:Qao m=E)(hne:(E != 0)=true) :
  Calls Tryz.prog 67 #[Value.agg (bI gm ra rn rc sa sn sc fa fn fc na nn nc)] w fun r w'=>r=.returned (.tuple #[nl,.int .i64 E])∧Below w.heap.size w w':=by
 have b0:Below w.heap.size w (w.alloc (.cells (bI gm ra rn rc sa sn sc fa fn fc na nn nc) 26)):=bA;have hcall:=Qjt (h.below b0) hE;clear h hE;refine (callsIn_wide (n:=9)).1 ?_;refine callsIn_of_wp_marks Tryz.func67 rfl trivial ?_ rfl;simp only [Tryz.ntmps67,List.size_toArray,List.length_cons,List.length_nil,Nat.reduceAdd,Nat.reduceSub,Array.replicate_succ,Array.replicate_zero,List.push_toArray,List.append_toArray,List.nil_append,List.cons_append]
 gi_wp2_with (refine⟨trivial,?_⟩;gi_at_call 93;refine (callsIn_wide.2 hcall).mono ?_;rintro e w1 ⟨rfl,b1⟩)
 refine⟨_,results_tmp2 rfl _ _ _,rfl,Below.on b0 b1⟩
set_option maxRecDepth 100000 in
theorem QmL (gm:Int)(ra:Option Addr)(rn rc:Nat)(sb so:Nat)(sn sc:Nat)(fa:Option Addr)(fn fc:Nat)(na:Option Addr)(nn nc:Nat)(r:List Int)(L:List Qag)(S:List Qav)(refs:List Int)(w:World)(hr:Sl w (.slice ra rn rc) r)(hs:QaQ w (.slice (some ⟨sb,so,none⟩) sn sc) L)(hf:Sl w (.slice fa fn fc) refs)(hS:QbG w (.slice na nn nc) S)(hsn:L.length=sn)(hsn40:sn≤40)(hsb:sb<w.heap.size)(hcl:∀j,(h:j<L.length)→SlAt w sb (so+j*3) L[j])
  (hE:Qao ⟨gm,r,L,refs,S⟩=0) (hLs:Qap L=0) (hS3:S.length≤3) (hT:QaV L=true) (hG:((⟨#[]⟩,gm,r) :: S).all (fun s=>Qay s.2.1)=true) (hF:((⟨#[]⟩,gm,r) :: S).all (fun s=>Qas L s.2.1 s.2.2)=true) :
  Calls Tryz.prog 67 #[Value.agg #[.int .i64 gm,.slice ra rn rc,.slice (some ⟨sb,so,none⟩) sn sc,.slice fa fn fc,.slice na nn nc]] w fun e w'=>(∃g,w.heap.size≤g∧e=.returned (.tuple #[.slice (some ⟨g,0,none⟩) sn sn,.int .i64 0])∧LAt w' g ((((⟨#[]⟩,gm,r) :: S).flatMap (fun s=>s.2.2)).foldl (stepC L) (List.replicate L.length 0)))∧Below w.heap.size w w':=by
 have b0:Below w.heap.size w (w.alloc (.cells #[.int .i64 gm,.slice ra rn rc,.slice (some ⟨sb,so,none⟩) sn sc,.slice fa fn fc,.slice na nn nc] 26)):=bA;have m0:(w.alloc (.cells #[.int .i64 gm,.slice ra rn rc,.slice (some ⟨sb,so,none⟩) sn sc,.slice fa fn fc,.slice na nn nc] 26)).heap[w.heap.size]? = some (.cells #[.int .i64 gm,.slice ra rn rc,.slice (some ⟨sb,so,none⟩) sn sc,.slice fa fn fc,.slice na nn nc] 26):=zHn _ _;have hI:Img w (Value.agg #[.int .i64 gm,.slice ra rn rc,.slice (some ⟨sb,so,none⟩) sn sc,.slice fa fn fc,.slice na nn nc]) ⟨gm,r,L,refs,S⟩:=⟨_,_,_,_,rfl,hr,hs,hf,hS⟩;have hcall:=Qjt (hI.below b0) hE;have hmk:=Qfm sn hsn40;clear hI hE hf;refine (callsIn_wide (n:=9)).1 ?_;refine callsIn_of_wp_marks Tryz.func67 rfl trivial ?_ rfl;simp only [Tryz.ntmps67,List.size_toArray,List.length_cons,List.length_nil,Nat.reduceAdd,Nat.reduceSub,Array.replicate_succ,Array.replicate_zero,List.push_toArray,List.append_toArray,List.nil_append,List.cons_append]
 gi_wp2_with (first
  | (refine⟨trivial,?_⟩;gi_at_call 93;refine (callsIn_wide.2 hcall).mono ?_;rintro e w1 ⟨rfl,b1⟩;have m1:=Qab m0 b1 (by simp);obtain⟨c0,c1,c2,c3,c4⟩:=five m1;have m2:=Qac (Qac m1 (.cells (Array.replicate sn (.int .i64 0)) 3)) (.cells #[.slice (some ⟨w1.heap.size,0,none⟩) sn sn] 22);obtain⟨d0,d1,d2,d3,d4⟩:=five m2)
  | (refine⟨trivial,?_⟩;gi_at_call 94;refine (Qgq Fence.wide _ trivial rfl _ _ _ _ _ _).mono ?_;rintro e w3 ⟨rfl,rfl⟩))
 have hbw1:=Below.on b0 b1;have hmlt:w.heap.size<w1.heap.size:=(szH m1);obtain⟨Wm,hWm⟩:∃Wm,(w1.alloc (.cells (Array.replicate sn (.int .i64 0)) 3)).alloc (.cells #[.slice (some ⟨w1.heap.size,0,none⟩) sn sn] 22)=Wm:=⟨_,rfl⟩;have l2:LAt Wm w1.heap.size (List.replicate sn 0):=by
  rw [←hWm];have:=Qac (World.alloc_heap_new w1 (.cells (Array.replicate sn (.int .i64 0)) 3)) (.cells #[.slice (some ⟨w1.heap.size,0,none⟩) sn sn] 22)
  show _=_
  rw [this];simp
 have x2:Boxed Wm (w1.heap.size+1) 22 (.slice (some ⟨w1.heap.size,0,none⟩) sn sn):=by
  rw [←hWm];have:=Boxed.new (w1.alloc (.cells (Array.replicate sn (.int .i64 0)) 3)) 22 (.slice (some ⟨w1.heap.size,0,none⟩) sn sn)
  simpa using this
 have hb2:Below w.heap.size w Wm:=by
  rw [←hWm];exact (hbw1.alloc hbw1.size _).alloc (by have:=hbw1.size;simp;omega) _
 have hz2:Wm.heap.size=w1.heap.size+1+1:=by rw [←hWm];simp
 rw [hWm] at m2 d0 d1 d2 d3 d4 ⊢;have hz2a:=Nat.le_of_eq hz2;have hz2b:=Nat.le_of_eq hz2.symm;have m3:(Wm.alloc (.cells #[.int .i64 gm,.slice ra rn rc,.slice (some ⟨sb,so,none⟩) sn sc,.slice fa fn fc,.slice na nn nc] 26)).heap[w1.heap.size+1+1]? = some (.cells #[.int .i64 gm,.slice ra rn rc,.slice (some ⟨sb,so,none⟩) sn sc,.slice fa fn fc,.slice na nn nc] 26):=by rw [←hz2];exact zHn _ _
 have m3':=Qac m2 (.cells #[.int .i64 gm,.slice ra rn rc,.slice (some ⟨sb,so,none⟩) sn sc,.slice fa fn fc,.slice na nn nc] 26);have l3:LAt (Wm.alloc (.cells #[.int .i64 gm,.slice ra rn rc,.slice (some ⟨sb,so,none⟩) sn sc,.slice fa fn fc,.slice na nn nc] 26)) w1.heap.size (List.replicate sn 0):=Qac l2 _;have x3:=x2.alloc (.cells #[.int .i64 gm,.slice ra rn rc,.slice (some ⟨sb,so,none⟩) sn sc,.slice fa fn fc,.slice na nn nc] 26);have hb3:Below w.heap.size w (Wm.alloc (.cells #[.int .i64 gm,.slice ra rn rc,.slice (some ⟨sb,so,none⟩) sn sc,.slice fa fn fc,.slice na nn nc] 26)):=hb2.alloc hb2.size _;have hz3a:(Wm.alloc (.cells #[.int .i64 gm,.slice ra rn rc,.slice (some ⟨sb,so,none⟩) sn sc,.slice fa fn fc,.slice na nn nc] 26)).heap.size≤w1.heap.size+1+1+1:=by simp;omega
 have hz3b:w1.heap.size+1+1+1≤(Wm.alloc (.cells #[.int .i64 gm,.slice ra rn rc,.slice (some ⟨sb,so,none⟩) sn sc,.slice fa fn fc,.slice na nn nc] 26)).heap.size:=by simp;omega
 obtain⟨zs0,hL0,hzs0⟩:=Qfp hr hS hS3 hb3 m3;obtain⟨xs,hz1,hzx⟩:=Qhf (L:=L) zs0 (fun x hx=>by
  rw [←hzs0,List.all_eq_true] at hF hG;exact⟨hF x.1.2 (List.mem_map.2 ⟨x,hx,rfl⟩),hG x.1.2 (List.mem_map.2 ⟨x,hx,rfl⟩)⟩)
 have HxS:Hid (xs.map (fun x=>x.1.2)=(⟨#[]⟩,gm,r) :: S):=hzx.trans hzs0;have hxl:xs.length≤4:=by
  have:=congrArg List.length HxS.out;simp at this
  omega
 rw [←hz1] at hL0;obtain⟨W0,hW0⟩:∃W0,Wm.alloc (.cells #[.int .i64 gm,.slice ra rn rc,.slice (some ⟨sb,so,none⟩) sn sc,.slice fa fn fc,.slice na nn nc] 26)=W0:=⟨_,rfl⟩;rw [hW0] at m3 m3' l3 x3 hb3 hz3a hz3b hL0;rw [hW0];have HN:Hid (L.length=sn):=hsn;have hI0:CI w sn w1.heap.size (.cells #[.int .i64 gm,.slice ra rn rc,.slice (some ⟨sb,so,none⟩) sn sc,.slice fa fn fc,.slice na nn nc] 26) (Qdr L ([]:List (QeZ w L))) W0:=⟨by have:=l3;rw [←HN.out] at this;exact this,x3,m3',m3,hb3,hz3b⟩;have hslot:∀j,(h:j<L.length)→∃tv,w.cell? ⟨sb,so+j*3+2,none⟩=some tv∧Sl w tv L[j].2.2:=fun j h=>by
  obtain⟨tv,_,_,c3,hsl⟩:=hcl j h;exact⟨tv,c3,hsl⟩
 have HSl:Hid (∀j,(h:j<L.length)→∃tv,w.cell? ⟨sb,so+j*3+2,none⟩=some tv∧Sl w tv L[j].2.2):=hslot;clear hWm hW0 hcall hmk c0 c1 c2 c3 c4 d0 d1 d2 d3 d4 m0 m1 m2 l2 x2 b0 b1 hb2 hz2 hz2a hz2b m3 m3' l3 x3 hz1 hzx hzs0 hsn hslot hcl;refine wpIn_rangeFunc_ownH rfl (by omega) (gf:=105) (lb:=#[.pointer (some ⟨w1.heap.size+1+1,0,none⟩)]) rfl trivial (enters_of Tryz.func105 (by kernel_rfl) rfl)
  (QdK (fun x:QeZ w L=>x.1.1) Fence.wide 8 trivial rfl (by omega) (w1.heap.size+1+1) w.heap.size xs W0 hL0 (by omega) (by omega)) KpR.trans (KpR.put (by omega) (by omega)) (Below.refl _ _) (fun _=>rfl)
  (fun pre W=>CI w sn w1.heap.size (.cells #[.int .i64 gm,.slice ra rn rc,.slice (some ⟨sb,so,none⟩) sn sc,.slice fa fn fc,.slice na nn nc] 26) (Qdr L pre) W)
  (fun _ _ _=>False)
  (fun pre X Y row hs hg hr=>hs.own hg (fun r e=>(hr r e).2) (fun r e=>by have:=(hr r e).1;omega))
  (fun _ _ _ _ _ hs _ _=>hs)
  hI0
  (fun x a' W=>∃Bx,W.heap[Bx]? = some (.cells #[.string x.1.1.nm,.int .i64 x.1.1.g,.slice x.1.1.a x.1.1.n x.1.1.c] 39)∧w1.heap.size+1+1+1≤Bx∧a' = { tmps:=#[Value.agg #[.int .i64 gm,.slice ra rn rc,.slice (some ⟨sb,so,none⟩) sn sc,.slice fa fn fc,.slice na nn nc],.pointer (some ⟨w.heap.size,0,none⟩),nl,.int .i64 0,.int .i64 0,.pointer (some ⟨w1.heap.size+1,0,none⟩),.pointer (some ⟨Bx,0,none⟩),undef,undef,Value.agg #[.int .i64 gm,.slice ra rn rc,.slice (some ⟨sb,so,none⟩) sn sc,.slice fa fn fc,.slice na nn nc],.int .i64 0,.int .i64 0,.bool false,undef,.pointer (some ⟨w.heap.size,2,none⟩),.slice (some ⟨sb,so,none⟩) sn sc,.int .i64 sn,.slice (some ⟨w1.heap.size,0,none⟩) sn sn,Value.agg #[.int .i64 gm,.slice ra rn rc,.slice (some ⟨sb,so,none⟩) sn sc,.slice fa fn fc,.slice na nn nc],.func (.func 105) #[] #[.pointer (some ⟨w1.heap.size+1+1,0,none⟩)],.agg #[.string x.1.1.nm,.int .i64 x.1.1.g,.slice x.1.1.a x.1.1.n x.1.1.c],undef,undef,undef,undef,undef,undef,undef,undef,undef,undef,undef,undef,undef,undef,undef,undef,undef,undef,undef,undef,undef,undef,undef,undef,undef,undef,undef,undef,undef,undef],defers:=[] })
  (fun x a' _ X Y row hs hg hr=>by obtain⟨Bx,e1,e2,e3⟩:=hs;exact⟨Bx,Qct e1 hg (fun r e=>(hr r e).2),e2,e3⟩)
  ?assign ?body ?done ?stop
 case assign=>
  rintro l pre x W K hI hK;unfold QdM
  gi_wp2
  exact hK _ _ ((KeepsOthers.alloc _ _).from _) (KpR.alloc (by have:=hI.z;omega) (by have:=hI.z;omega) _) (hI.alloc _) ⟨W.heap.size,zHn _ _,hI.z,rfl⟩
 case stop=>
  rintro D c pre W _ _ h _;exact h.elim
 case done=>
  rintro D ys W hD rfl hI hK;have cX:=hI.x.cell;have hfin:LAt (W.putObj D (.deferred none)) w1.heap.size ((((⟨#[]⟩,gm,r) :: S).flatMap (fun s=>s.2.2)).foldl (stepC L) (List.replicate L.length 0)):=by
   have:=hI.l;unfold Qdr at this;rw [show ys.flatMap (fun x=>x.1.2.2.2)=(ys.map (fun x=>x.1.2)).flatMap (fun s=>s.2.2) by rw [List.flatMap_map],HxS.out] at this;exact (World.putObj_heap_other (by omega)).trans this
  gi_wp2
  refine⟨by simp,.inl ⟨_,_,rfl,run_takeDeferred hK,?_⟩⟩;exact⟨_,results_tmp2 rfl _ _ _,⟨w1.heap.size,by omega,rfl,hfin⟩,Qce hI.b (by omega) _⟩
 case body=>
  rintro l pre x a' W hl ⟨rr,hrr⟩ hI ⟨Bx,hBx,hBlt,rfl⟩ hlt;obtain⟨e0,e1,e2⟩:=Qb6 hBx;have h4:=QpK x;obtain⟨hrl,hrm,_,hcc⟩:=x.2.1.2.2.cells;have HR:Hid (x.1.2.2.2.length=x.1.1.n):=hrl;have hn4:x.1.1.n≤4:=by omega
  have HC:Hid (∀j,j<x.1.1.n→∃b off,x.1.1.a=some ⟨b,off,none⟩∧b<w.heap.size∧w.cell? ⟨b,off+j,none⟩=some (.int .i64 (x.1.2.2.2.getD j 0))):=hcc;have HI:Hid (CI w sn w1.heap.size (.cells #[.int .i64 gm,.slice ra rn rc,.slice (some ⟨sb,so,none⟩) sn sc,.slice fa fn fc,.slice na nn nc] 26) (Qdr L pre) W):=hI;have hp4:pre.length≤4:=by omega
  obtain⟨xa,hxa⟩:∃xa,x.1.1.a=xa:=⟨_,rfl⟩;obtain⟨xn,hxn⟩:∃xn,x.1.1.n=xn:=⟨_,rfl⟩;rw [hxa,hxn] at HC e2 ⊢;rw [hxn] at hn4 HR;clear hcc hrl h4 hI hxa hxn
  gi_wp2
  gi_loopw [8,24] (fun _ i wr=>∃k:Nat,k≤xn∧i=.int .i64 k∧Hid (LAt wr w1.heap.size ((x.1.2.2.2.take k).foldl (stepC L) (Qdr L pre)))∧Only w1.heap.size W wr) (fun _ i _=>xn - (intOf i).toNat)
  case atStart=>exact⟨0,Nat.zero_le _,rfl,HI.out.l,Only.refl _ _⟩
  case round=>
   obtain⟨k,hk,rfl,HLk,hon⟩:=hrel
   by_cases hlk:k<xn
   ·obtain⟨b,off,rfl,hbl,hcell⟩:=HC.out k hlk;have hki:(k:Int)<(xn:Int):=by omega
    have hkr:k<x.1.2.2.2.length:=by rw [HR.out];exact hlk
    have hE:=Qcj (Qpo x) hkr;have hstep:=QlN L (Qdr L pre) x.1.2.2.2 k hkr;obtain⟨q,hq⟩:∃q,x.1.2.2.2.getD k 0=q:=⟨_,rfl⟩;rw [hq] at hE hstep hcell;obtain⟨lk,hlke⟩:∃lk,(x.1.2.2.2.take k).foldl (stepC L) (Qdr L pre)=lk:=⟨_,rfl⟩;have hlen:lk.length=sn:=by rw [←hlke,QdG,Qhg,HN.out]
    have hbd:Bnd lk 100:=by
     rw [←hlke];refine (Bnd.fold hLs (Bnd.gone hLs pre)).mono ?_;have:(x.1.2.2.2.take k).length≤4:=by simp;omega
     omega
    rw [hlke] at hstep;have HLk':Hid (LAt wr w1.heap.size lk):=by rw [←hlke];exact HLk
    have hbr:Below w.heap.size w wr:=HI.out.b.trans (hon.below (Nat.le_of_lt hmlt));have c1:wr.cell? ⟨b,off+k,none⟩=some (.int .i64 q):=(hbr.cell (p:=⟨b,off+k,none⟩) hbl).trans hcell;have HCI:Hid (CI w sn w1.heap.size (.cells #[.int .i64 gm,.slice ra rn rc,.slice (some ⟨sb,so,none⟩) sn sc,.slice fa fn fc,.slice na nn nc] 26) lk wr):=HI.out.only hon HLk'.out hmlt;have HS:Hid ((x.1.2.2.2.take (k+1)).foldl (stepC L) (Qdr L pre)=stepC L lk q):=hstep;clear hstep hlke hcell hq hkr HLk
    by_cases h0:q=0
    ·have h0':(q == 0)=true:=by simp [h0]
     have H0:Hid (q=0):=h0;clear h0 hE
     gi_wp2
     go_roundw
     case rel=>exact⟨k+1,by omega,by go_num,by show LAt _ _ _;rw [HS.out];unfold stepC;rw [if_pos H0.out];exact HLk'.out,hon⟩
     case measure=>simp [intOf];omega
    ·have h0':(q == 0)=false:=by simp [h0]
     rw [QbL h0] at hE;obtain⟨j,rfl,hj,hkd⟩:=Qbu hE;have hjn:j<sn:=by rw [←HN.out];exact hj
     have hji:(j:Int)<(sn:Int):=by omega
     obtain⟨c,hc⟩:∃c,lk.getD j 0=c:=⟨_,rfl⟩;have cq:wr.cell? ⟨w1.heap.size,j,none⟩=some (.int .i64 c):=by rw [←hc];exact HLk'.out.cell (by omega)
     have fq:wr.frozen? ⟨w1.heap.size,j,none⟩=false:=HLk'.out.frozen j;have hcb:=hbd j;rw [hc] at hcb;have hcb1:=hcb.1;have hcb2:=hcb.2;have cX:=HCI.out.x.cell;have HL1:Hid (LAt (wr.setCell ⟨w1.heap.size,j,none⟩ (.int .i64 (c+1))) w1.heap.size (inc lk j)):=by
      show LAt _ _ _
      unfold inc;rw [Int.toNat_natCast,hc];exact HLk'.out.set j (c+1)
     have HO1:Hid (Only w1.heap.size wr (wr.setCell ⟨w1.heap.size,j,none⟩ (.int .i64 (c+1)))):=Only.set _ _ _ _;have HC1:Hid (CI w sn w1.heap.size (.cells #[.int .i64 gm,.slice ra rn rc,.slice (some ⟨sb,so,none⟩) sn sc,.slice fa fn fc,.slice na nn nc] 26) (inc lk j) (wr.setCell ⟨w1.heap.size,j,none⟩ (.int .i64 (c+1)))):=HCI.out.only HO1.out HL1.out hmlt;have cX1:=HC1.out.x.cell;have cq1:(wr.setCell ⟨w1.heap.size,j,none⟩ (.int .i64 (c+1))).cell? ⟨w1.heap.size,j,none⟩=some (.int .i64 (c+1)):=by
      have:=HL1.out.cell (j:=j) (by rw [Qcc];omega);rw [this];unfold inc;rw [Int.toNat_natCast,Qdf,if_pos ⟨rfl,by omega⟩,hc]
     have hinc:(inc lk j).getD j 0=c+1:=by
      unfold inc;rw [Int.toNat_natCast,Qdf,if_pos ⟨rfl,by omega⟩,hc]
     obtain⟨f0,f1,f2,f3,f4⟩:=five HC1.out.m;obtain⟨tv,ct,hsl⟩:=HSl.out j hj;have hok:=QdE (QaF hLs hj) hkd;obtain⟨tb,tw,tc,rfl,htc,htb,_⟩:=hsl.four hok.1;have ct1:(wr.setCell ⟨w1.heap.size,j,none⟩ (.int .i64 (c+1))).cell? ⟨sb,so+j*3+2,none⟩=some (.slice (some ⟨tb,tw,none⟩) 4 tc):=(HC1.out.b.cell (p:=⟨sb,so+j*3+2,none⟩) hsb).trans ct;have HTb:Hid (Qaz L (j:Int)=L[j].2.2):=by show _=_;unfold Qaz;simp [List.getD,hj]
     by_cases hc0:c=0
     ·have hcz:(c+1 == 1)=true:=by simp [hc0]
      have HZ:Hid (stepC L lk j=pagesC (inc lk j) L[j].2.2):=by
       show _=_
       unfold stepC;rw [if_neg h0,Int.toNat_natCast,hinc,if_pos (by omega),HTb.out]
      have hent:∀e ∈ L[j].2.2,e=0∨e = -1∨(1≤e∧e<(sn:Int)):=fun e he=>by
       unfold QaV at hT;rw [List.all_eq_true] at hT;have h1:=hT _ (List.getElem_mem hj);rw [List.all_eq_true] at h1;have h2:=h1 e he
       by_cases e0:e=0
       ·exact .inl e0
       by_cases e1:e = -1
       ·exact .inr (.inl e1)
       rw [Qd8 e0 e1] at h2;obtain⟨i,rfl,hi,_⟩:=Qbu h2;exact .inr (.inr ⟨by omega,by have:=HN.out;omega⟩)
      have hcall:∀V:World,LAt V w1.heap.size (inc lk j)→Below w.heap.size w V→Calls Tryz.prog 95 #[.slice (some ⟨w1.heap.size,0,none⟩) sn sn,.slice (some ⟨tb,tw,none⟩) 4 tc] V fun r w'=>(∃v,r=.returned v)∧LAt w' w1.heap.size (pagesC (inc lk j) L[j].2.2)∧Only w1.heap.size V w':=
       fun V h1 h2=>Qg2 w1.heap.size sn (inc lk j) _ 4 tc L[j].2.2 101 V w (by rw [Qcc,hlen]) hsn40 hok.1 (Nat.le_refl _) (by omega) h1 (hbd.inc j) h2 (by omega) hsl hent
      clear hc hc0 h0 hE hcb hok hsl hent ct hinc hbd;have hmix:Tryz.prog.follows .mixedOrders=true:=by kernel_rfl
      gi_wp2
      gi_region_with_o (first | (refine⟨trivial,?_⟩;gi_at_call 95;refine (CallsIn.inRound l (callsIn_wide.2 (hcall _ ?_ ?_))).mono ?_;(first | exact HL1.out | skip);(first | exact⟨HC1.out.b.os,HC1.out.b.tape,HC1.out.b.output,HC1.out.b.size,HC1.out.b.block⟩ | skip);rintro e w6 ⟨⟨v6,rfl⟩,l6,o6⟩) | (gi_at_call 95;refine (CallsIn.inRound l (callsIn_wide.2 (hcall _ ?_ ?_))).mono ?_;(first | exact HL1.out | skip);(first | exact⟨HC1.out.b.os,HC1.out.b.tape,HC1.out.b.output,HC1.out.b.size,HC1.out.b.block⟩ | skip);rintro e w6 ⟨⟨v6,rfl⟩,l6,o6⟩))
      all_goals gi_wp2
      all_goals
       go_roundw
       case rel=>exact⟨k+1,by omega,by go_num,by show LAt _ _ _;rw [HS.out,HZ.out];exact l6,hon.trans (HO1.out.trans ⟨o6.os,o6.tape,o6.output,o6.size,o6.block⟩)⟩
       case measure=>simp [intOf];omega
     ·have hcz:(c+1 == 1)=false:=by simp;omega
      have HZ:Hid (stepC L lk j=inc lk j):=by
       show _=_
       unfold stepC;rw [if_neg h0,Int.toNat_natCast,hinc,if_neg (by omega)]
      clear hc hc0 h0 hE hcb hok hsl ct hinc hbd
      gi_wp2
      go_roundw
      case rel=>exact⟨k+1,by omega,by go_num,by show LAt _ _ _;rw [HS.out,HZ.out];exact HL1.out,hon.trans HO1.out⟩
      case measure=>simp [intOf];omega
   ·have e4:k=xn:=by omega
    subst e4;have HE:Hid (CI w sn w1.heap.size (.cells #[.int .i64 gm,.slice ra rn rc,.slice (some ⟨sb,so,none⟩) sn sc,.slice fa fn fc,.slice na nn nc] 26) (Qdr L (pre ++ [x])) wr):=HI.out.only hon (by
     have:=HLk.out;rw [List.take_of_length_le (by rw [HR.out];exact Nat.le_refl _)] at this;rw [Qko];exact this) hmlt
    have HK:Hid (KeepsFrom W0.heap.size W wr∧KpR w.heap.size (w1.heap.size+1+1) W wr):=⟨hon.keepsFrom HI.out.l,hon.below (by omega),hon.block _ (by omega)⟩
    gi_wp2
    exact⟨HK.out.1,HK.out.2,HE.out⟩
end Go.Proofs.YtjfkfnjigofmpaaGreat

namespace Go.Proofs.YtjfkfnjigofmpaaGreat
open Go.RowKit
theorem QhI {W:World}{g B:Nat}{T:TypeId}{size:Nat}(hg:W.heap[g]? = some (.cells #[] T))(hB:B≤g):W.ownsRow B T size (.slice (some ⟨g,0,none⟩) 0 0) 0 []:=
 ⟨by simp,.inr ⟨g,0,#[],rfl,hB,hg,Nat.le_refl _,Nat.zero_le _,by simp,by simp⟩⟩
theorem QfB (W:World)(ty:TypeId)(g n c:Nat)(hn:n≤c)(c':Nat):(Builtin.append_ #[22,22] ty #[.slice (some ⟨g,0,none⟩) n c,.slice none 0 c']).run Tryz.prog W=.ok (.slice (some ⟨g,0,none⟩) n c) W:=by
 simp [Builtin.append_,go_sem,hn]
theorem QnB {W:World}(ty:TypeId){g B:Nat}(hg:W.heap[g]? = some (.cells #[] 3))(hB:B≤g){src:Value}{xs:List Int}(hsl:Sl W src xs)(hlen:xs.length≤1000) :
  ∃v' w',(Builtin.append_ #[22,22] ty #[.slice (some ⟨g,0,none⟩) 0 0,src]).run Tryz.prog W=.ok v' w'∧w'.ownsRow B 3 1 v' xs.length (ints xs)∧W.grownBy w' (some g)∧(v'.ownBlock=some g∨v'.ownBlock=some W.heap.size):=by
 have hgl:=(szH hg);obtain⟨ao,cap,rfl,hm,hcp,hc⟩:=hsl
 cases ao with
 | none=>
  have hx:xs=[]:=Classical.byContradiction fun hne=>by obtain⟨_,_,e,_⟩:=hc hne;cases e
  subst hx;refine⟨_,W,QfB W ty g 0 0 (Nat.le_refl _) cap,QhI hg hB,⟨rfl,rfl,rfl,Nat.le_refl _,fun _ _ _=>rfl⟩,.inl rfl⟩
 | some a=>
  obtain⟨i0,hi,hz0,hz1,hz2⟩:=info_parts Qlz;have hnews:∀j u,(ints xs)[j]? = some u→W.cell? (a.add j)=some u:=fun j u hu=>by
   have hj:j<xs.length:=by
    rcases Nat.lt_or_ge j xs.length with h | h
    ·exact h
    ·rw [List.getElem?_eq_none (by rw [Qbb];exact h)] at hu;cases hu
   obtain⟨b,off,e,_,hcell⟩:=hc (by intro e;rw [e] at hj;simp at hj);simp only [Option.some.injEq] at e;subst e;rw [Qa2,hcell j hj];unfold ints at hu;rw [List.getElem?_map,List.getElem?_eq_getElem hj] at hu;simp at hu
   simp [List.getD,hj,hu]
  obtain⟨v',w',h1,h2,h3,_,h5⟩:=run_append_own_at (P:=Tryz.prog) W B 22 ty 3 i0 (.int .i64 0) 1 8 Tryz.underlying22 hi hz0 hz1 hz2 rfl (by decide) (.slice (some ⟨g,0,none⟩) 0 0) 0 [] (QhI hg hB) a xs.length cap (ints xs) (by rw [Qbb];omega) hnews (ints_oneCell .i64 xs) (by omega) (by omega) (by omega);exact⟨v',w',h1,by simpa using h2,h3,h5⟩
theorem Qgm {W:World}{o:Oper}{a:Act}{K:Act→World→Prop}{Q:Exit→Act→World→Prop}(s x:Operand)(ho:o.op=.call { callee:=.builtin .append,args:=#[s,x],argTypes:=#[22,22] })
  {g B:Nat} (hs:a.eval s=.slice (some ⟨g,0,none⟩) 0 0) (hg:W.heap[g]? = some (.cells #[] 3)) (hB:B≤g) {src:Value} {xs:List Int} (hx:a.eval x=src) (hsl:Sl W src xs) (hlen:xs.length≤1000)
  (h:∀v' w',Hid (w'.ownsRow B 3 1 v' xs.length (ints xs))→W.grownBy w' (some g)→Hid (v'.ownBlock=some g∨v'.ownBlock=some W.heap.size)→K (a.put o.dst v') w'):o.wp Tryz.prog a W K Q:=by
 obtain⟨v',w',hr,h2,h3,h4⟩:=QnB o.type hg hB hsl hlen;unfold Oper.wp execOp;simp only [ho,resolve,invoke,builtin,Sem.run_bind,Sem.run_pure,Result.andThen_ok,List.map_toArray,List.map_cons,List.map_nil,hs,hx,hr];exact h v' w' h2 h3 h4
theorem Qdw {W:World}{ops:Array Oper}{rest:List Oper}{o:Oper}{a:Act}{Q:Exit→Act→World→Prop}(hgd:o.guard=none)(s x:Operand)(ho:o.op=.call { callee:=.builtin .append,args:=#[s,x],argTypes:=#[22,22] })
  {g B:Nat} (hs:a.eval s=.slice (some ⟨g,0,none⟩) 0 0) (hg:W.heap[g]? = some (.cells #[] 3)) (hB:B≤g) {src:Value} {xs:List Int} (hx:a.eval x=src) (hsl:Sl W src xs) (hlen:xs.length≤1000)
  (h:∀v' w',Hid (w'.ownsRow B 3 1 v' xs.length (ints xs))→W.grownBy w' (some g)→Hid (v'.ownBlock=some g∨v'.ownBlock=some W.heap.size)→wpList Tryz.prog ops Q rest (a.put o.dst v') w'):wpList Tryz.prog ops Q (o :: rest) a W:=
 wpList_plain hgd fun _ hK=>Qgm s x ho hs hg hB hx hsl hlen fun v' w' h2 h3 h4=>hK _ _ (h v' w' h2 h3 h4)
theorem Qdn:(Tryz.prog.info? 37).map (fun i=>(i.zero,i.size,i.bytes))=some (some (.agg #[.int .i64 0,.string ByteArray.empty,nl]),3,48):=by kernel_rfl
theorem Qdq:(Tryz.prog.info? 39).map (fun i=>(i.zero,i.size,i.bytes))=some (some (.agg #[.string ByteArray.empty,.int .i64 0,nl]),3,48):=by kernel_rfl
theorem Qk9 (W:World)(T:TypeId)(x y z:Value):∀ (j:Nat) (u:Value),[x,y,z][j]? = some u→(W.alloc (.cells #[x,y,z] T)).cell? ((⟨W.heap.size,0,none⟩:Addr).add j)=some u:=by
 intro j u hj;rw [Qa2,World.cell?_alloc_at _ _ _ _ rfl]
 match j,hj with
 | 0,hj=>simpa using hj
 | 1,hj=>simpa using hj
 | 2,hj=>simpa using hj
theorem Ql7 {v:Value}{W:World}{B:Nat}{e:TypeId}{size n:Nat}{xs:List Value}(h:W.ownsRow B e size v n xs):v.oneCell'=true:=by
 rcases QaL h with ⟨rfl,_⟩ | ⟨_,_,rfl,_⟩ <;> rfl
theorem QmR {W:World}{o:Oper}{a:Act}{K:Act→World→Prop}{Q:Exit→Act→World→Prop}(s x:Operand)(t e:TypeId)(z0:Value)(ht:Tryz.prog.underlying t=some (.slice e))(hinfo:(Tryz.prog.info? e).map (fun i=>(i.zero,i.size,i.bytes))=some (some z0,3,48))(hz3:z0.cells.size=3)
  (ho:o.op=.call { callee:=.builtin .append,args:=#[s,x],argTypes:=#[t,t] }) {B n:Nat} {v:Value} {xs:List Value} {c0 c1 c2:Value} (h1:c0.oneCell'=true) (h2:c1.oneCell'=true) (h3:c2.oneCell'=true)
  (hs:a.eval s=v) {N:Nat} (hx:a.eval x=.slice (some ⟨N,0,none⟩) 1 1) (hN:N=W.heap.size) (hown:W.ownsRow B e 3 v n xs) (hn:n≤1000) (hB:B≤W.heap.size)
  (h:∀v' w',Hid (w'.ownsRow B e 3 v' (n+1) (xs ++ [c0,c1,c2]))→(W.alloc (.cells #[c0,c1,c2] e)).grownBy w' v.ownBlock→Hid (v'.ownBlock=v.ownBlock∨v'.ownBlock=some (W.heap.size+1))→K (a.put o.dst v') w'):o.wp Tryz.prog a (W.alloc (.cells #[c0,c1,c2] e)) K Q:=by
 subst hN;obtain⟨i0,hi,hz0,hz1,hz2⟩:=info_parts hinfo;obtain⟨v',w',hr,g2,g3,_,g5⟩:=run_append_own_at (P:=Tryz.prog) (W.alloc (.cells #[c0,c1,c2] e)) B t o.type e i0 z0 3 48 ht hi hz0 hz1 hz2 hz3 (by decide) v n xs (hown.alloc _) ⟨W.heap.size,0,none⟩ 1 1 [c0,c1,c2] rfl (Qk9 W e c0 c1 c2) (by intro u hu;simp at hu;rcases hu with rfl | rfl | rfl <;> assumption) (by unfold maxLen;omega) (by omega) (by simp;omega);unfold Oper.wp execOp;simp only [ho,resolve,invoke,builtin,Sem.run_bind,Sem.run_pure,Result.andThen_ok,List.map_toArray,List.map_cons,List.map_nil,hs,hx,hr];have g6:v'.ownBlock=v.ownBlock∨v'.ownBlock=some (W.heap.size+1):=by simpa using g5
 exact h v' w' g2 g3 g6
theorem Qb0 {W:World}{ops:Array Oper}{rest:List Oper}{o:Oper}{a:Act}{Q:Exit→Act→World→Prop}(hgd:o.guard=none)(s x:Operand)(t e:TypeId)(z0:Value)(ht:Tryz.prog.underlying t=some (.slice e))(hinfo:(Tryz.prog.info? e).map (fun i=>(i.zero,i.size,i.bytes))=some (some z0,3,48))(hz3:z0.cells.size=3)
  (ho:o.op=.call { callee:=.builtin .append,args:=#[s,x],argTypes:=#[t,t] }) {B n:Nat} {v:Value} {xs:List Value} {c0 c1 c2:Value} (h1:c0.oneCell'=true) (h2:c1.oneCell'=true) (h3:c2.oneCell'=true)
  (hs:a.eval s=v) {N:Nat} (hx:a.eval x=.slice (some ⟨N,0,none⟩) 1 1) (hN:N=W.heap.size) (hown:W.ownsRow B e 3 v n xs) (hn:n≤1000) (hB:B≤W.heap.size)
  (h:∀v' w',Hid (w'.ownsRow B e 3 v' (n+1) (xs ++ [c0,c1,c2]))→(W.alloc (.cells #[c0,c1,c2] e)).grownBy w' v.ownBlock→Hid (v'.ownBlock=v.ownBlock∨v'.ownBlock=some (W.heap.size+1))→wpList Tryz.prog ops Q rest (a.put o.dst v') w'):wpList Tryz.prog ops Q (o :: rest) a (W.alloc (.cells #[c0,c1,c2] e)):=
 wpList_plain hgd fun _ hK=>QmR s x t e z0 ht hinfo hz3 ho h1 h2 h3 hs hx hN hown hn hB fun v' w' g2 g3 g4=>hK _ _ (h v' w' g2 g3 g4)
end Go.Proofs.YtjfkfnjigofmpaaGreat

namespace Go.Proofs.YtjfkfnjigofmpaaGreat
open Go.RowKit Go.Shelf
theorem Qha (g:Int)(w:World)(h:0≤g∧g≤16):Calls Tryz.prog 80 #[.int .i64 g] w fun r w'=>r=.returned (.int .i64 ((g+3) / 4))∧w'=w:=by
 obtain⟨k,rfl⟩:∃k:Nat,g=k:=⟨g.toNat,by omega⟩;have hk:k≤16:=by omega
 clear h
 go_enter Tryz.func80,Tryz.ntmps80
 go_wp2
 go_ret;exact⟨QaI (by omega),rfl⟩
theorem QoY (ao:Option Addr)(n cap:Nat)(xs:List Int)(y:Int)(w:World)(hn:xs.length=n)(hm:n≤1000000)
  (hc:∀j,j<n→∃b off,ao=some ⟨b,off,none⟩∧b<w.heap.size∧w.cell? ⟨b,off+j,none⟩=some (.int .i64 (xs.getD j 0))) :
  Calls Tryz.prog 54 #[.slice ao n cap,.int .i64 y] w fun r w'=>r=.returned (.int .i64 (xs.count y))∧w'=w:=by
 have HN:Hid (xs.length=n):=hn;have HC:Hid (∀j,j<n→∃b off,ao=some ⟨b,off,none⟩∧b<w.heap.size∧w.cell? ⟨b,off+j,none⟩=some (.int .i64 (xs.getD j 0))):=hc;clear hn hc
 go_enter Tryz.func54,Tryz.ntmps54
 go_wp2
 go_loopw [5,6] (fun c i wr=>∃k u:Nat,k≤n∧u≤k∧i=.int .i64 k∧c=.int .i64 u∧Hid (u=(xs.take k).count y)∧wr=w) (fun _ i _=>n - (intOf i).toNat)
 case atStart=>exact⟨0,0,Nat.zero_le _,Nat.zero_le _,rfl,rfl,by show _=_;simp,rfl⟩
 case round=>
  obtain⟨k,u,hk,hu,rfl,rfl,HU,hw⟩:=hrel;subst hw
  by_cases hlk:k<n
  ·obtain⟨b,off,rfl,hlt,hcell⟩:=HC.out k hlk;have hki:(k:Int)<(n:Int):=by omega
   have hkx:k<xs.length:=by rw [HN.out];exact hlk
   obtain⟨x,hx⟩:∃x,xs.getD k 0=x:=⟨_,rfl⟩;rw [hx] at hcell;have HT:Hid ((xs.take (k+1)).count y=(xs.take k).count y+if x == y then 1 else 0):=by
    show _=_
    have e:xs[k]=x:=by rw [←hx];simp [List.getD,hkx]
    rw [List.take_add_one,List.getElem?_eq_getElem hkx,Option.toList_some,List.count_append,e,List.count_singleton]
   clear hx hkx
   cases hxy:x == y with
   | true=>
    go_wp2
    go_roundw
    case rel=>exact⟨k+1,u+1,by omega,by omega,by go_num,by go_num,by show _=_;rw [HT.out,hxy,← HU.out];rfl,trivial⟩
    case measure=>simp [intOf];omega
   | false=>
    go_wp2
    go_roundw
    case rel=>exact⟨k+1,u,by omega,by omega,by go_num,rfl,by show _=_;rw [HT.out,hxy,← HU.out];rfl,trivial⟩
    case measure=>simp [intOf];omega
  ·have e4:k=n:=by omega
   subst e4;have HE:Hid (u=xs.count y):=by show _=_;rw [HU.out,List.take_of_length_le (by rw [HN.out];exact Nat.le_refl _)]
   go_wp2
   go_ret;exact⟨QaI (by rw [HE.out]),rfl⟩
theorem Qiy {v:Value}{xs:List Int}{w:World}(h:Sl w v xs)(hm:xs.length≤1000000)(y:Int){c:Int}(hc:(xs.count y:Int)=c) :
  Calls Tryz.prog 54 #[v,.int .i64 y] w fun r w'=>r=.returned (.int .i64 c)∧w'=w:=by
 subst hc;obtain⟨ao,cap,rfl⟩:=h.form;obtain⟨_,_,_,hc⟩:=h.cells;exact QoY ao _ cap xs y w rfl hm hc

def Qe6 (L:List Qag) (n:Int):Int:=if 1≤n∧n<L.length then (L.getD n.toNat default).1 else -1
theorem QkM (gm:Int)(ra:Option Addr)(rn rc:Nat)(sa:Option Addr)(sn sc:Nat)(fa:Option Addr)(fn fc:Nat)(na:Option Addr)(nn nc:Nat)(n:Int)(w:World)(hsn:sn≤1000000)(hd:decide (1≤n∧n≤(sn:Int) - 1)=false) :
  Calls Tryz.prog 52 #[.agg (bI gm ra rn rc sa sn sc fa fn fc na nn nc),.int .i64 n] w fun r w'=>r=.returned (.int .i64 (-1))∧Below w.heap.size w w':=by
 have b0:Below w.heap.size w (w.alloc (.cells (bI gm ra rn rc sa sn sc fa fn fc na nn nc) 26)):=bA;have HD:Hid (decide (1≤n∧n≤(sn:Int) - 1)=false):=hd;clear hd
 go_enter Tryz.func52,Tryz.ntmps52
 go_wp2_with (go_at_call 50;refine (QaN _ _ _ _).mono ?_;rintro e w' ⟨rfl,hw⟩;subst hw;rw [HD.out]);go_ret;exact⟨rfl,b0⟩
theorem QmF (gm:Int)(ra:Option Addr)(rn rc:Nat)(sb so:Nat)(sn sc:Nat)(fa:Option Addr)(fn fc:Nat)(na:Option Addr)(nn nc:Nat)(n:Nat)(k:Int)(w:World)(hsn:sn≤1000000)(hd:decide ((1:Int)≤(n:Int)∧(n:Int)≤(sn:Int) - 1)=true)(hn:n<sn)(hsb:sb<w.heap.size)(hc:w.cell? ⟨sb,so+n*3,none⟩=some (.int .i64 k)) :
  Calls Tryz.prog 52 #[.agg #[.int .i64 gm,.slice ra rn rc,.slice (some ⟨sb,so,none⟩) sn sc,.slice fa fn fc,.slice na nn nc],.int .i64 n] w fun r w'=>r=.returned (.int .i64 k)∧Below w.heap.size w w':=by
 have b0:Below w.heap.size w (w.alloc (.cells #[.int .i64 gm,.slice ra rn rc,.slice (some ⟨sb,so,none⟩) sn sc,.slice fa fn fc,.slice na nn nc] 26)):=bA;have hc1:=(b0.cell (p:=⟨sb,so+n*3,none⟩) hsb).trans hc;have HD:Hid (decide ((1:Int)≤(n:Int)∧(n:Int)≤(sn:Int) - 1)=true):=hd;have hni:(n:Int)<(sn:Int):=by omega
 clear hd
 go_enter Tryz.func52,Tryz.ntmps52
 go_wp2_with (go_at_call 50;refine (QaN _ _ _ _).mono ?_;rintro e w' ⟨rfl,hw⟩;subst hw;rw [HD.out]);go_ret;exact⟨rfl,b0⟩
theorem Qht {w:World}{v:Value}{m:ImgD}(h:Img w v m)(hL:m.slots.length≤1000000)(n:Int){k:Int}(hk:Qe6 m.slots n=k) :
  Calls Tryz.prog 52 #[v,.int .i64 n] w fun r w'=>r=.returned (.int .i64 k)∧Below w.heap.size w w':=by
 obtain⟨ra,rc,sa,sc,fa,fc,na,nc,rfl,h1,h2,h3,h4⟩:=h.parts;unfold Qe6 at hk
 by_cases hn:1≤n∧n<m.slots.length
 ·rw [if_pos hn] at hk;obtain⟨j,rfl⟩:∃j:Nat,n=j:=⟨n.toNat,by omega⟩;have hj:j<m.slots.length:=by omega
  obtain⟨sb,so,sc',e,_,hsb,hcl⟩:=h2.open (by omega);simp at e
  obtain⟨rfl,rfl⟩:=e;obtain⟨tv,c1,_⟩:=hcl j hj;have e:m.slots.getD j default=m.slots[j]:=by simp [List.getD,hj]
  rw [Int.toNat_natCast,e] at hk;rw [hk] at c1;exact QmF m.guest ra _ rc sb so _ sc fa _ fc na _ nc j k w hL (decide_eq_true (by omega)) hj hsb c1
 ·rw [if_neg hn] at hk;subst hk;exact QkM m.guest ra _ rc sa _ sc fa _ fc na _ nc n w hL (decide_eq_false (by omega))
theorem QhE (s:ByteArray)(w:World):Calls Tryz.prog 47 #[.string s] w fun r w'=>r=.returned (.bool (isNm s))∧w'=w:=by
 by_cases hs:1≤s.size∧s.size≤8
 ·have HS:Hid (isNm s=s.data.toList.all QaS):=by
   show _=_
   unfold isNm;rw [decide_eq_true hs];rfl
  have HD:Hid (decide ((1:Int)≤(s.size:Int)∧(s.size:Int)≤8)=true):=decide_eq_true (by omega);have h8:=hs.2;clear hs
  go_enter Tryz.func47,Tryz.ntmps47
  go_wp2_with (go_at_call 50;refine (QaN _ _ _ _).mono ?_;rintro e w' ⟨rfl,hw⟩;subst hw;rw [HD.out])
  go_loop [3] (fun i=>∃k:Nat,k≤s.size∧i=.int .i64 k∧Hid (∀j,(h:j<s.size)→j<k→QaS s[j]=true)) (fun i=>s.size - (intOf i).toNat)
  case atStart=>exact⟨0,Nat.zero_le _,rfl,fun j h hj=>absurd hj (by omega)⟩
  case round=>
   obtain⟨k,hk,rfl,HA⟩:=hrel
   by_cases hlk:k<s.size
   ·have hki:(k:Int)<(s.size:Int):=by omega
    by_cases h1:(s[k]'hlk).toNat<97
    ·have HB:Hid (QaS s[k]=false):=by show _=_;unfold QaS;exact decide_eq_false (by omega)
     have h1i:((s[k]'hlk).toNat:Int)<97:=by omega
     go_wp2
     go_ret;exact⟨QaR (by rw [HS.out,QdL hlk HB.out]),rfl⟩
    by_cases h2:122<(s[k]'hlk).toNat
    ·have HB:Hid (QaS s[k]=false):=by show _=_;unfold QaS;exact decide_eq_false (by omega)
     have h2i:(122:Int)<((s[k]'hlk).toNat:Int):=by omega
     have h1i:¬((s[k]'hlk).toNat:Int)<97:=by omega
     go_wp2
     go_ret;exact⟨QaR (by rw [HS.out,QdL hlk HB.out]),rfl⟩
    ·have HG:Hid (QaS s[k]=true):=by show _=_;unfold QaS;exact decide_eq_true (by omega)
     have h2i:¬(122:Int)<((s[k]'hlk).toNat:Int):=by omega
     have h1i:¬((s[k]'hlk).toNat:Int)<97:=by omega
     go_wp2
     go_round
     case rel=>exact⟨k+1,by omega,by go_num,fun j h hj=>by
      by_cases e:j=k
      ·subst e;exact HG.out
      ·exact HA.out j h (by omega)⟩
     case measure=>simp [intOf];omega
   ·have e4:k=s.size:=by omega
    subst e4
    go_wp2
    go_ret;exact⟨QaR (by rw [HS.out,Qey (fun j hj=>HA.out j hj hj)]),rfl⟩
 ·have HS:Hid (isNm s=false):=by
   show _=_
   unfold isNm;rw [decide_eq_false hs];rfl
  have HD:Hid (decide ((1:Int)≤(s.size:Int)∧(s.size:Int)≤8)=false):=decide_eq_false (by omega);clear hs
  go_enter Tryz.func47,Tryz.ntmps47
  go_wp2_with (go_at_call 50;refine (QaN _ _ _ _).mono ?_;rintro e w' ⟨rfl,hw⟩;subst hw;rw [HD.out]);go_ret;exact⟨by rw [HS.out];rfl,rfl⟩

def cntL (m:ImgD):List Int:=((Qaw m).flatMap (fun s=>s.2.2)).foldl (stepC m.slots) (List.replicate m.slots.length 0)
theorem QaU (m:ImgD):(cntL m).length=m.slots.length:=by unfold cntL;rw [QdG];simp
theorem LAt.sl {W:World}{g n:Nat}{l:List Int}(h:LAt W g l)(hn:l.length=n)(hm:n≤maxLen):Sl W (.slice (some ⟨g,0,none⟩) n n) l:=by
 subst hn;exact⟨_,_,rfl,hm,Nat.le_refl _,fun _=>⟨g,0,rfl,h.lt,fun j hj=>by rw [Nat.zero_add];exact h.cell hj⟩⟩
theorem Qad {m:ImgD}(h:Qao m=0):m.snaps.length≤3∧Qap m.slots=0∧m.refs.length=m.slots.length∧QaJ m.snaps=true∧(Qaw m).all (fun s=>Qay s.2.1)=true∧QaV m.slots=true∧(Qaw m).all (fun s=>Qas m.slots s.2.1 s.2.2)=true:=by
 unfold Qao at h
 split at h
 ·simp at h
 rename_i h1
 split at h
 ·rename_i h2;exact absurd h h2
 rename_i h2
 split at h
 ·simp at h
 rename_i h3
 split at h
 ·simp at h
 rename_i h4
 split at h
 ·simp at h
 rename_i h5
 split at h
 ·simp at h
 rename_i h6
 refine⟨by omega,by simpa using h2,?_,?_,by simpa using h4,by simpa using h5,by simpa using h6⟩
 ·exact Classical.byContradiction fun e=>h3 (.inl e)
 ·cases e:QaJ m.snaps with
  | true=>rfl
  | false=>exact absurd (.inr e) h3
theorem Qf1 {w:World}{v:Value}{m:ImgD}(h:Img w v m)(hE:Qao m=0) :
  Calls Tryz.prog 67 #[v] w fun e w'=>(∃g,w.heap.size≤g∧e=.returned (.tuple #[.slice (some ⟨g,0,none⟩) m.slots.length m.slots.length,.int .i64 0])∧LAt w' g (cntL m))∧Below w.heap.size w w':=by
 obtain⟨z1,z2,z3,z4,z5,z6,z7⟩:=Qad hE;obtain⟨ra,rc,sa,sc,fa,fc,na,nc,rfl,h1,h2,h3,h4⟩:=h.parts;have hp:=Qah z2;have h2':=h2;obtain⟨sb,so,sc',e,hcp,hlt,hcell⟩:=h2.open hp.1;simp at e
 obtain⟨rfl,rfl⟩:=e;refine (QmL m.guest ra _ rc sb so _ sc fa _ fc na _ nc m.root m.slots m.snaps m.refs w h1 h2' h3 h4 rfl hp.2 hlt hcell hE z2 z1 z6 z5 z7).mono fun e w' hr=>⟨?_,hr.2⟩
 obtain⟨g,hg,e1,e2⟩:=hr.1;exact⟨g,hg,e1,e2⟩
theorem Qmh {w:World}{v:Value}{m:ImgD}(h:Img w v m)(hE:Qao m=0) :
  Calls Tryz.prog 67 #[v] w fun e w'=>(∃lv,e=.returned (.tuple #[lv,.int .i64 0])∧Sl w' lv (cntL m))∧Below w.heap.size w w':=by
 have hp:=Qah (Qad hE).2.1;refine (Qf1 h hE).mono fun e w' hr=>⟨?_,hr.2⟩
 obtain⟨g,_,e1,e2⟩:=hr.1;exact⟨_,e1,LAt.sl e2 (QaU m) (by unfold maxLen;omega)⟩
theorem QfX {w:World}{v:Value}{m:ImgD}(h:Img w v m){E:Int}(hE:Qao m=E)(hne:(E != 0)=true) :
  Calls Tryz.prog 67 #[v] w fun r w'=>r=.returned (.tuple #[nl,.int .i64 E])∧Below w.heap.size w w':=by
 have h':=h;obtain⟨ra,rc,sa,sc,fa,fc,na,nc,rfl,_⟩:=h.parts;exact QkF m.guest ra _ rc sa _ sc fa _ fc na _ nc m E w h' hE hne
theorem QnF (ao bo:Option Addr)(n cap cap':Nat)(xs ys:List Int)(w:World)(hn:xs.length=n)(hn':ys.length=n)(hm:n≤9223372036854775807)
  (hc:∀j,j<n→∃b off,ao=some ⟨b,off,none⟩∧w.cell? ⟨b,off+j,none⟩=some (.int .i64 (xs.getD j 0))) (hd:∀j,j<n→∃b off,bo=some ⟨b,off,none⟩∧w.cell? ⟨b,off+j,none⟩=some (.int .i64 (ys.getD j 0))) :
  Calls Tryz.prog 68 #[.slice ao n cap,.slice bo n cap'] w fun r w'=>r=.returned (.bool (xs == ys))∧Below w.heap.size w w':=by
 have H:Hid (xs.length=n∧ys.length=n):=⟨hn,hn'⟩;have HC:Hid (∀j,j<n→∃b off,ao=some ⟨b,off,none⟩∧w.cell? ⟨b,off+j,none⟩=some (.int .i64 (xs.getD j 0))):=hc;have HD:Hid (∀j,j<n→∃b off,bo=some ⟨b,off,none⟩∧w.cell? ⟨b,off+j,none⟩=some (.int .i64 (ys.getD j 0))):=hd;clear hn hn' hc hd
 go_enter Tryz.func68,Tryz.ntmps68
 go_wp2
 go_loopw [5,13] (fun _ i wr=>∃k:Nat,k≤n∧i=.int .i64 k∧Hid (∀j,j<k→xs.getD j 0=ys.getD j 0)∧(Below w.heap.size w wr∧∀a,wr.cell? a=w.cell? a)) (fun _ i _=>n - (intOf i).toNat)
 case atStart=>exact⟨0,Nat.zero_le _,rfl,fun j hj=>absurd hj (by omega),Below.refl _ _,fun _=>rfl⟩
 case round=>
  obtain⟨k,hk,rfl,HA,hbel,hsame⟩:=hrel
  by_cases hlk:k<n
  ·obtain⟨b,off,rfl,c1⟩:=HC.out k hlk;obtain⟨b',off',rfl,c2⟩:=HD.out k hlk;have hki:(k:Int)<(n:Int):=by omega
   obtain⟨x,hx⟩:∃x,xs.getD k 0=x:=⟨_,rfl⟩;obtain⟨y,hy⟩:∃y,ys.getD k 0=y:=⟨_,rfl⟩;rw [hx] at c1;rw [hy] at c2;have c1:wr.cell? ⟨b,off+k,none⟩=some (.int .i64 x):=(hsame _).trans c1;have c2:wr.cell? ⟨b',off'+k,none⟩=some (.int .i64 y):=(hsame _).trans c2;have HX:Hid (xs.getD k 0=x∧ys.getD k 0=y):=⟨hx,hy⟩;clear hx hy
   by_cases hxy:x=y
   ·have hb:(x != y)=false:=by simp [hxy]
    have HXY:Hid (x=y):=hxy;clear hxy
    go_wp2
    go_region
    go_wp2
    go_roundw
    case rel=>exact⟨k+1,by omega,by go_num,fun j hj=>by
     by_cases e:j=k
     ·subst e;rw [HX.out.1,HX.out.2,HXY.out]
     ·exact HA.out j (by omega),⟨hbel.os,hbel.tape,hbel.output,hbel.size,hbel.block⟩,fun a=>hsame a⟩
    case measure=>simp [intOf];omega
   ·have hb:(x != y)=true:=by simp [hxy]
    have HXY:Hid (x≠y):=hxy;clear hxy
    go_wp2
    go_region
    go_wp2
    go_ret;refine⟨QaR ?_,⟨hbel.os,hbel.tape,hbel.output,hbel.size,hbel.block⟩⟩
    symm
    rw [beq_eq_false_iff_ne];intro e;exact HXY.out (by rw [←HX.out.1,← HX.out.2,e])
  ·have e4:k=n:=by omega
   subst e4
   go_wp2
   go_ret;refine⟨QaR ?_,hbel⟩
   symm
   rw [beq_iff_eq]
   apply List.ext_getElem
   ·rw [H.out.1,H.out.2]
   ·intro j h1 h2;have:=HA.out j (by rw [H.out.1] at h1;exact h1)
    simpa [List.getD,h1,h2] using this

def kd (L:List Qag) (k:Nat):Int:=(L.getD k default).1
def QbI (L:List Qag) (P:List Int) (i:Int) (k:Nat):Nat:=if kd L k=2∧(k:Int) ∈ P then (Qaz L k).count i else 0
def sumT (L:List Qag) (P:List Int) (i:Int):Nat:=((List.range L.length).map (QbI L P i)).sum
def cntI (L:List Qag) (P:List Int) (i:Nat):Int:=if i=0 then 0 else ((P.count (i:Int)+sumT L P i:Nat):Int)
theorem Qlo {f g:Nat→Nat}{k d:Nat} : ∀n,k<n→g k=f k+d→(∀j,j≠k→g j=f j)→((List.range n).map g).sum=((List.range n).map f).sum+d
 | 0,h,_,_=>absurd h (by omega)
 | n+1,h,hk,ho=>by
  rw [List.range_succ,List.map_append,List.map_append,List.sum_append,List.sum_append]
  by_cases e:k=n
  ·subst e;have:(List.range k).map g=(List.range k).map f:=List.map_congr_left fun j hj=>ho j (by have:=List.mem_range.1 hj;omega)
   rw [this];simp [hk];omega
  ·rw [Qlo n (by omega) hk ho];simp [ho n (fun x=>e x.symm)];omega
theorem Qd5 {f g:Nat→Nat}(n:Nat)(h:∀j,j<n→g j=f j):((List.range n).map g).sum=((List.range n).map f).sum:=by
 rw [List.map_congr_left fun j hj=>h j (List.mem_range.1 hj)]
theorem Qe3 (l:List Int)(k:Int)(j:Nat)(hj:j<l.length):(inc l k).getD j 0=l.getD j 0+if k.toNat=j then 1 else 0:=by
 unfold inc;rw [Qdf]
 by_cases e:k.toNat=j
 ·subst e;rw [if_pos ⟨rfl,hj⟩,if_pos rfl]
 ·rw [if_neg (fun h=>e h.1),if_neg e];simp
theorem Qf3 (i:Nat)(hi:1≤i):∀ (t l:List Int),i<l.length→(∀e ∈ t,e=0∨e = -1∨1≤e)→(pagesC l t).getD i 0=l.getD i 0+(t.count (i:Int):Nat)
 | [],l,_,_=>by simp [pagesC]
 | e :: t,l,hl,ht=>by
  have:pagesC l (e :: t)=pagesC (incE l e) t:=rfl;rw [this,Qf3 i hi t (incE l e) (by rw [Qfh];exact hl) (fun x hx=>ht x (List.mem_cons_of_mem _ hx)),List.count_cons];unfold incE;rcases ht e List.mem_cons_self with h | h | h
  ·rw [if_pos (.inl h),if_neg (by simp;omega)];omega
  ·rw [if_pos (.inr h),if_neg (by simp;omega)];omega
  ·rw [if_neg (by omega),Qe3 l e i hl]
   by_cases g:e=i
   ·rw [if_pos (by omega),if_pos (by simpa using g)];omega
   ·rw [if_neg (by omega),if_neg (by simpa using g)];omega
theorem Qe9:∀ (t l:List Int),(∀e ∈ t,e=0∨e = -1∨1≤e)→(pagesC l t).getD 0 0=l.getD 0 0
 | [],l,_=>by simp [pagesC]
 | e :: t,l,ht=>by
  have:pagesC l (e :: t)=pagesC (incE l e) t:=rfl;rw [this,Qe9 t (incE l e) (fun x hx=>ht x (List.mem_cons_of_mem _ hx))];unfold incE;rcases ht e List.mem_cons_self with h | h | h
  ·rw [if_pos (.inl h)]
  ·rw [if_pos (.inr h)]
  ·rw [if_neg (by omega)];unfold inc;rw [Qdf,if_neg (by omega)]
theorem Qcs {L:List Qag}(h:Qap L=0):kd L 0=0:=by
 have hp:=Qah h;unfold Qap at h;rw [if_pos hp] at h
 split at h
 ·rename_i g
  have:=g.2
  cases L with
  | nil=>simp at hp
  | cons a t=>simpa [kd] using this
 ·simp at h
theorem QbH {L:List Qag}{k:Int}(h:Qbf L k=true):k=0∨∃j:Nat,k=j∧j<L.length∧kd L j=2:=by
 by_cases e:k=0
 ·exact .inl e
 ·rw [QbL e] at h;obtain⟨j,rfl,hj,hk⟩:=Qbu h;exact .inr ⟨j,rfl,hj,by unfold kd;simp [List.getD,hj,hk]⟩
theorem Qcy {L:List Qag}{k:Int}(h:tabE L k=true):k=0∨k = -1∨∃j:Nat,k=j∧j<L.length∧kd L j=1:=by
 by_cases e:k=0
 ·exact .inl e
 by_cases e1:k = -1
 ·exact .inr (.inl e1)
 ·rw [Qd8 e e1] at h;obtain⟨j,rfl,hj,hk⟩:=Qbu h;exact .inr (.inr ⟨j,rfl,hj,by unfold kd;simp [List.getD,hj,hk]⟩)
theorem QgH {L:List Qag}(h:QaV L=true)(k:Int):(Qaz L k).all (tabE L)=true:=by
 unfold Qaz
 by_cases hk:k.toNat<L.length
 ·unfold QaV at h;rw [List.all_eq_true] at h;have:=h _ (List.getElem_mem hk)
  simpa [List.getD,hk] using this
 ·have:L.getD k.toNat default=default:=by simp [List.getD,hk]
  rw [this];rfl
theorem QeY {L:List Qag}(h:QaV L=true)(k:Int){e:Int}(he:e ∈ Qaz L k):e=0∨e = -1∨∃j:Nat,e=j∧j<L.length∧kd L j=1:=
 Qcy (List.all_eq_true.1 (QgH h k) e he)
theorem Qi1 {L:List Qag}(hs:Qap L=0)(h:QaV L=true)(k:Int):∀e ∈ Qaz L k,e=0∨e = -1∨1≤e:=fun e he=>by
 rcases QeY h k he with h | h | ⟨j,rfl,_,h1⟩
 ·exact .inl h
 ·exact .inr (.inl h)
 ·refine .inr (.inr ?_);rcases Nat.eq_zero_or_pos j with e | e
  ·subst e;rw [Qcs hs] at h1;simp at h1
  ·omega
theorem QpJ {L:List Qag}(h:QaV L=true)(k:Int){i:Nat}(hi:1≤i)(hk:kd L i≠1):(Qaz L k).count (i:Int)=0:=by
 rw [List.count_eq_zero];intro he;rcases QeY h k he with h | h | ⟨j,e,_,h1⟩
 ·omega
 ·omega
 ·have:i=j:=by omega
  subst this;exact hk h1
theorem QgF {L:List Qag}(h:QaV L=true)(P:List Int){i:Nat}(hi:1≤i)(hk:kd L i≠1):sumT L P i=0:=by
 unfold sumT;have:(List.range L.length).map (QbI L P i)=(List.range L.length).map (fun _=>0):=List.map_congr_left fun j _=>by
  unfold QbI
  split
  ·exact QpJ h j hi hk
  ·rfl
 rw [this]
 generalize L.length=n
 induction n with
 | zero=>rfl
 | succ n ih=>rw [List.range_succ,List.map_append,List.sum_append,ih];rfl
theorem Qoc {L:List Qag}{P:List Int}(h:∀k ∈ P,Qbf L k=true){i:Nat}(hi:1≤i)(hk:kd L i≠2):P.count (i:Int)=0:=by
 rw [List.count_eq_zero];intro he;rcases QbH (h _ he) with h | ⟨j,e,_,h1⟩
 ·omega
 ·have:i=j:=by omega
  subst this;exact hk h1
theorem Qnz {L:List Qag}(hs:Qap L=0)(ht:QaV L=true){P l:List Int}{k:Int}(hk:Qbf L k=true)(hl:l.length=L.length)(h:∀i,i<L.length→l.getD i 0=cntI L P i) :
  ∀i,i<L.length→(stepC L l k).getD i 0=cntI L (P ++ [k]) i:=by
 intro i hi;unfold stepC;rcases QbH hk with rfl | ⟨j,rfl,hj,hj2⟩
 ·rw [if_pos rfl,h i hi];unfold cntI
  by_cases i0:i=0
  ·rw [if_pos i0,if_pos i0]
  rw [if_neg i0,if_neg i0];have e1:sumT L (P ++ [0]) i=sumT L P i:=Qd5 _ fun q _=>by
   unfold QbI
   by_cases q0:q=0
   ·subst q0;rw [if_neg (by rw [Qcs hs];simp),if_neg (by rw [Qcs hs];simp)]
   ·have:((q:Int) ∈ P ++ [0])↔(q:Int) ∈ P:=by simp;omega
    simp only [this]
  rw [e1,List.count_append];have:List.count (i:Int) [0]=0:=by rw [List.count_eq_zero];simp;omega
  rw [this];simp
 ·have j0:j≠0:=fun e=>by subst e;rw [Qcs hs] at hj2;simp at hj2
  rw [if_neg (by omega)];have hjj:(inc l (j:Int)).getD (j:Int).toNat 0=((P.count (j:Int):Nat):Int)+1:=by
   rw [Int.toNat_natCast,Qe3 l j j (by omega),h j hj,if_pos (by simp)];unfold cntI;rw [if_neg j0,QgF ht P (by omega) (by rw [hj2];decide)];omega
  rw [hjj]
  by_cases hP:(j:Int) ∈ P
  ·have:0<P.count (j:Int):=List.count_pos_iff.2 hP;rw [if_neg (by omega),Qe3 l j i (by omega),h i hi];unfold cntI
   by_cases i0:i=0
   ·subst i0;rw [if_pos rfl,if_pos rfl,if_neg (by simp;omega)];rfl
   rw [if_neg i0,if_neg i0];have e1:sumT L (P ++ [(j:Int)]) i=sumT L P i:=Qd5 _ fun q _=>by
    unfold QbI;have:((q:Int) ∈ P ++ [(j:Int)])↔(q:Int) ∈ P:=by
     simp only [List.mem_append,List.mem_singleton];exact⟨fun x=>x.elim id (fun e=>e ▸ hP),.inl⟩
    simp only [this]
   rw [e1,List.count_append,List.count_singleton]
   by_cases e:j=i
   ·subst e;simp;omega
   ·rw [if_neg (by simp;omega),if_neg (by simp;omega)];simp
  ·have c0:P.count (j:Int)=0:=List.count_eq_zero.2 hP;rw [if_pos (by omega)];unfold cntI
   by_cases i0:i=0
   ·subst i0;rw [if_pos rfl,Qe9 _ _ (Qi1 hs ht j),Qe3 l j 0 (by omega),h 0 hi,if_neg (by simp;omega)];rfl
   rw [if_neg i0,Qf3 i (by omega) _ _ (by rw [Qcc,hl];exact hi) (Qi1 hs ht j),Qe3 l j i (by omega),h i hi];unfold cntI;rw [if_neg i0];have e1:sumT L (P ++ [(j:Int)]) i=sumT L P i+(Qaz L j).count (i:Int):=by
    unfold sumT;refine Qlo (k:=j) _ hj ?_ ?_
    ·unfold QbI;rw [if_pos ⟨hj2,by simp⟩,if_neg (fun x=>hP x.2)];omega
    ·intro q hq;unfold QbI;have:((q:Int) ∈ P ++ [(j:Int)])↔(q:Int) ∈ P:=by
      simp only [List.mem_append,List.mem_singleton];exact⟨fun x=>x.elim id (fun e=>absurd (by omega) hq),.inl⟩
     simp only [this]
   rw [e1,List.count_append,List.count_singleton]
   by_cases e:j=i
   ·subst e;simp;omega
   ·rw [if_neg (by simp;omega),if_neg (by simp;omega)];omega
theorem Qjp {L:List Qag}(hs:Qap L=0)(ht:QaV L=true):∀ (Q P l:List Int),(∀k ∈ Q,Qbf L k=true)→l.length=L.length→(∀i,i<L.length→l.getD i 0=cntI L P i)→
  ∀i,i<L.length→(Q.foldl (stepC L) l).getD i 0=cntI L (P ++ Q) i
 | [],P,l,_,_,h,i,hi=>by simpa using h i hi
 | k :: Q,P,l,hQ,hl,h,i,hi=>by
  have:=Qjp hs ht Q (P ++ [k]) (stepC L l k) (fun x hx=>hQ x (List.mem_cons_of_mem _ hx)) (by rw [Qev,hl]) (Qnz hs ht (hQ k List.mem_cons_self) hl h) i hi;rw [List.foldl_cons,this,List.append_assoc];rfl
def QaC (m:ImgD):List Int:=(Qaw m).flatMap (fun s=>s.2.2)
theorem Qee {m:ImgD}(h:Qao m=0):∀k ∈ QaC m,Qbf m.slots k=true:=by
 intro k hk;obtain⟨z1,z2,z3,z4,z5,z6,z7⟩:=Qad h;unfold QaC at hk;rw [List.mem_flatMap] at hk;obtain⟨s,hs,hks⟩:=hk;have:=List.all_eq_true.1 z7 s hs;unfold Qas at this;simp only [Bool.and_eq_true] at this;exact List.all_eq_true.1 this.2.1 k hks
theorem Qbr {m:ImgD}(h:Qao m=0)(i:Nat)(hi:i<m.slots.length):(cntL m).getD i 0=cntI m.slots (QaC m) i:=by
 obtain⟨z1,z2,z3,z4,z5,z6,z7⟩:=Qad h;have:=Qjp z2 z6 (QaC m) [] (List.replicate m.slots.length 0) (Qee h) (by simp) (fun i hi=>?_) i hi
 ·simpa [cntL,QaC] using this
 ·have e:(List.replicate m.slots.length (0:Int)).getD i 0=0:=by simp [List.getD,hi]
  rw [e];unfold cntI
  split
  ·rfl
  ·have:sumT m.slots [] i=0:=by
    have e:sumT m.slots [] i=((List.range m.slots.length).map (fun _=>0)).sum:=Qd5 _ fun q _=>by unfold QbI;rw [if_neg (by simp)]
    rw [e]
    generalize m.slots.length=n
    induction n with
    | zero=>rfl
    | succ n ih=>rw [List.range_succ,List.map_append,List.sum_append,ih];rfl
   rw [this];rfl

theorem Qdi {L:List Qag}{k kind:Int}(h:k≠0)(hk:0≤kind):(Qe6 L k == kind)=isKd L k kind:=by
 unfold Qe6 isKd
 by_cases h1:1≤k∧k<L.length
 ·rw [if_pos h1,decide_eq_true (by omega)];rfl
 ·rw [if_neg h1,decide_eq_false (by omega)];simp;omega
def QcV (L:List Qag) (g:Int) (r:List Int) (k:Nat):Bool:=
 r.getD k 0 == 0 || (Qe6 L (r.getD k 0) == 2 && (List.range 4).all (fun i=>decide (((k*4+i:Nat):Int)<g) || (Qaz L (r.getD k 0)).getD i 0 == 0))
def Qpe (L:List Qag) (g:Int) (r:List Int):Bool:=decide ((r.length:Int)=(g+3) / 4) && (List.range r.length).all (QcV L g r)
theorem Qgv {L:List Qag}(hs:Qap L=0){k:Int}(h:isKd L k 2=true):(Qaz L k).length=4:=by
 obtain⟨j,rfl,hj,hk⟩:=Qbu h;have:=QdE (QaF hs hj) hk;unfold Qaz
 simpa [List.getD,hj] using this.1
theorem Qny {L:List Qag}{g:Int}{r:List Int}(hs:Qap L=0)(hg:Qay g=true):Qpe L g r=Qas L g r:=by
 unfold Qay at hg;simp only [decide_eq_true_eq] at hg;unfold Qpe Qas
 by_cases hl0:¬((r.length:Int)=(g+3) / 4)
 ·rw [decide_eq_false hl0];rfl
 have hl:(r.length:Int)=(g+3) / 4:=Classical.not_not.1 hl0;rw [decide_eq_true hl,Bool.true_and,Bool.true_and,Bool.eq_iff_iff];simp only [List.all_eq_true,Bool.and_eq_true,List.mem_range]
 constructor
 ·intro h;refine⟨fun x hx=>?_,?_⟩
  ·obtain⟨j,hj,rfl⟩:=List.getElem_of_mem hx;have:=h j hj;unfold QcV at this;have e:r.getD j 0=r[j]:=by simp [List.getD,hj]
   rw [e] at this
   by_cases e0:r[j]=0
   ·rw [e0];rfl
   ·rw [QbL e0];rw [←Qdi e0 (by decide)];simp [e0] at this
    simpa using this.1
  ·unfold QbY
   by_cases g4:g % 4=0
   ·simp [g4]
   ·have hlt:r.length - 1<r.length:=by omega
    have:=h _ hlt;unfold QcV at this
    generalize r.getD (r.length - 1) 0=x at this ⊢
    by_cases e0:x=0
    ·simp [e0]
    ·have hb:(x == 0)=false:=by simpa using e0
     rw [hb,Bool.false_or] at this ⊢;simp only [Bool.and_eq_true,List.all_eq_true,List.mem_range] at this;have hk:isKd L x 2=true:=by rw [←Qdi e0 (by decide)];exact this.1
     have h4:=Qgv hs hk;simp only [Bool.or_eq_true,List.all_eq_true];refine .inr fun y hy=>?_
     obtain⟨j,hj,rfl⟩:=List.getElem_of_mem hy;rw [List.getElem_drop];simp at hj
     have:=this.2 ((g % 4).toNat+j) (by omega);rw [decide_eq_false (by omega)] at this
     simpa [List.getD,show (g % 4).toNat+j<(Qaz L x).length by omega] using this
 ·intro ⟨h1,h2⟩ k hk;unfold QcV;have e:r.getD k 0=r[k]:=by simp [List.getD,hk]
  have hE:=h1 _ (List.getElem_mem hk);rw [←e] at hE;unfold QbY at h2
  by_cases hlast:k=r.length - 1
  ·rw [←hlast] at h2
   generalize r.getD k 0=x at hE h2 ⊢
   by_cases e0:x=0
   ·simp [e0]
   have hb:(x == 0)=false:=by simpa using e0
   rw [QbL e0] at hE;rw [hb,Bool.false_or,Qdi e0 (by decide),hE,Bool.true_and,List.all_eq_true];rw [hb,Bool.false_or] at h2;have h4:=Qgv hs hE;intro i hi;have hi:=List.mem_range.1 hi
   by_cases hlt:((k*4+i:Nat):Int)<g
   ·rw [decide_eq_true hlt];rfl
   ·rw [decide_eq_false hlt,Bool.false_or];have g4:g % 4≠0:=by omega
    have hg4:(g % 4 == 0)=false:=by simpa using g4
    rw [hg4,Bool.false_or,List.all_eq_true] at h2;have hm:(Qaz L x).getD i 0 ∈ (Qaz L x).drop (g % 4).toNat:=by
     have:i<(Qaz L x).length:=by omega
     rw [List.mem_iff_getElem];refine⟨i - (g % 4).toNat,by simp;omega,?_⟩;rw [List.getElem_drop];simp only [List.getD,List.getElem?_eq_getElem this,Option.getD_some]
     congr 1;omega
    exact h2 _ hm
  ·by_cases e0:r.getD k 0=0
   ·rw [e0];rfl
   have hb:(r.getD k 0 == 0)=false:=by simpa using e0
   rw [QbL e0] at hE;rw [hb,Bool.false_or,Qdi e0 (by decide),hE,Bool.true_and,List.all_eq_true];intro i hi;have hi:=List.mem_range.1 hi;rw [decide_eq_true (by omega)];rfl
def entP (L:List Qag) (e:Int):Bool:=!(decide (0<e) && Qe6 L e != 1)
theorem QlF {L:List Qag}{e:Int}(h:isE e=true):entP L e=tabE L e:=by
 rw [Qgo] at h;unfold entP;rcases h with rfl | rfl | h
 ·rfl
 ·rfl
 ·rw [Qd8 (by omega) (by omega),decide_eq_true (by omega),Bool.true_and,bne,Bool.not_not,Qdi (by omega) (by decide)]
theorem QnK {s:Qag}(h:okD s=true):∀e ∈ s.2.2,isE e=true:=by
 unfold okD QaZ at h
 split at h
 ·simp at h;rw [h.2];intro e he;cases he
 split at h
 ·simp at h;rw [h.2];intro e he;cases he
 split at h
 ·simp at h;exact List.all_eq_true.1 (Qix h.1)
 ·cases h
theorem Qjk {L:List Qag}(hs:Qap L=0):L.all (fun s=>s.2.2.all (entP L))=QaV L:=by
 unfold QaV;rw [Bool.eq_iff_iff,List.all_eq_true,List.all_eq_true];have:∀s ∈ L,s.2.2.all (entP L)=s.2.2.all (tabE L):=fun s hm=>by
  have hE:∀e ∈ s.2.2,isE e=true:=by
   obtain⟨j,hj,rfl⟩:=List.getElem_of_mem hm;exact QnK (QaF hs hj)
  rw [Bool.eq_iff_iff,List.all_eq_true,List.all_eq_true];exact⟨fun h e he=>by rw [←QlF (hE e he)];exact h e he,fun h e he=>by rw [QlF (hE e he)];exact h e he⟩
 exact⟨fun h s hm=>by rw [←this s hm];exact h s hm,fun h s hm=>by rw [this s hm];exact h s hm⟩

theorem Qax {n:Nat}{w W:World}(h:Below n w W):Below n w W.drew:=⟨h.os,h.tape,h.output,h.size,h.block⟩
theorem QhO (gm:Int)(ra:Option Addr)(rn rc:Nat)(sa:Option Addr)(sn sc:Nat)(fa:Option Addr)(fn fc:Nat)(na:Option Addr)(nn nc:Nat)(g:Nat)(qa:Option Addr)(qn qc:Nat)(w:World)(hg:g≤16)(_hq:qn≤9223372036854775807)(hl:qn≠(g+3) / 4) :
  Calls Tryz.prog 53 #[.agg (bI gm ra rn rc sa sn sc fa fn fc na nn nc),.int .i64 g,.slice qa qn qc] w fun r w'=>r=.returned (.bool false)∧Below w.heap.size w w':=by
 have b0:Below w.heap.size w (w.alloc (.cells (bI gm ra rn rc sa sn sc fa fn fc na nn nc) 26)):=bA;have hb:((qn:Int) != ((g:Int)+3) / 4)=true:=by simp;omega
 clear hl
 go_enter Tryz.func53,Tryz.ntmps53
 go_wp2_with (go_at_call 80;refine (Qha _ _ (by omega)).mono ?_;rintro e w' ⟨rfl,hw⟩;subst hw);go_ret;exact⟨rfl,b0⟩
theorem Qil (gm:Int)(ra:Option Addr)(rn rc:Nat)(sa:Option Addr)(sn sc:Nat)(fa:Option Addr)(fn fc:Nat)(na:Option Addr)(nn nc:Nat)(m:ImgD)(g:Nat)(qa:Option Addr)(qn qc:Nat)(r:List Int)(B:Bool)(w:World)
  (h:Img w (.agg (bI gm ra rn rc sa sn sc fa fn fc na nn nc)) m) (hsn:m.slots.length=sn) (hcl:∀j,(h:j<m.slots.length)→∃sb so,sa=some ⟨sb,so,none⟩∧sb<w.heap.size∧SlAt w sb (so+j*3) m.slots[j]) (hs:Qap m.slots=0)
  (hqn:r.length=qn) (hg:g≤16) (hq4:qn≤4) (hl:((qn:Int) != ((g:Int)+3) / 4)=false)
  (hq:∀j,j<qn→∃b off,qa=some ⟨b,off,none⟩∧b<w.heap.size∧w.cell? ⟨b,off+j,none⟩=some (.int .i64 (r.getD j 0)))
  (hB:(List.range r.length).all (QcV m.slots g r)=B) :
  Calls Tryz.prog 53 #[.agg (bI gm ra rn rc sa sn sc fa fn fc na nn nc),.int .i64 g,.slice qa qn qc] w fun r w'=>r=.returned (.bool B)∧Below w.heap.size w w':=by
 have b0:Below w.heap.size w (w.alloc (.cells (bI gm ra rn rc sa sn sc fa fn fc na nn nc) 26)):=bA;have m0:(w.alloc (.cells (bI gm ra rn rc sa sn sc fa fn fc na nn nc) 26)).heap[w.heap.size]? = some (.cells (bI gm ra rn rc sa sn sc fa fn fc na nn nc) 26):=zHn _ _;have h40:sn≤40:=by rw [←hsn];exact (Qah hs).2
 have H1:Hid (r.length=qn∧m.slots.length=sn):=⟨hqn,hsn⟩;have H2:Hid (∀j,j<qn→∃b off,qa=some ⟨b,off,none⟩∧b<w.heap.size∧w.cell? ⟨b,off+j,none⟩=some (.int .i64 (r.getD j 0))):=hq;have H3:Hid (∀j,(h:j<m.slots.length)→∃sb so,sa=some ⟨sb,so,none⟩∧sb<w.heap.size∧SlAt w sb (so+j*3) m.slots[j]):=hcl;have H4:Hid (Qap m.slots=0):=hs;have H5:Hid ((List.range r.length).all (QcV m.slots g r)=B):=hB;have H6:Hid (Img w (.agg (bI gm ra rn rc sa sn sc fa fn fc na nn nc)) m):=h;have H7:Hid (∀k,k<qn→QcV m.slots g r k=false→B=false):=fun k hk hf=>by
  rw [←hB]
  cases e:(List.range r.length).all (QcV m.slots g r) with
  | false=>rfl
  | true=>
   rw [List.all_eq_true] at e;have:=e k (by rw [hqn];simpa using hk);rw [hf] at this;cases this
 clear hqn hsn hq hcl hs hB h
 go_enter Tryz.func53,Tryz.ntmps53
 go_wp2_with (go_at_call 80;refine (Qha _ _ (by omega)).mono ?_;rintro e w' ⟨rfl,hw⟩;subst hw)
 go_loopw [7,8,9] (fun k _ _ wr=>∃q:Nat,q≤qn∧k=.int .i64 q∧Hid (∀j,j<q→QcV m.slots g r j=true)∧Below (w.alloc (.cells (bI gm ra rn rc sa sn sc fa fn fc na nn nc) 26)).heap.size (w.alloc (.cells (bI gm ra rn rc sa sn sc fa fn fc na nn nc) 26)) wr) (fun k _ _ _=>qn - (intOf k).toNat)
 case atStart=>exact⟨0,Nat.zero_le _,rfl,fun j hj=>absurd hj (by omega),Below.refl _ _⟩
 case round=>
  obtain⟨q,hqq,rfl,HA,hbel⟩:=hrel
  by_cases hlk:q<qn
  ·obtain⟨b,off,rfl,hlt,hcell⟩:=H2.out q hlk;have hki:(q:Int)<(qn:Int):=by omega
   have hbw:=Below.on b0 hbel;obtain⟨x,hx⟩:∃x,r.getD q 0=x:=⟨_,rfl⟩;rw [hx] at hcell;have hc1:wr.cell? ⟨b,off+q,none⟩=some (.int .i64 x):=(hbw.cell (p:=⟨b,off+q,none⟩) hlt).trans hcell;have HF:Hid (QcV m.slots g r q=(x == 0 || (Qe6 m.slots x == 2 && (List.range 4).all (fun i=>decide (((q*4+i:Nat):Int)<g) || (Qaz m.slots x).getD i 0 == 0)))):=by
    show _=_
    unfold QcV;rw [hx]
   clear hx hcell;have mr:=Qab m0 hbel (by simp);obtain⟨c0,c1,c2,c3,c4⟩:=five mr
   by_cases hx0:x=0
   ·have hx0b:(x == 0)=true:=by simp [hx0]
    have HX:Hid (x=0):=hx0;clear hx0;go_wp2_with fail;go_roundw
    case rel=>exact⟨q+1,by omega,by go_num,fun j hj=>by
     by_cases e:j=q
     ·subst e;rw [HF.out,hx0b];rfl
     ·exact HA.out j (by omega),hbel⟩
    case measure=>simp [intOf];omega
   ·have hx0b:(x == 0)=false:=by simp [hx0]
    have HX:Hid (x≠0):=hx0;clear hx0;obtain⟨K,hK⟩:∃K,Qe6 m.slots x=K:=⟨_,rfl⟩;have hszr:w.heap.size<wr.heap.size:=(szH mr);have hbwr:b<wr.heap.size:=Nat.lt_of_lt_of_le hlt hbw.size;have hcall:=fun W (hW:Below w.heap.size w W)=>Qht (H6.out.below hW) (by rw [H1.out.2];omega) x hK
    have HK:Hid (Qe6 m.slots x=K):=hK;clear hK;go_wp2_with fail
    go_region_held3 (fun w'=>w'.cell? ⟨w.heap.size,0,none⟩=some (.int .i64 gm)∧w'.cell? ⟨w.heap.size,0+1,none⟩=some (.slice ra rn rc)∧w'.cell? ⟨w.heap.size,0+1+1,none⟩=some (.slice sa sn sc)∧w'.cell? ⟨w.heap.size,0+1+1+1,none⟩=some (.slice fa fn fc)∧w'.cell? ⟨w.heap.size,0+1+1+1+1,none⟩=some (.slice na nn nc)∧w'.cell? ⟨b,off+q,none⟩=some (.int .i64 x)) (first | exact⟨c0,c1,c2,c3,c4,hc1⟩ | exact⟨d0,d1,d2,d3,d4,e1⟩)
     (first | (go_at_call 52;refine (hcall _ (Qax hbw)).mono ?_;rintro e w1 ⟨rfl,b1⟩;have b1:=Qat b1;have m1:=Qab mr b1 hszr;obtain⟨d0,d1,d2,d3,d4⟩:=five m1;have e1:=(b1.cell (p:=⟨b,off+q,none⟩) hbwr).trans hc1))
    have hw1:=Below.on hbw b1;have hbel1:=hbel.trans (b1.mono hbel.size);clear hcall hc1 c0 c1 c2 c3 c4 hbel hbw
    by_cases hK2:K=2
    ·have hKb:(K != 2)=false:=by simp [hK2]
     have hkd:isKd m.slots x 2=true:=by rw [←Qdi HX.out (by decide),HK.out,hK2];rfl
     obtain⟨t,ht,htl,hk2⟩:=Qbu hkd;subst ht;have hok:=QdE (QaF H4.out htl) hk2;obtain⟨sb,so,rfl,hsb,hSA⟩:=H3.out t htl;obtain⟨tv,_,_,c3,hsl⟩:=hSA;obtain⟨tb,tw,tc,rfl,_,htb,htc⟩:=hsl.four hok.1;have hts:t<sn:=by rw [←H1.out.2];exact htl
     have hti:(t:Int)<(sn:Int):=by omega
     have ct:w1.cell? ⟨sb,so+t*3+2,none⟩=some (.slice (some ⟨tb,tw,none⟩) 4 tc):=(hw1.cell (p:=⟨sb,so+t*3+2,none⟩) hsb).trans c3;have HT:Hid (∀j,j<4→w1.cell? ⟨tb,tw+j,none⟩=some (.int .i64 ((Qaz m.slots t).getD j 0))):=fun j hj=>by
      have:=(hw1.cell (p:=⟨tb,tw+j,none⟩) htb).trans (htc j hj);rw [this];unfold Qaz;simp [List.getD,htl]
     have HF2:Hid (QcV m.slots g r q=(List.range 4).all (fun i=>decide (((q*4+i:Nat):Int)<g) || (Qaz m.slots t).getD i 0 == 0)):=by
      show _=_
      rw [HF.out,hx0b,HK.out,hK2];rfl
     have HF3:Hid (∀i,i<4→¬((q*4+i:Nat):Int)<g→(Qaz m.slots t).getD i 0≠0→B=false):=fun i hi h1 h2=>H7.out q hlk (by
      rw [HF2.out]
      cases e:(List.range 4).all (fun i=>decide (((q*4+i:Nat):Int)<g) || (Qaz m.slots t).getD i 0 == 0) with
      | false=>rfl
      | true=>
       rw [List.all_eq_true] at e;have:=e i (by simpa using hi);rw [decide_eq_false h1,Bool.false_or] at this;exact absurd (by simpa using this) h2)
     clear hsl htc c3 hok hk2 hkd hK2;go_wp2_with fail
     go_region
     go_wp2_with fail
     go_loopw [9] (fun i wr=>∃u:Nat,u≤4∧i=.int .i64 u∧Hid (∀j,j<u→(decide (((q*4+j:Nat):Int)<g) || (Qaz m.slots t).getD j 0 == 0)=true)∧wr=w1.drew) (fun i _=>4 - (intOf i).toNat)
     case atStart=>exact⟨0,Nat.zero_le _,rfl,fun j hj=>absurd hj (by omega),rfl⟩
     case round=>
      obtain⟨u,hu,rfl,HI,hw⟩:=hrel;subst hw
      by_cases hu4:u<4
      ·have hui:(u:Int)<4:=by omega
       have cx:=HT.out u hu4;obtain⟨y,hy⟩:∃y,(Qaz m.slots t).getD u 0=y:=⟨_,rfl⟩;rw [hy] at cx;have HY:Hid ((Qaz m.slots t).getD u 0=y):=hy;clear hy
       by_cases hlt:(q:Int)*4+u<g
       ·have hge:¬(g:Int)≤(q:Int)*4+u:=by omega
        go_wp2_with fail;go_roundw
        case rel=>exact⟨u+1,by omega,by go_num,fun j hj=>by
         by_cases e:j=u
         ·subst e;rw [decide_eq_true (by omega)];rfl
         ·exact HI.out j (by omega),trivial⟩
        case measure=>simp [intOf];omega
       ·have hge:(g:Int)≤(q:Int)*4+u:=by omega
        by_cases hy0:y=0
        ·have hyb:(y != 0)=false:=by simp [hy0]
         have HY0:Hid (y=0):=hy0;clear hy0;go_wp2_with fail;go_roundw
         case rel=>exact⟨u+1,by omega,by go_num,fun j hj=>by
          by_cases e:j=u
          ·subst e;rw [HY.out,HY0.out];simp
          ·exact HI.out j (by omega),trivial⟩
         case measure=>simp [intOf];omega
        ·have hyb:(y != 0)=true:=by simp [hy0]
         have HY0:Hid (B=false):=HF3.out u hu4 (by omega) (by rw [HY.out];exact hy0);clear hy0;go_wp2_with fail;go_ret;exact⟨QaR HY0.out.symm,Qax hw1⟩
      ·have e4:u=4:=by omega
       subst e4;go_wp2_with fail;go_roundw
       case rel=>exact⟨q+1,by omega,by go_num,fun j hj=>by
        by_cases e:j=q
        ·subst e;rw [HF2.out,List.all_eq_true];intro i hi;exact HI.out i (by simpa using hi)
        ·exact HA.out j (by omega),⟨hbel1.os,hbel1.tape,hbel1.output,hbel1.size,hbel1.block⟩⟩
       case measure=>simp [intOf];omega
    ·have hKb:(K != 2)=true:=by simp [hK2]
     have HBf:Hid (B=false):=H7.out q hlk (by rw [HF.out,hx0b,HK.out];simp [hK2]);clear hK2;go_wp2_with fail;go_ret;exact⟨QaR HBf.out.symm,hw1⟩
  ·have e4:q=qn:=by omega
   subst e4;have HE:Hid (B=true):=by
    show _=_
    rw [←H5.out,List.all_eq_true];intro j hj;exact HA.out j (by rw [←H1.out.1];simpa using hj)
   go_wp2_with fail;go_ret;exact⟨QaR HE.out.symm,Below.on b0 hbel⟩
theorem QaQ.at {w:World}{sa:Option Addr}{n sc:Nat}{L:List Qag}(h:QaQ w (.slice sa n sc) L):∀j,(h:j<L.length)→∃sb so,sa=some ⟨sb,so,none⟩∧sb<w.heap.size∧SlAt w sb (so+j*3) L[j]:=by
 intro j hj;obtain⟨sb,so,sc',e,_,hsb,hcl⟩:=h.open (by omega);simp at e
 exact⟨sb,so,e.1,hsb,hcl j hj⟩
theorem QeW {w:World}{v rv:Value}{m:ImgD}{g:Int}{r:List Int}(h:Img w v m)(hs:Qap m.slots=0)(hg:Qay g=true)(hr:Sl w rv r){B:Bool}(hB:Qas m.slots g r=B) :
  Calls Tryz.prog 53 #[v,.int .i64 g,rv] w fun r w'=>r=.returned (.bool B)∧Below w.heap.size w w':=by
 rw [←Qny hs hg] at hB;unfold Qay at hg;simp only [decide_eq_true_eq] at hg;obtain⟨k,rfl⟩:∃k:Nat,g=k:=⟨g.toNat,by omega⟩;have h':=h;obtain⟨ra,rc,sa,sc,fa,fc,na,nc,rfl,h1,h2,h3,h4⟩:=h.parts;obtain⟨qa,qc,rfl⟩:=hr.form;obtain⟨_,hm,_,hc⟩:=hr.cells;unfold Qpe at hB
 by_cases hl:(r.length:Int)=((k:Int)+3) / 4
 ·rw [decide_eq_true hl,Bool.true_and] at hB;exact Qil m.guest ra _ rc sa _ sc fa _ fc na _ nc m k qa _ qc r B w h' rfl h2.at hs rfl (by omega) (by omega) (by simp [hl]) hc hB
 ·rw [decide_eq_false hl,Bool.false_and] at hB;subst hB;exact QhO m.guest ra _ rc sa _ sc fa _ fc na _ nc k qa _ qc w (by omega) hm (by omega)
end Go.Proofs.YtjfkfnjigofmpaaGreat

namespace Go.Proofs.YtjfkfnjigofmpaaGreat
open Go.RowKit
theorem QlL (ao:Option Addr)(n cap:Nat)(xs:List Int)(w:World)(hn:xs.length=n)(hm:n≤9223372036854775807)(hc:∀j,j<n→∃b off,ao=some ⟨b,off,none⟩∧w.cell? ⟨b,off+j,none⟩=some (.int .i64 (xs.getD j 0))) :
  Calls Tryz.prog 100 #[.slice ao n cap] w fun r w'=>r=.returned (.bool (Qbz xs))∧w'=w:=by
 have HC:Hid (∀j,j<n→∃b off,ao=some ⟨b,off,none⟩∧w.cell? ⟨b,off+j,none⟩=some (.int .i64 (xs.getD j 0))):=hc;clear hc;have HN:Hid (xs.length=n):=hn;clear hn
 go_enter Tryz.func100,Tryz.ntmps100
 go_wp2
 go_loop [3] (fun i=>∃k:Nat,k≤n∧i=.int .i64 k∧∀j,j<k→((xs.getD j 0) == 0)=true) (fun i=>n - (intOf i).toNat)
 case atStart=>exact⟨0,by omega,rfl,fun j hj=>absurd hj (by omega)⟩
 case round=>
  obtain⟨k,hk,rfl,hall⟩:=hrel;have HA:Hid (∀j,j<k→((xs.getD j 0) == 0)=true):=hall;clear hall
  by_cases hlt:k<n
  ·obtain⟨x,hx⟩:∃x,xs.getD k 0=x:=⟨_,rfl⟩;obtain⟨b,off,hao,hck⟩:=HC.out k hlt;rw [hx] at hck;have HX:Hid (xs.getD k 0=x):=hx;clear hx
   by_cases hE:x=0
   ·have hE':(x != 0)=false:=by simp [hE]
    have HE0:Hid (x=0):=hE;clear hE
    go_wp2
    go_round
    case rel=>exact⟨k+1,by omega,by go_num,QdN (p:=fun x=>x == 0) HA.out HX.out (by simp [HE0.out])⟩
    case measure=>simp [intOf];omega
   ·have hE':(x != 0)=true:=by simp [hE]
    go_wp2
    go_ret;refine⟨?_,rfl⟩;rw [show Qbz xs=false from QcD (j:=k) (by rw [HN.out];exact hlt) (by rw [HX.out];simp [hE])];rfl
  ·have e4:k=n:=by omega
   subst e4
   go_wp2
   go_ret;refine⟨?_,rfl⟩;rw [show Qbz xs=true from QcM (by rw [HN.out];exact HA.out)];rfl
theorem Qkv (v:Value)(xs:List Int)(w:World)(h:Sl w v xs) :
  Calls Tryz.prog 100 #[v] w fun r w'=>r=.returned (.bool (Qbz xs))∧w'=w:=by
 obtain⟨ao,cap,rfl⟩:=h.form;obtain⟨hn,hm,hcp,hc⟩:=h.cells;exact QlL ao _ cap xs w hn hm (fun j hj=>by obtain⟨b,off,h1,_,h2⟩:=hc j hj;exact⟨b,off,h1,h2⟩)
end Go.Proofs.YtjfkfnjigofmpaaGreat

namespace Go.Proofs.YtjfkfnjigofmpaaGreat
open Go.RowKit
theorem Qjg (d:ByteArray)(xs:List Int):QaZ 0 d xs=decide (d.size=0∧xs.length=0):=rfl
theorem QgK (d:ByteArray)(xs:List Int):QaZ 1 d xs=decide (d.size=4∧xs.length=0):=rfl
theorem Qjm (d:ByteArray)(xs:List Int):QaZ 2 d xs=decide (ckE xs=0∧Qdc xs=false∧d.size=0):=rfl
theorem Qe0 (d:ByteArray)(xs:List Int):QaZ 2 d xs=true↔(d.size=0∧ckE xs=0∧Qbz xs=false):=by
 rw [Qjm]
 by_cases h:ckE xs=0 <;> simp [Qdc,h,and_comm]
theorem QiF {k:Int}{c:Int}(h:k≠c):(k == c)=false:=by simpa using h
theorem QiM (k:Int)(d:ByteArray)(ta:Option Addr)(tn tc:Nat)(xs:List Int)(w:World)(h:Sl w (.slice ta tn tc) xs) :
  Calls Tryz.prog 79 #[.agg #[.int .i64 k,.string d,.slice ta tn tc]] w fun r w'=>r=.returned (.bool (QaZ k d xs))∧Below w.heap.size w w':=by
 have hs:=h.past (.cells #[.int .i64 k,.string d,.slice ta tn tc] 37);have hl:xs.length=tn:=h.cells.1;have HL:Hid (xs.length=tn):=hl;have b0:Below w.heap.size w (w.alloc (.cells #[.int .i64 k,.string d,.slice ta tn tc] 37)):=bA;clear hl
 by_cases h0:k=0
 ·subst h0
  by_cases hd:d.size=0
  ·have hd1:d.toList.isEmpty=true:=by rw [QbN];simp [hd]
   have HD:Hid (d.size=0):=hd;clear hd
   go_enter Tryz.func79,Tryz.ntmps79
   go_wp2
   go_ret;exact⟨Qbo (by rw [Qjg];simp [HD.out,← HL.out]),b0⟩
  ·have hd1:d.toList.isEmpty=false:=by rw [QbN];simp [hd]
   go_enter Tryz.func79,Tryz.ntmps79
   go_wp2
   go_ret;exact⟨Qbo (by rw [Qjg];simp [hd]),b0⟩
 by_cases h1:k=1
 ·subst h1;clear h0
  by_cases hd:d.size=4
  ·have hd1:((d.size:Int) == 4)=true:=by simp;omega
   have HD:Hid (d.size=4):=hd;clear hd
   go_enter Tryz.func79,Tryz.ntmps79
   go_wp2
   go_ret;exact⟨Qbo (by rw [QgK];simp [HD.out,← HL.out]),b0⟩
  ·have hd1:((d.size:Int) == 4)=false:=by simp;omega
   go_enter Tryz.func79,Tryz.ntmps79
   go_wp2
   go_ret;exact⟨Qbo (by rw [QgK];simp [hd]),b0⟩
 by_cases h2:k=2
 ·subst h2;clear h0 h1
  by_cases hd:d.size=0
  ·have hd1:d.toList.isEmpty=true:=by rw [QbN];simp [hd]
   have HD:Hid (d.size=0):=hd;clear hd;rcases Qn5 xs with hc | hc
   ·have HK:Hid (ckE xs=0):=hc
    go_enter Tryz.func79,Tryz.ntmps79
    go_wp2_with (first | (go_at_call 99;refine (QeU _ xs _ hs).mono ?_;rintro e w' ⟨rfl,rfl⟩) | (go_at_call 100;refine (Qkv _ xs _ hs).mono ?_;rintro e w' ⟨rfl,rfl⟩));go_ret;exact⟨Qbo (by rw [Qe0];simp [HD.out,HK.out]),b0⟩
   ·have HK:Hid (ckE xs=1):=hc
    go_enter Tryz.func79,Tryz.ntmps79
    go_wp2_with (first | (go_at_call 99;refine (QeU _ xs _ hs).mono ?_;rintro e w' ⟨rfl,rfl⟩));go_ret;exact⟨Qbo (by rw [Qe0];simp [HK.out]),b0⟩
  ·have hd1:d.toList.isEmpty=false:=by rw [QbN];simp [hd]
   go_enter Tryz.func79,Tryz.ntmps79
   go_wp2
   go_ret;exact⟨Qbo (by rw [Qe0];simp [hd]),b0⟩
 ·have HF:Hid (QaZ k d xs=false):=by show _=_;unfold QaZ;rw [if_neg h0,if_neg h1,if_neg h2]
  have e0:=QiF h0;have e1:=QiF h1;have e2:=QiF h2;clear h0 h1 h2
  go_enter Tryz.func79,Tryz.ntmps79
  go_wp2
  go_ret;exact⟨by rw [HF.out];rfl,b0⟩
theorem Qer (k:Int)(d:ByteArray)(tv:Value)(xs:List Int)(w:World)(h:Sl w tv xs) :
  Calls Tryz.prog 79 #[.agg #[.int .i64 k,.string d,tv]] w fun r w'=>r=.returned (.bool (QaZ k d xs))∧Below w.heap.size w w':=by
 obtain⟨ao,cap,rfl⟩:=h.form;exact QiM k d ao _ cap xs w h
theorem QgB (b off cap n:Nat)(L:List Qag)(w:World)(hn:L.length=n)(h1:1≤n)(h40:n≤40)(hlt:b<w.heap.size)(hc:∀j,(h:j<L.length)→SlAt w b (off+j*3) L[j]) :
  Calls Tryz.prog 51 #[.slice (some ⟨b,off,none⟩) n cap] w fun r w'=>r=.returned (.int .i64 (Qap L))∧Below w.heap.size w w':=by
 have HC:Hid (∀j,(h:j<L.length)→SlAt w b (off+j*3) L[j]):=hc;have HN:Hid (L.length=n):=hn;clear hc hn;have g1:(1:Int)≤(n:Int):=by omega
 have g2:(n:Int)≤(40:Int):=by omega
 go_enter Tryz.func51,Tryz.ntmps51
 go_wp2_with (go_at_call 50;refine (QaN _ _ _ _).mono ?_;rintro e w' ⟨rfl,hw⟩;subst hw)
 go_loopw [3] (fun i wr=>∃k:Nat,k≤n∧i=.int .i64 k∧(∀j,(h:j<L.length)→j<k→okD L[j]=true)∧Below w'.heap.size w' wr) (fun i _=>n - (intOf i).toNat)
 case atStart=>exact⟨0,Nat.zero_le _,rfl,fun j h hj=>absurd hj (by omega),Below.refl _ _⟩
 case round=>
  obtain⟨k,hk,rfl,hall,hbel⟩:=hrel;have HA:Hid (∀j,(h:j<L.length)→j<k→okD L[j]=true):=hall;clear hall
  by_cases hlk:k<n
  ·obtain⟨s,hs⟩:∃s,s=L[k]'(by rw [HN.out];exact hlk):=⟨_,rfl⟩;obtain⟨kk,dd,tt⟩:=s;have hS:SlAt w' b (off+k*3) (kk,dd,tt):=by rw [hs];exact HC.out k _
   obtain⟨tv,c1,c2,c3,hsl⟩:=hS;obtain⟨ta,tc,htv⟩:=hsl.form;subst htv;have HS:Hid ((kk,dd,tt)=L[k]'(by rw [HN.out];exact hlk)):=hs;have c1:wr.cell? ⟨b,off+k*3,none⟩=some (.int .i64 kk):=(hbel.cell (p:=⟨b,off+k*3,none⟩) hlt).trans c1;have c2:wr.cell? ⟨b,off+k*3+1,none⟩=some (.string dd):=(hbel.cell (p:=⟨b,off+k*3+1,none⟩) hlt).trans c2;have c3:wr.cell? ⟨b,off+k*3+1+1,none⟩=some (.slice ta tt.length tc):=(hbel.cell (p:=⟨b,off+k*3+1+1,none⟩) hlt).trans c3;have hslr:Sl wr (.slice ta tt.length tc) tt:=hsl.below hbel;clear hs hsl
   cases hE:QaZ kk dd tt with
   | true=>
    go_wp2_with fail;refine (Qer kk dd _ tt _ hslr).mono ?_;rintro e w2 ⟨rfl,b2⟩;go_wp2_with fail;go_roundw
    case rel=>exact⟨k+1,by omega,by go_num,fun j h hj=>by
     by_cases e:j=k
     ·subst e;rw [←HS.out];exact hE
     ·exact HA.out j h (by omega),Below.on hbel b2⟩
    case measure=>simp [intOf];omega
   | false=>
    go_wp2_with fail;refine (Qer kk dd _ tt _ hslr).mono ?_;rintro e w2 ⟨rfl,b2⟩;go_wp2_with fail;go_ret;exact⟨QaI (Qf0 (by rw [HN.out];exact h1) (by rw [HN.out];exact h40) (by rw [HN.out];exact hlk) (by rw [←HS.out];exact hE)).symm,Below.on hbel b2⟩
  ·have e4:k=n:=by omega
   subst e4;obtain⟨s,hs⟩:∃s,s=L[0]'(by rw [HN.out];exact h1):=⟨_,rfl⟩;obtain⟨kk,dd,tt⟩:=s;have hS:SlAt w' b (off+0*3) (kk,dd,tt):=by rw [hs];exact HC.out 0 _
   obtain⟨tv,c1,_,_,_⟩:=hS;have c1:wr.cell? ⟨b,off,none⟩=some (.int .i64 kk):=(hbel.cell (p:=⟨b,off,none⟩) hlt).trans (by simpa using c1);have HS:Hid ((kk,dd,tt)=L[0]'(by rw [HN.out];exact h1)):=hs;clear hs
   by_cases h0:kk=0
   ·have h0':(kk != 0)=false:=by simp [h0]
    have H0:Hid (kk=0):=h0;clear h0;go_wp2_with fail;go_ret;exact⟨QaI (Qdb (by rw [HN.out];exact h1) (by rw [HN.out];exact h40) (fun j h=>HA.out j h (by rw [HN.out] at h;exact h)) (by rw [←HS.out];exact H0.out)).symm,hbel⟩
   ·have h0':(kk != 0)=true:=by simp [h0]
    go_wp2_with fail;go_ret;exact⟨QaI (Qfb (by rw [HN.out];exact h1) (by rw [HN.out];exact h40) (by rw [←HS.out];exact h0)).symm,hbel⟩
theorem Qgx (ao:Option Addr)(n cap:Nat)(w:World)(h:decide ((1:Int)≤(n:Int)∧(n:Int)≤40)=false) :
  Calls Tryz.prog 51 #[.slice ao n cap] w fun r w'=>r=.returned (.int .i64 2)∧Below w.heap.size w w':=by
 go_enter Tryz.func51,Tryz.ntmps51
 go_wp2_with (go_at_call 50;refine (QaN _ _ _ _).mono ?_;rintro e w' ⟨rfl,hw⟩;subst hw;rw [h]);go_ret;exact⟨rfl,Below.refl _ _⟩
theorem QfE (v:Value)(L:List Qag)(w:World)(h:QaQ w v L) :
  Calls Tryz.prog 51 #[v] w fun r w'=>r=.returned (.int .i64 (Qap L))∧Below w.heap.size w w':=by
 obtain⟨ao,cap,rfl,hm,hcp,hc⟩:=h
 by_cases hn:1≤L.length∧L.length≤40
 ·obtain⟨b,off,rfl,hlt,hcell⟩:=hc (by intro e;rw [e] at hn;simp at hn);exact QgB b off cap _ L w rfl hn.1 hn.2 hlt hcell
 ·have e:Qap L=2:=by unfold Qap;rw [if_neg hn]
  rw [e];exact Qgx ao _ cap w (by simp;omega)
theorem Qd1 {v:Value}{L:List Qag}{w:World}(h:QaQ w v L){E:Int}(hE:Qap L=E) :
  Calls Tryz.prog 51 #[v] w fun r w'=>r=.returned (.int .i64 E)∧Below w.heap.size w w':=by subst hE;exact QfE v L w h
end Go.Proofs.YtjfkfnjigofmpaaGreat
