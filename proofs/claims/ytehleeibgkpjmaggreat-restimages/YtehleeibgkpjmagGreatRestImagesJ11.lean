/- Texts joined: OxC, SlotRef, TbdI, TbdJ, OxT, PutI, WoA, RoA, PkO, WrC0, WrG, WrH, UpP, UpI, PkQ1, PkN, PkT, PkU. -/
import Derived.Test.YtehleeibgkpjmagGreatRestImagesJ10
import Derived.Test.YtehleeibgkpjmagGreatRestImagesJ1
import Derived.Test.YtehleeibgkpjmagGreatRestImagesJ5
import Derived.Test.YtehleeibgkpjmagGreatRestImagesJ4
import Derived.Test.YtehleeibgkpjmagGreatRestImagesJ3
import Derived.Test.YtehleeibgkpjmagGreatRestImagesJ9
import Derived.Test.YtehleeibgkpjmagGreatRestImagesJ6
import Derived.Test.YtehleeibgkpjmagGreatRestImagesJ7
set_option linter.unusedVariables false
set_option linter.unusedSimpArgs false
set_option maxHeartbeats 200000000
set_option maxRecDepth 20000
namespace Go.Proofs.YtehleeibgkpjmagGreat
open Go.RowKit Go.Shelf
theorem QhI {m:ImgD}{k:Nat}{a:Nm}(h:Qaj (frT m k) a):Qaj m a:=by
 rcases h.cases with rfl | rfl | rfl | rfl | ⟨j,rfl,hj,hn⟩ | ⟨j,rfl,hj⟩
 ·exact Qaj.root m
 ·exact Qaj.slots m
 ·exact Qaj.refs m
 ·exact Qaj.snaps m
 ·rw [Qa5] at hj;refine Qaj.tab ⟨hj,fun e=>hn ?_⟩
  show ((frT m k).slots.getD j default).2.2=[]
  rw [QdF m k hj]
  split
  ·rfl
  ·exact e
 ·exact Qaj.sr hj
theorem QgZ {m:ImgD}{a:Nm}(h:Qaj (Qai m) a):Qaj m a:=by
 rw [←QiU] at h;exact QhI h
structure CtX (w wr:World) (B:Nat) (m:ImgD) (val:Nm→Value) (k:Nat):Prop where
 own:∃vk,OX wr B vk (frT m k)∧vk .root=val .root∧vk .slots=val .slots∧vk .refs=.slice (some ⟨w.heap.size+4,0,none⟩) m.slots.length m.slots.length∧vk .snaps=val .snaps∧(∀a,Qaj m a→a≠.refs→∀q,q<w.heap.size+2→(∀b,Qaj m b→(val b).ownBlock≠some q)→(vk a).ownBlock≠some q)
 box:wr.heap[w.heap.size]? = some (.cells #[.int .i64 m.guest,val .root,val .slots,.slice (some ⟨w.heap.size+4,0,none⟩) m.slots.length m.slots.length,val .snaps] 26)
 res:wr.heap[w.heap.size+1]? = some zI
 bel:Below B w wr
 kep:Qbl w wr m val
theorem Qik (m:ImgD)(ra:Option Addr)(rn rc:Nat)(g sc:Nat)(fa:Option Addr)(fn fc:Nat)(na:Option Addr)(nn nc:Nat)(B:Nat)(val:Nm→Value)(w:World)(hO:OX w B val m)(e0:val .root=.slice ra rn rc)(e1:val .slots=.slice (some ⟨g,0,none⟩) m.slots.length sc)(e3:val .snaps=.slice na nn nc)(hB:B≤w.heap.size)(hE:Qao { m with refs:=rfZ m.slots } = 0) :
  Calls Tryz.prog 46 #[.agg #[.int .i64 m.guest,.slice ra rn rc,.slice (some ⟨g,0,none⟩) m.slots.length sc,.slice fa fn fc,.slice na nn nc]] w fun r w'=>∃val',r=.returned (imgV m.guest val')∧OX w' B val' (Qai m)∧Below B w w'∧Qbl w w' m val∧SrcX w m val (nl) (Qai m) val':=by
 have m0:((w.alloc (.cells #[.int .i64 m.guest,.slice ra rn rc,.slice (some ⟨g,0,none⟩) m.slots.length sc,.slice fa fn fc,.slice na nn nc] 26)).alloc zI).heap[w.heap.size]? = some (.cells #[.int .i64 m.guest,.slice ra rn rc,.slice (some ⟨g,0,none⟩) m.slots.length sc,.slice fa fn fc,.slice na nn nc] 26):=Qac (zHn _ _) _;have m2:((w.alloc (.cells #[.int .i64 m.guest,.slice ra rn rc,.slice (some ⟨g,0,none⟩) m.slots.length sc,.slice fa fn fc,.slice na nn nc] 26)).alloc zI).heap[w.heap.size+1]? = some zI:=by have:=World.alloc_heap_new (w.alloc (.cells #[.int .i64 m.guest,.slice ra rn rc,.slice (some ⟨g,0,none⟩) m.slots.length sc,.slice fa fn fc,.slice na nn nc] 26)) zI;simpa using this
 obtain⟨c0,c1,c2,c3,c4⟩:=five m0;have f3:=Qaa m0 3;have h40:m.slots.length≤40:=(Qah (Qad hE).2.1).2;have h1s:1≤m.slots.length:=(Qah (Qad hE).2.1).1;have hmk:=Qe6 m.slots.length h40
 go_enter Tryz.func46,Tryz.ntmps46
 have hz0:((w.alloc (.cells #[.int .i64 m.guest,.slice ra rn rc,.slice (some ⟨g,0,none⟩) m.slots.length sc,.slice (some ⟨w.heap.size+1+1,0,none⟩) m.slots.length m.slots.length,.slice na nn nc] 26)).alloc zI).heap.size=w.heap.size+1+1:=by simp
 have hz1:(((w.alloc (.cells #[.int .i64 m.guest,.slice ra rn rc,.slice (some ⟨g,0,none⟩) m.slots.length sc,.slice (some ⟨w.heap.size+1+1,0,none⟩) m.slots.length m.slots.length,.slice na nn nc] 26)).alloc zI).alloc (.cells (Array.replicate m.slots.length (.int .i64 0)) 3)).heap.size=w.heap.size+3:=by simp
 have hlz:(rfZ m.slots).length=m.slots.length:=by simp [rfZ]
 have hAr:Array.replicate m.slots.length (Value.int .i64 0)=(ints (rfZ m.slots)).toArray:=by simp [ints,rfZ]
 have hrow:(((w.alloc (.cells #[.int .i64 m.guest,.slice ra rn rc,.slice (some ⟨g,0,none⟩) m.slots.length sc,.slice (some ⟨w.heap.size+1+1,0,none⟩) m.slots.length m.slots.length,.slice na nn nc] 26)).alloc zI).alloc (.cells (Array.replicate m.slots.length (.int .i64 0)) 3)).ownsRow B 3 1 (.slice (some ⟨w.heap.size+1+1,0,none⟩) m.slots.length m.slots.length) (rfZ m.slots).length (ints (rfZ m.slots)):=by
  have:=Qmy ((w.alloc (.cells #[.int .i64 m.guest,.slice ra rn rc,.slice (some ⟨g,0,none⟩) m.slots.length sc,.slice (some ⟨w.heap.size+1+1,0,none⟩) m.slots.length m.slots.length,.slice na nn nc] 26)).alloc zI) (rfZ m.slots) (by rw [hlz];omega) (B:=B) (by rw [hz0];omega);rw [hz0,hlz] at this;rw [hAr,hlz];exact this
 have hA0:OX ((w.alloc (.cells #[.int .i64 m.guest,.slice ra rn rc,.slice (some ⟨g,0,none⟩) m.slots.length sc,.slice (some ⟨w.heap.size+1+1,0,none⟩) m.slots.length m.slots.length,.slice na nn nc] 26)).alloc zI) B val m:=(hO.alloc _).alloc _;have hZ:=(hA0.alloc (.cells (Array.replicate m.slots.length (.int .i64 0)) 3)).swapRefs hrow (Qdo hA0 .refs (fun q e=>by cases e;rw [hz0];exact Nat.le_refl _));have hI:=hZ.img;have hcall:=Qff hI hE;have eI:imgV m.guest (upd val .refs (.slice (some ⟨w.heap.size+1+1,0,none⟩) m.slots.length m.slots.length))=.agg #[.int .i64 m.guest,.slice ra rn rc,.slice (some ⟨g,0,none⟩) m.slots.length sc,.slice (some ⟨w.heap.size+1+1,0,none⟩) m.slots.length m.slots.length,.slice na nn nc]:=by
  unfold imgV;rw [Qar,Qae _ _ (by intro x;cases x),Qae _ _ (by intro x;cases x),Qae _ _ (by intro x;cases x),e0,e1,e3]
 have hcall:Calls Tryz.prog 17 #[.agg #[.int .i64 m.guest,.slice ra rn rc,.slice (some ⟨g,0,none⟩) m.slots.length sc,.slice (some ⟨w.heap.size+1+1,0,none⟩) m.slots.length m.slots.length,.slice na nn nc]] (((w.alloc (.cells #[.int .i64 m.guest,.slice ra rn rc,.slice (some ⟨g,0,none⟩) m.slots.length sc,.slice (some ⟨w.heap.size+1+1,0,none⟩) m.slots.length m.slots.length,.slice na nn nc] 26)).alloc zI).alloc (.cells (Array.replicate m.slots.length (.int .i64 0)) 3)) fun r w'=>(r=.returned (.slice (some ⟨w.heap.size+4,0,none⟩) m.slots.length m.slots.length)∧Hid (LAt w' (w.heap.size+4) (cntL m)))∧Hid (Below (w.heap.size+3) (((w.alloc (.cells #[.int .i64 m.guest,.slice ra rn rc,.slice (some ⟨g,0,none⟩) m.slots.length sc,.slice (some ⟨w.heap.size+1+1,0,none⟩) m.slots.length m.slots.length,.slice na nn nc] 26)).alloc zI).alloc (.cells (Array.replicate m.slots.length (.int .i64 0)) 3)) w'):=by
  have h:=hcall;rw [hz1,show imgV ({ m with refs:=rfZ m.slots } : ImgD).guest (upd val .refs (.slice (some ⟨w.heap.size+1+1,0,none⟩) m.slots.length m.slots.length))=.agg #[.int .i64 m.guest,.slice ra rn rc,.slice (some ⟨g,0,none⟩) m.slots.length sc,.slice (some ⟨w.heap.size+1+1,0,none⟩) m.slots.length m.slots.length,.slice na nn nc] from eI] at h;exact h
 have p0:(((w.alloc (.cells #[.int .i64 m.guest,.slice ra rn rc,.slice (some ⟨g,0,none⟩) m.slots.length sc,.slice (some ⟨w.heap.size+1+1,0,none⟩) m.slots.length m.slots.length,.slice na nn nc] 26)).alloc zI).alloc (.cells (Array.replicate m.slots.length (.int .i64 0)) 3)).heap[w.heap.size]? = some (.cells #[.int .i64 m.guest,.slice ra rn rc,.slice (some ⟨g,0,none⟩) m.slots.length sc,.slice (some ⟨w.heap.size+1+1,0,none⟩) m.slots.length m.slots.length,.slice na nn nc] 26):=Qac (Qac (zHn _ _) _) _;have p1:(((w.alloc (.cells #[.int .i64 m.guest,.slice ra rn rc,.slice (some ⟨g,0,none⟩) m.slots.length sc,.slice (some ⟨w.heap.size+1+1,0,none⟩) m.slots.length m.slots.length,.slice na nn nc] 26)).alloc zI).alloc (.cells (Array.replicate m.slots.length (.int .i64 0)) 3)).heap[w.heap.size+1]? = some zI:=Qac (by have:=World.alloc_heap_new (w.alloc (.cells #[.int .i64 m.guest,.slice ra rn rc,.slice (some ⟨g,0,none⟩) m.slots.length sc,.slice (some ⟨w.heap.size+1+1,0,none⟩) m.slots.length m.slots.length,.slice na nn nc] 26)) zI;simpa using this) _;have hfarO:∀a,Qaj m a→(val a).ownBlock≠some w.heap.size∧(val a).ownBlock≠some (w.heap.size+1):=fun a ha=>⟨hO.lt (Nat.le_refl _) a ha,hO.lt (by omega) a ha⟩
 have hBV:Below B w (((w.alloc (.cells #[.int .i64 m.guest,.slice ra rn rc,.slice (some ⟨g,0,none⟩) m.slots.length sc,.slice (some ⟨w.heap.size+1+1,0,none⟩) m.slots.length m.slots.length,.slice na nn nc] 26)).alloc zI).alloc (.cells (Array.replicate m.slots.length (.int .i64 0)) 3)):=(((Below.refl B w).alloc hB _).alloc (by simp <;> omega) _).alloc (by simp <;> omega) _;have hAV:OX (((w.alloc (.cells #[.int .i64 m.guest,.slice ra rn rc,.slice (some ⟨g,0,none⟩) m.slots.length sc,.slice (some ⟨w.heap.size+1+1,0,none⟩) m.slots.length m.slots.length,.slice na nn nc] 26)).alloc zI).alloc (.cells (Array.replicate m.slots.length (.int .i64 0)) 3)) B val m:=hA0.alloc _;have hlc:(cntL m).length=m.slots.length:=QaU m;clear hI hZ hrow hAr;go_wp2_with (go_at_call 17;refine hcall.mono ?_;rintro e w3 ⟨⟨rfl,hL⟩,hb3⟩;have q0:=Qab p0 hb3.out (by omega);have q1:=Qab p1 hb3.out (by omega);obtain⟨d0,d1,d2,d3,d4⟩:=five q0;have fz:=Qaa q0 3);have hb3':Below (((w.alloc (.cells #[.int .i64 m.guest,.slice ra rn rc,.slice (some ⟨g,0,none⟩) m.slots.length sc,.slice (some ⟨w.heap.size+1+1,0,none⟩) m.slots.length m.slots.length,.slice na nn nc] 26)).alloc zI).alloc (.cells (Array.replicate m.slots.length (.int .i64 0)) 3)).heap.size (((w.alloc (.cells #[.int .i64 m.guest,.slice ra rn rc,.slice (some ⟨g,0,none⟩) m.slots.length sc,.slice (some ⟨w.heap.size+1+1,0,none⟩) m.slots.length m.slots.length,.slice na nn nc] 26)).alloc zI).alloc (.cells (Array.replicate m.slots.length (.int .i64 0)) 3)) w3:=by rw [hz1];exact hb3.out
 have hO3:OX w3 B val m:=hAV.below hb3';have hrc:w3.ownsRow B 3 1 (.slice (some ⟨w.heap.size+4,0,none⟩) m.slots.length m.slots.length) (cntL m).length (ints (cntL m)):=by
  have:=Qlx hL.out (B:=B) (by omega) (by rw [hlc];omega);rw [hlc] at this ⊢;exact this
 have hS3:=hO3.swapRefs hrc (Qdo hAV .refs (fun q e=>by cases e;rw [hz1];show w.heap.size+3≤w.heap.size+4;omega));have hfa:∀a,Qaj m a→a≠.refs→∀q,q<w.heap.size+2→(∀b,Qaj m b→(val b).ownBlock≠some q)→(upd val .refs (.slice (some ⟨w.heap.size+4,0,none⟩) m.slots.length m.slots.length) a).ownBlock≠some q:=fun a ha hne q _ hm=>by rw [Qae _ _ hne];exact hm a ha
 have HFO:Hid (∀b,Qaj m b→(val b).ownBlock≠some (w.heap.size+1)):=fun b hb=>(hfarO b hb).2
 have HS:Hid (CtX w (w3.setCell ⟨w.heap.size,3,none⟩ (.slice (some ⟨w.heap.size+4,0,none⟩) m.slots.length m.slots.length)) B m val 0):=by
  refine⟨⟨upd val .refs (.slice (some ⟨w.heap.size+4,0,none⟩) m.slots.length m.slots.length),?_,Qae _ _ (by intro x;cases x),Qae _ _ (by intro x;cases x),Qar _ _ _,Qae _ _ (by intro x;cases x),hfa⟩,?_,Qan q1 (by omega) _ _,(hBV.trans (hb3'.mono (by rw [hz1];omega))).setCell hB _,(Qbl.below ((((Qbl.refl w m val).alloc (Nat.le_refl _) _).alloc (by simp) _).alloc (by simp <;> omega) _) (n:=w.heap.size+3) (by omega) hb3.out).new (Nat.le_refl _)⟩
  ·rw [Qjs];refine hS3.far (fun a ha=>?_)
   by_cases e:a=.refs
   ·subst e;rw [Qar];intro x;have x:w.heap.size+4=w.heap.size:=Option.some.inj x;omega
   ·exact hfa a ha e w.heap.size (by omega) (fun b hb=>(hfarO b hb).1)
  ·have:=Qau q0 3 (.slice (some ⟨w.heap.size+4,0,none⟩) m.slots.length m.slots.length);rw [e0,e1,e3];exact this
 have HV:Hid (val .root=.slice ra rn rc∧val .slots=.slice (some ⟨g,0,none⟩) m.slots.length sc∧val .snaps=.slice na nn nc):=⟨e0,e1,e3⟩;have HG:Hid (B≤g∧g<w.heap.size):=by
  have:=hO.row .slots (Qaj.slots m);rw [e1] at this;exact this.lt g rfl
 clear hb3' hO3 hrc hS3 hfa hfarO hBV hAV hA0 hO hE hz0 hz1 hlz hcall hL hb3 q0 q1 d0 d1 d2 d3 d4 fz p0 p1 m0 m2 c0 c1 c2 c3 c4 f3 e0 e1 e3 hmk eI
 go_loopw [3] (fun i wr=>∃k:Nat,k≤m.slots.length∧i=.int .i64 k∧Hid (CtX w wr B m val k)) (fun i _=>m.slots.length - (intOf i).toNat)
 case atStart=>exact⟨0,Nat.zero_le _,rfl,HS⟩
 case round=>
  obtain⟨k,hk,rfl,HC⟩:=hrel;obtain⟨⟨vk,hOk,v0,v1,v2,v3,hfk⟩,hbox,hres,hbel,hkep⟩:=HC.out;obtain⟨e0,e1,e3⟩:=HV.out;rw [e0] at v0;rw [e1] at v1;rw [e3] at v3;rw [e0,e1,e3] at hbox;obtain⟨d0,d1,d2,d3,d4⟩:=five hbox;have hgl:=HG.out;have g1:¬g=w.heap.size:=by omega
  have g2:¬w.heap.size=g:=by omega
  have g3:¬g=w.heap.size+1:=by omega
  have g4:¬w.heap.size+1=g:=by omega
  by_cases hlk:k<m.slots.length
  ·have hki:(k:Int)<(m.slots.length:Int):=by omega
   obtain⟨x,hx⟩:∃x,x=(cntL m).getD k 0:=⟨_,rfl⟩;have cx:wr.cell? ⟨w.heap.size+4,k,none⟩=some (.int .i64 x):=by
    have hr:=hOk.row .refs (Qaj.refs _);rw [v2] at hr;have hr:wr.ownsRow B 3 1 (.slice (some ⟨w.heap.size+4,0,none⟩) m.slots.length m.slots.length) (cntL m).length (ints (cntL m)):=hr;rw [hlc] at hr;rw [hx];refine (hr.cellAt k (by omega)).trans ?_;unfold ints;rw [List.getElem?_map,List.getElem?_eq_getElem (by rw [hlc];exact hlk)];simp [List.getD,hlc,hlk]
   have HX:Hid (x=(cntL m).getD k 0):=hx;clear hx
   by_cases h0:x=0
   ·have h0':(x == 0)=true:=by simp [h0]
    have H0:Hid ((cntL m).getD k 0=0):=HX.out.symm.trans h0;clear h0;have hls:=Qa5 m k;have hr:=hOk.row .slots (Qaj.slots _);rw [v1] at hr;obtain⟨s0,s1,s2⟩:=QaO (L:=(frT m k).slots) (tv:=fun j=>vk (.tab j)) (j:=k) (by rw [hls];exact hlk);have hr:wr.ownsRow B 37 3 (.slice (some ⟨g,0,none⟩) m.slots.length sc) m.slots.length (QaE (frT m k).slots (fun j=>vk (.tab j))):=by rw [←hls];rw [←hls] at hr;exact hr
    have t0:wr.cell? ⟨g,k*3,none⟩=some _:=(hr.cellAt (k*3) (by omega)).trans s0;have t1:wr.cell? ⟨g,k*3+1,none⟩=some _:=(hr.cellAt (k*3+1) (by omega)).trans s1;have t2:wr.cell? ⟨g,k*3+2,none⟩=some _:=(hr.cellAt (k*3+2) (by omega)).trans s2;have u0:=hr.frozenAt (k*3);have u1:=hr.frozenAt (k*3+1);have u2:=hr.frozenAt (k*3+2);have HN:Hid (CtX w (((wr.setCell ⟨g,k*3,none⟩ (.int .i64 0)).setCell ⟨g,k*3+1,none⟩ (.string ⟨#[]⟩)).setCell ⟨g,k*3+2,none⟩ (nl)) B m val (k+1)):=by
     have hN:=hOk.setSlot (t:=k) (by rw [hls];exact hlk) v1 0 ⟨#[]⟩ [] (ev:=nl) (World.ownsRow_nil _ _ _ _) (QeN _ _ _ _ _);refine⟨⟨upd vk (.tab k) (nl),?_,(Qae _ _ (by intro x;cases x)).trans (v0.trans e0.symm),(Qae _ _ (by intro x;cases x)).trans (v1.trans e1.symm),(Qae _ _ (by intro x;cases x)).trans v2,(Qae _ _ (by intro x;cases x)).trans (v3.trans e3.symm),fun a ha hne q hq hm=>?_⟩,?_,?_,((hbel.setCell hgl.1 _).setCell hgl.1 _).setCell hgl.1 _,((hkep.own (Qaj.slots m) e1).own (Qaj.slots m) e1).own (Qaj.slots m) e1⟩
     ·rw [Qji m H0.out];exact hN
     ·by_cases e:a=.tab k
      ·subst e;rw [Qar];intro x;cases x
      ·rw [Qae _ _ e];exact hfk a ha hne q hq hm
     ·rw [e0,e1,e3];exact Qan (Qan (Qan hbox g2 _ _) g2 _ _) g2 _ _
     ·exact Qan (Qan (Qan hres g4 _ _) g4 _ _) g4 _ _
    clear hkep hOk hbox hres hbel hr s0 s1 s2 e0 e1 e3 v0 v1 v2 v3 hfk HC HX H0 hls;go_wp2_with fail;go_roundw
    case rel=>exact⟨k+1,by omega,by go_num,HN⟩
    case measure=>simp [intOf];omega
   ·have h0':(x == 0)=false:=by simp [h0]
    have HN:Hid (CtX w wr B m val (k+1)):=by
     refine⟨⟨vk,?_,v0.trans e0.symm,v1.trans e1.symm,v2,v3.trans e3.symm,hfk⟩,HC.out.box,HC.out.res,HC.out.bel,HC.out.kep⟩;rw [Qje m (fun e=>h0 (HX.out.trans e))];exact hOk
    clear hkep hOk hbox hres hbel e0 e1 e3 v0 v1 v2 v3 hfk HC HX;go_wp2_with fail;go_roundw
    case rel=>exact⟨k+1,by omega,by go_num,HN⟩
    case measure=>simp [intOf];omega
  ·have ek:k=m.slots.length:=by omega
   subst ek;obtain⟨z0,z1,z2,z3,z4⟩:=five hres;have y0:=Qaa hres 0;have y1:=Qaa hres 1;have y2:=Qaa hres 2;have y3:=Qaa hres 3;have y4:=Qaa hres 4;have hfr:∀a,Qaj (frT m m.slots.length) a→(vk a).ownBlock≠some (w.heap.size+1):=fun a ha=>by
    by_cases e:a=.refs
    ·subst e;rw [v2];intro x;have x:w.heap.size+4=w.heap.size+1:=Option.some.inj x;omega
    ·exact (hfk a (QhI ha) e _ (by omega) HFO.out)
   have hF:OX wr B vk (frT m m.slots.length):=hOk;rw [QiU] at hF hfr;have HF:Hid (OX wr B vk (Qai m)):=hF;have hsrc:SrcX w m val (nl) (Qai m) vk:=fun q hq _ hm a ha=>by
    by_cases e:a=.refs
    ·subst e;rw [v2];intro x;have x:w.heap.size+4=q:=Option.some.inj x;omega
    ·exact hfk a (QgZ ha) e q (by omega) hm
   clear hF hOk HC;go_wp2_with fail;have hB1:B≤w.heap.size+1:=by omega
   refine bodyPost_ret (v:=.agg #[.int .i64 m.guest,.slice ra rn rc,.slice (some ⟨g,0,none⟩) m.slots.length sc,.slice (some ⟨w.heap.size+4,0,none⟩) m.slots.length m.slots.length,.slice na nn nc]) (by simp [results,Tryz.results46,go_sem,z0,z1,z2,z3,z4]) rfl ⟨vk,?_,((((HF.out.far hfr).far hfr).far hfr).far hfr).far hfr,((((hbel.setCell hB1 _).setCell hB1 _).setCell hB1 _).setCell hB1 _).setCell hB1 _,((((hkep.new (by omega)).new (by omega)).new (by omega)).new (by omega)).new (by omega),hsrc⟩;unfold imgV;rw [v0,v1,v2,v3]
theorem QcH {m:ImgD}{B:Nat}{val:Nm→Value}{w:World}(hO:OX w B val m)(hB:B≤w.heap.size)(hE:Qao { m with refs:=rfZ m.slots } = 0) :
  Calls Tryz.prog 46 #[imgV m.guest val] w fun r w'=>∃val',r=.returned (imgV m.guest val')∧OX w' B val' (Qai m)∧Below B w w'∧Qbl w w' m val∧SrcX w m val (nl) (Qai m) val':=by
 obtain⟨ra,rc,e0,_⟩:=hO.forms .root (Qaj.root m);obtain⟨sa,sc,e1,hs⟩:=hO.forms .slots (Qaj.slots m);obtain⟨fa,fc,e2,_⟩:=hO.forms .refs (Qaj.refs m);obtain⟨na,nc,e3,_⟩:=hO.forms .snaps (Qaj.snaps m);have h1s:1≤m.slots.length:=(Qah (Qad hE).2.1).1;obtain⟨g,rfl⟩:=hs (by show 0<m.slots.length;omega);have e1:val .slots=.slice (some ⟨g,0,none⟩) m.slots.length sc:=e1;unfold imgV;rw [e0,e1,e2,e3];exact Qik m ra _ rc g sc fa _ fc na _ nc B val w hO e0 e1 e3 hB hE
theorem Qmm (b off cap n g:Nat)(L:List Qag)(w:World)(hn:L.length=n)(h1:1≤n)(h40:n≤40)(hc:∀j,(h:j<L.length)→SlAt w b (off+j*3) L[j])(hg:Qb7 L g)(c:Int)(hcc:(if g=40 then (0:Int) else g)=c) :
  Calls Tryz.prog 43 #[.slice (some ⟨b,off,none⟩) n cap] w fun r w'=>r=.returned (.int .i64 c)∧w'=w:=by
 have HQ:Hid ((if g=40 then (0:Int) else g)=c):=hcc;clear hcc;have HC:Hid (∀j,(h:j<L.length)→SlAt w b (off+j*3) L[j]):=hc;have HN:Hid (L.length=n):=hn;have HG:Hid (Qb7 L g):=hg;clear hc hn hg
 go_enter Tryz.func43,Tryz.ntmps43
 go_wp2
 go_loop [3] (fun i=>∃k:Nat,1≤k∧k≤n∧i=.int .i64 k∧∀j,(h:j<L.length)→1≤j→j<k→(L[j]).1≠0) (fun i=>n - (intOf i).toNat)
 case atStart=>exact⟨1,Nat.le_refl _,h1,rfl,fun j h hj hj'=>absurd hj' (by omega)⟩
 case round=>
  obtain⟨k,hk1,hk,rfl,hall⟩:=hrel;have HA:Hid (∀j,(h:j<L.length)→1≤j→j<k→(L[j]).1≠0):=hall;clear hall
  by_cases hlk:k<n
  ·obtain⟨s,hs'⟩:∃s,s=L[k]'(by rw [HN.out];exact hlk):=⟨_,rfl⟩;obtain⟨kk,dd,tt⟩:=s;have hS:SlAt w b (off+k*3) (kk,dd,tt):=by rw [hs'];exact HC.out k _
   obtain⟨tv,c1,_,_,_⟩:=hS;have HS:Hid ((kk,dd,tt)=L[k]'(by rw [HN.out];exact hlk)):=hs';clear hs';have hki:(k:Int)<(n:Int):=by omega
   by_cases h0:kk=0
   ·have h0':(kk == 0)=true:=by simp [h0]
    have H0:Hid (kk=0):=h0;clear h0;have HE:Hid (g=k):=HG.out.unique ⟨hk1,by rw [HN.out];exact hk,HA.out,fun h=>by rw [←HS.out];exact H0.out⟩
    go_wp2
    go_ret;exact⟨QaI (by rw [←HQ.out,HE.out,if_neg (by omega)]),rfl⟩
   ·have h0':(kk == 0)=false:=by simp [h0]
    go_wp2
    go_round
    case rel=>exact⟨k+1,by omega,by omega,by go_num,fun j h hj hj'=>by
     by_cases e:j=k
     ·subst e;rw [←HS.out];exact h0
     ·exact HA.out j h hj (by omega)⟩
    case measure=>simp [intOf];omega
  ·have e4:k=n:=by omega
   subst e4;have HE:Hid (g=k):=HG.out.unique ⟨hk1,by rw [HN.out];exact hk,HA.out,fun h=>absurd h (by rw [HN.out];omega)⟩
   by_cases e40:k=40
   ·subst e40
    go_wp2
    go_ret;exact⟨QaI (by rw [←HQ.out,HE.out,if_pos rfl]),rfl⟩
   ·have hne:(k:Int)<40:=by omega
    go_wp2
    go_ret;exact⟨QaI (by rw [←HQ.out,HE.out,if_neg e40]),rfl⟩



def AnsJ (w:World) (M:ImgD) (err:Int) (r:Ending) (w':World):Prop:=∃a0 c0 a1 c1 a2 c2 a3 c3,r=.returned (.tuple #[.agg (aI M a0 c0 a1 c1 a2 c2 a3 c3),.int .i64 err])∧(∀W',(∀q,w.heap.size≤q→W'.heap[q]? = w'.heap[q]?)→Img W' (.agg (aI M a0 c0 a1 c1 a2 c2 a3 c3)) M)∧Below w.heap.size w w'
theorem QcR (W:World):Img W (.agg #[.int .i64 0,nl,nl,nl,nl]) imgZ:=(OI.zero W 0).img
theorem OX.four' {W:World}{B:Nat}{val:Nm→Value}{m:ImgD}(h:OX W B val m):∃a0 c0 a1 c1 a2 c2 a3 c3,val .root=.slice a0 m.root.length c0∧val .slots=.slice a1 m.slots.length c1∧val .refs=.slice a2 m.refs.length c2∧val .snaps=.slice a3 m.snaps.length c3:=by
 obtain⟨a0,c0,h0,_⟩:=h.forms .root (Qaj.root _);obtain⟨a1,c1,h1,_⟩:=h.forms .slots (Qaj.slots _);obtain⟨a2,c2,h2,_⟩:=h.forms .refs (Qaj.refs _);obtain⟨a3,c3,h3,_⟩:=h.forms .snaps (Qaj.snaps _);exact⟨a0,c0,a1,c1,a2,c2,a3,c3,h0,h1,h2,h3⟩
theorem OX.five {W:World}{B D:Nat}{val:Nm→Value}{m:ImgD}(h:OX W B val m)(hf:∀a,Qaj m a→(val a).ownBlock≠some D)(a0 a1 a2 a3 a4:Value):OX (((((W.setCell ⟨D,0,none⟩ a0).setCell ⟨D,1,none⟩ a1).setCell ⟨D,2,none⟩ a2).setCell ⟨D,3,none⟩ a3).setCell ⟨D,4,none⟩ a4) B val m:=((((h.far hf).far hf).far hf).far hf).far hf
theorem QaM {w W:World}{B D:Nat}(h:Below B w W)(hD:B≤D)(a0 a1 a2 a3 a4:Value):Below B w (((((W.setCell ⟨D,0,none⟩ a0).setCell ⟨D,1,none⟩ a1).setCell ⟨D,2,none⟩ a2).setCell ⟨D,3,none⟩ a3).setCell ⟨D,4,none⟩ a4):=
 ((((h.setCell (p:=⟨D,0,none⟩) hD _).setCell (p:=⟨D,1,none⟩) hD _).setCell (p:=⟨D,2,none⟩) hD _).setCell (p:=⟨D,3,none⟩) hD _).setCell (p:=⟨D,4,none⟩) hD _
theorem QdO {W:World}{D:Nat}(a0 a1 a2 a3 a4:Value)(q:Nat)(hq:q≠D):(((((W.setCell ⟨D,0,none⟩ a0).setCell ⟨D,1,none⟩ a1).setCell ⟨D,2,none⟩ a2).setCell ⟨D,3,none⟩ a3).setCell ⟨D,4,none⟩ a4).heap[q]? = W.heap[q]?:=by
 rw [Below.heap_setCell _ _ _ q hq,Below.heap_setCell _ _ _ q hq,Below.heap_setCell _ _ _ q hq,Below.heap_setCell _ _ _ q hq,Below.heap_setCell _ _ _ q hq]
theorem Qee {m:ImgD}{k t:Nat}(ht:m.root.getD k 0=(t:Int)):QkE m.slots t=Qak m k:=by
 unfold QkE Qak;rw [ht]
 by_cases h:t=0
 ·rw [if_pos h,if_pos (by omega)]
 ·rw [if_neg h,if_neg (by omega)];unfold Qaz;rw [Int.toNat_natCast]
theorem QmO {m:ImgD}(h:Qao m=0):Qao { m with refs:=rfZ m.slots } = 0:=by
 obtain⟨z1,z2,z3,z4,z5,z6,z7⟩:=Qad h;unfold Qao;rw [if_neg (by show ¬3<m.snaps.length;omega),if_neg (by show ¬Qap m.slots≠0;simpa using z2),if_neg,if_neg (by show ¬(Qax m).all _=false;rw [z5];decide),if_neg (by show ¬QaW m.slots=false;rw [z6];decide),if_neg (by show ¬(Qax m).all _=false;rw [z7];decide)];rintro (x | x)
 ·apply x;show (rfZ m.slots).length=m.slots.length;simp [rfZ]
 ·have:QaJ m.snaps=false:=x;rw [z4] at this;cases this

theorem QbJ {v:Value}{L:List Qag}{w:World}(h:QaQ w v L)(h1:1≤L.length)(h40:L.length≤40){c:Int}(hc:(if QaK L=40 then (0:Int) else QaK L)=c) :
  Calls Tryz.prog 43 #[v] w fun r w'=>r=.returned (.int .i64 c)∧w'=w:=by
 obtain⟨b,off,cap,rfl,hcp,hlt,hcell⟩:=h.open h1;exact Qmm b off cap _ (QaK L) L w rfl h1 h40 hcell (Qgu h1) c hc
theorem Qb8 {α:Type}{l:List α}{i:Nat}{x:α}(h:l[i]? = some x):l.set i x=l:=by
 apply List.ext_getElem?
 intro j;rw [List.getElem?_set]
 split
 ·rename_i e
  subst e
  split
  ·exact h.symm
  ·rename_i hl
   rw [List.getElem?_eq_none (by omega)]
 ·rfl
theorem QjY {L:List Qag}{tv:Nat→Value}{t:Nat}(ht:t<L.length)(d:ByteArray) :
  QaE (L.set t ((L.getD t default).1,d,(L.getD t default).2.2)) tv=(QaE L tv).set (t*3+1) (.string d):=by
 obtain⟨h0,h1,h2⟩:=QaO (tv:=tv) ht;rw [Qd8 (tv:=tv) (tv':=tv) (t:=t) _ d _ (fun _ _=>rfl),Qb8 h0]
 apply Qb8
 rw [List.getElem?_set_ne (by omega)];exact h2
theorem OX.setPage {W:World}{B:Nat}{val:Nm→Value}{m:ImgD}(h:OX W B val m){t:Nat}(ht:t<m.slots.length){g n cap:Nat}(hv:val .slots=.slice (some ⟨g,0,none⟩) n cap)(d:ByteArray) :
  OX (W.setCell ⟨g,t*3+1,none⟩ (.string d)) B val { m with slots:=m.slots.set t ((m.slots.getD t default).1,d,(m.slots.getD t default).2.2) }:=by
 have hg:=fun j=>QbA m.slots t j ((m.slots.getD t default).1,d,(m.slots.getD t default).2.2)
 have htb:∀j,tbl { m with slots:=m.slots.set t ((m.slots.getD t default).1,d,(m.slots.getD t default).2.2) } j=tbl m j:=fun j=>by
  show ((m.slots.set t _).getD j default).2.2=(m.slots.getD j default).2.2
  rw [hg]
  split
  ·rename_i e;rw [e.1]
  ·rfl
 refine h.store (Qaj.slots m) hv (t*3+1) (.string d) (QbR List.length_set rfl (fun j=>by rw [htb])) (fun b hb=>?_) (fun b hb hne=>?_) ?_ (fun j hj e=>?_)
 ·rcases hb.cases with rfl | rfl | rfl | rfl | ⟨j,rfl,hj⟩ | ⟨j,rfl,hj⟩
  ·rfl
  ·exact List.length_set
  ·rfl
  ·rfl
  ·show (tbl _ j).length=(tbl m j).length
   rw [htb]
  ·rfl
 ·rcases hb.cases with rfl | rfl | rfl | rfl | ⟨j,rfl,hj⟩ | ⟨j,rfl,hj⟩
  ·rfl
  ·exact absurd rfl hne
  ·rfl
  ·rfl
  ·show ints (tbl _ j)=ints (tbl m j)
   rw [htb]
  ·rfl
 ·exact QjY ht d
 ·rw [htb] at e;have hj:j<(m.slots.set t _).length:=hj;rw [List.length_set] at hj;exact⟨hj,e⟩
theorem Qnh {W:World}{D:Nat}{x0 x1 x2 x3 x4:Value}{T:TypeId}(h:W.heap[D]? = some (.cells #[x0,x1,x2,x3,x4] T))(a0 a1 a2 a3 a4:Value) :
  (((((W.setCell ⟨D,0,none⟩ a0).setCell ⟨D,1,none⟩ a1).setCell ⟨D,2,none⟩ a2).setCell ⟨D,3,none⟩ a3).setCell ⟨D,4,none⟩ a4).heap[D]? = some (.cells #[a0,a1,a2,a3,a4] T):=
 Qau (Qau (Qau (Qau (Qau h 0 a0) 1 a1) 2 a2) 3 a3) 4 a4
theorem Qej {V X w':World}{D:Nat}{val val':Nm→Value}{m m':ImgD}{ev:Value}(hbel:Below V.heap.size V X)(hbox:X.heap[D]? = some (.cells #[.int .i64 m.guest,val .root,val .slots,val .refs,val .snaps] 26))(hge:V.heap.size≤D)(hfar:∀a,Qaj m a→(val a).ownBlock≠some D)
  (hX:OX w' V.heap.size val' m') (b:Below V.heap.size X w') (k:Qbl X w' m val) (s:SrcX X m val ev m' val') (hev:ev.ownBlock≠some D) :
  OwR V (((((w'.setCell ⟨D,0,none⟩ (.int .i64 m'.guest)).setCell ⟨D,1,none⟩ (val' .root)).setCell ⟨D,2,none⟩ (val' .slots)).setCell ⟨D,3,none⟩ (val' .refs)).setCell ⟨D,4,none⟩ (val' .snaps)) D m':=by
 have hlt:D<X.heap.size:=(szH hbox);have hfar':=s D hlt hev hfar;exact⟨⟨val',hX.five hfar' _ _ _ _ _,Qnh ((k D hlt hfar).trans hbox) _ _ _ _ _,hfar'⟩,hge,QaM (hbel.trans b) hge _ _ _ _ _⟩
theorem Qml {V X:World}{D:Nat}{val:Nm→Value}{m:ImgD}(hX:OX X V.heap.size val m)(hbel:Below V.heap.size V X)(hbox:X.heap[D]? = some (.cells #[.int .i64 m.guest,val .root,val .slots,val .refs,val .snaps] 26))(hge:V.heap.size≤D)(hfar:∀a,Qaj m a→(val a).ownBlock≠some D)
  {g n cap:Nat} (hv:val .root=.slice (some ⟨g,0,none⟩) n cap) (i:Nat) (x:Int):OwR V (X.setCell ⟨g,i,none⟩ (.int .i64 x)) D { m with root:=m.root.set i x }:=by
 have hgD:D≠g:=fun e=>hfar .root (Qaj.root m) (by rw [hv,e];rfl)
 have hg:=((hX.row .root (Qaj.root m)).lt g (by rw [hv];rfl)).1;exact⟨⟨val,hX.setRoot hv i x,Qan hbox hgD _ _,fun a ha=>hfar a (by
  refine (QbR (m:=m) (m':={ m with root:=m.root.set i x }) rfl rfl (fun _=>Iff.rfl) a).1 ha)⟩,hge,hbel.setCell (p:=⟨g,i,none⟩) hg _⟩
theorem Qom {V X:World}{D:Nat}{val:Nm→Value}{m:ImgD}(hX:OX X V.heap.size val m)(hbel:Below V.heap.size V X)(hbox:X.heap[D]? = some (.cells #[.int .i64 m.guest,val .root,val .slots,val .refs,val .snaps] 26))(hge:V.heap.size≤D)(hfar:∀a,Qaj m a→(val a).ownBlock≠some D)
  {g n cap:Nat} (hv:val .slots=.slice (some ⟨g,0,none⟩) n cap) {t:Nat} (ht:t<m.slots.length) (d:ByteArray):OwR V (X.setCell ⟨g,t*3+1,none⟩ (.string d)) D { m with slots:=m.slots.set t ((m.slots.getD t default).1,d,(m.slots.getD t default).2.2) }:=by
 have hgD:D≠g:=fun e=>hfar .slots (Qaj.slots m) (by rw [hv,e];rfl)
 have hg:=((hX.row .slots (Qaj.slots m)).lt g (by rw [hv];rfl)).1;have htb:∀j,tbl { m with slots:=m.slots.set t ((m.slots.getD t default).1,d,(m.slots.getD t default).2.2) } j=tbl m j:=fun j=>by
  show ((m.slots.set t _).getD j default).2.2=(m.slots.getD j default).2.2
  rw [QbA]
  split
  ·rename_i e;rw [e.1]
  ·rfl
 exact⟨⟨val,hX.setPage ht hv d,Qan hbox hgD _ _,fun a ha=>hfar a ((QbR (m:=m) (m':={ m with slots:=m.slots.set t ((m.slots.getD t default).1,d,(m.slots.getD t default).2.2) }) List.length_set rfl (fun j=>by rw [htb]) a).1 ha)⟩,hge,hbel.setCell (p:=⟨g,t*3+1,none⟩) hg _⟩
theorem Qn6 {V X:World}{D:Nat}{val:Nm→Value}{m:ImgD}(hX:OX X V.heap.size val m)(hbel:Below V.heap.size V X)(hbox:X.heap[D]? = some (.cells #[.int .i64 m.guest,val .root,val .slots,val .refs,val .snaps] 26))(hge:V.heap.size≤D)(hfar:∀a,Qaj m a→(val a).ownBlock≠some D)
  {t:Nat} (ht:t<m.slots.length) (hnt:tbl m t≠[]) {g n cap:Nat} (hv:val (.tab t)=.slice (some ⟨g,0,none⟩) n cap) (i:Nat) (x:Int):OwR V (X.setCell ⟨g,i,none⟩ (.int .i64 x)) D { m with slots:=m.slots.set t ((m.slots.getD t default).1,(m.slots.getD t default).2.1,(m.slots.getD t default).2.2.set i x) }:=by
 have hl:Qaj m (.tab t):=Qaj.tab ⟨ht,hnt⟩;have hgD:D≠g:=fun e=>hfar (.tab t) hl (by rw [hv,e];rfl)
 have hg:=((hX.row (.tab t) hl).lt g (by rw [hv];rfl)).1;have hgd:=fun j=>QbA m.slots t j ((m.slots.getD t default).1,(m.slots.getD t default).2.1,(m.slots.getD t default).2.2.set i x)
 refine⟨⟨val,hX.setTab ht hnt hv i x,Qan hbox hgD _ _,fun a ha=>hfar a ?_⟩,hge,hbel.setCell (p:=⟨g,i,none⟩) hg _⟩;refine (QbR (m:=m) (m':={ m with slots:=m.slots.set t ((m.slots.getD t default).1,(m.slots.getD t default).2.1,(m.slots.getD t default).2.2.set i x) }) List.length_set rfl (fun j=>?_) a).1 ha
 show ((m.slots.set t _).getD j default).2.2=[]↔(m.slots.getD j default).2.2=[]
 rw [hgd]
 split
 ·rename_i e
  rw [←e.1];exact⟨fun z=>List.eq_nil_of_length_eq_zero (by have:=congrArg List.length z;rwa [List.length_set] at this),fun z=>absurd z hnt⟩
 ·rfl
theorem QeQ {L:List Qag}{j:Nat}(h:j<L.length):L.getD j default=L[j]:=by simp [List.getD,h]
theorem QnQ {m:ImgD}(hs:Qao m=0){t:Nat}(hk:kd m.slots t=2):m.slots.getD t default=(2,⟨#[]⟩,Qaz m.slots t):=by
 have hl:=QeB (L:=m.slots) (j:=t) (by rw [hk];decide);have hok:=QaG (Qad hs).2.1 hl;rw [QeQ hl];unfold Qaz;rw [Int.toNat_natCast,QeQ hl];unfold kd at hk;rw [QeQ hl] at hk;unfold okD QaZ at hok;rw [hk] at hok;simp at hok
 have h0:m.slots[t].2.1=⟨#[]⟩:=hok.2.2;rw [←h0,← hk]
theorem Qo0 {L:List Qag}{t d:Nat}{s x:Qag}(ht:t<L.length)(hne:t≠d):(layS L d s).set t x=layS (L.set t x) d s:=by
 unfold layS;rw [List.length_set]
 split
 ·exact List.set_append_left _ _ ht
 ·exact List.set_comm _ _ (fun e=>hne e.symm)
theorem Qoq {L:List Qag}{t:Nat}{a b:Qag}(ht:t≤L.length):(layS L t a).set t b=layS L t b:=by
 unfold layS
 split
 ·rename_i e
  subst e;rw [List.set_append_right _ _ (Nat.le_refl _)];simp
 ·exact List.set_set ..
def wo1 (m:ImgD) (n:Nat):ImgD:={ m with root:=m.root.set (n / 4) (tabN m (n / 4):Int),slots:=tabL m (n / 4) (Qak m (n / 4)) }
theorem Qjw {m:ImgD}(hC:Qaq m=0){n:Nat}(hr:n / 4<m.root.length)(hl:inPl m (n / 4)=true):wo1 m n=m:=by
 have hs:=Qal hC;obtain⟨t,ht,t1,tl,_⟩:=Qfn hC hr hl;have htn:tabN m (n / 4)=t:=by unfold tabN;rw [if_pos hl,ht];simp
 have hk:kd m.slots t=2:=by
  have hm:(t:Int) ∈ QaC m:=by rw [Qcj,← ht,Qbz hr];exact List.mem_append_left _ (List.getElem_mem hr)
  exact (QbC hs hm t1).2.1
 have h1:m.root.set (n / 4) (t:Int)=m.root:=Qb8 (by rw [List.getElem?_eq_getElem hr,← Qbz hr,ht]);have h2:tabL m (n / 4) (Qak m (n / 4))=m.slots:=by
  unfold tabL layS;rw [htn,if_neg (by omega)];refine Qb8 ?_;have e1:Qak m (n / 4)=Qaz m.slots t:=by unfold Qak;rw [ht,if_neg (by omega)]
  rw [e1,← QnQ hs hk,List.getElem?_eq_getElem tl,QeQ tl]
 unfold wo1;rw [htn,h1,h2]
theorem Qgz {m:ImgD}(hC:Qaq m=0){n:Nat}(hn:(n:Int)<m.guest)(h40:tabN m (n / 4)≠40) :
  1≤(wo1 m n).slots.length∧(wo1 m n).slots.length≤40∧tabN m (n / 4)<(wo1 m n).slots.length∧1≤tabN m (n / 4)∧(wo1 m n).slots.getD (tabN m (n / 4)) default=(2,⟨#[]⟩,Qak m (n / 4)):=by
 have hs:=Qal hC;have hgt:=Qa4 hs;have hrt:=Qa3 hs;have hr:n / 4<m.root.length:=by omega
 have hp:=Qah (Qad hs).2.1;obtain⟨t1,tl,t40,tk,_⟩:=Qb4 hC hr h40;have hle:=Qen (s:=((2,⟨#[]⟩,Qak m (n / 4)):Qag)) tl hp.2 t40;refine⟨?_,?_,?_,t1,?_⟩
 ·show 1≤(tabL m (n / 4) (Qak m (n / 4))).length
  unfold tabL;omega
 ·show (tabL m (n / 4) (Qak m (n / 4))).length≤40
  unfold tabL;omega
 ·show tabN m (n / 4)<(tabL m (n / 4) (Qak m (n / 4))).length
  unfold tabL;omega
 ·show (tabL m (n / 4) (Qak m (n / 4))).getD _ default=_
  unfold tabL;rw [Qbe tl,if_pos rfl]
theorem QnY {m:ImgD}(hC:Qaq m=0){n:Nat}(hn:(n:Int)<m.guest)(h40:tabN m (n / 4)≠40)(hd40:wD m n≠40){page:ByteArray}(hp:page.size=4) :
  wD m n≤(wo1 m n).slots.length∧1≤wD m n∧tabN m (n / 4)<(layS (wo1 m n).slots (wD m n) (1,page,[])).length∧(layS (wo1 m n).slots (wD m n) (1,page,[])).getD (tabN m (n / 4)) default=(2,⟨#[]⟩,Qak m (n / 4))∧
   (layS (wo1 m n).slots (wD m n) (1,page,[])).set (tabN m (n / 4)) (2,⟨#[]⟩,(Qak m (n / 4)).set (n % 4) (wD m n:Int))=wL m n page:=by
 obtain⟨f1,f2,f3,f4,f5⟩:=Qgz hC hn h40;obtain⟨hx,hl,hz,hk,d1,d40,hkd,hdt⟩:=Qht hC hn h40 hd40 hp;obtain⟨t1,tl,t40,tk,_⟩:=Qb4 hC hk h40;have hdl:wD m n≤(wo1 m n).slots.length:=(Qbg (L:=(wo1 m n).slots) f1).2.1;refine⟨hdl,d1,?_,?_,?_⟩
 ·rw [QaD];split <;> omega
 ·rw [Qbe hdl,if_neg (fun e=>hdt e.symm)];exact f5
 ·rw [Qo0 f3 (fun e=>hdt e.symm)];unfold wL wEs
  congr 1
  exact Qoq tl
theorem Qf7 {m:ImgD}(hC:Qaq m=0){n:Nat}(hn:(n:Int)<m.guest)(h40:tabN m (n / 4)≠40)(hd40:wD m n≠40){page:ByteArray}(hp:page.size=4) :
  Qao { m with root:=m.root.set (n / 4) (tabN m (n / 4):Int),slots:=wL m n page,refs:=rfZ (wL m n page) } = 0:=(QfQ hC hn h40 hd40 hp).1.shape

theorem QmU (W:World)(x:Value):∀ (j:Nat) (u:Value),[x][j]? = some u→(W.alloc (.cells #[x] 3)).cell? ((⟨W.heap.size,0,none⟩:Addr).add j)=some u:=by
 intro j u hj;rw [Qa2,World.cell?_alloc_at _ _ _ _ rfl]
 match j,hj with
 | 0,hj=>simpa using hj
theorem OX.blk {W W':World}{B:Nat}{val:Nm→Value}{m:ImgD}(h:OX W B val m)(hk:∀a,Qaj m a→∀q,(val a).ownBlock=some q→W'.heap[q]? = W.heap[q]?):OX W' B val m:=⟨fun a ha=>QeZ (h.row a ha) (fun q e=>hk a ha q e),h.apart,h.loose⟩
theorem OwR.drew {V X:World}{D:Nat}{p:ImgD}(h:OwR V X D p):OwR V X.drew D p:=by
 obtain⟨val,h1,h2,h3⟩:=h.ex;exact⟨⟨val,h1.drew,h2,h3⟩,h.ge,Qaw h.bel⟩

theorem Qps (L:List Qag):rnk L 1=1:=rfl
theorem Qle (L:List Qag)(k:Nat):rnk L (k+1)=rnk L k+if kept L k=true then 1 else 0:=by
 unfold rnk;rw [List.range_succ,List.filter_append,List.length_append]
 congr 1
 by_cases h:kept L k=true <;> simp [List.filter_cons,h]
theorem Qiy {W:World}{o:Oper}{a:Act}{K:Act→World→Prop}{Q:Exit→Act→World→Prop}(s x:Operand)
  (ho:o.op=.call { callee:=.builtin .append,args:=#[s,x],argTypes:=#[22,22] }) {B n:Nat} {v:Value} {xs:List Int} {e:Int}
  (hs:a.eval s=v) {N:Nat} (hx:a.eval x=.slice (some ⟨N,0,none⟩) 1 1) (hN:N=W.heap.size) (hown:W.ownsRow B 3 1 v n (ints xs)) (hn:n≤1000) (hB:B≤W.heap.size)
  (h:∀v' w',Hid (w'.ownsRow B 3 1 v' (n+1) (ints (xs ++ [e])))→Hid ((W.alloc (.cells #[.int .i64 e] 3)).grownBy w' v.ownBlock)→Hid (v'.ownBlock=v.ownBlock∨v'.ownBlock=some (W.heap.size+1))→K (a.put o.dst v') w'):o.wp Tryz.prog a (W.alloc (.cells #[.int .i64 e] 3)) K Q:=by
 subst hN;obtain⟨i0,hi,hz0,hz1,hz2⟩:=info_parts QlZ;obtain⟨v',w',hr,g2,g3,_,g5⟩:=run_append_own_at (P:=Tryz.prog) (W.alloc (.cells #[.int .i64 e] 3)) B 22 o.type 3 i0 (.int .i64 0) 1 8 Tryz.underlying22 hi hz0 hz1 hz2 rfl (by decide) v n (ints xs) (hown.alloc _) ⟨W.heap.size,0,none⟩ 1 1 [.int .i64 e] rfl (QmU W _) (by intro u hu;simp at hu;subst hu;rfl) (by unfold maxLen;omega) (by omega) (by simp;omega);unfold Oper.wp execOp;simp only [ho,resolve,invoke,builtin,Sem.run_bind,Sem.run_pure,Result.andThen_ok,List.map_toArray,List.map_cons,List.map_nil,hs,hx,hr];have g6:v'.ownBlock=v.ownBlock∨v'.ownBlock=some (W.heap.size+1):=by simpa using g5
 have e1:ints (xs ++ [e])=ints xs ++ [.int .i64 e]:=by unfold ints;simp
 exact h v' w' (by rw [e1];exact g2) g3 g6
theorem QeX (j:Int)(ra:Option Addr)(rc:Nat)(sa:Option Addr)(sc:Nat)(fa:Option Addr)(fc:Nat)(na:Option Addr)(nc:Nat)(m:ImgD)(w:World)(hj:j≤0) :
  Calls Tryz.prog 78 #[.agg #[.int .i64 m.guest,.slice ra m.root.length rc,.slice sa m.slots.length sc,.slice fa m.refs.length fc,.slice na m.snaps.length nc],.int .i64 j] w fun r w'=>r=.returned (.int .i64 j)∧Below w.heap.size w w':=by
 go_enter Tryz.func78,Tryz.ntmps78
 go_wp2
 go_ret;exact⟨rfl,(Below.refl _ _).alloc (Nat.le_refl _) _⟩
theorem QhN (j sb so:Nat)(ra:Option Addr)(rc:Nat)(sc:Nat)(fa:Option Addr)(fc:Nat)(na:Option Addr)(nc:Nat)(m:ImgD)(w:World)(hj:1≤j)(hjl:j<m.slots.length)(h40:m.slots.length≤40)
    (hsl:sb<w.heap.size) (hc:∀k,k<m.slots.length→w.cell? ⟨sb,so+k*3,none⟩=some (.int .i64 (kd m.slots k))) :
    Calls Tryz.prog 78 #[.agg #[.int .i64 m.guest,.slice ra m.root.length rc,.slice (some ⟨sb,so,none⟩) m.slots.length sc,.slice fa m.refs.length fc,.slice na m.snaps.length nc],.int .i64 (j:Int)] w fun r w'=>r=.returned (.int .i64 (rnk m.slots j:Int))∧Below w.heap.size w w':=by
  have m0:(w.alloc (.cells #[.int .i64 m.guest,.slice ra m.root.length rc,.slice (some ⟨sb,so,none⟩) m.slots.length sc,.slice fa m.refs.length fc,.slice na m.snaps.length nc] 26)).heap[w.heap.size]? = some (.cells #[.int .i64 m.guest,.slice ra m.root.length rc,.slice (some ⟨sb,so,none⟩) m.slots.length sc,.slice fa m.refs.length fc,.slice na m.snaps.length nc] 26):=World.alloc_heap_new _ _;obtain⟨c0,c1,c2,c3,c4⟩:=five m0;clear m0;have b0:Below w.heap.size w (w.alloc (.cells #[.int .i64 m.guest,.slice ra m.root.length rc,.slice (some ⟨sb,so,none⟩) m.slots.length sc,.slice fa m.refs.length fc,.slice na m.snaps.length nc] 26)):=(Below.refl _ _).alloc (Nat.le_refl _) _;have HCc:Hid (∀k,k<m.slots.length→(w.alloc (.cells #[.int .i64 m.guest,.slice ra m.root.length rc,.slice (some ⟨sb,so,none⟩) m.slots.length sc,.slice fa m.refs.length fc,.slice na m.snaps.length nc] 26)).cell? ⟨sb,so+k*3,none⟩=some (.int .i64 (kd m.slots k))):=fun k hk=>(b0.cell (p:=⟨sb,so+k*3,none⟩) hsl).trans (hc k hk)
  have HB:=b0;clear hc b0;have hji:¬(j:Int)≤0:=by omega
  go_enter Tryz.func78,Tryz.ntmps78
  go_wp2
  go_loop [5,6] (fun c i=>∃k r:Nat,1≤k∧k≤j∧r≤k∧i=.int .i64 k∧c=.int .i64 r∧Hid (rnk m.slots k=r)) (fun _ i=>j - (intOf i).toNat)
  case atStart=>exact⟨1,1,by omega,hj,by omega,rfl,rfl,Qps _⟩
  case round=>
    obtain⟨k,r,hk1,hkj,hrk,rfl,rfl,HR⟩:=hrel
    by_cases hlt:k<j
    · have hki:(k:Int)<(j:Int):=by omega
      have hkl:k<m.slots.length:=by omega
      have hkl2:(k:Int)<(m.slots.length:Int):=by omega
      have cK:=HCc.out k hkl;obtain⟨kk,hkk⟩:∃x,kd m.slots k=x:=⟨_,rfl⟩;rw [hkk] at cK;have hs:=Qle m.slots k;have hkp:kept m.slots k=(kk != 0):=by unfold kept;rw [hkk,show (k == 0)=false by (simp;omega)];rfl
      rw [hkp,HR.out] at hs;rcases Bool.eq_false_or_eq_true (kk != 0) with hb | hb
      · have HS:Hid (rnk m.slots (k+1)=r+1):=by rw [hb] at hs;exact hs
        clear hs hkp hkk
        go_wp2
        go_round
        case rel=>exact⟨k+1,r+1,by omega,by omega,by omega,by go_num,by go_num,HS⟩
        case measure=>simp [intOf];omega
      · have HS:Hid (rnk m.slots (k+1)=r):=by rw [hb] at hs;exact hs
        clear hs hkp hkk
        go_wp2
        go_round
        case rel=>exact⟨k+1,r,by omega,by omega,by omega,by go_num,rfl,HS⟩
        case measure=>simp [intOf];omega
    · have hki:¬(k:Int)<(j:Int):=by omega
      have HE:Hid (k=j):=by show k=j;omega
      go_wp2
      go_ret;exact⟨QaI (by rw [←HE.out,HR.out]),HB⟩
theorem Qkr {w:World}{v:Value}{m:ImgD}(h:Img w v m)(h40:m.slots.length≤40){e r:Int}(he:EntP m.slots e)(hr:ren m.slots e=r) :
  Calls Tryz.prog 78 #[v,.int .i64 e] w fun x w'=>x=.returned (.int .i64 r)∧Below w.heap.size w w':=by
 have h':=h;obtain⟨ra,rc,sa,sc,fa,fc,na,nc,rfl,_⟩:=h.parts;subst hr;rcases he with x | x | ⟨j,rfl,j1,jl,jk⟩
 ·subst x;rw [QeC];exact QeX 0 ra rc sa sc fa fc na nc m w (by omega)
 ·subst x;rw [Qc9];exact QeX (-1) ra rc sa sc fa fc na nc m w (by omega)
 ·rw [Qch jl jk];obtain⟨sb,so,sc',e,_,hbl,hps⟩:=h'.four.2.1.open (by omega);simp only [Value.slice.injEq] at e;obtain⟨rfl,_,rfl⟩:=e;exact QhN j sb so ra rc _ fa fc na nc m w j1 jl h40 hbl (fun k hk=>by
   obtain⟨tv,q0,_⟩:=hps k hk;have e:kd m.slots k=m.slots[k].1:=by unfold kd;simp [List.getD,hk]
   rw [e];exact q0)
structure ArS (w wr:World) (bx:Obj) (pa:Option Addr) (k pc:Nat) (ys:List Int):Prop where
 row:wr.ownsRow (w.heap.size+1) 3 1 (.slice pa k pc) k (ints ys)
 bel:Below w.heap.size w wr
 box:wr.heap[w.heap.size]? = some bx
theorem QlB (la:Option Addr)(lc:Nat)(ra:Option Addr)(rc:Nat)(sa:Option Addr)(sc:Nat)(fa:Option Addr)(fc:Nat)(na:Option Addr)(nc:Nat)(m:ImgD)(xs:List Int)(w:World)(h:Img w (.agg #[.int .i64 m.guest,.slice ra m.root.length rc,.slice sa m.slots.length sc,.slice fa m.refs.length fc,.slice na m.snaps.length nc]) m)(hl:Sl w (.slice la xs.length lc) xs)(h40:m.slots.length≤40)(hx:xs.length≤40)(he:∀e ∈ xs,EntP m.slots e) :
  Calls Tryz.prog 49 #[.agg #[.int .i64 m.guest,.slice ra m.root.length rc,.slice sa m.slots.length sc,.slice fa m.refs.length fc,.slice na m.snaps.length nc],.slice la xs.length lc] w fun r w'=>∃va,r=.returned va∧w'.ownsRow (w.heap.size+1) 3 1 va xs.length (ints (xs.map (ren m.slots)))∧Below w.heap.size w w':=by
 have b0:Below w.heap.size w (w.alloc (.cells #[.int .i64 m.guest,.slice ra m.root.length rc,.slice sa m.slots.length sc,.slice fa m.refs.length fc,.slice na m.snaps.length nc] 26)):=(Below.refl _ _).alloc (Nat.le_refl _) _;have m0:(w.alloc (.cells #[.int .i64 m.guest,.slice ra m.root.length rc,.slice sa m.slots.length sc,.slice fa m.refs.length fc,.slice na m.snaps.length nc] 26)).heap[w.heap.size]? = some (.cells #[.int .i64 m.guest,.slice ra m.root.length rc,.slice sa m.slots.length sc,.slice fa m.refs.length fc,.slice na m.snaps.length nc] 26):=World.alloc_heap_new _ _;have HI:Hid (Img w (.agg #[.int .i64 m.guest,.slice ra m.root.length rc,.slice sa m.slots.length sc,.slice fa m.refs.length fc,.slice na m.snaps.length nc]) m∧Sl w (.slice la xs.length lc) xs∧∀e ∈ xs,EntP m.slots e):=⟨h,hl,he⟩;have HS0:Hid (ArS w (w.alloc (.cells #[.int .i64 m.guest,.slice ra m.root.length rc,.slice sa m.slots.length sc,.slice fa m.refs.length fc,.slice na m.snaps.length nc] 26)) (.cells #[.int .i64 m.guest,.slice ra m.root.length rc,.slice sa m.slots.length sc,.slice fa m.refs.length fc,.slice na m.snaps.length nc] 26) none 0 0 ((xs.take 0).map (ren m.slots))):=⟨World.ownsRow_nil _ _ _ _,b0,m0⟩;clear h hl he b0 m0
 go_enter Tryz.func49,Tryz.ntmps49
 go_wp2_with fail;obtain⟨W0,hW0⟩:∃X,(w.alloc (.cells #[.int .i64 m.guest,.slice ra m.root.length rc,.slice sa m.slots.length sc,.slice fa m.refs.length fc,.slice na m.snaps.length nc] 26))=X:=⟨_,rfl⟩;rw [hW0] at HS0 ⊢;clear hW0
 go_loopw [5,6] (fun o i wr=>∃k pa pc,k≤xs.length∧i=.int .i64 (k:Int)∧o=.slice pa k pc∧Hid (ArS w wr (.cells #[.int .i64 m.guest,.slice ra m.root.length rc,.slice sa m.slots.length sc,.slice fa m.refs.length fc,.slice na m.snaps.length nc] 26) pa k pc ((xs.take k).map (ren m.slots)))) (fun _ i _=>xs.length - (intOf i).toNat)
 case atStart=>exact⟨0,none,0,Nat.zero_le _,rfl,rfl,HS0⟩
 case round=>
  obtain⟨k,pa,pc,hk,rfl,rfl,HC⟩:=hrel;have bl:=HC.out.bel;have hbx:=HC.out.box;have hDl:=(szH hbx)
  by_cases hlk:k<xs.length
  ·have hki:(k:Int)<(xs.length:Int):=by omega
   obtain⟨b,off,lc',e0,_,hbl,hcell⟩:=HI.out.2.1.open (by omega);simp only [Value.slice.injEq] at e0;obtain⟨rfl,_,rfl⟩:=e0;have cp:wr.cell? ⟨b,off+k,none⟩=some (.int .i64 (xs.getD k 0)):=(bl.cell (p:=⟨b,off+k,none⟩) hbl).trans (hcell k hlk);obtain⟨e,hee⟩:∃x,xs.getD k 0=x:=⟨_,rfl⟩;rw [hee] at cp;have hmem:xs[k]=e:=by rw [←hee];simp [List.getD,hlk]
   obtain⟨r,hr⟩:∃x,ren m.slots e=x:=⟨_,rfl⟩;have HX:Hid ((xs.take (k+1)).map (ren m.slots)=(xs.take k).map (ren m.slots) ++ [r]):=by
    show _=_
    rw [show xs.take (k+1)=xs.take k ++ [xs[k]] from (List.take_append_getElem hlk).symm,List.map_append,hmem,← hr]
    rfl
   have HRn:Hid (∀W,Below w.heap.size w W→Calls Tryz.prog 78 #[.agg #[.int .i64 m.guest,.slice ra m.root.length rc,.slice sa m.slots.length sc,.slice fa m.refs.length fc,.slice na m.snaps.length nc],.int .i64 e] W fun x w'=>x=.returned (.int .i64 r)∧Below W.heap.size W w'):=fun W hW=>Qkr (HI.out.1.below hW) h40 (HI.out.2.2 e (by rw [←hmem];exact List.getElem_mem _)) hr
   clear hee hmem hr;go_upto_region 5 with fail;refine wp_region_held_drew (S:=(fun X:World=>X.heap[w.heap.size]? = some (.cells #[.int .i64 m.guest,.slice ra m.root.length rc,.slice sa m.slots.length sc,.slice fa m.refs.length fc,.slice na m.snaps.length nc] 26)∧X.cell? ⟨b,off+k,none⟩=some (.int .i64 e))) (by kernel_rfl) ⟨hbx,cp⟩ (fun hHeld=>?_);refine tkH 0 (.slice pa k pc) rfl (Or.inl ⟨by rfl,fun w' hSw=>by obtain⟨qa,qb⟩:=hSw;obtain⟨j0,j1,j2,j3,j4⟩:=five qa;go_simp⟩) hHeld ?_;simp only [lays];refine tkH 1 (.agg #[.int .i64 m.guest,.slice ra m.root.length rc,.slice sa m.slots.length sc,.slice fa m.refs.length fc,.slice na m.snaps.length nc]) rfl (Or.inl ⟨by rfl,fun w' hSw=>by obtain⟨qa,qb⟩:=hSw;obtain⟨j0,j1,j2,j3,j4⟩:=five qa;go_simp⟩) hHeld ?_;simp only [lays];refine tkH 2 (.slice (some ⟨b,off,none⟩) xs.length lc) rfl (Or.inl ⟨by rfl,fun w' hSw=>by obtain⟨qa,qb⟩:=hSw;obtain⟨j0,j1,j2,j3,j4⟩:=five qa;go_simp⟩) hHeld ?_;simp only [lays];refine tkH 3 (.int .i64 (k:Int)) rfl (Or.inl ⟨by rfl,fun w' hSw=>by obtain⟨qa,qb⟩:=hSw;obtain⟨j0,j1,j2,j3,j4⟩:=five qa;go_simp⟩) hHeld ?_;simp only [lays];refine tkH 4 (.pointer (some ⟨b,off+k,none⟩)) rfl (Or.inl ⟨by rfl,fun w' hSw=>by obtain⟨qa,qb⟩:=hSw;obtain⟨j0,j1,j2,j3,j4⟩:=five qa;go_simp⟩) hHeld ?_;simp only [lays];refine tkH 5 (.int .i64 e) rfl (Or.inl ⟨by rfl,fun w' hSw=>by obtain⟨qa,qb⟩:=hSw;obtain⟨j0,j1,j2,j3,j4⟩:=five qa;go_simp⟩) hHeld ?_;simp only [lays];refine rdH 6 rfl (fun K hK=>?_);clear hHeld;simp only [lays];rw [if_pos (by rfl)];go_wp2_with (go_at_call 78;refine (HRn.out _ (Qaw bl)).mono ?_;rintro x9 w4 ⟨rfl,b4⟩);replace b4:Below wr.heap.size wr w4:=Qat b4;have s4:=b4.size;have bx4:=Qab hbx b4 hDl;have sb4:=bl.size;have cp4:w4.cell? ⟨b,off+k,none⟩=some (.int .i64 e):=(b4.cell (p:=⟨b,off+k,none⟩) (by show b<_;omega)).trans cp;have r4:=QeR HC.out.row (W':=w4) (fun q hq=>b4.block q (HC.out.row.lt q hq).2);refine hK.out _ _ ⟨bx4,cp4⟩ (fun hHeld=>?_);clear hK K;try simp only [lays]
   refine rdH 7 rfl (fun K hK=>?_);clear hHeld;simp only [lays];rw [if_pos (by rfl)];go_simp;refine hK.out _ _ ⟨Qac bx4 _,(World.cell?_alloc_past _ _ _ (by show b<_;omega)).trans cp4⟩ (fun hHeld=>?_);clear hK K;try simp only [lays]
   refine rdH 8 rfl (fun K hK=>?_);clear hHeld;simp only [lays];rw [if_pos (by rfl)];refine Qiy (B:=w.heap.size+1) (n:=k) (v:=.slice pa k pc) (xs:=(xs.take k).map (ren m.slots)) (e:=r) _ _ (by rfl) (by rfl) (N:=w4.heap.size) (by rfl) rfl r4 (by omega) (by omega) ?_;intro v8 w8 g1 g2 g3;obtain⟨ga,gc,hv8⟩:=Qa9 g1.out;subst hv8;have hown:(Value.slice pa k pc).ownBlock≠some w.heap.size:=fun e=>by have:=(HC.out.row.lt _ e).1;omega
   have hownb:(Value.slice pa k pc).ownBlock≠some b:=fun e=>by have:=(HC.out.row.lt _ e).1;omega
   have hz:(w4.alloc (.cells #[.int .i64 r] 3)).heap.size=w4.heap.size+1:=by simp
   have bx8:=(g2.out.block w.heap.size (by rw [hz];omega) (fun e=>hown e.symm)).trans (Qac bx4 (.cells #[.int .i64 r] 3));have cb8:w8.heap[b]? = w4.heap[b]?:=(g2.out.block b (by rw [hz];omega) (fun e=>hownb e.symm)).trans (Below.heap_alloc _ _ b (by omega));have cp8:w8.cell? ⟨b,off+k,none⟩=some (.int .i64 e):=by
    have:w8.cell? ⟨b,off+k,none⟩=w4.cell? ⟨b,off+k,none⟩:=by simp only [World.cell?,cb8]
    rw [this];exact cp4
   have HN:Hid (ArS w w8 (.cells #[.int .i64 m.guest,.slice ra m.root.length rc,.slice sa m.slots.length sc,.slice fa m.refs.length fc,.slice na m.snaps.length nc] 26) (some ⟨ga,0,none⟩) (k+1) gc ((xs.take (k+1)).map (ren m.slots))):=by
    refine⟨by rw [HX.out];exact g1.out,?_,bx8⟩;exact ((bl.trans (b4.mono sb4)).alloc (by omega) _).grown g2.out (by rw [hz];omega) (fun q e=>by have:=(HC.out.row.lt _ e).1;omega)
   refine hK.out _ _ ⟨bx8,cp8⟩ (fun hHeld=>?_);clear hK K;try simp only [lays]
   refine rdH 9 rfl (fun K hK=>?_);clear hHeld;simp only [lays];rw [if_pos (by rfl)];go_simp;refine hK.out _ _ ⟨bx8,cp8⟩ (fun hHeld=>?_);clear hK K hHeld;try simp only [lays]
   refine wpAnyH_done (by kernel_rfl) ?_ _;clear g1 g2 g3 bx8 cb8 cp8 bx4 cp4 r4 b4 hownb hown;go_wp2_with fail;go_roundw
   case rel=>exact⟨k+1,some ⟨ga,0,none⟩,gc,by omega,by go_num,rfl,HN⟩
   case measure=>simp [intOf];omega
  ·have HE:Hid (k=xs.length):=by show k=xs.length;omega
   have hki:¬(k:Int)<(xs.length:Int):=by omega
   have HR:Hid (wr.ownsRow (w.heap.size+1) 3 1 (.slice pa k pc) xs.length (ints (xs.map (ren m.slots)))∧Below w.heap.size w wr):=by
    refine⟨?_,bl⟩;have h9:=HC.out.row;have e:=HE.out;rw [show xs.take k=xs by rw [e,List.take_length]] at h9;rw [e] at h9;rw [e];exact h9
   clear bl hbx HC;go_wp2_with fail;go_ret;exact⟨.slice pa k pc,rfl,HR.out.1,HR.out.2⟩
theorem Qfj {w:World}{v u:Value}{m:ImgD}{xs:List Int}(h:Img w v m)(hl:Sl w u xs)(h40:m.slots.length≤40)(hx:xs.length≤40)(he:∀e ∈ xs,EntP m.slots e){ys:List Int}(hy:xs.map (ren m.slots)=ys) :
  Calls Tryz.prog 49 #[v,u] w fun r w'=>∃va,r=.returned va∧w'.ownsRow (w.heap.size+1) 3 1 va ys.length (ints ys)∧Below w.heap.size w w':=by
 have h':=h;obtain⟨ra,rc,sa,sc,fa,fc,na,nc,rfl,_⟩:=h.parts;obtain⟨la,lc,rfl⟩:=hl.form;subst hy;rw [List.length_map];exact QlB la lc ra rc sa sc fa fc na nc m xs w h' hl h40 hx he

theorem QkN {l:List Int}{t:Int}(h:t ∉ l):l.count t=0:=List.count_eq_zero.2 h

theorem QmP {m:ImgD}(hs:Qao m=0){r:Nat}(hr:r<m.root.length):∃t:Nat,m.root.getD r 0=(t:Int)∧t<m.slots.length:=by
 have hro:=Qa3 hs;have hm:m.root.getD r 0 ∈ m.root:=by simp [List.getD,hr]
 have hE:=List.all_eq_true.1 hro.2 _ hm;have hp:=Qah (Qad hs).2.1
 by_cases h0:m.root.getD r 0=0
 ·exact⟨0,h0,by omega⟩
 ·unfold Qbf at hE;have hk:isKd m.slots (m.root.getD r 0) 2=true:=by
   cases hx:isKd m.slots (m.root.getD r 0) 2 with
   | true=>rfl
   | false=>rw [hx] at hE;simp at hE;exact absurd hE h0
  obtain⟨j,hj,hjl,_⟩:=Qbu hk;exact⟨j,hj,hjl⟩
def tC (m:ImgD) (x:Nat):Nat:=(QaC m).count (x:Int)
def pC (m:ImgD) (x:Nat):Nat:=sumT m.slots (QaC m) (x:Int)
theorem Ql4 {m:ImgD}(h:Qao m=0){x:Nat}(hk:kd m.slots x≠0):1≤x∧x<m.slots.length:=by
 refine⟨?_,QeB hk⟩;rcases Nat.eq_zero_or_pos x with e | e
 ·rw [e] at hk;exact absurd (Qcs (Qad h).2.1) hk
 ·exact e
theorem QoI {m:ImgD}(h:Qao m=0){x:Nat}(hk:kd m.slots x=2):(cntL m).getD x 0=(tC m x:Int):=by
 obtain⟨h1,hx⟩:=Ql4 h (x:=x) (by rw [hk];decide);rw [Qbr h x hx];unfold cntI tC;rw [if_neg (by omega),QgE (Qad h).2.2.2.2.2.1 _ h1 (by rw [hk];decide),Nat.add_zero]
theorem Qoz {m:ImgD}(h:Qao m=0){x:Nat}(h1:1≤x)(hk:kd m.slots x≠2):tC m x=0:=
 QkN (fun hm=>hk (QbC h hm h1).2.1)
theorem QmW {m:ImgD}(h:Qao m=0){x:Nat}(hk:kd m.slots x=1):(cntL m).getD x 0=(pC m x:Int):=by
 obtain⟨h1,hx⟩:=Ql4 h (x:=x) (by rw [hk];decide);rw [Qbr h x hx];have h0:=Qoz h h1 (by rw [hk];decide);unfold tC at h0;unfold cntI pC;rw [if_neg (by omega),h0,Nat.zero_add]
def lo (m:ImgD) (n:Nat):Bool:=m.root.getD (n / 4) 0 != 0 && tC m (m.root.getD (n / 4) 0).toNat == 1
def so (m:ImgD) (n:Nat):Bool:=decide (0<QaT m m.root n) && pC m (QaT m m.root n).toNat == 1
theorem Qf3 {m:ImgD}(hC:Qaq m=0){k:Nat}(hk:k<m.root.length):∃t:Nat,m.root.getD k 0=(t:Int)∧(t=0∨(1≤t∧kd m.slots t=2∧1≤tC m t∧m.refs.getD t 0=(tC m t:Int))):=by
 obtain⟨hs,hr,_⟩:=Qbs hC;obtain⟨t,ht,_⟩:=QmP hs hk;refine⟨t,ht,?_⟩;rcases Nat.eq_zero_or_pos t with e | e
 ·exact .inl e
 ·have hm:(t:Int) ∈ QaC m:=by
   rw [Qcj,← ht,Qbz hk];exact List.mem_append_left _ (List.getElem_mem hk)
  have h2:=(QbC hs hm e).2.1;refine .inr ⟨e,h2,List.count_pos_iff.2 hm,?_⟩;rw [←hr];exact QoI hs h2
theorem QfS {m:ImgD}(hC:Qaq m=0){n:Nat}(hk:n / 4<m.root.length):QaT m m.root n≤0∨∃e:Nat,QaT m m.root n=(e:Int)∧1≤e∧kd m.slots e=1∧m.refs.getD e 0=(pC m e:Int):=by
 obtain⟨hs,hr,_⟩:=Qbs hC;obtain⟨ock,oent⟩:=Qa0 hs hk;rw [Qc6];have h4:n % 4<(Qak m (n / 4)).length:=by rw [Qa7 ock];omega
 have hmem:(Qak m (n / 4)).getD (n % 4) 0 ∈ Qak m (n / 4):=by rw [Qbz h4];exact List.getElem_mem h4
 rcases Qcw (oent _ hmem) with e | e | ⟨j,e,_,hkj⟩
 ·left;omega
 ·left;omega
 ·right
  refine⟨j,e,(Ql4 hs (by rw [hkj];decide)).1,hkj,?_⟩;rw [←hr];exact QmW hs hkj
theorem Qlw {m:ImgD}(hC:Qaq m=0){n:Nat}(hk:n / 4<m.root.length):lo m n=inPl m (n / 4):=by
 obtain⟨t,ht,h⟩:=Qf3 hC hk;unfold lo inPl;rw [ht,Int.toNat_natCast];rcases h with h | ⟨_,_,_,h⟩
 ·subst h;rfl
 ·rw [h]
  congr 1
  rw [Bool.eq_iff_iff];simp only [beq_iff_eq];omega
theorem Qnk {m:ImgD}(hC:Qaq m=0){n:Nat}(hk:n / 4<m.root.length):Qez m n=(lo m n && so m n):=by
 rw [Qlw hC hk];unfold Qez so;rcases QfS hC hk with h | ⟨e,he,h1,_,h2⟩
 ·rw [show decide (0<QaT m m.root n)=false by simp;omega];simp
 ·rw [he,Int.toNat_natCast,h2,show decide (0<(e:Int))=true by simp;omega,Bool.true_and,Bool.true_and]
  congr 1
  rw [Bool.eq_iff_iff];simp only [beq_iff_eq];omega



theorem QlD {W:World}{D:Nat}{x0 x1 x2 x3 x4:Value}{T:TypeId}(h:W.heap[D]? = some (.cells #[x0,x1,x2,x3,x4] T))(a0 a1 a2 a3 a4:Value):((((((W.setCell ⟨D,0,none⟩ (a0)).setCell ⟨D,1,none⟩ (a1)).setCell ⟨D,2,none⟩ (a2)).setCell ⟨D,3,none⟩ (a3)).setCell ⟨D,4,none⟩ (a4))).heap[D]? = some (.cells #[a0,a1,a2,a3,a4] T):=by
 have h0:=Qau h 0 a0;have h1:=Qau h0 1 a1;have h2:=Qau h1 2 a2;have h3:=Qau h2 3 a3;have h4:=Qau h3 4 a4;exact h4
theorem QlI {W:World}{D q:Nat}(a0 a1 a2 a3 a4:Value)(hq:q≠D):((((((W.setCell ⟨D,0,none⟩ (a0)).setCell ⟨D,1,none⟩ (a1)).setCell ⟨D,2,none⟩ (a2)).setCell ⟨D,3,none⟩ (a3)).setCell ⟨D,4,none⟩ (a4))).heap[q]? = W.heap[q]?:=
 (Below.heap_setCell _ ⟨D,4,none⟩ a4 q hq).trans ((Below.heap_setCell _ ⟨D,3,none⟩ a3 q hq).trans ((Below.heap_setCell _ ⟨D,2,none⟩ a2 q hq).trans ((Below.heap_setCell _ ⟨D,1,none⟩ a1 q hq).trans (Below.heap_setCell _ ⟨D,0,none⟩ a0 q hq))))

theorem Qf1 {V X W:World}{D:Nat}{val:Nm→Value}{m:ImgD}(hX:OX X V.heap.size val m)(hbox:X.heap[D]? = some (.cells #[.int .i64 m.guest,val .root,val .slots,val .refs,val .snaps] 26))(hge:V.heap.size≤D)(hfar:∀a,Qaj m a→(val a).ownBlock≠some D)
  {v:Value} {r:List Int} (hown:W.ownsRow V.heap.size 3 1 v r.length (ints r)) (hblk:∀q,q<X.heap.size→(val .refs).ownBlock≠some q→W.heap[q]? = X.heap[q]?) (hbel:Below V.heap.size V W) (hv:v.ownBlock=(val .refs).ownBlock∨∀q,v.ownBlock=some q→X.heap.size≤q) :
  OwR V (W.setCell ⟨D,3,none⟩ v) D { m with refs:=r }:=by
 have hDl:D<X.heap.size:=(szH hbox);have hlive:∀ (r':List Int) a,Qaj { m with refs:=r' } a→Qaj m a:=fun r' a ha=>(QbR (m:=m) (m':={ m with refs:=r' }) rfl rfl (fun _=>Iff.rfl) a).1 ha
 have h0:=hX.swapRefs (v:=nl) (r:=[]) (World.ownsRow_nil _ _ _ _) (QeN _ _ _ _ _);have h1:OX W V.heap.size (upd val .refs (nl)) { m with refs:=[] }:=h0.blk (fun a ha q hq=>by
  by_cases ea:a=.refs
  ·subst ea;rw [Qar] at hq;cases hq
  ·rw [Qae _ _ ea] at hq;have ha':=hlive [] a ha;exact hblk q ((hX.row a ha').lt q hq).2 (fun e=>hX.apart .refs a (Qaj.refs m) ha' (fun x=>ea x.symm) q e hq))
 have h2:=h1.swapRefs (v:=v) (r:=r) hown (fun b hb hne g hg e=>by
  rw [Qae _ _ hne] at e;have hb':=hlive [] b hb;rcases hv with x | x
  ·exact hX.apart .refs b (Qaj.refs m) hb' (fun y=>hne y.symm) g (x ▸ hg) e
  ·have:=x g hg;have:=((hX.row b hb').lt g e).2;omega)
 have hfar2:∀a,Qaj { m with refs:=r } a→(upd (upd val .refs (nl)) .refs v a).ownBlock≠some D:=fun a ha e=>by
  by_cases ea:a=.refs
  ·subst ea;rw [Qar] at e;rcases hv with x | x
   ·exact hfar .refs (Qaj.refs m) (x ▸ e)
   ·have:=x D e;omega
  ·rw [Qae _ _ ea,Qae _ _ ea] at e;exact hfar a (hlive r a ha) e
 refine⟨⟨_,h2.far hfar2,?_,hfar2⟩,hge,hbel.setCell (p:=⟨D,3,none⟩) hge _⟩;rw [Qar,Qae _ v (a:=.refs) (b:=.root) (by intro x;cases x),Qae _ _ (a:=.refs) (b:=.root) (by intro x;cases x),Qae _ v (a:=.refs) (b:=.slots) (by intro x;cases x),Qae _ _ (a:=.refs) (b:=.slots) (by intro x;cases x),Qae _ v (a:=.refs) (b:=.snaps) (by intro x;cases x),Qae _ _ (a:=.refs) (b:=.snaps) (by intro x;cases x)];exact Qau ((hblk D hDl (hfar .refs (Qaj.refs m))).trans hbox) 3 v
structure PkM (w1 X:World) (R:List Int) (oc:Option Value) (os ofr od:Option Nat):Prop where
 bel:Below w1.heap.size w1 X
 c:∀v,oc=some v→X.ownsRow w1.heap.size 3 1 v R.length (ints R)
 s:∀g,os=some g→w1.heap.size≤g∧X.heap[g]? = some (.cells #[.int .i64 0,.string ⟨#[]⟩,nl] 37)
 f:∀g,ofr=some g→w1.heap.size≤g∧X.heap[g]? = some (.cells #[.int .i64 0] 3)
 d:∀g,od=some g→w1.heap.size≤g∧X.heap[g]? = some zI
 cs:∀v g,oc=some v→os=some g→v.ownBlock≠some g
 cf:∀v g,oc=some v→ofr=some g→v.ownBlock≠some g
 cd:∀v g,oc=some v→od=some g→v.ownBlock≠some g
 sf:∀g h,os=some g→ofr=some h→g≠h
 sd:∀g h,os=some g→od=some h→g≠h
 fd:∀g h,ofr=some g→od=some h→g≠h
theorem ltS {X:World}{g:Nat}{o:Obj}(h:X.heap[g]? = some o):g<X.heap.size:=(szH h)
theorem PkM.zero (w1:World)(R:List Int):PkM w1 w1 R none none none none:=⟨Below.refl _ _,fun _ h=>(by cases h),fun _ h=>(by cases h),fun _ h=>(by cases h),fun _ h=>(by cases h),fun _ _ h=>(by cases h),fun _ _ h=>(by cases h),fun _ _ h=>(by cases h),fun _ _ h=>(by cases h),fun _ _ h=>(by cases h),fun _ _ h=>(by cases h)⟩
theorem PkM.on {w1 X Y:World}{R:List Int}{oc:Option Value}{os ofr od:Option Nat}(h:PkM w1 X R oc os ofr od)(hb:Below X.heap.size X Y):PkM w1 Y R oc os ofr od:=
 ⟨h.bel.trans (hb.mono h.bel.size),fun v e=>QeR (h.c v e) (fun q hq=>hb.block q ((h.c v e).lt q hq).2),fun g e=>⟨(h.s g e).1,(hb.block g (ltS (h.s g e).2)).trans (h.s g e).2⟩,fun g e=>⟨(h.f g e).1,(hb.block g (ltS (h.f g e).2)).trans (h.f g e).2⟩,fun g e=>⟨(h.d g e).1,(hb.block g (ltS (h.d g e).2)).trans (h.d g e).2⟩,h.cs,h.cf,h.cd,h.sf,h.sd,h.fd⟩
theorem PkM.drew {w1 X:World}{R:List Int}{oc:Option Value}{os ofr od:Option Nat}(h:PkM w1 X R oc os ofr od):PkM w1 X.drew R oc os ofr od:=h.on (Qaw (Below.refl _ _))
theorem PkM.addC {w1 X Y:World}{R:List Int}{os ofr od:Option Nat}{v:Value}(h:PkM w1 X R none os ofr od)(hb:Below X.heap.size X Y)(hv:Y.ownsRow (X.heap.size+1) 3 1 v R.length (ints R)):PkM w1 Y R (some v) os ofr od:=by
 have h':=h.on hb;have hs:=h.bel.size;refine⟨h'.bel,fun u e=>?_,h'.s,h'.f,h'.d,fun u g e1 e2 e3=>?_,fun u g e1 e2 e3=>?_,fun u g e1 e2 e3=>?_,h.sf,h.sd,h.fd⟩
 ·cases e;exact QaP hv (by omega)
 ·cases e1;have:=(hv.lt g e3).1;have:=ltS (h.s g e2).2;omega
 ·cases e1;have:=(hv.lt g e3).1;have:=ltS (h.f g e2).2;omega
 ·cases e1;have:=(hv.lt g e3).1;have:=ltS (h.d g e2).2;omega
theorem PkM.addS {w1 X:World}{R:List Int}{oc:Option Value}{ofr od:Option Nat}(h:PkM w1 X R oc none ofr od):PkM w1 (X.alloc (.cells #[.int .i64 0,.string ⟨#[]⟩,nl] 37)) R oc (some X.heap.size) ofr od:=by
 have h':=h.on (Y:=X.alloc (.cells #[.int .i64 0,.string ⟨#[]⟩,nl] 37)) (bA);refine⟨h'.bel,h'.c,fun g e=>?_,h'.f,h'.d,fun u g e1 e2 e3=>?_,h.cf,h.cd,fun g q e1 e2 e3=>?_,fun g q e1 e2 e3=>?_,h.fd⟩
 ·cases e;exact⟨h.bel.size,zHn _ _⟩
 ·cases e2;have:=((h.c u e1).lt _ e3).2;omega
 ·cases e1;have:=ltS (h.f q e2).2;omega
 ·cases e1;have:=ltS (h.d q e2).2;omega
theorem PkM.addF {w1 X:World}{R:List Int}{oc:Option Value}{os od:Option Nat}(h:PkM w1 X R oc os none od):PkM w1 (X.alloc (.cells #[.int .i64 0] 3)) R oc os (some X.heap.size) od:=by
 have h':=h.on (Y:=X.alloc (.cells #[.int .i64 0] 3)) (bA);refine⟨h'.bel,h'.c,h'.s,fun g e=>?_,h'.d,h.cs,fun u g e1 e2 e3=>?_,h.cd,fun g q e1 e2 e3=>?_,h.sd,fun g q e1 e2 e3=>?_⟩
 ·cases e;exact⟨h.bel.size,zHn _ _⟩
 ·cases e2;have:=((h.c u e1).lt _ e3).2;omega
 ·cases e2;have:=ltS (h.s g e1).2;omega
 ·cases e1;have:=ltS (h.d q e2).2;omega
theorem PkM.addD {w1 X:World}{R:List Int}{oc:Option Value}{os ofr:Option Nat}(h:PkM w1 X R oc os ofr none):PkM w1 (X.alloc zI) R oc os ofr (some X.heap.size):=by
 have h':=h.on (Y:=X.alloc zI) (bA);refine⟨h'.bel,h'.c,h'.s,h'.f,fun g e=>?_,h.cs,h.cf,fun u g e1 e2 e3=>?_,h.sf,fun g q e1 e2 e3=>?_,fun g q e1 e2 e3=>?_⟩
 ·cases e;exact⟨h.bel.size,zHn _ _⟩
 ·cases e2;have:=((h.c u e1).lt _ e3).2;omega
 ·cases e2;have:=ltS (h.s g e1).2;omega
 ·cases e2;have:=ltS (h.f g e1).2;omega
theorem Qm3 {w1 X:World}{R:List Int}{va:Value}{gs gf D:Nat}(g:Int)(h:PkM w1 X R (some va) (some gs) (some gf) (some D)):OwR w1 (((((X.setCell ⟨D,0,none⟩ (.int .i64 g)).setCell ⟨D,1,none⟩ (va)).setCell ⟨D,2,none⟩ (.slice (some ⟨gs,0,none⟩) 1 1)).setCell ⟨D,3,none⟩ (.slice (some ⟨gf,0,none⟩) 1 1)).setCell ⟨D,4,none⟩ (nl)) D ⟨g,R,[(0,⟨#[]⟩,[])],[0],[]⟩:=by
 obtain⟨val,hval⟩:∃f:Nm→Value,f=upd (upd (upd valZ .root va) .slots (.slice (some ⟨gs,0,none⟩) 1 1)) .refs (.slice (some ⟨gf,0,none⟩) 1 1):=⟨_,rfl⟩;have e0:val .root=va:=by rw [hval,Qae _ _ (by intro x;cases x),Qae _ _ (by intro x;cases x),Qar]
 have e1:val .slots=.slice (some ⟨gs,0,none⟩) 1 1:=by rw [hval,Qae _ _ (by intro x;cases x),Qar]
 have e2:val .refs=.slice (some ⟨gf,0,none⟩) 1 1:=by rw [hval,Qar]
 have e3:val .snaps=nl:=by rw [hval,Qae _ _ (by intro x;cases x),Qae _ _ (by intro x;cases x),Qae _ _ (by intro x;cases x)];rfl
 have e4:val (.tab 0)=nl:=by rw [hval,Qae _ _ (by intro x;cases x),Qae _ _ (by intro x;cases x),Qae _ _ (by intro x;cases x)];rfl
 have hs:=h.s gs rfl;have hf:=h.f gf rfl;have hd:=h.d D rfl;have hj0:∀j:Nat,j<([(0,⟨#[]⟩,[])]:List Qag).length→j=0:=fun j hj=>by simp at hj;exact hj
 have hX:OX X w1.heap.size val ⟨g,R,[(0,⟨#[]⟩,[])],[0],[]⟩:=by
  refine⟨fun a ha=>?_,fun a b ha hb hne q hq e=>?_,fun j hj _=>?_⟩
  ·rcases ha.cases with rfl | rfl | rfl | rfl | ⟨j,rfl,hj,ht⟩ | ⟨j,rfl,hj⟩
   ·show X.ownsRow w1.heap.size 3 1 (val .root) R.length (ints R)
    rw [e0];exact h.c va rfl
   ·show X.ownsRow w1.heap.size 37 3 (val .slots) 1 [.int .i64 0,.string ⟨#[]⟩,val (.tab 0)]
    rw [e1,e4];exact⟨rfl,.inr ⟨gs,1,_,rfl,hs.1,hs.2,Nat.le_refl _,by unfold maxLen;omega,rfl,rfl⟩⟩
   ·show X.ownsRow w1.heap.size 3 1 (val .refs) 1 [.int .i64 0]
    rw [e2];exact⟨rfl,.inr ⟨gf,1,_,rfl,hf.1,hf.2,Nat.le_refl _,by unfold maxLen;omega,rfl,rfl⟩⟩
   ·show X.ownsRow w1.heap.size 39 3 (val .snaps) 0 []
    rw [e3];exact World.ownsRow_nil _ _ _ _
   ·have:=hj0 j hj;subst this;exact absurd rfl ht
   ·exact absurd hj (Nat.not_lt_zero _)
  ·rcases ha.cases with rfl | rfl | rfl | rfl | ⟨j,rfl,hj,ht⟩ | ⟨j,rfl,hj⟩
   ·rw [e0] at hq;rcases hb.cases with rfl | rfl | rfl | rfl | ⟨j,rfl,hj,ht⟩ | ⟨j,rfl,hj⟩
    ·exact hne rfl
    ·rw [e1] at e;cases e;exact h.cs va _ rfl rfl hq
    ·rw [e2] at e;cases e;exact h.cf va _ rfl rfl hq
    ·rw [e3] at e;cases e
    ·have:=hj0 j hj;subst this;exact absurd rfl ht
    ·exact absurd hj (Nat.not_lt_zero _)
   ·rw [e1] at hq
    cases hq
    rcases hb.cases with rfl | rfl | rfl | rfl | ⟨j,rfl,hj,ht⟩ | ⟨j,rfl,hj⟩
    ·rw [e0] at e;exact h.cs va _ rfl rfl e
    ·exact hne rfl
    ·rw [e2] at e;cases e;exact h.sf _ _ rfl rfl rfl
    ·rw [e3] at e;cases e
    ·have:=hj0 j hj;subst this;exact absurd rfl ht
    ·exact absurd hj (Nat.not_lt_zero _)
   ·rw [e2] at hq
    cases hq
    rcases hb.cases with rfl | rfl | rfl | rfl | ⟨j,rfl,hj,ht⟩ | ⟨j,rfl,hj⟩
    ·rw [e0] at e;exact h.cf va _ rfl rfl e
    ·rw [e1] at e;cases e;exact h.sf _ _ rfl rfl rfl
    ·exact hne rfl
    ·rw [e3] at e;cases e
    ·have:=hj0 j hj;subst this;exact absurd rfl ht
    ·exact absurd hj (Nat.not_lt_zero _)
   ·rw [e3] at hq;cases hq
   ·have:=hj0 j hj;subst this;exact absurd rfl ht
   ·exact absurd hj (Nat.not_lt_zero _)
  ·have:=hj0 j hj;subst this;exact⟨none,0,e4⟩
 have hfar:∀a,Qaj (⟨g,R,[(0,⟨#[]⟩,[])],[0],[]⟩:ImgD) a→(val a).ownBlock≠some D:=fun a ha e=>by
  rcases ha.cases with rfl | rfl | rfl | rfl | ⟨j,rfl,hj,ht⟩ | ⟨j,rfl,hj⟩
  ·rw [e0] at e;exact h.cd va _ rfl rfl e
  ·rw [e1] at e;cases e;exact h.sd _ _ rfl rfl rfl
  ·rw [e2] at e;cases e;exact h.fd _ _ rfl rfl rfl
  ·rw [e3] at e;cases e
  ·have:=hj0 j hj;subst this;exact absurd rfl ht
  ·exact absurd hj (Nat.not_lt_zero _)
 refine⟨⟨val,((((hX.far hfar).far hfar).far hfar).far hfar).far hfar,?_,hfar⟩,hd.1,((((h.bel.setCell (p:=⟨D,0,none⟩) hd.1 _).setCell (p:=⟨D,1,none⟩) hd.1 _).setCell (p:=⟨D,2,none⟩) hd.1 _).setCell (p:=⟨D,3,none⟩) hd.1 _).setCell (p:=⟨D,4,none⟩) hd.1 _⟩;rw [e0,e1,e2,e3];exact QlD hd.2 _ _ _ _ _
-- the image so far
def pkI (L:List Qag) (k:Nat):List Nat:=(List.range k).filter (kept L)
def pkA (m:ImgD) (k:Nat):ImgD:=⟨m.guest,m.root.map (ren m.slots),(pkI m.slots k).map (fun j=>Qeb m.slots (m.slots.getD j default)),(pkI m.slots k).map (fun j=>m.refs.getD j 0),[]⟩
def pkB (m:ImgD) (k:Nat):ImgD:={ QbP m with snaps:=(m.snaps.take k).map (Qeg m.slots) }
theorem Qjb (L:List Qag)(k:Nat):pkI L (k+1)=if kept L k=true then pkI L k ++ [k] else pkI L k:=by
 unfold pkI;rw [List.range_succ,List.filter_append]
 by_cases h:kept L k=true <;> simp [List.filter_cons,h]
theorem Qpw (m:ImgD){k:Nat}(h:kept m.slots k=false):pkA m (k+1)=pkA m k:=by
 unfold pkA;rw [Qjb,if_neg (by rw [h];decide)]
theorem Qoi (m:ImgD){k:Nat}(h:kept m.slots k=true):pkA m (k+1) = { pkA m k with slots:=(pkA m k).slots ++ [Qeb m.slots (m.slots.getD k default)],refs:=(pkA m k).refs ++ [m.refs.getD k 0] }:=by
 unfold pkA;rw [Qjb,if_pos h,List.map_append,List.map_append];rfl
theorem QoE (m:ImgD):pkA m m.slots.length=pkB m 0:=rfl
theorem QnL (m:ImgD){k:Nat}(h:k<m.snaps.length):pkB m (k+1) = { pkB m k with snaps:=(pkB m k).snaps ++ [Qeg m.slots m.snaps[k]] }:=by
 unfold pkB;rw [Qe3 _ h,List.map_append];rfl
theorem Qor (m:ImgD):pkB m m.snaps.length=QbP m:=by unfold pkB;rw [List.take_length];rfl
theorem QpX {m:ImgD}(hC:Qaq m=0):pkA m 1=⟨m.guest,m.root.map (ren m.slots),[(0,⟨#[]⟩,[])],[0],[]⟩:=by
 have hs:=Qal hC;have h1:=(Qah (Qad hs).2.1).1;have hk:=Ql0 hs;have hok:okD (m.slots.getD 0 default)=true:=by
  have z2:=(Qad hs).2.1;unfold Qap at z2;rw [if_pos (Qah (Qad hs).2.1)] at z2
  split at z2
  ·rename_i hx;exact List.all_eq_true.1 hx.1 _ (Qdi h1)
  ·simp at z2
 have hr:m.refs.getD 0 0=0:=by
  have hc:cntL m=m.refs:=by
   have hC':=hC;unfold Qaq at hC';rw [if_neg (by rw [hs];simp)] at hC'
   split at hC'
   ·simp at hC'
   ·rename_i hx;simpa using hx
  rw [←hc];rw [Qbr hs 0 h1]
  rfl
 obtain⟨⟨a,d,t⟩,hs0⟩:∃s,m.slots.getD 0 default=s:=⟨_,rfl⟩;unfold kd at hk;rw [hs0] at hok hk;have hk:a=0:=hk;subst hk;unfold okD QaZ at hok;dsimp only at hok;rw [if_pos rfl] at hok;obtain⟨h2,h3⟩:=of_decide_eq_true hok;have h3:=List.length_eq_zero_iff.1 h3;have hd:d=⟨#[]⟩:=by
  obtain⟨x⟩:=d;have:x=#[]:=Array.eq_empty_of_size_eq_zero h2;rw [this]
 subst hd h3
 show (⟨m.guest,m.root.map (ren m.slots),[Qeb m.slots (m.slots.getD 0 default)],[m.refs.getD 0 0],[]⟩:ImgD)=_
 rw [hs0,hr]
 rfl

def entK (L:List Qag) (l:List Nat):List MapEntry:=l.map (fun (k:Nat)=>{ key:=.int .i64 (k:Int),val:=.int .i64 (rnk L k:Int),born:=rnk L k })
theorem QeV {L:List Qag} : ∀ {l:List Nat} {k:Int},(∀j ∈ l,(j:Int)≠k)→∀i,Instr.findNow (.int .i64) (.int .i64 k) (entK L l) i=some none
 | [],_,_,_=>rfl
 | a :: l,k,h,i=>by
  have e:(k == (a:Int))=false:=by have:=h a List.mem_cons_self;simp;omega
  show (match Instr.sameNow (.int .i64) (.int .i64 k) (.int .i64 (a:Int)) with | some true=>_ | some false=>Instr.findNow (.int .i64) (.int .i64 k) (entK L l) (i+1) | none=>none)=_
  simp only [Instr.sameNow,if_true,e];exact QeV (fun j hj=>h j (List.mem_cons_of_mem _ hj)) (i+1)
theorem Qid {L:List Qag} : ∀ {l:List Nat} {k:Nat},k ∈ l→∀i,∃p,Instr.findNow (.int .i64) (.int .i64 (k:Int)) (entK L l) i=some (some (p,.int .i64 (rnk L k:Int)))
 | [],_,h,_=>by cases h
 | a :: l,k,h,i=>by
  by_cases e:k=a
  ·subst e;refine⟨i,?_⟩
   show (match Instr.sameNow (.int .i64) (.int .i64 (k:Int)) (.int .i64 (k:Int)) with | some true=>some (some (i,Value.int .i64 (rnk L k:Int))) | some false=>_ | none=>none)=_
   simp [Instr.sameNow]
  ·have e1:((k:Int) == (a:Int))=false:=by simp;omega
   rcases List.mem_cons.1 h with x | x
   ·exact absurd x e
   ·obtain⟨p,hp⟩:=Qid (L:=L) x (i+1);refine⟨p,?_⟩
    show (match Instr.sameNow (.int .i64) (.int .i64 (k:Int)) (.int .i64 (a:Int)) with | some true=>_ | some false=>Instr.findNow (.int .i64) (.int .i64 (k:Int)) (entK L l) (i+1) | none=>none)=_
    simp only [Instr.sameNow,if_true,e1];exact hp
theorem Qfo {L:List Qag}{k:Nat} : ((entK L ((List.range k).filter (kept L))).toArray).size=rnk L k:=by unfold entK rnk;simp
theorem Qg4 {L:List Qag}{k:Nat}(h:kept L k=true):(entK L ((List.range (k+1)).filter (kept L))).toArray=((entK L ((List.range k).filter (kept L))).toArray).push { key:=.int .i64 (k:Int),val:=.int .i64 (rnk L k:Int),born:=rnk L k }:=by
 rw [List.range_succ,List.filter_append];unfold entK;simp [h]
theorem Qli {L:List Qag}{k:Nat}(h:kept L k=false):(entK L ((List.range (k+1)).filter (kept L))).toArray=(entK L ((List.range k).filter (kept L))).toArray:=by
 rw [List.range_succ,List.filter_append];simp [h]
theorem Qd2 {L:List Qag}{k:Nat}(h:kept L k=true):rnk L (k+1)=rnk L k+1:=by
 unfold rnk;rw [List.range_succ,List.filter_append];simp [h]
theorem QeE {L:List Qag}{k:Nat}(h:kept L k=false):rnk L (k+1)=rnk L k:=by
 unfold rnk;rw [List.range_succ,List.filter_append];simp [h]
theorem Qce {W:World}{r c:Nat}{es:Array MapEntry}(h:W.heap[r]? = some (.map es c))(o:Obj):(W.alloc o).heap[r]? = some (.map es c):=
 (Below.heap_alloc W o r (szH h)).trans h
theorem QkQ (b off cap:Nat)(L:List Qag)(w:World)(h40:L.length≤40)(hlt:b<w.heap.size)(HC:Hid (∀j,(h:j<L.length)→SlAt w b (off+j*3) L[j])) :
  Calls Tryz.prog 36 #[.slice (some ⟨b,off,none⟩) L.length cap] w fun r w'=>r=.returned (.map (some w.heap.size))∧w'.heap[w.heap.size]? = some (.map ((entK L ((List.range L.length).filter (kept L))).toArray) (rnk L L.length))∧Below w.heap.size w w':=by
 have hmm:=@run_makeMap Tryz.prog;have g0:=heap_alloc_new w (.map #[] 0);have HM0:Hid ((w.alloc (.map #[] 0)).heap[w.heap.size]? = some (.map ((entK L ((List.range 0).filter (kept L))).toArray) (rnk L 0))∧Below w.heap.size w (w.alloc (.map #[] 0))):=⟨g0,bA⟩;clear g0
 go_enter Tryz.func36,Tryz.ntmps36
 go_wp2_with fail
 go_loopw [10] (fun i wr=>∃k:Nat,k≤L.length∧i=.int .i64 k∧Hid (wr.heap[w.heap.size]? = some (.map ((entK L ((List.range k).filter (kept L))).toArray) (rnk L k))∧Below w.heap.size w wr)) (fun i _=>L.length - (intOf i).toNat)
 case atStart=>exact⟨0,Nat.zero_le _,rfl,HM0⟩
 case round=>
  obtain⟨k,hk,rfl,HM⟩:=hrel
  by_cases hkl:k<L.length
  ·have hki:(k:Int)<(L.length:Int):=by omega
   obtain⟨tv,q0,q1,q2,qs⟩:=HC.out k hkl;obtain⟨⟨kk,dd,es⟩,hsk⟩:∃s,L[k]=s:=⟨_,rfl⟩;have HS:Hid (kd L k=kk):=by show kd L k=kk;rw [←Qdq hkl,hsk]
   rw [hsk] at q0 q1 qs;obtain⟨ta,tc,rfl⟩:=qs.form;obtain⟨tn,htn⟩:∃n,n=es.length:=⟨_,rfl⟩;have v0:wr.cell? ⟨b,off+k*3,none⟩=some (.int .i64 kk):=(HM.out.2.cell (p:=⟨b,off+k*3,none⟩) hlt).trans q0;have v1:wr.cell? ⟨b,off+k*3+1,none⟩=some (.string dd):=(HM.out.2.cell (p:=⟨b,off+k*3+1,none⟩) hlt).trans q1;have v2:wr.cell? ⟨b,off+k*3+1+1,none⟩=some (.slice ta tn tc):=by rw [htn];exact (HM.out.2.cell (p:=⟨b,off+k*3+1+1,none⟩) hlt).trans q2
   clear hsk htn q0 q1 q2 qs
   by_cases k0:k=0
   ·have hkp:kept L k=true:=by rw [k0];rfl
    have c0:((k:Int) == 0)=true:=by simp;omega
    clear k0
    skip
    obtain⟨W1,u1,g1,b1,z1⟩:=QhR (P:=Tryz.prog) (w:=wr.alloc (.cells #[.int .i64 kk,.string dd,.slice ta tn tc] 37)) 61 3 3 w.heap.size (rnk L k) ((entK L ((List.range k).filter (kept L))).toArray) (k:Int) (.int .i64 (rnk L k:Int)) Tryz.underlying61 Tryz.underlying3 (Qce HM.out.1 _) (QeV (L:=L) (l:=(List.range k).filter (kept L)) (k:=(k:Int)) (fun j hj=>by have:=List.mem_range.1 (List.mem_filter.1 hj).1;omega) 0) (Nat.le_refl _) (HM.out.2.alloc HM.out.2.size _);have hlen:∀ty,(Builtin.len_ #[61] ty #[.map (some w.heap.size)]).run Tryz.prog (wr.alloc (.cells #[.int .i64 kk,.string dd,.slice ta tn tc] 37))=.ok (.int .i64 (rnk L k:Int)) (wr.alloc (.cells #[.int .i64 kk,.string dd,.slice ta tn tc] 37)):=fun ty=>by
     have:=run_len_map (P:=Tryz.prog) (w:=wr.alloc (.cells #[.int .i64 kk,.string dd,.slice ta tn tc] 37)) 61 ty w.heap.size ((entK L ((List.range k).filter (kept L))).toArray) (rnk L k) (by kernel_rfl) (Qce HM.out.1 _);rw [this];unfold goInt;rw [Qfo]
    have G1:Hid (W1.heap[w.heap.size]? = some (.map ((entK L ((List.range (k+1)).filter (kept L))).toArray) (rnk L (k+1)))∧Below w.heap.size w W1):=⟨by rw [g1,Qg4 hkp,Qd2 hkp],b1⟩;clear g1 b1 z1;go_wp2_with fail;go_roundw
    case rel=>exact⟨k+1,by omega,by go_num,G1⟩
    case measure=>first | (simp [intOf];done) | (simp [intOf];omega)
   ·have c0:((k:Int) == 0)=false:=by simp;omega
    have k0i:¬(k:Int)=0:=by omega
    by_cases hz:kk=0
    ·have hkp:kept L k=false:=by unfold kept;rw [HS.out,hz];simp;omega
     have c1:(kk != 0)=false:=by simp [hz]
     have GN:Hid ((wr.alloc (.cells #[.int .i64 kk,.string dd,.slice ta tn tc] 37)).heap[w.heap.size]? = some (.map ((entK L ((List.range (k+1)).filter (kept L))).toArray) (rnk L (k+1)))∧Below w.heap.size w (wr.alloc (.cells #[.int .i64 kk,.string dd,.slice ta tn tc] 37))):=⟨by rw [Qli hkp,QeE hkp];exact Qce HM.out.1 _,HM.out.2.alloc HM.out.2.size _⟩;subst hz
     skip
     go_wp2_with fail;go_roundw
     case rel=>exact⟨k+1,by omega,by go_num,GN⟩
     case measure=>first | (simp [intOf];done) | (simp [intOf];omega)
    ·have hkp:kept L k=true:=Qdc (by rw [HS.out];exact hz);have c1:(kk != 0)=true:=by simp [hz]
     skip
     obtain⟨W1,u1,g1,b1,z1⟩:=QhR (P:=Tryz.prog) (w:=wr.alloc (.cells #[.int .i64 kk,.string dd,.slice ta tn tc] 37)) 61 3 3 w.heap.size (rnk L k) ((entK L ((List.range k).filter (kept L))).toArray) (k:Int) (.int .i64 (rnk L k:Int)) Tryz.underlying61 Tryz.underlying3 (Qce HM.out.1 _) (QeV (L:=L) (l:=(List.range k).filter (kept L)) (k:=(k:Int)) (fun j hj=>by have:=List.mem_range.1 (List.mem_filter.1 hj).1;omega) 0) (Nat.le_refl _) (HM.out.2.alloc HM.out.2.size _);have hlen:∀ty,(Builtin.len_ #[61] ty #[.map (some w.heap.size)]).run Tryz.prog (wr.alloc (.cells #[.int .i64 kk,.string dd,.slice ta tn tc] 37))=.ok (.int .i64 (rnk L k:Int)) (wr.alloc (.cells #[.int .i64 kk,.string dd,.slice ta tn tc] 37)):=fun ty=>by
      have:=run_len_map (P:=Tryz.prog) (w:=wr.alloc (.cells #[.int .i64 kk,.string dd,.slice ta tn tc] 37)) 61 ty w.heap.size ((entK L ((List.range k).filter (kept L))).toArray) (rnk L k) (by kernel_rfl) (Qce HM.out.1 _);rw [this];unfold goInt;rw [Qfo]
     have G1:Hid (W1.heap[w.heap.size]? = some (.map ((entK L ((List.range (k+1)).filter (kept L))).toArray) (rnk L (k+1)))∧Below w.heap.size w W1):=⟨by rw [g1,Qg4 hkp,Qd2 hkp],b1⟩;clear g1 b1 z1;go_wp2_with fail;go_roundw
     case rel=>exact⟨k+1,by omega,by go_num,G1⟩
     case measure=>first | (simp [intOf];done) | (simp [intOf];omega)
  ·have e:k=L.length:=by omega
   subst e;go_wp2_with fail;go_ret;exact⟨rfl,HM.out.1,HM.out.2⟩
theorem Qkq {w:World}{v:Value}{L:List Qag}(h:QaQ w v L)(hE:Qap L=0) :
  Calls Tryz.prog 36 #[v] w fun r w'=>r=.returned (.map (some w.heap.size))∧w'.heap[w.heap.size]? = some (.map ((entK L ((List.range L.length).filter (kept L))).toArray) (rnk L L.length))∧Below w.heap.size w w':=by
 obtain⟨b,off,cap,rfl,_,hlt,hc⟩:=h.open (Qah hE).1;exact QkQ b off cap L w (Qah hE).2 hlt hc

theorem QiF {a b c:World}{row:Option Nat}(h:a.grownBy b row)(k:b.grownBy c row):a.grownBy c row:=
 ⟨k.os.trans h.os,k.tape.trans h.tape,k.output.trans h.output,Nat.le_trans h.size k.size,fun q hq hr=>(k.block q (Nat.lt_of_lt_of_le hq h.size) hr).trans (h.block q hq hr)⟩
def NumB (W:World) (bm r:Nat) (L:List Qag):Prop:=W.heap[bm]? = some (.cells #[.map (some r)] 61)∧W.heap[r]? = some (.map ((entK L ((List.range L.length).filter (kept L))).toArray) (rnk L L.length))
theorem Qo8 {W:World}{bm r:Nat}{L:List Qag}(h:NumB W bm r L)(e:Int){x:Int}(hx:ren L e=x) :
  Calls Tryz.prog 39 #[.int .i64 e,.pointer (some ⟨bm,0,none⟩)] W fun q W'=>q=.returned (.int .i64 x)∧W'=W:=by
 have c0:W.cell? ⟨bm,0,none⟩=some (.map (some r)):=by simp [World.cell?,h.1]
 subst hx
 by_cases hk:0≤e∧e.toNat<L.length∧kept L e.toNat=true
 ·obtain⟨k,rfl⟩:=Int.eq_ofNat_of_zero_le hk.1;rw [Int.toNat_natCast] at hk;obtain⟨p,hp⟩:=Qid (L:=L) (l:=(List.range L.length).filter (kept L)) (k:=k) (List.mem_filter.2 ⟨List.mem_range.2 hk.2.1,hk.2.2⟩) 0;have hl:=Qd4 (P:=Tryz.prog) (w:=W) 61 3 3 r (rnk L L.length) ((entK L ((List.range L.length).filter (kept L))).toArray) (k:Int) (.int .i64 (rnk L k:Int)) p Tryz.underlying61 Tryz.underlying3 h.2 (by simpa using hp);rw [Qch hk.2.1 hk.2.2];clear h hk hp
  go_enter Tryz.func39,Tryz.ntmps39
  go_wp2_with fail;go_ret;exact⟨rfl,rfl⟩
 ·have hn:∀j ∈ (List.range L.length).filter (kept L),(j:Int)≠e:=fun j hj x=>by
   obtain⟨h1,h2⟩:=List.mem_filter.1 hj;have h1:=List.mem_range.1 h1;subst x;exact hk ⟨Int.natCast_nonneg _,by rw [Int.toNat_natCast];exact h1,by rw [Int.toNat_natCast];exact h2⟩
  have hl:=Qe1 (P:=Tryz.prog) (w:=W) 61 3 3 r (rnk L L.length) ((entK L ((List.range L.length).filter (kept L))).toArray) e (.int .i64 0) Tryz.underlying61 Tryz.underlying3 h.2 (by simpa using QeV (L:=L) hn 0) (by kernel_rfl);have e1:ren L e=e:=by unfold ren;rw [if_neg hk]
  rw [e1];clear h hk hn e1
  go_enter Tryz.func39,Tryz.ntmps39
  go_wp2_with fail;go_ret;exact⟨rfl,rfl⟩
def QfB (f:Int→Int) (k:Nat) (xs:List Int):List Int:=(xs.take k).map f ++ xs.drop k
theorem Qlo {f:Int→Int}{k:Nat}{xs:List Int}(hk:k<xs.length):(QfB f k xs)[k]? = some xs[k]:=by
 have ht:((xs.take k).map f).length=k:=by rw [List.length_map,List.length_take];omega
 unfold QfB;rw [List.getElem?_append_right (by omega),ht,Nat.sub_self,List.getElem?_drop,Nat.add_zero,List.getElem?_eq_getElem hk]
theorem Qk3 {f:Int→Int}{k:Nat}{xs:List Int}(hk:k<xs.length):QfB f (k+1) xs=(QfB f k xs).set k (f xs[k]):=by
 have ht:((xs.take k).map f).length=k:=by rw [List.length_map,List.length_take];omega
 unfold QfB;rw [List.set_append,ht,if_neg (Nat.lt_irrefl k),Nat.sub_self,List.drop_eq_getElem_cons hk,List.set_cons_zero,← List.take_append_getElem hk,List.map_append,List.append_assoc]
 rfl
theorem QlC (f:Int→Int)(xs:List Int):QfB f xs.length xs=xs.map f:=by unfold QfB;rw [List.take_length,List.drop_length,List.append_nil]
theorem Qkh (g cap bm r B:Nat)(L:List Qag)(xs:List Int)(W:World)(hm:xs.length≤1000)(HR:Hid (W.ownsRow B 3 1 (.slice (some ⟨g,0,none⟩) xs.length cap) xs.length (ints xs)))(HN:Hid (NumB W bm r L∧bm≠g∧r≠g)) :
  Calls Tryz.prog 76 #[.slice (some ⟨g,0,none⟩) xs.length cap,.func (.func 39) #[] #[.pointer (some ⟨bm,0,none⟩)]] W fun q W'=>q=.returned (.tuple #[])∧W'.ownsRow B 3 1 (.slice (some ⟨g,0,none⟩) xs.length cap) xs.length (ints (xs.map (ren L)))∧W.grownBy W' (some g):=by
 have hN:∀ (args:Array Value) (w:World),(callFunc 39 args).run Tryz.prog w=.ok (.enter 39 args) w:=enters_of Tryz.func39 (by kernel_rfl) rfl;have HG0:Hid (W.grownBy W (some g)):=⟨rfl,rfl,rfl,Nat.le_refl _,fun _ _ _=>rfl⟩
 go_enter Tryz.func76,Tryz.ntmps76
 go_wp2_with fail
 go_loopw [8] (fun i wr=>∃k:Nat,k≤xs.length∧i=.int .i64 k∧Hid (wr.ownsRow B 3 1 (.slice (some ⟨g,0,none⟩) xs.length cap) xs.length (ints (QfB (ren L) k xs))∧W.grownBy wr (some g))) (fun i _=>xs.length - (intOf i).toNat)
 case atStart=>exact⟨0,Nat.zero_le _,rfl,HR,HG0⟩
 case round=>
  obtain⟨k,hk,rfl,HC⟩:=hrel
  by_cases hkl:k<xs.length
  ·have hki:(k:Int)<(xs.length:Int):=by omega
   obtain⟨x,hx⟩:∃x,xs[k]=x:=⟨_,rfl⟩;have c0:wr.cell? ⟨g,k,none⟩=some (.int .i64 x):=by
    have:=HC.out.1.cellAt k (by omega);rw [this]
    show (List.map (Value.int .i64) (QfB (ren L) k xs))[k]? = _
    rw [List.getElem?_map,Qlo hkl,hx];rfl
   have hf:wr.frozen? ⟨g,k,none⟩=false:=HC.out.1.frozenAt k;have hlt:=(Qc0 HC.out.1).2.1;have hgW:=(Qc0 HR.out).2.1;have hNB:NumB wr bm r L:=⟨(HC.out.2.block bm (Array.getElem?_eq_some_iff.1 HN.out.1.1).1 (by intro e;injection e with e;exact HN.out.2.1 e)).trans HN.out.1.1,(HC.out.2.block r (Array.getElem?_eq_some_iff.1 HN.out.1.2).1 (by intro e;injection e with e;exact HN.out.2.2 e)).trans HN.out.1.2⟩;have hcall:=Qo8 hNB x rfl;obtain⟨y,hy⟩:∃y,y=ren L x:=⟨_,rfl⟩;have hst:=HC.out.1.stored k (.int .i64 y);have HNx:Hid ((wr.setCell ⟨g,k,none⟩ (.int .i64 y)).ownsRow B 3 1 (.slice (some ⟨g,0,none⟩) xs.length cap) xs.length (ints (QfB (ren L) (k+1) xs))∧W.grownBy (wr.setCell ⟨g,k,none⟩ (.int .i64 y)) (some g)):=⟨by rw [Qk3 hkl,Qdg,hx,← hy];exact hst.1,QiF HC.out.2 hst.2⟩;rw [←hy] at hcall;clear hx hy hst hNB hgW hlt;go_wp2_with fail;refine hcall.mono ?_;rintro e' w' ⟨rfl,hw⟩;rw [hw];clear hw;dsimp only;go_wp2_with fail;go_roundw
   case rel=>exact⟨k+1,by omega,by go_num,HNx⟩
   case measure=>first | (simp [intOf];done) | (simp [intOf];omega)
  ·have e:k=xs.length:=by omega
   subst e;go_wp2_with fail
   go_end0
   have:=HC.out;rw [QlC] at this;exact⟨rfl,this.1,this.2⟩
theorem Qeh {g':Option Nat}{bm r B:Nat}{L:List Qag}{xs:List Int}{v:Value}{W:World}(hm:xs.length≤1000)(hR:W.ownsRow B 3 1 v xs.length (ints xs))(hN:NumB W bm r L)(h1:v.ownBlock≠some bm)(h2:v.ownBlock≠some r) :
  Calls Tryz.prog 76 #[v,.func (.func 39) #[] #[.pointer (some ⟨bm,0,none⟩)]] W fun q W'=>q=.returned (.tuple #[])∧W'.ownsRow B 3 1 v xs.length (ints (xs.map (ren L)))∧W.grownBy W' v.ownBlock:=by
 rcases QaL hR with ⟨rfl,hn⟩ | ⟨g,cap,rfl,_⟩
 ·have hx:xs=[]:=List.eq_nil_of_length_eq_zero hn;subst hx;have HR:Hid (W.ownsRow B 3 1 (nl) 0 (ints [])):=hR;clear hR hN h1 h2
  go_enter Tryz.func76,Tryz.ntmps76
  go_wp2_with fail
  go_loopw [8] (fun i wr=>i=.int .i64 0∧wr=W) (fun _ _=>0)
  case atStart=>exact⟨rfl,rfl⟩
  case round=>
   obtain⟨rfl,rfl⟩:=hrel;go_wp2_with fail
   go_end0
   exact⟨rfl,HR.out,⟨rfl,rfl,rfl,Nat.le_refl _,fun _ _ _=>rfl⟩⟩
 ·exact Qkh g cap bm r B L xs W hm hR ⟨hN,fun e=>h1 (by rw [e];rfl),fun e=>h2 (by rw [e];rfl)⟩

theorem OI.turn {W W':World}{B:Nat}{val:Nm→Value}{m m':ImgD}(h:OI W B val m){a:Nm}(ha:Live m a)(hrow:W'.ownsRow B (rowT a) (rowS a) (val a) (rowN m' a) (rowV m' val a))(hg:W.grownBy W' (val a).ownBlock)
  (hlive:∀b,Live m' b↔Live m b) (hsame:∀b,Live m b→b≠a→rowN m' b=rowN m b∧rowV m' val b=rowV m val b):OI W' B val m':=by
 refine⟨fun b hb=>?_,fun b c hb hc=>h.apart b c ((hlive b).1 hb) ((hlive c).1 hc)⟩;have hb:=(hlive b).1 hb
 by_cases e:b=a
 ·subst e;exact hrow
 ·rw [(hsame b hb e).1,(hsame b hb e).2];refine (h.row b hb).kept hg ?_
  cases eq:(val b).ownBlock with
  | none=>exact .inl rfl
  | some g=>exact .inr (fun x=>h.apart b a hb ha e g eq x.symm)
theorem DTo.turn {w W W':World}{B D:Nat}{val:Nm→Value}{m0 m m':ImgD}(h:DTo w W B D m0 val nilV m val)(hB:B≤w.heap.size)(hlm:∀b,Live m b↔Live m0 b){a:Nm}(ha:Live m a)(hrow:W'.ownsRow B (rowT a) (rowS a) (val a) (rowN m' a) (rowV m' val a))(hg:W.grownBy W' (val a).ownBlock)
  (hlive:∀b,Live m' b↔Live m b) (hguest:m'.guest=m.guest) (hsame:∀b,Live m b→b≠a→rowN m' b=rowN m b∧rowV m' val b=rowV m val b):DTo w W' B D m0 val nilV m' val:=by
 have hbel:Below B W W':=Below.grown (Below.refl _ _) hg (Nat.le_trans hB h.bel.size) (fun q e=>((h.dk.own.row a ha).lt q e).1);refine⟨⟨h.dk.own.turn ha hrow hg hlive hsame,?_,h.dk.ge,fun b hb=>h.dk.far b ((hlive b).1 hb)⟩,h.bel.trans hbel,fun q hq hD hev hm=>?_,fun q hq hev hm b hb=>h.src q hq hev hm b ((hlive b).1 hb)⟩
 ·rw [hguest];exact (hg.block D h.dk.lt (fun e=>h.dk.far a ha e.symm)).trans h.dk.box
 ·exact (hg.block q (Nat.lt_of_lt_of_le hq h.bel.size) (fun e=>hm a ((hlm a).1 ha) e.symm)).trans (h.keep q hq hD hev hm)
def rnS (L:List Qag) (j:Nat) (S:List Qav):List Qav:=(S.take j).map (Qeg L) ++ S.drop j
def rnL (L:List Qag) (i:Nat) (K:List Qag):List Qag:=(K.take i).map (Qeb L) ++ K.drop i
def rnI (L:List Qag) (j i:Nat) (g:ImgD):ImgD:={ g with root:=g.root.map (ren L),snaps:=rnS L j g.snaps,slots:=rnL L i g.slots }
theorem Qct (L:List Qag)(j:Nat)(S:List Qav):(rnS L j S).length=S.length:=by unfold rnS;simp;omega
theorem Qcv (L:List Qag)(i:Nat)(K:List Qag):(rnL L i K).length=K.length:=by unfold rnL;simp;omega
theorem QdD {L:List Qag}{j k:Nat}{S:List Qav}(hk:k<S.length):(rnS L j S).getD k default=if k<j then Qeg L (S.getD k default) else S.getD k default:=by
 have ht:((S.take j).map (Qeg L)).length=min j S.length:=by rw [List.length_map,List.length_take]
 unfold rnS;rw [List.getD_eq_getElem?_getD,List.getElem?_append,ht]
 by_cases h:k<j
 ·rw [if_pos (by omega),if_pos h,List.getElem?_map,List.getElem?_take,if_pos h,List.getElem?_eq_getElem hk,List.getD_eq_getElem?_getD,List.getElem?_eq_getElem hk];rfl
 ·rw [if_neg (by omega),if_neg h,List.getElem?_drop,List.getD_eq_getElem?_getD];congr 2;omega
theorem QdK {L:List Qag}{i k:Nat}{K:List Qag}(hk:k<K.length):(rnL L i K).getD k default=if k<i then Qeb L (K.getD k default) else K.getD k default:=by
 have ht:((K.take i).map (Qeb L)).length=min i K.length:=by rw [List.length_map,List.length_take]
 unfold rnL;rw [List.getD_eq_getElem?_getD,List.getElem?_append,ht]
 by_cases h:k<i
 ·rw [if_pos (by omega),if_pos h,List.getElem?_map,List.getElem?_take,if_pos h,List.getElem?_eq_getElem hk,List.getD_eq_getElem?_getD,List.getElem?_eq_getElem hk];rfl
 ·rw [if_neg (by omega),if_neg h,List.getElem?_drop,List.getD_eq_getElem?_getD];congr 2;omega
theorem Qbw (L:List Qag)(j i:Nat)(g:ImgD)(b:Nm):Live (rnI L j i g) b↔Live g b:=Qcb (m:=g) (m':=rnI L j i g) (Qcv _ _ _) (Qct _ _ _) b
theorem QgL {L:List Qag}{j:Nat}{S:List Qav}{qv:Nat→Value} : QaY (rnS L j S) qv=QaY S qv:=by
 unfold QaY;rw [Qct];refine congrArg List.flatten (List.map_congr_left fun k hk=>?_);rw [QdD (List.mem_range.1 hk)]
 split <;> rfl
theorem QgK {L:List Qag}{i:Nat}{K:List Qag}{tv:Nat→Value} : QaE (rnL L i K) tv=QaE K tv:=by
 unfold QaE;rw [Qcv];refine congrArg List.flatten (List.map_congr_left fun k hk=>?_);rw [QdK (List.mem_range.1 hk)]
 split <;> rfl
theorem QoW {L:List Qag}{j i:Nat}{g:ImgD}{val:Nm→Value}(b:Nm)(hb:Live g b)(hne:b≠.sr j):rowN (rnI L (j+1) i g) b=rowN (rnI L j i g) b∧rowV (rnI L (j+1) i g) val b=rowV (rnI L j i g) val b:=by
 rcases hb.cases with rfl | rfl | rfl | rfl | ⟨k,rfl,hk⟩ | ⟨k,rfl,hk⟩
 ·exact⟨rfl,rfl⟩
 ·exact⟨rfl,rfl⟩
 ·exact⟨rfl,rfl⟩
 ·refine⟨?_,?_⟩
  ·show (rnS L (j+1) g.snaps).length=(rnS L j g.snaps).length;rw [Qct,Qct]
  ·show QaY (rnS L (j+1) g.snaps) _=QaY (rnS L j g.snaps) _;rw [QgL,QgL]
 ·exact⟨rfl,rfl⟩
 ·have hkj:k≠j:=fun e=>hne (by rw [e])
  have e:(rnS L (j+1) g.snaps).getD k default=(rnS L j g.snaps).getD k default:=by
   rw [QdD hk,QdD hk]
   by_cases h:k<j
   ·rw [if_pos (by omega),if_pos h]
   ·rw [if_neg (by omega),if_neg h]
  exact⟨by show ((rnS L (j+1) g.snaps).getD k default).2.2.length=((rnS L j g.snaps).getD k default).2.2.length;rw [e],by show ints ((rnS L (j+1) g.snaps).getD k default).2.2=ints ((rnS L j g.snaps).getD k default).2.2;rw [e]⟩
theorem QoG {L:List Qag}{j i:Nat}{g:ImgD}{val:Nm→Value}(b:Nm)(hb:Live g b)(hne:b≠.tab i):rowN (rnI L j (i+1) g) b=rowN (rnI L j i g) b∧rowV (rnI L j (i+1) g) val b=rowV (rnI L j i g) val b:=by
 rcases hb.cases with rfl | rfl | rfl | rfl | ⟨k,rfl,hk⟩ | ⟨k,rfl,hk⟩
 ·exact⟨rfl,rfl⟩
 ·refine⟨?_,?_⟩
  ·show (rnL L (i+1) g.slots).length=(rnL L i g.slots).length;rw [Qcv,Qcv]
  ·show QaE (rnL L (i+1) g.slots) _=QaE (rnL L i g.slots) _;rw [QgK,QgK]
 ·exact⟨rfl,rfl⟩
 ·exact⟨rfl,rfl⟩
 ·have hki:k≠i:=fun e=>hne (by rw [e])
  have e:(rnL L (i+1) g.slots).getD k default=(rnL L i g.slots).getD k default:=by
   rw [QdK hk,QdK hk]
   by_cases h:k<i
   ·rw [if_pos (by omega),if_pos h]
   ·rw [if_neg (by omega),if_neg h]
  exact⟨by show ((rnL L (i+1) g.slots).getD k default).2.2.length=((rnL L i g.slots).getD k default).2.2.length;rw [e],by show ints ((rnL L (i+1) g.slots).getD k default).2.2=ints ((rnL L i g.slots).getD k default).2.2;rw [e]⟩
 ·exact⟨rfl,rfl⟩
structure RnR (W wr:World) (B D bm r:Nat) (L:List Qag) (g m:ImgD) (val:Nm→Value):Prop where
 dto:DTo W wr B D g val nilV m val
 num:NumB wr bm r L
theorem NumB.grown {W W':World}{bm r:Nat}{L:List Qag}{o:Option Nat}(h:NumB W bm r L)(hg:W.grownBy W' o)(h1:o≠some bm)(h2:o≠some r):NumB W' bm r L:=
 ⟨(hg.block bm (Array.getElem?_eq_some_iff.1 h.1).1 (fun e=>h1 e.symm)).trans h.1,(hg.block r (Array.getElem?_eq_some_iff.1 h.2).1 (fun e=>h2 e.symm)).trans h.2⟩
theorem NumB.below {W W':World}{bm r:Nat}{L:List Qag}(h:NumB W bm r L)(hb:Below W.heap.size W W'):NumB W' bm r L:=
 ⟨(hb.block bm (Array.getElem?_eq_some_iff.1 h.1).1).trans h.1,(hb.block r (Array.getElem?_eq_some_iff.1 h.2).1).trans h.2⟩
theorem RnR.alloc {W wr:World}{B D bm r:Nat}{L:List Qag}{g m:ImgD}{val:Nm→Value}(h:RnR W wr B D bm r L g m val)(hB:B≤W.heap.size)(o:Obj):RnR W (wr.alloc o) B D bm r L g m val:=
 ⟨h.dto.alloc hB o,h.num.below ((Below.refl _ _).alloc (Nat.le_refl _) o)⟩
end Go.Proofs.YtehleeibgkpjmagGreat
