/- Texts joined: OxC, SlotRef, TbdI, TbdJ, OxT, PutI, WoA, WoB, WoC, WoD. -/
import Derived.Test.YtehleeibgkpjmafGreatMoveTellsJ12
import Derived.Test.YtehleeibgkpjmafGreatMoveTellsJ5
import Derived.Test.YtehleeibgkpjmafGreatMoveTellsJ4
import Derived.Test.YtehleeibgkpjmafGreatMoveTellsJ3
import Derived.Test.YtehleeibgkpjmafGreatMoveTellsJ13
import Derived.Test.YtehleeibgkpjmafGreatMoveTellsJ10
import Derived.Test.YtehleeibgkpjmafGreatMoveTellsJ1
set_option linter.unusedVariables false
set_option linter.unusedSimpArgs false
namespace Go.Proofs.YtehleeibgkpjmafGreat
open Go.RowKit Go.Shelf
set_option maxRecDepth 20000
set_option linter.unusedVariables false
theorem liveX_frT {m:ImgD}{k:Nat}{a:Nm}(h:LiveX (frT m k) a):LiveX m a:=by
 rcases h.cases with rfl | rfl | rfl | rfl | ⟨j,rfl,hj,hn⟩ | ⟨j,rfl,hj⟩
 ·exact LiveX.root m
 ·exact LiveX.slots m
 ·exact LiveX.refs m
 ·exact LiveX.snaps m
 ·rw [frT_length] at hj
  refine LiveX.tab ⟨hj,fun e=>hn ?_⟩
  show ((frT m k).slots.getD j default).2.2=[]
  rw [frT_get m k hj]
  split
  ·rfl
  ·exact e
 ·exact LiveX.sr hj
theorem liveX_counted {m:ImgD}{a:Nm}(h:LiveX (countedD m) a):LiveX m a:=by
 rw [←frT_end] at h;exact liveX_frT h
structure CtX (w wr:World) (B:Nat) (m:ImgD) (val:Nm→Value) (k:Nat):Prop where
 own:∃vk,OX wr B vk (frT m k)∧vk .root=val .root∧vk .slots=val .slots∧vk .refs=.slice (some ⟨w.heap.size+4,0,none⟩) m.slots.length m.slots.length∧vk .snaps=val .snaps∧(∀a,LiveX m a→a≠.refs→∀q,q<w.heap.size+2→(∀b,LiveX m b→(val b).ownBlock≠some q)→(vk a).ownBlock≠some q)
 box:wr.heap[w.heap.size]? = some (.cells #[.int .i64 m.guest,val .root,val .slots,.slice (some ⟨w.heap.size+4,0,none⟩) m.slots.length m.slots.length,val .snaps] 27)
 res:wr.heap[w.heap.size+1]? = some (.cells #[.int .i64 0,.slice none 0 0,.slice none 0 0,.slice none 0 0,.slice none 0 0] 27)
 bel:Below B w wr
 kep:KeepX w wr m val
set_option maxHeartbeats 4000000 in
theorem countedX_at (m:ImgD)(ra:Option Addr)(rn rc:Nat)(g sc:Nat)(fa:Option Addr)(fn fc:Nat)(na:Option Addr)(nn nc:Nat)(B:Nat)(val:Nm→Value)(w:World)(hO:OX w B val m)(e0:val .root=.slice ra rn rc)(e1:val .slots=.slice (some ⟨g,0,none⟩) m.slots.length sc)(e3:val .snaps=.slice na nn nc)(hB:B≤w.heap.size)(hE:shapeE { m with refs:=rfZ m.slots } = 0) :
  Calls Tryz.prog 68 #[.agg #[.int .i64 m.guest,.slice ra rn rc,.slice (some ⟨g,0,none⟩) m.slots.length sc,.slice fa fn fc,.slice na nn nc]] w fun r w'=>∃val',r=.returned (imgV m.guest val')∧OX w' B val' (countedD m)∧Below B w w'∧KeepX w w' m val∧SrcX w m val (.slice none 0 0) (countedD m) val':=by
 have m0:((w.alloc (.cells #[.int .i64 m.guest,.slice ra rn rc,.slice (some ⟨g,0,none⟩) m.slots.length sc,.slice fa fn fc,.slice na nn nc] 27)).alloc (.cells #[.int .i64 0,.slice none 0 0,.slice none 0 0,.slice none 0 0,.slice none 0 0] 27)).heap[w.heap.size]? = some (.cells #[.int .i64 m.guest,.slice ra rn rc,.slice (some ⟨g,0,none⟩) m.slots.length sc,.slice fa fn fc,.slice na nn nc] 27):=cells_alloc (World.alloc_heap_new _ _) _
 have m2:((w.alloc (.cells #[.int .i64 m.guest,.slice ra rn rc,.slice (some ⟨g,0,none⟩) m.slots.length sc,.slice fa fn fc,.slice na nn nc] 27)).alloc (.cells #[.int .i64 0,.slice none 0 0,.slice none 0 0,.slice none 0 0,.slice none 0 0] 27)).heap[w.heap.size+1]? = some (.cells #[.int .i64 0,.slice none 0 0,.slice none 0 0,.slice none 0 0,.slice none 0 0] 27):=by have:=World.alloc_heap_new (w.alloc (.cells #[.int .i64 m.guest,.slice ra rn rc,.slice (some ⟨g,0,none⟩) m.slots.length sc,.slice fa fn fc,.slice na nn nc] 27)) (.cells #[.int .i64 0,.slice none 0 0,.slice none 0 0,.slice none 0 0,.slice none 0 0] 27);simpa using this
 obtain⟨c0,c1,c2,c3,c4⟩:=five m0
 have f3:=cells_frozen m0 3
 have h40:m.slots.length≤40:=(slotsE_parts (shapeE_zero hE).2.1).2
 have h1s:1≤m.slots.length:=(slotsE_parts (shapeE_zero hE).2.1).1
 have hmk:=mk_ints m.slots.length h40
 go_enter Tryz.func68,Tryz.ntmps68
 have hz0:((w.alloc (.cells #[.int .i64 m.guest,.slice ra rn rc,.slice (some ⟨g,0,none⟩) m.slots.length sc,.slice (some ⟨w.heap.size+1+1,0,none⟩) m.slots.length m.slots.length,.slice na nn nc] 27)).alloc (.cells #[.int .i64 0,.slice none 0 0,.slice none 0 0,.slice none 0 0,.slice none 0 0] 27)).heap.size=w.heap.size+1+1:=by simp
 have hz1:(((w.alloc (.cells #[.int .i64 m.guest,.slice ra rn rc,.slice (some ⟨g,0,none⟩) m.slots.length sc,.slice (some ⟨w.heap.size+1+1,0,none⟩) m.slots.length m.slots.length,.slice na nn nc] 27)).alloc (.cells #[.int .i64 0,.slice none 0 0,.slice none 0 0,.slice none 0 0,.slice none 0 0] 27)).alloc (.cells (Array.replicate m.slots.length (.int .i64 0)) 3)).heap.size=w.heap.size+3:=by simp
 have hlz:(rfZ m.slots).length=m.slots.length:=by simp [rfZ]
 have hAr:Array.replicate m.slots.length (Value.int .i64 0)=(ints (rfZ m.slots)).toArray:=by simp [ints,rfZ]
 have hrow:(((w.alloc (.cells #[.int .i64 m.guest,.slice ra rn rc,.slice (some ⟨g,0,none⟩) m.slots.length sc,.slice (some ⟨w.heap.size+1+1,0,none⟩) m.slots.length m.slots.length,.slice na nn nc] 27)).alloc (.cells #[.int .i64 0,.slice none 0 0,.slice none 0 0,.slice none 0 0,.slice none 0 0] 27)).alloc (.cells (Array.replicate m.slots.length (.int .i64 0)) 3)).ownsRow B 3 1 (.slice (some ⟨w.heap.size+1+1,0,none⟩) m.slots.length m.slots.length) (rfZ m.slots).length (ints (rfZ m.slots)):=by
  have:=new_row ((w.alloc (.cells #[.int .i64 m.guest,.slice ra rn rc,.slice (some ⟨g,0,none⟩) m.slots.length sc,.slice (some ⟨w.heap.size+1+1,0,none⟩) m.slots.length m.slots.length,.slice na nn nc] 27)).alloc (.cells #[.int .i64 0,.slice none 0 0,.slice none 0 0,.slice none 0 0,.slice none 0 0] 27)) (rfZ m.slots) (by rw [hlz];omega) (B:=B) (by rw [hz0];omega)
  rw [hz0,hlz] at this
  rw [hAr,hlz]
  exact this
 have hA0:OX ((w.alloc (.cells #[.int .i64 m.guest,.slice ra rn rc,.slice (some ⟨g,0,none⟩) m.slots.length sc,.slice (some ⟨w.heap.size+1+1,0,none⟩) m.slots.length m.slots.length,.slice na nn nc] 27)).alloc (.cells #[.int .i64 0,.slice none 0 0,.slice none 0 0,.slice none 0 0,.slice none 0 0] 27)) B val m:=(hO.alloc _).alloc _
 have hZ:=(hA0.alloc (.cells (Array.replicate m.slots.length (.int .i64 0)) 3)).swapRefs hrow (farX_new hA0 .refs (fun q e=>by cases e;rw [hz0];exact Nat.le_refl _))
 have hI:=hZ.img
 have hcall:=countsOf_is hI hE
 have eI:imgV m.guest (upd val .refs (.slice (some ⟨w.heap.size+1+1,0,none⟩) m.slots.length m.slots.length))=.agg #[.int .i64 m.guest,.slice ra rn rc,.slice (some ⟨g,0,none⟩) m.slots.length sc,.slice (some ⟨w.heap.size+1+1,0,none⟩) m.slots.length m.slots.length,.slice na nn nc]:=by
  unfold imgV
  rw [upd_same,upd_other _ _ (by intro x;cases x),upd_other _ _ (by intro x;cases x),upd_other _ _ (by intro x;cases x),e0,e1,e3]
 have hcall:Calls Tryz.prog 46 #[.agg #[.int .i64 m.guest,.slice ra rn rc,.slice (some ⟨g,0,none⟩) m.slots.length sc,.slice (some ⟨w.heap.size+1+1,0,none⟩) m.slots.length m.slots.length,.slice na nn nc]] (((w.alloc (.cells #[.int .i64 m.guest,.slice ra rn rc,.slice (some ⟨g,0,none⟩) m.slots.length sc,.slice (some ⟨w.heap.size+1+1,0,none⟩) m.slots.length m.slots.length,.slice na nn nc] 27)).alloc (.cells #[.int .i64 0,.slice none 0 0,.slice none 0 0,.slice none 0 0,.slice none 0 0] 27)).alloc (.cells (Array.replicate m.slots.length (.int .i64 0)) 3)) fun r w'=>(r=.returned (.slice (some ⟨w.heap.size+4,0,none⟩) m.slots.length m.slots.length)∧Hid (LAt w' (w.heap.size+4) (cntL m)))∧Hid (Below (w.heap.size+3) (((w.alloc (.cells #[.int .i64 m.guest,.slice ra rn rc,.slice (some ⟨g,0,none⟩) m.slots.length sc,.slice (some ⟨w.heap.size+1+1,0,none⟩) m.slots.length m.slots.length,.slice na nn nc] 27)).alloc (.cells #[.int .i64 0,.slice none 0 0,.slice none 0 0,.slice none 0 0,.slice none 0 0] 27)).alloc (.cells (Array.replicate m.slots.length (.int .i64 0)) 3)) w'):=by
  have h:=hcall
  rw [hz1,show imgV ({ m with refs:=rfZ m.slots } : ImgD).guest (upd val .refs (.slice (some ⟨w.heap.size+1+1,0,none⟩) m.slots.length m.slots.length))=.agg #[.int .i64 m.guest,.slice ra rn rc,.slice (some ⟨g,0,none⟩) m.slots.length sc,.slice (some ⟨w.heap.size+1+1,0,none⟩) m.slots.length m.slots.length,.slice na nn nc] from eI] at h
  exact h
 have p0:(((w.alloc (.cells #[.int .i64 m.guest,.slice ra rn rc,.slice (some ⟨g,0,none⟩) m.slots.length sc,.slice (some ⟨w.heap.size+1+1,0,none⟩) m.slots.length m.slots.length,.slice na nn nc] 27)).alloc (.cells #[.int .i64 0,.slice none 0 0,.slice none 0 0,.slice none 0 0,.slice none 0 0] 27)).alloc (.cells (Array.replicate m.slots.length (.int .i64 0)) 3)).heap[w.heap.size]? = some (.cells #[.int .i64 m.guest,.slice ra rn rc,.slice (some ⟨g,0,none⟩) m.slots.length sc,.slice (some ⟨w.heap.size+1+1,0,none⟩) m.slots.length m.slots.length,.slice na nn nc] 27):=cells_alloc (cells_alloc (World.alloc_heap_new _ _) _) _
 have p1:(((w.alloc (.cells #[.int .i64 m.guest,.slice ra rn rc,.slice (some ⟨g,0,none⟩) m.slots.length sc,.slice (some ⟨w.heap.size+1+1,0,none⟩) m.slots.length m.slots.length,.slice na nn nc] 27)).alloc (.cells #[.int .i64 0,.slice none 0 0,.slice none 0 0,.slice none 0 0,.slice none 0 0] 27)).alloc (.cells (Array.replicate m.slots.length (.int .i64 0)) 3)).heap[w.heap.size+1]? = some (.cells #[.int .i64 0,.slice none 0 0,.slice none 0 0,.slice none 0 0,.slice none 0 0] 27):=cells_alloc (by have:=World.alloc_heap_new (w.alloc (.cells #[.int .i64 m.guest,.slice ra rn rc,.slice (some ⟨g,0,none⟩) m.slots.length sc,.slice (some ⟨w.heap.size+1+1,0,none⟩) m.slots.length m.slots.length,.slice na nn nc] 27)) (.cells #[.int .i64 0,.slice none 0 0,.slice none 0 0,.slice none 0 0,.slice none 0 0] 27);simpa using this) _
 have hfarO:∀a,LiveX m a→(val a).ownBlock≠some w.heap.size∧(val a).ownBlock≠some (w.heap.size+1):=fun a ha=>⟨hO.lt (Nat.le_refl _) a ha,hO.lt (by omega) a ha⟩
 have hBV:Below B w (((w.alloc (.cells #[.int .i64 m.guest,.slice ra rn rc,.slice (some ⟨g,0,none⟩) m.slots.length sc,.slice (some ⟨w.heap.size+1+1,0,none⟩) m.slots.length m.slots.length,.slice na nn nc] 27)).alloc (.cells #[.int .i64 0,.slice none 0 0,.slice none 0 0,.slice none 0 0,.slice none 0 0] 27)).alloc (.cells (Array.replicate m.slots.length (.int .i64 0)) 3)):=(((Below.refl B w).alloc hB _).alloc (by simp <;> omega) _).alloc (by simp <;> omega) _
 have hAV:OX (((w.alloc (.cells #[.int .i64 m.guest,.slice ra rn rc,.slice (some ⟨g,0,none⟩) m.slots.length sc,.slice (some ⟨w.heap.size+1+1,0,none⟩) m.slots.length m.slots.length,.slice na nn nc] 27)).alloc (.cells #[.int .i64 0,.slice none 0 0,.slice none 0 0,.slice none 0 0,.slice none 0 0] 27)).alloc (.cells (Array.replicate m.slots.length (.int .i64 0)) 3)) B val m:=hA0.alloc _
 have hlc:(cntL m).length=m.slots.length:=cntL_length m
 clear hI hZ hrow hAr
 go_wp2_with (go_at_call 46;refine hcall.mono ?_;rintro e w3 ⟨⟨rfl,hL⟩,hb3⟩;have q0:=cells_below p0 hb3.out (by omega);have q1:=cells_below p1 hb3.out (by omega);obtain⟨d0,d1,d2,d3,d4⟩:=five q0;have fz:=cells_frozen q0 3)
 have hb3':Below (((w.alloc (.cells #[.int .i64 m.guest,.slice ra rn rc,.slice (some ⟨g,0,none⟩) m.slots.length sc,.slice (some ⟨w.heap.size+1+1,0,none⟩) m.slots.length m.slots.length,.slice na nn nc] 27)).alloc (.cells #[.int .i64 0,.slice none 0 0,.slice none 0 0,.slice none 0 0,.slice none 0 0] 27)).alloc (.cells (Array.replicate m.slots.length (.int .i64 0)) 3)).heap.size (((w.alloc (.cells #[.int .i64 m.guest,.slice ra rn rc,.slice (some ⟨g,0,none⟩) m.slots.length sc,.slice (some ⟨w.heap.size+1+1,0,none⟩) m.slots.length m.slots.length,.slice na nn nc] 27)).alloc (.cells #[.int .i64 0,.slice none 0 0,.slice none 0 0,.slice none 0 0,.slice none 0 0] 27)).alloc (.cells (Array.replicate m.slots.length (.int .i64 0)) 3)) w3:=by rw [hz1];exact hb3.out
 have hO3:OX w3 B val m:=hAV.below hb3'
 have hrc:w3.ownsRow B 3 1 (.slice (some ⟨w.heap.size+4,0,none⟩) m.slots.length m.slots.length) (cntL m).length (ints (cntL m)):=by
  have:=row_LAt hL.out (B:=B) (by omega) (by rw [hlc];omega)
  rw [hlc] at this ⊢
  exact this
 have hS3:=hO3.swapRefs hrc (farX_new hAV .refs (fun q e=>by cases e;rw [hz1];show w.heap.size+3≤w.heap.size+4;omega))
 have hfa:∀a,LiveX m a→a≠.refs→∀q,q<w.heap.size+2→(∀b,LiveX m b→(val b).ownBlock≠some q)→(upd val .refs (.slice (some ⟨w.heap.size+4,0,none⟩) m.slots.length m.slots.length) a).ownBlock≠some q:=fun a ha hne q _ hm=>by rw [upd_other _ _ hne];exact hm a ha
 have HFO:Hid (∀b,LiveX m b→(val b).ownBlock≠some (w.heap.size+1)):=fun b hb=>(hfarO b hb).2
 have HS:Hid (CtX w (w3.setCell ⟨w.heap.size,3,none⟩ (.slice (some ⟨w.heap.size+4,0,none⟩) m.slots.length m.slots.length)) B m val 0):=by
  refine⟨⟨upd val .refs (.slice (some ⟨w.heap.size+4,0,none⟩) m.slots.length m.slots.length),?_,upd_other _ _ (by intro x;cases x),upd_other _ _ (by intro x;cases x),upd_same _ _ _,upd_other _ _ (by intro x;cases x),hfa⟩,?_,cells_other q1 (by omega) _ _,(hBV.trans (hb3'.mono (by rw [hz1];omega))).setCell hB _,(KeepX.below ((((KeepX.refl w m val).alloc (Nat.le_refl _) _).alloc (by simp) _).alloc (by simp <;> omega) _) (n:=w.heap.size+3) (by omega) hb3.out).new (Nat.le_refl _)⟩
  ·rw [frT_zero]
   refine hS3.far (fun a ha=>?_)
   by_cases e:a=.refs
   ·subst e;rw [upd_same];intro x;have x:w.heap.size+4=w.heap.size:=Option.some.inj x;omega
   ·exact hfa a ha e w.heap.size (by omega) (fun b hb=>(hfarO b hb).1)
  ·have:=cells_set q0 3 (.slice (some ⟨w.heap.size+4,0,none⟩) m.slots.length m.slots.length)
   rw [e0,e1,e3]
   exact this
 have HV:Hid (val .root=.slice ra rn rc∧val .slots=.slice (some ⟨g,0,none⟩) m.slots.length sc∧val .snaps=.slice na nn nc):=⟨e0,e1,e3⟩
 have HG:Hid (B≤g∧g<w.heap.size):=by
  have:=hO.row .slots (LiveX.slots m)
  rw [e1] at this
  exact this.lt g rfl
 clear hb3' hO3 hrc hS3 hfa hfarO hBV hAV hA0 hO hE hz0 hz1 hlz hcall hL hb3 q0 q1 d0 d1 d2 d3 d4 fz p0 p1 m0 m2 c0 c1 c2 c3 c4 f3 e0 e1 e3 hmk eI
 go_loopw [3] (fun i wr=>∃k:Nat,k≤m.slots.length∧i=.int .i64 k∧Hid (CtX w wr B m val k)) (fun i _=>m.slots.length - (intOf i).toNat)
 case atStart=>exact⟨0,Nat.zero_le _,rfl,HS⟩
 case round=>
  obtain⟨k,hk,rfl,HC⟩:=hrel
  obtain⟨⟨vk,hOk,v0,v1,v2,v3,hfk⟩,hbox,hres,hbel,hkep⟩:=HC.out
  obtain⟨e0,e1,e3⟩:=HV.out
  rw [e0] at v0
  rw [e1] at v1
  rw [e3] at v3
  rw [e0,e1,e3] at hbox
  obtain⟨d0,d1,d2,d3,d4⟩:=five hbox
  have hgl:=HG.out
  have g1:¬g=w.heap.size:=by omega
  have g2:¬w.heap.size=g:=by omega
  have g3:¬g=w.heap.size+1:=by omega
  have g4:¬w.heap.size+1=g:=by omega
  by_cases hlk:k<m.slots.length
  ·have hki:(k:Int)<(m.slots.length:Int):=by omega
   obtain⟨x,hx⟩:∃x,x=(cntL m).getD k 0:=⟨_,rfl⟩
   have cx:wr.cell? ⟨w.heap.size+4,k,none⟩=some (.int .i64 x):=by
    have hr:=hOk.row .refs (LiveX.refs _)
    rw [v2] at hr
    have hr:wr.ownsRow B 3 1 (.slice (some ⟨w.heap.size+4,0,none⟩) m.slots.length m.slots.length) (cntL m).length (ints (cntL m)):=hr
    rw [hlc] at hr
    rw [hx]
    refine (hr.cellAt k (by omega)).trans ?_
    unfold ints
    rw [List.getElem?_map,List.getElem?_eq_getElem (by rw [hlc];exact hlk)]
    simp [List.getD,hlc,hlk]
   have HX:Hid (x=(cntL m).getD k 0):=hx
   clear hx
   by_cases h0:x=0
   ·have h0':(x == 0)=true:=by simp [h0]
    have H0:Hid ((cntL m).getD k 0=0):=HX.out.symm.trans h0
    clear h0
    have hls:=frT_length m k
    have hr:=hOk.row .slots (LiveX.slots _)
    rw [v1] at hr
    obtain⟨s0,s1,s2⟩:=flatS_get (L:=(frT m k).slots) (tv:=fun j=>vk (.tab j)) (j:=k) (by rw [hls];exact hlk)
    have hr:wr.ownsRow B 61 3 (.slice (some ⟨g,0,none⟩) m.slots.length sc) m.slots.length (flatS (frT m k).slots (fun j=>vk (.tab j))):=by rw [←hls];rw [←hls] at hr;exact hr
    have t0:wr.cell? ⟨g,k*3,none⟩=some _:=(hr.cellAt (k*3) (by omega)).trans s0
    have t1:wr.cell? ⟨g,k*3+1,none⟩=some _:=(hr.cellAt (k*3+1) (by omega)).trans s1
    have t2:wr.cell? ⟨g,k*3+2,none⟩=some _:=(hr.cellAt (k*3+2) (by omega)).trans s2
    have u0:=hr.frozenAt (k*3)
    have u1:=hr.frozenAt (k*3+1)
    have u2:=hr.frozenAt (k*3+2)
    have HN:Hid (CtX w (((wr.setCell ⟨g,k*3,none⟩ (.int .i64 0)).setCell ⟨g,k*3+1,none⟩ (.string ⟨#[]⟩)).setCell ⟨g,k*3+2,none⟩ (.slice none 0 0)) B m val (k+1)):=by
     have hN:=hOk.setSlot (t:=k) (by rw [hls];exact hlk) v1 0 ⟨#[]⟩ [] (ev:=.slice none 0 0) (World.ownsRow_nil _ _ _ _) (farX_nil _ _ _ _ _)
     refine⟨⟨upd vk (.tab k) (.slice none 0 0),?_,(upd_other _ _ (by intro x;cases x)).trans (v0.trans e0.symm),(upd_other _ _ (by intro x;cases x)).trans (v1.trans e1.symm),(upd_other _ _ (by intro x;cases x)).trans v2,(upd_other _ _ (by intro x;cases x)).trans (v3.trans e3.symm),fun a ha hne q hq hm=>?_⟩,?_,?_,((hbel.setCell hgl.1 _).setCell hgl.1 _).setCell hgl.1 _,((hkep.own (LiveX.slots m) e1).own (LiveX.slots m) e1).own (LiveX.slots m) e1⟩
     ·rw [frT_gone m H0.out];exact hN
     ·by_cases e:a=.tab k
      ·subst e;rw [upd_same];intro x;cases x
      ·rw [upd_other _ _ e];exact hfk a ha hne q hq hm
     ·rw [e0,e1,e3]
      exact cells_other (cells_other (cells_other hbox g2 _ _) g2 _ _) g2 _ _
     ·exact cells_other (cells_other (cells_other hres g4 _ _) g4 _ _) g4 _ _
    clear hkep hOk hbox hres hbel hr s0 s1 s2 e0 e1 e3 v0 v1 v2 v3 hfk HC HX H0 hls
    go_wp2_with fail
    go_roundw
    case rel=>exact⟨k+1,by omega,by go_num,HN⟩
    case measure=>simp [intOf];omega
   ·have h0':(x == 0)=false:=by simp [h0]
    have HN:Hid (CtX w wr B m val (k+1)):=by
     refine⟨⟨vk,?_,v0.trans e0.symm,v1.trans e1.symm,v2,v3.trans e3.symm,hfk⟩,HC.out.box,HC.out.res,HC.out.bel,HC.out.kep⟩
     rw [frT_kept m (fun e=>h0 (HX.out.trans e))]
     exact hOk
    clear hkep hOk hbox hres hbel e0 e1 e3 v0 v1 v2 v3 hfk HC HX
    go_wp2_with fail
    go_roundw
    case rel=>exact⟨k+1,by omega,by go_num,HN⟩
    case measure=>simp [intOf];omega
  ·have ek:k=m.slots.length:=by omega
   subst ek
   obtain⟨z0,z1,z2,z3,z4⟩:=five hres
   have y0:=cells_frozen hres 0
   have y1:=cells_frozen hres 1
   have y2:=cells_frozen hres 2
   have y3:=cells_frozen hres 3
   have y4:=cells_frozen hres 4
   have hfr:∀a,LiveX (frT m m.slots.length) a→(vk a).ownBlock≠some (w.heap.size+1):=fun a ha=>by
    by_cases e:a=.refs
    ·subst e;rw [v2];intro x;have x:w.heap.size+4=w.heap.size+1:=Option.some.inj x;omega
    ·exact (hfk a (liveX_frT ha) e _ (by omega) HFO.out)
   have hF:OX wr B vk (frT m m.slots.length):=hOk
   rw [frT_end] at hF hfr
   have HF:Hid (OX wr B vk (countedD m)):=hF
   have hsrc:SrcX w m val (.slice none 0 0) (countedD m) vk:=fun q hq _ hm a ha=>by
    by_cases e:a=.refs
    ·subst e;rw [v2];intro x;have x:w.heap.size+4=q:=Option.some.inj x;omega
    ·exact hfk a (liveX_counted ha) e q (by omega) hm
   clear hF hOk HC
   go_wp2_with fail
   have hB1:B≤w.heap.size+1:=by omega
   refine bodyPost_ret (v:=.agg #[.int .i64 m.guest,.slice ra rn rc,.slice (some ⟨g,0,none⟩) m.slots.length sc,.slice (some ⟨w.heap.size+4,0,none⟩) m.slots.length m.slots.length,.slice na nn nc]) (by simp [results,Tryz.results68,go_sem,z0,z1,z2,z3,z4]) rfl ⟨vk,?_,((((HF.out.far hfr).far hfr).far hfr).far hfr).far hfr,((((hbel.setCell hB1 _).setCell hB1 _).setCell hB1 _).setCell hB1 _).setCell hB1 _,((((hkep.new (by omega)).new (by omega)).new (by omega)).new (by omega)).new (by omega),hsrc⟩
   unfold imgV
   rw [v0,v1,v2,v3]
theorem countedX_is {m:ImgD}{B:Nat}{val:Nm→Value}{w:World}(hO:OX w B val m)(hB:B≤w.heap.size)(hE:shapeE { m with refs:=rfZ m.slots } = 0) :
  Calls Tryz.prog 68 #[imgV m.guest val] w fun r w'=>∃val',r=.returned (imgV m.guest val')∧OX w' B val' (countedD m)∧Below B w w'∧KeepX w w' m val∧SrcX w m val (.slice none 0 0) (countedD m) val':=by
 obtain⟨ra,rc,e0,_⟩:=hO.forms .root (LiveX.root m)
 obtain⟨sa,sc,e1,hs⟩:=hO.forms .slots (LiveX.slots m)
 obtain⟨fa,fc,e2,_⟩:=hO.forms .refs (LiveX.refs m)
 obtain⟨na,nc,e3,_⟩:=hO.forms .snaps (LiveX.snaps m)
 have h1s:1≤m.slots.length:=(slotsE_parts (shapeE_zero hE).2.1).1
 obtain⟨g,rfl⟩:=hs (by show 0<m.slots.length;omega)
 have e1:val .slots=.slice (some ⟨g,0,none⟩) m.slots.length sc:=e1
 unfold imgV
 rw [e0,e1,e2,e3]
 exact countedX_at m ra _ rc g sc fa _ fc na _ nc B val w hO e0 e1 e3 hB hE
end Go.Proofs.YtehleeibgkpjmafGreat
namespace Go.Proofs.YtehleeibgkpjmafGreat
open Go.RowKit
set_option maxRecDepth 20000
set_option maxHeartbeats 1000000 in
theorem grabOf_at (b off cap n g:Nat)(L:List SlotD)(w:World)(hn:L.length=n)(h1:1≤n)(h40:n≤40)(hc:∀j,(h:j<L.length)→SlAt w b (off+j*3) L[j])(hg:GrabAt L g)(c:Int)(hcc:(if g=40 then (0:Int) else g)=c) :
  Calls Tryz.prog 65 #[.slice (some ⟨b,off,none⟩) n cap] w fun r w'=>r=.returned (.int .i64 c)∧w'=w:=by
 have HQ:Hid ((if g=40 then (0:Int) else g)=c):=hcc
 clear hcc
 have HC:Hid (∀j,(h:j<L.length)→SlAt w b (off+j*3) L[j]):=hc
 have HN:Hid (L.length=n):=hn
 have HG:Hid (GrabAt L g):=hg
 clear hc hn hg
 go_enter Tryz.func65,Tryz.ntmps65
 go_wp2
 go_loop [3] (fun i=>∃k:Nat,1≤k∧k≤n∧i=.int .i64 k∧∀j,(h:j<L.length)→1≤j→j<k→(L[j]).1≠0) (fun i=>n - (intOf i).toNat)
 case atStart=>exact⟨1,Nat.le_refl _,h1,rfl,fun j h hj hj'=>absurd hj' (by omega)⟩
 case round=>
  obtain⟨k,hk1,hk,rfl,hall⟩:=hrel
  have HA:Hid (∀j,(h:j<L.length)→1≤j→j<k→(L[j]).1≠0):=hall
  clear hall
  by_cases hlk:k<n
  ·obtain⟨s,hs'⟩:∃s,s=L[k]'(by rw [HN.out];exact hlk):=⟨_,rfl⟩
   obtain⟨kk,dd,tt⟩:=s
   have hS:SlAt w b (off+k*3) (kk,dd,tt):=by rw [hs'];exact HC.out k _
   obtain⟨tv,c1,_,_,_⟩:=hS
   have HS:Hid ((kk,dd,tt)=L[k]'(by rw [HN.out];exact hlk)):=hs'
   clear hs'
   have hki:(k:Int)<(n:Int):=by omega
   by_cases h0:kk=0
   ·have h0':(kk == 0)=true:=by simp [h0]
    have H0:Hid (kk=0):=h0
    clear h0
    have HE:Hid (g=k):=HG.out.unique ⟨hk1,by rw [HN.out];exact hk,HA.out,fun h=>by rw [←HS.out];exact H0.out⟩
    go_wp2
    go_ret
    exact⟨ret_int (by rw [←HQ.out,HE.out,if_neg (by omega)]),rfl⟩
   ·have h0':(kk == 0)=false:=by simp [h0]
    go_wp2
    go_round
    case rel=>exact⟨k+1,by omega,by omega,by go_num,fun j h hj hj'=>by
     by_cases e:j=k
     ·subst e;rw [←HS.out];exact h0
     ·exact HA.out j h hj (by omega)⟩
    case measure=>simp [intOf];omega
  ·have e4:k=n:=by omega
   subst e4
   have HE:Hid (g=k):=HG.out.unique ⟨hk1,by rw [HN.out];exact hk,HA.out,fun h=>absurd h (by rw [HN.out];omega)⟩
   by_cases e40:k=40
   ·subst e40
    go_wp2
    go_ret
    exact⟨ret_int (by rw [←HQ.out,HE.out,if_pos rfl]),rfl⟩
   ·have hne:(k:Int)<40:=by omega
    go_wp2
    go_ret
    exact⟨ret_int (by rw [←HQ.out,HE.out,if_neg e40]),rfl⟩
end Go.Proofs.YtehleeibgkpjmafGreat
namespace Go.Proofs.YtehleeibgkpjmafGreat
open Go.RowKit Go.Shelf
set_option maxRecDepth 20000
set_option linter.unusedVariables false
set_option linter.unusedSimpArgs false
def AnsJ (w:World) (M:ImgD) (err:Int) (r:Ending) (w':World):Prop:=∃a0 c0 a1 c1 a2 c2 a3 c3,r=.returned (.tuple #[.agg #[.int .i64 M.guest,.slice a0 M.root.length c0,.slice a1 M.slots.length c1,.slice a2 M.refs.length c2,.slice a3 M.snaps.length c3],.int .i64 err])∧(∀W',(∀q,w.heap.size≤q→W'.heap[q]? = w'.heap[q]?)→Img W' (.agg #[.int .i64 M.guest,.slice a0 M.root.length c0,.slice a1 M.slots.length c1,.slice a2 M.refs.length c2,.slice a3 M.snaps.length c3]) M)∧Below w.heap.size w w'
theorem imgZ_im (W:World):Img W (.agg #[.int .i64 0,.slice none 0 0,.slice none 0 0,.slice none 0 0,.slice none 0 0]) imgZ:=(OI.zero W 0).img
theorem OX.four' {W:World}{B:Nat}{val:Nm→Value}{m:ImgD}(h:OX W B val m):∃a0 c0 a1 c1 a2 c2 a3 c3,val .root=.slice a0 m.root.length c0∧val .slots=.slice a1 m.slots.length c1∧val .refs=.slice a2 m.refs.length c2∧val .snaps=.slice a3 m.snaps.length c3:=by
 obtain⟨a0,c0,h0,_⟩:=h.forms .root (LiveX.root _)
 obtain⟨a1,c1,h1,_⟩:=h.forms .slots (LiveX.slots _)
 obtain⟨a2,c2,h2,_⟩:=h.forms .refs (LiveX.refs _)
 obtain⟨a3,c3,h3,_⟩:=h.forms .snaps (LiveX.snaps _)
 exact⟨a0,c0,a1,c1,a2,c2,a3,c3,h0,h1,h2,h3⟩
theorem OX.five {W:World}{B D:Nat}{val:Nm→Value}{m:ImgD}(h:OX W B val m)(hf:∀a,LiveX m a→(val a).ownBlock≠some D)(a0 a1 a2 a3 a4:Value):OX (((((W.setCell ⟨D,0,none⟩ a0).setCell ⟨D,1,none⟩ a1).setCell ⟨D,2,none⟩ a2).setCell ⟨D,3,none⟩ a3).setCell ⟨D,4,none⟩ a4) B val m:=((((h.far hf).far hf).far hf).far hf).far hf
theorem below_five {w W:World}{B D:Nat}(h:Below B w W)(hD:B≤D)(a0 a1 a2 a3 a4:Value):Below B w (((((W.setCell ⟨D,0,none⟩ a0).setCell ⟨D,1,none⟩ a1).setCell ⟨D,2,none⟩ a2).setCell ⟨D,3,none⟩ a3).setCell ⟨D,4,none⟩ a4):=
 ((((h.setCell (p:=⟨D,0,none⟩) hD _).setCell (p:=⟨D,1,none⟩) hD _).setCell (p:=⟨D,2,none⟩) hD _).setCell (p:=⟨D,3,none⟩) hD _).setCell (p:=⟨D,4,none⟩) hD _
theorem heap_five {W:World}{D:Nat}(a0 a1 a2 a3 a4:Value)(q:Nat)(hq:q≠D):(((((W.setCell ⟨D,0,none⟩ a0).setCell ⟨D,1,none⟩ a1).setCell ⟨D,2,none⟩ a2).setCell ⟨D,3,none⟩ a3).setCell ⟨D,4,none⟩ a4).heap[q]? = W.heap[q]?:=by
 rw [Below.heap_setCell _ _ _ q hq,Below.heap_setCell _ _ _ q hq,Below.heap_setCell _ _ _ q hq,Below.heap_setCell _ _ _ q hq,Below.heap_setCell _ _ _ q hq]
theorem tabAt_O {m:ImgD}{k t:Nat}(ht:m.root.getD k 0=(t:Int)):tabAt m.slots t=tableO m k:=by
 unfold tabAt tableO
 rw [ht]
 by_cases h:t=0
 ·rw [if_pos h,if_pos (by omega)]
 ·rw [if_neg h,if_neg (by omega)]
  unfold tabOf
  rw [Int.toNat_natCast]
theorem grabOf_wide {v:Value}{L:List SlotD}{w:World}(h:Slots w v L)(h1:1≤L.length)(h40:L.length≤40){c:Int}(hc:(if grabN L=40 then (0:Int) else grabN L)=c) :
  Calls Tryz.prog 65 #[v] w fun r w'=>r=.returned (.int .i64 c)∧w'=w:=by
 obtain⟨b,off,cap,rfl,hcp,hlt,hcell⟩:=h.open h1
 exact grabOf_at b off cap _ (grabN L) L w rfl h1 h40 hcell (grabN_at h1) c hc
theorem list_set_same {α:Type}{l:List α}{i:Nat}{x:α}(h:l[i]? = some x):l.set i x=l:=by
 apply List.ext_getElem?
 intro j
 rw [List.getElem?_set]
 split
 ·rename_i e
  subst e
  split
  ·exact h.symm
  ·rename_i hl
   rw [List.getElem?_eq_none (by omega)]
 ·rfl
theorem flatS_page {L:List SlotD}{tv:Nat→Value}{t:Nat}(ht:t<L.length)(d:ByteArray) :
  flatS (L.set t ((L.getD t default).1,d,(L.getD t default).2.2)) tv=(flatS L tv).set (t*3+1) (.string d):=by
 obtain⟨h0,h1,h2⟩:=flatS_get (tv:=tv) ht
 rw [flatS_set (tv:=tv) (tv':=tv) (t:=t) _ d _ (fun _ _=>rfl),list_set_same h0]
 apply list_set_same
 rw [List.getElem?_set_ne (by omega)]
 exact h2
theorem OX.setPage {W:World}{B:Nat}{val:Nm→Value}{m:ImgD}(h:OX W B val m){t:Nat}(ht:t<m.slots.length){g n cap:Nat}(hv:val .slots=.slice (some ⟨g,0,none⟩) n cap)(d:ByteArray) :
  OX (W.setCell ⟨g,t*3+1,none⟩ (.string d)) B val { m with slots:=m.slots.set t ((m.slots.getD t default).1,d,(m.slots.getD t default).2.2) }:=by
 have hg:=fun j=>getD_setR m.slots t j ((m.slots.getD t default).1,d,(m.slots.getD t default).2.2)
 have htb:∀j,tbl { m with slots:=m.slots.set t ((m.slots.getD t default).1,d,(m.slots.getD t default).2.2) } j=tbl m j:=fun j=>by
  show ((m.slots.set t _).getD j default).2.2=(m.slots.getD j default).2.2
  rw [hg]
  split
  ·rename_i e;rw [e.1]
  ·rfl
 refine h.store (LiveX.slots m) hv (t*3+1) (.string d) (liveX_iff List.length_set rfl (fun j=>by rw [htb])) (fun b hb=>?_) (fun b hb hne=>?_) ?_ (fun j hj e=>?_)
 ·rcases hb.cases with rfl | rfl | rfl | rfl | ⟨j,rfl,hj⟩ | ⟨j,rfl,hj⟩
  ·rfl
  ·exact List.length_set
  ·rfl
  ·rfl
  ·show (tbl _ j).length=(tbl m j).length
   rw [htb]
  ·rfl
 ·rcases hb.cases with rfl | rfl | rfl | rfl | ⟨j,rfl,hj⟩ | ⟨j,rfl,hj⟩
  ·rfl
  ·exact absurd rfl hne
  ·rfl
  ·rfl
  ·show ints (tbl _ j)=ints (tbl m j)
   rw [htb]
  ·rfl
 ·exact flatS_page ht d
 ·rw [htb] at e
  have hj:j<(m.slots.set t _).length:=hj
  rw [List.length_set] at hj
  exact⟨hj,e⟩
theorem five_box {W:World}{D:Nat}{x0 x1 x2 x3 x4:Value}{T:TypeId}(h:W.heap[D]? = some (.cells #[x0,x1,x2,x3,x4] T))(a0 a1 a2 a3 a4:Value) :
  (((((W.setCell ⟨D,0,none⟩ a0).setCell ⟨D,1,none⟩ a1).setCell ⟨D,2,none⟩ a2).setCell ⟨D,3,none⟩ a3).setCell ⟨D,4,none⟩ a4).heap[D]? = some (.cells #[a0,a1,a2,a3,a4] T):=
 cells_set (cells_set (cells_set (cells_set (cells_set h 0 a0) 1 a1) 2 a2) 3 a3) 4 a4
theorem ow_call {V X w':World}{D:Nat}{val val':Nm→Value}{m m':ImgD}{ev:Value}(hbel:Below V.heap.size V X)(hbox:X.heap[D]? = some (.cells #[.int .i64 m.guest,val .root,val .slots,val .refs,val .snaps] 27))(hge:V.heap.size≤D)(hfar:∀a,LiveX m a→(val a).ownBlock≠some D)
  (hX:OX w' V.heap.size val' m') (b:Below V.heap.size X w') (k:KeepX X w' m val) (s:SrcX X m val ev m' val') (hev:ev.ownBlock≠some D) :
  OwR V (((((w'.setCell ⟨D,0,none⟩ (.int .i64 m'.guest)).setCell ⟨D,1,none⟩ (val' .root)).setCell ⟨D,2,none⟩ (val' .slots)).setCell ⟨D,3,none⟩ (val' .refs)).setCell ⟨D,4,none⟩ (val' .snaps)) D m':=by
 have hlt:D<X.heap.size:=(szH hbox)
 have hfar':=s D hlt hev hfar
 exact⟨⟨val',hX.five hfar' _ _ _ _ _,five_box ((k D hlt hfar).trans hbox) _ _ _ _ _,hfar'⟩,hge,below_five (hbel.trans b) hge _ _ _ _ _⟩
theorem ow_root {V X:World}{D:Nat}{val:Nm→Value}{m:ImgD}(hX:OX X V.heap.size val m)(hbel:Below V.heap.size V X)(hbox:X.heap[D]? = some (.cells #[.int .i64 m.guest,val .root,val .slots,val .refs,val .snaps] 27))(hge:V.heap.size≤D)(hfar:∀a,LiveX m a→(val a).ownBlock≠some D)
  {g n cap:Nat} (hv:val .root=.slice (some ⟨g,0,none⟩) n cap) (i:Nat) (x:Int):OwR V (X.setCell ⟨g,i,none⟩ (.int .i64 x)) D { m with root:=m.root.set i x }:=by
 have hgD:D≠g:=fun e=>hfar .root (LiveX.root m) (by rw [hv,e];rfl)
 have hg:=((hX.row .root (LiveX.root m)).lt g (by rw [hv];rfl)).1
 exact⟨⟨val,hX.setRoot hv i x,cells_other hbox hgD _ _,fun a ha=>hfar a (by
  refine (liveX_iff (m:=m) (m':={ m with root:=m.root.set i x }) rfl rfl (fun _=>Iff.rfl) a).1 ha)⟩,hge,hbel.setCell (p:=⟨g,i,none⟩) hg _⟩
theorem ow_page {V X:World}{D:Nat}{val:Nm→Value}{m:ImgD}(hX:OX X V.heap.size val m)(hbel:Below V.heap.size V X)(hbox:X.heap[D]? = some (.cells #[.int .i64 m.guest,val .root,val .slots,val .refs,val .snaps] 27))(hge:V.heap.size≤D)(hfar:∀a,LiveX m a→(val a).ownBlock≠some D)
  {g n cap:Nat} (hv:val .slots=.slice (some ⟨g,0,none⟩) n cap) {t:Nat} (ht:t<m.slots.length) (d:ByteArray):OwR V (X.setCell ⟨g,t*3+1,none⟩ (.string d)) D { m with slots:=m.slots.set t ((m.slots.getD t default).1,d,(m.slots.getD t default).2.2) }:=by
 have hgD:D≠g:=fun e=>hfar .slots (LiveX.slots m) (by rw [hv,e];rfl)
 have hg:=((hX.row .slots (LiveX.slots m)).lt g (by rw [hv];rfl)).1
 have htb:∀j,tbl { m with slots:=m.slots.set t ((m.slots.getD t default).1,d,(m.slots.getD t default).2.2) } j=tbl m j:=fun j=>by
  show ((m.slots.set t _).getD j default).2.2=(m.slots.getD j default).2.2
  rw [getD_setR]
  split
  ·rename_i e;rw [e.1]
  ·rfl
 exact⟨⟨val,hX.setPage ht hv d,cells_other hbox hgD _ _,fun a ha=>hfar a ((liveX_iff (m:=m) (m':={ m with slots:=m.slots.set t ((m.slots.getD t default).1,d,(m.slots.getD t default).2.2) }) List.length_set rfl (fun j=>by rw [htb]) a).1 ha)⟩,hge,hbel.setCell (p:=⟨g,t*3+1,none⟩) hg _⟩
theorem ow_tab {V X:World}{D:Nat}{val:Nm→Value}{m:ImgD}(hX:OX X V.heap.size val m)(hbel:Below V.heap.size V X)(hbox:X.heap[D]? = some (.cells #[.int .i64 m.guest,val .root,val .slots,val .refs,val .snaps] 27))(hge:V.heap.size≤D)(hfar:∀a,LiveX m a→(val a).ownBlock≠some D)
  {t:Nat} (ht:t<m.slots.length) (hnt:tbl m t≠[]) {g n cap:Nat} (hv:val (.tab t)=.slice (some ⟨g,0,none⟩) n cap) (i:Nat) (x:Int):OwR V (X.setCell ⟨g,i,none⟩ (.int .i64 x)) D { m with slots:=m.slots.set t ((m.slots.getD t default).1,(m.slots.getD t default).2.1,(m.slots.getD t default).2.2.set i x) }:=by
 have hl:LiveX m (.tab t):=LiveX.tab ⟨ht,hnt⟩
 have hgD:D≠g:=fun e=>hfar (.tab t) hl (by rw [hv,e];rfl)
 have hg:=((hX.row (.tab t) hl).lt g (by rw [hv];rfl)).1
 have hgd:=fun j=>getD_setR m.slots t j ((m.slots.getD t default).1,(m.slots.getD t default).2.1,(m.slots.getD t default).2.2.set i x)
 refine⟨⟨val,hX.setTab ht hnt hv i x,cells_other hbox hgD _ _,fun a ha=>hfar a ?_⟩,hge,hbel.setCell (p:=⟨g,i,none⟩) hg _⟩
 refine (liveX_iff (m:=m) (m':={ m with slots:=m.slots.set t ((m.slots.getD t default).1,(m.slots.getD t default).2.1,(m.slots.getD t default).2.2.set i x) }) List.length_set rfl (fun j=>?_) a).1 ha
 show ((m.slots.set t _).getD j default).2.2=[]↔(m.slots.getD j default).2.2=[]
 rw [hgd]
 split
 ·rename_i e
  rw [←e.1]
  exact⟨fun z=>List.eq_nil_of_length_eq_zero (by have:=congrArg List.length z;rwa [List.length_set] at this),fun z=>absurd z hnt⟩
 ·rfl
theorem getD_atS {L:List SlotD}{j:Nat}(h:j<L.length):L.getD j default=L[j]:=by simp [List.getD,h]
theorem slot_tab {m:ImgD}(hs:shapeE m=0){t:Nat}(hk:kd m.slots t=2):m.slots.getD t default=(2,⟨#[]⟩,tabOf m.slots t):=by
 have hl:=kd_lt (L:=m.slots) (j:=t) (by rw [hk];decide)
 have hok:=slotsE_all (shapeE_zero hs).2.1 hl
 rw [getD_atS hl]
 unfold tabOf
 rw [Int.toNat_natCast,getD_atS hl]
 unfold kd at hk
 rw [getD_atS hl] at hk
 unfold okD slotOK at hok
 rw [hk] at hok
 simp at hok
 have h0:m.slots[t].2.1=⟨#[]⟩:=hok.2.2
 rw [←h0,← hk]
theorem lay_set {L:List SlotD}{t d:Nat}{s x:SlotD}(ht:t<L.length)(hne:t≠d):(layS L d s).set t x=layS (L.set t x) d s:=by
 unfold layS
 rw [List.length_set]
 split
 ·exact List.set_append_left _ _ ht
 ·exact List.set_comm _ _ (fun e=>hne e.symm)
theorem lay_lay {L:List SlotD}{t:Nat}{a b:SlotD}(ht:t≤L.length):(layS L t a).set t b=layS L t b:=by
 unfold layS
 split
 ·rename_i e
  subst e
  rw [List.set_append_right _ _ (Nat.le_refl _)]
  simp
 ·exact List.set_set ..
def wo1 (m:ImgD) (n:Nat):ImgD:={ m with root:=m.root.set (n / 4) (tabN m (n / 4):Int),slots:=tabL m (n / 4) (tableO m (n / 4)) }
theorem wo1_lone {m:ImgD}(hC:checkE m=0){n:Nat}(hr:n / 4<m.root.length)(hl:inPl m (n / 4)=true):wo1 m n=m:=by
 have hs:=checkE_shape hC
 obtain⟨t,ht,t1,tl,_⟩:=inPl_spec hC hr hl
 have htn:tabN m (n / 4)=t:=by unfold tabN;rw [if_pos hl,ht];simp
 have hk:kd m.slots t=2:=by
  have hm:(t:Int) ∈ flatR m:=by rw [flatR_app,← ht,getD_at hr];exact List.mem_append_left _ (List.getElem_mem hr)
  exact (told_root hs hm t1).2.1
 have h1:m.root.set (n / 4) (t:Int)=m.root:=list_set_same (by rw [List.getElem?_eq_getElem hr,← getD_at hr,ht])
 have h2:tabL m (n / 4) (tableO m (n / 4))=m.slots:=by
  unfold tabL layS
  rw [htn,if_neg (by omega)]
  refine list_set_same ?_
  have e1:tableO m (n / 4)=tabOf m.slots t:=by unfold tableO;rw [ht,if_neg (by omega)]
  rw [e1,← slot_tab hs hk,List.getElem?_eq_getElem tl,getD_atS tl]
 unfold wo1
 rw [htn,h1,h2]
theorem wo_facts {m:ImgD}(hC:checkE m=0){n:Nat}(hn:(n:Int)<m.guest)(h40:tabN m (n / 4)≠40) :
  1≤(wo1 m n).slots.length∧(wo1 m n).slots.length≤40∧tabN m (n / 4)<(wo1 m n).slots.length∧1≤tabN m (n / 4)∧(wo1 m n).slots.getD (tabN m (n / 4)) default=(2,⟨#[]⟩,tableO m (n / 4)):=by
 have hs:=checkE_shape hC
 have hgt:=guest_ok hs
 have hrt:=root_ok hs
 have hr:n / 4<m.root.length:=by omega
 have hp:=slotsE_parts (shapeE_zero hs).2.1
 obtain⟨t1,tl,t40,tk,_⟩:=tabN_spec hC hr h40
 have hle:=layS_le (s:=((2,⟨#[]⟩,tableO m (n / 4)):SlotD)) tl hp.2 t40
 refine⟨?_,?_,?_,t1,?_⟩
 ·show 1≤(tabL m (n / 4) (tableO m (n / 4))).length
  unfold tabL;omega
 ·show (tabL m (n / 4) (tableO m (n / 4))).length≤40
  unfold tabL;omega
 ·show tabN m (n / 4)<(tabL m (n / 4) (tableO m (n / 4))).length
  unfold tabL;omega
 ·show (tabL m (n / 4) (tableO m (n / 4))).getD _ default=_
  unfold tabL
  rw [layS_get tl,if_pos rfl]
theorem wo_end {m:ImgD}(hC:checkE m=0){n:Nat}(hn:(n:Int)<m.guest)(h40:tabN m (n / 4)≠40)(hd40:wD m n≠40){page:ByteArray}(hp:page.size=4) :
  wD m n≤(wo1 m n).slots.length∧1≤wD m n∧tabN m (n / 4)<(layS (wo1 m n).slots (wD m n) (1,page,[])).length∧(layS (wo1 m n).slots (wD m n) (1,page,[])).getD (tabN m (n / 4)) default=(2,⟨#[]⟩,tableO m (n / 4))∧
   (layS (wo1 m n).slots (wD m n) (1,page,[])).set (tabN m (n / 4)) (2,⟨#[]⟩,(tableO m (n / 4)).set (n % 4) (wD m n:Int))=wL m n page:=by
 obtain⟨f1,f2,f3,f4,f5⟩:=wo_facts hC hn h40
 obtain⟨hx,hl,hz,hk,d1,d40,hkd,hdt⟩:=write_ext hC hn h40 hd40 hp
 obtain⟨t1,tl,t40,tk,_⟩:=tabN_spec hC hk h40
 have hdl:wD m n≤(wo1 m n).slots.length:=(grabN_spec (L:=(wo1 m n).slots) f1).2.1
 refine⟨hdl,d1,?_,?_,?_⟩
 ·rw [layS_length];split <;> omega
 ·rw [layS_get hdl,if_neg (fun e=>hdt e.symm)];exact f5
 ·rw [lay_set f3 (fun e=>hdt e.symm)]
  unfold wL wEs
  congr 1
  exact lay_lay tl
theorem wo_counted {m:ImgD}(hC:checkE m=0){n:Nat}(hn:(n:Int)<m.guest)(h40:tabN m (n / 4)≠40)(hd40:wD m n≠40){page:ByteArray}(hp:page.size=4) :
  shapeE { m with root:=m.root.set (n / 4) (tabN m (n / 4):Int),slots:=wL m n page,refs:=rfZ (wL m n page) } = 0:=(write_laid hC hn h40 hd40 hp).1.shape
set_option maxHeartbeats 8000000 in
theorem wo_in (rb ro rc:Nat)(sa:Option Addr)(sc:Nat)(fb fo fc:Nat)(na:Option Addr)(nc:Nat)(m:ImgD)(n:Nat)(page:ByteArray)(w:World)(h:Img w (.agg #[.int .i64 m.guest,.slice (some ⟨rb,ro,none⟩) m.root.length rc,.slice sa m.slots.length sc,.slice (some ⟨fb,fo,none⟩) m.refs.length fc,.slice na m.snaps.length nc]) m)(hrc:∀j,j<m.root.length→w.cell? ⟨rb,ro+j,none⟩=some (.int .i64 (m.root.getD j 0)))(hrl:rb<w.heap.size)(hfc:∀j,j<m.refs.length→w.cell? ⟨fb,fo+j,none⟩=some (.int .i64 (m.refs.getD j 0)))(hfl:fb<w.heap.size)(hC:checkE m=0)(hn:(n:Int)<m.guest)(hp:page.size=4)(t:Nat)(ht:m.root.getD (n / 4) 0=(t:Int))(e:Int)(he:lookV m m.root n=e)(hin:∃en:Nat,1≤en∧e=(en:Int))(hel:e.toNat<m.slots.length)(hrt1:m.refs.getD t 0=1)(hre1:m.refs.getD e.toNat 0=1)(hke:kd m.slots e.toNat=1)(htbe:(m.slots.getD e.toNat default).2.2=[])(M:ImgD)(hM : { m with slots:=m.slots.set e.toNat (1,page,[]) } = M) :
  Calls Tryz.prog 35 #[.agg #[.int .i64 m.guest,.slice (some ⟨rb,ro,none⟩) m.root.length rc,.slice sa m.slots.length sc,.slice (some ⟨fb,fo,none⟩) m.refs.length fc,.slice na m.snaps.length nc],.int .i64 (n:Int),.string page] w (AnsJ w M 0):=by
 have b0:Below w.heap.size w ((w.alloc (.cells #[.int .i64 m.guest,.slice (some ⟨rb,ro,none⟩) m.root.length rc,.slice sa m.slots.length sc,.slice (some ⟨fb,fo,none⟩) m.refs.length fc,.slice na m.snaps.length nc] 27)).alloc (.cells #[.int .i64 0,.slice none 0 0,.slice none 0 0,.slice none 0 0,.slice none 0 0] 27)):=((Below.refl _ _).alloc (Nat.le_refl _) _).alloc (by simp) _
 have m0:((w.alloc (.cells #[.int .i64 m.guest,.slice (some ⟨rb,ro,none⟩) m.root.length rc,.slice sa m.slots.length sc,.slice (some ⟨fb,fo,none⟩) m.refs.length fc,.slice na m.snaps.length nc] 27)).alloc (.cells #[.int .i64 0,.slice none 0 0,.slice none 0 0,.slice none 0 0,.slice none 0 0] 27)).heap[w.heap.size]? = some (.cells #[.int .i64 m.guest,.slice (some ⟨rb,ro,none⟩) m.root.length rc,.slice sa m.slots.length sc,.slice (some ⟨fb,fo,none⟩) m.refs.length fc,.slice na m.snaps.length nc] 27):=cells_alloc (World.alloc_heap_new _ _) _
 have m1:((w.alloc (.cells #[.int .i64 m.guest,.slice (some ⟨rb,ro,none⟩) m.root.length rc,.slice sa m.slots.length sc,.slice (some ⟨fb,fo,none⟩) m.refs.length fc,.slice na m.snaps.length nc] 27)).alloc (.cells #[.int .i64 0,.slice none 0 0,.slice none 0 0,.slice none 0 0,.slice none 0 0] 27)).heap[w.heap.size+1]? = some (.cells #[.int .i64 0,.slice none 0 0,.slice none 0 0,.slice none 0 0,.slice none 0 0] 27):=by have:=World.alloc_heap_new (w.alloc (.cells #[.int .i64 m.guest,.slice (some ⟨rb,ro,none⟩) m.root.length rc,.slice sa m.slots.length sc,.slice (some ⟨fb,fo,none⟩) m.refs.length fc,.slice na m.snaps.length nc] 27)) (.cells #[.int .i64 0,.slice none 0 0,.slice none 0 0,.slice none 0 0,.slice none 0 0] 27);simpa using this
 have hsz:w.heap.size+1<((w.alloc (.cells #[.int .i64 m.guest,.slice (some ⟨rb,ro,none⟩) m.root.length rc,.slice sa m.slots.length sc,.slice (some ⟨fb,fo,none⟩) m.refs.length fc,.slice na m.snaps.length nc] 27)).alloc (.cells #[.int .i64 0,.slice none 0 0,.slice none 0 0,.slice none 0 0,.slice none 0 0] 27)).heap.size:=by simp
 have hs:=checkE_shape hC
 have hgt:=guest_ok hs
 have hrt:=root_ok hs
 have hr:n / 4<m.root.length:=by omega
 have htl:t<m.slots.length:=by obtain⟨t',ht',h'⟩:=root_nat hs hr;omega
 have hrf:m.refs.length=m.slots.length:=(shapeE_zero hs).2.2.1
 have hlen:(tableO m (n / 4)).length=4:=ckE_len (tableO_ok hs hr).1
 have I0:=h.below b0
 have hlk:=lookErr_is I0 (n:Int) (lookE_of hC hn)
 have e4:((n / 4:Nat):Int)=(n:Int) / 4:=by omega
 have hq1:((n:Int) / 4).toNat=n / 4:=by omega
 have hq2:((n:Int) % 4).toNat=n % 4:=by omega
 have hri:(n:Int) / 4<(m.root.length:Int):=by omega
 have h4:n % 4<4:=by omega
 have h4i:(n:Int) % 4<4:=by omega
 have h16:n<16:=by omega
 have h0q:¬(n:Int) / 4<0:=by omega
 have h0r:¬(n:Int) % 4<0:=by omega
 have h0a:0≤(n:Int) / 4:=by omega
 have h0b:0≤(n:Int) % 4:=by omega
 have hpz:((page.size:Int) != 4)=false:=by rw [hp];rfl
 have HR0:Hid (((w.alloc (.cells #[.int .i64 m.guest,.slice (some ⟨rb,ro,none⟩) m.root.length rc,.slice sa m.slots.length sc,.slice (some ⟨fb,fo,none⟩) m.refs.length fc,.slice na m.snaps.length nc] 27)).alloc (.cells #[.int .i64 0,.slice none 0 0,.slice none 0 0,.slice none 0 0,.slice none 0 0] 27)).cell? ⟨rb,ro+n / 4,none⟩=some (.int .i64 (t:Int))∧rb<((w.alloc (.cells #[.int .i64 m.guest,.slice (some ⟨rb,ro,none⟩) m.root.length rc,.slice sa m.slots.length sc,.slice (some ⟨fb,fo,none⟩) m.refs.length fc,.slice na m.snaps.length nc] 27)).alloc (.cells #[.int .i64 0,.slice none 0 0,.slice none 0 0,.slice none 0 0,.slice none 0 0] 27)).heap.size):=⟨by rw [←ht];exact (b0.cell (p:=⟨rb,ro+n / 4,none⟩) hrl).trans (hrc (n / 4) hr),Nat.lt_of_lt_of_le hrl b0.size⟩
 have HF0:Hid (∀j,j<m.refs.length→((w.alloc (.cells #[.int .i64 m.guest,.slice (some ⟨rb,ro,none⟩) m.root.length rc,.slice sa m.slots.length sc,.slice (some ⟨fb,fo,none⟩) m.refs.length fc,.slice na m.snaps.length nc] 27)).alloc (.cells #[.int .i64 0,.slice none 0 0,.slice none 0 0,.slice none 0 0,.slice none 0 0] 27)).cell? ⟨fb,fo+j,none⟩=some (.int .i64 (m.refs.getD j 0))∧fb<((w.alloc (.cells #[.int .i64 m.guest,.slice (some ⟨rb,ro,none⟩) m.root.length rc,.slice sa m.slots.length sc,.slice (some ⟨fb,fo,none⟩) m.refs.length fc,.slice na m.snaps.length nc] 27)).alloc (.cells #[.int .i64 0,.slice none 0 0,.slice none 0 0,.slice none 0 0,.slice none 0 0] 27)).heap.size):=fun j hj=>⟨(b0.cell (p:=⟨fb,fo+j,none⟩) hfl).trans (hfc j hj),Nat.lt_of_lt_of_le hfl b0.size⟩
 have HP:Hid (checkE m=0∧shapeE m=0∧m.root.getD (n / 4) 0=(t:Int)∧lookV m m.root n=e∧(n:Int)<m.guest∧(tableO m (n / 4)).length=4∧m.refs.length=m.slots.length∧page.size=4):=⟨hC,hs,ht,he,hn,hlen,hrf,hp⟩
 clear h hrc hrl hfc hfl hC hs hgt hrt hn ht he hlen hrf hp
 have HM:Hid ({ m with slots:=m.slots.set e.toNat ((m.slots.getD e.toNat default).1,page,(m.slots.getD e.toNat default).2.2) } = M):=by
  show _=M
  rw [htbe,← hM]
  unfold kd at hke
  rw [hke]
 clear hM hke htbe
 go_enter Tryz.func35,Tryz.ntmps35
 obtain⟨c0,c1,c2,c3,c4⟩:=five m0
 go_wp2_with (go_at_call 63;refine hlk.mono ?_;rintro e1 w1 ⟨rfl,b1⟩)
 clear c0 c1 c2 c3 c4
 have hz1:w.heap.size+1<w1.heap.size:=Nat.lt_of_lt_of_le hsz b1.size
 have n0:=cells_below m0 b1 (by omega)
 have n1:=cells_below m1 b1 hsz
 have I1:=I0.below b1
 have bw:Below w.heap.size w w1:=Below.on b0 b1
 have cR:w1.cell? ⟨rb,ro+n / 4,none⟩=some (.int .i64 (t:Int)):=(b1.cell (p:=⟨rb,ro+n / 4,none⟩) HR0.out.2).trans HR0.out.1
 have rl1:rb<w1.heap.size:=Nat.lt_of_lt_of_le HR0.out.2 b1.size
 have HF:Hid (∀j,j<m.refs.length→w1.cell? ⟨fb,fo+j,none⟩=some (.int .i64 (m.refs.getD j 0))∧fb<w1.heap.size):=fun j hj=>⟨(b1.cell (p:=⟨fb,fo+j,none⟩) (HF0.out j hj).2).trans (HF0.out j hj).1,Nat.lt_of_lt_of_le (HF0.out j hj).2 b1.size⟩
 have HLk:Hid (∀W,Below w1.heap.size w1 W→Calls Tryz.prog 50 #[.agg #[.int .i64 m.guest,.slice (some ⟨rb,ro,none⟩) m.root.length rc,.slice sa m.slots.length sc,.slice (some ⟨fb,fo,none⟩) m.refs.length fc,.slice na m.snaps.length nc],.int .i64 (n:Int)] W fun r w'=>r=.returned (.int .i64 e)∧Below W.heap.size W w'):=fun W hW=>lookOf_is (I1.below hW) (n:Int) (lookE_of HP.out.1 HP.out.2.2.2.2.1) (by rw [Int.toNat_natCast];exact HP.out.2.2.2.1)
 have HOw:Hid (∀W,Below w1.heap.size w1 W→Calls Tryz.prog 64 #[.agg #[.int .i64 m.guest,.slice (some ⟨rb,ro,none⟩) m.root.length rc,.slice sa m.slots.length sc,.slice (some ⟨fb,fo,none⟩) m.refs.length fc,.slice na m.snaps.length nc]] W fun r w'=>∃val,r=.returned (imgV m.guest val)∧OX w' W.heap.size val m∧Below W.heap.size W w'):=fun W hW=>ownImage_is (I1.below hW) HP.out.2.1
 have HTb:Hid (∀W,Below w1.heap.size w1 W→Calls Tryz.prog 67 #[.agg #[.int .i64 m.guest,.slice (some ⟨rb,ro,none⟩) m.root.length rc,.slice sa m.slots.length sc,.slice (some ⟨fb,fo,none⟩) m.refs.length fc,.slice na m.snaps.length nc],.int .i64 (t:Int)] W fun r w'=>∃g cap,r=.returned (.slice (some ⟨g,0,none⟩) 4 cap)∧w'.ownsRow W.heap.size 3 1 (.slice (some ⟨g,0,none⟩) 4 cap) 4 (ints (tableO m (n / 4)))∧W.heap.size≤g∧Below W.heap.size W w'):=fun W hW=>by
  have e:=tabAt_O HP.out.2.2.1
  refine (tableOf_is (I1.below hW) htl (by rw [e,HP.out.2.2.2.2.2.1];decide)).mono ?_
  rintro r w' ⟨v,rfl,h1,h2,h3⟩
  rw [e,HP.out.2.2.2.2.2.1] at h1
  obtain⟨g,cap,rfl⟩:=row_some h1
  exact⟨g,cap,rfl,h1,h2 g rfl,h3⟩
 clear b0 b1 m0 m1 I0 I1 HR0 HF0 hlk hsz
 refine wp_region_held_drew (S:=(fun X:World=>X.heap[w.heap.size]? = some (.cells #[.int .i64 m.guest,.slice (some ⟨rb,ro,none⟩) m.root.length rc,.slice sa m.slots.length sc,.slice (some ⟨fb,fo,none⟩) m.refs.length fc,.slice na m.snaps.length nc] 27)∧X.cell? ⟨rb,ro+n / 4,none⟩=some (.int .i64 (t:Int)))) (by kernel_rfl) ⟨n0,cR⟩ (fun hHeld=>?_)
 refine tkH 0 (.pointer (some ⟨w.heap.size,1,none⟩)) rfl (Or.inl ⟨by rfl,fun w' hSw=>by obtain⟨qa,qb⟩:=hSw;obtain⟨j0,j1,j2,j3,j4⟩:=five qa;go_simp⟩) hHeld ?_
 simp only [lays]
 refine tkH 1 (.slice (some ⟨rb,ro,none⟩) m.root.length rc) rfl (Or.inl ⟨by rfl,fun w' hSw=>by obtain⟨qa,qb⟩:=hSw;obtain⟨j0,j1,j2,j3,j4⟩:=five qa;go_simp⟩) hHeld ?_
 simp only [lays]
 refine tkH 2 (.int .i64 ((n:Int) / 4)) rfl (Or.inl ⟨by rfl,fun w' hSw=>by obtain⟨qa,qb⟩:=hSw;obtain⟨j0,j1,j2,j3,j4⟩:=five qa;go_simp⟩) hHeld ?_
 simp only [lays]
 refine tkH 3 (.pointer (some ⟨rb,ro+n / 4,none⟩)) rfl (Or.inl ⟨by rfl,fun w' hSw=>by obtain⟨qa,qb⟩:=hSw;obtain⟨j0,j1,j2,j3,j4⟩:=five qa;go_simp⟩) hHeld ?_
 simp only [lays]
 refine tkH 4 (.int .i64 (t:Int)) rfl (Or.inl ⟨by rfl,fun w' hSw=>by obtain⟨qa,qb⟩:=hSw;obtain⟨j0,j1,j2,j3,j4⟩:=five qa;go_simp⟩) hHeld ?_
 simp only [lays]
 refine tkH 5 (.agg #[.int .i64 m.guest,.slice (some ⟨rb,ro,none⟩) m.root.length rc,.slice sa m.slots.length sc,.slice (some ⟨fb,fo,none⟩) m.refs.length fc,.slice na m.snaps.length nc]) rfl (Or.inl ⟨by rfl,fun w' hSw=>by obtain⟨qa,qb⟩:=hSw;obtain⟨j0,j1,j2,j3,j4⟩:=five qa;go_simp⟩) hHeld ?_
 simp only [lays]
 refine tkH 6 (.int .i64 (n:Int)) rfl (Or.inl ⟨by rfl,fun w' hSw=>by obtain⟨qa,qb⟩:=hSw;obtain⟨j0,j1,j2,j3,j4⟩:=five qa;go_simp⟩) hHeld ?_
 simp only [lays]
 refine wpAnyH_ready (rs:=[7]) (by kernel_rfl) (by simp) ?_
 refine AllReadyH.cons rfl (fun K hK=>?_) AllReadyH.nil
 clear hHeld
 simp only [lays]
 rw [if_pos (by rfl)]
 go_wp2_with (go_at_call 50;refine (HLk.out _ (to_drew (Below.refl _ _))).mono ?_;rintro e2 w2 ⟨rfl,b2⟩)
 have b2:Below w1.heap.size w1 w2:=below_drew b2
 have k0:=cells_below n0 b2 (by omega)
 have cR2:=(b2.cell (p:=⟨rb,ro+n / 4,none⟩) rl1).trans cR
 refine hK.out _ _ ⟨k0,cR2⟩ (fun hHeld=>?_)
 clear hK K
 try simp only [lays]
 refine tkH 8 (.int .i64 (t:Int)) rfl (Or.inl ⟨by rfl,fun w' hSw=>by go_simp⟩) hHeld ?_
 simp only [lays]
 refine tkH 9 (.int .i64 e) rfl (Or.inl ⟨by rfl,fun w' hSw=>by go_simp⟩) hHeld ?_
 simp only [lays]
 clear hHeld
 refine wpAnyH_done (by kernel_rfl) ?_ _
 obtain⟨c0,c1,c2,c3,c4⟩:=five k0
 go_upto_region 9 with (go_at_call 64;refine (HOw.out w2 b2).mono ?_;rintro e3 w3 ⟨val,rfl,hO,b3⟩;obtain⟨p0,q0,p1,q1,p2,q2,p3,q3,x0,x1,x2,x3⟩:=hO.four';unfold imgV;rw [x0,x1,x2,x3])
 have s2:=b2.size
 have s3:=b3.size
 have HD0:Hid (OwR w1 (w3.alloc (.cells #[.int .i64 m.guest,.slice p0 m.root.length q0,.slice p1 m.slots.length q1,.slice p2 m.refs.length q2,.slice p3 m.snaps.length q3] 27)) w3.heap.size m):=⟨⟨val,(hO.mono s2).alloc _,by rw [x0,x1,x2,x3];exact World.alloc_heap_new _ _,hO.lt (Nat.le_refl _)⟩,by omega,(b2.trans (b3.mono s2)).alloc (by omega) _⟩
 clear hO x0 x1 x2 x3 c0 c1 c2 c3 c4 k0 cR2 HLk HOw
 have M0:=cells_below n0 HD0.out.bel (by omega)
 obtain⟨c0,c1,c2,c3,c4⟩:=five M0
 have HF3:Hid (∀j,j<m.refs.length→(w3.alloc (.cells #[.int .i64 m.guest,.slice p0 m.root.length q0,.slice p1 m.slots.length q1,.slice p2 m.refs.length q2,.slice p3 m.snaps.length q3] 27)).cell? ⟨fb,fo+j,none⟩=some (.int .i64 (m.refs.getD j 0))):=fun j hj=>(HD0.out.bel.cell (p:=⟨fb,fo+j,none⟩) (HF.out j hj).2).trans (HF.out j hj).1
 clear b2 b3 M0
 have hDw:w1.heap.size≤w3.heap.size:=HD0.out.ge
 go_cut [54] from 14 (fun s wx=>s=.bool true∧Hid (OwR w1 wx w3.heap.size m))
 case first=>
  obtain⟨en,e1,rfl⟩:∃en:Nat,1≤en∧e=(en:Int):=hin;rw [Int.toNat_natCast] at hel hre1
  have g1:decide (0<(en:Int))=true:=by simp;omega
  have ct:=HF3.out t (by have:=HP.out.2.2.2.2.2.2.1;omega)
  rw [hrt1] at ct
  have ce:=HF3.out en (by have:=HP.out.2.2.2.2.2.2.1;omega)
  rw [hre1] at ce
  have l1:(t:Int)<(m.refs.length:Int):=by have:=HP.out.2.2.2.2.2.2.1;omega
  have l2:(en:Int)<(m.refs.length:Int):=by have:=HP.out.2.2.2.2.2.2.1;omega
  go_wp2_with fail;go_meet;exact⟨rfl,HD0⟩
 case rest=>
 obtain⟨rfl,HD1⟩:=hcut
 clear HD0 HF3 c0 c1 c2 c3 c4
 obtain⟨wa,hwa⟩:∃X,X=wc:=⟨_,rfl⟩
 subst hwa
 go_upto_region 10 with fail
 obtain⟨en,e1,rfl⟩:∃en:Nat,1≤en∧e=(en:Int):=hin
 rw [Int.toNat_natCast] at hel HM
 go_cut [] from 14 (fun wx=>Hid (OwR w1 wx w3.heap.size M))
 case first=>
  obtain⟨val,hX,hbox,hfar⟩:=HD1.out.ex
  have hbel:=HD1.out.bel
  obtain⟨p0,q0,p1,q1,p2,q2,p3,q3,x0,x1,x2,x3⟩:=hX.four'
  have hbx:=hbox
  rw [x0,x1,x2,x3] at hbx
  obtain⟨d0,d1,d2,d3,d4⟩:=five hbx
  obtain⟨ao,cap,xs,hg⟩:=hX.forms .slots (LiveX.slots m)
  obtain⟨sg,rfl⟩:=hg (by show 0<m.slots.length;omega)
  rw [x1] at xs
  simp only [Value.slice.injEq] at xs
  obtain⟨rfl,_,_⟩:=xs
  have hrow:=hX.row .slots (LiveX.slots m)
  rw [x1] at hrow
  have hrow:wa.ownsRow w1.heap.size 61 3 (.slice (some ⟨sg,0,none⟩) m.slots.length q1) m.slots.length (flatS m.slots (fun j=>val (.tab j))):=hrow
  have hcl:=(hrow.cellAt (en*3+1) (by omega)).trans (flatS_get hel).2.1
  have hfz:=hrow.frozenAt (en*3+1)
  have l2:(en:Int)<(m.slots.length:Int):=by omega
  go_wp2_with fail
  go_meet
  rw [←HM.out]
  exact ow_page hX hbel hbox HD1.out.ge hfar x1 hel page
 case rest=>
 have HD9:Hid (OwR w1 wc w3.heap.size M):=hcut
 clear hcut HD1
 obtain⟨val,hX,hbox,hfar⟩:=HD9.out.ex
 have hbel:=HD9.out.bel
 obtain⟨p0,q0,p1,q1,p2,q2,p3,q3,x0,x1,x2,x3⟩:=hX.four'
 have hbx:=hbox
 rw [x0,x1,x2,x3] at hbx
 obtain⟨d0,d1,d2,d3,d4⟩:=five hbx
 have z9:=cells_below n1 hbel hz1
 obtain⟨z0,z1,z2,z3,z4⟩:=five z9
 have y0:=cells_frozen z9 0;have y1:=cells_frozen z9 1;have y2:=cells_frozen z9 2;have y3:=cells_frozen z9 3;have y4:=cells_frozen z9 4
 have nD1:¬w3.heap.size=w.heap.size+1:=by omega
 have nD2:¬w.heap.size+1=w3.heap.size:=by omega
 go_wp2_with fail
 have hfr:∀a,LiveX M a→(val a).ownBlock≠some (w.heap.size+1):=fun a ha e=>by
  have:=((hX.row a ha).lt _ e).1
  omega
 have hI:=fun a0 a1 a2 a3 a4=>hX.five hfr a0 a1 a2 a3 a4
 have eI:imgV M.guest val=.agg #[.int .i64 M.guest,.slice p0 M.root.length q0,.slice p1 M.slots.length q1,.slice p2 M.refs.length q2,.slice p3 M.snaps.length q3]:=by unfold imgV;rw [x0,x1,x2,x3]
 refine bodyPost_ret (v:=.tuple #[.agg #[.int .i64 M.guest,.slice p0 M.root.length q0,.slice p1 M.slots.length q1,.slice p2 M.refs.length q2,.slice p3 M.snaps.length q3],.int .i64 0]) (by simp [results,Tryz.results35,go_sem,z0,z1,z2,z3,z4]) rfl ⟨p0,q0,p1,q1,p2,q2,p3,q3,rfl,fun W' hW=>(by have:=((hI _ _ _ _ _).keep (fun q hq _=>hW q (by omega))).img;rw [eI] at this;exact this),below_five (Below.on bw hbel) (Nat.le_succ _) _ _ _ _ _⟩
theorem wo_f1 (rb ro rc:Nat)(sa:Option Addr)(sc:Nat)(fb fo fc:Nat)(na:Option Addr)(nc:Nat)(m:ImgD)(n:Nat)(page:ByteArray)(w:World)(h:Img w (.agg #[.int .i64 m.guest,.slice (some ⟨rb,ro,none⟩) m.root.length rc,.slice sa m.slots.length sc,.slice (some ⟨fb,fo,none⟩) m.refs.length fc,.slice na m.snaps.length nc]) m)(hrc:∀j,j<m.root.length→w.cell? ⟨rb,ro+j,none⟩=some (.int .i64 (m.root.getD j 0)))(hrl:rb<w.heap.size)(hfc:∀j,j<m.refs.length→w.cell? ⟨fb,fo+j,none⟩=some (.int .i64 (m.refs.getD j 0)))(hfl:fb<w.heap.size)(hC:checkE m=0)(hn:(n:Int)<m.guest)(hp:page.size=4)(t:Nat)(ht:m.root.getD (n / 4) 0=(t:Int))(e:Int)(he:lookV m m.root n=e)(hnot:0<e→1≤t)(hmany:1≤t→1<m.refs.getD t 0)(hg:grabN m.slots=40) :
  Calls Tryz.prog 35 #[.agg #[.int .i64 m.guest,.slice (some ⟨rb,ro,none⟩) m.root.length rc,.slice sa m.slots.length sc,.slice (some ⟨fb,fo,none⟩) m.refs.length fc,.slice na m.snaps.length nc],.int .i64 (n:Int),.string page] w (AnsJ w imgZ 7):=by
 have b0:Below w.heap.size w ((w.alloc (.cells #[.int .i64 m.guest,.slice (some ⟨rb,ro,none⟩) m.root.length rc,.slice sa m.slots.length sc,.slice (some ⟨fb,fo,none⟩) m.refs.length fc,.slice na m.snaps.length nc] 27)).alloc (.cells #[.int .i64 0,.slice none 0 0,.slice none 0 0,.slice none 0 0,.slice none 0 0] 27)):=((Below.refl _ _).alloc (Nat.le_refl _) _).alloc (by simp) _
 have m0:((w.alloc (.cells #[.int .i64 m.guest,.slice (some ⟨rb,ro,none⟩) m.root.length rc,.slice sa m.slots.length sc,.slice (some ⟨fb,fo,none⟩) m.refs.length fc,.slice na m.snaps.length nc] 27)).alloc (.cells #[.int .i64 0,.slice none 0 0,.slice none 0 0,.slice none 0 0,.slice none 0 0] 27)).heap[w.heap.size]? = some (.cells #[.int .i64 m.guest,.slice (some ⟨rb,ro,none⟩) m.root.length rc,.slice sa m.slots.length sc,.slice (some ⟨fb,fo,none⟩) m.refs.length fc,.slice na m.snaps.length nc] 27):=cells_alloc (World.alloc_heap_new _ _) _
 have m1:((w.alloc (.cells #[.int .i64 m.guest,.slice (some ⟨rb,ro,none⟩) m.root.length rc,.slice sa m.slots.length sc,.slice (some ⟨fb,fo,none⟩) m.refs.length fc,.slice na m.snaps.length nc] 27)).alloc (.cells #[.int .i64 0,.slice none 0 0,.slice none 0 0,.slice none 0 0,.slice none 0 0] 27)).heap[w.heap.size+1]? = some (.cells #[.int .i64 0,.slice none 0 0,.slice none 0 0,.slice none 0 0,.slice none 0 0] 27):=by have:=World.alloc_heap_new (w.alloc (.cells #[.int .i64 m.guest,.slice (some ⟨rb,ro,none⟩) m.root.length rc,.slice sa m.slots.length sc,.slice (some ⟨fb,fo,none⟩) m.refs.length fc,.slice na m.snaps.length nc] 27)) (.cells #[.int .i64 0,.slice none 0 0,.slice none 0 0,.slice none 0 0,.slice none 0 0] 27);simpa using this
 have hsz:w.heap.size+1<((w.alloc (.cells #[.int .i64 m.guest,.slice (some ⟨rb,ro,none⟩) m.root.length rc,.slice sa m.slots.length sc,.slice (some ⟨fb,fo,none⟩) m.refs.length fc,.slice na m.snaps.length nc] 27)).alloc (.cells #[.int .i64 0,.slice none 0 0,.slice none 0 0,.slice none 0 0,.slice none 0 0] 27)).heap.size:=by simp
 have hs:=checkE_shape hC
 have hgt:=guest_ok hs
 have hrt:=root_ok hs
 have hr:n / 4<m.root.length:=by omega
 have htl:t<m.slots.length:=by obtain⟨t',ht',h'⟩:=root_nat hs hr;omega
 have hrf:m.refs.length=m.slots.length:=(shapeE_zero hs).2.2.1
 have hlen:(tableO m (n / 4)).length=4:=ckE_len (tableO_ok hs hr).1
 have I0:=h.below b0
 have hlk:=lookErr_is I0 (n:Int) (lookE_of hC hn)
 have e4:((n / 4:Nat):Int)=(n:Int) / 4:=by omega
 have hq1:((n:Int) / 4).toNat=n / 4:=by omega
 have hq2:((n:Int) % 4).toNat=n % 4:=by omega
 have hri:(n:Int) / 4<(m.root.length:Int):=by omega
 have h4:n % 4<4:=by omega
 have h4i:(n:Int) % 4<4:=by omega
 have h16:n<16:=by omega
 have h0q:¬(n:Int) / 4<0:=by omega
 have h0r:¬(n:Int) % 4<0:=by omega
 have h0a:0≤(n:Int) / 4:=by omega
 have h0b:0≤(n:Int) % 4:=by omega
 have hpz:((page.size:Int) != 4)=false:=by rw [hp];rfl
 have HR0:Hid (((w.alloc (.cells #[.int .i64 m.guest,.slice (some ⟨rb,ro,none⟩) m.root.length rc,.slice sa m.slots.length sc,.slice (some ⟨fb,fo,none⟩) m.refs.length fc,.slice na m.snaps.length nc] 27)).alloc (.cells #[.int .i64 0,.slice none 0 0,.slice none 0 0,.slice none 0 0,.slice none 0 0] 27)).cell? ⟨rb,ro+n / 4,none⟩=some (.int .i64 (t:Int))∧rb<((w.alloc (.cells #[.int .i64 m.guest,.slice (some ⟨rb,ro,none⟩) m.root.length rc,.slice sa m.slots.length sc,.slice (some ⟨fb,fo,none⟩) m.refs.length fc,.slice na m.snaps.length nc] 27)).alloc (.cells #[.int .i64 0,.slice none 0 0,.slice none 0 0,.slice none 0 0,.slice none 0 0] 27)).heap.size):=⟨by rw [←ht];exact (b0.cell (p:=⟨rb,ro+n / 4,none⟩) hrl).trans (hrc (n / 4) hr),Nat.lt_of_lt_of_le hrl b0.size⟩
 have HF0:Hid (∀j,j<m.refs.length→((w.alloc (.cells #[.int .i64 m.guest,.slice (some ⟨rb,ro,none⟩) m.root.length rc,.slice sa m.slots.length sc,.slice (some ⟨fb,fo,none⟩) m.refs.length fc,.slice na m.snaps.length nc] 27)).alloc (.cells #[.int .i64 0,.slice none 0 0,.slice none 0 0,.slice none 0 0,.slice none 0 0] 27)).cell? ⟨fb,fo+j,none⟩=some (.int .i64 (m.refs.getD j 0))∧fb<((w.alloc (.cells #[.int .i64 m.guest,.slice (some ⟨rb,ro,none⟩) m.root.length rc,.slice sa m.slots.length sc,.slice (some ⟨fb,fo,none⟩) m.refs.length fc,.slice na m.snaps.length nc] 27)).alloc (.cells #[.int .i64 0,.slice none 0 0,.slice none 0 0,.slice none 0 0,.slice none 0 0] 27)).heap.size):=fun j hj=>⟨(b0.cell (p:=⟨fb,fo+j,none⟩) hfl).trans (hfc j hj),Nat.lt_of_lt_of_le hfl b0.size⟩
 have HP:Hid (checkE m=0∧shapeE m=0∧m.root.getD (n / 4) 0=(t:Int)∧lookV m m.root n=e∧(n:Int)<m.guest∧(tableO m (n / 4)).length=4∧m.refs.length=m.slots.length∧page.size=4):=⟨hC,hs,ht,he,hn,hlen,hrf,hp⟩
 clear h hrc hrl hfc hfl hC hs hgt hrt hn ht he hlen hrf hp
 have HG:Hid (grabN m.slots=40∧1≤m.slots.length∧m.slots.length≤40):=⟨hg,slotsE_parts (shapeE_zero HP.out.2.1).2.1⟩
 clear hg
 go_enter Tryz.func35,Tryz.ntmps35
 obtain⟨c0,c1,c2,c3,c4⟩:=five m0
 go_wp2_with (go_at_call 63;refine hlk.mono ?_;rintro e1 w1 ⟨rfl,b1⟩)
 clear c0 c1 c2 c3 c4
 have hz1:w.heap.size+1<w1.heap.size:=Nat.lt_of_lt_of_le hsz b1.size
 have n0:=cells_below m0 b1 (by omega)
 have n1:=cells_below m1 b1 hsz
 have I1:=I0.below b1
 have bw:Below w.heap.size w w1:=Below.on b0 b1
 have cR:w1.cell? ⟨rb,ro+n / 4,none⟩=some (.int .i64 (t:Int)):=(b1.cell (p:=⟨rb,ro+n / 4,none⟩) HR0.out.2).trans HR0.out.1
 have rl1:rb<w1.heap.size:=Nat.lt_of_lt_of_le HR0.out.2 b1.size
 have HF:Hid (∀j,j<m.refs.length→w1.cell? ⟨fb,fo+j,none⟩=some (.int .i64 (m.refs.getD j 0))∧fb<w1.heap.size):=fun j hj=>⟨(b1.cell (p:=⟨fb,fo+j,none⟩) (HF0.out j hj).2).trans (HF0.out j hj).1,Nat.lt_of_lt_of_le (HF0.out j hj).2 b1.size⟩
 have HLk:Hid (∀W,Below w1.heap.size w1 W→Calls Tryz.prog 50 #[.agg #[.int .i64 m.guest,.slice (some ⟨rb,ro,none⟩) m.root.length rc,.slice sa m.slots.length sc,.slice (some ⟨fb,fo,none⟩) m.refs.length fc,.slice na m.snaps.length nc],.int .i64 (n:Int)] W fun r w'=>r=.returned (.int .i64 e)∧Below W.heap.size W w'):=fun W hW=>lookOf_is (I1.below hW) (n:Int) (lookE_of HP.out.1 HP.out.2.2.2.2.1) (by rw [Int.toNat_natCast];exact HP.out.2.2.2.1)
 have HOw:Hid (∀W,Below w1.heap.size w1 W→Calls Tryz.prog 64 #[.agg #[.int .i64 m.guest,.slice (some ⟨rb,ro,none⟩) m.root.length rc,.slice sa m.slots.length sc,.slice (some ⟨fb,fo,none⟩) m.refs.length fc,.slice na m.snaps.length nc]] W fun r w'=>∃val,r=.returned (imgV m.guest val)∧OX w' W.heap.size val m∧Below W.heap.size W w'):=fun W hW=>ownImage_is (I1.below hW) HP.out.2.1
 have HTb:Hid (∀W,Below w1.heap.size w1 W→Calls Tryz.prog 67 #[.agg #[.int .i64 m.guest,.slice (some ⟨rb,ro,none⟩) m.root.length rc,.slice sa m.slots.length sc,.slice (some ⟨fb,fo,none⟩) m.refs.length fc,.slice na m.snaps.length nc],.int .i64 (t:Int)] W fun r w'=>∃g cap,r=.returned (.slice (some ⟨g,0,none⟩) 4 cap)∧w'.ownsRow W.heap.size 3 1 (.slice (some ⟨g,0,none⟩) 4 cap) 4 (ints (tableO m (n / 4)))∧W.heap.size≤g∧Below W.heap.size W w'):=fun W hW=>by
  have e:=tabAt_O HP.out.2.2.1
  refine (tableOf_is (I1.below hW) htl (by rw [e,HP.out.2.2.2.2.2.1];decide)).mono ?_
  rintro r w' ⟨v,rfl,h1,h2,h3⟩
  rw [e,HP.out.2.2.2.2.2.1] at h1
  obtain⟨g,cap,rfl⟩:=row_some h1
  exact⟨g,cap,rfl,h1,h2 g rfl,h3⟩
 clear b0 b1 m0 m1 I0 I1 HR0 HF0 hlk hsz
 refine wp_region_held_drew (S:=(fun X:World=>X.heap[w.heap.size]? = some (.cells #[.int .i64 m.guest,.slice (some ⟨rb,ro,none⟩) m.root.length rc,.slice sa m.slots.length sc,.slice (some ⟨fb,fo,none⟩) m.refs.length fc,.slice na m.snaps.length nc] 27)∧X.cell? ⟨rb,ro+n / 4,none⟩=some (.int .i64 (t:Int)))) (by kernel_rfl) ⟨n0,cR⟩ (fun hHeld=>?_)
 refine tkH 0 (.pointer (some ⟨w.heap.size,1,none⟩)) rfl (Or.inl ⟨by rfl,fun w' hSw=>by obtain⟨qa,qb⟩:=hSw;obtain⟨j0,j1,j2,j3,j4⟩:=five qa;go_simp⟩) hHeld ?_
 simp only [lays]
 refine tkH 1 (.slice (some ⟨rb,ro,none⟩) m.root.length rc) rfl (Or.inl ⟨by rfl,fun w' hSw=>by obtain⟨qa,qb⟩:=hSw;obtain⟨j0,j1,j2,j3,j4⟩:=five qa;go_simp⟩) hHeld ?_
 simp only [lays]
 refine tkH 2 (.int .i64 ((n:Int) / 4)) rfl (Or.inl ⟨by rfl,fun w' hSw=>by obtain⟨qa,qb⟩:=hSw;obtain⟨j0,j1,j2,j3,j4⟩:=five qa;go_simp⟩) hHeld ?_
 simp only [lays]
 refine tkH 3 (.pointer (some ⟨rb,ro+n / 4,none⟩)) rfl (Or.inl ⟨by rfl,fun w' hSw=>by obtain⟨qa,qb⟩:=hSw;obtain⟨j0,j1,j2,j3,j4⟩:=five qa;go_simp⟩) hHeld ?_
 simp only [lays]
 refine tkH 4 (.int .i64 (t:Int)) rfl (Or.inl ⟨by rfl,fun w' hSw=>by obtain⟨qa,qb⟩:=hSw;obtain⟨j0,j1,j2,j3,j4⟩:=five qa;go_simp⟩) hHeld ?_
 simp only [lays]
 refine tkH 5 (.agg #[.int .i64 m.guest,.slice (some ⟨rb,ro,none⟩) m.root.length rc,.slice sa m.slots.length sc,.slice (some ⟨fb,fo,none⟩) m.refs.length fc,.slice na m.snaps.length nc]) rfl (Or.inl ⟨by rfl,fun w' hSw=>by obtain⟨qa,qb⟩:=hSw;obtain⟨j0,j1,j2,j3,j4⟩:=five qa;go_simp⟩) hHeld ?_
 simp only [lays]
 refine tkH 6 (.int .i64 (n:Int)) rfl (Or.inl ⟨by rfl,fun w' hSw=>by obtain⟨qa,qb⟩:=hSw;obtain⟨j0,j1,j2,j3,j4⟩:=five qa;go_simp⟩) hHeld ?_
 simp only [lays]
 refine wpAnyH_ready (rs:=[7]) (by kernel_rfl) (by simp) ?_
 refine AllReadyH.cons rfl (fun K hK=>?_) AllReadyH.nil
 clear hHeld
 simp only [lays]
 rw [if_pos (by rfl)]
 go_wp2_with (go_at_call 50;refine (HLk.out _ (to_drew (Below.refl _ _))).mono ?_;rintro e2 w2 ⟨rfl,b2⟩)
 have b2:Below w1.heap.size w1 w2:=below_drew b2
 have k0:=cells_below n0 b2 (by omega)
 have cR2:=(b2.cell (p:=⟨rb,ro+n / 4,none⟩) rl1).trans cR
 refine hK.out _ _ ⟨k0,cR2⟩ (fun hHeld=>?_)
 clear hK K
 try simp only [lays]
 refine tkH 8 (.int .i64 (t:Int)) rfl (Or.inl ⟨by rfl,fun w' hSw=>by go_simp⟩) hHeld ?_
 simp only [lays]
 refine tkH 9 (.int .i64 e) rfl (Or.inl ⟨by rfl,fun w' hSw=>by go_simp⟩) hHeld ?_
 simp only [lays]
 clear hHeld
 refine wpAnyH_done (by kernel_rfl) ?_ _
 obtain⟨c0,c1,c2,c3,c4⟩:=five k0
 go_upto_region 9 with (go_at_call 64;refine (HOw.out w2 b2).mono ?_;rintro e3 w3 ⟨val,rfl,hO,b3⟩;obtain⟨p0,q0,p1,q1,p2,q2,p3,q3,x0,x1,x2,x3⟩:=hO.four';unfold imgV;rw [x0,x1,x2,x3])
 have s2:=b2.size
 have s3:=b3.size
 have HD0:Hid (OwR w1 (w3.alloc (.cells #[.int .i64 m.guest,.slice p0 m.root.length q0,.slice p1 m.slots.length q1,.slice p2 m.refs.length q2,.slice p3 m.snaps.length q3] 27)) w3.heap.size m):=⟨⟨val,(hO.mono s2).alloc _,by rw [x0,x1,x2,x3];exact World.alloc_heap_new _ _,hO.lt (Nat.le_refl _)⟩,by omega,(b2.trans (b3.mono s2)).alloc (by omega) _⟩
 clear hO x0 x1 x2 x3 c0 c1 c2 c3 c4 k0 cR2 HLk HOw
 have M0:=cells_below n0 HD0.out.bel (by omega)
 obtain⟨c0,c1,c2,c3,c4⟩:=five M0
 have HF3:Hid (∀j,j<m.refs.length→(w3.alloc (.cells #[.int .i64 m.guest,.slice p0 m.root.length q0,.slice p1 m.slots.length q1,.slice p2 m.refs.length q2,.slice p3 m.snaps.length q3] 27)).cell? ⟨fb,fo+j,none⟩=some (.int .i64 (m.refs.getD j 0))):=fun j hj=>(HD0.out.bel.cell (p:=⟨fb,fo+j,none⟩) (HF.out j hj).2).trans (HF.out j hj).1
 clear b2 b3 M0
 have hDw:w1.heap.size≤w3.heap.size:=HD0.out.ge
 go_cut [54] from 14 (fun s wx=>s=.bool false∧Hid (OwR w1 wx w3.heap.size m))
 case first=>
  by_cases hpos:0<e
  ·obtain⟨en,rfl⟩:=Int.eq_ofNat_of_zero_le (Int.le_of_lt hpos)
   have g1:decide (0<(en:Int))=true:=by simpa using hpos
   have ct:=HF3.out t (by have:=HP.out.2.2.2.2.2.2.1;omega)
   have l1:(t:Int)<(m.refs.length:Int):=by have:=HP.out.2.2.2.2.2.2.1;omega
   obtain⟨xt,hxt⟩:∃x,m.refs.getD t 0=x:=⟨_,rfl⟩
   have hrt2:=hmany (hnot hpos)
   rw [hxt] at ct hrt2
   have g3:(xt == 1)=false:=by simp;omega
   clear hxt hrt2 hnot hmany
   go_wp2_with fail;go_meet;exact⟨rfl,HD0⟩
  ·have g1:decide (0<e)=false:=by simpa using hpos
   go_wp2_with fail;go_meet;exact⟨rfl,HD0⟩
 case rest=>
 obtain⟨rfl,HD1⟩:=hcut
 clear HD0 HF3 c0 c1 c2 c3 c4
 obtain⟨wa,hwa⟩:∃X,X=wc:=⟨_,rfl⟩
 subst hwa
 go_upto_region 12 with fail
 have M0:=cells_below n0 HD1.out.bel (by omega)
 obtain⟨c0,c1,c2,c3,c4⟩:=five M0
 have HF1:Hid (∀j,j<m.refs.length→wa.cell? ⟨fb,fo+j,none⟩=some (.int .i64 (m.refs.getD j 0))):=fun j hj=>(HD1.out.bel.cell (p:=⟨fb,fo+j,none⟩) (HF.out j hj).2).trans (HF.out j hj).1
 go_cut [71] from 14 (fun s wx=>s=.bool true∧Hid (OwR w1 wx w3.heap.size m))
 case first=>
  rcases Nat.eq_zero_or_pos t with h0 | h1
  ·subst h0
   go_wp2_with fail;go_meet;exact⟨rfl,HD1⟩
  ·have g1:((t:Int) == 0)=false:=by simp;omega
   have ct:=HF1.out t (by have:=HP.out.2.2.2.2.2.2.1;omega)
   obtain⟨xt,hxt⟩:∃x,m.refs.getD t 0=x:=⟨_,rfl⟩
   have hrt2:=hmany h1
   rw [hxt] at ct hrt2
   have l1:(t:Int)<(m.refs.length:Int):=by have:=HP.out.2.2.2.2.2.2.1;omega
   have g3:decide (1<xt)=true:=by simp;omega
   clear hxt hmany
   go_wp2_with fail;go_meet;exact⟨rfl,HD1⟩
 case rest=>
 obtain⟨rfl,HD2⟩:=hcut
 clear HD1 HF1 M0 c0 c1 c2 c3 c4
 obtain⟨wb,hwb⟩:∃X,X=wc:=⟨_,rfl⟩
 subst hwb
 obtain⟨val,hX,hbox,hfar⟩:=HD2.out.ex
 have hbel:=HD2.out.bel
 obtain⟨p0,q0,p1,q1,p2,q2,p3,q3,x0,x1,x2,x3⟩:=hX.four'
 have hbx:=hbox
 rw [x0,x1,x2,x3] at hbx
 obtain⟨d0,d1,d2,d3,d4⟩:=five hbx
 have hS:Slots wb (val .slots) m.slots:=Img.four (show Img wb (.agg #[_,_,_,_,_]) m from hX.img) |>.2.1
 have hG:=grabOf_wide hS HG.out.2.1 HG.out.2.2 (c:=0) (if_pos HG.out.1)
 rw [x1] at hG
 have z9:=cells_below n1 hbel hz1
 obtain⟨z0,z1,z2,z3,z4⟩:=five z9
 have y0:=cells_frozen z9 0;have y1:=cells_frozen z9 1;have y2:=cells_frozen z9 2;have y3:=cells_frozen z9 3;have y4:=cells_frozen z9 4
 have nD1:¬w3.heap.size=w.heap.size+1:=by omega
 have nD2:¬w.heap.size+1=w3.heap.size:=by omega
 clear hX hbox hfar hbx HTb cR rl1 HF
 go_wp2_with (go_at_call 65;refine hG.mono ?_;rintro e4 w4 ⟨rfl,hw⟩;rw [hw];clear hw)
 have hBz:Below w.heap.size w wb:=Below.on bw HD2.out.bel
 refine bodyPost_ret (v:=.tuple #[.agg #[.int .i64 0,.slice none 0 0,.slice none 0 0,.slice none 0 0,.slice none 0 0],.int .i64 7]) (by simp [results,Tryz.results35,go_sem,z0,z1,z2,z3,z4]) rfl ⟨none,0,none,0,none,0,none,0,rfl,fun W' _=>imgZ_im W',below_five hBz (Nat.le_succ _) _ _ _ _ _⟩
set_option maxHeartbeats 16000000 in
theorem wo_nf (rb ro rc:Nat)(sa:Option Addr)(sc:Nat)(fb fo fc:Nat)(na:Option Addr)(nc:Nat)(m:ImgD)(n:Nat)(page:ByteArray)(w:World)(h:Img w (.agg #[.int .i64 m.guest,.slice (some ⟨rb,ro,none⟩) m.root.length rc,.slice sa m.slots.length sc,.slice (some ⟨fb,fo,none⟩) m.refs.length fc,.slice na m.snaps.length nc]) m)(hrc:∀j,j<m.root.length→w.cell? ⟨rb,ro+j,none⟩=some (.int .i64 (m.root.getD j 0)))(hrl:rb<w.heap.size)(hfc:∀j,j<m.refs.length→w.cell? ⟨fb,fo+j,none⟩=some (.int .i64 (m.refs.getD j 0)))(hfl:fb<w.heap.size)(hC:checkE m=0)(hn:(n:Int)<m.guest)(hp:page.size=4)(t:Nat)(ht:m.root.getD (n / 4) 0=(t:Int))(e:Int)(he:lookV m m.root n=e)(tn dn:Nat)(htn:tabN m (n / 4)=tn)(M1:ImgD)(hM1:wo1 m n=M1)(hnot:0<e→1≤t)(hmany:1≤t→1<m.refs.getD t 0)(HG:Hid (grabN m.slots=tn∧1≤m.slots.length∧m.slots.length≤40∧tn<40∧1≤tn∧tn≤m.slots.length))(HT:Hid (1≤M1.slots.length∧M1.slots.length≤40∧(if grabN M1.slots=40 then (0:Int) else grabN M1.slots)=0)) :
  Calls Tryz.prog 35 #[.agg #[.int .i64 m.guest,.slice (some ⟨rb,ro,none⟩) m.root.length rc,.slice sa m.slots.length sc,.slice (some ⟨fb,fo,none⟩) m.refs.length fc,.slice na m.snaps.length nc],.int .i64 (n:Int),.string page] w (AnsJ w imgZ 7):=by
 have b0:Below w.heap.size w ((w.alloc (.cells #[.int .i64 m.guest,.slice (some ⟨rb,ro,none⟩) m.root.length rc,.slice sa m.slots.length sc,.slice (some ⟨fb,fo,none⟩) m.refs.length fc,.slice na m.snaps.length nc] 27)).alloc (.cells #[.int .i64 0,.slice none 0 0,.slice none 0 0,.slice none 0 0,.slice none 0 0] 27)):=((Below.refl _ _).alloc (Nat.le_refl _) _).alloc (by simp) _
 have m0:((w.alloc (.cells #[.int .i64 m.guest,.slice (some ⟨rb,ro,none⟩) m.root.length rc,.slice sa m.slots.length sc,.slice (some ⟨fb,fo,none⟩) m.refs.length fc,.slice na m.snaps.length nc] 27)).alloc (.cells #[.int .i64 0,.slice none 0 0,.slice none 0 0,.slice none 0 0,.slice none 0 0] 27)).heap[w.heap.size]? = some (.cells #[.int .i64 m.guest,.slice (some ⟨rb,ro,none⟩) m.root.length rc,.slice sa m.slots.length sc,.slice (some ⟨fb,fo,none⟩) m.refs.length fc,.slice na m.snaps.length nc] 27):=cells_alloc (World.alloc_heap_new _ _) _
 have m1:((w.alloc (.cells #[.int .i64 m.guest,.slice (some ⟨rb,ro,none⟩) m.root.length rc,.slice sa m.slots.length sc,.slice (some ⟨fb,fo,none⟩) m.refs.length fc,.slice na m.snaps.length nc] 27)).alloc (.cells #[.int .i64 0,.slice none 0 0,.slice none 0 0,.slice none 0 0,.slice none 0 0] 27)).heap[w.heap.size+1]? = some (.cells #[.int .i64 0,.slice none 0 0,.slice none 0 0,.slice none 0 0,.slice none 0 0] 27):=by have:=World.alloc_heap_new (w.alloc (.cells #[.int .i64 m.guest,.slice (some ⟨rb,ro,none⟩) m.root.length rc,.slice sa m.slots.length sc,.slice (some ⟨fb,fo,none⟩) m.refs.length fc,.slice na m.snaps.length nc] 27)) (.cells #[.int .i64 0,.slice none 0 0,.slice none 0 0,.slice none 0 0,.slice none 0 0] 27);simpa using this
 have hsz:w.heap.size+1<((w.alloc (.cells #[.int .i64 m.guest,.slice (some ⟨rb,ro,none⟩) m.root.length rc,.slice sa m.slots.length sc,.slice (some ⟨fb,fo,none⟩) m.refs.length fc,.slice na m.snaps.length nc] 27)).alloc (.cells #[.int .i64 0,.slice none 0 0,.slice none 0 0,.slice none 0 0,.slice none 0 0] 27)).heap.size:=by simp
 have hs:=checkE_shape hC
 have hgt:=guest_ok hs
 have hrt:=root_ok hs
 have hr:n / 4<m.root.length:=by omega
 have htl:t<m.slots.length:=by obtain⟨t',ht',h'⟩:=root_nat hs hr;omega
 have hrf:m.refs.length=m.slots.length:=(shapeE_zero hs).2.2.1
 have hlen:(tableO m (n / 4)).length=4:=ckE_len (tableO_ok hs hr).1
 have I0:=h.below b0
 have hlk:=lookErr_is I0 (n:Int) (lookE_of hC hn)
 have e4:((n / 4:Nat):Int)=(n:Int) / 4:=by omega
 have hq1:((n:Int) / 4).toNat=n / 4:=by omega
 have hq2:((n:Int) % 4).toNat=n % 4:=by omega
 have hri:(n:Int) / 4<(m.root.length:Int):=by omega
 have h4:n % 4<4:=by omega
 have h4i:(n:Int) % 4<4:=by omega
 have h16:n<16:=by omega
 have h0q:¬(n:Int) / 4<0:=by omega
 have h0r:¬(n:Int) % 4<0:=by omega
 have h0a:0≤(n:Int) / 4:=by omega
 have h0b:0≤(n:Int) % 4:=by omega
 have hpz:((page.size:Int) != 4)=false:=by rw [hp];rfl
 have HR0:Hid (((w.alloc (.cells #[.int .i64 m.guest,.slice (some ⟨rb,ro,none⟩) m.root.length rc,.slice sa m.slots.length sc,.slice (some ⟨fb,fo,none⟩) m.refs.length fc,.slice na m.snaps.length nc] 27)).alloc (.cells #[.int .i64 0,.slice none 0 0,.slice none 0 0,.slice none 0 0,.slice none 0 0] 27)).cell? ⟨rb,ro+n / 4,none⟩=some (.int .i64 (t:Int))∧rb<((w.alloc (.cells #[.int .i64 m.guest,.slice (some ⟨rb,ro,none⟩) m.root.length rc,.slice sa m.slots.length sc,.slice (some ⟨fb,fo,none⟩) m.refs.length fc,.slice na m.snaps.length nc] 27)).alloc (.cells #[.int .i64 0,.slice none 0 0,.slice none 0 0,.slice none 0 0,.slice none 0 0] 27)).heap.size):=⟨by rw [←ht];exact (b0.cell (p:=⟨rb,ro+n / 4,none⟩) hrl).trans (hrc (n / 4) hr),Nat.lt_of_lt_of_le hrl b0.size⟩
 have HF0:Hid (∀j,j<m.refs.length→((w.alloc (.cells #[.int .i64 m.guest,.slice (some ⟨rb,ro,none⟩) m.root.length rc,.slice sa m.slots.length sc,.slice (some ⟨fb,fo,none⟩) m.refs.length fc,.slice na m.snaps.length nc] 27)).alloc (.cells #[.int .i64 0,.slice none 0 0,.slice none 0 0,.slice none 0 0,.slice none 0 0] 27)).cell? ⟨fb,fo+j,none⟩=some (.int .i64 (m.refs.getD j 0))∧fb<((w.alloc (.cells #[.int .i64 m.guest,.slice (some ⟨rb,ro,none⟩) m.root.length rc,.slice sa m.slots.length sc,.slice (some ⟨fb,fo,none⟩) m.refs.length fc,.slice na m.snaps.length nc] 27)).alloc (.cells #[.int .i64 0,.slice none 0 0,.slice none 0 0,.slice none 0 0,.slice none 0 0] 27)).heap.size):=fun j hj=>⟨(b0.cell (p:=⟨fb,fo+j,none⟩) hfl).trans (hfc j hj),Nat.lt_of_lt_of_le hfl b0.size⟩
 have HP:Hid (checkE m=0∧shapeE m=0∧m.root.getD (n / 4) 0=(t:Int)∧lookV m m.root n=e∧(n:Int)<m.guest∧(tableO m (n / 4)).length=4∧m.refs.length=m.slots.length∧page.size=4):=⟨hC,hs,ht,he,hn,hlen,hrf,hp⟩
 clear h hrc hrl hfc hfl hC hs hgt hrt hn ht he hlen hrf hp
 have HM1:Hid (wo1 m n=M1∧tabN m (n / 4)=tn):=⟨hM1,htn⟩
 clear hM1 htn
 go_enter Tryz.func35,Tryz.ntmps35
 obtain⟨c0,c1,c2,c3,c4⟩:=five m0
 go_wp2_with (go_at_call 63;refine hlk.mono ?_;rintro e1 w1 ⟨rfl,b1⟩)
 clear c0 c1 c2 c3 c4
 have hz1:w.heap.size+1<w1.heap.size:=Nat.lt_of_lt_of_le hsz b1.size
 have n0:=cells_below m0 b1 (by omega)
 have n1:=cells_below m1 b1 hsz
 have I1:=I0.below b1
 have bw:Below w.heap.size w w1:=Below.on b0 b1
 have cR:w1.cell? ⟨rb,ro+n / 4,none⟩=some (.int .i64 (t:Int)):=(b1.cell (p:=⟨rb,ro+n / 4,none⟩) HR0.out.2).trans HR0.out.1
 have rl1:rb<w1.heap.size:=Nat.lt_of_lt_of_le HR0.out.2 b1.size
 have HF:Hid (∀j,j<m.refs.length→w1.cell? ⟨fb,fo+j,none⟩=some (.int .i64 (m.refs.getD j 0))∧fb<w1.heap.size):=fun j hj=>⟨(b1.cell (p:=⟨fb,fo+j,none⟩) (HF0.out j hj).2).trans (HF0.out j hj).1,Nat.lt_of_lt_of_le (HF0.out j hj).2 b1.size⟩
 have HLk:Hid (∀W,Below w1.heap.size w1 W→Calls Tryz.prog 50 #[.agg #[.int .i64 m.guest,.slice (some ⟨rb,ro,none⟩) m.root.length rc,.slice sa m.slots.length sc,.slice (some ⟨fb,fo,none⟩) m.refs.length fc,.slice na m.snaps.length nc],.int .i64 (n:Int)] W fun r w'=>r=.returned (.int .i64 e)∧Below W.heap.size W w'):=fun W hW=>lookOf_is (I1.below hW) (n:Int) (lookE_of HP.out.1 HP.out.2.2.2.2.1) (by rw [Int.toNat_natCast];exact HP.out.2.2.2.1)
 have HOw:Hid (∀W,Below w1.heap.size w1 W→Calls Tryz.prog 64 #[.agg #[.int .i64 m.guest,.slice (some ⟨rb,ro,none⟩) m.root.length rc,.slice sa m.slots.length sc,.slice (some ⟨fb,fo,none⟩) m.refs.length fc,.slice na m.snaps.length nc]] W fun r w'=>∃val,r=.returned (imgV m.guest val)∧OX w' W.heap.size val m∧Below W.heap.size W w'):=fun W hW=>ownImage_is (I1.below hW) HP.out.2.1
 have HTb:Hid (∀W,Below w1.heap.size w1 W→Calls Tryz.prog 67 #[.agg #[.int .i64 m.guest,.slice (some ⟨rb,ro,none⟩) m.root.length rc,.slice sa m.slots.length sc,.slice (some ⟨fb,fo,none⟩) m.refs.length fc,.slice na m.snaps.length nc],.int .i64 (t:Int)] W fun r w'=>∃g cap,r=.returned (.slice (some ⟨g,0,none⟩) 4 cap)∧w'.ownsRow W.heap.size 3 1 (.slice (some ⟨g,0,none⟩) 4 cap) 4 (ints (tableO m (n / 4)))∧W.heap.size≤g∧Below W.heap.size W w'):=fun W hW=>by
  have e:=tabAt_O HP.out.2.2.1
  refine (tableOf_is (I1.below hW) htl (by rw [e,HP.out.2.2.2.2.2.1];decide)).mono ?_
  rintro r w' ⟨v,rfl,h1,h2,h3⟩
  rw [e,HP.out.2.2.2.2.2.1] at h1
  obtain⟨g,cap,rfl⟩:=row_some h1
  exact⟨g,cap,rfl,h1,h2 g rfl,h3⟩
 clear b0 b1 m0 m1 I0 I1 HR0 HF0 hlk hsz
 refine wp_region_held_drew (S:=(fun X:World=>X.heap[w.heap.size]? = some (.cells #[.int .i64 m.guest,.slice (some ⟨rb,ro,none⟩) m.root.length rc,.slice sa m.slots.length sc,.slice (some ⟨fb,fo,none⟩) m.refs.length fc,.slice na m.snaps.length nc] 27)∧X.cell? ⟨rb,ro+n / 4,none⟩=some (.int .i64 (t:Int)))) (by kernel_rfl) ⟨n0,cR⟩ (fun hHeld=>?_)
 refine tkH 0 (.pointer (some ⟨w.heap.size,1,none⟩)) rfl (Or.inl ⟨by rfl,fun w' hSw=>by obtain⟨qa,qb⟩:=hSw;obtain⟨j0,j1,j2,j3,j4⟩:=five qa;go_simp⟩) hHeld ?_
 simp only [lays]
 refine tkH 1 (.slice (some ⟨rb,ro,none⟩) m.root.length rc) rfl (Or.inl ⟨by rfl,fun w' hSw=>by obtain⟨qa,qb⟩:=hSw;obtain⟨j0,j1,j2,j3,j4⟩:=five qa;go_simp⟩) hHeld ?_
 simp only [lays]
 refine tkH 2 (.int .i64 ((n:Int) / 4)) rfl (Or.inl ⟨by rfl,fun w' hSw=>by obtain⟨qa,qb⟩:=hSw;obtain⟨j0,j1,j2,j3,j4⟩:=five qa;go_simp⟩) hHeld ?_
 simp only [lays]
 refine tkH 3 (.pointer (some ⟨rb,ro+n / 4,none⟩)) rfl (Or.inl ⟨by rfl,fun w' hSw=>by obtain⟨qa,qb⟩:=hSw;obtain⟨j0,j1,j2,j3,j4⟩:=five qa;go_simp⟩) hHeld ?_
 simp only [lays]
 refine tkH 4 (.int .i64 (t:Int)) rfl (Or.inl ⟨by rfl,fun w' hSw=>by obtain⟨qa,qb⟩:=hSw;obtain⟨j0,j1,j2,j3,j4⟩:=five qa;go_simp⟩) hHeld ?_
 simp only [lays]
 refine tkH 5 (.agg #[.int .i64 m.guest,.slice (some ⟨rb,ro,none⟩) m.root.length rc,.slice sa m.slots.length sc,.slice (some ⟨fb,fo,none⟩) m.refs.length fc,.slice na m.snaps.length nc]) rfl (Or.inl ⟨by rfl,fun w' hSw=>by obtain⟨qa,qb⟩:=hSw;obtain⟨j0,j1,j2,j3,j4⟩:=five qa;go_simp⟩) hHeld ?_
 simp only [lays]
 refine tkH 6 (.int .i64 (n:Int)) rfl (Or.inl ⟨by rfl,fun w' hSw=>by obtain⟨qa,qb⟩:=hSw;obtain⟨j0,j1,j2,j3,j4⟩:=five qa;go_simp⟩) hHeld ?_
 simp only [lays]
 refine wpAnyH_ready (rs:=[7]) (by kernel_rfl) (by simp) ?_
 refine AllReadyH.cons rfl (fun K hK=>?_) AllReadyH.nil
 clear hHeld
 simp only [lays]
 rw [if_pos (by rfl)]
 go_wp2_with (go_at_call 50;refine (HLk.out _ (to_drew (Below.refl _ _))).mono ?_;rintro e2 w2 ⟨rfl,b2⟩)
 have b2:Below w1.heap.size w1 w2:=below_drew b2
 have k0:=cells_below n0 b2 (by omega)
 have cR2:=(b2.cell (p:=⟨rb,ro+n / 4,none⟩) rl1).trans cR
 refine hK.out _ _ ⟨k0,cR2⟩ (fun hHeld=>?_)
 clear hK K
 try simp only [lays]
 refine tkH 8 (.int .i64 (t:Int)) rfl (Or.inl ⟨by rfl,fun w' hSw=>by go_simp⟩) hHeld ?_
 simp only [lays]
 refine tkH 9 (.int .i64 e) rfl (Or.inl ⟨by rfl,fun w' hSw=>by go_simp⟩) hHeld ?_
 simp only [lays]
 clear hHeld
 refine wpAnyH_done (by kernel_rfl) ?_ _
 obtain⟨c0,c1,c2,c3,c4⟩:=five k0
 go_upto_region 9 with (go_at_call 64;refine (HOw.out w2 b2).mono ?_;rintro e3 w3 ⟨val,rfl,hO,b3⟩;obtain⟨p0,q0,p1,q1,p2,q2,p3,q3,x0,x1,x2,x3⟩:=hO.four';unfold imgV;rw [x0,x1,x2,x3])
 have s2:=b2.size
 have s3:=b3.size
 have HD0:Hid (OwR w1 (w3.alloc (.cells #[.int .i64 m.guest,.slice p0 m.root.length q0,.slice p1 m.slots.length q1,.slice p2 m.refs.length q2,.slice p3 m.snaps.length q3] 27)) w3.heap.size m):=⟨⟨val,(hO.mono s2).alloc _,by rw [x0,x1,x2,x3];exact World.alloc_heap_new _ _,hO.lt (Nat.le_refl _)⟩,by omega,(b2.trans (b3.mono s2)).alloc (by omega) _⟩
 clear hO x0 x1 x2 x3 c0 c1 c2 c3 c4 k0 cR2 HLk HOw
 have M0:=cells_below n0 HD0.out.bel (by omega)
 obtain⟨c0,c1,c2,c3,c4⟩:=five M0
 have HF3:Hid (∀j,j<m.refs.length→(w3.alloc (.cells #[.int .i64 m.guest,.slice p0 m.root.length q0,.slice p1 m.slots.length q1,.slice p2 m.refs.length q2,.slice p3 m.snaps.length q3] 27)).cell? ⟨fb,fo+j,none⟩=some (.int .i64 (m.refs.getD j 0))):=fun j hj=>(HD0.out.bel.cell (p:=⟨fb,fo+j,none⟩) (HF.out j hj).2).trans (HF.out j hj).1
 clear b2 b3 M0
 have hDw:w1.heap.size≤w3.heap.size:=HD0.out.ge
 go_cut [54] from 14 (fun s wx=>s=.bool false∧Hid (OwR w1 wx w3.heap.size m))
 case first=>
  by_cases hpos:0<e
  ·obtain⟨en,rfl⟩:=Int.eq_ofNat_of_zero_le (Int.le_of_lt hpos)
   have g1:decide (0<(en:Int))=true:=by simpa using hpos
   have ct:=HF3.out t (by have:=HP.out.2.2.2.2.2.2.1;omega)
   have l1:(t:Int)<(m.refs.length:Int):=by have:=HP.out.2.2.2.2.2.2.1;omega
   obtain⟨xt,hxt⟩:∃x,m.refs.getD t 0=x:=⟨_,rfl⟩
   have hrt2:=hmany (hnot hpos)
   rw [hxt] at ct hrt2
   have g3:(xt == 1)=false:=by simp;omega
   clear hxt hrt2 hnot hmany
   go_wp2_with fail;go_meet;exact⟨rfl,HD0⟩
  ·have g1:decide (0<e)=false:=by simpa using hpos
   go_wp2_with fail;go_meet;exact⟨rfl,HD0⟩
 case rest=>
 obtain⟨rfl,HD1⟩:=hcut
 clear HD0 HF3 c0 c1 c2 c3 c4
 obtain⟨wa,hwa⟩:∃X,X=wc:=⟨_,rfl⟩
 subst hwa
 go_upto_region 12 with fail
 have M0:=cells_below n0 HD1.out.bel (by omega)
 obtain⟨c0,c1,c2,c3,c4⟩:=five M0
 have HF1:Hid (∀j,j<m.refs.length→wa.cell? ⟨fb,fo+j,none⟩=some (.int .i64 (m.refs.getD j 0))):=fun j hj=>(HD1.out.bel.cell (p:=⟨fb,fo+j,none⟩) (HF.out j hj).2).trans (HF.out j hj).1
 go_cut [71] from 14 (fun s wx=>s=.bool true∧Hid (OwR w1 wx w3.heap.size m))
 case first=>
  rcases Nat.eq_zero_or_pos t with h0 | h1
  ·subst h0
   go_wp2_with fail;go_meet;exact⟨rfl,HD1⟩
  ·have g1:((t:Int) == 0)=false:=by simp;omega
   have ct:=HF1.out t (by have:=HP.out.2.2.2.2.2.2.1;omega)
   obtain⟨xt,hxt⟩:∃x,m.refs.getD t 0=x:=⟨_,rfl⟩
   have hrt2:=hmany h1
   rw [hxt] at ct hrt2
   have l1:(t:Int)<(m.refs.length:Int):=by have:=HP.out.2.2.2.2.2.2.1;omega
   have g3:decide (1<xt)=true:=by simp;omega
   clear hxt hmany
   go_wp2_with fail;go_meet;exact⟨rfl,HD1⟩
 case rest=>
 obtain⟨rfl,HD2⟩:=hcut
 clear HD1 HF1 M0 c0 c1 c2 c3 c4
 obtain⟨wb,hwb⟩:∃X,X=wc:=⟨_,rfl⟩
 subst hwb
 obtain⟨val,hX,hbox,hfar⟩:=HD2.out.ex
 have hbel:=HD2.out.bel
 obtain⟨p0,q0,p1,q1,p2,q2,p3,q3,x0,x1,x2,x3⟩:=hX.four'
 have hbx:=hbox
 rw [x0,x1,x2,x3] at hbx
 obtain⟨d0,d1,d2,d3,d4⟩:=five hbx
 have hS:Slots wb (val .slots) m.slots:=Img.four (show Img wb (.agg #[_,_,_,_,_]) m from hX.img) |>.2.1
 have hG:=grabOf_wide hS HG.out.2.1 HG.out.2.2.1 (c:=(tn:Int)) (by rw [HG.out.1,if_neg (by have:=HG.out.2.2.2.1;omega)])
 rw [x1] at hG
 have htn0:((tn:Int) == 0)=false:=by have:=HG.out.2.2.2.2.1;simp;omega
 go_upto_region 16 with (go_at_call 65;refine hG.mono ?_;rintro e4 w4 ⟨rfl,hw⟩;rw [hw];clear hw)
 clear hG hS htn0 d0 d1 d2 d3 d4
 go_cut [] from 14 (fun wx=>Hid (OwR w1 wx w3.heap.size { m with slots:=tabL m (n / 4) (tableO m (n / 4)) }))
 case first=>
  have hDl:w3.heap.size<wb.heap.size:=(szH hbx)
  have MX:=cells_below n0 hbel (by omega)
  have cRa:=(hbel.cell (p:=⟨rb,ro+n / 4,none⟩) rl1).trans cR
  have hsB:=hbel.size
  refine wp_region_held_drew (S:=(fun X:World=>X.heap[w.heap.size]? = some (.cells #[.int .i64 m.guest,.slice (some ⟨rb,ro,none⟩) m.root.length rc,.slice sa m.slots.length sc,.slice (some ⟨fb,fo,none⟩) m.refs.length fc,.slice na m.snaps.length nc] 27)∧X.cell? ⟨rb,ro+n / 4,none⟩=some (.int .i64 (t:Int)))) (by kernel_rfl) ⟨MX,cRa⟩ (fun hHeld=>?_)
  refine tkH 1 (.int .i64 (tn:Int)) rfl (Or.inl ⟨by rfl,fun w' hSw=>by obtain⟨qa,qb⟩:=hSw;obtain⟨j0,j1,j2,j3,j4⟩:=five qa;go_simp⟩) hHeld ?_
  simp only [lays]
  refine tkH 2 (.agg #[.int .i64 m.guest,.slice (some ⟨rb,ro,none⟩) m.root.length rc,.slice sa m.slots.length sc,.slice (some ⟨fb,fo,none⟩) m.refs.length fc,.slice na m.snaps.length nc]) rfl (Or.inl ⟨by rfl,fun w' hSw=>by obtain⟨qa,qb⟩:=hSw;obtain⟨j0,j1,j2,j3,j4⟩:=five qa;go_simp⟩) hHeld ?_
  simp only [lays]
  refine tkH 3 (.pointer (some ⟨w.heap.size,1,none⟩)) rfl (Or.inl ⟨by rfl,fun w' hSw=>by obtain⟨qa,qb⟩:=hSw;obtain⟨j0,j1,j2,j3,j4⟩:=five qa;go_simp⟩) hHeld ?_
  simp only [lays]
  refine tkH 4 (.slice (some ⟨rb,ro,none⟩) m.root.length rc) rfl (Or.inl ⟨by rfl,fun w' hSw=>by obtain⟨qa,qb⟩:=hSw;obtain⟨j0,j1,j2,j3,j4⟩:=five qa;go_simp⟩) hHeld ?_
  simp only [lays]
  refine tkH 5 (.int .i64 ((n:Int) / 4)) rfl (Or.inl ⟨by rfl,fun w' hSw=>by obtain⟨qa,qb⟩:=hSw;obtain⟨j0,j1,j2,j3,j4⟩:=five qa;go_simp⟩) hHeld ?_
  simp only [lays]
  refine tkH 6 (.pointer (some ⟨rb,ro+n / 4,none⟩)) rfl (Or.inl ⟨by rfl,fun w' hSw=>by obtain⟨qa,qb⟩:=hSw;obtain⟨j0,j1,j2,j3,j4⟩:=five qa;go_simp⟩) hHeld ?_
  simp only [lays]
  refine tkH 7 (.int .i64 (t:Int)) rfl (Or.inl ⟨by rfl,fun w' hSw=>by obtain⟨qa,qb⟩:=hSw;obtain⟨j0,j1,j2,j3,j4⟩:=five qa;go_simp⟩) hHeld ?_
  simp only [lays]
  refine wpAnyH_ready (rs:=[0,8]) (by kernel_rfl) (by simp) ?_
  refine AllReadyH.cons rfl (fun K hK=>?_) (AllReadyH.cons rfl (fun K hK=>?_) AllReadyH.nil)
  ·clear hHeld
   simp only [lays]
   rw [if_pos (by rfl)]
   have hbd:wb.drew.heap[w3.heap.size]? = some (.cells #[.int .i64 m.guest,.slice p0 m.root.length q0,.slice p1 m.slots.length q1,.slice p2 m.refs.length q2,.slice p3 m.snaps.length q3] 27):=hbx
   obtain⟨v0,v1,v2,v3,v4⟩:=five hbd
   go_simp
   refine hK.out _ _ ⟨MX,cRa⟩ (fun hHeld=>?_)
   clear hK K v0 v1 v2 v3 v4
   try simp only [lays]
   refine wpAnyH_ready (rs:=[8]) (by kernel_rfl) (by simp) ?_
   refine AllReadyH.cons rfl (fun K hK=>?_) AllReadyH.nil
   clear hHeld
   simp only [lays]
   rw [if_pos (by rfl)]
   go_wp2_with (go_at_call 67;refine (HTb.out _ (to_drew hbel)).mono ?_;rintro e5 w4 ⟨g,cap,rfl,hev,hge,b4⟩)
   have b4:Below wb.heap.size wb w4:=below_drew b4
   have hge:wb.heap.size≤g:=hge
   have hev:w4.ownsRow w1.heap.size 3 1 (.slice (some ⟨g,0,none⟩) 4 cap) (tableO m (n / 4)).length (ints (tableO m (n / 4))):=by
    rw [HP.out.2.2.2.2.2.1]
    exact row_mono hev (show w1.heap.size≤wb.heap.size from hsB)
   have hgl:g<w4.heap.size:=(hev.lt g rfl).2
   have s4:=b4.size
   have MX4:=cells_below MX b4 (by omega)
   have D4:=cells_below hbx b4 hDl
   have cR4:=(b4.cell (p:=⟨rb,ro+n / 4,none⟩) (Nat.lt_of_lt_of_le rl1 hsB)).trans cRa
   refine hK.out _ _ ⟨MX4,cR4⟩ (fun hHeld=>?_)
   clear hK K
   try simp only [lays]
   refine tkH 9 (.agg #[.int .i64 2,.string ⟨#[]⟩,.slice (some ⟨g,0,none⟩) 4 cap]) rfl (Or.inl ⟨by rfl,fun w' hSw=>by obtain⟨qa,qb⟩:=hSw;obtain⟨j0,j1,j2,j3,j4⟩:=five qa;go_simp⟩) hHeld ?_
   simp only [lays]
   have hX4:OX w4 w1.heap.size val m:=hX.below b4
   have hL:=layX_is m.guest (k:=2) (d:=⟨#[]⟩) hX4 (Nat.le_trans hsB s4) HG.out.2.2.2.2.2 (by have:=HG.out.2.2.1;omega) hev (fun b hb _ q hq x=>by have h1:=((hX.row b hb).lt q x).2;have hq:g=q:=Option.some.inj hq;omega)
   unfold imgV at hL
   rw [x0,x1,x2,x3] at hL
   have HL:Hid (Calls Tryz.prog 66 #[.agg #[.int .i64 m.guest,.slice p0 m.root.length q0,.slice p1 m.slots.length q1,.slice p2 m.refs.length q2,.slice p3 m.snaps.length q3],.int .i64 (tn:Int),.agg #[.int .i64 2,.string ⟨#[]⟩,.slice (some ⟨g,0,none⟩) 4 cap]] w4 fun r w'=>∃val',r=.returned (imgV m.guest val')∧OX w' w1.heap.size val' { m with slots:=layS m.slots tn (2,⟨#[]⟩,tableO m (n / 4)) }∧Below w1.heap.size w4 w'∧KeepX w4 w' m val∧SrcX w4 m val (.slice (some ⟨g,0,none⟩) 4 cap) { m with slots:=layS m.slots tn (2,⟨#[]⟩,tableO m (n / 4)) } val'):=hL.mono fun r w' ⟨v,a1,a2,a3,a4,a5,_⟩=>⟨v,a1,a2,a3,a4,a5⟩
   clear hL
   obtain⟨MA,hMA⟩:∃X:ImgD,{ m with slots:=layS m.slots tn (2,⟨#[]⟩,tableO m (n / 4)) } = X:=⟨_,rfl⟩
   rw [hMA] at HL
   have hMg:MA.guest=m.guest:=by rw [←hMA]
   have HMA:Hid ({ m with slots:=tabL m (n / 4) (tableO m (n / 4)) } = MA∧MA.guest=m.guest):=⟨by rw [←hMA];unfold tabL;rw [HM1.out.2],hMg⟩
   clear hMA hMg
   refine wpAnyH_ready (rs:=[10]) (by kernel_rfl) (by simp) ?_
   refine AllReadyH.cons rfl (fun K hK=>?_) AllReadyH.nil
   clear hHeld
   simp only [lays]
   rw [if_pos (by rfl)]
   go_wp2_with (go_at_call 66;refine HL.out.mono ?_;rintro e6 w5 ⟨val',rfl,hX5,b5,k5,s5⟩;obtain⟨g0,h0,g1,h1,g2,h2,g3,h3,y0,y1,y2,y3⟩:=hX5.four';unfold imgV;rw [y0,y1,y2,y3])
   have MX5:=cells_below MX4 b5 (by omega)
   have D5:=(k5 w3.heap.size (by omega) hfar).trans D4
   have cR5:=(b5.cell (p:=⟨rb,ro+n / 4,none⟩) rl1).trans cR4
   refine hK.out _ _ ⟨MX5,cR5⟩ (fun hHeld=>?_)
   clear hK K
   try simp only [lays]
   refine wpAnyH_ready (rs:=[11]) (by kernel_rfl) (by simp) ?_
   refine AllReadyH.cons rfl (fun K hK=>?_) AllReadyH.nil
   clear hHeld
   simp only [lays]
   rw [if_pos (by rfl)]
   have bS:=fun a0 a1 a2 a3 a4=>below_five (w:=w5) (Below.refl w1.heap.size w5) hDw a0 a1 a2 a3 a4
   obtain⟨v0,v1,v2,v3,v4⟩:=five D5
   have u0:=cells_frozen D5 0;have u1:=cells_frozen D5 1;have u2:=cells_frozen D5 2;have u3:=cells_frozen D5 3;have u4:=cells_frozen D5 4
   go_simp
   refine hK.out _ _ ⟨(heap_five _ _ _ _ _ _ (by omega)).trans MX5,((bS _ _ _ _ _).cell (p:=⟨rb,ro+n / 4,none⟩) rl1).trans cR5⟩ (fun hHeld=>?_)
   clear hK K hHeld
   try simp only [lays]
   refine wpAnyH_done (by kernel_rfl) ?_ _
   go_wp2_with fail
   go_meet
   have hO:=ow_call (Below.trans hbel (b4.mono hsB)) (by rw [x0,x1,x2,x3];exact D4) HD2.out.ge hfar hX5 b5 k5 s5 (fun x=>by have hx:g=w3.heap.size:=Option.some.inj x;omega)
   rw [y0,y1,y2,y3,HMA.out.2] at hO
   rw [HMA.out.1]
   exact hO
  ·clear hHeld
   simp only [lays]
   rw [if_pos (by rfl)]
   go_wp2_with (go_at_call 67;refine (HTb.out _ (to_drew hbel)).mono ?_;rintro e5 w4 ⟨g,cap,rfl,hev,hge,b4⟩)
   have b4:Below wb.heap.size wb w4:=below_drew b4
   have hge:wb.heap.size≤g:=hge
   have hev:w4.ownsRow w1.heap.size 3 1 (.slice (some ⟨g,0,none⟩) 4 cap) (tableO m (n / 4)).length (ints (tableO m (n / 4))):=by
    rw [HP.out.2.2.2.2.2.1]
    exact row_mono hev (show w1.heap.size≤wb.heap.size from hsB)
   have hgl:g<w4.heap.size:=(hev.lt g rfl).2
   have s4:=b4.size
   have MX4:=cells_below MX b4 (by omega)
   have D4:=cells_below hbx b4 hDl
   have cR4:=(b4.cell (p:=⟨rb,ro+n / 4,none⟩) (Nat.lt_of_lt_of_le rl1 hsB)).trans cRa
   refine hK.out _ _ ⟨MX4,cR4⟩ (fun hHeld=>?_)
   clear hK K
   try simp only [lays]
   refine tkH 9 (.agg #[.int .i64 2,.string ⟨#[]⟩,.slice (some ⟨g,0,none⟩) 4 cap]) rfl (Or.inl ⟨by rfl,fun w' hSw=>by obtain⟨qa,qb⟩:=hSw;obtain⟨j0,j1,j2,j3,j4⟩:=five qa;go_simp⟩) hHeld ?_
   simp only [lays]
   refine wpAnyH_ready (rs:=[0]) (by kernel_rfl) (by simp) ?_
   refine AllReadyH.cons rfl (fun K hK=>?_) AllReadyH.nil
   clear hHeld
   simp only [lays]
   rw [if_pos (by rfl)]
   obtain⟨v0,v1,v2,v3,v4⟩:=five D4
   go_simp
   refine hK.out _ _ ⟨MX4,cR4⟩ (fun hHeld=>?_)
   clear hK K v0 v1 v2 v3 v4
   try simp only [lays]
   have hX4:OX w4 w1.heap.size val m:=hX.below b4
   have hL:=layX_is m.guest (k:=2) (d:=⟨#[]⟩) hX4 (Nat.le_trans hsB s4) HG.out.2.2.2.2.2 (by have:=HG.out.2.2.1;omega) hev (fun b hb _ q hq x=>by have h1:=((hX.row b hb).lt q x).2;have hq:g=q:=Option.some.inj hq;omega)
   unfold imgV at hL
   rw [x0,x1,x2,x3] at hL
   have HL:Hid (Calls Tryz.prog 66 #[.agg #[.int .i64 m.guest,.slice p0 m.root.length q0,.slice p1 m.slots.length q1,.slice p2 m.refs.length q2,.slice p3 m.snaps.length q3],.int .i64 (tn:Int),.agg #[.int .i64 2,.string ⟨#[]⟩,.slice (some ⟨g,0,none⟩) 4 cap]] w4 fun r w'=>∃val',r=.returned (imgV m.guest val')∧OX w' w1.heap.size val' { m with slots:=layS m.slots tn (2,⟨#[]⟩,tableO m (n / 4)) }∧Below w1.heap.size w4 w'∧KeepX w4 w' m val∧SrcX w4 m val (.slice (some ⟨g,0,none⟩) 4 cap) { m with slots:=layS m.slots tn (2,⟨#[]⟩,tableO m (n / 4)) } val'):=hL.mono fun r w' ⟨v,a1,a2,a3,a4,a5,_⟩=>⟨v,a1,a2,a3,a4,a5⟩
   clear hL
   obtain⟨MA,hMA⟩:∃X:ImgD,{ m with slots:=layS m.slots tn (2,⟨#[]⟩,tableO m (n / 4)) } = X:=⟨_,rfl⟩
   rw [hMA] at HL
   have hMg:MA.guest=m.guest:=by rw [←hMA]
   have HMA:Hid ({ m with slots:=tabL m (n / 4) (tableO m (n / 4)) } = MA∧MA.guest=m.guest):=⟨by rw [←hMA];unfold tabL;rw [HM1.out.2],hMg⟩
   clear hMA hMg
   refine wpAnyH_ready (rs:=[10]) (by kernel_rfl) (by simp) ?_
   refine AllReadyH.cons rfl (fun K hK=>?_) AllReadyH.nil
   clear hHeld
   simp only [lays]
   rw [if_pos (by rfl)]
   go_wp2_with (go_at_call 66;refine HL.out.mono ?_;rintro e6 w5 ⟨val',rfl,hX5,b5,k5,s5⟩;obtain⟨g0,h0,g1,h1,g2,h2,g3,h3,y0,y1,y2,y3⟩:=hX5.four';unfold imgV;rw [y0,y1,y2,y3])
   have MX5:=cells_below MX4 b5 (by omega)
   have D5:=(k5 w3.heap.size (by omega) hfar).trans D4
   have cR5:=(b5.cell (p:=⟨rb,ro+n / 4,none⟩) rl1).trans cR4
   refine hK.out _ _ ⟨MX5,cR5⟩ (fun hHeld=>?_)
   clear hK K
   try simp only [lays]
   refine wpAnyH_ready (rs:=[11]) (by kernel_rfl) (by simp) ?_
   refine AllReadyH.cons rfl (fun K hK=>?_) AllReadyH.nil
   clear hHeld
   simp only [lays]
   rw [if_pos (by rfl)]
   have bS:=fun a0 a1 a2 a3 a4=>below_five (w:=w5) (Below.refl w1.heap.size w5) hDw a0 a1 a2 a3 a4
   obtain⟨v0,v1,v2,v3,v4⟩:=five D5
   have u0:=cells_frozen D5 0;have u1:=cells_frozen D5 1;have u2:=cells_frozen D5 2;have u3:=cells_frozen D5 3;have u4:=cells_frozen D5 4
   go_simp
   refine hK.out _ _ ⟨(heap_five _ _ _ _ _ _ (by omega)).trans MX5,((bS _ _ _ _ _).cell (p:=⟨rb,ro+n / 4,none⟩) rl1).trans cR5⟩ (fun hHeld=>?_)
   clear hK K hHeld
   try simp only [lays]
   refine wpAnyH_done (by kernel_rfl) ?_ _
   go_wp2_with fail
   go_meet
   have hO:=ow_call (Below.trans hbel (b4.mono hsB)) (by rw [x0,x1,x2,x3];exact D4) HD2.out.ge hfar hX5 b5 k5 s5 (fun x=>by have hx:g=w3.heap.size:=Option.some.inj x;omega)
   rw [y0,y1,y2,y3,HMA.out.2] at hO
   rw [HMA.out.1]
   exact hO
 case rest=>
 have HD3:Hid (OwR w1 wc w3.heap.size { m with slots:=tabL m (n / 4) (tableO m (n / 4)) }):=hcut
 clear hcut HD2 hX hbox hfar hbel hbx x0 x1 x2 x3
 obtain⟨wd,hwd⟩:∃X,X=wc:=⟨_,rfl⟩
 subst hwd
 go_upto_region 17 with fail
 go_cut [] from 14 (fun wx=>Hid (OwR w1 wx w3.heap.size M1))
 case first=>
  obtain⟨val,hX,hbox,hfar⟩:=HD3.out.ex
  have hbel:=HD3.out.bel
  obtain⟨p0,q0,p1,q1,p2,q2,p3,q3,x0,x1,x2,x3⟩:=hX.four'
  have hbx:=hbox
  rw [x0,x1,x2,x3] at hbx
  obtain⟨d0,d1,d2,d3,d4⟩:=five hbx
  obtain⟨ao,cap,xs,hg⟩:=hX.forms .root (LiveX.root _)
  obtain⟨rg,rfl⟩:=hg (by show 0<m.root.length;omega)
  rw [x0] at xs
  simp only [Value.slice.injEq] at xs
  obtain⟨rfl,_,_⟩:=xs
  have hrow:=hX.row .root (LiveX.root _)
  rw [x0] at hrow
  have hrow:wd.ownsRow w1.heap.size 3 1 (.slice (some ⟨rg,0,none⟩) m.root.length q0) m.root.length (ints m.root):=hrow
  have hcl:=(hrow.cellAt (n / 4) (by omega)).trans (show (ints m.root)[n / 4]? = some (.int .i64 (t:Int)) by unfold ints;rw [List.getElem?_map,List.getElem?_eq_getElem hr,← HP.out.2.2.1];simp [List.getD,hr])
  have hfz:=hrow.frozenAt (n / 4)
  go_wp2_with fail
  go_meet
  have hO:=ow_root hX hbel hbox HD3.out.ge hfar x0 (n / 4) (tn:Int)
  rw [←HM1.out.1]
  unfold wo1
  rw [HM1.out.2]
  exact hO
 case rest=>
 have HD4:Hid (OwR w1 wc w3.heap.size M1):=hcut
 clear hcut HD3
 obtain⟨we,hwe⟩:∃X,X=wc:=⟨_,rfl⟩
 subst hwe
 obtain⟨val,hX,hbox,hfar⟩:=HD4.out.ex
 have hbel:=HD4.out.bel
 obtain⟨p0,q0,p1,q1,p2,q2,p3,q3,x0,x1,x2,x3⟩:=hX.four'
 have hbx:=hbox
 rw [x0,x1,x2,x3] at hbx
 obtain⟨d0,d1,d2,d3,d4⟩:=five hbx
 have hS:Slots we (val .slots) M1.slots:=Img.four (show Img we (.agg #[_,_,_,_,_]) M1 from hX.img) |>.2.1
 have hG:=grabOf_wide hS HT.out.1 HT.out.2.1 HT.out.2.2
 rw [x1] at hG
 have z9:=cells_below n1 hbel hz1
 obtain⟨z0,z1,z2,z3,z4⟩:=five z9
 have y0:=cells_frozen z9 0;have y1:=cells_frozen z9 1;have y2:=cells_frozen z9 2;have y3:=cells_frozen z9 3;have y4:=cells_frozen z9 4
 have nD1:¬w3.heap.size=w.heap.size+1:=by omega
 have nD2:¬w.heap.size+1=w3.heap.size:=by omega
 clear hX hbox hfar hbx HTb cR rl1 HF
 go_wp2_with (go_at_call 65;refine hG.mono ?_;rintro e4 w4 ⟨rfl,hw⟩;rw [hw];clear hw)
 have hBz:Below w.heap.size w we:=Below.on bw HD4.out.bel
 refine bodyPost_ret (v:=.tuple #[.agg #[.int .i64 0,.slice none 0 0,.slice none 0 0,.slice none 0 0,.slice none 0 0],.int .i64 7]) (by simp [results,Tryz.results35,go_sem,z0,z1,z2,z3,z4]) rfl ⟨none,0,none,0,none,0,none,0,rfl,fun W' _=>imgZ_im W',below_five hBz (Nat.le_succ _) _ _ _ _ _⟩
end Go.Proofs.YtehleeibgkpjmafGreat
