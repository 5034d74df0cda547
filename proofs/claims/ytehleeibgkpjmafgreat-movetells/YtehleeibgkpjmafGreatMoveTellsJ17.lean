/- Texts joined: MvTl, SlotsIn, ImgIn, StrsIn. -/
import Derived.Test.YtehleeibgkpjmafGreatMoveTellsJ11
import Derived.Test.YtehleeibgkpjmafGreatMoveTellsJ1
import Derived.Test.YtehleeibgkpjmafGreatMoveTellsJ16
import Derived.Deep.Strs
import Derived.Deep.Slices
import Derived.ProofKit
import Derived.SliceStrings
set_option linter.unusedVariables false
set_option linter.unusedSimpArgs false
namespace Go.Proofs.YtehleeibgkpjmafGreat
open Go.RowKit Go.Shelf
set_option maxRecDepth 20000
set_option linter.unusedVariables false
set_option linter.unusedSimpArgs false
set_option maxHeartbeats 32000000 in
theorem mvtl_at (la:Option Addr)(lc:Nat)(ra:Option Addr)(rc:Nat)(sa:Option Addr)(sc:Nat)(fa:Option Addr)(fc:Nat)(na:Option Addr)(nc:Nat)(l:List ByteArray)(m:ImgD)(w:World)(hl:Ss w (.slice la l.length lc) l)(h:Img w (.agg #[.int .i64 m.guest,.slice ra m.root.length rc,.slice sa m.slots.length sc,.slice fa m.refs.length fc,.slice na m.snaps.length nc]) m)(MX:ImgD)(EL ED:Int)(LD:List ByteArray)(HU:Hid (upM l=MX∧ckP l=EL))(HD:Hid (dnE m=ED∧dnV m=LD)) :
  Calls Tryz.prog 4 #[.slice la l.length lc,.agg #[.int .i64 m.guest,.slice ra m.root.length rc,.slice sa m.slots.length sc,.slice fa m.refs.length fc,.slice na m.snaps.length nc]] w fun r w'=>r=.returned (.bool true)∧Below w.heap.size w w':=by
 have hB:Below w.heap.size w (w.alloc (.cells #[.int .i64 m.guest,.slice ra m.root.length rc,.slice sa m.slots.length sc,.slice fa m.refs.length fc,.slice na m.snaps.length nc] 27)):=(Below.refl _ _).alloc (Nat.le_refl _) _
 have mb_m:(w.alloc (.cells #[.int .i64 m.guest,.slice ra m.root.length rc,.slice sa m.slots.length sc,.slice fa m.refs.length fc,.slice na m.snaps.length nc] 27)).heap[w.heap.size]? = some (.cells #[.int .i64 m.guest,.slice ra m.root.length rc,.slice sa m.slots.length sc,.slice fa m.refs.length fc,.slice na m.snaps.length nc] 27):=World.alloc_heap_new _ _
 have I_m:=h.below hB
 have L_l:=hl.below hB
 clear h hl
 go_enter Tryz.func4,Tryz.ntmps4
 have hh_mb_m:=Hid_mkU mb_m
 have hh_I_m:=Hid_mkU I_m
 have hh_L_l:=Hid_mkU L_l
 have hh_hB:=Hid_mkU hB
 clear mb_m I_m L_l hB
 go_wp2_with fail
 have mb_m:=hh_mb_m.out
 have I_m:=hh_I_m.out
 have L_l:=hh_L_l.out
 have hB:=hh_hB.out
 clear hh_mb_m hh_I_m hh_L_l hh_hB
 refine (up_is L_l HU.out.1 HU.out.2).mono ?_
 intro e w1 hA
 obtain⟨val,x_r,x_rc,x_s,x_sc,x_f,x_fc,x_n,x_nc,rfl,hO,bb,hI⟩:=hA.open
 dsimp only
 have I_x:=hO.img
 rw [hI] at I_x
 clear hA hO hI
 replace mb_m:=cells_below mb_m bb (szH mb_m)
 replace hB:=Below.on hB bb
 replace I_m:=I_m.below bb
 replace L_l:=L_l.below bb
 clear bb
 replace mb_m:=cells_alloc mb_m (.cells #[.int .i64 MX.guest,.slice x_r MX.root.length x_rc,.slice x_s MX.slots.length x_sc,.slice x_f MX.refs.length x_fc,.slice x_n MX.snaps.length x_nc] 27)
 have ba:Below w1.heap.size w1 (w1.alloc (.cells #[.int .i64 MX.guest,.slice x_r MX.root.length x_rc,.slice x_s MX.slots.length x_sc,.slice x_f MX.refs.length x_fc,.slice x_n MX.snaps.length x_nc] 27)):=(Below.refl _ _).alloc (Nat.le_refl _) _
 replace hB:=Below.on hB ba
 replace I_m:=I_m.below ba
 replace L_l:=L_l.below ba
 replace I_x:=I_x.below ba
 clear ba
 have mb_x:(w1.alloc (.cells #[.int .i64 MX.guest,.slice x_r MX.root.length x_rc,.slice x_s MX.slots.length x_sc,.slice x_f MX.refs.length x_fc,.slice x_n MX.snaps.length x_nc] 27)).heap[w1.heap.size]? = some (.cells #[.int .i64 MX.guest,.slice x_r MX.root.length x_rc,.slice x_s MX.slots.length x_sc,.slice x_f MX.refs.length x_fc,.slice x_n MX.snaps.length x_nc] 27):=World.alloc_heap_new _ _
 obtain⟨m0,m1,m2,m3,m4⟩:=five mb_m
 have hh_mb_m:=Hid_mkU mb_m
 have hh_mb_x:=Hid_mkU mb_x
 have hh_I_m:=Hid_mkU I_m
 have hh_L_l:=Hid_mkU L_l
 have hh_I_x:=Hid_mkU I_x
 have hh_hB:=Hid_mkU hB
 clear mb_m mb_x I_m L_l I_x hB
 go_wp2_with fail
 clear m0 m1 m2 m3 m4
 have mb_m:=hh_mb_m.out
 have mb_x:=hh_mb_x.out
 have I_m:=hh_I_m.out
 have L_l:=hh_L_l.out
 have I_x:=hh_I_x.out
 have hB:=hh_hB.out
 clear hh_mb_m hh_mb_x hh_I_m hh_L_l hh_I_x hh_hB
 refine (down_is I_m HD.out.1 HD.out.2).mono ?_
 rintro e w2 ⟨⟨d_v,rfl,S_d⟩,bb⟩
 replace mb_m:=cells_below mb_m bb (szH mb_m)
 replace mb_x:=cells_below mb_x bb (szH mb_x)
 replace hB:=Below.on hB bb
 replace I_m:=I_m.below bb
 replace L_l:=L_l.below bb
 replace I_x:=I_x.below bb
 clear bb
 have hh_mb_m:=Hid_mkU mb_m
 have hh_mb_x:=Hid_mkU mb_x
 have hh_I_m:=Hid_mkU I_m
 have hh_L_l:=Hid_mkU L_l
 have hh_I_x:=Hid_mkU I_x
 have hh_S_d:=Hid_mkU S_d
 have hh_hB:=Hid_mkU hB
 clear mb_m mb_x I_m L_l I_x S_d hB
 go_wp2_with fail
 have mb_m:=hh_mb_m.out
 have mb_x:=hh_mb_x.out
 have I_m:=hh_I_m.out
 have L_l:=hh_L_l.out
 have I_x:=hh_I_x.out
 have S_d:=hh_S_d.out
 have hB:=hh_hB.out
 clear hh_mb_m hh_mb_x hh_I_m hh_L_l hh_I_x hh_S_d hh_hB
 refine (upOf_is L_l HU.out.1 HU.out.2).mono ?_
 rintro e w3 ⟨y_r,y_rc,y_s,y_sc,y_f,y_fc,y_n,y_nc,rfl,hst,bb⟩
 try dsimp only
 have I_y:=hst w3 (fun _ _=>rfl)
 clear hst
 replace mb_m:=cells_below mb_m bb (szH mb_m)
 replace mb_x:=cells_below mb_x bb (szH mb_x)
 replace hB:=Below.on hB bb
 replace I_m:=I_m.below bb
 replace L_l:=L_l.below bb
 replace I_x:=I_x.below bb
 replace S_d:=S_d.below bb
 clear bb
 replace mb_m:=cells_alloc mb_m (.cells #[.int .i64 MX.guest,.slice y_r MX.root.length y_rc,.slice y_s MX.slots.length y_sc,.slice y_f MX.refs.length y_fc,.slice y_n MX.snaps.length y_nc] 27)
 replace mb_x:=cells_alloc mb_x (.cells #[.int .i64 MX.guest,.slice y_r MX.root.length y_rc,.slice y_s MX.slots.length y_sc,.slice y_f MX.refs.length y_fc,.slice y_n MX.snaps.length y_nc] 27)
 have ba:Below w3.heap.size w3 (w3.alloc (.cells #[.int .i64 MX.guest,.slice y_r MX.root.length y_rc,.slice y_s MX.slots.length y_sc,.slice y_f MX.refs.length y_fc,.slice y_n MX.snaps.length y_nc] 27)):=(Below.refl _ _).alloc (Nat.le_refl _) _
 replace hB:=Below.on hB ba
 replace I_m:=I_m.below ba
 replace L_l:=L_l.below ba
 replace I_x:=I_x.below ba
 replace S_d:=S_d.below ba
 replace I_y:=I_y.below ba
 clear ba
 have mb_y:(w3.alloc (.cells #[.int .i64 MX.guest,.slice y_r MX.root.length y_rc,.slice y_s MX.slots.length y_sc,.slice y_f MX.refs.length y_fc,.slice y_n MX.snaps.length y_nc] 27)).heap[w3.heap.size]? = some (.cells #[.int .i64 MX.guest,.slice y_r MX.root.length y_rc,.slice y_s MX.slots.length y_sc,.slice y_f MX.refs.length y_fc,.slice y_n MX.snaps.length y_nc] 27):=World.alloc_heap_new _ _
 clear L_l
 obtain⟨m0,m1,m2,m3,m4⟩:=five mb_m
 have hh_mb_m:=Hid_mkU mb_m
 have hh_mb_x:=Hid_mkU mb_x
 have hh_mb_y:=Hid_mkU mb_y
 have hh_I_m:=Hid_mkU I_m
 have hh_I_x:=Hid_mkU I_x
 have hh_S_d:=Hid_mkU S_d
 have hh_I_y:=Hid_mkU I_y
 have hh_hB:=Hid_mkU hB
 clear mb_m mb_x mb_y I_m I_x S_d I_y hB
 go_wp2_with fail
 clear m0 m1 m2 m3 m4
 have mb_m:=hh_mb_m.out
 have mb_x:=hh_mb_x.out
 have mb_y:=hh_mb_y.out
 have I_m:=hh_I_m.out
 have I_x:=hh_I_x.out
 have S_d:=hh_S_d.out
 have I_y:=hh_I_y.out
 have hB:=hh_hB.out
 clear hh_mb_m hh_mb_x hh_mb_y hh_I_m hh_I_x hh_S_d hh_I_y hh_hB
 refine (dno_is I_m HD.out.1 HD.out.2).mono ?_
 rintro e w4 ⟨⟨f_v,rfl,S_f⟩,bb⟩
 replace mb_m:=cells_below mb_m bb (szH mb_m)
 replace mb_x:=cells_below mb_x bb (szH mb_x)
 replace mb_y:=cells_below mb_y bb (szH mb_y)
 replace hB:=Below.on hB bb
 replace I_m:=I_m.below bb
 replace I_x:=I_x.below bb
 replace S_d:=S_d.below bb
 replace I_y:=I_y.below bb
 clear bb
 clear mb_m
 clear I_m
 have hh_mb_x:=Hid_mkU mb_x
 have hh_mb_y:=Hid_mkU mb_y
 have hh_I_x:=Hid_mkU I_x
 have hh_S_d:=Hid_mkU S_d
 have hh_I_y:=Hid_mkU I_y
 have hh_S_f:=Hid_mkU S_f
 have hh_hB:=Hid_mkU hB
 clear mb_x mb_y I_x S_d I_y S_f hB
 go_wp2_with fail
 have mb_x:=hh_mb_x.out
 have mb_y:=hh_mb_y.out
 have I_x:=hh_I_x.out
 have S_d:=hh_S_d.out
 have I_y:=hh_I_y.out
 have S_f:=hh_S_f.out
 have hB:=hh_hB.out
 clear hh_mb_x hh_mb_y hh_I_x hh_S_d hh_I_y hh_S_f hh_hB
 refine (moveBegun_any _).mono ?_
 rintro e w5 ⟨rfl,bb⟩
 replace mb_x:=cells_below mb_x bb (szH mb_x)
 replace mb_y:=cells_below mb_y bb (szH mb_y)
 replace hB:=Below.on hB bb
 replace I_x:=I_x.below bb
 replace S_d:=S_d.below bb
 replace I_y:=I_y.below bb
 replace S_f:=S_f.below bb
 clear bb
 obtain⟨x0,x1,x2,x3,x4⟩:=five mb_x
 obtain⟨y0,y1,y2,y3,y4⟩:=five mb_y
 have hh_mb_x:=Hid_mkU mb_x
 have hh_mb_y:=Hid_mkU mb_y
 have hh_I_x:=Hid_mkU I_x
 have hh_S_d:=Hid_mkU S_d
 have hh_I_y:=Hid_mkU I_y
 have hh_S_f:=Hid_mkU S_f
 have hh_hB:=Hid_mkU hB
 clear mb_x mb_y I_x S_d I_y S_f hB
 go_wp2_with fail
 clear x0 x1 x2 x3 x4 y0 y1 y2 y3 y4
 have mb_x:=hh_mb_x.out
 have mb_y:=hh_mb_y.out
 have I_x:=hh_I_x.out
 have S_d:=hh_S_d.out
 have I_y:=hh_I_y.out
 have S_f:=hh_S_f.out
 have hB:=hh_hB.out
 clear hh_mb_x hh_mb_y hh_I_x hh_S_d hh_I_y hh_S_f hh_hB
 refine (sameI_is I_x I_y).mono ?_
 rintro e w6 ⟨rfl,bb⟩
 replace mb_x:=cells_below mb_x bb (szH mb_x)
 replace mb_y:=cells_below mb_y bb (szH mb_y)
 replace hB:=Below.on hB bb
 replace I_x:=I_x.below bb
 replace S_d:=S_d.below bb
 replace I_y:=I_y.below bb
 replace S_f:=S_f.below bb
 clear bb
 clear mb_x
 clear I_x
 clear mb_y
 clear I_y
 have hh_S_d:=Hid_mkU S_d
 have hh_S_f:=Hid_mkU S_f
 have hh_hB:=Hid_mkU hB
 clear S_d S_f hB
 go_wp2_with fail
 have S_d:=hh_S_d.out
 have S_f:=hh_S_f.out
 have hB:=hh_hB.out
 clear hh_S_d hh_S_f hh_hB
 refine (samePages_any S_d S_f).mono ?_
 rintro e w7 ⟨rfl,bb⟩
 replace hB:=Below.on hB bb
 replace S_d:=S_d.below bb
 replace S_f:=S_f.below bb
 clear bb
 clear S_d
 clear S_f
 have hh_hB:=Hid_mkU hB
 clear hB
 go_wp2_with fail
 go_ret
 have hB:=hh_hB.out
 exact⟨rfl,hB⟩
theorem mvtl_is {w:World}{u v:Value}{l:List ByteArray}{m:ImgD}(hl:Ss w u l)(h:Img w v m) :
  Calls Tryz.prog 4 #[u,v] w fun r w'=>r=.returned (.bool true)∧Below w.heap.size w w':=by
 have h':=h
 obtain⟨ra,rc,sa,sc,fa,fc,na,nc,rfl,_⟩:=h.parts
 obtain⟨la,lc,rfl⟩:=hl.form
 exact mvtl_at la lc ra rc sa sc fa fc na nc l m w hl h' _ _ _ _ ⟨rfl,rfl⟩ ⟨rfl,rfl⟩
end Go.Proofs.YtehleeibgkpjmafGreat
namespace Go.Proofs.YtehleeibgkpjmafGreat
open Go.RowKit Go.Deep Go.ChangeShapes Go.WideShapes Go.ChangeAt
set_option maxRecDepth 20000
theorem cells27:Tryz.prog.cellsOf 23=1:=by kernel_rfl
theorem cells3:Tryz.prog.cellsOf 3=1:=by kernel_rfl
theorem cells9:Tryz.prog.cellsOf 9=1:=by kernel_rfl
theorem cells29:Tryz.prog.cellsOf 61=3:=by kernel_rfl
variable {H:Type} {enc:TypeId × Value→H} {w:World} {base:Nat} {spare:Nat→Bool} {held:Bool}
theorem row_at {w:World}{a:Addr}{n:Nat}{f:Nat→Value}(hn:0<n)(h:∀i,i<n→w.cell? (a.add i)=some (f i)) :
  ∃b off,a=⟨b,off,none⟩∧b<w.heap.size∧∀i,i<n→w.cell? ⟨b,off+i,none⟩=some (f i):=by
 have h0:=h 0 hn
 obtain⟨b,off,spot⟩:=a
 have hspot:spot=none:=by simpa [Addr.add] using World.cell?_spot h0
 subst hspot
 refine⟨b,off,rfl,World.block_lt_of_cell? w _ (by rw [addr_add] at h0;exact h0),fun i hi=>?_⟩
 have:=h i hi
 rw [addr_add] at this
 exact this
theorem sl_of_trod {n:Nat}{cs:List Value}{x:DataW H × List MemPlace}(h:DataW.trod enc Tryz.prog w base spare held n 23 cs=some x):∃v xs,cs=[v]∧Sl w v xs:=by
 rcases open_ints Tryz.underlying23 Tryz.underlying3 cells3 h with ⟨rfl,_⟩ | ⟨a,l,c,zs,rfl,_,hl,hm,hz,_,hcell,_⟩
 ·exact⟨_,[],rfl,Sl.nil w⟩
 ·have hlz:l≤zs.length:=by rw [hz];split <;> omega
  have hlen:(zs.take l).length=l:=by simp;omega
  refine⟨_,zs.take l,rfl,some a,c,by rw [hlen],by rw [hlen];omega,by rw [hlen];exact hl,fun hne=>?_⟩
  have hpos:0<l:=by
   rcases Nat.eq_zero_or_pos l with e | e
   ·subst e;simp at hne
   ·exact e
  obtain⟨b,off,rfl,hb,hc⟩:=row_at (w:=w) (a:=a) (n:=l) (f:=fun i=>.int .i64 (zs.getD i 0)) hpos (fun i hi=>hcell i (by omega))
  refine⟨b,off,rfl,hb,fun j hj=>?_⟩
  rw [hlen] at hj
  rw [hc j hj]
  simp [List.getD,hj]
set_option maxRecDepth 20000 in
theorem slot_of_trod {n:Nat}{cs:List Value}{x:DataW H × List MemPlace}(h:DataW.trod enc Tryz.prog w base spare held n 61 cs=some x) :
  ∃k d tv xs,cs=[.int .i64 k,.string d,tv]∧Sl w tv xs:=by
 obtain⟨y0,y1,y2,m,_,hl,h0,h1,h2⟩:=trod_struct3 Tryz.underlying61 h
 rw [cells29] at hl
 match cs,hl with
 | [c0,c1,c2],_=>
  simp only [cells3,cells9,cells27] at h0 h1 h2
  obtain⟨k,e0,_,_⟩:=DataW.trod_int Tryz.underlying3 h0
  obtain⟨d,e1,_,_⟩:=DataW.trod_string Tryz.underlying9 h1
  obtain⟨tv,xs,e2,hs⟩:=sl_of_trod h2
  simp at e0 e1 e2
  subst e0 e1 e2
  exact⟨k,d,_,xs,rfl,hs⟩
theorem slots_of_trod {n:Nat}{v:Value}{x:DataW H × List MemPlace}(h:DataW.trod enc Tryz.prog w base spare held n 24 [v]=some x):∃L,Slots w v L:=by
 rcases open_slice Tryz.underlying24 h with ⟨hv,_⟩ | ⟨a,len,cap,m,fuel,D,Pl,hv,_,hl,hm,hmm,_,hx⟩
 ·simp at hv
  subst hv
  exact⟨[],none,0,rfl,Nat.zero_le _,Nat.zero_le _,fun h=>absurd rfl h⟩
 ·simp at hv
  subst hv
  rw [cells29] at hx
  have hx':∀i,i<len→∃s:SlotD,∃tv,w.cell? (a.add (i*3))=some (.int .i64 s.1)∧w.cell? ((a.add (i*3)).add 1)=some (.string s.2.1)∧w.cell? ((a.add (i*3)).add 2)=some tv∧Sl w tv s.2.2:=by
   intro i hi
   obtain⟨cs',h1,h2⟩:=hx i (by rw [hmm];split <;> omega)
   obtain⟨k,d,tv,xs,rfl,hs⟩:=slot_of_trod h2
   obtain⟨_,_,hc⟩:=World.cells?_some h1
   have c0:=hc 0 (by omega)
   have c1:=hc 1 (by omega)
   have c2:=hc 2 (by omega)
   exact⟨(k,d,xs),tv,by simpa [Addr.add] using c0,c1,c2,hs⟩
  obtain⟨f,hf⟩:=choose_lt hx'
  have hlen:((List.range len).map f).length=len:=by simp
  refine⟨(List.range len).map f,some a,cap,by rw [hlen],by rw [hlen];omega,by rw [hlen];exact hl,fun hne=>?_⟩
  have hpos:0<len:=by
   rcases Nat.eq_zero_or_pos len with e | e
   ·subst e;simp at hne
   ·exact e
  obtain⟨tv0,c0,_⟩:=hf 0 hpos
  obtain⟨b,off,spot⟩:=a
  have hspot:spot=none:=by simpa [Addr.add] using World.cell?_spot c0
  subst hspot
  refine⟨b,off,rfl,World.block_lt_of_cell? w _ (by rw [addr_add] at c0;exact c0),fun j hj=>?_⟩
  rw [hlen] at hj
  obtain⟨tv,c0,c1,c2,hs⟩:=hf j hj
  rw [addr_add] at c0 c1 c2
  rw [addr_add] at c1 c2
  have e:((List.range len).map f)[j]'(by rw [hlen];exact hj)=f j:=by simp
  rw [e]
  exact⟨tv,c0,c1,c2,hs⟩
end Go.Proofs.YtehleeibgkpjmafGreat
namespace Go.Proofs.YtehleeibgkpjmafGreat
open Go.RowKit Go.Deep Go.ChangeShapes Go.WideShapes Go.ChangeAt
set_option maxRecDepth 20000
theorem cellsSnap:Tryz.prog.cellsOf 64=3:=by kernel_rfl
theorem cellsSnaps:Tryz.prog.cellsOf 25=1:=by kernel_rfl
theorem cellsSlots:Tryz.prog.cellsOf 24=1:=by kernel_rfl
theorem cellsImage:Tryz.prog.cellsOf 27=5:=by kernel_rfl
variable {H:Type} {enc:TypeId × Value→H} {w:World} {base:Nat} {spare:Nat→Bool} {held:Bool}
set_option maxRecDepth 20000 in
theorem snap_of_trod {n:Nat}{cs:List Value}{x:DataW H × List MemPlace}(h:DataW.trod enc Tryz.prog w base spare held n 64 cs=some x) :
  ∃d k tv xs,cs=[.string d,.int .i64 k,tv]∧Sl w tv xs:=by
 obtain⟨y0,y1,y2,m,_,hl,h0,h1,h2⟩:=trod_struct3 Tryz.underlying64 h
 rw [cellsSnap] at hl
 match cs,hl with
 | [c0,c1,c2],_=>
  simp only [cells3,cells9,cells27] at h0 h1 h2
  obtain⟨d,e0,_,_⟩:=DataW.trod_string Tryz.underlying9 h0
  obtain⟨k,e1,_,_⟩:=DataW.trod_int Tryz.underlying3 h1
  obtain⟨tv,xs,e2,hs⟩:=sl_of_trod h2
  simp at e0 e1 e2
  subst e0 e1 e2
  exact⟨d,k,_,xs,rfl,hs⟩
theorem snaps_of_trod {n:Nat}{v:Value}{x:DataW H × List MemPlace}(h:DataW.trod enc Tryz.prog w base spare held n 25 [v]=some x):∃L,Snaps w v L:=by
 rcases open_slice Tryz.underlying25 h with ⟨hv,_⟩ | ⟨a,len,cap,m,fuel,D,Pl,hv,_,hl,hm,hmm,_,hx⟩
 ·simp at hv
  subst hv
  exact⟨[],none,0,rfl,Nat.zero_le _,Nat.zero_le _,fun h=>absurd rfl h⟩
 ·simp at hv
  subst hv
  rw [cellsSnap] at hx
  have hx':∀i,i<len→∃s:SnapD,∃tv,w.cell? (a.add (i*3))=some (.string s.1)∧w.cell? ((a.add (i*3)).add 1)=some (.int .i64 s.2.1)∧w.cell? ((a.add (i*3)).add 2)=some tv∧Sl w tv s.2.2:=by
   intro i hi
   obtain⟨cs',h1,h2⟩:=hx i (by rw [hmm];split <;> omega)
   obtain⟨k,d,tv,xs,rfl,hs⟩:=snap_of_trod h2
   obtain⟨_,_,hc⟩:=World.cells?_some h1
   have c0:=hc 0 (by omega)
   have c1:=hc 1 (by omega)
   have c2:=hc 2 (by omega)
   exact⟨(k,d,xs),tv,by simpa [Addr.add] using c0,c1,c2,hs⟩
  obtain⟨f,hf⟩:=choose_lt hx'
  have hlen:((List.range len).map f).length=len:=by simp
  refine⟨(List.range len).map f,some a,cap,by rw [hlen],by rw [hlen];omega,by rw [hlen];exact hl,fun hne=>?_⟩
  have hpos:0<len:=by
   rcases Nat.eq_zero_or_pos len with e | e
   ·subst e;simp at hne
   ·exact e
  obtain⟨tv0,c0,_⟩:=hf 0 hpos
  obtain⟨b,off,spot⟩:=a
  have hspot:spot=none:=by simpa [Addr.add] using World.cell?_spot c0
  subst hspot
  refine⟨b,off,rfl,World.block_lt_of_cell? w _ (by rw [addr_add] at c0;exact c0),fun j hj=>?_⟩
  rw [hlen] at hj
  obtain⟨tv,c0,c1,c2,hs⟩:=hf j hj
  rw [addr_add] at c0 c1 c2
  rw [addr_add] at c1 c2
  have e:((List.range len).map f)[j]'(by rw [hlen];exact hj)=f j:=by simp
  rw [e]
  exact⟨tv,c0,c1,c2,hs⟩
theorem trod_struct5 {P:Program}{t:TypeId}{f0 f1 f2 f3 f4:Field}{fuel:Nat}{cs:List Value}{x:DataW H × List MemPlace}(ht:P.underlying t=some (.struct #[f0,f1,f2,f3,f4]))(h:DataW.trod enc P w base spare held fuel t cs=some x) :
  ∃y0 y1 y2 y3 y4 n,cs.length=P.cellsOf t∧DataW.trod enc P w base spare held n f0.type ((cs.drop f0.offset).take (P.cellsOf f0.type))=some y0∧
   DataW.trod enc P w base spare held n f1.type ((cs.drop f1.offset).take (P.cellsOf f1.type))=some y1∧DataW.trod enc P w base spare held n f2.type ((cs.drop f2.offset).take (P.cellsOf f2.type))=some y2∧
   DataW.trod enc P w base spare held n f3.type ((cs.drop f3.offset).take (P.cellsOf f3.type))=some y3∧DataW.trod enc P w base spare held n f4.type ((cs.drop f4.offset).take (P.cellsOf f4.type))=some y4:=by
 obtain⟨xs,n,_,rfl,hl,hlen,hf⟩:=DataW.trod_struct ht h
 match xs,hlen with
 | [y0,y1,y2,y3,y4],_=>exact⟨y0,y1,y2,y3,y4,n,hl,by simpa using hf 0 f0 rfl,by simpa using hf 1 f1 rfl,by simpa using hf 2 f2 rfl,by simpa using hf 3 f3 rfl,by simpa using hf 4 f4 rfl⟩
set_option maxRecDepth 20000 in
theorem img_of_trod {n:Nat}{cs:List Value}{x:DataW H × List MemPlace}(h:DataW.trod enc Tryz.prog w base spare held n 27 cs=some x):∃g rv sv fv nv,cs=[.int .i64 g,rv,sv,fv,nv]∧∃r L F S,Sl w rv r∧Slots w sv L∧Sl w fv F∧Snaps w nv S:=by
 obtain⟨y0,y1,y2,y3,y4,m,hl,h0,h1,h2,h3,h4⟩:=trod_struct5 Tryz.underlying27 h
 rw [cellsImage] at hl
 match cs,hl with
 | [c0,c1,c2,c3,c4],_=>
  simp only [cells3] at h0
  simp only [cells27] at h1 h3
  simp only [cellsSlots] at h2
  simp only [cellsSnaps] at h4
  obtain⟨g,e0,_,_⟩:=DataW.trod_int Tryz.underlying3 h0
  obtain⟨rv,r,e1,hr⟩:=sl_of_trod h1
  obtain⟨L,hL⟩:=slots_of_trod (v:=c2) h2
  obtain⟨fv,F,e3,hF⟩:=sl_of_trod h3
  obtain⟨S,hS⟩:=snaps_of_trod (v:=c4) h4
  simp at e0 e1 e3
  subst e0 e1 e3
  exact⟨g,_,_,_,_,rfl,r,L,F,S,hr,hL,hF,hS⟩
set_option maxRecDepth 20000 in
theorem img_of_arg {r:Reach}{b0:Nat}{v:Value}{d:DataW H}{p:List MemPlace}(hv:Value.okWide Tryz.prog w r b0 27 v)(h:DataW.Trod enc Tryz.prog w base spare held 27 v d p):∃m,Img w v m:=by
 obtain⟨cs,rfl,hsz⟩:=okWide_struct Tryz.underlying27 hv
 obtain⟨fuel,hf⟩:=h
 obtain⟨g,rv,sv,fv,nv,e,r,L,F,S,h1,h2,h3,h4⟩:=img_of_trod hf
 have e':cs.toList=[.int .i64 g,rv,sv,fv,nv]:=by simpa [Value.cells] using e
 cases cs
 simp at e'
 exact⟨⟨g,r,L,F,S⟩,rv,sv,fv,nv,by rw [e'],h1,h2,h3,h4⟩
end Go.Proofs.YtehleeibgkpjmafGreat
namespace Go.Proofs.YtehleeibgkpjmafGreat
open Go.RowKit Go.ChangeShapes Go.WideShapes Go.ChangeAt
set_option maxRecDepth 20000
theorem cellsStr:Tryz.prog.cellsOf 9=1:=by kernel_rfl
variable {H:Type} {enc:TypeId × Value→H} {w:World} {base:Nat} {spare:Nat→Bool} {held:Bool}
theorem ss_of_trod {n:Nat}{cs:List Value}{x:DataW H × List MemPlace}(h:DataW.trod enc Tryz.prog w base spare held n 22 cs=some x):∃v xs,cs=[v]∧Ss w v xs∧∀s ∈ xs,s.size≤maxLen:=by
 rcases open_strings Tryz.underlying22 Tryz.underlying9 cellsStr h with ⟨rfl,_⟩ | ⟨a,l,c,ss,rfl,_,hl,hm,hz,_,hcell,hws⟩
 ·exact⟨_,[],rfl,Ss.nil w,by simp⟩
 ·have hlz:l≤ss.length:=by rw [hz];split <;> omega
  have hlen:(ss.take l).length=l:=by simp;omega
  refine⟨_,ss.take l,rfl,⟨some a,c,by rw [hlen],by rw [hlen];omega,by rw [hlen];exact hl,fun hne=>?_⟩,fun s hs=>hws s (List.mem_of_mem_take hs)⟩
  have hpos:0<l:=by
   rcases Nat.eq_zero_or_pos l with e | e
   ·subst e;simp at hne
   ·exact e
  have h0:=hcell 0 (by omega)
  obtain⟨b,off,spot⟩:=a
  have hspot:spot=none:=by simpa [Addr.add] using World.cell?_spot h0
  subst hspot
  refine⟨b,off,rfl,World.block_lt_of_cell? w _ (by rw [addr_add] at h0;exact h0),fun j hj=>?_⟩
  rw [hlen] at hj
  have hj':=hcell j (by omega)
  rw [addr_add] at hj'
  rw [hj']
  simp [List.getD,hj]
theorem ss_of_arg {n:Nat}{v:Value}{x:DataW H × List MemPlace}(h:DataW.trod enc Tryz.prog w base spare held n 22 v.cells.toList=some x)(hv:v.cells.toList=[v]):∃xs,Ss w v xs:=by
 obtain⟨v',xs,e,hs,_⟩:=ss_of_trod h
 rw [hv] at e
 simp at e
 subst e
 exact⟨xs,hs⟩
end Go.Proofs.YtehleeibgkpjmafGreat
