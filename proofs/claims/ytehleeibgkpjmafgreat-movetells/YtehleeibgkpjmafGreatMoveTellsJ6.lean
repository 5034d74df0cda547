/- Texts joined: ClnI, CpyH, CpyI, OfI, PkU, PkR, PkG. -/
import Derived.Test.YtehleeibgkpjmafGreatMoveTellsJ5
import Derived.Lib.SliceRun
import Derived.Test.YtehleeibgkpjmafGreatMoveTellsJ1
import Derived.Deep.RegionHeld3
import Derived.Test.YtehleeibgkpjmafGreatMoveTellsJ3
import Derived.Deep.CutRange
import Derived.Defers
import Derived.Recover
import Derived.Test.YtehleeibgkpjmafGreatMoveTellsJ2
set_option linter.unusedVariables false
set_option linter.unusedSimpArgs false
namespace Go.Proofs.YtehleeibgkpjmafGreat
open Go.RowKit Go.Shelf
set_option maxRecDepth 20000
theorem ints_mem {xs:List Int} : ∀u ∈ ints xs,u.oneCell'=true:=ints_oneCell .i64 xs
theorem sl_form1 {W:World}{v:Value}{xs:List Int}(h:Sl W v xs):v.oneCell'=true:=by obtain⟨ao,cap,rfl,_⟩:=h;rfl
theorem flatS_mem {L:List SlotD}{tv:Nat→Value}(h:∀j,j<L.length→(tv j).oneCell'=true):∀u ∈ flatS L tv,u.oneCell'=true:=fun u hu=>by
 unfold flatS at hu
 rw [List.mem_flatMap] at hu
 obtain⟨j,hj,hu⟩:=hu
 rw [List.mem_range] at hj
 simp only [List.mem_cons,List.not_mem_nil,or_false] at hu
 rcases hu with rfl | rfl | rfl
 ·rfl
 ·rfl
 ·exact h j hj
theorem flatN_mem {L:List SnapD}{tv:Nat→Value}(h:∀j,j<L.length→(tv j).oneCell'=true):∀u ∈ flatN L tv,u.oneCell'=true:=fun u hu=>by
 unfold flatN at hu
 rw [List.mem_flatMap] at hu
 obtain⟨j,hj,hu⟩:=hu
 rw [List.mem_range] at hj
 simp only [List.mem_cons,List.not_mem_nil,or_false] at hu
 rcases hu with rfl | rfl | rfl
 ·rfl
 ·rfl
 ·exact h j hj
def room:Nat:=140737488355328
theorem room_is:room=140737488355328:=rfl
theorem maxLen_of_room {n b:Nat}(hb:0<b)(h:n*b≤room):n≤maxLen:=by
 have:=Nat.le_trans (Nat.le_mul_of_pos_right n hb) h
 rw [room_is] at this
 unfold maxLen
 omega
theorem clnI_nil (n c:Nat)(w:World):Calls Tryz.prog 98 #[.slice none n c] w fun r w'=>r=.returned (.slice none 0 0)∧w'=w:=by
 have q22:∀ (w:World) (a:Option Addr) (n c n' c':Nat),(binOp .eql 23 (.slice a n c) (.slice none n' c')).run Tryz.prog w=.ok (.bool a.isNone) w:=fun w a n c n' c'=>Lib.run_eql_slice_nil w _ _ a n c n' c' Tryz.underlying23
 go_enter Tryz.func98,Tryz.ntmps98
 go_wp2
 go_ret
 exact⟨rfl,rfl⟩
set_option maxHeartbeats 1000000 in
theorem clnI_at (a:Addr)(n c:Nat)(news:List Value)(w:World)(hl:news.length=n*1)(hbig:n*8≤room)(hc:∀j u,news[j]? = some u→w.cell? (a.add j)=some u)(h1:∀u ∈ news,u.oneCell'=true) :
  Calls Tryz.prog 98 #[.slice (some a) n c] w fun r w'=>∃v',r=.returned v'∧w'.ownsRow w.heap.size 3 1 v' n news∧Below w.heap.size w w':=by
 have q22:∀ (w:World) (a:Option Addr) (n c n' c':Nat),(binOp .eql 23 (.slice a n c) (.slice none n' c')).run Tryz.prog w=.ok (.bool a.isNone) w:=fun w a n c n' c'=>Lib.run_eql_slice_nil w _ _ a n c n' c' Tryz.underlying23
 obtain⟨i0,hi,hz0,hz1,hz2⟩:=info_parts info3
 have A:Hid ((∀j u,news[j]? = some u→w.cell? (a.add j)=some u)∧news.length=n*1∧n*8≤room∧(∀u ∈ news,u.oneCell'=true)∧Tryz.prog.info? 3=some i0∧i0.zero=some (.int .i64 0)∧i0.size=1∧i0.bytes=8):=⟨hc,hl,hbig,h1,hi,hz0,hz1,hz2⟩
 clear hc hl hbig h1 hi hz0 hz1 hz2
 go_enter Tryz.func98,Tryz.ntmps98
 go_wp2_with (at_builtin;refine wpList_append_own _ rfl _ _ 23 rfl w.heap.size 3 i0 (.int .i64 0) 1 8 Tryz.underlying23 A.out.2.2.2.2.1 A.out.2.2.2.2.2.1 A.out.2.2.2.2.2.2.1 A.out.2.2.2.2.2.2.2 rfl (by decide) _ _ _ rfl (World.ownsRow_made w #[] 0 (Nat.le_refl _) (Nat.zero_le _) (by simp)) a n c news rfl A.out.2.1 ?qc2 A.out.2.2.2.1 ?qc4 ?qc5 ?qc6 ?_)
 case qc2=>
  intro j u hj
  exact Lib.cell?_alloc_some _ (A.out.1 j u hj)
 case qc4=>rw [Nat.zero_add];exact maxLen_of_room (by decide) A.out.2.2.1
 case qc5=>rw [Nat.zero_add];exact A.out.2.2.1
 case qc6=>simp
 intro v' w1 hown hgrow hnil
 have HO:Hid (w1.ownsRow w.heap.size 3 1 v' n news):=hown
 have HG:Hid (Below w.heap.size w w1):=((Below.refl _ w).alloc (Nat.le_refl _) _).grown hgrow (by simp) (by intro k hk;simp [Value.ownBlock] at hk;omega)
 clear hown hgrow hnil
 go_wp2
 go_ret
 exact⟨v',rfl,HO.out,HG.out⟩
theorem clone_ints {w:World}{v:Value}{xs:List Int}(h:Sl w v xs)(hb:xs.length*8≤room) :
  Calls Tryz.prog 98 #[v] w fun r w'=>∃v',r=.returned v'∧w'.ownsRow w.heap.size 3 1 v' xs.length (ints xs)∧Below w.heap.size w w':=by
 obtain⟨ao,cap,rfl,hm,hcp,hc⟩:=h
 cases ao with
 | none=>
  have hx:xs=[]:=Classical.byContradiction fun hne=>by obtain⟨_,_,e,_⟩:=hc hne;cases e
  subst hx
  refine (clnI_nil _ _ w).mono ?_
  rintro e w' ⟨rfl,rfl⟩
  exact⟨_,rfl,World.ownsRow_nil _ _ _ _,Below.refl _ _⟩
 | some a=>
  refine clnI_at a xs.length cap (ints xs) w (by rw [ints_length];omega) hb (fun j u hu=>?_) ints_mem
  have hj:j<xs.length:=by
   rcases Nat.lt_or_ge j xs.length with h | h
   ·exact h
   ·rw [List.getElem?_eq_none (by rw [ints_length];exact h)] at hu;cases hu
  obtain⟨b,off,e,_,hcell⟩:=hc (by intro e;rw [e] at hj;simp at hj)
  simp only [Option.some.injEq] at e
  subst e
  rw [addr_add,hcell j hj]
  unfold ints at hu
  rw [List.getElem?_map,List.getElem?_eq_getElem hj] at hu
  simp at hu
  simp [List.getD,hj,hu]
abbrev nilS:Value:=.slice none 0 0
theorem choose_ltV {p:Nat→Value→Prop}{n:Nat}(h:∀i,i<n→∃s,p i s):∃f:Nat→Value,∀i,i<n→p i (f i):=
 ⟨fun i=>if hi:i<n then (h i hi).choose else .slice none 0 0,fun i hi=>by simp only [dif_pos hi];exact (h i hi).choose_spec⟩
theorem clnS_nil (n c:Nat)(w:World):Calls Tryz.prog 99 #[.slice none n c] w fun r w'=>r=.returned (.slice none 0 0)∧w'=w:=by
 have q22:∀ (w:World) (a:Option Addr) (n c n' c':Nat),(binOp .eql 24 (.slice a n c) (.slice none n' c')).run Tryz.prog w=.ok (.bool a.isNone) w:=fun w a n c n' c'=>Lib.run_eql_slice_nil w _ _ a n c n' c' Tryz.underlying24
 go_enter Tryz.func99,Tryz.ntmps99
 go_wp2
 go_ret
 exact⟨rfl,rfl⟩
set_option maxHeartbeats 1000000 in
theorem clnS_at (a:Addr)(n c:Nat)(news:List Value)(w:World)(hl:news.length=n*3)(hbig:n*48≤room)(hc:∀j u,news[j]? = some u→w.cell? (a.add j)=some u)(h1:∀u ∈ news,u.oneCell'=true) :
  Calls Tryz.prog 99 #[.slice (some a) n c] w fun r w'=>∃v',r=.returned v'∧w'.ownsRow w.heap.size 61 3 v' n news∧Below w.heap.size w w':=by
 have q22:∀ (w:World) (a:Option Addr) (n c n' c':Nat),(binOp .eql 24 (.slice a n c) (.slice none n' c')).run Tryz.prog w=.ok (.bool a.isNone) w:=fun w a n c n' c'=>Lib.run_eql_slice_nil w _ _ a n c n' c' Tryz.underlying24
 obtain⟨i0,hi,hz0,hz1,hz2⟩:=info_parts infoSlot
 have A:Hid ((∀j u,news[j]? = some u→w.cell? (a.add j)=some u)∧news.length=n*3∧n*48≤room∧(∀u ∈ news,u.oneCell'=true)∧Tryz.prog.info? 61=some i0∧i0.zero=some (.agg #[.int .i64 0,.string ByteArray.empty,.slice none 0 0])∧i0.size=3∧i0.bytes=48):=⟨hc,hl,hbig,h1,hi,hz0,hz1,hz2⟩
 clear hc hl hbig h1 hi hz0 hz1 hz2
 go_enter Tryz.func99,Tryz.ntmps99
 go_wp2_with (at_builtin;refine wpList_append_own _ rfl _ _ 24 rfl w.heap.size 61 i0 (.agg #[.int .i64 0,.string ByteArray.empty,.slice none 0 0]) 3 48 Tryz.underlying24 A.out.2.2.2.2.1 A.out.2.2.2.2.2.1 A.out.2.2.2.2.2.2.1 A.out.2.2.2.2.2.2.2 rfl (by decide) _ _ _ rfl (World.ownsRow_made w #[] 0 (Nat.le_refl _) (Nat.zero_le _) (by simp)) a n c news rfl A.out.2.1 ?qc2 A.out.2.2.2.1 ?qc4 ?qc5 ?qc6 ?_)
 case qc2=>
  intro j u hj
  exact Lib.cell?_alloc_some _ (A.out.1 j u hj)
 case qc4=>rw [Nat.zero_add];exact maxLen_of_room (by decide) A.out.2.2.1
 case qc5=>rw [Nat.zero_add];exact A.out.2.2.1
 case qc6=>simp
 intro v' w1 hown hgrow hnil
 have HO:Hid (w1.ownsRow w.heap.size 61 3 v' n news):=hown
 have HG:Hid (Below w.heap.size w w1):=((Below.refl _ w).alloc (Nat.le_refl _) _).grown hgrow (by simp) (by intro k hk;simp [Value.ownBlock] at hk;omega)
 clear hown hgrow hnil
 go_wp2
 go_ret
 exact⟨v',rfl,HO.out,HG.out⟩
theorem clone_slots {w:World}{v:Value}{L:List SlotD}(h:Slots w v L)(hb:L.length*48≤room) :
  ∃tv:Nat→Value,(∀j,j<L.length→Sl w (tv j) (L.getD j default).2.2)∧∀W,Below w.heap.size w W→Calls Tryz.prog 99 #[v] W fun r w'=>∃v',r=.returned v'∧w'.ownsRow W.heap.size 61 3 v' L.length (flatS L tv)∧Below W.heap.size W w':=by
 obtain⟨ao,cap,rfl,hm,hcp,hc⟩:=h
 cases ao with
 | none=>
  have hx:L=[]:=Classical.byContradiction fun hne=>by obtain⟨_,_,e,_⟩:=hc hne;cases e
  subst hx
  refine⟨fun _=>nilS,fun j hj=>absurd hj (Nat.not_lt_zero _),fun W _=>(clnS_nil _ _ W).mono ?_⟩
  rintro e w' ⟨rfl,rfl⟩
  exact⟨_,rfl,World.ownsRow_nil _ _ _ _,Below.refl _ _⟩
 | some a=>
  have hx:∀j,j<L.length→∃tv,Sl w tv (L.getD j default).2.2∧∀W,Below w.heap.size w W→W.cell? (a.add (j*3))=some (.int .i64 (L.getD j default).1)∧W.cell? (a.add (j*3+1))=some (.string (L.getD j default).2.1)∧W.cell? (a.add (j*3+2))=some tv:=fun j hj=>by
   obtain⟨b,off,e,hlt,hcell⟩:=hc (by intro e;rw [e] at hj;simp at hj)
   simp only [Option.some.injEq] at e
   subst e
   obtain⟨tv,c1,c2,c3,hs⟩:=hcell j hj
   have eg:L[j]=L.getD j default:=by simp [List.getD,hj]
   rw [eg] at c1 c2 hs
   exact⟨tv,hs,fun W hW=>⟨by rw [addr_add];exact (hW.cell (p:=⟨b,off+j*3,none⟩) hlt).trans c1,by rw [addr_add];exact (hW.cell (p:=⟨b,off+j*3+1,none⟩) hlt).trans c2,by rw [addr_add];exact (hW.cell (p:=⟨b,off+j*3+1+1,none⟩) hlt).trans c3⟩⟩
  obtain⟨tv,htv⟩:=choose_ltV hx
  refine⟨tv,fun j hj=>(htv j hj).1,fun W hW=>clnS_at a L.length cap (flatS L tv) W (flatS_length L tv) hb (fun i u hu=>?_) (flatS_mem (fun j hj=>sl_form1 (htv j hj).1))⟩
  have hi:i<L.length*3:=by
   rcases Nat.lt_or_ge i (L.length*3) with h | h
   ·exact h
   ·rw [List.getElem?_eq_none (by rw [flatS_length];exact h)] at hu;cases hu
  obtain⟨j,r,hj,hr,rfl⟩:∃j r,j<L.length∧r<3∧i=j*3+r:=⟨i / 3,i % 3,by omega,Nat.mod_lt _ (by decide),by omega⟩
  obtain⟨g0,g1,g2⟩:=flatS_get (tv:=tv) hj
  obtain⟨c0,c1,c2⟩:=(htv j hj).2 W hW
  match r,hr with
  | 0,_=>rw [Nat.add_zero] at hu ⊢;rw [g0] at hu;cases hu;exact c0
  | 1,_=>rw [g1] at hu;cases hu;exact c1
  | 2,_=>rw [g2] at hu;cases hu;exact c2
theorem clnN_nil (n c:Nat)(w:World):Calls Tryz.prog 100 #[.slice none n c] w fun r w'=>r=.returned (.slice none 0 0)∧w'=w:=by
 have q22:∀ (w:World) (a:Option Addr) (n c n' c':Nat),(binOp .eql 25 (.slice a n c) (.slice none n' c')).run Tryz.prog w=.ok (.bool a.isNone) w:=fun w a n c n' c'=>Lib.run_eql_slice_nil w _ _ a n c n' c' Tryz.underlying25
 go_enter Tryz.func100,Tryz.ntmps100
 go_wp2
 go_ret
 exact⟨rfl,rfl⟩
set_option maxHeartbeats 1000000 in
theorem clnN_at (a:Addr)(n c:Nat)(news:List Value)(w:World)(hl:news.length=n*3)(hbig:n*48≤room)(hc:∀j u,news[j]? = some u→w.cell? (a.add j)=some u)(h1:∀u ∈ news,u.oneCell'=true) :
  Calls Tryz.prog 100 #[.slice (some a) n c] w fun r w'=>∃v',r=.returned v'∧w'.ownsRow w.heap.size 64 3 v' n news∧Below w.heap.size w w':=by
 have q22:∀ (w:World) (a:Option Addr) (n c n' c':Nat),(binOp .eql 25 (.slice a n c) (.slice none n' c')).run Tryz.prog w=.ok (.bool a.isNone) w:=fun w a n c n' c'=>Lib.run_eql_slice_nil w _ _ a n c n' c' Tryz.underlying25
 obtain⟨i0,hi,hz0,hz1,hz2⟩:=info_parts infoSnap
 have A:Hid ((∀j u,news[j]? = some u→w.cell? (a.add j)=some u)∧news.length=n*3∧n*48≤room∧(∀u ∈ news,u.oneCell'=true)∧Tryz.prog.info? 64=some i0∧i0.zero=some (.agg #[.string ByteArray.empty,.int .i64 0,.slice none 0 0])∧i0.size=3∧i0.bytes=48):=⟨hc,hl,hbig,h1,hi,hz0,hz1,hz2⟩
 clear hc hl hbig h1 hi hz0 hz1 hz2
 go_enter Tryz.func100,Tryz.ntmps100
 go_wp2_with (at_builtin;refine wpList_append_own _ rfl _ _ 25 rfl w.heap.size 64 i0 (.agg #[.string ByteArray.empty,.int .i64 0,.slice none 0 0]) 3 48 Tryz.underlying25 A.out.2.2.2.2.1 A.out.2.2.2.2.2.1 A.out.2.2.2.2.2.2.1 A.out.2.2.2.2.2.2.2 rfl (by decide) _ _ _ rfl (World.ownsRow_made w #[] 0 (Nat.le_refl _) (Nat.zero_le _) (by simp)) a n c news rfl A.out.2.1 ?qc2 A.out.2.2.2.1 ?qc4 ?qc5 ?qc6 ?_)
 case qc2=>
  intro j u hj
  exact Lib.cell?_alloc_some _ (A.out.1 j u hj)
 case qc4=>rw [Nat.zero_add];exact maxLen_of_room (by decide) A.out.2.2.1
 case qc5=>rw [Nat.zero_add];exact A.out.2.2.1
 case qc6=>simp
 intro v' w1 hown hgrow hnil
 have HO:Hid (w1.ownsRow w.heap.size 64 3 v' n news):=hown
 have HG:Hid (Below w.heap.size w w1):=((Below.refl _ w).alloc (Nat.le_refl _) _).grown hgrow (by simp) (by intro k hk;simp [Value.ownBlock] at hk;omega)
 clear hown hgrow hnil
 go_wp2
 go_ret
 exact⟨v',rfl,HO.out,HG.out⟩
theorem clone_snaps {w:World}{v:Value}{L:List SnapD}(h:Snaps w v L)(hb:L.length*48≤room) :
  ∃tv:Nat→Value,(∀j,j<L.length→Sl w (tv j) (L.getD j default).2.2)∧∀W,Below w.heap.size w W→Calls Tryz.prog 100 #[v] W fun r w'=>∃v',r=.returned v'∧w'.ownsRow W.heap.size 64 3 v' L.length (flatN L tv)∧Below W.heap.size W w':=by
 obtain⟨ao,cap,rfl,hm,hcp,hc⟩:=h
 cases ao with
 | none=>
  have hx:L=[]:=Classical.byContradiction fun hne=>by obtain⟨_,_,e,_⟩:=hc hne;cases e
  subst hx
  refine⟨fun _=>nilS,fun j hj=>absurd hj (Nat.not_lt_zero _),fun W _=>(clnN_nil _ _ W).mono ?_⟩
  rintro e w' ⟨rfl,rfl⟩
  exact⟨_,rfl,World.ownsRow_nil _ _ _ _,Below.refl _ _⟩
 | some a=>
  have hx:∀j,j<L.length→∃tv,Sl w tv (L.getD j default).2.2∧∀W,Below w.heap.size w W→W.cell? (a.add (j*3))=some (.string (L.getD j default).1)∧W.cell? (a.add (j*3+1))=some (.int .i64 (L.getD j default).2.1)∧W.cell? (a.add (j*3+2))=some tv:=fun j hj=>by
   obtain⟨b,off,e,hlt,hcell⟩:=hc (by intro e;rw [e] at hj;simp at hj)
   simp only [Option.some.injEq] at e
   subst e
   obtain⟨tv,c1,c2,c3,hs⟩:=hcell j hj
   have eg:L[j]=L.getD j default:=by simp [List.getD,hj]
   rw [eg] at c1 c2 hs
   exact⟨tv,hs,fun W hW=>⟨by rw [addr_add];exact (hW.cell (p:=⟨b,off+j*3,none⟩) hlt).trans c1,by rw [addr_add];exact (hW.cell (p:=⟨b,off+j*3+1,none⟩) hlt).trans c2,by rw [addr_add];exact (hW.cell (p:=⟨b,off+j*3+1+1,none⟩) hlt).trans c3⟩⟩
  obtain⟨tv,htv⟩:=choose_ltV hx
  refine⟨tv,fun j hj=>(htv j hj).1,fun W hW=>clnN_at a L.length cap (flatN L tv) W (flatN_length L tv) hb (fun i u hu=>?_) (flatN_mem (fun j hj=>sl_form1 (htv j hj).1))⟩
  have hi:i<L.length*3:=by
   rcases Nat.lt_or_ge i (L.length*3) with h | h
   ·exact h
   ·rw [List.getElem?_eq_none (by rw [flatN_length];exact h)] at hu;cases hu
  obtain⟨j,r,hj,hr,rfl⟩:∃j r,j<L.length∧r<3∧i=j*3+r:=⟨i / 3,i % 3,by omega,Nat.mod_lt _ (by decide),by omega⟩
  obtain⟨g0,g1,g2⟩:=flatN_get (qv:=tv) hj
  obtain⟨c0,c1,c2⟩:=(htv j hj).2 W hW
  match r,hr with
  | 0,_=>rw [Nat.add_zero] at hu ⊢;rw [g0] at hu;cases hu;exact c0
  | 1,_=>rw [g1] at hu;cases hu;exact c1
  | 2,_=>rw [g2] at hu;cases hu;exact c2
theorem row_slice {W:World}{B:Nat}{e:TypeId}{size n:Nat}{v:Value}{xs:List Value}(h:W.ownsRow B e size v n xs):∃ao cap,v=.slice ao n cap:=by
 rcases row_form h with ⟨rfl,rfl⟩ | ⟨g,cap,rfl,_⟩
 ·exact⟨none,0,rfl⟩
 ·exact⟨_,cap,rfl⟩
def liveH (k l:Nat) (a:Nm):Prop:=(a.kind<4∧a.ix=0)∨(a.kind=4∧a.ix<k)∨(a.kind=5∧a.ix<l)
def rowH (m:ImgD) (val:Nm→Value) (tv qv:Nat→Value) (k l:Nat) (a:Nm):List Value:=match a.kind with
 | 0=>ints m.root
 | 1=>flatS m.slots (fun j=>if j<k then val (.tab j) else tv j)
 | 2=>ints m.refs
 | 3=>flatN m.snaps (fun j=>if j<l then val (.sr j) else qv j)
 | 4=>ints (m.slots.getD a.ix default).2.2
 | _=>ints (m.snaps.getD a.ix default).2.2
structure HC (W:World) (B:Nat) (val:Nm→Value) (m:ImgD) (tv qv:Nat→Value) (k l:Nat):Prop where
 row:∀a,liveH k l a→W.ownsRow B (rowT a) (rowS a) (val a) (rowN m a) (rowH m val tv qv k l a)
 apart:∀a b,liveH k l a→liveH k l b→a≠b→∀g,(val a).ownBlock=some g→(val b).ownBlock≠some g
theorem liveH.cases {k l:Nat}{a:Nm}(h:liveH k l a):a=.root∨a=.slots∨a=.refs∨a=.snaps∨(∃j,a=.tab j∧j<k)∨∃j,a=.sr j∧j<l:=by
 obtain⟨x,j⟩:=a
 rcases h with ⟨h1,h2⟩ | ⟨h1,h2⟩ | ⟨h1,h2⟩
 ·dsimp only at h1 h2
  subst h2
  match x,h1 with
  | 0,_=>exact .inl rfl
  | 1,_=>exact .inr (.inl rfl)
  | 2,_=>exact .inr (.inr (.inl rfl))
  | 3,_=>exact .inr (.inr (.inr (.inl rfl)))
 ·dsimp only at h1 h2;subst h1;exact .inr (.inr (.inr (.inr (.inl ⟨j,rfl,h2⟩))))
 ·dsimp only at h1 h2;subst h1;exact .inr (.inr (.inr (.inr (.inr ⟨j,rfl,h2⟩))))
theorem liveH.old {k l:Nat}{a:Nm}(h:liveH (k+1) l a)(hne:a≠.tab k):liveH k l a:=by
 rcases h.cases with rfl | rfl | rfl | rfl | ⟨j,rfl,hj⟩ | ⟨j,rfl,hj⟩
 ·exact .inl ⟨by decide,rfl⟩
 ·exact .inl ⟨by decide,rfl⟩
 ·exact .inl ⟨by decide,rfl⟩
 ·exact .inl ⟨by decide,rfl⟩
 ·refine .inr (.inl ⟨rfl,?_⟩)
  rcases Nat.lt_or_ge j k with h | h
  ·exact h
  ·exact absurd (by rw [show j=k by omega]) hne
 ·exact .inr (.inr ⟨rfl,hj⟩)
theorem liveH.old' {k l:Nat}{a:Nm}(h:liveH k (l+1) a)(hne:a≠.sr l):liveH k l a:=by
 rcases h.cases with rfl | rfl | rfl | rfl | ⟨j,rfl,hj⟩ | ⟨j,rfl,hj⟩
 ·exact .inl ⟨by decide,rfl⟩
 ·exact .inl ⟨by decide,rfl⟩
 ·exact .inl ⟨by decide,rfl⟩
 ·exact .inl ⟨by decide,rfl⟩
 ·exact .inr (.inl ⟨rfl,hj⟩)
 ·refine .inr (.inr ⟨rfl,?_⟩)
  rcases Nat.lt_or_ge j l with h | h
  ·exact h
  ·exact absurd (by rw [show j=l by omega]) hne
theorem HC.below {W W':World}{B:Nat}{val:Nm→Value}{m:ImgD}{tv qv:Nat→Value}{k l:Nat}(h:HC W B val m tv qv k l)(hb:Below W.heap.size W W'):HC W' B val m tv qv k l:=by
 refine⟨fun a ha=>?_,h.apart⟩
 have hr:=h.row a ha
 refine⟨hr.1,?_⟩
 rcases hr.2 with hn | ⟨g,cap,cur,hv,hb',hg,rest⟩
 ·exact .inl hn
 ·exact .inr ⟨g,cap,cur,hv,hb',(hb.block g (szH hg)).trans hg,rest⟩
theorem HC.far {W:World}{B:Nat}{val:Nm→Value}{m:ImgD}{tv qv:Nat→Value}{k l:Nat}(h:HC W B val m tv qv k l){g i:Nat}{u:Value}(hg:g<B):HC (W.setCell ⟨g,i,none⟩ u) B val m tv qv k l:=
 ⟨fun a ha=>ownsRow_setCell_other (h.row a ha) (fun e=>by have:=((h.row a ha).lt g e).1;omega) u,h.apart⟩
theorem HC.done {W:World}{B:Nat}{val:Nm→Value}{m:ImgD}{tv qv:Nat→Value}(h:HC W B val m tv qv m.slots.length m.snaps.length):OI W B val m:=by
 refine⟨fun a ha=>?_,fun a b ha hb=>h.apart a b ha hb⟩
 have e:rowH m val tv qv m.slots.length m.snaps.length a=rowV m val a:=by
  rcases ha.cases with rfl | rfl | rfl | rfl | ⟨j,rfl,hj⟩ | ⟨j,rfl,hj⟩ <;> first | rfl | skip
  ·show flatS _ _=flatS _ _
   unfold flatS
   refine congrArg List.flatten (List.map_congr_left fun j hj=>?_)
   dsimp only
   rw [if_pos (List.mem_range.1 hj)]
  ·show flatN _ _=flatN _ _
   unfold flatN
   refine congrArg List.flatten (List.map_congr_left fun j hj=>?_)
   dsimp only
   rw [if_pos (List.mem_range.1 hj)]
 rw [←e]
 exact h.row a ha
theorem flatN_ext {L:List SnapD}{tv tv':Nat→Value}(h:∀j,j<L.length→tv' j=tv j):flatN L tv'=flatN L tv:=by
 unfold flatN
 refine congrArg List.flatten (List.map_congr_left fun j hj=>?_)
 rw [h j (List.mem_range.1 hj)]
theorem flatS_put {L:List SlotD}{tv tv':Nat→Value}{t:Nat}(htv:∀j,j≠t→tv' j=tv j):flatS L tv'=(flatS L tv).set (t*3+2) (tv' t):=by
 apply List.ext_getElem?
 intro i
 have hlen:=flatS_length L tv
 rcases Nat.lt_or_ge i (L.length*3) with hi | hi
 ·obtain⟨j,r,hj,hr,rfl⟩:∃j r,j<L.length∧r<3∧i=j*3+r:=⟨i / 3,i % 3,by omega,Nat.mod_lt _ (by decide),by omega⟩
  obtain⟨a0,a1,a2⟩:=flatS_get (L:=L) (tv:=tv') hj
  obtain⟨b0,b1,b2⟩:=flatS_get (L:=L) (tv:=tv) hj
  by_cases e:t=j
  ·subst e
   match r,hr with
   | 0,_=>rw [Nat.add_zero,a0,List.getElem?_set_ne (by omega),b0]
   | 1,_=>rw [a1,List.getElem?_set_ne (by omega),b1]
   | 2,_=>rw [a2,List.getElem?_set_self (by rw [hlen];omega)]
  ·rw [htv j (fun x=>e x.symm)] at a2
   rw [List.getElem?_set_ne (by omega)]
   match r,hr with
   | 0,_=>rw [Nat.add_zero,a0,b0]
   | 1,_=>rw [a1,b1]
   | 2,_=>rw [a2,b2]
 ·rw [List.getElem?_eq_none (by rw [flatS_length];exact hi),List.getElem?_eq_none (by rw [List.length_set,flatS_length];exact hi)]
theorem flatN_put {L:List SnapD}{tv tv':Nat→Value}{t:Nat}(htv:∀j,j≠t→tv' j=tv j):flatN L tv'=(flatN L tv).set (t*3+2) (tv' t):=by
 apply List.ext_getElem?
 intro i
 have hlen:=flatN_length L tv
 rcases Nat.lt_or_ge i (L.length*3) with hi | hi
 ·obtain⟨j,r,hj,hr,rfl⟩:∃j r,j<L.length∧r<3∧i=j*3+r:=⟨i / 3,i % 3,by omega,Nat.mod_lt _ (by decide),by omega⟩
  obtain⟨a0,a1,a2⟩:=flatN_get (S:=L) (qv:=tv') hj
  obtain⟨b0,b1,b2⟩:=flatN_get (S:=L) (qv:=tv) hj
  by_cases e:t=j
  ·subst e
   match r,hr with
   | 0,_=>rw [Nat.add_zero,a0,List.getElem?_set_ne (by omega),b0]
   | 1,_=>rw [a1,List.getElem?_set_ne (by omega),b1]
   | 2,_=>rw [a2,List.getElem?_set_self (by rw [hlen];omega)]
  ·rw [htv j (fun x=>e x.symm)] at a2
   rw [List.getElem?_set_ne (by omega)]
   match r,hr with
   | 0,_=>rw [Nat.add_zero,a0,b0]
   | 1,_=>rw [a1,b1]
   | 2,_=>rw [a2,b2]
 ·rw [List.getElem?_eq_none (by rw [flatN_length];exact hi),List.getElem?_eq_none (by rw [List.length_set,flatN_length];exact hi)]
theorem HC.tab {W:World}{B:Nat}{val:Nm→Value}{m:ImgD}{tv qv:Nat→Value}{k l:Nat}(h:HC W B val m tv qv k l){g n cap:Nat}(hv:val .slots=.slice (some ⟨g,0,none⟩) n cap){v:Value}(hr:W.ownsRow B 3 1 v (m.slots.getD k default).2.2.length (ints (m.slots.getD k default).2.2))(hf:∀a,liveH k l a→∀q,v.ownBlock=some q→(val a).ownBlock≠some q) :
  HC (W.setCell ⟨g,k*3+2,none⟩ v) B (upd val (.tab k) v) m tv qv (k+1) l:=by
 have hsl:liveH k l .slots:=.inl ⟨by decide,rfl⟩
 have hvg:v.ownBlock≠some g:=fun e=>hf .slots hsl g e (by rw [hv];rfl)
 have hnn:n=m.slots.length:=by
  rcases row_form (h.row .slots hsl) with ⟨e,_⟩ | ⟨g',cap',e,_⟩
  ·rw [hv] at e;simp at e
  ·rw [hv] at e;simp at e;exact e.2.1
 refine⟨fun a ha=>?_,fun a b ha hb hne q hq=>?_⟩
 ·by_cases e:a=.tab k
  ·subst e
   rw [upd_same]
   exact ownsRow_setCell_other hr hvg v
  ·have ha':=ha.old e
   rw [upd_other _ _ e]
   by_cases es:a=.slots
   ·subst es
    have hrs:=h.row .slots hsl
    have e1:rowH m (upd val (.tab k) v) tv qv (k+1) l .slots=(rowH m val tv qv k l .slots).set (k*3+2) v:=by
     have:=flatS_put (L:=m.slots) (tv:=fun j=>if j<k then val (.tab j) else tv j) (tv':=fun j=>if j<k+1 then upd val (.tab k) v (.tab j) else tv j) (t:=k) (fun j hj=>by
      by_cases h1:j<k
      ·rw [if_pos (by omega),if_pos h1,upd_other _ _ (by intro x;injection x with _ x;omega)]
      ·rw [if_neg (by omega),if_neg h1])
     rw [if_pos (by omega),upd_same] at this
     exact this
    rw [e1]
    have hN:rowN m .slots=n:=hnn.symm
    rw [hN,hv] at hrs ⊢
    exact (hrs.stored (k*3+2) v).1
   ·have e1:rowH m (upd val (.tab k) v) tv qv (k+1) l a=rowH m val tv qv k l a:=by
     rcases ha'.cases with rfl | rfl | rfl | rfl | ⟨j,rfl,hj⟩ | ⟨j,rfl,hj⟩ <;> first | rfl | exact absurd rfl es
    rw [e1]
    exact ownsRow_setCell_other (h.row a ha') (h.apart .slots a hsl ha' (fun x=>es x.symm) g (by rw [hv];rfl)) v
 ·by_cases e:a=.tab k
  ·subst e
   rw [upd_same] at hq
   rw [upd_other _ _ (fun x=>hne x.symm)]
   exact hf b (hb.old (fun x=>hne x.symm)) q hq
  ·rw [upd_other _ _ e] at hq
   by_cases e2:b=.tab k
   ·subst e2;rw [upd_same];exact fun x=>hf a (ha.old e) q x hq
   ·rw [upd_other _ _ e2];exact h.apart a b (ha.old e) (hb.old e2) hne q hq
theorem HC.sr {W:World}{B:Nat}{val:Nm→Value}{m:ImgD}{tv qv:Nat→Value}{k l:Nat}(h:HC W B val m tv qv k l){g n cap:Nat}(hv:val .snaps=.slice (some ⟨g,0,none⟩) n cap){v:Value}(hr:W.ownsRow B 3 1 v (m.snaps.getD l default).2.2.length (ints (m.snaps.getD l default).2.2))(hf:∀a,liveH k l a→∀q,v.ownBlock=some q→(val a).ownBlock≠some q) :
  HC (W.setCell ⟨g,l*3+2,none⟩ v) B (upd val (.sr l) v) m tv qv k (l+1):=by
 have hsl:liveH k l .snaps:=.inl ⟨by decide,rfl⟩
 have hvg:v.ownBlock≠some g:=fun e=>hf .snaps hsl g e (by rw [hv];rfl)
 have hnn:n=m.snaps.length:=by
  rcases row_form (h.row .snaps hsl) with ⟨e,_⟩ | ⟨g',cap',e,_⟩
  ·rw [hv] at e;simp at e
  ·rw [hv] at e;simp at e;exact e.2.1
 refine⟨fun a ha=>?_,fun a b ha hb hne q hq=>?_⟩
 ·by_cases e:a=.sr l
  ·subst e
   rw [upd_same]
   exact ownsRow_setCell_other hr hvg v
  ·have ha':=ha.old' e
   rw [upd_other _ _ e]
   by_cases es:a=.snaps
   ·subst es
    have hrs:=h.row .snaps hsl
    have e1:rowH m (upd val (.sr l) v) tv qv k (l+1) .snaps=(rowH m val tv qv k l .snaps).set (l*3+2) v:=by
     have:=flatN_put (L:=m.snaps) (tv:=fun j=>if j<l then val (.sr j) else qv j) (tv':=fun j=>if j<l+1 then upd val (.sr l) v (.sr j) else qv j) (t:=l) (fun j hj=>by
      by_cases h1:j<l
      ·rw [if_pos (by omega),if_pos h1,upd_other _ _ (by intro x;injection x with _ x;omega)]
      ·rw [if_neg (by omega),if_neg h1])
     rw [if_pos (by omega),upd_same] at this
     exact this
    rw [e1]
    have hN:rowN m .snaps=n:=hnn.symm
    rw [hN,hv] at hrs ⊢
    exact (hrs.stored (l*3+2) v).1
   ·have e1:rowH m (upd val (.sr l) v) tv qv k (l+1) a=rowH m val tv qv k l a:=by
     rcases ha'.cases with rfl | rfl | rfl | rfl | ⟨j,rfl,hj⟩ | ⟨j,rfl,hj⟩ <;> first | rfl | exact absurd rfl es
    rw [e1]
    exact ownsRow_setCell_other (h.row a ha') (h.apart .snaps a hsl ha' (fun x=>es x.symm) g (by rw [hv];rfl)) v
 ·by_cases e:a=.sr l
  ·subst e
   rw [upd_same] at hq
   rw [upd_other _ _ (fun x=>hne x.symm)]
   exact hf b (hb.old' (fun x=>hne x.symm)) q hq
  ·rw [upd_other _ _ e] at hq
   by_cases e2:b=.sr l
   ·subst e2;rw [upd_same];exact fun x=>hf a (ha.old' e) q x hq
   ·rw [upd_other _ _ e2];exact h.apart a b (ha.old' e) (hb.old' e2) hne q hq
structure Fits (m:ImgD):Prop where
 root:m.root.length*8≤room
 slots:m.slots.length*48≤room
 refs:m.refs.length*8≤room
 snaps:m.snaps.length*48≤room
 tab:∀j,j<m.slots.length→(m.slots.getD j default).2.2.length*8≤room
 sr:∀j,j<m.snaps.length→(m.snaps.getD j default).2.2.length*8≤room
def val4 (vr vs vf vn:Value):Nm→Value:=fun a=>if a.kind=0 then vr else if a.kind=1 then vs else if a.kind=2 then vf else vn
theorem HC.start {W:World}{B:Nat}{m:ImgD}{tv qv:Nat→Value}{vr vs vf vn:Value}(h0:W.ownsRow B 3 1 vr m.root.length (ints m.root))(h1:W.ownsRow B 61 3 vs m.slots.length (flatS m.slots tv))(h2:W.ownsRow B 3 1 vf m.refs.length (ints m.refs))(h3:W.ownsRow B 64 3 vn m.snaps.length (flatN m.snaps qv))
  (a01:∀q,vs.ownBlock=some q→vr.ownBlock≠some q) (a02:∀q,vf.ownBlock=some q→vr.ownBlock≠some q) (a03:∀q,vn.ownBlock=some q→vr.ownBlock≠some q) (a12:∀q,vs.ownBlock=some q→vf.ownBlock≠some q) (a13:∀q,vn.ownBlock=some q→vs.ownBlock≠some q) (a23:∀q,vn.ownBlock=some q→vf.ownBlock≠some q):HC W B (val4 vr vs vf vn) m tv qv 0 0:=by
 refine⟨fun a ha=>?_,fun a b ha hb hne q hq=>?_⟩
 ·rcases ha.cases with rfl | rfl | rfl | rfl | ⟨j,rfl,hj⟩ | ⟨j,rfl,hj⟩
  ·exact h0
  ·exact h1
  ·exact h2
  ·exact h3
  ·exact absurd hj (Nat.not_lt_zero _)
  ·exact absurd hj (Nat.not_lt_zero _)
 ·rcases ha.cases with rfl | rfl | rfl | rfl | ⟨j,rfl,hj⟩ | ⟨j,rfl,hj⟩
  ·rcases hb.cases with rfl | rfl | rfl | rfl | ⟨j,rfl,hj⟩ | ⟨j,rfl,hj⟩
   ·exact absurd rfl hne
   ·exact fun x=>a01 q x hq
   ·exact fun x=>a02 q x hq
   ·exact fun x=>a03 q x hq
   ·exact absurd hj (Nat.not_lt_zero _)
   ·exact absurd hj (Nat.not_lt_zero _)
  ·rcases hb.cases with rfl | rfl | rfl | rfl | ⟨j,rfl,hj⟩ | ⟨j,rfl,hj⟩
   ·exact a01 q hq
   ·exact absurd rfl hne
   ·exact a12 q hq
   ·exact fun x=>a13 q x hq
   ·exact absurd hj (Nat.not_lt_zero _)
   ·exact absurd hj (Nat.not_lt_zero _)
  ·rcases hb.cases with rfl | rfl | rfl | rfl | ⟨j,rfl,hj⟩ | ⟨j,rfl,hj⟩
   ·exact a02 q hq
   ·exact fun x=>a12 q x hq
   ·exact absurd rfl hne
   ·exact fun x=>a23 q x hq
   ·exact absurd hj (Nat.not_lt_zero _)
   ·exact absurd hj (Nat.not_lt_zero _)
  ·rcases hb.cases with rfl | rfl | rfl | rfl | ⟨j,rfl,hj⟩ | ⟨j,rfl,hj⟩
   ·exact a03 q hq
   ·exact a13 q hq
   ·exact a23 q hq
   ·exact absurd rfl hne
   ·exact absurd hj (Nat.not_lt_zero _)
   ·exact absurd hj (Nat.not_lt_zero _)
  ·exact absurd hj (Nat.not_lt_zero _)
  ·exact absurd hj (Nat.not_lt_zero _)
def Cp1 (w:World) (m:ImgD) (sa:Option Addr) (sn sc:Nat) (na:Option Addr) (nn nc:Nat) (wx:World):Prop:=∃qa qc ka kc,wx.heap[w.heap.size]? = some (.cells #[.int .i64 m.guest,.slice qa m.root.length qc,.slice sa sn sc,.slice ka m.refs.length kc,.slice na nn nc] 27)∧wx.heap[w.heap.size+1]? = some (.cells #[.int .i64 0,.slice none 0 0,.slice none 0 0,.slice none 0 0,.slice none 0 0] 27)∧Below w.heap.size w wx∧wx.ownsRow (w.heap.size+2) 3 1 (.slice qa m.root.length qc) m.root.length (ints m.root)∧wx.ownsRow (w.heap.size+2) 3 1 (.slice ka m.refs.length kc) m.refs.length (ints m.refs)∧∀q,(Value.slice ka m.refs.length kc).ownBlock=some q→(Value.slice qa m.root.length qc).ownBlock≠some q
def Cp2 (w:World) (m:ImgD) (tv qv:Nat→Value) (wx:World):Prop:=∃qa qc pa pc ka kc ja jc,wx.heap[w.heap.size]? = some (.cells #[.int .i64 m.guest,.slice qa m.root.length qc,.slice pa m.slots.length pc,.slice ka m.refs.length kc,.slice ja m.snaps.length jc] 27)∧wx.heap[w.heap.size+1]? = some (.cells #[.int .i64 0,.slice none 0 0,.slice none 0 0,.slice none 0 0,.slice none 0 0] 27)∧Below w.heap.size w wx∧HC wx (w.heap.size+2) (val4 (.slice qa m.root.length qc) (.slice pa m.slots.length pc) (.slice ka m.refs.length kc) (.slice ja m.snaps.length jc)) m tv qv 0 0
theorem row_apart {W W':World}{B B' n n' size size':Nat}{e e':TypeId}{v v':Value}{xs xs':List Value}(h:W.ownsRow B e size v n xs)(h':W'.ownsRow B' e' size' v' n' xs')(hB:W.heap.size≤B'):∀q,v'.ownBlock=some q→v.ownBlock≠some q:=fun q e x=>by
 have h1:=(h.lt q x).2
 have h2:=(h'.lt q e).1
 omega
theorem row_keep {W W':World}{B n size:Nat}{e:TypeId}{v:Value}{xs:List Value}(h:W.ownsRow B e size v n xs)(hb:Below W.heap.size W W'):W'.ownsRow B e size v n xs:=by
 refine⟨h.1,?_⟩
 rcases h.2 with hn | ⟨g,cap,cur,hv,hb',hg,rest⟩
 ·exact .inl hn
 ·exact .inr ⟨g,cap,cur,hv,hb',(hb.block g (szH hg)).trans hg,rest⟩
theorem row_mono {W:World}{B B' n size:Nat}{e:TypeId}{v:Value}{xs:List Value}(h:W.ownsRow B e size v n xs)(hB:B'≤B):W.ownsRow B' e size v n xs:=by
 refine⟨h.1,?_⟩
 rcases h.2 with hn | ⟨g,cap,cur,hv,hb',rest⟩
 ·exact .inl hn
 ·exact .inr ⟨g,cap,cur,hv,Nat.le_trans hB hb',rest⟩
theorem OI.mono {W:World}{B B':Nat}{val:Nm→Value}{m:ImgD}(h:OI W B val m)(hB:B'≤B):OI W B' val m:=⟨fun a ha=>row_mono (h.row a ha) hB,h.apart⟩
structure CpR (w wr:World) (m:ImgD) (tv qv:Nat→Value) (va vb vc vd:Value) (k l:Nat):Prop where
 own:∃val,HC wr (w.heap.size+2) val m tv qv k l∧val .root=va∧val .slots=vb∧val .refs=vc∧val .snaps=vd
 box:wr.heap[w.heap.size]? = some (.cells #[.int .i64 m.guest,va,vb,vc,vd] 27)
 res:wr.heap[w.heap.size+1]? = some (.cells #[.int .i64 0,.slice none 0 0,.slice none 0 0,.slice none 0 0,.slice none 0 0] 27)
 bel:Below w.heap.size w wr
theorem CpR.below {w wr wr':World}{m:ImgD}{tv qv:Nat→Value}{va vb vc vd:Value}{k l:Nat}(h:CpR w wr m tv qv va vb vc vd k l)(hb:Below wr.heap.size wr wr'):CpR w wr' m tv qv va vb vc vd k l:=by
 obtain⟨⟨val,hH,e⟩,h1,h2,h3⟩:=h
 exact⟨⟨val,hH.below hb,e⟩,cells_below h1 hb (szH h1),cells_below h2 hb (szH h2),Below.on h3 hb⟩
theorem CpR.tab {w wr wr':World}{m:ImgD}{tv qv:Nat→Value}{va vc vd v:Value}{k l g n cap:Nat}(h:CpR w wr m tv qv va (.slice (some ⟨g,0,none⟩) n cap) vc vd k l)(hb:Below wr.heap.size wr wr')(hr:wr'.ownsRow wr.heap.size 3 1 v (m.slots.getD k default).2.2.length (ints (m.slots.getD k default).2.2)):CpR w (wr'.setCell ⟨g,k*3+2,none⟩ v) m tv qv va (.slice (some ⟨g,0,none⟩) n cap) vc vd (k+1) l:=by
 have hk:=h.below hb
 obtain⟨⟨val,hH,e0,e1,e2,e3⟩,h1,h2,h3⟩:=h
 obtain⟨_,k1,k2,k3⟩:=hk
 have hg:=(hH.row .slots (.inl ⟨by decide,rfl⟩)).lt g (by rw [e1];rfl)
 have hsz:w.heap.size+2≤wr.heap.size:=(szH h2)
 refine⟨⟨upd val (.tab k) v,(hH.below hb).tab e1 (row_mono hr hsz) (fun a ha q hq x=>?_),(upd_other _ _ (by intro x;cases x)).trans e0,(upd_other _ _ (by intro x;cases x)).trans e1,(upd_other _ _ (by intro x;cases x)).trans e2,(upd_other _ _ (by intro x;cases x)).trans e3⟩,cells_other k1 (by omega) _ _,cells_other k2 (by omega) _ _,k3.setCell (by show _≤g;omega) _⟩
 have x1:=((hH.row a ha).lt q x).2
 have x2:=(hr.lt q hq).1
 omega
theorem CpR.sr {w wr wr':World}{m:ImgD}{tv qv:Nat→Value}{va vb vc v:Value}{k l g n cap:Nat}(h:CpR w wr m tv qv va vb vc (.slice (some ⟨g,0,none⟩) n cap) k l)(hb:Below wr.heap.size wr wr')(hr:wr'.ownsRow wr.heap.size 3 1 v (m.snaps.getD l default).2.2.length (ints (m.snaps.getD l default).2.2)):CpR w (wr'.setCell ⟨g,l*3+2,none⟩ v) m tv qv va vb vc (.slice (some ⟨g,0,none⟩) n cap) k (l+1):=by
 have hk:=h.below hb
 obtain⟨⟨val,hH,e0,e1,e2,e3⟩,h1,h2,h3⟩:=h
 obtain⟨_,k1,k2,k3⟩:=hk
 have hg:=(hH.row .snaps (.inl ⟨by decide,rfl⟩)).lt g (by rw [e3];rfl)
 have hsz:w.heap.size+2≤wr.heap.size:=(szH h2)
 refine⟨⟨upd val (.sr l) v,(hH.below hb).sr e3 (row_mono hr hsz) (fun a ha q hq x=>?_),(upd_other _ _ (by intro x;cases x)).trans e0,(upd_other _ _ (by intro x;cases x)).trans e1,(upd_other _ _ (by intro x;cases x)).trans e2,(upd_other _ _ (by intro x;cases x)).trans e3⟩,cells_other k1 (by omega) _ _,cells_other k2 (by omega) _ _,k3.setCell (by show _≤g;omega) _⟩
 have x1:=((hH.row a ha).lt q x).2
 have x2:=(hr.lt q hq).1
 omega
set_option maxHeartbeats 4000000 in
theorem copied_at (m:ImgD)(ra:Option Addr)(rn rc:Nat)(sa:Option Addr)(sn sc:Nat)(fa:Option Addr)(fn fc:Nat)(na:Option Addr)(nn nc:Nat)(w:World)(h0:Sl w (.slice ra rn rc) m.root)(h1:Slots w (.slice sa sn sc) m.slots)(h2:Sl w (.slice fa fn fc) m.refs)(h3:Snaps w (.slice na nn nc) m.snaps)(hF:Fits m) :
  Calls Tryz.prog 72 #[.agg #[.int .i64 m.guest,.slice ra rn rc,.slice sa sn sc,.slice fa fn fc,.slice na nn nc]] w fun r w'=>∃val,r=.returned (imgV m.guest val)∧OI w' w.heap.size val m∧Below w.heap.size w w':=by
 have m0:((w.alloc (.cells #[.int .i64 m.guest,.slice ra rn rc,.slice sa sn sc,.slice fa fn fc,.slice na nn nc] 27)).alloc (.cells #[.int .i64 0,.slice none 0 0,.slice none 0 0,.slice none 0 0,.slice none 0 0] 27)).heap[w.heap.size]? = some (.cells #[.int .i64 m.guest,.slice ra rn rc,.slice sa sn sc,.slice fa fn fc,.slice na nn nc] 27):=cells_alloc (World.alloc_heap_new _ _) _
 have mz:((w.alloc (.cells #[.int .i64 m.guest,.slice ra rn rc,.slice sa sn sc,.slice fa fn fc,.slice na nn nc] 27)).alloc (.cells #[.int .i64 0,.slice none 0 0,.slice none 0 0,.slice none 0 0,.slice none 0 0] 27)).heap[w.heap.size+1]? = some (.cells #[.int .i64 0,.slice none 0 0,.slice none 0 0,.slice none 0 0,.slice none 0 0] 27):=by have:=World.alloc_heap_new (w.alloc (.cells #[.int .i64 m.guest,.slice ra rn rc,.slice sa sn sc,.slice fa fn fc,.slice na nn nc] 27)) (.cells #[.int .i64 0,.slice none 0 0,.slice none 0 0,.slice none 0 0,.slice none 0 0] 27);simpa using this
 obtain⟨c0,c1,c2,c3,c4⟩:=five m0
 have b0:Below w.heap.size w ((w.alloc (.cells #[.int .i64 m.guest,.slice ra rn rc,.slice sa sn sc,.slice fa fn fc,.slice na nn nc] 27)).alloc (.cells #[.int .i64 0,.slice none 0 0,.slice none 0 0,.slice none 0 0,.slice none 0 0] 27)):=((Below.refl _ _).alloc (Nat.le_refl _) _).alloc (by simp) _
 obtain⟨W0,hW0⟩:∃W0,((w.alloc (.cells #[.int .i64 m.guest,.slice ra rn rc,.slice sa sn sc,.slice fa fn fc,.slice na nn nc] 27)).alloc (.cells #[.int .i64 0,.slice none 0 0,.slice none 0 0,.slice none 0 0,.slice none 0 0] 27))=W0:=⟨_,rfl⟩
 go_enter Tryz.func72,Tryz.ntmps72
 go_upto_region 1 with fail
 rw [hW0] at m0 mz c0 c1 c2 c3 c4 b0
 have hz0:w.heap.size+2≤W0.heap.size:=by rw [←hW0];simp
 clear hW0
 go_cut [] from 7 (fun wx=>Cp1 w m sa sn sc na nn nc wx)
 case first=>
  go_region_with
   (first
    | (go_at_call 98;refine (clone_ints (h0.below (to_drew b0)) hF.root).mono ?_;rintro e w1 ⟨vr,rfl,hr0,bb1⟩;have bb1:=below_drew bb1;have m1:=cells_below m0 bb1 (by omega);have mz1:=cells_below mz bb1 (by omega);obtain⟨d0,d1,d2,d3,d4⟩:=five m1;obtain⟨qa,qc,rfl⟩:=row_slice hr0)
    | (go_at_call 98;refine (clone_ints ((h2.below b0).below bb1) hF.refs).mono ?_;rintro e w2 ⟨vf,rfl,hr2,bb2⟩;have m2:=cells_below m1 bb2 (szH m1);have mz2:=cells_below mz1 bb2 (szH mz1);obtain⟨g0,g1,g2,g3,g4⟩:=five m2;have f1:=cells_frozen m2 1;have f3:=cells_frozen m2 3;obtain⟨ka,kc,rfl⟩:=row_slice hr2))
  all_goals
   go_wp2_with fail
   go_meet
   have hz1:w.heap.size+2≤w1.heap.size:=Nat.le_trans hz0 bb1.size
   have hr0':W0.heap.size=W0.drew.heap.size:=rfl
   have hr0a:=hr0
   have hr0:=row_mono (row_keep hr0 bb2) (B':=w.heap.size+2) (by rw [←hr0'];exact hz0)
   have hr2':=row_mono hr2 (B':=w.heap.size+2) hz1
   refine⟨qa,qc,ka,kc,?_,cells_other (cells_other mz2 (by omega) _ _) (by omega) _ _,((Below.on b0 (Below.on bb1 bb2)).setCell (Nat.le_refl _) _).setCell (Nat.le_refl _) _,ownsRow_setCell_below (ownsRow_setCell_below hr0 (show w.heap.size<w.heap.size+2 by omega) _) (show w.heap.size<w.heap.size+2 by omega) _,ownsRow_setCell_below (ownsRow_setCell_below hr2' (show w.heap.size<w.heap.size+2 by omega) _) (show w.heap.size<w.heap.size+2 by omega) _,?_⟩
   ·exact cells_set (cells_set m2 1 _) 3 _
   ·exact row_apart hr0a hr2 (Nat.le_refl _)
 case rest=>
 obtain⟨qa,qc,ka,kc,m1,mz1,b1,hr0,hr2,ap⟩:=hcut
 obtain⟨d0,d1,d2,d3,d4⟩:=five m1
 have hN1:w.heap.size+2≤wc.heap.size:=(szH mz1)
 obtain⟨tv,htv,hcs⟩:=clone_slots h1 hF.slots
 obtain⟨qv,hqv,hcn⟩:=clone_snaps h3 hF.snaps
 clear h0 h2 m0 mz c0 c1 c2 c3 c4 b0 hz0
 go_upto_region 2 with fail
 go_cut [] from 15 (fun wx=>Cp2 w m tv qv wx)
 case first=>
  go_region_with
   (first
    | (go_at_call 99;refine (hcs _ (to_drew b1)).mono ?_;rintro e w1 ⟨vr,rfl,hr1,bb1⟩;have bb1:=below_drew bb1;have m2:=cells_below m1 bb1 (by omega);have mz2:=cells_below mz1 bb1 (by omega);obtain⟨g0,g1,g2,g3,g4⟩:=five m2;obtain⟨pa,pc,rfl⟩:=row_slice hr1)
    | (go_at_call 100;refine (hcn _ (Below.on b1 bb1)).mono ?_;rintro e w2 ⟨vf,rfl,hr3,bb2⟩;have m3:=cells_below m2 bb2 (szH m2);have mz3:=cells_below mz2 bb2 (szH mz2);obtain⟨i0,i1,i2,i3,i4⟩:=five m3;have f2:=cells_frozen m3 2;have f4:=cells_frozen m3 4;obtain⟨ja,jc,rfl⟩:=row_slice hr3))
  all_goals
   go_wp2_with fail
   go_meet
   have hz1:w.heap.size+2≤w1.heap.size:=Nat.le_trans hN1 bb1.size
   have hdz:wc.heap.size=wc.drew.heap.size:=rfl
   have bb12:=Below.on bb1 bb2
   have r1':=row_mono (row_keep hr1 bb2) (B':=w.heap.size+2) (by rw [←hdz];exact hN1)
   have r3':=row_mono hr3 (B':=w.heap.size+2) hz1
   have r0':=row_keep hr0 bb12
   have r2':=row_keep hr2 bb12
   have hset:∀ {B n size:Nat} {e:TypeId} {v:Value} {xs:List Value} {u u':Value},w2.ownsRow B e size v n xs→w.heap.size<B→((w2.setCell ⟨w.heap.size,2,none⟩ u).setCell ⟨w.heap.size,4,none⟩ u').ownsRow B e size v n xs:=fun h hB=>ownsRow_setCell_below (ownsRow_setCell_below h hB _) hB _
   have hbz:Below w.heap.size w ((w2.setCell ⟨w.heap.size,2,none⟩ (.slice pa m.slots.length pc)).setCell ⟨w.heap.size,4,none⟩ (.slice ja m.snaps.length jc)):=((Below.on b1 bb12).setCell (Nat.le_refl _) _).setCell (Nat.le_refl _) _
   have hlt:w.heap.size<w.heap.size+2:=by omega
   have r0a:=row_keep hr0 bb1
   have r2a:=row_keep hr2 bb1
   refine⟨qa,qc,pa,pc,ka,kc,ja,jc,?_,cells_other (cells_other mz3 (by omega) _ _) (by omega) _ _,hbz,HC.start (hset r0' hlt) (hset r1' hlt) (hset r2' hlt) (hset r3' hlt) (row_apart hr0 hr1 (Nat.le_refl _)) ap (row_apart r0a hr3 (Nat.le_refl _)) (row_apart hr2 hr1 (Nat.le_refl _)) (row_apart hr1 hr3 (Nat.le_refl _)) (row_apart r2a hr3 (Nat.le_refl _))⟩
   exact cells_set (cells_set m3 2 _) 4 _
 case rest=>
 obtain⟨qa,qc,pa,pc,ka,kc,ja,jc,m2,mz2,b2,hH⟩:=hcut
 have HS:Hid (CpR w wc m tv qv (.slice qa m.root.length qc) (.slice pa m.slots.length pc) (.slice ka m.refs.length kc) (.slice ja m.snaps.length jc) 0 0):=⟨⟨_,hH,rfl,rfl,rfl,rfl⟩,m2,mz2,b2⟩
 have HT:Hid (∀j,j<m.slots.length→Sl w (tv j) (m.slots.getD j default).2.2):=htv
 have HQ:Hid (∀j,j<m.snaps.length→Sl w (qv j) (m.snaps.getD j default).2.2):=hqv
 have HL:Hid (m.slots.length≤9223372036854775807∧m.snaps.length≤9223372036854775807):=⟨h1.small,h3.small⟩
 obtain⟨e0,e1,e2,e3,e4⟩:=five m2
 clear hH m2 mz2 b2 htv hqv hcs hcn h1 h3 d0 d1 d2 d3 d4 m1 mz1 b1 hr0 hr2 ap hN1
 go_wp2_with fail
 clear e0 e1 e2 e3 e4
 go_loopw [26] (fun i wr=>∃k:Nat,k≤m.slots.length∧i=.int .i64 k∧Hid (CpR w wr m tv qv (.slice qa m.root.length qc) (.slice pa m.slots.length pc) (.slice ka m.refs.length kc) (.slice ja m.snaps.length jc) k 0)) (fun i _=>m.slots.length - (intOf i).toNat)
 case atStart=>exact⟨0,Nat.zero_le _,rfl,HS⟩
 case round=>
  obtain⟨k,hk,rfl,HC⟩:=hrel
  by_cases hlk:k<m.slots.length
  ·obtain⟨g,rfl⟩:∃g,pa=some ⟨g,0,none⟩:=by
    obtain⟨⟨val,hH,_,e1,_⟩,_⟩:=HC.out
    have hr:=hH.row .slots (.inl ⟨by decide,rfl⟩)
    rw [e1] at hr
    rcases row_form hr with ⟨e,hn⟩ | ⟨g,cap,e,_⟩
    ·have hn:m.slots.length=0:=hn
     omega
    ·simp at e;exact⟨g,e.1⟩
   obtain⟨s,hs⟩:∃s,s=m.slots.getD k default:=⟨_,rfl⟩
   obtain⟨kk,dd,tt⟩:=s
   have hSl:=HT.out k hlk
   obtain⟨ta,tc,htv⟩:=hSl.form
   have HSl:Hid (Sl w (.slice ta tt.length tc) tt∧tv k=.slice ta tt.length tc):=by rw [←hs] at hSl htv;exact⟨htv ▸ hSl,htv⟩
   have HK:Hid ((kk,dd,tt)=m.slots.getD k default):=hs
   clear hs hSl htv
   have hki:(k:Int)<(m.slots.length:Int):=by omega
   have hL:=HL.out.1
   have hL1:(k:Int)+1≤9223372036854775807:=by omega
   obtain⟨⟨val,hH,_,e1,_⟩,hbox,hres,hbel⟩:=HC.out
   have hr:=hH.row .slots (.inl ⟨by decide,rfl⟩)
   rw [e1] at hr
   have hr:wr.ownsRow (w.heap.size+2) 61 3 (.slice (some ⟨g,0,none⟩) m.slots.length pc) m.slots.length (flatS m.slots (fun j=>if j<k then val (.tab j) else tv j)):=hr
   have hgl:=hr.lt g rfl
   obtain⟨s0,s1,s2⟩:=flatS_get (L:=m.slots) (tv:=fun j=>if j<k then val (.tab j) else tv j) (j:=k) hlk
   rw [←HK.out] at s0 s1
   rw [if_neg (Nat.lt_irrefl k),HSl.out.2] at s2
   have t0:wr.cell? ⟨g,k*3,none⟩=some (.int .i64 kk):=(hr.cellAt (k*3) (by omega)).trans s0
   have t1:wr.cell? ⟨g,k*3+1,none⟩=some (.string dd):=(hr.cellAt (k*3+1) (by omega)).trans s1
   have t2:wr.cell? ⟨g,k*3+2,none⟩=some (.slice ta tt.length tc):=(hr.cellAt (k*3+2) (by omega)).trans s2
   have hA:=Below.heap_alloc wr (.cells #[.int .i64 kk,.string dd,.slice ta tt.length tc] 61)
   have ba:Below wr.heap.size wr (wr.alloc (.cells #[.int .i64 kk,.string dd,.slice ta tt.length tc] 61)):=(Below.refl _ _).alloc (Nat.le_refl _) _
   have hNr:w.heap.size+2≤wr.heap.size:=(szH hres)
   obtain⟨x0,x1,x2,x3,x4⟩:=five (cells_below hbox ba (by omega))
   have ms:(wr.alloc (.cells #[.int .i64 kk,.string dd,.slice ta tt.length tc] 61)).heap[wr.heap.size]? = some (.cells #[.int .i64 kk,.string dd,.slice ta tt.length tc] 61):=World.alloc_heap_new _ _
   obtain⟨y0,y1,y2⟩:=three ms
   have hcl:=clone_ints (w:=(wr.alloc (.cells #[.int .i64 kk,.string dd,.slice ta tt.length tc] 61)).drew) ((HSl.out.1.below hbel).below (to_drew ba)) (by have:=hF.tab k hlk;rw [←HK.out] at this;exact this)
   clear hA hH e1 hbox hres hbel hr s0 s1 s2
   go_wp2_with fail
   go_region_with (first | (go_at_call 98;refine hcl.mono ?_;rintro e w1 ⟨vt,rfl,hrt,bt⟩;have bt:=below_drew bt;have bw:=Below.on ba bt;have hN:=HC.out.below bw;obtain⟨z0,z1,z2,z3,z4⟩:=five hN.box;have HRT:Hid (w1.ownsRow wr.heap.size 3 1 vt tt.length (ints tt)):=row_mono hrt (by show _≤(wr.alloc _).heap.size;simp);obtain⟨oa,oc,rfl⟩:=row_slice hrt;have q2:=(bw.cell (p:=⟨g,k*3+2,none⟩) hgl.2).trans t2;have qf:w1.frozen? ⟨g,k*3+2,none⟩=false:=by (obtain⟨⟨val,hH,_,e1,_⟩,_⟩:=hN;have hr:=hH.row .slots (.inl ⟨by decide,rfl⟩);rw [e1] at hr;exact hr.frozenAt _)))
   all_goals
    have HN:Hid (CpR w (w1.setCell ⟨g,k*3+2,none⟩ (.slice oa tt.length oc)) m tv qv (.slice qa m.root.length qc) (.slice (some ⟨g,0,none⟩) m.slots.length pc) (.slice ka m.refs.length kc) (.slice ja m.snaps.length jc) (k+1) 0):=HC.out.tab bw (by rw [←HK.out];exact HRT.out)
    go_wp2_with fail
    go_roundw
    case rel=>exact⟨k+1,by omega,by go_num,HN⟩
    case measure=>simp [intOf];omega
  ·have ek:k=m.slots.length:=by omega
   subst ek
   obtain⟨x,hrn⟩:∃X,X=wr:=⟨_,rfl⟩
   subst hrn
   obtain⟨y0,y1,y2,y3,y4⟩:=five HC.out.box
   go_wp2_with fail
   clear y0 y1 y2 y3 y4
   go_loopw [43] (fun i wr=>∃l:Nat,l≤m.snaps.length∧i=.int .i64 l∧Hid (CpR w wr m tv qv (.slice qa m.root.length qc) (.slice pa m.slots.length pc) (.slice ka m.refs.length kc) (.slice ja m.snaps.length jc) m.slots.length l)) (fun i _=>m.snaps.length - (intOf i).toNat)
   case atStart=>exact⟨0,Nat.zero_le _,rfl,HC⟩
   case round=>
    obtain⟨l,hl,rfl,HD⟩:=hrel
    by_cases hll:l<m.snaps.length
    ·obtain⟨g,rfl⟩:∃g,ja=some ⟨g,0,none⟩:=by
      obtain⟨⟨val,hH,_,_,_,e3⟩,_⟩:=HD.out
      have hr:=hH.row .snaps (.inl ⟨by decide,rfl⟩)
      rw [e3] at hr
      rcases row_form hr with ⟨e,hn⟩ | ⟨g,cap,e,_⟩
      ·have hn:m.snaps.length=0:=hn
       omega
      ·simp at e;exact⟨g,e.1⟩
     obtain⟨s,hs⟩:∃s,s=m.snaps.getD l default:=⟨_,rfl⟩
     obtain⟨nm,sg,tt⟩:=s
     have hSl:=HQ.out l hll
     obtain⟨ta,tc,htv⟩:=hSl.form
     have HSl:Hid (Sl w (.slice ta tt.length tc) tt∧qv l=.slice ta tt.length tc):=by rw [←hs] at hSl htv;exact⟨htv ▸ hSl,htv⟩
     have HK:Hid ((nm,sg,tt)=m.snaps.getD l default):=hs
     clear hs hSl htv
     have hki:(l:Int)<(m.snaps.length:Int):=by omega
     have hL:=HL.out.2
     have hL1:(l:Int)+1≤9223372036854775807:=by omega
     obtain⟨⟨val,hH,_,_,_,e3⟩,hbox,hres,hbel⟩:=HD.out
     have hr:=hH.row .snaps (.inl ⟨by decide,rfl⟩)
     rw [e3] at hr
     have hr:wr.ownsRow (w.heap.size+2) 64 3 (.slice (some ⟨g,0,none⟩) m.snaps.length jc) m.snaps.length (flatN m.snaps (fun j=>if j<l then val (.sr j) else qv j)):=hr
     have hgl:=hr.lt g rfl
     obtain⟨s0,s1,s2⟩:=flatN_get (S:=m.snaps) (qv:=fun j=>if j<l then val (.sr j) else qv j) (j:=l) hll
     rw [←HK.out] at s0 s1
     rw [if_neg (Nat.lt_irrefl l),HSl.out.2] at s2
     have t0:wr.cell? ⟨g,l*3,none⟩=some (.string nm):=(hr.cellAt (l*3) (by omega)).trans s0
     have t1:wr.cell? ⟨g,l*3+1,none⟩=some (.int .i64 sg):=(hr.cellAt (l*3+1) (by omega)).trans s1
     have t2:wr.cell? ⟨g,l*3+2,none⟩=some (.slice ta tt.length tc):=(hr.cellAt (l*3+2) (by omega)).trans s2
     have ba:Below wr.heap.size wr (wr.alloc (.cells #[.string nm,.int .i64 sg,.slice ta tt.length tc] 64)):=(Below.refl _ _).alloc (Nat.le_refl _) _
     have hNr:w.heap.size+2≤wr.heap.size:=(szH hres)
     obtain⟨x0,x1,x2,x3,x4⟩:=five (cells_below hbox ba (by omega))
     have ms:(wr.alloc (.cells #[.string nm,.int .i64 sg,.slice ta tt.length tc] 64)).heap[wr.heap.size]? = some (.cells #[.string nm,.int .i64 sg,.slice ta tt.length tc] 64):=World.alloc_heap_new _ _
     obtain⟨y0,y1,y2⟩:=three ms
     have hcl:=clone_ints (w:=(wr.alloc (.cells #[.string nm,.int .i64 sg,.slice ta tt.length tc] 64)).drew) ((HSl.out.1.below hbel).below (to_drew ba)) (by have:=hF.sr l hll;rw [←HK.out] at this;exact this)
     clear hH e3 hbox hres hbel hr s0 s1 s2
     go_wp2_with fail
     go_region_with (first | (go_at_call 98;refine hcl.mono ?_;rintro e w1 ⟨vt,rfl,hrt,bt⟩;have bt:=below_drew bt;have bw:=Below.on ba bt;have hN:=HD.out.below bw;obtain⟨z0,z1,z2,z3,z4⟩:=five hN.box;have HRT:Hid (w1.ownsRow wr.heap.size 3 1 vt tt.length (ints tt)):=row_mono hrt (by show _≤(wr.alloc _).heap.size;simp);obtain⟨oa,oc,rfl⟩:=row_slice hrt;have q2:=(bw.cell (p:=⟨g,l*3+2,none⟩) hgl.2).trans t2;have qf:w1.frozen? ⟨g,l*3+2,none⟩=false:=by (obtain⟨⟨val,hH,_,_,_,e3⟩,_⟩:=hN;have hr:=hH.row .snaps (.inl ⟨by decide,rfl⟩);rw [e3] at hr;exact hr.frozenAt _)))
     all_goals
      have HN:Hid (CpR w (w1.setCell ⟨g,l*3+2,none⟩ (.slice oa tt.length oc)) m tv qv (.slice qa m.root.length qc) (.slice pa m.slots.length pc) (.slice ka m.refs.length kc) (.slice (some ⟨g,0,none⟩) m.snaps.length jc) m.slots.length (l+1)):=HD.out.sr bw (by rw [←HK.out];exact HRT.out)
      go_wp2_with fail
      go_roundw
      case rel=>exact⟨l+1,by omega,by go_num,HN⟩
      case measure=>simp [intOf];omega
    ·have el:l=m.snaps.length:=by omega
     subst el
     obtain⟨⟨val,hH,e0,e1,e2,e3⟩,hbox,hres,hbel⟩:=HD.out
     obtain⟨x0,x1,x2,x3,x4⟩:=five hbox
     obtain⟨z0,z1,z2,z3,z4⟩:=five hres
     have y0:=cells_frozen hres 0
     have y1:=cells_frozen hres 1
     have y2:=cells_frozen hres 2
     have y3:=cells_frozen hres 3
     have y4:=cells_frozen hres 4
     have HF:Hid (OI wr (w.heap.size+2) val m):=hH.done
     clear hH
     go_wp2_with fail
     have hf:∀a,Live m a→(val a).ownBlock≠some (w.heap.size+1):=fun a ha e=>by have:=((HF.out.row a ha).lt _ e).1;omega
     have hB1:w.heap.size≤w.heap.size+1:=Nat.le_succ _
     refine bodyPost_ret (v:=.agg #[.int .i64 m.guest,.slice qa m.root.length qc,.slice pa m.slots.length pc,.slice ka m.refs.length kc,.slice ja m.snaps.length jc]) (by simp [results,Tryz.results72,go_sem,z0,z1,z2,z3,z4]) rfl ⟨val,?_,OI.mono (((((HF.out.far hf).far hf).far hf).far hf).far hf) (by omega),((((hbel.setCell hB1 _).setCell hB1 _).setCell hB1 _).setCell hB1 _).setCell hB1 _⟩
     unfold imgV
     rw [e0,e1,e2,e3]
theorem copied_is {w:World}{v:Value}{m:ImgD}(h:Img w v m)(hF:Fits m) :
  Calls Tryz.prog 72 #[v] w fun r w'=>∃val,r=.returned (imgV m.guest val)∧OI w' w.heap.size val m∧Below w.heap.size w w':=by
 obtain⟨ra,rc,sa,sc,fa,fc,na,nc,rfl,h1,h2,h3,h4⟩:=h.parts
 exact copied_at m ra _ rc sa _ sc fa _ fc na _ nc w h1 h2 h3 h4 hF
theorem catch_idle (p:Addr)(w:World) :
  CallsD Tryz.prog 71 #[.pointer (some p)] .returning w fun e u' w'=>e=.returned (.tuple #[])∧u'=.returning∧w'=w:=by
 refine callsD_of_wpS Tryz.func71 rfl fun c₀ cs hu=>?_
 apply wpS_seq
 apply wpS_region
 simp [wpOpsS,go_sem,recoverD,hu,Tryz.ntmps71,Exit.thenS]
 refine wpS_of_wp ?_
 simp only [Array.replicate_succ,Array.replicate_zero,List.push_toArray,List.append_toArray,List.nil_append,List.cons_append,List.setIfInBounds_toArray,List.set_cons_zero,List.set_cons_succ]
 go_wp2
 cases c₀
 simp_all [bodyPostS,results,Tryz.results71]
set_option maxHeartbeats 1000000 in
theorem catch_full (b:Nat)(x:Int)(older:List PanicEntry)(w:World)(hc:w.cell? ⟨b,0,none⟩=some (.int .i64 x))(hz:w.frozen? ⟨b,0,none⟩=false)(hb:b<w.heap.size) :
  CallsD Tryz.prog 71 #[.pointer (some ⟨b,0,none⟩)] (.panicking ({ v:=.iface 99 (.agg #[]),recovered:=false } :: older)) w fun e u' w'=>
   e=.returned (.tuple #[])∧u'=.panicking ({ v:=.iface 99 (.agg #[]),recovered:=true } :: older)∧w'=(w.setCell ⟨b,0,none⟩ (.int .i64 7)).alloc (.cells #[] 99):=by
 have hta:∀w,(Instr.typeAssert (.iface 99 (.agg #[])) 20 99 true).run Tryz.prog w=.ok (.tuple #[.agg #[],.bool true]) w:=fun w=>by kernel_rfl
 have hcA:(w.alloc (.cells #[] 99)).cell? ⟨b,0,none⟩=some (.int .i64 x):=(World.cell?_alloc_past _ _ _ hb).trans hc
 have hbn:¬b=w.heap.size:=by omega
 refine callsD_of_wpS Tryz.func71 rfl fun c₀ cs hu=>?_
 apply wpS_seq
 apply wpS_region
 simp [wpOpsS,go_sem,recoverD,hu,Tryz.ntmps71,Exit.thenS]
 refine wpS_of_wp ?_
 simp only [Array.replicate_succ,Array.replicate_zero,List.push_toArray,List.append_toArray,List.nil_append,List.cons_append,List.setIfInBounds_toArray,List.set_cons_zero,List.set_cons_succ]
 go_wp2
 cases c₀
 simp_all [bodyPostS,results,Tryz.results71]
abbrev noSlotP:List PanicEntry:=[{ v:=.iface 99 (.agg #[]),recovered:=false }]
def Turns (w:World) (N:Nat) (caps:Array Value) (m:ImgD) (o:Option ImgD):Prop:=
 ∀ (W:World) (D B:Nat) (val:Nm→Value),Below w.heap.size w W→w.heap.size≤B→B≤W.heap.size→DK W B D val m→
  Calls Tryz.prog N (#[.pointer (some ⟨D,0,none⟩)] ++ caps) W fun r W'=>match o with
   | some m'=>∃val',r=.returned (.tuple #[])∧DTo W W' B D m val nilV m' val'
   | none=>r=.panicked noSlotP∧Below B W W'
theorem desk_new {w:World}{B:Nat}{val:Nm→Value}{m:ImgD}(h:OI w B val m)(hB:B≤w.heap.size):DK (w.alloc (.cells #[.int .i64 m.guest,val .root,val .slots,val .refs,val .snaps] 70)) B w.heap.size val m:=
 ⟨h.alloc _,World.alloc_heap_new _ _,hB,h.lt (Nat.le_refl _)⟩
set_option maxHeartbeats 4000000 in
theorem of_full (m:ImgD)(ra:Option Addr)(rn rc:Nat)(sa:Option Addr)(sn sc:Nat)(fa:Option Addr)(fn fc:Nat)(na:Option Addr)(nn nc:Nat)(N:Nat)(caps:Array Value)(w:World)(h:Img w (.agg #[.int .i64 m.guest,.slice ra rn rc,.slice sa sn sc,.slice fa fn fc,.slice na nn nc]) m)(hF:Fits m)(hN:∀ (args:Array Value) (w:World),(callFunc N args).run Tryz.prog w=.ok (.enter N args) w)(ht:Turns w N caps m none) :
  Calls Tryz.prog 39 #[.agg #[.int .i64 m.guest,.slice ra rn rc,.slice sa sn sc,.slice fa fn fc,.slice na nn nc],.func (.func N) #[] caps] w (AnsI w w.heap.size imgZ 7):=by
 have hmf:∀ (fn:Fn) (first cap:Array Value) (w:World),(Instr.makeFunc fn first cap).run Tryz.prog w=.ok (.func fn first cap) w:=fun _ _ _ _=>rfl
 have b0:Below w.heap.size w (((w.alloc (.cells #[.int .i64 m.guest,.slice ra rn rc,.slice sa sn sc,.slice fa fn fc,.slice na nn nc] 27)).alloc (.cells #[.int .i64 0,.slice none 0 0,.slice none 0 0,.slice none 0 0,.slice none 0 0] 27)).alloc (.cells #[.int .i64 0] 30)):=(((Below.refl _ _).alloc (Nat.le_refl _) _).alloc (by simp) _).alloc (by simp <;> omega) _
 have m0:(((w.alloc (.cells #[.int .i64 m.guest,.slice ra rn rc,.slice sa sn sc,.slice fa fn fc,.slice na nn nc] 27)).alloc (.cells #[.int .i64 0,.slice none 0 0,.slice none 0 0,.slice none 0 0,.slice none 0 0] 27)).alloc (.cells #[.int .i64 0] 30)).heap[w.heap.size]? = some (.cells #[.int .i64 m.guest,.slice ra rn rc,.slice sa sn sc,.slice fa fn fc,.slice na nn nc] 27):=cells_alloc (cells_alloc (World.alloc_heap_new _ _) _) _
 have m1:(((w.alloc (.cells #[.int .i64 m.guest,.slice ra rn rc,.slice sa sn sc,.slice fa fn fc,.slice na nn nc] 27)).alloc (.cells #[.int .i64 0,.slice none 0 0,.slice none 0 0,.slice none 0 0,.slice none 0 0] 27)).alloc (.cells #[.int .i64 0] 30)).heap[w.heap.size+1]? = some (.cells #[.int .i64 0,.slice none 0 0,.slice none 0 0,.slice none 0 0,.slice none 0 0] 27):=cells_alloc (by have:=World.alloc_heap_new (w.alloc (.cells #[.int .i64 m.guest,.slice ra rn rc,.slice sa sn sc,.slice fa fn fc,.slice na nn nc] 27)) (.cells #[.int .i64 0,.slice none 0 0,.slice none 0 0,.slice none 0 0,.slice none 0 0] 27);simpa using this) _
 have m2:(((w.alloc (.cells #[.int .i64 m.guest,.slice ra rn rc,.slice sa sn sc,.slice fa fn fc,.slice na nn nc] 27)).alloc (.cells #[.int .i64 0,.slice none 0 0,.slice none 0 0,.slice none 0 0,.slice none 0 0] 27)).alloc (.cells #[.int .i64 0] 30)).heap[w.heap.size+1+1]? = some (.cells #[.int .i64 0] 30):=by have:=World.alloc_heap_new ((w.alloc (.cells #[.int .i64 m.guest,.slice ra rn rc,.slice sa sn sc,.slice fa fn fc,.slice na nn nc] 27)).alloc (.cells #[.int .i64 0,.slice none 0 0,.slice none 0 0,.slice none 0 0,.slice none 0 0] 27)) (.cells #[.int .i64 0] 30);simpa using this
 have hz3:(((w.alloc (.cells #[.int .i64 m.guest,.slice ra rn rc,.slice sa sn sc,.slice fa fn fc,.slice na nn nc] 27)).alloc (.cells #[.int .i64 0,.slice none 0 0,.slice none 0 0,.slice none 0 0,.slice none 0 0] 27)).alloc (.cells #[.int .i64 0] 30)).heap.size=w.heap.size+1+1+1:=by simp
 obtain⟨c0,c1,c2,c3,c4⟩:=five m0
 have hcp:=copied_is (h.below b0) hF
 have HX:Hid (True):=trivial
 clear h
 go_enter_defers Tryz.func39,Tryz.ntmps39
 go_wp2_with (go_at_call 72;refine hcp.mono ?_;rintro e w1 ⟨val,rfl,hO,b1⟩;obtain⟨qa,qc,q0,_⟩:=hO.forms .root (Live.root m);obtain⟨pa,pc,q1,_⟩:=hO.forms .slots (Live.slots m);obtain⟨ka,kc,q2,_⟩:=hO.forms .refs (Live.refs m);obtain⟨ja,jc,q3,_⟩:=hO.forms .snaps (Live.snaps m);unfold imgV;rw [q0,q1,q2,q3])
 have hD:=desk_new hO b1.size
 rw [q0,q1,q2,q3] at hD
 have b1':Below (((w.alloc (.cells #[.int .i64 m.guest,.slice ra rn rc,.slice sa sn sc,.slice fa fn fc,.slice na nn nc] 27)).alloc (.cells #[.int .i64 0,.slice none 0 0,.slice none 0 0,.slice none 0 0,.slice none 0 0] 27)).alloc (.cells #[.int .i64 0] 30)).heap.size (((w.alloc (.cells #[.int .i64 m.guest,.slice ra rn rc,.slice sa sn sc,.slice fa fn fc,.slice na nn nc] 27)).alloc (.cells #[.int .i64 0,.slice none 0 0,.slice none 0 0,.slice none 0 0,.slice none 0 0] 27)).alloc (.cells #[.int .i64 0] 30)) (w1.alloc (.cells #[.int .i64 m.guest,.slice qa (rowN m .root) qc,.slice pa (rowN m .slots) pc,.slice ka (rowN m .refs) kc,.slice ja (rowN m .snaps) jc] 70)):=b1.alloc b1.size _
 have hbw:=Below.on b0 b1'
 refine (ht _ _ _ _ hbw b0.size b1'.size hD).mono ?_
 rintro e w2 ⟨rfl,b2⟩
 dsimp only
 have b3:=b1'.trans b2
 have k1:=cells_below m1 b3 (by rw [hz3];omega)
 have k2:=cells_below m2 b3 (by rw [hz3];omega)
 have b4:Below w.heap.size w w2:=b0.trans (b3.mono (by rw [hz3];omega))
 obtain⟨z0,z1,z2,z3,z4⟩:=five k1
 have ce:w2.cell? ⟨w.heap.size+1+1,0,none⟩=some (.int .i64 0):=by simp [World.cell?,k2]
 have ne:¬w.heap.size+1=w.heap.size+1+1:=by omega
 have hlt:w.heap.size+1+1<w2.heap.size:=(szH k2)
 have hlt1:w.heap.size+1<w2.heap.size:=by omega
 refine leaves_cons (f:=71) (args:=#[.pointer (some ⟨w.heap.size+1+1,0,none⟩)]) (by simp) (by simp [go_sem]) ?_
 refine (catch_full (w.heap.size+1+1) 0 [] w2 ce (cells_frozen k2 0) hlt).mono ?_
 rintro e u' w'' ⟨rfl,rfl,rfl⟩
 have k3:((w2.setCell ⟨w.heap.size+1+1,0,none⟩ (.int .i64 7)).alloc (.cells #[] 99)).heap[w.heap.size+1]? = some (.cells #[.int .i64 0,.slice none 0 0,.slice none 0 0,.slice none 0 0,.slice none 0 0] 27):=cells_alloc (cells_other k1 ne _ _) _
 have k4:((w2.setCell ⟨w.heap.size+1+1,0,none⟩ (.int .i64 7)).alloc (.cells #[] 99)).heap[w.heap.size+1+1]? = some (.cells #[.int .i64 7] 30):=cells_alloc (cells_set k2 0 _) _
 obtain⟨z0,z1,z2,z3,z4⟩:=five k3
 have ce:((w2.setCell ⟨w.heap.size+1+1,0,none⟩ (.int .i64 7)).alloc (.cells #[] 99)).cell? ⟨w.heap.size+1+1,0,none⟩=some (.int .i64 7):=by simp only [World.cell?,k4];rfl
 refine⟨_,?_,AnsI.bad 7 ((b4.setCell (by show _≤w.heap.size+1+1;omega) _).alloc (by simp [World.setCell];have:=b4.size;omega) _)⟩
 clear k3 k4
 generalize (w2.setCell ⟨w.heap.size+1+1,0,none⟩ (.int .i64 7)).alloc (.cells #[] 99)=Wf at z0 z1 z2 z3 z4 ce ⊢
 simp [results,Tryz.results39,go_sem,z0,z1,z2,z3,z4,ce]
set_option maxHeartbeats 4000000 in
theorem of_bad (m M:ImgD)(ra:Option Addr)(rn rc:Nat)(sa:Option Addr)(sn sc:Nat)(fa:Option Addr)(fn fc:Nat)(na:Option Addr)(nn nc:Nat)(N:Nat)(caps:Array Value)(w:World)(h:Img w (.agg #[.int .i64 m.guest,.slice ra rn rc,.slice sa sn sc,.slice fa fn fc,.slice na nn nc]) m)(hF:Fits m)(hN:∀ (args:Array Value) (w:World),(callFunc N args).run Tryz.prog w=.ok (.enter N args) w)(ht:Turns w N caps m (some M))(E:Int)(hE:shapeE M=E)(hne:E≠0) :
  Calls Tryz.prog 39 #[.agg #[.int .i64 m.guest,.slice ra rn rc,.slice sa sn sc,.slice fa fn fc,.slice na nn nc],.func (.func N) #[] caps] w (AnsI w w.heap.size imgZ E):=by
 have hmf:∀ (fn:Fn) (first cap:Array Value) (w:World),(Instr.makeFunc fn first cap).run Tryz.prog w=.ok (.func fn first cap) w:=fun _ _ _ _=>rfl
 have b0:Below w.heap.size w (((w.alloc (.cells #[.int .i64 m.guest,.slice ra rn rc,.slice sa sn sc,.slice fa fn fc,.slice na nn nc] 27)).alloc (.cells #[.int .i64 0,.slice none 0 0,.slice none 0 0,.slice none 0 0,.slice none 0 0] 27)).alloc (.cells #[.int .i64 0] 30)):=(((Below.refl _ _).alloc (Nat.le_refl _) _).alloc (by simp) _).alloc (by simp <;> omega) _
 have m0:(((w.alloc (.cells #[.int .i64 m.guest,.slice ra rn rc,.slice sa sn sc,.slice fa fn fc,.slice na nn nc] 27)).alloc (.cells #[.int .i64 0,.slice none 0 0,.slice none 0 0,.slice none 0 0,.slice none 0 0] 27)).alloc (.cells #[.int .i64 0] 30)).heap[w.heap.size]? = some (.cells #[.int .i64 m.guest,.slice ra rn rc,.slice sa sn sc,.slice fa fn fc,.slice na nn nc] 27):=cells_alloc (cells_alloc (World.alloc_heap_new _ _) _) _
 have m1:(((w.alloc (.cells #[.int .i64 m.guest,.slice ra rn rc,.slice sa sn sc,.slice fa fn fc,.slice na nn nc] 27)).alloc (.cells #[.int .i64 0,.slice none 0 0,.slice none 0 0,.slice none 0 0,.slice none 0 0] 27)).alloc (.cells #[.int .i64 0] 30)).heap[w.heap.size+1]? = some (.cells #[.int .i64 0,.slice none 0 0,.slice none 0 0,.slice none 0 0,.slice none 0 0] 27):=cells_alloc (by have:=World.alloc_heap_new (w.alloc (.cells #[.int .i64 m.guest,.slice ra rn rc,.slice sa sn sc,.slice fa fn fc,.slice na nn nc] 27)) (.cells #[.int .i64 0,.slice none 0 0,.slice none 0 0,.slice none 0 0,.slice none 0 0] 27);simpa using this) _
 have m2:(((w.alloc (.cells #[.int .i64 m.guest,.slice ra rn rc,.slice sa sn sc,.slice fa fn fc,.slice na nn nc] 27)).alloc (.cells #[.int .i64 0,.slice none 0 0,.slice none 0 0,.slice none 0 0,.slice none 0 0] 27)).alloc (.cells #[.int .i64 0] 30)).heap[w.heap.size+1+1]? = some (.cells #[.int .i64 0] 30):=by have:=World.alloc_heap_new ((w.alloc (.cells #[.int .i64 m.guest,.slice ra rn rc,.slice sa sn sc,.slice fa fn fc,.slice na nn nc] 27)).alloc (.cells #[.int .i64 0,.slice none 0 0,.slice none 0 0,.slice none 0 0,.slice none 0 0] 27)) (.cells #[.int .i64 0] 30);simpa using this
 have hz3:(((w.alloc (.cells #[.int .i64 m.guest,.slice ra rn rc,.slice sa sn sc,.slice fa fn fc,.slice na nn nc] 27)).alloc (.cells #[.int .i64 0,.slice none 0 0,.slice none 0 0,.slice none 0 0,.slice none 0 0] 27)).alloc (.cells #[.int .i64 0] 30)).heap.size=w.heap.size+1+1+1:=by simp
 obtain⟨c0,c1,c2,c3,c4⟩:=five m0
 have hcp:=copied_is (h.below b0) hF
 have HX:Hid (shapeE M=E∧E≠0):=⟨hE,hne⟩
 clear h hE hne
 go_enter_defers Tryz.func39,Tryz.ntmps39
 go_wp2_with (go_at_call 72;refine hcp.mono ?_;rintro e w1 ⟨val,rfl,hO,b1⟩;obtain⟨qa,qc,q0,_⟩:=hO.forms .root (Live.root m);obtain⟨pa,pc,q1,_⟩:=hO.forms .slots (Live.slots m);obtain⟨ka,kc,q2,_⟩:=hO.forms .refs (Live.refs m);obtain⟨ja,jc,q3,_⟩:=hO.forms .snaps (Live.snaps m);unfold imgV;rw [q0,q1,q2,q3])
 have hD:=desk_new hO b1.size
 rw [q0,q1,q2,q3] at hD
 have b1':Below (((w.alloc (.cells #[.int .i64 m.guest,.slice ra rn rc,.slice sa sn sc,.slice fa fn fc,.slice na nn nc] 27)).alloc (.cells #[.int .i64 0,.slice none 0 0,.slice none 0 0,.slice none 0 0,.slice none 0 0] 27)).alloc (.cells #[.int .i64 0] 30)).heap.size (((w.alloc (.cells #[.int .i64 m.guest,.slice ra rn rc,.slice sa sn sc,.slice fa fn fc,.slice na nn nc] 27)).alloc (.cells #[.int .i64 0,.slice none 0 0,.slice none 0 0,.slice none 0 0,.slice none 0 0] 27)).alloc (.cells #[.int .i64 0] 30)) (w1.alloc (.cells #[.int .i64 m.guest,.slice qa (rowN m .root) qc,.slice pa (rowN m .slots) pc,.slice ka (rowN m .refs) kc,.slice ja (rowN m .snaps) jc] 70)):=b1.alloc b1.size _
 have hbw:=Below.on b0 b1'
 refine (ht _ _ _ _ hbw b0.size b1'.size hD).mono ?_
 rintro e w2 ⟨val2,rfl,hT⟩
 dsimp only
 have b3:=b1'.trans hT.bel
 have k1:=cells_below m1 b3 (by rw [hz3];omega)
 have k2:=cells_below m2 b3 (by rw [hz3];omega)
 have b4:Below w.heap.size w w2:=b0.trans (b3.mono (by rw [hz3];omega))
 have hcall:=settled_bad hT.dk HX.out.1 HX.out.2
 clear hT hD
 go_wp2_with (go_at_call 73;refine hcall.mono ?_;rintro e w3 ⟨rfl,b5⟩;have r1:=cells_below k1 b5 (szH k1);have r2:=cells_below k2 b5 (szH k2);obtain⟨z0,z1,z2,z3,z4⟩:=five r1;have y0:=cells_frozen r1 0;have y1:=cells_frozen r1 1;have y2:=cells_frozen r1 2;have y3:=cells_frozen r1 3;have y4:=cells_frozen r1 4;have x0:=cells_frozen r2 0;have ce:w3.cell? ⟨w.heap.size+1+1,0,none⟩=some (.int .i64 0):=by simp [World.cell?,r2])
 refine leaves_cons (f:=71) (args:=#[.pointer (some ⟨w.heap.size+1+1,0,none⟩)]) (by simp) (by simp [go_sem]) ?_
 refine (catch_idle ⟨w.heap.size+1+1,0,none⟩ _).mono ?_
 rintro e u' w'' ⟨rfl,rfl,rfl⟩
 have b6:=Below.on b4 b5
 have i1:w.heap.size≤w.heap.size+1:=Nat.le_succ _
 have i2:w.heap.size≤w.heap.size+1+1:=by omega
 refine⟨_,?_,AnsI.bad E ((((((b6.setCell i1 _).setCell i1 _).setCell i1 _).setCell i1 _).setCell i1 _).setCell i2 _)⟩
 simp [results,Tryz.results39,go_sem,z0,z1,z2,z3,z4,ce]
set_option maxHeartbeats 4000000 in
theorem of_ok (m M:ImgD)(ra:Option Addr)(rn rc:Nat)(sa:Option Addr)(sn sc:Nat)(fa:Option Addr)(fn fc:Nat)(na:Option Addr)(nn nc:Nat)(N:Nat)(caps:Array Value)(w:World)(h:Img w (.agg #[.int .i64 m.guest,.slice ra rn rc,.slice sa sn sc,.slice fa fn fc,.slice na nn nc]) m)(hF:Fits m)(hN:∀ (args:Array Value) (w:World),(callFunc N args).run Tryz.prog w=.ok (.enter N args) w)(ht:Turns w N caps m (some M))(hE:shapeE M=0) :
  Calls Tryz.prog 39 #[.agg #[.int .i64 m.guest,.slice ra rn rc,.slice sa sn sc,.slice fa fn fc,.slice na nn nc],.func (.func N) #[] caps] w (AnsI w w.heap.size (countedD M) 0):=by
 have hmf:∀ (fn:Fn) (first cap:Array Value) (w:World),(Instr.makeFunc fn first cap).run Tryz.prog w=.ok (.func fn first cap) w:=fun _ _ _ _=>rfl
 have b0:Below w.heap.size w (((w.alloc (.cells #[.int .i64 m.guest,.slice ra rn rc,.slice sa sn sc,.slice fa fn fc,.slice na nn nc] 27)).alloc (.cells #[.int .i64 0,.slice none 0 0,.slice none 0 0,.slice none 0 0,.slice none 0 0] 27)).alloc (.cells #[.int .i64 0] 30)):=(((Below.refl _ _).alloc (Nat.le_refl _) _).alloc (by simp) _).alloc (by simp <;> omega) _
 have m0:(((w.alloc (.cells #[.int .i64 m.guest,.slice ra rn rc,.slice sa sn sc,.slice fa fn fc,.slice na nn nc] 27)).alloc (.cells #[.int .i64 0,.slice none 0 0,.slice none 0 0,.slice none 0 0,.slice none 0 0] 27)).alloc (.cells #[.int .i64 0] 30)).heap[w.heap.size]? = some (.cells #[.int .i64 m.guest,.slice ra rn rc,.slice sa sn sc,.slice fa fn fc,.slice na nn nc] 27):=cells_alloc (cells_alloc (World.alloc_heap_new _ _) _) _
 have m1:(((w.alloc (.cells #[.int .i64 m.guest,.slice ra rn rc,.slice sa sn sc,.slice fa fn fc,.slice na nn nc] 27)).alloc (.cells #[.int .i64 0,.slice none 0 0,.slice none 0 0,.slice none 0 0,.slice none 0 0] 27)).alloc (.cells #[.int .i64 0] 30)).heap[w.heap.size+1]? = some (.cells #[.int .i64 0,.slice none 0 0,.slice none 0 0,.slice none 0 0,.slice none 0 0] 27):=cells_alloc (by have:=World.alloc_heap_new (w.alloc (.cells #[.int .i64 m.guest,.slice ra rn rc,.slice sa sn sc,.slice fa fn fc,.slice na nn nc] 27)) (.cells #[.int .i64 0,.slice none 0 0,.slice none 0 0,.slice none 0 0,.slice none 0 0] 27);simpa using this) _
 have m2:(((w.alloc (.cells #[.int .i64 m.guest,.slice ra rn rc,.slice sa sn sc,.slice fa fn fc,.slice na nn nc] 27)).alloc (.cells #[.int .i64 0,.slice none 0 0,.slice none 0 0,.slice none 0 0,.slice none 0 0] 27)).alloc (.cells #[.int .i64 0] 30)).heap[w.heap.size+1+1]? = some (.cells #[.int .i64 0] 30):=by have:=World.alloc_heap_new ((w.alloc (.cells #[.int .i64 m.guest,.slice ra rn rc,.slice sa sn sc,.slice fa fn fc,.slice na nn nc] 27)).alloc (.cells #[.int .i64 0,.slice none 0 0,.slice none 0 0,.slice none 0 0,.slice none 0 0] 27)) (.cells #[.int .i64 0] 30);simpa using this
 have hz3:(((w.alloc (.cells #[.int .i64 m.guest,.slice ra rn rc,.slice sa sn sc,.slice fa fn fc,.slice na nn nc] 27)).alloc (.cells #[.int .i64 0,.slice none 0 0,.slice none 0 0,.slice none 0 0,.slice none 0 0] 27)).alloc (.cells #[.int .i64 0] 30)).heap.size=w.heap.size+1+1+1:=by simp
 obtain⟨c0,c1,c2,c3,c4⟩:=five m0
 have hcp:=copied_is (h.below b0) hF
 have HX:Hid (shapeE M=0):=hE
 clear h hE
 go_enter_defers Tryz.func39,Tryz.ntmps39
 go_wp2_with (go_at_call 72;refine hcp.mono ?_;rintro e w1 ⟨val,rfl,hO,b1⟩;obtain⟨qa,qc,q0,_⟩:=hO.forms .root (Live.root m);obtain⟨pa,pc,q1,_⟩:=hO.forms .slots (Live.slots m);obtain⟨ka,kc,q2,_⟩:=hO.forms .refs (Live.refs m);obtain⟨ja,jc,q3,_⟩:=hO.forms .snaps (Live.snaps m);unfold imgV;rw [q0,q1,q2,q3])
 have hD:=desk_new hO b1.size
 rw [q0,q1,q2,q3] at hD
 have b1':Below (((w.alloc (.cells #[.int .i64 m.guest,.slice ra rn rc,.slice sa sn sc,.slice fa fn fc,.slice na nn nc] 27)).alloc (.cells #[.int .i64 0,.slice none 0 0,.slice none 0 0,.slice none 0 0,.slice none 0 0] 27)).alloc (.cells #[.int .i64 0] 30)).heap.size (((w.alloc (.cells #[.int .i64 m.guest,.slice ra rn rc,.slice sa sn sc,.slice fa fn fc,.slice na nn nc] 27)).alloc (.cells #[.int .i64 0,.slice none 0 0,.slice none 0 0,.slice none 0 0,.slice none 0 0] 27)).alloc (.cells #[.int .i64 0] 30)) (w1.alloc (.cells #[.int .i64 m.guest,.slice qa (rowN m .root) qc,.slice pa (rowN m .slots) pc,.slice ka (rowN m .refs) kc,.slice ja (rowN m .snaps) jc] 70)):=b1.alloc b1.size _
 have hbw:=Below.on b0 b1'
 refine (ht _ _ _ _ hbw b0.size b1'.size hD).mono ?_
 rintro e w2 ⟨val2,rfl,hT⟩
 dsimp only
 have b3:=b1'.trans hT.bel
 have k1:=cells_below m1 b3 (by rw [hz3];omega)
 have k2:=cells_below m2 b3 (by rw [hz3];omega)
 have b4:Below w.heap.size w w2:=b0.trans (b3.mono (by rw [hz3];omega))
 have hcall:=settled_ok hT.dk (Nat.le_trans b1'.size hT.bel.size) HX.out
 go_wp2_with fail
 refine hcall.mono ?_
 rintro e w3 ⟨val3,rfl,hT3⟩
 dsimp only
 have hO3:=hT3.dk.own
 have b5:=hT3.bel
 rw [hz3] at b5
 have r1:=cells_below k1 b5 (by omega)
 have r2:=cells_below k2 b5 (by omega)
 obtain⟨z0,z1,z2,z3,z4⟩:=five r1
 have y0:=cells_frozen r1 0
 have y1:=cells_frozen r1 1
 have y2:=cells_frozen r1 2
 have y3:=cells_frozen r1 3
 have y4:=cells_frozen r1 4
 have x0:=cells_frozen r2 0
 have ce:w3.cell? ⟨w.heap.size+1+1,0,none⟩=some (.int .i64 0):=by simp [World.cell?,r2]
 obtain⟨ga,gc,g0,_⟩:=hO3.forms .root (Live.root _)
 obtain⟨la,lc,g1,_⟩:=hO3.forms .slots (Live.slots _)
 obtain⟨oa,oc,g2,_⟩:=hO3.forms .refs (Live.refs _)
 obtain⟨ta,tc,g3,_⟩:=hO3.forms .snaps (Live.snaps _)
 unfold imgV
 rw [g0,g1,g2,g3]
 have HO:Hid (OI w3 (w.heap.size+3) val3 (countedD M)∧val3 .root=_∧val3 .slots=_∧val3 .refs=_∧val3 .snaps=_):=⟨by rw [hz3] at hO3;exact hO3,g0,g1,g2,g3⟩
 have HB:Hid (Below w.heap.size w w3):=b4.trans (b5.mono (by omega))
 clear hO3 hT hT3 hD hcall g0 g1 g2 g3 b5 b4 b3 b1 b1' hbw hO q0 q1 q2 q3
 go_wp2_with fail
 refine leaves_cons (f:=71) (args:=#[.pointer (some ⟨w.heap.size+1+1,0,none⟩)]) (by simp) (by simp [go_sem]) ?_
 refine (catch_idle ⟨w.heap.size+1+1,0,none⟩ _).mono ?_
 rintro e u' w'' ⟨rfl,rfl,rfl⟩
 obtain⟨hO,g0,g1,g2,g3⟩:=HO.out
 have b6:=HB.out
 have i1:w.heap.size≤w.heap.size+1:=Nat.le_succ _
 have i2:w.heap.size≤w.heap.size+1+1:=by omega
 have hf1:∀a,Live (countedD M) a→(val3 a).ownBlock≠some (w.heap.size+1):=fun a ha e=>by have:=((hO.row a ha).lt _ e).1;omega
 have hf2:∀a,Live (countedD M) a→(val3 a).ownBlock≠some (w.heap.size+1+1):=fun a ha e=>by have:=((hO.row a ha).lt _ e).1;omega
 refine⟨.tuple #[.agg #[.int .i64 M.guest,.slice ga (rowN (countedD M) .root) gc,.slice la (rowN (countedD M) .slots) lc,.slice oa (rowN (countedD M) .refs) oc,.slice ta (rowN (countedD M) .snaps) tc],.int .i64 0],?_,val3,?_,OI.mono ((((((hO.far hf1).far hf1).far hf1).far hf1).far hf1).far hf2) (by omega),((((((b6.setCell i1 _).setCell i1 _).setCell i1 _).setCell i1 _).setCell i1 _).setCell i2 _)⟩
 ·simp [results,Tryz.results39,go_sem,z0,z1,z2,z3,z4,ce]
 ·unfold imgV
  rw [g0,g1,g2,g3]
  rfl
def ofM (o:Option ImgD):ImgD:=match o with | none=>imgZ | some M=>if shapeE M=0 then countedD M else imgZ
def ofE (o:Option ImgD):Int:=match o with | none=>7 | some M=>shapeE M
theorem of_is {w:World}{v:Value}{m:ImgD}{o:Option ImgD}{N:Nat}{caps:Array Value}(h:Img w v m)(hF:Fits m)(hN:∀ (args:Array Value) (w:World),(callFunc N args).run Tryz.prog w=.ok (.enter N args) w)(ht:Turns w N caps m o) :
  Calls Tryz.prog 39 #[v,.func (.func N) #[] caps] w (AnsI w w.heap.size (ofM o) (ofE o)):=by
 have h':=h
 obtain⟨ra,rc,sa,sc,fa,fc,na,nc,rfl,_⟩:=h.parts
 cases o with
 | none=>exact of_full m ra _ rc sa _ sc fa _ fc na _ nc N caps w h' hF hN ht
 | some M=>
  unfold ofM ofE
  dsimp only
  by_cases hE:shapeE M=0
  ·rw [if_pos hE,hE]
   exact of_ok m M ra _ rc sa _ sc fa _ fc na _ nc N caps w h' hF hN ht hE
  ·rw [if_neg hE]
   exact of_bad m M ra _ rc sa _ sc fa _ fc na _ nc N caps w h' hF hN ht _ rfl hE
set_option linter.unusedVariables false
set_option linter.unusedSimpArgs false
theorem OI.turn {W W':World}{B:Nat}{val:Nm→Value}{m m':ImgD}(h:OI W B val m){a:Nm}(ha:Live m a)(hrow:W'.ownsRow B (rowT a) (rowS a) (val a) (rowN m' a) (rowV m' val a))(hg:W.grownBy W' (val a).ownBlock)
  (hlive:∀b,Live m' b↔Live m b) (hsame:∀b,Live m b→b≠a→rowN m' b=rowN m b∧rowV m' val b=rowV m val b):OI W' B val m':=by
 refine⟨fun b hb=>?_,fun b c hb hc=>h.apart b c ((hlive b).1 hb) ((hlive c).1 hc)⟩
 have hb:=(hlive b).1 hb
 by_cases e:b=a
 ·subst e;exact hrow
 ·rw [(hsame b hb e).1,(hsame b hb e).2]
  refine (h.row b hb).kept hg ?_
  cases eq:(val b).ownBlock with
  | none=>exact .inl rfl
  | some g=>exact .inr (fun x=>h.apart b a hb ha e g eq x.symm)
theorem DTo.turn {w W W':World}{B D:Nat}{val:Nm→Value}{m0 m m':ImgD}(h:DTo w W B D m0 val nilV m val)(hB:B≤w.heap.size)(hlm:∀b,Live m b↔Live m0 b){a:Nm}(ha:Live m a)(hrow:W'.ownsRow B (rowT a) (rowS a) (val a) (rowN m' a) (rowV m' val a))(hg:W.grownBy W' (val a).ownBlock)
  (hlive:∀b,Live m' b↔Live m b) (hguest:m'.guest=m.guest) (hsame:∀b,Live m b→b≠a→rowN m' b=rowN m b∧rowV m' val b=rowV m val b):DTo w W' B D m0 val nilV m' val:=by
 have hbel:Below B W W':=Below.grown (Below.refl _ _) hg (Nat.le_trans hB h.bel.size) (fun q e=>((h.dk.own.row a ha).lt q e).1)
 refine⟨⟨h.dk.own.turn ha hrow hg hlive hsame,?_,h.dk.ge,fun b hb=>h.dk.far b ((hlive b).1 hb)⟩,h.bel.trans hbel,fun q hq hD hev hm=>?_,fun q hq hev hm b hb=>h.src q hq hev hm b ((hlive b).1 hb)⟩
 ·rw [hguest]
  exact (hg.block D h.dk.lt (fun e=>h.dk.far a ha e.symm)).trans h.dk.box
 ·exact (hg.block q (Nat.lt_of_lt_of_le hq h.bel.size) (fun e=>hm a ((hlm a).1 ha) e.symm)).trans (h.keep q hq hD hev hm)
def rnS (L:List SlotD) (j:Nat) (S:List SnapD):List SnapD:=(S.take j).map (packN L) ++ S.drop j
def rnL (L:List SlotD) (i:Nat) (K:List SlotD):List SlotD:=(K.take i).map (packS L) ++ K.drop i
def rnI (L:List SlotD) (j i:Nat) (g:ImgD):ImgD:={ g with root:=g.root.map (ren L),snaps:=rnS L j g.snaps,slots:=rnL L i g.slots }
theorem rnS_length (L:List SlotD)(j:Nat)(S:List SnapD):(rnS L j S).length=S.length:=by unfold rnS;simp;omega
theorem rnL_length (L:List SlotD)(i:Nat)(K:List SlotD):(rnL L i K).length=K.length:=by unfold rnL;simp;omega
theorem rnS_get {L:List SlotD}{j k:Nat}{S:List SnapD}(hk:k<S.length):(rnS L j S).getD k default=if k<j then packN L (S.getD k default) else S.getD k default:=by
 have ht:((S.take j).map (packN L)).length=min j S.length:=by rw [List.length_map,List.length_take]
 unfold rnS
 rw [List.getD_eq_getElem?_getD,List.getElem?_append,ht]
 by_cases h:k<j
 ·rw [if_pos (by omega),if_pos h,List.getElem?_map,List.getElem?_take,if_pos h,List.getElem?_eq_getElem hk,List.getD_eq_getElem?_getD,List.getElem?_eq_getElem hk];rfl
 ·rw [if_neg (by omega),if_neg h,List.getElem?_drop,List.getD_eq_getElem?_getD];congr 2;omega
theorem rnL_get {L:List SlotD}{i k:Nat}{K:List SlotD}(hk:k<K.length):(rnL L i K).getD k default=if k<i then packS L (K.getD k default) else K.getD k default:=by
 have ht:((K.take i).map (packS L)).length=min i K.length:=by rw [List.length_map,List.length_take]
 unfold rnL
 rw [List.getD_eq_getElem?_getD,List.getElem?_append,ht]
 by_cases h:k<i
 ·rw [if_pos (by omega),if_pos h,List.getElem?_map,List.getElem?_take,if_pos h,List.getElem?_eq_getElem hk,List.getD_eq_getElem?_getD,List.getElem?_eq_getElem hk];rfl
 ·rw [if_neg (by omega),if_neg h,List.getElem?_drop,List.getD_eq_getElem?_getD];congr 2;omega
theorem rnI_live (L:List SlotD)(j i:Nat)(g:ImgD)(b:Nm):Live (rnI L j i g) b↔Live g b:=live_iff (m:=g) (m':=rnI L j i g) (rnL_length _ _ _) (rnS_length _ _ _) b
theorem flatN_rn {L:List SlotD}{j:Nat}{S:List SnapD}{qv:Nat→Value} : flatN (rnS L j S) qv=flatN S qv:=by
 unfold flatN
 rw [rnS_length]
 refine congrArg List.flatten (List.map_congr_left fun k hk=>?_)
 rw [rnS_get (List.mem_range.1 hk)]
 split <;> rfl
theorem flatS_rn {L:List SlotD}{i:Nat}{K:List SlotD}{tv:Nat→Value} : flatS (rnL L i K) tv=flatS K tv:=by
 unfold flatS
 rw [rnL_length]
 refine congrArg List.flatten (List.map_congr_left fun k hk=>?_)
 rw [rnL_get (List.mem_range.1 hk)]
 split <;> rfl
theorem rn_snap {L:List SlotD}{j i:Nat}{g:ImgD}{val:Nm→Value}(b:Nm)(hb:Live g b)(hne:b≠.sr j):rowN (rnI L (j+1) i g) b=rowN (rnI L j i g) b∧rowV (rnI L (j+1) i g) val b=rowV (rnI L j i g) val b:=by
 rcases hb.cases with rfl | rfl | rfl | rfl | ⟨k,rfl,hk⟩ | ⟨k,rfl,hk⟩
 ·exact⟨rfl,rfl⟩
 ·exact⟨rfl,rfl⟩
 ·exact⟨rfl,rfl⟩
 ·refine⟨?_,?_⟩
  ·show (rnS L (j+1) g.snaps).length=(rnS L j g.snaps).length;rw [rnS_length,rnS_length]
  ·show flatN (rnS L (j+1) g.snaps) _=flatN (rnS L j g.snaps) _;rw [flatN_rn,flatN_rn]
 ·exact⟨rfl,rfl⟩
 ·have hkj:k≠j:=fun e=>hne (by rw [e])
  have e:(rnS L (j+1) g.snaps).getD k default=(rnS L j g.snaps).getD k default:=by
   rw [rnS_get hk,rnS_get hk]
   by_cases h:k<j
   ·rw [if_pos (by omega),if_pos h]
   ·rw [if_neg (by omega),if_neg h]
  exact⟨by show ((rnS L (j+1) g.snaps).getD k default).2.2.length=((rnS L j g.snaps).getD k default).2.2.length;rw [e],by show ints ((rnS L (j+1) g.snaps).getD k default).2.2=ints ((rnS L j g.snaps).getD k default).2.2;rw [e]⟩
theorem rn_slot {L:List SlotD}{j i:Nat}{g:ImgD}{val:Nm→Value}(b:Nm)(hb:Live g b)(hne:b≠.tab i):rowN (rnI L j (i+1) g) b=rowN (rnI L j i g) b∧rowV (rnI L j (i+1) g) val b=rowV (rnI L j i g) val b:=by
 rcases hb.cases with rfl | rfl | rfl | rfl | ⟨k,rfl,hk⟩ | ⟨k,rfl,hk⟩
 ·exact⟨rfl,rfl⟩
 ·refine⟨?_,?_⟩
  ·show (rnL L (i+1) g.slots).length=(rnL L i g.slots).length;rw [rnL_length,rnL_length]
  ·show flatS (rnL L (i+1) g.slots) _=flatS (rnL L i g.slots) _;rw [flatS_rn,flatS_rn]
 ·exact⟨rfl,rfl⟩
 ·exact⟨rfl,rfl⟩
 ·have hki:k≠i:=fun e=>hne (by rw [e])
  have e:(rnL L (i+1) g.slots).getD k default=(rnL L i g.slots).getD k default:=by
   rw [rnL_get hk,rnL_get hk]
   by_cases h:k<i
   ·rw [if_pos (by omega),if_pos h]
   ·rw [if_neg (by omega),if_neg h]
  exact⟨by show ((rnL L (i+1) g.slots).getD k default).2.2.length=((rnL L i g.slots).getD k default).2.2.length;rw [e],by show ints ((rnL L (i+1) g.slots).getD k default).2.2=ints ((rnL L i g.slots).getD k default).2.2;rw [e]⟩
 ·exact⟨rfl,rfl⟩
structure RnR (W wr:World) (B D bm r:Nat) (L:List SlotD) (g m:ImgD) (val:Nm→Value):Prop where
 dto:DTo W wr B D g val nilV m val
 num:NumB wr bm r L
theorem NumB.grown {W W':World}{bm r:Nat}{L:List SlotD}{o:Option Nat}(h:NumB W bm r L)(hg:W.grownBy W' o)(h1:o≠some bm)(h2:o≠some r):NumB W' bm r L:=
 ⟨(hg.block bm (Array.getElem?_eq_some_iff.1 h.1).1 (fun e=>h1 e.symm)).trans h.1,(hg.block r (Array.getElem?_eq_some_iff.1 h.2).1 (fun e=>h2 e.symm)).trans h.2⟩
theorem NumB.below {W W':World}{bm r:Nat}{L:List SlotD}(h:NumB W bm r L)(hb:Below W.heap.size W W'):NumB W' bm r L:=
 ⟨(hb.block bm (Array.getElem?_eq_some_iff.1 h.1).1).trans h.1,(hb.block r (Array.getElem?_eq_some_iff.1 h.2).1).trans h.2⟩
theorem RnR.alloc {W wr:World}{B D bm r:Nat}{L:List SlotD}{g m:ImgD}{val:Nm→Value}(h:RnR W wr B D bm r L g m val)(hB:B≤W.heap.size)(o:Obj):RnR W (wr.alloc o) B D bm r L g m val:=
 ⟨h.dto.alloc hB o,h.num.below ((Below.refl _ _).alloc (Nat.le_refl _) o)⟩
theorem kd_head {m:ImgD}(h:shapeE m=0):kd m.slots 0=0:=by
 have hs:=(shapeE_zero h).2.1
 have hp:=slotsE_parts hs
 unfold slotsE at hs
 rw [if_pos hp] at hs
 split at hs
 ·rename_i x
  have:m.slots.headD default=m.slots.getD 0 default:=by cases m.slots <;> rfl
  unfold kd;rw [←this];exact x.2
 ·cases hs
theorem count_map_inj {L:List SlotD}(h1:1≤L.length){P:List Int}(hP:∀e ∈ P,EntP L e){k:Int}(hk:EntP L k):(P.map (ren L)).count (ren L k)=P.count k:=by
 induction P with
 | nil=>rfl
 | cons a P ih=>
  rw [List.map_cons,List.count_cons,List.count_cons,ih (fun e he=>hP e (List.mem_cons_of_mem _ he))]
  congr 1
  by_cases e:a=k
  ·rw [e];simp
  ·have:ren L a≠ren L k:=fun x=>e (ren_inj h1 (hP a List.mem_cons_self) hk x)
   have e1:(ren L a == ren L k)=false:=by simpa using this
   have e2:(a == k)=false:=by simpa using e
   rw [e1,e2]
theorem mem_map_inj {L:List SlotD}(h1:1≤L.length){P:List Int}(hP:∀e ∈ P,EntP L e){k:Int}(hk:EntP L k):ren L k ∈ P.map (ren L)↔k ∈ P:=by
 rw [←List.count_pos_iff,← List.count_pos_iff,count_map_inj h1 hP hk]
theorem sum_filter {p:Nat→Bool}{f:Nat→Nat} : ∀ (l:List Nat),(∀k ∈ l,p k=false→f k=0)→((l.filter p).map f).sum=(l.map f).sum
 | [],_=>rfl
 | a :: l,h=>by
  have ih:=sum_filter (p:=p) (f:=f) l (fun k hk=>h k (List.mem_cons_of_mem _ hk))
  cases e:p a with
  | true=>rw [List.filter_cons,if_pos e,List.map_cons,List.map_cons,List.sum_cons,List.sum_cons,ih]
  | false=>rw [List.filter_cons,if_neg (by rw [e];decide),ih,List.map_cons,List.sum_cons,h a List.mem_cons_self e,Nat.zero_add]
theorem keptI_rnk (L:List SlotD):(keptI L).map (rnk L)=List.range (keptI L).length:=by
 apply List.ext_getElem
 ·simp
 ·intro i h1 h2
  rw [List.getElem_map,List.getElem_range]
  exact (keptI_get (by simpa using h1)).2.2
theorem flatR_pack (m:ImgD):flatR (packD m)=(flatR m).map (ren m.slots):=by
 rw [flatR_app,flatR_app,List.map_append,List.map_flatMap]
 show m.root.map (ren m.slots) ++ (m.snaps.map (packN m.slots)).flatMap (fun s=>s.2.2)=_
 rw [List.flatMap_map]
 rfl
theorem flat_rootE {m:ImgD}(h:shapeE m=0):∀e ∈ flatR m,rootE m.slots e=true:=fun e he=>by
 obtain⟨s,hs,hm⟩:=List.mem_flatMap.1 he
 exact List.all_eq_true.1 (snap_fit h hs).2.2.2 e hm
theorem tabOf_ents {m:ImgD}(h:shapeE m=0)(k:Nat):∀e ∈ tabOf m.slots (k:Int),tabE m.slots e=true:=fun e he=>by
 unfold tabOf at he
 rw [Int.toNat_natCast] at he
 by_cases hk:k<m.slots.length
 ·exact tab_ents h (getD_mem hk) e he
 ·rw [List.getD_eq_getElem?_getD,List.getElem?_eq_none (by omega)] at he
  cases he
theorem pack_cntI {m:ImgD}(h:shapeE m=0){k:Nat}(hk:k<m.slots.length)(hp:kept m.slots k=true):cntI (packL m.slots) (flatR (packD m)) (rnk m.slots k)=cntI m.slots (flatR m) k:=by
 obtain⟨l1,_⟩:=slotsE_parts (shapeE_zero h).2.1
 by_cases k0:k=0
 ·subst k0;rw [rnk_0];rfl
 ·have k1:1≤k:=by omega
  have r1:=rnk_pos (L:=m.slots) k1
  have hP:∀e ∈ flatR m,EntP m.slots e:=fun e he=>rootE_EntP (flat_rootE h e he)
  have hE:EntP m.slots (k:Int):=.inr (.inr ⟨k,rfl,k1,hk,hp⟩)
  have er:=ren_at hk hp
  unfold cntI
  rw [if_neg (by omega),if_neg k0,flatR_pack,← er,count_map_inj l1 hP hE]
  congr 2
  unfold sumT
  rw [packL_length,← keptI_rnk,List.map_map]
  have e1:∀j ∈ keptI m.slots,(toldT (packL m.slots) ((flatR m).map (ren m.slots)) (ren m.slots (k:Int)) ∘ rnk m.slots) j=toldT m.slots (flatR m) (k:Int) j:=fun j hj=>by
   obtain⟨jl,hj⟩:=keptI_mem.1 hj
   show toldT (packL m.slots) ((flatR m).map (ren m.slots)) (ren m.slots (k:Int)) (rnk m.slots j)=_
   unfold toldT
   rw [packL_kd jl hj]
   by_cases hkd:kd m.slots j=2
   ·have j1:1≤j:=by
     rcases Nat.eq_zero_or_pos j with e | e
     ·subst e
      have:=kd_head h
      rw [this] at hkd;cases hkd
     ·exact e
    have hEj:EntP m.slots (j:Int):=.inr (.inr ⟨j,rfl,j1,jl,hj⟩)
    have ej:=ren_at jl hj
    have hiff:((rnk m.slots j:Nat):Int) ∈ (flatR m).map (ren m.slots)↔(j:Int) ∈ flatR m:=by rw [←ej];exact mem_map_inj l1 hP hEj
    by_cases hm:(j:Int) ∈ flatR m
    ·rw [if_pos ⟨hkd,hiff.2 hm⟩,if_pos ⟨hkd,hm⟩,packL_tab jl hj]
     exact count_map_inj l1 (fun e he=>tabE_EntP (tabOf_ents h j e he)) hE
    ·rw [if_neg (fun x=>hm (hiff.1 x.2)),if_neg (fun x=>hm x.2)]
   ·rw [if_neg (fun x=>hkd x.1),if_neg (fun x=>hkd x.1)]
  rw [List.map_congr_left e1]
  unfold keptI
  refine sum_filter _ (fun j hj hf=>?_)
  unfold toldT
  rw [if_neg]
  intro x
  rw [kept_of (by rw [x.1];decide)] at hf
  cases hf
theorem pack_cnt {m:ImgD}(h:shapeE m=0){k:Nat}(hk:k<m.slots.length)(hp:kept m.slots k=true):(cntL (packD m)).getD (rnk m.slots k) 0=(cntL m).getD k 0:=by
 rw [cntL_get (pack_shape h) _ (by show rnk m.slots k<(packL m.slots).length;rw [packL_length];exact rnk_lt hk hp),cntL_get h k hk]
 exact pack_cntI h hk hp
theorem pack_right {m:ImgD}(hC:checkE m=0):checkE (packD m)=0:=by
 obtain⟨h,hr,hf⟩:=checkE_zero hC
 have hs:=pack_shape h
 have hl:(cntL (packD m)).length=(packL m.slots).length:=cntL_length (packD m)
 unfold checkE
 rw [if_neg (by rw [hs];simp),if_neg,if_pos]
 ·rw [List.all_eq_true]
  intro i hi
  have hi:i<(packL m.slots).length:=List.mem_range.1 hi
  rw [packL_length] at hi
  obtain⟨kl,hp,er⟩:=keptI_get hi
  unfold freeAt
  have e1:((packD m).slots.getD i default).1=(m.slots.getD (keptI m.slots)[i] default).1:=by
   have:=packL_kd kl hp
   rw [er] at this;exact this
  have e2:=pack_cnt h kl hp
  rw [er] at e2
  rw [e1,e2]
  exact hf _ kl
 ·intro hne
  apply hne
  apply List.ext_getElem
  ·rw [hl,packL_length];show _=((keptI m.slots).map _).length;rw [List.length_map]
  ·intro i h1 h2
   have hi:i<(keptI m.slots).length:=by rw [hl,packL_length] at h1;exact h1
   obtain⟨kl,hp,er⟩:=keptI_get hi
   have e2:=pack_cnt h kl hp
   rw [er] at e2
   have e3:(cntL (packD m))[i]=(cntL (packD m)).getD i 0:=by simp [List.getD,h1]
   rw [e3,e2,hr]
   exact (List.getElem_map (fun k=>m.refs.getD k 0) (h:=h2)).symm
theorem ext3P {L1 L2:List Value}{n:Nat}(h1:L1.length=n*3)(h2:L2.length=n*3)(h:∀q,q<n→L1[q*3]? = L2[q*3]?∧L1[q*3+1]? = L2[q*3+1]?∧L1[q*3+2]? = L2[q*3+2]?):L1=L2:=by
 apply List.ext_getElem?
 intro p
 by_cases hp:p<n*3
 ·obtain⟨a,b,c⟩:=h (p / 3) (by omega)
  have:p=p / 3*3∨p=p / 3*3+1∨p=p / 3*3+2:=by omega
  rcases this with e | e | e <;> rw [e] <;> assumption
 ·rw [List.getElem?_eq_none (by omega),List.getElem?_eq_none (by omega)]
theorem flatS_congr {K:List SlotD}{tv tv':Nat→Value}(h:∀j,j<K.length→tv j=tv' j):flatS K tv=flatS K tv':=by
 unfold flatS
 refine congrArg List.flatten (List.map_congr_left fun j hj=>?_)
 rw [h j (List.mem_range.1 hj)]
def gS (L:List SlotD) (k:Nat):List SlotD:=((List.range k).filter (kept L)).map (fun j=>L.getD j default) ++ List.replicate ((keptI L).length - rnk L k) slotZ
def gR (L:List SlotD) (R:List Int) (k:Nat):List Int:=((List.range k).filter (kept L)).map (fun j=>R.getD j 0) ++ List.replicate ((keptI L).length - rnk L k) 0
theorem rnk_le {L:List SlotD}{k:Nat}(hk:k≤L.length):rnk L k≤(keptI L).length:=by
 unfold rnk keptI
 obtain⟨d,hd⟩:∃d,L.length=k+d:=⟨L.length - k,by omega⟩
 have:(List.range k).Sublist (List.range L.length):=by
  rw [hd]
  exact List.range_sublist.2 (by omega)
 exact (this.filter _).length_le
theorem rnk_all (L:List SlotD):rnk L L.length=(keptI L).length:=rfl
theorem gR_length {L:List SlotD}{R:List Int}{k:Nat}(hk:k≤L.length):(gR L R k).length=(keptI L).length:=by
 have:=rnk_le hk
 unfold gR;rw [List.length_append,List.length_map,List.length_replicate]
 show rnk L k+_=_;omega
theorem set_next {α:Type}(A:List α)(z x:α)(n:Nat):(A ++ List.replicate (n+1) z).set A.length x=A ++ [x] ++ List.replicate n z:=by
 rw [List.set_append,if_neg (Nat.lt_irrefl _),Nat.sub_self,List.replicate_succ,List.set_cons_zero,List.append_assoc];rfl
theorem gS_succ {L:List SlotD}{k:Nat}(hk:k<L.length)(h:kept L k=true):gS L (k+1)=(gS L k).set (rnk L k) (L.getD k default):=by
 have hlt:=rnk_lt hk h
 have e:(((List.range k).filter (kept L)).map (fun j=>L.getD j default)).length=rnk L k:=by rw [List.length_map];rfl
 unfold gS
 rw [rnk_succ h,show (keptI L).length - rnk L k=((keptI L).length - (rnk L k+1))+1 by omega,← e,set_next,List.range_succ,List.filter_append,List.map_append]
 simp [h]
theorem gR_succ {L:List SlotD}{R:List Int}{k:Nat}(hk:k<L.length)(h:kept L k=true):gR L R (k+1)=(gR L R k).set (rnk L k) (R.getD k 0):=by
 have hlt:=rnk_lt hk h
 have e:(((List.range k).filter (kept L)).map (fun j=>R.getD j 0)).length=rnk L k:=by rw [List.length_map];rfl
 unfold gR
 rw [rnk_succ h,show (keptI L).length - rnk L k=((keptI L).length - (rnk L k+1))+1 by omega,← e,set_next,List.range_succ,List.filter_append,List.map_append]
 simp [h]
theorem gS_same {L:List SlotD}{k:Nat}(h:kept L k=false):gS L (k+1)=gS L k:=by
 unfold gS;rw [rnk_same h,List.range_succ,List.filter_append];simp [h]
theorem gR_same {L:List SlotD}{R:List Int}{k:Nat}(h:kept L k=false):gR L R (k+1)=gR L R k:=by
 unfold gR;rw [rnk_same h,List.range_succ,List.filter_append];simp [h]
theorem gS_end (L:List SlotD):gS L L.length=(keptI L).map (fun j=>L.getD j default):=by
 unfold gS;rw [rnk_all,Nat.sub_self];simp [keptI]
theorem gR_end (L:List SlotD)(R:List Int):gR L R L.length=(keptI L).map (fun j=>R.getD j 0):=by
 unfold gR;rw [rnk_all,Nat.sub_self];simp [keptI]
def gT (L:List SlotD) (val:Nm→Value) (k:Nat):Nat→Value:=fun i=>if i<rnk L k then val (.tab ((keptI L).getD i 0)) else nilV
theorem keptI_getD {L:List SlotD}{k:Nat}(hk:k<L.length)(h:kept L k=true):(keptI L).getD (rnk L k) 0=k:=by
 rw [List.getD_eq_getElem?_getD,keptI_at hk h];rfl
theorem gT_succ {L:List SlotD}{val:Nm→Value}{k:Nat}(hk:k<L.length)(h:kept L k=true):(∀j,j≠rnk L k→gT L val (k+1) j=gT L val k j)∧gT L val (k+1) (rnk L k)=val (.tab k):=by
 unfold gT
 rw [rnk_succ h]
 refine⟨fun j hj=>?_,?_⟩
 ·by_cases e:j<rnk L k
  ·rw [if_pos (by omega),if_pos e]
  ·rw [if_neg (by omega),if_neg e]
 ·rw [if_pos (by omega),keptI_getD hk h]
theorem gT_same {L:List SlotD}{val:Nm→Value}{k:Nat}(h:kept L k=false):gT L val (k+1)=gT L val k:=by unfold gT;rw [rnk_same h]
def gathD (m:ImgD):ImgD:={ m with slots:=(keptI m.slots).map (fun j=>m.slots.getD j default),refs:=(keptI m.slots).map (fun j=>m.refs.getD j 0) }
def gthN (L:List SlotD) (a:Nm):Nm:=if a.kind=4 then .tab ((keptI L).getD a.ix 0) else a
def gthV (L:List SlotD) (val:Nm→Value) (lv rv:Value):Nm→Value:=fun a=>if a.kind=1 then lv else if a.kind=2 then rv else val (gthN L a)
theorem gthN_kind (L:List SlotD)(a:Nm):(gthN L a).kind=a.kind:=by
 unfold gthN
 split
 ·rename_i e;rw [e]
 ·rfl
theorem gthV_eq {L:List SlotD}{val:Nm→Value}{lv rv:Value}{a:Nm}(h1:a.kind≠1)(h2:a.kind≠2):gthV L val lv rv a=val (gthN L a):=by unfold gthV;rw [if_neg h1,if_neg h2]
theorem gath_tab {m:ImgD}{i:Nat}(hi:i<(keptI m.slots).length):(keptI m.slots).getD i 0<m.slots.length∧(gathD m).slots.getD i default=m.slots.getD ((keptI m.slots).getD i 0) default:=by
 have e:(keptI m.slots).getD i 0=(keptI m.slots)[i]:=by simp [List.getD,hi]
 refine⟨by rw [e];exact (keptI_get hi).1,?_⟩
 show ((keptI m.slots).map (fun j=>m.slots.getD j default)).getD i default=_
 rw [List.getD_eq_getElem?_getD,List.getElem?_map,List.getElem?_eq_getElem hi,e];rfl
theorem gath_live {m:ImgD}{a:Nm}(h:Live (gathD m) a):Live m (gthN m.slots a):=by
 rcases h with ⟨h1,h2⟩ | ⟨h1,h2⟩ | ⟨h1,h2⟩
 ·have:a.kind≠4:=by omega
  unfold gthN;rw [if_neg this];exact .inl ⟨h1,h2⟩
 ·unfold gthN;rw [if_pos h1]
  have h2:a.ix<((keptI m.slots).map (fun j=>m.slots.getD j default)).length:=h2
  rw [List.length_map] at h2
  exact Live.tab (gath_tab h2).1
 ·have:a.kind≠4:=by omega
  unfold gthN;rw [if_neg this];exact .inr (.inr ⟨h1,h2⟩)
theorem gath_inj {m:ImgD}{a b:Nm}(ha:Live (gathD m) a)(hb:Live (gathD m) b)(h:a≠b):gthN m.slots a≠gthN m.slots b:=fun e=>by
 have hk:=congrArg Nm.kind e
 rw [gthN_kind,gthN_kind] at hk
 by_cases h4:a.kind=4
 ·unfold gthN at e
  rw [if_pos h4,if_pos (hk ▸ h4)] at e
  have e:=congrArg Nm.ix e
  have e:(keptI m.slots).getD a.ix 0=(keptI m.slots).getD b.ix 0:=e
  have hlen:(gathD m).slots.length=(keptI m.slots).length:=by show ((keptI m.slots).map _).length=_;rw [List.length_map]
  have la:a.ix<(keptI m.slots).length:=by rcases ha with x | x | x;omega;rw [←hlen];exact x.2;omega
  have lb:b.ix<(keptI m.slots).length:=by rcases hb with x | x | x;omega;rw [←hlen];exact x.2;omega
  have e:(keptI m.slots)[a.ix]=(keptI m.slots)[b.ix]:=by simpa [List.getD,la,lb] using e
  have:=nodup_inj (keptI_nodup _) la lb e
  apply h
  obtain⟨ak,ai⟩:=a
  obtain⟨bk,bi⟩:=b
  simp_all
 ·unfold gthN at e
  rw [if_neg h4,if_neg (hk ▸ h4)] at e
  exact h e
theorem live_low {m:ImgD}{a b:Nm}(ha:Live m a)(hb:Live m b)(h:a.kind=b.kind)(h4:a.kind<4):a=b:=by
 obtain⟨ak,ai⟩:=a
 obtain⟨bk,bi⟩:=b
 dsimp only at h h4
 subst h
 have e1:ai=0:=by rcases ha with x | x | x;exact x.2;(have:=x.1;dsimp only at this;omega);(have:=x.1;dsimp only at this;omega)
 have e2:bi=0:=by rcases hb with x | x | x;exact x.2;(have:=x.1;dsimp only at this;omega);(have:=x.1;dsimp only at this;omega)
 rw [e1,e2]
theorem OI.gath {W:World}{B N:Nat}{val:Nm→Value}{m:ImgD}{lv rv:Value}(h:OI W B val m)(hB:B≤N)(hold:∀a,Live m a→∀g,(val a).ownBlock=some g→g<N)
  (hl:W.ownsRow N 61 3 lv (keptI m.slots).length (flatS (gathD m).slots (gT m.slots val m.slots.length))) (hr:W.ownsRow N 3 1 rv (keptI m.slots).length (ints (gathD m).refs)) (hne:∀g,lv.ownBlock=some g→rv.ownBlock≠some g):OI W B (gthV m.slots val lv rv) (gathD m):=by
 have hlen:(gathD m).slots.length=(keptI m.slots).length:=by show ((keptI m.slots).map _).length=_;rw [List.length_map]
 have hlenr:(gathD m).refs.length=(keptI m.slots).length:=by show ((keptI m.slots).map _).length=_;rw [List.length_map]
 have mono:∀ {e:TypeId} {size n:Nat} {v:Value} {xs:List Value},W.ownsRow N e size v n xs→W.ownsRow B e size v n xs:=fun hx=>row_mono hx hB
 have ho:∀a,Live (gathD m) a→a.kind≠1→a.kind≠2→∀g,(gthV m.slots val lv rv a).ownBlock=some g→g<N:=fun a ha h1 h2 g hg=>by rw [gthV_eq h1 h2] at hg;exact hold _ (gath_live ha) g hg
 have hnl:∀g,lv.ownBlock=some g→N≤g:=fun g hg=>(hl.lt g hg).1
 have hnr:∀g,rv.ownBlock=some g→N≤g:=fun g hg=>(hr.lt g hg).1
 refine⟨fun a ha=>?_,fun a b ha hb hab g hga=>?_⟩
 ·rcases ha.cases with rfl | rfl | rfl | rfl | ⟨j,rfl,hj⟩ | ⟨j,rfl,hj⟩
  ·exact h.row .root (Live.root m)
  ·show W.ownsRow B 61 3 lv (gathD m).slots.length (flatS (gathD m).slots (fun j=>gthV m.slots val lv rv (.tab j)))
   rw [hlen]
   rw [flatS_congr (tv':=fun j=>gthV m.slots val lv rv (.tab j)) (fun j hj=>?_)] at hl
   ·exact mono hl
   ·rw [hlen] at hj
    show (if j<rnk m.slots m.slots.length then _ else _)=_
    rw [rnk_all,if_pos hj];rfl
  ·show W.ownsRow B 3 1 rv (gathD m).refs.length (ints (gathD m).refs)
   rw [hlenr];exact mono hr
  ·exact h.row .snaps (Live.snaps m)
  ·have hj':j<(keptI m.slots).length:=by rw [←hlen];exact hj
   obtain⟨t1,t2⟩:=gath_tab (m:=m) hj'
   have:=h.row (.tab ((keptI m.slots).getD j 0)) (Live.tab t1)
   have e1:rowN (gathD m) (.tab j)=rowN m (.tab ((keptI m.slots).getD j 0)):=by
    show ((gathD m).slots.getD j default).2.2.length=_
    rw [t2];rfl
   have e2:rowV (gathD m) (gthV m.slots val lv rv) (.tab j)=rowV m val (.tab ((keptI m.slots).getD j 0)):=by
    show ints ((gathD m).slots.getD j default).2.2=_
    rw [t2];rfl
   rw [e1,e2]
   exact this
  ·exact h.row (.sr j) (Live.sr hj)
 ·by_cases a1:a.kind=1
  ·have hga:lv.ownBlock=some g:=by unfold gthV at hga;rw [if_pos a1] at hga;exact hga
   by_cases b1:b.kind=1
   ·exact absurd (live_low ha hb (by rw [a1,b1]) (by omega)) hab
   ·by_cases b2:b.kind=2
    ·unfold gthV;rw [if_neg b1,if_pos b2];exact hne g hga
    ·intro x;have:=ho b hb b1 b2 g x;have:=hnl g hga;omega
  ·by_cases a2:a.kind=2
   ·have hga:rv.ownBlock=some g:=by unfold gthV at hga;rw [if_neg a1,if_pos a2] at hga;exact hga
    by_cases b1:b.kind=1
    ·unfold gthV;rw [if_pos b1];exact fun x=>hne g x hga
    ·by_cases b2:b.kind=2
     ·exact absurd (live_low ha hb (by rw [a2,b2]) (by omega)) hab
     ·intro x;have:=ho b hb b1 b2 g x;have:=hnr g hga;omega
   ·have hgN:=ho a ha a1 a2 g hga
    by_cases b1:b.kind=1
    ·unfold gthV;rw [if_pos b1];intro x;have:=hnl g x;omega
    ·by_cases b2:b.kind=2
     ·unfold gthV;rw [if_neg b1,if_pos b2];intro x;have:=hnr g x;omega
     ·rw [gthV_eq a1 a2] at hga
      rw [gthV_eq b1 b2]
      exact h.apart _ _ (gath_live ha) (gath_live hb) (gath_inj ha hb hab) g hga
theorem DTo.gath {W wr:World}{B D:Nat}{val:Nm→Value}{m:ImgD}{lv rv:Value}(h:DK W B D val m)(hB:B≤W.heap.size)(hb:Below W.heap.size W wr)
  (hl:wr.ownsRow W.heap.size 61 3 lv (keptI m.slots).length (flatS (gathD m).slots (gT m.slots val m.slots.length))) (hr:wr.ownsRow W.heap.size 3 1 rv (keptI m.slots).length (ints (gathD m).refs)) (hne:∀g,lv.ownBlock=some g→rv.ownBlock≠some g) :
  DTo W ((wr.setCell ⟨D,2,none⟩ lv).setCell ⟨D,3,none⟩ rv) B D m val nilV (gathD m) (gthV m.slots val lv rv):=by
 have hO:=(h.own.below hb).gath hB (fun a ha g hg=>((h.own.row a ha).lt g hg).2) hl hr hne
 have hnl:∀g,lv.ownBlock=some g→W.heap.size≤g:=fun g hg=>(hl.lt g hg).1
 have hnr:∀g,rv.ownBlock=some g→W.heap.size≤g:=fun g hg=>(hr.lt g hg).1
 have hsrc:∀q,q<W.heap.size→(∀b,Live m b→(val b).ownBlock≠some q)→∀a,Live (gathD m) a→(gthV m.slots val lv rv a).ownBlock≠some q:=fun q hq hm a ha=>by
  by_cases a1:a.kind=1
  ·unfold gthV;rw [if_pos a1];intro x;have:=hnl q x;omega
  ·by_cases a2:a.kind=2
   ·unfold gthV;rw [if_neg a1,if_pos a2];intro x;have:=hnr q x;omega
   ·rw [gthV_eq a1 a2];exact hm _ (gath_live ha)
 have hf:=hsrc D h.lt h.far
 have hbx:=(hb.block D h.lt).trans h.box
 have hx2:=cells_set hbx 2 lv
 have hx3:=cells_set hx2 3 rv
 refine⟨⟨(hO.far hf).far hf,hx3,h.ge,hf⟩,((hb.mono hB).setCell h.ge _).setCell h.ge _,fun q hq hD _ hm=>?_,fun q hq _ hm=>hsrc q hq hm⟩
 exact (Below.heap_setCell _ ⟨D,3,none⟩ rv q hD).trans ((Below.heap_setCell _ ⟨D,2,none⟩ lv q hD).trans (hb.block q hq))
end Go.Proofs.YtehleeibgkpjmafGreat
